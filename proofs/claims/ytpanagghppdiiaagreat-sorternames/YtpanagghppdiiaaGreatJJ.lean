/- Joined by program: what the theorem reaches. -/
import Derived.Test.YtpanagghppdiiaaGreatJA
import Derived.Test.YtpanagghppdiiaaGreatJI
namespace Go.Proofs.YtpanagghppdiiaaGreat
open Go.RowKit
set_option linter.unusedVariables false
set_option linter.unusedSimpArgs false
set_option maxRecDepth 20000
set_option maxHeartbeats 4000000
theorem room_grow (cf : Cf) (n : Nm) : (n.room cf).log.length ≤ n.log.length + 1 ∧ (n.room cf).writes ≤ n.writes + 1 := by
 unfold Nm.room
 split
 ·omega
 ·split
  ·omega
  ·split <;> simp
theorem use_len (n : Nm) (q : Nat) : (n.use q).ord.length ≤ n.ord.length + 1 ∧ (q ∈ n.ord → (n.use q).ord.length = n.ord.length) := by
 constructor
 ·have := List.length_erase_le (a := q) (l := n.ord)
  simp [Nm.use]; omega
 ·intro h
  have h1 := List.length_erase_of_mem h
  have h2 := List.length_pos_of_mem h
  simp [Nm.use]; omega
theorem load_len (cf : Cf) (n : Nm) (q : Nat) (h : n.ord.length ≤ cf.win) (hw : 2 ≤ cf.win) : (n.load cf q).ord.length ≤ cf.win ∧ (n.load cf q).log.length ≤ n.log.length + 2 ∧ (n.load cf q).writes ≤ n.writes + 1 := by
 unfold Nm.load
 split
 ·rename_i hm
  rw [(use_len n q).2 hm]
  exact ⟨h, by show n.log.length ≤ _; omega, by show n.writes ≤ _; omega⟩
 ·have h1 := room_len cf n h hw
  have h2 := room_grow cf n
  have h3 := (use_len (n.fetch cf q) q).1
  rw [fetch_ord] at h3
  refine ⟨by omega, ?_, ?_⟩
  ·show (n.fetch cf q).log.length ≤ _
   unfold Nm.fetch
   split
   ·show ((n.room cf).log ++ [_]).length ≤ _; simp; omega
   ·show (n.room cf).log.length ≤ _; omega
  ·show (n.fetch cf q).writes ≤ _
   unfold Nm.fetch
   split
   ·show (n.room cf).writes ≤ _; omega
   ·show (n.room cf).writes ≤ _; omega
theorem enter_chg1 : ∀ args w, (callFunc 87 args).run Tryz.prog w = .ok (.enter 87 args) w := fun args w => by kernel_rfl
theorem change_one (g : Nat) (v : SlV) (h : Nat) (cf : Cf) (n : Nm) (txt : Nat → List Int) (F : Nat → Prop) (q bp cp W : Nat) (caps : Array Value) (zs : List Int) (w : World) (x : PagS w v.p h cf n.ord n txt F) (hs : SlAt w g v) (hg : ¬ F g) (hbp : w.cell? ⟨bp, 0, none⟩ = some (.int .i64 (q : Int))) (hbl : bp < w.heap.size ∧ ¬ F bp)
  (hq : q < cf.pages) (hol : n.ord.length ≤ cf.win) (hlog : n.log.length < 900000000) (hwr : n.writes < 900000000) (hent : ∀ args W', (callFunc W args).run Tryz.prog W' = .ok (.enter W args) W') (hz : zs.length = cf.text) (hzb : Bytes zs)
  (HW : ∀ w1 F1 ub uc T tc rest, Ev F F1 w w1 → ¬ F1 ub → Blk w1 ub 5 (u8s (txt q) ++ rest) → w1.cell? ⟨T, 0, none⟩ = some (.slice (some ⟨ub, 0, none⟩) cf.text uc) → cf.text ≤ uc → w.heap.size ≤ ub → T < w1.heap.size → T ≠ ub → Calls Tryz.prog W (#[.slice (some ⟨T, 0, none⟩) 1 tc] ++ caps) w1 fun e w' => e = .returned (.tuple #[]) ∧ Blk w' ub 5 (u8s zs ++ rest) ∧ Kept (fun b => b = ub) w1 w') :
  Calls Tryz.prog 64 #[.pointer (some ⟨g, 0, none⟩), .func (.func W) #[] caps, .slice (some ⟨bp, 0, none⟩) 1 cp] w fun e w' => e = .returned (.int .i64 0) ∧ ∃ F', PagS w' v.p h cf ((n.load cf q).save cf q).ord ((n.load cf q).save cf q) (upn txt q zs) F' ∧ Ev F F' w w' := by
 have hll := load_len cf n q hol x.good.win.1
 have X0 : Hid (PagS w v.p h cf n.ord n txt F ∧ SlAt w g v ∧ ¬ F g ∧ w.cell? ⟨bp, 0, none⟩ = some (.int .i64 (q : Int)) ∧ bp < w.heap.size ∧ ¬ F bp) := ⟨x, hs, hg, hbp, hbl⟩
 have HB : Hid (q < cf.pages ∧ n.ord.length ≤ cf.win ∧ n.log.length < 900000000 ∧ n.writes < 900000000 ∧ zs.length = cf.text ∧ Bytes zs ∧ ((n.load cf q).ord.length ≤ cf.win ∧ (n.load cf q).log.length ≤ n.log.length + 2 ∧ (n.load cf q).writes ≤ n.writes + 1)) := ⟨hq, hol, hlog, hwr, hz, hzb, hll⟩
 have HE : Hid (∀ args W', (callFunc W args).run Tryz.prog W' = .ok (.enter W args) W') := hent
 have HH : Hid (∀ w1 F1 ub uc T tc rest, Ev F F1 w w1 → ¬ F1 ub → Blk w1 ub 5 (u8s (txt q) ++ rest) → w1.cell? ⟨T, 0, none⟩ = some (.slice (some ⟨ub, 0, none⟩) cf.text uc) → cf.text ≤ uc → w.heap.size ≤ ub → T < w1.heap.size → T ≠ ub → Calls Tryz.prog W (#[.slice (some ⟨T, 0, none⟩) 1 tc] ++ caps) w1 fun e w' => e = .returned (.tuple #[]) ∧ Blk w' ub 5 (u8s zs ++ rest) ∧ Kept (fun b => b = ub) w1 w') := HW
 clear x hs hg hbp hbl hq hol hlog hwr hent hz hzb HW hll
 go_enter Tryz.func64, Tryz.ntmps64
 go_wp2_with (first | (refine wpList_boxV rfl 43 _ rfl (.pointer (some ⟨g, 0, none⟩)) rfl rfl ?_; intro w1 b1 s1 l1; have S1 : Hid (w1.heap.size = w.heap.size + 1) := s1; clear s1) | (refine wpList_boxV rfl 122 _ rfl (.func (.func W) #[] caps) rfl rfl ?_; intro w2 b2 s2 l2; have S2 : Hid (w2.heap.size = w1.heap.size + 1) := s2; clear s2) | (refine wpList_boxV rfl 133 _ rfl (.slice (some ⟨bp, 0, none⟩) 1 cp) rfl rfl ?_; intro w3 b3 s3 l3; have S3 : Hid (w3.heap.size = w2.heap.size + 1) := s3; clear s3; have c1 : w3.cell? ⟨w.heap.size, 0, none⟩ = some (.pointer (some ⟨g, 0, none⟩)) := blk_c0 ((b1.later l2 b1.lt).later l3 (by have := S1.out; have := S2.out; omega)); have c2 : w3.cell? ⟨w1.heap.size, 0, none⟩ = some (.func (.func W) #[] caps) := blk_c0 (b2.later l3 (by have := S2.out; omega)); have c3 : w3.cell? ⟨w2.heap.size, 0, none⟩ = some (.slice (some ⟨bp, 0, none⟩) 1 cp) := blk_c0 b3))
 have hs1 := S1.out
 have hs2 := S2.out
 have hs3 := S3.out
 have L3 : Below w.heap.size w w3 := below_chain (below_chain l1 l2 (by omega)) l3 (by omega)
 have CO := open_one g v h cf n txt F q bp cp 87 #[.pointer (some ⟨w1.heap.size, 0, none⟩), .pointer (some ⟨w2.heap.size, 0, none⟩), .pointer (some ⟨w.heap.size, 0, none⟩)] (fun er w' => er = 0 ∧ ∃ F', PagS w' v.p h cf ((n.load cf q).save cf q).ord ((n.load cf q).save cf q) (upn txt q zs) F' ∧ Ev F F' w w') w3 (X0.out.1.later L3) (X0.out.2.1.later L3 X0.out.2.1.lt) X0.out.2.2.1 ((L3.cell (p := ⟨bp, 0, none⟩) X0.out.2.2.2.2.1).trans X0.out.2.2.2.1) HB.out.1 HB.out.2.1 (by have := HB.out.2.2.1; omega) (by have := HB.out.2.2.2.1; omega) enter_chg1 (fun w4 F4 uo uc T tc ev x4 t4 => by
  obtain ⟨B, ou, hB, hFB⟩ := t4.own
  have htl : (txt q).length = cf.text ∧ Bytes (txt q) ∧ 1 ≤ cf.text ∧ cf.text ≤ 4096 := by
   obtain ⟨gh, gp, v', fh, fp, szp, Mh, s, Mt, y, hf, ha⟩ := x4
   exact ⟨(y.tl q).1, (y.tl q).2, y.good.text⟩
  obtain ⟨ub, cap, e1, hrow, hubB⟩ := own_row htl.1 (by omega) ou
  obtain ⟨uo', uc', e2, su, huc, -⟩ := own_sliceP ou htl.1 htl.2.1 htl.2.2.2
  cases e1
  cases e2
  obtain ⟨rest, hrow⟩ := hrow
  have hF0 := X0.out.1.all
  have nF : ∀ b, w.heap.size ≤ b → ¬ F b := fun b hb hF => by have := hF0 b hF; omega
  have hub4 : ¬ F4 ub := fun hF => by have := hFB ub hF; omega
  have hTu : T ≠ ub := fun e => t4.ne ub 0 rfl e.symm
  have hev : Ev F F4 w w4 := (Ev.below L3).trans ev
  have hbp := X0.out.2.2.2.2.1
  have hgl := X0.out.2.1.lt
  show Calls Tryz.prog 87 #[.slice (some ⟨T, 0, none⟩) 1 tc, .pointer (some ⟨w1.heap.size, 0, none⟩), .pointer (some ⟨w2.heap.size, 0, none⟩), .pointer (some ⟨w.heap.size, 0, none⟩)] w4 _
  have hr : Blk w4 ub 5 (u8s (txt q) ++ rest) := by have := hrow; unfold Blk; rw [this]; simp [u8s]
  refine (chg1_any g v h cf (n.load cf q) txt F4 q w1.heap.size w2.heap.size w.heap.size bp cp W caps ub T tc uc zs rest w4 x4 ((X0.out.2.1.later L3 X0.out.2.1.lt).kept ev.kept X0.out.2.2.1) (kept_cell ev.kept _ _ (by omega) (nF _ (by omega)) c2) (kept_cell ev.kept _ _ (by omega) (nF _ (by omega)) c3) (kept_cell ev.kept _ _ (by omega) (nF _ (by omega)) c1) (kept_cell ev.kept _ _ (by omega) X0.out.2.2.2.2.2 ((L3.cell (p := ⟨bp, 0, none⟩) X0.out.2.2.2.2.1).trans X0.out.2.2.2.1)) t4.cell ⟨by have := ev.kept.size; omega, by have := ev.kept.size; omega, by have := ev.kept.size; omega, t4.lt⟩ ⟨by omega, by omega, by omega, hTu, by omega⟩ hub4 HB.out.2.2.2.2.1 HB.out.2.2.2.2.2.1 HE.out (HH.out w4 F4 ub uc T tc rest hev hub4 hr t4.cell huc (by omega) t4.lt hTu) HB.out.1 HB.out.2.2.2.2.2.2.1 (by have := HB.out; omega) (by have := HB.out; omega)).mono ?_
  rintro e w5 ⟨rfl, F5, x5, k5, n5⟩
  refine ⟨0, rfl, rfl, F5, x5, ⟨⟨k5.os.trans hev.kept.os, k5.tape.trans hev.kept.tape, k5.output.trans hev.kept.output, Nat.le_trans hev.kept.size k5.size, fun b hb hn => ?_⟩, fun b hb => ?_⟩⟩
  ·rw [k5.block b (Nat.lt_of_lt_of_le hb hev.kept.size) (fun e => by
    rcases e with e | e
    ·exact (hev.new b e).elim hn (fun e => by omega)
    ·omega), hev.kept.block b hb hn]
  ·rcases n5 b hb with e | e
   ·exact hev.new b e
   ·exact .inr (Nat.le_trans hev.kept.size e))
 have HCO : Hid (Calls Tryz.prog 51 #[.pointer (some ⟨g, 0, none⟩), .func (.func 87) #[] #[.pointer (some ⟨w1.heap.size, 0, none⟩), .pointer (some ⟨w2.heap.size, 0, none⟩), .pointer (some ⟨w.heap.size, 0, none⟩)], .slice (some ⟨bp, 0, none⟩) 1 cp] w3 fun e w' => ∃ er, e = .returned (.int .i64 er) ∧ er = 0 ∧ ∃ F', PagS w' v.p h cf ((n.load cf q).save cf q).ord ((n.load cf q).save cf q) (upn txt q zs) F' ∧ Ev F F' w w') := CO
 clear CO hs1 hs2 hs3 L3 c1 c2 c3 b1 b2 b3 l1 l2 l3
 go_at_call 51
 refine HCO.out.mono ?_
 first | rintro e w8 er rfl rfl F8 x8 e8 | rintro e w8 ⟨_, rfl, rfl, F8, x8, e8⟩
 have V8 : Hid (PagS w8 v.p h cf ((n.load cf q).save cf q).ord ((n.load cf q).save cf q) (upn txt q zs) F8 ∧ Ev F F8 w w8) := ⟨x8, e8⟩
 clear x8 e8
 go_wp2
 go_ret
 exact ⟨rfl, F8, V8.out⟩
def New1 (w0 w : World) (cf : Cf) (zs : List Int) (F : Nat → Prop) (uo : Option Addr) (uc : Nat) : Prop := ∃ B, isO B cf.text zs (.slice uo cf.text uc) w ∧ w0.heap.size ≤ B ∧ ∀ b o, uo = some ⟨b, o, none⟩ → B ≤ b ∧ b < w.heap.size ∧ ¬ F b
theorem New1.goes {w0 w w' : World} {cf : Cf} {zs : List Int} {F F' : Nat → Prop} {uo : Option Addr} {uc : Nat} (x : New1 w0 w cf zs F uo uc) (e : Ev F F' w w') : New1 w0 w' cf zs F' uo uc := by
 obtain ⟨B, h1, h2, h3⟩ := x
 refine ⟨B, own_keptP h1 e.kept (fun b hb hF => ?_), h2, fun b o hb => ⟨(h3 b o hb).1, Nat.lt_of_lt_of_le (h3 b o hb).2.1 e.kept.size, fun hF => (e.new b hF).elim (h3 b o hb).2.2 (fun e => by have := (h3 b o hb).2.1; omega)⟩⟩
 cases uo with
 | none => cases hb
 | some ad =>
  rcases h1.2 with ⟨h, _⟩ | ⟨g, cap, cur, h, hg, hh, _⟩
  ·cases h
  ·cases h
   simp [Value.ownBlock] at hb
   subst hb
   exact (h3 g 0 rfl).2.2 hF
theorem New1.off {S : Nat → Prop} {w0 w w' : World} {cf : Cf} {zs : List Int} {F : Nat → Prop} {uo : Option Addr} {uc : Nat} (x : New1 w0 w cf zs F uo uc) (k : Kept S w w') (hS : ∀ b o, uo = some ⟨b, o, none⟩ → ¬ S b) : New1 w0 w' cf zs F uo uc := by
 obtain ⟨B, h1, h2, h3⟩ := x
 refine ⟨B, own_keptP h1 k (fun b hb hs => ?_), h2, fun b o hb => ⟨(h3 b o hb).1, Nat.lt_of_lt_of_le (h3 b o hb).2.1 k.size, (h3 b o hb).2.2⟩⟩
 rcases h1.2 with ⟨h, _⟩ | ⟨g, cap, cur, h, hg, hh, _⟩
 ·rw [h] at hb; cases hb
 ·cases h
  simp [Value.ownBlock] at hb
  subst hb
  exact hS g 0 rfl hs
structure Tx2 (w0 w : World) (F : Nat → Prop) (T : Nat) (us : List Value) : Prop where
 own : ∃ tc, w.ownsRow w0.heap.size 37 1 (.slice (some ⟨T, 0, none⟩) us.length tc) us.length us
 nF : ¬ F T
 lt : T < w.heap.size
theorem ne_type {w : World} {B B' n n' : Nat} {p T : Nat} {o : Nat} {c tc : Nat} {xs ys : List Value} (h1 : w.ownsRow B 5 1 (.slice (some ⟨p, o, none⟩) n c) n xs) (h2 : w.ownsRow B' 37 1 (.slice (some ⟨T, 0, none⟩) n' tc) n' ys) : p ≠ T := by
 rcases h1.2 with ⟨h, _⟩ | ⟨g, cap, cur, h, hg, hh, _⟩
 ·cases h
 ·rcases h2.2 with ⟨h', _⟩ | ⟨g', cap', cur', h', hg', hh', _⟩
  ·cases h'
  ·cases h
   cases h'
   intro e
   subst e
   rw [hh] at hh'
   simp at hh'
theorem own_ltT {w : World} {B n : Nat} {T tc : Nat} {ys : List Value} (h : w.ownsRow B 37 1 (.slice (some ⟨T, 0, none⟩) n tc) n ys) : T < w.heap.size := by
 rcases h.2 with ⟨h, _⟩ | ⟨g, cap, cur, h, hg, hh, _⟩
 ·cases h
 ·cases h; exact lt_of_block hh
theorem own_geT {w : World} {B n : Nat} {T tc : Nat} {ys : List Value} (h : w.ownsRow B 37 1 (.slice (some ⟨T, 0, none⟩) n tc) n ys) : B ≤ T := by
 rcases h.2 with ⟨h, _⟩ | ⟨g, cap, cur, h, hg, hh, _⟩
 ·cases h
 ·cases h; exact hg
theorem one_newB (w : World) (x : Value) : ∀ j u, [x][j]? = some u → (w.alloc (.cells #[x] 37)).cell? ((⟨w.heap.size, 0, none⟩ : Addr).add j) = some u := one_newI w x 37
theorem open_two (g : Nat) (v : SlV) (h : Nat) (cf : Cf) (n : Nm) (txt : Nat → List Int) (F : Nat → Prop) (a b bp cp W : Nat) (caps : Array Value) (R : Int → World → Prop) (w : World) (x : PagS w v.p h cf n.ord n txt F) (hs : SlAt w g v) (hg : ¬ F g) (hp : w.cell? ⟨bp, 0, none⟩ = some (.int .i64 (a : Int))) (hp2 : w.cell? ⟨bp, 1, none⟩ = some (.int .i64 (b : Int))) (hbl : bp < w.heap.size ∧ ¬ F bp)
  (ha : a < cf.pages) (hb : b < cf.pages) (hol : n.ord.length ≤ cf.win) (hlog : n.log.length < 900000000) (hwr : n.writes < 900000000) (hent : ∀ args W', (callFunc W args).run Tryz.prog W' = .ok (.enter W args) W')
  (HW : ∀ w1 F1 ua ca ub cb T tc, Ev F F1 w w1 → PagS w1 v.p h cf ((n.load cf a).load cf b).ord ((n.load cf a).load cf b) txt F1 → New1 w w1 cf (txt a) F1 ua ca → New1 w w1 cf (txt b) F1 ub cb → (∀ p o p' o', ua = some ⟨p, o, none⟩ → ub = some ⟨p', o', none⟩ → p ≠ p') → Tx2 w w1 F1 T [.slice ua cf.text ca, .slice ub cf.text cb] → Calls Tryz.prog W (#[.slice (some ⟨T, 0, none⟩) 2 tc] ++ caps) w1 fun e w' => ∃ er, e = .returned (.int .i64 er) ∧ R er w') :
  Calls Tryz.prog 51 #[.pointer (some ⟨g, 0, none⟩), .func (.func W) #[] caps, .slice (some ⟨bp, 0, none⟩) 2 cp] w fun e w' => ∃ er, e = .returned (.int .i64 er) ∧ R er w' := by
 obtain ⟨i0, hi, hz0, hz1, hz2⟩ := info_parts info_rowB
 have hll := load_len cf n a hol x.good.win.1
 have HTL : Hid (∀ q, (txt q).length = cf.text ∧ Bytes (txt q) ∧ cf.text ≤ 4096) := by
  obtain ⟨gh, gp, v', fh, fp, szp, Mh, s, Mt, y, hf, ha⟩ := x
  exact fun q => ⟨(y.tl q).1, (y.tl q).2, y.good.text.2⟩
 have CL : Hid (Calls Tryz.prog 77 #[.pointer (some ⟨v.p, 0, none⟩), .int .i64 (a : Int)] w fun e w' => ∃ u F' B, e = .returned (.tuple #[u, .int .i64 0]) ∧ PagS w' v.p h cf (n.load cf a).ord (n.load cf a) txt F' ∧ Ev F F' w w' ∧ isO B cf.text (txt a) u w' ∧ w.heap.size ≤ B ∧ ∀ b, F' b → b < B) := load_S v.p h cf n txt F a w x ha hol (by omega) (by omega)
 have CM : Hid (∀ W1 F1, PagS W1 v.p h cf (n.load cf a).ord (n.load cf a) txt F1 → Calls Tryz.prog 77 #[.pointer (some ⟨v.p, 0, none⟩), .int .i64 (b : Int)] W1 fun e w' => ∃ u F' B, e = .returned (.tuple #[u, .int .i64 0]) ∧ PagS w' v.p h cf ((n.load cf a).load cf b).ord ((n.load cf a).load cf b) txt F' ∧ Ev F1 F' W1 w' ∧ isO B cf.text (txt b) u w' ∧ W1.heap.size ≤ B ∧ ∀ b, F' b → b < B) := fun W1 F1 x1 => load_S v.p h cf (n.load cf a) txt F1 b W1 x1 hb hll.1 (by omega) (by omega)
 have HH : Hid (∀ w1 F1 ua ca ub cb T tc, Ev F F1 w w1 → PagS w1 v.p h cf ((n.load cf a).load cf b).ord ((n.load cf a).load cf b) txt F1 → New1 w w1 cf (txt a) F1 ua ca → New1 w w1 cf (txt b) F1 ub cb → (∀ p o p' o', ua = some ⟨p, o, none⟩ → ub = some ⟨p', o', none⟩ → p ≠ p') → Tx2 w w1 F1 T [.slice ua cf.text ca, .slice ub cf.text cb] → Calls Tryz.prog W (#[.slice (some ⟨T, 0, none⟩) 2 tc] ++ caps) w1 fun e w' => ∃ er, e = .returned (.int .i64 er) ∧ R er w') := HW
 have HE : Hid (∀ args W', (callFunc W args).run Tryz.prog W' = .ok (.enter W args) W') := hent
 have X0 : Hid (SlAt w g v ∧ ¬ F g ∧ w.cell? ⟨bp, 1, none⟩ = some (.int .i64 (b : Int)) ∧ bp < w.heap.size ∧ ¬ F bp) := ⟨hs, hg, hp2, hbl⟩
 have c0 : w.cell? ⟨g, 0, none⟩ = some (.pointer (some ⟨v.p, 0, none⟩)) := hs.cellS 0 _ rfl
 clear x hs hg ha hb hol hlog hwr hent HW hll hp2 hbl
 go_enter Tryz.func51, Tryz.ntmps51
 go_wp2
 go_loopw [7, 14] (fun ts i wr => (i = .int .i64 0 ∧ ts = .slice none 0 0 ∧ w = wr) ∨ (i = .int .i64 1 ∧ ∃ F1 ua ca T tc, ts = .slice (some ⟨T, 0, none⟩) 1 tc ∧ Ev F F1 w wr ∧ PagS wr v.p h cf (n.load cf a).ord (n.load cf a) txt F1 ∧ New1 w wr cf (txt a) F1 ua ca ∧ wr.ownsRow w.heap.size 37 1 (.slice (some ⟨T, 0, none⟩) 1 tc) 1 [.slice ua cf.text ca] ∧ ¬ F1 T)
  ∨ (i = .int .i64 2 ∧ ∃ F1 ua ca ub cb T tc, ts = .slice (some ⟨T, 0, none⟩) 2 tc ∧ Ev F F1 w wr ∧ PagS wr v.p h cf ((n.load cf a).load cf b).ord ((n.load cf a).load cf b) txt F1 ∧ New1 w wr cf (txt a) F1 ua ca ∧ New1 w wr cf (txt b) F1 ub cb ∧ (∀ p o p' o', ua = some ⟨p, o, none⟩ → ub = some ⟨p', o', none⟩ → p ≠ p') ∧ Tx2 w wr F1 T [.slice ua cf.text ca, .slice ub cf.text cb])) (fun _ i _ => 2 - (intOf i).toNat)
 case atStart => exact .inl ⟨rfl, rfl, rfl⟩
 case round =>
  rcases hrel with ⟨rfl, rfl, rfl⟩ | ⟨rfl, F1, ua, ca, T, tc, rfl, ev1, x1, n1, o1, nT⟩ | ⟨rfl, F1, ua, ca, ub, cb, T, tc, rfl, ev1, x1, n1, n2, hne, t1⟩
  ·go_wp2_with (first | (go_at_call 77; refine CL.out.mono ?_; rintro e w1 ⟨_, F1, B, rfl, x1, ev1, o1, hB, hF⟩; obtain ⟨ua, ca, rfl, su, huc, hub⟩ := own_sliceP o1 (HTL.out a).1 (HTL.out a).2.1 (HTL.out a).2.2; have hbs := bs_one ua cf.text ca w1) | (at_builtin; refine wpList_append_own_at _ rfl _ _ 33 rfl w.heap.size 37 i0 (.slice none 0 0) 1 24 Tryz.underlying33 hi hz0 hz1 hz2 rfl (by decide) _ 0 [] rfl (World.ownsRow_nil _ _ _ _) ⟨w1.heap.size, 0, none⟩ 1 1 [.slice ua cf.text ca] rfl rfl (one_newB _ _) (by intro u hu; simp at hu; subst hu; rfl) (by unfold maxLen; omega) (by omega) (by have := ev1.kept.size; simp; omega) ?_))
   intro v' w2 h1 hg _ hat
   have l2 : Below w1.heap.size w1 w2 := ((Below.refl _ _).alloc (Nat.le_refl _) _).grown hg (by simp) (fun j hj => by cases hj)
   obtain ⟨T, tc, rfl, hT⟩ : ∃ T tc, v' = .slice (some ⟨T, 0, none⟩) 1 tc ∧ w1.heap.size ≤ T := by
    rcases h1.2 with ⟨h, h0⟩ | ⟨T, cap, cur, h, hT, hh, _⟩
    ·cases h0
    ·refine ⟨T, cap, h, ?_⟩
     subst h
     rcases hat with e | e
     ·cases e
     ·simp [Value.ownBlock] at e; omega
   have V2 : Hid (Ev F F1 w w2 ∧ PagS w2 v.p h cf (n.load cf a).ord (n.load cf a) txt F1 ∧ New1 w w2 cf (txt a) F1 ua ca ∧ w2.ownsRow w.heap.size 37 1 (.slice (some ⟨T, 0, none⟩) 1 tc) 1 [.slice ua cf.text ca] ∧ ¬ F1 T) := by
    refine ⟨ev1.trans (Ev.below l2), x1.later l2, ?_, h1, fun hF1 => by have := x1.all T hF1; omega⟩
    have y : New1 w w1 cf (txt a) F1 ua ca := ⟨B, o1, hB, fun b o e => ⟨(hub b o e).1, (hub b o e).2, fun hF1 => by have := hF b hF1; have := (hub b o e).1; omega⟩⟩
    exact y.goes (Ev.below l2)
   clear h1 hg l2 hat x1 ev1 o1 hB hF su huc hub
   go_wp2
   exact ⟨.inr (.inl ⟨by first | rfl | go_num, F1, ua, ca, T, tc, rfl, V2.out⟩), by simp [intOf]⟩
  ·have Y : Hid (Ev F F1 w wr ∧ PagS wr v.p h cf (n.load cf a).ord (n.load cf a) txt F1 ∧ New1 w wr cf (txt a) F1 ua ca ∧ wr.ownsRow w.heap.size 37 1 (.slice (some ⟨T, 0, none⟩) 1 tc) 1 [.slice ua cf.text ca] ∧ ¬ F1 T) := ⟨ev1, x1, n1, o1, nT⟩
   have d0 : wr.cell? ⟨g, 0, none⟩ = some (.pointer (some ⟨v.p, 0, none⟩)) := (X0.out.1.kept ev1.kept X0.out.2.1).cellS 0 _ rfl
   have d1 : wr.cell? ⟨bp, 1, none⟩ = some (.int .i64 (b : Int)) := kept_cell ev1.kept _ _ X0.out.2.2.2.1 X0.out.2.2.2.2 X0.out.2.2.1
   clear ev1 x1 n1 o1 nT
   go_wp2_with (first | (go_at_call 77; refine (CM.out wr F1 Y.out.2.1).mono ?_; rintro e w3 ⟨_, F3, B, rfl, x3, ev3, o3, hB, hF⟩; obtain ⟨ub, cb, rfl, su, huc, hub⟩ := own_sliceP o3 (HTL.out b).1 (HTL.out b).2.1 (HTL.out b).2.2; have hbs := bs_one ub cf.text cb w3; have oT : w3.ownsRow w.heap.size 37 1 (.slice (some ⟨T, 0, none⟩) 1 tc) 1 [.slice ua cf.text ca] := own_keptP Y.out.2.2.2.1 ev3.kept (fun k hk hF1 => by simp [Value.ownBlock] at hk; subst hk; exact Y.out.2.2.2.2 hF1)) | (at_builtin; refine wpList_append_own_at _ rfl _ _ 33 rfl w.heap.size 37 i0 (.slice none 0 0) 1 24 Tryz.underlying33 hi hz0 hz1 hz2 rfl (by decide) _ _ _ rfl (oT.alloc _) ⟨w3.heap.size, 0, none⟩ 1 1 [.slice ub cf.text cb] rfl rfl (one_newB _ _) (by intro u hu; simp at hu; subst hu; rfl) (by unfold maxLen; omega) (by omega) (by have := (Y.out.1.trans ev3).kept.size; simp; omega) ?_))
   intro v' w4 h1 hg _ hat
   have hTl : T < w3.heap.size := own_ltT oT
   have hTb : w.heap.size ≤ T := own_geT oT
   have hT3 : ¬ F3 T := fun hF3 => (ev3.new T hF3).elim Y.out.2.2.2.2 (fun e => by have := own_ltT Y.out.2.2.2.1; omega)
   have K : Kept (fun k => k = T) w3 w4 := ⟨hg.os, hg.tape, hg.output, Nat.le_trans (by simp) hg.size, fun k hk hne => (hg.block k (by simp; omega) (fun e => hne (by simp [Value.ownBlock] at e; first | exact e | exact e.symm))).trans (Below.heap_alloc w3 _ k hk)⟩
   obtain ⟨T2, tc2, rfl, hT2, hT2l⟩ : ∃ T2 tc2, v' = .slice (some ⟨T2, 0, none⟩) 2 tc2 ∧ (T2 = T ∨ w3.heap.size ≤ T2) ∧ T2 < w4.heap.size := by
    rcases h1.2 with ⟨h, h0⟩ | ⟨T2, cap, cur, h, hT, hh, _⟩
    ·cases h0
    ·refine ⟨T2, cap, h, ?_, lt_of_block hh⟩
     subst h
     rcases hat with e | e
     ·simp [Value.ownBlock] at e; exact .inl e
     ·simp [Value.ownBlock] at e; exact .inr (by omega)
   have E3 := Y.out.1.trans ev3
   have na : New1 w w3 cf (txt a) F3 ua ca := Y.out.2.2.1.goes ev3
   have nb : New1 w w3 cf (txt b) F3 ub cb := ⟨B, o3, by have := Y.out.1.kept.size; omega, fun k o e => ⟨(hub k o e).1, (hub k o e).2, fun hF3 => by have := hF k hF3; have := (hub k o e).1; omega⟩⟩
   have hall := x3.all
   have V4 : Hid (Ev F F3 w w4 ∧ PagS w4 v.p h cf ((n.load cf a).load cf b).ord ((n.load cf a).load cf b) txt F3 ∧ New1 w w4 cf (txt a) F3 ua ca ∧ New1 w w4 cf (txt b) F3 ub cb ∧ (∀ p o p' o', ua = some ⟨p, o, none⟩ → ub = some ⟨p', o', none⟩ → p ≠ p') ∧ Tx2 w w4 F3 T2 [.slice ua cf.text ca, .slice ub cf.text cb]) := by
    refine ⟨⟨⟨K.os.trans E3.kept.os, K.tape.trans E3.kept.tape, K.output.trans E3.kept.output, Nat.le_trans E3.kept.size K.size, fun k hk hn => (K.block k (Nat.lt_of_lt_of_le hk E3.kept.size) (fun e => by omega)).trans (E3.kept.block k hk hn)⟩, E3.new⟩, x3.off K (fun k e => by subst e; exact hT3), na.off K (fun k o e hk => ?_), nb.off K (fun k o e hk => ?_), fun p o p' o' e1 e2 e3 => ?_, ⟨⟨tc2, h1⟩, fun hF3 => ?_, hT2l⟩⟩
    ·obtain ⟨B1, q1, _⟩ := na
     subst e
     exact ne_type q1 oT hk
    ·subst e
     exact ne_type o3 oT hk
    ·obtain ⟨B1, _, _, q3⟩ := Y.out.2.2.1
     have := (q3 p o e1).2.1
     have := (hub p' o' e2).1
     omega
    ·rcases hT2 with e | e
     ·subst e; exact hT3 hF3
     ·have := hall T2 hF3; omega
   clear h1 hg hat x3 ev3 o3 hB hF su huc hub oT hTl hTb hT3 K hT2 hT2l E3 na nb hall d0 d1
   go_wp2
   exact ⟨.inr (.inr ⟨by first | rfl | go_num, F3, ua, ca, ub, cb, T2, tc2, rfl, V4.out⟩), by simp [intOf]⟩
  ·have CW : Hid (Calls Tryz.prog W (#[.slice (some ⟨T, 0, none⟩) 2 tc] ++ caps) wr fun e w' => ∃ r, e = .returned r ∧ ∃ er, r = .int .i64 er ∧ R er w') := (HH.out wr F1 ua ca ub cb T tc ev1 x1 n1 n2 hne t1).mono (fun e w' ⟨er, h1, h2⟩ => ⟨_, h1, er, rfl, h2⟩)
   clear ev1 x1 n1 n2 hne t1
   go_wp2_with ((with_reducible show wpList _ _ _ (({ dst := some 37, op := _, type := _, pos := _, after := _, guard := _ } : Oper) :: _) _ _); refine wpList_doV rfl (.tmp 35) (.tmp 36) _ rfl W caps rfl _ rfl (HE.out _ _) (fun r w' => ∃ er, r = .int .i64 er ∧ R er w') CW.out ?_; rintro r w2 ⟨er, rfl, hR⟩)
   have HR2 : Hid (R er w2) := hR
   clear hR
   go_wp2
   go_ret
   exact ⟨er, rfl, HR2.out⟩
theorem enter_set1 : ∀ args w, (callFunc 65 args).run Tryz.prog w = .ok (.enter 65 args) w := fun args w => by kernel_rfl
def setT (txt : Nat → List Int) (v : SlV) (i : Nat) (bs : List Int) : Nat → List Int := upn txt (v.first + i / v.each) (putL (txt (v.first + i / v.each)) (i % v.each * v.size) bs)
theorem set_S (g : Nat) (v : SlV) (l : List Ax) (h : Nat) (cf : Cf) (n : Nm) (txt : Nat → List Int) (F : Nat → Prop) (i : Nat) (bo : Option Addr) (bc : Nat) (bs : List Int) (w : World) (x : PagS w v.p h cf n.ord n txt F) (y : SlS w g v l) (hd : ∀ b, slF g v b → ¬ F b) (hn : SlN v cf) (hi : i < v.n) (hl : l.length ≤ 1000000000)
  (hs : Seen w bo v.size bs) (hbo : ∀ b o, bo = some ⟨b, o, none⟩ → b < w.heap.size ∧ ¬ F b ∧ ¬ slF g v b) (hol : n.ord.length ≤ cf.win) (hlog : n.log.length < 900000000) (hwr : n.writes < 900000000) :
  Calls Tryz.prog 37 #[.pointer (some ⟨g, 0, none⟩), .int .i64 (i : Int), .slice bo v.size bc] w fun e w' => e = .returned (.int .i64 0) ∧ ∃ F' lg, PagS w' v.p h cf ((n.load cf (v.first + i / v.each)).save cf (v.first + i / v.each)).ord ((n.load cf (v.first + i / v.each)).save cf (v.first + i / v.each)) (setT txt v i bs) F' ∧ SlS w' g { v with log := lg } (l ++ [⟨1, i, 0⟩]) ∧ (∀ b, slF g { v with log := lg } b → ¬ F' b) ∧ Kept (fun b => F b ∨ slF g v b) w w' ∧ (∀ b, F' b ∨ slF g { v with log := lg } b → F b ∨ slF g v b ∨ w.heap.size ≤ b) := by
 obtain ⟨q, hq⟩ : ∃ q, v.first + i / v.each = q := ⟨_, rfl⟩
 have HQ : Hid (v.first + i / v.each = q) := hq
 have hqp := hn.pages i hi
 have HT : Hid (setT txt v i bs = upn txt q (putL (txt q) (i % v.each * v.size) bs)) := by show _ = _; rw [setT, hq]
 rw [hq] at hqp ⊢
 rw [HT.out]
 have N : Hid (i < v.n ∧ 1 ≤ v.each ∧ 1 ≤ v.size ∧ i ≤ 1000000000 ∧ i % v.each * v.size + v.size ≤ cf.text ∧ cf.text ≤ 4096 ∧ q < 1000000 ∧ q < cf.pages) := ⟨hi, hn.each, hn.size, by have := hn.n; omega, hn.place i, x.good.text.2, by have := x.good.pages; omega, hqp⟩
 have X0 : Hid (PagS w v.p h cf n.ord n txt F ∧ SlS w g v l ∧ (∀ b, slF g v b → ¬ F b) ∧ Seen w bo v.size bs ∧ ∀ b o, bo = some ⟨b, o, none⟩ → b < w.heap.size ∧ ¬ F b ∧ ¬ slF g v b) := ⟨x, y, hd, hs, hbo⟩
 have HB : Hid (n.ord.length ≤ cf.win ∧ n.log.length < 900000000 ∧ n.writes < 900000000) := ⟨hol, hlog, hwr⟩
 have HTL : Hid ((txt q).length = cf.text ∧ Bytes (txt q)) := by
  obtain ⟨gh, gp, v', fh, fp, szp, Mh, s, Mt, y, hf, ha⟩ := x
  exact y.tl q
 have CN : Hid (∀ W, Below w.heap.size w W → Calls Tryz.prog 50 #[.pointer (some ⟨g, 0, none⟩), .int .i64 1, .int .i64 (i : Int), .int .i64 0] W fun e w' => e = .returned (.tuple #[]) ∧ ∃ lg, SlS w' g { v with log := lg } (l ++ [⟨1, i, 0⟩]) ∧ Kept (slF g v) W w' ∧ ∀ b, lg.ownBlock = some b → v.log.ownBlock = some b ∨ W.heap.size ≤ b) := fun W hW => note_any g v l 1 i 0 W (y.later hW) hl
 have CH : Hid (∀ W, Below w.heap.size w W → Calls Tryz.prog 49 #[.pointer (some ⟨g, 0, none⟩), .int .i64 (i : Int)] W fun e w' => e = .returned (.bool true) ∧ W = w') := fun W hW => has_yes g v i hi W (y.later hW).blk
 clear x y hd hn hi hl hs hbo hol hlog hwr hq hqp
 go_enter Tryz.func37, Tryz.ntmps37
 go_wp2_with (first | (refine wpList_boxV rfl 43 _ rfl (.pointer (some ⟨g, 0, none⟩)) rfl rfl ?_; intro w1 b1 s1 l1; have S1 : Hid (w1.heap.size = w.heap.size + 1) := s1; clear s1) | (refine wpList_boxV rfl 3 _ rfl (.int .i64 (i : Int)) rfl rfl ?_; intro w2 b2 s2 l2; have S2 : Hid (w2.heap.size = w1.heap.size + 1) := s2; clear s2) | (refine wpList_boxV rfl 37 _ rfl (.slice bo v.size bc) rfl rfl ?_; intro w3 b3 s3 l3; have S3 : Hid (w3.heap.size = w2.heap.size + 1) := s3; clear s3; have c1 : w3.cell? ⟨w.heap.size, 0, none⟩ = some (.pointer (some ⟨g, 0, none⟩)) := blk_c0 ((b1.later l2 b1.lt).later l3 (by have := S1.out; have := S2.out; omega)); have c2 : w3.cell? ⟨w1.heap.size, 0, none⟩ = some (.int .i64 (i : Int)) := blk_c0 (b2.later l3 (by have := S2.out; omega)); have c3 : w3.cell? ⟨w2.heap.size, 0, none⟩ = some (.slice bo v.size bc) := blk_c0 b3; have L : Below w.heap.size w w3 := below_chain (below_chain l1 l2 (by have := S1.out; omega)) l3 (by have := S1.out; have := S2.out; omega)) | (go_at_call 49; refine (CH.out w3 L).mono ?_; rintro e _ ⟨rfl, rfl⟩))
 obtain ⟨z1, hz1⟩ : ∃ z1, w1.heap.size = z1 := ⟨_, rfl⟩
 obtain ⟨z2, hz2⟩ : ∃ z2, w2.heap.size = z2 := ⟨_, rfl⟩
 have L3 : Hid (Below w.heap.size w w3) := L
 have Z : Hid (w.heap.size < w3.heap.size ∧ z1 < w3.heap.size ∧ z2 < w3.heap.size ∧ w3.cell? ⟨w.heap.size, 0, none⟩ = some (.pointer (some ⟨g, 0, none⟩)) ∧ w3.cell? ⟨z1, 0, none⟩ = some (.int .i64 (i : Int)) ∧ w3.cell? ⟨z2, 0, none⟩ = some (.slice bo v.size bc) ∧ w.heap.size < z1 ∧ w.heap.size < z2) := by
  have := S1.out; have := S2.out; have := S3.out
  exact ⟨by omega, by omega, by omega, c1, by rw [← hz1]; exact c2, by rw [← hz2]; exact c3, by omega, by omega⟩
 have Y : Hid (PagS w3 v.p h cf n.ord n txt F ∧ SlS w3 g v l) := ⟨X0.out.1.later L, X0.out.2.1.later L⟩
 rw [hz1, hz2]
 clear c1 c2 c3 b1 b2 b3 l1 l2 l3 L hz1 hz2
 refine region_invT [.val (.slice bo v.size bc), .val (.int .i64 (v.size : Int)), .val (.pointer (some ⟨g, 0, none⟩)), .val (.pointer (some ⟨g, 0, none⟩)), .val (.pointer (some ⟨g, 3, none⟩)), .val (.int .i64 (v.size : Int))] (by kernel_rfl) (by kernel_rfl) (by kernel_rfl) ?_ ?_
 ·refine Steps'.cons ?_ (Steps'.cons ?_ (Steps'.cons ?_ (Steps'.cons ?_ (Steps'.cons ?_ (Steps'.cons ?_ (Steps'.one _ _ _ _ _ _ _))))))
  ·intro ax wx hb hs hd
   have h5 : ax.tmps.getD 5 undef = (.pointer (some ⟨z2, 0, none⟩)) := hs 5 (by kernel_rfl)
   have c0 : wx.cell? ⟨z2, 0, none⟩ = some (.slice bo v.size bc) := (hb.cell (p := ⟨z2, 0, none⟩) Z.out.2.2.1).trans Z.out.2.2.2.2.2.1
   exact Does.value _ (by clear hs hd; go_simp) rfl
  ·intro ax wx hb hs hd
   have h13 := sqV (hd 0 13 rfl (by kernel_rfl) (by decide))
   exact Does.value _ (by clear hs hd; go_simp) rfl
  ·intro ax wx hb hs hd
   have h3 : ax.tmps.getD 3 undef = (.pointer (some ⟨w.heap.size, 0, none⟩)) := hs 3 (by kernel_rfl)
   have c0 : wx.cell? ⟨w.heap.size, 0, none⟩ = some (.pointer (some ⟨g, 0, none⟩)) := (hb.cell (p := ⟨w.heap.size, 0, none⟩) Z.out.1).trans Z.out.2.2.2.1
   exact Does.value _ (by clear hs hd; go_simp) rfl
  ·intro ax wx hb hs hd
   have h15 := sqV (hd 2 15 rfl (by kernel_rfl) (by decide))
   exact Does.value _ (by clear hs hd; go_simp) rfl
  ·intro ax wx hb hs hd
   have h16 := sqV (hd 3 16 rfl (by kernel_rfl) (by decide))
   exact Does.value _ (by clear hs hd; go_simp) rfl
  ·intro ax wx hb hs hd
   have h17 := sqV (hd 4 17 rfl (by kernel_rfl) (by decide))
   have c0 : wx.cell? ⟨g, 3, none⟩ = some (.int .i64 (v.size : Int)) := (Y.out.2.blk.later hb Y.out.2.blk.lt).cellS 3 _ rfl
   exact Does.value _ (by clear hs hd; go_simp) rfl
 ·intro wx hb
  iterate 6 refine @Ends.val _ _ _ _ _ _ _ _ _ _ rfl ?_
  refine @Ends.one _ _ _ _ _ _ _ ?_
  simp only [Act.put, sqA, sqB, sqC]
  refine last_valR (some 19) rfl (.bool false) (by go_simp) ?_
  have L5 : Hid (Below w3.heap.size w3 wx) := hb
  have d1 : wx.cell? ⟨w.heap.size, 0, none⟩ = some (.pointer (some ⟨g, 0, none⟩)) := (hb.cell (p := ⟨w.heap.size, 0, none⟩) Z.out.1).trans Z.out.2.2.2.1
  have d2 : wx.cell? ⟨z1, 0, none⟩ = some (.int .i64 (i : Int)) := (hb.cell (p := ⟨z1, 0, none⟩) Z.out.2.1).trans Z.out.2.2.2.2.1
  clear hb
  go_wp2_with (go_at_call 50; refine (CN.out wx (below_chain L3.out L5.out L3.out.size)).mono ?_; rintro e w6 ⟨rfl, lg, y6, k6, f6⟩)
  have LX : Below w.heap.size w wx := below_chain L3.out L5.out L3.out.size
  have nS : ∀ b, w.heap.size ≤ b → ¬ slF g v b := fun b hb hs => by have := X0.out.2.1.all b hs; omega
  have Y6 : Hid (PagS w6 v.p h cf n.ord n txt F ∧ SlS w6 g { v with log := lg } (l ++ [⟨1, i, 0⟩]) ∧ Kept (slF g v) w w6 ∧ (∀ b, lg.ownBlock = some b → v.log.ownBlock = some b ∨ w.heap.size ≤ b) ∧ (∀ b, slF g { v with log := lg } b → ¬ F b) ∧ Seen w6 bo v.size bs) := by
   refine ⟨(X0.out.1.later LX).off k6 (fun b hb hF => X0.out.2.2.1 b hb hF), y6, (Kept.new _ LX).trans k6, fun b hb => (f6 b hb).imp id (fun e => Nat.le_trans LX.size e), fun b hb hF => ?_, (X0.out.2.2.2.1.later LX (Nat.le_refl _)).off k6 (fun b o e hs => (X0.out.2.2.2.2 b o e).2.2 hs)⟩
   rcases hb with e | e
   ·exact X0.out.2.2.1 b (.inl e) hF
   ·rcases f6 b e with e | e
    ·exact X0.out.2.2.1 b (.inr e) hF
    ·have := X0.out.1.all b hF; have := LX.size; omega
  have Z6 : Hid (w.heap.size < w6.heap.size ∧ z1 < w6.heap.size ∧ z2 < w6.heap.size ∧ w6.cell? ⟨w.heap.size, 0, none⟩ = some (.pointer (some ⟨g, 0, none⟩)) ∧ w6.cell? ⟨z1, 0, none⟩ = some (.int .i64 (i : Int)) ∧ w6.cell? ⟨z2, 0, none⟩ = some (.slice bo v.size bc)) := by
   have hz := Z.out
   have h5 := L5.out.size
   have h6 := k6.size
   exact ⟨by omega, by omega, by omega, kept_cell k6 _ _ (by omega) (nS _ (by omega)) d1, kept_cell k6 _ _ (by omega) (nS _ (by omega)) d2, kept_cell k6 _ _ (by omega) (nS _ (by omega)) ((L5.out.cell (p := ⟨z2, 0, none⟩) hz.2.2.1).trans hz.2.2.2.2.2.1)⟩
  clear y6 k6 f6 nS d1 d2 LX
  go_wp2_with fail
  refine region_invP 6 ((.val (.pointer (some ⟨g, 0, none⟩))) :: (.val (.func (.func 65) #[] #[.pointer (some ⟨w.heap.size, 0, none⟩), .pointer (some ⟨z1, 0, none⟩), .pointer (some ⟨z2, 0, none⟩)])) :: (.val (.pointer (some ⟨g, 0, none⟩))) :: (.val (.int .i64 (i : Int))) :: (.val (.int .i64 (q : Int))) :: (.any (isZ1 w6.heap.size q) (isZ1_later _ _)) :: []) (by kernel_rfl) (by kernel_rfl) (by kernel_rfl) [] ⟨.inl rfl, .inl rfl, .inl rfl, .inl rfl, .inl rfl, .inl rfl, trivial⟩ (by kernel_rfl) ?_ ?_
  ·refine Steps'.cons ?_ (Steps'.cons ?_ (Steps'.cons ?_ (Steps'.cons ?_ (Steps'.cons ?_ (Steps'.cons ?_ (Steps'.one _ _ _ _ _ _ _))))))
   ·intro ax wx hb hs hd
    have h3 : ax.tmps.getD 3 undef = (.pointer (some ⟨w.heap.size, 0, none⟩)) := hs 3 (by kernel_rfl)
    have c0 : wx.cell? ⟨w.heap.size, 0, none⟩ = some (.pointer (some ⟨g, 0, none⟩)) := (hb.cell (p := ⟨w.heap.size, 0, none⟩) Z6.out.1).trans Z6.out.2.2.2.1
    exact Does.value _ (by clear hs hd; go_simp) rfl
   ·intro ax wx hb hs hd
    have h3 : ax.tmps.getD 3 undef = (.pointer (some ⟨w.heap.size, 0, none⟩)) := hs 3 (by kernel_rfl)
    have h4 : ax.tmps.getD 4 undef = (.pointer (some ⟨z1, 0, none⟩)) := hs 4 (by kernel_rfl)
    have h5 : ax.tmps.getD 5 undef = (.pointer (some ⟨z2, 0, none⟩)) := hs 5 (by kernel_rfl)
    exact Does.value _ (by clear hs hd; go_simp) rfl
   ·intro ax wx hb hs hd
    have h3 : ax.tmps.getD 3 undef = (.pointer (some ⟨w.heap.size, 0, none⟩)) := hs 3 (by kernel_rfl)
    have c0 : wx.cell? ⟨w.heap.size, 0, none⟩ = some (.pointer (some ⟨g, 0, none⟩)) := (hb.cell (p := ⟨w.heap.size, 0, none⟩) Z6.out.1).trans Z6.out.2.2.2.1
    exact Does.value _ (by clear hs hd; go_simp) rfl
   ·intro ax wx hb hs hd
    have h4 : ax.tmps.getD 4 undef = (.pointer (some ⟨z1, 0, none⟩)) := hs 4 (by kernel_rfl)
    have c0 : wx.cell? ⟨z1, 0, none⟩ = some (.int .i64 (i : Int)) := (hb.cell (p := ⟨z1, 0, none⟩) Z6.out.2.1).trans Z6.out.2.2.2.2.1
    exact Does.value _ (by clear hs hd; go_simp) rfl
   ·intro ax wx hb hs hd
    have h25 := sqV (hd 2 25 rfl (by kernel_rfl) (by decide))
    have h26 := sqV (hd 3 26 rfl (by kernel_rfl) (by decide))
    refine Does.call 54 #[(.pointer (some ⟨g, 0, none⟩)), .int .i64 (i : Int)] (by clear hs hd; go_simp) ?_
    refine (page_any g { v with log := lg } i wx (Y6.out.2.1.blk.later hb Y6.out.2.1.blk.lt) N.out.2.1 (by have := HQ.out; have := N.out.2.2.2.2.2.2.1; show v.first + i / v.each ≤ 1000000; omega) N.out.2.2.2.1).mono ?_
    rintro e w' ⟨rfl, l⟩
    exact ⟨_, rfl, by show Value.int .i64 ((v.first + i / v.each : Nat) : Int) = _; rw [HQ.out], l⟩
   ·intro ax wx hb hs hd
    have h27 := sqV (hd 4 27 rfl (by kernel_rfl) (by decide))
    exact Does.int1 (.tmp 27) rfl q h27 (isZ1_made wx q hb.size)
  ·intro wx hb
   iterate 5 refine @EndsP.val _ _ _ _ _ _ _ _ _ rfl ?_
   refine @EndsP.any _ _ _ _ _ _ _ _ (isZ1 w6.heap.size q) (isZ1_later _ _) rfl ?_
   intro v28 p28
   intro hD nf hn
   obtain ⟨bp, rfl, cb, hbp, hbl⟩ := p28
   obtain ⟨mf, rfl⟩ : ∃ mf, nf = mf + 2 := ⟨nf - 2, by have h3 : 2 ≤ nf := hn; omega⟩
   clear hD hn
   simp only [Act.put, sqA, sqB, sqC]
   have hF0 := X0.out.1.all
   have nF : ∀ b, w.heap.size ≤ b → ¬ F b := fun b hb hF => by have := hF0 b hF; omega
   have h6w := Z6.out.1
   have W7 : Hid (PagS wx v.p h cf n.ord n txt F ∧ SlS wx g { v with log := lg } (l ++ [⟨1, i, 0⟩]) ∧ Below w6.heap.size w6 wx ∧ wx.cell? ⟨bp, 0, none⟩ = some (.int .i64 (q : Int)) ∧ bp < wx.heap.size ∧ ¬ F bp) := ⟨Y6.out.1.later hb, Y6.out.2.1.later hb, hb, cb, hbl, nF bp (by omega)⟩
   have hpl : (putL (txt q) (i % v.each * v.size) bs).length = cf.text := by rw [putL_length (by have := N.out; rw [Y6.out.2.2.2.2.2.len, HTL.out.1]; omega)]; exact HTL.out.1
   have CO : Hid (Calls Tryz.prog 64 #[.pointer (some ⟨g, 0, none⟩), (.func (.func 65) #[] #[.pointer (some ⟨w.heap.size, 0, none⟩), .pointer (some ⟨z1, 0, none⟩), .pointer (some ⟨z2, 0, none⟩)]), .slice (some ⟨bp, 0, none⟩) 1 1] wx fun e w' => e = .returned (.int .i64 0) ∧ ∃ F', PagS w' v.p h cf ((n.load cf q).save cf q).ord ((n.load cf q).save cf q) (upn txt q (putL (txt q) (i % v.each * v.size) bs)) F' ∧ Ev F F' wx w') := by
    refine change_one g { v with log := lg } h cf n txt F q bp 1 65 _ (putL (txt q) (i % v.each * v.size) bs) wx W7.out.1 W7.out.2.1.blk (fun hF => Y6.out.2.2.2.2.1 g (.inl rfl) hF) W7.out.2.2.2.1 W7.out.2.2.2.2 N.out.2.2.2.2.2.2.2 HB.out.1 HB.out.2.1 HB.out.2.2 enter_set1 hpl (putL_bytes HTL.out.2 Y6.out.2.2.2.2.2.bytes) ?_
    intro w1' F1 ub uc T tc rest ev hubF hr ct huc hub hT hTu
    have hz := Z6.out
    have h0 := Z.out
    have h6x := W7.out.2.2.1.size
    have hev := ev.kept.size
    have gg : Go.Proofs.YtpanagghppdiiaaGreat.S1 w1' g { v with log := lg } i w.heap.size z1 z2 ub T cf.text uc (txt q) rest bo bc bs := by
     refine ⟨kept_cell ev.kept _ _ (by omega) (nF _ (by omega)) ((W7.out.2.2.1.cell (p := ⟨w.heap.size, 0, none⟩) hz.1).trans hz.2.2.2.1), kept_cell ev.kept _ _ (by omega) (nF _ (by omega)) ((W7.out.2.2.1.cell (p := ⟨z1, 0, none⟩) hz.2.1).trans hz.2.2.2.2.1), kept_cell ev.kept _ _ (by omega) (nF _ (by omega)) ((W7.out.2.2.1.cell (p := ⟨z2, 0, none⟩) hz.2.2.1).trans hz.2.2.2.2.2), ct, W7.out.2.1.blk.kept ev.kept (fun hF => Y6.out.2.2.2.2.1 g (.inl rfl) hF), hr, (Y6.out.2.2.2.2.2.later W7.out.2.2.1 (Nat.le_refl _)).off ev.kept (fun b o e hF => (X0.out.2.2.2.2 b o e).2.1 hF), ⟨by omega, by omega, by omega, hT⟩⟩
    show Calls Tryz.prog 65 #[.slice (some ⟨T, 0, none⟩) 1 tc, .pointer (some ⟨w.heap.size, 0, none⟩), .pointer (some ⟨z1, 0, none⟩), .pointer (some ⟨z2, 0, none⟩)] w1' _
    exact set1_any g { v with log := lg } i w.heap.size z1 z2 ub T tc cf.text uc (txt q) rest bo bc bs w1' gg N.out.2.1 N.out.2.2.2.2.1 N.out.2.2.2.2.2.1 huc N.out.2.2.2.1 N.out.2.2.1 HTL.out.1
   clear cb hbp hbl hb hpl
   refine wpAny_ready (rs := [6]) (by kernel_rfl) (by simp) (AllReady.cons rfl (fun K hK => ?_) AllReady.nil)
   go_simp
   go_wp2_with (go_at_call 64; refine CO.out.mono ?_; rintro e w8 ⟨rfl, F8, x8, e8⟩)
   refine take_op 7 (some 6) (.int .i64 0) rfl rfl (by kernel_rfl) (by kernel_rfl) (by kernel_rfl) (fun _ _ _ h => h) (by rfl) (fun W' => by go_simp) ?_
   simp only [Act.put, sqA, sqB, sqC]
   refine wpAny_done (by kernel_rfl) (NoPanic.normal ?_) _
   have h6x := W7.out.2.2.1.size
   have E8 : Hid (PagS w8 v.p h cf ((n.load cf q).save cf q).ord ((n.load cf q).save cf q) (upn txt q (putL (txt q) (i % v.each * v.size) bs)) F8 ∧ SlS w8 g { v with log := lg } (l ++ [⟨1, i, 0⟩]) ∧ (∀ b, slF g { v with log := lg } b → ¬ F8 b) ∧ Kept (fun b => F b ∨ slF g v b) w w8 ∧ (∀ b, F8 b ∨ slF g { v with log := lg } b → F b ∨ slF g v b ∨ w.heap.size ≤ b)) := by
    refine ⟨x8, W7.out.2.1.off e8.kept (fun b hb hs => Y6.out.2.2.2.2.1 b hs hb), fun b hs hF => ?_, ?_, fun b hb => ?_⟩
    ·rcases e8.new b hF with e | e
     ·exact Y6.out.2.2.2.2.1 b hs e
     ·have := Y6.out.2.1.all b hs; omega
    ·have lx := W7.out.2.2.1
     refine ⟨e8.kept.os.trans (lx.os.trans Y6.out.2.2.1.os), e8.kept.tape.trans (lx.tape.trans Y6.out.2.2.1.tape), e8.kept.output.trans (lx.output.trans Y6.out.2.2.1.output), by have := e8.kept.size; omega, fun b hb hn => ?_⟩
     rw [e8.kept.block b (by omega) (fun e => hn (.inl e)), lx.block b (by omega), Y6.out.2.2.1.block b hb (fun e => hn (.inr e))]
    ·rcases hb with hb | hb
     ·rcases e8.new b hb with e | e
      ·exact .inl e
      ·exact .inr (.inr (by omega))
     ·rcases hb with e | e
      ·exact .inr (.inl (.inl e))
      ·rcases Y6.out.2.2.2.1 b e with e | e
       ·exact .inr (.inl (.inr e))
       ·exact .inr (.inr e)
   clear x8 e8 nF hF0
   go_wp2
   go_ret
   exact ⟨rfl, F8, lg, E8.out⟩
theorem save_len (cf : Cf) (n : Nm) (q : Nat) (h : n.ord.length ≤ cf.win) (hw : 2 ≤ cf.win) : (n.save cf q).ord.length ≤ cf.win ∧ (n.save cf q).log.length ≤ n.log.length + 1 ∧ (n.save cf q).writes ≤ n.writes + 1 := by
 unfold Nm.save
 split
 ·rename_i hm
  have h1 := (use_len (n.put n.ord q 2) q).2 hm
  exact ⟨by rw [h1]; exact h, by show n.log.length ≤ _; omega, by show n.writes ≤ _; omega⟩
 ·have h1 := room_len cf n h hw
  have h2 := room_grow cf n
  have h3 := (use_len ((n.room cf).put (n.room cf).ord q 2) q).1
  have h4 : ((n.room cf).put (n.room cf).ord q 2).ord.length = (n.room cf).ord.length := rfl
  exact ⟨by omega, by show (n.room cf).log.length ≤ _; omega, by show (n.room cf).writes ≤ _; omega⟩
theorem putL_get (zs : List Int) (k : Nat) (bs : List Int) (hk : k + bs.length ≤ zs.length) (j : Nat) : (putL zs k bs)[j]? = if k ≤ j ∧ j < k + bs.length then bs[j - k]? else zs[j]? := by
 have hl : (zs.take k).length = k := by simp; omega
 unfold putL
 by_cases h1 : j < k
 ·rw [if_neg (by omega), List.append_assoc, List.getElem?_append_left (by omega), List.getElem?_take, if_pos h1]
 ·by_cases h2 : j < k + bs.length
  ·rw [if_pos ⟨by omega, h2⟩, List.append_assoc, List.getElem?_append_right (by omega), hl, List.getElem?_append_left (by omega)]
  ·rw [if_neg (by omega), List.getElem?_append_right (by simp; omega)]
   have e : (zs.take k ++ bs).length = k + bs.length := by rw [List.length_append, hl]
   rw [e, List.getElem?_drop]
   congr 1
   omega
theorem piece_same (zs : List Int) (k : Nat) (bs : List Int) (hk : k + bs.length ≤ zs.length) : ((putL zs k bs).drop k).take bs.length = bs := by
 apply List.ext_getElem?
 intro j
 rw [List.getElem?_take]
 split
 ·rename_i h
  rw [List.getElem?_drop, putL_get zs k bs hk, if_pos ⟨by omega, by omega⟩, Nat.add_sub_cancel_left]
 ·rename_i h
  rw [List.getElem?_eq_none (by omega)]
theorem piece_other (zs : List Int) (k m s : Nat) (bs : List Int) (hk : k + bs.length ≤ zs.length) (h : m + s ≤ k ∨ k + bs.length ≤ m) : ((putL zs k bs).drop m).take s = (zs.drop m).take s := by
 apply List.ext_getElem?
 intro j
 rw [List.getElem?_take, List.getElem?_take]
 split
 ·rename_i hj
  rw [List.getElem?_drop, List.getElem?_drop, putL_get zs k bs hk, if_neg (by omega)]
 ·rfl
theorem rec_same (txt : Nat → List Int) (v : SlV) (i : Nat) (bs : List Int) (hb : bs.length = v.size) (hk : i % v.each * v.size + v.size ≤ (txt (v.first + i / v.each)).length) : recL (setT txt v i bs) v i = bs := by
 unfold recL setT
 rw [show upn txt (v.first + i / v.each) _ (v.first + i / v.each) = putL (txt (v.first + i / v.each)) (i % v.each * v.size) bs by simp [upn]]
 have := piece_same (txt (v.first + i / v.each)) (i % v.each * v.size) bs (by omega)
 rw [hb] at this
 exact this
theorem rec_other (txt : Nat → List Int) (v : SlV) (i j : Nat) (bs : List Int) (he : 1 ≤ v.each) (hb : bs.length = v.size) (hk : i % v.each * v.size + v.size ≤ (txt (v.first + i / v.each)).length) (hij : i ≠ j) : recL (setT txt v i bs) v j = recL txt v j := by
 unfold recL setT
 by_cases hp : v.first + j / v.each = v.first + i / v.each
 ·rw [hp]
  rw [show upn txt (v.first + i / v.each) _ (v.first + i / v.each) = putL (txt (v.first + i / v.each)) (i % v.each * v.size) bs by simp [upn]]
  refine piece_other _ _ _ _ _ (by omega) ?_
  have h1 := Nat.div_add_mod i v.each
  have h2 := Nat.div_add_mod j v.each
  have h3 : i / v.each = j / v.each := by omega
  have h4 : i % v.each ≠ j % v.each := fun e => hij (by rw [← h1, ← h2, h3, e])
  rw [hb]
  rcases Nat.lt_or_gt_of_ne h4 with h5 | h5
  ·right
   have : (i % v.each + 1) * v.size ≤ j % v.each * v.size := Nat.mul_le_mul_right _ h5
   rw [Nat.add_mul, Nat.one_mul] at this
   exact this
  ·left
   have : (j % v.each + 1) * v.size ≤ i % v.each * v.size := Nat.mul_le_mul_right _ h5
   rw [Nat.add_mul, Nat.one_mul] at this
   exact this
 ·rw [show upn txt (v.first + i / v.each) _ (v.first + j / v.each) = txt (v.first + j / v.each) by simp only [upn, if_neg hp]]
structure C2 (w : World) (g : Nat) (v : SlV) (gp gs bp cp T : Nat) (a b : Nat) (cf : Cf) (ua ca ub cb : Nat) : Prop where
 gp : w.cell? ⟨gp, 0, none⟩ = some (.slice (some ⟨bp, 0, none⟩) 2 cp) ∧ gp < w.heap.size
 gs : w.cell? ⟨gs, 0, none⟩ = some (.pointer (some ⟨g, 0, none⟩)) ∧ gs < w.heap.size
 p0 : w.cell? ⟨bp, 0, none⟩ = some (.int .i64 (a : Int))
 p1 : w.cell? ⟨bp, 1, none⟩ = some (.int .i64 (b : Int))
 bl : bp < w.heap.size
 t0 : w.cell? ⟨T, 0, none⟩ = some (.slice (some ⟨ua, 0, none⟩) cf.text ca)
 t1 : w.cell? ⟨T, 1, none⟩ = some (.slice (some ⟨ub, 0, none⟩) cf.text cb)
 lt : T < w.heap.size
 sl : SlAt w g v
theorem C2.off {S : Nat → Prop} {w w' : World} {g : Nat} {v : SlV} {gp gs bp cp T a b : Nat} {cf : Cf} {ua ca ub cb : Nat} (x : C2 w g v gp gs bp cp T a b cf ua ca ub cb) (k : Kept S w w') (h : ¬ S gp ∧ ¬ S gs ∧ ¬ S bp ∧ ¬ S T ∧ ¬ S g) : C2 w' g v gp gs bp cp T a b cf ua ca ub cb :=
 have sz := k.size
 ⟨⟨kept_cell k _ _ x.gp.2 h.1 x.gp.1, Nat.lt_of_lt_of_le x.gp.2 sz⟩, ⟨kept_cell k _ _ x.gs.2 h.2.1 x.gs.1, Nat.lt_of_lt_of_le x.gs.2 sz⟩, kept_cell k _ _ x.bl h.2.2.1 x.p0, kept_cell k _ _ x.bl h.2.2.1 x.p1, Nat.lt_of_lt_of_le x.bl sz, kept_cell k _ _ x.lt h.2.2.2.1 x.t0, kept_cell k _ _ x.lt h.2.2.2.1 x.t1, Nat.lt_of_lt_of_le x.lt sz, x.sl.kept k h.2.2.2.2⟩
theorem seen_front {w : World} {ub t : Nat} {zs : List Int} {rest : List Value} (hb : Blk w ub 5 (u8s zs ++ rest)) (hz : zs.length = t) (hzb : Bytes zs) (ht : t ≤ 4096) : Seen w (some ⟨ub, 0, none⟩) t zs := by
 refine ⟨hz, by omega, hzb, fun _ => ⟨ub, 0, rfl, hb.lt, fun k hk => ?_⟩⟩
 rw [Nat.zero_add, hb.cell, List.getElem?_append_left (by rw [u8s_length, hz]; exact hk)]
 have : k < zs.length := by rw [hz]; exact hk
 simp [u8s, List.getD, this]
theorem chg1_two (g : Nat) (v : SlV) (h : Nat) (cf : Cf) (n : Nm) (txt : Nat → List Int) (F : Nat → Prop) (a b gw gp gs bp cp W : Nat) (caps : Array Value) (ua ca ub cb T tc : Nat) (za zb : List Int) (ra rb : List Value) (w : World) (x : PagS w v.p h cf n.ord n txt F) (c : C2 w g v gp gs bp cp T a b cf ua ca ub cb) (cw : w.cell? ⟨gw, 0, none⟩ = some (.func (.func W) #[] caps))
  (hnF : ¬ F gp ∧ ¬ F gs ∧ ¬ F bp ∧ ¬ F T ∧ ¬ F g) (hnu : ∀ k, k = ua ∨ k = ub → ¬ F k ∧ gp ≠ k ∧ gs ≠ k ∧ bp ≠ k ∧ T ≠ k ∧ g ≠ k) (hz : za.length = cf.text ∧ Bytes za ∧ zb.length = cf.text ∧ Bytes zb)
  (hent : ∀ args W', (callFunc W args).run Tryz.prog W' = .ok (.enter W args) W') (CW : Calls Tryz.prog W (#[.slice (some ⟨T, 0, none⟩) 2 tc] ++ caps) w fun e w' => e = .returned (.tuple #[]) ∧ Blk w' ua 5 (u8s za ++ ra) ∧ Blk w' ub 5 (u8s zb ++ rb) ∧ Kept (fun k => k = ua ∨ k = ub) w w')
  (ha : a < cf.pages) (hb : b < cf.pages) (hol : n.ord.length ≤ cf.win) (hlog : n.log.length < 900000000) (hwr : n.writes < 900000000) :
  Calls Tryz.prog 87 #[.slice (some ⟨T, 0, none⟩) 2 tc, .pointer (some ⟨gw, 0, none⟩), .pointer (some ⟨gp, 0, none⟩), .pointer (some ⟨gs, 0, none⟩)] w fun e w' => e = .returned (.int .i64 0) ∧ ∃ F', PagS w' v.p h cf ((n.save cf a).save cf b).ord ((n.save cf a).save cf b) (upn (upn txt a za) b zb) F' ∧ Kept (fun k => F k ∨ k = ua ∨ k = ub) w w' ∧ ∀ k, F' k → F k ∨ w.heap.size ≤ k := by
 have HC : Hid (Calls Tryz.prog W (#[.slice (some ⟨T, 0, none⟩) 2 tc] ++ caps) w fun e w' => ∃ r, e = .returned r ∧ r = .tuple #[] ∧ Blk w' ua 5 (u8s za ++ ra) ∧ Blk w' ub 5 (u8s zb ++ rb) ∧ Kept (fun k => k = ua ∨ k = ub) w w') := CW.mono (fun e w' ⟨h1, h2, h3, h4⟩ => ⟨_, h1, rfl, h2, h3, h4⟩)
 have hsl := save_len cf n a hol x.good.win.1
 have htx := x.good.text
 have HE : Hid (∀ args W', (callFunc W args).run Tryz.prog W' = .ok (.enter W args) W') := hent
 have X0 : Hid (PagS w v.p h cf n.ord n txt F ∧ C2 w g v gp gs bp cp T a b cf ua ca ub cb) := ⟨x, c⟩
 have HN : Hid ((¬ F gp ∧ ¬ F gs ∧ ¬ F bp ∧ ¬ F T ∧ ¬ F g) ∧ ∀ k, k = ua ∨ k = ub → ¬ F k ∧ gp ≠ k ∧ gs ≠ k ∧ bp ≠ k ∧ T ≠ k ∧ g ≠ k) := ⟨hnF, hnu⟩
 have CA : Hid (∀ W1 F1, PagS W1 v.p h cf n.ord n txt F1 → Blk W1 ua 5 (u8s za ++ ra) → ¬ F1 ua → Calls Tryz.prog 88 #[.pointer (some ⟨v.p, 0, none⟩), .int .i64 (a : Int), .slice (some ⟨ua, 0, none⟩) cf.text ca] W1 fun e w' => e = .returned (.int .i64 0) ∧ ∃ F', PagS w' v.p h cf (n.save cf a).ord (n.save cf a) (upn txt a za) F' ∧ Ev F1 F' W1 w') := fun W1 F1 x1 b1 nf => save_S v.p h cf n txt F1 a (some ⟨ua, 0, none⟩) ca za W1 x1 ha hol (by omega) (by omega) (seen_front b1 hz.1 hz.2.1 htx.2) (fun k o e => by cases e; exact nf)
 have CB : Hid (∀ W1 F1, PagS W1 v.p h cf (n.save cf a).ord (n.save cf a) (upn txt a za) F1 → Blk W1 ub 5 (u8s zb ++ rb) → ¬ F1 ub → Calls Tryz.prog 88 #[.pointer (some ⟨v.p, 0, none⟩), .int .i64 (b : Int), .slice (some ⟨ub, 0, none⟩) cf.text cb] W1 fun e w' => e = .returned (.int .i64 0) ∧ ∃ F', PagS w' v.p h cf ((n.save cf a).save cf b).ord ((n.save cf a).save cf b) (upn (upn txt a za) b zb) F' ∧ Ev F1 F' W1 w') := fun W1 F1 x1 b1 nf => save_S v.p h cf (n.save cf a) (upn txt a za) F1 b (some ⟨ub, 0, none⟩) cb zb W1 x1 hb hsl.1 (by omega) (by omega) (seen_front b1 hz.2.2.1 hz.2.2.2 htx.2) (fun k o e => by cases e; exact nf)
 have cw0 := cw
 have d0 := c.gp.1
 clear x c cw hnF hnu hz hent CW ha hb hol hlog hwr hsl htx
 go_enter Tryz.func87, Tryz.ntmps87
 go_wp2_with ((with_reducible show wpList _ _ _ (({ dst := some 11, op := _, type := _, pos := _, after := _, guard := _ } : Oper) :: _) _ _); refine wpList_doV rfl (.tmp 9) (.tmp 10) _ rfl W caps rfl _ rfl (HE.out _ _) (fun r w' => r = .tuple #[] ∧ Blk w' ua 5 (u8s za ++ ra) ∧ Blk w' ub 5 (u8s zb ++ rb) ∧ Kept (fun k => k = ua ∨ k = ub) w w') HC.out ?_; rintro r w1 ⟨rfl, b1, b2, k1⟩; have c1 := X0.out.2.off k1 ⟨fun e => (HN.out.2 _ e).2.1 rfl, fun e => (HN.out.2 _ e).2.2.1 rfl, fun e => (HN.out.2 _ e).2.2.2.1 rfl, fun e => (HN.out.2 _ e).2.2.2.2.1 rfl, fun e => (HN.out.2 _ e).2.2.2.2.2 rfl⟩; have d1 := c1.gp.1)
 have M1 : Hid (Blk w1 ua 5 (u8s za ++ ra) ∧ Blk w1 ub 5 (u8s zb ++ rb) ∧ C2 w1 g v gp gs bp cp T a b cf ua ca ub cb ∧ PagS w1 v.p h cf n.ord n txt F ∧ Kept (fun k => k = ua ∨ k = ub) w w1) := ⟨b1, b2, c1, X0.out.1.off k1 (fun k e => (HN.out.2 k e).1), k1⟩
 clear b1 b2 c1 k1 d1 d0 cw0
 go_loopw [14] (fun i wr => (i = .int .i64 0 ∧ w1 = wr) ∨ (i = .int .i64 1 ∧ ∃ F', PagS wr v.p h cf (n.save cf a).ord (n.save cf a) (upn txt a za) F' ∧ Ev F F' w1 wr ∧ C2 wr g v gp gs bp cp T a b cf ua ca ub cb ∧ Blk wr ub 5 (u8s zb ++ rb) ∧ ¬ F' ub) ∨ (i = .int .i64 2 ∧ ∃ F', PagS wr v.p h cf ((n.save cf a).save cf b).ord ((n.save cf a).save cf b) (upn (upn txt a za) b zb) F' ∧ Ev F F' w1 wr)) (fun i _ => 2 - (intOf i).toNat)
 case atStart => exact .inl ⟨rfl, rfl⟩
 case round =>
  rcases hrel with ⟨rfl, rfl⟩ | ⟨rfl, F1, x1, e1, c1, b1, nb1⟩ | ⟨rfl, F1, x1, e1⟩
  ·have q0 := M1.out.2.2.1.p0
   go_wp2_with fail
   refine region_invP 9 ((.val (.pointer (some ⟨g, 0, none⟩))) :: (.val (.pointer (some ⟨g, 0, none⟩))) :: (.val (.pointer (some ⟨g, 0, none⟩))) :: (.val (.pointer (some ⟨v.p, 0, none⟩))) :: (.val (.int .i64 (a : Int))) :: (.val (.slice (some ⟨T, 0, none⟩) 2 tc)) :: (.val (.int .i64 0)) :: (.val (.pointer (some ⟨T, 0, none⟩))) :: (.val (.slice (some ⟨ua, 0, none⟩) cf.text ca)) :: []) (by kernel_rfl) (by kernel_rfl) (by kernel_rfl) [] ⟨.inl rfl, .inl rfl, .inl rfl, .inl rfl, .inl rfl, .inl rfl, .inl rfl, .inl rfl, .inl rfl, trivial⟩ (by kernel_rfl) ?_ ?_
   ·refine Steps'.cons ?_ (Steps'.cons ?_ (Steps'.cons ?_ (Steps'.cons ?_ (Steps'.cons ?_ (Steps'.cons ?_ (Steps'.cons ?_ (Steps'.cons ?_ (Steps'.cons ?_ (Steps'.one _ _ _ _ _ _ _)))))))))
    ·intro ax wx hb hs hd
     have h3 : ax.tmps.getD 3 undef = (.pointer (some ⟨gs, 0, none⟩)) := hs 3 (by kernel_rfl)
     have c0 : wx.cell? ⟨gs, 0, none⟩ = some (.pointer (some ⟨g, 0, none⟩)) := (hb.cell (p := ⟨gs, 0, none⟩) M1.out.2.2.1.gs.2).trans M1.out.2.2.1.gs.1
     exact Does.value _ (by clear hs hd; go_simp) rfl
    ·intro ax wx hb hs hd
     have h19 := sqV (hd 0 19 rfl (by kernel_rfl) (by decide))
     exact Does.value _ (by clear hs hd; go_simp) rfl
    ·intro ax wx hb hs hd
     have h20 := sqV (hd 1 20 rfl (by kernel_rfl) (by decide))
     exact Does.value _ (by clear hs hd; go_simp) rfl
    ·intro ax wx hb hs hd
     have h21 := sqV (hd 2 21 rfl (by kernel_rfl) (by decide))
     have c0 : wx.cell? ⟨g, 0, none⟩ = some (.pointer (some ⟨v.p, 0, none⟩)) := (M1.out.2.2.1.sl.later hb M1.out.2.2.1.sl.lt).cellS 0 _ rfl
     exact Does.value _ (by clear hs hd; go_simp) rfl
    ·intro ax wx hb hs hd
     have h7 : ax.tmps.getD 7 undef = (.int .i64 (a : Int)) := hs 7 (by kernel_rfl)
     exact Does.value _ (by clear hs hd; go_simp) rfl
    ·intro ax wx hb hs hd
     have h0 : ax.tmps.getD 0 undef = (.slice (some ⟨T, 0, none⟩) 2 tc) := hs 0 (by kernel_rfl)
     exact Does.value _ (by clear hs hd; go_simp) rfl
    ·intro ax wx hb hs hd
     have h6 : ax.tmps.getD 6 undef = (.int .i64 0) := hs 6 (by kernel_rfl)
     exact Does.value _ (by clear hs hd; go_simp) rfl
    ·intro ax wx hb hs hd
     have h24 := sqV (hd 5 24 rfl (by kernel_rfl) (by decide))
     have h25 := sqV (hd 6 25 rfl (by kernel_rfl) (by decide))
     exact Does.value _ (by clear hs hd; go_simp) rfl
    ·intro ax wx hb hs hd
     have h26 := sqV (hd 7 26 rfl (by kernel_rfl) (by decide))
     have c0 : wx.cell? ⟨T, 0, none⟩ = some (.slice (some ⟨ua, 0, none⟩) cf.text ca) := (hb.cell (p := ⟨T, 0, none⟩) M1.out.2.2.1.lt).trans M1.out.2.2.1.t0
     exact Does.value _ (by clear hs hd; go_simp) rfl
   ·intro wx hb
    iterate 9 refine @EndsP.val _ _ _ _ _ _ _ _ _ rfl ?_
    intro hD nf hn
    obtain ⟨mf, rfl⟩ : ∃ mf, nf = mf + 2 := ⟨nf - 2, by have h3 : 2 ≤ nf := hn; omega⟩
    clear hD hn
    simp only [Act.put, sqA, sqB, sqC]
    have LX : Hid (Below w1.heap.size w1 wx) := hb
    have CS : Hid (Calls Tryz.prog 88 #[.pointer (some ⟨v.p, 0, none⟩), .int .i64 (a : Int), .slice (some ⟨ua, 0, none⟩) cf.text ca] wx fun e w' => e = .returned (.int .i64 0) ∧ ∃ F', PagS w' v.p h cf (n.save cf a).ord (n.save cf a) (upn txt a za) F' ∧ Ev F F' wx w') := CA.out wx F (M1.out.2.2.2.1.later LX.out) (M1.out.1.later LX.out M1.out.1.lt) (HN.out.2 ua (.inl rfl)).1
    clear hb
    refine wpAny_ready (rs := [9]) (by kernel_rfl) (by simp) (AllReady.cons rfl (fun K hK => ?_) AllReady.nil)
    go_simp
    go_wp2_with (go_at_call 88; refine CS.out.mono ?_; rintro e w8 ⟨rfl, F8, x8, e8⟩)
    refine take_op 10 (some 8) (.int .i64 0) rfl rfl (by kernel_rfl) (by kernel_rfl) (by kernel_rfl) (fun _ _ _ h => h) (by rfl) (fun W' => by go_simp) ?_
    simp only [Act.put, sqA, sqB, sqC]
    refine wpAny_done (by kernel_rfl) (NoPanic.normal ?_) _
    have V8 : Hid (PagS w8 v.p h cf (n.save cf a).ord (n.save cf a) (upn txt a za) F8 ∧ Ev F F8 w1 w8 ∧ C2 w8 g v gp gs bp cp T a b cf ua ca ub cb ∧ Blk w8 ub 5 (u8s zb ++ rb) ∧ ¬ F8 ub) := by
     have E := (Ev.below LX.out).trans e8
     refine ⟨x8, E, M1.out.2.2.1.off E.kept HN.out.1, M1.out.2.1.kept E.kept (HN.out.2 ub (.inr rfl)).1, fun hF => (E.new ub hF).elim (HN.out.2 ub (.inr rfl)).1 (fun e => by have := M1.out.2.1.lt; omega)⟩
    clear x8 e8
    go_wp2
    exact ⟨.inr (.inl ⟨by first | rfl | go_num, F8, V8.out⟩), by simp [intOf]⟩
  ·have Y1 : Hid (PagS wr v.p h cf (n.save cf a).ord (n.save cf a) (upn txt a za) F1 ∧ Ev F F1 w1 wr ∧ C2 wr g v gp gs bp cp T a b cf ua ca ub cb ∧ Blk wr ub 5 (u8s zb ++ rb) ∧ ¬ F1 ub) := ⟨x1, e1, c1, b1, nb1⟩
   have q1 := c1.p1
   clear x1 e1 c1 b1 nb1
   go_wp2_with fail
   refine region_invP 9 ((.val (.pointer (some ⟨g, 0, none⟩))) :: (.val (.pointer (some ⟨g, 0, none⟩))) :: (.val (.pointer (some ⟨g, 0, none⟩))) :: (.val (.pointer (some ⟨v.p, 0, none⟩))) :: (.val (.int .i64 (b : Int))) :: (.val (.slice (some ⟨T, 0, none⟩) 2 tc)) :: (.val (.int .i64 1)) :: (.val (.pointer (some ⟨T, 1, none⟩))) :: (.val (.slice (some ⟨ub, 0, none⟩) cf.text cb)) :: []) (by kernel_rfl) (by kernel_rfl) (by kernel_rfl) [] ⟨.inl rfl, .inl rfl, .inl rfl, .inl rfl, .inl rfl, .inl rfl, .inl rfl, .inl rfl, .inl rfl, trivial⟩ (by kernel_rfl) ?_ ?_
   ·refine Steps'.cons ?_ (Steps'.cons ?_ (Steps'.cons ?_ (Steps'.cons ?_ (Steps'.cons ?_ (Steps'.cons ?_ (Steps'.cons ?_ (Steps'.cons ?_ (Steps'.cons ?_ (Steps'.one _ _ _ _ _ _ _)))))))))
    ·intro ax wx hb hs hd
     have h3 : ax.tmps.getD 3 undef = (.pointer (some ⟨gs, 0, none⟩)) := hs 3 (by kernel_rfl)
     have c0 : wx.cell? ⟨gs, 0, none⟩ = some (.pointer (some ⟨g, 0, none⟩)) := (hb.cell (p := ⟨gs, 0, none⟩) Y1.out.2.2.1.gs.2).trans Y1.out.2.2.1.gs.1
     exact Does.value _ (by clear hs hd; go_simp) rfl
    ·intro ax wx hb hs hd
     have h19 := sqV (hd 0 19 rfl (by kernel_rfl) (by decide))
     exact Does.value _ (by clear hs hd; go_simp) rfl
    ·intro ax wx hb hs hd
     have h20 := sqV (hd 1 20 rfl (by kernel_rfl) (by decide))
     exact Does.value _ (by clear hs hd; go_simp) rfl
    ·intro ax wx hb hs hd
     have h21 := sqV (hd 2 21 rfl (by kernel_rfl) (by decide))
     have c0 : wx.cell? ⟨g, 0, none⟩ = some (.pointer (some ⟨v.p, 0, none⟩)) := (Y1.out.2.2.1.sl.later hb Y1.out.2.2.1.sl.lt).cellS 0 _ rfl
     exact Does.value _ (by clear hs hd; go_simp) rfl
    ·intro ax wx hb hs hd
     have h7 : ax.tmps.getD 7 undef = (.int .i64 (b : Int)) := hs 7 (by kernel_rfl)
     exact Does.value _ (by clear hs hd; go_simp) rfl
    ·intro ax wx hb hs hd
     have h0 : ax.tmps.getD 0 undef = (.slice (some ⟨T, 0, none⟩) 2 tc) := hs 0 (by kernel_rfl)
     exact Does.value _ (by clear hs hd; go_simp) rfl
    ·intro ax wx hb hs hd
     have h6 : ax.tmps.getD 6 undef = (.int .i64 1) := hs 6 (by kernel_rfl)
     exact Does.value _ (by clear hs hd; go_simp) rfl
    ·intro ax wx hb hs hd
     have h24 := sqV (hd 5 24 rfl (by kernel_rfl) (by decide))
     have h25 := sqV (hd 6 25 rfl (by kernel_rfl) (by decide))
     exact Does.value _ (by clear hs hd; go_simp) rfl
    ·intro ax wx hb hs hd
     have h26 := sqV (hd 7 26 rfl (by kernel_rfl) (by decide))
     have c0 : wx.cell? ⟨T, 1, none⟩ = some (.slice (some ⟨ub, 0, none⟩) cf.text cb) := (hb.cell (p := ⟨T, 1, none⟩) Y1.out.2.2.1.lt).trans Y1.out.2.2.1.t1
     exact Does.value _ (by clear hs hd; go_simp) rfl
   ·intro wx hb
    iterate 9 refine @EndsP.val _ _ _ _ _ _ _ _ _ rfl ?_
    intro hD nf hn
    obtain ⟨mf, rfl⟩ : ∃ mf, nf = mf + 2 := ⟨nf - 2, by have h3 : 2 ≤ nf := hn; omega⟩
    clear hD hn
    simp only [Act.put, sqA, sqB, sqC]
    have LX : Hid (Below wr.heap.size wr wx) := hb
    have CS : Hid (Calls Tryz.prog 88 #[.pointer (some ⟨v.p, 0, none⟩), .int .i64 (b : Int), .slice (some ⟨ub, 0, none⟩) cf.text cb] wx fun e w' => e = .returned (.int .i64 0) ∧ ∃ F', PagS w' v.p h cf ((n.save cf a).save cf b).ord ((n.save cf a).save cf b) (upn (upn txt a za) b zb) F' ∧ Ev F1 F' wx w') := CB.out wx F1 (Y1.out.1.later LX.out) (Y1.out.2.2.2.1.later LX.out Y1.out.2.2.2.1.lt) Y1.out.2.2.2.2
    clear hb
    refine wpAny_ready (rs := [9]) (by kernel_rfl) (by simp) (AllReady.cons rfl (fun K hK => ?_) AllReady.nil)
    go_simp
    go_wp2_with (go_at_call 88; refine CS.out.mono ?_; rintro e w8 ⟨rfl, F8, x8, e8⟩)
    refine take_op 10 (some 8) (.int .i64 0) rfl rfl (by kernel_rfl) (by kernel_rfl) (by kernel_rfl) (fun _ _ _ h => h) (by rfl) (fun W' => by go_simp) ?_
    simp only [Act.put, sqA, sqB, sqC]
    refine wpAny_done (by kernel_rfl) (NoPanic.normal ?_) _
    have V8 : Hid (PagS w8 v.p h cf ((n.save cf a).save cf b).ord ((n.save cf a).save cf b) (upn (upn txt a za) b zb) F8 ∧ Ev F F8 w1 w8) := ⟨x8, Y1.out.2.1.trans ((Ev.below LX.out).trans e8)⟩
    clear x8 e8
    go_wp2
    exact ⟨.inr (.inr ⟨by first | rfl | go_num, F8, V8.out⟩), by simp [intOf]⟩
  ·have V8 : Hid (∃ F', PagS wr v.p h cf ((n.save cf a).save cf b).ord ((n.save cf a).save cf b) (upn (upn txt a za) b zb) F' ∧ Kept (fun k => F k ∨ k = ua ∨ k = ub) w wr ∧ ∀ k, F' k → F k ∨ w.heap.size ≤ k) := ⟨F1, x1, (M1.out.2.2.2.2.mono (fun k e => .inr e)).trans (e1.kept.mono (fun k e => .inl e)), fun k hk => (e1.new k hk).imp id (fun e => Nat.le_trans M1.out.2.2.2.2.size e)⟩
   clear x1 e1
   go_wp2
   go_ret
   exact ⟨rfl, V8.out⟩
theorem New1.row {w0 w : World} {cf : Cf} {zs : List Int} {F : Nat → Prop} {uo : Option Addr} {uc : Nat} (x : New1 w0 w cf zs F uo uc) (hl : zs.length = cf.text) (hb : Bytes zs) (ht : 1 ≤ cf.text ∧ cf.text ≤ 4096) : ∃ p rest, uo = some ⟨p, 0, none⟩ ∧ Blk w p 5 (u8s zs ++ rest) ∧ cf.text ≤ uc ∧ w0.heap.size ≤ p ∧ p < w.heap.size ∧ ¬ F p := by
 obtain ⟨B, h1, h2, h3⟩ := x
 obtain ⟨p, cap, e1, hrow, hp⟩ := own_row hl (by omega) h1
 obtain ⟨uo', uc', e2, su, huc, -⟩ := own_sliceP h1 hl hb ht.2
 cases e1
 cases e2
 obtain ⟨rest, hrow⟩ := hrow
 have := h3 p 0 rfl
 exact ⟨p, rest, rfl, by unfold Blk; rw [hrow]; simp [u8s], huc, by omega, this.2.1, this.2.2⟩
theorem change_two (g : Nat) (v : SlV) (h : Nat) (cf : Cf) (n : Nm) (txt : Nat → List Int) (F : Nat → Prop) (a b bp cp W : Nat) (caps : Array Value) (za zb : List Int) (w : World) (x : PagS w v.p h cf n.ord n txt F) (hs : SlAt w g v) (hg : ¬ F g) (hbp : w.cell? ⟨bp, 0, none⟩ = some (.int .i64 (a : Int))) (hbp2 : w.cell? ⟨bp, 1, none⟩ = some (.int .i64 (b : Int))) (hbl : bp < w.heap.size ∧ ¬ F bp)
  (ha : a < cf.pages) (hb : b < cf.pages) (hol : n.ord.length ≤ cf.win) (hlog : n.log.length < 800000000) (hwr : n.writes < 800000000) (hent : ∀ args W', (callFunc W args).run Tryz.prog W' = .ok (.enter W args) W') (hz : za.length = cf.text ∧ Bytes za ∧ zb.length = cf.text ∧ Bytes zb)
  (HW : ∀ w1 F1 ua ca ub cb T tc ra rb, Ev F F1 w w1 → (¬ F1 ua ∧ ¬ F1 ub ∧ ua ≠ ub) → Blk w1 ua 5 (u8s (txt a) ++ ra) → Blk w1 ub 5 (u8s (txt b) ++ rb) → w1.cell? ⟨T, 0, none⟩ = some (.slice (some ⟨ua, 0, none⟩) cf.text ca) → w1.cell? ⟨T, 1, none⟩ = some (.slice (some ⟨ub, 0, none⟩) cf.text cb) → cf.text ≤ ca → cf.text ≤ cb → w.heap.size ≤ ua → w.heap.size ≤ ub → T < w1.heap.size → T ≠ ua → T ≠ ub → Calls Tryz.prog W (#[.slice (some ⟨T, 0, none⟩) 2 tc] ++ caps) w1 fun e w' => e = .returned (.tuple #[]) ∧ Blk w' ua 5 (u8s za ++ ra) ∧ Blk w' ub 5 (u8s zb ++ rb) ∧ Kept (fun k => k = ua ∨ k = ub) w1 w') :
  Calls Tryz.prog 64 #[.pointer (some ⟨g, 0, none⟩), .func (.func W) #[] caps, .slice (some ⟨bp, 0, none⟩) 2 cp] w fun e w' => e = .returned (.int .i64 0) ∧ ∃ F', PagS w' v.p h cf ((((n.load cf a).load cf b).save cf a).save cf b).ord ((((n.load cf a).load cf b).save cf a).save cf b) (upn (upn txt a za) b zb) F' ∧ Ev F F' w w' := by
 have hll := load_len cf n a hol x.good.win.1
 have hlm := load_len cf (n.load cf a) b hll.1 x.good.win.1
 have htx := x.good.text
 have HTL : Hid (∀ q, (txt q).length = cf.text ∧ Bytes (txt q)) := by
  obtain ⟨gh, gp, v', fh, fp, szp, Mh, s, Mt, y, hf, ha⟩ := x
  exact y.tl
 have X0 : Hid (PagS w v.p h cf n.ord n txt F ∧ SlAt w g v ∧ ¬ F g ∧ w.cell? ⟨bp, 0, none⟩ = some (.int .i64 (a : Int)) ∧ w.cell? ⟨bp, 1, none⟩ = some (.int .i64 (b : Int)) ∧ bp < w.heap.size ∧ ¬ F bp) := ⟨x, hs, hg, hbp, hbp2, hbl⟩
 have HE : Hid (∀ args W', (callFunc W args).run Tryz.prog W' = .ok (.enter W args) W') := hent
 go_enter Tryz.func64, Tryz.ntmps64
 go_wp2_with (first | (refine wpList_boxV rfl 43 _ rfl (.pointer (some ⟨g, 0, none⟩)) rfl rfl ?_; intro w1 b1 s1 l1; have S1 : Hid (w1.heap.size = w.heap.size + 1) := s1; clear s1) | (refine wpList_boxV rfl 122 _ rfl (.func (.func W) #[] caps) rfl rfl ?_; intro w2 b2 s2 l2; have S2 : Hid (w2.heap.size = w1.heap.size + 1) := s2; clear s2) | (refine wpList_boxV rfl 133 _ rfl (.slice (some ⟨bp, 0, none⟩) 2 cp) rfl rfl ?_; intro w3 b3 s3 l3; have S3 : Hid (w3.heap.size = w2.heap.size + 1) := s3; clear s3; have c1 : w3.cell? ⟨w.heap.size, 0, none⟩ = some (.pointer (some ⟨g, 0, none⟩)) := blk_c0 ((b1.later l2 b1.lt).later l3 (by have := S1.out; have := S2.out; omega)); have c2 : w3.cell? ⟨w1.heap.size, 0, none⟩ = some (.func (.func W) #[] caps) := blk_c0 (b2.later l3 (by have := S2.out; omega)); have c3 : w3.cell? ⟨w2.heap.size, 0, none⟩ = some (.slice (some ⟨bp, 0, none⟩) 2 cp) := blk_c0 b3))
 have hs1 := S1.out
 have hs2 := S2.out
 have hs3 := S3.out
 have L3 : Below w.heap.size w w3 := below_chain (below_chain l1 l2 (by omega)) l3 (by omega)
 have CO := open_two g v h cf n txt F a b bp cp 87 #[.pointer (some ⟨w1.heap.size, 0, none⟩), .pointer (some ⟨w2.heap.size, 0, none⟩), .pointer (some ⟨w.heap.size, 0, none⟩)] (fun er w' => er = 0 ∧ ∃ F', PagS w' v.p h cf ((((n.load cf a).load cf b).save cf a).save cf b).ord ((((n.load cf a).load cf b).save cf a).save cf b) (upn (upn txt a za) b zb) F' ∧ Ev F F' w w') w3 (x.later L3) (hs.later L3 hs.lt) hg ((L3.cell (p := ⟨bp, 0, none⟩) hbl.1).trans hbp) ((L3.cell (p := ⟨bp, 1, none⟩) hbl.1).trans hbp2) ⟨by omega, hbl.2⟩ ha hb hol (by omega) (by omega) enter_chg1 (fun w4 F4 uoa ca uob cb T tc ev x4 na nb hne t4 => by
  obtain ⟨ua, ra, rfl, ba, hca, hua, hual, nfa⟩ := na.row (HTL.out a).1 (HTL.out a).2 htx
  obtain ⟨ub, rb, rfl, bb, hcb, hub, hubl, nfb⟩ := nb.row (HTL.out b).1 (HTL.out b).2 htx
  have hab : ua ≠ ub := hne ua 0 ub 0 rfl rfl
  obtain ⟨tc', ho⟩ := t4.own
  have ct0 := ho.cellAt 0 (by simp)
  have ct1 := ho.cellAt 1 (by simp)
  have hTa : T ≠ ua := fun e => by obtain ⟨B1, q1, _⟩ := na; exact ne_type q1 ho e.symm
  have hTb : T ≠ ub := fun e => by obtain ⟨B1, q1, _⟩ := nb; exact ne_type q1 ho e.symm
  have hF0 := x.all
  have nF : ∀ k, w.heap.size ≤ k → ¬ F k := fun k hk hF => by have := hF0 k hF; omega
  have n4 : ∀ k, k < w3.heap.size → ¬ F k → ¬ F4 k := fun k hk hn hF => (ev.new k hF).elim hn (fun e => by omega)
  have hev : Ev F F4 w w4 := (Ev.below L3).trans ev
  have hsz := ev.kept.size
  have hgl := hs.lt
  have cc : C2 w4 g v w2.heap.size w.heap.size bp cp T a b cf ua ca ub cb := ⟨⟨kept_cell ev.kept _ _ (by omega) (nF _ (by omega)) c3, by omega⟩, ⟨kept_cell ev.kept _ _ (by omega) (nF _ (by omega)) c1, by omega⟩, kept_cell ev.kept _ _ (by omega) hbl.2 ((L3.cell (p := ⟨bp, 0, none⟩) hbl.1).trans hbp), kept_cell ev.kept _ _ (by omega) hbl.2 ((L3.cell (p := ⟨bp, 1, none⟩) hbl.1).trans hbp2), by omega, ct0, ct1, t4.lt, (hs.later L3 hs.lt).kept ev.kept hg⟩
  show Calls Tryz.prog 87 #[.slice (some ⟨T, 0, none⟩) 2 tc, .pointer (some ⟨w1.heap.size, 0, none⟩), .pointer (some ⟨w2.heap.size, 0, none⟩), .pointer (some ⟨w.heap.size, 0, none⟩)] w4 _
  refine (chg1_two g v h cf ((n.load cf a).load cf b) txt F4 a b w1.heap.size w2.heap.size w.heap.size bp cp W caps ua ca ub cb T tc za zb ra rb w4 x4 cc (kept_cell ev.kept _ _ (by omega) (nF _ (by omega)) c2) ⟨n4 _ (by omega) (nF _ (by omega)), n4 _ (by omega) (nF _ (by omega)), n4 _ (by omega) hbl.2, t4.nF, n4 _ (by omega) hg⟩ (fun k hk => by
   rcases hk with rfl | rfl
   ·exact ⟨nfa, by omega, by omega, by omega, hTa, by omega⟩
   ·exact ⟨nfb, by omega, by omega, by omega, hTb, by omega⟩) hz HE.out (HW w4 F4 ua ca ub cb T tc ra rb hev ⟨nfa, nfb, hab⟩ ba bb ct0 ct1 hca hcb (by omega) (by omega) t4.lt hTa hTb) ha hb hlm.1 (by omega) (by omega)).mono ?_
  rintro e w5 ⟨rfl, F5, x5, k5, n5⟩
  refine ⟨0, rfl, rfl, F5, x5, ⟨⟨k5.os.trans hev.kept.os, k5.tape.trans hev.kept.tape, k5.output.trans hev.kept.output, Nat.le_trans hev.kept.size k5.size, fun k hk hn => ?_⟩, fun k hk => ?_⟩⟩
  ·rw [k5.block k (Nat.lt_of_lt_of_le hk hev.kept.size) (fun e => by
    rcases e with e | e | e
    ·exact (hev.new k e).elim hn (fun e => by omega)
    ·omega
    ·omega), hev.kept.block k hk hn]
  ·rcases n5 k hk with e | e
   ·exact hev.new k e
   ·exact .inr (Nat.le_trans hev.kept.size e))
 have HCO : Hid (Calls Tryz.prog 51 #[.pointer (some ⟨g, 0, none⟩), .func (.func 87) #[] #[.pointer (some ⟨w1.heap.size, 0, none⟩), .pointer (some ⟨w2.heap.size, 0, none⟩), .pointer (some ⟨w.heap.size, 0, none⟩)], .slice (some ⟨bp, 0, none⟩) 2 cp] w3 fun e w' => ∃ er, e = .returned (.int .i64 er) ∧ er = 0 ∧ ∃ F', PagS w' v.p h cf ((((n.load cf a).load cf b).save cf a).save cf b).ord ((((n.load cf a).load cf b).save cf a).save cf b) (upn (upn txt a za) b zb) F' ∧ Ev F F' w w') := CO
 clear CO hs1 hs2 hs3 L3 c1 c2 c3 b1 b2 b3 l1 l2 l3
 go_at_call 51
 refine HCO.out.mono ?_
 first | rintro e w8 er rfl rfl F8 x8 e8 | rintro e w8 ⟨_, rfl, rfl, F8, x8, e8⟩
 have V8 : Hid (PagS w8 v.p h cf ((((n.load cf a).load cf b).save cf a).save cf b).ord ((((n.load cf a).load cf b).save cf a).save cf b) (upn (upn txt a za) b zb) F8 ∧ Ev F F8 w w8) := ⟨x8, e8⟩
 clear x8 e8 x hs hg hbp hbp2 hbl ha hb hol hlog hwr hent hz HW hll hlm htx
 go_wp2
 go_ret
 exact ⟨rfl, F8, V8.out⟩
structure P1 (w : World) (tn g : Nat) (v : SlV) (i j gs gi gj gf ua ub T t ca cb : Nat) (fv : Value) (za zb : List Int) (ra rb : List Value) : Prop where
 s0 : w.cell? ⟨gs, 0, none⟩ = some (.pointer (some ⟨g, 0, none⟩))
 i0 : w.cell? ⟨gi, 0, none⟩ = some (.int .i64 (i : Int))
 j0 : w.cell? ⟨gj, 0, none⟩ = some (.int .i64 (j : Int))
 f0 : w.cell? ⟨gf, 0, none⟩ = some fv
 t0 : w.cell? ⟨T, 0, none⟩ = some (.slice (some ⟨ua, 0, none⟩) t ca)
 t1 : w.cell? ⟨T, tn - 1, none⟩ = some (.slice (some ⟨ub, 0, none⟩) t cb)
 sl : SlAt w g v
 ba : Blk w ua 5 (u8s za ++ ra)
 bb : Blk w ub 5 (u8s zb ++ rb)
 lt : gs < w.heap.size ∧ gi < w.heap.size ∧ gj < w.heap.size ∧ gf < w.heap.size ∧ T < w.heap.size
theorem P1.later {w w' : World} {tn g : Nat} {v : SlV} {i j gs gi gj gf ua ub T t ca cb : Nat} {fv : Value} {za zb : List Int} {ra rb : List Value} (x : P1 w tn g v i j gs gi gj gf ua ub T t ca cb fv za zb ra rb) (hb : Below w.heap.size w w') : P1 w' tn g v i j gs gi gj gf ua ub T t ca cb fv za zb ra rb :=
 ⟨(hb.cell (p := ⟨gs, 0, none⟩) x.lt.1).trans x.s0, (hb.cell (p := ⟨gi, 0, none⟩) x.lt.2.1).trans x.i0, (hb.cell (p := ⟨gj, 0, none⟩) x.lt.2.2.1).trans x.j0, (hb.cell (p := ⟨gf, 0, none⟩) x.lt.2.2.2.1).trans x.f0, (hb.cell (p := ⟨T, 0, none⟩) x.lt.2.2.2.2).trans x.t0, (hb.cell (p := ⟨T, tn - 1, none⟩) x.lt.2.2.2.2).trans x.t1, x.sl.later hb x.sl.lt, x.ba.later hb x.ba.lt, x.bb.later hb x.bb.lt,
  ⟨Nat.lt_of_lt_of_le x.lt.1 hb.size, Nat.lt_of_lt_of_le x.lt.2.1 hb.size, Nat.lt_of_lt_of_le x.lt.2.2.1 hb.size, Nat.lt_of_lt_of_le x.lt.2.2.2.1 hb.size, Nat.lt_of_lt_of_le x.lt.2.2.2.2 hb.size⟩⟩
theorem till_both {md : Region.Mode} {ops : Array Oper} {Q : Exit → Act → World → Prop} {c : Nat} {S : World → Prop} {oi oj : Oper} {n : Nat} {l : Array Bool} {a : Act} {w : World} (i j : Nat) (hr : Region.ready md ops l = [i, j]) (hi : ops[i]? = some oi) (hj : ops[j]? = some oj)
  (h1 : ∀ K : Act → World → Prop, (∀ a' w', S w' ∧ wpTill md ops Q c S n (l.setIfInBounds i true) a' w' → K a' w') → if Region.wanted oi (yielded ops a.tmps) = true then Oper.wp Tryz.prog oi a w K Q else K (a.put oi.dst undef) w)
  (h2 : ∀ K : Act → World → Prop, (∀ a' w', S w' ∧ wpTill md ops Q c S n (l.setIfInBounds j true) a' w' → K a' w') → if Region.wanted oj (yielded ops a.tmps) = true then Oper.wp Tryz.prog oj a w K Q else K (a.put oj.dst undef) w) : wpTill md ops Q c S (n + 1) l a w := by
 refine ⟨fun h0 => (by rw [h0] at hr; cases hr), fun k hk => ?_⟩
 rw [hr] at hk
 have hk2 : k = i ∨ k = j := by simpa using hk
 rcases hk2 with e | e
 ·subst e; exact wpOp_step hi fun K hK => h1 K (fun a' w' h' => hK a' w' ⟨fun _ _ => h'.1, h'.2⟩)
 ·subst e; exact wpOp_step hj fun K hK => h2 K (fun a' w' h' => hK a' w' ⟨fun _ _ => h'.1, h'.2⟩)
theorem step_make_new {ops : Array Oper} {o : Oper} {a : Act} {w : World} {K : Act → World → Prop} {Q : Exit → Act → World → Prop} {E : Prop} (hgd : o.guard = none) (x y : Operand) (ho : o.op = .makeSlice 37 x y) (n : Nat) (hn : n ≤ 1048576) (hx : a.eval x = .int .i64 (n : Int)) (hy : a.eval y = .int .i64 (n : Int)) (dst : Option Tmp) (hdst : o.dst = dst)
  (h : ∀ w', Blk w' w.heap.size 5 (u8s (List.replicate n 0)) → w'.heap.size = w.heap.size + 1 → Below w.heap.size w w' → K (a.put dst (.slice (some ⟨w.heap.size, 0, none⟩) n n)) w') :
  if Region.wanted o (yielded ops a.tmps) = true then Oper.wp Tryz.prog o a w K Q else E := by
 subst hdst
 have hw : Region.wanted o (yielded ops a.tmps) = true := by simp [Region.wanted, hgd]
 rw [if_pos hw]
 unfold Oper.wp execOp
 simp only [ho, hx, hy, Sem.run_bind, mk_bytes n hn w, Sem.run_pure, Result.andThen_ok]
 exact h _ (by have := made_blk w (.int .u8 0) n 5; simpa [u8s] using this) (by simp) ((Below.refl _ _).alloc (Nat.le_refl _) _)
theorem wpList_doV2 {ops : Array Oper} {rest : List Oper} {o : Oper} {a : Act} {Q : Exit → Act → World → Prop} {w : World} (hgd : o.guard = none) (t x y : Operand) (ats : Array TypeId) (ho : o.op = .call { callee := .value t, args := #[x, y], argTypes := ats }) (F : Nat) (caps : Array Value) (ht : a.eval t = .func (.func F) #[] caps) (fv gv : Value) (hx : a.eval x = fv) (hy : a.eval y = gv)
  (hent : (callFunc F (#[fv, gv] ++ caps)).run Tryz.prog w = .ok (.enter F (#[fv, gv] ++ caps)) w) (R : Value → World → Prop) (C : Calls Tryz.prog F (#[fv, gv] ++ caps) w fun e w' => ∃ r, e = .returned r ∧ R r w') (h : ∀ r w', R r w' → wpList Tryz.prog ops Q rest (a.put o.dst r) w') : wpList Tryz.prog ops Q (o :: rest) a w := by
 refine wpList_plain hgd fun K hK => ?_
 unfold Oper.wp execOp
 simp only [ho, resolve, Sem.run_bind, Sem.run_pure, Result.andThen_ok, List.map_toArray, List.map_cons, List.map_nil, ht, hx, hy, invoke, Deferred.ofValue, List.nil_append, Array.append_empty, Array.empty_append, hent]
 rw [Oper.upon_enter]
 exact C.mono (fun e w' hh => by
  obtain ⟨r, h1, h2⟩ := hh
  subst h1
  exact hK _ _ (h _ _ h2))
theorem blk_seen {w : World} {g p m : Nat} {zs : List Int} {rest : List Value} (h : Blk w g 5 (u8s zs ++ rest)) (hp : p + m ≤ zs.length) (ht : m ≤ 140737488355328) (hb : Bytes zs) : Seen w (some ⟨g, p, none⟩) m ((zs.drop p).take m) := seen_sub (w := w) (g := g) (zs := zs) ⟨rest, h⟩ hp ht hb
theorem putL_u8 (zs : List Int) (k : Nat) (bs : List Int) (s : Nat) (h : bs.length = s) : u8s (putL zs k bs) = u8s (zs.take k) ++ (u8s bs ++ u8s (zs.drop (k + s))) := by
 rw [putL, h, u8s_append, u8s_append, List.append_assoc]
structure TP (w : World) (gs g s : Nat) : Prop where
 a : w.cell? ⟨gs, 0, none⟩ = some (.pointer (some ⟨g, 0, none⟩))
 b : w.cell? ⟨g, 3, none⟩ = some (.int .i64 (s : Int))
def FPair (w : World) (B : FuncId) (caps : Array Value) (s : Nat) (A B0 A' B' : List Int) : Prop :=
 ∀ W ga gb, Below w.heap.size w W → w.heap.size ≤ ga → w.heap.size ≤ gb → ga ≠ gb → Blk W ga 5 (u8s A) → Blk W gb 5 (u8s B0) →
  Calls Tryz.prog B (#[.slice (some ⟨ga, 0, none⟩) s s, .slice (some ⟨gb, 0, none⟩) s s] ++ caps) W fun e W' => (∃ v, e = .returned v) ∧ Blk W' ga 5 (u8s A') ∧ Blk W' gb 5 (u8s B') ∧ Kept (fun b => b = ga ∨ b = gb) W W'
theorem pair1_two (g : Nat) (v : SlV) (i j gs gi gj gf ua ub T tc t ca cb : Nat) (B : FuncId) (caps : Array Value) (za zb A' B' : List Int) (ra rb : List Value) (w : World) (x : P1 w 2 g v i j gs gi gj gf ua ub T t ca cb (.func (.func B) #[] caps) za zb ra rb) (he : 1 ≤ v.each) (hfi : i % v.each * v.size + v.size ≤ t) (hfj : j % v.each * v.size + v.size ≤ t) (ht : t ≤ 4096) (hca : t ≤ ca) (hcb : t ≤ cb) (hi : i ≤ 1000000000) (hj : j ≤ 1000000000) (hv : 1 ≤ v.size) (hza : za.length = t) (hzb : zb.length = t) (hba : Bytes za) (hbb : Bytes zb)
  (hent : ∀ args W, (callFunc B args).run Tryz.prog W = .ok (.enter B args) W) (hA : A'.length = v.size ∧ Bytes A' ∧ B'.length = v.size ∧ Bytes B') (HF : FPair w B caps v.size ((za.drop (i % v.each * v.size)).take v.size) ((zb.drop (j % v.each * v.size)).take v.size) A' B') (hab : ua ≠ ub) :
  Calls Tryz.prog 75 #[.slice (some ⟨T, 0, none⟩) 2 tc, .pointer (some ⟨gs, 0, none⟩), .pointer (some ⟨gi, 0, none⟩), .pointer (some ⟨gj, 0, none⟩), .pointer (some ⟨gf, 0, none⟩)] w fun e w' => e = .returned (.tuple #[]) ∧ Blk w' ua 5 (u8s (putL za (i % v.each * v.size) A') ++ ra) ∧ Blk w' ub 5 (u8s (putL zb (j % v.each * v.size) B') ++ rb) ∧ Kept (fun b => b = ua ∨ b = ub) w w' := by
 have H : Hid (P1 w 2 g v i j gs gi gj gf ua ub T t ca cb (.func (.func B) #[] caps) za zb ra rb) := x
 have N : Hid (1 ≤ v.each ∧ i % v.each * v.size + v.size ≤ t ∧ j % v.each * v.size + v.size ≤ t ∧ t ≤ 4096 ∧ t ≤ ca ∧ t ≤ cb ∧ i ≤ 1000000000 ∧ j ≤ 1000000000 ∧ 1 ≤ v.size ∧ za.length = t ∧ zb.length = t) := ⟨he, hfi, hfj, ht, hca, hcb, hi, hj, hv, hza, hzb⟩
 have HZ : Hid (Bytes za ∧ Bytes zb ∧ A'.length = v.size ∧ Bytes A' ∧ B'.length = v.size ∧ Bytes B') := ⟨hba, hbb, hA⟩
 have HFF : Hid (FPair w B caps v.size ((za.drop (i % v.each * v.size)).take v.size) ((zb.drop (j % v.each * v.size)).take v.size) A' B') := HF
 have HE : Hid (∀ args W, (callFunc B args).run Tryz.prog W = .ok (.enter B args) W) := hent
 clear x he hfi hfj ht hca hcb hi hj hv hza hzb hba hbb hA HF hent
 go_enter Tryz.func75, Tryz.ntmps75
 go_wp2_with fail
 refine region_invP 15 ((.val (.pointer (some ⟨g, 0, none⟩))) :: (.val (.int .i64 (i : Int))) :: (.val (.slice (some ⟨T, 0, none⟩) 2 tc)) :: (.val (.pointer (some ⟨T, 0, none⟩))) :: (.val (.slice (some ⟨ua, 0, none⟩) t ca)) :: (.val (.slice (some ⟨ua, i % v.each * v.size, none⟩) v.size (ca - i % v.each * v.size))) :: (.val (.pointer (some ⟨g, 0, none⟩))) :: (.val (.int .i64 (j : Int))) :: (.val (.slice (some ⟨T, 0, none⟩) 2 tc)) :: (.val (.slice (some ⟨T, 0, none⟩) 2 tc)) :: (.val (.int .i64 2)) :: (.val (.int .i64 1)) :: (.val (.pointer (some ⟨T, 1, none⟩))) :: (.val (.slice (some ⟨ub, 0, none⟩) t cb)) :: (.val (.slice (some ⟨ub, j % v.each * v.size, none⟩) v.size (cb - j % v.each * v.size))) :: []) (by kernel_rfl) (by kernel_rfl) (by kernel_rfl) [] ⟨.inl rfl, .inl rfl, .inl rfl, .inl rfl, .inl rfl, .inl rfl, .inl rfl, .inl rfl, .inl rfl, .inl rfl, .inl rfl, .inl rfl, .inl rfl, .inl rfl, .inl rfl, trivial⟩ (by kernel_rfl) ?_ ?_
 ·refine Steps'.cons ?_ (Steps'.cons ?_ (Steps'.cons ?_ (Steps'.cons ?_ (Steps'.cons ?_ (Steps'.cons ?_ (Steps'.cons ?_ (Steps'.cons ?_ (Steps'.cons ?_ (Steps'.cons ?_ (Steps'.cons ?_ (Steps'.cons ?_ (Steps'.cons ?_ (Steps'.cons ?_ (Steps'.cons ?_ (Steps'.one _ _ _ _ _ _ _)))))))))))))))
  ·intro ax wx hb hs hd
   have h1 : ax.tmps.getD 1 undef = (.pointer (some ⟨gs, 0, none⟩)) := hs 1 (by kernel_rfl)
   have c0 : wx.cell? ⟨gs, 0, none⟩ = some (.pointer (some ⟨g, 0, none⟩)) := (H.out.later hb).s0
   exact Does.value _ (by clear hs hd; go_simp) rfl
  ·intro ax wx hb hs hd
   have h2 : ax.tmps.getD 2 undef = (.pointer (some ⟨gi, 0, none⟩)) := hs 2 (by kernel_rfl)
   have c0 : wx.cell? ⟨gi, 0, none⟩ = some (.int .i64 (i : Int)) := (H.out.later hb).i0
   exact Does.value _ (by clear hs hd; go_simp) rfl
  ·intro ax wx hb hs hd
   have h0 : ax.tmps.getD 0 undef = (.slice (some ⟨T, 0, none⟩) 2 tc) := hs 0 (by kernel_rfl)
   exact Does.value _ (by clear hs hd; go_simp) rfl
  ·intro ax wx hb hs hd
   have h12 := sqV (hd 2 12 rfl (by kernel_rfl) (by decide))
   exact Does.value _ (by clear hs hd; go_simp) rfl
  ·intro ax wx hb hs hd
   have h13 := sqV (hd 3 13 rfl (by kernel_rfl) (by decide))
   have c0 : wx.cell? ⟨T, 0, none⟩ = some (.slice (some ⟨ua, 0, none⟩) t ca) := (H.out.later hb).t0
   exact Does.value _ (by clear hs hd; go_simp) rfl
  ·intro ax wx hb hs hd
   have h10 := sqV (hd 0 10 rfl (by kernel_rfl) (by decide))
   have h11 := sqV (hd 1 11 rfl (by kernel_rfl) (by decide))
   have h14 := sqV (hd 4 14 rfl (by kernel_rfl) (by decide))
   refine Does.call 53 #[(.pointer (some ⟨g, 0, none⟩)), .int .i64 (i : Int), (.slice (some ⟨ua, 0, none⟩) t ca)] (by clear hs hd; go_simp) ?_
   have Y := H.out.later hb
   refine (place_any g v i _ t ca wx Y.sl N.out.1 N.out.2.1 N.out.2.2.2.1 N.out.2.2.2.2.1 N.out.2.2.2.2.2.2.1).mono ?_
   rintro e w' ⟨rfl, l⟩
   exact ⟨_, rfl, by show Value.slice _ _ _ = _; rw [subA_some _ _ _ (by have := N.out; omega)], l⟩
  ·intro ax wx hb hs hd
   have h1 : ax.tmps.getD 1 undef = (.pointer (some ⟨gs, 0, none⟩)) := hs 1 (by kernel_rfl)
   have c0 : wx.cell? ⟨gs, 0, none⟩ = some (.pointer (some ⟨g, 0, none⟩)) := (H.out.later hb).s0
   exact Does.value _ (by clear hs hd; go_simp) rfl
  ·intro ax wx hb hs hd
   have h3 : ax.tmps.getD 3 undef = (.pointer (some ⟨gj, 0, none⟩)) := hs 3 (by kernel_rfl)
   have c0 : wx.cell? ⟨gj, 0, none⟩ = some (.int .i64 (j : Int)) := (H.out.later hb).j0
   exact Does.value _ (by clear hs hd; go_simp) rfl
  ·intro ax wx hb hs hd
   have h0 : ax.tmps.getD 0 undef = (.slice (some ⟨T, 0, none⟩) 2 tc) := hs 0 (by kernel_rfl)
   exact Does.value _ (by clear hs hd; go_simp) rfl
  ·intro ax wx hb hs hd
   have h0 : ax.tmps.getD 0 undef = (.slice (some ⟨T, 0, none⟩) 2 tc) := hs 0 (by kernel_rfl)
   exact Does.value _ (by clear hs hd; go_simp) rfl
  ·intro ax wx hb hs hd
   have h19 := sqV (hd 9 19 rfl (by kernel_rfl) (by decide))
   exact Does.value _ (by clear hs hd; go_simp) rfl
  ·intro ax wx hb hs hd
   have h20 := sqV (hd 10 20 rfl (by kernel_rfl) (by decide))
   have e1 : IntKind.i64.wrap 1 = 1 := by decide
   exact Does.value _ (by clear hs hd; go_simp) rfl
  ·intro ax wx hb hs hd
   have h18 := sqV (hd 8 18 rfl (by kernel_rfl) (by decide))
   have h21 := sqV (hd 11 21 rfl (by kernel_rfl) (by decide))
   exact Does.value _ (by clear hs hd; go_simp) rfl
  ·intro ax wx hb hs hd
   have h22 := sqV (hd 12 22 rfl (by kernel_rfl) (by decide))
   have c0 : wx.cell? ⟨T, 1, none⟩ = some (.slice (some ⟨ub, 0, none⟩) t cb) := (H.out.later hb).t1
   exact Does.value _ (by clear hs hd; go_simp) rfl
  ·intro ax wx hb hs hd
   have h16 := sqV (hd 6 16 rfl (by kernel_rfl) (by decide))
   have h17 := sqV (hd 7 17 rfl (by kernel_rfl) (by decide))
   have h23 := sqV (hd 13 23 rfl (by kernel_rfl) (by decide))
   refine Does.call 53 #[(.pointer (some ⟨g, 0, none⟩)), .int .i64 (j : Int), (.slice (some ⟨ub, 0, none⟩) t cb)] (by clear hs hd; go_simp) ?_
   have Y := H.out.later hb
   refine (place_any g v j _ t cb wx Y.sl N.out.1 N.out.2.2.1 N.out.2.2.2.1 N.out.2.2.2.2.2.1 N.out.2.2.2.2.2.2.2.1).mono ?_
   rintro e w' ⟨rfl, l⟩
   exact ⟨_, rfl, by show Value.slice _ _ _ = _; rw [subA_some _ _ _ (by have := N.out; omega)], l⟩
 ·intro wx hb
  iterate 15 refine @EndsP.val _ _ _ _ _ _ _ _ _ rfl ?_
  intro hD nf hn
  obtain ⟨mf, rfl⟩ : ∃ mf, nf = mf + 2 := ⟨nf - 2, by have h3 : 2 ≤ nf := hn; omega⟩
  clear hD hn
  simp only [Act.put, sqA, sqB, sqC]
  refine take_op 15 (some 6) (.slice (some ⟨ua, i % v.each * v.size, none⟩) v.size (ca - i % v.each * v.size)) rfl rfl (by kernel_rfl) (by kernel_rfl) (by kernel_rfl) (fun _ _ _ h => h) (by rfl) (fun W' => by go_simp) ?_
  simp only [Act.put, sqA, sqB, sqC]
  refine take_op 16 (some 7) (.slice (some ⟨ub, j % v.each * v.size, none⟩) v.size (cb - j % v.each * v.size)) rfl rfl (by kernel_rfl) (by kernel_rfl) (by kernel_rfl) (fun _ _ _ h => h) (by rfl) (fun W' => by go_simp) ?_
  simp only [Act.put, sqA, sqB, sqC]
  refine wpAny_done (by kernel_rfl) (NoPanic.normal ?_) _
  have L0 : Hid (Below w.heap.size w wx) := hb
  have Y := H.out.later hb
  have YX : Hid (P1 wx 2 g v i j gs gi gj gf ua ub T t ca cb (.func (.func B) #[] caps) za zb ra rb) := Y
  have TT : Hid (∀ W, Below wx.heap.size wx W → TP W gs g v.size) := fun W hW => ⟨(hW.cell (p := ⟨gs, 0, none⟩) Y.lt.1).trans Y.s0, (hW.cell (p := ⟨g, 3, none⟩) Y.sl.lt).trans (Y.sl.cellS 3 _ rfl)⟩
  clear hb Y
  go_wp2_with fail
  refine wp_region_noPanic (till_region 11 (fun W => TP W gs g v.size) (by kernel_rfl) ?_)
  obtain ⟨wy, hwy⟩ : ∃ q, ({ heap := wx.heap, tape := wx.tape, drawn := wx.drawn + 1, os := wx.os, output := wx.output } : World) = q := ⟨_, rfl⟩
  have LY : Hid (Below wx.heap.size wx wy) := by rw [← hwy]; exact ⟨rfl, rfl, rfl, Nat.le_refl _, fun _ _ => rfl⟩
  rw [hwy]
  clear hwy
  have hS := TT.out wy LY.out
  refine tLoad 0 (some 25) (.pointer (some ⟨g, 0, none⟩)) rfl rfl (by kernel_rfl) (by kernel_rfl) (by kernel_rfl) (by decide) (by kernel_rfl) (by kernel_rfl) (fun _ _ _ h => h) (by rfl) (fun W' hS' => by have s1 := hS'.a; go_simp) hS ?_
  simp only [Act.put, sqA, sqB, sqC]
  refine tTake 1 (some 26) (.pointer (some ⟨g, 0, none⟩)) rfl rfl (by kernel_rfl) (by kernel_rfl) (by kernel_rfl) (by decide) (fun _ _ _ h => h) (by rfl) (fun W' => by go_simp) hS ?_
  simp only [Act.put, sqA, sqB, sqC]
  refine tTake 2 (some 27) (.pointer (some ⟨g, 3, none⟩)) rfl rfl (by kernel_rfl) (by kernel_rfl) (by kernel_rfl) (by decide) (fun _ _ _ h => h) (by rfl) (fun W' => by go_simp) hS ?_
  simp only [Act.put, sqA, sqB, sqC]
  refine tLoad 3 (some 28) (.int .i64 (v.size : Int)) rfl rfl (by kernel_rfl) (by kernel_rfl) (by kernel_rfl) (by decide) (by kernel_rfl) (by kernel_rfl) (fun _ _ _ h => h) (by rfl) (fun W' hS' => by have s1 := hS'.b; go_simp) hS ?_
  simp only [Act.put, sqA, sqB, sqC]
  refine tLoad 5 (some 30) (.pointer (some ⟨g, 0, none⟩)) rfl rfl (by kernel_rfl) (by kernel_rfl) (by kernel_rfl) (by decide) (by kernel_rfl) (by kernel_rfl) (fun _ _ _ h => h) (by rfl) (fun W' hS' => by have s1 := hS'.a; go_simp) hS ?_
  simp only [Act.put, sqA, sqB, sqC]
  refine tTake 6 (some 31) (.pointer (some ⟨g, 0, none⟩)) rfl rfl (by kernel_rfl) (by kernel_rfl) (by kernel_rfl) (by decide) (fun _ _ _ h => h) (by rfl) (fun W' => by go_simp) hS ?_
  simp only [Act.put, sqA, sqB, sqC]
  refine tTake 7 (some 32) (.pointer (some ⟨g, 3, none⟩)) rfl rfl (by kernel_rfl) (by kernel_rfl) (by kernel_rfl) (by decide) (fun _ _ _ h => h) (by rfl) (fun W' => by go_simp) hS ?_
  simp only [Act.put, sqA, sqB, sqC]
  refine tLoad 8 (some 33) (.int .i64 (v.size : Int)) rfl rfl (by kernel_rfl) (by kernel_rfl) (by kernel_rfl) (by decide) (by kernel_rfl) (by kernel_rfl) (fun _ _ _ h => h) (by rfl) (fun W' hS' => by have s1 := hS'.b; go_simp) hS ?_
  simp only [Act.put, sqA, sqB, sqC]
  clear hS
  refine till_both 4 9 (by kernel_rfl) rfl rfl (fun K hK => ?_) (fun K hK => ?_)
  ·refine step_make_new rfl (.tmp 28) (.tmp 28) rfl v.size (by have := N.out; omega) rfl rfl (some 29) rfl ?_
   intro w2 b2 s2 l2
   obtain ⟨ga, hga⟩ : ∃ ga, wy.heap.size = ga := ⟨_, rfl⟩
   have M2 : Hid (Blk w2 ga 5 (u8s (List.replicate v.size 0)) ∧ Below wy.heap.size wy w2 ∧ ga < w2.heap.size ∧ wx.heap.size ≤ ga) := ⟨by rw [← hga]; exact b2, l2, by omega, by have := LY.out.size; omega⟩
   rw [hga]
   clear b2 s2 l2 hga
   have hS := TT.out w2 (LY.out.trans (M2.out.2.1.mono LY.out.size))
   refine hK _ _ ⟨hS, ?_⟩
   simp only [Act.put, sqA, sqB, sqC]
   refine tTake 10 (some 8) (.slice (some ⟨ga, 0, none⟩) v.size v.size) rfl rfl (by kernel_rfl) (by kernel_rfl) (by kernel_rfl) (by decide) (fun _ _ _ h => h) (by rfl) (fun W' => by go_simp) hS ?_
   simp only [Act.put, sqA, sqB, sqC]
   clear hS
   refine till_ready 9 (by kernel_rfl) rfl (fun K hK => ?_)
   refine step_make_new rfl (.tmp 33) (.tmp 33) rfl v.size (by have := N.out; omega) rfl rfl (some 34) rfl ?_
   intro w3 b3 s3 l3
   obtain ⟨gb, hgb⟩ : ∃ gb, w2.heap.size = gb := ⟨_, rfl⟩
   have M3 : Hid (Blk w3 ga 5 (u8s (List.replicate v.size 0)) ∧ Blk w3 gb 5 (u8s (List.replicate v.size 0)) ∧ Below wx.heap.size wx w3 ∧ ga ≠ gb ∧ wx.heap.size ≤ ga ∧ wx.heap.size ≤ gb ∧ ga < w3.heap.size ∧ gb < w3.heap.size) := by
    have h2 := M2.out
    have hy := LY.out.size
    exact ⟨h2.1.later l3 h2.1.lt, by rw [← hgb]; exact b3, (LY.out.trans (h2.2.1.mono hy)).trans (l3.mono (by have := h2.2.1.size; omega)), by omega, h2.2.2.2, by omega, by omega, by omega⟩
   rw [hgb]
   clear b3 s3 l3 hgb
   refine hK _ _ ⟨TT.out w3 M3.out.2.2.1, ?_⟩
   simp only [Act.put, sqA, sqB, sqC]
   clear hK K
   refine till_at (by kernel_rfl) ?_
   refine wpAny_ready (rs := [11]) (by kernel_rfl) (by simp) (AllReady.cons rfl (fun K hK => ?_) AllReady.nil)
   rw [if_pos (by rfl)]
   refine last_assign (.tmp 34) rfl (some 9) rfl (.slice (some ⟨gb, 0, none⟩) v.size v.size) rfl ?_
   refine hK _ _ ?_
   simp only [Act.put, sqA, sqB, sqC]
   refine wpAny_done (by kernel_rfl) (NoPanic.normal ?_) _
   go_wp2_with (first | ((with_reducible show wpList _ _ _ (({ dst := some 37, op := _, type := _, pos := _, after := _, guard := _ } : Oper) :: _) _ _); refine wpList_copy_seen rfl (.tmp 35) (.tmp 36) rfl ga 0 v.size v.size (some ⟨ga, 0, none⟩) (some ⟨ua, i % v.each * v.size, none⟩) v.size (ca - i % v.each * v.size) rfl rfl ((za.drop (i % v.each * v.size)).take v.size) (blk_seen (YX.out.later M3.out.2.2.1).ba (by have := N.out; omega) (by have := N.out; omega) HZ.out.1) 5 [] (u8s (List.replicate v.size 0)) [] (by simpa using M3.out.1) rfl v.size (Nat.min_self _) (by simp [u8s]) (fun _ => rfl) ?_; intro w4 b4 s4 k4; have B4 : Hid (Blk w4 ga 5 (u8s ((za.drop (i % v.each * v.size)).take v.size)) ∧ Blk w4 gb 5 (u8s (List.replicate v.size 0)) ∧ Below wx.heap.size wx w4) := ⟨by rw [List.take_of_length_le (by simp; omega)] at b4; simpa using b4, M3.out.2.1.kept k4 (fun e => M3.out.2.2.2.1 e.symm), M3.out.2.2.1.trans (k4.below M3.out.2.2.1.size (fun k e => by rw [show k = ga from e]; exact M3.out.2.2.2.2.1))⟩; clear b4 s4 k4) | ((with_reducible show wpList _ _ _ (({ dst := some 40, op := _, type := _, pos := _, after := _, guard := _ } : Oper) :: _) _ _); refine wpList_copy_seen rfl (.tmp 38) (.tmp 39) rfl gb 0 v.size v.size (some ⟨gb, 0, none⟩) (some ⟨ub, j % v.each * v.size, none⟩) v.size (cb - j % v.each * v.size) rfl rfl ((zb.drop (j % v.each * v.size)).take v.size) (blk_seen (YX.out.later B4.out.2.2).bb (by have := N.out; omega) (by have := N.out; omega) HZ.out.2.1) 5 [] (u8s (List.replicate v.size 0)) [] (by simpa using B4.out.2.1) rfl v.size (Nat.min_self _) (by simp [u8s]) (fun _ => rfl) ?_; intro w5 b5 s5 k5; have B5 : Hid (Blk w5 ga 5 (u8s ((za.drop (i % v.each * v.size)).take v.size)) ∧ Blk w5 gb 5 (u8s ((zb.drop (j % v.each * v.size)).take v.size)) ∧ Below wx.heap.size wx w5) := ⟨B4.out.1.kept k5 (fun e => M3.out.2.2.2.1 e), by rw [List.take_of_length_le (by simp; omega)] at b5; simpa using b5, B4.out.2.2.trans (k5.below B4.out.2.2.size (fun k e => by rw [show k = gb from e]; exact M3.out.2.2.2.2.2.1))⟩; clear b5 s5 k5; have cf5 : w5.cell? ⟨gf, 0, none⟩ = some (.func (.func B) #[] caps) := (YX.out.later B5.out.2.2).f0) | ((with_reducible show wpList _ _ _ (({ dst := some 44, op := _, type := _, pos := _, after := _, guard := _ } : Oper) :: _) _ _); refine wpList_doV2 rfl (.tmp 41) (.tmp 42) (.tmp 43) _ rfl B caps rfl _ _ rfl rfl (HE.out _ _) (fun r w' => Blk w' ga 5 (u8s A') ∧ Blk w' gb 5 (u8s B') ∧ Kept (fun b => b = ga ∨ b = gb) w5 w') ((HFF.out w5 ga gb (L0.out.trans (B5.out.2.2.mono L0.out.size)) (Nat.le_trans L0.out.size M3.out.2.2.2.2.1) (Nat.le_trans L0.out.size M3.out.2.2.2.2.2.1) M3.out.2.2.2.1 B5.out.1 B5.out.2.1).mono (fun e w' hh => by obtain ⟨⟨r, h1⟩, h2, h3, h4⟩ := hh; exact ⟨r, h1, h2, h3, h4⟩)) ?_; rintro r w6 ⟨b6, c6, k6⟩; have B6 : Hid (Blk w6 ga 5 (u8s A') ∧ Blk w6 gb 5 (u8s B') ∧ Below wx.heap.size wx w6) := ⟨b6, c6, B5.out.2.2.trans (k6.below B5.out.2.2.size (fun k e => by rcases e with e | e; (rw [e]; exact M3.out.2.2.2.2.1); (rw [e]; exact M3.out.2.2.2.2.2.1)))⟩; clear b6 c6 k6 cf5) | ((with_reducible show wpList _ _ _ (({ dst := some 47, op := _, type := _, pos := _, after := _, guard := _ } : Oper) :: _) _ _); refine wpList_copy_seen rfl (.tmp 45) (.tmp 46) rfl ua (i % v.each * v.size) v.size (ca - i % v.each * v.size) (some ⟨ua, i % v.each * v.size, none⟩) (some ⟨ga, 0, none⟩) v.size v.size rfl rfl A' (by have := seen_blk B6.out.1 HZ.out.2.2.2.1 (by have := N.out; have := HZ.out.2.2.1; omega); rw [HZ.out.2.2.1] at this; exact this) 5 (u8s (za.take (i % v.each * v.size))) (u8s ((za.drop (i % v.each * v.size)).take v.size)) (u8s (za.drop ((i % v.each * v.size) + v.size)) ++ ra) (cut_row N.out.2.1 N.out.2.2.2.2.2.2.2.2.2.1 (YX.out.later B6.out.2.2).ba) (by rw [u8s_length, List.length_take]; have := N.out; omega) v.size (Nat.min_self _) (by rw [u8s_length, List.length_take, List.length_drop]; have := N.out; omega) (fun _ => rfl) ?_; intro w7 b7 s7 k7; have hux : ua < wx.heap.size := YX.out.ba.lt; have B7 : Hid (Blk w7 ua 5 (u8s (putL za (i % v.each * v.size) A') ++ ra) ∧ Blk w7 gb 5 (u8s B') ∧ Kept (fun b => b = ua) w6 w7) := ⟨by rw [show A'.take v.size = A' from List.take_of_length_le (by have := HZ.out.2.2.1; omega)] at b7; rw [putL, HZ.out.2.2.1, u8s_append, u8s_append]; simpa using b7, B6.out.2.1.kept k7 (fun e => by have := M3.out.2.2.2.2.2.1; omega), k7⟩; clear b7 s7 k7 hux) | ((with_reducible show wpList _ _ _ (({ dst := some 50, op := _, type := _, pos := _, after := _, guard := _ } : Oper) :: _) _ _); refine wpList_copy_seen rfl (.tmp 48) (.tmp 49) rfl ub (j % v.each * v.size) v.size (cb - j % v.each * v.size) (some ⟨ub, j % v.each * v.size, none⟩) (some ⟨gb, 0, none⟩) v.size v.size rfl rfl B' (by have := seen_blk B7.out.2.1 HZ.out.2.2.2.2.2 (by have := N.out; have := HZ.out.2.2.2.2.1; omega); rw [HZ.out.2.2.2.2.1] at this; exact this) 5 (u8s (zb.take (j % v.each * v.size))) (u8s ((zb.drop (j % v.each * v.size)).take v.size)) (u8s (zb.drop ((j % v.each * v.size) + v.size)) ++ rb) (cut_row N.out.2.2.1 N.out.2.2.2.2.2.2.2.2.2.2 ((YX.out.later B6.out.2.2).bb.kept B7.out.2.2 (fun e => hab e.symm))) (by rw [u8s_length, List.length_take, N.out.2.2.2.2.2.2.2.2.2.2]; have := N.out; omega) v.size (Nat.min_self _) (by rw [u8s_length, List.length_take, List.length_drop, N.out.2.2.2.2.2.2.2.2.2.2]; have := N.out; omega) (fun _ => rfl) ?_; intro w8 b8 s8 k8; have B8 : Hid (Blk w8 ua 5 (u8s (putL za (i % v.each * v.size) A') ++ ra) ∧ Blk w8 ub 5 (u8s (putL zb (j % v.each * v.size) B') ++ rb) ∧ Kept (fun b => b = ua ∨ b = ub) w w8) := ⟨B7.out.1.kept k8 (fun e => hab e), by rw [show B'.take v.size = B' from List.take_of_length_le (by have := HZ.out.2.2.2.2.1; omega)] at b8; rw [putL, HZ.out.2.2.2.2.1, u8s_append, u8s_append]; simpa using b8, ((Kept.new _ (L0.out.trans (B6.out.2.2.mono L0.out.size))).trans (B7.out.2.2.mono (fun k e => .inl e))).trans (k8.mono (fun k e => .inr e))⟩; clear b8 s8 k8))
   go_end0
   exact ⟨rfl, B8.out⟩
  ·refine step_make_new rfl (.tmp 33) (.tmp 33) rfl v.size (by have := N.out; omega) rfl rfl (some 34) rfl ?_
   intro w2 b2 s2 l2
   obtain ⟨gb, hgb⟩ : ∃ gb, wy.heap.size = gb := ⟨_, rfl⟩
   have M2 : Hid (Blk w2 gb 5 (u8s (List.replicate v.size 0)) ∧ Below wy.heap.size wy w2 ∧ gb < w2.heap.size ∧ wx.heap.size ≤ gb) := ⟨by rw [← hgb]; exact b2, l2, by omega, by have := LY.out.size; omega⟩
   rw [hgb]
   clear b2 s2 l2 hgb
   refine hK _ _ ⟨TT.out w2 (LY.out.trans (M2.out.2.1.mono LY.out.size)), ?_⟩
   simp only [Act.put, sqA, sqB, sqC]
   refine till_ready 4 (by kernel_rfl) rfl (fun K hK => ?_)
   refine step_make_new rfl (.tmp 28) (.tmp 28) rfl v.size (by have := N.out; omega) rfl rfl (some 29) rfl ?_
   intro w3 b3 s3 l3
   obtain ⟨ga, hga⟩ : ∃ ga, w2.heap.size = ga := ⟨_, rfl⟩
   have M3 : Hid (Blk w3 ga 5 (u8s (List.replicate v.size 0)) ∧ Blk w3 gb 5 (u8s (List.replicate v.size 0)) ∧ Below wx.heap.size wx w3 ∧ ga ≠ gb ∧ wx.heap.size ≤ ga ∧ wx.heap.size ≤ gb ∧ ga < w3.heap.size ∧ gb < w3.heap.size) := by
    have h2 := M2.out
    have hy := LY.out.size
    exact ⟨by rw [← hga]; exact b3, h2.1.later l3 h2.1.lt, (LY.out.trans (h2.2.1.mono hy)).trans (l3.mono (by have := h2.2.1.size; omega)), by omega, by omega, h2.2.2.2, by omega, by omega⟩
   rw [hga]
   clear b3 s3 l3 hga
   have hS := TT.out w3 M3.out.2.2.1
   refine hK _ _ ⟨hS, ?_⟩
   simp only [Act.put, sqA, sqB, sqC]
   clear hK K
   refine tTake 10 (some 8) (.slice (some ⟨ga, 0, none⟩) v.size v.size) rfl rfl (by kernel_rfl) (by kernel_rfl) (by kernel_rfl) (by decide) (fun _ _ _ h => h) (by rfl) (fun W' => by go_simp) hS ?_
   simp only [Act.put, sqA, sqB, sqC]
   clear hS
   refine till_at (by kernel_rfl) ?_
   refine wpAny_ready (rs := [11]) (by kernel_rfl) (by simp) (AllReady.cons rfl (fun K hK => ?_) AllReady.nil)
   rw [if_pos (by rfl)]
   refine last_assign (.tmp 34) rfl (some 9) rfl (.slice (some ⟨gb, 0, none⟩) v.size v.size) rfl ?_
   refine hK _ _ ?_
   simp only [Act.put, sqA, sqB, sqC]
   refine wpAny_done (by kernel_rfl) (NoPanic.normal ?_) _
   go_wp2_with (first | ((with_reducible show wpList _ _ _ (({ dst := some 37, op := _, type := _, pos := _, after := _, guard := _ } : Oper) :: _) _ _); refine wpList_copy_seen rfl (.tmp 35) (.tmp 36) rfl ga 0 v.size v.size (some ⟨ga, 0, none⟩) (some ⟨ua, i % v.each * v.size, none⟩) v.size (ca - i % v.each * v.size) rfl rfl ((za.drop (i % v.each * v.size)).take v.size) (blk_seen (YX.out.later M3.out.2.2.1).ba (by have := N.out; omega) (by have := N.out; omega) HZ.out.1) 5 [] (u8s (List.replicate v.size 0)) [] (by simpa using M3.out.1) rfl v.size (Nat.min_self _) (by simp [u8s]) (fun _ => rfl) ?_; intro w4 b4 s4 k4; have B4 : Hid (Blk w4 ga 5 (u8s ((za.drop (i % v.each * v.size)).take v.size)) ∧ Blk w4 gb 5 (u8s (List.replicate v.size 0)) ∧ Below wx.heap.size wx w4) := ⟨by rw [List.take_of_length_le (by simp; omega)] at b4; simpa using b4, M3.out.2.1.kept k4 (fun e => M3.out.2.2.2.1 e.symm), M3.out.2.2.1.trans (k4.below M3.out.2.2.1.size (fun k e => by rw [show k = ga from e]; exact M3.out.2.2.2.2.1))⟩; clear b4 s4 k4) | ((with_reducible show wpList _ _ _ (({ dst := some 40, op := _, type := _, pos := _, after := _, guard := _ } : Oper) :: _) _ _); refine wpList_copy_seen rfl (.tmp 38) (.tmp 39) rfl gb 0 v.size v.size (some ⟨gb, 0, none⟩) (some ⟨ub, j % v.each * v.size, none⟩) v.size (cb - j % v.each * v.size) rfl rfl ((zb.drop (j % v.each * v.size)).take v.size) (blk_seen (YX.out.later B4.out.2.2).bb (by have := N.out; omega) (by have := N.out; omega) HZ.out.2.1) 5 [] (u8s (List.replicate v.size 0)) [] (by simpa using B4.out.2.1) rfl v.size (Nat.min_self _) (by simp [u8s]) (fun _ => rfl) ?_; intro w5 b5 s5 k5; have B5 : Hid (Blk w5 ga 5 (u8s ((za.drop (i % v.each * v.size)).take v.size)) ∧ Blk w5 gb 5 (u8s ((zb.drop (j % v.each * v.size)).take v.size)) ∧ Below wx.heap.size wx w5) := ⟨B4.out.1.kept k5 (fun e => M3.out.2.2.2.1 e), by rw [List.take_of_length_le (by simp; omega)] at b5; simpa using b5, B4.out.2.2.trans (k5.below B4.out.2.2.size (fun k e => by rw [show k = gb from e]; exact M3.out.2.2.2.2.2.1))⟩; clear b5 s5 k5; have cf5 : w5.cell? ⟨gf, 0, none⟩ = some (.func (.func B) #[] caps) := (YX.out.later B5.out.2.2).f0) | ((with_reducible show wpList _ _ _ (({ dst := some 44, op := _, type := _, pos := _, after := _, guard := _ } : Oper) :: _) _ _); refine wpList_doV2 rfl (.tmp 41) (.tmp 42) (.tmp 43) _ rfl B caps rfl _ _ rfl rfl (HE.out _ _) (fun r w' => Blk w' ga 5 (u8s A') ∧ Blk w' gb 5 (u8s B') ∧ Kept (fun b => b = ga ∨ b = gb) w5 w') ((HFF.out w5 ga gb (L0.out.trans (B5.out.2.2.mono L0.out.size)) (Nat.le_trans L0.out.size M3.out.2.2.2.2.1) (Nat.le_trans L0.out.size M3.out.2.2.2.2.2.1) M3.out.2.2.2.1 B5.out.1 B5.out.2.1).mono (fun e w' hh => by obtain ⟨⟨r, h1⟩, h2, h3, h4⟩ := hh; exact ⟨r, h1, h2, h3, h4⟩)) ?_; rintro r w6 ⟨b6, c6, k6⟩; have B6 : Hid (Blk w6 ga 5 (u8s A') ∧ Blk w6 gb 5 (u8s B') ∧ Below wx.heap.size wx w6) := ⟨b6, c6, B5.out.2.2.trans (k6.below B5.out.2.2.size (fun k e => by rcases e with e | e; (rw [e]; exact M3.out.2.2.2.2.1); (rw [e]; exact M3.out.2.2.2.2.2.1)))⟩; clear b6 c6 k6 cf5) | ((with_reducible show wpList _ _ _ (({ dst := some 47, op := _, type := _, pos := _, after := _, guard := _ } : Oper) :: _) _ _); refine wpList_copy_seen rfl (.tmp 45) (.tmp 46) rfl ua (i % v.each * v.size) v.size (ca - i % v.each * v.size) (some ⟨ua, i % v.each * v.size, none⟩) (some ⟨ga, 0, none⟩) v.size v.size rfl rfl A' (by have := seen_blk B6.out.1 HZ.out.2.2.2.1 (by have := N.out; have := HZ.out.2.2.1; omega); rw [HZ.out.2.2.1] at this; exact this) 5 (u8s (za.take (i % v.each * v.size))) (u8s ((za.drop (i % v.each * v.size)).take v.size)) (u8s (za.drop ((i % v.each * v.size) + v.size)) ++ ra) (cut_row N.out.2.1 N.out.2.2.2.2.2.2.2.2.2.1 (YX.out.later B6.out.2.2).ba) (by rw [u8s_length, List.length_take]; have := N.out; omega) v.size (Nat.min_self _) (by rw [u8s_length, List.length_take, List.length_drop]; have := N.out; omega) (fun _ => rfl) ?_; intro w7 b7 s7 k7; have hux : ua < wx.heap.size := YX.out.ba.lt; have B7 : Hid (Blk w7 ua 5 (u8s (putL za (i % v.each * v.size) A') ++ ra) ∧ Blk w7 gb 5 (u8s B') ∧ Kept (fun b => b = ua) w6 w7) := ⟨by rw [show A'.take v.size = A' from List.take_of_length_le (by have := HZ.out.2.2.1; omega)] at b7; rw [putL, HZ.out.2.2.1, u8s_append, u8s_append]; simpa using b7, B6.out.2.1.kept k7 (fun e => by have := M3.out.2.2.2.2.2.1; omega), k7⟩; clear b7 s7 k7 hux) | ((with_reducible show wpList _ _ _ (({ dst := some 50, op := _, type := _, pos := _, after := _, guard := _ } : Oper) :: _) _ _); refine wpList_copy_seen rfl (.tmp 48) (.tmp 49) rfl ub (j % v.each * v.size) v.size (cb - j % v.each * v.size) (some ⟨ub, j % v.each * v.size, none⟩) (some ⟨gb, 0, none⟩) v.size v.size rfl rfl B' (by have := seen_blk B7.out.2.1 HZ.out.2.2.2.2.2 (by have := N.out; have := HZ.out.2.2.2.2.1; omega); rw [HZ.out.2.2.2.2.1] at this; exact this) 5 (u8s (zb.take (j % v.each * v.size))) (u8s ((zb.drop (j % v.each * v.size)).take v.size)) (u8s (zb.drop ((j % v.each * v.size) + v.size)) ++ rb) (cut_row N.out.2.2.1 N.out.2.2.2.2.2.2.2.2.2.2 ((YX.out.later B6.out.2.2).bb.kept B7.out.2.2 (fun e => hab e.symm))) (by rw [u8s_length, List.length_take, N.out.2.2.2.2.2.2.2.2.2.2]; have := N.out; omega) v.size (Nat.min_self _) (by rw [u8s_length, List.length_take, List.length_drop, N.out.2.2.2.2.2.2.2.2.2.2]; have := N.out; omega) (fun _ => rfl) ?_; intro w8 b8 s8 k8; have B8 : Hid (Blk w8 ua 5 (u8s (putL za (i % v.each * v.size) A') ++ ra) ∧ Blk w8 ub 5 (u8s (putL zb (j % v.each * v.size) B') ++ rb) ∧ Kept (fun b => b = ua ∨ b = ub) w w8) := ⟨B7.out.1.kept k8 (fun e => hab e), by rw [show B'.take v.size = B' from List.take_of_length_le (by have := HZ.out.2.2.2.2.1; omega)] at b8; rw [putL, HZ.out.2.2.2.2.1, u8s_append, u8s_append]; simpa using b8, ((Kept.new _ (L0.out.trans (B6.out.2.2.mono L0.out.size))).trans (B7.out.2.2.mono (fun k e => .inl e))).trans (k8.mono (fun k e => .inr e))⟩; clear b8 s8 k8))
   go_end0
   exact ⟨rfl, B8.out⟩
theorem pair1_one (g : Nat) (v : SlV) (i j gs gi gj gf ua ub T tc t ca cb : Nat) (B : FuncId) (caps : Array Value) (za zb A' B' : List Int) (ra rb : List Value) (w : World) (x : P1 w 1 g v i j gs gi gj gf ua ub T t ca cb (.func (.func B) #[] caps) za zb ra rb) (he : 1 ≤ v.each) (hfi : i % v.each * v.size + v.size ≤ t) (hfj : j % v.each * v.size + v.size ≤ t) (ht : t ≤ 4096) (hca : t ≤ ca) (hcb : t ≤ cb) (hi : i ≤ 1000000000) (hj : j ≤ 1000000000) (hv : 1 ≤ v.size) (hza : za.length = t) (hzb : zb.length = t) (hba : Bytes za) (hbb : Bytes zb)
  (hent : ∀ args W, (callFunc B args).run Tryz.prog W = .ok (.enter B args) W) (hA : A'.length = v.size ∧ Bytes A' ∧ B'.length = v.size ∧ Bytes B') (HF : FPair w B caps v.size ((za.drop (i % v.each * v.size)).take v.size) ((zb.drop (j % v.each * v.size)).take v.size) A' B') (hab : ua = ub ∧ za = zb ∧ ra = rb) :
  Calls Tryz.prog 75 #[.slice (some ⟨T, 0, none⟩) 1 tc, .pointer (some ⟨gs, 0, none⟩), .pointer (some ⟨gi, 0, none⟩), .pointer (some ⟨gj, 0, none⟩), .pointer (some ⟨gf, 0, none⟩)] w fun e w' => e = .returned (.tuple #[]) ∧ Blk w' ua 5 (u8s (putL (putL za (i % v.each * v.size) A') (j % v.each * v.size) B') ++ ra) ∧ Kept (fun b => b = ua) w w' := by
 obtain ⟨rfl, rfl, rfl⟩ := hab
 have H : Hid (P1 w 1 g v i j gs gi gj gf ua ua T t ca cb (.func (.func B) #[] caps) za za ra ra) := x
 have N : Hid (1 ≤ v.each ∧ i % v.each * v.size + v.size ≤ t ∧ j % v.each * v.size + v.size ≤ t ∧ t ≤ 4096 ∧ t ≤ ca ∧ t ≤ cb ∧ i ≤ 1000000000 ∧ j ≤ 1000000000 ∧ 1 ≤ v.size ∧ za.length = t ∧ za.length = t) := ⟨he, hfi, hfj, ht, hca, hcb, hi, hj, hv, hza, hzb⟩
 have HZ : Hid (Bytes za ∧ Bytes za ∧ A'.length = v.size ∧ Bytes A' ∧ B'.length = v.size ∧ Bytes B') := ⟨hba, hbb, hA⟩
 have HFF : Hid (FPair w B caps v.size ((za.drop (i % v.each * v.size)).take v.size) ((za.drop (j % v.each * v.size)).take v.size) A' B') := HF
 have HE : Hid (∀ args W, (callFunc B args).run Tryz.prog W = .ok (.enter B args) W) := hent
 clear x he hfi hfj ht hca hcb hi hj hv hza hzb hba hbb hA HF hent
 go_enter Tryz.func75, Tryz.ntmps75
 go_wp2_with fail
 refine region_invP 15 ((.val (.pointer (some ⟨g, 0, none⟩))) :: (.val (.int .i64 (i : Int))) :: (.val (.slice (some ⟨T, 0, none⟩) 1 tc)) :: (.val (.pointer (some ⟨T, 0, none⟩))) :: (.val (.slice (some ⟨ua, 0, none⟩) t ca)) :: (.val (.slice (some ⟨ua, i % v.each * v.size, none⟩) v.size (ca - i % v.each * v.size))) :: (.val (.pointer (some ⟨g, 0, none⟩))) :: (.val (.int .i64 (j : Int))) :: (.val (.slice (some ⟨T, 0, none⟩) 1 tc)) :: (.val (.slice (some ⟨T, 0, none⟩) 1 tc)) :: (.val (.int .i64 1)) :: (.val (.int .i64 0)) :: (.val (.pointer (some ⟨T, 0, none⟩))) :: (.val (.slice (some ⟨ua, 0, none⟩) t cb)) :: (.val (.slice (some ⟨ua, j % v.each * v.size, none⟩) v.size (cb - j % v.each * v.size))) :: []) (by kernel_rfl) (by kernel_rfl) (by kernel_rfl) [] ⟨.inl rfl, .inl rfl, .inl rfl, .inl rfl, .inl rfl, .inl rfl, .inl rfl, .inl rfl, .inl rfl, .inl rfl, .inl rfl, .inl rfl, .inl rfl, .inl rfl, .inl rfl, trivial⟩ (by kernel_rfl) ?_ ?_
 ·refine Steps'.cons ?_ (Steps'.cons ?_ (Steps'.cons ?_ (Steps'.cons ?_ (Steps'.cons ?_ (Steps'.cons ?_ (Steps'.cons ?_ (Steps'.cons ?_ (Steps'.cons ?_ (Steps'.cons ?_ (Steps'.cons ?_ (Steps'.cons ?_ (Steps'.cons ?_ (Steps'.cons ?_ (Steps'.cons ?_ (Steps'.one _ _ _ _ _ _ _)))))))))))))))
  ·intro ax wx hb hs hd
   have h1 : ax.tmps.getD 1 undef = (.pointer (some ⟨gs, 0, none⟩)) := hs 1 (by kernel_rfl)
   have c0 : wx.cell? ⟨gs, 0, none⟩ = some (.pointer (some ⟨g, 0, none⟩)) := (H.out.later hb).s0
   exact Does.value _ (by clear hs hd; go_simp) rfl
  ·intro ax wx hb hs hd
   have h2 : ax.tmps.getD 2 undef = (.pointer (some ⟨gi, 0, none⟩)) := hs 2 (by kernel_rfl)
   have c0 : wx.cell? ⟨gi, 0, none⟩ = some (.int .i64 (i : Int)) := (H.out.later hb).i0
   exact Does.value _ (by clear hs hd; go_simp) rfl
  ·intro ax wx hb hs hd
   have h0 : ax.tmps.getD 0 undef = (.slice (some ⟨T, 0, none⟩) 1 tc) := hs 0 (by kernel_rfl)
   exact Does.value _ (by clear hs hd; go_simp) rfl
  ·intro ax wx hb hs hd
   have h12 := sqV (hd 2 12 rfl (by kernel_rfl) (by decide))
   exact Does.value _ (by clear hs hd; go_simp) rfl
  ·intro ax wx hb hs hd
   have h13 := sqV (hd 3 13 rfl (by kernel_rfl) (by decide))
   have c0 : wx.cell? ⟨T, 0, none⟩ = some (.slice (some ⟨ua, 0, none⟩) t ca) := (H.out.later hb).t0
   exact Does.value _ (by clear hs hd; go_simp) rfl
  ·intro ax wx hb hs hd
   have h10 := sqV (hd 0 10 rfl (by kernel_rfl) (by decide))
   have h11 := sqV (hd 1 11 rfl (by kernel_rfl) (by decide))
   have h14 := sqV (hd 4 14 rfl (by kernel_rfl) (by decide))
   refine Does.call 53 #[(.pointer (some ⟨g, 0, none⟩)), .int .i64 (i : Int), (.slice (some ⟨ua, 0, none⟩) t ca)] (by clear hs hd; go_simp) ?_
   have Y := H.out.later hb
   refine (place_any g v i _ t ca wx Y.sl N.out.1 N.out.2.1 N.out.2.2.2.1 N.out.2.2.2.2.1 N.out.2.2.2.2.2.2.1).mono ?_
   rintro e w' ⟨rfl, l⟩
   exact ⟨_, rfl, by show Value.slice _ _ _ = _; rw [subA_some _ _ _ (by have := N.out; omega)], l⟩
  ·intro ax wx hb hs hd
   have h1 : ax.tmps.getD 1 undef = (.pointer (some ⟨gs, 0, none⟩)) := hs 1 (by kernel_rfl)
   have c0 : wx.cell? ⟨gs, 0, none⟩ = some (.pointer (some ⟨g, 0, none⟩)) := (H.out.later hb).s0
   exact Does.value _ (by clear hs hd; go_simp) rfl
  ·intro ax wx hb hs hd
   have h3 : ax.tmps.getD 3 undef = (.pointer (some ⟨gj, 0, none⟩)) := hs 3 (by kernel_rfl)
   have c0 : wx.cell? ⟨gj, 0, none⟩ = some (.int .i64 (j : Int)) := (H.out.later hb).j0
   exact Does.value _ (by clear hs hd; go_simp) rfl
  ·intro ax wx hb hs hd
   have h0 : ax.tmps.getD 0 undef = (.slice (some ⟨T, 0, none⟩) 1 tc) := hs 0 (by kernel_rfl)
   exact Does.value _ (by clear hs hd; go_simp) rfl
  ·intro ax wx hb hs hd
   have h0 : ax.tmps.getD 0 undef = (.slice (some ⟨T, 0, none⟩) 1 tc) := hs 0 (by kernel_rfl)
   exact Does.value _ (by clear hs hd; go_simp) rfl
  ·intro ax wx hb hs hd
   have h19 := sqV (hd 9 19 rfl (by kernel_rfl) (by decide))
   exact Does.value _ (by clear hs hd; go_simp) rfl
  ·intro ax wx hb hs hd
   have h20 := sqV (hd 10 20 rfl (by kernel_rfl) (by decide))
   have e1 : IntKind.i64.wrap 0 = 0 := by decide
   exact Does.value _ (by clear hs hd; go_simp) rfl
  ·intro ax wx hb hs hd
   have h18 := sqV (hd 8 18 rfl (by kernel_rfl) (by decide))
   have h21 := sqV (hd 11 21 rfl (by kernel_rfl) (by decide))
   exact Does.value _ (by clear hs hd; go_simp) rfl
  ·intro ax wx hb hs hd
   have h22 := sqV (hd 12 22 rfl (by kernel_rfl) (by decide))
   have c0 : wx.cell? ⟨T, 0, none⟩ = some (.slice (some ⟨ua, 0, none⟩) t cb) := (H.out.later hb).t1
   exact Does.value _ (by clear hs hd; go_simp) rfl
  ·intro ax wx hb hs hd
   have h16 := sqV (hd 6 16 rfl (by kernel_rfl) (by decide))
   have h17 := sqV (hd 7 17 rfl (by kernel_rfl) (by decide))
   have h23 := sqV (hd 13 23 rfl (by kernel_rfl) (by decide))
   refine Does.call 53 #[(.pointer (some ⟨g, 0, none⟩)), .int .i64 (j : Int), (.slice (some ⟨ua, 0, none⟩) t cb)] (by clear hs hd; go_simp) ?_
   have Y := H.out.later hb
   refine (place_any g v j _ t cb wx Y.sl N.out.1 N.out.2.2.1 N.out.2.2.2.1 N.out.2.2.2.2.2.1 N.out.2.2.2.2.2.2.2.1).mono ?_
   rintro e w' ⟨rfl, l⟩
   exact ⟨_, rfl, by show Value.slice _ _ _ = _; rw [subA_some _ _ _ (by have := N.out; omega)], l⟩
 ·intro wx hb
  iterate 15 refine @EndsP.val _ _ _ _ _ _ _ _ _ rfl ?_
  intro hD nf hn
  obtain ⟨mf, rfl⟩ : ∃ mf, nf = mf + 2 := ⟨nf - 2, by have h3 : 2 ≤ nf := hn; omega⟩
  clear hD hn
  simp only [Act.put, sqA, sqB, sqC]
  refine take_op 15 (some 6) (.slice (some ⟨ua, i % v.each * v.size, none⟩) v.size (ca - i % v.each * v.size)) rfl rfl (by kernel_rfl) (by kernel_rfl) (by kernel_rfl) (fun _ _ _ h => h) (by rfl) (fun W' => by go_simp) ?_
  simp only [Act.put, sqA, sqB, sqC]
  refine take_op 16 (some 7) (.slice (some ⟨ua, j % v.each * v.size, none⟩) v.size (cb - j % v.each * v.size)) rfl rfl (by kernel_rfl) (by kernel_rfl) (by kernel_rfl) (fun _ _ _ h => h) (by rfl) (fun W' => by go_simp) ?_
  simp only [Act.put, sqA, sqB, sqC]
  refine wpAny_done (by kernel_rfl) (NoPanic.normal ?_) _
  have L0 : Hid (Below w.heap.size w wx) := hb
  have Y := H.out.later hb
  have YX : Hid (P1 wx 1 g v i j gs gi gj gf ua ua T t ca cb (.func (.func B) #[] caps) za za ra ra) := Y
  have TT : Hid (∀ W, Below wx.heap.size wx W → TP W gs g v.size) := fun W hW => ⟨(hW.cell (p := ⟨gs, 0, none⟩) Y.lt.1).trans Y.s0, (hW.cell (p := ⟨g, 3, none⟩) Y.sl.lt).trans (Y.sl.cellS 3 _ rfl)⟩
  clear hb Y
  go_wp2_with fail
  refine wp_region_noPanic (till_region 11 (fun W => TP W gs g v.size) (by kernel_rfl) ?_)
  obtain ⟨wy, hwy⟩ : ∃ q, ({ heap := wx.heap, tape := wx.tape, drawn := wx.drawn + 1, os := wx.os, output := wx.output } : World) = q := ⟨_, rfl⟩
  have LY : Hid (Below wx.heap.size wx wy) := by rw [← hwy]; exact ⟨rfl, rfl, rfl, Nat.le_refl _, fun _ _ => rfl⟩
  rw [hwy]
  clear hwy
  have hS := TT.out wy LY.out
  refine tLoad 0 (some 25) (.pointer (some ⟨g, 0, none⟩)) rfl rfl (by kernel_rfl) (by kernel_rfl) (by kernel_rfl) (by decide) (by kernel_rfl) (by kernel_rfl) (fun _ _ _ h => h) (by rfl) (fun W' hS' => by have s1 := hS'.a; go_simp) hS ?_
  simp only [Act.put, sqA, sqB, sqC]
  refine tTake 1 (some 26) (.pointer (some ⟨g, 0, none⟩)) rfl rfl (by kernel_rfl) (by kernel_rfl) (by kernel_rfl) (by decide) (fun _ _ _ h => h) (by rfl) (fun W' => by go_simp) hS ?_
  simp only [Act.put, sqA, sqB, sqC]
  refine tTake 2 (some 27) (.pointer (some ⟨g, 3, none⟩)) rfl rfl (by kernel_rfl) (by kernel_rfl) (by kernel_rfl) (by decide) (fun _ _ _ h => h) (by rfl) (fun W' => by go_simp) hS ?_
  simp only [Act.put, sqA, sqB, sqC]
  refine tLoad 3 (some 28) (.int .i64 (v.size : Int)) rfl rfl (by kernel_rfl) (by kernel_rfl) (by kernel_rfl) (by decide) (by kernel_rfl) (by kernel_rfl) (fun _ _ _ h => h) (by rfl) (fun W' hS' => by have s1 := hS'.b; go_simp) hS ?_
  simp only [Act.put, sqA, sqB, sqC]
  refine tLoad 5 (some 30) (.pointer (some ⟨g, 0, none⟩)) rfl rfl (by kernel_rfl) (by kernel_rfl) (by kernel_rfl) (by decide) (by kernel_rfl) (by kernel_rfl) (fun _ _ _ h => h) (by rfl) (fun W' hS' => by have s1 := hS'.a; go_simp) hS ?_
  simp only [Act.put, sqA, sqB, sqC]
  refine tTake 6 (some 31) (.pointer (some ⟨g, 0, none⟩)) rfl rfl (by kernel_rfl) (by kernel_rfl) (by kernel_rfl) (by decide) (fun _ _ _ h => h) (by rfl) (fun W' => by go_simp) hS ?_
  simp only [Act.put, sqA, sqB, sqC]
  refine tTake 7 (some 32) (.pointer (some ⟨g, 3, none⟩)) rfl rfl (by kernel_rfl) (by kernel_rfl) (by kernel_rfl) (by decide) (fun _ _ _ h => h) (by rfl) (fun W' => by go_simp) hS ?_
  simp only [Act.put, sqA, sqB, sqC]
  refine tLoad 8 (some 33) (.int .i64 (v.size : Int)) rfl rfl (by kernel_rfl) (by kernel_rfl) (by kernel_rfl) (by decide) (by kernel_rfl) (by kernel_rfl) (fun _ _ _ h => h) (by rfl) (fun W' hS' => by have s1 := hS'.b; go_simp) hS ?_
  simp only [Act.put, sqA, sqB, sqC]
  clear hS
  refine till_both 4 9 (by kernel_rfl) rfl rfl (fun K hK => ?_) (fun K hK => ?_)
  ·refine step_make_new rfl (.tmp 28) (.tmp 28) rfl v.size (by have := N.out; omega) rfl rfl (some 29) rfl ?_
   intro w2 b2 s2 l2
   obtain ⟨ga, hga⟩ : ∃ ga, wy.heap.size = ga := ⟨_, rfl⟩
   have M2 : Hid (Blk w2 ga 5 (u8s (List.replicate v.size 0)) ∧ Below wy.heap.size wy w2 ∧ ga < w2.heap.size ∧ wx.heap.size ≤ ga) := ⟨by rw [← hga]; exact b2, l2, by omega, by have := LY.out.size; omega⟩
   rw [hga]
   clear b2 s2 l2 hga
   have hS := TT.out w2 (LY.out.trans (M2.out.2.1.mono LY.out.size))
   refine hK _ _ ⟨hS, ?_⟩
   simp only [Act.put, sqA, sqB, sqC]
   refine tTake 10 (some 8) (.slice (some ⟨ga, 0, none⟩) v.size v.size) rfl rfl (by kernel_rfl) (by kernel_rfl) (by kernel_rfl) (by decide) (fun _ _ _ h => h) (by rfl) (fun W' => by go_simp) hS ?_
   simp only [Act.put, sqA, sqB, sqC]
   clear hS
   refine till_ready 9 (by kernel_rfl) rfl (fun K hK => ?_)
   refine step_make_new rfl (.tmp 33) (.tmp 33) rfl v.size (by have := N.out; omega) rfl rfl (some 34) rfl ?_
   intro w3 b3 s3 l3
   obtain ⟨gb, hgb⟩ : ∃ gb, w2.heap.size = gb := ⟨_, rfl⟩
   have M3 : Hid (Blk w3 ga 5 (u8s (List.replicate v.size 0)) ∧ Blk w3 gb 5 (u8s (List.replicate v.size 0)) ∧ Below wx.heap.size wx w3 ∧ ga ≠ gb ∧ wx.heap.size ≤ ga ∧ wx.heap.size ≤ gb ∧ ga < w3.heap.size ∧ gb < w3.heap.size) := by
    have h2 := M2.out
    have hy := LY.out.size
    exact ⟨h2.1.later l3 h2.1.lt, by rw [← hgb]; exact b3, (LY.out.trans (h2.2.1.mono hy)).trans (l3.mono (by have := h2.2.1.size; omega)), by omega, h2.2.2.2, by omega, by omega, by omega⟩
   rw [hgb]
   clear b3 s3 l3 hgb
   refine hK _ _ ⟨TT.out w3 M3.out.2.2.1, ?_⟩
   simp only [Act.put, sqA, sqB, sqC]
   clear hK K
   refine till_at (by kernel_rfl) ?_
   refine wpAny_ready (rs := [11]) (by kernel_rfl) (by simp) (AllReady.cons rfl (fun K hK => ?_) AllReady.nil)
   rw [if_pos (by rfl)]
   refine last_assign (.tmp 34) rfl (some 9) rfl (.slice (some ⟨gb, 0, none⟩) v.size v.size) rfl ?_
   refine hK _ _ ?_
   simp only [Act.put, sqA, sqB, sqC]
   refine wpAny_done (by kernel_rfl) (NoPanic.normal ?_) _
   have HLN : Hid ((putL za (i % v.each * v.size) A').length = t) := by
    show _ = _
    rw [putL_length (by have := N.out; have := HZ.out.2.2.1; omega)]; exact N.out.2.2.2.2.2.2.2.2.2.1
   go_wp2_with (first | ((with_reducible show wpList _ _ _ (({ dst := some 37, op := _, type := _, pos := _, after := _, guard := _ } : Oper) :: _) _ _); refine wpList_copy_seen rfl (.tmp 35) (.tmp 36) rfl ga 0 v.size v.size (some ⟨ga, 0, none⟩) (some ⟨ua, i % v.each * v.size, none⟩) v.size (ca - i % v.each * v.size) rfl rfl ((za.drop (i % v.each * v.size)).take v.size) (blk_seen (YX.out.later M3.out.2.2.1).ba (by have := N.out; omega) (by have := N.out; omega) HZ.out.1) 5 [] (u8s (List.replicate v.size 0)) [] (by simpa using M3.out.1) rfl v.size (Nat.min_self _) (by simp [u8s]) (fun _ => rfl) ?_; intro w4 b4 s4 k4; have B4 : Hid (Blk w4 ga 5 (u8s ((za.drop (i % v.each * v.size)).take v.size)) ∧ Blk w4 gb 5 (u8s (List.replicate v.size 0)) ∧ Below wx.heap.size wx w4) := ⟨by rw [List.take_of_length_le (by simp; omega)] at b4; simpa using b4, M3.out.2.1.kept k4 (fun e => M3.out.2.2.2.1 e.symm), M3.out.2.2.1.trans (k4.below M3.out.2.2.1.size (fun k e => by rw [show k = ga from e]; exact M3.out.2.2.2.2.1))⟩; clear b4 s4 k4) | ((with_reducible show wpList _ _ _ (({ dst := some 40, op := _, type := _, pos := _, after := _, guard := _ } : Oper) :: _) _ _); refine wpList_copy_seen rfl (.tmp 38) (.tmp 39) rfl gb 0 v.size v.size (some ⟨gb, 0, none⟩) (some ⟨ua, j % v.each * v.size, none⟩) v.size (cb - j % v.each * v.size) rfl rfl ((za.drop (j % v.each * v.size)).take v.size) (blk_seen (YX.out.later B4.out.2.2).bb (by have := N.out; omega) (by have := N.out; omega) HZ.out.2.1) 5 [] (u8s (List.replicate v.size 0)) [] (by simpa using B4.out.2.1) rfl v.size (Nat.min_self _) (by simp [u8s]) (fun _ => rfl) ?_; intro w5 b5 s5 k5; have B5 : Hid (Blk w5 ga 5 (u8s ((za.drop (i % v.each * v.size)).take v.size)) ∧ Blk w5 gb 5 (u8s ((za.drop (j % v.each * v.size)).take v.size)) ∧ Below wx.heap.size wx w5) := ⟨B4.out.1.kept k5 (fun e => M3.out.2.2.2.1 e), by rw [List.take_of_length_le (by simp; omega)] at b5; simpa using b5, B4.out.2.2.trans (k5.below B4.out.2.2.size (fun k e => by rw [show k = gb from e]; exact M3.out.2.2.2.2.2.1))⟩; clear b5 s5 k5; have cf5 : w5.cell? ⟨gf, 0, none⟩ = some (.func (.func B) #[] caps) := (YX.out.later B5.out.2.2).f0) | ((with_reducible show wpList _ _ _ (({ dst := some 44, op := _, type := _, pos := _, after := _, guard := _ } : Oper) :: _) _ _); refine wpList_doV2 rfl (.tmp 41) (.tmp 42) (.tmp 43) _ rfl B caps rfl _ _ rfl rfl (HE.out _ _) (fun r w' => Blk w' ga 5 (u8s A') ∧ Blk w' gb 5 (u8s B') ∧ Kept (fun b => b = ga ∨ b = gb) w5 w') ((HFF.out w5 ga gb (L0.out.trans (B5.out.2.2.mono L0.out.size)) (Nat.le_trans L0.out.size M3.out.2.2.2.2.1) (Nat.le_trans L0.out.size M3.out.2.2.2.2.2.1) M3.out.2.2.2.1 B5.out.1 B5.out.2.1).mono (fun e w' hh => by obtain ⟨⟨r, h1⟩, h2, h3, h4⟩ := hh; exact ⟨r, h1, h2, h3, h4⟩)) ?_; rintro r w6 ⟨b6, c6, k6⟩; have B6 : Hid (Blk w6 ga 5 (u8s A') ∧ Blk w6 gb 5 (u8s B') ∧ Below wx.heap.size wx w6) := ⟨b6, c6, B5.out.2.2.trans (k6.below B5.out.2.2.size (fun k e => by rcases e with e | e; (rw [e]; exact M3.out.2.2.2.2.1); (rw [e]; exact M3.out.2.2.2.2.2.1)))⟩; clear b6 c6 k6 cf5) | ((with_reducible show wpList _ _ _ (({ dst := some 47, op := _, type := _, pos := _, after := _, guard := _ } : Oper) :: _) _ _); refine wpList_copy_seen rfl (.tmp 45) (.tmp 46) rfl ua (i % v.each * v.size) v.size (ca - i % v.each * v.size) (some ⟨ua, i % v.each * v.size, none⟩) (some ⟨ga, 0, none⟩) v.size v.size rfl rfl A' (by have := seen_blk B6.out.1 HZ.out.2.2.2.1 (by have := N.out; have := HZ.out.2.2.1; omega); rw [HZ.out.2.2.1] at this; exact this) 5 (u8s (za.take (i % v.each * v.size))) (u8s ((za.drop (i % v.each * v.size)).take v.size)) (u8s (za.drop ((i % v.each * v.size) + v.size)) ++ ra) (cut_row N.out.2.1 N.out.2.2.2.2.2.2.2.2.2.1 (YX.out.later B6.out.2.2).ba) (by rw [u8s_length, List.length_take]; have := N.out; omega) v.size (Nat.min_self _) (by rw [u8s_length, List.length_take, List.length_drop]; have := N.out; omega) (fun _ => rfl) ?_; intro w7 b7 s7 k7; have hux : ua < wx.heap.size := YX.out.ba.lt; have B7 : Hid (Blk w7 ua 5 (u8s (putL za (i % v.each * v.size) A') ++ ra) ∧ Blk w7 gb 5 (u8s B') ∧ Kept (fun b => b = ua) w6 w7) := ⟨by rw [show A'.take v.size = A' from List.take_of_length_le (by have := HZ.out.2.2.1; omega)] at b7; rw [putL, HZ.out.2.2.1, u8s_append, u8s_append]; simpa using b7, B6.out.2.1.kept k7 (fun e => by have := M3.out.2.2.2.2.2.1; omega), k7⟩; clear b7 s7 k7 hux) | ((with_reducible show wpList _ _ _ (({ dst := some 50, op := _, type := _, pos := _, after := _, guard := _ } : Oper) :: _) _ _); refine wpList_copy_seen rfl (.tmp 48) (.tmp 49) rfl ua (j % v.each * v.size) v.size (cb - j % v.each * v.size) (some ⟨ua, j % v.each * v.size, none⟩) (some ⟨gb, 0, none⟩) v.size v.size rfl rfl B' (by have := seen_blk B7.out.2.1 HZ.out.2.2.2.2.2 (by have := N.out; have := HZ.out.2.2.2.2.1; omega); rw [HZ.out.2.2.2.2.1] at this; exact this) 5 (u8s ((putL za (i % v.each * v.size) A').take (j % v.each * v.size))) (u8s (((putL za (i % v.each * v.size) A').drop (j % v.each * v.size)).take v.size)) (u8s ((putL za (i % v.each * v.size) A').drop ((j % v.each * v.size) + v.size)) ++ ra) (cut_row N.out.2.2.1 HLN.out B7.out.1) (by rw [u8s_length, List.length_take, HLN.out]; have := N.out; omega) v.size (Nat.min_self _) (by rw [u8s_length, List.length_take, List.length_drop, HLN.out]; have := N.out; omega) (fun _ => rfl) ?_; intro w8 b8 s8 k8; have B8 : Hid (Blk w8 ua 5 (u8s (putL (putL za (i % v.each * v.size) A') (j % v.each * v.size) B') ++ ra) ∧ Kept (fun b => b = ua) w w8) := ⟨by rw [show B'.take v.size = B' from List.take_of_length_le (by have := HZ.out.2.2.2.2.1; omega)] at b8; rw [putL_u8 (putL za (i % v.each * v.size) A') (j % v.each * v.size) B' v.size HZ.out.2.2.2.2.1]; simpa using b8, ((Kept.new _ (L0.out.trans (B6.out.2.2.mono L0.out.size))).trans B7.out.2.2).trans k8⟩; clear b8 s8 k8))
   go_end0
   exact ⟨rfl, B8.out⟩
  ·refine step_make_new rfl (.tmp 33) (.tmp 33) rfl v.size (by have := N.out; omega) rfl rfl (some 34) rfl ?_
   intro w2 b2 s2 l2
   obtain ⟨gb, hgb⟩ : ∃ gb, wy.heap.size = gb := ⟨_, rfl⟩
   have M2 : Hid (Blk w2 gb 5 (u8s (List.replicate v.size 0)) ∧ Below wy.heap.size wy w2 ∧ gb < w2.heap.size ∧ wx.heap.size ≤ gb) := ⟨by rw [← hgb]; exact b2, l2, by omega, by have := LY.out.size; omega⟩
   rw [hgb]
   clear b2 s2 l2 hgb
   refine hK _ _ ⟨TT.out w2 (LY.out.trans (M2.out.2.1.mono LY.out.size)), ?_⟩
   simp only [Act.put, sqA, sqB, sqC]
   refine till_ready 4 (by kernel_rfl) rfl (fun K hK => ?_)
   refine step_make_new rfl (.tmp 28) (.tmp 28) rfl v.size (by have := N.out; omega) rfl rfl (some 29) rfl ?_
   intro w3 b3 s3 l3
   obtain ⟨ga, hga⟩ : ∃ ga, w2.heap.size = ga := ⟨_, rfl⟩
   have M3 : Hid (Blk w3 ga 5 (u8s (List.replicate v.size 0)) ∧ Blk w3 gb 5 (u8s (List.replicate v.size 0)) ∧ Below wx.heap.size wx w3 ∧ ga ≠ gb ∧ wx.heap.size ≤ ga ∧ wx.heap.size ≤ gb ∧ ga < w3.heap.size ∧ gb < w3.heap.size) := by
    have h2 := M2.out
    have hy := LY.out.size
    exact ⟨by rw [← hga]; exact b3, h2.1.later l3 h2.1.lt, (LY.out.trans (h2.2.1.mono hy)).trans (l3.mono (by have := h2.2.1.size; omega)), by omega, by omega, h2.2.2.2, by omega, by omega⟩
   rw [hga]
   clear b3 s3 l3 hga
   have hS := TT.out w3 M3.out.2.2.1
   refine hK _ _ ⟨hS, ?_⟩
   simp only [Act.put, sqA, sqB, sqC]
   clear hK K
   refine tTake 10 (some 8) (.slice (some ⟨ga, 0, none⟩) v.size v.size) rfl rfl (by kernel_rfl) (by kernel_rfl) (by kernel_rfl) (by decide) (fun _ _ _ h => h) (by rfl) (fun W' => by go_simp) hS ?_
   simp only [Act.put, sqA, sqB, sqC]
   clear hS
   refine till_at (by kernel_rfl) ?_
   refine wpAny_ready (rs := [11]) (by kernel_rfl) (by simp) (AllReady.cons rfl (fun K hK => ?_) AllReady.nil)
   rw [if_pos (by rfl)]
   refine last_assign (.tmp 34) rfl (some 9) rfl (.slice (some ⟨gb, 0, none⟩) v.size v.size) rfl ?_
   refine hK _ _ ?_
   simp only [Act.put, sqA, sqB, sqC]
   refine wpAny_done (by kernel_rfl) (NoPanic.normal ?_) _
   have HLN : Hid ((putL za (i % v.each * v.size) A').length = t) := by
    show _ = _
    rw [putL_length (by have := N.out; have := HZ.out.2.2.1; omega)]; exact N.out.2.2.2.2.2.2.2.2.2.1
   go_wp2_with (first | ((with_reducible show wpList _ _ _ (({ dst := some 37, op := _, type := _, pos := _, after := _, guard := _ } : Oper) :: _) _ _); refine wpList_copy_seen rfl (.tmp 35) (.tmp 36) rfl ga 0 v.size v.size (some ⟨ga, 0, none⟩) (some ⟨ua, i % v.each * v.size, none⟩) v.size (ca - i % v.each * v.size) rfl rfl ((za.drop (i % v.each * v.size)).take v.size) (blk_seen (YX.out.later M3.out.2.2.1).ba (by have := N.out; omega) (by have := N.out; omega) HZ.out.1) 5 [] (u8s (List.replicate v.size 0)) [] (by simpa using M3.out.1) rfl v.size (Nat.min_self _) (by simp [u8s]) (fun _ => rfl) ?_; intro w4 b4 s4 k4; have B4 : Hid (Blk w4 ga 5 (u8s ((za.drop (i % v.each * v.size)).take v.size)) ∧ Blk w4 gb 5 (u8s (List.replicate v.size 0)) ∧ Below wx.heap.size wx w4) := ⟨by rw [List.take_of_length_le (by simp; omega)] at b4; simpa using b4, M3.out.2.1.kept k4 (fun e => M3.out.2.2.2.1 e.symm), M3.out.2.2.1.trans (k4.below M3.out.2.2.1.size (fun k e => by rw [show k = ga from e]; exact M3.out.2.2.2.2.1))⟩; clear b4 s4 k4) | ((with_reducible show wpList _ _ _ (({ dst := some 40, op := _, type := _, pos := _, after := _, guard := _ } : Oper) :: _) _ _); refine wpList_copy_seen rfl (.tmp 38) (.tmp 39) rfl gb 0 v.size v.size (some ⟨gb, 0, none⟩) (some ⟨ua, j % v.each * v.size, none⟩) v.size (cb - j % v.each * v.size) rfl rfl ((za.drop (j % v.each * v.size)).take v.size) (blk_seen (YX.out.later B4.out.2.2).bb (by have := N.out; omega) (by have := N.out; omega) HZ.out.2.1) 5 [] (u8s (List.replicate v.size 0)) [] (by simpa using B4.out.2.1) rfl v.size (Nat.min_self _) (by simp [u8s]) (fun _ => rfl) ?_; intro w5 b5 s5 k5; have B5 : Hid (Blk w5 ga 5 (u8s ((za.drop (i % v.each * v.size)).take v.size)) ∧ Blk w5 gb 5 (u8s ((za.drop (j % v.each * v.size)).take v.size)) ∧ Below wx.heap.size wx w5) := ⟨B4.out.1.kept k5 (fun e => M3.out.2.2.2.1 e), by rw [List.take_of_length_le (by simp; omega)] at b5; simpa using b5, B4.out.2.2.trans (k5.below B4.out.2.2.size (fun k e => by rw [show k = gb from e]; exact M3.out.2.2.2.2.2.1))⟩; clear b5 s5 k5; have cf5 : w5.cell? ⟨gf, 0, none⟩ = some (.func (.func B) #[] caps) := (YX.out.later B5.out.2.2).f0) | ((with_reducible show wpList _ _ _ (({ dst := some 44, op := _, type := _, pos := _, after := _, guard := _ } : Oper) :: _) _ _); refine wpList_doV2 rfl (.tmp 41) (.tmp 42) (.tmp 43) _ rfl B caps rfl _ _ rfl rfl (HE.out _ _) (fun r w' => Blk w' ga 5 (u8s A') ∧ Blk w' gb 5 (u8s B') ∧ Kept (fun b => b = ga ∨ b = gb) w5 w') ((HFF.out w5 ga gb (L0.out.trans (B5.out.2.2.mono L0.out.size)) (Nat.le_trans L0.out.size M3.out.2.2.2.2.1) (Nat.le_trans L0.out.size M3.out.2.2.2.2.2.1) M3.out.2.2.2.1 B5.out.1 B5.out.2.1).mono (fun e w' hh => by obtain ⟨⟨r, h1⟩, h2, h3, h4⟩ := hh; exact ⟨r, h1, h2, h3, h4⟩)) ?_; rintro r w6 ⟨b6, c6, k6⟩; have B6 : Hid (Blk w6 ga 5 (u8s A') ∧ Blk w6 gb 5 (u8s B') ∧ Below wx.heap.size wx w6) := ⟨b6, c6, B5.out.2.2.trans (k6.below B5.out.2.2.size (fun k e => by rcases e with e | e; (rw [e]; exact M3.out.2.2.2.2.1); (rw [e]; exact M3.out.2.2.2.2.2.1)))⟩; clear b6 c6 k6 cf5) | ((with_reducible show wpList _ _ _ (({ dst := some 47, op := _, type := _, pos := _, after := _, guard := _ } : Oper) :: _) _ _); refine wpList_copy_seen rfl (.tmp 45) (.tmp 46) rfl ua (i % v.each * v.size) v.size (ca - i % v.each * v.size) (some ⟨ua, i % v.each * v.size, none⟩) (some ⟨ga, 0, none⟩) v.size v.size rfl rfl A' (by have := seen_blk B6.out.1 HZ.out.2.2.2.1 (by have := N.out; have := HZ.out.2.2.1; omega); rw [HZ.out.2.2.1] at this; exact this) 5 (u8s (za.take (i % v.each * v.size))) (u8s ((za.drop (i % v.each * v.size)).take v.size)) (u8s (za.drop ((i % v.each * v.size) + v.size)) ++ ra) (cut_row N.out.2.1 N.out.2.2.2.2.2.2.2.2.2.1 (YX.out.later B6.out.2.2).ba) (by rw [u8s_length, List.length_take]; have := N.out; omega) v.size (Nat.min_self _) (by rw [u8s_length, List.length_take, List.length_drop]; have := N.out; omega) (fun _ => rfl) ?_; intro w7 b7 s7 k7; have hux : ua < wx.heap.size := YX.out.ba.lt; have B7 : Hid (Blk w7 ua 5 (u8s (putL za (i % v.each * v.size) A') ++ ra) ∧ Blk w7 gb 5 (u8s B') ∧ Kept (fun b => b = ua) w6 w7) := ⟨by rw [show A'.take v.size = A' from List.take_of_length_le (by have := HZ.out.2.2.1; omega)] at b7; rw [putL, HZ.out.2.2.1, u8s_append, u8s_append]; simpa using b7, B6.out.2.1.kept k7 (fun e => by have := M3.out.2.2.2.2.2.1; omega), k7⟩; clear b7 s7 k7 hux) | ((with_reducible show wpList _ _ _ (({ dst := some 50, op := _, type := _, pos := _, after := _, guard := _ } : Oper) :: _) _ _); refine wpList_copy_seen rfl (.tmp 48) (.tmp 49) rfl ua (j % v.each * v.size) v.size (cb - j % v.each * v.size) (some ⟨ua, j % v.each * v.size, none⟩) (some ⟨gb, 0, none⟩) v.size v.size rfl rfl B' (by have := seen_blk B7.out.2.1 HZ.out.2.2.2.2.2 (by have := N.out; have := HZ.out.2.2.2.2.1; omega); rw [HZ.out.2.2.2.2.1] at this; exact this) 5 (u8s ((putL za (i % v.each * v.size) A').take (j % v.each * v.size))) (u8s (((putL za (i % v.each * v.size) A').drop (j % v.each * v.size)).take v.size)) (u8s ((putL za (i % v.each * v.size) A').drop ((j % v.each * v.size) + v.size)) ++ ra) (cut_row N.out.2.2.1 HLN.out B7.out.1) (by rw [u8s_length, List.length_take, HLN.out]; have := N.out; omega) v.size (Nat.min_self _) (by rw [u8s_length, List.length_take, List.length_drop, HLN.out]; have := N.out; omega) (fun _ => rfl) ?_; intro w8 b8 s8 k8; have B8 : Hid (Blk w8 ua 5 (u8s (putL (putL za (i % v.each * v.size) A') (j % v.each * v.size) B') ++ ra) ∧ Kept (fun b => b = ua) w w8) := ⟨by rw [show B'.take v.size = B' from List.take_of_length_le (by have := HZ.out.2.2.2.2.1; omega)] at b8; rw [putL_u8 (putL za (i % v.each * v.size) A') (j % v.each * v.size) B' v.size HZ.out.2.2.2.2.1]; simpa using b8, ((Kept.new _ (L0.out.trans (B6.out.2.2.mono L0.out.size))).trans B7.out.2.2).trans k8⟩; clear b8 s8 k8))
   go_end0
   exact ⟨rfl, B8.out⟩
end Go.Proofs.YtpanagghppdiiaaGreat
