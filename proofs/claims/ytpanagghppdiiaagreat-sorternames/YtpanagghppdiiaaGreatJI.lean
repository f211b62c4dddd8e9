/- Joined by program: what the theorem reaches. -/
import Derived.Test.YtpanagghppdiiaaGreatJA
import Derived.Test.YtpanagghppdiiaaGreatJF
import Derived.Test.YtpanagghppdiiaaGreatJG
import Derived.Test.YtpanagghppdiiaaGreatJH
namespace Go.Proofs.YtpanagghppdiiaaGreat
open Go.RowKit
set_option linter.unusedVariables false
set_option linter.unusedSimpArgs false
set_option maxRecDepth 20000
set_option maxHeartbeats 4000000
def addL (hl : List Nat) (q : Nat) : List Nat := if q ∈ hl then hl else q :: hl
theorem mem_addL (hl : List Nat) (q k : Nat) : k ∈ addL hl q ↔ k = q ∨ k ∈ hl := by
  unfold addL
  split
  · constructor
    · exact .inr
    · rintro (rfl | h) <;> assumption
  · simp
def Nm.put (n : Nm) (hl : List Nat) (q : Nat) (z : Int) : Nm := { n with st := upn n.st q z, most := max n.most (addL hl q).length }
theorem own_sliceP {w : World} {B t : Nat} {zs : List Int} {u : Value} (h : isO B t zs u w) (hl : zs.length = t) (hb : Bytes zs) (ht : t ≤ 4096) : ∃ uo c, u = .slice uo t c ∧ Seen w uo t zs ∧ t ≤ c ∧ ∀ b o, uo = some ⟨b, o, none⟩ → B ≤ b ∧ b < w.heap.size := by
  obtain ⟨uo, uc, rfl, su, huc, -⟩ := pown_sl hl hb (by omega) h
  refine ⟨uo, uc, rfl, su, huc, fun b o e => ?_⟩
  rcases h.2 with ⟨h1, _⟩ | ⟨g, cap, cur, h1, hg, hh, _⟩
  · cases h1; cases e
  · cases h1; cases e; exact ⟨hg, lt_of_block hh⟩
theorem put_S (p h : Nat) (cf : Cf) (hl : List Nat) (n : Nm) (txt : Nat → List Int) (F : Nat → Prop) (q : Nat) (uo : Option Addr) (c : Nat) (z : Int) (zs : List Int) (w : World) (x : PagS w p h cf hl n txt F) (hq : q < cf.pages) (hlen : hl.length ≤ 16)
    (hs : Seen w uo cf.text zs) (hc : cf.text ≤ c) (hu : ∀ b o, uo = some ⟨b, o, none⟩ → b < w.heap.size ∧ ¬ F b) (hz : z = 2 ∨ (q ∉ hl ∧ zs = txt q)) :
    Calls Tryz.prog 104 #[.pointer (some ⟨p, 0, none⟩), .int .i64 (q : Int), .agg #[.slice uo cf.text c, .int .i64 z]] w fun e w' => e = .returned (.tuple #[]) ∧ PagS w' p h cf (addL hl q) (n.put hl q z) (upn txt q zs) (fun b => F b ∨ ∃ o, uo = some ⟨b, o, none⟩) ∧ Kept F w w' := by
  obtain ⟨gh, gp, v, fh, fp, szp, Mh, s, Mt, y, hf, ha⟩ := x
  have hpg := y.good.pages
  refine (put_any p gh v fh hl.length (q : Int) (.slice uo cf.text c) (.int .i64 z) w y.o.m.pa y.o.m.he y.o.m.hm (i64_nat (by omega)) (by have := y.len.1; omega)).mono ?_
  rintro e w' ⟨rfl, p1, m1, k1⟩
  have hin : (if (fh q).isSome then hl.length else hl.length + 1) = (addL hl q).length := by
    by_cases hm : q ∈ hl
    · obtain ⟨ao, c', h1, _⟩ := y.held q hm
      rw [h1]; simp [addL, hm]
    · rw [y.none q (fun j hj e => hm (by have : j = q := by omega
                                         rwa [← this]))]
      simp [addL, hm]
  rw [hin] at p1 m1
  have kF : Kept F w w' := k1.mono (fun b e => hf b (by rcases e with e | e; exact .inl (.inl (.inl e)); exact .inl (.inl (.inr (.inl e)))))
  have kO : Kept (fun b => Ow Mh p gh gp b) w w' := k1.mono (fun b e => by rcases e with e | e; exact .inl e; exact .inr (.inl e))
  have nP : ∀ b, Mh b → ¬ (b = p ∨ b = gh) := fun b hb e => by
    rcases e with e | e
    · exact y.o.m.d1.1 (e ▸ hb)
    · exact y.o.m.d1.2.1 (e ▸ hb)
  have m2 : PgM w' p gh gp h { v with most := max v.most (addL hl q).length } (updF fh q (.agg #[.slice uo cf.text c, .int .i64 z])) (addL hl q).length fp szp Mh s :=
    ⟨p1, y.o.m.st, y.o.m.he, y.o.m.pe, m1, y.o.m.pm.kept k1 (fun e => by rcases e with e | e; exact y.o.m.pne.2 e.symm; exact y.o.m.d2 e.symm), y.o.m.ho.frame (Same.kept k1 (fun b hb => ⟨y.o.m.ho.all b hb, nP b hb⟩)), y.o.m.d1, y.o.m.d2⟩
  have po : PgO w' p gh gp h { v with most := max v.most (addL hl q).length } (updF fh q (.agg #[.slice uo cf.text c, .int .i64 z])) (addL hl q).length fp szp Mh s (oI n.ord) := y.o.on kO m2 rfl (fun b hb => .inl hb)
  have hlen2 : (addL hl q).length ≤ 17 := by unfold addL; split; omega; simp; omega
  refine ⟨rfl, ⟨gh, gp, { v with most := max v.most (addL hl q).length }, _, fp, szp, Mh, s, (fun b => Mt b ∨ ∃ o, uo = some ⟨b, o, none⟩), { o := po, ek := y.ek, er := y.er, ew := y.ew, ep := y.ep, et := y.et, em := by show max v.most _ = max n.most _; rw [y.em], ewr := y.ewr, ed := y.ed, good := y.good, held := ?_, none := ?_, nd := ?_, len := ⟨hlen2, y.len.2⟩, rng := ?_, wrt := ?_, nwr := ?_, tl := ?_, sz := y.sz, hn := y.hn, sp := y.sp, ss := y.ss, so := y.so, sl := y.sl, mt := ?_ }, ?_, ?_⟩, kF⟩
  · intro k hk
    by_cases e : k = q
    · subst e
      refine ⟨uo, c, by simp [updF, Nm.put, upn], ?_, hc, fun b o e => .inr ⟨o, e⟩⟩
      rw [show upn txt k zs k = zs by simp [upn]]
      exact hs.off kF (fun b o e => (hu b o e).2)
    · have hk2 := ((mem_addL hl q k).1 hk).resolve_left e
      obtain ⟨ao, c', g1, g2, g3, g4⟩ := y.held k hk2
      have hkq : (k : Int) ≠ (q : Int) := by omega
      refine ⟨ao, c', by simp only [updF, if_neg hkq, Nm.put, upn, if_neg e]; exact g1, ?_, g3, fun b o e => .inl (g4 b o e)⟩
      rw [show upn txt q zs k = txt k by simp [upn, e]]
      exact g2.off kO (fun b o e hO => (y.mt b (g4 b o e)).2 (.inl hO))
  · intro k hk
    have hkq : k ≠ (q : Int) := fun e => hk q ((mem_addL hl q q).2 (.inl rfl)) e.symm
    simp only [updF, if_neg hkq]
    exact y.none k (fun j hj => hk j ((mem_addL hl q j).2 (.inr hj)))
  · unfold addL
    split
    · exact y.nd
    · rename_i hm; exact List.nodup_cons.2 ⟨hm, y.nd⟩
  · intro k hk
    rcases (mem_addL hl q k).1 hk with rfl | hk
    · exact hq
    · exact y.rng k hk
  · intro k hk hw
    obtain ⟨c', ver, g1, g2, g3, g4⟩ := y.wrt k hk hw
    refine ⟨c', ver, g1, g2, g3, fun hh => ?_⟩
    by_cases e : k = q
    · subst e
      rw [show upn txt k zs k = zs by simp [upn]]
      rcases hz with hz | ⟨hz, hzs⟩
      · rcases hh with hh | hh
        · exact absurd ((mem_addL hl k k).2 (.inl rfl)) hh
        · exact absurd (show (n.put hl k z).st k = 2 by simp [Nm.put, upn, hz]) hh
      · rw [hzs]; exact g4 (.inl hz)
    · rw [show upn txt q zs k = txt k by simp [upn, e]]
      refine g4 ?_
      rcases hh with hh | hh
      · exact .inl (fun h => hh ((mem_addL hl q k).2 (.inr h)))
      · exact .inr (by simpa [Nm.put, upn, e] using hh)
  · intro k hk hw
    obtain ⟨g1, g2⟩ := y.nwr k hk hw
    refine ⟨g1, fun hh => ?_⟩
    by_cases e : k = q
    · subst e
      rw [show upn txt k zs k = zs by simp [upn]]
      rcases hz with hz | ⟨hz, hzs⟩
      · rcases hh with hh | hh
        · exact absurd ((mem_addL hl k k).2 (.inl rfl)) hh
        · exact absurd (show (n.put hl k z).st k = 2 by simp [Nm.put, upn, hz]) hh
      · rw [hzs]; exact g2 (.inl hz)
    · rw [show upn txt q zs k = txt k by simp [upn, e]]
      refine g2 ?_
      rcases hh with hh | hh
      · exact .inl (fun h => hh ((mem_addL hl q k).2 (.inr h)))
      · exact .inr (by simpa [Nm.put, upn, e] using hh)
  · intro k
    by_cases e : k = q
    · subst e; rw [show upn txt k zs k = zs by simp [upn]]; exact ⟨hs.len, hs.bytes⟩
    · rw [show upn txt q zs k = txt k by simp [upn, e]]; exact y.tl k
  · intro b hb
    rcases hb with hb | ⟨o, hb⟩
    · have := y.mt b hb
      exact ⟨Nat.lt_of_lt_of_le this.1 k1.size, this.2⟩
    · have := hu b o hb
      exact ⟨Nat.lt_of_lt_of_le this.1 k1.size, fun hO => this.2 (hf b (.inl hO))⟩
  · intro b hb
    rcases hb with hb | hb | hb
    · exact .inl (hf b (.inl hb))
    · exact .inl (hf b (.inr hb))
    · exact .inr hb
  · intro b hb
    rcases hb with hb | ⟨o, hb⟩
    · exact Nat.lt_of_lt_of_le (ha b hb) k1.size
    · exact Nat.lt_of_lt_of_le (hu b o hb).1 k1.size
def Nm.use (n : Nm) (q : Nat) : Nm := { n with ord := n.ord.erase q ++ [q] }
theorem erase_oI (l : List Nat) (q : Nat) : (oI l).erase (q : Int) = oI (l.erase q) := by
  induction l with
  | nil => rfl
  | cons a l ih =>
    by_cases e : a = q
    · subst e; simp [oI]
    · have e' : (a : Int) ≠ (q : Int) := by omega
      simp only [oI, List.map_cons] at ih ⊢
      rw [List.erase_cons_tail (by simpa using e'), List.erase_cons_tail (by simpa using e), ih, List.map_cons]
theorem use_S (p h : Nat) (cf : Cf) (hl : List Nat) (n : Nm) (txt : Nat → List Int) (F : Nat → Prop) (q : Nat) (w : World) (x : PagS w p h cf hl n txt F) (hlen : n.ord.length ≤ 16) :
    Calls Tryz.prog 101 #[.pointer (some ⟨p, 0, none⟩), .int .i64 (q : Int)] w fun e w' => e = .returned (.tuple #[]) ∧ ∃ F', PagS w' p h cf hl (n.use q) txt F' ∧ Ev F F' w w' := by
  obtain ⟨gh, gp, v, fh, fp, szp, Mh, s, Mt, y, hf, ha⟩ := x
  refine (use_any 0 p v (oI n.ord) (q : Int) w y.o.m.pa y.o.o (by simp; omega) (Nat.zero_le _)).mono ?_
  rintro e w' ⟨rfl, o', p1, o1, k1, n1⟩
  have kO : Kept (OwO Mh p gh gp v) w w' := k1.mono (fun b e => by rcases e with e | e; exact .inl (.inl e); exact .inr e)
  have nN : ∀ b, b < w.heap.size → ¬ (b = p ∨ v.order.ownBlock = some b) → w'.heap[b]? = w.heap[b]? := fun b hb hn => k1.block b hb hn
  have m1 : PgM w' p gh gp h { v with order := o' } fh hl.length fp szp Mh s :=
    ⟨p1, y.o.m.st, y.o.m.he, y.o.m.pe, y.o.m.hm.kept k1 (fun e => by rcases e with e | e; exact y.o.m.pne.1 e.symm; exact y.o.nO _ e (.inr (.inl rfl))), y.o.m.pm.kept k1 (fun e => by rcases e with e | e; exact y.o.m.pne.2 e.symm; exact y.o.nO _ e (.inr (.inr (.inl rfl)))), y.o.m.ho.frame (Same.kept k1 (fun b hb => ⟨y.o.m.ho.all b hb, fun e => by rcases e with e | e; exact y.o.m.d1.1 (e ▸ hb); exact y.o.d b e hb⟩)), y.o.m.d1, y.o.m.d2⟩
  have eO : usedL (oI n.ord) (q : Int) = oI (n.use q).ord := by
    unfold usedL; rw [erase_oI]; simp [oI, Nm.use]
  rw [eO] at o1
  have po : PgO w' p gh gp h { v with order := o' } fh hl.length fp szp Mh s (oI (n.use q).ord) := ⟨m1, o1, fun g hg hM => by
    rcases n1 g hg with e | e
    · exact y.o.d g e hM
    · have := y.o.m.ho.all g hM; omega⟩
  refine ⟨rfl, (fun b => OwO Mh p gh gp { v with order := o' } b ∨ Mt b), ⟨gh, gp, { v with order := o' }, fh, fp, szp, Mh, s, Mt, { y with o := po, held := ?_, len := ⟨y.len.1, ?_⟩, mt := ?_ }, fun b hb => hb, ?_⟩, ⟨kO.mono (fun b hb => hf b (.inl hb)), ?_⟩⟩
  · intro k hk
    obtain ⟨ao, c', g1, g2, g3, g4⟩ := y.held k hk
    exact ⟨ao, c', g1, g2.off kO (fun b o e hO => (y.mt b (g4 b o e)).2 hO), g3, g4⟩
  · show (n.ord.erase q ++ [q]).length ≤ 17
    have := List.length_erase_le (a := q) (l := n.ord)
    simp
    omega
  · intro b hb
    have h6 := y.mt b hb
    refine ⟨Nat.lt_of_lt_of_le h6.1 k1.size, fun hO => h6.2 ?_⟩
    rcases hO with e | e
    · exact .inl e
    · rcases n1 b e with e | e
      · exact .inr e
      · omega
  · intro b hb
    rcases hb with hb | hb
    · exact po.all b hb
    · exact Nat.lt_of_lt_of_le (y.mt b hb).1 k1.size
  · intro b hb
    rcases hb with (e | e) | hb
    · exact .inl (hf b (.inl (.inl e)))
    · rcases n1 b e with e | e
      · exact .inl (hf b (.inl (.inr e)))
      · exact .inr e
    · exact .inl (hf b (.inr hb))
def rtc (cf : Cf) (q : Nat) : Tc := ⟨0, q, cf.text + 28, List.replicate 12 0⟩
def Nm.fetch (cf : Cf) (n : Nm) (q : Nat) : Nm := if (n.room cf).wr q then ({ n.room cf with log := (n.room cf).log ++ [rtc cf q] }).put (n.room cf).ord q 1 else (n.room cf).put (n.room cf).ord q 0
def Nm.load (cf : Cf) (n : Nm) (q : Nat) : Nm := if q ∈ n.ord then n.use q else (n.fetch cf q).use q
def Nm.save (cf : Cf) (n : Nm) (q : Nat) : Nm := if q ∈ n.ord then (n.put n.ord q 2).use q else ((n.room cf).put (n.room cf).ord q 2).use q
theorem room_ord (cf : Cf) (n : Nm) : ∀ k ∈ (n.room cf).ord, k ∈ n.ord := by
 intro k hk
 unfold Nm.room at hk
 split at hk
 ·exact hk
 ·split at hk
  ·exact hk
  ·rename_i q r e
   rw [e]
   split at hk <;> simp at hk <;> simp [hk]
theorem room_len (cf : Cf) (n : Nm) (h : n.ord.length ≤ cf.win) (hw : 2 ≤ cf.win) : (n.room cf).ord.length + 1 ≤ cf.win := by
 unfold Nm.room
 split
 ·omega
 ·split
  ·rename_i e; rw [e]; simp; omega
  ·rename_i q r e
   rw [e] at h
   simp at h
   split <;> simp <;> omega
theorem lbuild (a : Option Addr) (n c : Nat) (z : Int) (w : World) : (Instr.build 156 #[(0, .slice a n c), (1, .int .i64 z)]).run Tryz.prog w = .ok (.agg #[.slice a n c, .int .i64 z]) w := by kernel_rfl
theorem pzLeaf : (Tryz.prog.info? 156).map (fun i => (i.zero, i.size)) = some (some (.agg [Value.slice none 0 0, .int .i64 0].toArray), 2) := by kernel_rfl
theorem upn_same {α : Type} (f : Nat → α) (q : Nat) : upn f q (f q) = f := by
 funext k; unfold upn; split
 ·rename_i e; rw [e]
 ·rfl
theorem seen_zero (w : World) (n : Nat) (hn : n ≤ 4096) : Seen (w.alloc (.cells (madeCells #[.int .u8 0] n) 5)) (some ⟨w.heap.size, 0, none⟩) n (List.replicate n 0) := by
 have b := made_blk w (.int .u8 0) n 5
 have e : List.replicate n (Value.int .u8 0) = u8s (List.replicate n 0) := by simp [u8s]
 rw [e] at b
 exact seen_page b (by simp) (fun z hz => by rw [List.eq_of_mem_replicate hz]; decide) (by omega)
theorem read_S (p h : Nat) (cf : Cf) (hl : List Nat) (n : Nm) (txt : Nat → List Int) (gh gp : Nat) (v : PgV) (fh fp : Int → Option Value) (szp : Nat) (Mh : Nat → Prop) (s : HSt) (Mt F : Nat → Prop) (q : Nat) (c ver : Int) (w : World) (y : PagL w p h cf hl n txt gh gp v fh fp szp Mh s Mt) (hf : ∀ b, OwO Mh p gh gp v b ∨ Mt b → F b) (hq : q < cf.pages) (hlog : n.log.length < 2000000000)
  (hc : U32 c) (hv : U32 ver) (ha : agoL s q 0 = pageL cf.key cf.round c q ver (txt q)) :
  Calls Tryz.prog 110 #[.pointer (some ⟨p, 0, none⟩), .int .i64 (q : Int), .agg #[.int .u64 cf.round, .int .u32 c, .int .u32 (q : Int), .int .u32 ver]] w fun e w' => ∃ u F' B, e = .returned (.tuple #[u, .int .i64 0]) ∧ PagS w' p h cf hl { n with log := n.log ++ [rtc cf q] } txt F' ∧ Ev F F' w w' ∧ isO B cf.text (txt q) u w' ∧ w.heap.size ≤ B ∧ ∀ b, F' b → b < B := by
 have hpg := y.good.pages
 have htx := y.good.text
 have htl := y.tl q
 refine (gread_any p h q v s Mh cf.round c q ver (txt q) w y.o.m.pa y.o.m.st y.o.m.ho y.hn (by rw [y.sp]; exact hq) (by rw [y.so]; omega) y.o.m.d1.1 (by rw [htl.1]; omega) (by rw [y.ss, htl.1]) htl.2 y.good.round hc ⟨by omega, by omega⟩ hv (by rw [ha, y.ek])).mono ?_
 rintro e w' ⟨u, M2, B, rfl, h2, g2, o2, hB, hM⟩
 have m2 := y.o.m.hosted g2 h2
 have po : PgO w' p gh gp h v fh hl.length fp szp M2 (s.next.logged ⟨0, q, s.size, List.replicate 12 0⟩) (oI n.ord) := ⟨m2, own_keptP y.o.o g2.kept (fun b hb e => y.o.d b hb e), fun g hg h3 => (g2.new g h3).elim (y.o.d g hg) (fun e => by have := own_lt y.o.o hg; omega)⟩
 have hOw : ∀ b, OwO M2 p gh gp v b → OwO Mh p gh gp v b ∨ w.heap.size ≤ b := fun b hb => by
  rcases hb with (e | e | e | e) | e
  ·exact .inl (.inl (.inl e))
  ·exact .inl (.inl (.inr (.inl e)))
  ·exact .inl (.inl (.inr (.inr (.inl e))))
  ·exact (g2.new b e).imp (fun e => .inl (.inr (.inr (.inr e)))) id
  ·exact .inl (.inr e)
 have kF : Kept F w w' := g2.kept.mono (fun b e => hf b (.inl (.inl (.inr (.inr (.inr e))))))
 have hall : ∀ b, OwO M2 p gh gp v b ∨ Mt b → b < B := fun b hb => by
  rcases hb with ((e | e | e | e) | e) | hb
  ·have := y.o.m.pa.blk.lt; omega
  ·have := y.o.m.hm.lt; omega
  ·have := y.o.m.pm.lt; omega
  ·exact hM b e
  ·have := own_lt y.o.o e; omega
  ·have := (y.mt b hb).1; omega
 refine ⟨u, fun b => OwO M2 p gh gp v b ∨ Mt b, B, rfl, ⟨gh, gp, v, fh, fp, szp, M2, _, Mt, { y with o := po, held := ?_, wrt := ?_, hn := y.hn.next.logged _, so := ?_, sl := ?_, mt := ?_ }, fun b hb => hb, ?_⟩, ⟨kF, ?_⟩, ?_, hB, hall⟩
 ·intro k hk
  obtain ⟨ao, c', g1, g3, g4, g5⟩ := y.held k hk
  exact ⟨ao, c', g1, g3.off g2.kept (fun b o e hO => (y.mt b (g5 b o e)).2 (.inl (.inr (.inr (.inr hO))))), g4, g5⟩
 ·intro k hk hw
  obtain ⟨c', ver', g1, g3, g4, g5⟩ := y.wrt k hk hw
  exact ⟨c', ver', g1, g3, g4, fun hh => (ago_same k rfl rfl).trans (g5 hh)⟩
 ·show s.ops + 1 = (n.log ++ [_]).length
  rw [y.so]; simp
 ·show s.log ++ [_] = n.log ++ [_]
  rw [y.sl, y.ss]; rfl
 ·intro b hb
  have h6 := y.mt b hb
  exact ⟨Nat.lt_of_lt_of_le h6.1 g2.kept.size, fun hO => (hOw b hO).elim h6.2 (fun e => by omega)⟩
 ·intro b hb
  rcases hb with hb | hb
  ·exact po.all b hb
  ·exact Nat.lt_of_lt_of_le (y.mt b hb).1 g2.kept.size
 ·intro b hb
  rcases hb with hb | hb
  ·exact (hOw b hb).imp (fun e => hf b (.inl e)) id
  ·exact .inl (hf b (.inr hb))
 ·rw [htl.1] at o2; exact o2
theorem fetch_S (p h : Nat) (cf : Cf) (n : Nm) (txt : Nat → List Int) (F : Nat → Prop) (q : Nat) (w : World) (x : PagS w p h cf n.ord n txt F) (hq : q < cf.pages) (hqo : q ∉ n.ord) (hol : n.ord.length ≤ cf.win) (hlog : n.log.length < 1000000000) (hwr : n.writes < 1000000000) :
  Calls Tryz.prog 99 #[.pointer (some ⟨p, 0, none⟩), .int .i64 (q : Int)] w fun e w' => e = .returned (.int .i64 0) ∧ ∃ F', PagS w' p h cf (q :: (n.room cf).ord) (n.fetch cf q) txt F' ∧ Ev F F' w w' := by
 have HR : Hid (Calls Tryz.prog 103 #[.pointer (some ⟨p, 0, none⟩)] w fun e w' => e = .returned (.int .i64 0) ∧ ∃ F', PagS w' p h cf (n.room cf).ord (n.room cf) txt F' ∧ Ev F F' w w') := room_S p h cf n txt F w x (by omega) (by omega)
 have HQ : Hid (q < cf.pages ∧ q ∉ (n.room cf).ord ∧ cf.Good ∧ (n.room cf).ord.length ≤ 16 ∧ (n.room cf).log.length < 2000000000) := ⟨hq, fun e => hqo (room_ord cf n q e), x.good, by have := room_len cf n hol x.good.win.1; have := x.good.win.2; omega, by
  unfold Nm.room
  split
  ·omega
  ·split
   ·omega
   ·split <;> simp <;> omega⟩
 cases hw : (n.room cf).wr q with
 | false =>
  have EN : Hid (n.fetch cf q = (n.room cf).put (n.room cf).ord q 0) := by unfold Nm.fetch; rw [hw]; rfl
  have HW : Hid ((n.room cf).wr q = false) := hw
  clear x hq hqo hol hlog hwr hw
  go_enter Tryz.func99, Tryz.ntmps99
  go_wp2_with (go_at_call 103; refine HR.out.mono ?_)
  first | rintro e w1 rfl F1 x1 ev1 | rintro e w1 ⟨rfl, F1, x1, ev1⟩
  obtain ⟨gh, gp, v, fh, fp, szp, Mh, s, Mt, y, hf, ha⟩ := id x1
  have X1 : Hid (PagS w1 p h cf (n.room cf).ord (n.room cf) txt F1 ∧ Ev F F1 w w1 ∧ txt q = List.replicate cf.text 0) := ⟨x1, ev1, (y.nwr q HQ.out.1 HW.out).2 (.inl HQ.out.2.1)⟩
  have Y1 : Hid (PgAt w1 p v ∧ v.text = cf.text) := ⟨y.o.m.pa, y.et⟩
  have c1 : w1.cell? ⟨p, 39, none⟩ = some (.map (some gp)) := y.o.m.pa.cell 6 _ (by rw [← y.o.m.pe]; rfl)
  have hL : (Instr.lookup 144 (.map (some gp)) (.int .i64 (q : Int)) true).run Tryz.prog w1 = .ok (.tuple #[.agg #[.int .u64 0, .int .u32 0, .int .u32 0, .int .u32 0], .bool false]) w1 := by
   have := y.o.m.pm.look_ok (t := 144) Tryz.underlying144 (zeroPlace w1) (k := (q : Int)) (i64_nat (by have := HQ.out.1; have := HQ.out.2.2.1.pages; omega))
   rw [(y.nwr q HQ.out.1 HW.out).1] at this
   exact this
  clear x1 ev1 y hf ha HR
  have htx := HQ.out.2.2.1.text
  go_wp2_with (first | (refine wpList_alloc_new rfl 169 rfl 4 _ pzPlace ?_; intro w2 b2 s2 l2; have S2 : Hid (w2.heap.size = w1.heap.size + 1) := s2; clear s2) | (refine wpList_store_blk rfl 169 169 _ _ rfl _ rfl _ (placeC 0 0 0 0) rfl b2 rfl pzKey (placeC_one _ _ _ _) ?_; intro w3 b3 s3 k3; have L3 : Below w1.heap.size w1 w3 := below_kept l2 k3 (by have := S2.out; omega) (fun j hj => by omega); clear s3; have c3 : w3.cell? ⟨p, 36, none⟩ = some (.int .i64 (cf.text : Int)) := (Y1.out.1.later L3 Y1.out.1.blk.lt).cell 3 _ (by rw [← Y1.out.2]; rfl); have mk := mk_bytes cf.text (by omega) w3; have lb := lbuild (some ⟨w3.heap.size, 0, none⟩) cf.text cf.text 0 (w3.alloc (.cells (madeCells #[.int .u8 0] cf.text) 5))))
  have l4 : Below w1.heap.size w1 (w3.alloc (.cells (madeCells #[.int .u8 0] cf.text) 5)) := L3.alloc (by have := L3.size; omega) _
  have hs4 : Seen (w3.alloc (.cells (madeCells #[.int .u8 0] cf.text) 5)) (some ⟨w3.heap.size, 0, none⟩) cf.text (List.replicate cf.text 0) := seen_zero w3 cf.text (by omega)
  have hu4 : ∀ b o, (some (⟨w3.heap.size, 0, none⟩ : Addr)) = some ⟨b, o, none⟩ → b < (w3.alloc (.cells (madeCells #[.int .u8 0] cf.text) 5)).heap.size ∧ ¬ F1 b := fun b o e => by
   cases e
   exact ⟨by simp, fun hF => by have := X1.out.1.all _ hF; have := L3.size; omega⟩
  have CP := put_S p h cf (n.room cf).ord (n.room cf) txt F1 q (some ⟨w3.heap.size, 0, none⟩) cf.text 0 (List.replicate cf.text 0) (w3.alloc (.cells (madeCells #[.int .u8 0] cf.text) 5)) (X1.out.1.later l4) HQ.out.1 HQ.out.2.2.2.1 hs4 (Nat.le_refl _) hu4 (.inr ⟨HQ.out.2.1, X1.out.2.2.symm⟩)
  go_at_call 104
  refine CP.mono ?_
  first | rintro e w5 rfl x5 k5 | rintro e w5 ⟨rfl, x5, k5⟩
  have X5 : Hid (PagS w5 p h cf (q :: (n.room cf).ord) (n.fetch cf q) txt (fun b => F1 b ∨ ∃ o, some (⟨w3.heap.size, 0, none⟩ : Addr) = some ⟨b, o, none⟩)) := by
   have := x5
   rw [EN.out]
   rw [← X1.out.2.2, upn_same, show addL (n.room cf).ord q = q :: (n.room cf).ord by unfold addL; rw [if_neg HQ.out.2.1]] at this
   exact this
  have E5 : Hid (Ev F (fun b => F1 b ∨ ∃ o, some (⟨w3.heap.size, 0, none⟩ : Addr) = some ⟨b, o, none⟩) w w5) := X1.out.2.1.trans ⟨(Kept.new F1 (L3.alloc (by have := L3.size; omega) _)).trans k5, fun b hb => hb.imp id (fun ⟨o, e⟩ => by cases e; exact L3.size)⟩
  clear x5 k5
  go_wp2
  go_ret
  exact ⟨rfl, _, X5.out, E5.out⟩
 | true =>
  have EN : Hid (n.fetch cf q = ({ n.room cf with log := (n.room cf).log ++ [rtc cf q] } : Nm).put (n.room cf).ord q 1) := by unfold Nm.fetch; rw [hw]; rfl
  have HW : Hid ((n.room cf).wr q = true) := hw
  clear x hq hqo hol hlog hwr hw
  go_enter Tryz.func99, Tryz.ntmps99
  go_wp2_with (go_at_call 103; refine HR.out.mono ?_)
  first | rintro e w1 rfl F1 x1 ev1 | rintro e w1 ⟨rfl, F1, x1, ev1⟩
  obtain ⟨gh, gp, v, fh, fp, szp, Mh, s, Mt, y, hf, ha⟩ := id x1
  obtain ⟨pc, pv, hfp, hpc, hpv, hag⟩ := y.wrt q HQ.out.1 HW.out
  have X1 : Hid (PagS w1 p h cf (n.room cf).ord (n.room cf) txt F1 ∧ Ev F F1 w w1) := ⟨x1, ev1⟩
  have HRd : Hid (∀ W, Below w1.heap.size w1 W → Calls Tryz.prog 110 #[.pointer (some ⟨p, 0, none⟩), .int .i64 (q : Int), .agg #[.int .u64 cf.round, .int .u32 pc, .int .u32 (q : Int), .int .u32 pv]] W fun e w' => ∃ u F' B, e = .returned (.tuple #[u, .int .i64 0]) ∧ PagS w' p h cf (n.room cf).ord { n.room cf with log := (n.room cf).log ++ [rtc cf q] } txt F' ∧ Ev F1 F' W w' ∧ isO B cf.text (txt q) u w' ∧ W.heap.size ≤ B ∧ ∀ b, F' b → b < B) := fun W hW => read_S p h cf _ _ txt gh gp v fh fp szp Mh s Mt F1 q pc pv W (y.later hW) hf HQ.out.1 HQ.out.2.2.2.2 hpc hpv (hag (.inl HQ.out.2.1))
  have HTL : Hid ((txt q).length = cf.text ∧ Bytes (txt q)) := y.tl q
  have c1 : w1.cell? ⟨p, 39, none⟩ = some (.map (some gp)) := y.o.m.pa.cell 6 _ (by rw [← y.o.m.pe]; rfl)
  have hL : (Instr.lookup 144 (.map (some gp)) (.int .i64 (q : Int)) true).run Tryz.prog w1 = .ok (.tuple #[.agg #[.int .u64 cf.round, .int .u32 pc, .int .u32 (q : Int), .int .u32 pv], .bool true]) w1 := by
   have := y.o.m.pm.look_ok (t := 144) Tryz.underlying144 (zeroPlace w1) (k := (q : Int)) (i64_nat (by have := HQ.out.1; have := HQ.out.2.2.1.pages; omega))
   rw [hfp] at this
   exact this
  clear x1 ev1 y hf ha HR hfp hpc hpv hag
  have htx := HQ.out.2.2.1.text
  go_wp2_with (first | (refine wpList_alloc_new rfl 169 rfl 4 _ pzPlace ?_; intro w2 b2 s2 l2; have S2 : Hid (w2.heap.size = w1.heap.size + 1) := s2; clear s2) | (refine wpList_store_blk rfl 169 169 _ _ rfl _ rfl _ (placeC cf.round pc (q : Int) pv) rfl b2 rfl pzKey (placeC_one _ _ _ _) ?_; intro w3 b3 s3 k3; have L3 : Below w1.heap.size w1 w3 := below_kept l2 k3 (by have := S2.out; omega) (fun j hj => by omega); clear s3) | (refine wpList_load_blk rfl 169 _ rfl _ rfl (placeC cf.round pc (q : Int) pv) _ b3 Tryz.underlying169 rfl pzKey ?_) | (go_at_call 110; refine (HRd.out w3 L3).mono ?_))
  rintro e w4 ⟨_, F4, B4, rfl, x4, ev4, o4, hB4, hF4⟩
  obtain ⟨uo, uc, rfl, su, huc, hub⟩ := own_sliceP o4 HTL.out.1 HTL.out.2 (by omega)
  have X4 : Hid (PagS w4 p h cf (n.room cf).ord { n.room cf with log := (n.room cf).log ++ [rtc cf q] } txt F4 ∧ Ev F F4 w w4) := ⟨x4, X1.out.2.trans ((Ev.below L3).trans ev4)⟩
  have lb := lbuild uo cf.text uc 1 w4
  have HU : Hid (Seen w4 uo cf.text (txt q) ∧ cf.text ≤ uc ∧ (∀ b o, uo = some ⟨b, o, none⟩ → b < w4.heap.size ∧ ¬ F4 b) ∧ ∀ b o, uo = some ⟨b, o, none⟩ → w.heap.size ≤ b) := ⟨su, huc, fun b o e => ⟨(hub b o e).2, fun hF => by have := hF4 b hF; have := (hub b o e).1; omega⟩, fun b o e => by have h1 := (hub b o e).1; have h2 := X1.out.2.kept.size; have h3 := L3.size; omega⟩
  clear x4 ev4 o4 hB4 hF4 su huc hub b2 l2 b3 k3 hL c1
  go_wp2_with (go_at_call 104; refine (put_S p h cf (n.room cf).ord { n.room cf with log := (n.room cf).log ++ [rtc cf q] } txt F4 q uo uc 1 (txt q) w4 X4.out.1 HQ.out.1 HQ.out.2.2.2.1 HU.out.1 HU.out.2.1 HU.out.2.2.1 (.inr ⟨HQ.out.2.1, rfl⟩)).mono ?_)
  first | rintro e w5 rfl x5 k5 | rintro e w5 ⟨rfl, x5, k5⟩
  have X5 : Hid (PagS w5 p h cf (q :: (n.room cf).ord) (n.fetch cf q) txt (fun b => F4 b ∨ ∃ o, uo = some ⟨b, o, none⟩)) := by
   have := x5
   rw [EN.out]
   rw [upn_same, show addL (n.room cf).ord q = q :: (n.room cf).ord by unfold addL; rw [if_neg HQ.out.2.1]] at this
   exact this
  have E5 : Hid (Ev F (fun b => F4 b ∨ ∃ o, uo = some ⟨b, o, none⟩) w w5) := ⟨(X4.out.2.trans ⟨k5, fun b hb => .inl hb⟩ : Ev F F4 w w5).kept, fun b hb => by
   rcases hb with hb | ⟨o, e⟩
   ·exact X4.out.2.new b hb
   ·exact .inr (HU.out.2.2.2 b o e)⟩
  clear x5 k5
  go_wp2
  go_ret
  exact ⟨rfl, _, X5.out, E5.out⟩
theorem perm_use (l : List Nat) (q : Nat) (h : q ∈ l) : l.Perm (l.erase q ++ [q]) := (List.perm_cons_erase h).trans (List.perm_append_singleton q _).symm
theorem fetch_ord (cf : Cf) (n : Nm) (q : Nat) : (n.fetch cf q).ord = (n.room cf).ord := by unfold Nm.fetch; split <;> rfl
theorem erase_no (l : List Nat) (q : Nat) (h : q ∉ l) : l.erase q = l := List.erase_of_not_mem h
theorem load_S (p h : Nat) (cf : Cf) (n : Nm) (txt : Nat → List Int) (F : Nat → Prop) (q : Nat) (w : World) (x : PagS w p h cf n.ord n txt F) (hq : q < cf.pages) (hol : n.ord.length ≤ cf.win) (hlog : n.log.length < 1000000000) (hwr : n.writes < 1000000000) :
    Calls Tryz.prog 77 #[.pointer (some ⟨p, 0, none⟩), .int .i64 (q : Int)] w fun e w' => ∃ u F' B, e = .returned (.tuple #[u, .int .i64 0]) ∧ PagS w' p h cf (n.load cf q).ord (n.load cf q) txt F' ∧ Ev F F' w w' ∧ isO B cf.text (txt q) u w' ∧ w.heap.size ≤ B ∧ ∀ b, F' b → b < B := by
  have HC : Hid (Calls Tryz.prog 98 #[.pointer (some ⟨p, 0, none⟩), .int .i64 (q : Int)] w fun e w' => e = .returned (.int .i64 0) ∧ w = w') := by
    obtain ⟨gh, gp, v, fh, fp, szp, Mh, s, Mt, y, hf, ha⟩ := x
    have := gcheck_any p v q w y.o.m.pa
    rw [show chkE v q = 0 by unfold chkE; rw [if_neg (by simp [y.ed]), if_neg (by rw [y.ep]; omega)]] at this
    exact this
  by_cases hm : q ∈ n.ord
  · have HQ : Hid (q < cf.pages ∧ q ∈ n.ord ∧ cf.Good) := ⟨hq, hm, x.good⟩
    have EN : Hid (n.load cf q = n.use q) := by show _ = _; unfold Nm.load; rw [if_pos hm]
    have HP : Hid (n.ord.Perm (n.use q).ord) := perm_use _ _ hm
    have HM : Hid (q ∈ n.ord) := hm
    obtain ⟨gh, gp, v, fh, fp, szp, Mh, s, Mt, y, hf, ha⟩ := id x
    obtain ⟨ao, c, hfh, -⟩ := y.held q HQ.out.2.1
    have c1 : w.cell? ⟨p, 37, none⟩ = some (.map (some gh)) := y.o.m.pa.cell 4 _ (by rw [← y.o.m.he]; rfl)
    have hL : (Instr.lookup 143 (.map (some gh)) (.int .i64 (q : Int)) true).run Tryz.prog w = .ok (.tuple #[.agg #[.slice ao cf.text c, .int .i64 (n.st q)], .bool true]) w := by
      have := y.o.m.hm.look_ok (t := 143) Tryz.underlying143 (zeroLeaf w) (k := (q : Int)) (i64_nat (by have := HQ.out.1; have := HQ.out.2.2.pages; omega))
      rw [hfh] at this
      exact this
    have CU : Hid (∀ W, Below w.heap.size w W → Calls Tryz.prog 101 #[.pointer (some ⟨p, 0, none⟩), .int .i64 (q : Int)] W fun e w' => e = .returned (.tuple #[]) ∧ ∃ F', PagS w' p h cf n.ord (n.use q) txt F' ∧ Ev F F' W w') := fun W hW => use_S p h cf n.ord n txt F q W (x.later hW) (by have := x.good.win.2; omega)
    clear x hq hol hlog hwr hm y hf ha hfh
    go_enter Tryz.func77, Tryz.ntmps77
    go_wp2_with (first | (go_at_call 98; refine HC.out.mono ?_; rintro e _ ⟨rfl, rfl⟩) | (refine wpList_alloc_new rfl 156 rfl 2 _ pzLeaf ?_; intro w2 b2 s2 l2; have S2 : Hid (w2.heap.size = w.heap.size + 1) := s2; clear s2) | (refine wpList_store_blk rfl 156 156 _ _ rfl _ rfl _ [.slice ao cf.text c, .int .i64 (n.st q)] rfl b2 rfl leafSize (by intro u hu; simp at hu; rcases hu with rfl | rfl <;> rfl) ?_; intro w3 b3 s3 k3; have L3 : Below w.heap.size w w3 := below_kept l2 k3 (by have := S2.out; omega) (fun j hj => by omega); clear s3) | (go_at_call 101; refine (CU.out w3 L3).mono ?_))
    first | rintro e w5 rfl F5 x5 e5 | rintro e w5 ⟨rfl, F5, x5, e5⟩
    have E5 : Hid (Ev F F5 w w5) := (Ev.below L3).trans e5
    clear e5 b2 l2 b3 k3 hL c1
    obtain ⟨gh5, gp5, v5, fh5, fp5, szp5, Mh5, s5, Mt5, y5, hf5, ha5⟩ := id x5
    obtain ⟨ao5, c5, hfh5, hs5, hc5, -⟩ := y5.held q HM.out
    have c51 : w5.cell? ⟨p, 37, none⟩ = some (.map (some gh5)) := y5.o.m.pa.cell 4 _ (by rw [← y5.o.m.he]; rfl)
    have hL5 : (Instr.lookup 143 (.map (some gh5)) (.int .i64 (q : Int)) false).run Tryz.prog w5 = .ok (.agg #[.slice ao5 cf.text c5, .int .i64 ((n.use q).st q)]) w5 := by
      have := y5.o.m.hm.look (t := 143) Tryz.underlying143 (zeroLeaf w5) (k := (q : Int)) (i64_nat (by have := HQ.out.1; have := HQ.out.2.2.pages; omega))
      rw [hfh5] at this
      exact this
    have hF5 := leaf0 ao5 cf.text c5 (.int .i64 ((n.use q).st q)) w5
    have X5 : Hid (PagS w5 p h cf (n.use q).ord (n.use q) txt F5 ∧ Ev F F5 w w5) := ⟨x5.perm HP.out, E5.out⟩
    have HCl : Hid (Calls Tryz.prog 55 #[.slice ao5 cf.text c5] w5 fun e w' => ∃ v, e = .returned v ∧ w'.ownsRow w5.heap.size 5 1 v cf.text ((txt q).map (Value.int .u8)) ∧ Below w5.heap.size w5 w') := clone_any ao5 cf.text c5 (txt q) w5 hs5
    clear x5 y5 hf5 ha5 hfh5 hs5 hc5 E5
    go_wp2_with (go_at_call 55; refine HCl.out.mono ?_)
    rintro e w6 ⟨u, rfl, o6, l6⟩
    have R6 : Hid (PagS w6 p h cf (n.use q).ord (n.use q) txt F5 ∧ Ev F F5 w w6 ∧ isO w5.heap.size cf.text (txt q) u w6 ∧ w.heap.size ≤ w5.heap.size ∧ ∀ b, F5 b → b < w5.heap.size) := ⟨X5.out.1.later l6, X5.out.2.trans (Ev.below l6), o6, X5.out.2.kept.size, X5.out.1.all⟩
    clear o6 l6
    go_wp2
    go_ret2
    rw [EN.out]
    exact ⟨u, F5, w5.heap.size, rfl, R6.out⟩
  · have HQ : Hid (q < cf.pages ∧ q ∉ n.ord ∧ cf.Good) := ⟨hq, hm, x.good⟩
    have hq1 : q ∉ (n.room cf).ord := fun e => hm (room_ord cf n q e)
    have EN : Hid (n.load cf q = (n.fetch cf q).use q) := by show _ = _; unfold Nm.load; rw [if_neg hm]
    have HP : Hid ((q :: (n.room cf).ord).Perm ((n.fetch cf q).use q).ord) := by
      show (q :: (n.room cf).ord).Perm ((n.fetch cf q).ord.erase q ++ [q])
      rw [fetch_ord, erase_no _ _ hq1]
      exact (List.perm_append_singleton q _).symm
    have HM : Hid (q ∈ q :: (n.room cf).ord) := by show _ ∈ _; simp
    have HL5 : Hid ((n.fetch cf q).ord.length ≤ 16) := by
      show _ ≤ _
      rw [fetch_ord]
      have := room_len cf n hol x.good.win.1
      have := x.good.win.2
      omega
    obtain ⟨gh, gp, v, fh, fp, szp, Mh, s, Mt, y, hf, ha⟩ := id x
    have c1 : w.cell? ⟨p, 37, none⟩ = some (.map (some gh)) := y.o.m.pa.cell 4 _ (by rw [← y.o.m.he]; rfl)
    have hL : (Instr.lookup 143 (.map (some gh)) (.int .i64 (q : Int)) true).run Tryz.prog w = .ok (.tuple #[.agg #[.slice none 0 0, .int .i64 0], .bool false]) w := by
      have := y.o.m.hm.look_ok (t := 143) Tryz.underlying143 (zeroLeaf w) (k := (q : Int)) (i64_nat (by have := HQ.out.1; have := HQ.out.2.2.pages; omega))
      rw [y.none q (fun j hj e => HQ.out.2.1 (by have : j = q := by omega
                                                 rwa [← this]))] at this
      exact this
    have CF : Hid (∀ W, Below w.heap.size w W → Calls Tryz.prog 99 #[.pointer (some ⟨p, 0, none⟩), .int .i64 (q : Int)] W fun e w' => e = .returned (.int .i64 0) ∧ ∃ F', PagS w' p h cf (q :: (n.room cf).ord) (n.fetch cf q) txt F' ∧ Ev F F' W w') := fun W hW => fetch_S p h cf n txt F q W (x.later hW) hq hm hol hlog hwr
    clear x hq hol hlog hwr hm y hf ha hq1
    go_enter Tryz.func77, Tryz.ntmps77
    go_wp2_with (first | (go_at_call 98; refine HC.out.mono ?_; rintro e _ ⟨rfl, rfl⟩) | (refine wpList_alloc_new rfl 156 rfl 2 _ pzLeaf ?_; intro w2 b2 s2 l2; have S2 : Hid (w2.heap.size = w.heap.size + 1) := s2; clear s2) | (refine wpList_store_blk rfl 156 156 _ _ rfl _ rfl _ [.slice none 0 0, .int .i64 0] rfl b2 rfl leafSize (by intro u hu; simp at hu; rcases hu with rfl | rfl <;> rfl) ?_; intro w3 b3 s3 k3; have L3 : Below w.heap.size w w3 := below_kept l2 k3 (by have := S2.out; omega) (fun j hj => by omega); clear s3) | (go_at_call 99; refine (CF.out w3 L3).mono ?_))
    first | rintro e w4 rfl F4 x4 e4 | rintro e w4 ⟨rfl, F4, x4, e4⟩
    have X4 : Hid (PagS w4 p h cf (q :: (n.room cf).ord) (n.fetch cf q) txt F4 ∧ Ev F F4 w w4) := ⟨x4, (Ev.below L3).trans e4⟩
    have CU : Hid (Calls Tryz.prog 101 #[.pointer (some ⟨p, 0, none⟩), .int .i64 (q : Int)] w4 fun e w' => e = .returned (.tuple #[]) ∧ ∃ F', PagS w' p h cf (q :: (n.room cf).ord) ((n.fetch cf q).use q) txt F' ∧ Ev F4 F' w4 w') := use_S p h cf _ _ txt F4 q w4 x4 HL5.out
    clear x4 e4 b2 l2 b3 k3 hL c1
    go_wp2_with (go_at_call 101; refine CU.out.mono ?_)
    first | rintro e w5 rfl F5 x5 e5 | rintro e w5 ⟨rfl, F5, x5, e5⟩
    have E5 : Hid (Ev F F5 w w5) := X4.out.2.trans e5
    clear e5
    obtain ⟨gh5, gp5, v5, fh5, fp5, szp5, Mh5, s5, Mt5, y5, hf5, ha5⟩ := id x5
    obtain ⟨ao5, c5, hfh5, hs5, hc5, -⟩ := y5.held q HM.out
    have c51 : w5.cell? ⟨p, 37, none⟩ = some (.map (some gh5)) := y5.o.m.pa.cell 4 _ (by rw [← y5.o.m.he]; rfl)
    have hL5 : (Instr.lookup 143 (.map (some gh5)) (.int .i64 (q : Int)) false).run Tryz.prog w5 = .ok (.agg #[.slice ao5 cf.text c5, .int .i64 (((n.fetch cf q).use q).st q)]) w5 := by
      have := y5.o.m.hm.look (t := 143) Tryz.underlying143 (zeroLeaf w5) (k := (q : Int)) (i64_nat (by have := HQ.out.1; have := HQ.out.2.2.pages; omega))
      rw [hfh5] at this
      exact this
    have hF5 := leaf0 ao5 cf.text c5 (.int .i64 (((n.fetch cf q).use q).st q)) w5
    have X5 : Hid (PagS w5 p h cf ((n.fetch cf q).use q).ord ((n.fetch cf q).use q) txt F5 ∧ Ev F F5 w w5) := ⟨x5.perm HP.out, E5.out⟩
    have HCl : Hid (Calls Tryz.prog 55 #[.slice ao5 cf.text c5] w5 fun e w' => ∃ v, e = .returned v ∧ w'.ownsRow w5.heap.size 5 1 v cf.text ((txt q).map (Value.int .u8)) ∧ Below w5.heap.size w5 w') := clone_any ao5 cf.text c5 (txt q) w5 hs5
    clear x5 y5 hf5 ha5 hfh5 hs5 hc5 E5
    go_wp2_with (go_at_call 55; refine HCl.out.mono ?_)
    rintro e w6 ⟨u, rfl, o6, l6⟩
    have R6 : Hid (PagS w6 p h cf ((n.fetch cf q).use q).ord ((n.fetch cf q).use q) txt F5 ∧ Ev F F5 w w6 ∧ isO w5.heap.size cf.text (txt q) u w6 ∧ w.heap.size ≤ w5.heap.size ∧ ∀ b, F5 b → b < w5.heap.size) := ⟨X5.out.1.later l6, X5.out.2.trans (Ev.below l6), o6, X5.out.2.kept.size, X5.out.1.all⟩
    clear o6 l6
    go_wp2
    go_ret2
    rw [EN.out]
    exact ⟨u, F5, w5.heap.size, rfl, R6.out⟩
theorem save_S (p h : Nat) (cf : Cf) (n : Nm) (txt : Nat → List Int) (F : Nat → Prop) (q : Nat) (bo : Option Addr) (bc : Nat) (zs : List Int) (w : World) (x : PagS w p h cf n.ord n txt F) (hq : q < cf.pages) (hol : n.ord.length ≤ cf.win) (hlog : n.log.length < 1000000000) (hwr : n.writes < 1000000000) (hs : Seen w bo cf.text zs) (hbF : ∀ b o, bo = some ⟨b, o, none⟩ → ¬ F b) :
    Calls Tryz.prog 88 #[.pointer (some ⟨p, 0, none⟩), .int .i64 (q : Int), .slice bo cf.text bc] w fun e w' => e = .returned (.int .i64 0) ∧ ∃ F', PagS w' p h cf (n.save cf q).ord (n.save cf q) (upn txt q zs) F' ∧ Ev F F' w w' := by
  have HC : Hid (Calls Tryz.prog 98 #[.pointer (some ⟨p, 0, none⟩), .int .i64 (q : Int)] w fun e w' => e = .returned (.int .i64 0) ∧ w = w') := by
    obtain ⟨gh, gp, v, fh, fp, szp, Mh, s, Mt, y, hf, ha⟩ := x
    have := gcheck_any p v q w y.o.m.pa
    rw [show chkE v q = 0 by unfold chkE; rw [if_neg (by simp [y.ed]), if_neg (by rw [y.ep]; omega)]] at this
    exact this
  have cT : w.cell? ⟨p, 36, none⟩ = some (.int .i64 (cf.text : Int)) := by
    obtain ⟨gh, gp, v, fh, fp, szp, Mh, s, Mt, y, hf, ha⟩ := x
    exact y.o.m.pa.cell 3 _ (by rw [← y.et]; rfl)
  have HS : Hid (Seen w bo cf.text zs ∧ ∀ b o, bo = some ⟨b, o, none⟩ → ¬ F b) := ⟨hs, hbF⟩
  by_cases hm : q ∈ n.ord
  · have HQ : Hid (q < cf.pages ∧ q ∈ n.ord ∧ cf.Good) := ⟨hq, hm, x.good⟩
    have EN : Hid (n.save cf q = (n.put n.ord q 2).use q) := by show _ = _; unfold Nm.save; rw [if_pos hm]
    have HP : Hid ((addL n.ord q).Perm ((n.put n.ord q 2).use q).ord) := by
      show (addL n.ord q).Perm (n.ord.erase q ++ [q])
      rw [show addL n.ord q = n.ord by unfold addL; rw [if_pos hm]]
      exact perm_use _ _ hm
    have HL : Hid (n.ord.length ≤ 16) := by show _ ≤ _; have := x.good.win.2; omega
    have X0 : Hid (PagS w p h cf n.ord n txt F) := x
    obtain ⟨gh, gp, v, fh, fp, szp, Mh, s, Mt, y, hf, ha⟩ := id x
    obtain ⟨ao, c, hfh, -⟩ := y.held q HQ.out.2.1
    have c1 : w.cell? ⟨p, 37, none⟩ = some (.map (some gh)) := y.o.m.pa.cell 4 _ (by rw [← y.o.m.he]; rfl)
    have hL : (Instr.lookup 143 (.map (some gh)) (.int .i64 (q : Int)) true).run Tryz.prog w = .ok (.tuple #[.agg #[.slice ao cf.text c, .int .i64 (n.st q)], .bool true]) w := by
      have := y.o.m.hm.look_ok (t := 143) Tryz.underlying143 (zeroLeaf w) (k := (q : Int)) (i64_nat (by have := HQ.out.1; have := HQ.out.2.2.pages; omega))
      rw [hfh] at this
      exact this
    have CC : Hid (∀ W, Below w.heap.size w W → Calls Tryz.prog 55 #[.slice bo cf.text bc] W fun e w' => ∃ v, e = .returned v ∧ w'.ownsRow W.heap.size 5 1 v cf.text (zs.map (Value.int .u8)) ∧ Below W.heap.size W w') := fun W hW => clone_any bo cf.text bc zs W (hs.later hW (Nat.le_refl _))
    clear x hq hol hlog hwr hm y hf ha hfh hs hbF
    go_enter Tryz.func88, Tryz.ntmps88
    go_wp2_with (first | (go_at_call 98; refine HC.out.mono ?_; rintro e _ ⟨rfl, rfl⟩) | (refine wpList_alloc_new rfl 156 rfl 2 _ pzLeaf ?_; intro w2 b2 s2 l2; have S2 : Hid (w2.heap.size = w.heap.size + 1) := s2; clear s2) | (refine wpList_store_blk rfl 156 156 _ _ rfl _ rfl _ [.slice ao cf.text c, .int .i64 (n.st q)] rfl b2 rfl leafSize (by intro u hu; simp at hu; rcases hu with rfl | rfl <;> rfl) ?_; intro w3 b3 s3 k3; have L3 : Below w.heap.size w w3 := below_kept l2 k3 (by have := S2.out; omega) (fun j hj => by omega); clear s3) | (go_at_call 55; refine (CC.out w3 L3).mono ?_))
    have X3 : Hid (PagS w3 p h cf n.ord n txt F ∧ Ev F F w w3) := ⟨X0.out.later L3, Ev.below L3⟩
    clear b2 l2 b3 k3 hL c1 cT
    first | rintro e w4 ⟨u4, rfl, o4, l4⟩ | skip
    obtain ⟨uo, uc, rfl, su, huc, hub⟩ := own_sliceP o4 HS.out.1.len HS.out.1.bytes (by have := HQ.out.2.2.text; omega)
    have lb := lbuild uo cf.text uc 2 w4
    have CP : Hid (Calls Tryz.prog 104 #[.pointer (some ⟨p, 0, none⟩), .int .i64 (q : Int), .agg #[.slice uo cf.text uc, .int .i64 2]] w4 fun e w' => e = .returned (.tuple #[]) ∧ PagS w' p h cf (addL n.ord q) ((n).put n.ord q 2) (upn txt q zs) (fun b => F b ∨ ∃ o, uo = some ⟨b, o, none⟩) ∧ Kept F w4 w') := put_S p h cf _ _ txt F q uo uc 2 zs w4 (X3.out.1.later l4) HQ.out.1 HL.out su huc (fun b o e => ⟨(hub b o e).2, fun hF => by have := X3.out.1.all b hF; have := (hub b o e).1; omega⟩) (.inl rfl)
    have E4 : Hid (∀ w5, Kept F w4 w5 → Ev F (fun b => F b ∨ ∃ o, uo = some ⟨b, o, none⟩) w w5) := fun w5 k5 => ⟨(X3.out.2.trans ((Ev.below l4).trans ⟨k5, fun b hb => .inl hb⟩) : Ev F F w w5).kept, fun b hb => hb.elim (X3.out.2.new b) (fun ⟨o, e⟩ => .inr (by have h1 := (hub b o e).1; have h2 := X3.out.2.kept.size; omega))⟩
    clear o4 l4 su huc hub
    go_wp2_with (go_at_call 104; refine CP.out.mono ?_)
    first | rintro e w5 rfl x5 k5 | rintro e w5 ⟨rfl, x5, k5⟩
    have X5 : Hid (PagS w5 p h cf (addL n.ord q) ((n).put n.ord q 2) (upn txt q zs) (fun b => F b ∨ ∃ o, uo = some ⟨b, o, none⟩) ∧ Ev F (fun b => F b ∨ ∃ o, uo = some ⟨b, o, none⟩) w w5) := ⟨x5, E4.out w5 k5⟩
    have CU : Hid (Calls Tryz.prog 101 #[.pointer (some ⟨p, 0, none⟩), .int .i64 (q : Int)] w5 fun e w' => e = .returned (.tuple #[]) ∧ ∃ F', PagS w' p h cf (addL n.ord q) (((n).put n.ord q 2).use q) (upn txt q zs) F' ∧ Ev (fun b => F b ∨ ∃ o, uo = some ⟨b, o, none⟩) F' w5 w') := use_S p h cf _ _ _ _ q w5 x5 HL.out
    clear x5 k5
    go_wp2_with (go_at_call 101; refine CU.out.mono ?_)
    first | rintro e w6 rfl F6 x6 e6 | rintro e w6 ⟨rfl, F6, x6, e6⟩
    have X6 : Hid (PagS w6 p h cf (((n).put n.ord q 2).use q).ord (((n).put n.ord q 2).use q) (upn txt q zs) F6 ∧ Ev F F6 w w6) := ⟨x6.perm HP.out, X5.out.2.trans e6⟩
    clear x6 e6
    go_wp2
    go_ret
    rw [EN.out]
    exact ⟨rfl, F6, X6.out⟩
  · have HQ : Hid (q < cf.pages ∧ q ∉ n.ord ∧ cf.Good) := ⟨hq, hm, x.good⟩
    have hq1 : q ∉ (n.room cf).ord := fun e => hm (room_ord cf n q e)
    have EN : Hid (n.save cf q = ((n.room cf).put (n.room cf).ord q 2).use q) := by show _ = _; unfold Nm.save; rw [if_neg hm]
    have HP : Hid ((addL (n.room cf).ord q).Perm (((n.room cf).put (n.room cf).ord q 2).use q).ord) := by
      show (addL (n.room cf).ord q).Perm ((n.room cf).ord.erase q ++ [q])
      rw [show addL (n.room cf).ord q = q :: (n.room cf).ord by unfold addL; rw [if_neg hq1], erase_no _ _ hq1]
      exact (List.perm_append_singleton q _).symm
    have HL : Hid ((n.room cf).ord.length ≤ 16) := by
      show _ ≤ _
      have := room_len cf n hol x.good.win.1
      have := x.good.win.2
      omega
    obtain ⟨gh, gp, v, fh, fp, szp, Mh, s, Mt, y, hf, ha⟩ := id x
    have c1 : w.cell? ⟨p, 37, none⟩ = some (.map (some gh)) := y.o.m.pa.cell 4 _ (by rw [← y.o.m.he]; rfl)
    have hL : (Instr.lookup 143 (.map (some gh)) (.int .i64 (q : Int)) true).run Tryz.prog w = .ok (.tuple #[.agg #[.slice none 0 0, .int .i64 0], .bool false]) w := by
      have := y.o.m.hm.look_ok (t := 143) Tryz.underlying143 (zeroLeaf w) (k := (q : Int)) (i64_nat (by have := HQ.out.1; have := HQ.out.2.2.pages; omega))
      rw [y.none q (fun j hj e => HQ.out.2.1 (by have : j = q := by omega
                                                 rwa [← this]))] at this
      exact this
    have CR : Hid (∀ W, Below w.heap.size w W → Calls Tryz.prog 103 #[.pointer (some ⟨p, 0, none⟩)] W fun e w' => e = .returned (.int .i64 0) ∧ ∃ F', PagS w' p h cf (n.room cf).ord (n.room cf) txt F' ∧ Ev F F' W w') := fun W hW => room_S p h cf n txt F W (x.later hW) (by omega) (by omega)
    clear x hq hol hlog hwr hm y hf ha hq1 hs hbF
    go_enter Tryz.func88, Tryz.ntmps88
    go_wp2_with (first | (go_at_call 98; refine HC.out.mono ?_; rintro e _ ⟨rfl, rfl⟩) | (refine wpList_alloc_new rfl 156 rfl 2 _ pzLeaf ?_; intro w2 b2 s2 l2; have S2 : Hid (w2.heap.size = w.heap.size + 1) := s2; clear s2) | (refine wpList_store_blk rfl 156 156 _ _ rfl _ rfl _ [.slice none 0 0, .int .i64 0] rfl b2 rfl leafSize (by intro u hu; simp at hu; rcases hu with rfl | rfl <;> rfl) ?_; intro w3 b3 s3 k3; have L3 : Below w.heap.size w w3 := below_kept l2 k3 (by have := S2.out; omega) (fun j hj => by omega); clear s3) | (go_at_call 103; refine (CR.out w3 L3).mono ?_))
    first | rintro e w9 rfl F9 x9 e9 | rintro e w9 ⟨rfl, F9, x9, e9⟩
    have X9 : Hid (PagS w9 p h cf (n.room cf).ord (n.room cf) txt F9 ∧ Ev F F9 w w9) := ⟨x9, (Ev.below L3).trans e9⟩
    have CC : Hid (Calls Tryz.prog 55 #[.slice bo cf.text bc] w9 fun e w' => ∃ v, e = .returned v ∧ w'.ownsRow w9.heap.size 5 1 v cf.text (zs.map (Value.int .u8)) ∧ Below w9.heap.size w9 w') := clone_any bo cf.text bc zs w9 (HS.out.1.off X9.out.2.kept HS.out.2)
    clear x9 e9 b2 l2 b3 k3 hL c1 cT
    go_wp2_with (go_at_call 55; refine CC.out.mono ?_)
    first | rintro e w4 ⟨u4, rfl, o4, l4⟩ | skip
    obtain ⟨uo, uc, rfl, su, huc, hub⟩ := own_sliceP o4 HS.out.1.len HS.out.1.bytes (by have := HQ.out.2.2.text; omega)
    have lb := lbuild uo cf.text uc 2 w4
    have CP : Hid (Calls Tryz.prog 104 #[.pointer (some ⟨p, 0, none⟩), .int .i64 (q : Int), .agg #[.slice uo cf.text uc, .int .i64 2]] w4 fun e w' => e = .returned (.tuple #[]) ∧ PagS w' p h cf (addL (n.room cf).ord q) ((n.room cf).put (n.room cf).ord q 2) (upn txt q zs) (fun b => F9 b ∨ ∃ o, uo = some ⟨b, o, none⟩) ∧ Kept F9 w4 w') := put_S p h cf _ _ txt F9 q uo uc 2 zs w4 (X9.out.1.later l4) HQ.out.1 HL.out su huc (fun b o e => ⟨(hub b o e).2, fun hF => by have := X9.out.1.all b hF; have := (hub b o e).1; omega⟩) (.inl rfl)
    have E4 : Hid (∀ w5, Kept F9 w4 w5 → Ev F (fun b => F9 b ∨ ∃ o, uo = some ⟨b, o, none⟩) w w5) := fun w5 k5 => ⟨(X9.out.2.trans ((Ev.below l4).trans ⟨k5, fun b hb => .inl hb⟩) : Ev F F9 w w5).kept, fun b hb => hb.elim (X9.out.2.new b) (fun ⟨o, e⟩ => .inr (by have h1 := (hub b o e).1; have h2 := X9.out.2.kept.size; omega))⟩
    clear o4 l4 su huc hub
    go_wp2_with (go_at_call 104; refine CP.out.mono ?_)
    first | rintro e w5 rfl x5 k5 | rintro e w5 ⟨rfl, x5, k5⟩
    have X5 : Hid (PagS w5 p h cf (addL (n.room cf).ord q) ((n.room cf).put (n.room cf).ord q 2) (upn txt q zs) (fun b => F9 b ∨ ∃ o, uo = some ⟨b, o, none⟩) ∧ Ev F (fun b => F9 b ∨ ∃ o, uo = some ⟨b, o, none⟩) w w5) := ⟨x5, E4.out w5 k5⟩
    have CU : Hid (Calls Tryz.prog 101 #[.pointer (some ⟨p, 0, none⟩), .int .i64 (q : Int)] w5 fun e w' => e = .returned (.tuple #[]) ∧ ∃ F', PagS w' p h cf (addL (n.room cf).ord q) (((n.room cf).put (n.room cf).ord q 2).use q) (upn txt q zs) F' ∧ Ev (fun b => F9 b ∨ ∃ o, uo = some ⟨b, o, none⟩) F' w5 w') := use_S p h cf _ _ _ _ q w5 x5 HL.out
    clear x5 k5
    go_wp2_with (go_at_call 101; refine CU.out.mono ?_)
    first | rintro e w6 rfl F6 x6 e6 | rintro e w6 ⟨rfl, F6, x6, e6⟩
    have X6 : Hid (PagS w6 p h cf (((n.room cf).put (n.room cf).ord q 2).use q).ord (((n.room cf).put (n.room cf).ord q 2).use q) (upn txt q zs) F6 ∧ Ev F F6 w w6) := ⟨x6.perm HP.out, X5.out.2.trans e6⟩
    clear x6 e6
    go_wp2
    go_ret
    rw [EN.out]
    exact ⟨rfl, F6, X6.out⟩
def nm0 : Nm := ⟨[], fun _ => 0, fun _ => false, 0, 0, []⟩
def txt0 (cf : Cf) : Nat → List Int := fun _ => List.replicate cf.text 0
def pgN (cf : Cf) (h gh gp : Nat) : PgV := ⟨.iface 42 (.pointer (some ⟨h, 0, none⟩)), cf.key, cf.round, cf.win, cf.pages, cf.text, .map (some gh), .slice none 0 0, .map (some gp), 0, 0, 0⟩
theorem meth_pages (q : Option Addr) (w : World) : (method 404 42 (.pointer q) "Pages").run Tryz.prog w = .ok (192, .pointer q) w := by kernel_rfl
theorem meth_size (q : Option Addr) (w : World) : (method 404 42 (.pointer q) "Size").run Tryz.prog w = .ok (195, .pointer q) w := by kernel_rfl
theorem nil_store (q : Option Addr) : ∀ w : World, (binOp .eql 142 (.iface 42 (.pointer q)) .nilIface).run Tryz.prog w = .ok (.bool false) w := fun w => by kernel_rfl
theorem pbuildK (k0 k1 k2 k3 k4 k5 k6 k7 k8 k9 k10 k11 k12 k13 k14 k15 k16 k17 k18 k19 k20 k21 k22 k23 k24 k25 k26 k27 k28 k29 k30 k31 r : Int) (wi pa te h gh gp : Nat) (w : World) : (Instr.build 146 #[(0, .iface 42 (.pointer (some ⟨h, 0, none⟩))), (1, .agg (u8s [k0, k1, k2, k3, k4, k5, k6, k7, k8, k9, k10, k11, k12, k13, k14, k15, k16, k17, k18, k19, k20, k21, k22, k23, k24, k25, k26, k27, k28, k29, k30, k31]).toArray), (2, .int .u64 r), (3, .int .i64 (wi : Int)), (4, .int .i64 (pa : Int)), (5, .int .i64 (te : Int)), (6, .map (some gh)), (8, .map (some gp))]).run Tryz.prog w = .ok (.agg (pgC (pgN ⟨[k0, k1, k2, k3, k4, k5, k6, k7, k8, k9, k10, k11, k12, k13, k14, k15, k16, k17, k18, k19, k20, k21, k22, k23, k24, k25, k26, k27, k28, k29, k30, k31], r, wi, pa, te⟩ h gh gp)).toArray) w := by kernel_rfl
theorem pbuildN (cf : Cf) (hk : cf.key.length = 32) (h gh gp : Nat) (w : World) : (Instr.build 146 #[(0, .iface 42 (.pointer (some ⟨h, 0, none⟩))), (1, .agg (u8s cf.key).toArray), (2, .int .u64 cf.round), (3, .int .i64 (cf.win : Int)), (4, .int .i64 (cf.pages : Int)), (5, .int .i64 (cf.text : Int)), (6, .map (some gh)), (8, .map (some gp))]).run Tryz.prog w = .ok (.agg (pgC (pgN cf h gh gp)).toArray) w := by
 obtain ⟨key, round, win, pages, text⟩ := cf
 simp only at hk
 match key, hk with
 | [k0, k1, k2, k3, k4, k5, k6, k7, k8, k9, k10, k11, k12, k13, k14, k15, k16, k17, k18, k19, k20, k21, k22, k23, k24, k25, k26, k27, k28, k29, k30, k31], _ => exact pbuildK k0 k1 k2 k3 k4 k5 k6 k7 k8 k9 k10 k11 k12 k13 k14 k15 k16 k17 k18 k19 k20 k21 k22 k23 k24 k25 k26 k27 k28 k29 k30 k31 round win pages text h gh gp w
theorem pnew_S (cf : Cf) (hq : Nat) (Mh : Nat → Prop) (w : World) (hg : cf.Good) (hk : cf.key.length = 32) (hkb : Bytes cf.key) (x : HostAt w Mh hq (newS cf.pages (cf.text + 28) [])) :
  Calls Tryz.prog 62 #[.iface 42 (.pointer (some ⟨hq, 0, none⟩)), .agg (u8s cf.key).toArray, .int .u64 cf.round, .int .i64 (cf.win : Int)] w fun e w' => ∃ p F, e = .returned (.tuple #[.pointer (some ⟨p, 0, none⟩), .int .i64 0]) ∧ PagS w' p hq cf [] nm0 (txt0 cf) F ∧ Below w.heap.size w w' ∧ ∀ b, F b → Mh b ∨ w.heap.size ≤ b := by
 have X0 : Hid (HostAt w Mh hq (newS cf.pages (cf.text + 28) [])) := x
 have HG : Hid (cf.Good ∧ cf.key.length = 32 ∧ Bytes cf.key) := ⟨hg, hk, hkb⟩
 have i1 : decide ((cf.win : Int) < 2) = false := decide_eq_false (by have := hg.win; omega)
 have i2 : decide ((16 : Int) < (cf.win : Int)) = false := decide_eq_false (by have := hg.win; omega)
 have i3 : decide ((cf.pages : Int) < 0) = false := decide_eq_false (by omega)
 have i4 : decide ((65536 : Int) < (cf.pages : Int)) = false := decide_eq_false (by have := hg.pages; omega)
 have i5 : decide (((cf.text : Int) + 28) ≤ 28) = false := decide_eq_false (by have := hg.text; omega)
 have i6 : decide ((4124 : Int) < ((cf.text : Int) + 28)) = false := decide_eq_false (by have := hg.text; omega)
 have t1 : (cf.text : Int) ≤ 4096 := by have := hg.text; omega
 have hmP : ∀ W, (method 404 42 (.pointer (some ⟨hq, 0, none⟩)) "Pages").run Tryz.prog W = .ok (192, .pointer (some ⟨hq, 0, none⟩)) W := meth_pages _
 have hmS : ∀ W, (method 404 42 (.pointer (some ⟨hq, 0, none⟩)) "Size").run Tryz.prog W = .ok (195, .pointer (some ⟨hq, 0, none⟩)) W := meth_size _
 have hnl := nil_store (some ⟨hq, 0, none⟩)
 have CPg : Hid (∀ W, Below w.heap.size w W → Calls Tryz.prog 192 #[.pointer (some ⟨hq, 0, none⟩)] W fun e w' => e = .returned (.int .i64 (cf.pages : Int)) ∧ W = w') := fun W hW => pages_any hq _ Mh W (x.later hW)
 have CSz : Hid (∀ W, Below w.heap.size w W → Calls Tryz.prog 195 #[.pointer (some ⟨hq, 0, none⟩)] W fun e w' => e = .returned (.int .i64 ((cf.text : Int) + 28)) ∧ W = w') := fun W hW => size_any hq _ Mh W (x.later hW)
 have hmm := @run_makeMap Tryz.prog
 obtain ⟨PC, hPC⟩ : ∃ PC : Nat → Nat → List Value, PC = fun gh gp => pgC (pgN cf hq gh gp) := ⟨_, rfl⟩
 have hPB : ∀ (gh gp : Nat) (W : World), (Instr.build 146 #[(0, .iface 42 (.pointer (some ⟨hq, 0, none⟩))), (1, .agg (u8s cf.key).toArray), (2, .int .u64 cf.round), (3, .int .i64 (cf.win : Int)), (4, .int .i64 (cf.pages : Int)), (5, .int .i64 (cf.text : Int)), (6, .map (some gh)), (8, .map (some gp))]).run Tryz.prog W = .ok (.agg (PC gh gp).toArray) W := fun gh gp W => by rw [hPC]; exact pbuildN cf hk hq gh gp W
 have HPC : Hid (PC = fun gh gp => pgC (pgN cf hq gh gp)) := hPC
 clear hPC
 clear x hg hk hkb
 go_enter Tryz.func62, Tryz.ntmps62
 go_wp2_with (first | (refine wpList_box_new rfl 30 _ rfl (u8s cf.key) rfl ?_; intro w1 b1 s1 l1; have S1 : Hid (w1.heap.size = w.heap.size + 1) := s1; clear s1) | (go_at_call 192; refine (CPg.out w1 l1).mono ?_; rintro e _ ⟨rfl, rfl⟩) | (go_at_call 195; refine (CSz.out w1 l1).mono ?_; rintro e _ ⟨rfl, rfl⟩) | (refine wpList_load_blk rfl 30 _ rfl _ rfl (u8s cf.key) _ b1 Tryz.underlying30 rfl (by rw [u8s_length, HG.out.2.1]; exact keySize) ?_) | ((with_reducible show wpList _ _ _ (({ dst := some 47, op := _, type := _, pos := _, after := _, guard := _ } : Oper) :: _) _ _); refine wpList_build rfl 146 _ rfl #[(0, .iface 42 (.pointer (some ⟨hq, 0, none⟩))), (1, .agg (u8s cf.key).toArray), (2, .int .u64 cf.round), (3, .int .i64 (cf.win : Int)), (4, .int .i64 (cf.pages : Int)), (5, .int .i64 (cf.text : Int)), (6, .map (some w1.heap.size)), (8, .map (some (w1.heap.size + 1)))] (by simp [Act.eval]; done) _ (hPB w1.heap.size (w1.heap.size + 1) _) ?_))
 have b2 : Blk (((w1.alloc (.map #[] 0)).alloc (.map #[] 0)).alloc (.cells (PC w1.heap.size (w1.heap.size + 1)).toArray 146)) ((w1.alloc (.map #[] 0)).alloc (.map #[] 0)).heap.size 146 (PC w1.heap.size (w1.heap.size + 1)) := heap_alloc_new _ _
 have l2 : Below ((w1.alloc (.map #[] 0)).alloc (.map #[] 0)).heap.size ((w1.alloc (.map #[] 0)).alloc (.map #[] 0)) (((w1.alloc (.map #[] 0)).alloc (.map #[] 0)).alloc (.cells (PC w1.heap.size (w1.heap.size + 1)).toArray 146)) := (Below.refl _ _).alloc (Nat.le_refl _) _
 obtain ⟨w2, hw2⟩ : ∃ w2, ((w1.alloc (.map #[] 0)).alloc (.map #[] 0)).alloc (.cells (PC w1.heap.size (w1.heap.size + 1)).toArray 146) = w2 := ⟨_, rfl⟩
 rw [hw2] at b2 l2 ⊢
 clear hw2
 go_ret2
 have hM := mapV_made w1
 have l1a : Below w1.heap.size w1 (w1.alloc (.map #[] 0)) := (Below.refl _ _).alloc (Nat.le_refl _) _
 have hz1 : (w1.alloc (.map #[] 0)).heap.size = w1.heap.size + 1 := by simp
 have hN := mapV_made (w1.alloc (.map #[] 0))
 rw [hz1] at hN
 have l1b : Below (w1.heap.size + 1) (w1.alloc (.map #[] 0)) ((w1.alloc (.map #[] 0)).alloc (.map #[] 0)) := (Below.refl _ _).alloc (by omega) _
 have hz2 : ((w1.alloc (.map #[] 0)).alloc (.map #[] 0)).heap.size = w1.heap.size + 2 := by simp
 obtain ⟨wm, hwm⟩ : ∃ wm, (w1.alloc (.map #[] 0)).alloc (.map #[] 0) = wm := ⟨_, rfl⟩
 rw [hwm] at l1b hN hz2 l2 b2
 rw [hz2] at l2 b2
 have lw : Below w1.heap.size w1 wm := below_chain l1a l1b (by omega)
 have m1 : MapV w2 w1.heap.size (fun _ => none) 0 := (hM.later l1b (by omega)).later l2 (by omega)
 have m2 : MapV w2 (w1.heap.size + 1) (fun _ => none) 0 := hN.later l2 (by omega)
 have hs1 := S1.out
 have lall : Below w.heap.size w w2 := below_chain (below_chain l1 lw (by omega)) l2 (by omega)
 have hh := X0.out.later lall
 have hlt := X0.out.all
 rw [HPC.out] at b2
 have PA : PgAt w2 (w1.heap.size + 2) (pgN cf hq w1.heap.size (w1.heap.size + 1)) := ⟨b2, HG.out.2.1, HG.out.2.2⟩
 have hMn : ∀ b, w.heap.size ≤ b → ¬ Mh b := fun b hb hm => by have := hlt b hm; omega
 have PM : PgM w2 (w1.heap.size + 2) w1.heap.size (w1.heap.size + 1) hq (pgN cf hq w1.heap.size (w1.heap.size + 1)) (fun _ => none) 0 (fun _ => none) 0 Mh (newS cf.pages (cf.text + 28) []) :=
  ⟨PA, rfl, rfl, rfl, m1, m2, hh, ⟨hMn _ (by omega), hMn _ (by omega), hMn _ (by omega)⟩, by omega⟩
 have PO : PgO w2 (w1.heap.size + 2) w1.heap.size (w1.heap.size + 1) hq (pgN cf hq w1.heap.size (w1.heap.size + 1)) (fun _ => none) 0 (fun _ => none) 0 Mh (newS cf.pages (cf.text + 28) []) (oI nm0.ord) := ⟨PM, World.ownsRow_nil _ _ _ _, fun g hg => by cases hg⟩
 refine ⟨w1.heap.size + 2, OwO Mh (w1.heap.size + 2) w1.heap.size (w1.heap.size + 1) (pgN cf hq w1.heap.size (w1.heap.size + 1)), rfl, ⟨w1.heap.size, w1.heap.size + 1, pgN cf hq w1.heap.size (w1.heap.size + 1), fun _ => none, fun _ => none, 0, Mh, newS cf.pages (cf.text + 28) [], fun _ => False, { o := PO, ek := rfl, er := rfl, ew := rfl, ep := rfl, et := rfl, em := rfl, ewr := rfl, ed := rfl, good := HG.out.1, held := fun q hq => (by cases hq), none := fun k _ => rfl, nd := List.nodup_nil, len := ⟨by decide, by decide⟩, rng := fun q hq => (by cases hq), wrt := fun q _ hw => (by cases hw), nwr := fun q _ _ => ⟨rfl, fun _ => rfl⟩, tl := fun q => ⟨by simp [txt0], fun z hz => by rw [List.eq_of_mem_replicate hz]; decide⟩, sz := Nat.le_refl _, hn := ⟨rfl, fun _ => rfl, rfl⟩, sp := rfl, ss := rfl, so := rfl, sl := rfl, mt := fun b hb => hb.elim }, fun b hb => hb.elim id (fun h => h.elim), PO.all⟩, lall, ?_⟩
 intro b hb
 rcases hb with (e | e | e | e) | e
 ·right; omega
 ·right; omega
 ·right; omega
 ·exact .inl e
 ·cases e
structure SlV where
 p : Nat
 first : Nat
 n : Nat
 size : Nat
 each : Nat
 log : Value
def slC (v : SlV) : List Value := [.pointer (some ⟨v.p, 0, none⟩), .int .i64 (v.first : Int), .int .i64 (v.n : Int), .int .i64 (v.size : Int), .int .i64 (v.each : Int), v.log]
abbrev SlAt (w : World) (g : Nat) (v : SlV) : Prop := Blk w g 93 (slC v)
theorem Blk.cellS {w : World} {g : Nat} {v : SlV} (h : Blk w g 93 (slC v)) (i : Nat) (x : Value) (hx : (slC v)[i]? = some x) : w.cell? ⟨g, i, none⟩ = some x := by rw [h.cell]; exact hx
theorem wrapN (x : Nat) (h : x ≤ 4294967296) : IntKind.i64.wrap (x : Int) = (x : Int) := by simp [IntKind.wrap, IntKind.bits, IntKind.signed]; omega
theorem divN (a b : Nat) : Int.tdiv (a : Int) (b : Int) = ((a / b : Nat) : Int) := by rw [Int.ofNat_tdiv]
theorem modN (a b : Nat) : Int.tmod (a : Int) (b : Int) = ((a % b : Nat) : Int) := by rw [Int.ofNat_tmod]
theorem len_any (g : Nat) (v : SlV) (w : World) (h : SlAt w g v) : Calls Tryz.prog 48 #[.pointer (some ⟨g, 0, none⟩)] w fun e w' => e = .returned (.int .i64 (v.n : Int)) ∧ w = w' := by
 have c := h.cellS 2 _ rfl
 go_enter Tryz.func48, Tryz.ntmps48
 go_wp2
 go_ret
 exact ⟨rfl, rfl⟩
theorem has_yes (g : Nat) (v : SlV) (i : Nat) (hi : i < v.n) (w : World) (h : SlAt w g v) : Calls Tryz.prog 49 #[.pointer (some ⟨g, 0, none⟩), .int .i64 (i : Int)] w fun e w' => e = .returned (.bool true) ∧ w = w' := by
 have c := h.cellS 2 _ rfl
 have i1 : decide (i < v.n) = true := decide_eq_true hi
 clear h hi
 go_enter Tryz.func49, Tryz.ntmps49
 go_wp2
 go_ret
 exact ⟨by rw [← i1]; rfl, rfl⟩
theorem page_any (g : Nat) (v : SlV) (i : Nat) (w : World) (h : SlAt w g v) (he : 1 ≤ v.each) (hf : v.first + i / v.each ≤ 1000000) (hi : i ≤ 1000000000) : Calls Tryz.prog 54 #[.pointer (some ⟨g, 0, none⟩), .int .i64 (i : Int)] w fun e w' => e = .returned (.int .i64 ((v.first + i / v.each : Nat) : Int)) ∧ Below w.heap.size w w' := by
 have HB : Hid (Blk w g 93 (slC v)) := h
 obtain ⟨d, hd⟩ : ∃ d, i / v.each = d := ⟨_, rfl⟩
 rw [hd] at hf ⊢
 obtain ⟨pg, hpg⟩ : ∃ pg, v.first + d = pg := ⟨_, rfl⟩
 rw [hpg] at hf ⊢
 have HE : Hid (¬ v.each = 0 ∧ Int.tdiv (i : Int) (v.each : Int) = (d : Int) ∧ (v.first : Int) + (d : Int) = (pg : Int) ∧ pg ≤ 4294967296 ∧ d ≤ 4294967296) := ⟨by omega, by rw [divN, hd], by omega, by omega, by omega⟩
 clear hd hpg
 clear h he hf hi
 go_enter Tryz.func54, Tryz.ntmps54
 go_wp2_with fail
 refine region_invT [.val (.pointer (some ⟨g, 0, none⟩)), .val (.pointer (some ⟨g, 0, none⟩)), .val (.pointer (some ⟨g, 1, none⟩)), .val (.int .i64 (v.first : Int)), .val (.int .i64 (i : Int)), .val (.pointer (some ⟨g, 0, none⟩)), .val (.pointer (some ⟨g, 0, none⟩)), .val (.pointer (some ⟨g, 4, none⟩)), .val (.int .i64 (v.each : Int)), .val (.int .i64 (d : Int)), .val (.int .i64 (pg : Int))] (by kernel_rfl) (by kernel_rfl) (by kernel_rfl) ?_ ?_
 ·refine Steps'.cons ?_ (Steps'.cons ?_ (Steps'.cons ?_ (Steps'.cons ?_ (Steps'.cons ?_ (Steps'.cons ?_ (Steps'.cons ?_ (Steps'.cons ?_ (Steps'.cons ?_ (Steps'.cons ?_ (Steps'.cons ?_ (Steps'.one _ _ _ _ _ _ _)))))))))))
  ·intro ax wx hb hs hd
   have h0 : ax.tmps.getD 0 undef = (.pointer (some ⟨g, 0, none⟩)) := hs 0 (by kernel_rfl)
   exact Does.value _ (by clear hs hd; go_simp) rfl
  ·intro ax wx hb hs hd
   have h5 := sqV (hd 0 5 rfl (by kernel_rfl) (by decide))
   exact Does.value _ (by clear hs hd; go_simp) rfl
  ·intro ax wx hb hs hd
   have h6 := sqV (hd 1 6 rfl (by kernel_rfl) (by decide))
   exact Does.value _ (by clear hs hd; go_simp) rfl
  ·intro ax wx hb hs hd
   have h7 := sqV (hd 2 7 rfl (by kernel_rfl) (by decide))
   have c0 : wx.cell? ⟨g, 1, none⟩ = some (.int .i64 (v.first : Int)) := (HB.out.later hb HB.out.lt).cellS 1 _ rfl
   exact Does.value _ (by clear hs hd; go_simp) rfl
  ·intro ax wx hb hs hd
   have h1 : ax.tmps.getD 1 undef = (.int .i64 (i : Int)) := hs 1 (by kernel_rfl)
   exact Does.value _ (by clear hs hd; go_simp) rfl
  ·intro ax wx hb hs hd
   have h0 : ax.tmps.getD 0 undef = (.pointer (some ⟨g, 0, none⟩)) := hs 0 (by kernel_rfl)
   exact Does.value _ (by clear hs hd; go_simp) rfl
  ·intro ax wx hb hs hd
   have h10 := sqV (hd 5 10 rfl (by kernel_rfl) (by decide))
   exact Does.value _ (by clear hs hd; go_simp) rfl
  ·intro ax wx hb hs hd
   have h11 := sqV (hd 6 11 rfl (by kernel_rfl) (by decide))
   exact Does.value _ (by clear hs hd; go_simp) rfl
  ·intro ax wx hb hs hd
   have h12 := sqV (hd 7 12 rfl (by kernel_rfl) (by decide))
   have c0 : wx.cell? ⟨g, 4, none⟩ = some (.int .i64 (v.each : Int)) := (HB.out.later hb HB.out.lt).cellS 4 _ rfl
   exact Does.value _ (by clear hs hd; go_simp) rfl
  ·intro ax wx hb hs hd
   have h9 := sqV (hd 4 9 rfl (by kernel_rfl) (by decide))
   have h13 := sqV (hd 8 13 rfl (by kernel_rfl) (by decide))
   have hz := HE.out.1
   have hz2 := HE.out.2.1
   refine Does.value (.int .i64 (d : Int)) ?_ rfl
   clear hs hd
   go_simp
   exact wrapN d HE.out.2.2.2.2
  ·intro ax wx hb hs hd
   have h8 := sqV (hd 3 8 rfl (by kernel_rfl) (by decide))
   have h14 := sqV (hd 9 14 rfl (by kernel_rfl) (by decide))
   have hz := HE.out.2.2.1
   refine Does.value (.int .i64 (pg : Int)) ?_ rfl
   clear hs hd
   go_simp
   exact wrapN pg HE.out.2.2.2.1
 ·intro wx hb
  iterate 11 refine @Ends.val _ _ _ _ _ _ _ _ _ _ rfl ?_
  refine @Ends.one _ _ _ _ _ _ _ ?_
  simp only [Act.put, sqA, sqB, sqC]
  refine last_assign (.tmp 15) rfl (some 4) rfl (.int .i64 (pg : Int)) rfl ?_
  have L : Hid (Below w.heap.size w wx) := hb
  clear hb
  go_wp2
  go_ret
  exact ⟨rfl, L.out⟩
theorem place_any (g : Nat) (v : SlV) (i : Nat) (ao : Option Addr) (t c : Nat) (w : World) (h : SlAt w g v) (he : 1 ≤ v.each) (hf : i % v.each * v.size + v.size ≤ t) (ht : t ≤ 4096) (hc : t ≤ c) (hi : i ≤ 1000000000) : Calls Tryz.prog 53 #[.pointer (some ⟨g, 0, none⟩), .int .i64 (i : Int), .slice ao t c] w fun e w' => e = .returned (.slice (subA ao (i % v.each * v.size) c) v.size (c - i % v.each * v.size)) ∧ Below w.heap.size w w' := by
 have HB : Hid (Blk w g 93 (slC v)) := h
 obtain ⟨r, hr⟩ : ∃ r, i % v.each = r := ⟨_, rfl⟩
 rw [hr] at hf ⊢
 obtain ⟨fr, hfr⟩ : ∃ fr, r * v.size = fr := ⟨_, rfl⟩
 rw [hfr] at hf ⊢
 have HE : Hid (¬ v.each = 0 ∧ Int.tmod (i : Int) (v.each : Int) = (r : Int)) := ⟨by omega, by rw [modN, hr]⟩
 obtain ⟨to, hto⟩ : ∃ to, fr + v.size = to := ⟨_, rfl⟩
 have HF : Hid ((r : Int) * (v.size : Int) = (fr : Int) ∧ fr ≤ 4294967296 ∧ ¬ t < fr ∧ (fr : Int) + (v.size : Int) = (to : Int) ∧ ¬ t < to ∧ IntKind.i64.wrap (to : Int) = (to : Int)) := ⟨by rw [← hfr]; simp, by omega, by omega, by omega, by omega, wrapN to (by omega)⟩
 have HSL : Hid (∀ W, (Instr.sliceAt 37 (.slice ao t c) (some (.int .i64 (fr : Int))) (some (.int .i64 (to : Int))) none).run Tryz.prog W = .ok (.slice (subA ao fr c) v.size (c - fr)) W) := fun W => by
  have := sl_lh ao t c fr to (by omega) (by omega) W
  rw [← hto, Nat.add_sub_cancel_left, hto] at this
  exact this
 clear hr hfr hto
 clear h he hf ht hc hi
 go_enter Tryz.func53, Tryz.ntmps53
 go_wp2_with fail
 refine region_invT [.val (.int .i64 (i : Int)), .val (.pointer (some ⟨g, 0, none⟩)), .val (.pointer (some ⟨g, 0, none⟩)), .val (.pointer (some ⟨g, 4, none⟩)), .val (.int .i64 (v.each : Int)), .val (.int .i64 (r : Int)), .val (.pointer (some ⟨g, 0, none⟩)), .val (.pointer (some ⟨g, 0, none⟩)), .val (.pointer (some ⟨g, 3, none⟩)), .val (.int .i64 (v.size : Int)), .val (.int .i64 (fr : Int)), .val (.slice ao t c), .val (.int .i64 (t : Int)), .val (.int .i64 (fr : Int))] (by kernel_rfl) (by kernel_rfl) (by kernel_rfl) ?_ ?_
 ·refine Steps'.cons ?_ (Steps'.cons ?_ (Steps'.cons ?_ (Steps'.cons ?_ (Steps'.cons ?_ (Steps'.cons ?_ (Steps'.cons ?_ (Steps'.cons ?_ (Steps'.cons ?_ (Steps'.cons ?_ (Steps'.cons ?_ (Steps'.cons ?_ (Steps'.cons ?_ (Steps'.cons ?_ (Steps'.one _ _ _ _ _ _ _))))))))))))))
  ·intro ax wx hb hs hd
   have h1 : ax.tmps.getD 1 undef = (.int .i64 (i : Int)) := hs 1 (by kernel_rfl)
   exact Does.value _ (by clear hs hd; go_simp) rfl
  ·intro ax wx hb hs hd
   have h0 : ax.tmps.getD 0 undef = (.pointer (some ⟨g, 0, none⟩)) := hs 0 (by kernel_rfl)
   exact Does.value _ (by clear hs hd; go_simp) rfl
  ·intro ax wx hb hs hd
   have h9 := sqV (hd 1 9 rfl (by kernel_rfl) (by decide))
   exact Does.value _ (by clear hs hd; go_simp) rfl
  ·intro ax wx hb hs hd
   have h10 := sqV (hd 2 10 rfl (by kernel_rfl) (by decide))
   exact Does.value _ (by clear hs hd; go_simp) rfl
  ·intro ax wx hb hs hd
   have h11 := sqV (hd 3 11 rfl (by kernel_rfl) (by decide))
   have c0 : wx.cell? ⟨g, 4, none⟩ = some (.int .i64 (v.each : Int)) := (HB.out.later hb HB.out.lt).cellS 4 _ rfl
   exact Does.value _ (by clear hs hd; go_simp) rfl
  ·intro ax wx hb hs hd
   have h8 := sqV (hd 0 8 rfl (by kernel_rfl) (by decide))
   have h12 := sqV (hd 4 12 rfl (by kernel_rfl) (by decide))
   have hz := HE.out.1
   have hz2 := HE.out.2
   exact Does.value _ (by clear hs hd; go_simp) rfl
  ·intro ax wx hb hs hd
   have h0 : ax.tmps.getD 0 undef = (.pointer (some ⟨g, 0, none⟩)) := hs 0 (by kernel_rfl)
   exact Does.value _ (by clear hs hd; go_simp) rfl
  ·intro ax wx hb hs hd
   have h14 := sqV (hd 6 14 rfl (by kernel_rfl) (by decide))
   exact Does.value _ (by clear hs hd; go_simp) rfl
  ·intro ax wx hb hs hd
   have h15 := sqV (hd 7 15 rfl (by kernel_rfl) (by decide))
   exact Does.value _ (by clear hs hd; go_simp) rfl
  ·intro ax wx hb hs hd
   have h16 := sqV (hd 8 16 rfl (by kernel_rfl) (by decide))
   have c0 : wx.cell? ⟨g, 3, none⟩ = some (.int .i64 (v.size : Int)) := (HB.out.later hb HB.out.lt).cellS 3 _ rfl
   exact Does.value _ (by clear hs hd; go_simp) rfl
  ·intro ax wx hb hs hd
   have h13 := sqV (hd 5 13 rfl (by kernel_rfl) (by decide))
   have h17 := sqV (hd 9 17 rfl (by kernel_rfl) (by decide))
   have hz := HF.out.1
   refine Does.value (.int .i64 (fr : Int)) ?_ rfl
   clear hs hd
   go_simp
   exact wrapN fr HF.out.2.1
  ·intro ax wx hb hs hd
   have h2 : ax.tmps.getD 2 undef = (.slice ao t c) := hs 2 (by kernel_rfl)
   exact Does.value _ (by clear hs hd; go_simp) rfl
  ·intro ax wx hb hs hd
   have h19 := sqV (hd 11 19 rfl (by kernel_rfl) (by decide))
   exact Does.value _ (by clear hs hd; go_simp) rfl
  ·intro ax wx hb hs hd
   have h18 := sqV (hd 10 18 rfl (by kernel_rfl) (by decide))
   have h20 := sqV (hd 12 20 rfl (by kernel_rfl) (by decide))
   have hz := HF.out.2.2.1
   refine Does.value (.int .i64 (fr : Int)) ?_ rfl
   clear hs hd
   go_simp
   try omega
 ·intro wx hb
  iterate 14 refine @Ends.val _ _ _ _ _ _ _ _ _ _ rfl ?_
  refine @Ends.one _ _ _ _ _ _ _ ?_
  simp only [Act.put, sqA, sqB, sqC]
  refine last_assign (.tmp 21) rfl (some 7) rfl (.int .i64 (fr : Int)) rfl ?_
  have L : Hid (Below w.heap.size w wx) := hb
  have c3 : wx.cell? ⟨g, 3, none⟩ = some (.int .i64 (v.size : Int)) := (HB.out.later hb HB.out.lt).cellS 3 _ rfl
  clear hb
  have hsl := HSL.out
  have hz1 := HF.out.2.2.2.1
  have hz2 := HF.out.2.2.2.2.1
  have hz3 := HF.out.2.2.2.2.2
  go_wp2
  go_ret
  exact ⟨rfl, L.out⟩
theorem tmod_bd (i : Int) (n : Nat) (hn : 0 < n) : ∃ r : Int, i.tmod (n : Int) = r ∧ -(n : Int) < r ∧ r < n := by
 refine ⟨_, rfl, ?_, ?_⟩
 ·have h := Int.lt_tmod_of_pos i (show (0 : Int) < n by omega)
  omega
 ·exact Int.tmod_lt_of_pos i (by omega)
structure Ax where
 k : Int
 i : Int
 j : Int
def axC (a : Ax) : List Value := [.int .i64 a.k, .int .i64 a.i, .int .i64 a.j]
theorem info_ax : (Tryz.prog.info? 89).map (fun i => (i.zero, i.size, i.bytes)) = some (some (.agg #[.int .i64 0, .int .i64 0, .int .i64 0]), 3, 24) := by kernel_rfl
theorem ax_build (k i j : Int) (w : World) : (Instr.build 89 #[(0, .int .i64 k), (1, .int .i64 i), (2, .int .i64 j)]).run Tryz.prog w = .ok (.agg #[.int .i64 k, .int .i64 i, .int .i64 j]) w := by kernel_rfl
theorem ax_slice (k i j : Int) (w : World) : (Instr.buildSlice 48 1 #[(0, .agg #[.int .i64 k, .int .i64 i, .int .i64 j])]).run Tryz.prog w = .ok (.slice (some ⟨w.heap.size, 0, none⟩) 1 1) (w.alloc (.cells #[.int .i64 k, .int .i64 i, .int .i64 j] 89)) := by kernel_rfl
theorem ax_new (w : World) (k i j : Int) : ∀ q u, (axC ⟨k, i, j⟩)[q]? = some u → (w.alloc (.cells #[.int .i64 k, .int .i64 i, .int .i64 j] 89)).cell? ((⟨w.heap.size, 0, none⟩ : Addr).add q) = some u := by
 intro q u hq
 have h : (w.alloc (.cells #[.int .i64 k, .int .i64 i, .int .i64 j] 89)).heap[w.heap.size]? = some (.cells [Value.int .i64 k, .int .i64 i, .int .i64 j].toArray 89 (0, 0)) := heap_alloc_new w _
 rw [Addr.add_mid, Nat.zero_add, cell_of_row _ _ q _ 89 (0, 0) h]
 simpa [axC] using hq
theorem own_neS {w : World} {base n : Nat} {v : Value} {xs : List Value} (h : w.ownsRow base 89 3 v n xs) {g : Nat} {vs : List Value} (hb : Blk w g 93 vs) : ¬ v.ownBlock = some g := by
 rcases h.2 with ⟨rfl, _⟩ | ⟨b, cap, cur, rfl, hg, hh, r⟩
 ·intro e; cases e
 ·intro e
  simp [Value.ownBlock] at e
  subst e
  unfold Blk at hb
  rw [hb] at hh
  simp at hh
theorem own_ltA {w : World} {base n : Nat} {v : Value} {xs : List Value} (h : w.ownsRow base 89 3 v n xs) {g : Nat} (e : v.ownBlock = some g) : g < w.heap.size := by
 rcases h.2 with ⟨rfl, _⟩ | ⟨b, cap, cur, rfl, hg, hh, r⟩
 ·cases e
 ·simp [Value.ownBlock] at e; subst e; exact lt_of_block hh
structure SlS (w : World) (g : Nat) (v : SlV) (l : List Ax) : Prop where
 blk : SlAt w g v
 own : w.ownsRow 0 89 3 v.log l.length (l.flatMap axC)
def slF (g : Nat) (v : SlV) (b : Nat) : Prop := b = g ∨ v.log.ownBlock = some b
theorem SlS.all {w : World} {g : Nat} {v : SlV} {l : List Ax} (x : SlS w g v l) : ∀ b, slF g v b → b < w.heap.size := fun b hb => by
 rcases hb with rfl | hb
 ·exact x.blk.lt
 ·exact own_ltA x.own hb
theorem SlS.off {S : Nat → Prop} {w w' : World} {g : Nat} {v : SlV} {l : List Ax} (x : SlS w g v l) (k : Kept S w w') (hS : ∀ b, S b → ¬ slF g v b) : SlS w' g v l :=
 ⟨x.blk.kept k (fun e => hS _ e (.inl rfl)), own_keptP x.own k (fun b hb e => hS b e (.inr hb))⟩
theorem SlS.later {w w' : World} {g : Nat} {v : SlV} {l : List Ax} (x : SlS w g v l) (hb : Below w.heap.size w w') : SlS w' g v l := ⟨x.blk.later hb x.blk.lt, ownsRow_below x.own hb⟩
theorem note_any (g : Nat) (v : SlV) (l : List Ax) (k i j : Int) (w : World) (x : SlS w g v l) (hl : l.length ≤ 1000000000) :
  Calls Tryz.prog 50 #[.pointer (some ⟨g, 0, none⟩), .int .i64 k, .int .i64 i, .int .i64 j] w fun e w' => e = .returned (.tuple #[]) ∧ ∃ lg, SlS w' g { v with log := lg } (l ++ [⟨k, i, j⟩]) ∧ Kept (slF g v) w w' ∧ ∀ b, lg.ownBlock = some b → v.log.ownBlock = some b ∨ w.heap.size ≤ b := by
 obtain ⟨i0, hi, hz0, hz1, hz2⟩ := info_parts info_ax
 obtain ⟨ao, c, eo⟩ : ∃ ao c, v.log = .slice ao l.length c := by
  rcases x.own.2 with ⟨h, h0⟩ | ⟨b, cap, cur, h, _⟩
  ·exact ⟨none, 0, by rw [h, h0]⟩
  ·exact ⟨_, _, h⟩
 obtain ⟨n, hn⟩ : ∃ n, l.length = n := ⟨_, rfl⟩
 have X : Hid (SlS w g v l ∧ v.log = .slice ao n c ∧ l.length = n) := ⟨x, by rw [← hn]; exact eo, hn⟩
 have cL : w.cell? ⟨g, 5, none⟩ = some (.slice ao n c) := x.blk.cellS 5 _ (by rw [← X.out.2.1]; rfl)
 have oW : w.ownsRow 0 89 3 (.slice ao n c) n (l.flatMap axC) := by have := x.own; rw [X.out.2.1, hn] at this; exact this
 have hN : n ≤ 1000000000 := by omega
 have hbd := ax_build k i j w
 have hsl := ax_slice k i j w
 have HNW : Hid (∀ q u, (axC ⟨k, i, j⟩)[q]? = some u → (w.alloc (.cells #[.int .i64 k, .int .i64 i, .int .i64 j] 89)).cell? ((⟨w.heap.size, 0, none⟩ : Addr).add q) = some u) := ax_new w k i j
 clear x eo hl hn
 go_enter Tryz.func50, Tryz.ntmps50
 go_wp2_with (at_builtin; refine wpList_append_own_at _ rfl _ _ 48 rfl 0 89 i0 (.agg #[.int .i64 0, .int .i64 0, .int .i64 0]) 3 24 Tryz.underlying48 hi hz0 hz1 hz2 rfl (by decide) _ _ _ rfl (oW.alloc _) ⟨w.heap.size, 0, none⟩ 1 1 (axC ⟨k, i, j⟩) rfl rfl HNW.out (by intro u hu; simp [axC] at hu; rcases hu with rfl | rfl | rfl <;> rfl) (by unfold maxLen; omega) (by omega) (Nat.zero_le _) ?_)
 intro o' w1 h1 hg _ hat
 have hsz : (w.alloc (.cells #[.int .i64 k, .int .i64 i, .int .i64 j] 89)).heap.size = w.heap.size + 1 := by simp
 have hSg : ∀ b, b < w.heap.size → ¬ (Value.slice ao n c).ownBlock = some b → w1.heap[b]? = w.heap[b]? := fun b hb' hs => (hg.block b (by omega) (fun e => hs e.symm)).trans (Below.heap_alloc w _ b hb')
 have K1 : Hid (Kept (slF g v) w w1) := ⟨hg.os, hg.tape, hg.output, Nat.le_trans (by omega) hg.size, fun b hb' hs => hSg b hb' (fun e => hs (.inr (by rw [X.out.2.1]; exact e)))⟩
 have B1 : Hid (Blk w1 g 93 (slC v)) := X.out.1.blk.block (hSg g X.out.1.blk.lt (own_neS oW X.out.1.blk))
 obtain ⟨oa, on, oc, rfl⟩ : ∃ a n c, o' = .slice a n c := by rcases h1.2 with ⟨h, _⟩ | ⟨g, cap, cur, h, _⟩ <;> exact ⟨_, _, _, h⟩
 have W1 : Hid (SlS (w1.setCell ⟨g, 5, none⟩ (.slice oa on oc)) g { v with log := .slice oa on oc } (l ++ [⟨k, i, j⟩]) ∧ Kept (slF g v) w (w1.setCell ⟨g, 5, none⟩ (.slice oa on oc)) ∧ ∀ b, (Value.slice oa on oc).ownBlock = some b → v.log.ownBlock = some b ∨ w.heap.size ≤ b) := by
  have K := (Kept.refl (fun b => b = g) w1).setCell (p := ⟨g, 5, none⟩) rfl (.slice oa on oc)
  have h2 : w1.ownsRow 0 89 3 (.slice oa on oc) (l ++ [(⟨k, i, j⟩ : Ax)]).length ((l ++ [(⟨k, i, j⟩ : Ax)]).flatMap axC) := by
   rw [List.length_append, X.out.2.2, List.flatMap_append]
   simpa using h1
  refine ⟨⟨B1.out.set 5 _, own_keptP h2 K (fun b hb e => by subst e; exact own_neS h2 B1.out hb)⟩, K1.out.setCell (.inl rfl) _, fun b hb => ?_⟩
  rcases hat with e | e
  ·rw [e] at hb; exact .inl (by rw [X.out.2.1]; exact hb)
  ·rw [e] at hb; simp at hb; exact .inr (by omega)
 have cL1 : w1.cell? ⟨g, 5, none⟩ = some (.slice ao n c) := B1.out.cellS 5 _ (by rw [← X.out.2.1]; rfl)
 have fL1 := B1.out.frozen 5
 clear h1 hg hat hSg hsz
 go_wp2
 go_end0
 exact ⟨rfl, _, W1.out⟩
theorem wpList_doV {ops : Array Oper} {rest : List Oper} {o : Oper} {a : Act} {Q : Exit → Act → World → Prop} {w : World} (hgd : o.guard = none) (t x : Operand) (ats : Array TypeId) (ho : o.op = .call { callee := .value t, args := #[x], argTypes := ats }) (F : Nat) (caps : Array Value) (ht : a.eval t = .func (.func F) #[] caps) (fv : Value) (hx : a.eval x = fv)
  (hent : (callFunc F (#[fv] ++ caps)).run Tryz.prog w = .ok (.enter F (#[fv] ++ caps)) w) (R : Value → World → Prop) (C : Calls Tryz.prog F (#[fv] ++ caps) w fun e w' => ∃ r, e = .returned r ∧ R r w') (h : ∀ r w', R r w' → wpList Tryz.prog ops Q rest (a.put o.dst r) w') : wpList Tryz.prog ops Q (o :: rest) a w := by
 refine wpList_plain hgd fun K hK => ?_
 unfold Oper.wp execOp
 simp only [ho, resolve, Sem.run_bind, Sem.run_pure, Result.andThen_ok, List.map_toArray, List.map_cons, List.map_nil, ht, hx, invoke, Deferred.ofValue, List.nil_append, Array.append_empty, Array.empty_append, hent]
 rw [Oper.upon_enter]
 exact C.mono (fun e w' hh => by
  obtain ⟨r, h1, h2⟩ := hh
  subst h1
  exact hK _ _ (h _ _ h2))
structure Txt (w0 w : World) (cf : Cf) (zs : List Int) (F : Nat → Prop) (uo : Option Addr) (uc T : Nat) : Prop where
 own : ∃ B, isO B cf.text zs (.slice uo cf.text uc) w ∧ w0.heap.size ≤ B ∧ (∀ b, F b → b < B)
 cell : w.cell? ⟨T, 0, none⟩ = some (.slice uo cf.text uc)
 ne : ∀ b o, uo = some ⟨b, o, none⟩ → b ≠ T
 new : w0.heap.size ≤ T
 nF : ¬ F T
 lt : T < w.heap.size
theorem bs_one (uo : Option Addr) (n c : Nat) (w : World) : (Instr.buildSlice 33 1 #[(0, .slice uo n c)]).run Tryz.prog w = .ok (.slice (some ⟨w.heap.size, 0, none⟩) 1 1) (w.alloc (.cells #[.slice uo n c] 37)) := by kernel_rfl
theorem open_one (g : Nat) (v : SlV) (h : Nat) (cf : Cf) (n : Nm) (txt : Nat → List Int) (F : Nat → Prop) (q bp cp W : Nat) (caps : Array Value) (R : Int → World → Prop) (w : World) (x : PagS w v.p h cf n.ord n txt F) (hs : SlAt w g v) (hg : ¬ F g) (hp : w.cell? ⟨bp, 0, none⟩ = some (.int .i64 (q : Int)))
  (hq : q < cf.pages) (hol : n.ord.length ≤ cf.win) (hlog : n.log.length < 1000000000) (hwr : n.writes < 1000000000) (hent : ∀ args W', (callFunc W args).run Tryz.prog W' = .ok (.enter W args) W')
  (HW : ∀ w1 F1 uo uc T tc, Ev F F1 w w1 → PagS w1 v.p h cf (n.load cf q).ord (n.load cf q) txt F1 → Txt w w1 cf (txt q) F1 uo uc T → Calls Tryz.prog W (#[.slice (some ⟨T, 0, none⟩) 1 tc] ++ caps) w1 fun e w' => ∃ er, e = .returned (.int .i64 er) ∧ R er w') :
  Calls Tryz.prog 51 #[.pointer (some ⟨g, 0, none⟩), .func (.func W) #[] caps, .slice (some ⟨bp, 0, none⟩) 1 cp] w fun e w' => ∃ er, e = .returned (.int .i64 er) ∧ R er w' := by
 obtain ⟨i0, hi, hz0, hz1, hz2⟩ := info_parts info_rowB
 have htl : (txt q).length = cf.text ∧ Bytes (txt q) ∧ cf.text ≤ 4096 := by
  obtain ⟨gh, gp, v', fh, fp, szp, Mh, s, Mt, y, hf, ha⟩ := x
  exact ⟨(y.tl q).1, (y.tl q).2, y.good.text.2⟩
 have HTL : Hid ((txt q).length = cf.text ∧ Bytes (txt q) ∧ cf.text ≤ 4096) := htl
 have CL : Hid (Calls Tryz.prog 77 #[.pointer (some ⟨v.p, 0, none⟩), .int .i64 (q : Int)] w fun e w' => ∃ u F' B, e = .returned (.tuple #[u, .int .i64 0]) ∧ PagS w' v.p h cf (n.load cf q).ord (n.load cf q) txt F' ∧ Ev F F' w w' ∧ isO B cf.text (txt q) u w' ∧ w.heap.size ≤ B ∧ ∀ b, F' b → b < B) := load_S v.p h cf n txt F q w x hq hol hlog hwr
 have HH : Hid (∀ w1 F1 uo uc T tc, Ev F F1 w w1 → PagS w1 v.p h cf (n.load cf q).ord (n.load cf q) txt F1 → Txt w w1 cf (txt q) F1 uo uc T → Calls Tryz.prog W (#[.slice (some ⟨T, 0, none⟩) 1 tc] ++ caps) w1 fun e w' => ∃ er, e = .returned (.int .i64 er) ∧ R er w') := HW
 have HE : Hid (∀ args W', (callFunc W args).run Tryz.prog W' = .ok (.enter W args) W') := hent
 have c0 : w.cell? ⟨g, 0, none⟩ = some (.pointer (some ⟨v.p, 0, none⟩)) := hs.cellS 0 _ rfl
 clear x hs hg hq hol hlog hwr hent HW htl
 go_enter Tryz.func51, Tryz.ntmps51
 go_wp2
 go_loopw [7, 14] (fun ts i wr => (i = .int .i64 0 ∧ ts = .slice none 0 0 ∧ w = wr) ∨ (i = .int .i64 1 ∧ ∃ F1 uo uc T tc, ts = .slice (some ⟨T, 0, none⟩) 1 tc ∧ Ev F F1 w wr ∧ PagS wr v.p h cf (n.load cf q).ord (n.load cf q) txt F1 ∧ Txt w wr cf (txt q) F1 uo uc T)) (fun _ i _ => 1 - (intOf i).toNat)
 case atStart => exact .inl ⟨rfl, rfl, rfl⟩
 case round =>
  rcases hrel with ⟨rfl, rfl, rfl⟩ | ⟨rfl, F1, uo, uc, T, tc, rfl, ev1, x1, t1⟩
  ·go_wp2_with (go_at_call 77; refine CL.out.mono ?_)
   rintro e w1 ⟨_, F1, B, rfl, x1, ev1, o1, hB, hF⟩
   obtain ⟨uo, uc, rfl, su, huc, hub⟩ := own_sliceP o1 HTL.out.1 HTL.out.2.1 HTL.out.2.2
   have hbs := bs_one uo cf.text uc w1
   have X1 : Hid (PagS w1 v.p h cf (n.load cf q).ord (n.load cf q) txt F1 ∧ Ev F F1 w w1 ∧ isO B cf.text (txt q) (.slice uo cf.text uc) w1 ∧ w.heap.size ≤ B ∧ (∀ b, F1 b → b < B) ∧ ∀ b o, uo = some ⟨b, o, none⟩ → b < w1.heap.size) := ⟨x1, ev1, o1, hB, hF, fun b o e => (hub b o e).2⟩
   clear x1 ev1 o1 hB hF su huc hub
   go_wp2_with (at_builtin; refine wpList_append_own _ rfl _ _ 33 rfl w1.heap.size 37 i0 (.slice none 0 0) 1 24 Tryz.underlying33 hi hz0 hz1 hz2 rfl (by decide) _ 0 [] rfl (World.ownsRow_nil _ _ _ _) ⟨w1.heap.size, 0, none⟩ 1 1 [.slice uo cf.text uc] rfl rfl (one_newI _ _ _) (by intro u hu; simp at hu; subst hu; rfl) (by unfold maxLen; omega) (by omega) (by simp) ?_)
   intro v' w2 h1 hg _
   have l2 : Below w1.heap.size w1 w2 := ((Below.refl _ _).alloc (Nat.le_refl _) _).grown hg (by simp) (fun j hj => by cases hj)
   obtain ⟨T, tc, rfl, hT, hTl⟩ : ∃ T tc, v' = .slice (some ⟨T, 0, none⟩) 1 tc ∧ w1.heap.size ≤ T ∧ T < w2.heap.size := by
    rcases h1.2 with ⟨h, h0⟩ | ⟨T, cap, cur, h, hT, hh, _⟩
    ·cases h0
    ·exact ⟨T, cap, h, hT, lt_of_block hh⟩
   have hcT := h1.cellAt 0 (by simp)
   have V2 : Hid (Ev F F1 w w2 ∧ PagS w2 v.p h cf (n.load cf q).ord (n.load cf q) txt F1 ∧ Txt w w2 cf (txt q) F1 uo uc T) := by
    refine ⟨X1.out.2.1.trans (Ev.below l2), X1.out.1.later l2, ⟨⟨B, isO_later _ _ _ _ _ _ l2 X1.out.2.2.1, X1.out.2.2.2.1, X1.out.2.2.2.2.1⟩, hcT, fun b o e hb => ?_, ?_, fun hF => ?_, hTl⟩⟩
    ·have := X1.out.2.2.2.2.2 b o e; omega
    ·have := X1.out.2.1.kept.size; omega
    ·have := X1.out.1.all T hF; omega
   clear h1 hg l2 hcT
   go_wp2
   exact ⟨.inr ⟨by first | rfl | go_num, F1, uo, uc, T, tc, rfl, V2.out⟩, by simp [intOf]⟩
  ·have CW : Hid (Calls Tryz.prog W (#[.slice (some ⟨T, 0, none⟩) 1 tc] ++ caps) wr fun e w' => ∃ r, e = .returned r ∧ ∃ er, r = .int .i64 er ∧ R er w') := (HH.out wr F1 uo uc T tc ev1 x1 t1).mono (fun e w' ⟨er, h1, h2⟩ => ⟨_, h1, er, rfl, h2⟩)
   clear ev1 x1 t1
   go_wp2_with ((with_reducible show wpList _ _ _ (({ dst := some 37, op := _, type := _, pos := _, after := _, guard := _ } : Oper) :: _) _ _); refine wpList_doV rfl (.tmp 35) (.tmp 36) _ rfl W caps rfl _ rfl (HE.out _ _) (fun r w' => ∃ er, r = .int .i64 er ∧ R er w') CW.out ?_)
   first | rintro r w2 er rfl hR | rintro r w2 ⟨er, rfl, hR⟩ | rintro w2 er hR
   have HR2 : Hid (R er w2) := hR
   clear hR
   go_wp2
   go_ret
   exact ⟨er, rfl, HR2.out⟩
theorem last_copyS {o : Oper} {a : Act} {w : World} {K : Act → World → Prop} {Q : Exit → Act → World → Prop} (d s : Operand) (ho : o.op = .call { callee := .builtin .copy, args := #[d, s], argTypes := #[37, 37] })
  (g off dLen dCap : Nat) (dp so : Option Addr) (n c : Nat) (hd : a.eval d = .slice dp dLen dCap) (hs : a.eval s = .slice so n c) (src : List Int) (hx : Seen w so n src) (t : TypeId) (xs ys zs : List Value) (hb : Blk w g t (xs ++ (ys ++ zs))) (hoff : xs.length = off) (k : Nat) (hk : Nat.min n dLen = k) (hy : ys.length = k) (hdp : 0 < k → dp = some ⟨g, off, none⟩)
  (dst : Option Tmp) (hdst : o.dst = dst) (h : ∀ w', Blk w' g t (xs ++ (u8s (src.take k) ++ zs)) → w'.heap.size = w.heap.size → Kept (fun b => b = g) w w' → K (a.put dst (goInt k)) w') : o.wp Tryz.prog a w K Q := by
 subst hdst
 obtain ⟨w', hrun, h1, h2, h3⟩ := run_copy_seen w o.type g off dLen dCap dp so n c src hx t xs ys zs hb hoff k hk hy hdp
 unfold Oper.wp
 simp [execOp, ho, resolve, invoke, builtin, hd, hs, hrun, Result.andThen]
 exact h w' h1 h2 h3
structure G1 (w : World) (g : Nat) (v : SlV) (i gr gs gi rb T : Nat) (uo : Option Addr) (t uc : Nat) (ys : List Value) (zs : List Int) : Prop where
 r0 : w.cell? ⟨gr, 0, none⟩ = some (.slice (some ⟨rb, 0, none⟩) v.size v.size)
 s0 : w.cell? ⟨gs, 0, none⟩ = some (.pointer (some ⟨g, 0, none⟩))
 i0 : w.cell? ⟨gi, 0, none⟩ = some (.int .i64 (i : Int))
 t0 : w.cell? ⟨T, 0, none⟩ = some (.slice uo t uc)
 sl : SlAt w g v
 rb : Blk w rb 5 ys
 se : Seen w uo t zs
 lt : gr < w.heap.size ∧ gs < w.heap.size ∧ gi < w.heap.size ∧ T < w.heap.size
theorem G1.later {w w' : World} {g : Nat} {v : SlV} {i gr gs gi rb T : Nat} {uo : Option Addr} {t uc : Nat} {ys : List Value} {zs : List Int} (x : G1 w g v i gr gs gi rb T uo t uc ys zs) (hb : Below w.heap.size w w') : G1 w' g v i gr gs gi rb T uo t uc ys zs :=
 ⟨(hb.cell (p := ⟨gr, 0, none⟩) x.lt.1).trans x.r0, (hb.cell (p := ⟨gs, 0, none⟩) x.lt.2.1).trans x.s0, (hb.cell (p := ⟨gi, 0, none⟩) x.lt.2.2.1).trans x.i0, (hb.cell (p := ⟨T, 0, none⟩) x.lt.2.2.2).trans x.t0, x.sl.later hb x.sl.lt, x.rb.later hb x.rb.lt, x.se.later hb (Nat.le_refl _), ⟨Nat.lt_of_lt_of_le x.lt.1 hb.size, Nat.lt_of_lt_of_le x.lt.2.1 hb.size, Nat.lt_of_lt_of_le x.lt.2.2.1 hb.size, Nat.lt_of_lt_of_le x.lt.2.2.2 hb.size⟩⟩
theorem get1_any (g : Nat) (v : SlV) (i gr gs gi rb T tc : Nat) (uo : Option Addr) (t uc : Nat) (ys : List Value) (zs : List Int) (w : World) (x : G1 w g v i gr gs gi rb T uo t uc ys zs) (he : 1 ≤ v.each) (hf : i % v.each * v.size + v.size ≤ t) (ht : t ≤ 4096) (hc : t ≤ uc) (hi : i ≤ 1000000000) (hy : ys.length = v.size) :
  Calls Tryz.prog 52 #[.slice (some ⟨T, 0, none⟩) 1 tc, .pointer (some ⟨gr, 0, none⟩), .pointer (some ⟨gs, 0, none⟩), .pointer (some ⟨gi, 0, none⟩)] w fun e w' => e = .returned (.int .i64 0) ∧ Blk w' rb 5 (u8s ((zs.drop (i % v.each * v.size)).take v.size)) ∧ Kept (fun b => b = rb) w w' := by
 have H : Hid (G1 w g v i gr gs gi rb T uo t uc ys zs) := x
 have N : Hid (1 ≤ v.each ∧ i % v.each * v.size + v.size ≤ t ∧ t ≤ 4096 ∧ t ≤ uc ∧ i ≤ 1000000000) := ⟨he, hf, ht, hc, hi⟩
 have HY : Hid (ys.length = v.size) := hy
 clear x he hf ht hc hi hy
 go_enter Tryz.func52, Tryz.ntmps52
 go_wp2_with fail
 refine region_invT [.val (.slice (some ⟨rb, 0, none⟩) v.size v.size), .val (.pointer (some ⟨g, 0, none⟩)), .val (.int .i64 (i : Int)), .val (.slice (some ⟨T, 0, none⟩) 1 tc), .val (.pointer (some ⟨T, 0, none⟩)), .val (.slice uo t uc), .val (.slice (subA uo (i % v.each * v.size) uc) v.size (uc - i % v.each * v.size))] (by kernel_rfl) (by kernel_rfl) (by kernel_rfl) ?_ ?_
 ·refine Steps'.cons ?_ (Steps'.cons ?_ (Steps'.cons ?_ (Steps'.cons ?_ (Steps'.cons ?_ (Steps'.cons ?_ (Steps'.cons ?_ (Steps'.one _ _ _ _ _ _ _)))))))
  ·intro ax wx hb hs hd
   have h1 : ax.tmps.getD 1 undef = (.pointer (some ⟨gr, 0, none⟩)) := hs 1 (by kernel_rfl)
   have c0 : wx.cell? ⟨gr, 0, none⟩ = some (.slice (some ⟨rb, 0, none⟩) v.size v.size) := (H.out.later hb).r0
   exact Does.value _ (by clear hs hd; go_simp) rfl
  ·intro ax wx hb hs hd
   have h2 : ax.tmps.getD 2 undef = (.pointer (some ⟨gs, 0, none⟩)) := hs 2 (by kernel_rfl)
   have c0 : wx.cell? ⟨gs, 0, none⟩ = some (.pointer (some ⟨g, 0, none⟩)) := (H.out.later hb).s0
   exact Does.value _ (by clear hs hd; go_simp) rfl
  ·intro ax wx hb hs hd
   have h3 : ax.tmps.getD 3 undef = (.pointer (some ⟨gi, 0, none⟩)) := hs 3 (by kernel_rfl)
   have c0 : wx.cell? ⟨gi, 0, none⟩ = some (.int .i64 (i : Int)) := (H.out.later hb).i0
   exact Does.value _ (by clear hs hd; go_simp) rfl
  ·intro ax wx hb hs hd
   have h0 : ax.tmps.getD 0 undef = (.slice (some ⟨T, 0, none⟩) 1 tc) := hs 0 (by kernel_rfl)
   exact Does.value _ (by clear hs hd; go_simp) rfl
  ·intro ax wx hb hs hd
   have h9 := sqV (hd 3 9 rfl (by kernel_rfl) (by decide))
   exact Does.value _ (by clear hs hd; go_simp) rfl
  ·intro ax wx hb hs hd
   have h10 := sqV (hd 4 10 rfl (by kernel_rfl) (by decide))
   have c0 : wx.cell? ⟨T, 0, none⟩ = some (.slice uo t uc) := (H.out.later hb).t0
   exact Does.value _ (by clear hs hd; go_simp) rfl
  ·intro ax wx hb hs hd
   have h7 := sqV (hd 1 7 rfl (by kernel_rfl) (by decide))
   have h8 := sqV (hd 2 8 rfl (by kernel_rfl) (by decide))
   have h11 := sqV (hd 5 11 rfl (by kernel_rfl) (by decide))
   refine Does.call 53 #[(.pointer (some ⟨g, 0, none⟩)), .int .i64 (i : Int), (.slice uo t uc)] (by clear hs hd; go_simp) ?_
   have Y := H.out.later hb
   refine (place_any g v i uo t uc wx Y.sl N.out.1 N.out.2.1 N.out.2.2.1 N.out.2.2.2.1 N.out.2.2.2.2).mono ?_
   rintro e w' ⟨rfl, l⟩
   exact ⟨_, rfl, rfl, l⟩
 ·intro wx hb
  iterate 7 refine @Ends.val _ _ _ _ _ _ _ _ _ _ rfl ?_
  refine @Ends.one _ _ _ _ _ _ _ ?_
  simp only [Act.put, sqA, sqB, sqC]
  have Y := H.out.later hb
  have hsub := Y.se.sub (i % v.each * v.size) (i % v.each * v.size + v.size) uc (by omega) N.out.2.1 N.out.2.2.2.1
  rw [Nat.add_sub_cancel_left] at hsub
  refine last_copyS (.tmp 6) (.tmp 12) rfl rb 0 v.size v.size (some ⟨rb, 0, none⟩) (subA uo (i % v.each * v.size) uc) v.size (uc - i % v.each * v.size) rfl rfl _ hsub 5 [] ys [] (by simpa using Y.rb) rfl v.size (Nat.min_self _) HY.out (fun _ => rfl) (some 13) rfl ?_
  intro w1 b1 s1 k1
  have R1 : Hid (Blk w1 rb 5 (u8s ((zs.drop (i % v.each * v.size)).take v.size)) ∧ Kept (fun b => b = rb) w w1) := ⟨by have := b1; rw [List.take_of_length_le (by simp; omega)] at this; simpa using this, (Kept.new _ hb).trans k1⟩
  clear b1 s1 k1 Y hsub hb
  go_wp2
  go_ret
  exact ⟨rfl, R1.out⟩
def isZ1 (base q : Nat) (v : Value) (w : World) : Prop := ∃ b, v = .slice (some ⟨b, 0, none⟩) 1 1 ∧ w.cell? ⟨b, 0, none⟩ = some (.int .i64 (q : Int)) ∧ base ≤ b ∧ b < w.heap.size
theorem isZ1_later (base q : Nat) : ∀ v w w', Below w.heap.size w w' → isZ1 base q v w → isZ1 base q v w' := fun _ _ _ hb ⟨b, h1, h2, h3, h4⟩ => ⟨b, h1, (hb.cell (p := ⟨b, 0, none⟩) h4).trans h2, h3, Nat.lt_of_lt_of_le h4 hb.size⟩
theorem isZ1_made (w : World) (q : Nat) {base : Nat} (hb : base ≤ w.heap.size) : isZ1 base q (.slice (some ⟨w.heap.size, 0, none⟩) 1 1) (w.alloc (.cells #[.int .i64 (q : Int)] 3)) :=
 ⟨w.heap.size, rfl, by have := one_newI w (.int .i64 (q : Int)) 3 0 _ rfl; rw [Addr.add_mid] at this; exact this, hb, by simp⟩
theorem blk_c0 {w : World} {g : Nat} {t : TypeId} {v : Value} (h : Blk w g t [v]) : w.cell? ⟨g, 0, none⟩ = some v := by first | (rw [h.cell]; done) | (rw [h.cell]; rfl)
theorem kept_cell {S : Nat → Prop} {w w' : World} (k : Kept S w w') (b o : Nat) (hb : b < w.heap.size) (hS : ¬ S b) {u : Value} (h : w.cell? ⟨b, o, none⟩ = some u) : w'.cell? ⟨b, o, none⟩ = some u := (World.cell?_of_block (a := ⟨b, o, none⟩) (k.block b hb hS)).trans h
theorem bsI (q : Nat) (w : World) : (Instr.buildSlice 133 1 #[(0, .int .i64 (q : Int))]).run Tryz.prog w = .ok (.slice (some ⟨w.heap.size, 0, none⟩) 1 1) (w.alloc (.cells #[.int .i64 (q : Int)] 3)) := by kernel_rfl
theorem Does.int1 {base : Nat} {E : Exp} {ρ : Operand → Value} {o : Oper} {w : World} (x : Operand) (ho : o.op = .buildSlice 133 1 #[(0, x)]) (q : Nat) (hx : ρ x = .int .i64 (q : Int)) (hE : E.ok base (.slice (some ⟨w.heap.size, 0, none⟩) 1 1) (w.alloc (.cells #[.int .i64 (q : Int)] 3))) : Does base E ρ o w := by
 refine Does.run (.slice (some ⟨w.heap.size, 0, none⟩) 1 1) ?_ hE ((Below.refl _ _).alloc (Nat.le_refl _) _)
 unfold execOp
 simp only [ho, List.map_toArray, List.map_cons, List.map_nil, hx, Sem.run_bind, bsI q w, Sem.run_pure, Result.andThen_ok]
theorem enter_get1 : ∀ args w, (callFunc 52 args).run Tryz.prog w = .ok (.enter 52 args) w := fun args w => by kernel_rfl
structure SlN (v : SlV) (cf : Cf) : Prop where
 each : 1 ≤ v.each
 size : 1 ≤ v.size
 fit : v.each * v.size ≤ cf.text
 n : v.n ≤ 1000000000
 pages : ∀ i, i < v.n → v.first + i / v.each < cf.pages
theorem SlN.place {v : SlV} {cf : Cf} (x : SlN v cf) (i : Nat) : i % v.each * v.size + v.size ≤ cf.text := by
 have h1 := Nat.mod_lt i x.each
 have h2 : (i % v.each + 1) * v.size ≤ v.each * v.size := Nat.mul_le_mul_right _ h1
 rw [Nat.add_mul, Nat.one_mul] at h2
 exact Nat.le_trans h2 x.fit
def recL (txt : Nat → List Int) (v : SlV) (i : Nat) : List Int := ((txt (v.first + i / v.each)).drop (i % v.each * v.size)).take v.size
theorem get_S (g : Nat) (v : SlV) (l : List Ax) (h : Nat) (cf : Cf) (n : Nm) (txt : Nat → List Int) (F : Nat → Prop) (i : Nat) (w : World) (x : PagS w v.p h cf n.ord n txt F) (y : SlS w g v l) (hd : ∀ b, slF g v b → ¬ F b) (hn : SlN v cf) (hi : i < v.n) (hl : l.length ≤ 1000000000)
  (hol : n.ord.length ≤ cf.win) (hlog : n.log.length < 1000000000) (hwr : n.writes < 1000000000) :
  Calls Tryz.prog 29 #[.pointer (some ⟨g, 0, none⟩), .int .i64 (i : Int)] w fun e w' => ∃ rb F' lg, e = .returned (.tuple #[.slice (some ⟨rb, 0, none⟩) v.size v.size, .int .i64 0]) ∧ Blk w' rb 5 (u8s (recL txt v i)) ∧ PagS w' v.p h cf (n.load cf (v.first + i / v.each)).ord (n.load cf (v.first + i / v.each)) txt F' ∧ SlS w' g { v with log := lg } (l ++ [⟨0, i, 0⟩]) ∧ (∀ b, slF g { v with log := lg } b → ¬ F' b) ∧ Kept (fun b => F b ∨ slF g v b) w w' ∧ (∀ b, F' b ∨ slF g { v with log := lg } b → F b ∨ slF g v b ∨ w.heap.size ≤ b) ∧ w.heap.size ≤ rb ∧ ¬ F' rb ∧ ¬ slF g { v with log := lg } rb := by
 obtain ⟨q, hq⟩ : ∃ q, v.first + i / v.each = q := ⟨_, rfl⟩
 have HQ : Hid (v.first + i / v.each = q) := hq
 have hqp := hn.pages i hi
 rw [hq] at hqp ⊢
 have N : Hid (i < v.n ∧ 1 ≤ v.each ∧ 1 ≤ v.size ∧ i ≤ 1000000000 ∧ i % v.each * v.size + v.size ≤ cf.text ∧ cf.text ≤ 4096 ∧ q < 1000000 ∧ q < cf.pages) := ⟨hi, hn.each, hn.size, by have := hn.n; omega, hn.place i, x.good.text.2, by have := x.good.pages; omega, hqp⟩
 have X0 : Hid (PagS w v.p h cf n.ord n txt F ∧ SlS w g v l ∧ ∀ b, slF g v b → ¬ F b) := ⟨x, y, hd⟩
 have HB : Hid (n.ord.length ≤ cf.win ∧ n.log.length < 1000000000 ∧ n.writes < 1000000000) := ⟨hol, hlog, hwr⟩
 have CN : Hid (∀ W, Below w.heap.size w W → Calls Tryz.prog 50 #[.pointer (some ⟨g, 0, none⟩), .int .i64 0, .int .i64 (i : Int), .int .i64 0] W fun e w' => e = .returned (.tuple #[]) ∧ ∃ lg, SlS w' g { v with log := lg } (l ++ [⟨0, i, 0⟩]) ∧ Kept (slF g v) W w' ∧ ∀ b, lg.ownBlock = some b → v.log.ownBlock = some b ∨ W.heap.size ≤ b) := fun W hW => note_any g v l 0 i 0 W (y.later hW) hl
 have CH : Hid (∀ W, Below w.heap.size w W → Calls Tryz.prog 49 #[.pointer (some ⟨g, 0, none⟩), .int .i64 (i : Int)] W fun e w' => e = .returned (.bool true) ∧ W = w') := fun W hW => has_yes g v i hi W (y.later hW).blk
 clear x y hd hn hi hl hol hlog hwr hq hqp
 go_enter Tryz.func29, Tryz.ntmps29
 go_wp2_with (first | (refine wpList_boxV rfl 43 _ rfl (.pointer (some ⟨g, 0, none⟩)) rfl rfl ?_; intro w1 b1 s1 l1; have S1 : Hid (w1.heap.size = w.heap.size + 1) := s1; clear s1) | (refine wpList_boxV rfl 3 _ rfl (.int .i64 (i : Int)) rfl rfl ?_; intro w2 b2 s2 l2; have S2 : Hid (w2.heap.size = w1.heap.size + 1) := s2; have c1 : w2.cell? ⟨w.heap.size, 0, none⟩ = some (.pointer (some ⟨g, 0, none⟩)) := blk_c0 (b1.later l2 b1.lt); have c2 : w2.cell? ⟨w1.heap.size, 0, none⟩ = some (.int .i64 (i : Int)) := blk_c0 b2; have L2 : Below w.heap.size w w2 := below_chain l1 l2 l1.size; clear s2) | (go_at_call 49; refine (CH.out w2 L2).mono ?_; rintro e _ ⟨rfl, rfl⟩) | (go_at_call 50; refine (CN.out w2 L2).mono ?_))
 first | rintro e w3 rfl lg y3 k3 f3 | rintro e w3 ⟨rfl, lg, y3, k3, f3⟩
 obtain ⟨z1, hz1⟩ : ∃ z1, w1.heap.size = z1 := ⟨_, rfl⟩
 have nS : ∀ b, w.heap.size ≤ b → ¬ slF g v b := fun b hb hs => by have := X0.out.2.1.all b hs; omega
 have d1 : w3.cell? ⟨w.heap.size, 0, none⟩ = some (.pointer (some ⟨g, 0, none⟩)) := kept_cell k3 _ _ (by have := l1.size; have := S1.out; have := S2.out; omega) (nS _ (Nat.le_refl _)) c1
 have d2 : w3.cell? ⟨w1.heap.size, 0, none⟩ = some (.int .i64 (i : Int)) := kept_cell k3 _ _ (by have := S2.out; omega) (nS _ (by have := S1.out; omega)) c2
 have d3 : w3.cell? ⟨g, 3, none⟩ = some (.int .i64 (v.size : Int)) := y3.blk.cellS 3 _ rfl
 have X3 : Hid (PagS w3 v.p h cf n.ord n txt F ∧ SlS w3 g { v with log := lg } (l ++ [⟨0, i, 0⟩]) ∧ Kept (slF g v) w w3 ∧ (∀ b, lg.ownBlock = some b → v.log.ownBlock = some b ∨ w.heap.size ≤ b) ∧ ∀ b, slF g { v with log := lg } b → ¬ F b) := by
  refine ⟨(X0.out.1.later L2).off k3 (fun b hb hF => X0.out.2.2 b hb hF), y3, (Kept.new _ L2).trans k3, fun b hb => (f3 b hb).imp id (fun e => Nat.le_trans L2.size e), fun b hb hF => ?_⟩
  rcases hb with e | e
  ·exact X0.out.2.2 b (.inl e) hF
  ·rcases f3 b e with e | e
   ·exact X0.out.2.2 b (.inr e) hF
   ·have := X0.out.1.all b hF; have := L2.size; omega
 have mk := mk_bytes v.size (by have := N.out.2.2.2.2.1; have := N.out.2.2.2.2.2.1; omega) w3
 have L3 : Hid (w.heap.size < w3.heap.size ∧ w1.heap.size < w3.heap.size ∧ w.heap.size < w1.heap.size) := ⟨by have := k3.size; have := S1.out; have := S2.out; omega, by have := k3.size; have := S2.out; omega, by have := S1.out; omega⟩
 clear y3 k3 f3 nS c1 c2 b1 b2 l1 l2 L2
 rw [hz1] at d2 L3
 have HZ1 : Hid (w1.heap.size = z1) := hz1
 rw [hz1]
 clear hz1
 have e5 : (w3.alloc (.cells (madeCells #[.int .u8 0] v.size) 5)).heap.size = w3.heap.size + 1 := by simp
 have l4 : Below w3.heap.size w3 (w3.alloc (.cells (madeCells #[.int .u8 0] v.size) 5)) := (Below.refl _ _).alloc (Nat.le_refl _) _
 have b4 := made_blk w3 (.int .u8 0) v.size 5
 go_wp2_with (first | (refine wpList_allocV rfl 37 rfl (.slice none 0 0) 1 zeroBs rfl ?_; intro w5 b5 s5 l5; rw [e5] at b5 l5; have c5 := blk_c0 b5; have f5 := b5.frozen 0; clear s5))
 have K6 := (Kept.refl (fun b => b = w3.heap.size + 1) w5).setCell (p := ⟨w3.heap.size + 1, 0, none⟩) rfl (.slice (some ⟨w3.heap.size, 0, none⟩) v.size v.size)
 have B6 := b5.set 0 (.slice (some ⟨w3.heap.size, 0, none⟩) v.size v.size)
 obtain ⟨w6, hw6⟩ : ∃ w6, w5.setCell ⟨w3.heap.size + 1, 0, none⟩ (.slice (some ⟨w3.heap.size, 0, none⟩) v.size v.size) = w6 := ⟨_, rfl⟩
 rw [hw6] at K6 B6 ⊢
 clear hw6
 have l36 : Below w3.heap.size w3 w6 := below_kept (below_chain l4 l5 (by omega)) K6 (by have := l5.size; omega) (fun j hj => by omega)
 have Z : Hid (w.heap.size < w6.heap.size ∧ z1 < w6.heap.size ∧ w3.heap.size + 1 < w6.heap.size ∧ w3.heap.size < w6.heap.size ∧ w6.cell? ⟨w.heap.size, 0, none⟩ = some (.pointer (some ⟨g, 0, none⟩)) ∧ w6.cell? ⟨z1, 0, none⟩ = some (.int .i64 (i : Int)) ∧ w6.cell? ⟨w3.heap.size + 1, 0, none⟩ = some (.slice (some ⟨w3.heap.size, 0, none⟩) v.size v.size)) := by
  have hl := B6.lt
  have h3 := L3.out
  exact ⟨by omega, by omega, hl, by omega, (l36.cell (p := ⟨w.heap.size, 0, none⟩) h3.1).trans d1, (l36.cell (p := ⟨z1, 0, none⟩) h3.2.1).trans d2, blk_c0 B6⟩
 have Y6 : Hid (PagS w6 v.p h cf n.ord n txt F ∧ SlS w6 g { v with log := lg } (l ++ [⟨0, i, 0⟩]) ∧ Blk w6 w3.heap.size 5 (List.replicate v.size (.int .u8 0)) ∧ Below w3.heap.size w3 w6) := ⟨X3.out.1.later l36, X3.out.2.1.later l36, (b4.later l5 (by omega)).kept K6 (fun e => by omega), l36⟩
 clear mk b4 l4 e5 b5 l5 c5 f5 K6 B6 l36 d1 d2 d3
 refine region_invP 6 ((.val (.pointer (some ⟨g, 0, none⟩))) :: (.val (.func (.func 52) #[] #[.pointer (some ⟨(w3.heap.size + 1), 0, none⟩), .pointer (some ⟨w.heap.size, 0, none⟩), .pointer (some ⟨z1, 0, none⟩)])) :: (.val (.pointer (some ⟨g, 0, none⟩))) :: (.val (.int .i64 (i : Int))) :: (.val (.int .i64 (q : Int))) :: (.any (isZ1 w6.heap.size q) (isZ1_later _ _)) :: []) (by kernel_rfl) (by kernel_rfl) (by kernel_rfl) [] ⟨.inl rfl, .inl rfl, .inl rfl, .inl rfl, .inl rfl, .inl rfl, trivial⟩ (by kernel_rfl) ?_ ?_
 ·refine Steps'.cons ?_ (Steps'.cons ?_ (Steps'.cons ?_ (Steps'.cons ?_ (Steps'.cons ?_ (Steps'.cons ?_ (Steps'.one _ _ _ _ _ _ _))))))
  ·intro ax wx hb hs hd
   have h2 : ax.tmps.getD 2 undef = (.pointer (some ⟨w.heap.size, 0, none⟩)) := hs 2 (by kernel_rfl)
   have c0 : wx.cell? ⟨w.heap.size, 0, none⟩ = some (.pointer (some ⟨g, 0, none⟩)) := (hb.cell (p := ⟨w.heap.size, 0, none⟩) Z.out.1).trans Z.out.2.2.2.2.1
   exact Does.value _ (by clear hs hd; go_simp) rfl
  ·intro ax wx hb hs hd
   have h6 : ax.tmps.getD 6 undef = (.pointer (some ⟨(w3.heap.size + 1), 0, none⟩)) := hs 6 (by kernel_rfl)
   have h2 : ax.tmps.getD 2 undef = (.pointer (some ⟨w.heap.size, 0, none⟩)) := hs 2 (by kernel_rfl)
   have h3 : ax.tmps.getD 3 undef = (.pointer (some ⟨z1, 0, none⟩)) := hs 3 (by kernel_rfl)
   exact Does.value _ (by clear hs hd; go_simp) rfl
  ·intro ax wx hb hs hd
   have h2 : ax.tmps.getD 2 undef = (.pointer (some ⟨w.heap.size, 0, none⟩)) := hs 2 (by kernel_rfl)
   have c0 : wx.cell? ⟨w.heap.size, 0, none⟩ = some (.pointer (some ⟨g, 0, none⟩)) := (hb.cell (p := ⟨w.heap.size, 0, none⟩) Z.out.1).trans Z.out.2.2.2.2.1
   exact Does.value _ (by clear hs hd; go_simp) rfl
  ·intro ax wx hb hs hd
   have h3 : ax.tmps.getD 3 undef = (.pointer (some ⟨z1, 0, none⟩)) := hs 3 (by kernel_rfl)
   have c0 : wx.cell? ⟨z1, 0, none⟩ = some (.int .i64 (i : Int)) := (hb.cell (p := ⟨z1, 0, none⟩) Z.out.2.1).trans Z.out.2.2.2.2.2.1
   exact Does.value _ (by clear hs hd; go_simp) rfl
  ·intro ax wx hb hs hd
   have h24 := sqV (hd 2 24 rfl (by kernel_rfl) (by decide))
   have h25 := sqV (hd 3 25 rfl (by kernel_rfl) (by decide))
   refine Does.call 54 #[(.pointer (some ⟨g, 0, none⟩)), .int .i64 (i : Int)] (by clear hs hd; go_simp) ?_
   refine (page_any g { v with log := lg } i wx (Y6.out.2.1.blk.later hb Y6.out.2.1.blk.lt) N.out.2.1 (by have := HQ.out; have := N.out.2.2.2.2.2.2.1; show v.first + i / v.each ≤ 1000000; omega) N.out.2.2.2.1).mono ?_
   rintro e w' ⟨rfl, l⟩
   exact ⟨_, rfl, by show Value.int .i64 ((v.first + i / v.each : Nat) : Int) = _; rw [HQ.out], l⟩
  ·intro ax wx hb hs hd
   have h26 := sqV (hd 4 26 rfl (by kernel_rfl) (by decide))
   exact Does.int1 (.tmp 26) rfl q h26 (isZ1_made wx q hb.size)
 ·intro wx hb
  iterate 5 refine @EndsP.val _ _ _ _ _ _ _ _ _ rfl ?_
  refine @EndsP.any _ _ _ _ _ _ _ _ (isZ1 w6.heap.size q) (isZ1_later _ _) rfl ?_
  intro v27 p27
  intro hD nf hn
  obtain ⟨bp, rfl, cb, hbp⟩ := p27
  obtain ⟨mf, rfl⟩ : ∃ mf, nf = mf + 2 := ⟨nf - 2, by have h3 : 2 ≤ nf := hn; omega⟩
  clear hD hn
  simp only [Act.put, sqA, sqB, sqC]
  have W7 : Hid (PagS wx v.p h cf n.ord n txt F ∧ SlS wx g { v with log := lg } (l ++ [⟨0, i, 0⟩]) ∧ Below w6.heap.size w6 wx ∧ wx.cell? ⟨bp, 0, none⟩ = some (.int .i64 (q : Int))) := ⟨Y6.out.1.later hb, Y6.out.2.1.later hb, hb, cb⟩
  have CO : Hid (Calls Tryz.prog 51 #[.pointer (some ⟨g, 0, none⟩), (.func (.func 52) #[] #[.pointer (some ⟨(w3.heap.size + 1), 0, none⟩), .pointer (some ⟨w.heap.size, 0, none⟩), .pointer (some ⟨z1, 0, none⟩)]), .slice (some ⟨bp, 0, none⟩) 1 1] wx fun e w' => ∃ er, e = .returned (.int .i64 er) ∧ (er = 0 ∧ ∃ F1, PagS w' v.p h cf (n.load cf q).ord (n.load cf q) txt F1 ∧ Kept (fun b => F b ∨ b = w3.heap.size) wx w' ∧ (∀ b, F1 b → F b ∨ wx.heap.size ≤ b) ∧ Blk w' w3.heap.size 5 (u8s (recL txt v i)))) := by
   refine open_one g { v with log := lg } h cf n txt F q bp 1 52 _ (fun er w' => er = 0 ∧ ∃ F1, PagS w' v.p h cf (n.load cf q).ord (n.load cf q) txt F1 ∧ Kept (fun b => F b ∨ b = w3.heap.size) wx w' ∧ (∀ b, F1 b → F b ∨ wx.heap.size ≤ b) ∧ Blk w' w3.heap.size 5 (u8s (recL txt v i))) wx W7.out.1 W7.out.2.1.blk (fun hF => X3.out.2.2.2.2 g (.inl rfl) hF) W7.out.2.2.2 N.out.2.2.2.2.2.2.2 HB.out.1 HB.out.2.1 HB.out.2.2 enter_get1 ?_
   intro w1' F1 uo uc T tc ev x1 t1
   obtain ⟨B, ou, hB, hFB⟩ := t1.own
   have htl : (txt q).length = cf.text ∧ Bytes (txt q) := by
    obtain ⟨gh, gp, v', fh, fp, szp, Mh, s, Mt, y, hf, ha⟩ := x1
    exact y.tl q
   obtain ⟨uo', uc', e1, su, huc, -⟩ := own_sliceP ou htl.1 htl.2 N.out.2.2.2.2.2.1
   cases e1
   have hF3 := X3.out.1.all
   have hF0 := X0.out.1.all
   have hz := Z.out
   have hl3 := L3.out
   have h6x := W7.out.2.2.1.size
   have nF : ∀ b, w.heap.size ≤ b → ¬ F b := fun b hb hF => by have := hF0 b hF; omega
   have gg : G1 w1' g { v with log := lg } i (w3.heap.size + 1) w.heap.size z1 w3.heap.size T uo cf.text uc (List.replicate v.size (.int .u8 0)) (txt q) := by
    refine ⟨kept_cell ev.kept _ _ (by omega) (nF _ (by omega)) ((W7.out.2.2.1.cell (p := ⟨w3.heap.size + 1, 0, none⟩) hz.2.2.1).trans hz.2.2.2.2.2.2), kept_cell ev.kept _ _ (by omega) (nF _ (by omega)) ((W7.out.2.2.1.cell (p := ⟨w.heap.size, 0, none⟩) hz.1).trans hz.2.2.2.2.1), kept_cell ev.kept _ _ (by omega) (nF _ (by omega)) ((W7.out.2.2.1.cell (p := ⟨z1, 0, none⟩) hz.2.1).trans hz.2.2.2.2.2.1), t1.cell, W7.out.2.1.blk.kept ev.kept (fun hF => X3.out.2.2.2.2 g (.inl rfl) hF), (Y6.out.2.2.1.later W7.out.2.2.1 hz.2.2.2.1).kept ev.kept (nF _ (by omega)), su, ?_⟩
    have := ev.kept.size
    exact ⟨by omega, by omega, by omega, t1.lt⟩
   show Calls Tryz.prog 52 #[.slice (some ⟨T, 0, none⟩) 1 tc, .pointer (some ⟨w3.heap.size + 1, 0, none⟩), .pointer (some ⟨w.heap.size, 0, none⟩), .pointer (some ⟨z1, 0, none⟩)] w1' _
   refine (get1_any g { v with log := lg } i _ _ _ _ T tc uo cf.text uc _ (txt q) w1' gg N.out.2.1 N.out.2.2.2.2.1 N.out.2.2.2.2.2.1 huc N.out.2.2.2.1 (by simp)).mono ?_
   rintro e w2' ⟨rfl, b2, k2⟩
   have nF1 : ¬ F1 w3.heap.size := fun hF => (ev.new _ hF).elim (nF _ (by omega)) (fun e => by omega)
   refine ⟨0, rfl, rfl, F1, x1.off k2 (fun b e => by subst e; exact nF1), (ev.kept.mono (fun b hb => .inl hb)).trans (k2.mono (fun b hb => .inr hb)), ev.new, ?_⟩
   rw [recL, HQ.out]
   exact b2
  clear cb hbp hb
  refine wpAny_ready (rs := [6]) (by kernel_rfl) (by simp) (AllReady.cons rfl (fun K hK => ?_) AllReady.nil)
  go_simp
  go_wp2_with (go_at_call 51; refine CO.out.mono ?_; rintro e w8 ⟨_, rfl, rfl, F1, x8, k8, n8, b8⟩)
  refine take_op 7 (some 7) (.int .i64 0) rfl rfl (by kernel_rfl) (by kernel_rfl) (by kernel_rfl) (fun _ _ _ h => h) (by rfl) (fun W' => by go_simp) ?_
  simp only [Act.put, sqA, sqB, sqC]
  refine wpAny_done (by kernel_rfl) (NoPanic.normal ?_) _
  have hz := Z.out
  have hl3 := L3.out
  have h6x := W7.out.2.2.1.size
  have hF0 := X0.out.1.all
  have nS : ∀ b, slF g { v with log := lg } b → ¬ (F b ∨ b = w3.heap.size) := fun b hs hb => by
   rcases hb with hb | hb
   ·exact X3.out.2.2.2.2 b hs hb
   ·have := X3.out.2.1.all b hs; omega
  have c8 : w8.cell? ⟨w3.heap.size + 1, 0, none⟩ = some (.slice (some ⟨w3.heap.size, 0, none⟩) v.size v.size) := kept_cell k8 _ _ (by omega) (fun e => by rcases e with e | e; have := hF0 _ e; omega; omega) ((W7.out.2.2.1.cell (p := ⟨w3.heap.size + 1, 0, none⟩) hz.2.2.1).trans hz.2.2.2.2.2.2)
  have nF1 : ¬ F1 w3.heap.size := fun hF => (n8 _ hF).elim (fun e => by have := hF0 _ e; omega) (fun e => by omega)
  have E8 : Hid (Blk w8 w3.heap.size 5 (u8s (recL txt v i)) ∧ PagS w8 v.p h cf (n.load cf q).ord (n.load cf q) txt F1 ∧ SlS w8 g { v with log := lg } (l ++ [⟨0, i, 0⟩]) ∧ (∀ b, slF g { v with log := lg } b → ¬ F1 b) ∧ Kept (fun b => F b ∨ slF g v b) w w8 ∧ (∀ b, F1 b ∨ slF g { v with log := lg } b → F b ∨ slF g v b ∨ w.heap.size ≤ b) ∧ w.heap.size ≤ w3.heap.size ∧ ¬ F1 w3.heap.size ∧ ¬ slF g { v with log := lg } w3.heap.size) := by
   refine ⟨b8, x8, W7.out.2.1.off k8 (fun b hb hs => nS b hs hb), fun b hs hF => ?_, ?_, fun b hb => ?_, by omega, nF1, fun hs => by have := X3.out.2.1.all _ hs; omega⟩
   ·rcases n8 b hF with e | e
    ·exact X3.out.2.2.2.2 b hs e
    ·have := X3.out.2.1.all b hs; omega
   ·have lx : Below w3.heap.size w3 wx := below_chain Y6.out.2.2.2 W7.out.2.2.1 Y6.out.2.2.2.size
    refine ⟨k8.os.trans (lx.os.trans X3.out.2.2.1.os), k8.tape.trans (lx.tape.trans X3.out.2.2.1.tape), k8.output.trans (lx.output.trans X3.out.2.2.1.output), by have := k8.size; omega, fun b hb hn => ?_⟩
    rw [k8.block b (by omega) (fun e => by rcases e with e | e; exact hn (.inl e); omega), lx.block b (by omega), X3.out.2.2.1.block b hb (fun e => hn (.inr e))]
   ·rcases hb with hb | hb
    ·rcases n8 b hb with e | e
     ·exact .inl e
     ·exact .inr (.inr (by omega))
    ·rcases hb with e | e
     ·exact .inr (.inl (.inl e))
     ·rcases X3.out.2.2.2.1 b e with e | e
      ·exact .inr (.inl (.inr e))
      ·exact .inr (.inr e)
  clear x8 k8 n8 b8 nS nF1
  go_wp2
  go_ret2
  exact ⟨w3.heap.size, F1, lg, rfl, E8.out⟩
def putL (zs : List Int) (k : Nat) (bs : List Int) : List Int := zs.take k ++ bs ++ zs.drop (k + bs.length)
theorem u8s_append (a b : List Int) : u8s (a ++ b) = u8s a ++ u8s b := by simp [u8s]
theorem putL_length {zs : List Int} {k : Nat} {bs : List Int} (h : k + bs.length ≤ zs.length) : (putL zs k bs).length = zs.length := by simp [putL]; omega
theorem putL_bytes {zs : List Int} {k : Nat} {bs : List Int} (h : Bytes zs) (h2 : Bytes bs) : Bytes (putL zs k bs) := fun z hz => by
 simp only [putL, List.mem_append] at hz
 rcases hz with (hz | hz) | hz
 ·exact h z (List.mem_of_mem_take hz)
 ·exact h2 z hz
 ·exact h z (List.mem_of_mem_drop hz)
theorem cut_row {w : World} {ub k n t : Nat} {zs : List Int} {rest : List Value} (h : k + n ≤ t) (hz : zs.length = t) (hb : Blk w ub 5 (u8s zs ++ rest)) : Blk w ub 5 (u8s (zs.take k) ++ (u8s ((zs.drop k).take n) ++ (u8s (zs.drop (k + n)) ++ rest))) := by
 have e : u8s zs ++ rest = u8s (zs.take k) ++ (u8s ((zs.drop k).take n) ++ (u8s (zs.drop (k + n)) ++ rest)) := by
  rw [← List.append_assoc, ← List.append_assoc, ← u8s_append, ← u8s_append]
  congr 2
  rw [← List.drop_drop, List.append_assoc, List.take_append_drop, List.take_append_drop]
 rw [← e]; exact hb
theorem subA_some (ub k c : Nat) (h : c ≠ k) : subA (some ⟨ub, 0, none⟩) k c = some ⟨ub, k, none⟩ := by
 rw [subA, if_neg h]
 by_cases e : k = 0
 ·subst e; simp [Addr.add]
 ·simp [Addr.add, e]
structure S1 (w : World) (g : Nat) (v : SlV) (i gs gi gb ub T : Nat) (t uc : Nat) (zs : List Int) (rest : List Value) (bo : Option Addr) (bc : Nat) (bs : List Int) : Prop where
 s0 : w.cell? ⟨gs, 0, none⟩ = some (.pointer (some ⟨g, 0, none⟩))
 i0 : w.cell? ⟨gi, 0, none⟩ = some (.int .i64 (i : Int))
 b0 : w.cell? ⟨gb, 0, none⟩ = some (.slice bo v.size bc)
 t0 : w.cell? ⟨T, 0, none⟩ = some (.slice (some ⟨ub, 0, none⟩) t uc)
 sl : SlAt w g v
 ub : Blk w ub 5 (u8s zs ++ rest)
 bs : Seen w bo v.size bs
 lt : gs < w.heap.size ∧ gi < w.heap.size ∧ gb < w.heap.size ∧ T < w.heap.size
theorem S1.later {w w' : World} {g : Nat} {v : SlV} {i gs gi gb ub T t uc : Nat} {zs : List Int} {rest : List Value} {bo : Option Addr} {bc : Nat} {bs : List Int} (x : S1 w g v i gs gi gb ub T t uc zs rest bo bc bs) (hb : Below w.heap.size w w') : S1 w' g v i gs gi gb ub T t uc zs rest bo bc bs :=
 ⟨(hb.cell (p := ⟨gs, 0, none⟩) x.lt.1).trans x.s0, (hb.cell (p := ⟨gi, 0, none⟩) x.lt.2.1).trans x.i0, (hb.cell (p := ⟨gb, 0, none⟩) x.lt.2.2.1).trans x.b0, (hb.cell (p := ⟨T, 0, none⟩) x.lt.2.2.2).trans x.t0, x.sl.later hb x.sl.lt, x.ub.later hb x.ub.lt, x.bs.later hb (Nat.le_refl _), ⟨Nat.lt_of_lt_of_le x.lt.1 hb.size, Nat.lt_of_lt_of_le x.lt.2.1 hb.size, Nat.lt_of_lt_of_le x.lt.2.2.1 hb.size, Nat.lt_of_lt_of_le x.lt.2.2.2 hb.size⟩⟩
theorem set1_any (g : Nat) (v : SlV) (i gs gi gb ub T tc t uc : Nat) (zs : List Int) (rest : List Value) (bo : Option Addr) (bc : Nat) (bs : List Int) (w : World) (x : S1 w g v i gs gi gb ub T t uc zs rest bo bc bs) (he : 1 ≤ v.each) (hf : i % v.each * v.size + v.size ≤ t) (ht : t ≤ 4096) (hc : t ≤ uc) (hi : i ≤ 1000000000) (hv : 1 ≤ v.size) (hz : zs.length = t) :
  Calls Tryz.prog 65 #[.slice (some ⟨T, 0, none⟩) 1 tc, .pointer (some ⟨gs, 0, none⟩), .pointer (some ⟨gi, 0, none⟩), .pointer (some ⟨gb, 0, none⟩)] w fun e w' => e = .returned (.tuple #[]) ∧ Blk w' ub 5 (u8s (putL zs (i % v.each * v.size) bs) ++ rest) ∧ Kept (fun b => b = ub) w w' := by
 have H : Hid (S1 w g v i gs gi gb ub T t uc zs rest bo bc bs) := x
 have N : Hid (1 ≤ v.each ∧ i % v.each * v.size + v.size ≤ t ∧ t ≤ 4096 ∧ t ≤ uc ∧ i ≤ 1000000000 ∧ 1 ≤ v.size) := ⟨he, hf, ht, hc, hi, hv⟩
 have HZ : Hid (zs.length = t) := hz
 clear x he hf ht hc hi hv hz
 go_enter Tryz.func65, Tryz.ntmps65
 go_wp2_with fail
 refine region_invT [.val (.pointer (some ⟨g, 0, none⟩)), .val (.int .i64 (i : Int)), .val (.slice (some ⟨T, 0, none⟩) 1 tc), .val (.pointer (some ⟨T, 0, none⟩)), .val (.slice (some ⟨ub, 0, none⟩) t uc), .val (.slice (some ⟨ub, i % v.each * v.size, none⟩) v.size (uc - i % v.each * v.size)), .val (.slice bo v.size bc)] (by kernel_rfl) (by kernel_rfl) (by kernel_rfl) ?_ ?_
 ·refine Steps'.cons ?_ (Steps'.cons ?_ (Steps'.cons ?_ (Steps'.cons ?_ (Steps'.cons ?_ (Steps'.cons ?_ (Steps'.cons ?_ (Steps'.one _ _ _ _ _ _ _)))))))
  ·intro ax wx hb hs hd
   have h1 : ax.tmps.getD 1 undef = (.pointer (some ⟨gs, 0, none⟩)) := hs 1 (by kernel_rfl)
   have c0 : wx.cell? ⟨gs, 0, none⟩ = some (.pointer (some ⟨g, 0, none⟩)) := (H.out.later hb).s0
   exact Does.value _ (by clear hs hd; go_simp) rfl
  ·intro ax wx hb hs hd
   have h2 : ax.tmps.getD 2 undef = (.pointer (some ⟨gi, 0, none⟩)) := hs 2 (by kernel_rfl)
   have c0 : wx.cell? ⟨gi, 0, none⟩ = some (.int .i64 (i : Int)) := (H.out.later hb).i0
   exact Does.value _ (by clear hs hd; go_simp) rfl
  ·intro ax wx hb hs hd
   have h0 : ax.tmps.getD 0 undef = (.slice (some ⟨T, 0, none⟩) 1 tc) := hs 0 (by kernel_rfl)
   exact Does.value _ (by clear hs hd; go_simp) rfl
  ·intro ax wx hb hs hd
   have h7 := sqV (hd 2 7 rfl (by kernel_rfl) (by decide))
   exact Does.value _ (by clear hs hd; go_simp) rfl
  ·intro ax wx hb hs hd
   have h8 := sqV (hd 3 8 rfl (by kernel_rfl) (by decide))
   have c0 : wx.cell? ⟨T, 0, none⟩ = some (.slice (some ⟨ub, 0, none⟩) t uc) := (H.out.later hb).t0
   exact Does.value _ (by clear hs hd; go_simp) rfl
  ·intro ax wx hb hs hd
   have h5 := sqV (hd 0 5 rfl (by kernel_rfl) (by decide))
   have h6 := sqV (hd 1 6 rfl (by kernel_rfl) (by decide))
   have h9 := sqV (hd 4 9 rfl (by kernel_rfl) (by decide))
   refine Does.call 53 #[(.pointer (some ⟨g, 0, none⟩)), .int .i64 (i : Int), (.slice (some ⟨ub, 0, none⟩) t uc)] (by clear hs hd; go_simp) ?_
   have Y := H.out.later hb
   refine (place_any g v i _ t uc wx Y.sl N.out.1 N.out.2.1 N.out.2.2.1 N.out.2.2.2.1 N.out.2.2.2.2.1).mono ?_
   rintro e w' ⟨rfl, l⟩
   exact ⟨_, rfl, by show Value.slice _ _ _ = _; rw [subA_some _ _ _ (by have := N.out; omega)], l⟩
  ·intro ax wx hb hs hd
   have h3 : ax.tmps.getD 3 undef = (.pointer (some ⟨gb, 0, none⟩)) := hs 3 (by kernel_rfl)
   have c0 : wx.cell? ⟨gb, 0, none⟩ = some (.slice bo v.size bc) := (H.out.later hb).b0
   exact Does.value _ (by clear hs hd; go_simp) rfl
 ·intro wx hb
  iterate 7 refine @Ends.val _ _ _ _ _ _ _ _ _ _ rfl ?_
  refine @Ends.one _ _ _ _ _ _ _ ?_
  simp only [Act.put, sqA, sqB, sqC]
  have Y := H.out.later hb
  refine last_copyS (.tmp 10) (.tmp 11) rfl ub (i % v.each * v.size) v.size (uc - i % v.each * v.size) (some ⟨ub, i % v.each * v.size, none⟩) bo v.size bc rfl rfl _ Y.bs 5 (u8s (zs.take (i % v.each * v.size))) (u8s ((zs.drop (i % v.each * v.size)).take v.size)) (u8s (zs.drop (i % v.each * v.size + v.size)) ++ rest) (cut_row N.out.2.1 HZ.out Y.ub) (by rw [u8s_length, List.length_take, HZ.out]; have := N.out; omega) v.size (Nat.min_self _) (by rw [u8s_length, List.length_take, List.length_drop, HZ.out]; have := N.out; omega) (fun _ => rfl) (some 12) rfl ?_
  intro w1 b1 s1 k1
  have R1 : Hid (Blk w1 ub 5 (u8s (putL zs (i % v.each * v.size) bs) ++ rest) ∧ Kept (fun b => b = ub) w w1) := ⟨by have := b1; rw [show bs.take v.size = bs from List.take_of_length_le (by have := Y.bs.len; omega)] at this; rw [putL, Y.bs.len, u8s_append, u8s_append]; simpa using this, (Kept.new _ hb).trans k1⟩
  clear b1 s1 k1 Y hb
  go_wp2
  go_end0
  exact ⟨rfl, R1.out⟩
theorem chg1_any (g : Nat) (v : SlV) (h : Nat) (cf : Cf) (n : Nm) (txt : Nat → List Int) (F : Nat → Prop) (q gw gp gs bp cp W : Nat) (caps : Array Value) (ub T tc uc : Nat) (zs : List Int) (rest : List Value) (w : World) (x : PagS w v.p h cf n.ord n txt F) (hs : SlAt w g v)
  (cw : w.cell? ⟨gw, 0, none⟩ = some (.func (.func W) #[] caps)) (cp0 : w.cell? ⟨gp, 0, none⟩ = some (.slice (some ⟨bp, 0, none⟩) 1 cp)) (cs : w.cell? ⟨gs, 0, none⟩ = some (.pointer (some ⟨g, 0, none⟩))) (cb : w.cell? ⟨bp, 0, none⟩ = some (.int .i64 (q : Int))) (ct : w.cell? ⟨T, 0, none⟩ = some (.slice (some ⟨ub, 0, none⟩) cf.text uc))
  (hlt : gp < w.heap.size ∧ gs < w.heap.size ∧ bp < w.heap.size ∧ T < w.heap.size) (hne : gp ≠ ub ∧ gs ≠ ub ∧ bp ≠ ub ∧ T ≠ ub ∧ g ≠ ub) (hub : ¬ F ub) (hz : zs.length = cf.text) (hzb : Bytes zs)
  (hent : ∀ args W', (callFunc W args).run Tryz.prog W' = .ok (.enter W args) W') (CW : Calls Tryz.prog W (#[.slice (some ⟨T, 0, none⟩) 1 tc] ++ caps) w fun e w' => e = .returned (.tuple #[]) ∧ Blk w' ub 5 (u8s zs ++ rest) ∧ Kept (fun b => b = ub) w w')
  (hq : q < cf.pages) (hol : n.ord.length ≤ cf.win) (hlog : n.log.length < 1000000000) (hwr : n.writes < 1000000000) :
  Calls Tryz.prog 87 #[.slice (some ⟨T, 0, none⟩) 1 tc, .pointer (some ⟨gw, 0, none⟩), .pointer (some ⟨gp, 0, none⟩), .pointer (some ⟨gs, 0, none⟩)] w fun e w' => e = .returned (.int .i64 0) ∧ ∃ F', PagS w' v.p h cf (n.save cf q).ord (n.save cf q) (upn txt q zs) F' ∧ Kept (fun b => F b ∨ b = ub) w w' ∧ ∀ b, F' b → F b ∨ w.heap.size ≤ b := by
 have HC : Hid (Calls Tryz.prog W (#[.slice (some ⟨T, 0, none⟩) 1 tc] ++ caps) w fun e w' => ∃ r, e = .returned r ∧ r = .tuple #[] ∧ Blk w' ub 5 (u8s zs ++ rest) ∧ Kept (fun b => b = ub) w w') := CW.mono (fun e w' ⟨h1, h2, h3⟩ => ⟨_, h1, rfl, h2, h3⟩)
 have HE : Hid (∀ args W', (callFunc W args).run Tryz.prog W' = .ok (.enter W args) W') := hent
 have X0 : Hid (PagS w v.p h cf n.ord n txt F ∧ SlAt w g v ∧ (w.cell? ⟨gp, 0, none⟩ = some (.slice (some ⟨bp, 0, none⟩) 1 cp)) ∧ w.cell? ⟨gs, 0, none⟩ = some (.pointer (some ⟨g, 0, none⟩)) ∧ w.cell? ⟨bp, 0, none⟩ = some (.int .i64 (q : Int)) ∧ w.cell? ⟨T, 0, none⟩ = some (.slice (some ⟨ub, 0, none⟩) cf.text uc)) := ⟨x, hs, cp0, cs, cb, ct⟩
 have H1 : Hid ((gp < w.heap.size ∧ gs < w.heap.size ∧ bp < w.heap.size ∧ T < w.heap.size) ∧ (gp ≠ ub ∧ gs ≠ ub ∧ bp ≠ ub ∧ T ≠ ub ∧ g ≠ ub) ∧ ¬ F ub ∧ zs.length = cf.text ∧ Bytes zs) := ⟨hlt, hne, hub, hz, hzb⟩
 have HB : Hid (q < cf.pages ∧ n.ord.length ≤ cf.win ∧ n.log.length < 1000000000 ∧ n.writes < 1000000000) := ⟨hq, hol, hlog, hwr⟩
 clear x hs cp0 cs cb ct hlt hne hub hz hzb hent CW hq hol hlog hwr
 go_enter Tryz.func87, Tryz.ntmps87
 go_wp2_with ((with_reducible show wpList _ _ _ (({ dst := some 11, op := _, type := _, pos := _, after := _, guard := _ } : Oper) :: _) _ _); refine wpList_doV rfl (.tmp 9) (.tmp 10) _ rfl W caps rfl _ rfl (HE.out _ _) (fun r w' => r = .tuple #[] ∧ Blk w' ub 5 (u8s zs ++ rest) ∧ Kept (fun b => b = ub) w w') HC.out ?_; rintro r w1 ⟨rfl, b1, k1⟩; have d1 : w1.cell? ⟨gp, 0, none⟩ = some (.slice (some ⟨bp, 0, none⟩) 1 cp) := kept_cell k1 _ _ H1.out.1.1 (fun e => H1.out.2.1.1 e) X0.out.2.2.1)
 have M : Hid (Blk w1 ub 5 (u8s zs ++ rest) ∧ gs < w1.heap.size ∧ T < w1.heap.size ∧ bp < w1.heap.size ∧ w1.cell? ⟨gs, 0, none⟩ = some (.pointer (some ⟨g, 0, none⟩)) ∧ w1.cell? ⟨T, 0, none⟩ = some (.slice (some ⟨ub, 0, none⟩) cf.text uc) ∧ SlAt w1 g v ∧ PagS w1 v.p h cf n.ord n txt F ∧ w1.cell? ⟨bp, 0, none⟩ = some (.int .i64 (q : Int)) ∧ Kept (fun b => b = ub) w w1) := by
  have h1 := H1.out
  have hsz := k1.size
  exact ⟨b1, by omega, by omega, by omega, kept_cell k1 _ _ h1.1.2.1 (fun e => h1.2.1.2.1 e) X0.out.2.2.2.1, kept_cell k1 _ _ h1.1.2.2.2 (fun e => h1.2.1.2.2.2.1 e) X0.out.2.2.2.2.2, X0.out.2.1.kept k1 (fun e => h1.2.1.2.2.2.2 e), X0.out.1.off k1 (fun b e => by subst e; exact h1.2.2.1), kept_cell k1 _ _ h1.1.2.2.1 (fun e => h1.2.1.2.2.1 e) X0.out.2.2.2.2.1, k1⟩
 have cb1 : w1.cell? ⟨bp, 0, none⟩ = some (.int .i64 (q : Int)) := M.out.2.2.2.2.2.2.2.2.1
 clear b1 k1 d1
 go_loopw [14] (fun i wr => (i = .int .i64 0 ∧ w1 = wr) ∨ (i = .int .i64 1 ∧ ∃ F', PagS wr v.p h cf (n.save cf q).ord (n.save cf q) (upn txt q zs) F' ∧ Kept (fun b => F b ∨ b = ub) w wr ∧ ∀ b, F' b → F b ∨ w.heap.size ≤ b)) (fun i _ => 1 - (intOf i).toNat)
 case atStart => exact .inl ⟨rfl, rfl⟩
 case round =>
  rcases hrel with ⟨rfl, rfl⟩ | ⟨rfl, F', x', k', n'⟩
  ·go_wp2_with fail
   refine region_invP 9 ((.val (.pointer (some ⟨g, 0, none⟩))) :: (.val (.pointer (some ⟨g, 0, none⟩))) :: (.val (.pointer (some ⟨g, 0, none⟩))) :: (.val (.pointer (some ⟨v.p, 0, none⟩))) :: (.val (.int .i64 (q : Int))) :: (.val (.slice (some ⟨T, 0, none⟩) 1 tc)) :: (.val (.int .i64 0)) :: (.val (.pointer (some ⟨T, 0, none⟩))) :: (.val (.slice (some ⟨ub, 0, none⟩) cf.text uc)) :: []) (by kernel_rfl) (by kernel_rfl) (by kernel_rfl) [] ⟨.inl rfl, .inl rfl, .inl rfl, .inl rfl, .inl rfl, .inl rfl, .inl rfl, .inl rfl, .inl rfl, trivial⟩ (by kernel_rfl) ?_ ?_
   ·refine Steps'.cons ?_ (Steps'.cons ?_ (Steps'.cons ?_ (Steps'.cons ?_ (Steps'.cons ?_ (Steps'.cons ?_ (Steps'.cons ?_ (Steps'.cons ?_ (Steps'.cons ?_ (Steps'.one _ _ _ _ _ _ _)))))))))
    ·intro ax wx hb hs hd
     have h3 : ax.tmps.getD 3 undef = (.pointer (some ⟨gs, 0, none⟩)) := hs 3 (by kernel_rfl)
     have c0 : wx.cell? ⟨gs, 0, none⟩ = some (.pointer (some ⟨g, 0, none⟩)) := (hb.cell (p := ⟨gs, 0, none⟩) M.out.2.1).trans M.out.2.2.2.2.1
     exact Does.value _ (by clear hs hd; go_simp) rfl
    ·intro ax wx hb hs hd
     have h19 := sqV (hd 0 19 rfl (by kernel_rfl) (by decide))
     exact Does.value _ (by clear hs hd; go_simp) rfl
    ·intro ax wx hb hs hd
     have h20 := sqV (hd 1 20 rfl (by kernel_rfl) (by decide))
     exact Does.value _ (by clear hs hd; go_simp) rfl
    ·intro ax wx hb hs hd
     have h21 := sqV (hd 2 21 rfl (by kernel_rfl) (by decide))
     have c0 : wx.cell? ⟨g, 0, none⟩ = some (.pointer (some ⟨v.p, 0, none⟩)) := (M.out.2.2.2.2.2.2.1.later hb M.out.2.2.2.2.2.2.1.lt).cellS 0 _ rfl
     exact Does.value _ (by clear hs hd; go_simp) rfl
    ·intro ax wx hb hs hd
     have h7 : ax.tmps.getD 7 undef = (.int .i64 (q : Int)) := hs 7 (by kernel_rfl)
     exact Does.value _ (by clear hs hd; go_simp) rfl
    ·intro ax wx hb hs hd
     have h0 : ax.tmps.getD 0 undef = (.slice (some ⟨T, 0, none⟩) 1 tc) := hs 0 (by kernel_rfl)
     exact Does.value _ (by clear hs hd; go_simp) rfl
    ·intro ax wx hb hs hd
     have h6 : ax.tmps.getD 6 undef = (.int .i64 0) := hs 6 (by kernel_rfl)
     exact Does.value _ (by clear hs hd; go_simp) rfl
    ·intro ax wx hb hs hd
     have h24 := sqV (hd 5 24 rfl (by kernel_rfl) (by decide))
     have h25 := sqV (hd 6 25 rfl (by kernel_rfl) (by decide))
     exact Does.value _ (by clear hs hd; go_simp) rfl
    ·intro ax wx hb hs hd
     have h26 := sqV (hd 7 26 rfl (by kernel_rfl) (by decide))
     have c0 : wx.cell? ⟨T, 0, none⟩ = some (.slice (some ⟨ub, 0, none⟩) cf.text uc) := (hb.cell (p := ⟨T, 0, none⟩) M.out.2.2.1).trans M.out.2.2.2.2.2.1
     exact Does.value _ (by clear hs hd; go_simp) rfl
   ·intro wx hb
    iterate 9 refine @EndsP.val _ _ _ _ _ _ _ _ _ rfl ?_
    intro hD nf hn
    obtain ⟨mf, rfl⟩ : ∃ mf, nf = mf + 2 := ⟨nf - 2, by have h3 : 2 ≤ nf := hn; omega⟩
    clear hD hn
    simp only [Act.put, sqA, sqB, sqC]
    have W7 : Hid (PagS wx v.p h cf n.ord n txt F ∧ Below w1.heap.size w1 wx) := ⟨M.out.2.2.2.2.2.2.2.1.later hb, hb⟩
    have CS : Hid (Calls Tryz.prog 88 #[.pointer (some ⟨v.p, 0, none⟩), .int .i64 (q : Int), .slice (some ⟨ub, 0, none⟩) cf.text uc] wx fun e w' => e = .returned (.int .i64 0) ∧ ∃ F', PagS w' v.p h cf (n.save cf q).ord (n.save cf q) (upn txt q zs) F' ∧ Ev F F' wx w') := by
     have hb2 := M.out.1.later hb M.out.1.lt
     have ht := W7.out.1.good.text
     have sn : Seen wx (some ⟨ub, 0, none⟩) cf.text zs := by
      refine ⟨H1.out.2.2.2.1, by omega, H1.out.2.2.2.2, fun _ => ⟨ub, 0, rfl, hb2.lt, fun k hk => ?_⟩⟩
      rw [Nat.zero_add, hb2.cell, List.getElem?_append_left (by rw [u8s_length, H1.out.2.2.2.1]; exact hk)]
      have : k < zs.length := by rw [H1.out.2.2.2.1]; exact hk
      simp [u8s, List.getD, this]
     exact save_S v.p h cf n txt F q (some ⟨ub, 0, none⟩) uc zs wx W7.out.1 HB.out.1 HB.out.2.1 HB.out.2.2.1 HB.out.2.2.2 sn (fun b o e => by cases e; exact H1.out.2.2.1)
    clear hb
    refine wpAny_ready (rs := [9]) (by kernel_rfl) (by simp) (AllReady.cons rfl (fun K hK => ?_) AllReady.nil)
    go_simp
    go_wp2_with (go_at_call 88; refine CS.out.mono ?_; rintro e w8 ⟨rfl, F8, x8, e8⟩)
    refine take_op 10 (some 8) (.int .i64 0) rfl rfl (by kernel_rfl) (by kernel_rfl) (by kernel_rfl) (fun _ _ _ h => h) (by rfl) (fun W' => by go_simp) ?_
    simp only [Act.put, sqA, sqB, sqC]
    refine wpAny_done (by kernel_rfl) (NoPanic.normal ?_) _
    have V8 : Hid (PagS w8 v.p h cf (n.save cf q).ord (n.save cf q) (upn txt q zs) F8 ∧ Kept (fun b => F b ∨ b = ub) w w8 ∧ ∀ b, F8 b → F b ∨ w.heap.size ≤ b) := ⟨x8, ((M.out.2.2.2.2.2.2.2.2.2.mono (fun b e => .inr e)).trans (Kept.new _ W7.out.2)).trans (e8.kept.mono (fun b e => .inl e)), fun b hb => (e8.new b hb).imp id (fun e => by have := M.out.2.2.2.2.2.2.2.2.2.size; have := W7.out.2.size; omega)⟩
    clear x8 e8
    go_wp2
    exact ⟨.inr ⟨by first | rfl | go_num, F8, V8.out⟩, by simp [intOf]⟩
  ·have V8 : Hid (PagS wr v.p h cf (n.save cf q).ord (n.save cf q) (upn txt q zs) F' ∧ Kept (fun b => F b ∨ b = ub) w wr ∧ ∀ b, F' b → F b ∨ w.heap.size ≤ b) := ⟨x', k', n'⟩
   clear x' k' n'
   go_wp2
   go_ret
   exact ⟨rfl, F', V8.out⟩
end Go.Proofs.YtpanagghppdiiaaGreat
