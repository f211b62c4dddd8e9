/- Joined by program: what the theorem reaches. -/
import Derived.Test.YtfhieacclifihaaGreatJA
import Derived.Test.YtfhieacclifihaaGreatJC
import Derived.Test.YtfhieacclifihaaGreatJG
import Derived.Test.YtfhieacclifihaaGreatJH
namespace Go.Proofs.YtfhieacclifihaaGreat
open Go.RowKit
set_option linter.unusedVariables false
set_option linter.unusedSimpArgs false

theorem meth_read (q : Option Addr) (w : World) : (method 401 31 (.pointer q) "Read").run Tryz.prog w = .ok (168, .pointer q) w := by kernel_rfl
theorem keySize : (Tryz.prog.info? 41).map (·.size) = some 32 := by kernel_rfl
theorem seen_page {w : World} {g n : Nat} {zs : List Int} (b : Blk w g 5 (u8s zs)) (hl : zs.length = n) (hb : Bytes zs) (hn : n ≤ 8192) : Seen w (some ⟨g, 0, none⟩) n zs := by
  have := seen_blk b hb (by omega)
  rw [hl] at this
  exact this
/-- An honest host. -/
structure Hn (s : HSt) : Prop where
  dn : s.down = false
  cm : ∀ k, s.coming k = []
  dp : s.depth = 0
theorem Hn.pow {s : HSt} (x : Hn s) : s.pow = 0 := by unfold HSt.pow; rw [x.cm]; rfl
theorem Hn.opE {s : HSt} (x : Hn s) : s.opE = 0 := by
  unfold HSt.opE
  rw [if_neg]
  rw [x.dn, x.pow]; decide
theorem Hn.opS {s : HSt} (x : Hn s) (f : HSt → HSt) (t : Tc) : s.opS f t = (f s.next).logged t := by
  unfold HSt.opS
  rw [if_neg (by rw [x.dn]; simp), if_neg (by rw [x.pow]; decide)]
theorem Hn.next {s : HSt} (x : Hn s) : Hn s.next :=
  ⟨by show decide (s.pow ≠ 0) = false; rw [x.pow]; rfl, fun k => by show (if k = s.ops then [] else s.coming k) = []; rw [x.cm]; split <;> rfl, x.dp⟩
theorem Hn.spo {s : HSt} (x : Hn s) (p : Nat) : spoL s p (s.coming s.ops) = agoL s p 0 := by rw [x.cm]; rfl
set_option maxRecDepth 20000 in
set_option maxHeartbeats 2000000 in
theorem gread_any (p h q : Nat) (v : PgV) (s : HSt) (Mh : Nat → Prop) (r c pq ver : Int) (zs : List Int) (w : World) (hp : PgAt w p v) (hst : v.st = .iface 31 (.pointer (some ⟨h, 0, none⟩))) (x : HostAt w Mh h s) (hn : Hn s) (hq : q < s.pages) (hops : s.ops < 3000000000000) (hpM : ¬ Mh p)
    (hl : zs.length ≤ 4096) (hz : s.size = zs.length + 28) (hb : Bytes zs) (hr : Word r) (hc : U32 c) (hpq : U32 pq) (hv : U32 ver) (hk : agoL s q 0 = pageL v.key r c pq ver zs) :
    Calls Tryz.prog 77 #[.pointer (some ⟨p, 0, none⟩), .int .i64 q, .agg (placeC r c pq ver).toArray] w fun e w' => ∃ u M2 B, e = .returned (.tuple #[u, .int .i64 0]) ∧ HostAt w' M2 h (s.next.logged ⟨0, q, s.size, List.replicate 12 0⟩) ∧ Goes Mh M2 w w' ∧ isO B zs.length zs u w' ∧ w.heap.size ≤ B ∧ ∀ k, M2 k → k < B := by
  have HP : Hid (PgAt w p v) := hp
  have HS : Hid (v.st = .iface 31 (.pointer (some ⟨h, 0, none⟩)) ∧ ¬ Mh p) := ⟨hst, hpM⟩
  have CR : Hid (∀ W, Below w.heap.size w W → Calls Tryz.prog 168 #[.pointer (some ⟨h, 0, none⟩), .int .i64 q] W fun e w' => ∃ v, e = .returned (.tuple #[v, .int .i64 0]) ∧ ∃ M2, HostAt w' M2 h (s.next.logged ⟨0, q, s.size, List.replicate 12 0⟩) ∧ Goes Mh M2 W w' ∧
      ∃ g, v = .slice (some ⟨g, 0, none⟩) s.size s.size ∧ Blk w' g 5 (u8s (agoL s q 0)) ∧ W.heap.size ≤ g ∧ ¬ M2 g ∧ Bytes (agoL s q 0)) := fun W hW => by
    refine (read_good h s q hq Mh W (x.later hW) hops).mono ?_
    rintro e w' ⟨u, he, M2, h1, h2, _, h3⟩
    rw [hn.opE] at he
    rw [hn.opS] at h1
    have h3 := h3 hn.opE
    rw [hn.spo] at h3
    exact ⟨u, he, M2, h1, h2, h3⟩
  have HX : Hid (HostAt w Mh h s ∧ zs.length ≤ 4096 ∧ s.size = zs.length + 28 ∧ Bytes zs ∧ Word r ∧ U32 c ∧ U32 pq ∧ U32 ver ∧ agoL s q 0 = pageL v.key r c pq ver zs) := ⟨x, hl, hz, hb, hr, hc, hpq, hv, hk⟩
  have cS : w.cell? ⟨p, 0, none⟩ = some (.iface 31 (.pointer (some ⟨h, 0, none⟩))) := by rw [hp.blk.cell]; show some v.st = _; rw [hst]
  clear hp hst x hn hq hops hpM hl hz hb hr hc hpq hv hk
  have hmR : ∀ W, (method 401 31 (.pointer (some ⟨h, 0, none⟩)) "Read").run Tryz.prog W = .ok (168, .pointer (some ⟨h, 0, none⟩)) W := meth_read _
  go_enter Tryz.func77, Tryz.ntmps77
  go_wp2_with (first | (refine wpList_box_new rfl 150 _ rfl (placeC r c pq ver) rfl ?_; intro w1 b1 s1 l1; have c1 : w1.cell? ⟨p, 0, none⟩ = some (.iface 31 (.pointer (some ⟨h, 0, none⟩))) := (l1.cell (p := ⟨p, 0, none⟩) HP.out.blk.lt).trans cS) | (go_at_call 168; refine (CR.out w1 l1).mono ?_))
  rintro e w2 ⟨_, rfl, M2, x2, g2, g, rfl, bg, hg, nM, hB⟩
  have P2 : Hid (PgAt w2 p v) := (HP.out.later l1 HP.out.blk.lt).kept g2.kept HS.out.2
  have B2 : Hid (Blk w2 w.heap.size 150 (placeC r c pq ver)) := b1.kept g2.kept (fun e => by have := HX.out.1.all _ e; omega)
  have V2 : Hid (HostAt w2 M2 h (s.next.logged ⟨0, q, s.size, List.replicate 12 0⟩) ∧ Goes Mh M2 w w2 ∧ Blk w2 g 5 (u8s (agoL s q 0)) ∧ Bytes (agoL s q 0)) := ⟨x2, g2.later l1, bg, hB⟩
  clear x2 g2 bg hB b1 s1 l1 c1 cS nM hg
  go_wp2_with fail
  refine region_invP 7 ((.val (.pointer (some ⟨p, 0, none⟩))) :: (.val (.pointer (some ⟨p, 0, none⟩))) :: (.val (.pointer (some ⟨p, 1, none⟩))) :: (.val (.agg (u8s v.key).toArray)) :: (.val (.agg (placeC r c pq ver).toArray)) :: (.val (.slice (some ⟨g, 0, none⟩) s.size s.size)) :: (.any (isT w2.heap.size zs.length zs 0) (isT_later _ _ _ _)) :: []) (by kernel_rfl) (by kernel_rfl) (by kernel_rfl) [] ⟨.inl rfl, .inl rfl, .inl rfl, .inl rfl, .inl rfl, .inl rfl, .inl rfl, trivial⟩ (by kernel_rfl) ?_ ?_
  · refine Steps'.cons ?_ (Steps'.cons ?_ (Steps'.cons ?_ (Steps'.cons ?_ (Steps'.cons ?_ (Steps'.cons ?_ (Steps'.cons ?_ (Steps'.one _ _ _ _ _ _ _)))))))
    · intro ax wx hb hs hd
      have h0 : ax.tmps.getD 0 undef = (.pointer (some ⟨p, 0, none⟩)) := hs 0 (by kernel_rfl)
      refine Does.value (.pointer (some ⟨p, 0, none⟩)) ?_ rfl
      clear hs hd
      go_simp
    · intro ax wx hb hs hd
      have h22 : ax.tmps.getD 22 undef = (.pointer (some ⟨p, 0, none⟩)) := hd 0 22 rfl (by kernel_rfl) (by decide)
      refine Does.value (.pointer (some ⟨p, 0, none⟩)) ?_ rfl
      clear hs hd
      go_simp
    · intro ax wx hb hs hd
      have h23 : ax.tmps.getD 23 undef = (.pointer (some ⟨p, 0, none⟩)) := hd 1 23 rfl (by kernel_rfl) (by decide)
      refine Does.value (.pointer (some ⟨p, 1, none⟩)) ?_ rfl
      clear hs hd
      go_simp
    · intro ax wx hb hs hd
      have h24 : ax.tmps.getD 24 undef = (.pointer (some ⟨p, 1, none⟩)) := hd 2 24 rfl (by kernel_rfl) (by decide)
      have P3 := P2.out.later hb P2.out.blk.lt
      exact Does.load 41 (.tmp 24) rfl p 1 h24 (u8s v.key) _ P3.key Tryz.underlying41 rfl (by rw [u8s_length, P3.klen]; exact keySize)
    · intro ax wx hb hs hd
      have h5 : ax.tmps.getD 5 undef = (.pointer (some ⟨w.heap.size, 0, none⟩)) := hs 5 (by kernel_rfl)
      exact Does.load 150 (.tmp 5) rfl w.heap.size 0 h5 (placeC r c pq ver) _ ((B2.out.later hb B2.out.lt).allR) Tryz.underlying150 rfl pzKey
    · intro ax wx hb hs hd
      have h8 : ax.tmps.getD 8 undef = (.slice (some ⟨g, 0, none⟩) s.size s.size) := hs 8 (by kernel_rfl)
      refine Does.value (.slice (some ⟨g, 0, none⟩) s.size s.size) ?_ rfl
      clear hs hd
      go_simp
    · intro ax wx hb hs hd
      have h25 : ax.tmps.getD 25 undef = (.agg (u8s v.key).toArray) := hd 3 25 rfl (by kernel_rfl) (by decide)
      have h26 : ax.tmps.getD 26 undef = (.agg (placeC r c pq ver).toArray) := hd 4 26 rfl (by kernel_rfl) (by decide)
      have h27 : ax.tmps.getD 27 undef = (.slice (some ⟨g, 0, none⟩) s.size s.size) := hd 5 27 rfl (by kernel_rfl) (by decide)
      refine Does.call 79 #[(.agg (u8s v.key).toArray), (.agg (placeC r c pq ver).toArray), (.slice (some ⟨g, 0, none⟩) s.size s.size)] (by clear hs hd; go_simp) ?_
      have bx := V2.out.2.2.1.later hb V2.out.2.2.1.lt
      rw [HX.out.2.2.2.2.2.2.2.2] at bx
      have hB := V2.out.2.2.2
      rw [HX.out.2.2.2.2.2.2.2.2] at hB
      have P3 := P2.out
      have hl := HX.out.2.2.1
      have sn : Seen wx (some ⟨g, 0, none⟩) s.size (pageL v.key r c pq ver zs) := seen_page bx (by rw [pageL_length, hl]) hB (by have := HX.out.2.1; omega)
      refine (popen_good v.key r c pq ver _ s.size s.size _ P3.klen P3.kb HX.out.2.2.2.2.1 HX.out.2.2.2.2.2.1 HX.out.2.2.2.2.2.2.1 HX.out.2.2.2.2.2.2.2.1 wx sn (Nat.le_refl _) (opens_page _ _ _ _ _ HX.out.2.2.2.1 HX.out.2.1 HX.out.2.2.2.2.1 HX.out.2.2.2.2.2.1)).mono ?_
      rintro e w' ⟨u, rfl, o, l⟩
      rw [text_page _ _ _ _ _ HX.out.2.2.2.1, show s.size - 28 = zs.length by omega] at o
      exact ⟨_, rfl, ⟨u, rfl, ownsRow_base o hb.size⟩, l⟩
  · intro wx hb
    refine @EndsP.val _ _ _ _ _ _ _ _ (.pointer (some ⟨p, 0, none⟩)) rfl ?_
    refine @EndsP.val _ _ _ _ _ _ _ _ (.pointer (some ⟨p, 0, none⟩)) rfl ?_
    refine @EndsP.val _ _ _ _ _ _ _ _ (.pointer (some ⟨p, 1, none⟩)) rfl ?_
    refine @EndsP.val _ _ _ _ _ _ _ _ (.agg (u8s v.key).toArray) rfl ?_
    refine @EndsP.val _ _ _ _ _ _ _ _ (.agg (placeC r c pq ver).toArray) rfl ?_
    refine @EndsP.val _ _ _ _ _ _ _ _ (.slice (some ⟨g, 0, none⟩) s.size s.size) rfl ?_
    refine @EndsP.any _ _ _ _ _ _ _ _ (isT w2.heap.size zs.length zs 0) (isT_later _ _ _ _) rfl ?_
    intro v28 p28
    intro hD nf hn
    obtain ⟨u, rfl, ou⟩ := p28
    obtain ⟨mf, rfl⟩ : ∃ mf, nf = mf + 4 := ⟨nf - 4, by have h3 : 4 ≤ nf := hn; omega⟩
    clear hD hn
    simp only [Act.put, List.setIfInBounds_toArray, List.set_cons_zero, List.set_cons_succ]
    refine take_op 7 (some 29) u rfl rfl (by kernel_rfl) (by kernel_rfl) (by kernel_rfl) (fun _ _ _ h => h) (by rfl) (fun W' => by go_simp) ?_
    simp only [Act.put, List.setIfInBounds_toArray, List.set_cons_zero, List.set_cons_succ]
    refine take_op 8 (some 30) (.int .i64 0) rfl rfl (by kernel_rfl) (by kernel_rfl) (by kernel_rfl) (fun _ _ _ h => h) (by rfl) (fun W' => by go_simp) ?_
    simp only [Act.put, List.setIfInBounds_toArray, List.set_cons_zero, List.set_cons_succ]
    refine take_op 9 (some 6) u rfl rfl (by kernel_rfl) (by kernel_rfl) (by kernel_rfl) (fun _ _ _ h => h) (by rfl) (fun W' => by go_simp) ?_
    simp only [Act.put, List.setIfInBounds_toArray, List.set_cons_zero, List.set_cons_succ]
    refine take_op 10 (some 7) (.int .i64 0) rfl rfl (by kernel_rfl) (by kernel_rfl) (by kernel_rfl) (fun _ _ _ h => h) (by rfl) (fun W' => by go_simp) ?_
    simp only [Act.put, List.setIfInBounds_toArray, List.set_cons_zero, List.set_cons_succ]
    refine wpAny_done (by kernel_rfl) (NoPanic.normal ?_) _
    go_wp2
    go_ret2
    exact ⟨u, M2, w2.heap.size, rfl, V2.out.1.later hb, ⟨V2.out.2.1.sub, V2.out.2.1.new, V2.out.2.1.kept.trans (Kept.new Mh hb)⟩, ou, V2.out.2.1.kept.size, V2.out.1.all⟩
end Go.Proofs.YtfhieacclifihaaGreat
namespace Go.Proofs.YtfhieacclifihaaGreat
open Go.RowKit
set_option linter.unusedVariables false
set_option linter.unusedSimpArgs false

structure PgM (w : World) (p gh gp h : Nat) (v : PgV) (fh : Int → Option Value) (sz : Nat) (fp : Int → Option Value) (szp : Nat) (Mh : Nat → Prop) (s : HSt) : Prop where
  pa : PgAt w p v
  st : v.st = .iface 31 (.pointer (some ⟨h, 0, none⟩))
  he : v.held = .map (some gh)
  pe : v.places = .map (some gp)
  hm : MapV w gh fh sz
  pm : MapV w gp fp szp
  ho : HostAt w Mh h s
  d1 : ¬ Mh p ∧ ¬ Mh gh ∧ ¬ Mh gp
  d2 : gh ≠ gp
/-- What a pager may write. -/
def Ow (Mh : Nat → Prop) (p gh gp : Nat) (b : Nat) : Prop := b = p ∨ b = gh ∨ b = gp ∨ Mh b
theorem PgM.later {w w' : World} {p gh gp h : Nat} {v : PgV} {fh : Int → Option Value} {sz : Nat} {fp : Int → Option Value} {szp : Nat} {Mh : Nat → Prop} {s : HSt} (x : PgM w p gh gp h v fh sz fp szp Mh s) (hb : Below w.heap.size w w') : PgM w' p gh gp h v fh sz fp szp Mh s :=
  ⟨x.pa.later hb x.pa.blk.lt, x.st, x.he, x.pe, x.hm.later hb x.hm.lt, x.pm.later hb x.pm.lt, x.ho.later hb, x.d1, x.d2⟩
theorem PgM.all {w : World} {p gh gp h : Nat} {v : PgV} {fh : Int → Option Value} {sz : Nat} {fp : Int → Option Value} {szp : Nat} {Mh : Nat → Prop} {s : HSt} (x : PgM w p gh gp h v fh sz fp szp Mh s) : ∀ b, Ow Mh p gh gp b → b < w.heap.size := fun b hb => by
  rcases hb with rfl | rfl | rfl | hb
  · exact x.pa.blk.lt
  · exact x.hm.lt
  · exact x.pm.lt
  · exact x.ho.all b hb
theorem PgM.pne {w : World} {p gh gp h : Nat} {v : PgV} {fh : Int → Option Value} {sz : Nat} {fp : Int → Option Value} {szp : Nat} {Mh : Nat → Prop} {s : HSt} (x : PgM w p gh gp h v fh sz fp szp Mh s) : p ≠ gh ∧ p ≠ gp := ⟨x.hm.ne x.pa.blk, x.pm.ne x.pa.blk⟩
/-- The pager's own block is written. -/
theorem PgM.own {w w' : World} {p gh gp h : Nat} {v v' : PgV} {fh : Int → Option Value} {sz : Nat} {fp : Int → Option Value} {szp : Nat} {Mh : Nat → Prop} {s : HSt} (x : PgM w p gh gp h v fh sz fp szp Mh s) (hp : PgAt w' p v') (k : Kept (fun b => b = p) w w') (e1 : v'.st = v.st) (e2 : v'.held = v.held) (e3 : v'.places = v.places) : PgM w' p gh gp h v' fh sz fp szp Mh s :=
  ⟨hp, e1.trans x.st, e2.trans x.he, e3.trans x.pe, x.hm.kept k (fun e => x.pne.1 e.symm), x.pm.kept k (fun e => x.pne.2 e.symm), x.ho.frame (Same.kept k (fun b hb => ⟨x.ho.all b hb, fun e => x.d1.1 (e ▸ hb)⟩)), x.d1, x.d2⟩
/-- Other blocks are written. -/
theorem PgM.off {w w' : World} {p gh gp h : Nat} {v : PgV} {fh : Int → Option Value} {sz : Nat} {fp : Int → Option Value} {szp : Nat} {Mh S : Nat → Prop} {s : HSt} (x : PgM w p gh gp h v fh sz fp szp Mh s) (k : Kept S w w') (hS : ∀ b, S b → ¬ Ow Mh p gh gp b) : PgM w' p gh gp h v fh sz fp szp Mh s :=
  ⟨x.pa.kept k (fun e => hS _ e (.inl rfl)), x.st, x.he, x.pe, x.hm.kept k (fun e => hS _ e (.inr (.inl rfl))), x.pm.kept k (fun e => hS _ e (.inr (.inr (.inl rfl)))), x.ho.frame (Same.kept k (fun b hb => ⟨x.ho.all b hb, fun e => hS b e (.inr (.inr (.inr hb)))⟩)), x.d1, x.d2⟩
theorem PgM.heldT {w w' : World} {p gh gp h : Nat} {v : PgV} {fh fh' : Int → Option Value} {sz sz' : Nat} {fp : Int → Option Value} {szp : Nat} {Mh : Nat → Prop} {s : HSt} (x : PgM w p gh gp h v fh sz fp szp Mh s) (k : Kept (fun b => b = gh) w w') (m : MapV w' gh fh' sz') : PgM w' p gh gp h v fh' sz' fp szp Mh s :=
  ⟨x.pa.kept k (fun e => x.pne.1 e), x.st, x.he, x.pe, m, x.pm.kept k (fun e => x.d2 e.symm), x.ho.frame (Same.kept k (fun b hb => ⟨x.ho.all b hb, fun e => x.d1.2.1 (e ▸ hb)⟩)), x.d1, x.d2⟩
theorem PgM.placeT {w w' : World} {p gh gp h : Nat} {v : PgV} {fh : Int → Option Value} {sz : Nat} {fp fp' : Int → Option Value} {szp szp' : Nat} {Mh : Nat → Prop} {s : HSt} (x : PgM w p gh gp h v fh sz fp szp Mh s) (k : Kept (fun b => b = gp) w w') (m : MapV w' gp fp' szp') : PgM w' p gh gp h v fh sz fp' szp' Mh s :=
  ⟨x.pa.kept k (fun e => x.pne.2 e), x.st, x.he, x.pe, x.hm.kept k (fun e => x.d2 e), m, x.ho.frame (Same.kept k (fun b hb => ⟨x.ho.all b hb, fun e => x.d1.2.2 (e ▸ hb)⟩)), x.d1, x.d2⟩
/-- The host has done something. -/
theorem PgM.hosted {w w' : World} {p gh gp h : Nat} {v : PgV} {fh : Int → Option Value} {sz : Nat} {fp : Int → Option Value} {szp : Nat} {Mh M2 : Nat → Prop} {s s' : HSt} (x : PgM w p gh gp h v fh sz fp szp Mh s) (g : Goes Mh M2 w w') (ho : HostAt w' M2 h s') : PgM w' p gh gp h v fh sz fp szp M2 s' :=
  have nw : ∀ b, b < w.heap.size → ¬ Mh b → ¬ M2 b := fun b hb hn h2 => (g.new b h2).elim hn (fun e => by omega)
  ⟨x.pa.kept g.kept x.d1.1, x.st, x.he, x.pe, x.hm.kept g.kept x.d1.2.1, x.pm.kept g.kept x.d1.2.2, ho, ⟨nw _ x.pa.blk.lt x.d1.1, nw _ x.hm.lt x.d1.2.1, nw _ x.pm.lt x.d1.2.2⟩, x.d2⟩
theorem meth_write (q : Option Addr) (w : World) : (method 401 31 (.pointer q) "Write").run Tryz.prog w = .ok (171, .pointer q) w := by kernel_rfl
theorem zeroLeaf (w : World) : (zeroValue 141).run Tryz.prog w = .ok (.agg #[.slice none 0 0, .int .i64 0]) w := by kernel_rfl
theorem zeroPlace (w : World) : (zeroValue 150).run Tryz.prog w = .ok (.agg #[.int .u64 0, .int .u32 0, .int .u32 0, .int .u32 0]) w := by kernel_rfl
theorem wpList_mapU {ops : Array Oper} {rest : List Oper} {o : Oper} {a : Act} {Q : Exit → Act → World → Prop} {w : World} (hgd : o.guard = none) (t : TypeId) (m x y : Operand) (ho : o.op = .mapUpdate t m x y) (mv kv v : Value) (hm : a.eval m = mv) (hx : a.eval x = kv) (hy : a.eval y = v) (w' : World)
    (hr : (Instr.mapUpdate t mv kv v).run Tryz.prog w = .ok () w') (h : wpList Tryz.prog ops Q rest (a.put o.dst undef) w') : wpList Tryz.prog ops Q (o :: rest) a w := by
  refine wpList_plain hgd fun K hK => ?_
  unfold Oper.wp
  simp [execOp, ho, hm, hx, hy, hr, Result.andThen]
  exact hK _ _ h
theorem leaf0 (ao : Option Addr) (t c : Nat) (y : Value) (w : World) : (Instr.field 141 (.agg #[.slice ao t c, y]) 0).run Tryz.prog w = .ok (.slice ao t c) w := by kernel_rfl
theorem leaf1 (x : Value) (z : Int) (w : World) : (Instr.field 141 (.agg #[x, .int .i64 z]) 1).run Tryz.prog w = .ok (.int .i64 z) w := by kernel_rfl
theorem place3 (a b c z : Int) (w : World) : (Instr.field 150 (.agg #[.int .u64 a, .int .u32 b, .int .u32 c, .int .u32 z]) 3).run Tryz.prog w = .ok (.int .u32 z) w := by kernel_rfl
theorem i64_nat {q : Nat} (h : q ≤ 9223372036854775807) : I64 (q : Int) := ⟨by omega, by omega⟩
theorem Seen.off {w w' : World} {S : Nat → Prop} {ao : Option Addr} {n : Nat} {zs : List Int} (h : Seen w ao n zs) (k : Kept S w w') (hS : ∀ b o, ao = some ⟨b, o, none⟩ → ¬ S b) : Seen w' ao n zs :=
  ⟨h.len, h.top, h.bytes, fun h0 => by
    obtain ⟨b, o, e, hlt, hc⟩ := h.cells h0
    exact ⟨b, o, e, Nat.lt_of_lt_of_le hlt k.size, fun i hi => (World.cell?_of_block (w := w) (w' := w') (a := ⟨b, o + i, none⟩) (k.block b hlt (hS b o e))).trans (hc i hi)⟩⟩
end Go.Proofs.YtfhieacclifihaaGreat
namespace Go.Proofs.YtfhieacclifihaaGreat
open Go.RowKit
set_option linter.unusedVariables false
set_option linter.unusedSimpArgs false

theorem own_far {w : World} {B n : Nat} {xs : List Int} {uo : Option Addr} {uc : Nat} (h : isO B n xs (.slice uo n uc) w) (b o : Nat) (e : uo = some ⟨b, o, none⟩) : B ≤ b := by
  rcases h.2 with ⟨h1, _⟩ | ⟨g, cap, cur, h1, hg, _⟩
  · cases h1; cases e
  · cases h1; cases e; exact hg
set_option maxRecDepth 20000 in
set_option maxHeartbeats 4000000 in
theorem gwrite_any (p gh gp h q : Nat) (v : PgV) (fh : Int → Option Value) (sz : Nat) (fp : Int → Option Value) (szp : Nat) (Mh : Nat → Prop) (s : HSt) (ao : Option Addr) (t c : Nat) (l1 : Value) (zs : List Int) (r0 c0 p0 q0 : Int) (w : World)
    (x : PgM w p gh gp h v fh sz fp szp Mh s) (hn : Hn s) (hq : q < s.pages) (hq2 : q < 65536) (hops : s.ops < 3000000000000) (hz : s.size = t + 28) (ht : t ≤ 4096) (hfh : fh q = some (.agg #[.slice ao t c, l1])) (hs : Seen w ao t zs) (hc : t ≤ c)
    (hfp : (fp q).getD (.agg #[.int .u64 0, .int .u32 0, .int .u32 0, .int .u32 0]) = .agg #[.int .u64 r0, .int .u32 c0, .int .u32 p0, .int .u32 q0]) (hr : Word v.round) (hw : v.writes < 4294967295) (hsz : sz ≤ 1048576 ∧ szp ≤ 4294967296) :
    Calls Tryz.prog 74 #[.pointer (some ⟨p, 0, none⟩), .int .i64 (q : Int)] w fun e w' => e = .returned (.int .i64 0) ∧ ∃ M2 ver, U32 ver ∧ PgM w' p gh gp h { v with writes := v.writes + 1 } (updF fh q (.agg #[.slice ao t c, .int .i64 1])) sz (updF fp q (.agg (placeC v.round v.writes q ver).toArray)) (if (fp q).isSome then szp else szp + 1) M2 ((s.next.wrote q (pageL v.key v.round v.writes q ver zs)).logged ⟨1, q, s.size, headL (pageL v.key v.round v.writes q ver zs)⟩) ∧ Kept (Ow Mh p gh gp) w w' ∧ (∀ k, Mh k → M2 k) ∧ ∀ k, M2 k → Mh k ∨ w.heap.size ≤ k := by
  obtain ⟨szq, hzq⟩ : ∃ z, (if (fp q).isSome then szp else szp + 1) = z := ⟨_, rfl⟩
  have HZQ : Hid ((if (fp q).isSome then szp else szp + 1) = szq) := hzq
  rw [hzq]
  clear hzq
  obtain ⟨ver, hver⟩ : ∃ ver, IntKind.u32.wrap (q0 + 1) = ver := ⟨_, rfl⟩
  have HV : Hid (IntKind.u32.wrap (q0 + 1) = ver ∧ U32 ver) := ⟨hver, by rw [← hver]; simp only [IntKind.wrap, IntKind.bits, IntKind.signed, U32]; constructor <;> (simp; omega)⟩
  have HQ : Hid (q < 65536 ∧ IntKind.u32.wrap (q : Int) = (q : Int)) := ⟨hq2, by simp [IntKind.wrap, IntKind.bits, IntKind.signed]; omega⟩
  have HQ3 : Hid (q < s.pages ∧ s.size = t + 28 ∧ s.ops < 3000000000000) := ⟨hq, hz, hops⟩
  have X0 : Hid (PgM w p gh gp h v fh sz fp szp Mh s) := x
  have HT : Hid (Seen w ao t zs ∧ t ≤ c ∧ t ≤ 4096) := ⟨hs, hc, ht⟩
  have HF : Hid ((fp q).getD (.agg #[.int .u64 0, .int .u32 0, .int .u32 0, .int .u32 0]) = .agg #[.int .u64 r0, .int .u32 c0, .int .u32 p0, .int .u32 q0]) := hfp
  have HR : Hid (Word v.round ∧ U32 (v.writes : Int)) := ⟨hr, ⟨by omega, by omega⟩⟩
  have HW : Hid (v.writes < 4294967295 ∧ IntKind.u32.wrap ((v.writes : Int) + 1) = ((v.writes + 1 : Nat) : Int)) := ⟨hw, by simp [IntKind.wrap, IntKind.bits, IntKind.signed]; omega⟩
  have HZ : Hid (sz ≤ 1048576 ∧ szp ≤ 4294967296) := hsz
  have HH : Hid ((if (fh q).isSome then sz else sz + 1) = sz) := by rw [hfh]; rfl
  have HN : Hid (Hn s) := hn
  have cW : w.cell? ⟨p, 41, none⟩ = some (.int .u32 (v.writes : Int)) := x.pa.cell 8 _ rfl
  have cH : w.cell? ⟨p, 37, none⟩ = some (.map (some gh)) := x.pa.cell 4 _ (by rw [← x.he]; rfl)
  have hL : (Instr.lookup 112 (.map (some gh)) (.int .i64 (q : Int)) false).run Tryz.prog w = .ok (.agg #[.slice ao t c, l1]) w := by
    have := x.hm.look (t := 112) Tryz.underlying112 (zeroLeaf w) (k := (q : Int)) (i64_nat (by omega))
    rw [hfh] at this
    exact this
  have hF0 := leaf0 ao t c l1 w
  have hwE : ((v.writes : Int) == 4294967295) = false := by simp; omega
  clear x hn hq hq2 hops hz ht hfh hs hc hfp hr hsz hver
  go_enter Tryz.func74, Tryz.ntmps74
  go_wp2_with fail
  clear cW cH hL hwE hw hF0
  refine region_invT [.val (.pointer (some ⟨p, 0, none⟩)), .val (.pointer (some ⟨p, 0, none⟩)), .val (.pointer (some ⟨p, 33, none⟩)), .val (.int .u64 v.round), .val (.pointer (some ⟨p, 0, none⟩)), .val (.pointer (some ⟨p, 0, none⟩)), .val (.pointer (some ⟨p, 41, none⟩)), .val (.int .u32 (v.writes : Int)), .val (.int .i64 (q : Int)), .val (.int .u32 (q : Int)), .val (.pointer (some ⟨p, 0, none⟩)), .val (.pointer (some ⟨p, 0, none⟩)), .val (.pointer (some ⟨p, 39, none⟩)), .val (.map (some gp)), .val (.int .i64 (q : Int)), .val (.agg #[.int .u64 r0, .int .u32 c0, .int .u32 p0, .int .u32 q0]), .val (.int .u32 q0), .val (.int .u32 ver), .val (.agg (placeC v.round v.writes q ver).toArray), .blk 150 (placeC 0 0 0 0)] (by kernel_rfl) (by kernel_rfl) (by kernel_rfl) ?_ ?_
  · refine Steps'.cons ?_ (Steps'.cons ?_ (Steps'.cons ?_ (Steps'.cons ?_ (Steps'.cons ?_ (Steps'.cons ?_ (Steps'.cons ?_ (Steps'.cons ?_ (Steps'.cons ?_ (Steps'.cons ?_ (Steps'.cons ?_ (Steps'.cons ?_ (Steps'.cons ?_ (Steps'.cons ?_ (Steps'.cons ?_ (Steps'.cons ?_ (Steps'.cons ?_ (Steps'.cons ?_ (Steps'.cons ?_ (Steps'.cons ?_ (Steps'.one _ _ _ _ _ _ _))))))))))))))))))))
    · intro ax wx hb hs hd
      have h0 : ax.tmps.getD 0 undef = (.pointer (some ⟨p, 0, none⟩)) := hs 0 (by kernel_rfl)
      refine Does.value (.pointer (some ⟨p, 0, none⟩)) ?_ rfl
      clear hs hd
      go_simp
    · intro ax wx hb hs hd
      have h22 : ax.tmps.getD 22 undef = (.pointer (some ⟨p, 0, none⟩)) := hd 0 22 rfl (by kernel_rfl) (by decide)
      refine Does.value (.pointer (some ⟨p, 0, none⟩)) ?_ rfl
      clear hs hd
      go_simp
    · intro ax wx hb hs hd
      have h23 : ax.tmps.getD 23 undef = (.pointer (some ⟨p, 0, none⟩)) := hd 1 23 rfl (by kernel_rfl) (by decide)
      refine Does.value (.pointer (some ⟨p, 33, none⟩)) ?_ rfl
      clear hs hd
      go_simp
    · intro ax wx hb hs hd
      have h24 : ax.tmps.getD 24 undef = (.pointer (some ⟨p, 33, none⟩)) := hd 2 24 rfl (by kernel_rfl) (by decide)
      have c0 : wx.cell? ⟨p, 33, none⟩ = some (.int .u64 v.round) := (X0.out.later hb).pa.cell 0 _ rfl
      refine Does.value (.int .u64 v.round) ?_ rfl
      clear hs hd
      go_simp
    · intro ax wx hb hs hd
      have h0 : ax.tmps.getD 0 undef = (.pointer (some ⟨p, 0, none⟩)) := hs 0 (by kernel_rfl)
      refine Does.value (.pointer (some ⟨p, 0, none⟩)) ?_ rfl
      clear hs hd
      go_simp
    · intro ax wx hb hs hd
      have h26 : ax.tmps.getD 26 undef = (.pointer (some ⟨p, 0, none⟩)) := hd 4 26 rfl (by kernel_rfl) (by decide)
      refine Does.value (.pointer (some ⟨p, 0, none⟩)) ?_ rfl
      clear hs hd
      go_simp
    · intro ax wx hb hs hd
      have h27 : ax.tmps.getD 27 undef = (.pointer (some ⟨p, 0, none⟩)) := hd 5 27 rfl (by kernel_rfl) (by decide)
      refine Does.value (.pointer (some ⟨p, 41, none⟩)) ?_ rfl
      clear hs hd
      go_simp
    · intro ax wx hb hs hd
      have h28 : ax.tmps.getD 28 undef = (.pointer (some ⟨p, 41, none⟩)) := hd 6 28 rfl (by kernel_rfl) (by decide)
      have c0 : wx.cell? ⟨p, 41, none⟩ = some (.int .u32 (v.writes : Int)) := (X0.out.later hb).pa.cell 8 _ rfl
      refine Does.value (.int .u32 (v.writes : Int)) ?_ rfl
      clear hs hd
      go_simp
    · intro ax wx hb hs hd
      have h1 : ax.tmps.getD 1 undef = (.int .i64 (q : Int)) := hs 1 (by kernel_rfl)
      refine Does.value (.int .i64 (q : Int)) ?_ rfl
      clear hs hd
      go_simp
    · intro ax wx hb hs hd
      have h30 : ax.tmps.getD 30 undef = (.int .i64 (q : Int)) := hd 8 30 rfl (by kernel_rfl) (by decide)
      have hwr := HQ.out.2
      refine Does.value (.int .u32 (q : Int)) ?_ rfl
      clear hs hd
      go_simp
    · intro ax wx hb hs hd
      have h0 : ax.tmps.getD 0 undef = (.pointer (some ⟨p, 0, none⟩)) := hs 0 (by kernel_rfl)
      refine Does.value (.pointer (some ⟨p, 0, none⟩)) ?_ rfl
      clear hs hd
      go_simp
    · intro ax wx hb hs hd
      have h32 : ax.tmps.getD 32 undef = (.pointer (some ⟨p, 0, none⟩)) := hd 10 32 rfl (by kernel_rfl) (by decide)
      refine Does.value (.pointer (some ⟨p, 0, none⟩)) ?_ rfl
      clear hs hd
      go_simp
    · intro ax wx hb hs hd
      have h33 : ax.tmps.getD 33 undef = (.pointer (some ⟨p, 0, none⟩)) := hd 11 33 rfl (by kernel_rfl) (by decide)
      refine Does.value (.pointer (some ⟨p, 39, none⟩)) ?_ rfl
      clear hs hd
      go_simp
    · intro ax wx hb hs hd
      have h34 : ax.tmps.getD 34 undef = (.pointer (some ⟨p, 39, none⟩)) := hd 12 34 rfl (by kernel_rfl) (by decide)
      have c0 : wx.cell? ⟨p, 39, none⟩ = some (.map (some gp)) := (X0.out.later hb).pa.cell 6 _ (by rw [← X0.out.pe]; rfl)
      refine Does.value (.map (some gp)) ?_ rfl
      clear hs hd
      go_simp
    · intro ax wx hb hs hd
      have h1 : ax.tmps.getD 1 undef = (.int .i64 (q : Int)) := hs 1 (by kernel_rfl)
      refine Does.value (.int .i64 (q : Int)) ?_ rfl
      clear hs hd
      go_simp
    · intro ax wx hb hs hd
      have h35 : ax.tmps.getD 35 undef = (.map (some gp)) := hd 13 35 rfl (by kernel_rfl) (by decide)
      have h36 : ax.tmps.getD 36 undef = (.int .i64 (q : Int)) := hd 14 36 rfl (by kernel_rfl) (by decide)
      have hL := (X0.out.later hb).pm.look (t := 113) Tryz.underlying113 (zeroPlace wx) (k := (q : Int)) (i64_nat (by have := HQ.out.1; omega))
      rw [HF.out] at hL
      refine Does.value (.agg #[.int .u64 r0, .int .u32 c0, .int .u32 p0, .int .u32 q0]) ?_ rfl
      clear hs hd
      go_simp
    · intro ax wx hb hs hd
      have h37 : ax.tmps.getD 37 undef = (.agg #[.int .u64 r0, .int .u32 c0, .int .u32 p0, .int .u32 q0]) := hd 15 37 rfl (by kernel_rfl) (by decide)
      have hP3 := place3 r0 c0 p0 q0 wx
      refine Does.value (.int .u32 q0) ?_ rfl
      clear hs hd
      go_simp
    · intro ax wx hb hs hd
      have h38 : ax.tmps.getD 38 undef = (.int .u32 q0) := hd 16 38 rfl (by kernel_rfl) (by decide)
      have hv := HV.out.1
      refine Does.value (.int .u32 ver) ?_ rfl
      clear hs hd
      go_simp
    · intro ax wx hb hs hd
      have h25 : ax.tmps.getD 25 undef = (.int .u64 v.round) := hd 3 25 rfl (by kernel_rfl) (by decide)
      have h29 : ax.tmps.getD 29 undef = (.int .u32 (v.writes : Int)) := hd 7 29 rfl (by kernel_rfl) (by decide)
      have h31 : ax.tmps.getD 31 undef = (.int .u32 (q : Int)) := hd 9 31 rfl (by kernel_rfl) (by decide)
      have h39 : ax.tmps.getD 39 undef = (.int .u32 ver) := hd 17 39 rfl (by kernel_rfl) (by decide)
      refine Does.build 150 _ rfl #[(0, .int .u64 v.round), (1, .int .u32 (v.writes : Int)), (2, .int .u32 (q : Int)), (3, .int .u32 ver)] ?_ _ (pbuild _ _ _ _ wx)
      simp only [List.map_toArray, List.map_cons, List.map_nil, Act.eval, h25, h29, h31, h39]
    · intro ax wx hb hs hd
      exact Does.alloc 150 rfl 4 _ pzPlace hb.size
  · intro wx hb
    refine @Ends.val _ _ _ _ _ _ _ _ _ (.pointer (some ⟨p, 0, none⟩)) rfl ?_
    refine @Ends.val _ _ _ _ _ _ _ _ _ (.pointer (some ⟨p, 0, none⟩)) rfl ?_
    refine @Ends.val _ _ _ _ _ _ _ _ _ (.pointer (some ⟨p, 33, none⟩)) rfl ?_
    refine @Ends.val _ _ _ _ _ _ _ _ _ (.int .u64 v.round) rfl ?_
    refine @Ends.val _ _ _ _ _ _ _ _ _ (.pointer (some ⟨p, 0, none⟩)) rfl ?_
    refine @Ends.val _ _ _ _ _ _ _ _ _ (.pointer (some ⟨p, 0, none⟩)) rfl ?_
    refine @Ends.val _ _ _ _ _ _ _ _ _ (.pointer (some ⟨p, 41, none⟩)) rfl ?_
    refine @Ends.val _ _ _ _ _ _ _ _ _ (.int .u32 (v.writes : Int)) rfl ?_
    refine @Ends.val _ _ _ _ _ _ _ _ _ (.int .i64 (q : Int)) rfl ?_
    refine @Ends.val _ _ _ _ _ _ _ _ _ (.int .u32 (q : Int)) rfl ?_
    refine @Ends.val _ _ _ _ _ _ _ _ _ (.pointer (some ⟨p, 0, none⟩)) rfl ?_
    refine @Ends.val _ _ _ _ _ _ _ _ _ (.pointer (some ⟨p, 0, none⟩)) rfl ?_
    refine @Ends.val _ _ _ _ _ _ _ _ _ (.pointer (some ⟨p, 39, none⟩)) rfl ?_
    refine @Ends.val _ _ _ _ _ _ _ _ _ (.map (some gp)) rfl ?_
    refine @Ends.val _ _ _ _ _ _ _ _ _ (.int .i64 (q : Int)) rfl ?_
    refine @Ends.val _ _ _ _ _ _ _ _ _ (.agg #[.int .u64 r0, .int .u32 c0, .int .u32 p0, .int .u32 q0]) rfl ?_
    refine @Ends.val _ _ _ _ _ _ _ _ _ (.int .u32 q0) rfl ?_
    refine @Ends.val _ _ _ _ _ _ _ _ _ (.int .u32 ver) rfl ?_
    refine @Ends.val _ _ _ _ _ _ _ _ _ (.agg (placeC v.round v.writes q ver).toArray) rfl ?_
    refine @Ends.blk _ _ _ _ _ _ _ _ _ 150 (placeC 0 0 0 0) rfl ?_
    intro g6 hg6 bg6
    refine @Ends.one _ _ _ _ _ _ _ ?_
    simp only [Act.put, List.setIfInBounds_toArray, List.set_cons_zero, List.set_cons_succ]
    refine last_store 150 (.tmp 6) (.tmp 40) rfl rfl g6 rfl 150 _ (placeC v.round v.writes q ver) rfl bg6 rfl pzKey (placeC_one _ _ _ _) ?_
    intro w1 b1 s1 k1
    have L1 : Hid (Below w.heap.size w w1) := below_kept hb k1 (by have := hb.size; omega) (fun j hj => by omega)
    have X1 : Hid (PgM w1 p gh gp h v fh sz fp szp Mh s) := X0.out.later L1.out
    have T1 : Hid (Seen w1 ao t zs) := HT.out.1.later L1.out (Nat.le_refl _)
    have B1 : Hid (Blk w1 g6 150 (placeC v.round v.writes q ver) ∧ w.heap.size ≤ g6) := ⟨b1, hg6⟩
    clear b1 s1 k1
    go_wp2_with fail
    refine region_invP 8 ((.val (.pointer (some ⟨p, 0, none⟩))) :: (.val (.pointer (some ⟨p, 0, none⟩))) :: (.val (.pointer (some ⟨p, 1, none⟩))) :: (.val (.agg (u8s v.key).toArray)) :: (.val (.agg (placeC v.round v.writes q ver).toArray)) :: (.val (.slice ao t c)) :: (.any (isT w1.heap.size (t + 28) (pageL v.key v.round v.writes q ver zs) 0) (isT_later _ _ _ _)) :: (.any (isT w1.heap.size (t + 28) (pageL v.key v.round v.writes q ver zs) 0) (isT_later _ _ _ _)) :: []) (by kernel_rfl) (by kernel_rfl) (by kernel_rfl) [] ⟨.inl rfl, .inl rfl, .inl rfl, .inl rfl, .inl rfl, .inl rfl, .inl rfl, .inl rfl, trivial⟩ (by kernel_rfl) ?_ ?_
    · refine Steps'.cons ?_ (Steps'.cons ?_ (Steps'.cons ?_ (Steps'.cons ?_ (Steps'.cons ?_ (Steps'.cons ?_ (Steps'.cons ?_ (Steps'.cons ?_ (Steps'.one _ _ _ _ _ _ _))))))))
      · intro ax wx hb hs hd
        have h0 : ax.tmps.getD 0 undef = (.pointer (some ⟨p, 0, none⟩)) := hs 0 (by kernel_rfl)
        refine Does.value (.pointer (some ⟨p, 0, none⟩)) ?_ rfl
        clear hs hd
        go_simp
      · intro ax wx hb hs hd
        have h42 : ax.tmps.getD 42 undef = (.pointer (some ⟨p, 0, none⟩)) := hd 0 42 rfl (by kernel_rfl) (by decide)
        refine Does.value (.pointer (some ⟨p, 0, none⟩)) ?_ rfl
        clear hs hd
        go_simp
      · intro ax wx hb hs hd
        have h43 : ax.tmps.getD 43 undef = (.pointer (some ⟨p, 0, none⟩)) := hd 1 43 rfl (by kernel_rfl) (by decide)
        refine Does.value (.pointer (some ⟨p, 1, none⟩)) ?_ rfl
        clear hs hd
        go_simp
      · intro ax wx hb hs hd
        have h44 : ax.tmps.getD 44 undef = (.pointer (some ⟨p, 1, none⟩)) := hd 2 44 rfl (by kernel_rfl) (by decide)
        have P3 := (X1.out.later hb).pa
        exact Does.load 41 (.tmp 44) rfl p 1 h44 (u8s v.key) _ P3.key Tryz.underlying41 rfl (by rw [u8s_length, P3.klen]; exact keySize)
      · intro ax wx hb hs hd
        have h6 : ax.tmps.getD 6 undef = (.pointer (some ⟨g6, 0, none⟩)) := hs 6 (by kernel_rfl)
        exact Does.load 150 (.tmp 6) rfl g6 0 h6 (placeC v.round v.writes q ver) _ ((B1.out.1.later hb B1.out.1.lt).allR) Tryz.underlying150 rfl pzKey
      · intro ax wx hb hs hd
        have h5 : ax.tmps.getD 5 undef = (.slice ao t c) := hs 5 (by kernel_rfl)
        refine Does.value (.slice ao t c) ?_ rfl
        clear hs hd
        go_simp
      · intro ax wx hb hs hd
        have h45 : ax.tmps.getD 45 undef = (.agg (u8s v.key).toArray) := hd 3 45 rfl (by kernel_rfl) (by decide)
        have h46 : ax.tmps.getD 46 undef = (.agg (placeC v.round v.writes q ver).toArray) := hd 4 46 rfl (by kernel_rfl) (by decide)
        have h47 : ax.tmps.getD 47 undef = (.slice ao t c) := hd 5 47 rfl (by kernel_rfl) (by decide)
        refine Does.call 78 #[(.agg (u8s v.key).toArray), (.agg (placeC v.round v.writes q ver).toArray), (.slice ao t c)] (by clear hs hd; go_simp) ?_
        refine (pseal_any v.key v.round v.writes q ver ao t c zs X1.out.pa.klen X1.out.pa.kb HR.out.1 HR.out.2 ⟨by omega, by have := HQ.out.1; omega⟩ HV.out.2 HT.out.2.2 wx (T1.out.later hb (Nat.le_refl _)) HT.out.2.1).mono ?_
        rintro e w' ⟨u, rfl, o, l⟩
        exact ⟨_, rfl, ⟨u, rfl, ownsRow_base o hb.size⟩, l⟩
      · intro ax wx hb hs hd
        have p48 : (isT w1.heap.size (t + 28) (pageL v.key v.round v.writes q ver zs) 0) (ax.tmps.getD 48 undef) wx := hd 6 48 rfl (by kernel_rfl) (by decide)
        exact Does.value (ax.tmps.getD 48 undef) (by clear hs hd p48; go_simp) p48
    · intro wx hb
      refine @EndsP.val _ _ _ _ _ _ _ _ (.pointer (some ⟨p, 0, none⟩)) rfl ?_
      refine @EndsP.val _ _ _ _ _ _ _ _ (.pointer (some ⟨p, 0, none⟩)) rfl ?_
      refine @EndsP.val _ _ _ _ _ _ _ _ (.pointer (some ⟨p, 1, none⟩)) rfl ?_
      refine @EndsP.val _ _ _ _ _ _ _ _ (.agg (u8s v.key).toArray) rfl ?_
      refine @EndsP.val _ _ _ _ _ _ _ _ (.agg (placeC v.round v.writes q ver).toArray) rfl ?_
      refine @EndsP.val _ _ _ _ _ _ _ _ (.slice ao t c) rfl ?_
      refine @EndsP.any _ _ _ _ _ _ _ _ (isT w1.heap.size (t + 28) (pageL v.key v.round v.writes q ver zs) 0) (isT_later _ _ _ _) rfl ?_
      intro v48 p48
      refine @EndsP.any _ _ _ _ _ _ _ _ (isT w1.heap.size (t + 28) (pageL v.key v.round v.writes q ver zs) 0) (isT_later _ _ _ _) rfl ?_
      intro v41 p41
      intro hD nf hn
      obtain ⟨_, rfl, ou⟩ := p41
      obtain ⟨uo, uc, rfl, su, huc, -⟩ := pown_sl (by rw [pageL_length, HT.out.1.len]) (pageL_bytes _ _ _ _ _ HT.out.1.bytes) (by have := HT.out.2.2; omega) ou
      have hfr : Hid (∀ b o, uo = some ⟨b, o, none⟩ → w1.heap.size ≤ b) := fun b o e => own_far ou b o e
      obtain ⟨mf, rfl⟩ : ∃ mf, nf = mf + 4 := ⟨nf - 4, by have h3 : 4 ≤ nf := hn; omega⟩
      clear hD hn
      simp only [Act.put, List.setIfInBounds_toArray, List.set_cons_zero, List.set_cons_succ]
      refine take_op 8 (some 49) (.slice uo (t + 28) uc) rfl rfl (by kernel_rfl) (by kernel_rfl) (by kernel_rfl) (fun _ _ _ h => h) (by rfl) (fun W' => by go_simp) ?_
      simp only [Act.put, List.setIfInBounds_toArray, List.set_cons_zero, List.set_cons_succ]
      refine take_op 9 (some 50) (.int .i64 0) rfl rfl (by kernel_rfl) (by kernel_rfl) (by kernel_rfl) (fun _ _ _ h => h) (by rfl) (fun W' => by go_simp) ?_
      simp only [Act.put, List.setIfInBounds_toArray, List.set_cons_zero, List.set_cons_succ]
      refine take_op 10 (some 7) (.slice uo (t + 28) uc) rfl rfl (by kernel_rfl) (by kernel_rfl) (by kernel_rfl) (fun _ _ _ h => h) (by rfl) (fun W' => by go_simp) ?_
      simp only [Act.put, List.setIfInBounds_toArray, List.set_cons_zero, List.set_cons_succ]
      refine take_op 11 (some 8) (.int .i64 0) rfl rfl (by kernel_rfl) (by kernel_rfl) (by kernel_rfl) (fun _ _ _ h => h) (by rfl) (fun W' => by go_simp) ?_
      simp only [Act.put, List.setIfInBounds_toArray, List.set_cons_zero, List.set_cons_succ]
      refine wpAny_done (by kernel_rfl) (NoPanic.normal ?_) _
      have su' := su
      have CW := write_good h s q HQ3.out.1 uo (t + 28) uc (pageL v.key v.round v.writes q ver zs) HQ3.out.2.1.symm Mh wx (X1.out.later hb).ho su (fun b o _ e hM => by have h1 := hfr.out b o e; have h2 := X1.out.ho.all b hM; omega) HQ3.out.2.2
      rw [HN.out.opE, HN.out.opS] at CW
      have HCW : Hid (Calls Tryz.prog 171 #[.pointer (some ⟨h, 0, none⟩), .int .i64 (q : Int), .slice uo (t + 28) uc] wx fun e w' => e = .returned (.int .i64 0) ∧ ∃ M2, HostAt w' M2 h ((s.next.wrote q (pageL v.key v.round v.writes q ver zs)).logged ⟨1, q, s.size, headL (pageL v.key v.round v.writes q ver zs)⟩) ∧ Goes Mh M2 wx w') := CW
      have X2 : Hid (PgM wx p gh gp h v fh sz fp szp Mh s ∧ Blk wx g6 150 (placeC v.round v.writes q ver)) := ⟨X1.out.later hb, B1.out.1.later hb B1.out.1.lt⟩
      have L2 : Hid (Below w.heap.size w wx) := below_chain L1.out hb L1.out.size
      have c2 : wx.cell? ⟨p, 0, none⟩ = some (.iface 31 (.pointer (some ⟨h, 0, none⟩))) := by rw [X2.out.1.pa.blk.cell]; show some v.st = _; rw [X2.out.1.st]
      have hmW : ∀ W, (method 401 31 (.pointer (some ⟨h, 0, none⟩)) "Write").run Tryz.prog W = .ok (171, .pointer (some ⟨h, 0, none⟩)) W := meth_write _
      clear CW su su' ou
      go_wp2_with (go_at_call 171; refine HCW.out.mono ?_)
      rintro e w4 ⟨rfl, M2, h4, g4⟩
      have X4 : Hid (PgM w4 p gh gp h v fh sz fp szp M2 ((s.next.wrote q (pageL v.key v.round v.writes q ver zs)).logged ⟨1, q, s.size, headL (pageL v.key v.round v.writes q ver zs)⟩)) := X2.out.1.hosted g4 h4
      obtain ⟨S5, hS5⟩ : ∃ S5, (s.next.wrote q (pageL v.key v.round v.writes q ver zs)).logged ⟨1, q, s.size, headL (pageL v.key v.round v.writes q ver zs)⟩ = S5 := ⟨_, rfl⟩
      rw [hS5] at X4
      have HS5 : Hid ((s.next.wrote q (pageL v.key v.round v.writes q ver zs)).logged ⟨1, q, s.size, headL (pageL v.key v.round v.writes q ver zs)⟩ = S5) := hS5
      clear hS5 h4 c2
      have B4 : Hid (Blk w4 g6 150 (placeC v.round v.writes q ver) ∧ ¬ Mh g6 ∧ g6 ≠ p) := ⟨X2.out.2.kept g4.kept (fun e => by have := X0.out.ho.all _ e; have := B1.out.2; omega), fun e => by have := X0.out.ho.all _ e; have := B1.out.2; omega, fun e => by have := X0.out.pa.blk.lt; have := B1.out.2; omega⟩
      have K4 : Hid (Kept (Ow Mh p gh gp) w w4) := (Kept.new _ L2.out).trans (g4.kept.mono (fun b e => .inr (.inr (.inr e))))
      have G5 : Hid ((∀ k, Mh k → M2 k) ∧ ∀ k, M2 k → Mh k ∨ w.heap.size ≤ k) := ⟨g4.sub, fun k hk => (g4.new k hk).imp id (fun e => Nat.le_trans L2.out.size e)⟩
      clear g4
      have c4 : w4.cell? ⟨p, 41, none⟩ = some (.int .u32 (v.writes : Int)) := X4.out.pa.cell 8 _ rfl
      have f4 := X4.out.pa.blk.frozen 41
      have hww := HW.out.2
      have X5 : Hid (PgM (w4.setCell ⟨p, 41, none⟩ (.int .u32 ((v.writes + 1 : Nat) : Int))) p gh gp h { v with writes := v.writes + 1 } fh sz fp szp M2 S5) := X4.out.own (X4.out.pa.put 8 _ rfl rfl rfl) ((Kept.refl (fun b => b = p) w4).setCell (p := ⟨p, 41, none⟩) rfl _) rfl rfl rfl
      have K5 : Hid (Kept (Ow Mh p gh gp) w (w4.setCell ⟨p, 41, none⟩ (.int .u32 ((v.writes + 1 : Nat) : Int)))) := K4.out.setCell (.inl rfl) _
      have B5 : Hid (Blk (w4.setCell ⟨p, 41, none⟩ (.int .u32 ((v.writes + 1 : Nat) : Int))) g6 150 (placeC v.round v.writes q ver)) := B4.out.1.kept ((Kept.refl (fun b => b = p) w4).setCell (p := ⟨p, 41, none⟩) rfl _) (fun e => B4.out.2.2 e)
      go_wp2_with fail
      clear c4 f4 hww
      obtain ⟨w5, hw5⟩ : ∃ w5, w4.setCell ⟨p, 41, none⟩ (.int .u32 ((v.writes : Int) + 1)) = w5 := ⟨_, rfl⟩
      have ec : ((v.writes + 1 : Nat) : Int) = (v.writes : Int) + 1 := by omega
      rw [ec, hw5] at X5 K5 B5
      rw [hw5]
      clear hw5 ec
      refine region_inv [.val (.pointer (some ⟨p, 0, none⟩)), .val (.pointer (some ⟨p, 0, none⟩)), .val (.pointer (some ⟨p, 39, none⟩)), .val (.map (some gp)), .val (.int .i64 (q : Int)), .val (.agg (placeC v.round v.writes q ver).toArray)] (by kernel_rfl) (by kernel_rfl) (by kernel_rfl) ?_ ?_
      · refine Steps'.cons ?_ (Steps'.cons ?_ (Steps'.cons ?_ (Steps'.cons ?_ (Steps'.cons ?_ (Steps'.cons ?_ (Steps'.one _ _ _ _ _ _ _))))))
        · intro ax wx hb hs hd
          have h0 : ax.tmps.getD 0 undef = (.pointer (some ⟨p, 0, none⟩)) := hs 0 (by kernel_rfl)
          refine Does.value (.pointer (some ⟨p, 0, none⟩)) ?_ rfl
          clear hs hd
          go_simp
        · intro ax wx hb hs hd
          have h71 : ax.tmps.getD 71 undef = (.pointer (some ⟨p, 0, none⟩)) := hd 0 71 rfl (by kernel_rfl) (by decide)
          refine Does.value (.pointer (some ⟨p, 0, none⟩)) ?_ rfl
          clear hs hd
          go_simp
        · intro ax wx hb hs hd
          have h72 : ax.tmps.getD 72 undef = (.pointer (some ⟨p, 0, none⟩)) := hd 1 72 rfl (by kernel_rfl) (by decide)
          refine Does.value (.pointer (some ⟨p, 39, none⟩)) ?_ rfl
          clear hs hd
          go_simp
        · intro ax wx hb hs hd
          have h73 : ax.tmps.getD 73 undef = (.pointer (some ⟨p, 39, none⟩)) := hd 2 73 rfl (by kernel_rfl) (by decide)
          have c0 : wx.cell? ⟨p, 39, none⟩ = some (.map (some gp)) := (X5.out.later hb).pa.cell 6 _ (by rw [← X5.out.pe]; rfl)
          refine Does.value (.map (some gp)) ?_ rfl
          clear hs hd
          go_simp
        · intro ax wx hb hs hd
          have h1 : ax.tmps.getD 1 undef = (.int .i64 (q : Int)) := hs 1 (by kernel_rfl)
          refine Does.value (.int .i64 (q : Int)) ?_ rfl
          clear hs hd
          go_simp
        · intro ax wx hb hs hd
          have h6 : ax.tmps.getD 6 undef = (.pointer (some ⟨g6, 0, none⟩)) := hs 6 (by kernel_rfl)
          exact Does.load 150 (.tmp 6) rfl g6 0 h6 (placeC v.round v.writes q ver) _ ((B5.out.later hb B5.out.lt).allR) Tryz.underlying150 rfl pzKey
      · intro wx hb
        refine @Ends.val _ _ _ _ _ _ _ _ _ (.pointer (some ⟨p, 0, none⟩)) rfl ?_
        refine @Ends.val _ _ _ _ _ _ _ _ _ (.pointer (some ⟨p, 0, none⟩)) rfl ?_
        refine @Ends.val _ _ _ _ _ _ _ _ _ (.pointer (some ⟨p, 39, none⟩)) rfl ?_
        refine @Ends.val _ _ _ _ _ _ _ _ _ (.map (some gp)) rfl ?_
        refine @Ends.val _ _ _ _ _ _ _ _ _ (.int .i64 (q : Int)) rfl ?_
        refine @Ends.val _ _ _ _ _ _ _ _ _ (.agg (placeC v.round v.writes q ver).toArray) rfl ?_
        refine @Ends.one _ _ _ _ _ _ _ ?_
        simp only [Act.put, List.setIfInBounds_toArray, List.set_cons_zero, List.set_cons_succ]
        obtain ⟨w6, hr, m6, k6⟩ := (X5.out.later hb).pm.store (t := 113) Tryz.underlying113 (by have := HZ.out; unfold maxLen; omega) (k := (q : Int)) (i64_nat (by have := HQ.out.1; omega)) (.agg (placeC v.round v.writes q ver).toArray)
        refine last_mapU 113 (.tmp 74) (.tmp 75) (.tmp 76) rfl rfl _ rfl _ rfl _ rfl _ hr ?_
        have X6 : Hid (PgM w6 p gh gp h { v with writes := v.writes + 1 } fh sz (updF fp q (.agg (placeC v.round v.writes q ver).toArray)) szq M2 S5) := by have := (X5.out.later hb).placeT k6 m6; rw [HZQ.out] at this; exact this
        have K6 : Hid (Kept (Ow Mh p gh gp) w w6) := (K5.out.trans (Kept.new _ hb)).trans (k6.mono (fun b e => .inr (.inr (.inl e))))
        clear hr m6 k6
        obtain ⟨w7, hr7, m7, k7⟩ := X6.out.hm.store (t := 112) Tryz.underlying112 (by have := HZ.out; unfold maxLen; omega) (k := (q : Int)) (i64_nat (by have := HQ.out.1; omega)) (.agg #[.slice ao t c, .int .i64 1])
        have X7 : Hid (PgM w7 p gh gp h { v with writes := v.writes + 1 } (updF fh q (.agg #[.slice ao t c, .int .i64 1])) sz (updF fp q (.agg (placeC v.round v.writes q ver).toArray)) szq M2 S5) := by
          have := X6.out.heldT k7 m7
          rw [HH.out] at this
          exact this
        have K7 : Hid (Kept (Ow Mh p gh gp) w w7) := K6.out.trans (k7.mono (fun b e => .inr (.inl e)))
        have c6 : w6.cell? ⟨p, 37, none⟩ = some (.map (some gh)) := X6.out.pa.cell 4 _ (by rw [← X6.out.he]; rfl)
        have HR7 : Hid ((Instr.mapUpdate 112 (.map (some gh)) (.int .i64 (q : Int)) (.agg #[.slice ao t c, .int .i64 1])).run Tryz.prog w6 = .ok () w7) := hr7
        clear m7 k7 hr7
        go_wp2_with (at_mapUpdate; refine wpList_mapU rfl 112 _ _ _ rfl _ _ _ rfl rfl rfl w7 HR7.out ?_)
        go_ret
        exact ⟨rfl, M2, ver, HV.out.2, by rw [HS5.out]; exact X7.out, K7.out, G5.out.1, G5.out.2⟩
end Go.Proofs.YtfhieacclifihaaGreat
namespace Go.Proofs.YtfhieacclifihaaGreat
open Go.RowKit
set_option linter.unusedVariables false
set_option linter.unusedSimpArgs false

theorem last_valR {o : Oper} {a : Act} {w : World} {K : Act → World → Prop} {Q : Exit → Act → World → Prop} (d : Option Tmp) (hdst : o.dst = d) (v : Value) (hv : (execOp a.eval o).run Tryz.prog w = .ok (.value v) w) (h : K (a.put d v) w) : o.wp Tryz.prog a w K Q := by
  subst hdst
  unfold Oper.wp
  rw [hv]
  exact h
/-- A pager's memory, with the row of its order. -/
structure PgO (w : World) (p gh gp h : Nat) (v : PgV) (fh : Int → Option Value) (sz : Nat) (fp : Int → Option Value) (szp : Nat) (Mh : Nat → Prop) (s : HSt) (zs : List Int) : Prop where
  m : PgM w p gh gp h v fh sz fp szp Mh s
  o : w.ownsRow 0 3 1 v.order zs.length (zs.map (Value.int .i64))
  d : ∀ g, v.order.ownBlock = some g → ¬ Mh g
def OwO (Mh : Nat → Prop) (p gh gp : Nat) (v : PgV) (b : Nat) : Prop := Ow Mh p gh gp b ∨ v.order.ownBlock = some b
theorem own_neM {w : World} {base n : Nat} {v : Value} {xs : List Value} (h : w.ownsRow base 3 1 v n xs) {g : Nat} {f : Int → Option Value} {sz : Nat} (hm : MapV w g f sz) : ¬ v.ownBlock = some g := by
  rcases h.2 with ⟨rfl, _⟩ | ⟨b, cap, cur, rfl, hg, hh, r⟩
  · intro e; cases e
  · intro e
    simp [Value.ownBlock] at e
    subst e
    exact hm.ne (show Blk w b 3 cur.toList by simpa [Blk] using hh) rfl
theorem own_lt {w : World} {base n : Nat} {v : Value} {xs : List Value} (h : w.ownsRow base 3 1 v n xs) {g : Nat} (e : v.ownBlock = some g) : g < w.heap.size := by
  rcases h.2 with ⟨rfl, _⟩ | ⟨b, cap, cur, rfl, hg, hh, r⟩
  · cases e
  · simp [Value.ownBlock] at e; subst e; exact lt_of_block hh
section
variable {w w' : World} {p gh gp h : Nat} {v : PgV} {fh : Int → Option Value} {sz : Nat} {fp : Int → Option Value} {szp : Nat} {Mh : Nat → Prop} {s : HSt} {zs : List Int}
theorem PgO.nO (x : PgO w p gh gp h v fh sz fp szp Mh s zs) : ∀ g, v.order.ownBlock = some g → ¬ Ow Mh p gh gp g := fun g hg e => by
  rcases e with rfl | rfl | rfl | e
  · exact own_neP x.o x.m.pa.blk hg
  · exact own_neM x.o x.m.hm hg
  · exact own_neM x.o x.m.pm hg
  · exact x.d g hg e
theorem PgO.all (x : PgO w p gh gp h v fh sz fp szp Mh s zs) : ∀ b, OwO Mh p gh gp v b → b < w.heap.size := fun b hb => by
  rcases hb with hb | hb
  · exact x.m.all b hb
  · exact own_lt x.o hb
theorem PgO.later (x : PgO w p gh gp h v fh sz fp szp Mh s zs) (hb : Below w.heap.size w w') : PgO w' p gh gp h v fh sz fp szp Mh s zs := ⟨x.m.later hb, ownsRow_below x.o hb, x.d⟩
theorem PgO.off {S : Nat → Prop} (x : PgO w p gh gp h v fh sz fp szp Mh s zs) (k : Kept S w w') (hS : ∀ b, S b → ¬ OwO Mh p gh gp v b) : PgO w' p gh gp h v fh sz fp szp Mh s zs :=
  ⟨x.m.off k (fun b hb e => hS b hb (.inl e)), own_keptP x.o k (fun b hb e => hS b e (.inr hb)), x.d⟩
/-- All but the order's row was written. -/
theorem PgO.on {v' : PgV} {fh' : Int → Option Value} {sz' : Nat} {fp' : Int → Option Value} {szp' : Nat} {M2 : Nat → Prop} {s' : HSt} (x : PgO w p gh gp h v fh sz fp szp Mh s zs) (k : Kept (Ow Mh p gh gp) w w') (m : PgM w' p gh gp h v' fh' sz' fp' szp' M2 s') (e : v'.order = v.order) (hM : ∀ b, M2 b → Mh b ∨ w.heap.size ≤ b) : PgO w' p gh gp h v' fh' sz' fp' szp' M2 s' zs :=
  ⟨m, by rw [e]; exact own_keptP x.o k (fun b hb e => x.nO b hb e), fun g hg h2 => by
    rw [e] at hg
    rcases hM g h2 with h3 | h3
    · exact x.d g hg h3
    · have := own_lt x.o hg; omega⟩
end
set_option maxRecDepth 20000 in
set_option maxHeartbeats 2000000 in
theorem room_free (p gh gp h : Nat) (v : PgV) (fh : Int → Option Value) (sz : Nat) (fp : Int → Option Value) (szp : Nat) (Mh : Nat → Prop) (s : HSt) (zs : List Int) (w : World) (x : PgO w p gh gp h v fh sz fp szp Mh s zs) (hl : zs.length < v.win) :
    Calls Tryz.prog 66 #[.pointer (some ⟨p, 0, none⟩)] w fun e w' => e = .returned (.int .i64 0) ∧ Below w.heap.size w w' := by
  obtain ⟨ao, c, eo, -⟩ := own_z x.o
  have X0 : Hid (PgO w p gh gp h v fh sz fp szp Mh s zs) := x
  have EO : Hid (v.order = .slice ao zs.length c) := eo
  have HL : Hid ((zs.length : Int) < (v.win : Int)) := (by omega : (zs.length : Int) < (v.win : Int))
  clear x eo hl
  go_enter Tryz.func66, Tryz.ntmps66
  go_wp2_with fail
  refine region_invT [.val (.pointer (some ⟨p, 0, none⟩)), .val (.pointer (some ⟨p, 0, none⟩)), .val (.pointer (some ⟨p, 38, none⟩)), .val (.slice ao zs.length c), .val (.int .i64 (zs.length : Int)), .val (.pointer (some ⟨p, 0, none⟩)), .val (.pointer (some ⟨p, 0, none⟩)), .val (.pointer (some ⟨p, 34, none⟩)), .val (.int .i64 (v.win : Int))] (by kernel_rfl) (by kernel_rfl) (by kernel_rfl) ?_ ?_
  · refine Steps'.cons ?_ (Steps'.cons ?_ (Steps'.cons ?_ (Steps'.cons ?_ (Steps'.cons ?_ (Steps'.cons ?_ (Steps'.cons ?_ (Steps'.cons ?_ (Steps'.cons ?_ (Steps'.one _ _ _ _ _ _ _)))))))))
    · intro ax wx hb hs hd
      have h0 : ax.tmps.getD 0 undef = (.pointer (some ⟨p, 0, none⟩)) := hs 0 (by kernel_rfl)
      refine Does.value (.pointer (some ⟨p, 0, none⟩)) ?_ rfl
      clear hs hd
      go_simp
    · intro ax wx hb hs hd
      have h5 : ax.tmps.getD 5 undef = (.pointer (some ⟨p, 0, none⟩)) := hd 0 5 rfl (by kernel_rfl) (by decide)
      refine Does.value (.pointer (some ⟨p, 0, none⟩)) ?_ rfl
      clear hs hd
      go_simp
    · intro ax wx hb hs hd
      have h6 : ax.tmps.getD 6 undef = (.pointer (some ⟨p, 0, none⟩)) := hd 1 6 rfl (by kernel_rfl) (by decide)
      refine Does.value (.pointer (some ⟨p, 38, none⟩)) ?_ rfl
      clear hs hd
      go_simp
    · intro ax wx hb hs hd
      have h7 : ax.tmps.getD 7 undef = (.pointer (some ⟨p, 38, none⟩)) := hd 2 7 rfl (by kernel_rfl) (by decide)
      have c0 : wx.cell? ⟨p, 38, none⟩ = some (.slice ao zs.length c) := (X0.out.later hb).m.pa.cell 5 _ (by rw [← EO.out]; rfl)
      refine Does.value (.slice ao zs.length c) ?_ rfl
      clear hs hd
      go_simp
    · intro ax wx hb hs hd
      have h8 : ax.tmps.getD 8 undef = (.slice ao zs.length c) := hd 3 8 rfl (by kernel_rfl) (by decide)
      refine Does.value (.int .i64 (zs.length : Int)) ?_ rfl
      clear hs hd
      go_simp
    · intro ax wx hb hs hd
      have h0 : ax.tmps.getD 0 undef = (.pointer (some ⟨p, 0, none⟩)) := hs 0 (by kernel_rfl)
      refine Does.value (.pointer (some ⟨p, 0, none⟩)) ?_ rfl
      clear hs hd
      go_simp
    · intro ax wx hb hs hd
      have h10 : ax.tmps.getD 10 undef = (.pointer (some ⟨p, 0, none⟩)) := hd 5 10 rfl (by kernel_rfl) (by decide)
      refine Does.value (.pointer (some ⟨p, 0, none⟩)) ?_ rfl
      clear hs hd
      go_simp
    · intro ax wx hb hs hd
      have h11 : ax.tmps.getD 11 undef = (.pointer (some ⟨p, 0, none⟩)) := hd 6 11 rfl (by kernel_rfl) (by decide)
      refine Does.value (.pointer (some ⟨p, 34, none⟩)) ?_ rfl
      clear hs hd
      go_simp
    · intro ax wx hb hs hd
      have h12 : ax.tmps.getD 12 undef = (.pointer (some ⟨p, 34, none⟩)) := hd 7 12 rfl (by kernel_rfl) (by decide)
      have c0 : wx.cell? ⟨p, 34, none⟩ = some (.int .i64 (v.win : Int)) := (X0.out.later hb).m.pa.cell 1 _ rfl
      refine Does.value (.int .i64 (v.win : Int)) ?_ rfl
      clear hs hd
      go_simp
  · intro wx hb
    refine @Ends.val _ _ _ _ _ _ _ _ _ (.pointer (some ⟨p, 0, none⟩)) rfl ?_
    refine @Ends.val _ _ _ _ _ _ _ _ _ (.pointer (some ⟨p, 0, none⟩)) rfl ?_
    refine @Ends.val _ _ _ _ _ _ _ _ _ (.pointer (some ⟨p, 38, none⟩)) rfl ?_
    refine @Ends.val _ _ _ _ _ _ _ _ _ (.slice ao zs.length c) rfl ?_
    refine @Ends.val _ _ _ _ _ _ _ _ _ (.int .i64 (zs.length : Int)) rfl ?_
    refine @Ends.val _ _ _ _ _ _ _ _ _ (.pointer (some ⟨p, 0, none⟩)) rfl ?_
    refine @Ends.val _ _ _ _ _ _ _ _ _ (.pointer (some ⟨p, 0, none⟩)) rfl ?_
    refine @Ends.val _ _ _ _ _ _ _ _ _ (.pointer (some ⟨p, 34, none⟩)) rfl ?_
    refine @Ends.val _ _ _ _ _ _ _ _ _ (.int .i64 (v.win : Int)) rfl ?_
    refine @Ends.one _ _ _ _ _ _ _ ?_
    simp only [Act.put, List.setIfInBounds_toArray, List.set_cons_zero, List.set_cons_succ]
    have hl := HL.out
    refine last_valR (some 14) rfl (.bool true) (by go_simp) ?_
    have L1 : Hid (Below w.heap.size w wx) := hb
    clear hb
    go_wp2
    go_ret
    exact ⟨rfl, L1.out⟩
theorem wpList_delR {ops : Array Oper} {rest : List Oper} {o : Oper} {a : Act} {Q : Exit → Act → World → Prop} {w : World} (hgd : o.guard = none) (m x : Operand) (t k : TypeId) (ho : o.op = .call { callee := .builtin .delete, args := #[m, x], argTypes := #[t, k] }) (mv kv : Value) (hm : a.eval m = mv) (hx : a.eval x = kv) (w' : World)
    (hr : (Builtin.delete_ #[t, k] o.type #[mv, kv]).run Tryz.prog w = .ok (.tuple #[]) w') (h : wpList Tryz.prog ops Q rest (a.put o.dst (.tuple #[])) w') : wpList Tryz.prog ops Q (o :: rest) a w := by
  refine wpList_plain hgd fun K hK => ?_
  unfold Oper.wp
  simp [execOp, ho, resolve, invoke, builtin, hm, hx, hr, Result.andThen]
  exact hK _ _ h
set_option maxRecDepth 20000 in
set_option maxHeartbeats 4000000 in
theorem room_drop (p gh gp h : Nat) (v : PgV) (fh : Int → Option Value) (sz : Nat) (fp : Int → Option Value) (szp : Nat) (Mh : Nat → Prop) (s : HSt) (x : Int) (r : List Int) (lv : Value) (z : Int) (w : World) (X : PgO w p gh gp h v fh sz fp szp Mh s (x :: r)) (hx : I64 x) (hl : v.win ≤ r.length + 1) (hl2 : r.length ≤ 100) (hf : fh x = some (.agg #[lv, .int .i64 z])) (hz : z ≠ 2) :
    Calls Tryz.prog 66 #[.pointer (some ⟨p, 0, none⟩)] w fun e w' => e = .returned (.int .i64 0) ∧ ∃ o', PgO w' p gh gp h { v with order := o' } (delF fh x) (sz - 1) fp szp Mh s r ∧ Kept (OwO Mh p gh gp v) w w' ∧ o'.ownBlock = v.order.ownBlock := by
  obtain ⟨g, c, eo⟩ : ∃ g c, v.order = .slice (some ⟨g, 0, none⟩) (r.length + 1) c := by
    rcases X.o.2 with ⟨h1, h2⟩ | ⟨g, cap, cur, h1, _⟩
    · simp at h2
    · exact ⟨g, cap, h1⟩
  have X0 : Hid (PgO w p gh gp h v fh sz fp szp Mh s (x :: r)) := X
  have EO : Hid (v.order = .slice (some ⟨g, 0, none⟩) (r.length + 1) c) := eo
  have HL : Hid (¬ (r.length : Int) + 1 < (v.win : Int) ∧ r.length ≤ 100) := ⟨by omega, hl2⟩
  have HX : Hid (I64 x) := hx
  have HF : Hid (fh x = some (.agg #[lv, .int .i64 z]) ∧ (z == 2) = false) := ⟨hf, by simpa using hz⟩
  clear X eo hl hl2 hx hf hz
  go_enter Tryz.func66, Tryz.ntmps66
  go_wp2_with fail
  refine region_invT [.val (.pointer (some ⟨p, 0, none⟩)), .val (.pointer (some ⟨p, 0, none⟩)), .val (.pointer (some ⟨p, 38, none⟩)), .val (.slice (some ⟨g, 0, none⟩) (r.length + 1) c), .val (.int .i64 ((r.length : Int) + 1)), .val (.pointer (some ⟨p, 0, none⟩)), .val (.pointer (some ⟨p, 0, none⟩)), .val (.pointer (some ⟨p, 34, none⟩)), .val (.int .i64 (v.win : Int))] (by kernel_rfl) (by kernel_rfl) (by kernel_rfl) ?_ ?_
  · refine Steps'.cons ?_ (Steps'.cons ?_ (Steps'.cons ?_ (Steps'.cons ?_ (Steps'.cons ?_ (Steps'.cons ?_ (Steps'.cons ?_ (Steps'.cons ?_ (Steps'.cons ?_ (Steps'.one _ _ _ _ _ _ _)))))))))
    · intro ax wx hb hs hd
      have h0 : ax.tmps.getD 0 undef = (.pointer (some ⟨p, 0, none⟩)) := hs 0 (by kernel_rfl)
      refine Does.value (.pointer (some ⟨p, 0, none⟩)) ?_ rfl
      clear hs hd
      go_simp
    · intro ax wx hb hs hd
      have h5 : ax.tmps.getD 5 undef = (.pointer (some ⟨p, 0, none⟩)) := hd 0 5 rfl (by kernel_rfl) (by decide)
      refine Does.value (.pointer (some ⟨p, 0, none⟩)) ?_ rfl
      clear hs hd
      go_simp
    · intro ax wx hb hs hd
      have h6 : ax.tmps.getD 6 undef = (.pointer (some ⟨p, 0, none⟩)) := hd 1 6 rfl (by kernel_rfl) (by decide)
      refine Does.value (.pointer (some ⟨p, 38, none⟩)) ?_ rfl
      clear hs hd
      go_simp
    · intro ax wx hb hs hd
      have h7 : ax.tmps.getD 7 undef = (.pointer (some ⟨p, 38, none⟩)) := hd 2 7 rfl (by kernel_rfl) (by decide)
      have c0 : wx.cell? ⟨p, 38, none⟩ = some (.slice (some ⟨g, 0, none⟩) (r.length + 1) c) := (X0.out.later hb).m.pa.cell 5 _ (by rw [← EO.out]; rfl)
      refine Does.value (.slice (some ⟨g, 0, none⟩) (r.length + 1) c) ?_ rfl
      clear hs hd
      go_simp
    · intro ax wx hb hs hd
      have h8 : ax.tmps.getD 8 undef = (.slice (some ⟨g, 0, none⟩) (r.length + 1) c) := hd 3 8 rfl (by kernel_rfl) (by decide)
      refine Does.value (.int .i64 ((r.length : Int) + 1)) ?_ rfl
      clear hs hd
      go_simp
    · intro ax wx hb hs hd
      have h0 : ax.tmps.getD 0 undef = (.pointer (some ⟨p, 0, none⟩)) := hs 0 (by kernel_rfl)
      refine Does.value (.pointer (some ⟨p, 0, none⟩)) ?_ rfl
      clear hs hd
      go_simp
    · intro ax wx hb hs hd
      have h10 : ax.tmps.getD 10 undef = (.pointer (some ⟨p, 0, none⟩)) := hd 5 10 rfl (by kernel_rfl) (by decide)
      refine Does.value (.pointer (some ⟨p, 0, none⟩)) ?_ rfl
      clear hs hd
      go_simp
    · intro ax wx hb hs hd
      have h11 : ax.tmps.getD 11 undef = (.pointer (some ⟨p, 0, none⟩)) := hd 6 11 rfl (by kernel_rfl) (by decide)
      refine Does.value (.pointer (some ⟨p, 34, none⟩)) ?_ rfl
      clear hs hd
      go_simp
    · intro ax wx hb hs hd
      have h12 : ax.tmps.getD 12 undef = (.pointer (some ⟨p, 34, none⟩)) := hd 7 12 rfl (by kernel_rfl) (by decide)
      have c0 : wx.cell? ⟨p, 34, none⟩ = some (.int .i64 (v.win : Int)) := (X0.out.later hb).m.pa.cell 1 _ rfl
      refine Does.value (.int .i64 (v.win : Int)) ?_ rfl
      clear hs hd
      go_simp
  · intro wx hb
    refine @Ends.val _ _ _ _ _ _ _ _ _ (.pointer (some ⟨p, 0, none⟩)) rfl ?_
    refine @Ends.val _ _ _ _ _ _ _ _ _ (.pointer (some ⟨p, 0, none⟩)) rfl ?_
    refine @Ends.val _ _ _ _ _ _ _ _ _ (.pointer (some ⟨p, 38, none⟩)) rfl ?_
    refine @Ends.val _ _ _ _ _ _ _ _ _ (.slice (some ⟨g, 0, none⟩) (r.length + 1) c) rfl ?_
    refine @Ends.val _ _ _ _ _ _ _ _ _ (.int .i64 ((r.length : Int) + 1)) rfl ?_
    refine @Ends.val _ _ _ _ _ _ _ _ _ (.pointer (some ⟨p, 0, none⟩)) rfl ?_
    refine @Ends.val _ _ _ _ _ _ _ _ _ (.pointer (some ⟨p, 0, none⟩)) rfl ?_
    refine @Ends.val _ _ _ _ _ _ _ _ _ (.pointer (some ⟨p, 34, none⟩)) rfl ?_
    refine @Ends.val _ _ _ _ _ _ _ _ _ (.int .i64 (v.win : Int)) rfl ?_
    refine @Ends.one _ _ _ _ _ _ _ ?_
    simp only [Act.put, List.setIfInBounds_toArray, List.set_cons_zero, List.set_cons_succ]
    have hl := HL.out.1
    refine last_valR (some 14) rfl (.bool false) (by go_simp) ?_
    have X1 : Hid (PgO wx p gh gp h v fh sz fp szp Mh s (x :: r)) := X0.out.later hb
    have K1 : Hid (Kept (OwO Mh p gh gp v) w wx) := Kept.new _ hb
    clear hb hl
    have c1 : wx.cell? ⟨p, 38, none⟩ = some (.slice (some ⟨g, 0, none⟩) (r.length + 1) c) := X1.out.m.pa.cell 5 _ (by rw [← EO.out]; rfl)
    have c2 : wx.cell? ⟨g, 0, none⟩ = some (.int .i64 x) := by
      have := X1.out.o
      rw [EO.out] at this
      exact this.cellAt 0 (by simp)
    have c3 : wx.cell? ⟨p, 37, none⟩ = some (.map (some gh)) := X1.out.m.pa.cell 4 _ (by rw [← X1.out.m.he]; rfl)
    have hL : (Instr.lookup 112 (.map (some gh)) (.int .i64 x) false).run Tryz.prog wx = .ok (.agg #[lv, .int .i64 z]) wx := by
      have := X1.out.m.hm.look (t := 112) Tryz.underlying112 (zeroLeaf wx) HX.out
      rw [HF.out.1] at this
      exact this
    have hF1 := leaf1 lv z wx
    have hz := HF.out.2
    obtain ⟨wd, hrd, md, kd⟩ := X1.out.m.hm.drop (t := 112) Tryz.underlying112 (k := x) HX.out (ty := 0)
    have XD : Hid (PgM wd p gh gp h v (delF (fh) x) (if (fh x).isSome then sz - 1 else sz) fp szp Mh s ∧ wd.ownsRow 0 3 1 v.order (x :: r).length ((x :: r).map (Value.int .i64))) := ⟨X1.out.m.heldT kd md, own_keptP X1.out.o kd (fun b hb e => X1.out.nO b hb (.inr (.inl e)))⟩
    have KD : Hid (Kept (OwO Mh p gh gp v) w wd) := K1.out.trans (kd.mono (fun b e => .inl (.inr (.inl e))))
    have cD : wx.cell? ⟨p, 37, none⟩ = some (.map (some gh)) := X1.out.m.pa.cell 4 _ (by rw [← X1.out.m.he]; rfl)
    clear md kd
    have DL := sdel_any 0 g c 0 (x :: r) wd (by have := XD.out.2; rw [show v.order = _ from EO.out] at this; exact this) (by simp) (by have := HL.out.2; simp at this ⊢; omega)
    have cE : wd.cell? ⟨p, 38, none⟩ = some (.slice (some ⟨g, 0, none⟩) (r.length + 1) c) := XD.out.1.pa.cell 5 _ (by rw [← EO.out]; rfl)
    have HDL : Hid (Calls Tryz.prog 75 #[.slice (some ⟨g, 0, none⟩) (r.length + 1) c, .int .i64 0, .int .i64 1] wd fun e w' => e = .returned (.slice (some ⟨g, 0, none⟩) r.length c) ∧ w'.ownsRow 0 3 1 (.slice (some ⟨g, 0, none⟩) r.length c) r.length (r.map (Value.int .i64)) ∧ Kept (fun b => b = g) wd w') := DL
    clear DL
    go_wp2_with (first | (at_delete; refine wpList_delR rfl _ _ 112 3 rfl _ _ rfl rfl _ hrd ?_) | (go_at_call 75; refine HDL.out.mono ?_))
    rintro e we ⟨rfl, oe, ke⟩
    have hg : Hid (¬ Ow Mh p gh gp g) := X1.out.nO g (by rw [show v.order = _ from EO.out]; rfl)
    have XE : Hid (PgM we p gh gp h v (delF (fh) x) (if (fh x).isSome then sz - 1 else sz) fp szp Mh s) := XD.out.1.off ke (fun b e => by subst e; exact hg.out)
    have KE : Hid (Kept (OwO Mh p gh gp v) w we) := KD.out.trans (ke.mono (fun b e => .inr (by rw [EO.out, e]; rfl)))
    have OE : Hid (we.ownsRow 0 3 1 (.slice (some ⟨g, 0, none⟩) r.length c) r.length (r.map (Value.int .i64))) := oe
    clear oe ke cE cD hrd
    have cF : we.cell? ⟨p, 38, none⟩ = some (.slice (some ⟨g, 0, none⟩) (r.length + 1) c) := XE.out.pa.cell 5 _ (by rw [← EO.out]; rfl)
    have fF := XE.out.pa.blk.frozen 38
    have KF := (Kept.refl (fun b => b = p) we).setCell (p := ⟨p, 38, none⟩) rfl (.slice (some ⟨g, 0, none⟩) r.length c)
    have XF : Hid (PgM (we.setCell ⟨p, 38, none⟩ (.slice (some ⟨g, 0, none⟩) r.length c)) p gh gp h { (v) with order := .slice (some ⟨g, 0, none⟩) r.length c } (delF (fh) x) (if (fh x).isSome then sz - 1 else sz) fp szp Mh s) := XE.out.own (XE.out.pa.put 5 _ rfl rfl rfl) KF rfl rfl rfl
    have OF : Hid ((we.setCell ⟨p, 38, none⟩ (.slice (some ⟨g, 0, none⟩) r.length c)).ownsRow 0 3 1 (.slice (some ⟨g, 0, none⟩) r.length c) r.length (r.map (Value.int .i64))) := own_keptP OE.out KF (fun b hb e => by subst e; exact own_neP OE.out XE.out.pa.blk hb)
    have KG : Hid (Kept (OwO Mh p gh gp v) w (we.setCell ⟨p, 38, none⟩ (.slice (some ⟨g, 0, none⟩) r.length c))) := KE.out.setCell (.inl (.inl rfl)) _
    clear KF
    go_wp2_with fail
    go_ret
    exact ⟨rfl, _, ⟨by have := XF.out; rw [HF.out.1] at this; exact this, OF.out, fun b hb => X0.out.d b (by rw [EO.out]; exact hb)⟩, KG.out, by rw [EO.out]; rfl⟩
set_option maxRecDepth 20000 in
set_option maxHeartbeats 4000000 in
theorem room_write (p gh gp h q : Nat) (v : PgV) (fh : Int → Option Value) (sz : Nat) (fp : Int → Option Value) (szp : Nat) (Mh : Nat → Prop) (s : HSt) (x : Int) (r : List Int) (ao : Option Addr) (t c0 : Nat) (zs : List Int) (r0 c1 p0 q0 : Int) (w : World) (X : PgO w p gh gp h v fh sz fp szp Mh s (x :: r)) (hq : x = (q : Int)) (hl : v.win ≤ r.length + 1) (hl2 : r.length ≤ 100) (hf : fh x = some (.agg #[.slice ao t c0, .int .i64 2]))
    (hn : Hn s) (hq1 : q < s.pages) (hq2 : q < 65536) (hops : s.ops < 3000000000000) (hz : s.size = t + 28) (ht : t ≤ 4096) (hs : Seen w ao t zs) (hso : ∀ b o, ao = some ⟨b, o, none⟩ → b < w.heap.size) (hc : t ≤ c0)
    (hfp : (fp q).getD (.agg #[.int .u64 0, .int .u32 0, .int .u32 0, .int .u32 0]) = .agg #[.int .u64 r0, .int .u32 c1, .int .u32 p0, .int .u32 q0]) (hr : Word v.round) (hw : v.writes < 4294967295) (hsz : sz ≤ 1048576 ∧ szp ≤ 4294967296) :
    Calls Tryz.prog 66 #[.pointer (some ⟨p, 0, none⟩)] w fun e w' => e = .returned (.int .i64 0) ∧ ∃ o' M2 ver, U32 ver ∧ PgO w' p gh gp h { v with writes := v.writes + 1, order := o' } (delF (updF fh x (.agg #[.slice ao t c0, .int .i64 1])) x) (sz - 1) (updF fp x (.agg (placeC v.round v.writes x ver).toArray)) (if (fp q).isSome then szp else szp + 1) M2 ((s.next.wrote q (pageL v.key v.round v.writes x ver zs)).logged ⟨1, x, s.size, headL (pageL v.key v.round v.writes x ver zs)⟩) r ∧ Kept (OwO Mh p gh gp v) w w' ∧ o'.ownBlock = v.order.ownBlock ∧ (∀ k, Mh k → M2 k) ∧ ∀ k, M2 k → Mh k ∨ w.heap.size ≤ k := by
  obtain ⟨g, c, eo⟩ : ∃ g c, v.order = .slice (some ⟨g, 0, none⟩) (r.length + 1) c := by
    rcases X.o.2 with ⟨h1, h2⟩ | ⟨g, cap, cur, h1, _⟩
    · simp at h2
    · exact ⟨g, cap, h1⟩
  obtain ⟨szq, hzq⟩ : ∃ z, (if (fp q).isSome then szp else szp + 1) = z := ⟨_, rfl⟩
  have HZQ : Hid ((if (fp q).isSome then szp else szp + 1) = szq) := hzq
  rw [hzq]
  clear hzq
  have X0 : Hid (PgO w p gh gp h v fh sz fp szp Mh s (x :: r)) := X
  have EO : Hid (v.order = .slice (some ⟨g, 0, none⟩) (r.length + 1) c) := eo
  have HL : Hid (¬ (r.length : Int) + 1 < (v.win : Int) ∧ r.length ≤ 100) := ⟨by omega, hl2⟩
  have HX : Hid (I64 x) := by subst hq; exact i64_nat (by omega)
  have HF : Hid (fh x = some (.agg #[.slice ao t c0, .int .i64 2])) := hf
  have GW : Hid (∀ W, Below w.heap.size w W → Calls Tryz.prog 74 #[.pointer (some ⟨p, 0, none⟩), .int .i64 x] W fun e w' => e = .returned (.int .i64 0) ∧ ∃ M2 ver, U32 ver ∧ PgM w' p gh gp h { v with writes := v.writes + 1 } (updF fh x (.agg #[.slice ao t c0, .int .i64 1])) sz (updF fp x (.agg (placeC v.round v.writes x ver).toArray)) szq M2 ((s.next.wrote q (pageL v.key v.round v.writes x ver zs)).logged ⟨1, x, s.size, headL (pageL v.key v.round v.writes x ver zs)⟩) ∧ Kept (Ow Mh p gh gp) W w' ∧ (∀ k, Mh k → M2 k) ∧ ∀ k, M2 k → Mh k ∨ W.heap.size ≤ k) := fun W hW => by
    subst hq
    have := gwrite_any p gh gp h q v fh sz fp szp Mh s ao t c0 _ zs r0 c1 p0 q0 W (X.m.later hW) hn hq1 hq2 hops hz ht hf (hs.later hW (Nat.le_refl _)) hc hfp hr hw hsz
    rw [HZQ.out] at this
    exact this
  clear X eo hl hl2 hf hn hq hq1 hq2 hops hz ht hs hso hc hfp hr hw hsz
  go_enter Tryz.func66, Tryz.ntmps66
  go_wp2_with fail
  refine region_invT [.val (.pointer (some ⟨p, 0, none⟩)), .val (.pointer (some ⟨p, 0, none⟩)), .val (.pointer (some ⟨p, 38, none⟩)), .val (.slice (some ⟨g, 0, none⟩) (r.length + 1) c), .val (.int .i64 ((r.length : Int) + 1)), .val (.pointer (some ⟨p, 0, none⟩)), .val (.pointer (some ⟨p, 0, none⟩)), .val (.pointer (some ⟨p, 34, none⟩)), .val (.int .i64 (v.win : Int))] (by kernel_rfl) (by kernel_rfl) (by kernel_rfl) ?_ ?_
  · refine Steps'.cons ?_ (Steps'.cons ?_ (Steps'.cons ?_ (Steps'.cons ?_ (Steps'.cons ?_ (Steps'.cons ?_ (Steps'.cons ?_ (Steps'.cons ?_ (Steps'.cons ?_ (Steps'.one _ _ _ _ _ _ _)))))))))
    · intro ax wx hb hs hd
      have h0 : ax.tmps.getD 0 undef = (.pointer (some ⟨p, 0, none⟩)) := hs 0 (by kernel_rfl)
      refine Does.value (.pointer (some ⟨p, 0, none⟩)) ?_ rfl
      clear hs hd
      go_simp
    · intro ax wx hb hs hd
      have h5 : ax.tmps.getD 5 undef = (.pointer (some ⟨p, 0, none⟩)) := hd 0 5 rfl (by kernel_rfl) (by decide)
      refine Does.value (.pointer (some ⟨p, 0, none⟩)) ?_ rfl
      clear hs hd
      go_simp
    · intro ax wx hb hs hd
      have h6 : ax.tmps.getD 6 undef = (.pointer (some ⟨p, 0, none⟩)) := hd 1 6 rfl (by kernel_rfl) (by decide)
      refine Does.value (.pointer (some ⟨p, 38, none⟩)) ?_ rfl
      clear hs hd
      go_simp
    · intro ax wx hb hs hd
      have h7 : ax.tmps.getD 7 undef = (.pointer (some ⟨p, 38, none⟩)) := hd 2 7 rfl (by kernel_rfl) (by decide)
      have c0 : wx.cell? ⟨p, 38, none⟩ = some (.slice (some ⟨g, 0, none⟩) (r.length + 1) c) := (X0.out.later hb).m.pa.cell 5 _ (by rw [← EO.out]; rfl)
      refine Does.value (.slice (some ⟨g, 0, none⟩) (r.length + 1) c) ?_ rfl
      clear hs hd
      go_simp
    · intro ax wx hb hs hd
      have h8 : ax.tmps.getD 8 undef = (.slice (some ⟨g, 0, none⟩) (r.length + 1) c) := hd 3 8 rfl (by kernel_rfl) (by decide)
      refine Does.value (.int .i64 ((r.length : Int) + 1)) ?_ rfl
      clear hs hd
      go_simp
    · intro ax wx hb hs hd
      have h0 : ax.tmps.getD 0 undef = (.pointer (some ⟨p, 0, none⟩)) := hs 0 (by kernel_rfl)
      refine Does.value (.pointer (some ⟨p, 0, none⟩)) ?_ rfl
      clear hs hd
      go_simp
    · intro ax wx hb hs hd
      have h10 : ax.tmps.getD 10 undef = (.pointer (some ⟨p, 0, none⟩)) := hd 5 10 rfl (by kernel_rfl) (by decide)
      refine Does.value (.pointer (some ⟨p, 0, none⟩)) ?_ rfl
      clear hs hd
      go_simp
    · intro ax wx hb hs hd
      have h11 : ax.tmps.getD 11 undef = (.pointer (some ⟨p, 0, none⟩)) := hd 6 11 rfl (by kernel_rfl) (by decide)
      refine Does.value (.pointer (some ⟨p, 34, none⟩)) ?_ rfl
      clear hs hd
      go_simp
    · intro ax wx hb hs hd
      have h12 : ax.tmps.getD 12 undef = (.pointer (some ⟨p, 34, none⟩)) := hd 7 12 rfl (by kernel_rfl) (by decide)
      have c0 : wx.cell? ⟨p, 34, none⟩ = some (.int .i64 (v.win : Int)) := (X0.out.later hb).m.pa.cell 1 _ rfl
      refine Does.value (.int .i64 (v.win : Int)) ?_ rfl
      clear hs hd
      go_simp
  · intro wx hb
    refine @Ends.val _ _ _ _ _ _ _ _ _ (.pointer (some ⟨p, 0, none⟩)) rfl ?_
    refine @Ends.val _ _ _ _ _ _ _ _ _ (.pointer (some ⟨p, 0, none⟩)) rfl ?_
    refine @Ends.val _ _ _ _ _ _ _ _ _ (.pointer (some ⟨p, 38, none⟩)) rfl ?_
    refine @Ends.val _ _ _ _ _ _ _ _ _ (.slice (some ⟨g, 0, none⟩) (r.length + 1) c) rfl ?_
    refine @Ends.val _ _ _ _ _ _ _ _ _ (.int .i64 ((r.length : Int) + 1)) rfl ?_
    refine @Ends.val _ _ _ _ _ _ _ _ _ (.pointer (some ⟨p, 0, none⟩)) rfl ?_
    refine @Ends.val _ _ _ _ _ _ _ _ _ (.pointer (some ⟨p, 0, none⟩)) rfl ?_
    refine @Ends.val _ _ _ _ _ _ _ _ _ (.pointer (some ⟨p, 34, none⟩)) rfl ?_
    refine @Ends.val _ _ _ _ _ _ _ _ _ (.int .i64 (v.win : Int)) rfl ?_
    refine @Ends.one _ _ _ _ _ _ _ ?_
    simp only [Act.put, List.setIfInBounds_toArray, List.set_cons_zero, List.set_cons_succ]
    have hl := HL.out.1
    refine last_valR (some 14) rfl (.bool false) (by go_simp) ?_
    have HB : Hid (Below w.heap.size w wx) := hb
    have X1 : Hid (PgO wx p gh gp h v fh sz fp szp Mh s (x :: r)) := X0.out.later hb
    have K1 : Hid (Kept (OwO Mh p gh gp v) w wx) := Kept.new _ hb
    clear hb hl
    have c1 : wx.cell? ⟨p, 38, none⟩ = some (.slice (some ⟨g, 0, none⟩) (r.length + 1) c) := X1.out.m.pa.cell 5 _ (by rw [← EO.out]; rfl)
    have c2 : wx.cell? ⟨g, 0, none⟩ = some (.int .i64 x) := by
      have := X1.out.o
      rw [EO.out] at this
      exact this.cellAt 0 (by simp)
    have c3 : wx.cell? ⟨p, 37, none⟩ = some (.map (some gh)) := X1.out.m.pa.cell 4 _ (by rw [← X1.out.m.he]; rfl)
    have hL : (Instr.lookup 112 (.map (some gh)) (.int .i64 x) false).run Tryz.prog wx = .ok (.agg #[.slice ao t c0, .int .i64 2]) wx := by
      have := X1.out.m.hm.look (t := 112) Tryz.underlying112 (zeroLeaf wx) HX.out
      rw [HF.out] at this
      exact this
    have hF1 := leaf1 (.slice ao t c0) 2 wx
    have L0 : Hid (Below w.heap.size w wx) := HB.out
    go_wp2_with (go_at_call 74; refine (GW.out wx L0.out).mono ?_)
    rintro e w2 ⟨rfl, M2, ver, hver, m2, k2, s2, n2⟩
    have HV : Hid (U32 ver ∧ (∀ k, Mh k → M2 k) ∧ ∀ k, M2 k → Mh k ∨ w.heap.size ≤ k) := ⟨hver, s2, fun k hk => (n2 k hk).imp id (fun e => Nat.le_trans L0.out.size e)⟩
    obtain ⟨S2, hS2⟩ : ∃ S2, ((s.next.wrote q (pageL v.key v.round v.writes x ver zs)).logged ⟨1, x, s.size, headL (pageL v.key v.round v.writes x ver zs)⟩) = S2 := ⟨_, rfl⟩
    have HS2 : Hid (((s.next.wrote q (pageL v.key v.round v.writes x ver zs)).logged ⟨1, x, s.size, headL (pageL v.key v.round v.writes x ver zs)⟩) = S2) := hS2
    rw [hS2] at m2
    clear hS2
    obtain ⟨P2, hP2⟩ : ∃ P2, (updF fp x (.agg (placeC v.round v.writes x ver).toArray)) = P2 := ⟨_, rfl⟩
    have HP2 : Hid ((updF fp x (.agg (placeC v.round v.writes x ver).toArray)) = P2) := hP2
    rw [hP2] at m2
    clear hP2
    obtain ⟨F2, hF2⟩ : ∃ F2, (updF fh x (.agg #[.slice ao t c0, .int .i64 1])) = F2 := ⟨_, rfl⟩
    have HF2 : Hid ((updF fh x (.agg #[.slice ao t c0, .int .i64 1])) = F2) := hF2
    rw [hF2] at m2
    clear hF2
    have X2 : Hid (PgO w2 p gh gp h { v with writes := v.writes + 1 } F2 sz P2 szq M2 S2 (x :: r)) := X1.out.on k2 m2 rfl n2
    have K2 : Hid (Kept (OwO Mh p gh gp v) w w2) := K1.out.trans (k2.mono (fun b e => .inl e))
    clear hver m2 k2 s2 n2 c1 c2 c3 hL hF1
    obtain ⟨wd, hrd, md, kd⟩ := X2.out.m.hm.drop (t := 112) Tryz.underlying112 (k := x) HX.out (ty := 0)
    have XD : Hid (PgM wd p gh gp h { v with writes := v.writes + 1 } (delF (F2) x) (if (F2 x).isSome then sz - 1 else sz) P2 szq M2 S2 ∧ wd.ownsRow 0 3 1 v.order (x :: r).length ((x :: r).map (Value.int .i64))) := ⟨X2.out.m.heldT kd md, own_keptP X2.out.o kd (fun b hb e => X2.out.nO b hb (.inr (.inl e)))⟩
    have KD : Hid (Kept (OwO Mh p gh gp v) w wd) := K2.out.trans (kd.mono (fun b e => .inl (.inr (.inl e))))
    have cD : w2.cell? ⟨p, 37, none⟩ = some (.map (some gh)) := X2.out.m.pa.cell 4 _ (by rw [← X2.out.m.he]; rfl)
    clear md kd
    have DL := sdel_any 0 g c 0 (x :: r) wd (by have := XD.out.2; rw [show v.order = _ from EO.out] at this; exact this) (by simp) (by have := HL.out.2; simp at this ⊢; omega)
    have cE : wd.cell? ⟨p, 38, none⟩ = some (.slice (some ⟨g, 0, none⟩) (r.length + 1) c) := XD.out.1.pa.cell 5 _ (by rw [← EO.out]; rfl)
    have HDL : Hid (Calls Tryz.prog 75 #[.slice (some ⟨g, 0, none⟩) (r.length + 1) c, .int .i64 0, .int .i64 1] wd fun e w' => e = .returned (.slice (some ⟨g, 0, none⟩) r.length c) ∧ w'.ownsRow 0 3 1 (.slice (some ⟨g, 0, none⟩) r.length c) r.length (r.map (Value.int .i64)) ∧ Kept (fun b => b = g) wd w') := DL
    clear DL
    go_wp2_with (first | (at_delete; refine wpList_delR rfl _ _ 112 3 rfl _ _ rfl rfl _ hrd ?_) | (go_at_call 75; refine HDL.out.mono ?_))
    rintro e we ⟨rfl, oe, ke⟩
    have hg : Hid (¬ Ow M2 p gh gp g) := X2.out.nO g (by rw [show v.order = _ from EO.out]; rfl)
    have XE : Hid (PgM we p gh gp h { v with writes := v.writes + 1 } (delF (F2) x) (if (F2 x).isSome then sz - 1 else sz) P2 szq M2 S2) := XD.out.1.off ke (fun b e => by subst e; exact hg.out)
    have KE : Hid (Kept (OwO Mh p gh gp v) w we) := KD.out.trans (ke.mono (fun b e => .inr (by rw [EO.out, e]; rfl)))
    have OE : Hid (we.ownsRow 0 3 1 (.slice (some ⟨g, 0, none⟩) r.length c) r.length (r.map (Value.int .i64))) := oe
    clear oe ke cE cD hrd
    have cF : we.cell? ⟨p, 38, none⟩ = some (.slice (some ⟨g, 0, none⟩) (r.length + 1) c) := XE.out.pa.cell 5 _ (by rw [← EO.out]; rfl)
    have fF := XE.out.pa.blk.frozen 38
    have KF := (Kept.refl (fun b => b = p) we).setCell (p := ⟨p, 38, none⟩) rfl (.slice (some ⟨g, 0, none⟩) r.length c)
    have XF : Hid (PgM (we.setCell ⟨p, 38, none⟩ (.slice (some ⟨g, 0, none⟩) r.length c)) p gh gp h { ({ v with writes := v.writes + 1 }) with order := .slice (some ⟨g, 0, none⟩) r.length c } (delF (F2) x) (if (F2 x).isSome then sz - 1 else sz) P2 szq M2 S2) := XE.out.own (XE.out.pa.put 5 _ rfl rfl rfl) KF rfl rfl rfl
    have OF : Hid ((we.setCell ⟨p, 38, none⟩ (.slice (some ⟨g, 0, none⟩) r.length c)).ownsRow 0 3 1 (.slice (some ⟨g, 0, none⟩) r.length c) r.length (r.map (Value.int .i64))) := own_keptP OE.out KF (fun b hb e => by subst e; exact own_neP OE.out XE.out.pa.blk hb)
    have KG : Hid (Kept (OwO Mh p gh gp v) w (we.setCell ⟨p, 38, none⟩ (.slice (some ⟨g, 0, none⟩) r.length c))) := KE.out.setCell (.inl (.inl rfl)) _
    clear KF
    go_wp2_with fail
    go_ret
    exact ⟨rfl, _, M2, ver, HV.out.1, by rw [HF2.out, HP2.out, HS2.out]; exact ⟨by have := XF.out; rw [show F2 x = some (.agg #[.slice ao t c0, .int .i64 1]) by rw [← HF2.out]; simp [updF]] at this; exact this, OF.out, fun b hb => X2.out.d b (by show v.order.ownBlock = _; rw [EO.out]; exact hb)⟩, KG.out, by rw [EO.out]; rfl, HV.out.2.1, HV.out.2.2⟩
end Go.Proofs.YtfhieacclifihaaGreat
namespace Go.Proofs.YtfhieacclifihaaGreat
open Go.RowKit
set_option linter.unusedVariables false
set_option linter.unusedSimpArgs false

/-- What is fixed. -/
structure Cf where
  key : List Int
  round : Int
  win : Nat
  pages : Nat
  text : Nat
structure Cf.Good (c : Cf) : Prop where
  win : 2 ≤ c.win ∧ c.win ≤ 16
  pages : c.pages ≤ 65536
  text : 1 ≤ c.text ∧ c.text ≤ 4096
  round : Word c.round
/-- The numbers: which pages are held, in order of use; how they stand; which were written; how many writes; the most; what the host saw. -/
structure Nm where
  ord : List Nat
  st : Nat → Int
  wr : Nat → Bool
  writes : Nat
  most : Nat
  log : List Tc
def upn {α : Type} (f : Nat → α) (q : Nat) (x : α) : Nat → α := fun k => if k = q then x else f k
def Nm.room (cf : Cf) (n : Nm) : Nm :=
  if n.ord.length < cf.win then n else
  match n.ord with
  | [] => n
  | q :: r => if n.st q = 2 then { n with ord := r, st := upn n.st q 1, wr := upn n.wr q true, writes := n.writes + 1, log := n.log ++ [⟨1, q, cf.text + 28, hdL cf.round n.writes⟩] } else { n with ord := r }
abbrev oI (l : List Nat) : List Int := l.map (fun k : Nat => (k : Int))
theorem keepL_last (d : Nat) (L : List (List Int)) (z : List Int) : ∃ L', keepL d L z = L' ++ [z] := by
  unfold keepL
  split
  · cases L with
    | nil => exact ⟨[], by simp at *⟩
    | cons y L => exact ⟨L, by simp⟩
  · exact ⟨L, rfl⟩
theorem ago_wrote (s : HSt) (q : Nat) (z : List Int) : agoL (s.wrote q z) q 0 = z := by
  obtain ⟨L', e⟩ := keepL_last s.depth (s.laid q) z
  have e2 : (s.wrote q z).laid q = L' ++ [z] := by show (if q = q then _ else _) = _; rw [if_pos rfl, e]
  unfold agoL
  rw [e2]
  simp
theorem ago_other (s : HSt) (q k : Nat) (h : k ≠ q) (z : List Int) : agoL (s.wrote q z) k 0 = agoL s k 0 := by
  have e2 : (s.wrote q z).laid k = s.laid k := by show (if k = q then _ else _) = _; rw [if_neg h]
  unfold agoL
  rw [e2]
  rfl
theorem ago_same {s s' : HSt} (k : Nat) (h1 : s'.laid = s.laid) (h2 : s'.size = s.size) : agoL s' k 0 = agoL s k 0 := by unfold agoL; rw [h1, h2]
theorem head_page (key : List Int) (r c p q : Int) (zs : List Int) : headL (pageL key r c p q zs) = hdL r c := by
  unfold headL
  rw [pageL_head, show 12 - (pageL key r c p q zs).length = 0 by rw [pageL_length]; omega]
  simp
/-- A pager in block p over the host in block h: hl: the pages of its map. -/
structure PagL (w : World) (p h : Nat) (cf : Cf) (hl : List Nat) (n : Nm) (txt : Nat → List Int) (gh gp : Nat) (v : PgV) (fh fp : Int → Option Value) (szp : Nat) (Mh : Nat → Prop) (s : HSt) (Mt : Nat → Prop) : Prop where
  o : PgO w p gh gp h v fh hl.length fp szp Mh s (oI n.ord)
  ek : v.key = cf.key
  er : v.round = cf.round
  ew : v.win = cf.win
  ep : v.pages = cf.pages
  et : v.text = cf.text
  em : v.most = n.most
  ewr : v.writes = n.writes
  ed : v.dead = 0
  good : cf.Good
  held : ∀ q ∈ hl, ∃ ao c, fh q = some (.agg #[.slice ao cf.text c, .int .i64 (n.st q)]) ∧ Seen w ao cf.text (txt q) ∧ cf.text ≤ c ∧ ∀ b o, ao = some ⟨b, o, none⟩ → Mt b
  none : ∀ k : Int, (∀ q ∈ hl, (q : Int) ≠ k) → fh k = none
  nd : hl.Nodup
  len : hl.length ≤ 17 ∧ n.ord.length ≤ 17
  rng : ∀ q ∈ hl, q < cf.pages
  wrt : ∀ q, q < cf.pages → n.wr q = true → ∃ c ver, fp q = some (.agg #[.int .u64 cf.round, .int .u32 c, .int .u32 q, .int .u32 ver]) ∧ U32 c ∧ U32 ver ∧ ((q ∉ hl ∨ n.st q ≠ 2) → agoL s q 0 = pageL cf.key cf.round c q ver (txt q))
  nwr : ∀ q, q < cf.pages → n.wr q = false → fp q = Option.none ∧ ((q ∉ hl ∨ n.st q ≠ 2) → txt q = List.replicate cf.text 0)
  tl : ∀ q, (txt q).length = cf.text ∧ Bytes (txt q)
  sz : szp ≤ n.writes
  hn : Hn s
  sp : s.pages = cf.pages
  ss : s.size = cf.text + 28
  so : s.ops = n.log.length
  sl : s.log = n.log
  mt : ∀ b, Mt b → b < w.heap.size ∧ ¬ OwO Mh p gh gp v b
/-- .. within the blocks of F. -/
def PagS (w : World) (p h : Nat) (cf : Cf) (hl : List Nat) (n : Nm) (txt : Nat → List Int) (F : Nat → Prop) : Prop :=
  ∃ gh gp v fh fp szp Mh s Mt, PagL w p h cf hl n txt gh gp v fh fp szp Mh s Mt ∧ (∀ b, OwO Mh p gh gp v b ∨ Mt b → F b) ∧ ∀ b, F b → b < w.heap.size
/-- Written is within F; F grows by new blocks alone. -/
structure Ev (F F' : Nat → Prop) (w w' : World) : Prop where
  kept : Kept F w w'
  new : ∀ b, F' b → F b ∨ w.heap.size ≤ b
theorem Ev.trans {F F' F'' : Nat → Prop} {w w' w'' : World} (a : Ev F F' w w') (b : Ev F' F'' w' w'') : Ev F F'' w w'' :=
  ⟨⟨b.kept.os.trans a.kept.os, b.kept.tape.trans a.kept.tape, b.kept.output.trans a.kept.output, Nat.le_trans a.kept.size b.kept.size, fun k hk hn => (b.kept.block k (Nat.lt_of_lt_of_le hk a.kept.size) (fun h => (a.new k h).elim hn (fun e => by omega))).trans (a.kept.block k hk hn)⟩,
   fun k hk => (b.new k hk).elim (a.new k) (fun e => .inr (Nat.le_trans a.kept.size e))⟩
theorem Ev.below {F : Nat → Prop} {w w' : World} (hb : Below w.heap.size w w') : Ev F F w w' := ⟨Kept.new F hb, fun b hb => .inl hb⟩
section
variable {w w' : World} {p h : Nat} {cf : Cf} {hl : List Nat} {n : Nm} {txt : Nat → List Int} {gh gp : Nat} {v : PgV} {fh fp : Int → Option Value} {szp : Nat} {Mh : Nat → Prop} {s : HSt} {Mt F : Nat → Prop}
theorem PagL.later (x : PagL w p h cf hl n txt gh gp v fh fp szp Mh s Mt) (hb : Below w.heap.size w w') : PagL w' p h cf hl n txt gh gp v fh fp szp Mh s Mt :=
  { x with
    o := x.o.later hb
    held := fun q hq => by
      obtain ⟨ao, c, h1, h2, h3⟩ := x.held q hq
      exact ⟨ao, c, h1, h2.later hb (Nat.le_refl _), h3⟩
    mt := fun b hb' => ⟨Nat.lt_of_lt_of_le (x.mt b hb').1 hb.size, (x.mt b hb').2⟩ }
theorem PagS.later (x : PagS w p h cf hl n txt F) (hb : Below w.heap.size w w') : PagS w' p h cf hl n txt F := by
  obtain ⟨gh, gp, v, fh, fp, szp, Mh, s, Mt, x, hf, ha⟩ := x
  exact ⟨gh, gp, v, fh, fp, szp, Mh, s, Mt, x.later hb, hf, fun b h => Nat.lt_of_lt_of_le (ha b h) hb.size⟩
theorem PagL.off {S : Nat → Prop} (x : PagL w p h cf hl n txt gh gp v fh fp szp Mh s Mt) (k : Kept S w w') (hS : ∀ b, S b → ¬ (OwO Mh p gh gp v b ∨ Mt b)) : PagL w' p h cf hl n txt gh gp v fh fp szp Mh s Mt :=
  { x with
    o := x.o.off k (fun b hb e => hS b hb (.inl e))
    held := fun q hq => by
      obtain ⟨ao, c, h1, h2, h3, h4⟩ := x.held q hq
      exact ⟨ao, c, h1, h2.off k (fun b o e hs => hS b hs (.inr (h4 b o e))), h3, h4⟩
    mt := fun b hb' => ⟨Nat.lt_of_lt_of_le (x.mt b hb').1 k.size, (x.mt b hb').2⟩ }
theorem PagS.off {S : Nat → Prop} (x : PagS w p h cf hl n txt F) (k : Kept S w w') (hS : ∀ b, S b → ¬ F b) : PagS w' p h cf hl n txt F := by
  obtain ⟨gh, gp, v, fh, fp, szp, Mh, s, Mt, x, hf, ha⟩ := x
  exact ⟨gh, gp, v, fh, fp, szp, Mh, s, Mt, x.off k (fun b hb e => hS b hb (hf b e)), hf, fun b h => Nat.lt_of_lt_of_le (ha b h) k.size⟩
theorem PagS.all (x : PagS w p h cf hl n txt F) : ∀ b, F b → b < w.heap.size := by
  obtain ⟨gh, gp, v, fh, fp, szp, Mh, s, Mt, x, hf, ha⟩ := x
  exact ha
theorem PagS.good (x : PagS w p h cf hl n txt F) : cf.Good := by
  obtain ⟨gh, gp, v, fh, fp, szp, Mh, s, Mt, x, hf, ha⟩ := x
  exact x.good
theorem PagS.perm {hl' : List Nat} (x : PagS w p h cf hl n txt F) (hp : hl.Perm hl') : PagS w p h cf hl' n txt F := by
  obtain ⟨gh, gp, v, fh, fp, szp, Mh, s, Mt, x, hf, ha⟩ := x
  have hm : ∀ q, q ∈ hl ↔ q ∈ hl' := fun q => hp.mem_iff
  refine ⟨gh, gp, v, fh, fp, szp, Mh, s, Mt, { x with o := ?_, held := fun q hq => x.held q ((hm q).2 hq), none := fun k hk => x.none k (fun q hq => hk q ((hm q).1 hq)), nd := hp.nodup_iff.1 x.nd, len := ?_, rng := fun q hq => x.rng q ((hm q).2 hq), wrt := ?_, nwr := ?_ }, hf, ha⟩
  · rw [← hp.length_eq]; exact x.o
  · rw [← hp.length_eq]; exact x.len
  · intro q h1 h2
    obtain ⟨c, ver, h3, h4, h5, h6⟩ := x.wrt q h1 h2
    exact ⟨c, ver, h3, h4, h5, fun e => h6 (by rw [hm q]; exact e)⟩
  · intro q h1 h2
    obtain ⟨h3, h4⟩ := x.nwr q h1 h2
    exact ⟨h3, fun e => h4 (by rw [hm q]; exact e)⟩
end
theorem Hn.wrote {s : HSt} (x : Hn s) (q : Nat) (z : List Int) : Hn (s.wrote q z) := ⟨x.dn, x.cm, x.dp⟩
theorem Hn.logged {s : HSt} (x : Hn s) (t : Tc) : Hn (s.logged t) := ⟨x.dn, x.cm, x.dp⟩
theorem room_S (p h : Nat) (cf : Cf) (n : Nm) (txt : Nat → List Int) (F : Nat → Prop) (w : World) (x : PagS w p h cf n.ord n txt F) (hlog : n.log.length < 2000000000) (hwr : n.writes < 2000000000) :
    Calls Tryz.prog 66 #[.pointer (some ⟨p, 0, none⟩)] w fun e w' => e = .returned (.int .i64 0) ∧ ∃ F', PagS w' p h cf (n.room cf).ord (n.room cf) txt F' ∧ Ev F F' w w' := by
  by_cases hlt : n.ord.length < cf.win
  · have e : n.room cf = n := by unfold Nm.room; rw [if_pos hlt]
    rw [e]
    obtain ⟨gh, gp, v, fh, fp, szp, Mh, s, Mt, y, hf, ha⟩ := id x
    refine (room_free p gh gp h v fh _ fp szp Mh s _ w y.o (by rw [y.ew]; simpa using hlt)).mono ?_
    rintro e w' ⟨rfl, hb⟩
    exact ⟨rfl, F, x.later hb, Ev.below hb⟩
  · obtain ⟨gh, gp, v, fh, fp, szp, Mh, s, Mt, y, hf, ha⟩ := x
    have hw2 := y.good.win.1
    cases ho : n.ord with
    | nil => rw [ho] at hlt; simp at hlt; omega
    | cons q r =>
      have hlen := y.len.1
      rw [ho] at hlt hlen y
      simp at hlt hlen
      obtain ⟨ao, c, h1, h2, h3, h4⟩ := y.held q (by simp)
      have hqp := y.rng q (by simp)
      have hpg := y.good.pages
      have htx := y.good.text
      have hqr : q ∉ r := by have := y.nd; simp at this; exact this.1
      by_cases hst : n.st q = 2
      · have e : n.room cf = { n with ord := r, st := upn n.st q 1, wr := upn n.wr q true, writes := n.writes + 1, log := n.log ++ [⟨1, q, cf.text + 28, hdL cf.round n.writes⟩] } := by
          unfold Nm.room; rw [ho, if_neg (by simpa using hlt)]; simp [hst]
        rw [e]
        rw [hst] at h1
        obtain ⟨r0, c0, p0, q0, hfp⟩ : ∃ r0 c0 p0 q0, (fp q).getD (.agg #[.int .u64 0, .int .u32 0, .int .u32 0, .int .u32 0]) = .agg #[.int .u64 r0, .int .u32 c0, .int .u32 p0, .int .u32 q0] := by
          cases hw : n.wr q with
          | true => obtain ⟨c, ver, h5, _⟩ := y.wrt q hqp hw; exact ⟨_, _, _, _, by rw [h5]; rfl⟩
          | false => rw [(y.nwr q hqp hw).1]; exact ⟨_, _, _, _, rfl⟩
        have yo := y.o
        rw [ho] at yo
        refine (room_write p gh gp h q v fh _ fp szp Mh s (q : Int) (oI r) ao cf.text c (txt q) r0 c0 p0 q0 w yo rfl (by rw [y.ew]; simpa using hlt) (by simp; omega) h1 y.hn (by rw [y.sp]; exact hqp) (by omega) (by rw [y.so]; omega) y.ss (by omega) h2 (fun b o e => (y.mt b (h4 b o e)).1) h3 hfp (by rw [y.er]; exact y.good.round) (by rw [y.ewr]; omega) ⟨by simp; omega, by have := y.sz; omega⟩).mono ?_
        rintro e' w' ⟨rfl, o', M2, ver, hver, po, kk, hob, hs1, hs2⟩
        refine ⟨rfl, fun b => OwO M2 p gh gp { v with writes := v.writes + 1, order := o' } b ∨ Mt b, ⟨gh, gp, { v with writes := v.writes + 1, order := o' }, _, _, _, M2, _, Mt, { o := by have := po; rw [show (q :: r).length - 1 = r.length by simp] at this; exact this, ek := y.ek, er := y.er, ew := y.ew, ep := y.ep, et := y.et, em := y.em, ewr := by show v.writes + 1 = _; rw [y.ewr], ed := y.ed, good := y.good, held := ?_, none := ?_, nd := by have := y.nd; simp at this; exact this.2, len := ⟨by show r.length ≤ 17; omega, by show r.length ≤ 17; omega⟩, rng := fun k hk => y.rng k (by simp [hk]), wrt := ?_, nwr := ?_, tl := y.tl, sz := ?_, hn := (y.hn.next.wrote _ _).logged _, sp := y.sp, ss := y.ss, so := ?_, sl := ?_, mt := ?_ }, fun b hb => hb, ?_⟩, ⟨kk.mono (fun b hb => hf b (.inl hb)), ?_⟩⟩
        · intro k hk
          have hkq : k ≠ q := fun e => hqr (e ▸ hk)
          obtain ⟨ao', c', g1, g2, g3, g4⟩ := y.held k (by simp [hk])
          refine ⟨ao', c', ?_, g2.off kk (fun b o e hO => (y.mt b (g4 b o e)).2 hO), g3, g4⟩
          have hkq' : (k : Int) ≠ (q : Int) := by omega
          simp only [delF, updF, if_neg hkq', upn, if_neg hkq]
          exact g1
        · intro k hk
          by_cases e : k = (q : Int)
          · simp [delF, e]
          · simp only [delF, updF, if_neg e]
            exact y.none k (fun j hj => by
              rcases List.mem_cons.1 hj with rfl | hj
              · exact fun e2 => e e2.symm
              · exact hk j hj)
        · intro k hk hwk
          by_cases e : k = q
          · subst e
            refine ⟨n.writes, ver, by simp [updF, placeC, y.er, y.ewr], ⟨by omega, by omega⟩, hver, fun _ => ?_⟩
            have := ago_wrote s.next k (pageL v.key v.round v.writes k ver (txt k))
            rw [← y.ek, ← y.er, ← y.ewr]
            exact (ago_same k rfl rfl).trans this
          · have hw : n.wr k = true := by simpa [upn, e] using hwk
            obtain ⟨c', ver', g1, g2, g3, g4⟩ := y.wrt k hk hw
            refine ⟨c', ver', by have : (k : Int) ≠ (q : Int) := by omega
                                 simp only [updF, if_neg this]; exact g1, g2, g3, fun hh => ?_⟩
            refine ((ago_same k rfl rfl).trans (ago_other s.next q k e _)).trans ((ago_same k rfl rfl).trans (g4 ?_))
            rcases hh with hh | hh
            · exact .inl (by simp [e, hh])
            · exact .inr (by simpa [upn, e] using hh)
        · intro k hk hwk
          have e : k ≠ q := fun e => by subst e; simp [upn] at hwk
          have hw : n.wr k = false := by simpa [upn, e] using hwk
          obtain ⟨g1, g2⟩ := y.nwr k hk hw
          refine ⟨by have : (k : Int) ≠ (q : Int) := by omega
                     simp only [updF, if_neg this]; exact g1, fun hh => g2 ?_⟩
          rcases hh with hh | hh
          · exact .inl (by simp [e, hh])
          · exact .inr (by simpa [upn, e] using hh)
        · have := y.sz
          show (if (fp q).isSome then szp else szp + 1) ≤ n.writes + 1
          split <;> omega
        · show s.ops + 1 = (n.log ++ [_]).length
          rw [y.so]; simp
        · show s.log ++ [_] = n.log ++ [_]
          rw [y.sl, head_page, y.ss, y.er, y.ewr]
          rfl
        · intro b hb
          have h6 := y.mt b hb
          refine ⟨Nat.lt_of_lt_of_le h6.1 kk.size, fun hO => h6.2 ?_⟩
          rcases hO with (e | e | e | e) | e
          · exact .inl (.inl e)
          · exact .inl (.inr (.inl e))
          · exact .inl (.inr (.inr (.inl e)))
          · exact .inl (.inr (.inr (.inr ((hs2 b e).elim id (fun e => by omega)))))
          · exact .inr (by rw [← hob]; exact e)
        · intro b hb
          rcases hb with hb | hb
          · exact po.all b hb
          · exact Nat.lt_of_lt_of_le (y.mt b hb).1 kk.size
        · intro b hb
          rcases hb with ((e | e | e | e) | e) | hb
          · exact .inl (hf b (.inl (.inl (.inl e))))
          · exact .inl (hf b (.inl (.inl (.inr (.inl e)))))
          · exact .inl (hf b (.inl (.inl (.inr (.inr (.inl e))))))
          · exact (hs2 b e).imp (fun e => hf b (.inl (.inl (.inr (.inr (.inr e)))))) id
          · exact .inl (hf b (.inl (.inr (by rw [← hob]; exact e))))
          · exact .inl (hf b (.inr hb))
      · have e : n.room cf = { n with ord := r } := by
          unfold Nm.room; rw [ho, if_neg (by simpa using hlt)]; simp [hst]
        rw [e]
        have yo := y.o
        rw [ho] at yo
        refine (room_drop p gh gp h v fh _ fp szp Mh s (q : Int) (oI r) _ (n.st q) w yo (i64_nat (by omega)) (by rw [y.ew]; simpa using hlt) (by simp; omega) h1 hst).mono ?_
        rintro e' w' ⟨rfl, o', po, kk, hob⟩
        refine ⟨rfl, fun b => OwO Mh p gh gp { v with order := o' } b ∨ Mt b, ⟨gh, gp, { v with order := o' }, _, _, _, Mh, _, Mt, { o := by have := po; rw [show (q :: r).length - 1 = r.length by simp] at this; exact this, ek := y.ek, er := y.er, ew := y.ew, ep := y.ep, et := y.et, em := y.em, ewr := y.ewr, ed := y.ed, good := y.good, held := ?_, none := ?_, nd := by have := y.nd; simp at this; exact this.2, len := ⟨by show r.length ≤ 17; omega, by show r.length ≤ 17; omega⟩, rng := fun k hk => y.rng k (by simp [hk]), wrt := ?_, nwr := ?_, tl := y.tl, sz := y.sz, hn := y.hn, sp := y.sp, ss := y.ss, so := y.so, sl := y.sl, mt := ?_ }, fun b hb => hb, ?_⟩, ⟨kk.mono (fun b hb => hf b (.inl hb)), ?_⟩⟩
        · intro k hk
          have hkq : k ≠ q := fun e => hqr (e ▸ hk)
          obtain ⟨ao', c', g1, g2, g3, g4⟩ := y.held k (by simp [hk])
          refine ⟨ao', c', ?_, g2.off kk (fun b o e hO => (y.mt b (g4 b o e)).2 hO), g3, g4⟩
          have hkq' : (k : Int) ≠ (q : Int) := by omega
          simp only [delF, if_neg hkq']
          exact g1
        · intro k hk
          by_cases e : k = (q : Int)
          · simp [delF, e]
          · simp only [delF, if_neg e]
            exact y.none k (fun j hj => by
              rcases List.mem_cons.1 hj with rfl | hj
              · exact fun e2 => e e2.symm
              · exact hk j hj)
        · intro k hk hwk
          obtain ⟨c', ver', g1, g2, g3, g4⟩ := y.wrt k hk hwk
          refine ⟨c', ver', g1, g2, g3, fun hh => g4 ?_⟩
          by_cases e : k = q
          · subst e; exact .inr hst
          · rcases hh with hh | hh
            · exact .inl (by simp [e, hh])
            · exact .inr hh
        · intro k hk hwk
          obtain ⟨g1, g2⟩ := y.nwr k hk hwk
          refine ⟨g1, fun hh => g2 ?_⟩
          by_cases e : k = q
          · subst e; exact .inr hst
          · rcases hh with hh | hh
            · exact .inl (by simp [e, hh])
            · exact .inr hh
        · intro b hb
          have h6 := y.mt b hb
          refine ⟨Nat.lt_of_lt_of_le h6.1 kk.size, fun hO => h6.2 ?_⟩
          rcases hO with e | e
          · exact .inl e
          · exact .inr (by rw [← hob]; exact e)
        · intro b hb
          rcases hb with hb | hb
          · exact po.all b hb
          · exact Nat.lt_of_lt_of_le (y.mt b hb).1 kk.size
        · intro b hb
          rcases hb with (e | e) | hb
          · exact .inl (hf b (.inl (.inl e)))
          · exact .inl (hf b (.inl (.inr (by rw [← hob]; exact e))))
          · exact .inl (hf b (.inr hb))
end Go.Proofs.YtfhieacclifihaaGreat
namespace Go.Proofs.YtfhieacclifihaaGreat
open Go.RowKit
set_option linter.unusedVariables false
set_option linter.unusedSimpArgs false

/-- The map's pages with one more. -/
def addL (hl : List Nat) (q : Nat) : List Nat := if q ∈ hl then hl else q :: hl
theorem mem_addL (hl : List Nat) (q k : Nat) : k ∈ addL hl q ↔ k = q ∨ k ∈ hl := by
  unfold addL
  split
  · constructor
    · exact .inr
    · rintro (rfl | h) <;> assumption
  · simp
def Nm.put (n : Nm) (hl : List Nat) (q : Nat) (z : Int) : Nm := { n with st := upn n.st q z, most := max n.most (addL hl q).length }
theorem own_sliceP {w : World} {B t : Nat} {zs : List Int} {u : Value} (h : isO B t zs u w) (hl : zs.length = t) (hb : Bytes zs) (ht : t ≤ 4096) : ∃ uo c, u = .slice uo t c ∧ Seen w uo t zs ∧ t ≤ c ∧ ∀ b o, uo = some ⟨b, o, none⟩ → B ≤ b ∧ b < w.heap.size := by
  obtain ⟨uo, uc, rfl, su, huc, -⟩ := pown_sl hl hb (by omega) h
  refine ⟨uo, uc, rfl, su, huc, fun b o e => ?_⟩
  rcases h.2 with ⟨h1, _⟩ | ⟨g, cap, cur, h1, hg, hh, _⟩
  · cases h1; cases e
  · cases h1; cases e; exact ⟨hg, lt_of_block hh⟩
theorem put_S (p h : Nat) (cf : Cf) (hl : List Nat) (n : Nm) (txt : Nat → List Int) (F : Nat → Prop) (q : Nat) (uo : Option Addr) (c : Nat) (z : Int) (zs : List Int) (w : World) (x : PagS w p h cf hl n txt F) (hq : q < cf.pages) (hlen : hl.length ≤ 16)
    (hs : Seen w uo cf.text zs) (hc : cf.text ≤ c) (hu : ∀ b o, uo = some ⟨b, o, none⟩ → b < w.heap.size ∧ ¬ F b) (hz : z = 2 ∨ (q ∉ hl ∧ zs = txt q)) :
    Calls Tryz.prog 68 #[.pointer (some ⟨p, 0, none⟩), .int .i64 (q : Int), .agg #[.slice uo cf.text c, .int .i64 z]] w fun e w' => e = .returned (.tuple #[]) ∧ PagS w' p h cf (addL hl q) (n.put hl q z) (upn txt q zs) (fun b => F b ∨ ∃ o, uo = some ⟨b, o, none⟩) ∧ Kept F w w' := by
  obtain ⟨gh, gp, v, fh, fp, szp, Mh, s, Mt, y, hf, ha⟩ := x
  have hpg := y.good.pages
  refine (put_any p gh v fh hl.length (q : Int) (.slice uo cf.text c) (.int .i64 z) w y.o.m.pa y.o.m.he y.o.m.hm (i64_nat (by omega)) (by have := y.len.1; omega)).mono ?_
  rintro e w' ⟨rfl, p1, m1, k1⟩
  have hin : (if (fh q).isSome then hl.length else hl.length + 1) = (addL hl q).length := by
    by_cases hm : q ∈ hl
    · obtain ⟨ao, c', h1, _⟩ := y.held q hm
      rw [h1]; simp [addL, hm]
    · rw [y.none q (fun j hj e => hm (by have : j = q := by omega
                                         rwa [← this]))]
      simp [addL, hm]
  rw [hin] at p1 m1
  have kF : Kept F w w' := k1.mono (fun b e => hf b (by rcases e with e | e; exact .inl (.inl (.inl e)); exact .inl (.inl (.inr (.inl e)))))
  have kO : Kept (fun b => Ow Mh p gh gp b) w w' := k1.mono (fun b e => by rcases e with e | e; exact .inl e; exact .inr (.inl e))
  have nP : ∀ b, Mh b → ¬ (b = p ∨ b = gh) := fun b hb e => by
    rcases e with e | e
    · exact y.o.m.d1.1 (e ▸ hb)
    · exact y.o.m.d1.2.1 (e ▸ hb)
  have m2 : PgM w' p gh gp h { v with most := max v.most (addL hl q).length } (updF fh q (.agg #[.slice uo cf.text c, .int .i64 z])) (addL hl q).length fp szp Mh s :=
    ⟨p1, y.o.m.st, y.o.m.he, y.o.m.pe, m1, y.o.m.pm.kept k1 (fun e => by rcases e with e | e; exact y.o.m.pne.2 e.symm; exact y.o.m.d2 e.symm), y.o.m.ho.frame (Same.kept k1 (fun b hb => ⟨y.o.m.ho.all b hb, nP b hb⟩)), y.o.m.d1, y.o.m.d2⟩
  have po : PgO w' p gh gp h { v with most := max v.most (addL hl q).length } (updF fh q (.agg #[.slice uo cf.text c, .int .i64 z])) (addL hl q).length fp szp Mh s (oI n.ord) := y.o.on kO m2 rfl (fun b hb => .inl hb)
  have hlen2 : (addL hl q).length ≤ 17 := by unfold addL; split; omega; simp; omega
  refine ⟨rfl, ⟨gh, gp, { v with most := max v.most (addL hl q).length }, _, fp, szp, Mh, s, (fun b => Mt b ∨ ∃ o, uo = some ⟨b, o, none⟩), { o := po, ek := y.ek, er := y.er, ew := y.ew, ep := y.ep, et := y.et, em := by show max v.most _ = max n.most _; rw [y.em], ewr := y.ewr, ed := y.ed, good := y.good, held := ?_, none := ?_, nd := ?_, len := ⟨hlen2, y.len.2⟩, rng := ?_, wrt := ?_, nwr := ?_, tl := ?_, sz := y.sz, hn := y.hn, sp := y.sp, ss := y.ss, so := y.so, sl := y.sl, mt := ?_ }, ?_, ?_⟩, kF⟩
  · intro k hk
    by_cases e : k = q
    · subst e
      refine ⟨uo, c, by simp [updF, Nm.put, upn], ?_, hc, fun b o e => .inr ⟨o, e⟩⟩
      rw [show upn txt k zs k = zs by simp [upn]]
      exact hs.off kF (fun b o e => (hu b o e).2)
    · have hk2 := ((mem_addL hl q k).1 hk).resolve_left e
      obtain ⟨ao, c', g1, g2, g3, g4⟩ := y.held k hk2
      have hkq : (k : Int) ≠ (q : Int) := by omega
      refine ⟨ao, c', by simp only [updF, if_neg hkq, Nm.put, upn, if_neg e]; exact g1, ?_, g3, fun b o e => .inl (g4 b o e)⟩
      rw [show upn txt q zs k = txt k by simp [upn, e]]
      exact g2.off kO (fun b o e hO => (y.mt b (g4 b o e)).2 (.inl hO))
  · intro k hk
    have hkq : k ≠ (q : Int) := fun e => hk q ((mem_addL hl q q).2 (.inl rfl)) e.symm
    simp only [updF, if_neg hkq]
    exact y.none k (fun j hj => hk j ((mem_addL hl q j).2 (.inr hj)))
  · unfold addL
    split
    · exact y.nd
    · rename_i hm; exact List.nodup_cons.2 ⟨hm, y.nd⟩
  · intro k hk
    rcases (mem_addL hl q k).1 hk with rfl | hk
    · exact hq
    · exact y.rng k hk
  · intro k hk hw
    obtain ⟨c', ver, g1, g2, g3, g4⟩ := y.wrt k hk hw
    refine ⟨c', ver, g1, g2, g3, fun hh => ?_⟩
    by_cases e : k = q
    · subst e
      rw [show upn txt k zs k = zs by simp [upn]]
      rcases hz with hz | ⟨hz, hzs⟩
      · rcases hh with hh | hh
        · exact absurd ((mem_addL hl k k).2 (.inl rfl)) hh
        · exact absurd (show (n.put hl k z).st k = 2 by simp [Nm.put, upn, hz]) hh
      · rw [hzs]; exact g4 (.inl hz)
    · rw [show upn txt q zs k = txt k by simp [upn, e]]
      refine g4 ?_
      rcases hh with hh | hh
      · exact .inl (fun h => hh ((mem_addL hl q k).2 (.inr h)))
      · exact .inr (by simpa [Nm.put, upn, e] using hh)
  · intro k hk hw
    obtain ⟨g1, g2⟩ := y.nwr k hk hw
    refine ⟨g1, fun hh => ?_⟩
    by_cases e : k = q
    · subst e
      rw [show upn txt k zs k = zs by simp [upn]]
      rcases hz with hz | ⟨hz, hzs⟩
      · rcases hh with hh | hh
        · exact absurd ((mem_addL hl k k).2 (.inl rfl)) hh
        · exact absurd (show (n.put hl k z).st k = 2 by simp [Nm.put, upn, hz]) hh
      · rw [hzs]; exact g2 (.inl hz)
    · rw [show upn txt q zs k = txt k by simp [upn, e]]
      refine g2 ?_
      rcases hh with hh | hh
      · exact .inl (fun h => hh ((mem_addL hl q k).2 (.inr h)))
      · exact .inr (by simpa [Nm.put, upn, e] using hh)
  · intro k
    by_cases e : k = q
    · subst e; rw [show upn txt k zs k = zs by simp [upn]]; exact ⟨hs.len, hs.bytes⟩
    · rw [show upn txt q zs k = txt k by simp [upn, e]]; exact y.tl k
  · intro b hb
    rcases hb with hb | ⟨o, hb⟩
    · have := y.mt b hb
      exact ⟨Nat.lt_of_lt_of_le this.1 k1.size, this.2⟩
    · have := hu b o hb
      exact ⟨Nat.lt_of_lt_of_le this.1 k1.size, fun hO => this.2 (hf b (.inl hO))⟩
  · intro b hb
    rcases hb with hb | hb | hb
    · exact .inl (hf b (.inl hb))
    · exact .inl (hf b (.inr hb))
    · exact .inr hb
  · intro b hb
    rcases hb with hb | ⟨o, hb⟩
    · exact Nat.lt_of_lt_of_le (ha b hb) k1.size
    · exact Nat.lt_of_lt_of_le (hu b o hb).1 k1.size
def Nm.use (n : Nm) (q : Nat) : Nm := { n with ord := n.ord.erase q ++ [q] }
theorem erase_oI (l : List Nat) (q : Nat) : (oI l).erase (q : Int) = oI (l.erase q) := by
  induction l with
  | nil => rfl
  | cons a l ih =>
    by_cases e : a = q
    · subst e; simp [oI]
    · have e' : (a : Int) ≠ (q : Int) := by omega
      simp only [oI, List.map_cons] at ih ⊢
      rw [List.erase_cons_tail (by simpa using e'), List.erase_cons_tail (by simpa using e), ih, List.map_cons]
theorem use_S (p h : Nat) (cf : Cf) (hl : List Nat) (n : Nm) (txt : Nat → List Int) (F : Nat → Prop) (q : Nat) (w : World) (x : PagS w p h cf hl n txt F) (hlen : n.ord.length ≤ 16) :
    Calls Tryz.prog 70 #[.pointer (some ⟨p, 0, none⟩), .int .i64 (q : Int)] w fun e w' => e = .returned (.tuple #[]) ∧ ∃ F', PagS w' p h cf hl (n.use q) txt F' ∧ Ev F F' w w' := by
  obtain ⟨gh, gp, v, fh, fp, szp, Mh, s, Mt, y, hf, ha⟩ := x
  refine (use_any 0 p v (oI n.ord) (q : Int) w y.o.m.pa y.o.o (by simp; omega) (Nat.zero_le _)).mono ?_
  rintro e w' ⟨rfl, o', p1, o1, k1, n1⟩
  have kO : Kept (OwO Mh p gh gp v) w w' := k1.mono (fun b e => by rcases e with e | e; exact .inl (.inl e); exact .inr e)
  have nN : ∀ b, b < w.heap.size → ¬ (b = p ∨ v.order.ownBlock = some b) → w'.heap[b]? = w.heap[b]? := fun b hb hn => k1.block b hb hn
  have m1 : PgM w' p gh gp h { v with order := o' } fh hl.length fp szp Mh s :=
    ⟨p1, y.o.m.st, y.o.m.he, y.o.m.pe, y.o.m.hm.kept k1 (fun e => by rcases e with e | e; exact y.o.m.pne.1 e.symm; exact y.o.nO _ e (.inr (.inl rfl))), y.o.m.pm.kept k1 (fun e => by rcases e with e | e; exact y.o.m.pne.2 e.symm; exact y.o.nO _ e (.inr (.inr (.inl rfl)))), y.o.m.ho.frame (Same.kept k1 (fun b hb => ⟨y.o.m.ho.all b hb, fun e => by rcases e with e | e; exact y.o.m.d1.1 (e ▸ hb); exact y.o.d b e hb⟩)), y.o.m.d1, y.o.m.d2⟩
  have eO : usedL (oI n.ord) (q : Int) = oI (n.use q).ord := by
    unfold usedL; rw [erase_oI]; simp [oI, Nm.use]
  rw [eO] at o1
  have po : PgO w' p gh gp h { v with order := o' } fh hl.length fp szp Mh s (oI (n.use q).ord) := ⟨m1, o1, fun g hg hM => by
    rcases n1 g hg with e | e
    · exact y.o.d g e hM
    · have := y.o.m.ho.all g hM; omega⟩
  refine ⟨rfl, (fun b => OwO Mh p gh gp { v with order := o' } b ∨ Mt b), ⟨gh, gp, { v with order := o' }, fh, fp, szp, Mh, s, Mt, { y with o := po, held := ?_, len := ⟨y.len.1, ?_⟩, mt := ?_ }, fun b hb => hb, ?_⟩, ⟨kO.mono (fun b hb => hf b (.inl hb)), ?_⟩⟩
  · intro k hk
    obtain ⟨ao, c', g1, g2, g3, g4⟩ := y.held k hk
    exact ⟨ao, c', g1, g2.off kO (fun b o e hO => (y.mt b (g4 b o e)).2 hO), g3, g4⟩
  · show (n.ord.erase q ++ [q]).length ≤ 17
    have := List.length_erase_le (a := q) (l := n.ord)
    simp
    omega
  · intro b hb
    have h6 := y.mt b hb
    refine ⟨Nat.lt_of_lt_of_le h6.1 k1.size, fun hO => h6.2 ?_⟩
    rcases hO with e | e
    · exact .inl e
    · rcases n1 b e with e | e
      · exact .inr e
      · omega
  · intro b hb
    rcases hb with hb | hb
    · exact po.all b hb
    · exact Nat.lt_of_lt_of_le (y.mt b hb).1 k1.size
  · intro b hb
    rcases hb with (e | e) | hb
    · exact .inl (hf b (.inl (.inl e)))
    · rcases n1 b e with e | e
      · exact .inl (hf b (.inl (.inr e)))
      · exact .inr e
    · exact .inl (hf b (.inr hb))
end Go.Proofs.YtfhieacclifihaaGreat
namespace Go.Proofs.YtfhieacclifihaaGreat
open Go.RowKit
set_option linter.unusedVariables false
set_option linter.unusedSimpArgs false

def rtc (cf : Cf) (q : Nat) : Tc := ⟨0, q, cf.text + 28, List.replicate 12 0⟩
def Nm.fetch (cf : Cf) (n : Nm) (q : Nat) : Nm := if (n.room cf).wr q then ({ n.room cf with log := (n.room cf).log ++ [rtc cf q] }).put (n.room cf).ord q 1 else (n.room cf).put (n.room cf).ord q 0
def Nm.load (cf : Cf) (n : Nm) (q : Nat) : Nm := if q ∈ n.ord then n.use q else (n.fetch cf q).use q
def Nm.save (cf : Cf) (n : Nm) (q : Nat) : Nm := if q ∈ n.ord then (n.put n.ord q 2).use q else ((n.room cf).put (n.room cf).ord q 2).use q
theorem room_ord (cf : Cf) (n : Nm) : ∀ k ∈ (n.room cf).ord, k ∈ n.ord := by
  intro k hk
  unfold Nm.room at hk
  split at hk
  · exact hk
  · split at hk
    · exact hk
    · rename_i q r e
      rw [e]
      split at hk <;> simp at hk <;> simp [hk]
theorem room_len (cf : Cf) (n : Nm) (h : n.ord.length ≤ cf.win) (hw : 2 ≤ cf.win) : (n.room cf).ord.length + 1 ≤ cf.win := by
  unfold Nm.room
  split
  · omega
  · split
    · rename_i e; rw [e]; simp; omega
    · rename_i q r e
      rw [e] at h
      simp at h
      split <;> simp <;> omega
theorem lbuild (a : Option Addr) (n c : Nat) (z : Int) (w : World) : (Instr.build 141 #[(0, .slice a n c), (1, .int .i64 z)]).run Tryz.prog w = .ok (.agg #[.slice a n c, .int .i64 z]) w := by kernel_rfl
theorem pzLeaf : (Tryz.prog.info? 141).map (fun i => (i.zero, i.size)) = some (some (.agg [Value.slice none 0 0, .int .i64 0].toArray), 2) := by kernel_rfl
theorem upn_same {α : Type} (f : Nat → α) (q : Nat) : upn f q (f q) = f := by
  funext k; unfold upn; split
  · rename_i e; rw [e]
  · rfl
theorem seen_zero (w : World) (n : Nat) (hn : n ≤ 4096) : Seen (w.alloc (.cells (madeCells #[.int .u8 0] n) 5)) (some ⟨w.heap.size, 0, none⟩) n (List.replicate n 0) := by
  have b := made_blk w (.int .u8 0) n 5
  have e : List.replicate n (Value.int .u8 0) = u8s (List.replicate n 0) := by simp [u8s]
  rw [e] at b
  exact seen_page b (by simp) (fun z hz => by rw [List.eq_of_mem_replicate hz]; decide) (by omega)
/-- A page that was written is read. -/
theorem read_S (p h : Nat) (cf : Cf) (hl : List Nat) (n : Nm) (txt : Nat → List Int) (gh gp : Nat) (v : PgV) (fh fp : Int → Option Value) (szp : Nat) (Mh : Nat → Prop) (s : HSt) (Mt F : Nat → Prop) (q : Nat) (c ver : Int) (w : World) (y : PagL w p h cf hl n txt gh gp v fh fp szp Mh s Mt) (hf : ∀ b, OwO Mh p gh gp v b ∨ Mt b → F b) (hq : q < cf.pages) (hlog : n.log.length < 2000000000)
    (hc : U32 c) (hv : U32 ver) (ha : agoL s q 0 = pageL cf.key cf.round c q ver (txt q)) :
    Calls Tryz.prog 77 #[.pointer (some ⟨p, 0, none⟩), .int .i64 (q : Int), .agg #[.int .u64 cf.round, .int .u32 c, .int .u32 (q : Int), .int .u32 ver]] w fun e w' => ∃ u F' B, e = .returned (.tuple #[u, .int .i64 0]) ∧ PagS w' p h cf hl { n with log := n.log ++ [rtc cf q] } txt F' ∧ Ev F F' w w' ∧ isO B cf.text (txt q) u w' ∧ w.heap.size ≤ B ∧ ∀ b, F' b → b < B := by
  have hpg := y.good.pages
  have htx := y.good.text
  have htl := y.tl q
  refine (gread_any p h q v s Mh cf.round c q ver (txt q) w y.o.m.pa y.o.m.st y.o.m.ho y.hn (by rw [y.sp]; exact hq) (by rw [y.so]; omega) y.o.m.d1.1 (by rw [htl.1]; omega) (by rw [y.ss, htl.1]) htl.2 y.good.round hc ⟨by omega, by omega⟩ hv (by rw [ha, y.ek])).mono ?_
  rintro e w' ⟨u, M2, B, rfl, h2, g2, o2, hB, hM⟩
  have m2 := y.o.m.hosted g2 h2
  have po : PgO w' p gh gp h v fh hl.length fp szp M2 (s.next.logged ⟨0, q, s.size, List.replicate 12 0⟩) (oI n.ord) := ⟨m2, own_keptP y.o.o g2.kept (fun b hb e => y.o.d b hb e), fun g hg h3 => (g2.new g h3).elim (y.o.d g hg) (fun e => by have := own_lt y.o.o hg; omega)⟩
  have hOw : ∀ b, OwO M2 p gh gp v b → OwO Mh p gh gp v b ∨ w.heap.size ≤ b := fun b hb => by
    rcases hb with (e | e | e | e) | e
    · exact .inl (.inl (.inl e))
    · exact .inl (.inl (.inr (.inl e)))
    · exact .inl (.inl (.inr (.inr (.inl e))))
    · exact (g2.new b e).imp (fun e => .inl (.inr (.inr (.inr e)))) id
    · exact .inl (.inr e)
  have kF : Kept F w w' := g2.kept.mono (fun b e => hf b (.inl (.inl (.inr (.inr (.inr e))))))
  have hall : ∀ b, OwO M2 p gh gp v b ∨ Mt b → b < B := fun b hb => by
    rcases hb with ((e | e | e | e) | e) | hb
    · have := y.o.m.pa.blk.lt; omega
    · have := y.o.m.hm.lt; omega
    · have := y.o.m.pm.lt; omega
    · exact hM b e
    · have := own_lt y.o.o e; omega
    · have := (y.mt b hb).1; omega
  refine ⟨u, fun b => OwO M2 p gh gp v b ∨ Mt b, B, rfl, ⟨gh, gp, v, fh, fp, szp, M2, _, Mt, { y with o := po, held := ?_, wrt := ?_, hn := y.hn.next.logged _, so := ?_, sl := ?_, mt := ?_ }, fun b hb => hb, ?_⟩, ⟨kF, ?_⟩, ?_, hB, hall⟩
  · intro k hk
    obtain ⟨ao, c', g1, g3, g4, g5⟩ := y.held k hk
    exact ⟨ao, c', g1, g3.off g2.kept (fun b o e hO => (y.mt b (g5 b o e)).2 (.inl (.inr (.inr (.inr hO))))), g4, g5⟩
  · intro k hk hw
    obtain ⟨c', ver', g1, g3, g4, g5⟩ := y.wrt k hk hw
    exact ⟨c', ver', g1, g3, g4, fun hh => (ago_same k rfl rfl).trans (g5 hh)⟩
  · show s.ops + 1 = (n.log ++ [_]).length
    rw [y.so]; simp
  · show s.log ++ [_] = n.log ++ [_]
    rw [y.sl, y.ss]; rfl
  · intro b hb
    have h6 := y.mt b hb
    exact ⟨Nat.lt_of_lt_of_le h6.1 g2.kept.size, fun hO => (hOw b hO).elim h6.2 (fun e => by omega)⟩
  · intro b hb
    rcases hb with hb | hb
    · exact po.all b hb
    · exact Nat.lt_of_lt_of_le (y.mt b hb).1 g2.kept.size
  · intro b hb
    rcases hb with hb | hb
    · exact (hOw b hb).imp (fun e => hf b (.inl e)) id
    · exact .inl (hf b (.inr hb))
  · rw [htl.1] at o2; exact o2
end Go.Proofs.YtfhieacclifihaaGreat
namespace Go.Proofs.YtfhieacclifihaaGreat
open Go.RowKit
set_option linter.unusedVariables false
set_option linter.unusedSimpArgs false

set_option maxRecDepth 20000 in
set_option maxHeartbeats 4000000 in
theorem fetch_S (p h : Nat) (cf : Cf) (n : Nm) (txt : Nat → List Int) (F : Nat → Prop) (q : Nat) (w : World) (x : PagS w p h cf n.ord n txt F) (hq : q < cf.pages) (hqo : q ∉ n.ord) (hol : n.ord.length ≤ cf.win) (hlog : n.log.length < 1000000000) (hwr : n.writes < 1000000000) :
    Calls Tryz.prog 71 #[.pointer (some ⟨p, 0, none⟩), .int .i64 (q : Int)] w fun e w' => e = .returned (.int .i64 0) ∧ ∃ F', PagS w' p h cf (q :: (n.room cf).ord) (n.fetch cf q) txt F' ∧ Ev F F' w w' := by
  have HR : Hid (Calls Tryz.prog 66 #[.pointer (some ⟨p, 0, none⟩)] w fun e w' => e = .returned (.int .i64 0) ∧ ∃ F', PagS w' p h cf (n.room cf).ord (n.room cf) txt F' ∧ Ev F F' w w') := room_S p h cf n txt F w x (by omega) (by omega)
  have HQ : Hid (q < cf.pages ∧ q ∉ (n.room cf).ord ∧ cf.Good ∧ (n.room cf).ord.length ≤ 16 ∧ (n.room cf).log.length < 2000000000) := ⟨hq, fun e => hqo (room_ord cf n q e), x.good, by have := room_len cf n hol x.good.win.1; have := x.good.win.2; omega, by
    unfold Nm.room
    split
    · omega
    · split
      · omega
      · split <;> simp <;> omega⟩
  cases hw : (n.room cf).wr q with
  | false =>
    have EN : Hid (n.fetch cf q = (n.room cf).put (n.room cf).ord q 0) := by unfold Nm.fetch; rw [hw]; rfl
    have HW : Hid ((n.room cf).wr q = false) := hw
    clear x hq hqo hol hlog hwr hw
    go_enter Tryz.func71, Tryz.ntmps71
    go_wp2_with (go_at_call 66; refine HR.out.mono ?_)
    first | rintro e w1 rfl F1 x1 ev1 | rintro e w1 ⟨rfl, F1, x1, ev1⟩
    obtain ⟨gh, gp, v, fh, fp, szp, Mh, s, Mt, y, hf, ha⟩ := id x1
    have X1 : Hid (PagS w1 p h cf (n.room cf).ord (n.room cf) txt F1 ∧ Ev F F1 w w1 ∧ txt q = List.replicate cf.text 0) := ⟨x1, ev1, (y.nwr q HQ.out.1 HW.out).2 (.inl HQ.out.2.1)⟩
    have Y1 : Hid (PgAt w1 p v ∧ v.text = cf.text) := ⟨y.o.m.pa, y.et⟩
    have c1 : w1.cell? ⟨p, 39, none⟩ = some (.map (some gp)) := y.o.m.pa.cell 6 _ (by rw [← y.o.m.pe]; rfl)
    have hL : (Instr.lookup 113 (.map (some gp)) (.int .i64 (q : Int)) true).run Tryz.prog w1 = .ok (.tuple #[.agg #[.int .u64 0, .int .u32 0, .int .u32 0, .int .u32 0], .bool false]) w1 := by
      have := y.o.m.pm.look_ok (t := 113) Tryz.underlying113 (zeroPlace w1) (k := (q : Int)) (i64_nat (by have := HQ.out.1; have := HQ.out.2.2.1.pages; omega))
      rw [(y.nwr q HQ.out.1 HW.out).1] at this
      exact this
    clear x1 ev1 y hf ha HR
    have htx := HQ.out.2.2.1.text
    go_wp2_with (first | (refine wpList_alloc_new rfl 150 rfl 4 _ pzPlace ?_; intro w2 b2 s2 l2; have S2 : Hid (w2.heap.size = w1.heap.size + 1) := s2; clear s2) | (refine wpList_store_blk rfl 150 150 _ _ rfl _ rfl _ (placeC 0 0 0 0) rfl b2 rfl pzKey (placeC_one _ _ _ _) ?_; intro w3 b3 s3 k3; have L3 : Below w1.heap.size w1 w3 := below_kept l2 k3 (by have := S2.out; omega) (fun j hj => by omega); clear s3; have c3 : w3.cell? ⟨p, 36, none⟩ = some (.int .i64 (cf.text : Int)) := (Y1.out.1.later L3 Y1.out.1.blk.lt).cell 3 _ (by rw [← Y1.out.2]; rfl); have mk := mk_bytes cf.text (by omega) w3; have lb := lbuild (some ⟨w3.heap.size, 0, none⟩) cf.text cf.text 0 (w3.alloc (.cells (madeCells #[.int .u8 0] cf.text) 5))))
    have l4 : Below w1.heap.size w1 (w3.alloc (.cells (madeCells #[.int .u8 0] cf.text) 5)) := L3.alloc (by have := L3.size; omega) _
    have hs4 : Seen (w3.alloc (.cells (madeCells #[.int .u8 0] cf.text) 5)) (some ⟨w3.heap.size, 0, none⟩) cf.text (List.replicate cf.text 0) := seen_zero w3 cf.text (by omega)
    have hu4 : ∀ b o, (some (⟨w3.heap.size, 0, none⟩ : Addr)) = some ⟨b, o, none⟩ → b < (w3.alloc (.cells (madeCells #[.int .u8 0] cf.text) 5)).heap.size ∧ ¬ F1 b := fun b o e => by
      cases e
      exact ⟨by simp, fun hF => by have := X1.out.1.all _ hF; have := L3.size; omega⟩
    have CP := put_S p h cf (n.room cf).ord (n.room cf) txt F1 q (some ⟨w3.heap.size, 0, none⟩) cf.text 0 (List.replicate cf.text 0) (w3.alloc (.cells (madeCells #[.int .u8 0] cf.text) 5)) (X1.out.1.later l4) HQ.out.1 HQ.out.2.2.2.1 hs4 (Nat.le_refl _) hu4 (.inr ⟨HQ.out.2.1, X1.out.2.2.symm⟩)
    go_at_call 68
    refine CP.mono ?_
    first | rintro e w5 rfl x5 k5 | rintro e w5 ⟨rfl, x5, k5⟩
    have X5 : Hid (PagS w5 p h cf (q :: (n.room cf).ord) (n.fetch cf q) txt (fun b => F1 b ∨ ∃ o, some (⟨w3.heap.size, 0, none⟩ : Addr) = some ⟨b, o, none⟩)) := by
      have := x5
      rw [EN.out]
      rw [← X1.out.2.2, upn_same, show addL (n.room cf).ord q = q :: (n.room cf).ord by unfold addL; rw [if_neg HQ.out.2.1]] at this
      exact this
    have E5 : Hid (Ev F (fun b => F1 b ∨ ∃ o, some (⟨w3.heap.size, 0, none⟩ : Addr) = some ⟨b, o, none⟩) w w5) := X1.out.2.1.trans ⟨(Kept.new F1 (L3.alloc (by have := L3.size; omega) _)).trans k5, fun b hb => hb.imp id (fun ⟨o, e⟩ => by cases e; exact L3.size)⟩
    clear x5 k5
    go_wp2
    go_ret
    exact ⟨rfl, _, X5.out, E5.out⟩
  | true =>
    have EN : Hid (n.fetch cf q = ({ n.room cf with log := (n.room cf).log ++ [rtc cf q] } : Nm).put (n.room cf).ord q 1) := by unfold Nm.fetch; rw [hw]; rfl
    have HW : Hid ((n.room cf).wr q = true) := hw
    clear x hq hqo hol hlog hwr hw
    go_enter Tryz.func71, Tryz.ntmps71
    go_wp2_with (go_at_call 66; refine HR.out.mono ?_)
    first | rintro e w1 rfl F1 x1 ev1 | rintro e w1 ⟨rfl, F1, x1, ev1⟩
    obtain ⟨gh, gp, v, fh, fp, szp, Mh, s, Mt, y, hf, ha⟩ := id x1
    obtain ⟨pc, pv, hfp, hpc, hpv, hag⟩ := y.wrt q HQ.out.1 HW.out
    have X1 : Hid (PagS w1 p h cf (n.room cf).ord (n.room cf) txt F1 ∧ Ev F F1 w w1) := ⟨x1, ev1⟩
    have HRd : Hid (∀ W, Below w1.heap.size w1 W → Calls Tryz.prog 77 #[.pointer (some ⟨p, 0, none⟩), .int .i64 (q : Int), .agg #[.int .u64 cf.round, .int .u32 pc, .int .u32 (q : Int), .int .u32 pv]] W fun e w' => ∃ u F' B, e = .returned (.tuple #[u, .int .i64 0]) ∧ PagS w' p h cf (n.room cf).ord { n.room cf with log := (n.room cf).log ++ [rtc cf q] } txt F' ∧ Ev F1 F' W w' ∧ isO B cf.text (txt q) u w' ∧ W.heap.size ≤ B ∧ ∀ b, F' b → b < B) := fun W hW => read_S p h cf _ _ txt gh gp v fh fp szp Mh s Mt F1 q pc pv W (y.later hW) hf HQ.out.1 HQ.out.2.2.2.2 hpc hpv (hag (.inl HQ.out.2.1))
    have HTL : Hid ((txt q).length = cf.text ∧ Bytes (txt q)) := y.tl q
    have c1 : w1.cell? ⟨p, 39, none⟩ = some (.map (some gp)) := y.o.m.pa.cell 6 _ (by rw [← y.o.m.pe]; rfl)
    have hL : (Instr.lookup 113 (.map (some gp)) (.int .i64 (q : Int)) true).run Tryz.prog w1 = .ok (.tuple #[.agg #[.int .u64 cf.round, .int .u32 pc, .int .u32 (q : Int), .int .u32 pv], .bool true]) w1 := by
      have := y.o.m.pm.look_ok (t := 113) Tryz.underlying113 (zeroPlace w1) (k := (q : Int)) (i64_nat (by have := HQ.out.1; have := HQ.out.2.2.1.pages; omega))
      rw [hfp] at this
      exact this
    clear x1 ev1 y hf ha HR hfp hpc hpv hag
    have htx := HQ.out.2.2.1.text
    go_wp2_with (first | (refine wpList_alloc_new rfl 150 rfl 4 _ pzPlace ?_; intro w2 b2 s2 l2; have S2 : Hid (w2.heap.size = w1.heap.size + 1) := s2; clear s2) | (refine wpList_store_blk rfl 150 150 _ _ rfl _ rfl _ (placeC cf.round pc (q : Int) pv) rfl b2 rfl pzKey (placeC_one _ _ _ _) ?_; intro w3 b3 s3 k3; have L3 : Below w1.heap.size w1 w3 := below_kept l2 k3 (by have := S2.out; omega) (fun j hj => by omega); clear s3) | (refine wpList_load_blk rfl 150 _ rfl _ rfl (placeC cf.round pc (q : Int) pv) _ b3 Tryz.underlying150 rfl pzKey ?_) | (go_at_call 77; refine (HRd.out w3 L3).mono ?_))
    rintro e w4 ⟨_, F4, B4, rfl, x4, ev4, o4, hB4, hF4⟩
    obtain ⟨uo, uc, rfl, su, huc, hub⟩ := own_sliceP o4 HTL.out.1 HTL.out.2 (by omega)
    have X4 : Hid (PagS w4 p h cf (n.room cf).ord { n.room cf with log := (n.room cf).log ++ [rtc cf q] } txt F4 ∧ Ev F F4 w w4) := ⟨x4, X1.out.2.trans ((Ev.below L3).trans ev4)⟩
    have lb := lbuild uo cf.text uc 1 w4
    have HU : Hid (Seen w4 uo cf.text (txt q) ∧ cf.text ≤ uc ∧ (∀ b o, uo = some ⟨b, o, none⟩ → b < w4.heap.size ∧ ¬ F4 b) ∧ ∀ b o, uo = some ⟨b, o, none⟩ → w.heap.size ≤ b) := ⟨su, huc, fun b o e => ⟨(hub b o e).2, fun hF => by have := hF4 b hF; have := (hub b o e).1; omega⟩, fun b o e => by have h1 := (hub b o e).1; have h2 := X1.out.2.kept.size; have h3 := L3.size; omega⟩
    clear x4 ev4 o4 hB4 hF4 su huc hub b2 l2 b3 k3 hL c1
    go_wp2_with (go_at_call 68; refine (put_S p h cf (n.room cf).ord { n.room cf with log := (n.room cf).log ++ [rtc cf q] } txt F4 q uo uc 1 (txt q) w4 X4.out.1 HQ.out.1 HQ.out.2.2.2.1 HU.out.1 HU.out.2.1 HU.out.2.2.1 (.inr ⟨HQ.out.2.1, rfl⟩)).mono ?_)
    first | rintro e w5 rfl x5 k5 | rintro e w5 ⟨rfl, x5, k5⟩
    have X5 : Hid (PagS w5 p h cf (q :: (n.room cf).ord) (n.fetch cf q) txt (fun b => F4 b ∨ ∃ o, uo = some ⟨b, o, none⟩)) := by
      have := x5
      rw [EN.out]
      rw [upn_same, show addL (n.room cf).ord q = q :: (n.room cf).ord by unfold addL; rw [if_neg HQ.out.2.1]] at this
      exact this
    have E5 : Hid (Ev F (fun b => F4 b ∨ ∃ o, uo = some ⟨b, o, none⟩) w w5) := ⟨(X4.out.2.trans ⟨k5, fun b hb => .inl hb⟩ : Ev F F4 w w5).kept, fun b hb => by
      rcases hb with hb | ⟨o, e⟩
      · exact X4.out.2.new b hb
      · exact .inr (HU.out.2.2.2 b o e)⟩
    clear x5 k5
    go_wp2
    go_ret
    exact ⟨rfl, _, X5.out, E5.out⟩
end Go.Proofs.YtfhieacclifihaaGreat
namespace Go.Proofs.YtfhieacclifihaaGreat
open Go.RowKit
set_option linter.unusedVariables false
set_option linter.unusedSimpArgs false

theorem perm_use (l : List Nat) (q : Nat) (h : q ∈ l) : l.Perm (l.erase q ++ [q]) := (List.perm_cons_erase h).trans (List.perm_append_singleton q _).symm
theorem fetch_ord (cf : Cf) (n : Nm) (q : Nat) : (n.fetch cf q).ord = (n.room cf).ord := by unfold Nm.fetch; split <;> rfl
theorem erase_no (l : List Nat) (q : Nat) (h : q ∉ l) : l.erase q = l := List.erase_of_not_mem h
set_option maxRecDepth 20000 in
set_option maxHeartbeats 4000000 in
theorem load_S (p h : Nat) (cf : Cf) (n : Nm) (txt : Nat → List Int) (F : Nat → Prop) (q : Nat) (w : World) (x : PagS w p h cf n.ord n txt F) (hq : q < cf.pages) (hol : n.ord.length ≤ cf.win) (hlog : n.log.length < 1000000000) (hwr : n.writes < 1000000000) :
    Calls Tryz.prog 38 #[.pointer (some ⟨p, 0, none⟩), .int .i64 (q : Int)] w fun e w' => ∃ u F' B, e = .returned (.tuple #[u, .int .i64 0]) ∧ PagS w' p h cf (n.load cf q).ord (n.load cf q) txt F' ∧ Ev F F' w w' ∧ isO B cf.text (txt q) u w' ∧ w.heap.size ≤ B ∧ ∀ b, F' b → b < B := by
  have HC : Hid (Calls Tryz.prog 65 #[.pointer (some ⟨p, 0, none⟩), .int .i64 (q : Int)] w fun e w' => e = .returned (.int .i64 0) ∧ w = w') := by
    obtain ⟨gh, gp, v, fh, fp, szp, Mh, s, Mt, y, hf, ha⟩ := x
    have := gcheck_any p v q w y.o.m.pa
    rw [show chkE v q = 0 by unfold chkE; rw [if_neg (by simp [y.ed]), if_neg (by rw [y.ep]; omega)]] at this
    exact this
  by_cases hm : q ∈ n.ord
  · have HQ : Hid (q < cf.pages ∧ q ∈ n.ord ∧ cf.Good) := ⟨hq, hm, x.good⟩
    have EN : Hid (n.load cf q = n.use q) := by show _ = _; unfold Nm.load; rw [if_pos hm]
    have HP : Hid (n.ord.Perm (n.use q).ord) := perm_use _ _ hm
    have HM : Hid (q ∈ n.ord) := hm
    obtain ⟨gh, gp, v, fh, fp, szp, Mh, s, Mt, y, hf, ha⟩ := id x
    obtain ⟨ao, c, hfh, -⟩ := y.held q HQ.out.2.1
    have c1 : w.cell? ⟨p, 37, none⟩ = some (.map (some gh)) := y.o.m.pa.cell 4 _ (by rw [← y.o.m.he]; rfl)
    have hL : (Instr.lookup 112 (.map (some gh)) (.int .i64 (q : Int)) true).run Tryz.prog w = .ok (.tuple #[.agg #[.slice ao cf.text c, .int .i64 (n.st q)], .bool true]) w := by
      have := y.o.m.hm.look_ok (t := 112) Tryz.underlying112 (zeroLeaf w) (k := (q : Int)) (i64_nat (by have := HQ.out.1; have := HQ.out.2.2.pages; omega))
      rw [hfh] at this
      exact this
    have CU : Hid (∀ W, Below w.heap.size w W → Calls Tryz.prog 70 #[.pointer (some ⟨p, 0, none⟩), .int .i64 (q : Int)] W fun e w' => e = .returned (.tuple #[]) ∧ ∃ F', PagS w' p h cf n.ord (n.use q) txt F' ∧ Ev F F' W w') := fun W hW => use_S p h cf n.ord n txt F q W (x.later hW) (by have := x.good.win.2; omega)
    clear x hq hol hlog hwr hm y hf ha hfh
    go_enter Tryz.func38, Tryz.ntmps38
    go_wp2_with (first | (go_at_call 65; refine HC.out.mono ?_; rintro e _ ⟨rfl, rfl⟩) | (refine wpList_alloc_new rfl 141 rfl 2 _ pzLeaf ?_; intro w2 b2 s2 l2; have S2 : Hid (w2.heap.size = w.heap.size + 1) := s2; clear s2) | (refine wpList_store_blk rfl 141 141 _ _ rfl _ rfl _ [.slice ao cf.text c, .int .i64 (n.st q)] rfl b2 rfl leafSize (by intro u hu; simp at hu; rcases hu with rfl | rfl <;> rfl) ?_; intro w3 b3 s3 k3; have L3 : Below w.heap.size w w3 := below_kept l2 k3 (by have := S2.out; omega) (fun j hj => by omega); clear s3) | (go_at_call 70; refine (CU.out w3 L3).mono ?_))
    first | rintro e w5 rfl F5 x5 e5 | rintro e w5 ⟨rfl, F5, x5, e5⟩
    have E5 : Hid (Ev F F5 w w5) := (Ev.below L3).trans e5
    clear e5 b2 l2 b3 k3 hL c1
    obtain ⟨gh5, gp5, v5, fh5, fp5, szp5, Mh5, s5, Mt5, y5, hf5, ha5⟩ := id x5
    obtain ⟨ao5, c5, hfh5, hs5, hc5, -⟩ := y5.held q HM.out
    have c51 : w5.cell? ⟨p, 37, none⟩ = some (.map (some gh5)) := y5.o.m.pa.cell 4 _ (by rw [← y5.o.m.he]; rfl)
    have hL5 : (Instr.lookup 112 (.map (some gh5)) (.int .i64 (q : Int)) false).run Tryz.prog w5 = .ok (.agg #[.slice ao5 cf.text c5, .int .i64 ((n.use q).st q)]) w5 := by
      have := y5.o.m.hm.look (t := 112) Tryz.underlying112 (zeroLeaf w5) (k := (q : Int)) (i64_nat (by have := HQ.out.1; have := HQ.out.2.2.pages; omega))
      rw [hfh5] at this
      exact this
    have hF5 := leaf0 ao5 cf.text c5 (.int .i64 ((n.use q).st q)) w5
    have X5 : Hid (PagS w5 p h cf (n.use q).ord (n.use q) txt F5 ∧ Ev F F5 w w5) := ⟨x5.perm HP.out, E5.out⟩
    have HCl : Hid (Calls Tryz.prog 69 #[.slice ao5 cf.text c5] w5 fun e w' => ∃ v, e = .returned v ∧ w'.ownsRow w5.heap.size 5 1 v cf.text ((txt q).map (Value.int .u8)) ∧ Below w5.heap.size w5 w') := clone_any ao5 cf.text c5 (txt q) w5 hs5
    clear x5 y5 hf5 ha5 hfh5 hs5 hc5 E5
    go_wp2_with (go_at_call 69; refine HCl.out.mono ?_)
    rintro e w6 ⟨u, rfl, o6, l6⟩
    have R6 : Hid (PagS w6 p h cf (n.use q).ord (n.use q) txt F5 ∧ Ev F F5 w w6 ∧ isO w5.heap.size cf.text (txt q) u w6 ∧ w.heap.size ≤ w5.heap.size ∧ ∀ b, F5 b → b < w5.heap.size) := ⟨X5.out.1.later l6, X5.out.2.trans (Ev.below l6), o6, X5.out.2.kept.size, X5.out.1.all⟩
    clear o6 l6
    go_wp2
    go_ret2
    rw [EN.out]
    exact ⟨u, F5, w5.heap.size, rfl, R6.out⟩
  · have HQ : Hid (q < cf.pages ∧ q ∉ n.ord ∧ cf.Good) := ⟨hq, hm, x.good⟩
    have hq1 : q ∉ (n.room cf).ord := fun e => hm (room_ord cf n q e)
    have EN : Hid (n.load cf q = (n.fetch cf q).use q) := by show _ = _; unfold Nm.load; rw [if_neg hm]
    have HP : Hid ((q :: (n.room cf).ord).Perm ((n.fetch cf q).use q).ord) := by
      show (q :: (n.room cf).ord).Perm ((n.fetch cf q).ord.erase q ++ [q])
      rw [fetch_ord, erase_no _ _ hq1]
      exact (List.perm_append_singleton q _).symm
    have HM : Hid (q ∈ q :: (n.room cf).ord) := by show _ ∈ _; simp
    have HL5 : Hid ((n.fetch cf q).ord.length ≤ 16) := by
      show _ ≤ _
      rw [fetch_ord]
      have := room_len cf n hol x.good.win.1
      have := x.good.win.2
      omega
    obtain ⟨gh, gp, v, fh, fp, szp, Mh, s, Mt, y, hf, ha⟩ := id x
    have c1 : w.cell? ⟨p, 37, none⟩ = some (.map (some gh)) := y.o.m.pa.cell 4 _ (by rw [← y.o.m.he]; rfl)
    have hL : (Instr.lookup 112 (.map (some gh)) (.int .i64 (q : Int)) true).run Tryz.prog w = .ok (.tuple #[.agg #[.slice none 0 0, .int .i64 0], .bool false]) w := by
      have := y.o.m.hm.look_ok (t := 112) Tryz.underlying112 (zeroLeaf w) (k := (q : Int)) (i64_nat (by have := HQ.out.1; have := HQ.out.2.2.pages; omega))
      rw [y.none q (fun j hj e => HQ.out.2.1 (by have : j = q := by omega
                                                 rwa [← this]))] at this
      exact this
    have CF : Hid (∀ W, Below w.heap.size w W → Calls Tryz.prog 71 #[.pointer (some ⟨p, 0, none⟩), .int .i64 (q : Int)] W fun e w' => e = .returned (.int .i64 0) ∧ ∃ F', PagS w' p h cf (q :: (n.room cf).ord) (n.fetch cf q) txt F' ∧ Ev F F' W w') := fun W hW => fetch_S p h cf n txt F q W (x.later hW) hq hm hol hlog hwr
    clear x hq hol hlog hwr hm y hf ha hq1
    go_enter Tryz.func38, Tryz.ntmps38
    go_wp2_with (first | (go_at_call 65; refine HC.out.mono ?_; rintro e _ ⟨rfl, rfl⟩) | (refine wpList_alloc_new rfl 141 rfl 2 _ pzLeaf ?_; intro w2 b2 s2 l2; have S2 : Hid (w2.heap.size = w.heap.size + 1) := s2; clear s2) | (refine wpList_store_blk rfl 141 141 _ _ rfl _ rfl _ [.slice none 0 0, .int .i64 0] rfl b2 rfl leafSize (by intro u hu; simp at hu; rcases hu with rfl | rfl <;> rfl) ?_; intro w3 b3 s3 k3; have L3 : Below w.heap.size w w3 := below_kept l2 k3 (by have := S2.out; omega) (fun j hj => by omega); clear s3) | (go_at_call 71; refine (CF.out w3 L3).mono ?_))
    first | rintro e w4 rfl F4 x4 e4 | rintro e w4 ⟨rfl, F4, x4, e4⟩
    have X4 : Hid (PagS w4 p h cf (q :: (n.room cf).ord) (n.fetch cf q) txt F4 ∧ Ev F F4 w w4) := ⟨x4, (Ev.below L3).trans e4⟩
    have CU : Hid (Calls Tryz.prog 70 #[.pointer (some ⟨p, 0, none⟩), .int .i64 (q : Int)] w4 fun e w' => e = .returned (.tuple #[]) ∧ ∃ F', PagS w' p h cf (q :: (n.room cf).ord) ((n.fetch cf q).use q) txt F' ∧ Ev F4 F' w4 w') := use_S p h cf _ _ txt F4 q w4 x4 HL5.out
    clear x4 e4 b2 l2 b3 k3 hL c1
    go_wp2_with (go_at_call 70; refine CU.out.mono ?_)
    first | rintro e w5 rfl F5 x5 e5 | rintro e w5 ⟨rfl, F5, x5, e5⟩
    have E5 : Hid (Ev F F5 w w5) := X4.out.2.trans e5
    clear e5
    obtain ⟨gh5, gp5, v5, fh5, fp5, szp5, Mh5, s5, Mt5, y5, hf5, ha5⟩ := id x5
    obtain ⟨ao5, c5, hfh5, hs5, hc5, -⟩ := y5.held q HM.out
    have c51 : w5.cell? ⟨p, 37, none⟩ = some (.map (some gh5)) := y5.o.m.pa.cell 4 _ (by rw [← y5.o.m.he]; rfl)
    have hL5 : (Instr.lookup 112 (.map (some gh5)) (.int .i64 (q : Int)) false).run Tryz.prog w5 = .ok (.agg #[.slice ao5 cf.text c5, .int .i64 (((n.fetch cf q).use q).st q)]) w5 := by
      have := y5.o.m.hm.look (t := 112) Tryz.underlying112 (zeroLeaf w5) (k := (q : Int)) (i64_nat (by have := HQ.out.1; have := HQ.out.2.2.pages; omega))
      rw [hfh5] at this
      exact this
    have hF5 := leaf0 ao5 cf.text c5 (.int .i64 (((n.fetch cf q).use q).st q)) w5
    have X5 : Hid (PagS w5 p h cf ((n.fetch cf q).use q).ord ((n.fetch cf q).use q) txt F5 ∧ Ev F F5 w w5) := ⟨x5.perm HP.out, E5.out⟩
    have HCl : Hid (Calls Tryz.prog 69 #[.slice ao5 cf.text c5] w5 fun e w' => ∃ v, e = .returned v ∧ w'.ownsRow w5.heap.size 5 1 v cf.text ((txt q).map (Value.int .u8)) ∧ Below w5.heap.size w5 w') := clone_any ao5 cf.text c5 (txt q) w5 hs5
    clear x5 y5 hf5 ha5 hfh5 hs5 hc5 E5
    go_wp2_with (go_at_call 69; refine HCl.out.mono ?_)
    rintro e w6 ⟨u, rfl, o6, l6⟩
    have R6 : Hid (PagS w6 p h cf ((n.fetch cf q).use q).ord ((n.fetch cf q).use q) txt F5 ∧ Ev F F5 w w6 ∧ isO w5.heap.size cf.text (txt q) u w6 ∧ w.heap.size ≤ w5.heap.size ∧ ∀ b, F5 b → b < w5.heap.size) := ⟨X5.out.1.later l6, X5.out.2.trans (Ev.below l6), o6, X5.out.2.kept.size, X5.out.1.all⟩
    clear o6 l6
    go_wp2
    go_ret2
    rw [EN.out]
    exact ⟨u, F5, w5.heap.size, rfl, R6.out⟩
end Go.Proofs.YtfhieacclifihaaGreat
