/- Layer host, the ground: faults and touches as data; what a host is in memory. -/
import Derived.Test.YtobcolpdkcppoaaSCopy
import Derived.Test.YtobcolpdkcppoaaRInvP
import Derived.Maps.OwnSet
import Derived.Maps.AppendAt
import Derived.Deep.AppendSrc
import Derived.Deep.OwnRows
namespace Go.Proofs.Ytobcolpdkcppoaa
open Go.RowKit
set_option linter.unusedVariables false
set_option linter.unusedSimpArgs false

abbrev I64 (x : Int) : Prop := -9223372036854775808 ≤ x ∧ x ≤ 9223372036854775807
theorem wf_of_i64 {x : Int} (h : I64 x) : (Lit.int .i64 x).wf = true := by
  simp [Lit.wf, IntKind.min, IntKind.max, IntKind.signed, IntKind.bits]; omega
theorem i64_of_wf {x : Int} (h : (Lit.int .i64 x).wf = true) : I64 x := by
  simp [Lit.wf, IntKind.min, IntKind.max, IntKind.signed, IntKind.bits] at h
  exact ⟨by omega, by omega⟩

/-- A fault: At, Kind, Page, Byte, By, Back. -/
structure Fl where
  a : Int
  k : Int
  p : Int
  b : Int
  y : Int
  c : Int
deriving DecidableEq
instance : Inhabited Fl := ⟨⟨0, 0, 0, 0, 0, 0⟩⟩
def flC (f : Fl) : List Value := [.int .i64 f.a, .int .i64 f.k, .int .i64 f.p, .int .i64 f.b, .int .u8 f.y, .int .i64 f.c]
def Fl.Good (f : Fl) : Prop := I64 f.a ∧ I64 f.k ∧ I64 f.p ∧ I64 f.b ∧ (0 ≤ f.y ∧ f.y < 256) ∧ I64 f.c
theorem flC_length (f : Fl) : (flC f).length = 6 := rfl
theorem flC_one (f : Fl) : ∀ v ∈ flC f, v.oneCell' = true := by
  intro v hv
  simp only [flC, List.mem_cons, List.not_mem_nil, or_false] at hv
  rcases hv with rfl | rfl | rfl | rfl | rfl | rfl <;> rfl
/-- A touch: Op, Page, Length, Head. -/
structure Tc where
  op : Int
  pg : Int
  ln : Int
  hd : List Int
instance : Inhabited Tc := ⟨⟨0, 0, 0, List.replicate 12 0⟩⟩
def tcC (t : Tc) : List Value := .int .i64 t.op :: .int .i64 t.pg :: .int .i64 t.ln :: u8s t.hd
def Tc.Good (t : Tc) : Prop := t.hd.length = 12
theorem tcC_length {t : Tc} (h : t.Good) : (tcC t).length = 15 := by simp [tcC, u8s_length, h]; exact h
theorem tcC_one (t : Tc) : ∀ v ∈ tcC t, v.oneCell' = true := by
  intro v hv
  simp only [tcC, List.mem_cons] at hv
  rcases hv with rfl | rfl | rfl | hv
  · rfl
  · rfl
  · rfl
  · exact u8s_one _ v hv

/-- Of the blocks of M all are as they were. -/
def Same (M : Nat → Prop) (w w' : World) : Prop := w.heap.size ≤ w'.heap.size ∧ ∀ k, M k → w'.heap[k]? = w.heap[k]?
theorem Same.below {M : Nat → Prop} {w w' : World} {B : Nat} (h : Below B w w') (hM : ∀ k, M k → k < B) : Same M w w' := ⟨h.size, fun k hk => h.block k (hM k hk)⟩
theorem Same.kept {M S : Nat → Prop} {w w' : World} (h : Kept S w w') (hM : ∀ k, M k → k < w.heap.size ∧ ¬ S k) : Same M w w' := ⟨h.size, fun k hk => h.block k (hM k hk).1 (hM k hk).2⟩
theorem rangeAt_same {w w' : World} {b o : Nat} {cs : List Value} (h : w.rangeAt b o cs) (e : w'.heap[b]? = w.heap[b]?) : w'.rangeAt b o cs := fun j v hv => (World.cell?_of_block (w := w) (w' := w') (a := ⟨b, o + j, none⟩) e).trans (h j v hv)

/-- A slice of faults that reads as these, in blocks of M. -/
structure FlS (w : World) (M : Nat → Prop) (v : Value) (fs : List Fl) : Prop where
  top : fs.length ≤ 3000000000000
  good : ∀ f ∈ fs, f.Good
  ex : ∃ ao c, v = .slice ao fs.length c ∧ ∀ i, i < fs.length → ∃ b o, ao = some ⟨b, o, none⟩ ∧ b < w.heap.size ∧ M b ∧ w.rangeAt b (o + i * 6) (flC (fs.getD i default))
theorem FlS.frame {w w' : World} {M : Nat → Prop} {v : Value} {fs : List Fl} (h : FlS w M v fs) (hs : Same M w w') : FlS w' M v fs :=
  ⟨h.top, h.good, by
    obtain ⟨ao, c, e, hx⟩ := h.ex
    refine ⟨ao, c, e, fun i hi => ?_⟩
    obtain ⟨b, o, e1, hb, hM, hr⟩ := hx i hi
    exact ⟨b, o, e1, Nat.lt_of_lt_of_le hb hs.1, hM, rangeAt_same hr (hs.2 b hM)⟩⟩
theorem FlS.mono {w : World} {M M' : Nat → Prop} {v : Value} {fs : List Fl} (h : FlS w M v fs) (hM : ∀ k, M k → M' k) : FlS w M' v fs :=
  ⟨h.top, h.good, by
    obtain ⟨ao, c, e, hx⟩ := h.ex
    refine ⟨ao, c, e, fun i hi => ?_⟩
    obtain ⟨b, o, e1, hb, hm, hr⟩ := hx i hi
    exact ⟨b, o, e1, hb, hM b hm, hr⟩⟩
theorem FlS.nil (w : World) (M : Nat → Prop) : FlS w M (.slice none 0 0) [] := ⟨by decide, fun f hf => (by cases hf), none, 0, rfl, fun i hi => (by cases hi)⟩
theorem Fl.good_at {fs : List Fl} (h : ∀ f ∈ fs, f.Good) (i : Nat) (hi : i < fs.length) : (fs.getD i default).Good := by
  have e : fs.getD i default = fs[i] := by simp [List.getD, hi]
  rw [e]; exact h _ (List.getElem_mem hi)
theorem zeroFl : (Try.prog.info? 55).map (fun i => (i.zero, i.size)) = some (some (.agg (flC default).toArray), 6) := by kernel_rfl
theorem sizeFl (f : Fl) : (Try.prog.info? 55).map (·.size) = some (flC f).length := by rw [flC_length]; kernel_rfl
theorem zeroTc : (Try.prog.info? 49).map (fun i => (i.zero, i.size)) = some (some (.agg (tcC default).toArray), 15) := by kernel_rfl
theorem sizeTc {t : Tc} (h : t.Good) : (Try.prog.info? 49).map (·.size) = some (tcC t).length := by rw [tcC_length h]; kernel_rfl
theorem info_rowB : (Try.prog.info? 32).map (fun i => (i.zero, i.size, i.bytes)) = some (some (.slice none 0 0), 1, 24) := by kernel_rfl
theorem info_rows : (Try.prog.info? 67).map (fun i => (i.zero, i.size, i.bytes)) = some (some (.slice none 0 0), 1, 24) := by kernel_rfl
theorem info_tc : (Try.prog.info? 49).map (fun i => (i.zero, i.size, i.bytes)) = some (some (.agg (tcC default).toArray), 15, 40) := by kernel_rfl
theorem info_fl : (Try.prog.info? 55).map (fun i => (i.zero, i.size, i.bytes)) = some (some (.agg (flC default).toArray), 6, 48) := by kernel_rfl

/-- A list of touches in a row of the host's own. -/
structure LogS (w : World) (M : Nat → Prop) (v : Value) (l : List Tc) : Prop where
  good : ∀ t ∈ l, t.Good
  own : w.ownsRow 0 49 15 v l.length (l.flatMap tcC)
  foot : ∀ g, v.ownBlock = some g → M g
theorem LogS.frame {w w' : World} {M : Nat → Prop} {v : Value} {l : List Tc} (h : LogS w M v l) (hs : Same M w w') : LogS w' M v l :=
  ⟨h.good, ⟨h.own.1, by
    rcases h.own.2 with h2 | ⟨g, cap, cur, hv, hg, hh, r⟩
    · exact .inl h2
    · exact .inr ⟨g, cap, cur, hv, hg, by rw [hs.2 g (h.foot g (by rw [hv]; rfl))]; exact hh, r⟩⟩, h.foot⟩
theorem LogS.mono {w : World} {M M' : Nat → Prop} {v : Value} {l : List Tc} (h : LogS w M v l) (hM : ∀ k, M k → M' k) : LogS w M' v l := ⟨h.good, h.own, fun g hg => hM g (h.foot g hg)⟩

def rowBlk : Value → Option Nat
  | .slice (some a) _ _ => some a.block
  | _ => none
/-- What lay on a page: a row of rows of bytes, the newest at the end. -/
def RowP (w : World) (M : Nat → Prop) (v : Value) (L : List (List Int)) : Prop :=
  (v = .slice none 0 0 ∧ L = []) ∨ ∃ g o cap vs, v = .slice (some ⟨g, o, none⟩) L.length cap ∧ Blk w g 32 vs ∧ M g ∧ L.length ≤ cap ∧ o + cap ≤ vs.length ∧
    ∀ i, i < L.length → ∃ b c, vs[o + i]? = some (.slice (some ⟨b, 0, none⟩) (L.getD i []).length c) ∧ RowAt w b (L.getD i []) ∧ M b ∧ Bytes (L.getD i []) ∧ (L.getD i []).length ≤ 8192
theorem RowP.frame {w w' : World} {M : Nat → Prop} {v : Value} {L : List (List Int)} (h : RowP w M v L) (hs : Same M w w') : RowP w' M v L := by
  rcases h with h | ⟨g, o, cap, vs, e, hb, hM, hc, ho, hx⟩
  · exact .inl h
  · refine .inr ⟨g, o, cap, vs, e, hb.block (hs.2 g hM), hM, hc, ho, fun i hi => ?_⟩
    obtain ⟨b, c, e1, hr, hm, r⟩ := hx i hi
    exact ⟨b, c, e1, hr.block (hs.2 b hm), hm, r⟩
theorem RowP.mono {w : World} {M M' : Nat → Prop} {v : Value} {L : List (List Int)} (h : RowP w M v L) (hM : ∀ k, M k → M' k) : RowP w M' v L := by
  rcases h with h | ⟨g, o, cap, vs, e, hb, hm, hc, ho, hx⟩
  · exact .inl h
  · refine .inr ⟨g, o, cap, vs, e, hb, hM g hm, hc, ho, fun i hi => ?_⟩
    obtain ⟨b, c, e1, hr, hm, r⟩ := hx i hi
    exact ⟨b, c, e1, hr, hM b hm, r⟩
/-- A block of M that holds faults. -/
def FT (w : World) (M : Nat → Prop) (b : Nat) : Prop := M b ∧ ∃ vs, Blk w b 55 vs
theorem blk_ne {w : World} {a b : Nat} {t t' : TypeId} {vs us : List Value} (ha : Blk w a t vs) (hb : Blk w b t' us) (ht : t ≠ t') : a ≠ b := fun e => by
  subst e
  unfold Blk at ha hb
  rw [ha] at hb
  simp only [Option.some.injEq, Obj.cells.injEq] at hb
  exact ht hb.2.1
theorem com_kept {w w' : World} {M S : Nat → Prop} {v : Value} {fs : List Fl} (h : FlS w (FT w M) v fs) (hk : Kept S w w') (hS : ∀ b vs, Blk w b 55 vs → ¬ S b) : FlS w' (FT w' M) v fs :=
  ⟨h.top, h.good, by
    obtain ⟨ao, c, e, hx⟩ := h.ex
    refine ⟨ao, c, e, fun i hi => ?_⟩
    obtain ⟨b, o, e1, hb, ⟨hM, vs, hv⟩, hr⟩ := hx i hi
    have he := hk.block b hb (hS b vs hv)
    exact ⟨b, o, e1, Nat.lt_of_lt_of_le hb hk.size, ⟨hM, vs, hv.block he⟩, rangeAt_same hr he⟩⟩
theorem com_mono {w : World} {M M' : Nat → Prop} {v : Value} {fs : List Fl} (h : FlS w (FT w M) v fs) (hM : ∀ k, M k → M' k) : FlS w (FT w M') v fs := h.mono (fun k hk => ⟨hM k hk.1, hk.2⟩)
theorem com_same {w w' : World} {M : Nat → Prop} {v : Value} {fs : List Fl} (h : FlS w (FT w M) v fs) (hs : Same M w w') : FlS w' (FT w' M) v fs :=
  (h.frame ⟨hs.1, fun k hk => hs.2 k hk.1⟩).mono (fun k hk => ⟨hk.1, hk.2.imp fun vs hv => hv.block (hs.2 k hk.1)⟩)
theorem log_kept {w w' : World} {M S : Nat → Prop} {v : Value} {l : List Tc} (h : LogS w M v l) (hk : Kept S w w') (hS : ∀ b vs, Blk w b 49 vs → ¬ S b) : LogS w' M v l :=
  ⟨h.good, ⟨h.own.1, by
    rcases h.own.2 with h2 | ⟨g, cap, cur, hv, hg, hh, r⟩
    · exact .inl h2
    · exact .inr ⟨g, cap, cur, hv, hg, by rw [hk.block g (lt_of_block hh) (hS g cur.toList (by simpa [Blk] using hh))]; exact hh, r⟩⟩, h.foot⟩
theorem row_kept {w w' : World} {M S : Nat → Prop} {v : Value} {L : List (List Int)} (h : RowP w M v L) (hk : Kept S w w') (hS : ∀ b, rowBlk v = some b → ¬ S b) (hS' : ∀ b vs, Blk w b 5 vs → ¬ S b) : RowP w' M v L := by
  rcases h with h | ⟨g, o, cap, vs, e, hb, hM, hc, ho, hx⟩
  · exact .inl h
  · refine .inr ⟨g, o, cap, vs, e, hb.block (hk.block g hb.lt (hS g (by rw [e]; rfl))), hM, hc, ho, fun i hi => ?_⟩
    obtain ⟨b, c, e1, hr, hm, r⟩ := hx i hi
    obtain ⟨rest, hr'⟩ := hr
    exact ⟨b, c, e1, ⟨rest, by rw [hk.block b (lt_of_block hr') (hS' b _ hr')]; exact hr'⟩, hm, r⟩

/-- The faults that are to come, in the map: its elements as they stand. -/
def heldR (v : Value) : Option (DataW Value × List MemPlace) := some (.held v, [])
def lookV (D : DataW Value) (k : Int) : Value := match D.atKey (.int .i64 k) (.held (.slice none 0 0)) with
  | .held v => v
  | _ => .slice none 0 0
theorem keysI : Maps.Keyed Try.prog 3 := Maps.int_keyed Try.underlying3
theorem zeroFs (w : World) : (zeroValue 22).run Try.prog w = .ok (.slice none 0 0) w := by kernel_rfl
theorem look_at {w : World} {gm n : Nat} {D : DataW Value} (h : w.ownsMap Try.prog 3 heldR gm n D) {k : Int} (hk : I64 k) :
    (Instr.lookup 86 (.map (some gm)) (.int .i64 k) false).run Try.prog w = .ok (lookV D k) w := by
  obtain ⟨v, ps, hr, hv⟩ := h.lookup keysI Try.underlying86 (zeroFs w) (zd := .held (.slice none 0 0)) (zp := []) rfl (Maps.keyOf_int_mk Try.underlying3 (wf_of_i64 hk))
  have e : D.atKey (.int .i64 k) (.held (.slice none 0 0)) = .held v := by
    simp only [heldR, Option.some.injEq, Prod.mk.injEq] at hv
    exact hv.1.symm
  rw [hr]
  simp only [lookV, e]
theorem lookV_put {D : DataW Value} (hD : Maps.IsMap D) (k : Int) (v : Value) : lookV (D.put (.int .i64 k) (.held v)) k = v := by
  simp only [lookV, Maps.atKey_put_same hD (show WideAt.IsKeyLit (.int .i64 k) from trivial)]
theorem lookV_put_other {D : DataW Value} (k j : Int) (h : j ≠ k) (v : Value) : lookV (D.put (.int .i64 k) (.held v)) j = lookV D j := by
  simp only [lookV, Maps.atKey_put_other (D := D) (k := .int .i64 k) (k' := .int .i64 j) (by simpa using h)]
theorem lookV_del (D : DataW Value) (k : Int) : lookV (D.del (.int .i64 k)) k = .slice none 0 0 := by
  simp only [lookV, Maps.atKey_del_same]
theorem lookV_del_other {D : DataW Value} (k j : Int) (h : j ≠ k) : lookV (D.del (.int .i64 k)) j = lookV D j := by
  simp only [lookV, Maps.atKey_del_other (D := D) (k := .int .i64 k) (k' := .int .i64 j) (by simpa using h)]
theorem lookV_empty (j : Int) : lookV (.map []) j = .slice none 0 0 := rfl
theorem ownsMap_same {w w' : World} {gm n : Nat} {D : DataW Value} (h : w.ownsMap Try.prog 3 heldR gm n D) (e : w'.heap[gm]? = w.heap[gm]?) : w'.ownsMap Try.prog 3 heldR gm n D := by
  obtain ⟨es, clock, hb, r⟩ := h
  exact ⟨es, clock, by rw [e]; exact hb, r⟩

/-- What a host knows. -/
structure HSt where
  size : Nat
  pages : Nat
  depth : Nat
  reg : Int
  ops : Nat
  log : List Tc
  down : Bool
  coming : Int → List Fl
  laid : Nat → List (List Int)
structure HSt.Good (s : HSt) : Prop where
  size : 1 ≤ s.size ∧ s.size ≤ 4124
  pages : s.pages ≤ 65536
  depth : s.depth ≤ 9223372036854775807
  reg : Word s.reg
  ops : s.ops ≤ 3000000000000
  log : s.log.length ≤ s.ops
  laid : ∀ p, (s.laid p).length ≤ s.ops
  len : ∀ p, ∀ z ∈ s.laid p, z.length = s.size
def hostC (s : HSt) (gl gm : Nat) (lg : Value) : List Value := [.int .i64 s.size, .slice (some ⟨gl, 0, none⟩) s.pages s.pages, .int .i64 s.depth, .int .u64 s.reg, .map (some gm), .int .i64 s.ops, lg, .bool s.down]
/-- A host in block h, which leans on blocks of M alone. -/
structure HostIn (w : World) (M : Nat → Prop) (h : Nat) (s : HSt) (gl gm : Nat) (lg : Value) (rws : List Value) (n : Nat) (D : DataW Value) : Prop where
  good : s.Good
  blk : Blk w h 91 (hostC s gl gm lg)
  lot : Blk w gl 67 rws
  cnt : rws.length = s.pages
  mh : M h
  ml : M gl
  mm : M gm
  map : w.ownsMap Try.prog 3 heldR gm n D
  com : ∀ k, FlS w (FT w M) (lookV D k) (s.coming k)
  log : LogS w M lg s.log
  row : ∀ p, p < s.pages → RowP w M (rws.getD p (.slice none 0 0)) (s.laid p)
  apart : ∀ p q, p < q → q < s.pages → ∀ g, rowBlk (rws.getD p (.slice none 0 0)) = some g → rowBlk (rws.getD q (.slice none 0 0)) ≠ some g
  all : ∀ k, M k → k < w.heap.size
def HostAt (w : World) (M : Nat → Prop) (h : Nat) (s : HSt) : Prop := ∃ gl gm lg rws n D, HostIn w M h s gl gm lg rws n D
theorem HostIn.frame {w w' : World} {M : Nat → Prop} {h : Nat} {s : HSt} {gl gm : Nat} {lg : Value} {rws : List Value} {n : Nat} {D : DataW Value} (x : HostIn w M h s gl gm lg rws n D) (hs : Same M w w') : HostIn w' M h s gl gm lg rws n D :=
  ⟨x.good, x.blk.block (hs.2 _ x.mh), x.lot.block (hs.2 _ x.ml), x.cnt, x.mh, x.ml, x.mm, ownsMap_same x.map (hs.2 _ x.mm), fun k => com_same (x.com k) hs, x.log.frame hs, fun p hp => (x.row p hp).frame hs, x.apart, fun k hk => Nat.lt_of_lt_of_le (x.all k hk) hs.1⟩
theorem HostAt.frame {w w' : World} {M : Nat → Prop} {h : Nat} {s : HSt} (x : HostAt w M h s) (hs : Same M w w') : HostAt w' M h s := by
  obtain ⟨gl, gm, lg, rws, n, D, x⟩ := x
  exact ⟨gl, gm, lg, rws, n, D, x.frame hs⟩
theorem HostIn.later {w w' : World} {M : Nat → Prop} {h : Nat} {s : HSt} {gl gm : Nat} {lg : Value} {rws : List Value} {n : Nat} {D : DataW Value} (x : HostIn w M h s gl gm lg rws n D) (hb : Below w.heap.size w w') : HostIn w' M h s gl gm lg rws n D := x.frame (Same.below hb x.all)
theorem HostAt.all {w : World} {M : Nat → Prop} {h : Nat} {s : HSt} (x : HostAt w M h s) : ∀ k, M k → k < w.heap.size := by
  obtain ⟨gl, gm, lg, rws, n, D, x⟩ := x
  exact x.all
theorem HostAt.later {w w' : World} {M : Nat → Prop} {h : Nat} {s : HSt} (x : HostAt w M h s) (hb : Below w.heap.size w w') : HostAt w' M h s := x.frame (Same.below hb x.all)
theorem HostIn.at {w : World} {M : Nat → Prop} {h : Nat} {s : HSt} {gl gm : Nat} {lg : Value} {rws : List Value} {n : Nat} {D : DataW Value} (x : HostIn w M h s gl gm lg rws n D) : HostAt w M h s := ⟨gl, gm, lg, rws, n, D, x⟩
end Go.Proofs.Ytobcolpdkcppoaa
