/- Layer octet: writers. -/
import Derived.Test.YtgcpckkhkppnhaaORead
namespace Go.Proofs.Ytgcpckkhkppnhaa
open Go.RowKit
set_option linter.unusedVariables false
set_option linter.unusedSimpArgs false

/-- A writer at block r: its size, the bytes zs laid so far in a row of its own (v), its error e. -/
structure Wr (w : World) (r : Nat) (v : Value) (size : Nat) (zs : List Int) (e : Int) : Prop where
  c0 : w.cell? ⟨r, 0, none⟩ = some (.int .i64 size)
  c1 : w.cell? ⟨r, 1, none⟩ = some v
  c2 : w.cell? ⟨r, 2, none⟩ = some (.int .i64 e)
  f1 : w.frozen? ⟨r, 1, none⟩ = false
  f2 : w.frozen? ⟨r, 2, none⟩ = false
  own : w.ownsRow 0 5 1 v zs.length (zs.map (Value.int .u8))
  hs : zs.length ≤ size
  ht : size ≤ 1048576
  hb : Bytes zs
  ne : ∀ g, v.ownBlock = some g → g ≠ r
  lt : r < w.heap.size
theorem Wr.kept {S : Nat → Prop} {w w' : World} {r : Nat} {v : Value} {size : Nat} {zs : List Int} {e : Int} (h : Wr w r v size zs e) (hk : Kept S w w') (hr : ¬ S r) (hg : ∀ g, v.ownBlock = some g → ¬ S g) : Wr w' r v size zs e :=
  ⟨(hk.cell (p := ⟨r, 0, none⟩) h.lt hr).trans h.c0, (hk.cell (p := ⟨r, 1, none⟩) h.lt hr).trans h.c1, (hk.cell (p := ⟨r, 2, none⟩) h.lt hr).trans h.c2,
    (World.frozen?_of_block (a := ⟨r, 1, none⟩) (hk.block r h.lt hr)).trans h.f1, (World.frozen?_of_block (a := ⟨r, 2, none⟩) (hk.block r h.lt hr)).trans h.f2,
    own_kept h.own hk hg, h.hs, h.ht, h.hb, h.ne, Nat.lt_of_lt_of_le h.lt hk.size⟩
theorem Wr.later {w w' : World} {r : Nat} {v : Value} {size : Nat} {zs : List Int} {e : Int} (h : Wr w r v size zs e) {B : Nat} (hb : Below B w w') (hB : w.heap.size ≤ B) : Wr w' r v size zs e :=
  h.kept (S := fun _ => False) (kept_of_below hb hB) (fun x => x) (fun _ _ x => x)
theorem Wr.drewN {w : World} {r : Nat} {v : Value} {size : Nat} {zs : List Int} {e : Int} (h : Wr w r v size zs e) (q : Nat) : Wr (w.drewN q) r v size zs e := h.later (B := w.heap.size) (below_dn (Below.refl _ _) q) (Nat.le_refl _)
theorem Wr.new (w1 : World) (size : Nat) (ht : size ≤ 1048576) : Wr (w1.alloc (.cells #[.int .i64 size, .slice none 0 0, .int .i64 0] 59)) w1.heap.size (.slice none 0 0) size [] 0 := by
  have h : (w1.alloc (.cells #[.int .i64 size, .slice none 0 0, .int .i64 0] 59)).heap[w1.heap.size]? = some (.cells #[.int .i64 size, .slice none 0 0, .int .i64 0] 59 (0, 0)) := heap_alloc_new w1 _
  refine ⟨?_, ?_, ?_, ?_, ?_, World.ownsRow_nil _ _ _ _, Nat.zero_le _, ht, fun z hz => (by cases hz), fun g hg => (by cases hg), by simp⟩
  · rw [cell_of_row _ _ 0 _ 59 (0, 0) h]; rfl
  · rw [cell_of_row _ _ 1 _ 59 (0, 0) h]; rfl
  · rw [cell_of_row _ _ 2 _ 59 (0, 0) h]; rfl
  · exact frozen_of_row _ _ 1 _ 59 h
  · exact frozen_of_row _ _ 2 _ 59 h
theorem Wr.setErr {w : World} {r : Nat} {v : Value} {size : Nat} {zs : List Int} {e : Int} (h : Wr w r v size zs e) (e' : Int) : Wr (w.setCell ⟨r, 2, none⟩ (.int .i64 e')) r v size zs e' := by
  refine ⟨?_, ?_, ?_, by simpa using h.f1, by simpa using h.f2, ?_, h.hs, h.ht, h.hb, h.ne, by simpa [World.setCell] using h.lt⟩
  · rw [World.cell?_setCell_other _ _ _ _ (by simp)]; exact h.c0
  · rw [World.cell?_setCell_other _ _ _ _ (by simp)]; exact h.c1
  · exact World.cell?_setCell_same _ _ _ h.c2
  · exact own_block h.own fun k hk => Below.heap_setCell _ _ _ _ (h.ne k hk)
/-- The writer's cells in a world where its row has grown, and the new row stored. -/
theorem Wr.grow {w w' : World} {r : Nat} {v v' : Value} {size : Nat} {zs ys : List Int} (h : Wr w r v size zs 0) (hg : w.grownBy w' v.ownBlock) (ho : w'.ownsRow 0 5 1 v' (zs ++ ys).length ((zs ++ ys).map (Value.int .u8)))
    (hv : ∀ g, v'.ownBlock = some g → v.ownBlock = some g ∨ w.heap.size ≤ g) (hy : Bytes ys) (hs : (zs ++ ys).length ≤ size) : Wr (w'.setCell ⟨r, 1, none⟩ v') r v' size (zs ++ ys) 0 := by
  have hb : w'.heap[r]? = w.heap[r]? := hg.block r h.lt (fun e => h.ne r e.symm rfl)
  have d0 : w'.cell? ⟨r, 0, none⟩ = some (.int .i64 size) := (World.cell?_of_block (a := ⟨r, 0, none⟩) hb).trans h.c0
  have d1 : w'.cell? ⟨r, 1, none⟩ = some v := (World.cell?_of_block (a := ⟨r, 1, none⟩) hb).trans h.c1
  have d2 : w'.cell? ⟨r, 2, none⟩ = some (.int .i64 0) := (World.cell?_of_block (a := ⟨r, 2, none⟩) hb).trans h.c2
  have g1 : w'.frozen? ⟨r, 1, none⟩ = false := (World.frozen?_of_block (a := ⟨r, 1, none⟩) hb).trans h.f1
  have g2 : w'.frozen? ⟨r, 2, none⟩ = false := (World.frozen?_of_block (a := ⟨r, 2, none⟩) hb).trans h.f2
  have hne : ∀ g, v'.ownBlock = some g → g ≠ r := fun g hg' e => by
    rcases hv g hg' with h1 | h1
    · exact h.ne g h1 e
    · have := h.lt; omega
  refine ⟨?_, ?_, ?_, by simpa using g1, by simpa using g2, ?_, hs, h.ht, bytes_app h.hb hy, hne, ?_⟩
  · rw [World.cell?_setCell_other _ _ _ _ (by simp)]; exact d0
  · exact World.cell?_setCell_same _ _ _ d1
  · rw [World.cell?_setCell_other _ _ _ _ (by simp)]; exact d2
  · exact own_block ho fun k hk => Below.heap_setCell _ _ _ _ (hne k hk)
  · have := hg.size; have := h.lt; simp [World.setCell]; omega

/-- What NewWriter says of a size. -/
def nwE (size : Int) : Int := if size < 0 then 2 else if 1048576 < size then 3 else 0
theorem newWriter_bad (size : Int) (h : nwE size ≠ 0) (w : World) :
    Calls Try.prog 14 #[.int .i64 size] w fun en w' => en = .returned (.tuple #[.pointer none, .int .i64 (nwE size)]) ∧ w = w' := by
  by_cases h0 : size < 0
  · have e : nwE size = 2 := by simp [nwE, h0]
    rw [e]
    go_enter Try.func14, Try.ntmps14
    go_wp2
    go_ret2
    exact ⟨rfl, rfl⟩
  · by_cases h1 : 1048576 < size
    · have e : nwE size = 3 := by simp [nwE, h0, h1]
      rw [e]
      go_enter Try.func14, Try.ntmps14
      go_wp2
      go_ret2
      exact ⟨rfl, rfl⟩
    · exact absurd (by simp [nwE, h0, h1]) h
theorem newWriter_any (size : Nat) (ht : size ≤ 1048576) (w : World) :
    Calls Try.prog 14 #[.int .i64 size] w fun en w' => ∃ r, en = .returned (.tuple #[.pointer (some ⟨r, 0, none⟩), .int .i64 0]) ∧ Wr w' r (.slice none 0 0) size [] 0 ∧ w.heap.size ≤ r ∧ Below w.heap.size w w' := by
  have HW : Hid _ := Wr.new w size ht
  have HB : Hid (Below w.heap.size w (w.alloc (.cells #[.int .i64 size, .slice none 0 0, .int .i64 0] 59))) := (Below.refl _ _).alloc (Nat.le_refl _) _
  have i1 : ¬ (1048576 : Int) < (size : Int) := by omega
  go_enter Try.func14, Try.ntmps14
  go_wp2
  go_ret2
  exact ⟨_, rfl, HW.out, Nat.le_refl _, HB.out⟩
theorem wleft_any (r : Nat) (v : Value) (size : Nat) (zs : List Int) (e : Int) (w : World) (h : Wr w r v size zs e) :
    Calls Try.prog 17 #[.pointer (some ⟨r, 0, none⟩)] w fun en w' => en = .returned (.int .i64 ((size : Int) - zs.length)) ∧ ∃ q, w' = w.drewN q := by
  have c0 := h.c0
  have c1 := h.c1
  obtain ⟨vo, cv, rfl⟩ := own_form h.own
  have hs := h.hs
  have ht := h.ht
  generalize zs.length = n at *
  have i1 : -9223372036854775808 ≤ (size : Int) - n := by omega
  have i2 : (size : Int) - n ≤ 9223372036854775807 := by omega
  clear h
  go_enter Try.func17, Try.ntmps17
  go_wp2
  go_quiet (fail)
  go_wp2
  go_ret
  exact ⟨rfl, _, rfl⟩

/-- Behind Bytes of a writer: what is laid, the error. -/
def wbL (size : Nat) (zs : List Int) (e : Int) (ys : List Int) : List Int := if e ≠ 0 ∨ size < zs.length + ys.length then zs else zs ++ ys
def wbE (size : Nat) (zs : List Int) (e : Int) (ys : List Int) : Int := if e ≠ 0 then e else if size < zs.length + ys.length then 21 else 0
def WFoot (r : Nat) (v : Value) (k : Nat) : Prop := k = r ∨ v.ownBlock = some k

set_option maxHeartbeats 1000000 in
set_option maxRecDepth 20000 in
theorem wbytes_any (r : Nat) (v : Value) (size : Nat) (zs : List Int) (e : Int) (bo : Option Addr) (m c : Nat) (ys : List Int) (w : World) (h : Wr w r v size zs e) (hy : Seen w bo m ys) (hc : bo = none → c = 0) :
    Calls Try.prog 31 #[.pointer (some ⟨r, 0, none⟩), .slice bo m c] w fun en w' => en = .returned (.tuple #[]) ∧ ∃ v', Wr w' r v' size (wbL size zs e ys) (wbE size zs e ys) ∧ Kept (WFoot r v) w w' ∧ (∀ g, v'.ownBlock = some g → v.ownBlock = some g ∨ w.heap.size ≤ g) := by
  have hl := hy.len
  have hm := hy.top
  have c2 := h.c2
  have f2 := h.f2
  by_cases he : e = 0
  · subst he
    have HL := wleft_any r v size zs 0 w h
    by_cases h1 : size < zs.length + ys.length
    · have e1 : wbL size zs 0 ys = zs := by simp [wbL, h1]
      have e2 : wbE size zs 0 ys = 21 := by simp [wbE, h1]
      rw [e1, e2]
      have HR : Hid (∀ q, Wr ((w.drewN q).setCell ⟨r, 2, none⟩ (.int .i64 21)) r v size zs 21 ∧ Kept (WFoot r v) w ((w.drewN q).setCell ⟨r, 2, none⟩ (.int .i64 21))) := fun q => ⟨(h.drewN q).setErr 21, Kept.setCell (S := WFoot r v) (a := w) (w := w.drewN q) ⟨rfl, rfl, rfl, Nat.le_refl _, fun _ _ _ => rfl⟩ (p := ⟨r, 2, none⟩) (.inl rfl) (.int .i64 21)⟩
      have hgt : (size : Int) - zs.length < (m : Int) := by omega
      generalize ((size : Int) - zs.length) = D at *
      clear h hy
      go_enter Try.func31, Try.ntmps31
      go_wp2_with fail
      refine HL.mono ?_
      rintro e _ ⟨rfl, q, rfl⟩
      go_wp2
      (try simp only [Exit.inBlock, Exit.then]); first | (refine bodyPost_ret (results_none rfl _ _ _) rfl ?_) | (refine bodyPost_end (results_none rfl _ _ _) rfl ?_)
      exact ⟨rfl, v, (HR.out q).1, (HR.out q).2, fun g hg => .inl hg⟩
    · have e1 : wbL size zs 0 ys = zs ++ ys := by simp [wbL, h1]
      have e2 : wbE size zs 0 ys = 0 := by simp [wbE, h1]
      rw [e1, e2]
      have hgt : ¬ (size : Int) - zs.length < (m : Int) := by omega
      have ht := h.ht
      have HD : Hid ((zs ++ ys).length = zs.length + m ∧ zs.length + m ≤ size ∧ Bytes ys) := ⟨by rw [List.length_append, hl], by omega, hy.bytes⟩
      have c1 := h.c1
      have f1 := h.f1
      have HC : Hid (bo = none → c = 0) := hc
      have HW : Hid (∀ q, Wr (w.drewN q) r v size zs 0) := fun q => h.drewN q
      have HY : Hid (∀ q, Seen (w.drewN q) bo m ys) := fun q => hy.drewN q
      have hsum : zs.length + m ≤ 140737488355328 := by omega
      generalize hDD : ((size : Int) - zs.length) = D at *
      clear h hy hc hl hDD
      go_enter Try.func31, Try.ntmps31
      go_wp2_with fail
      refine HL.mono ?_
      rintro e _ ⟨rfl, q, rfl⟩
      clear HL
      go_wp2_with (at_builtin; refine wpList_append_seen_at rfl _ _ rfl 0 _ zs.length (zs.map (Value.int .u8)) rfl (HW.out q).own bo m c ys rfl (HY.out q) HC.out hsum (Nat.zero_le _) ?_)
      intro v' w2 o2 g2 a2
      rw [← List.map_append] at o2
      have hw := (HW.out q).grow g2 (by rw [HD.out.1]; exact o2) (fun g hg => by
        rcases a2 with a2 | a2
        · left; rw [← a2]; exact hg
        · right; rw [a2] at hg; cases hg; exact Nat.le_refl _) HD.out.2.2 (by rw [HD.out.1]; exact HD.out.2.1)
      have hlt := (HW.out q).lt
      have hb2 : w2.heap[r]? = (w.drewN q).heap[r]? := g2.block r hlt (fun e => (HW.out q).ne r e.symm rfl)
      have d1 : w2.cell? ⟨r, 1, none⟩ = some v := (World.cell?_of_block (a := ⟨r, 1, none⟩) hb2).trans c1
      have k1 : w2.frozen? ⟨r, 1, none⟩ = false := (World.frozen?_of_block (a := ⟨r, 1, none⟩) hb2).trans f1
      have HK : Hid (Kept (WFoot r v) w (w2.setCell ⟨r, 1, none⟩ v')) := Kept.setCell (S := WFoot r v) (a := w) (w := w2) (Kept.grown (a := w) (w := w.drewN q) ⟨rfl, rfl, rfl, Nat.le_refl _, fun _ _ _ => rfl⟩ g2 (fun k hk _ => .inr hk)) (p := ⟨r, 1, none⟩) (.inl rfl) v'
      have HV : Hid (∀ g, v'.ownBlock = some g → v.ownBlock = some g ∨ w.heap.size ≤ g) := fun g hg => by
        rcases a2 with a2 | a2
        · left; rw [← a2]; exact hg
        · right; rw [a2] at hg; cases hg; exact Nat.le_refl _
      have HH : Hid _ := hw
      obtain ⟨vo', cv', rfl⟩ := own_form o2
      clear o2 g2 a2 hw hb2 HW HY
      go_wp2
      (try simp only [Exit.inBlock, Exit.then]); first | (refine bodyPost_ret (results_none rfl _ _ _) rfl ?_) | (refine bodyPost_end (results_none rfl _ _ _) rfl ?_)
      exact ⟨rfl, _, HH.out, HK.out, HV.out⟩
  · have e1 : wbL size zs e ys = zs := by simp [wbL, he]
    have e2 : wbE size zs e ys = e := by simp [wbE, he]
    rw [e1, e2]
    have hne : (e != 0) = true := by simpa using he
    have HH : Hid _ := h
    clear h
    go_enter Try.func31, Try.ntmps31
    go_wp2
    (try simp only [Exit.inBlock, Exit.then]); first | (refine bodyPost_ret (results_none rfl _ _ _) rfl ?_) | (refine bodyPost_end (results_none rfl _ _ _) rfl ?_)
    exact ⟨rfl, v, HH.out, Kept.refl _ _, fun g hg => .inl hg⟩

theorem lay_8 (r : Nat) (v : Value) (size : Nat) (zs : List Int) (e x : Int) (hv : 0 ≤ x ∧ x < 256) (w : World) (h : Wr w r v size zs e) :
    Calls Try.prog 49 #[.pointer (some ⟨r, 0, none⟩), .int .u8 x] w fun en w' => en = .returned (.tuple #[]) ∧ ∃ v', Wr w' r v' size (wbL size zs e (leB 1 x)) (wbE size zs e (leB 1 x)) ∧ Kept (WFoot r v) w w' ∧ (∀ g, v'.ownBlock = some g → v.ownBlock = some g ∨ w.heap.size ≤ g) := by
  have hp := put_8 none 0 0 [] x w (Seen.empty _ _) (fun _ => rfl) (by decide) hv
  go_enter Try.func49, Try.ntmps49
  go_wp2_with fail
  refine hp.mono ?_
  rintro en w1 ⟨u, rfl, o1, b1⟩
  rw [Nat.zero_add, List.nil_append] at o1
  obtain ⟨vo, cap, rfl, s1, _⟩ := own_seen (leB_length _ _) (leB_bytes _ _) (by decide) o1
  have hcv : vo = none → cap = 0 := by
    rintro rfl
    exact ((own_olds o1).1 rfl).2
  have hw := wbytes_any r v size zs e vo 1 cap (leB 1 x) w1 (h.later b1 (Nat.le_refl _)) s1 hcv
  have z1 := b1.size
  clear o1 s1 hp hcv h
  go_wp2_with fail
  refine hw.mono ?_
  rintro en w2 ⟨rfl, v', hr, hk, hg⟩
  have HK : Hid (Kept (WFoot r v) w w2) := (kept_of_below b1 (Nat.le_refl _)).trans hk
  have HG : Hid (∀ g, v'.ownBlock = some g → v.ownBlock = some g ∨ w.heap.size ≤ g) := fun g hg' => by
    rcases hg g hg' with h | h
    · exact .inl h
    · exact .inr (by omega)
  have HR : Hid _ := hr
  clear hk hg hr hw
  go_wp2
  (try simp only [Exit.inBlock, Exit.then]); first | (refine bodyPost_ret (results_none rfl _ _ _) rfl ?_) | (refine bodyPost_end (results_none rfl _ _ _) rfl ?_)
  exact ⟨rfl, v', HR.out, HK.out, HG.out⟩
theorem wu_8 (r : Nat) (v : Value) (size : Nat) (zs : List Int) (e x : Int) (hv : 0 ≤ x ∧ x < 256) (w : World) (h : Wr w r v size zs e) :
    Calls Try.prog 41 #[.pointer (some ⟨r, 0, none⟩), .int .u8 x] w fun en w' => en = .returned (.tuple #[]) ∧ ∃ v', Wr w' r v' size (wbL size zs e (leB 1 x)) (wbE size zs e (leB 1 x)) ∧ Kept (WFoot r v) w w' ∧ (∀ g, v'.ownBlock = some g → v.ownBlock = some g ∨ w.heap.size ≤ g) := by
  have hp := lay_8 r v size zs e x hv w h
  clear h
  go_enter Try.func41, Try.ntmps41
  go_wp2_with fail
  refine hp.mono ?_
  rintro en w2 ⟨rfl, v', hr, hk, hg⟩
  have HK : Hid _ := hk
  have HG : Hid _ := hg
  have HR : Hid _ := hr
  clear hk hg hr hp
  go_wp2
  (try simp only [Exit.inBlock, Exit.then]); first | (refine bodyPost_ret (results_none rfl _ _ _) rfl ?_) | (refine bodyPost_end (results_none rfl _ _ _) rfl ?_)
  exact ⟨rfl, v', HR.out, HK.out, HG.out⟩
theorem lay_16 (r : Nat) (v : Value) (size : Nat) (zs : List Int) (e x : Int) (hv : 0 ≤ x ∧ x < 65536) (w : World) (h : Wr w r v size zs e) :
    Calls Try.prog 50 #[.pointer (some ⟨r, 0, none⟩), .int .u16 x] w fun en w' => en = .returned (.tuple #[]) ∧ ∃ v', Wr w' r v' size (wbL size zs e (leB 2 x)) (wbE size zs e (leB 2 x)) ∧ Kept (WFoot r v) w w' ∧ (∀ g, v'.ownBlock = some g → v.ownBlock = some g ∨ w.heap.size ≤ g) := by
  have hp := put_16 none 0 0 [] x w (Seen.empty _ _) (fun _ => rfl) (by decide) hv
  go_enter Try.func50, Try.ntmps50
  go_wp2_with fail
  refine hp.mono ?_
  rintro en w1 ⟨u, rfl, o1, b1⟩
  rw [Nat.zero_add, List.nil_append] at o1
  obtain ⟨vo, cap, rfl, s1, _⟩ := own_seen (leB_length _ _) (leB_bytes _ _) (by decide) o1
  have hcv : vo = none → cap = 0 := by
    rintro rfl
    exact ((own_olds o1).1 rfl).2
  have hw := wbytes_any r v size zs e vo 2 cap (leB 2 x) w1 (h.later b1 (Nat.le_refl _)) s1 hcv
  have z1 := b1.size
  clear o1 s1 hp hcv h
  go_wp2_with fail
  refine hw.mono ?_
  rintro en w2 ⟨rfl, v', hr, hk, hg⟩
  have HK : Hid (Kept (WFoot r v) w w2) := (kept_of_below b1 (Nat.le_refl _)).trans hk
  have HG : Hid (∀ g, v'.ownBlock = some g → v.ownBlock = some g ∨ w.heap.size ≤ g) := fun g hg' => by
    rcases hg g hg' with h | h
    · exact .inl h
    · exact .inr (by omega)
  have HR : Hid _ := hr
  clear hk hg hr hw
  go_wp2
  (try simp only [Exit.inBlock, Exit.then]); first | (refine bodyPost_ret (results_none rfl _ _ _) rfl ?_) | (refine bodyPost_end (results_none rfl _ _ _) rfl ?_)
  exact ⟨rfl, v', HR.out, HK.out, HG.out⟩
theorem wu_16 (r : Nat) (v : Value) (size : Nat) (zs : List Int) (e x : Int) (hv : 0 ≤ x ∧ x < 65536) (w : World) (h : Wr w r v size zs e) :
    Calls Try.prog 42 #[.pointer (some ⟨r, 0, none⟩), .int .u16 x] w fun en w' => en = .returned (.tuple #[]) ∧ ∃ v', Wr w' r v' size (wbL size zs e (leB 2 x)) (wbE size zs e (leB 2 x)) ∧ Kept (WFoot r v) w w' ∧ (∀ g, v'.ownBlock = some g → v.ownBlock = some g ∨ w.heap.size ≤ g) := by
  have hp := lay_16 r v size zs e x hv w h
  clear h
  go_enter Try.func42, Try.ntmps42
  go_wp2_with fail
  refine hp.mono ?_
  rintro en w2 ⟨rfl, v', hr, hk, hg⟩
  have HK : Hid _ := hk
  have HG : Hid _ := hg
  have HR : Hid _ := hr
  clear hk hg hr hp
  go_wp2
  (try simp only [Exit.inBlock, Exit.then]); first | (refine bodyPost_ret (results_none rfl _ _ _) rfl ?_) | (refine bodyPost_end (results_none rfl _ _ _) rfl ?_)
  exact ⟨rfl, v', HR.out, HK.out, HG.out⟩
theorem lay_32 (r : Nat) (v : Value) (size : Nat) (zs : List Int) (e x : Int) (hv : 0 ≤ x ∧ x < 4294967296) (w : World) (h : Wr w r v size zs e) :
    Calls Try.prog 51 #[.pointer (some ⟨r, 0, none⟩), .int .u32 x] w fun en w' => en = .returned (.tuple #[]) ∧ ∃ v', Wr w' r v' size (wbL size zs e (leB 4 x)) (wbE size zs e (leB 4 x)) ∧ Kept (WFoot r v) w w' ∧ (∀ g, v'.ownBlock = some g → v.ownBlock = some g ∨ w.heap.size ≤ g) := by
  have hp := put_32 none 0 0 [] x w (Seen.empty _ _) (fun _ => rfl) (by decide) hv
  go_enter Try.func51, Try.ntmps51
  go_wp2_with fail
  refine hp.mono ?_
  rintro en w1 ⟨u, rfl, o1, b1⟩
  rw [Nat.zero_add, List.nil_append] at o1
  obtain ⟨vo, cap, rfl, s1, _⟩ := own_seen (leB_length _ _) (leB_bytes _ _) (by decide) o1
  have hcv : vo = none → cap = 0 := by
    rintro rfl
    exact ((own_olds o1).1 rfl).2
  have hw := wbytes_any r v size zs e vo 4 cap (leB 4 x) w1 (h.later b1 (Nat.le_refl _)) s1 hcv
  have z1 := b1.size
  clear o1 s1 hp hcv h
  go_wp2_with fail
  refine hw.mono ?_
  rintro en w2 ⟨rfl, v', hr, hk, hg⟩
  have HK : Hid (Kept (WFoot r v) w w2) := (kept_of_below b1 (Nat.le_refl _)).trans hk
  have HG : Hid (∀ g, v'.ownBlock = some g → v.ownBlock = some g ∨ w.heap.size ≤ g) := fun g hg' => by
    rcases hg g hg' with h | h
    · exact .inl h
    · exact .inr (by omega)
  have HR : Hid _ := hr
  clear hk hg hr hw
  go_wp2
  (try simp only [Exit.inBlock, Exit.then]); first | (refine bodyPost_ret (results_none rfl _ _ _) rfl ?_) | (refine bodyPost_end (results_none rfl _ _ _) rfl ?_)
  exact ⟨rfl, v', HR.out, HK.out, HG.out⟩
theorem wu_32 (r : Nat) (v : Value) (size : Nat) (zs : List Int) (e x : Int) (hv : 0 ≤ x ∧ x < 4294967296) (w : World) (h : Wr w r v size zs e) :
    Calls Try.prog 43 #[.pointer (some ⟨r, 0, none⟩), .int .u32 x] w fun en w' => en = .returned (.tuple #[]) ∧ ∃ v', Wr w' r v' size (wbL size zs e (leB 4 x)) (wbE size zs e (leB 4 x)) ∧ Kept (WFoot r v) w w' ∧ (∀ g, v'.ownBlock = some g → v.ownBlock = some g ∨ w.heap.size ≤ g) := by
  have hp := lay_32 r v size zs e x hv w h
  clear h
  go_enter Try.func43, Try.ntmps43
  go_wp2_with fail
  refine hp.mono ?_
  rintro en w2 ⟨rfl, v', hr, hk, hg⟩
  have HK : Hid _ := hk
  have HG : Hid _ := hg
  have HR : Hid _ := hr
  clear hk hg hr hp
  go_wp2
  (try simp only [Exit.inBlock, Exit.then]); first | (refine bodyPost_ret (results_none rfl _ _ _) rfl ?_) | (refine bodyPost_end (results_none rfl _ _ _) rfl ?_)
  exact ⟨rfl, v', HR.out, HK.out, HG.out⟩
theorem lay_64 (r : Nat) (v : Value) (size : Nat) (zs : List Int) (e x : Int) (hv : 0 ≤ x ∧ x < 18446744073709551616) (w : World) (h : Wr w r v size zs e) :
    Calls Try.prog 52 #[.pointer (some ⟨r, 0, none⟩), .int .u64 x] w fun en w' => en = .returned (.tuple #[]) ∧ ∃ v', Wr w' r v' size (wbL size zs e (leB 8 x)) (wbE size zs e (leB 8 x)) ∧ Kept (WFoot r v) w w' ∧ (∀ g, v'.ownBlock = some g → v.ownBlock = some g ∨ w.heap.size ≤ g) := by
  have hp := put_64 none 0 0 [] x w (Seen.empty _ _) (fun _ => rfl) (by decide) hv
  go_enter Try.func52, Try.ntmps52
  go_wp2_with fail
  refine hp.mono ?_
  rintro en w1 ⟨u, rfl, o1, b1⟩
  rw [Nat.zero_add, List.nil_append] at o1
  obtain ⟨vo, cap, rfl, s1, _⟩ := own_seen (leB_length _ _) (leB_bytes _ _) (by decide) o1
  have hcv : vo = none → cap = 0 := by
    rintro rfl
    exact ((own_olds o1).1 rfl).2
  have hw := wbytes_any r v size zs e vo 8 cap (leB 8 x) w1 (h.later b1 (Nat.le_refl _)) s1 hcv
  have z1 := b1.size
  clear o1 s1 hp hcv h
  go_wp2_with fail
  refine hw.mono ?_
  rintro en w2 ⟨rfl, v', hr, hk, hg⟩
  have HK : Hid (Kept (WFoot r v) w w2) := (kept_of_below b1 (Nat.le_refl _)).trans hk
  have HG : Hid (∀ g, v'.ownBlock = some g → v.ownBlock = some g ∨ w.heap.size ≤ g) := fun g hg' => by
    rcases hg g hg' with h | h
    · exact .inl h
    · exact .inr (by omega)
  have HR : Hid _ := hr
  clear hk hg hr hw
  go_wp2
  (try simp only [Exit.inBlock, Exit.then]); first | (refine bodyPost_ret (results_none rfl _ _ _) rfl ?_) | (refine bodyPost_end (results_none rfl _ _ _) rfl ?_)
  exact ⟨rfl, v', HR.out, HK.out, HG.out⟩
theorem wu_64 (r : Nat) (v : Value) (size : Nat) (zs : List Int) (e x : Int) (hv : 0 ≤ x ∧ x < 18446744073709551616) (w : World) (h : Wr w r v size zs e) :
    Calls Try.prog 44 #[.pointer (some ⟨r, 0, none⟩), .int .u64 x] w fun en w' => en = .returned (.tuple #[]) ∧ ∃ v', Wr w' r v' size (wbL size zs e (leB 8 x)) (wbE size zs e (leB 8 x)) ∧ Kept (WFoot r v) w w' ∧ (∀ g, v'.ownBlock = some g → v.ownBlock = some g ∨ w.heap.size ≤ g) := by
  have hp := lay_64 r v size zs e x hv w h
  clear h
  go_enter Try.func44, Try.ntmps44
  go_wp2_with fail
  refine hp.mono ?_
  rintro en w2 ⟨rfl, v', hr, hk, hg⟩
  have HK : Hid _ := hk
  have HG : Hid _ := hg
  have HR : Hid _ := hr
  clear hk hg hr hp
  go_wp2
  (try simp only [Exit.inBlock, Exit.then]); first | (refine bodyPost_ret (results_none rfl _ _ _) rfl ?_) | (refine bodyPost_end (results_none rfl _ _ _) rfl ?_)
  exact ⟨rfl, v', HR.out, HK.out, HG.out⟩
def dnL (size : Nat) (zs : List Int) (e : Int) : List Int := if e ≠ 0 ∨ zs.length < size then [] else zs
def dnE (size : Nat) (zs : List Int) (e : Int) : Int := if e ≠ 0 then e else if zs.length < size then 20 else 0
theorem done_any (r : Nat) (v : Value) (size : Nat) (zs : List Int) (e : Int) (w : World) (h : Wr w r v size zs e) :
    Calls Try.prog 32 #[.pointer (some ⟨r, 0, none⟩)] w fun en w' => ∃ u, en = .returned (.tuple #[u, .int .i64 (dnE size zs e)]) ∧ w'.ownsRow w.heap.size 5 1 u (dnL size zs e).length ((dnL size zs e).map (Value.int .u8)) ∧ Below w.heap.size w w' := by
  have c2 := h.c2
  by_cases he : e = 0
  · subst he
    have HL := wleft_any r v size zs 0 w h
    by_cases h1 : zs.length < size
    · have e1 : dnL size zs 0 = [] := by simp [dnL, h1]
      have e2 : dnE size zs 0 = 20 := by simp [dnE, h1]
      rw [e1, e2]
      have hgt : (0 : Int) < (size : Int) - zs.length := by omega
      generalize ((size : Int) - zs.length) = D at *
      clear h
      go_enter Try.func32, Try.ntmps32
      go_wp2_with fail
      refine HL.mono ?_
      rintro en _ ⟨rfl, q, rfl⟩
      go_wp2
      go_ret2
      exact ⟨_, rfl, World.ownsRow_nil _ _ _ _, below_dn (Below.refl _ _) q⟩
    · have e1 : dnL size zs 0 = zs := by simp [dnL, h1]
      have e2 : dnE size zs 0 = 0 := by simp [dnE, h1]
      rw [e1, e2]
      have hgt : ¬ (0 : Int) < (size : Int) - zs.length := by omega
      have c1 := h.c1
      obtain ⟨vo, cv, rfl⟩ := own_form h.own
      have HS : Hid (∀ q, Seen (w.drewN q) vo zs.length zs) := fun q => by
        obtain ⟨vo', cv', e', s', _⟩ := own_seen rfl h.hb (by have := h.hs; have := h.ht; omega) h.own
        simp only [Value.slice.injEq] at e'
        rw [e'.1]; exact s'.drewN q
      generalize ((size : Int) - zs.length) = D at *
      clear h
      go_enter Try.func32, Try.ntmps32
      go_wp2_with fail
      refine HL.mono ?_
      rintro en _ ⟨rfl, q, rfl⟩
      go_wp2_with fail
      refine (clone_any vo zs.length cv zs (w.drewN q) (HS.out q)).mono ?_
      rintro en w2 ⟨u, rfl, o2, b2⟩
      have HO : Hid (w2.ownsRow w.heap.size 5 1 u zs.length (zs.map (Value.int .u8))) := o2
      have HB : Hid (Below w.heap.size w w2) := below_ahead (k := q) b2
      clear o2 b2 HS HL
      go_wp2
      go_ret2
      exact ⟨_, rfl, HO.out, HB.out⟩
  · have e1 : dnL size zs e = [] := by simp [dnL, he]
    have e2 : dnE size zs e = e := by simp [dnE, he]
    rw [e1, e2]
    have hne : (e != 0) = true := by simpa using he
    clear h
    go_enter Try.func32, Try.ntmps32
    go_wp2
    go_quiet (fail)
    go_wp2
    go_ret2
    exact ⟨_, rfl, World.ownsRow_nil _ _ _ _, below_dn (Below.refl _ _) _⟩
end Go.Proofs.Ytgcpckkhkppnhaa
