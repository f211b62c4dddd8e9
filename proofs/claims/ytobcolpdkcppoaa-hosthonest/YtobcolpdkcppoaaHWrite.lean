/- Layer host: Write. -/
import Derived.Test.YtobcolpdkcppoaaHRaise
namespace Go.Proofs.Ytobcolpdkcppoaa
open Go.RowKit
set_option linter.unusedVariables false
set_option linter.unusedSimpArgs false

theorem clone_row {w w' : World} {v : Value} {n : Nat} {zs : List Int} (hl : zs.length = n) (hn : 1 ≤ n) (h : w'.ownsRow w.heap.size 5 1 v n (zs.map (Value.int .u8))) : ∃ g cap, v = .slice (some ⟨g, 0, none⟩) n cap ∧ RowAt w' g zs ∧ w.heap.size ≤ g := by
  rcases own_len hl h with ⟨_, e⟩ | ⟨g, cap, rfl, hr, hg, _⟩
  · omega
  · exact ⟨g, cap, rfl, hr, hg⟩
theorem HostIn.wider {w : World} {M : Nat → Prop} {h : Nat} {s : HSt} {gl gm : Nat} {lg : Value} {rws : List Value} {n : Nat} {D : DataW Value} (x : HostIn w M h s gl gm lg rws n D) (g : Nat) (hg : g < w.heap.size) : HostIn w (fun k => M k ∨ k = g) h s gl gm lg rws n D :=
  ⟨x.good, x.blk, x.lot, x.cnt, .inl x.mh, .inl x.ml, .inl x.mm, x.map, fun k => com_mono (x.com k) (fun _ h => .inl h), x.log.mono (fun _ h => .inl h), fun p hp => (x.row p hp).mono (fun _ h => .inl h), x.apart, fun k hk => by
    rcases hk with hk | rfl
    · exact x.all k hk
    · exact hg⟩
theorem enter_write : ∀ args w, (callFunc 58 args).run Try.prog w = .ok (.enter 58 args) w := fun args w => by kernel_rfl
set_option maxRecDepth 20000 in
set_option maxHeartbeats 1000000 in
theorem write1_any (h : Nat) (s : HSt) (p : Nat) (hp : p < s.pages) (ao : Option Addr) (c : Nat) (zs : List Int) (hr : (s.laid p).length < s.ops) (fv : Value) (bh bp bb : Nat) (M : Nat → Prop) (w : World) (x : HostAt w M h s) (b1 : Blk w bh 26 [.pointer (some ⟨h, 0, none⟩)]) (b2 : Blk w bp 3 [.int .i64 p]) (b3 : Blk w bb 32 [.slice ao s.size c]) (hx : Seen w ao s.size zs) :
    Calls Try.prog 58 #[fv, .pointer (some ⟨bh, 0, none⟩), .pointer (some ⟨bp, 0, none⟩), .pointer (some ⟨bb, 0, none⟩)] w fun e w' => e = .returned (.tuple #[]) ∧ ∃ M2, HostAt w' M2 h (s.wrote p zs) ∧ (∀ k, M k → M2 k) ∧ (∀ k, M2 k → M k ∨ w.heap.size ≤ k) ∧ Kept M w w' := by
  have X : Hid (HostAt w M h s ∧ Blk w bh 26 [.pointer (some ⟨h, 0, none⟩)] ∧ Blk w bp 3 [.int .i64 p] ∧ Blk w bb 32 [.slice ao s.size c] ∧ Seen w ao s.size zs) := ⟨x, b1, b2, b3, hx⟩
  have G : Hid s.Good := by obtain ⟨_, _, _, _, _, _, q⟩ := x; exact q.good
  have B : Hid (bh < w.heap.size ∧ bp < w.heap.size ∧ bb < w.heap.size) := ⟨b1.lt, b2.lt, b3.lt⟩
  clear x b1 b2 b3 hx
  go_enter Try.func58, Try.ntmps58
  refine wp_region_noPanic (till_region 4 (fun W => W.cell? ⟨bh, 0, none⟩ = some (.pointer (some ⟨h, 0, none⟩)) ∧ W.cell? ⟨bp, 0, none⟩ = some (.int .i64 p) ∧ W.cell? ⟨bb, 0, none⟩ = some (.slice ao s.size c)) (by kernel_rfl) ?_)
  obtain ⟨w1, hw1⟩ : ∃ q, ({ w with drawn := w.drawn + 1 } : World) = q := ⟨_, rfl⟩
  have V1 : Hid ((fun W : World => W.cell? ⟨bh, 0, none⟩ = some (.pointer (some ⟨h, 0, none⟩)) ∧ W.cell? ⟨bp, 0, none⟩ = some (.int .i64 p) ∧ W.cell? ⟨bb, 0, none⟩ = some (.slice ao s.size c)) w1 ∧ HostAt w1 M h s ∧ Seen w1 ao s.size zs ∧ Kept M w w1 ∧ w1.heap.size = w.heap.size ∧ w1.heap = w.heap) := by rw [← hw1]; exact ⟨⟨X.out.2.1.cell 0, X.out.2.2.1.cell 0, X.out.2.2.2.1.cell 0⟩, X.out.1.frame ⟨Nat.le_refl _, fun _ _ => rfl⟩, ⟨X.out.2.2.2.2.len, X.out.2.2.2.2.top, X.out.2.2.2.2.bytes, X.out.2.2.2.2.cells⟩, (Kept.refl M w).drew, rfl, rfl⟩
  rw [hw1]
  clear hw1
  have hS := V1.out.1
  refine tLoad 0 (some 5) (.pointer (some ⟨h, 0, none⟩)) rfl rfl (by kernel_rfl) (by kernel_rfl) (by kernel_rfl) (by decide) (by kernel_rfl) (by kernel_rfl) (fun _ _ _ h => h) (by rfl) (fun W' hS' => by obtain ⟨s1, s2, s3⟩ := hS'; go_simp) hS ?_
  simp only [Act.put, List.setIfInBounds_toArray, List.set_cons_zero, List.set_cons_succ]
  refine tLoad 1 (some 6) (.int .i64 p) rfl rfl (by kernel_rfl) (by kernel_rfl) (by kernel_rfl) (by decide) (by kernel_rfl) (by kernel_rfl) (fun _ _ _ h => h) (by rfl) (fun W' hS' => by obtain ⟨s1, s2, s3⟩ := hS'; go_simp) hS ?_
  simp only [Act.put, List.setIfInBounds_toArray, List.set_cons_zero, List.set_cons_succ]
  refine till_run 2 (some 7) (.slice ao s.size c) w1 (by kernel_rfl) rfl rfl (by rfl) (by have hc := hS.2.2; go_simp) hS ?_
  simp only [Act.put, List.setIfInBounds_toArray, List.set_cons_zero, List.set_cons_succ]
  refine till_ready 3 (by kernel_rfl) rfl (fun K hK => ?_)
  go_simp
  go_wp2_with (go_at_call 60; refine (clone_any ao s.size c zs w1 V1.out.2.2.1).mono ?_; rintro e w2 ⟨v2, rfl, o2, l2⟩)
  obtain ⟨g, cap, rfl, r2, hg2⟩ := clone_row V1.out.2.2.1.len (by have := G.out.size; omega) o2
  have hS2 : (fun W : World => W.cell? ⟨bh, 0, none⟩ = some (.pointer (some ⟨h, 0, none⟩)) ∧ W.cell? ⟨bp, 0, none⟩ = some (.int .i64 p) ∧ W.cell? ⟨bb, 0, none⟩ = some (.slice ao s.size c)) w2 := ⟨(l2.cell (p := ⟨bh, 0, none⟩) (by have := B.out.1; have := V1.out.2.2.2.2.1; simp; omega)).trans hS.1, (l2.cell (p := ⟨bp, 0, none⟩) (by have := B.out.2.1; have := V1.out.2.2.2.2.1; simp; omega)).trans hS.2.1, (l2.cell (p := ⟨bb, 0, none⟩) (by have := B.out.2.2; have := V1.out.2.2.2.2.1; simp; omega)).trans hS.2.2⟩
  refine ⟨hS2, ?_⟩
  have U2 : Hid (∃ gl gm lg rws n D, HostIn w2 (fun k => M k ∨ k = g) h s gl gm lg rws n D) := by
    obtain ⟨gl, gm, lg, rws, n, D, y⟩ := V1.out.2.1.later l2
    exact ⟨gl, gm, lg, rws, n, D, y.wider g r2.lt⟩
  have R2 : Hid (RowAt w2 g zs ∧ w1.heap.size ≤ g ∧ Below w1.heap.size w1 w2) := ⟨r2, hg2, l2⟩
  clear hS hS2 o2 l2 r2 hg2
  obtain ⟨gl, gm, lg, rws, n, D, y2⟩ := U2.out
  refine till_at (by kernel_rfl) ?_
  refine wpAny_ready (rs := [4]) (by kernel_rfl) (by simp) (AllReady.cons rfl (fun K hK => ?_) AllReady.nil)
  go_simp
  go_wp2_with (go_at_call 59; refine (keep_any h s p hp zs V1.out.2.2.1.len V1.out.2.2.1.bytes hr g cap (fun k => M k ∨ k = g) gl gm lg rws n D w2 y2 (.inr rfl) R2.out.1).mono ?_; rintro e w3 ⟨rfl, y3, k3⟩)
  refine wpAny_done (by kernel_rfl) (NoPanic.normal ?_) _
  go_end0
  refine ⟨rfl, more (fun k => M k ∨ k = g) w2 w3, y3, fun k hk => .inl (.inl hk), fun k hk => ?_, ?_⟩
  · have := R2.out.2.1; have := R2.out.2.2.size; have := V1.out.2.2.2.2.1
    rcases hk with (hk | hk) | hk
    · exact .inl hk
    · exact .inr (by omega)
    · exact .inr (by omega)
  · have := R2.out.2.1; have := R2.out.2.2.size; have := V1.out.2.2.2.2.1
    have k1 := V1.out.2.2.2.1
    have l2 := R2.out.2.2
    refine ⟨k3.os.trans (l2.os.trans k1.os), k3.tape.trans (l2.tape.trans k1.tape), k3.output.trans (l2.output.trans k1.output), Nat.le_trans k1.size (Nat.le_trans l2.size k3.size), fun k hk hS => (k3.block k (by omega) (fun e => ?_)).trans ((l2.block k (by omega)).trans (k1.block k hk hS))⟩
    rcases e with e | e
    · exact hS e
    · omega
/-- What Write answers, and the host behind it. -/
def wrE (s : HSt) (p : Int) (n : Nat) : Int := if hasP s p = false then 2 else if n ≠ s.size then 4 else s.opE
def wrS (s : HSt) (p : Int) (n : Nat) (zs : List Int) : HSt := if hasP s p = false ∨ n ≠ s.size then s else s.opS (fun s => s.wrote p.toNat zs) ⟨1, p, s.size, headL zs⟩
set_option maxRecDepth 20000 in
set_option maxHeartbeats 2000000 in
theorem write_bad (h : Nat) (s : HSt) (p : Int) (ao : Option Addr) (n c : Nat) (M : Nat → Prop) (w : World) (x : HostAt w M h s) (hn : n ≤ 140737488355328) (hb : hasP s p = false ∨ n ≠ s.size) :
    Calls Try.prog 34 #[.pointer (some ⟨h, 0, none⟩), .int .i64 p, .slice ao n c] w fun e w' => e = .returned (.int .i64 (wrE s p n)) ∧ Below w.heap.size w w' := by
  have CC : Hid (∀ W, Below w.heap.size w W → Calls Try.prog 47 #[.pointer (some ⟨h, 0, none⟩), .int .i64 p] W fun e w' => e = .returned (.int .i64 (if hasP s p then 0 else 2)) ∧ W = w') := fun W hW => checkH_any h s p M W (x.later hW)
  have hh : h < w.heap.size := by obtain ⟨_, _, _, _, _, _, q⟩ := x; exact q.blk.lt
  have c0 : w.cell? ⟨h, 0, none⟩ = some (.int .i64 s.size) := by obtain ⟨_, _, _, _, _, _, q⟩ := x; exact q.blk.cell 0
  have hsz : s.size ≤ 4124 := by obtain ⟨_, _, _, _, _, _, q⟩ := x; exact q.good.size.2
  clear x
  cases hp : hasP s p
  · rw [hp] at CC
    have HF : Hid (wrE s p n = 2) := if_pos hp
    clear hp hb
    go_enter Try.func34, Try.ntmps34
    go_wp2_with (first | ((with_reducible show wpList _ _ _ (({ dst := some 3, op := _, type := _, pos := _, after := _, guard := _ } : Oper) :: _) _ _); refine wpList_boxV rfl 26 _ rfl (.pointer (some ⟨h, 0, none⟩)) rfl rfl ?_; intro w1 b1 s1 l1; have z1 : Hid (w1.heap.size = w.heap.size + 1) := s1; clear s1) | ((with_reducible show wpList _ _ _ (({ dst := some 4, op := _, type := _, pos := _, after := _, guard := _ } : Oper) :: _) _ _); refine wpList_boxV rfl 3 _ rfl (.int .i64 p) rfl rfl ?_; intro w2 b2 s2 l2; have z2 : Hid (w2.heap.size = w1.heap.size + 1) := s2; clear s2) | ((with_reducible show wpList _ _ _ (({ dst := some 5, op := _, type := _, pos := _, after := _, guard := _ } : Oper) :: _) _ _); refine wpList_boxV rfl 32 _ rfl (.slice ao n c) rfl rfl ?_; intro w3 b3 s3 l3; have z3 : Hid (w3.heap.size = w2.heap.size + 1) := s3; clear s3; have d0 : w3.cell? ⟨w.heap.size, 0, none⟩ = some (.pointer (some ⟨h, 0, none⟩)) := ((b1.later l2 b1.lt).later l3 (b1.later l2 b1.lt).lt).cell 0; have d1 : w3.cell? ⟨w1.heap.size, 0, none⟩ = some (.int .i64 p) := (b2.later l3 b2.lt).cell 0; have d2 : w3.cell? ⟨w2.heap.size, 0, none⟩ = some (.slice ao n c) := b3.cell 0; have hb3 : Below w.heap.size w w3 := below_chain (below_chain l1 l2 l1.size) l3 (by have := l1.size; have := l2.size; omega); have d3 : w3.cell? ⟨h, 0, none⟩ = some (.int .i64 s.size) := (hb3.cell (p := ⟨h, 0, none⟩) hh).trans c0) | (go_at_call 47; refine (CC.out w3 hb3).mono ?_; rintro e _ ⟨rfl, rfl⟩))
    go_ret
    exact ⟨ret_int HF.out.symm, hb3⟩
  · rw [hp] at CC
    have hne : n ≠ s.size := by rcases hb with h1 | h1; rw [hp] at h1; cases h1; exact h1
    have HF : Hid (wrE s p n = 4) := by
      have : wrE s p n = 4 := by unfold wrE; rw [if_neg (by rw [hp]; simp), if_pos hne]
      exact this
    have hne' : ((n : Int) != (s.size : Int)) = true := by simp; omega
    clear hp hb hne
    go_enter Try.func34, Try.ntmps34
    go_wp2_with (first | ((with_reducible show wpList _ _ _ (({ dst := some 3, op := _, type := _, pos := _, after := _, guard := _ } : Oper) :: _) _ _); refine wpList_boxV rfl 26 _ rfl (.pointer (some ⟨h, 0, none⟩)) rfl rfl ?_; intro w1 b1 s1 l1; have z1 : Hid (w1.heap.size = w.heap.size + 1) := s1; clear s1) | ((with_reducible show wpList _ _ _ (({ dst := some 4, op := _, type := _, pos := _, after := _, guard := _ } : Oper) :: _) _ _); refine wpList_boxV rfl 3 _ rfl (.int .i64 p) rfl rfl ?_; intro w2 b2 s2 l2; have z2 : Hid (w2.heap.size = w1.heap.size + 1) := s2; clear s2) | ((with_reducible show wpList _ _ _ (({ dst := some 5, op := _, type := _, pos := _, after := _, guard := _ } : Oper) :: _) _ _); refine wpList_boxV rfl 32 _ rfl (.slice ao n c) rfl rfl ?_; intro w3 b3 s3 l3; have z3 : Hid (w3.heap.size = w2.heap.size + 1) := s3; clear s3; have d0 : w3.cell? ⟨w.heap.size, 0, none⟩ = some (.pointer (some ⟨h, 0, none⟩)) := ((b1.later l2 b1.lt).later l3 (b1.later l2 b1.lt).lt).cell 0; have d1 : w3.cell? ⟨w1.heap.size, 0, none⟩ = some (.int .i64 p) := (b2.later l3 b2.lt).cell 0; have d2 : w3.cell? ⟨w2.heap.size, 0, none⟩ = some (.slice ao n c) := b3.cell 0; have hb3 : Below w.heap.size w w3 := below_chain (below_chain l1 l2 l1.size) l3 (by have := l1.size; have := l2.size; omega); have d3 : w3.cell? ⟨h, 0, none⟩ = some (.int .i64 s.size) := (hb3.cell (p := ⟨h, 0, none⟩) hh).trans c0) | (go_at_call 47; refine (CC.out w3 hb3).mono ?_; rintro e _ ⟨rfl, rfl⟩))
    go_quiet (fail)
    go_wp2_with fail
    go_ret
    exact ⟨ret_int HF.out.symm, below_dn hb3 _⟩
set_option maxRecDepth 20000 in
set_option maxHeartbeats 2000000 in
theorem write_good (h : Nat) (s : HSt) (p : Nat) (hp : p < s.pages) (ao : Option Addr) (n c : Nat) (zs : List Int) (hn : n = s.size) (M : Nat → Prop) (w : World) (x : HostAt w M h s) (hx : Seen w ao n zs) (ho : ∀ b o, 0 < n → ao = some ⟨b, o, none⟩ → ¬ M b) (hops : s.ops < 3000000000000) :
    Calls Try.prog 34 #[.pointer (some ⟨h, 0, none⟩), .int .i64 p, .slice ao n c] w fun e w' => e = .returned (.int .i64 s.opE) ∧ ∃ M2, HostAt w' M2 h (s.opS (fun s => s.wrote p zs) ⟨1, p, s.size, headL zs⟩) ∧ Goes M M2 w w' := by
  have hpt : hasP s p = true := by simp [hasP]; omega
  have CC : Hid (∀ W, Below w.heap.size w W → Calls Try.prog 47 #[.pointer (some ⟨h, 0, none⟩), .int .i64 p] W fun e w' => e = .returned (.int .i64 0) ∧ W = w') := fun W hW => by
    have := checkH_any h s p M W (x.later hW)
    rw [hpt] at this
    exact this
  have G : Hid s.Good := by obtain ⟨_, _, _, _, _, _, q⟩ := x; exact q.good
  have CO : Hid (∀ bp bb w4 w5, w.heap.size ≤ bp → w.heap.size ≤ bb → HostAt w4 M h s → Blk w4 w.heap.size 26 [.pointer (some ⟨h, 0, none⟩)] → Blk w4 bp 3 [.int .i64 p] → Blk w4 bb 32 [.slice ao n c] → Seen w4 ao n zs → Below w4.heap.size w4 w5 → Calls Try.prog 49 #[.pointer (some ⟨h, 0, none⟩), .agg (tcC ⟨1, p, s.size, headL zs⟩).toArray, .func (.func 58) #[] #[.pointer (some ⟨w.heap.size, 0, none⟩), .pointer (some ⟨bp, 0, none⟩), .pointer (some ⟨bb, 0, none⟩)]] w5 fun e w' => e = .returned (.int .i64 s.opE) ∧ ∃ M2, HostAt w' M2 h (s.opS (fun s => s.wrote p zs) ⟨1, p, s.size, headL zs⟩) ∧ (∀ k, M k → M2 k) ∧ (∀ k, M2 k → M k ∨ w5.heap.size ≤ k) ∧ Kept (fun k => M k ∨ False) w5 w' ∧ (s.done → True)) := fun bp bb w4 w5 hbp hbb y b1 b2 b3 hx4 l5 =>
    operate_all h s (fun s => s.wrote p zs) ⟨1, p, s.size, headL zs⟩ (headL_length zs) 58 _ enter_write M (fun _ => False) (fun _ _ => True) w5 (y.later l5) hops (fun _ h => h.elim) (fun _ _ _ => trivial) (fun _ _ _ _ _ _ => trivial) ⟨rfl, rfl⟩ (fun _ W fv y2 _ k5 => by
      have nb : ∀ b, w.heap.size ≤ b → ¬ M b := fun b hb e => by have := x.all b e; omega
      have hx5 := hx4.later l5 (Nat.le_refl _)
      have hxW : Seen W ao n zs := hx5.kept k5 (fun b o h1 h2 => ho b o h1 h2)
      subst hn
      refine (write1_any h s.next p hp ao c zs (by have := G.out.laid p; show (s.laid p).length < s.ops + 1; omega) fv _ _ _ M W y2 ((b1.later l5 b1.lt).kept k5 (nb _ (Nat.le_refl _))) ((b2.later l5 b2.lt).kept k5 (nb _ hbp)) ((b3.later l5 b3.lt).kept k5 (nb _ hbb)) hxW).mono ?_
      rintro e W' ⟨rfl, M2, y3, m1, m2, k3⟩
      exact ⟨rfl, M2, y3, m1, m2, k3.mono (fun k e => .inl e), trivial⟩)
  have X : Hid (HostAt w M h s ∧ Seen w ao n zs) := ⟨x, hx⟩
  have hh : h < w.heap.size := by obtain ⟨_, _, _, _, _, _, q⟩ := x; exact q.blk.lt
  have c0 : w.cell? ⟨h, 0, none⟩ = some (.int .i64 s.size) := by obtain ⟨_, _, _, _, _, _, q⟩ := x; exact q.blk.cell 0
  have hsz : s.size ≤ 4124 := G.out.size.2
  have hne' : ((n : Int) != (s.size : Int)) = false := by simp; omega
  obtain ⟨E, hE'⟩ : ∃ q, s.opE = q := ⟨_, rfl⟩
  rw [hE'] at CO ⊢
  clear hE' x hops hx ho hpt hn
  go_enter Try.func34, Try.ntmps34
  go_wp2_with (first | ((with_reducible show wpList _ _ _ (({ dst := some 3, op := _, type := _, pos := _, after := _, guard := _ } : Oper) :: _) _ _); refine wpList_boxV rfl 26 _ rfl (.pointer (some ⟨h, 0, none⟩)) rfl rfl ?_; intro w1 b1 s1 l1; have z1 : Hid (w1.heap.size = w.heap.size + 1) := s1; clear s1) | ((with_reducible show wpList _ _ _ (({ dst := some 4, op := _, type := _, pos := _, after := _, guard := _ } : Oper) :: _) _ _); refine wpList_boxV rfl 3 _ rfl (.int .i64 p) rfl rfl ?_; intro w2 b2 s2 l2; have z2 : Hid (w2.heap.size = w1.heap.size + 1) := s2; clear s2) | ((with_reducible show wpList _ _ _ (({ dst := some 5, op := _, type := _, pos := _, after := _, guard := _ } : Oper) :: _) _ _); refine wpList_boxV rfl 32 _ rfl (.slice ao n c) rfl rfl ?_; intro w3 b3 s3 l3; have z3 : Hid (w3.heap.size = w2.heap.size + 1) := s3; clear s3; have d0 : w3.cell? ⟨w.heap.size, 0, none⟩ = some (.pointer (some ⟨h, 0, none⟩)) := ((b1.later l2 b1.lt).later l3 (b1.later l2 b1.lt).lt).cell 0; have d1 : w3.cell? ⟨w1.heap.size, 0, none⟩ = some (.int .i64 p) := (b2.later l3 b2.lt).cell 0; have d2 : w3.cell? ⟨w2.heap.size, 0, none⟩ = some (.slice ao n c) := b3.cell 0; have hb3 : Below w.heap.size w w3 := below_chain (below_chain l1 l2 l1.size) l3 (by have := l1.size; have := l2.size; omega); have d3 : w3.cell? ⟨h, 0, none⟩ = some (.int .i64 s.size) := (hb3.cell (p := ⟨h, 0, none⟩) hh).trans c0) | (go_at_call 47; refine (CC.out w3 hb3).mono ?_; rintro e _ ⟨rfl, rfl⟩))
  have V3 : Hid (HostAt w3 M h s ∧ Blk w3 w.heap.size 26 [.pointer (some ⟨h, 0, none⟩)] ∧ Blk w3 w1.heap.size 3 [.int .i64 p] ∧ Blk w3 w2.heap.size 32 [.slice ao n c] ∧ Seen w3 ao n zs ∧ Below w.heap.size w w3) := ⟨X.out.1.later hb3, (b1.later l2 b1.lt).later l3 (b1.later l2 b1.lt).lt, b2.later l3 b2.lt, b3, X.out.2.later hb3 (Nat.le_refl _), hb3⟩
  clear b1 b2 b3 l1 l2 l3 z3 hb3 hh c0
  go_quiet (fail)
  go_wp2_with fail
  refine wp_region_noPanic (till_region 7 (fun W => W.cell? ⟨w.heap.size, 0, none⟩ = some (.pointer (some ⟨h, 0, none⟩)) ∧ W.cell? ⟨w1.heap.size, 0, none⟩ = some (.int .i64 p) ∧ W.cell? ⟨w2.heap.size, 0, none⟩ = some (.slice ao n c)) (by kernel_rfl) ?_)
  obtain ⟨w4, hw4⟩ : ∃ q, ({ heap := (w3.drewN nq).heap, tape := (w3.drewN nq).tape, drawn := (w3.drewN nq).drawn + 1, os := (w3.drewN nq).os, output := (w3.drewN nq).output } : World) = q := ⟨_, rfl⟩
  have V4 : Hid (HostAt w4 M h s ∧ Blk w4 w.heap.size 26 [.pointer (some ⟨h, 0, none⟩)] ∧ Blk w4 w1.heap.size 3 [.int .i64 p] ∧ Blk w4 w2.heap.size 32 [.slice ao n c] ∧ Seen w4 ao n zs ∧ Below w.heap.size w w4) := by rw [← hw4]; exact ⟨V3.out.1.frame ⟨Nat.le_refl _, fun _ _ => rfl⟩, V3.out.2.1, V3.out.2.2.1, V3.out.2.2.2.1, ⟨V3.out.2.2.2.2.1.len, V3.out.2.2.2.2.1.top, V3.out.2.2.2.2.1.bytes, V3.out.2.2.2.2.1.cells⟩, ⟨V3.out.2.2.2.2.2.os, V3.out.2.2.2.2.2.tape, V3.out.2.2.2.2.2.output, V3.out.2.2.2.2.2.size, V3.out.2.2.2.2.2.block⟩⟩
  rw [hw4]
  clear hw4
  have hS : (fun W : World => W.cell? ⟨w.heap.size, 0, none⟩ = some (.pointer (some ⟨h, 0, none⟩)) ∧ W.cell? ⟨w1.heap.size, 0, none⟩ = some (.int .i64 p) ∧ W.cell? ⟨w2.heap.size, 0, none⟩ = some (.slice ao n c)) w4 := ⟨V4.out.2.1.cell 0, V4.out.2.2.1.cell 0, V4.out.2.2.2.1.cell 0⟩
  refine tLoad 0 (some 21) (.pointer (some ⟨h, 0, none⟩)) rfl rfl (by kernel_rfl) (by kernel_rfl) (by kernel_rfl) (by decide) (by kernel_rfl) (by kernel_rfl) (fun _ _ _ h => h) (by rfl) (fun W' hS' => by obtain ⟨s1, s2, s3⟩ := hS'; go_simp) hS ?_
  simp only [Act.put, List.setIfInBounds_toArray, List.set_cons_zero, List.set_cons_succ]
  refine tLoad 1 (some 22) (.pointer (some ⟨h, 0, none⟩)) rfl rfl (by kernel_rfl) (by kernel_rfl) (by kernel_rfl) (by decide) (by kernel_rfl) (by kernel_rfl) (fun _ _ _ h => h) (by rfl) (fun W' hS' => by obtain ⟨s1, s2, s3⟩ := hS'; go_simp) hS ?_
  simp only [Act.put, List.setIfInBounds_toArray, List.set_cons_zero, List.set_cons_succ]
  refine tLoad 2 (some 23) (.int .i64 p) rfl rfl (by kernel_rfl) (by kernel_rfl) (by kernel_rfl) (by decide) (by kernel_rfl) (by kernel_rfl) (fun _ _ _ h => h) (by rfl) (fun W' hS' => by obtain ⟨s1, s2, s3⟩ := hS'; go_simp) hS ?_
  simp only [Act.put, List.setIfInBounds_toArray, List.set_cons_zero, List.set_cons_succ]
  refine tLoad 3 (some 24) (.slice ao n c) rfl rfl (by kernel_rfl) (by kernel_rfl) (by kernel_rfl) (by decide) (by kernel_rfl) (by kernel_rfl) (fun _ _ _ h => h) (by rfl) (fun W' hS' => by obtain ⟨s1, s2, s3⟩ := hS'; go_simp) hS ?_
  simp only [Act.put, List.setIfInBounds_toArray, List.set_cons_zero, List.set_cons_succ]
  refine tTake 5 (some 26) (.func (.func 58) #[] #[.pointer (some ⟨w.heap.size, 0, none⟩), .pointer (some ⟨w1.heap.size, 0, none⟩), .pointer (some ⟨w2.heap.size, 0, none⟩)]) rfl rfl (by kernel_rfl) (by kernel_rfl) (by kernel_rfl) (by decide) (fun _ _ _ h => h) (by rfl) (fun W' => by go_simp) hS ?_
  simp only [Act.put, List.setIfInBounds_toArray, List.set_cons_zero, List.set_cons_succ]
  refine till_ready 4 (by kernel_rfl) rfl (fun K hK => ?_)
  go_simp
  go_wp2_with (go_at_call 50; refine (touch_write h s p ao n c zs M w4 V4.out.1 V4.out.2.2.2.2.1).mono ?_; rintro e w5 ⟨rfl, l5⟩)
  have V5 : Hid (Blk w5 w.heap.size 26 [.pointer (some ⟨h, 0, none⟩)] ∧ Blk w5 w1.heap.size 3 [.int .i64 p] ∧ Blk w5 w2.heap.size 32 [.slice ao n c] ∧ Below w4.heap.size w4 w5) := ⟨V4.out.2.1.later l5 V4.out.2.1.lt, V4.out.2.2.1.later l5 V4.out.2.2.1.lt, V4.out.2.2.2.1.later l5 V4.out.2.2.2.1.lt, l5⟩
  have hS5 : (fun W : World => W.cell? ⟨w.heap.size, 0, none⟩ = some (.pointer (some ⟨h, 0, none⟩)) ∧ W.cell? ⟨w1.heap.size, 0, none⟩ = some (.int .i64 p) ∧ W.cell? ⟨w2.heap.size, 0, none⟩ = some (.slice ao n c)) w5 := ⟨V5.out.1.cell 0, V5.out.2.1.cell 0, V5.out.2.2.1.cell 0⟩
  refine ⟨hS5, ?_⟩
  refine till_ready 6 (by kernel_rfl) rfl (fun K hK => ?_)
  go_simp
  go_wp2_with (go_at_call 49; refine (CO.out w1.heap.size w2.heap.size w4 w5 (by have := z1.out; omega) (by have := z1.out; have := z2.out; omega) V4.out.1 V4.out.2.1 V4.out.2.2.1 V4.out.2.2.2.1 V4.out.2.2.2.2.1 l5).mono ?_; rintro e w6 ⟨rfl, M2, y, m1, m2, k6, _⟩)
  have kM : Kept M w5 w6 := k6.mono (fun k e => e.elim id False.elim)
  have nM : ∀ b, w.heap.size ≤ b → ¬ M b := fun b hb e => by have := X.out.1.all b e; omega
  have U6 : Hid (HostAt w6 M2 h (s.opS (fun s => s.wrote p zs) ⟨1, p, s.size, headL zs⟩) ∧ Goes M M2 w w6) := ⟨y, Goes.later V4.out.2.2.2.2.2 (Goes.later l5 ⟨m1, m2, kM⟩)⟩
  have hS6 : (fun W : World => W.cell? ⟨w.heap.size, 0, none⟩ = some (.pointer (some ⟨h, 0, none⟩)) ∧ W.cell? ⟨w1.heap.size, 0, none⟩ = some (.int .i64 p) ∧ W.cell? ⟨w2.heap.size, 0, none⟩ = some (.slice ao n c)) w6 := ⟨(V5.out.1.kept kM (nM _ (Nat.le_refl _))).cell 0, (V5.out.2.1.kept kM (nM _ (by have := z1.out; omega))).cell 0, (V5.out.2.2.1.kept kM (nM _ (by have := z1.out; have := z2.out; omega))).cell 0⟩
  refine ⟨hS6, ?_⟩
  clear y m1 m2 k6 kM nM l5 hS hS5 hS6
  refine till_at (by kernel_rfl) ?_
  refine take_op 7 (some 6) (.int .i64 E) rfl rfl (by kernel_rfl) (by kernel_rfl) (by kernel_rfl) (fun _ _ _ h => h) (by rfl) (fun _ => by rfl) ?_
  simp only [Act.put, List.setIfInBounds_toArray, List.set_cons_zero, List.set_cons_succ]
  refine wpAny_done (by kernel_rfl) (NoPanic.normal ?_) _
  go_wp2_with fail
  go_ret
  exact ⟨rfl, M2, U6.out.1, U6.out.2⟩
end Go.Proofs.Ytobcolpdkcppoaa
