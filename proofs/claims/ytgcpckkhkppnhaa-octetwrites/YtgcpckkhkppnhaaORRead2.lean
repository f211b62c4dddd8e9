/- The document's readers (trystref02): Number, NewReader. -/
import Derived.Test.YtgcpckkhkppnhaaORRead
import Derived.Test.YtgcpckkhkppnhaaORef
namespace Go.Proofs.Ytgcpckkhkppnhaa
open Go.RowKit
set_option linter.unusedVariables false
set_option linter.unusedSimpArgs false

theorem nx_no {zs : List Int} {p : Nat} {e n : Int} (h : nxE zs p e n ≠ 0) : nxL zs p e n = [] := by
  unfold nxE at h
  unfold nxL
  split at h
  · rename_i h1; rw [if_pos (.inl h1)]
  · split at h
    · rename_i h1; rw [if_pos (.inr (.inl h1))]
    · split at h
      · rename_i h1; rw [if_pos (.inr (.inr h1))]
      · exact absurd rfl h
theorem rnxL_bytes {zs : List Int} (hb : Bytes zs) (p : Nat) (e n : Int) : Bytes (nxL zs p e n) := by
  unfold nxL
  split
  · intro z hz; cases hz
  · exact bytes_take (bytes_drop hb p) _
theorem nxL_le (zs : List Int) (p : Nat) (e n : Int) : (nxL zs p e n).length ≤ zs.length := by
  unfold nxL
  split
  · exact Nat.zero_le _
  · rw [List.length_take, List.length_drop]; omega
set_option maxRecDepth 20000 in
theorem rnumber_any (r : Nat) (ao : Option Addr) (c : Nat) (zs : List Int) (p : Nat) (e : Int) (k : Nat) (hk0 : 0 < k) (hk : k ≤ 8) (w : World) (h : Rd w r ao c zs p e) :
    Calls Try.prog 22 #[.pointer (some ⟨r, 0, none⟩), .int .i64 k] w fun en w' => en = .returned (.int .u64 (leV k (nxL zs p e k).length (nxL zs p e k))) ∧ Rd w' r ao c zs (nxP zs p e k) (nxE zs p e k) ∧ Kept (fun y => y = r) w w' := by
  have hn := rtake_any r ao c zs p e k (by omega) w h
  have hb := rnxL_bytes h.hb p e k
  have hle := nxL_le zs p e k
  have ht := h.ht
  have hno := @nx_no zs p e k
  clear h
  generalize nxL zs p e k = L at *
  generalize nxP zs p e k = P' at *
  generalize nxE zs p e k = E' at *
  have HB : Hid (Bytes L) := hb
  have HT : L.length ≤ 140737488355328 := by omega
  have HNO : Hid (E' ≠ 0 → L = []) := hno
  clear hb hle ht hno
  go_enter Try.func22, Try.ntmps22
  go_wp2_with fail
  refine hn.mono ?_
  rintro e w1 ⟨v, ok, rfl, hok, o1, r1, k1⟩
  obtain ⟨vo, cv, rfl, s1, _⟩ := own_seen rfl HB.out HT o1
  have HF : Hid _ := And.intro r1 k1
  clear hn o1 r1 k1
  cases ok with
  | true =>
    clear hok
    go_wp2_with fail
    refine (rlittle_any vo L.length cv L k hk w1 s1).mono ?_
    rintro e w' ⟨rfl, rfl⟩
    clear s1
    go_wp2
    go_ret
    exact ⟨rfl, HF.out.1, HF.out.2⟩
  | false =>
    have hL : L = [] := HNO.out (fun h => by have := hok.2 h; cases this)
    have HZ : Hid (leV k L.length L = 0) := by
      show _ = _
      rw [hL]
      exact leV_no [] (by show 0 ≠ k; omega)
    clear hok s1 hL
    go_wp2
    go_ret
    rw [HZ.out]
    exact ⟨rfl, HF.out.1, HF.out.2⟩
set_option maxRecDepth 20000 in
theorem rnew_any (ao : Option Addr) (n c : Nat) (zs : List Int) (w : World) (hx : Seen w ao n zs) (hc : ao = none → c = 0) :
    Calls Try.prog 7 #[.slice ao n c] w fun e w' => ∃ r ao' c', e = .returned (.pointer (some ⟨r, 0, none⟩)) ∧ Rd w' r ao' c' zs 0 0 ∧ w.heap.size ≤ r ∧ (∀ g, ao' = some ⟨g, 0, none⟩ → w.heap.size ≤ g) ∧ Below w.heap.size w w' := by
  have HX : Hid (zs.length = n ∧ Bytes zs ∧ n ≤ 140737488355328) := ⟨hx.len, hx.bytes, hx.top⟩
  have t1 := hx.top
  have HC : Hid (ao = none → c = 0) := hc
  have HS : Hid (Seen w ao n zs) := hx
  have hlen := hx.len
  clear hc
  have sA : Seen (w.alloc (.cells #[.slice none 0 0, .int .i64 0, .int .i64 0] 53)) ao n zs := hx.later ((Below.refl w.heap.size w).alloc (Nat.le_refl _) _) (Nat.le_refl _)
  have ZA : Hid ((w.alloc (.cells #[.slice none 0 0, .int .i64 0, .int .i64 0] 53)).heap.size = w.heap.size + 1) := by show _ = _; simp
  clear hx
  go_enter Try.func7, Try.ntmps7
  go_wp2_with (at_builtin; refine wpList_append_seen rfl (.tmp 10) (.tmp 11) rfl (w.heap.size + 1) (.slice none 0 0) 0 [] rfl (World.ownsRow_nil _ _ _ _) ao n c zs rfl sA HC.out (by omega) (Nat.le_of_eq ZA.out.symm) ?_)
  intro v1 w1 o1 g1
  obtain ⟨vo, cv, rfl⟩ := own_form o1
  have hA : (w.alloc (.cells #[.slice none 0 0, .int .i64 0, .int .i64 0] 53)).heap[w.heap.size]? = some (.cells #[.slice none 0 0, .int .i64 0, .int .i64 0] 53 (0, 0)) := heap_alloc_new w _
  have zA := ZA.out
  have zg := g1.size
  have h1 : w1.heap[w.heap.size]? = some (.cells #[.slice none 0 0, .int .i64 0, .int .i64 0] 53 (0, 0)) := (g1.block w.heap.size (by omega) (by intro e; cases e)).trans hA
  have c0 : w1.cell? ⟨w.heap.size, 0, none⟩ = some (.slice none 0 0) := by rw [cell_of_row _ _ 0 _ 53 (0, 0) h1]; rfl
  have c1 : w1.cell? ⟨w.heap.size, 1, none⟩ = some (.int .i64 0) := by rw [cell_of_row _ _ 1 _ 53 (0, 0) h1]; rfl
  have c2 : w1.cell? ⟨w.heap.size, 2, none⟩ = some (.int .i64 0) := by rw [cell_of_row _ _ 2 _ 53 (0, 0) h1]; rfl
  have f0 : w1.frozen? ⟨w.heap.size, 0, none⟩ = false := frozen_of_row _ _ 0 _ 53 h1
  have f1 : w1.frozen? ⟨w.heap.size, 1, none⟩ = false := frozen_of_row _ _ 1 _ 53 h1
  have f2 : w1.frozen? ⟨w.heap.size, 2, none⟩ = false := frozen_of_row _ _ 2 _ 53 h1
  have RR : Hid (Rd (w1.setCell ⟨w.heap.size, 0, none⟩ (.slice vo n cv)) w.heap.size vo cv zs 0 0) := by
    subst hlen
    refine ⟨World.cell?_setCell_same _ _ _ c0, ?_, ?_, by simpa using f1, by simpa using f2, ?_, Nat.zero_le _, t1, HX.out.2.1, fun g hg => ?_, by simp [World.setCell]; omega⟩
    · rw [World.cell?_setCell_other _ _ _ _ (by simp)]; exact c1
    · rw [World.cell?_setCell_other _ _ _ _ (by simp)]; exact c2
    · exact own_block (ownsRow_base o1 (Nat.zero_le _)) fun k hk => Below.heap_setCell _ _ _ _ (by
        have h2 := (o1.lt k hk).1
        show k ≠ w.heap.size
        omega)
    · subst hg
      have := (o1.lt g rfl).1
      omega
  have HG : Hid (∀ g, vo = some ⟨g, 0, none⟩ → w.heap.size ≤ g) := fun g hg => by
    subst hg
    have := (o1.lt g rfl).1
    omega
  have HB : Hid (Below w.heap.size w (w1.setCell ⟨w.heap.size, 0, none⟩ (.slice vo n cv))) := ((((Below.refl w.heap.size w).alloc (Nat.le_refl _) _).grown g1 (by omega) (fun j hj => by cases hj))).setCell (p := ⟨w.heap.size, 0, none⟩) (Nat.le_refl _) _
  clear o1 g1 hA zA zg h1 c1 c2 f1 f2 sA
  go_wp2
  go_ret
  exact ⟨_, vo, cv, rfl, RR.out, Nat.le_refl _, HG.out, HB.out⟩
end Go.Proofs.Ytgcpckkhkppnhaa
