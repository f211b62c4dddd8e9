/- Layer slots: Log. -/
import Derived.Test.YtnagndnpamcbbaaGreatSlNew
namespace Go.Proofs.YtnagndnpamcbbaaGreat
open Go.RowKit
set_option linter.unusedVariables false
set_option linter.unusedSimpArgs false

theorem axs_one1 (a : Ax) : ∀ u ∈ axC a, u.oneCell' = true := fun u h => by
  simp [axC] at h
  rcases h with rfl | rfl | rfl <;> rfl
theorem own_made_a (w : World) : (w.alloc (.cells #[] 153)).ownsRow w.heap.size 153 3 (.slice (some ⟨w.heap.size, 0, none⟩) 0 0) 0 [] :=
  World.ownsRow_made w _ 0 (Nat.le_refl _) (Nat.zero_le _) rfl
set_option maxRecDepth 20000 in
set_option maxHeartbeats 1000000 in
theorem cloneA_any (v : Value) (l : List Ax) (w : World) (ho : w.ownsRow 0 153 3 v l.length (l.flatMap axC)) (hl : l.length ≤ 3000000000000) : Calls Tryz.prog 69 #[v] w fun e w' => ∃ v', e = .returned v' ∧ w'.ownsRow w.heap.size 153 3 v' l.length (l.flatMap axC) ∧ Below w.heap.size w w' := by
  obtain ⟨i0, hi, hz0, hz1, hz2⟩ := info_parts info_ax
  rcases ho.2 with ⟨rfl, h0⟩ | ⟨g, cap, cur, rfl, _, hh, hc, hm, hs, ht⟩
  · obtain rfl : l = [] := List.length_eq_zero_iff.1 h0
    have hq : ∀ wx, (binOp .eql 55 (.slice none 0 0) (.slice none 0 0)).run Tryz.prog wx = .ok (.bool true) wx := fun wx => Lib.run_eql_slice_nil wx 55 153 none 0 0 0 0 Tryz.underlying55
    clear ho
    go_enter Tryz.func69, Tryz.ntmps69
    go_wp2
    go_ret
    exact ⟨_, rfl, World.ownsRow_nil _ _ _ _, Below.refl _ _⟩
  · have hb1 : Below w.heap.size w (w.alloc (.cells #[] 153)) := (Below.refl _ _).alloc (Nat.le_refl _) _
    have ho1 := own_made_a w
    have gl : g < w.heap.size := lt_of_block hh
    have HNW : Hid (∀ j u, (l.flatMap axC)[j]? = some u → (w.alloc (.cells #[] 153)).cell? ((⟨g, 0, none⟩ : Addr).add j) = some u) := fun j u hu => by
      have := ho.cells (g := g) rfl j u hu
      rw [add_mid] at this ⊢
      exact (hb1.cell (p := ⟨g, 0 + j, none⟩) gl).trans this
    have HL : Hid ((l.flatMap axC).length = l.length * 3) := ho.1
    have H1 : Hid (∀ u ∈ l.flatMap axC, u.oneCell' = true) := fun u hu => by
      obtain ⟨t, _, h2⟩ := List.mem_flatMap.1 hu
      exact axs_one1 t u h2
    have hq : ∀ wx, (binOp .eql 55 (.slice (some ⟨g, 0, none⟩) l.length cap) (.slice none 0 0)).run Tryz.prog wx = .ok (.bool false) wx := fun wx => Lib.run_eql_slice_nil wx 55 153 (some ⟨g, 0, none⟩) l.length cap 0 0 Tryz.underlying55
    obtain ⟨n, hn⟩ : ∃ n, l.length = n := ⟨_, rfl⟩
    rw [hn] at hq HL hl ⊢
    clear ho hh hc hm hs ht hn
    go_enter Tryz.func69, Tryz.ntmps69
    go_wp2_with (at_builtin; refine wpList_append_own _ rfl _ _ 55 rfl w.heap.size 153 i0 (.agg #[.int .i64 0, .int .i64 0, .int .i64 0]) 3 24 Tryz.underlying55 hi hz0 hz1 hz2 rfl (by decide) _ 0 [] rfl ho1 ⟨g, 0, none⟩ n cap (l.flatMap axC) rfl HL.out HNW.out H1.out ?c3 ?c4 hb1.size ?_)
    case c3 => unfold maxLen; omega
    case c4 => omega
    · intro v' w1 hown hgrow _
      have R : Hid (Below w.heap.size w w1) := hb1.grown hgrow hb1.size (fun j hj => (ho1.lt j hj).1)
      try simp only [Nat.zero_add, List.nil_append] at hown
      have HO : Hid (w1.ownsRow w.heap.size 153 3 v' n (l.flatMap axC)) := hown
      clear hown hgrow ho1
      go_wp2
      go_ret
      exact ⟨_, rfl, HO.out, R.out⟩
theorem slog_any (g : Nat) (v : SlV) (l : List Ax) (w : World) (x : SlS w g v l) (hl : l.length ≤ 1000000000) : Calls Tryz.prog 25 #[.pointer (some ⟨g, 0, none⟩)] w fun e w' => ∃ ao c, e = .returned (.slice ao l.length c) ∧ w'.ownsRow w.heap.size 153 3 (.slice ao l.length c) l.length (l.flatMap axC) ∧ Below w.heap.size w w' := by
  have C : Hid (Calls Tryz.prog 69 #[v.log] w fun e w' => ∃ v', e = .returned v' ∧ w'.ownsRow w.heap.size 153 3 v' l.length (l.flatMap axC) ∧ Below w.heap.size w w') := cloneA_any v.log l w x.own (by omega)
  have c5 : w.cell? ⟨g, 5, none⟩ = some v.log := x.blk.cellS 5 _ rfl
  obtain ⟨lo, ln, lc, hv⟩ : ∃ a n c, v.log = .slice a n c := by rcases x.own.2 with ⟨h, _⟩ | ⟨g, cap, cur, h, _⟩ <;> exact ⟨_, _, _, h⟩
  rw [hv] at C c5
  clear x hv hl
  go_enter Tryz.func25, Tryz.ntmps25
  go_wp2_with (go_at_call 69; refine C.out.mono ?_; rintro e w1 ⟨u, rfl, o1, l1⟩)
  go_ret
  obtain ⟨ao, c, rfl⟩ : ∃ a c, u = .slice a l.length c := by
    rcases o1.2 with ⟨h, h0⟩ | ⟨g, cap, cur, h, _⟩
    · exact ⟨none, 0, by rw [h, h0]⟩
    · exact ⟨_, _, h⟩
  exact ⟨ao, c, rfl, o1, l1⟩
end Go.Proofs.YtnagndnpamcbbaaGreat
