/- Layer host: the faults of the operation that comes now. -/
import Derived.Test.YtobcolpdkcppoaaHTurn
namespace Go.Proofs.Ytobcolpdkcppoaa
open Go.RowKit
set_option linter.unusedVariables false
set_option linter.unusedSimpArgs false

def HSt.past (s : HSt) : HSt := { s with coming := fun k => if k = s.ops then [] else s.coming k }
theorem map_ne {w : World} {gm n : Nat} {D : DataW Value} (x : w.ownsMap Try.prog 3 heldR gm n D) {g : Nat} {t : TypeId} {vs : List Value} (hb : Blk w g t vs) : g ≠ gm := fun e => by
  subst e
  obtain ⟨es, clock, h1, _⟩ := x
  unfold Blk at hb
  rw [h1] at hb
  cases hb
theorem RowP.isBlk {w : World} {M : Nat → Prop} {v : Value} {L : List (List Int)} (h : RowP w M v L) {b : Nat} (hb : rowBlk v = some b) : ∃ vs, Blk w b 32 vs := by
  rcases h with ⟨rfl, _⟩ | ⟨g, o, cap, vs, rfl, hk, _⟩
  · cases hb
  · cases hb; exact ⟨vs, hk⟩
theorem HostIn.past {w w' : World} {M : Nat → Prop} {h : Nat} {s : HSt} {gl gm : Nat} {lg : Value} {rws : List Value} {n : Nat} {D : DataW Value} (x : HostIn w M h s gl gm lg rws n D)
    (hm : w'.ownsMap Try.prog 3 heldR gm n (D.del (.int .i64 s.ops))) (hg : w.grownBy w' (some gm)) : HostIn w' M h s.past gl gm lg rws n (D.del (.int .i64 s.ops)) ∧ FlS w' M (lookV D s.ops) (s.coming s.ops) ∧ Kept (fun k => k = gm) w w' := by
  have hk : Kept (fun k => k = gm) w w' := ⟨hg.os, hg.tape, hg.output, hg.size, fun k hk hs => hg.block k hk (fun e => hs (Option.some.inj e))⟩
  have ne : ∀ {t : TypeId} (b : Nat) (vs : List Value), Blk w b t vs → ¬ b = gm := fun b vs hb => map_ne x.map hb
  refine ⟨⟨⟨x.good.size, x.good.pages, x.good.depth, x.good.reg, x.good.ops, x.good.log, x.good.laid, x.good.len⟩, x.blk.kept hk (ne _ _ x.blk), x.lot.kept hk (ne _ _ x.lot), x.cnt, x.mh, x.ml, x.mm, hm, fun k => ?_, log_kept x.log hk ne, fun p hp => row_kept (x.row p hp) hk (fun b hb => ?_) ne, x.apart, fun k hk => Nat.lt_of_lt_of_le (x.all k hk) hg.size⟩, (com_kept (x.com _) hk ne).mono (fun k hk => hk.1), hk⟩
  · by_cases e : k = s.ops
    · subst e
      rw [lookV_del, show s.past.coming s.ops = [] from if_pos rfl]
      exact FlS.nil _ _
    · rw [lookV_del_other _ _ e, show s.past.coming k = s.coming k from if_neg e]
      exact com_kept (x.com k) hk ne
  · obtain ⟨vs, hv⟩ := (x.row p hp).isBlk hb
    exact ne _ _ hv
/-- The host's own block alone is written. -/
theorem HostIn.turned {w w' : World} {M : Nat → Prop} {h : Nat} {s : HSt} {gl gm : Nat} {lg : Value} {rws : List Value} {n : Nat} {D : DataW Value} (x : HostIn w M h s gl gm lg rws n D) (s' : HSt)
    (g : s'.Good) (e1 : s'.pages = s.pages) (e2 : s'.coming = s.coming) (e3 : s'.laid = s.laid) (e4 : s'.log = s.log) (b : Blk w' h 91 (hostC s' gl gm lg)) (hk : Kept (fun k => k = h) w w') : HostIn w' M h s' gl gm lg rws n D := by
  have ne : ∀ {t : TypeId}, t ≠ 91 → ∀ (b : Nat) (vs : List Value), Blk w b t vs → ¬ b = h := fun ht b vs hb => blk_ne hb x.blk ht
  refine ⟨g, b, x.lot.kept hk (ne (by decide) _ _ x.lot), by rw [e1]; exact x.cnt, x.mh, x.ml, x.mm, ownsMap_same x.map (hk.block _ x.map.lt (map_ne x.map x.blk).symm), fun k => by rw [e2]; exact com_kept (x.com k) hk (ne (by decide)), by rw [e4]; exact log_kept x.log hk (ne (by decide)), fun p hp => ?_, by rw [e1]; exact x.apart, fun k hk' => Nat.lt_of_lt_of_le (x.all k hk') hk.size⟩
  rw [e1] at hp
  rw [e3]
  exact row_kept (x.row p hp) hk (fun b hb => by
    obtain ⟨vs, hv⟩ := (x.row p hp).isBlk hb
    exact ne (by decide) _ _ hv) (ne (by decide))
theorem i64_ops {s : HSt} (g : s.Good) : I64 (s.ops : Int) := by have := g.ops; constructor <;> omega
set_option maxRecDepth 20000 in
set_option maxHeartbeats 1000000 in
theorem bef_any (h : Nat) (s : HSt) (M : Nat → Prop) (gl gm : Nat) (lg : Value) (rws : List Value) (n : Nat) (D : DataW Value) (w : World) (x : HostIn w M h s gl gm lg rws n D) :
    Calls Try.prog 65 #[.pointer (some ⟨h, 0, none⟩)] w fun e w' => e = .returned (lookV D s.ops) ∧ HostIn w' M h s.past gl gm lg rws n (D.del (.int .i64 s.ops)) ∧ FlS w' M (lookV D s.ops) (s.coming s.ops) ∧ Kept (fun k => k = gm) w w' := by
  have X : Hid (HostIn w M h s gl gm lg rws n D) := x
  have c4 : w.cell? ⟨h, 4, none⟩ = some (.map (some gm)) := x.blk.cell 4
  have c5 : w.cell? ⟨h, 5, none⟩ = some (.int .i64 s.ops) := x.blk.cell 5
  have hlk := look_at x.map (i64_ops x.good)
  obtain ⟨v, hv⟩ : ∃ q, lookV D s.ops = q := ⟨_, rfl⟩
  rw [hv] at hlk
  have HV : Hid (lookV D s.ops = v) := hv
  rw [hv]
  clear x hv
  have HL : Hid (∀ k, (Instr.lookup 86 (.map (some gm)) (.int .i64 s.ops) false).run Try.prog (w.drewN k) = .ok v (w.drewN k)) := fun k => by
    have := look_at (w := w.drewN k) X.out.map (i64_ops X.out.good)
    rw [HV.out] at this
    exact this
  go_enter Try.func65, Try.ntmps65
  have hl1 : (Instr.lookup 86 (.map (some gm)) (.int .i64 s.ops) false).run Try.prog w.drew = .ok v w.drew := HL.out 1
  have own2 : w.drew.drew.ownsMap Try.prog 3 heldR gm n D := X.out.map
  obtain ⟨w2, hd2, m2, t2⟩ := own2.drop keysI Try.underlying86 (Maps.keyOf_int_mk Try.underlying3 (wf_of_i64 (i64_ops X.out.good))) 0
  have R : Hid (HostIn w2 M h s.past gl gm lg rws n (D.del (.int .i64 s.ops)) ∧ FlS w2 M (lookV D s.ops) (s.coming s.ops) ∧ Kept (fun k => k = gm) w w2) := by
    have q := t2.grown
    exact X.out.past m2 ⟨q.os, q.tape, q.output, q.size, q.block⟩
  clear own2 m2 t2
  go_wp2_with fail
  go_region_with (fail)
  all_goals
    go_wp2_with fail
    go_region_with (fail)
    all_goals
      go_wp2_with fail
      go_ret
      exact ⟨rfl, R.out.1, by rw [← HV.out]; exact R.out.2.1, R.out.2.2⟩
set_option maxRecDepth 20000 in
theorem restart_any (h : Nat) (s : HSt) (M : Nat → Prop) (w : World) (x : HostAt w M h s) : Calls Try.prog 41 #[.pointer (some ⟨h, 0, none⟩)] w fun e w' => e = .returned (.tuple #[]) ∧ HostAt w' M h { s with down := false } ∧ Kept (fun k => k = h) w w' := by
  obtain ⟨gl, gm, lg, rws, n, D, x⟩ := x
  have X : Hid (HostIn w M h s gl gm lg rws n D) := x
  have f7 : w.frozen? ⟨h, 7, none⟩ = false := x.blk.frozen 7
  have c7 : w.cell? ⟨h, 7, none⟩ = some (.bool s.down) := x.blk.cell 7
  clear x
  go_enter Try.func41, Try.ntmps41
  go_wp2_with fail
  go_end0
  have hk : Kept (fun k => k = h) w (w.setCell ⟨h, 7, none⟩ (.bool false)) := (Kept.refl (fun k => k = h) _).setCell (p := ⟨h, 7, none⟩) rfl _
  exact ⟨rfl, (X.out.turned { s with down := false } ⟨X.out.good.size, X.out.good.pages, X.out.good.depth, X.out.good.reg, X.out.good.ops, X.out.good.log, X.out.good.laid, X.out.good.len⟩ rfl rfl rfl rfl (X.out.blk.set 7 (.bool false)) hk).at, hk⟩
end Go.Proofs.Ytobcolpdkcppoaa
