/- Layer network: Bitonic of what is no size: nothing. -/
import Derived.Test.YtlkpgbilepehmaaNBit
import Derived.Test.YtlkpgbilepehmaaNLen2
namespace Go.Proofs.Ytlkpgbilepehmaa
open Go.RowKit Go.Shelf
set_option linter.unusedVariables false
set_option linter.unusedSimpArgs false
attribute [local go_sem] Oper.semAt_some
set_option maxHeartbeats 2000000 in
theorem steps1_no (m : Nat) (hm : 1 ≤ m) (l Bn : Nat) (n : Int) (hn : ¬ IsSz n) (J : List Stp → World → Prop) (W : World) (hB : Boxed W Bn 3 (.int .i64 n)) (h0 : J [] W) :
    CallsIn Fence.wide m Try.prog 49 #[.func (.yield l) #[] #[], .pointer (some ⟨Bn, 0, none⟩)] W fun e W' => (∃ v, e = .returned v) ∧ J [] W' := by
  have c0 := hB.cell
  refine callsIn_of_wp Try.func49 rfl trivial ?_ rfl
  simp only [Try.ntmps49, List.size_toArray, List.length_cons, List.length_nil, Nat.reduceAdd, Nat.reduceSub, Array.replicate_succ, Array.replicate_zero, List.push_toArray, List.append_toArray, List.nil_append, List.cons_append]
  gi_wp2
  refine wpIn_scope ?_
  gi_wp2_with (refine ⟨trivial, ?_⟩; gi_at_call 37; refine (callsIn_wide.2 (isSize_no n hn _)).mono ?_; rintro e w' ⟨rfl, rfl⟩)
  try simp only [Exit.noGoto]
  refine bodyPost_ret (results_none rfl _ _ _) rfl ?_
  exact ⟨⟨_, rfl⟩, h0⟩
theorem steps_stops_no (m : Nat) (hm : 1 ≤ m) (Bn : Nat) (n : Int) (hn : ¬ IsSz n) (w : World) (hB : Boxed w Bn 3 (.int .i64 n)) :
    SeqStopsK Fence.wide m Try.prog 49 #[.pointer (some ⟨Bn, 0, none⟩)] stpV (KpB Bn n) (fun ys => ys = []) (fun pre => pre <+: []) 0 w := fun l J Jx W hW _ _ hY h0 =>
  (steps1_no m hm l Bn n hn J W ((hW.block Bn hB.lt).trans hB) h0).mono fun e W' ⟨he, hj⟩ => ⟨he, .inl ⟨[], rfl, hj⟩⟩
set_option maxRecDepth 100000 in
set_option maxHeartbeats 4000000 in
theorem bit1_no (l Bn : Nat) (n : Int) (hn : ¬ IsSz n) (J : List (Int × Int) → World → Prop)
    (W : World) (hJ : OwnFrom W.heap.size J) (hB : Boxed W Bn 3 (.int .i64 n)) (h0 : J [] W) :
    CallsIn Fence.wide 20 Try.prog 33 #[.func (.yield l) #[] #[], .pointer (some ⟨Bn, 0, none⟩)] W fun e V => (∃ v, e = .returned v) ∧ J [] V := by
  have c0 := hB.cell
  refine callsIn_of_wp_marks Try.func33 rfl trivial ?_ rfl
  simp only [Try.ntmps33, List.size_toArray, List.length_cons, List.length_nil, Nat.reduceAdd, Nat.reduceSub, Array.replicate_succ, Array.replicate_zero, List.push_toArray, List.append_toArray, List.nil_append, List.cons_append]
  gi_wp2
  refine wpIn_scope ?_
  gi_wp2
  refine wpIn_label ?_
  have c0' : ∀ o, (W.alloc o).cell? ⟨Bn, 0, none⟩ = some (.int .i64 n) := fun o => (hB.alloc o).cell
  gi_wp2_with (refine ⟨trivial, ?_⟩; gi_at_call 34; refine (steps_in _ _ trivial rfl _ _).mono ?_; rintro e w' ⟨rfl, rfl⟩)
  have bS := Boxed.new (W.alloc (.cells #[.func (.yield l) #[] #[]] 66)) 3 (.int .i64 n)
  have j0 := hJ.alloc (.cells #[.int .i64 n] 3) (hJ.alloc (.cells #[.func (.yield l) #[] #[]] 66) h0)
  simp only [World.size_alloc] at bS
  have hsz : ((W.alloc (.cells #[.func (.yield l) #[] #[]] 66)).alloc (.cells #[.int .i64 n] 3)).heap.size = W.heap.size + 2 := by simp
  obtain ⟨W0, hW0⟩ : ∃ W0, (W.alloc (.cells #[.func (.yield l) #[] #[]] 66)).alloc (.cells #[.int .i64 n] 3) = W0 := ⟨_, rfl⟩
  rw [hW0] at bS j0 hsz ⊢
  have HZ : Hid (W0.heap.size = W.heap.size + 2) := hsz
  clear hW0 hsz c0 c0' hB h0
  refine wpIn_rangeFunc_ownH rfl (by omega) (gf := 49) (lb := #[.pointer (some ⟨W.heap.size + 1, 0, none⟩)]) rfl trivial (enters_of Try.func49 (by kernel_rfl) rfl)
    (steps_stops_no 19 (by omega) (W.heap.size + 1) n hn W0 bS) kpB_t (kpB_b bS.lt) (Below.refl _ _) (fun _ => rfl)
    (fun pre V => J [] V)
    (fun cc pre V => False)
    (ownFrom_up hJ (by have := HZ.out; omega) (fun _ => []))
    (fun cc => ownFrom_pure _ (fun _ => False))
    j0
    (fun x a' _ => True)
    (fun _ _ _ _ _ _ hs _ _ => hs)
    ?assign ?body ?done ?stop
  case assign =>
    rintro l1 pre x0 V K hi hK
    simp only [stpV]
    gi_wp2
    exact hK _ _ (KeepsFrom.refl _ _) (fun h => h) hi trivial
  case body =>
    rintro l1 pre0 x0 a' V hl1 hr1 hj _ hlt
    omega
  case done =>
    rintro D xs V hD hxs hj hK
    have hj2 : J [] (V.putObj D (.deferred none)) := hJ.putObj _ hj (by have := HZ.out; omega) hK rfl
    try simp only [Exit.noGoto]
    gi_wp2
    refine ⟨by simp, .inl ⟨_, _, rfl, run_takeDeferred hK, ?_⟩⟩
    exact ⟨_, results_none rfl _ _ _, ⟨_, rfl⟩, hj2⟩
  case stop =>
    rintro D cc pre V hD hpre h hK
    exact h.elim
theorem bit_stops_no (m : Nat) (Bn : Nat) (n : Int) (hn : ¬ IsSz n) (w : World) (hB : Boxed w Bn 3 (.int .i64 n)) :
    SeqO Fence.wide m Try.prog 33 #[.pointer (some ⟨Bn, 0, none⟩)] hopV (fun V V' => KpB Bn n V V' ∧ Above (w.heap.size + 2) V V') (fun ys => ys = []) (fun pre => pre <+: []) 0 w := fun l J Jx W hW hsz hJ hJx hY h0 => by
  refine (callsIn_wide.2 ((callsIn_wide (n := 20)).1 (bit1_no l Bn n hn J W hJ ((hW.block Bn hB.lt).trans hB) h0))).mono ?_
  rintro e V ⟨he, hj⟩
  exact ⟨he, .inl ⟨[], rfl, hj⟩⟩
end Go.Proofs.Ytlkpgbilepehmaa
