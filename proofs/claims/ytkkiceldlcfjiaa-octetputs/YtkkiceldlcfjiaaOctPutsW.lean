/- The walk of OctetPuts. -/
import Derived.Test.YtkkiceldlcfjiaaOctPutsA
namespace Go.Proofs.Ytkkiceldlcfjiaa.octetPuts
open Go.ChangeShapes Go.WideShapes Go.ChangeAt Go.RowKit
set_option linter.unusedVariables false
set_option linter.unusedSimpArgs false

theorem wid_of (e i : Nat) (hi : i < 4) : wid (4 * e + i) = 2 ^ e := by
  unfold wid
  rw [show (4 * e + i) / 4 = e by omega]
theorem width_pow (e : Nat) (he : e < 4) : Width (2 ^ e) := by
  rcases (by omega : e = 0 ∨ e = 1 ∨ e = 2 ∨ e = 3) with rfl | rfl | rfl | rfl <;> decide
theorem lst_even (zs : List Int) (x : Int) (e i : Nat) (hi : i < 2) : lst zs x (4 * e + 2 * i) = zs ++ leB (2 ^ e) x := by
  unfold lst
  rw [wid_of e (2 * i) (by omega), if_pos (by omega)]
theorem lst_odd (zs : List Int) (x : Int) (e i : Nat) (hi : i < 2) : lst zs x (4 * e + 2 * i + 1) = zs ++ (leB (2 ^ e) x).reverse := by
  unfold lst
  rw [Nat.add_assoc, wid_of e (2 * i + 1) (by omega), if_neg (by omega)]

set_option maxHeartbeats 4000000 in
set_option maxRecDepth 20000 in
theorem walk (ao : Option Addr) (n c : Nat) (zs : List Int) (x : Int) (w : World) (hx : Seen w ao n zs) (hn : n ≤ 140737488351232) (hc : ao = none → c = 0) (hv : Word x) :
    Calls Try.prog 4 #[.slice ao n c, .int .u64 x] w fun en w' => en = .returned (.bool true) ∧ Below w.heap.size w w' := by
  have HC : Hid (ao = none → c = 0) := hc
  have HX : Hid (Seen w ao n zs) := hx
  have HL : Hid (zs.length = n ∧ Bytes zs) := ⟨hx.len, hx.bytes⟩
  obtain ⟨iL, hiL, hL0, hL1, hL2⟩ := info_parts info_bytes
  clear hc
  go_enter Try.func4, Try.ntmps4
  go_wp2_with fail
  refine (lent_any ao n c zs w hx HC.out (by omega)).mono ?_
  rintro en w1 ⟨g, cap, rfl, r1, l1, m1, q1, b1⟩
  have z1 := b1.size
  have gz := r1.lt
  have R1 : Hid (RowAt w1 g (zs ++ marks)) := r1
  have B1 : Hid (Below w.heap.size w w1) := b1
  clear hx r1 b1
  go_wp2
  go_loopw [5, 6, 8, 9] (fun u u' s _ wr => ∃ (e : Nat) (V V' : Nat → Option Addr) (cp cp' : Nat → Nat), e ≤ 4 ∧ s = .int .i64 (2 ^ e : Nat) ∧ Pile w1.heap.size wr u (4 * e) V cp (lst zs x) ∧ Pile w1.heap.size wr u' (4 * e) V' cp' (lst zs x) ∧
    (∀ y, u.ownBlock = some y → u'.ownBlock ≠ some y) ∧ (∀ j j' y, j < 4 * e → j' < 4 * e → V j = some ⟨y, 0, none⟩ → V' j' = some ⟨y, 0, none⟩ → False) ∧ Below w1.heap.size w1 wr) (fun _ _ s _ _ => 16 - (intOf s).toNat)
  case atStart => exact ⟨0, fun _ => none, fun _ => none, fun _ => 0, fun _ => 0, by decide, rfl, ⟨World.ownsRow_nil _ _ _ _, fun j h => by omega, fun j j' y h => by omega⟩, ⟨World.ownsRow_nil _ _ _ _, fun j h => by omega, fun j j' y h => by omega⟩, (fun y h => by cases h), (fun j j' y h => by omega), Below.refl _ _⟩
  case round =>
    obtain ⟨e, V, V', cp, cp', he, rfl, hp, hp', hne, hdis, hbel⟩ := hrel
    by_cases hlt : e < 4
    · have hk := width_pow e hlt
      have hk8 : (((2 ^ e : Nat) : Int)) ≤ 8 := by rcases hk with h | h | h | h <;> omega
      obtain ⟨K, hK⟩ : ∃ K, 2 ^ e = K := ⟨_, rfl⟩
      have HK : Hid (2 ^ e = K) := hK
      rw [hK] at hk hk8 ⊢
      clear hK
      have HP : Hid (Pile w1.heap.size wr u5 (4 * e) V cp (lst zs x) ∧ Pile w1.heap.size wr u6 (4 * e) V' cp' (lst zs x) ∧ (∀ y, u5.ownBlock = some y → u6.ownBlock ≠ some y) ∧ (∀ j j' y, j < 4 * e → j' < 4 * e → V j = some ⟨y, 0, none⟩ → V' j' = some ⟨y, 0, none⟩ → False) ∧ Below w1.heap.size w1 wr) := ⟨hp, hp', hne, hdis, hbel⟩
      clear hp hp' hne hdis hbel
      go_wp2
      go_loopw [5, 6, 9] (fun u u' a wr => ∃ (i : Nat) (V V' : Nat → Option Addr) (cp cp' : Nat → Nat), i ≤ 2 ∧ a = .int .i64 i ∧ Pile w1.heap.size wr u (4 * e + 2 * i) V cp (lst zs x) ∧ Pile w1.heap.size wr u' (4 * e + 2 * i) V' cp' (lst zs x) ∧
        (∀ y, u.ownBlock = some y → u'.ownBlock ≠ some y) ∧ (∀ j j' y, j < 4 * e + 2 * i → j' < 4 * e + 2 * i → V j = some ⟨y, 0, none⟩ → V' j' = some ⟨y, 0, none⟩ → False) ∧ Below w1.heap.size w1 wr) (fun _ _ a _ => 2 - (intOf a).toNat)
      case atStart => exact ⟨0, V, V', cp, cp', by decide, rfl, HP.out⟩
      case round =>
        clear HP
        obtain ⟨i, V, V', cp, cp', hi, rfl, hp, hp', hne, hdis, hbel⟩ := hrel
        by_cases hlt2 : i < 2
        · have E1 := lst_even zs x e i hlt2
          have E2 := lst_odd zs x e i hlt2
          rw [HK.out] at E1 E2
          have EE : Hid (lst zs x (4 * e + 2 * i) = zs ++ leB K x ∧ lst zs x (4 * e + 2 * i + 1) = zs ++ (leB K x).reverse) := ⟨E1, E2⟩
          have hlen1 : (lst zs x (4 * e + 2 * i)).length = n + K := by rw [E1, List.length_append, leB_length, HL.out.1]
          have hlen2 : (lst zs x (4 * e + 2 * i + 1)).length = n + K := by rw [E2, List.length_append, List.length_reverse, leB_length, HL.out.1]
          have hsz := hbel.size
          have HP0 : Hid (Pile w1.heap.size wr u5 (4 * e + 2 * i) V cp (lst zs x) ∧ Pile w1.heap.size wr u6 (4 * e + 2 * i) V' cp' (lst zs x) ∧ (∀ y, u5.ownBlock = some y → u6.ownBlock ≠ some y) ∧ (∀ j j' y, j < 4 * e + 2 * i → j' < 4 * e + 2 * i → V j = some ⟨y, 0, none⟩ → V' j' = some ⟨y, 0, none⟩ → False) ∧ Below w1.heap.size w1 wr) := ⟨hp, hp', hne, hdis, hbel⟩
          have hin := Seen.lent (n := n) (R1.out.later hbel (Nat.le_refl _)) HL.out.1 HL.out.2 (by omega)
          have hlp := lput_any (some ⟨g, 0, none⟩) n cap zs x hv K hk wr hin (fun h => by cases h) (by omega)
          rw [← E1, ← hlen1] at hlp
          generalize hT : 4 * e + 2 * i = T at *
          have HT : Hid (4 * e + 2 * i = T) := hT
          have hTle : T < 16 := by omega
          have HLEN : Hid ((lst zs x T).length = n + K) := hlen1
          clear hp hp' hne hdis hbel hT E1 hin hlen1
          go_wp2_with fail
          refine hlp.mono ?_
          rintro en w2 ⟨v2, rfl, o2, b2⟩
          obtain ⟨a2, c2, rfl⟩ := own_form o2
          have hin2 := Seen.lent (n := n) ((R1.out.later HP0.out.2.2.2.2 (Nat.le_refl _)).later b2 (Nat.le_refl _)) HL.out.1 HL.out.2 (by omega)
          have hlq := lputb_any (some ⟨g, 0, none⟩) n cap zs x hv K hk w2 hin2 (fun h => by cases h) (by omega)
          rw [← E2, ← hlen2] at hlq
          have HLEN2 : Hid ((lst zs x (T + 1)).length = n + K) := hlen2
          clear hlp E2 hin2 hlen2
          go_wp2_with fail
          refine hlq.mono ?_
          rintro en w3 ⟨v3, rfl, o3, b3⟩
          obtain ⟨a3, c3, rfl⟩ := own_form o3
          have z2 := b2.size
          have z3 := b3.size
          have ho := ownsRow_below (ownsRow_below HP0.out.1.outer b2) b3
          have HO2 : Hid (w2.ownsRow wr.heap.size 5 1 (.slice a2 (lst zs x T).length c2) (lst zs x T).length ((lst zs x T).map (Value.int .u8))) := o2
          have HO3 : Hid (w3.ownsRow w2.heap.size 5 1 (.slice a3 (lst zs x (T + 1)).length c3) (lst zs x (T + 1)).length ((lst zs x (T + 1)).map (Value.int .u8))) := o3
          have HB2 : Hid (Below wr.heap.size wr w2 ∧ Below w2.heap.size w2 w3) := ⟨b2, b3⟩
          clear o2 o3 b2 b3 hlq
          go_wp2_with (at_builtin; refine wpList_append_own_at _ rfl _ _ 32 rfl w1.heap.size 22 iL (.slice none 0 0) 1 24 Try.underlying32 hiL hL0 hL1 hL2 rfl (by decide) _ _ _ rfl (ho.alloc _) ⟨w3.heap.size, 0, none⟩ 2 2 [.slice a2 (lst zs x T).length c2, .slice a3 (lst zs x (T + 1)).length c3] rfl rfl (cell_two _ _ _ _) (one_two _ _ _ _ _ _) ?f1 ?f2 ?f3 ?_)
          case f1 => unfold maxLen; omega
          case f2 => omega
          case f3 => first | omega | (simp; omega)
          · intro v4 w4 o4 g4 _ at4
            obtain ⟨Va, ca, pa, la⟩ := HP0.out.1.add hsz HO2.out HB2.out.1 HO3.out HB2.out.2 o4 g4
            have pb := ((HP0.out.2.1.later HB2.out.1 (Nat.le_refl _)).later HB2.out.2 (Nat.le_refl _)).beside ho (fun y hy e => HP0.out.2.2.1 y e hy) g4
            have z4 : w3.heap.size ≤ w4.heap.size := by have := g4.size; simp at this; omega
            have nb : ∀ y, v4.ownBlock = some y → u6.ownBlock ≠ some y := fun y hy e => by
              rcases at4 with h | h
              · rw [h] at hy; exact HP0.out.2.2.1 y hy e
              · rw [h] at hy
                have h1 := (HP0.out.2.1.outer.lt y e).2
                simp at hy
                omega
            have B4 : Below w1.heap.size w1 w4 := ((((HP0.out.2.2.2.2.trans (HB2.out.1.mono hsz)).trans (HB2.out.2.mono (by omega))).alloc (by omega) _)).grown g4 (by simp; omega) (fun j hj => (ho.lt j hj).1)
            have HP1 : Hid (Pile w1.heap.size w4 v4 (T + 2) Va ca (lst zs x) ∧ Pile w1.heap.size w4 u6 T V' cp' (lst zs x) ∧ (∀ y, v4.ownBlock = some y → u6.ownBlock ≠ some y) ∧ (∀ j y, j < T + 2 → Va j = some ⟨y, 0, none⟩ → (j < T ∧ V j = some ⟨y, 0, none⟩) ∨ wr.heap.size ≤ y) ∧ Below w1.heap.size w1 w4) := ⟨pa, pb, nb, la, B4⟩
            have zw : wr.heap.size ≤ w4.heap.size := by omega
            have hzw : w.heap.size ≤ w1.heap.size := z1
            have hcut := cut_any x hv K hk
            have hxw : Word (x % 256 ^ K) := by
              rcases hk with h | h | h | h <;> subst h <;> exact ⟨by omega, by omega⟩
            have hmod := leB_mod K x
            generalize x % 256 ^ K = X at *
            clear o4 g4 at4 pa pb nb la B4 ho
            go_wp2_with fail
            refine (hcut w4).mono ?_
            rintro en w' ⟨rfl, rfl⟩
            have hx4 := HX.out.later (B1.out.trans (HP1.out.2.2.2.2.mono z1)) (Nat.le_refl _)
            have hrp := rputl_any ao n c zs X hxw K (by rcases hk with h | h | h | h <;> omega) w4 hx4 HC.out (by omega)
            rw [hmod, ← EE.out.1, ← HLEN.out] at hrp
            clear hx4
            go_wp2_with fail
            refine hrp.mono ?_
            rintro en w5 ⟨v5, rfl, o5, b5⟩
            obtain ⟨a5, c5, rfl⟩ := own_form o5
            have z5 := b5.size
            go_wp2_with fail
            refine (hcut w5).mono ?_
            rintro en w' ⟨rfl, rfl⟩
            have hx5 := HX.out.later ((B1.out.trans (HP1.out.2.2.2.2.mono z1)).trans (b5.mono (by omega))) (Nat.le_refl _)
            have hrq := rputb_any ao n c zs X hxw K (by rcases hk with h | h | h | h <;> omega) w5 hx5 HC.out (by omega)
            rw [hmod, ← EE.out.2, ← HLEN2.out] at hrq
            clear hx5 hrp
            go_wp2_with fail
            refine hrq.mono ?_
            rintro en w6 ⟨v6, rfl, o6, b6⟩
            obtain ⟨a6, c6, rfl⟩ := own_form o6
            have z6 := b6.size
            have ho := ownsRow_below (ownsRow_below HP1.out.2.1.outer b5) b6
            have HO5 : Hid (w5.ownsRow w4.heap.size 5 1 (.slice a5 (lst zs x T).length c5) (lst zs x T).length ((lst zs x T).map (Value.int .u8))) := o5
            have HO6 : Hid (w6.ownsRow w5.heap.size 5 1 (.slice a6 (lst zs x (T + 1)).length c6) (lst zs x (T + 1)).length ((lst zs x (T + 1)).map (Value.int .u8))) := o6
            have HB5 : Hid (Below w4.heap.size w4 w5 ∧ Below w5.heap.size w5 w6) := ⟨b5, b6⟩
            clear o5 o6 b5 b6 hrq hcut
            go_wp2_with (at_builtin; refine wpList_append_own_at _ rfl _ _ 32 rfl w1.heap.size 22 iL (.slice none 0 0) 1 24 Try.underlying32 hiL hL0 hL1 hL2 rfl (by decide) _ _ _ rfl (ho.alloc _) ⟨w6.heap.size, 0, none⟩ 2 2 [.slice a5 (lst zs x T).length c5, .slice a6 (lst zs x (T + 1)).length c6] rfl rfl (cell_two _ _ _ _) (one_two _ _ _ _ _ _) ?f1 ?f2 ?f3 ?_)
            case f1 => unfold maxLen; omega
            case f2 => omega
            case f3 => first | omega | (simp; omega)
            · intro v7 w7 o7 g7 _ at7
              obtain ⟨Vb, cb, pb, lb⟩ := HP1.out.2.1.add (by omega) HO5.out HB5.out.1 HO6.out HB5.out.2 o7 g7
              have pa := ((HP1.out.1.later HB5.out.1 (Nat.le_refl _)).later HB5.out.2 (Nat.le_refl _)).beside ho (fun y hy e => HP1.out.2.2.1 y hy e) g7
              have nb : ∀ y, v4.ownBlock = some y → v7.ownBlock ≠ some y := fun y hy e => by
                rcases at7 with h | h
                · rw [h] at e; exact HP1.out.2.2.1 y hy e
                · rw [h] at e
                  have h1 := (HP1.out.1.outer.lt y hy).2
                  simp at e
                  omega
              have nd : ∀ j j' y, j < T + 2 → j' < T + 2 → Va j = some ⟨y, 0, none⟩ → Vb j' = some ⟨y, 0, none⟩ → False := fun j j' y hj hj' e1 e2 => by
                have h1 : y < w4.heap.size := by
                  have := HP1.out.1.inner j hj
                  rw [e1] at this
                  exact (this.lt y rfl).2
                rcases lb j' y hj' e2 with ⟨hj2, hV'⟩ | h2
                · rcases HP1.out.2.2.2.1 j y hj e1 with ⟨hj1, hV⟩ | h3
                  · exact HP0.out.2.2.2.1 j j' y hj1 hj2 hV hV'
                  · have := HP0.out.2.1.inner j' hj2
                    rw [hV'] at this
                    have := (this.lt y rfl).2
                    omega
                · omega
              have B7 : Below w1.heap.size w1 w7 := (((HP1.out.2.2.2.2.trans (HB5.out.1.mono (by omega))).trans (HB5.out.2.mono (by omega))).alloc (by omega) _).grown g7 (by simp; omega) (fun j hj => (ho.lt j hj).1)
              have HP2 : Hid (Pile w1.heap.size w7 v4 (4 * e + 2 * (i + 1)) Va ca (lst zs x) ∧ Pile w1.heap.size w7 v7 (4 * e + 2 * (i + 1)) Vb cb (lst zs x) ∧ (∀ y, v4.ownBlock = some y → v7.ownBlock ≠ some y) ∧ (∀ j j' y, j < 4 * e + 2 * (i + 1) → j' < 4 * e + 2 * (i + 1) → Va j = some ⟨y, 0, none⟩ → Vb j' = some ⟨y, 0, none⟩ → False) ∧ Below w1.heap.size w1 w7) := by
                have hT := HT.out
                rw [show 4 * e + 2 * (i + 1) = T + 2 by omega]
                exact ⟨pa, pb, nb, nd, B7⟩
              clear o7 g7 at7 pa pb lb nb nd B7 ho HP0 HP1
              go_wp2
              go_roundw
              case rel => exact ⟨i + 1, Va, Vb, ca, cb, by omega, by go_num, HP2.out⟩
              case measure => simp [intOf]; omega
        · obtain rfl : i = 2 := by omega
          have HP : Hid (Pile w1.heap.size wr u5 (4 * (e + 1)) V cp (lst zs x) ∧ Pile w1.heap.size wr u6 (4 * (e + 1)) V' cp' (lst zs x) ∧ (∀ y, u5.ownBlock = some y → u6.ownBlock ≠ some y) ∧ (∀ j j' y, j < 4 * (e + 1) → j' < 4 * (e + 1) → V j = some ⟨y, 0, none⟩ → V' j' = some ⟨y, 0, none⟩ → False) ∧ Below w1.heap.size w1 wr) := ⟨hp, hp', hne, hdis, hbel⟩
          have HK2 : Hid (2 ^ (e + 1) = 2 * K) := by show _ = _; rw [Nat.pow_succ, HK.out, Nat.mul_comm]
          clear hp hp' hne hdis hbel
          go_wp2
          go_roundw
          case rel => exact ⟨e + 1, V, V', cp, cp', by omega, by rw [HK2.out]; go_num, HP.out⟩
          case measure => simp [intOf]; omega
    · obtain rfl : e = 4 := by omega
      have e16 : (((2 : Nat) ^ 4 : Nat) : Int) = 16 := by decide
      rw [e16]
      clear e16
      obtain ⟨w8, hw8⟩ : ∃ y, y = wr := ⟨_, rfl⟩
      subst hw8
      have z8 := hbel.size
      obtain ⟨O, co, rfl, hO1, hO2⟩ : ∃ O co, u5 = .slice (some ⟨O, 0, none⟩) 16 co ∧ w1.heap.size ≤ O ∧ O < w8.heap.size := by
        obtain ⟨g', c', e', h1, h2⟩ := hp.outer.form (by decide)
        exact ⟨g', c', e', h1, h2⟩
      obtain ⟨O', co', rfl, hO1', hO2'⟩ : ∃ O co, u6 = .slice (some ⟨O, 0, none⟩) 16 co ∧ w1.heap.size ≤ O ∧ O < w8.heap.size := by
        obtain ⟨g', c', e', h1, h2⟩ := hp'.outer.form (by decide)
        exact ⟨g', c', e', h1, h2⟩
      have hd1 : ∀ j, j < 16 → w8.cell? ⟨O, j, none⟩ = some (.slice (V j) (lst zs x j).length (cp j)) := fun j hj => by
        rw [hp.outer.cellAt j (by omega)]; simp [hj]
      have hd2 : ∀ j, j < 16 → w8.cell? ⟨O', j, none⟩ = some (.slice (V' j) (lst zs x j).length (cp' j)) := fun j hj => by
        rw [hp'.outer.cellAt j (by omega)]; simp [hj]
      have hlj : ∀ j, j < 16 → (lst zs x j).length ≤ 140737488351240 := fun j hj => by
        rw [lst_length, HL.out.1]
        have : wid j ≤ 8 := by
          unfold wid
          calc 2 ^ (j / 4) ≤ 2 ^ 3 := Nat.pow_le_pow_right (by decide) (by omega)
            _ = 8 := rfl
        omega
      have sn : ∀ {Vx : Nat → Option Addr} {cx : Nat → Nat} {j : Nat} {Wd : World}, j < 16 → Wd.ownsRow w1.heap.size 5 1 (.slice (Vx j) (lst zs x j).length (cx j)) (lst zs x j).length ((lst zs x j).map (Value.int .u8)) → Seen Wd (Vx j) (lst zs x j).length (lst zs x j) := fun {Vx cx j Wd} hj ho => by
        obtain ⟨vo', cv', e', s', _⟩ := own_seen rfl (lst_bytes zs HL.out.2 x j) (by have := hlj j hj; omega) ho
        simp only [Value.slice.injEq] at e'
        rw [e'.1]; exact s'
      have HS1 : Hid (∀ j, j < 16 → Seen w8 (V j) (lst zs x j).length (lst zs x j)) := fun j hj => sn hj (hp.inner j hj)
      have HS2 : Hid (∀ j, j < 16 → Seen w8 (V' j) (lst zs x j).length (lst zs x j)) := fun j hj => sn hj (hp'.inner j hj)
      have hlot : Lot w8 O 16 V (fun j => (lst zs x j).length) cp cp (lst zs x) := ⟨hO2, hd1, fun j hj => ownsRow_base (hp.inner j hj) (Nat.zero_le _), fun _ _ => .inl rfl, hp.apart, fun j y hj hy e => by
        subst e
        have := hp.inner j hj
        rw [hy] at this
        exact list_block hp.outer this y rfl rfl⟩
      have HLT : Hid (Lot w8 O 16 V (fun j => (lst zs x j).length) cp cp (lst zs x)) := hlot
      have HLJ : Hid (∀ j, j < 16 → (lst zs x j).length ≤ 140737488351240) := hlj
      have HVb : Hid (∀ j y, j < 16 → V j = some ⟨y, 0, none⟩ → w1.heap.size ≤ y) := fun j y hj hy => by
        have := hp.inner j hj
        rw [hy] at this
        exact (this.lt y rfl).1
      have HO : Hid (∀ j, j < 16 → V j ≠ some ⟨O', 0, none⟩) := fun j hj hy => by
        have h1 := hp.inner j hj
        rw [hy] at h1
        exact list_block hp'.outer h1 O' rfl rfl
      have HVV : Hid (∀ j j' y, j < 16 → j' < 16 → V j = some ⟨y, 0, none⟩ → V' j' = some ⟨y, 0, none⟩ → False) := hdis
      have HW2 : Hid (∀ j, j < 16 → w8.ownsRow w1.heap.size 5 1 (.slice (V' j) (lst zs x j).length (cp' j)) (lst zs x j).length ((lst zs x j).map (Value.int .u8))) := fun j hj => hp'.inner j hj
      have HSN : Hid (∀ (Wd : World) j, j < 16 → Wd.ownsRow w1.heap.size 5 1 (.slice (V' j) (lst zs x j).length (cp' j)) (lst zs x j).length ((lst zs x j).map (Value.int .u8)) → Seen Wd (V' j) (lst zs x j).length (lst zs x j)) := fun Wd j hj ho => sn (Vx := V') (cx := cp') hj ho
      have HD1 : Hid (∀ j, j < 16 → w8.cell? ⟨O, j, none⟩ = some (.slice (V j) (lst zs x j).length (cp j))) := hd1
      have HD2 : Hid (∀ j, j < 16 → w8.cell? ⟨O', j, none⟩ = some (.slice (V' j) (lst zs x j).length (cp' j))) := hd2
      have HB8 : Hid (Below w1.heap.size w1 w8) := hbel
      clear hp hp' hne hdis hbel sn hlot hlj hd1 hd2
      go_wp2
      go_loopw [10] (fun a wr => ∃ t : Nat, t ≤ 16 ∧ a = .int .i64 t ∧ ∃ q, wr = w8.drewN q) (fun a _ => 16 - (intOf a).toNat)
      case atStart => exact ⟨0, Nat.zero_le _, rfl, 0, rfl⟩
      case round =>
        obtain ⟨t, ht, rfl, q, rfl⟩ := hrel
        by_cases hlt : t < 16
        · have c1 := HD1.out t hlt
          have c2 := HD2.out t hlt
          have s1 : ∀ j, Seen (w8.drewN j) (V t) (lst zs x t).length (lst zs x t) := fun j => (HS1.out t hlt).drewN j
          have s2 : ∀ j, Seen (w8.drewN j) (V' t) (lst zs x t).length (lst zs x t) := fun j => (HS2.out t hlt).drewN j
          generalize (lst zs x t).length = L at *
          generalize V t = vt at *
          generalize V' t = vt' at *
          generalize cp t = ct at *
          generalize cp' t = ct' at *
          have i1 : (0 : Int) ≤ (t : Int) := by omega
          have i2 : (t : Int) < 16 := by omega
          go_wp2
          go_region_held3 (fun w' => w'.cell? ⟨O, t, none⟩ = some (.slice vt L ct) ∧ w'.cell? ⟨O', t, none⟩ = some (.slice vt' L ct')) (go_keep) (first | (go_at_call 16; refine (same_yes vt vt' L L ct ct' (lst zs x t) _ (s1 (q + 1)) (s2 (q + 1))).mono ?_; rintro en _ ⟨rfl, q2, rfl⟩))
          go_wp2
          go_roundw
          case rel => exact ⟨t + 1, by omega, by go_num, _, by first | rfl | (rw [World.drewN_drewN])⟩
          case measure => simp [intOf]; omega
        · obtain rfl : t = 16 := by omega
          have hgz : g < w1.heap.size := gz
          have QF : Hid (∀ Wd, Kept (LotS 16 V) w8 Wd → RowAt Wd g (zs ++ marks) ∧ Seen Wd ao n zs ∧ (Wd.cell? ⟨O', 12, none⟩ = some (.slice (V' 12) (lst zs x 12).length (cp' 12)) ∧ Wd.cell? ⟨O', 1, none⟩ = some (.slice (V' 1) (lst zs x 1).length (cp' 1))) ∧ (∀ j, j < 16 → Seen Wd (V' j) (lst zs x j).length (lst zs x j)) ∧ Below w.heap.size w Wd) := fun Wd hk => by
            have hnS : ∀ y, y < w1.heap.size → ¬ LotS 16 V y := fun y hy ⟨j, hj, e⟩ => by have := HVb.out j y hj e; omega
            have hnO : ¬ LotS 16 V O' := fun ⟨j, hj, e⟩ => HO.out j hj e
            have hbW : Below w1.heap.size w1 Wd := HB8.out.trans (hk.below z8 (fun y ⟨j, hj, e⟩ => HVb.out j y hj e))
            have hbw : Below w.heap.size w Wd := B1.out.trans (hbW.mono z1)
            refine ⟨R1.out.later hbW (Nat.le_refl _), HX.out.later hbw (Nat.le_refl _), ⟨(hk.cell (p := ⟨O', 12, none⟩) hO2' hnO).trans (HD2.out 12 (by decide)), (hk.cell (p := ⟨O', 1, none⟩) hO2' hnO).trans (HD2.out 1 (by decide))⟩, fun j hj => HSN.out Wd j hj (own_kept (HW2.out j hj) hk (fun y hy ⟨j', hj', e⟩ => HVV.out j' j y hj' hj e (own_addr (HW2.out j hj) hy))), hbw⟩
          have hk0 : Hid (Kept (LotS 16 V) w8 (w8.drewN (q + 1))) := ⟨rfl, rfl, rfl, Nat.le_refl _, fun _ _ _ => rfl⟩
          have hst1 : Calls Try.prog 15 #[.slice (some ⟨g, 0, none⟩) n cap, .slice ao n c] (w8.drewN (q + 1)) fun en w' => en = .returned (.bool true) ∧ Below w8.heap.size w8 w' := (still_yes g n cap ao c zs _ (QF.out _ hk0.out).1 m1 q1 (QF.out _ hk0.out).2.1).mono fun en w' ⟨h1, q', h2⟩ => ⟨h1, by rw [h2]; exact ⟨rfl, rfl, rfl, Nat.le_refl _, fun _ _ => rfl⟩⟩
          have hst2 : ∀ Wd, Kept (LotS 16 V) w8 Wd → Calls Try.prog 15 #[.slice (some ⟨g, 0, none⟩) n cap, .slice ao n c] Wd fun en w' => en = .returned (.bool true) ∧ Kept (LotS 16 V) w8 w' := fun Wd hk => (still_yes g n cap ao c zs Wd (QF.out _ hk).1 m1 q1 (QF.out _ hk).2.1).mono fun en w' ⟨h1, q', h2⟩ => ⟨h1, by rw [h2]; exact hk.trans ⟨rfl, rfl, rfl, Nat.le_refl _, fun _ _ _ => rfl⟩⟩
          have hap : ∀ Wd, Below w8.heap.size w8 Wd → Calls Try.prog 22 #[.slice (some ⟨O, 0, none⟩) 16 co] Wd fun en w' => en = .returned (.bool true) ∧ Kept (LotS 16 V) w8 w' := fun Wd hb => (apart_any O 16 co V (fun j => (lst zs x j).length) cp cp (lst zs x) Wd (HLT.out.later hb (Nat.le_refl _)) (by decide) (fun j hj => by have := HLJ.out j hj; show (lst zs x j).length + 100 ≤ _; omega)).mono fun en w' ⟨h1, h2⟩ => ⟨h1, Kept.trans (b := Wd) ⟨hb.os, hb.tape, hb.output, hb.size, fun y hy _ => hb.block y hy⟩ h2⟩
          have hpl : ∀ Wd, Kept (LotS 16 V) w8 Wd → Calls Try.prog 17 #[.slice (some ⟨g, 0, none⟩) n cap, .int .u64 x, .int .i64 8] Wd fun en w' => ∃ vo cv, en = .returned (.slice vo (lst zs x 12).length cv) ∧ Seen w' vo (lst zs x 12).length (lst zs x 12) ∧ Kept (LotS 16 V) w8 w' := fun Wd hk => by
            have hE : lst zs x 12 = zs ++ leB 8 x := lst_even zs x 3 0 (by decide)
            have hle : (lst zs x 12).length = n + 8 := by rw [hE, List.length_append, leB_length, HL.out.1]
            refine (lput_any (some ⟨g, 0, none⟩) n cap zs x hv 8 (by decide) Wd (Seen.lent (QF.out _ hk).1 HL.out.1 HL.out.2 (by omega)) (fun h => by cases h) (by omega)).mono ?_
            rintro en w' ⟨v, rfl, o, b⟩
            rw [← hE, ← hle] at o
            obtain ⟨vo, cv, rfl, s', _⟩ := own_seen rfl (lst_bytes zs HL.out.2 x 12) (by have := HLJ.out 12 (by decide); omega) o
            exact ⟨vo, cv, rfl, s', hk.trans ⟨b.os, b.tape, b.output, b.size, fun y hy _ => b.block y hy⟩⟩
          have hpb : ∀ Wd, Kept (LotS 16 V) w8 Wd → Calls Try.prog 18 #[.slice (some ⟨g, 0, none⟩) n cap, .int .u64 x, .int .i64 1] Wd fun en w' => ∃ vo cv, en = .returned (.slice vo (lst zs x 1).length cv) ∧ Seen w' vo (lst zs x 1).length (lst zs x 1) ∧ Kept (LotS 16 V) w8 w' := fun Wd hk => by
            have hE : lst zs x 1 = zs ++ (leB 1 x).reverse := lst_odd zs x 0 0 (by decide)
            have hle : (lst zs x 1).length = n + 1 := by rw [hE, List.length_append, List.length_reverse, leB_length, HL.out.1]
            refine (lputb_any (some ⟨g, 0, none⟩) n cap zs x hv 1 (by decide) Wd (Seen.lent (QF.out _ hk).1 HL.out.1 HL.out.2 (by omega)) (fun h => by cases h) (by omega)).mono ?_
            rintro en w' ⟨v, rfl, o, b⟩
            rw [← hE, ← hle] at o
            obtain ⟨vo, cv, rfl, s', _⟩ := own_seen rfl (lst_bytes zs HL.out.2 x 1) (by have := HLJ.out 1 (by decide); omega) o
            exact ⟨vo, cv, rfl, s', hk.trans ⟨b.os, b.tape, b.output, b.size, fun y hy _ => b.block y hy⟩⟩
          have hsm : ∀ j, j < 16 → ∀ Wd vo cv, Kept (LotS 16 V) w8 Wd → Seen Wd vo (lst zs x j).length (lst zs x j) → Calls Try.prog 16 #[.slice vo (lst zs x j).length cv, .slice (V' j) (lst zs x j).length (cp' j)] Wd fun en w' => en = .returned (.bool true) ∧ Kept (LotS 16 V) w8 w' := fun j hj Wd vo cv hk hs => (same_yes vo (V' j) _ _ cv (cp' j) (lst zs x j) Wd hs ((QF.out _ hk).2.2.2.1 j hj)).mono fun en w' ⟨h1, q', h2⟩ => ⟨h1, by rw [h2]; exact hk.trans ⟨rfl, rfl, rfl, Nat.le_refl _, fun _ _ _ => rfl⟩⟩
          have hs12 := hsm 12 (by decide)
          have hs1 := hsm 1 (by decide)
          have HCL : Hid (∀ Wd, Kept (LotS 16 V) w8 Wd → (Wd.cell? ⟨O', 12, none⟩ = some (.slice (V' 12) (lst zs x 12).length (cp' 12)) ∧ Wd.cell? ⟨O', 1, none⟩ = some (.slice (V' 1) (lst zs x 1).length (cp' 1)))) := fun Wd hk => (QF.out Wd hk).2.2.1
          have HBW : Hid (∀ Wd, Kept (LotS 16 V) w8 Wd → Below w.heap.size w Wd) := fun Wd hk => (QF.out Wd hk).2.2.2.2
          have d12 := HD2.out 12 (by decide)
          have d1 := HD2.out 1 (by decide)
          have HKB : Hid (∀ Wd, Below w8.heap.size w8 Wd → Kept (LotS 16 V) w8 Wd) := fun Wd hb => ⟨hb.os, hb.tape, hb.output, hb.size, fun y hy _ => hb.block y hy⟩
          generalize lst zs x 12 = l12 at *
          generalize lst zs x 1 = l1 at *
          generalize l12.length = n12 at *
          generalize l1.length = n1 at *
          clear hsm QF HS1 HS2 HD1 HD2 HW2 HSN HLT HVV
          go_wp2
          go_region_held3 (fun w' => w'.cell? ⟨O', 12, none⟩ = some (.slice (V' 12) n12 (cp' 12)) ∧ w'.cell? ⟨O', 1, none⟩ = some (.slice (V' 1) n1 (cp' 1))) (first | (go_keep; done) | (exact HCL.out _ (HKB.out _ b9)) | (exact HCL.out _ kA) | (exact HCL.out _ kB) | (exact HCL.out _ kC) | (exact HCL.out _ kD) | (exact HCL.out _ kE) | (exact HCL.out _ kF)) (first | (go_at_call 15; (with_reducible show Calls _ _ _ (World.drewN _ _) _); refine hst1.mono ?_; rintro en w9 ⟨rfl, b9⟩) | (go_at_call 22; refine (hap w9 b9).mono ?_; rintro en wA ⟨rfl, kA⟩) | (go_at_call 15; refine (hst2 wA kA).mono ?_; rintro en wB ⟨rfl, kB⟩) | (go_at_call 17; refine (hpl wB kB).mono ?_; rintro en wC ⟨oC, cC, rfl, sC, kC⟩) | (go_at_call 16; with_reducible refine (hs12 wC oC cC kC sC).mono ?_; rintro en wD ⟨rfl, kD⟩) | (go_at_call 18; refine (hpb wD kD).mono ?_; rintro en wE ⟨oE, cE, rfl, sE, kE⟩) | (go_at_call 16; with_reducible refine (hs1 wE oE cE kE sE).mono ?_; rintro en wF ⟨rfl, kF⟩))
          all_goals
            have HZ : Hid (Below w.heap.size w wF) := HBW.out _ kF
            clear kA kB kC kD kE kF sC sE b9 hst1 hst2 hap hpl hpb hs12 hs1
            go_wp2
            go_ret
            exact ⟨rfl, HZ.out⟩
end Go.Proofs.Ytkkiceldlcfjiaa.octetPuts
