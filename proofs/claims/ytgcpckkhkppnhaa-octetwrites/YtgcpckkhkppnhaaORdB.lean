/- Layer octet: the statements' read, its other ways. -/
import Derived.Test.YtgcpckkhkppnhaaORdA
import Derived.Test.YtgcpckkhkppnhaaOApart
namespace Go.Proofs.Ytgcpckkhkppnhaa
open Go.RowKit
set_option linter.unusedVariables false
set_option linter.unusedSimpArgs false

theorem wd_none {d : Int} (h : d ≠ 1 ∧ d ≠ 2 ∧ d ≠ 3 ∧ d ≠ 4) : wd d = 0 := by
  rcases wd_cases d with g | g | g | g | g <;> omega
set_option maxRecDepth 20000 in
set_option maxHeartbeats 1000000 in
theorem read_left (r q : Nat) (ao : Option Addr) (c : Nat) (ao2 : Option Addr) (c2 : Nat) (zs : List Int) (p : Nat) (e : Int) (it : Item) (so : Option Addr) (cs : Nat) (w : World) (x : Two w r ao c q ao2 c2 zs p e) (hd : it.d = 6) :
    Calls Try.prog 9 #[.pointer (some ⟨r, 0, none⟩), .pointer (some ⟨q, 0, none⟩), .agg (stepC it so cs).toArray] w (Reads r q ao c ao2 c2 zs w) := by
  have X : Hid (Two w r ao c q ao2 c2 zs p e) := x
  have i1 : ¬ (0 : Int) < ((wd it.d : Nat) : Int) := by rw [wd_none (by omega)]; decide
  have q5 : (it.d == 5) = false := by simp; omega
  have q6 : (it.d == 6) = true := by simp [hd]
  clear x hd
  go_enter Try.func9, Try.ntmps9
  go_wp2_with (first | (refine wpList_box_new rfl 35 _ rfl (stepC it so cs) rfl ?_; intro w1 b1 s1 l1; have cd := b1.cell 0; rw [show (stepC it so cs)[0]? = some (.int .i64 it.d) from rfl] at cd; have cn := b1.cell 1; rw [show (stepC it so cs)[1]? = some (.int .i64 it.n) from rfl] at cn) | (go_at_call 20; refine (width_any it.d _).mono ?_; rintro e w' ⟨rfl, rfl⟩))
  have V1 : Hid (Two w1 r ao c q ao2 c2 zs p e ∧ Below w.heap.size w w1) := ⟨X.out.later l1, l1⟩
  clear b1 s1 l1 cd cn
  refine (left_any r ao c zs p e w1 V1.out.1.one).mono ?_
  rintro e2 w2 ⟨rfl, a, rfl⟩
  go_wp2_with fail
  refine (rleft_any q ao2 c2 zs p e (w1.drewN a) (V1.out.1.dn a).two).mono ?_
  rintro e3 w3 ⟨rfl, b, rfl⟩
  go_wp2_with fail
  go_ret
  exact ⟨by simp, _, _, V1.out.1.dn (a + b), (kept_of_below (below_dn V1.out.2 (a + b)) (Nat.le_refl _))⟩
set_option maxRecDepth 20000 in
set_option maxHeartbeats 1000000 in
theorem read_end (r q : Nat) (ao : Option Addr) (c : Nat) (ao2 : Option Addr) (c2 : Nat) (zs : List Int) (p : Nat) (e : Int) (it : Item) (so : Option Addr) (cs : Nat) (w : World) (x : Two w r ao c q ao2 c2 zs p e) (hd : it.d = 8) :
    Calls Try.prog 9 #[.pointer (some ⟨r, 0, none⟩), .pointer (some ⟨q, 0, none⟩), .agg (stepC it so cs).toArray] w (Reads r q ao c ao2 c2 zs w) := by
  have X : Hid (Two w r ao c q ao2 c2 zs p e) := x
  have i1 : ¬ (0 : Int) < ((wd it.d : Nat) : Int) := by rw [wd_none (by omega)]; decide
  have q5 : (it.d == 5) = false := by simp; omega
  have q6 : (it.d == 6) = false := by simp; omega
  have q7 : (it.d == 7) = false := by simp; omega
  have q8 : (it.d == 8) = true := by simp [hd]
  clear x hd
  go_enter Try.func9, Try.ntmps9
  go_wp2_with (first | (refine wpList_box_new rfl 35 _ rfl (stepC it so cs) rfl ?_; intro w1 b1 s1 l1; have cd := b1.cell 0; rw [show (stepC it so cs)[0]? = some (.int .i64 it.d) from rfl] at cd; have cn := b1.cell 1; rw [show (stepC it so cs)[1]? = some (.int .i64 it.n) from rfl] at cn) | (go_at_call 20; refine (width_any it.d _).mono ?_; rintro e w' ⟨rfl, rfl⟩))
  have V1 : Hid (Two w1 r ao c q ao2 c2 zs p e ∧ Below w.heap.size w w1) := ⟨X.out.later l1, l1⟩
  clear b1 s1 l1 cd cn
  refine (end_any r ao c zs p e w1 V1.out.1.one).mono ?_
  rintro e2 w2 ⟨rfl, a, rfl⟩
  go_wp2_with fail
  refine (rend_any q ao2 c2 zs p e (w1.drewN a) (V1.out.1.dn a).two).mono ?_
  rintro e3 w3 ⟨rfl, b, rfl⟩
  go_wp2_with fail
  go_ret
  exact ⟨by simp, _, _, V1.out.1.dn (a + b), (kept_of_below (below_dn V1.out.2 (a + b)) (Nat.le_refl _))⟩
set_option maxRecDepth 20000 in
set_option maxHeartbeats 1000000 in
theorem read_none (r q : Nat) (ao : Option Addr) (c : Nat) (ao2 : Option Addr) (c2 : Nat) (zs : List Int) (p : Nat) (e : Int) (it : Item) (so : Option Addr) (cs : Nat) (w : World) (x : Two w r ao c q ao2 c2 zs p e) (hd : it.d ≠ 1 ∧ it.d ≠ 2 ∧ it.d ≠ 3 ∧ it.d ≠ 4 ∧ it.d ≠ 5 ∧ it.d ≠ 6 ∧ it.d ≠ 7 ∧ it.d ≠ 8) :
    Calls Try.prog 9 #[.pointer (some ⟨r, 0, none⟩), .pointer (some ⟨q, 0, none⟩), .agg (stepC it so cs).toArray] w (Reads r q ao c ao2 c2 zs w) := by
  have X : Hid (Two w r ao c q ao2 c2 zs p e) := x
  have i1 : ¬ (0 : Int) < ((wd it.d : Nat) : Int) := by rw [wd_none (by omega)]; decide
  have q5 : (it.d == 5) = false := by simp; omega
  have q6 : (it.d == 6) = false := by simp; omega
  have q7 : (it.d == 7) = false := by simp; omega
  have q8 : (it.d == 8) = false := by simp; omega
  clear x hd
  go_enter Try.func9, Try.ntmps9
  go_wp2_with (first | (refine wpList_box_new rfl 35 _ rfl (stepC it so cs) rfl ?_; intro w1 b1 s1 l1; have cd := b1.cell 0; rw [show (stepC it so cs)[0]? = some (.int .i64 it.d) from rfl] at cd; have cn := b1.cell 1; rw [show (stepC it so cs)[1]? = some (.int .i64 it.n) from rfl] at cn) | (go_at_call 20; refine (width_any it.d _).mono ?_; rintro e w' ⟨rfl, rfl⟩))
  go_ret
  exact ⟨rfl, _, _, X.out.later l1, kept_of_below l1 (Nat.le_refl _)⟩
set_option maxRecDepth 20000 in
set_option maxHeartbeats 1000000 in
theorem read_err (r q : Nat) (ao : Option Addr) (c : Nat) (ao2 : Option Addr) (c2 : Nat) (zs : List Int) (p : Nat) (e : Int) (it : Item) (so : Option Addr) (cs : Nat) (w : World) (x : Two w r ao c q ao2 c2 zs p e) (hd : it.d = 7) :
    Calls Try.prog 9 #[.pointer (some ⟨r, 0, none⟩), .pointer (some ⟨q, 0, none⟩), .agg (stepC it so cs).toArray] w (Reads r q ao c ao2 c2 zs w) := by
  have X : Hid (Two w r ao c q ao2 c2 zs p e) := x
  have i1 : ¬ (0 : Int) < ((wd it.d : Nat) : Int) := by rw [wd_none (by omega)]; decide
  have q5 : (it.d == 5) = false := by simp; omega
  have q6 : (it.d == 6) = false := by simp; omega
  have q7 : (it.d == 7) = true := by simp [hd]
  clear x hd
  go_enter Try.func9, Try.ntmps9
  go_wp2_with (first | (refine wpList_box_new rfl 35 _ rfl (stepC it so cs) rfl ?_; intro w1 b1 s1 l1; have cd := b1.cell 0; rw [show (stepC it so cs)[0]? = some (.int .i64 it.d) from rfl] at cd; have cn := b1.cell 1; rw [show (stepC it so cs)[1]? = some (.int .i64 it.n) from rfl] at cn) | (go_at_call 20; refine (width_any it.d _).mono ?_; rintro e w' ⟨rfl, rfl⟩))
  have V1 : Hid (Two w1 r ao c q ao2 c2 zs p e ∧ Below w.heap.size w w1) := ⟨X.out.later l1, l1⟩
  clear b1 s1 l1 cd cn
  refine region_inv [.val (.pointer (some ⟨r, 0, none⟩)), .val (.int .i64 e), .val (.pointer (some ⟨q, 0, none⟩)), .val (.pointer (some ⟨q, 0, none⟩)), .val (.pointer (some ⟨q, 2, none⟩)), .val (.int .i64 e), .val (.bool true)] (by kernel_rfl) (by kernel_rfl) (by kernel_rfl) ?_ ?_
  · refine Steps'.cons ?_ (Steps'.cons ?_ (Steps'.cons ?_ (Steps'.cons ?_ (Steps'.cons ?_ (Steps'.cons ?_ (Steps'.cons ?_ (Steps'.one _ _ _ _ _ _ _)))))))
    · intro ax wx hb hs hd
      have h0 : ax.tmps.getD 0 undef = (.pointer (some ⟨r, 0, none⟩)) := hs 0 (by kernel_rfl)
      refine Does.value (.pointer (some ⟨r, 0, none⟩)) ?_ rfl
      clear hs hd
      go_simp
    · intro ax wx hb hs hd
      have h63 : ax.tmps.getD 63 undef = (.pointer (some ⟨r, 0, none⟩)) := hd 0 63 rfl (by kernel_rfl) (by decide)
      refine Does.call 26 #[.pointer (some ⟨r, 0, none⟩)] (by clear hs hd; go_simp) ?_
      refine (err_any r ao c zs p e wx (V1.out.1.later hb).one).mono ?_
      rintro e2 w2 ⟨rfl, rfl⟩
      exact ⟨_, rfl, rfl, Below.refl _ _⟩
    · intro ax wx hb hs hd
      have h1 : ax.tmps.getD 1 undef = (.pointer (some ⟨q, 0, none⟩)) := hs 1 (by kernel_rfl)
      refine Does.value (.pointer (some ⟨q, 0, none⟩)) ?_ rfl
      clear hs hd
      go_simp
    · intro ax wx hb hs hd
      have h65 : ax.tmps.getD 65 undef = (.pointer (some ⟨q, 0, none⟩)) := hd 2 65 rfl (by kernel_rfl) (by decide)
      refine Does.value (.pointer (some ⟨q, 0, none⟩)) ?_ rfl
      clear hs hd
      go_simp
    · intro ax wx hb hs hd
      have h66 : ax.tmps.getD 66 undef = (.pointer (some ⟨q, 0, none⟩)) := hd 3 66 rfl (by kernel_rfl) (by decide)
      refine Does.value (.pointer (some ⟨q, 2, none⟩)) ?_ rfl
      clear hs hd
      go_simp
    · intro ax wx hb hs hd
      have h67 : ax.tmps.getD 67 undef = (.pointer (some ⟨q, 2, none⟩)) := hd 4 67 rfl (by kernel_rfl) (by decide)
      have cx := (V1.out.1.later hb).two.c2
      refine Does.value (.int .i64 e) ?_ rfl
      clear hs hd
      go_simp
    · intro ax wx hb hs hd
      have h64 : ax.tmps.getD 64 undef = (.int .i64 e) := hd 1 64 rfl (by kernel_rfl) (by decide)
      have h68 : ax.tmps.getD 68 undef = (.int .i64 e) := hd 5 68 rfl (by kernel_rfl) (by decide)
      refine Does.value (.bool true) ?_ rfl
      clear hs hd
      go_simp
  · intro wx hb
    refine @Ends.val _ _ _ _ _ _ _ _ _ (.pointer (some ⟨r, 0, none⟩)) rfl ?_
    refine @Ends.val _ _ _ _ _ _ _ _ _ (.int .i64 e) rfl ?_
    refine @Ends.val _ _ _ _ _ _ _ _ _ (.pointer (some ⟨q, 0, none⟩)) rfl ?_
    refine @Ends.val _ _ _ _ _ _ _ _ _ (.pointer (some ⟨q, 0, none⟩)) rfl ?_
    refine @Ends.val _ _ _ _ _ _ _ _ _ (.pointer (some ⟨q, 2, none⟩)) rfl ?_
    refine @Ends.val _ _ _ _ _ _ _ _ _ (.int .i64 e) rfl ?_
    refine @Ends.val _ _ _ _ _ _ _ _ _ (.bool true) rfl ?_
    refine @Ends.one _ _ _ _ _ _ _ ?_
    simp only [Act.put, List.setIfInBounds_toArray, List.set_cons_zero, List.set_cons_succ]
    have W2 : Hid (Two wx r ao c q ao2 c2 zs p e ∧ Below w.heap.size w wx) := ⟨V1.out.1.later hb, below_chain V1.out.2 hb V1.out.2.size⟩
    clear hb
    refine last_assign (.tmp 69) rfl (some 6) rfl (.bool true) rfl ?_
    simp only [Act.put, List.setIfInBounds_toArray, List.set_cons_zero, List.set_cons_succ]
    go_wp2
    go_ret
    exact ⟨rfl, _, _, W2.out.1, kept_of_below W2.out.2 (Nat.le_refl _)⟩
set_option maxRecDepth 20000 in
set_option maxHeartbeats 1000000 in
theorem read_bytes (r q : Nat) (ao : Option Addr) (c : Nat) (ao2 : Option Addr) (c2 : Nat) (zs : List Int) (p : Nat) (e : Int) (it : Item) (so : Option Addr) (cs : Nat) (w : World) (x : Two w r ao c q ao2 c2 zs p e) (hd : it.d = 5) (hn : -9223372036854775808 ≤ it.n ∧ it.n ≤ 9223372036854775807) :
    Calls Try.prog 9 #[.pointer (some ⟨r, 0, none⟩), .pointer (some ⟨q, 0, none⟩), .agg (stepC it so cs).toArray] w (Reads r q ao c ao2 c2 zs w) := by
  have X : Hid (Two w r ao c q ao2 c2 zs p e) := x
  have i1 : ¬ (0 : Int) < ((wd it.d : Nat) : Int) := by rw [wd_none (by omega)]; decide
  have q5 : (it.d == 5) = true := by simp [hd]
  have hb := rnxL_bytes x.one.hb p e it.n
  have hle := nxL_le zs p e it.n
  have ht := x.one.ht
  obtain ⟨L, hL⟩ : ∃ L, nxL zs p e it.n = L := ⟨_, rfl⟩
  obtain ⟨P', hP⟩ : ∃ L, nxP zs p e it.n = L := ⟨_, rfl⟩
  obtain ⟨E', hE⟩ : ∃ L, nxE zs p e it.n = L := ⟨_, rfl⟩
  obtain ⟨m, hm⟩ : ∃ m, L.length = m := ⟨_, rfl⟩
  rw [hL] at hb hle
  have HL : Hid (nxL zs p e it.n = L ∧ nxP zs p e it.n = P' ∧ nxE zs p e it.n = E' ∧ Bytes L ∧ L.length = m) := ⟨hL, hP, hE, hb, hm⟩
  have tm : m ≤ 140737488355328 := by omega
  clear x hd hL hP hE hb hle ht hm
  go_enter Try.func9, Try.ntmps9
  go_wp2_with (first | (refine wpList_box_new rfl 35 _ rfl (stepC it so cs) rfl ?_; intro w1 b1 s1 l1; have cd := b1.cell 0; rw [show (stepC it so cs)[0]? = some (.int .i64 it.d) from rfl] at cd; have cn := b1.cell 1; rw [show (stepC it so cs)[1]? = some (.int .i64 it.n) from rfl] at cn) | (go_at_call 20; refine (width_any it.d _).mono ?_; rintro e w' ⟨rfl, rfl⟩))
  have V1 : Hid (Two w1 r ao c q ao2 c2 zs p e ∧ Below w.heap.size w w1 ∧ Blk w1 w.heap.size 35 (stepC it so cs)) := ⟨X.out.later l1, l1, b1⟩
  have lr := X.out.one.lt
  have lq := X.out.two.lt
  clear b1 s1 l1 cd cn
  refine (rdbytes_any r ao c zs p e it.n hn w1 V1.out.1.one).mono ?_
  rintro e2 w2 ⟨vo, cv, rfl, o2, r2, k2⟩
  rw [HL.out.1, HL.out.2.2.2.2] at o2 ⊢
  rw [HL.out.2.1, HL.out.2.2.1] at r2
  have V2 : Hid (Rd w2 r ao c zs P' E' ∧ Rd w2 q ao2 c2 zs p e ∧ Kept (fun k => k = r ∨ k = q) w w2 ∧ w2.ownsRow w1.heap.size 5 1 (.slice vo m cv) m (L.map (Value.int .u8)) ∧ Blk w2 w.heap.size 35 (stepC it so cs) ∧ w1.heap.size ≤ w2.heap.size) := ⟨r2, V1.out.1.two.kept k2 (fun h => X.out.ne h.symm) X.out.r2, (kept_of_below V1.out.2.1 (Nat.le_refl _)).trans (k2.mono (fun k h => .inl h)), o2, V1.out.2.2.kept k2 (by omega), k2.size⟩
  have cn := V2.out.2.2.2.2.1.cell 1
  rw [show (stepC it so cs)[1]? = some (.int .i64 it.n) from rfl] at cn
  clear o2 r2 k2
  go_wp2_with fail
  refine (rbytes_rd q ao2 c2 zs p e it.n hn w2 V2.out.2.1).mono ?_
  rintro e3 w3 ⟨v, rfl, o3, r3, k3⟩
  rw [HL.out.1, HL.out.2.2.2.2] at o3
  rw [HL.out.2.1, HL.out.2.2.1] at r3
  obtain ⟨uo, uc, rfl, su, _⟩ := own_seen HL.out.2.2.2.2 HL.out.2.2.2.1 tm o3
  have lw := V1.out.2.1.size
  have V3 : Hid (Two w3 r ao c q ao2 c2 zs P' E' ∧ Kept (fun k => k = r ∨ k = q) w w3 ∧ w3.ownsRow w1.heap.size 5 1 (.slice vo m cv) m (L.map (Value.int .u8)) ∧ Seen w3 uo m L ∧ w1.heap.size ≤ w3.heap.size) := ⟨⟨V2.out.1.kept k3 X.out.ne X.out.r1, r3, X.out.ne, X.out.r1, X.out.r2⟩, V2.out.2.2.1.trans (k3.mono (fun k h => .inr h)), own_kept V2.out.2.2.2.1 k3 (fun j hj e => by have := (V2.out.2.2.2.1.lt j hj).1; omega), su, by have := k3.size; have := V2.out.2.2.2.2.2; omega⟩
  clear o3 r3 k3 su V2 cn
  obtain ⟨vs, vc, ve, hvs, _⟩ := own_seen HL.out.2.2.2.2 HL.out.2.2.2.1 tm V3.out.2.2.1
  obtain ⟨e1, e2⟩ : vo = vs ∧ cv = vc := by simpa using ve
  subst e1 e2
  go_wp2_with fail
  refine (same_yes vo uo m m m uc L w3 hvs V3.out.2.2.2.1).mono ?_
  rintro e4 w4 ⟨rfl, a, hw4⟩
  have V4 : Hid (Two w4 r ao c q ao2 c2 zs P' E' ∧ Kept (fun k => k = r ∨ k = q) w w4 ∧ w4.ownsRow w1.heap.size 5 1 (.slice vo m cv) m (L.map (Value.int .u8)) ∧ w1.heap.size ≤ w4.heap.size) := by rw [hw4]; exact ⟨V3.out.1.dn a, V3.out.2.1.trans (kept_of_below (below_dn (Below.refl w3.heap.size w3) a) (Nat.le_refl _)), ownsRow_below V3.out.2.2.1 (below_dn (Below.refl w3.heap.size w3) a), V3.out.2.2.2.2⟩
  have HV : Hid (0 < m → ∃ g, vo = some ⟨g, 0, none⟩ ∧ w1.heap.size ≤ g) := fun h0 => by
    rcases own_len HL.out.2.2.2.2 V4.out.2.2.1 with ⟨e1, e2⟩ | ⟨g, cap, e1, r1, g1, _⟩
    · omega
    · obtain ⟨e3, _⟩ : vo = some ⟨g, 0, none⟩ ∧ cv = cap := by simpa using e1
      exact ⟨g, e3, g1⟩
  clear hw4 hvs V3
  go_wp2_with fail
  go_loopw [9] (fun i wr => ∃ (k : Nat) (us : List Int), k ≤ m ∧ i = .int .i64 k ∧ us.length = m ∧ Bytes us ∧ wr.ownsRow w1.heap.size 5 1 (.slice vo m cv) m (us.map (Value.int .u8)) ∧ Kept (fun y => w1.heap.size ≤ y) w4 wr) (fun i _ => m - (intOf i).toNat)
  case atStart => exact ⟨0, L, Nat.zero_le _, rfl, HL.out.2.2.2.2, HL.out.2.2.2.1, V4.out.2.2.1, Kept.refl _ _⟩
  case round =>
    obtain ⟨k, us, hk, rfl, hul, hub, hown, hkp⟩ := hrel
    by_cases hlt : k < m
    · obtain ⟨g, e5, g1⟩ := HV.out (by omega)
      have HO : Hid (vo = some ⟨g, 0, none⟩) := e5
      rw [e5] at hown ⊢
      have bz := hub.at k (by omega)
      obtain ⟨c4', f4'⟩ := own_at hown k hlt
      obtain ⟨Z, hZ⟩ : ∃ Z, us.getD k 0 = Z := ⟨_, rfl⟩
      rw [hZ] at c4' bz
      obtain ⟨Y, hY⟩ : ∃ X, bits .xor .u8 Z 255 = X := ⟨_, rfl⟩
      have bY : 0 ≤ Y ∧ Y < 256 := by rw [← hY]; exact xor8_bd _ _ bz (by decide)
      have T1 : Hid ((wr.setCell ⟨g, k, none⟩ (.int .u8 Y)).ownsRow w1.heap.size 5 1 (.slice vo m cv) m ((us.set k Y).map (Value.int .u8)) ∧ (us.set k Y).length = m ∧ Bytes (us.set k Y) ∧ Kept (fun y => w1.heap.size ≤ y) w4 (wr.setCell ⟨g, k, none⟩ (.int .u8 Y))) := ⟨by rw [HO.out]; exact own_set hown k hlt Y, by rw [List.length_set]; exact hul, bytes_set hub k _ bY, hkp.setCell (p := ⟨g, k, none⟩) g1 _⟩
      have j1 : (0 : Int) ≤ (k : Int) := by omega
      have j2 : (k : Int) < (m : Int) := by omega
      clear hZ hub hul hown hkp
      go_wp2_with fail
      rw [← HO.out]
      go_roundw
      case rel => exact ⟨k + 1, _, by omega, by go_num, T1.out.2.1, T1.out.2.2.1, T1.out.1, T1.out.2.2.2⟩
      case measure => simp [intOf]; omega
    · have j2 : ¬ (k : Int) < (m : Int) := by omega
      have W5 : Hid (Two wr r ao c q ao2 c2 zs P' E' ∧ Kept (fun k => k = r ∨ k = q) w wr) := by
        have x1 := X.out.one.lt
        have x2 := X.out.two.lt
        have x3 := V1.out.2.1.size
        refine ⟨V4.out.1.kept hkp (by omega) (by omega) (fun g hg => by have := X.out.one.row_lt g hg; omega) (fun g hg => by have := X.out.two.row_lt g hg; omega), ?_⟩
        have kk := V4.out.2.1
        exact ⟨hkp.os.trans kk.os, hkp.tape.trans kk.tape, hkp.output.trans kk.output, Nat.le_trans kk.size hkp.size, fun i hi hs => (hkp.block i (Nat.lt_of_lt_of_le hi kk.size) (by omega)).trans (kk.block i hi hs)⟩
      clear hown hkp hul hub
      go_wp2_with fail
      go_ret
      exact ⟨rfl, _, _, W5.out.1, W5.out.2⟩
theorem read_any (r q : Nat) (ao : Option Addr) (c : Nat) (ao2 : Option Addr) (c2 : Nat) (zs : List Int) (p : Nat) (e : Int) (it : Item) (so : Option Addr) (cs : Nat) (w : World) (x : Two w r ao c q ao2 c2 zs p e) (hn : -9223372036854775808 ≤ it.n ∧ it.n ≤ 9223372036854775807) :
    Calls Try.prog 9 #[.pointer (some ⟨r, 0, none⟩), .pointer (some ⟨q, 0, none⟩), .agg (stepC it so cs).toArray] w (Reads r q ao c ao2 c2 zs w) := by
  by_cases h : 0 < wd it.d
  · exact read_num r q ao c ao2 c2 zs p e it so cs w x h
  · by_cases h5 : it.d = 5
    · exact read_bytes r q ao c ao2 c2 zs p e it so cs w x h5 hn
    · by_cases h6 : it.d = 6
      · exact read_left r q ao c ao2 c2 zs p e it so cs w x h6
      · by_cases h7 : it.d = 7
        · exact read_err r q ao c ao2 c2 zs p e it so cs w x h7
        · by_cases h8 : it.d = 8
          · exact read_end r q ao c ao2 c2 zs p e it so cs w x h8
          · refine read_none r q ao c ao2 c2 zs p e it so cs w x ?_
            rcases wd_cases it.d with g | g | g | g | g <;> omega
end Go.Proofs.Ytgcpckkhkppnhaa
