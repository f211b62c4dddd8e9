/- StreamPlays: what both Xors and both Skips do, told together. -/
import Derived.Test.YtpjnimmclncdoaaRSXor
import Derived.Test.YtpjnimmclncdoaaSXor
import Derived.Test.YtpjnimmclncdoaaOMem
namespace Go.Proofs.Ytpjnimmclncdoaa
open Go.RowKit
set_option linter.unusedVariables false
set_option linter.unusedSimpArgs false

/-- Where a stream stands after n bytes were asked of it. -/
def mv (n : Int) (P : Nat) : Nat := if chk n P = 0 then P + n.toNat else P
theorem chk_zero {n : Int} {P : Nat} (h : chk n P = 0) : 0 ≤ n ∧ n + P ≤ 274877906944 := by
  unfold chk at h
  by_cases h1 : n < 0
  · rw [if_pos h1] at h; omega
  · rw [if_neg h1] at h
    by_cases h2 : 274877906944 < n + P
    · rw [if_pos h2] at h; omega
    · omega
set_option maxRecDepth 20000 in
theorem rskip_bad (g : Nat) (key nonce : List Int) (P : Nat) (n : Int) (hn : -9223372036854775808 ≤ n ∧ n < 9223372036854775808) (hc : chk n P ≠ 0) (w : World) (h : RtAt w g key nonce P) :
    Calls Try.prog 14 #[.pointer (some ⟨g, 0, none⟩), .int .i64 n] w fun e w' => e = .returned (.int .i64 (chk n P)) ∧ w = w' := by
  by_cases h1 : n < 0
  · have e1 : chk n P = 2 := by unfold chk; rw [if_pos h1]
    rw [e1]
    clear hc e1
    go_enter Try.func14, Try.ntmps14
    go_wp2_with fail
    go_ret
    exact ⟨rfl, rfl⟩
  · by_cases h2 : 274877906944 < n + P
    · have c1 := h.place
      have ht := h.top
      have e1 : chk n P = 50 := by unfold chk; rw [if_neg h1, if_pos h2]
      have v1 : IntKind.u64.wrap n = n := by simp only [IntKind.wrap, IntKind.bits, IntKind.signed]; simp; omega
      have v2 : IntKind.u64.wrap (274877906944 - (P : Int)) = 274877906944 - (P : Int) := by simp only [IntKind.wrap, IntKind.bits, IntKind.signed]; simp; omega
      have i1 : 274877906944 - (P : Int) < n := by omega
      rw [e1]
      clear h hc e1
      go_enter Try.func14, Try.ntmps14
      go_wp2_with fail
      go_ret
      exact ⟨rfl, rfl⟩
    · exact absurd (by unfold chk; rw [if_neg h1, if_neg h2]) hc
set_option maxRecDepth 20000 in
theorem rskip_ok (g : Nat) (key nonce : List Int) (P n : Nat) (hc : n + P ≤ 274877906944) (w : World) (h : RtAt w g key nonce P) :
    Calls Try.prog 14 #[.pointer (some ⟨g, 0, none⟩), .int .i64 n] w fun e w' => e = .returned (.int .i64 0) ∧ RtAt w' g key nonce (P + n) ∧ Kept (fun k => k = g) w w' := by
  have c1 := h.place
  have f1 := h.frozen 44
  have HH : Hid (RtAt w g key nonce P) := h
  have h1 : ¬ (n : Int) < 0 := by omega
  have v1 : IntKind.u64.wrap (n : Int) = (n : Int) := by simp only [IntKind.wrap, IntKind.bits, IntKind.signed]; simp; omega
  have v2 : IntKind.u64.wrap (274877906944 - (P : Int)) = 274877906944 - (P : Int) := by simp only [IntKind.wrap, IntKind.bits, IntKind.signed]; simp; omega
  have i1 : ¬ 274877906944 - (P : Int) < (n : Int) := by omega
  have v3 : IntKind.u64.wrap ((P : Int) + (n : Int)) = (P : Int) + (n : Int) := by simp only [IntKind.wrap, IntKind.bits, IntKind.signed]; simp; omega
  have v4 : ((P : Int) + (n : Int)) % 18446744073709551616 = (P : Int) + (n : Int) := by omega
  clear h
  go_enter Try.func14, Try.ntmps14
  go_wp2_with fail
  go_ret
  exact ⟨rfl, by have := HH.out.move (P + n) (by omega); simpa using this, (Kept.refl (fun k => k = g) _).setCell (S := fun k => k = g) rfl _⟩
theorem rskip_any (g : Nat) (key nonce : List Int) (P : Nat) (n : Int) (hn : -9223372036854775808 ≤ n ∧ n < 9223372036854775808) (w : World) (h : RtAt w g key nonce P) :
    Calls Try.prog 14 #[.pointer (some ⟨g, 0, none⟩), .int .i64 n] w fun e w' => e = .returned (.int .i64 (chk n P)) ∧ RtAt w' g key nonce (mv n P) ∧ Kept (fun k => k = g) w w' := by
  by_cases hc : chk n P = 0
  · obtain ⟨h0, h1⟩ := chk_zero hc
    obtain ⟨m, rfl⟩ := Int.eq_ofNat_of_zero_le h0
    rw [mv, if_pos hc, hc]
    exact rskip_ok g key nonce P m (by omega) w h
  · rw [mv, if_neg hc]
    refine (rskip_bad g key nonce P n hn hc w h).mono ?_
    rintro e w' ⟨rfl, rfl⟩
    exact ⟨rfl, h, Kept.refl _ _⟩
theorem skip_any (g : Nat) (key nonce : List Int) (P : Nat) (n : Int) (hn : -9223372036854775808 ≤ n ∧ n < 9223372036854775808) (w : World) (h : StAt w g key nonce P) :
    Calls Try.prog 13 #[.pointer (some ⟨g, 0, none⟩), .int .i64 n] w fun e w' => e = .returned (.int .i64 (chk n P)) ∧ StAt w' g key nonce (mv n P) ∧ Kept (fun k => k = g) w w' := by
  by_cases hc : chk n P = 0
  · obtain ⟨h0, h1⟩ := chk_zero hc
    obtain ⟨m, rfl⟩ := Int.eq_ofNat_of_zero_le h0
    rw [mv, if_pos hc, hc]
    exact skip_ok g key nonce P m (by omega) w h
  · rw [mv, if_neg hc]
    refine (skip_bad g key nonce P n hn hc w h).mono ?_
    rintro e w' ⟨rfl, rfl⟩
    exact ⟨rfl, h, Kept.refl _ _⟩
/-- A row that was handed out, in blocks from lo on. -/
structure Ans (W : World) (lo : Nat) (vo : Option Addr) (n cap : Nat) (L : List Int) : Prop where
  own : W.ownsRow lo 5 1 (.slice vo n cap) n (L.map (Value.int .u8))
  len : L.length = n
  bytes : Bytes L
  top : n ≤ 140737488355328
theorem ans_of {W : World} {lo : Nat} {v : Value} {n : Nat} {L : List Int} (hl : L.length = n) (hb : Bytes L) (ht : n ≤ 140737488355328) (h : W.ownsRow lo 5 1 v n (L.map (Value.int .u8))) : ∃ vo cap, v = .slice vo n cap ∧ Ans W lo vo n cap L := by
  rcases own_len hl h with ⟨rfl, rfl⟩ | ⟨g, cap, rfl, r1, g1, c1, m1⟩
  · exact ⟨none, 0, rfl, h, hl, hb, ht⟩
  · exact ⟨_, cap, rfl, h, hl, hb, ht⟩
/-- What a text laid over answers: it, or nothing. -/
def xo (key nonce : List Int) (P : Nat) (zs : List Int) : List Int := if chk zs.length P = 0 then over key nonce P zs else []
theorem rx_any (g : Nat) (key nonce : List Int) (P n c : Nat) (ao : Option Addr) (zs : List Int) (w : World) (h : RtAt w g key nonce P) (hx : Seen w ao n zs) :
    Calls Try.prog 10 #[.pointer (some ⟨g, 0, none⟩), .slice ao n c] w fun e w' => ∃ vo cap, e = .returned (.tuple #[.slice vo (xo key nonce P zs).length cap, .int .i64 (chk n P)]) ∧ Ans w' w.heap.size vo (xo key nonce P zs).length cap (xo key nonce P zs) ∧ RtAt w' g key nonce (mv n P) ∧ Kept (fun b => b = g) w w' := by
  have hl := hx.len
  by_cases hc : chk n P = 0
  · have h1 := chk_zero hc
    rw [xo, hl, if_pos hc, mv, if_pos hc, hc, over_length, hl]
    refine (rsxor_any g key nonce P n c ao zs (by omega) w h hx).mono ?_
    rintro e w1 ⟨v, rfl, o1, st, k1⟩
    obtain ⟨vo, cap, rfl, u⟩ := ans_of ((over_length _ _ _ _).trans hl) (over_bytes _ _ _ _ hx.bytes) hx.top o1
    exact ⟨vo, cap, rfl, u, st, k1⟩
  · have h2 : 274877906944 < n + P := by
      by_cases h3 : 274877906944 < n + P
      · exact h3
      · exact absurd (chk_ok (by omega) (by omega)) hc
    rw [xo, hl, if_neg hc, mv, if_neg hc, chk_over (by omega) (by omega)]
    refine (rsxor_bad g key nonce P n c ao hx.top h2 w h).mono ?_
    rintro e w1 ⟨rfl, rfl⟩
    exact ⟨none, 0, rfl, ⟨World.ownsRow_nil _ _ _ _, rfl, fun z hz => (by cases hz), by decide⟩, h, Kept.refl _ _⟩
theorem sx_any (g : Nat) (key nonce : List Int) (P n c : Nat) (ao : Option Addr) (zs : List Int) (w : World) (h : StAt w g key nonce P) (hx : Seen w ao n zs) :
    Calls Try.prog 9 #[.pointer (some ⟨g, 0, none⟩), .slice ao n c] w fun e w' => ∃ vo cap, e = .returned (.tuple #[.slice vo (xo key nonce P zs).length cap, .int .i64 (chk n P)]) ∧ Ans w' w.heap.size vo (xo key nonce P zs).length cap (xo key nonce P zs) ∧ StAt w' g key nonce (mv n P) ∧ Kept (fun b => b = g) w w' := by
  have hl := hx.len
  by_cases hc : chk n P = 0
  · have h1 := chk_zero hc
    rw [xo, hl, if_pos hc, mv, if_pos hc, hc, over_length, hl]
    refine (sxor_any g key nonce P n c ao zs (by omega) w h hx).mono ?_
    rintro e w1 ⟨v, rfl, o1, st, k1⟩
    obtain ⟨vo, cap, rfl, u⟩ := ans_of ((over_length _ _ _ _).trans hl) (over_bytes _ _ _ _ hx.bytes) hx.top o1
    exact ⟨vo, cap, rfl, u, st, k1⟩
  · have h2 : 274877906944 < n + P := by
      by_cases h3 : 274877906944 < n + P
      · exact h3
      · exact absurd (chk_ok (by omega) (by omega)) hc
    rw [xo, hl, if_neg hc, mv, if_neg hc, chk_over (by omega) (by omega)]
    refine (sxor_bad g key nonce P n c ao hx.top h2 w h).mono ?_
    rintro e w1 ⟨rfl, rfl⟩
    exact ⟨none, 0, rfl, ⟨World.ownsRow_nil _ _ _ _, rfl, fun z hz => (by cases hz), by decide⟩, h, Kept.refl _ _⟩
theorem Ans.seen {W : World} {lo n cap : Nat} {vo : Option Addr} {L : List Int} (h : Ans W lo vo n cap L) : Seen W vo n L := by
  rcases own_len h.len h.own with ⟨e, rfl⟩ | ⟨g, cap', e, r1, g1, c1, m1⟩
  · cases e; rw [List.length_eq_zero_iff.1 h.len]; exact Seen.empty _ _
  · cases e
    have s := Seen.of_row (n := n) r1 (by have := h.len; omega) h.top h.bytes
    rwa [List.take_of_length_le (by have := h.len; omega)] at s
theorem own_keptS {S : Nat → Prop} {w w' : World} {base n : Nat} {v : Value} {xs : List Value} (h : w.ownsRow base 5 1 v n xs) (hk : Kept S w w') (hp : ∀ j, v.ownBlock = some j → ¬ S j) : w'.ownsRow base 5 1 v n xs := by
  refine ⟨h.1, ?_⟩
  rcases h.2 with h2 | ⟨g, cap, cur, rfl, hg, hh, r⟩
  · exact .inl h2
  · exact .inr ⟨g, cap, cur, rfl, hg, by rw [hk.block g (lt_of_block hh) (hp g rfl)]; exact hh, r⟩
theorem Ans.kept {S : Nat → Prop} {W W' : World} {lo n cap : Nat} {vo : Option Addr} {L : List Int} (h : Ans W lo vo n cap L) (hk : Kept S W W') (hS : ∀ y, lo ≤ y → ¬ S y) : Ans W' lo vo n cap L :=
  ⟨own_keptS h.own hk (fun k e => hS k (h.own.lt k e).1), h.len, h.bytes, h.top⟩
theorem Ans.later {W W' : World} {lo n cap : Nat} {vo : Option Addr} {L : List Int} (h : Ans W lo vo n cap L) (l : Below W.heap.size W W') : Ans W' lo vo n cap L := h.kept (Kept.new (fun _ => False) l) (fun _ _ => id)
end Go.Proofs.Ytpjnimmclncdoaa
