/- Joined texts: SXor LOver TPlain RInv TNum TTimes TFold. -/
import Derived.Test.YtcimiajkbgabiaaGreatZB
import Derived.Test.YtcimiajkbgabiaaGreatZA
import Derived.Lib.Mul64
import Derived.Test.YtcimiajkbgabiaaGreatPlain
import Derived.Shelf.Spec.BitsCarry
import Derived.Shelf.Bits.Mul64
namespace Go.Proofs.YtcimiajkbgabiaaGreat
open Go.RowKit
set_option linter.unusedVariables false
set_option linter.unusedSimpArgs false

set_option maxRecDepth 20000 in
theorem sxor_nil (ao : Option Addr) (n c : Nat) (w : World) : Calls Tryz.prog 75 #[.pointer none, .slice ao n c] w fun e w' => e = .returned (.tuple #[.slice none 0 0, .int .i64 1]) ∧ w = w' := by
  go_enter Tryz.func75, Tryz.ntmps75
  go_wp2_with (go_at_call 96; refine (check_nil n _).mono ?_; rintro e w' ⟨rfl, rfl⟩)
  go_ret2
  exact ⟨rfl, rfl⟩
theorem sxor_bad (g : Nat) (key nonce : List Int) (P n c : Nat) (ao : Option Addr) (hn : n ≤ 140737488355328) (hc : 274877906944 < n + P) (w : World) (h : StAt w g key nonce P) :
    Calls Tryz.prog 75 #[.pointer (some ⟨g, 0, none⟩), .slice ao n c] w fun e w' => e = .returned (.tuple #[.slice none 0 0, .int .i64 50]) ∧ w = w' := by
  have hk := check_any g key nonce P n (by omega) w h
  rw [chk_over (by omega) (by omega)] at hk
  clear h
  go_enter Tryz.func75, Tryz.ntmps75
  go_wp2_with (go_at_call 96; refine hk.mono ?_; rintro e w' ⟨rfl, rfl⟩)
  go_ret2
  exact ⟨rfl, rfl⟩
set_option maxRecDepth 20000 in
set_option maxHeartbeats 1000000 in
theorem sxor_any (g : Nat) (key nonce : List Int) (P n c : Nat) (ao : Option Addr) (zs : List Int) (hc : n + P ≤ 274877906944) (w : World) (h : StAt w g key nonce P) (hx : Seen w ao n zs) :
    Calls Tryz.prog 75 #[.pointer (some ⟨g, 0, none⟩), .slice ao n c] w fun e w' => ∃ v, e = .returned (.tuple #[v, .int .i64 0]) ∧ w'.ownsRow w.heap.size 5 1 v n ((over key nonce P zs).map (Value.int .u8)) ∧ StAt w' g key nonce (P + n) ∧ Kept (fun b => b = g) w w' := by
  have hk := check_any g key nonce P n (by omega) w h
  rw [chk_ok (by omega) (by omega)] at hk
  have HX : Hid (Seen w ao n zs ∧ StAt w g key nonce P) := ⟨hx, h⟩
  clear h hx
  go_enter Tryz.func75, Tryz.ntmps75
  go_wp2_with (first | (go_at_call 96; refine hk.mono ?_; rintro e w' ⟨rfl, rfl⟩) | (go_at_call 48; refine (clone_any ao n c zs _ HX.out.1).mono ?_; rintro e w1 ⟨v, rfl, o1, l1⟩; rcases own_len HX.out.1.len o1 with ⟨rfl, hn0⟩ | ⟨r, cap, rfl, r1, g1, c1, m1⟩))
  · subst hn0
    have hz : zs = [] := List.length_eq_zero_iff.1 HX.out.1.len
    subst hz
    go_loopw [8] (fun v wr => v = .slice none 0 0 ∧ wr = w1) (fun _ _ => 0)
    case atStart => exact ⟨rfl, rfl⟩
    case round =>
      obtain ⟨rfl, rfl⟩ := hrel
      have HL : Hid (Below w.heap.size w wr) := l1
      clear l1 o1
      go_wp2_with fail
      go_ret2
      exact ⟨_, rfl, World.ownsRow_nil _ _ _ _, HX.out.2.later HL.out HX.out.2.lt, Kept.new _ HL.out⟩
  · have HL : Hid (Below w.heap.size w w1 ∧ RowC w1 r cap zs ∧ StAt w1 g key nonce P ∧ g ≠ r ∧ w.heap.size ≤ r ∧ cap ≤ maxLen) := ⟨l1, RowC.of_own o1, HX.out.2.later l1 HX.out.2.lt, by have := HX.out.2.lt; omega, g1, m1⟩
    have HN : Hid (zs.length = n ∧ Bytes zs) := ⟨HX.out.1.len, HX.out.1.bytes⟩
    clear o1 l1 r1 g1 m1
    go_loopw [8] (fun v wr => ∃ (k M C : Nat) (ro : Option Addr), k + M = n ∧ M ≤ C ∧ v = .slice ro M C ∧ (0 < M → ro = some ⟨r, k, none⟩) ∧ RowC wr r cap ((over key nonce P zs).take k ++ zs.drop k) ∧ StAt wr g key nonce (P + k) ∧ Kept (fun b => b = g ∨ b = r) w1 wr) (fun v _ => match v with | .slice _ m _ => m | _ => 0)
    case atStart => exact ⟨0, n, cap, some ⟨r, 0, none⟩, by omega, c1, rfl, fun _ => rfl, by simpa using HL.out.2.1, HL.out.2.2.1, Kept.refl _ _⟩
    case round =>
      obtain ⟨k, M, C, ro, hkM, hMC, rfl, hro, hrow, hst, hkp⟩ := hrel
      by_cases hM : 0 < M
      · obtain rfl := hro hM
        have X0 : Hid (RowC wr r cap ((over key nonce P zs).take k ++ zs.drop k) ∧ StAt wr g key nonce (P + k) ∧ Kept (fun b => b = g ∨ b = r) w1 wr) := ⟨hrow, hst, hkp⟩
        clear hrow hst hkp hro
        have i1 : (0 : Int) < (M : Int) := by omega
        have hly := lay_any g r key nonce zs P k n M C cap HN.out.1 (by omega) (by omega) (by omega) HL.out.2.2.2.1 HN.out.2 hMC wr X0.out.2.1 X0.out.1
        go_wp2_with (go_at_call 97; refine hly.mono ?_; rintro e w2 ⟨i, rfl, hi0, hik, st2, row2, k2⟩; have hsl := sl_l (some ⟨r, k, none⟩) M C i (by omega); have X2 : Hid (RowC w2 r cap ((over key nonce P zs).take (k + i) ++ zs.drop (k + i)) ∧ StAt w2 g key nonce (P + (k + i)) ∧ Kept (fun b => b = g ∨ b = r) w1 w2) := ⟨row2, st2, X0.out.2.2.trans k2⟩; clear row2 st2 k2)
        refine ⟨⟨k + i, M - i, C - i, subA (some ⟨r, k, none⟩) i C, by omega, by omega, rfl, fun h => ?_, X2.out⟩, by simp; omega⟩
        unfold subA
        rw [if_neg (by omega)]
        exact congrArg some (add_mid r k i)
      · obtain rfl : M = 0 := by omega
        obtain rfl : k = n := by omega
        have hlo : (over key nonce P zs).length = k := (over_length _ _ _ _).trans HN.out.1
        rw [List.take_of_length_le (by omega), List.drop_eq_nil_of_le (by have := HN.out.1; omega), List.append_nil] at hrow
        have X0 : Hid (RowC wr r cap (over key nonce P zs) ∧ StAt wr g key nonce (P + k) ∧ Kept (fun b => b = g ∨ b = r) w1 wr ∧ (over key nonce P zs).length = k) := ⟨hrow, hst, hkp, hlo⟩
        clear hrow hst hkp hro hlo
        go_wp2_with fail
        go_ret2
        refine ⟨_, rfl, X0.out.1.own X0.out.2.2.2 HL.out.2.2.2.2.1 HL.out.2.2.2.2.2, X0.out.2.1, ?_⟩
        have kk := X0.out.2.2.1
        have hb := HL.out.1
        exact ⟨by rw [kk.os, hb.os], by rw [kk.tape, hb.tape], by rw [kk.output, hb.output], Nat.le_trans hb.size kk.size, fun b hlt hne => by
          rw [kk.block b (Nat.lt_of_lt_of_le hlt hb.size) (by have := HL.out.2.2.2.2.1; omega), hb.block b hlt]⟩
set_option maxRecDepth 20000 in
set_option maxHeartbeats 1000000 in
theorem xor_any (key nonce : List Int) (ctr n c : Nat) (ao : Option Addr) (zs : List Int) (hk : key.length = 32) (hno : nonce.length = 12) (hkb : Bytes key) (hnb : Bytes nonce) (hct : ctr < 4294967296) (hc : n + 64 * ctr ≤ 274877906944) (w : World) (hx : Seen w ao n zs) :
    Calls Tryz.prog 60 #[.agg (u8s key).toArray, .agg (u8s nonce).toArray, .int .u32 ctr, .slice ao n c] w fun e w' => ∃ v, e = .returned (.tuple #[v, .int .i64 0]) ∧ w'.ownsRow w.heap.size 5 1 v n ((over key nonce (64 * ctr) zs).map (Value.int .u8)) ∧ Below w.heap.size w w' := by
  have HX : Hid (Seen w ao n zs) := hx
  clear hx
  have HS : Hid (key.length = 32 ∧ nonce.length = 12 ∧ Bytes key ∧ Bytes nonce) := ⟨hk, hno, hkb, hnb⟩
  clear hk hno hkb hnb
  go_enter Tryz.func60, Tryz.ntmps60
  go_wp2_with (first | (refine wpList_box_new rfl 23 _ rfl (u8s key) rfl ?_; intro w1 b1 s1 l1) | (refine wpList_box_new rfl 45 _ rfl (u8s nonce) rfl ?_; intro w2 b2 s2 l2) | (refine wpList_load_blk rfl 23 _ rfl _ rfl (u8s key) _ (by first | exact b1.later l2 (by omega)) Tryz.underlying23 rfl (by rw [u8s_length, HS.out.1]; exact sizeKey) ?_) | (refine wpList_load_blk rfl 45 _ rfl _ rfl (u8s nonce) _ (by first | exact b2 | (rw [← s1]; exact b2)) Tryz.underlying45 rfl (by rw [u8s_length, HS.out.2.1]; exact sizeNonce) ?_) | (go_at_call 74; refine (new_any key ctr nonce HS.out.1 HS.out.2.1 HS.out.2.2.1 HS.out.2.2.2 hct _).mono ?_; rintro e w3 ⟨g, rfl, hg, st3, l3⟩))
  have L3 : Below w.heap.size w w3 := below_chain (below_chain l1 l2 (by omega)) l3 (by omega)
  have hgw : w.heap.size ≤ g := by omega
  clear b1 s1 l1 b2 s2 l2 l3 hg
  refine (sxor_any g key nonce (64 * ctr) n c ao zs hc w3 st3 (HX.out.later L3 (Nat.le_refl _))).mono ?_
  rintro e w4 ⟨v, rfl, o4, st4, k4⟩
  have HO : Hid (w4.ownsRow w.heap.size 5 1 v n ((over key nonce (64 * ctr) zs).map (Value.int .u8)) ∧ Below w.heap.size w w4) := ⟨ownsRow_base o4 L3.size, below_kept L3 k4 L3.size (fun j hj => by omega)⟩
  clear o4 st4 k4 st3 L3
  go_wp2_with fail
  go_ret2
  exact ⟨_, rfl, HO.out⟩
set_option maxRecDepth 20000 in
set_option maxHeartbeats 1000000 in
theorem xor_bad (key nonce : List Int) (ctr n c : Nat) (ao : Option Addr) (hk : key.length = 32) (hno : nonce.length = 12) (hkb : Bytes key) (hnb : Bytes nonce) (hct : ctr < 4294967296) (hn : n ≤ 140737488355328) (hc : 274877906944 < n + 64 * ctr) (w : World) :
    Calls Tryz.prog 60 #[.agg (u8s key).toArray, .agg (u8s nonce).toArray, .int .u32 ctr, .slice ao n c] w fun e w' => e = .returned (.tuple #[.slice none 0 0, .int .i64 50]) ∧ Below w.heap.size w w' := by
  have HS : Hid (key.length = 32 ∧ nonce.length = 12 ∧ Bytes key ∧ Bytes nonce) := ⟨hk, hno, hkb, hnb⟩
  clear hk hno hkb hnb
  go_enter Tryz.func60, Tryz.ntmps60
  go_wp2_with (first | (refine wpList_box_new rfl 23 _ rfl (u8s key) rfl ?_; intro w1 b1 s1 l1) | (refine wpList_box_new rfl 45 _ rfl (u8s nonce) rfl ?_; intro w2 b2 s2 l2) | (refine wpList_load_blk rfl 23 _ rfl _ rfl (u8s key) _ (by first | exact b1.later l2 (by omega)) Tryz.underlying23 rfl (by rw [u8s_length, HS.out.1]; exact sizeKey) ?_) | (refine wpList_load_blk rfl 45 _ rfl _ rfl (u8s nonce) _ (by first | exact b2 | (rw [← s1]; exact b2)) Tryz.underlying45 rfl (by rw [u8s_length, HS.out.2.1]; exact sizeNonce) ?_) | (go_at_call 74; refine (new_any key ctr nonce HS.out.1 HS.out.2.1 HS.out.2.2.1 HS.out.2.2.2 hct _).mono ?_; rintro e w3 ⟨g, rfl, hg, st3, l3⟩))
  have L3 : Below w.heap.size w w3 := below_chain (below_chain l1 l2 (by omega)) l3 (by omega)
  have hgw : w.heap.size ≤ g := by omega
  clear b1 s1 l1 b2 s2 l2 l3 hg
  refine (sxor_bad g key nonce (64 * ctr) n c ao hn hc w3 st3).mono ?_
  rintro e w4 ⟨rfl, rfl⟩
  have HO : Hid (Below w.heap.size w w3) := L3
  clear st3 L3
  go_wp2_with fail
  go_ret2
  exact ⟨rfl, HO.out⟩
end Go.Proofs.YtcimiajkbgabiaaGreat

namespace Go.Proofs.YtcimiajkbgabiaaGreat
open Go.RowKit
set_option linter.unusedVariables false
set_option linter.unusedSimpArgs false

theorem xor8_b (x y : Int) (hx : 0 ≤ x ∧ x < 256) (hy : 0 ≤ y ∧ y < 256) : 0 ≤ bits .xor .u8 x y ∧ bits .xor .u8 x y < 256 := by
  rw [u8_xor x y hx.1 hx.2 hy.1 hy.2]
  have : x.toNat ^^^ y.toNat < 2 ^ 8 := Nat.xor_lt_two_pow (by omega) (by omega)
  omega
theorem xor_back (x k : Int) (hx : 0 ≤ x ∧ x < 256) (hk : 0 ≤ k ∧ k < 256) : bits .xor .u8 (bits .xor .u8 x k) k = x := by
  have h1 : x.toNat ^^^ k.toNat < 2 ^ 8 := Nat.xor_lt_two_pow (by omega) (by omega)
  rw [u8_xor x k hx.1 hx.2 hk.1 hk.2, u8_xor _ k (by omega) (by omega) hk.1 hk.2, Int.toNat_natCast, Nat.xor_assoc, Nat.xor_self, Nat.xor_zero]
  omega
theorem xor_both (x y k : Int) (hx : 0 ≤ x ∧ x < 256) (hy : 0 ≤ y ∧ y < 256) (hk : 0 ≤ k ∧ k < 256) : bits .xor .u8 (bits .xor .u8 x k) (bits .xor .u8 y k) = bits .xor .u8 x y := by
  have h1 : x.toNat ^^^ k.toNat < 2 ^ 8 := Nat.xor_lt_two_pow (by omega) (by omega)
  have h2 : y.toNat ^^^ k.toNat < 2 ^ 8 := Nat.xor_lt_two_pow (by omega) (by omega)
  rw [u8_xor x k hx.1 hx.2 hk.1 hk.2, u8_xor y k hy.1 hy.2 hk.1 hk.2, u8_xor _ _ (by omega) (by omega) (by omega) (by omega), u8_xor x y hx.1 hx.2 hy.1 hy.2, Int.toNat_natCast, Int.toNat_natCast]
  congr 1
  rw [Nat.xor_assoc, ← Nat.xor_assoc k.toNat, Nat.xor_comm k.toNat y.toNat, Nat.xor_assoc y.toNat, Nat.xor_self, Nat.xor_zero]
theorem over_bytes (key nonce : List Int) (p : Nat) (zs : List Int) (hb : Bytes zs) : Bytes (over key nonce p zs) := by
  intro z hz
  simp only [over, List.mem_map, List.mem_range] at hz
  obtain ⟨i, hi, rfl⟩ := hz
  exact xor8_b _ _ (hb.at i hi) (ks_byte _ _ _)
/-- Laid over twice it is the text again. -/
theorem over_over (key nonce : List Int) (p : Nat) (zs : List Int) (hb : Bytes zs) : over key nonce p (over key nonce p zs) = zs := by
  apply List.ext_getElem
  · simp [over_length]
  · intro i h1 h2
    have e1 := over_at key nonce p (over key nonce p zs) i (by rw [over_length]; exact h2)
    rw [over_at _ _ _ _ _ h2, xor_back _ _ (hb.at i h2) (ks_byte _ _ _)] at e1
    simpa [List.getD, h1, h2] using e1
theorem xor_all (key nonce : List Int) (ctr n c : Nat) (ao : Option Addr) (zs : List Int) (hk : key.length = 32) (hno : nonce.length = 12) (hkb : Bytes key) (hnb : Bytes nonce) (hct : ctr < 4294967296) (w : World) (hx : Seen w ao n zs) :
    Calls Tryz.prog 60 #[.agg (u8s key).toArray, .agg (u8s nonce).toArray, .int .u32 ctr, .slice ao n c] w fun e w' => ∃ (vo : Option Addr) (m vc : Nat) (R : List Int) (E : Int), e = .returned (.tuple #[.slice vo m vc, .int .i64 E]) ∧
      ((n + 64 * ctr ≤ 274877906944 ∧ m = n ∧ E = 0 ∧ R = over key nonce (64 * ctr) zs) ∨ (274877906944 < n + 64 * ctr ∧ m = 0 ∧ E = 50 ∧ R = [])) ∧ Seen w' vo m R ∧ (vo = none → vc = 0) ∧ (∀ b o, vo = some ⟨b, o, none⟩ → w.heap.size ≤ b) ∧ m ≤ vc ∧ Below w.heap.size w w' := by
  have ht := hx.top
  by_cases hc : n + 64 * ctr ≤ 274877906944
  · refine (xor_any key nonce ctr n c ao zs hk hno hkb hnb hct hc w hx).mono ?_
    rintro e w1 ⟨v, rfl, o1, l1⟩
    have hl : (over key nonce (64 * ctr) zs).length = n := (over_length _ _ _ _).trans hx.len
    have hb := over_bytes key nonce (64 * ctr) zs hx.bytes
    rcases own_len hl o1 with ⟨rfl, hn0⟩ | ⟨r, cap, rfl, r1, g1, c1, m1⟩
    · subst hn0
      have e : over key nonce (64 * ctr) zs = [] := List.length_eq_zero_iff.1 hl
      exact ⟨none, 0, 0, _, 0, rfl, .inl ⟨hc, rfl, rfl, rfl⟩, by rw [e]; exact Seen.empty _ _, fun _ => rfl, fun b o h => (by cases h), Nat.le_refl _, l1⟩
    · refine ⟨_, n, cap, _, 0, rfl, .inl ⟨hc, rfl, rfl, rfl⟩, ?_, fun h => (by cases h), fun b o h => (by simp at h; omega), c1, l1⟩
      have := Seen.of_row (n := n) r1 (by omega) ht hb
      rwa [List.take_of_length_le (by omega)] at this
  · refine (xor_bad key nonce ctr n c ao hk hno hkb hnb hct ht (by omega) w).mono ?_
    rintro e w1 ⟨rfl, l1⟩
    exact ⟨none, 0, 0, [], 50, rfl, .inr ⟨by omega, rfl, rfl, rfl⟩, Seen.empty _ _, fun _ => rfl, fun b o h => (by cases h), Nat.le_refl _, l1⟩
end Go.Proofs.YtcimiajkbgabiaaGreat

namespace Go.Proofs.YtcimiajkbgabiaaGreat
open Go.RowKit
set_option linter.unusedVariables false
set_option linter.unusedSimpArgs false

def u64s (l : List Int) : List Value := l.map (Value.int .u64)
theorem u64s_length (l : List Int) : (u64s l).length = l.length := List.length_map ..
theorem u64s_one (l : List Int) : ∀ v ∈ u64s l, v.oneCell' = true := by
  intro v hv
  obtain ⟨z, _, rfl⟩ := List.mem_map.1 hv
  rfl
/-- A number in two words, in three, in four. -/
def pr (v : Int) : List Int := [v % 18446744073709551616, v / 18446744073709551616]
def nm (v : Int) : List Int := [v % 18446744073709551616, v / 18446744073709551616 % 18446744073709551616, v / 340282366920938463463374607431768211456]
def q4 (v : Int) : List Int := [v % 18446744073709551616, v / 18446744073709551616 % 18446744073709551616, v / 340282366920938463463374607431768211456 % 18446744073709551616, v / 6277101735386680763835789423207666416102355444464034512896]
/-- What stands from 2^130 on, five times, beside the rest. -/
def fold5 (v : Int) : Int := v % 1361129467683753853853498429727072845824 + 5 * (v / 1361129467683753853853498429727072845824)
/-- The prime. -/
abbrev prime : Int := 1361129467683753853853498429727072845819
theorem fold5_mod (v : Int) : fold5 v % prime = v % prime := by unfold fold5 prime; omega
theorem fold5_bd (v : Int) (h0 : 0 ≤ v) (h1 : v < 57896044618658097711785492504343953926634992332820282019728792003956564819968) : 0 ≤ fold5 v ∧ fold5 v < 1701411834604692317316873037158841057280 := by unfold fold5; omega
theorem and3 (x : Int) (h0 : 0 ≤ x) (h1 : x < 18446744073709551616) : bits .and .u64 x 3 = x % 4 := by
  rw [u64_and _ _ h0 h1 (by decide) (by decide)]
  obtain ⟨a, rfl⟩ := Int.eq_ofNat_of_zero_le h0
  have : a &&& 3 = a % 4 := Nat.and_two_pow_sub_one_eq_mod a 2
  simp only [Int.toNat_natCast, Int.reduceToNat, this]; omega
theorem andNot3 (x : Int) (h0 : 0 ≤ x) (h1 : x < 18446744073709551616) : bits .andNot .u64 x 3 = x - x % 4 := by
  rw [u64_andNot _ _ h0 h1 (by decide) (by decide)]
  obtain ⟨a, rfl⟩ := Int.eq_ofNat_of_zero_le h0
  simp only [Int.toNat_natCast, Int.reduceToNat, Nat.reduceSub]
  have e : a &&& 18446744073709551612 = a - a % 4 := by
    apply Nat.eq_of_testBit_eq
    intro i
    have e1 : a - a % 4 = 2 ^ 2 * (a / 4) := by omega
    rw [e1, Nat.testBit_and, Nat.testBit_two_pow_mul]
    have e2 : (18446744073709551612 : Nat) = 2 ^ 2 * (2 ^ 62 - 1) := by decide
    rw [e2, Nat.testBit_two_pow_mul, Nat.testBit_two_pow_sub_one]
    by_cases hi : 2 ≤ i
    · have e3 : (a / 4).testBit (i - 2) = a.testBit i := by
        rw [show (4 : Nat) = 2 ^ 2 from rfl, Nat.testBit_div_two_pow]; congr 1; omega
      simp only [hi, decide_true, Bool.true_and, e3, ge_iff_le]
      by_cases h62 : i - 2 < 62
      · simp [h62]
      · have : a.testBit i = false := Nat.testBit_lt_two_pow (Nat.lt_of_lt_of_le (by omega : a < 2 ^ 64) (Nat.pow_le_pow_right (by decide) (by omega)))
        simp [this]
    · simp [hi]
  rw [e]; omega
theorem or_high (x y : Int) (hx : 0 ≤ x ∧ x < 4611686018427387904) (hy : 0 ≤ y ∧ y < 4) : bits .or .u64 x (y * 4611686018427387904) = x + y * 4611686018427387904 := by
  rw [u64_or _ _ hx.1 (by omega) (by omega) (by omega)]
  obtain ⟨a, rfl⟩ := Int.eq_ofNat_of_zero_le hx.1
  obtain ⟨b, rfl⟩ := Int.eq_ofNat_of_zero_le hy.1
  have h := Nat.shiftLeft_add_eq_or_of_lt (i := 62) (b := a) (by omega) b
  have e1 : ((b : Int) * 4611686018427387904).toNat = b <<< 62 := by rw [Nat.shiftLeft_eq]; omega
  rw [e1, Int.toNat_natCast, Nat.or_comm, ← h, Nat.shiftLeft_eq]; omega
/-- The products of a number of three words and one of two. -/
theorem times_code (x0 x1 x2 r0 r1 : Int) (h0 : 0 ≤ x0 ∧ x0 < 18446744073709551616) (h1 : 0 ≤ x1 ∧ x1 < 18446744073709551616) (h2 : 0 ≤ x2 ∧ x2 < 8) (g0 : 0 ≤ r0 ∧ r0 < 1152921504606846976) (g1 : 0 ≤ r1 ∧ r1 < 1152921504606846976) :
    ∃ a b c d e f : Int, x0 * r0 = a ∧ x0 * r1 = b ∧ x1 * r0 = c ∧ x1 * r1 = d ∧ x2 * r0 = e ∧ x2 * r1 = f ∧
      (x0 + 18446744073709551616 * x1 + 340282366920938463463374607431768211456 * x2) * (r0 + 18446744073709551616 * r1) = a + 18446744073709551616 * (b + c) + 340282366920938463463374607431768211456 * (d + e) + 6277101735386680763835789423207666416102355444464034512896 * f ∧
      0 ≤ a ∧ a ≤ 21267647932558653966460912964485513216 ∧ 0 ≤ b ∧ b ≤ 21267647932558653966460912964485513216 ∧ 0 ≤ c ∧ c ≤ 21267647932558653966460912964485513216 ∧ 0 ≤ d ∧ d ≤ 21267647932558653966460912964485513216 ∧ 0 ≤ e ∧ e ≤ 8070450532247928832 ∧ 0 ≤ f ∧ f ≤ 8070450532247928832 := by
  have big : ∀ x r : Int, 0 ≤ x ∧ x < 18446744073709551616 → 0 ≤ r ∧ r < 1152921504606846976 → 0 ≤ x * r ∧ x * r ≤ 21267647932558653966460912964485513216 := by
    intro x r hx hr
    refine ⟨Int.mul_nonneg hx.1 hr.1, ?_⟩
    have := Int.mul_le_mul (Int.le_of_lt hx.2) (Int.le_of_lt hr.2) hr.1 (by decide)
    exact Int.le_trans this (by decide)
  have small : ∀ x r : Int, 0 ≤ x ∧ x < 8 → 0 ≤ r ∧ r < 1152921504606846976 → 0 ≤ x * r ∧ x * r ≤ 8070450532247928832 := by
    intro x r hx hr
    refine ⟨Int.mul_nonneg hx.1 hr.1, ?_⟩
    have := Int.mul_le_mul (show x ≤ 7 by omega) (Int.le_of_lt hr.2) hr.1 (by decide)
    exact Int.le_trans this (by decide)
  refine ⟨_, _, _, _, _, _, rfl, rfl, rfl, rfl, rfl, rfl, ?_, (big _ _ h0 g0).1, (big _ _ h0 g0).2, (big _ _ h0 g1).1, (big _ _ h0 g1).2, (big _ _ h1 g0).1, (big _ _ h1 g0).2, (big _ _ h1 g1).1, (big _ _ h1 g1).2, (small _ _ h2 g0).1, (small _ _ h2 g0).2, (small _ _ h2 g1).1, (small _ _ h2 g1).2⟩
  simp only [Int.add_mul, Int.mul_add]
  have e1 : x0 * (18446744073709551616 * r1) = 18446744073709551616 * (x0 * r1) := Int.mul_left_comm ..
  have e2 : 18446744073709551616 * x1 * r0 = 18446744073709551616 * (x1 * r0) := Int.mul_assoc ..
  have e3 : 18446744073709551616 * x1 * (18446744073709551616 * r1) = 340282366920938463463374607431768211456 * (x1 * r1) := by rw [Int.mul_assoc, Int.mul_left_comm x1, ← Int.mul_assoc]; rfl
  have e4 : 340282366920938463463374607431768211456 * x2 * r0 = 340282366920938463463374607431768211456 * (x2 * r0) := Int.mul_assoc ..
  have e5 : 340282366920938463463374607431768211456 * x2 * (18446744073709551616 * r1) = 6277101735386680763835789423207666416102355444464034512896 * (x2 * r1) := by rw [Int.mul_assoc, Int.mul_left_comm x2, ← Int.mul_assoc]; rfl
  rw [e1, e2, e3, e4, e5]; omega
end Go.Proofs.YtcimiajkbgabiaaGreat

namespace Go.Proofs.YtcimiajkbgabiaaGreat
open Go.RowKit
set_option linter.unusedVariables false
set_option linter.unusedSimpArgs false

/-- What is expected of an operation: a value; a new block that holds values; or whatever stays true as memory grows. -/
inductive Exp where
  | val (v : Value)
  | blk (t : TypeId) (vs : List Value)
  | any (p : Value → World → Prop) (hp : ∀ v w w', Below w.heap.size w w' → p v w → p v w')
def Exp.ok (base : Nat) : Exp → Value → World → Prop
  | .val u, v, _ => v = u
  | .blk t vs, v, w => ∃ g, v = .pointer (some ⟨g, 0, none⟩) ∧ base ≤ g ∧ Blk w g t vs
  | .any p _, v, w => p v w
theorem Exp.ok_later {base : Nat} : ∀ (E : Exp) {v : Value} {w w' : World}, Below w.heap.size w w' → E.ok base v w → E.ok base v w'
  | .val _, _, _, _, _, h => h
  | .blk _ _, _, _, _, hb, ⟨g, h1, h2, h3⟩ => ⟨g, h1, h2, h3.later hb h3.lt⟩
  | .any _ hp, _, _, _, hb, h => hp _ _ _ hb h
/-- An operation with these operands does what is expected of it. -/
def Does (base : Nat) (E : Exp) (ρ : Operand → Value) (o : Oper) (w : World) : Prop :=
  match (execOp ρ o).run Tryz.prog w with
  | .ok (.value v) w' => E.ok base v w' ∧ Below w.heap.size w w'
  | .ok (.enter f args) w' => Calls Tryz.prog f args w' fun e w'' => ∃ v, e = .returned v ∧ E.ok base v w'' ∧ Below w.heap.size w w''
  | _ => False
theorem Does.wp {base : Nat} {E : Exp} {a : Act} {o : Oper} {w : World} (h : Does base E a.eval o w) {K : Act → World → Prop} {Q : Exit → Act → World → Prop} (hK : ∀ v w', E.ok base v w' → Below w.heap.size w w' → K (a.put o.dst v) w') : o.wp Tryz.prog a w K Q := by
  unfold Does at h
  unfold Oper.wp
  generalize (execOp a.eval o).run Tryz.prog w = r at h ⊢
  match r, h with
  | .ok (.value v) w', h => exact hK _ _ h.1 h.2
  | .ok (.enter f args) w', h =>
    rw [Oper.upon_enter]
    refine h.mono ?_
    rintro e w'' ⟨v, rfl, h1, h2⟩
    exact hK _ _ h1 h2
theorem Does.value {base : Nat} {E : Exp} {ρ : Operand → Value} {o : Oper} {w : World} (v : Value) (h : (execOp ρ o).run Tryz.prog w = .ok (.value v) w) (hE : E.ok base v w) : Does base E ρ o w := by
  unfold Does; rw [h]; exact ⟨hE, Below.refl _ _⟩
theorem Does.call {base : Nat} {E : Exp} {ρ : Operand → Value} {o : Oper} {w : World} (f : FuncId) (args : Array Value) (h : (execOp ρ o).run Tryz.prog w = .ok (.enter f args) w) (hC : Calls Tryz.prog f args w fun e w'' => ∃ v, e = .returned v ∧ E.ok base v w'' ∧ Below w.heap.size w w'') : Does base E ρ o w := by
  unfold Does; rw [h]; exact hC
theorem Does.alloc {base : Nat} {ρ : Operand → Value} {o : Oper} {w : World} (t : TypeId) (ho : o.op = .alloc t) (n : Nat) (vs : List Value) (hz : (Tryz.prog.info? t).map (fun i => (i.zero, i.size)) = some (some (.agg vs.toArray), n)) (hb : base ≤ w.heap.size) : Does base (.blk t vs) ρ o w := by
  unfold Does execOp
  simp only [ho, Sem.run_bind, Instr.alloc, (zero_of_info hz).1, newVar, newRow, run_newObj_alloc, Sem.run_pure, Result.andThen_ok]
  exact ⟨⟨_, rfl, hb, heap_alloc_new w _⟩, (Below.refl _ _).alloc (Nat.le_refl _) _⟩
theorem Does.box {base : Nat} {ρ : Operand → Value} {o : Oper} {w : World} (t : TypeId) (x : Operand) (ho : o.op = .box t x) (vs : List Value) (hx : ρ x = .agg vs.toArray) (hb : base ≤ w.heap.size) : Does base (.blk t vs) ρ o w := by
  unfold Does execOp
  simp only [ho, hx, Sem.run_bind, Instr.box, Value.cells, newVar, newRow, run_newObj_alloc, Sem.run_pure, Result.andThen_ok]
  exact ⟨⟨_, rfl, hb, heap_alloc_new w _⟩, (Below.refl _ _).alloc (Nat.le_refl _) _⟩
/-- Many cells read. -/
theorem Does.load {base : Nat} {ρ : Operand → Value} {o : Oper} {w : World} (t : TypeId) (x : Operand) (ho : o.op = .load t x) (b off : Nat) (hx : ρ x = .pointer (some ⟨b, off, none⟩)) (cs : List Value) (d : TypeDesc) (hc : w.rangeAt b off cs) (hu : Tryz.prog.underlying t = some d) (hd : d.isRow = true) (hi : (Tryz.prog.info? t).map (·.size) = some cs.length) :
    Does base (.val (.agg cs.toArray)) ρ o w := by
  refine Does.value _ ?_ rfl
  unfold execOp
  simp only [ho, hx, Instr.loadAt, Instr.sureAddr, Sem.run_bind, Sem.run_pure, Result.andThen_ok, run_loadVar_mid w b off t cs d hc hu hd hi]
/-- One cell read. -/
theorem Does.cell {base : Nat} {ρ : Operand → Value} {o : Oper} {w : World} (t : TypeId) (x : Operand) (ho : o.op = .load t x) (p : Addr) (hx : ρ x = .pointer (some p)) (v : Value) (hv : w.cell? p = some v) (hu : ∀ w', w'.cell? p = some v → (Instr.loadAt t (.pointer (some p))).run Tryz.prog w' = .ok v w') : Does base (.val v) ρ o w := by
  refine Does.value _ ?_ rfl
  unfold execOp
  simp only [ho, hx, Sem.run_bind, hu w hv, Sem.run_pure, Result.andThen_ok]

theorem Does.build {base : Nat} {ρ : Operand → Value} {o : Oper} {w : World} (t : TypeId) (parts : Array (Nat × Operand)) (ho : o.op = .build t parts) (ps : Array (Nat × Value)) (hp : (parts.map fun (i, x) => (i, ρ x)) = ps) (v : Value) (hrun : (Instr.build t ps).run Tryz.prog w = .ok v w) : Does base (.val v) ρ o w := by
  refine Does.value _ ?_ rfl
  unfold execOp
  simp only [ho, hp, Sem.run_bind, hrun, Sem.run_pure, Result.andThen_ok]
/-- The slot of operation k, what is expected of it, for those operations for which operation j waits. -/
def Deps (base : Nat) (ops : Array Oper) (E : List Exp) (j : Nat) (a : Act) (w : World) : Prop :=
  ∀ k t, ((ops[k]?).bind (·.dst)) = some t → ((ops[j]?).map (fun o => o.after.any fun e => Region.binds .any e && e.on == k)).getD false = true → k + 1 < ops.size → (E.getD k (.val undef)).ok base (a.tmps.getD t undef) w
/-- Each operation but the last. -/
def Steps' (base : Nat) (ops : Array Oper) (E : List Exp) (a0 : Act) (w0 : World) : Nat → List Oper → Prop
  | _, [] => True
  | _, [_] => True
  | j, o :: rest => (∀ a w, Below w0.heap.size w0 w → (∀ t, ((List.range (ops.size - 1)).all fun k => ((ops[k]?).bind (·.dst)) != some t) = true → a.tmps.getD t undef = a0.tmps.getD t undef) → Deps base ops E j a w → Does base (E.getD j (.val undef)) a.eval o w) ∧ Steps' base ops E a0 w0 (j + 1) rest
theorem Steps'.one (base : Nat) (ops : Array Oper) (E : List Exp) (a0 : Act) (w0 : World) (j : Nat) (o : Oper) : Steps' base ops E a0 w0 j [o] := trivial
theorem Steps'.cons {base : Nat} {ops : Array Oper} {E : List Exp} {a0 : Act} {w0 : World} {j : Nat} {o o' : Oper} {rest : List Oper}
    (h : ∀ a w, Below w0.heap.size w0 w → (∀ t, ((List.range (ops.size - 1)).all fun k => ((ops[k]?).bind (·.dst)) != some t) = true → a.tmps.getD t undef = a0.tmps.getD t undef) → Deps base ops E j a w → Does base (E.getD j (.val undef)) a.eval o w)
    (hr : Steps' base ops E a0 w0 (j + 1) (o' :: rest)) : Steps' base ops E a0 w0 j (o :: o' :: rest) := ⟨h, hr⟩
theorem Steps'.at {base : Nat} {ops : Array Oper} {E : List Exp} {a0 : Act} {w0 : World} : ∀ {l : List Oper} {j : Nat}, Steps' base ops E a0 w0 j l → ∀ i o, l[i]? = some o → i + 1 < l.length →
    ∀ a w, Below w0.heap.size w0 w → (∀ t, ((List.range (ops.size - 1)).all fun k => ((ops[k]?).bind (·.dst)) != some t) = true → a.tmps.getD t undef = a0.tmps.getD t undef) → Deps base ops E (j + i) a w → Does base (E.getD (j + i) (.val undef)) a.eval o w
  | [], _, _, i, o, hi, _ => by cases hi
  | [_], _, _, i, o, _, hl => by simp at hl
  | x :: y :: rest, j, h, 0, o, hi, _ => by
    simp at hi; subst hi; exact h.1
  | x :: y :: rest, j, h, i + 1, o, hi, hl => by
    have := Steps'.at h.2 i o (by simpa using hi) (by simpa using hl)
    rwa [show j + 1 + i = j + (i + 1) by omega] at this
/-- Behind all but the last operation. -/
def Ends (base : Nat) (E : List Exp) (Q : Exit → Act → World → Prop) (w : World) : Nat → List Oper → Act → Prop
  | _, [], _ => False
  | _, [o], a => o.wp Tryz.prog a w (fun a' w' => Q .normal a' w') (NoPanic Q)
  | j, o :: rest, a => ∀ v, (E.getD j (.val undef)).ok base v w → Ends base E Q w (j + 1) rest (a.put o.dst v)
theorem Ends.cons {base : Nat} {E : List Exp} {Q : Exit → Act → World → Prop} {w : World} {j : Nat} {o o' : Oper} {rest : List Oper} {a : Act}
    (h : ∀ v, (E.getD j (.val undef)).ok base v w → Ends base E Q w (j + 1) (o' :: rest) (a.put o.dst v)) : Ends base E Q w j (o :: o' :: rest) a := h
theorem Ends.one {base : Nat} {E : List Exp} {Q : Exit → Act → World → Prop} {w : World} {j : Nat} {o : Oper} {a : Act} (h : o.wp Tryz.prog a w (fun a' w' => Q .normal a' w') (NoPanic Q)) : Ends base E Q w j [o] a := h
theorem Ends.val {base : Nat} {E : List Exp} {Q : Exit → Act → World → Prop} {w : World} {j : Nat} {o o' : Oper} {rest : List Oper} {a : Act} (V : Value) (hE : E.getD j (.val undef) = .val V)
    (h : Ends base E Q w (j + 1) (o' :: rest) (a.put o.dst V)) : Ends base E Q w j (o :: o' :: rest) a := Ends.cons fun v hv => by
  rw [hE] at hv
  have : v = V := hv
  rw [this]; exact h
theorem Ends.blk {base : Nat} {E : List Exp} {Q : Exit → Act → World → Prop} {w : World} {j : Nat} {o o' : Oper} {rest : List Oper} {a : Act} (t : TypeId) (vs : List Value) (hE : E.getD j (.val undef) = .blk t vs)
    (h : ∀ g, base ≤ g → Blk w g t vs → Ends base E Q w (j + 1) (o' :: rest) (a.put o.dst (.pointer (some ⟨g, 0, none⟩)))) : Ends base E Q w j (o :: o' :: rest) a := Ends.cons fun v hv => by
  rw [hE] at hv
  obtain ⟨g, rfl, h1, h2⟩ := hv
  exact h g h1 h2
theorem Ends.any {base : Nat} {E : List Exp} {Q : Exit → Act → World → Prop} {w : World} {j : Nat} {o o' : Oper} {rest : List Oper} {a : Act} (p : Value → World → Prop) (hp : ∀ v w w', Below w.heap.size w w' → p v w → p v w') (hE : E.getD j (.val undef) = .any p hp)
    (h : ∀ v, p v w → Ends base E Q w (j + 1) (o' :: rest) (a.put o.dst v)) : Ends base E Q w j (o :: o' :: rest) a := Ends.cons fun v hv => by
  rw [hE] at hv
  exact h v hv
/-- The frame behind operations j .., with what the slots of b hold. -/
def fills (b : Act) : List Oper → Act → Act
  | [], a => a
  | [_], a => a
  | o :: rest, a => fills b rest (a.put o.dst ((o.dst.map (b.tmps.getD · undef)).getD undef))
theorem Ends.at {base : Nat} {E : List Exp} {Q : Exit → Act → World → Prop} {w : World} (b : Act) : ∀ {l : List Oper} {j : Nat} {a : Act}, l ≠ [] → Ends base E Q w j l a →
    (∀ i o, l[i]? = some o → i + 1 < l.length → ∃ t, o.dst = some t ∧ (E.getD (j + i) (.val undef)).ok base (b.tmps.getD t undef) w) →
    ∃ o, l.getLast? = some o ∧ o.wp Tryz.prog (fills b l a) w (fun a' w' => Q .normal a' w') (NoPanic Q)
  | [], _, _, h, _, _ => absurd rfl h
  | [o], _, _, _, h, _ => ⟨o, rfl, h⟩
  | x :: y :: rest, j, a, _, h, hv => by
    obtain ⟨t, h1, h2⟩ := hv 0 x rfl (by simp)
    have := Ends.at b (l := y :: rest) (j := j + 1) (by simp) (h _ h2) (fun i o hi hl => by
      have := hv (i + 1) o (by simpa using hi) (by simpa using hl)
      rwa [show j + (i + 1) = j + 1 + i by omega] at this)
    obtain ⟨o, ho, hw⟩ := this
    refine ⟨o, by simpa using ho, ?_⟩
    simpa [fills, h1] using hw
theorem fills_size (b : Act) : ∀ (l : List Oper) (a : Act), (fills b l a).tmps.size = a.tmps.size ∧ (fills b l a).defers = a.defers
  | [], a => ⟨rfl, rfl⟩
  | [_], a => ⟨rfl, rfl⟩
  | o :: y :: rest, a => by
    rw [fills]
    · have := fills_size b (y :: rest) (a.put o.dst ((o.dst.map (b.tmps.getD · undef)).getD undef))
      rw [this.1, this.2]
      cases o.dst <;> simp [Act.put]
    · simp
theorem fills_slot (b : Act) (t : Nat) : ∀ (l : List Oper) (a : Act), b.tmps.size = a.tmps.size → (b.tmps.getD t undef = a.tmps.getD t undef ∨ ∃ i o, l[i]? = some o ∧ i + 1 < l.length ∧ o.dst = some t) → (fills b l a).tmps.getD t undef = b.tmps.getD t undef
  | [], a, _, h => by
    rcases h with h | ⟨i, o, h, _⟩
    · exact h.symm
    · cases h
  | [_], a, _, h => by
    rcases h with h | ⟨i, o, h, h2, _⟩
    · exact h.symm
    · simp at h2
  | x :: y :: rest, a, hs, h => by
    rw [fills]
    · refine fills_slot b t (y :: rest) _ ?_ ?_
      · cases x.dst <;> simp [Act.put, hs]
      · by_cases hx : x.dst = some t
        · left
          rw [hx]
          simp only [Act.put, Option.map_some, Option.getD_some]
          simp only [Array.getD_eq_getD_getElem?, Array.getElem?_setIfInBounds]
          by_cases hlt : t < a.tmps.size
          · simp [hlt]
          · simp [hlt, hs]
        · rcases h with h | ⟨i, o, h1, h2, h3⟩
          · left
            rw [h]
            cases hd : x.dst with
            | none => simp [Act.put]
            | some d =>
              have : d ≠ t := fun e => hx (by rw [hd, e])
              simp only [Act.put, Array.getD_eq_getD_getElem?, Array.getElem?_setIfInBounds]
              simp [this]
          · cases i with
            | zero => simp at h1; subst h1; exact absurd h3 hx
            | succ i => right; exact ⟨i, o, by simpa using h1, by simpa using h2, h3⟩
    · simp
theorem act_ext {a b : Act} (hs : a.tmps.size = b.tmps.size) (ht : ∀ t, a.tmps.getD t undef = b.tmps.getD t undef) (hd : a.defers = b.defers) : a = b := by
  cases a; cases b
  simp only [Act.mk.injEq] at *
  refine ⟨Array.ext hs fun i h1 h2 => ?_, hd⟩
  have := ht i
  simpa [Array.getD, h1, h2] using this
/-- All operations but the last have slots of their own and no guard, each waits for earlier ones alone, and the last one waits for all. -/
def plainOps (ops : Array Oper) : Bool :=
  (List.range (ops.size - 1)).all (fun j => ((ops[j]?).map (fun o => o.guard.isNone && o.dst.isSome)).getD false) &&
  (List.range (ops.size - 1)).all (fun j => (List.range (ops.size - 1)).all fun k => j == k || ((ops[j]?).bind (·.dst)) != ((ops[k]?).bind (·.dst))) &&
  ((ops[ops.size - 1]?).map (fun o => o.guard.isNone && (List.range (ops.size - 1)).all (fun k => o.after.any fun e => Region.binds .any e && e.on == k))).getD false &&
  (List.range ops.size).all (fun j => ((ops[j]?).map (fun o => o.after.all fun e => !Region.binds .any e || decide (e.on < j))).getD false)
theorem range_all {n : Nat} {p : Nat → Bool} (h : (List.range n).all p = true) (j : Nat) (hj : j < n) : p j = true := List.all_eq_true.1 h j (List.mem_range.2 hj)
theorem wanted_plain {o : Oper} (h : o.guard.isNone = true) (f : Nat → Option Bool) : Region.wanted o f = true := by
  have : o.guard = none := Option.isNone_iff_eq_none.1 h
  simp [Region.wanted, this]
theorem least_false (f : Nat → Bool) : ∀ (n : Nat), f n = false → ∃ i, i ≤ n ∧ f i = false ∧ ∀ k, k < i → f k = true
  | 0, h => ⟨0, Nat.le_refl _, h, fun k hk => by omega⟩
  | n + 1, h => by
    by_cases h' : ∃ k, k ≤ n ∧ f k = false
    · obtain ⟨k, hk, hf⟩ := h'
      obtain ⟨i, h1, h2, h3⟩ := least_false f k hf
      exact ⟨i, by omega, h2, h3⟩
    · refine ⟨n + 1, Nat.le_refl _, h, fun k hk => ?_⟩
      cases hf : f k with
      | true => rfl
      | false => exact absurd ⟨k, by omega, hf⟩ h'
theorem region_inv {id : Nat} {ops : Array Oper} {Q : Exit → Act → World → Prop} {a0 : Act} {w0 : World} (E : List Exp) (hm : Tryz.prog.follows .mixedOrders = true) (hp : plainOps ops = true)
    (hin : (List.range (ops.size - 1)).all (fun j => ((ops[j]?).map (fun o => (o.dst.map (fun t => decide (t < a0.tmps.size))).getD false)).getD false) = true)
    (hs : Steps' w0.heap.size ops E a0 w0 0 ops.toList) (he : ∀ w, Below w0.heap.size w0 w → Ends w0.heap.size E Q w 0 ops.toList a0) : (Code.region id ops true).wp Tryz.prog Q a0 w0 := by
  simp only [plainOps, Bool.and_eq_true] at hp
  obtain ⟨⟨⟨hp1, hp2⟩, hp3⟩, hp4⟩ := hp
  have hne : ops.size - 1 < ops.size := by
    rcases Nat.eq_zero_or_pos ops.size with h | h
    · rw [Array.getElem?_eq_none (by omega)] at hp3; simp at hp3
    · omega
  have own : ∀ j o, ops[j]? = some o → j + 1 < ops.size → o.guard.isNone = true ∧ ∃ t, o.dst = some t ∧ t < a0.tmps.size := by
    intro j o ho hj
    have h1 := range_all hp1 j (by omega)
    have h2 := range_all hin j (by omega)
    simp only [ho, Option.map_some, Option.getD_some, Bool.and_eq_true] at h1 h2
    obtain ⟨t, ht⟩ := Option.isSome_iff_exists.1 h1.2
    rw [ht] at h2
    exact ⟨h1.1, t, ht, by simpa using h2⟩
  have apart : ∀ j k o o' t, ops[j]? = some o → ops[k]? = some o' → j + 1 < ops.size → k + 1 < ops.size → o.dst = some t → o'.dst = some t → j = k := by
    intro j k o o' t ho ho' hj hk ht ht'
    have h1 := range_all (range_all hp2 j (by omega)) k (by omega)
    simp only [ho, ho', Option.bind_some, ht, ht', Bool.or_eq_true, beq_iff_eq] at h1
    rcases h1 with h1 | h1
    · exact h1
    · simp at h1
  refine wp_region_noPanic (wp_region_any hm ?_)
  have main : ∀ (n : Nat) (l : Array Bool) (a : Act) (w : World), l.size = ops.size → Below w0.heap.size w0 w → a.tmps.size = a0.tmps.size → a.defers = a0.defers →
      l.getD (ops.size - 1) true = false →
      (∀ t, (∀ j o, ops[j]? = some o → j + 1 < ops.size → o.dst = some t → l.getD j true = false) → a.tmps.getD t undef = a0.tmps.getD t undef) →
      (∀ j o t, ops[j]? = some o → j + 1 < ops.size → o.dst = some t → l.getD j true = true → (E.getD j (.val undef)).ok w0.heap.size (a.tmps.getD t undef) w) →
      ((List.range ops.size).filter fun i => !l.getD i true).length ≤ n →
      wpAny Tryz.prog .any ops (NoPanic Q) n l a w := by
    intro n
    induction n with
    | zero =>
      intro l a w hl hb hsz hdf hlast hold hnew hc
      have : ops.size - 1 ∈ (List.range ops.size).filter fun i => !l.getD i true := List.mem_filter.2 ⟨List.mem_range.2 hne, by rw [hlast]; rfl⟩
      have := List.length_pos_of_mem this
      omega
    | succ n ih =>
      intro l a w hl hb hsz hdf hlast hold hnew hc
      have hcount : ∀ i, i < ops.size → l.getD i true = false → ((List.range ops.size).filter fun k => !(l.setIfInBounds i true).getD k true).length ≤ n := by
        intro i hi hli
        have hlt : ((List.range ops.size).filter fun k => !(l.setIfInBounds i true).getD k true).length < ((List.range ops.size).filter fun k => !l.getD k true).length := by
          have e : ((List.range ops.size).filter fun k => !(l.setIfInBounds i true).getD k true) = ((List.range ops.size).filter fun k => !l.getD k true).filter (fun k => k != i) := by
            rw [List.filter_filter]
            refine List.filter_congr fun k hk => ?_
            by_cases hki : k = i
            · subst hki; simp [Array.getD, hl, hi]
            · rw [getD_set_ne true (Ne.symm hki)]; simp [hki]
          rw [e]
          refine List.length_filter_lt_length_iff_exists.2 ⟨i, List.mem_filter.2 ⟨List.mem_range.2 hi, by rw [hli]; rfl⟩, by simp⟩
        omega
      refine ⟨fun h0 => ?_, fun i hi => ?_⟩
      · exfalso
        obtain ⟨i, h1, h2, h3⟩ := least_false (fun k => l.getD k true) (ops.size - 1) hlast
        have hi : i < ops.size := by omega
        have : i ∈ Region.ready .any ops l := by
          refine mem_ready.2 ⟨h2, ops[i], by simp [hi], fun e he hbd => ?_⟩
          have h4 := range_all hp4 i hi
          simp only [Array.getElem?_eq_getElem hi, Option.map_some, Option.getD_some] at h4
          have h5 := Array.all_eq_true_iff_forall_mem.1 h4 e he
          simp only [hbd, Bool.not_true, Bool.false_or, decide_eq_true_eq] at h5
          have h6 := h3 e.on h5
          simp only [Array.getD] at h6 ⊢
          rw [dif_pos (by omega)] at h6 ⊢
          exact h6
        rw [h0] at this
        cases this
      · obtain ⟨hun, o, ho, hall⟩ := mem_ready.1 hi
        have hilt : i < ops.size := (Array.getElem?_eq_some_iff.1 ho).1
        by_cases hil : i + 1 < ops.size
        · obtain ⟨hgd, t, hdt, htl⟩ := own i o ho hil
          have hdo := Steps'.at hs i o (by simpa using ho) (by simpa using hil) a w hb (fun t' ht' => hold t' fun j oj hoj hj hdj => by
              have := range_all ht' j (by omega)
              simp only [hoj, Option.bind_some, hdj] at this
              simp at this) (fun k t' hk hdep hkl => by
              obtain ⟨ok, hok⟩ : ∃ ok, ops[k]? = some ok := ⟨ops[k]'(by omega), by simp⟩
              rw [hok] at hk
              refine hnew k ok t' hok hkl hk ?_
              rw [Nat.zero_add, ho] at hdep
              simp only [Option.map_some, Option.getD_some, Array.any_eq_true, Bool.and_eq_true, beq_iff_eq] at hdep
              obtain ⟨x, hx, hbd, hon⟩ := hdep
              have := hall _ (Array.getElem_mem hx) hbd
              rw [hon] at this
              simp only [Array.getD] at this ⊢
              rw [dif_pos (by omega)] at this ⊢
              exact this)
          rw [Nat.zero_add] at hdo
          unfold wpOp
          rw [ho]
          simp only [wanted_plain hgd, if_true]
          refine .inl (hdo.wp fun v w' hv hbw => ?_)
          rw [hdt]
          refine ih _ _ _ (by simpa using hl) (below_chain hb hbw hb.size) (by simpa [Act.put] using hsz) (by simpa [Act.put] using hdf) ?_ ?_ ?_ (hcount i hilt hun)
          · rw [getD_set_ne true (by omega)]; exact hlast
          · intro t' ht'
            have htt : t ≠ t' := fun e => by
              have := ht' i o ho hil (by rw [hdt, e])
              simp [Array.getD, hl, hilt] at this
            simp only [Act.put, Array.getD_eq_getD_getElem?, Array.getElem?_setIfInBounds, if_neg htt]
            rw [← Array.getD_eq_getD_getElem?, ← Array.getD_eq_getD_getElem?]
            refine hold t' fun j oj hoj hj hdj => ?_
            have h1 := ht' j oj hoj hj hdj
            by_cases hji : i = j
            · subst hji; exact hun
            · rwa [getD_set_ne true hji] at h1
          · intro j oj t' hoj hj hdj hlj
            by_cases hji : i = j
            · subst hji
              rw [ho] at hoj
              cases hoj
              rw [hdt] at hdj
              cases hdj
              have : (a.put (some t) v).tmps.getD t undef = v := by simp [Act.put, Array.getD, hsz, htl]
              rw [this]; exact hv
            · rw [getD_set_ne true hji] at hlj
              have htt : t ≠ t' := fun e => hji (apart i j o oj t ho hoj hil hj hdt (by rw [hdj, e]))
              have h1 := hnew j oj t' hoj hj hdj hlj
              have : (a.put (some t) v).tmps.getD t' undef = a.tmps.getD t' undef := by
                simp only [Act.put, Array.getD_eq_getD_getElem?, Array.getElem?_setIfInBounds, if_neg htt]
              rw [this]
              exact Exp.ok_later _ hbw h1
        · obtain rfl : i = ops.size - 1 := by omega
          simp only [ho, Option.map_some, Option.getD_some, Bool.and_eq_true] at hp3
          have hlisted : ∀ k, k + 1 < ops.size → l.getD k true = true := by
            intro k hk
            have h1 := range_all hp3.2 k (by omega)
            simp only [Array.any_eq_true, Bool.and_eq_true, beq_iff_eq] at h1
            obtain ⟨x, hx, hbd, hon⟩ := h1
            have := hall _ (Array.getElem_mem hx) hbd
            rw [hon] at this
            simp only [Array.getD] at this ⊢
            rw [dif_pos (by omega)] at this ⊢
            exact this
          obtain ⟨o', ho', hw⟩ := Ends.at a (l := ops.toList) (j := 0) (a := a0) (fun h => by rw [Array.toList_eq_nil_iff] at h; subst h; simp at hne) (he w hb) (fun k ok hk hkl => by
            have hk' : ops[k]? = some ok := by simpa using hk
            have hkl' : k + 1 < ops.size := by simpa using hkl
            obtain ⟨_, t, hdt, htl⟩ := own k ok hk' hkl'
            refine ⟨t, hdt, ?_⟩
            rw [Nat.zero_add]
            exact hnew k ok t hk' hkl' hdt (hlisted k hkl'))
          have hoo : o' = o := by
            rw [List.getLast?_eq_getElem?] at ho'
            have h2 : ops[ops.size - 1]? = some o' := by simpa using ho'
            rw [ho] at h2
            exact (Option.some.inj h2).symm
          subst hoo
          have hfill : fills a ops.toList a0 = a := by
            have hz := fills_size a ops.toList a0
            refine act_ext (by rw [hz.1, hsz]) (fun t => ?_) (by rw [hz.2, hdf])
            refine fills_slot a t ops.toList a0 hsz ?_
            by_cases hx : ∃ k ok, ops[k]? = some ok ∧ k + 1 < ops.size ∧ ok.dst = some t
            · obtain ⟨k, ok, h1, h2, h3⟩ := hx
              exact .inr ⟨k, ok, by simpa using h1, by simpa using h2, h3⟩
            · exact .inl (hold t fun j oj hoj hj hdj => absurd ⟨j, oj, hoj, hj, hdj⟩ hx)
          rw [hfill] at hw
          unfold wpOp
          rw [ho]
          simp only [wanted_plain hp3.1, if_true]
          refine .inl (Oper.wp_mono (fun a' w' hq => wpAny_done ?_ (NoPanic.normal hq) _) hw)
          refine List.filter_eq_nil_iff.2 fun k hk => ?_
          have hk' : k < ops.size := List.mem_range.1 hk
          have : (l.setIfInBounds (ops.size - 1) true).getD k true = true := by
            by_cases hkl : k + 1 < ops.size
            · rw [getD_set_ne true (by omega)]; exact hlisted k hkl
            · obtain rfl : k = ops.size - 1 := by omega
              simp [Array.getD, hl, hne]
          rw [this]; simp
  refine main _ _ _ _ (by simp) ⟨rfl, rfl, rfl, Nat.le_refl _, fun _ _ => rfl⟩ rfl rfl (by simp [Array.getD, hne]) (fun t _ => rfl) (fun j o t ho hj hd hl => ?_) ?_
  · exfalso
    have : j < ops.size := by omega
    simp [Array.getD, this] at hl
  · have := List.length_filter_le (fun i => !(Array.replicate ops.size false).getD i true) (List.range ops.size)
    simpa using this
/-- The last operation of a region: a whole variable is written; a slot is. -/
theorem last_store {o : Oper} {a : Act} {w : World} {K : Act → World → Prop} {Q : Exit → Act → World → Prop} (ty : TypeId) (x y : Operand) (ho : o.op = .store ty x y) (hdst : o.dst = none) (b : Nat) (hx : a.eval x = .pointer (some ⟨b, 0, none⟩)) (t : TypeId) (vs cs : List Value) (hy : a.eval y = .agg cs.toArray) (hb : Blk w b t vs) (hl : cs.length = vs.length)
    (hi : (Tryz.prog.info? ty).map (·.size) = some cs.length) (h1 : ∀ v ∈ cs, v.oneCell' = true) (h : ∀ w', Blk w' b t cs → w'.heap.size = w.heap.size → Kept (fun k => k = b) w w' → K a w') : o.wp Tryz.prog a w K Q := by
  refine wp_store_mid ty x y ho b 0 cs.toArray hx hy (by have := hb.there (o := 0) (n := cs.toArray.size) (by simp; omega); simpa using this) (by simpa using hi) (all_oneCell_toArray h1) ?_
  rw [hdst]
  refine h _ ?_ (setCells_size ..) ((Kept.refl _ _).setCells (S := fun k => k = b) rfl _ _)
  have := Blk.setCells (xs := []) (zs := []) cs vs hl (by simpa using hb)
  simpa using this
theorem last_assign {o : Oper} {a : Act} {w : World} {K : Act → World → Prop} {Q : Exit → Act → World → Prop} (x : Operand) (ho : o.op = .assign x) (d : Option Tmp) (hdst : o.dst = d) (v : Value) (hx : a.eval x = v) (h : K (a.put d v) w) : o.wp Tryz.prog a w K Q := by
  subst hdst
  unfold Oper.wp execOp
  simp only [ho, hx, Sem.run_pure]
  exact h
end Go.Proofs.YtcimiajkbgabiaaGreat

namespace Go.Proofs.YtcimiajkbgabiaaGreat
open Go.RowKit
set_option linter.unusedVariables false
set_option linter.unusedSimpArgs false

theorem bit_any (x : Int) (hx : Word x) (w : World) :
    Calls Tryz.prog 106 #[.int .u64 x] w fun e w' => e = .returned (.int .u64 (mk (x % 2 == 1))) ∧ w = w' := by
  have H : Hid (IntKind.u64.wrap (wrap64 (-wrap64 (bits .and .u64 x 1))) = mk (x % 2 == 1)) := bit_code x hx
  go_enter Tryz.func106, Tryz.ntmps106
  go_wp2
  go_ret
  exact ⟨ret_int H.out, rfl⟩
theorem ch64_any (m x y : Int) (hm : Word m) (hx : Word x) (hy : Word y) (w : World) :
    Calls Tryz.prog 122 #[.int .u64 m, .int .u64 x, .int .u64 y] w fun e w' => e = .returned (.int .u64 (pk m x y)) ∧ w = w' := by
  have H : Hid (bits .xor .u64 y (bits .and .u64 (bits .xor .u64 x y) m) = pk m x y) := choose_u64 m x y hm hx hy
  go_enter Tryz.func122, Tryz.ntmps122
  go_wp2
  go_ret
  exact ⟨ret_int H.out, rfl⟩
theorem pick_any (m x y : Int) (hm : Word m) (hx : Word x) (hy : Word y) (w : World) :
    Calls Tryz.prog 117 #[.int .u64 m, .int .u64 x, .int .u64 y] w fun e w' => e = .returned (.int .u64 (pk m x y)) ∧ w = w' := by
  go_enter Tryz.func117, Tryz.ntmps117
  go_wp2_with (go_at_call 122; refine (ch64_any _ _ _ hm hx hy _).mono ?_; rintro e w' ⟨rfl, rfl⟩)
  go_ret
  exact ⟨rfl, rfl⟩
theorem add64 (x y c : Int) (hx : Word x) (hy : Word y) (hc0 : 0 ≤ c) (hc : c ≤ 1) (w : World) : (callFunc 118 #[.int .u64 x, .int .u64 y, .int .u64 c]).run Tryz.prog w =
    .ok (.value (.tuple #[.int .u64 ((x + y + c) % 18446744073709551616), .int .u64 ((x + y + c) / 18446744073709551616)])) w := by
  obtain ⟨h1, h2⟩ := hx
  obtain ⟨h3, h4⟩ := hy
  obtain ⟨x, rfl⟩ := Int.eq_ofNat_of_zero_le h1
  obtain ⟨y, rfl⟩ := Int.eq_ofNat_of_zero_le h3
  obtain ⟨c, rfl⟩ := Int.eq_ofNat_of_zero_le hc0
  rw [run_callFunc_extern Tryz.func118 (by kernel_rfl) (by kernel_rfl) (by kernel_rfl) (e := add64Entry) (by kernel_rfl), run_add64 x y c (by omega) (by omega) (by omega) (by omega)]
  simp only [Result.andThen]
theorem add64_0 (x y : Int) (hx : Word x) (hy : Word y) (w : World) : (callFunc 118 #[.int .u64 x, .int .u64 y, .int .u64 0]).run Tryz.prog w =
    .ok (.value (.tuple #[.int .u64 ((x + y) % 18446744073709551616), .int .u64 ((x + y) / 18446744073709551616)])) w := by
  simpa using add64 x y 0 hx hy (Int.le_refl 0) (by decide) w
def bor (x y : Int) : Int := if x < y then 1 else 0
theorem bor_bd (x y : Int) : 0 ≤ bor x y ∧ bor x y ≤ 1 := by unfold bor; split <;> decide
theorem sub64 (x y b : Int) (hx : Word x) (hy : Word y) (hb0 : 0 ≤ b) (hb : b ≤ 1) (w : World) : (callFunc 116 #[.int .u64 x, .int .u64 y, .int .u64 b]).run Tryz.prog w =
    .ok (.value (.tuple #[.int .u64 ((x - y - b) % 18446744073709551616), .int .u64 (bor x (y + b))])) w := by
  obtain ⟨h1, h2⟩ := hx
  obtain ⟨h3, h4⟩ := hy
  obtain ⟨x, rfl⟩ := Int.eq_ofNat_of_zero_le h1
  obtain ⟨y, rfl⟩ := Int.eq_ofNat_of_zero_le h3
  obtain ⟨b, rfl⟩ := Int.eq_ofNat_of_zero_le hb0
  rw [run_callFunc_extern Tryz.func116 (by kernel_rfl) (by kernel_rfl) (by kernel_rfl) (e := sub64Entry) (by kernel_rfl), run_sub64 x y b (by omega)]
  have e1 : (((x + 18446744073709551616 - y - b) % 18446744073709551616 : Nat) : Int) = ((x : Int) - y - b) % 18446744073709551616 := by omega
  have e2 : ((if x < y + b then 1 else 0 : Nat) : Int) = bor x (y + b) := by unfold bor; split <;> split <;> omega
  rw [e1, e2]
  rfl
theorem sub64_0 (x y : Int) (hx : Word x) (hy : Word y) (w : World) : (callFunc 116 #[.int .u64 x, .int .u64 y, .int .u64 0]).run Tryz.prog w =
    .ok (.value (.tuple #[.int .u64 ((x - y) % 18446744073709551616), .int .u64 (bor x y)])) w := by
  simpa using sub64 x y 0 hx hy (Int.le_refl 0) (by decide) w
set_option maxHeartbeats 1000000 in
theorem mul64_nat (x y : Nat) (hx : x < 18446744073709551616) (hy : y < 18446744073709551616) (w : World) :
    Calls Tryz.prog 124 #[.int .u64 x, .int .u64 y] w fun e w' => e = .returned (.tuple #[.int .u64 ((x * y / 18446744073709551616 : Nat) : Int), .int .u64 ((x * y % 18446744073709551616 : Nat) : Int)]) ∧ w' = w := by
  obtain ⟨bd, bt, bw, hhi⟩ := Lib.mul64_hi x y hx hy
  have ba := Lib.half_mul_le (a := x / 4294967296) (b := y / 4294967296) (by omega) (by omega)
  have bb := Lib.half_mul_le (a := x / 4294967296) (b := y % 4294967296) (by omega) (by omega)
  have bc := Lib.half_mul_le (a := x % 4294967296) (b := y / 4294967296) (by omega) (by omega)
  have ba' : x / 4294967296 * (y / 4294967296) < 18446744073709551616 := by omega
  have bb' : x / 4294967296 * (y % 4294967296) < 18446744073709551616 := by omega
  have bc' : x % 4294967296 * (y / 4294967296) < 18446744073709551616 := by omega
  have bh1 : x / 4294967296 * (y / 4294967296) + (x / 4294967296 * (y % 4294967296) + x % 4294967296 * (y % 4294967296) / 4294967296) / 4294967296 < 18446744073709551616 := by omega
  have bh : x / 4294967296 * (y / 4294967296) + (x / 4294967296 * (y % 4294967296) + x % 4294967296 * (y % 4294967296) / 4294967296) / 4294967296 + ((x / 4294967296 * (y % 4294967296) + x % 4294967296 * (y % 4294967296) / 4294967296) % 4294967296 + x % 4294967296 * (y / 4294967296)) / 4294967296 < 18446744073709551616 := by omega
  go_enter Tryz.func124, Tryz.ntmps124
  go_wp2
  simp only [Mul64.maskN x hx, Mul64.maskN y hy, Mul64.divN, Mul64.mulN, Mul64.addN, Mul64.wrapN _ bd, Mul64.wrapN _ bb', Mul64.wrapN _ bt, Mul64.maskN _ bt, Mul64.wrapN _ bc', Mul64.wrapN _ bw, Mul64.wrapN _ ba', Mul64.wrapN _ bh1, Mul64.wrapN _ bh, Mul64.wrapM (x * y)]
  rw [hhi]
  go_ret2
  exact ⟨rfl, rfl⟩
theorem mul64_any (x y : Int) (hx : Word x) (hy : Word y) (w : World) :
    Calls Tryz.prog 124 #[.int .u64 x, .int .u64 y] w fun e w' => e = .returned (.tuple #[.int .u64 (x * y / 18446744073709551616), .int .u64 (x * y % 18446744073709551616)]) ∧ w = w' := by
  obtain ⟨h1, h2⟩ := hx
  obtain ⟨h3, h4⟩ := hy
  obtain ⟨x, rfl⟩ := Int.eq_ofNat_of_zero_le h1
  obtain ⟨y, rfl⟩ := Int.eq_ofNat_of_zero_le h3
  refine (mul64_nat x y (by omega) (by omega) w).mono ?_
  rintro e w' ⟨rfl, rfl⟩
  exact ⟨by simp, rfl⟩
theorem Blk.whole {w : World} {g : Nat} {t : TypeId} {vs : List Value} (h : Blk w g t vs) : w.rangeAt g 0 vs := fun j v hv => by rw [Nat.zero_add, h.cell]; exact hv
theorem zeroPair : (Tryz.prog.info? 151).map (fun i => (i.zero, i.size)) = some (some (.agg (u64s [0, 0]).toArray), 2) := by kernel_rfl
theorem sizePair : (Tryz.prog.info? 151).map (·.size) = some 2 := by kernel_rfl
theorem zeroNumber : (Tryz.prog.info? 154).map (fun i => (i.zero, i.size)) = some (some (.agg (u64s [0, 0, 0]).toArray), 3) := by kernel_rfl
theorem sizeNumber : (Tryz.prog.info? 154).map (·.size) = some 3 := by kernel_rfl
theorem product_any (x y : Int) (hx : Word x) (hy : Word y) (w : World) :
    Calls Tryz.prog 121 #[.int .u64 x, .int .u64 y] w fun e w' => e = .returned (.agg (u64s (pr (x * y))).toArray) ∧ Below w.heap.size w w' := by
  obtain ⟨z, hz⟩ : ∃ z, x * y = z := ⟨_, rfl⟩
  have hm := mul64_any x y hx hy
  rw [hz] at hm ⊢
  clear hz
  go_enter Tryz.func121, Tryz.ntmps121
  go_wp2_with (go_at_call 124; refine (hm _).mono ?_; rintro e w' ⟨rfl, rfl⟩)
  simp [bodyPost, results, Tryz.results121, go_sem, pr, u64s]
  exact (Below.refl _ _).alloc (Nat.le_refl _) _
theorem pplus_any (x y : Int) (hx : 0 ≤ x ∧ x < 340282366920938463463374607431768211456) (hy : 0 ≤ y ∧ y < 340282366920938463463374607431768211456) (w : World) :
    Calls Tryz.prog 105 #[.agg (u64s (pr x)).toArray, .agg (u64s (pr y)).toArray] w fun e w' => e = .returned (.agg (u64s (pr ((x + y) % 340282366920938463463374607431768211456))).toArray) ∧ Below w.heap.size w w' := by
  obtain ⟨x0, hx0⟩ : ∃ z, x % 18446744073709551616 = z := ⟨_, rfl⟩
  obtain ⟨x1, hx1⟩ : ∃ z, x / 18446744073709551616 = z := ⟨_, rfl⟩
  obtain ⟨y0, hy0⟩ : ∃ z, y % 18446744073709551616 = z := ⟨_, rfl⟩
  obtain ⟨y1, hy1⟩ : ∃ z, y / 18446744073709551616 = z := ⟨_, rfl⟩
  have e0 : (x + y) % 340282366920938463463374607431768211456 % 18446744073709551616 = (x0 + y0) % 18446744073709551616 := by omega
  have e1 : (x + y) % 340282366920938463463374607431768211456 / 18446744073709551616 = (x1 + y1 + (x0 + y0) / 18446744073709551616) % 18446744073709551616 := by omega
  simp only [pr, u64s, List.map_cons, List.map_nil, hx0, hx1, hy0, hy1, e0, e1]
  have a0 : Word x0 := ⟨by omega, by omega⟩
  have a1 : Word x1 := ⟨by omega, by omega⟩
  have b0 : Word y0 := ⟨by omega, by omega⟩
  have b1 : Word y1 := ⟨by omega, by omega⟩
  have k0 : 0 ≤ (x0 + y0) / 18446744073709551616 := by omega
  have k1 : (x0 + y0) / 18446744073709551616 ≤ 1 := by omega
  clear hx hy hx0 hx1 hy0 hy1 e0 e1
  go_enter Tryz.func105, Tryz.ntmps105
  go_wp2_with (first | simp only [add64_0 x0 y0 a0 b0] | simp only [add64 x1 y1 _ a1 b1 k0 k1])
  simp [bodyPost, results, Tryz.results105, go_sem]
  exact (((Below.refl _ _).alloc (Nat.le_refl _) _).alloc (by simp) _).alloc (by simp; omega) _
theorem nplus_any (x y : Int) (hx : 0 ≤ x) (hy : 0 ≤ y) (hs : x + y < 6277101735386680763835789423207666416102355444464034512896) (w : World) :
    Calls Tryz.prog 114 #[.agg (u64s (nm x)).toArray, .agg (u64s (nm y)).toArray] w fun e w' => e = .returned (.agg (u64s (nm (x + y))).toArray) ∧ Below w.heap.size w w' := by
  obtain ⟨x0, hx0⟩ : ∃ z, x % 18446744073709551616 = z := ⟨_, rfl⟩
  obtain ⟨x1, hx1⟩ : ∃ z, x / 18446744073709551616 % 18446744073709551616 = z := ⟨_, rfl⟩
  obtain ⟨x2, hx2⟩ : ∃ z, x / 340282366920938463463374607431768211456 = z := ⟨_, rfl⟩
  obtain ⟨y0, hy0⟩ : ∃ z, y % 18446744073709551616 = z := ⟨_, rfl⟩
  obtain ⟨y1, hy1⟩ : ∃ z, y / 18446744073709551616 % 18446744073709551616 = z := ⟨_, rfl⟩
  obtain ⟨y2, hy2⟩ : ∃ z, y / 340282366920938463463374607431768211456 = z := ⟨_, rfl⟩
  have e0 : (x + y) % 18446744073709551616 = (x0 + y0) % 18446744073709551616 := by omega
  have e1 : (x + y) / 18446744073709551616 % 18446744073709551616 = (x1 + y1 + (x0 + y0) / 18446744073709551616) % 18446744073709551616 := by omega
  have e2 : (x + y) / 340282366920938463463374607431768211456 = x2 + y2 + (x1 + y1 + (x0 + y0) / 18446744073709551616) / 18446744073709551616 := by omega
  simp only [nm, u64s, List.map_cons, List.map_nil, hx0, hx1, hx2, hy0, hy1, hy2, e0, e1, e2]
  have a0 : Word x0 := ⟨by omega, by omega⟩
  have a1 : Word x1 := ⟨by omega, by omega⟩
  have b0 : Word y0 := ⟨by omega, by omega⟩
  have b1 : Word y1 := ⟨by omega, by omega⟩
  have k0 : 0 ≤ (x0 + y0) / 18446744073709551616 := by omega
  have k1 : (x0 + y0) / 18446744073709551616 ≤ 1 := by omega
  have c0 : 0 ≤ x2 + y2 := by omega
  have c1 : x2 + y2 + (x1 + y1 + (x0 + y0) / 18446744073709551616) / 18446744073709551616 < 18446744073709551616 := by omega
  have v1 : IntKind.u64.wrap (x2 + y2) = x2 + y2 := by rw [IntKind.wrap_u64]; omega
  have v2 : IntKind.u64.wrap (x2 + y2 + (x1 + y1 + (x0 + y0) / 18446744073709551616) / 18446744073709551616) = x2 + y2 + (x1 + y1 + (x0 + y0) / 18446744073709551616) / 18446744073709551616 := by rw [IntKind.wrap_u64]; omega
  clear hx hy hs hx0 hx1 hx2 hy0 hy1 hy2 e0 e1 e2
  go_enter Tryz.func114, Tryz.ntmps114
  go_wp2_with (first | simp only [add64_0 x0 y0 a0 b0] | simp only [add64 x1 y1 _ a1 b1 k0 k1])
  simp [bodyPost, results, Tryz.results114, go_sem]
  exact (((Below.refl _ _).alloc (Nat.le_refl _) _).alloc (by simp) _).alloc (by simp; omega) _
end Go.Proofs.YtcimiajkbgabiaaGreat

namespace Go.Proofs.YtcimiajkbgabiaaGreat
open Go.RowKit
set_option linter.unusedVariables false
set_option linter.unusedSimpArgs false

theorem zeroFour : (Tryz.prog.info? 137).map (fun i => (i.zero, i.size)) = some (some (.agg (u64s [0, 0, 0, 0]).toArray), 4) := by kernel_rfl
theorem sizeFour : (Tryz.prog.info? 137).map (·.size) = some 4 := by kernel_rfl
theorem pr_small (v : Int) (h0 : 0 ≤ v) (h1 : v < 18446744073709551616) : pr v = [v, 0] := by
  unfold pr
  rw [Int.emod_eq_of_lt h0 h1, Int.ediv_eq_zero_of_lt h0 h1]
theorem q4_code (a b c d e f X : Int) (hX : X = a + 18446744073709551616 * (b + c) + 340282366920938463463374607431768211456 * (d + e) + 6277101735386680763835789423207666416102355444464034512896 * f) :
    q4 X = [a % 18446744073709551616, (b + c + a / 18446744073709551616) % 18446744073709551616, (d + e + (b + c + a / 18446744073709551616) / 18446744073709551616) % 18446744073709551616, f + (d + e + (b + c + a / 18446744073709551616) / 18446744073709551616) / 18446744073709551616] := by
  subst hX
  unfold q4
  refine List.cons_eq_cons.2 ⟨by omega, List.cons_eq_cons.2 ⟨by omega, List.cons_eq_cons.2 ⟨by omega, List.cons_eq_cons.2 ⟨by omega, rfl⟩⟩⟩⟩
theorem build_one (z : Int) (w : World) : (Instr.build 151 #[(0, .int .u64 z)]).run Tryz.prog w = .ok (.agg (u64s [z, 0]).toArray) w := by kernel_rfl
theorem build_four (a b c d : Int) (w : World) : (Instr.build 137 #[(0, .int .u64 a), (1, .int .u64 b), (2, .int .u64 c), (3, .int .u64 d)]).run Tryz.prog w = .ok (.agg (u64s [a, b, c, d]).toArray) w := by kernel_rfl
set_option maxRecDepth 20000 in
set_option maxHeartbeats 2000000 in
theorem times_any (x r0 r1 : Int) (hx : 0 ≤ x ∧ x < 2722258935367507707706996859454145691648) (g0 : 0 ≤ r0 ∧ r0 < 1152921504606846976) (g1 : 0 ≤ r1 ∧ r1 < 1152921504606846976) (w : World) :
    Calls Tryz.prog 115 #[.agg (u64s (nm x)).toArray, .agg (u64s [r0, r1]).toArray] w fun e w' => e = .returned (.agg (u64s (q4 (x * (r0 + 18446744073709551616 * r1)))).toArray) ∧ Below w.heap.size w w' := by
  obtain ⟨x0, hx0⟩ : ∃ z, x % 18446744073709551616 = z := ⟨_, rfl⟩
  obtain ⟨x1, hx1⟩ : ∃ z, x / 18446744073709551616 % 18446744073709551616 = z := ⟨_, rfl⟩
  obtain ⟨x2, hx2⟩ : ∃ z, x / 340282366920938463463374607431768211456 = z := ⟨_, rfl⟩
  have k0 : Word x0 := ⟨by omega, by omega⟩
  have k1 : Word x1 := ⟨by omega, by omega⟩
  have k2 : 0 ≤ x2 ∧ x2 < 8 := ⟨by omega, by omega⟩
  have hxx : x = x0 + 18446744073709551616 * x1 + 340282366920938463463374607431768211456 * x2 := by omega
  obtain ⟨a, b, c, d, e, f, ha, hb, hc, hd, he, hf, hX, a0, a1, b0, b1, c0, c1, d0, d1, e0, e1, f0, f1⟩ := times_code x0 x1 x2 r0 r1 k0 k1 k2 g0 g1
  rw [← hxx] at hX
  have hq := q4_code a b c d e f _ hX
  have en : nm x = [x0, x1, x2] := by unfold nm; rw [hx0, hx1, hx2]
  rw [hq, en]
  obtain ⟨s, hs⟩ : ∃ z, b + c + a / 18446744073709551616 = z := ⟨_, rfl⟩
  obtain ⟨t, ht⟩ : ∃ z, d + e + s / 18446744073709551616 = z := ⟨_, rfl⟩
  rw [hs, ht]
  have w0 : Word r0 := ⟨g0.1, by omega⟩
  have w1 : Word r1 := ⟨g1.1, by omega⟩
  have w2 : Word x2 := ⟨k2.1, by omega⟩
  have CC : Hid ((∀ w, Calls Tryz.prog 121 #[.int .u64 x0, .int .u64 r0] w fun e w' => e = .returned (.agg (u64s (pr a)).toArray) ∧ Below w.heap.size w w') ∧ (∀ w, Calls Tryz.prog 121 #[.int .u64 x0, .int .u64 r1] w fun e w' => e = .returned (.agg (u64s (pr b)).toArray) ∧ Below w.heap.size w w') ∧ (∀ w, Calls Tryz.prog 121 #[.int .u64 x1, .int .u64 r0] w fun e w' => e = .returned (.agg (u64s (pr c)).toArray) ∧ Below w.heap.size w w') ∧ (∀ w, Calls Tryz.prog 121 #[.int .u64 x1, .int .u64 r1] w fun e w' => e = .returned (.agg (u64s (pr d)).toArray) ∧ Below w.heap.size w w') ∧ (∀ w, Calls Tryz.prog 121 #[.int .u64 x2, .int .u64 r0] w fun z w' => z = .returned (.agg (u64s (pr e)).toArray) ∧ Below w.heap.size w w')) := by
    rw [← ha, ← hb, ← hc, ← hd, ← he]
    exact ⟨product_any _ _ k0 w0, product_any _ _ k0 w1, product_any _ _ k1 w0, product_any _ _ k1 w1, product_any _ _ w2 w0⟩
  have DD : Hid ((∀ w, Calls Tryz.prog 105 #[.agg (u64s (pr b)).toArray, .agg (u64s (pr c)).toArray] w fun e w' => e = .returned (.agg (u64s (pr (b + c))).toArray) ∧ Below w.heap.size w w') ∧ (∀ w, Calls Tryz.prog 105 #[.agg (u64s (pr (b + c))).toArray, .agg (u64s [a / 18446744073709551616, 0]).toArray] w fun e w' => e = .returned (.agg (u64s (pr s)).toArray) ∧ Below w.heap.size w w') ∧ (∀ w, Calls Tryz.prog 105 #[.agg (u64s (pr d)).toArray, .agg (u64s (pr e)).toArray] w fun z w' => z = .returned (.agg (u64s (pr (d + e))).toArray) ∧ Below w.heap.size w w') ∧ (∀ w, Calls Tryz.prog 105 #[.agg (u64s (pr (d + e))).toArray, .agg (u64s [s / 18446744073709551616, 0]).toArray] w fun z w' => z = .returned (.agg (u64s (pr t)).toArray) ∧ Below w.heap.size w w')) := by
    have h1 := pplus_any b c ⟨b0, by omega⟩ ⟨c0, by omega⟩
    have h2 := pplus_any (b + c) (a / 18446744073709551616) ⟨by omega, by omega⟩ ⟨by omega, by omega⟩
    have h3 := pplus_any d e ⟨d0, by omega⟩ ⟨e0, by omega⟩
    have h4 := pplus_any (d + e) (s / 18446744073709551616) ⟨by omega, by omega⟩ ⟨by omega, by omega⟩
    rw [Int.emod_eq_of_lt (by omega) (by omega)] at h1 h2 h3 h4
    rw [pr_small (a / 18446744073709551616) (by omega) (by omega), hs] at h2
    rw [pr_small (s / 18446744073709551616) (by omega) (by omega), ht] at h4
    exact ⟨h1, h2, h3, h4⟩
  have AR : Hid (0 ≤ a ∧ 0 ≤ s ∧ 0 ≤ t ∧ f + t / 18446744073709551616 < 18446744073709551616) := ⟨a0, by omega, by omega, by omega⟩
  have v1 : IntKind.u64.wrap (x2 * r1) = f := by rw [hf, IntKind.wrap_u64]; omega
  have v2 : IntKind.u64.wrap (f + t / 18446744073709551616) = f + t / 18446744073709551616 := by rw [IntKind.wrap_u64]; omega
  clear hx hx0 hx1 hx2 hxx hX hq en ha hb hc hd he hf a0 a1 b0 b1 c0 c1 d0 d1 e0 e1 f0 f1 hs ht k0 k1 k2 w0 w1 w2 g0 g1
  go_enter Tryz.func115, Tryz.ntmps115
  go_wp2_with (first | (refine wpList_box_new rfl 154 _ rfl (u64s [x0, x1, x2]) rfl ?_; intro w1 b1 s1 l1) | (refine wpList_box_new rfl 151 _ rfl (u64s [r0, r1]) rfl ?_; intro w2 b2 s2 l2) | (refine wpList_alloc_new rfl 137 rfl 4 _ zeroFour ?_; intro w3 b3 s3 l3; have cA : w3.cell? ⟨w.heap.size, 0, none⟩ = some (.int .u64 x0) := ((b1.later l2 (by omega)).later l3 (by omega)).cell 0; have cB : w3.cell? ⟨w.heap.size + 1, 0, none⟩ = some (.int .u64 r0) := by { rw [← s1]; exact (b2.later l3 (by omega)).cell 0 }) | (go_at_call 121; refine (CC.out.1 _).mono ?_; rintro e w4 ⟨rfl, l4⟩) | (refine wpList_alloc_new rfl 151 rfl 2 _ zeroPair ?_; intro w5 b5 s5 l5) | (refine wpList_store_blk rfl 151 151 _ _ rfl _ rfl _ (u64s (pr a)) rfl b5 rfl sizePair (u64s_one _) ?_; intro w6 b6 s6 k6))
  simp only [Act.put, List.setIfInBounds_toArray, List.set_cons_zero, List.set_cons_succ]
  obtain ⟨G, hG⟩ : ∃ G, w4.heap.size = G := ⟨_, rfl⟩
  rw [hG] at b6 k6 ⊢
  have HB : Hid (Blk w6 w.heap.size 154 (u64s [x0, x1, x2]) ∧ Blk w6 (w.heap.size + 1) 151 (u64s [r0, r1]) ∧ Blk w6 G 151 (u64s (pr a)) ∧ Blk w6 (w.heap.size + 1 + 1) 137 (u64s [0, 0, 0, 0]) ∧ Below w.heap.size w w6 ∧ w.heap.size + 3 ≤ G) := by
    have q4 := l4.size
    rw [s1] at b2
    rw [s2, s1] at b3
    exact ⟨((((b1.later l2 (by omega)).later l3 (by omega)).later l4 (by omega)).later l5 (by omega)).kept k6 (by omega), (((b2.later l3 (by omega)).later l4 (by omega)).later l5 (by omega)).kept k6 (by omega), b6, ((b3.later l4 (by omega)).later l5 (by omega)).kept k6 (by omega), below_kept (below_chain (below_chain (below_chain (below_chain l1 l2 (by omega)) l3 (by omega)) l4 (by omega)) l5 (by omega)) k6 (by omega) (fun j hj => by omega), by omega⟩
  clear b1 s1 l1 b2 s2 l2 b3 s3 l3 l4 b5 s5 l5 b6 s6 k6 hG cA cB
  refine region_inv [.val (.pointer (some ⟨w.heap.size, 0, none⟩)), .val (.int .u64 x0), .val (.pointer (some ⟨(w.heap.size + 1), 1, none⟩)), .val (.int .u64 r1), .val (.agg (u64s (pr b)).toArray), .val (.pointer (some ⟨w.heap.size, 1, none⟩)), .val (.int .u64 x1), .val (.pointer (some ⟨(w.heap.size + 1), 0, none⟩)), .val (.int .u64 r0), .val (.agg (u64s (pr c)).toArray), .val (.agg (u64s (pr (b + c))).toArray), .val (.pointer (some ⟨G, 1, none⟩)), .val (.int .u64 (a / 18446744073709551616)), .val (.agg (u64s [a / 18446744073709551616, 0]).toArray), .val (.agg (u64s (pr s)).toArray), .blk 151 (u64s [0, 0])] (by kernel_rfl) (by kernel_rfl) (by kernel_rfl) ?_ ?_
  · refine Steps'.cons ?_ (Steps'.cons ?_ (Steps'.cons ?_ (Steps'.cons ?_ (Steps'.cons ?_ (Steps'.cons ?_ (Steps'.cons ?_ (Steps'.cons ?_ (Steps'.cons ?_ (Steps'.cons ?_ (Steps'.cons ?_ (Steps'.cons ?_ (Steps'.cons ?_ (Steps'.cons ?_ (Steps'.cons ?_ (Steps'.cons ?_ (Steps'.one _ _ _ _ _ _ _))))))))))))))))
    · intro ax wx hb hs hd
      have h2 : ax.tmps.getD 2 undef = (.pointer (some ⟨w.heap.size, 0, none⟩)) := hs 2 (by kernel_rfl)
      refine Does.value (.pointer (some ⟨w.heap.size, 0, none⟩)) ?_ rfl
      go_simp
    · intro ax wx hb hs hd
      have h13 : ax.tmps.getD 13 undef = (.pointer (some ⟨w.heap.size, 0, none⟩)) := hd 0 13 rfl (by kernel_rfl) (by decide)
      have cx : wx.cell? ⟨w.heap.size, 0, none⟩ = some (.int .u64 x0) := (Blk.later HB.out.1 hb (Blk.lt HB.out.1)).cell 0
      refine Does.value (.int .u64 x0) ?_ rfl
      go_simp
    · intro ax wx hb hs hd
      have h3 : ax.tmps.getD 3 undef = (.pointer (some ⟨(w.heap.size + 1), 0, none⟩)) := hs 3 (by kernel_rfl)
      refine Does.value (.pointer (some ⟨(w.heap.size + 1), 1, none⟩)) ?_ rfl
      go_simp
    · intro ax wx hb hs hd
      have h15 : ax.tmps.getD 15 undef = (.pointer (some ⟨(w.heap.size + 1), 1, none⟩)) := hd 2 15 rfl (by kernel_rfl) (by decide)
      have cx : wx.cell? ⟨(w.heap.size + 1), 1, none⟩ = some (.int .u64 r1) := (Blk.later HB.out.2.1 hb (Blk.lt HB.out.2.1)).cell 1
      refine Does.value (.int .u64 r1) ?_ rfl
      go_simp
    · intro ax wx hb hs hd
      have h14 : ax.tmps.getD 14 undef = (.int .u64 x0) := hd 1 14 rfl (by kernel_rfl) (by decide)
      have h16 : ax.tmps.getD 16 undef = (.int .u64 r1) := hd 3 16 rfl (by kernel_rfl) (by decide)
      refine Does.call 121 #[(.int .u64 x0), (.int .u64 r1)] (by go_simp) ?_
      refine (CC.out.2.1 _).mono ?_
      rintro z w' ⟨rfl, l⟩
      exact ⟨_, rfl, rfl, l⟩
    · intro ax wx hb hs hd
      have h2 : ax.tmps.getD 2 undef = (.pointer (some ⟨w.heap.size, 0, none⟩)) := hs 2 (by kernel_rfl)
      refine Does.value (.pointer (some ⟨w.heap.size, 1, none⟩)) ?_ rfl
      go_simp
    · intro ax wx hb hs hd
      have h18 : ax.tmps.getD 18 undef = (.pointer (some ⟨w.heap.size, 1, none⟩)) := hd 5 18 rfl (by kernel_rfl) (by decide)
      have cx : wx.cell? ⟨w.heap.size, 1, none⟩ = some (.int .u64 x1) := (Blk.later HB.out.1 hb (Blk.lt HB.out.1)).cell 1
      refine Does.value (.int .u64 x1) ?_ rfl
      go_simp
    · intro ax wx hb hs hd
      have h3 : ax.tmps.getD 3 undef = (.pointer (some ⟨(w.heap.size + 1), 0, none⟩)) := hs 3 (by kernel_rfl)
      refine Does.value (.pointer (some ⟨(w.heap.size + 1), 0, none⟩)) ?_ rfl
      go_simp
    · intro ax wx hb hs hd
      have h20 : ax.tmps.getD 20 undef = (.pointer (some ⟨(w.heap.size + 1), 0, none⟩)) := hd 7 20 rfl (by kernel_rfl) (by decide)
      have cx : wx.cell? ⟨(w.heap.size + 1), 0, none⟩ = some (.int .u64 r0) := (Blk.later HB.out.2.1 hb (Blk.lt HB.out.2.1)).cell 0
      refine Does.value (.int .u64 r0) ?_ rfl
      go_simp
    · intro ax wx hb hs hd
      have h19 : ax.tmps.getD 19 undef = (.int .u64 x1) := hd 6 19 rfl (by kernel_rfl) (by decide)
      have h21 : ax.tmps.getD 21 undef = (.int .u64 r0) := hd 8 21 rfl (by kernel_rfl) (by decide)
      refine Does.call 121 #[(.int .u64 x1), (.int .u64 r0)] (by go_simp) ?_
      refine (CC.out.2.2.1 _).mono ?_
      rintro z w' ⟨rfl, l⟩
      exact ⟨_, rfl, rfl, l⟩
    · intro ax wx hb hs hd
      have h17 : ax.tmps.getD 17 undef = (.agg (u64s (pr b)).toArray) := hd 4 17 rfl (by kernel_rfl) (by decide)
      have h22 : ax.tmps.getD 22 undef = (.agg (u64s (pr c)).toArray) := hd 9 22 rfl (by kernel_rfl) (by decide)
      refine Does.call 105 #[(.agg (u64s (pr b)).toArray), (.agg (u64s (pr c)).toArray)] (by go_simp) ?_
      refine (DD.out.1 _).mono ?_
      rintro z w' ⟨rfl, l⟩
      exact ⟨_, rfl, rfl, l⟩
    · intro ax wx hb hs hd
      have h5 : ax.tmps.getD 5 undef = (.pointer (some ⟨G, 0, none⟩)) := hs 5 (by kernel_rfl)
      refine Does.value (.pointer (some ⟨G, 1, none⟩)) ?_ rfl
      go_simp
    · intro ax wx hb hs hd
      have h24 : ax.tmps.getD 24 undef = (.pointer (some ⟨G, 1, none⟩)) := hd 11 24 rfl (by kernel_rfl) (by decide)
      have cx : wx.cell? ⟨G, 1, none⟩ = some (.int .u64 (a / 18446744073709551616)) := (Blk.later HB.out.2.2.1 hb (Blk.lt HB.out.2.2.1)).cell 1
      refine Does.value (.int .u64 (a / 18446744073709551616)) ?_ rfl
      go_simp
    · intro ax wx hb hs hd
      have h25 : ax.tmps.getD 25 undef = (.int .u64 (a / 18446744073709551616)) := hd 12 25 rfl (by kernel_rfl) (by decide)
      exact Does.build 151 _ rfl #[(0, .int .u64 (a / 18446744073709551616))] (by simp only [List.map_toArray, List.map_cons, List.map_nil, Act.eval, h25]) _ (build_one _ _)
    · intro ax wx hb hs hd
      have h23 : ax.tmps.getD 23 undef = (.agg (u64s (pr (b + c))).toArray) := hd 10 23 rfl (by kernel_rfl) (by decide)
      have h26 : ax.tmps.getD 26 undef = (.agg (u64s [a / 18446744073709551616, 0]).toArray) := hd 13 26 rfl (by kernel_rfl) (by decide)
      refine Does.call 105 #[(.agg (u64s (pr (b + c))).toArray), (.agg (u64s [a / 18446744073709551616, 0]).toArray)] (by go_simp) ?_
      refine (DD.out.2.1 _).mono ?_
      rintro z w' ⟨rfl, l⟩
      exact ⟨_, rfl, rfl, l⟩
    · intro ax wx hb hs hd
      exact Does.alloc 151 rfl 2 _ zeroPair hb.size
  · intro wx hb
    refine @Ends.val _ _ _ _ _ _ _ _ _ (.pointer (some ⟨w.heap.size, 0, none⟩)) rfl ?_
    refine @Ends.val _ _ _ _ _ _ _ _ _ (.int .u64 x0) rfl ?_
    refine @Ends.val _ _ _ _ _ _ _ _ _ (.pointer (some ⟨(w.heap.size + 1), 1, none⟩)) rfl ?_
    refine @Ends.val _ _ _ _ _ _ _ _ _ (.int .u64 r1) rfl ?_
    refine @Ends.val _ _ _ _ _ _ _ _ _ (.agg (u64s (pr b)).toArray) rfl ?_
    refine @Ends.val _ _ _ _ _ _ _ _ _ (.pointer (some ⟨w.heap.size, 1, none⟩)) rfl ?_
    refine @Ends.val _ _ _ _ _ _ _ _ _ (.int .u64 x1) rfl ?_
    refine @Ends.val _ _ _ _ _ _ _ _ _ (.pointer (some ⟨(w.heap.size + 1), 0, none⟩)) rfl ?_
    refine @Ends.val _ _ _ _ _ _ _ _ _ (.int .u64 r0) rfl ?_
    refine @Ends.val _ _ _ _ _ _ _ _ _ (.agg (u64s (pr c)).toArray) rfl ?_
    refine @Ends.val _ _ _ _ _ _ _ _ _ (.agg (u64s (pr (b + c))).toArray) rfl ?_
    refine @Ends.val _ _ _ _ _ _ _ _ _ (.pointer (some ⟨G, 1, none⟩)) rfl ?_
    refine @Ends.val _ _ _ _ _ _ _ _ _ (.int .u64 (a / 18446744073709551616)) rfl ?_
    refine @Ends.val _ _ _ _ _ _ _ _ _ (.agg (u64s [a / 18446744073709551616, 0]).toArray) rfl ?_
    refine @Ends.val _ _ _ _ _ _ _ _ _ (.agg (u64s (pr s)).toArray) rfl ?_
    refine @Ends.blk _ _ _ _ _ _ _ _ _ 151 (u64s [0, 0]) rfl ?_
    intro g15 hg15 bg15
    refine @Ends.one _ _ _ _ _ _ _ ?_
    simp only [Act.put, List.setIfInBounds_toArray, List.set_cons_zero, List.set_cons_succ]
    refine last_store 151 (.tmp 6) (.tmp 27) rfl rfl g15 rfl 151 _ (u64s (pr s)) rfl bg15 rfl sizePair (u64s_one _) ?_
    intro w7 b7 s7 k7
    have HC : Hid (Blk w7 w.heap.size 154 (u64s [x0, x1, x2]) ∧ Blk w7 (w.heap.size + 1) 151 (u64s [r0, r1]) ∧ Blk w7 G 151 (u64s (pr a)) ∧ Blk w7 (w.heap.size + 1 + 1) 137 (u64s [0, 0, 0, 0]) ∧ Below w.heap.size w w7 ∧ Blk w7 g15 151 (u64s (pr s)) ∧ w.heap.size + 3 ≤ G ∧ G < g15) := by
      have q1 := HB.out.1.lt
      have q2 := HB.out.2.1.lt
      have q3 := HB.out.2.2.1.lt
      have q4 := HB.out.2.2.2.1.lt
      have q5 := hb.size
      exact ⟨(HB.out.1.later hb q1).kept k7 (by omega), (HB.out.2.1.later hb q2).kept k7 (by omega), (HB.out.2.2.1.later hb q3).kept k7 (by omega), (HB.out.2.2.2.1.later hb q4).kept k7 (by omega), below_kept (below_chain HB.out.2.2.2.2.1 hb (by omega)) k7 (by omega) (fun j hj => by omega), b7, HB.out.2.2.2.2.2, by omega⟩
    clear b7 s7 k7 hb bg15 HB hg15
    go_wp2_with fail
    try simp only [Act.put, List.setIfInBounds_toArray, List.set_cons_zero, List.set_cons_succ]
    refine region_inv [.val (.pointer (some ⟨w.heap.size, 1, none⟩)), .val (.int .u64 x1), .val (.pointer (some ⟨(w.heap.size + 1), 1, none⟩)), .val (.int .u64 r1), .val (.agg (u64s (pr d)).toArray), .val (.pointer (some ⟨w.heap.size, 2, none⟩)), .val (.int .u64 x2), .val (.pointer (some ⟨(w.heap.size + 1), 0, none⟩)), .val (.int .u64 r0), .val (.agg (u64s (pr e)).toArray), .val (.agg (u64s (pr (d + e))).toArray), .val (.pointer (some ⟨g15, 1, none⟩)), .val (.int .u64 (s / 18446744073709551616)), .val (.agg (u64s [s / 18446744073709551616, 0]).toArray), .val (.agg (u64s (pr t)).toArray), .blk 151 (u64s [0, 0])] (by kernel_rfl) (by kernel_rfl) (by kernel_rfl) ?_ ?_
    · refine Steps'.cons ?_ (Steps'.cons ?_ (Steps'.cons ?_ (Steps'.cons ?_ (Steps'.cons ?_ (Steps'.cons ?_ (Steps'.cons ?_ (Steps'.cons ?_ (Steps'.cons ?_ (Steps'.cons ?_ (Steps'.cons ?_ (Steps'.cons ?_ (Steps'.cons ?_ (Steps'.cons ?_ (Steps'.cons ?_ (Steps'.cons ?_ (Steps'.one _ _ _ _ _ _ _))))))))))))))))
      · intro ax wx hb hs hd
        have h2 : ax.tmps.getD 2 undef = (.pointer (some ⟨w.heap.size, 0, none⟩)) := hs 2 (by kernel_rfl)
        refine Does.value (.pointer (some ⟨w.heap.size, 1, none⟩)) ?_ rfl
        go_simp
      · intro ax wx hb hs hd
        have h28 : ax.tmps.getD 28 undef = (.pointer (some ⟨w.heap.size, 1, none⟩)) := hd 0 28 rfl (by kernel_rfl) (by decide)
        have cx : wx.cell? ⟨w.heap.size, 1, none⟩ = some (.int .u64 x1) := (Blk.later HC.out.1 hb (Blk.lt HC.out.1)).cell 1
        refine Does.value (.int .u64 x1) ?_ rfl
        go_simp
      · intro ax wx hb hs hd
        have h3 : ax.tmps.getD 3 undef = (.pointer (some ⟨(w.heap.size + 1), 0, none⟩)) := hs 3 (by kernel_rfl)
        refine Does.value (.pointer (some ⟨(w.heap.size + 1), 1, none⟩)) ?_ rfl
        go_simp
      · intro ax wx hb hs hd
        have h30 : ax.tmps.getD 30 undef = (.pointer (some ⟨(w.heap.size + 1), 1, none⟩)) := hd 2 30 rfl (by kernel_rfl) (by decide)
        have cx : wx.cell? ⟨(w.heap.size + 1), 1, none⟩ = some (.int .u64 r1) := (Blk.later HC.out.2.1 hb (Blk.lt HC.out.2.1)).cell 1
        refine Does.value (.int .u64 r1) ?_ rfl
        go_simp
      · intro ax wx hb hs hd
        have h29 : ax.tmps.getD 29 undef = (.int .u64 x1) := hd 1 29 rfl (by kernel_rfl) (by decide)
        have h31 : ax.tmps.getD 31 undef = (.int .u64 r1) := hd 3 31 rfl (by kernel_rfl) (by decide)
        refine Does.call 121 #[(.int .u64 x1), (.int .u64 r1)] (by go_simp) ?_
        refine (CC.out.2.2.2.1 _).mono ?_
        rintro z w' ⟨rfl, l⟩
        exact ⟨_, rfl, rfl, l⟩
      · intro ax wx hb hs hd
        have h2 : ax.tmps.getD 2 undef = (.pointer (some ⟨w.heap.size, 0, none⟩)) := hs 2 (by kernel_rfl)
        refine Does.value (.pointer (some ⟨w.heap.size, 2, none⟩)) ?_ rfl
        go_simp
      · intro ax wx hb hs hd
        have h33 : ax.tmps.getD 33 undef = (.pointer (some ⟨w.heap.size, 2, none⟩)) := hd 5 33 rfl (by kernel_rfl) (by decide)
        have cx : wx.cell? ⟨w.heap.size, 2, none⟩ = some (.int .u64 x2) := (Blk.later HC.out.1 hb (Blk.lt HC.out.1)).cell 2
        refine Does.value (.int .u64 x2) ?_ rfl
        go_simp
      · intro ax wx hb hs hd
        have h3 : ax.tmps.getD 3 undef = (.pointer (some ⟨(w.heap.size + 1), 0, none⟩)) := hs 3 (by kernel_rfl)
        refine Does.value (.pointer (some ⟨(w.heap.size + 1), 0, none⟩)) ?_ rfl
        go_simp
      · intro ax wx hb hs hd
        have h35 : ax.tmps.getD 35 undef = (.pointer (some ⟨(w.heap.size + 1), 0, none⟩)) := hd 7 35 rfl (by kernel_rfl) (by decide)
        have cx : wx.cell? ⟨(w.heap.size + 1), 0, none⟩ = some (.int .u64 r0) := (Blk.later HC.out.2.1 hb (Blk.lt HC.out.2.1)).cell 0
        refine Does.value (.int .u64 r0) ?_ rfl
        go_simp
      · intro ax wx hb hs hd
        have h34 : ax.tmps.getD 34 undef = (.int .u64 x2) := hd 6 34 rfl (by kernel_rfl) (by decide)
        have h36 : ax.tmps.getD 36 undef = (.int .u64 r0) := hd 8 36 rfl (by kernel_rfl) (by decide)
        refine Does.call 121 #[(.int .u64 x2), (.int .u64 r0)] (by go_simp) ?_
        refine (CC.out.2.2.2.2 _).mono ?_
        rintro z w' ⟨rfl, l⟩
        exact ⟨_, rfl, rfl, l⟩
      · intro ax wx hb hs hd
        have h32 : ax.tmps.getD 32 undef = (.agg (u64s (pr d)).toArray) := hd 4 32 rfl (by kernel_rfl) (by decide)
        have h37 : ax.tmps.getD 37 undef = (.agg (u64s (pr e)).toArray) := hd 9 37 rfl (by kernel_rfl) (by decide)
        refine Does.call 105 #[(.agg (u64s (pr d)).toArray), (.agg (u64s (pr e)).toArray)] (by go_simp) ?_
        refine (DD.out.2.2.1 _).mono ?_
        rintro z w' ⟨rfl, l⟩
        exact ⟨_, rfl, rfl, l⟩
      · intro ax wx hb hs hd
        have h6 : ax.tmps.getD 6 undef = (.pointer (some ⟨g15, 0, none⟩)) := hs 6 (by kernel_rfl)
        refine Does.value (.pointer (some ⟨g15, 1, none⟩)) ?_ rfl
        go_simp
      · intro ax wx hb hs hd
        have h39 : ax.tmps.getD 39 undef = (.pointer (some ⟨g15, 1, none⟩)) := hd 11 39 rfl (by kernel_rfl) (by decide)
        have cx : wx.cell? ⟨g15, 1, none⟩ = some (.int .u64 (s / 18446744073709551616)) := (Blk.later HC.out.2.2.2.2.2.1 hb (Blk.lt HC.out.2.2.2.2.2.1)).cell 1
        refine Does.value (.int .u64 (s / 18446744073709551616)) ?_ rfl
        go_simp
      · intro ax wx hb hs hd
        have h40 : ax.tmps.getD 40 undef = (.int .u64 (s / 18446744073709551616)) := hd 12 40 rfl (by kernel_rfl) (by decide)
        exact Does.build 151 _ rfl #[(0, .int .u64 (s / 18446744073709551616))] (by simp only [List.map_toArray, List.map_cons, List.map_nil, Act.eval, h40]) _ (build_one _ _)
      · intro ax wx hb hs hd
        have h38 : ax.tmps.getD 38 undef = (.agg (u64s (pr (d + e))).toArray) := hd 10 38 rfl (by kernel_rfl) (by decide)
        have h41 : ax.tmps.getD 41 undef = (.agg (u64s [s / 18446744073709551616, 0]).toArray) := hd 13 41 rfl (by kernel_rfl) (by decide)
        refine Does.call 105 #[(.agg (u64s (pr (d + e))).toArray), (.agg (u64s [s / 18446744073709551616, 0]).toArray)] (by go_simp) ?_
        refine (DD.out.2.2.2 _).mono ?_
        rintro z w' ⟨rfl, l⟩
        exact ⟨_, rfl, rfl, l⟩
      · intro ax wx hb hs hd
        exact Does.alloc 151 rfl 2 _ zeroPair hb.size
    · intro wx hb
      refine @Ends.val _ _ _ _ _ _ _ _ _ (.pointer (some ⟨w.heap.size, 1, none⟩)) rfl ?_
      refine @Ends.val _ _ _ _ _ _ _ _ _ (.int .u64 x1) rfl ?_
      refine @Ends.val _ _ _ _ _ _ _ _ _ (.pointer (some ⟨(w.heap.size + 1), 1, none⟩)) rfl ?_
      refine @Ends.val _ _ _ _ _ _ _ _ _ (.int .u64 r1) rfl ?_
      refine @Ends.val _ _ _ _ _ _ _ _ _ (.agg (u64s (pr d)).toArray) rfl ?_
      refine @Ends.val _ _ _ _ _ _ _ _ _ (.pointer (some ⟨w.heap.size, 2, none⟩)) rfl ?_
      refine @Ends.val _ _ _ _ _ _ _ _ _ (.int .u64 x2) rfl ?_
      refine @Ends.val _ _ _ _ _ _ _ _ _ (.pointer (some ⟨(w.heap.size + 1), 0, none⟩)) rfl ?_
      refine @Ends.val _ _ _ _ _ _ _ _ _ (.int .u64 r0) rfl ?_
      refine @Ends.val _ _ _ _ _ _ _ _ _ (.agg (u64s (pr e)).toArray) rfl ?_
      refine @Ends.val _ _ _ _ _ _ _ _ _ (.agg (u64s (pr (d + e))).toArray) rfl ?_
      refine @Ends.val _ _ _ _ _ _ _ _ _ (.pointer (some ⟨g15, 1, none⟩)) rfl ?_
      refine @Ends.val _ _ _ _ _ _ _ _ _ (.int .u64 (s / 18446744073709551616)) rfl ?_
      refine @Ends.val _ _ _ _ _ _ _ _ _ (.agg (u64s [s / 18446744073709551616, 0]).toArray) rfl ?_
      refine @Ends.val _ _ _ _ _ _ _ _ _ (.agg (u64s (pr t)).toArray) rfl ?_
      refine @Ends.blk _ _ _ _ _ _ _ _ _ 151 (u64s [0, 0]) rfl ?_
      intro g16 hg15 bg15
      refine @Ends.one _ _ _ _ _ _ _ ?_
      simp only [Act.put, List.setIfInBounds_toArray, List.set_cons_zero, List.set_cons_succ]
      refine last_store 151 (.tmp 7) (.tmp 42) rfl rfl _ rfl 151 _ (u64s (pr t)) rfl bg15 rfl sizePair (u64s_one _) ?_
      intro w8 b8 s8 k8
      have q1 := HC.out.1.lt
      have q2 := HC.out.2.1.lt
      have q3 := HC.out.2.2.1.lt
      have q4 := HC.out.2.2.2.1.lt
      have q6 := HC.out.2.2.2.2.2.1.lt
      have q5 := hb.size
      have q7 := HC.out.2.2.2.2.2.2
      have m1 := (HC.out.1.later hb q1).kept k8 (by omega)
      have m2 := (HC.out.2.1.later hb q2).kept k8 (by omega)
      have m3 := (HC.out.2.2.1.later hb q3).kept k8 (by omega)
      have m4 := (HC.out.2.2.2.1.later hb q4).kept k8 (by omega)
      have m6 := (HC.out.2.2.2.2.2.1.later hb q6).kept k8 (by omega)
      have HD : Hid (Below w.heap.size w w8 ∧ Blk w8 (w.heap.size + 1 + 1) 137 (u64s [0, 0, 0, 0])) := ⟨below_kept (below_chain HC.out.2.2.2.2.1 hb (by omega)) k8 (by omega) (fun j hj => by omega), m4⟩
      have z1 : w8.cell? ⟨G, 0, none⟩ = some (.int .u64 (a % 18446744073709551616)) := m3.cell 0
      have z2 : w8.cell? ⟨g15, 0, none⟩ = some (.int .u64 (s % 18446744073709551616)) := m6.cell 0
      have z3 : w8.cell? ⟨g16, 0, none⟩ = some (.int .u64 (t % 18446744073709551616)) := b8.cell 0
      have z4 : w8.cell? ⟨g16, 1, none⟩ = some (.int .u64 (t / 18446744073709551616)) := b8.cell 1
      have z5 : w8.cell? ⟨w.heap.size, 2, none⟩ = some (.int .u64 x2) := m1.cell 2
      have z6 : w8.cell? ⟨w.heap.size + 1, 1, none⟩ = some (.int .u64 r1) := m2.cell 1
      clear b8 s8 k8 hb bg15 HC hg15 m1 m2 m3 m4 m6 q1 q2 q3 q4 q5 q6 q7
      go_wp2_with (first | (refine wpList_build rfl 137 _ rfl #[(0, .int .u64 (a % 18446744073709551616)), (1, .int .u64 (s % 18446744073709551616)), (2, .int .u64 (t % 18446744073709551616)), (3, .int .u64 (f + t / 18446744073709551616))] (by simp [Act.eval]) _ (build_four _ _ _ _ _) ?_) | (refine wpList_store_blk rfl 137 137 _ _ rfl _ rfl _ (u64s [a % 18446744073709551616, s % 18446744073709551616, t % 18446744073709551616, f + t / 18446744073709551616]) rfl HD.out.2 rfl sizeFour (u64s_one _) ?_; intro w9 b9 s9 k9))
      exact ret_blk rfl (w.heap.size + 1 + 1) _ _ rfl b9 Tryz.underlying137 rfl sizeFour rfl ⟨rfl, below_kept HD.out.1 k9 HD.out.1.size (fun j hj => by omega)⟩
end Go.Proofs.YtcimiajkbgabiaaGreat

namespace Go.Proofs.YtcimiajkbgabiaaGreat
open Go.RowKit
set_option linter.unusedVariables false
set_option linter.unusedSimpArgs false

theorem build_three (a b c : Int) (w : World) : (Instr.build 154 #[(0, .int .u64 a), (1, .int .u64 b), (2, .int .u64 c)]).run Tryz.prog w = .ok (.agg (u64s [a, b, c]).toArray) w := by kernel_rfl
theorem build_two3 (a b : Int) (w : World) : (Instr.build 154 #[(0, .int .u64 a), (1, .int .u64 b)]).run Tryz.prog w = .ok (.agg (u64s [a, b, 0]).toArray) w := by kernel_rfl
theorem fold_words (v w0 w1 w2 w3 : Int) (h : 0 ≤ v ∧ v < 57896044618658097711785492504343953926634992332820282019728792003956564819968) (h0 : v % 18446744073709551616 = w0) (h1 : v / 18446744073709551616 % 18446744073709551616 = w1) (h2 : v / 340282366920938463463374607431768211456 % 18446744073709551616 = w2) (h3 : v / 6277101735386680763835789423207666416102355444464034512896 = w3) :
    nm (v % 1361129467683753853853498429727072845824) = [w0, w1, w2 % 4] ∧ nm (4 * (v / 1361129467683753853853498429727072845824)) = [w2 - w2 % 4, w3, 0] ∧ nm (v / 1361129467683753853853498429727072845824) = [w2 / 4 + w3 % 4 * 4611686018427387904, w3 / 4, 0] := by
  unfold nm
  refine ⟨List.cons_eq_cons.2 ⟨by omega, List.cons_eq_cons.2 ⟨by omega, List.cons_eq_cons.2 ⟨by omega, rfl⟩⟩⟩, List.cons_eq_cons.2 ⟨by omega, List.cons_eq_cons.2 ⟨by omega, List.cons_eq_cons.2 ⟨by omega, rfl⟩⟩⟩, List.cons_eq_cons.2 ⟨by omega, List.cons_eq_cons.2 ⟨by omega, List.cons_eq_cons.2 ⟨by omega, rfl⟩⟩⟩⟩
set_option maxRecDepth 20000 in
set_option maxHeartbeats 2000000 in
theorem folded_any (v : Int) (hv : 0 ≤ v ∧ v < 57896044618658097711785492504343953926634992332820282019728792003956564819968) (w : World) :
    Calls Tryz.prog 113 #[.agg (u64s (q4 v)).toArray] w fun e w' => e = .returned (.agg (u64s (nm (fold5 v))).toArray) ∧ Below w.heap.size w w' := by
  obtain ⟨w0, h0⟩ : ∃ z, v % 18446744073709551616 = z := ⟨_, rfl⟩
  obtain ⟨w1, h1⟩ : ∃ z, v / 18446744073709551616 % 18446744073709551616 = z := ⟨_, rfl⟩
  obtain ⟨w2, h2⟩ : ∃ z, v / 340282366920938463463374607431768211456 % 18446744073709551616 = z := ⟨_, rfl⟩
  obtain ⟨w3, h3⟩ : ∃ z, v / 6277101735386680763835789423207666416102355444464034512896 = z := ⟨_, rfl⟩
  obtain ⟨n1, n2, n3⟩ := fold_words v w0 w1 w2 w3 hv h0 h1 h2 h3
  have CC : Hid ((∀ w, Calls Tryz.prog 114 #[.agg (u64s [w0, w1, w2 % 4]).toArray, .agg (u64s [w2 - w2 % 4, w3, 0]).toArray] w fun e w' => e = .returned (.agg (u64s (nm (v % 1361129467683753853853498429727072845824 + 4 * (v / 1361129467683753853853498429727072845824)))).toArray) ∧ Below w.heap.size w w') ∧ (∀ w, Calls Tryz.prog 114 #[.agg (u64s (nm (v % 1361129467683753853853498429727072845824 + 4 * (v / 1361129467683753853853498429727072845824)))).toArray, .agg (u64s [w2 / 4 + w3 % 4 * 4611686018427387904, w3 / 4, 0]).toArray] w fun e w' => e = .returned (.agg (u64s (nm (fold5 v))).toArray) ∧ Below w.heap.size w w')) := by
    rw [← n1, ← n2, ← n3]
    refine ⟨nplus_any _ _ (by omega) (by omega) (by omega), ?_⟩
    have e : fold5 v = v % 1361129467683753853853498429727072845824 + 4 * (v / 1361129467683753853853498429727072845824) + v / 1361129467683753853853498429727072845824 := by unfold fold5; omega
    rw [e]
    exact nplus_any _ _ (by omega) (by omega) (by omega)
  have eq : q4 v = [w0, w1, w2, w3] := by unfold q4; rw [h0, h1, h2, h3]
  have b1 := and3 w2 (by omega) (by omega)
  have b2 := andNot3 w2 (by omega) (by omega)
  have b3 : IntKind.u64.wrap (w3 * 4611686018427387904) = w3 % 4 * 4611686018427387904 := by rw [IntKind.wrap_u64]; omega
  have b4 := or_high (w2 / 4) (w3 % 4) (by omega) (by omega)
  obtain ⟨F, hF⟩ : ∃ z, nm (fold5 v) = z := ⟨_, rfl⟩
  have HF : Hid (F.length = 3) := by rw [← hF]; rfl
  rw [eq]
  rw [hF] at CC ⊢
  obtain ⟨M, hM⟩ : ∃ z, nm (v % 1361129467683753853853498429727072845824 + 4 * (v / 1361129467683753853853498429727072845824)) = z := ⟨_, rfl⟩
  rw [hM] at CC
  clear hv h0 h1 h2 h3 n1 n2 n3 eq hF hM
  go_enter Tryz.func113, Tryz.ntmps113
  go_wp2_with (first | (refine wpList_box_new rfl 137 _ rfl (u64s [w0, w1, w2, w3]) rfl ?_; intro x1 b1 s1 l1) | ((with_reducible show wpList _ _ _ _ _ x1); refine wpList_alloc_new rfl 154 rfl 3 _ zeroNumber ?_; intro x2 y2 s2 l2; have m1 := b1.later l2 (by omega); have cA : x2.cell? ⟨w.heap.size, 0, none⟩ = some (.int .u64 w0) := m1.cell 0; have cB : x2.cell? ⟨w.heap.size, 1, none⟩ = some (.int .u64 w1) := m1.cell 1; have cC : x2.cell? ⟨w.heap.size, 2, none⟩ = some (.int .u64 w2) := m1.cell 2; have cD : x2.cell? ⟨w.heap.size, 3, none⟩ = some (.int .u64 w3) := m1.cell 3) | ((with_reducible show wpList _ _ _ _ _ x2); refine wpList_build rfl 154 _ rfl #[(0, .int .u64 w0), (1, .int .u64 w1), (2, .int .u64 (w2 % 4))] (by simp [Act.eval]) _ (build_three _ _ _ _) ?_) | ((with_reducible show wpList _ _ _ _ _ x2); refine wpList_alloc_new rfl 154 rfl 3 _ zeroNumber ?_; intro x3 y3 s3 l3) | ((with_reducible show wpList _ _ _ _ _ x3); refine wpList_store_blk rfl 154 154 _ _ rfl _ rfl _ (u64s [w0, w1, w2 % 4]) rfl y3 rfl sizeNumber (u64s_one _) ?_; intro x4 y4 s4 k4; have m4 := (m1.later l3 (by omega)).kept k4 (by omega); have cE : x4.cell? ⟨w.heap.size, 2, none⟩ = some (.int .u64 w2) := m4.cell 2; have cF : x4.cell? ⟨w.heap.size, 3, none⟩ = some (.int .u64 w3) := m4.cell 3) | ((with_reducible show wpList _ _ _ _ _ x4); refine wpList_build rfl 154 _ rfl #[(0, .int .u64 (w2 - w2 % 4)), (1, .int .u64 w3)] (by simp [Act.eval]) _ (build_two3 _ _ _) ?_) | ((with_reducible show wpList _ _ _ _ _ x4); refine wpList_alloc_new rfl 154 rfl 3 _ zeroNumber ?_; intro x5 y5 s5 l5) | ((with_reducible show wpList _ _ _ _ _ x5); refine wpList_store_blk rfl 154 154 _ _ rfl _ rfl _ (u64s [w2 - w2 % 4, w3, 0]) rfl y5 rfl sizeNumber (u64s_one _) ?_; intro x6 y6 s6 k6; have m6 := (m4.later l5 (by omega)).kept k6 (by omega); have cG : x6.cell? ⟨w.heap.size, 2, none⟩ = some (.int .u64 w2) := m6.cell 2; have cH : x6.cell? ⟨w.heap.size, 3, none⟩ = some (.int .u64 w3) := m6.cell 3) | ((with_reducible show wpList _ _ _ _ _ x6); refine wpList_build rfl 154 _ rfl #[(0, .int .u64 (w2 / 4 + w3 % 4 * 4611686018427387904)), (1, .int .u64 (w3 / 4))] (by simp [Act.eval]) _ (build_two3 _ _ _) ?_) | ((with_reducible show wpList _ _ _ _ _ x6); refine wpList_alloc_new rfl 154 rfl 3 _ zeroNumber ?_; intro x7 y7 s7 l7) | ((with_reducible show wpList _ _ _ _ _ x7); refine wpList_store_blk rfl 154 154 _ _ rfl _ rfl _ (u64s [w2 / 4 + w3 % 4 * 4611686018427387904, w3 / 4, 0]) rfl y7 rfl sizeNumber (u64s_one _) ?_; intro x8 y8 s8 k8))
  try simp only [Act.put, List.setIfInBounds_toArray, List.set_cons_zero, List.set_cons_succ]
  obtain ⟨G, hG⟩ : ∃ G, x6.heap.size = G := ⟨_, rfl⟩
  rw [hG] at y8 k8 ⊢
  have HB : Hid (Blk x8 (w.heap.size + 1 + 1) 154 (u64s [w0, w1, w2 % 4]) ∧ Blk x8 (w.heap.size + 1 + 1 + 1) 154 (u64s [w2 - w2 % 4, w3, 0]) ∧ Blk x8 G 154 (u64s [w2 / 4 + w3 % 4 * 4611686018427387904, w3 / 4, 0]) ∧ Blk x8 (w.heap.size + 1) 154 (u64s [0, 0, 0]) ∧ Below w.heap.size w x8) := by
    rw [s1] at y2
    rw [s2, s1] at y4
    rw [s4, s3, s2, s1] at y6
    exact ⟨(((y4.later l5 (by omega)).kept k6 (by omega)).later l7 (by omega)).kept k8 (by omega), (y6.later l7 (by omega)).kept k8 (by omega), y8, (((((y2.later l3 (by omega)).kept k4 (by omega)).later l5 (by omega)).kept k6 (by omega)).later l7 (by omega)).kept k8 (by omega), below_kept (below_chain (below_kept (below_chain (below_kept (below_chain (below_chain l1 l2 (by omega)) l3 (by omega)) k4 (by omega) (fun j hj => by omega)) l5 (by omega)) k6 (by omega) (fun j hj => by omega)) l7 (by omega)) k8 (by omega) (fun j hj => by omega)⟩
  clear b1 s1 l1 y2 s2 l2 m1 cA cB cC cD y3 s3 l3 y4 s4 k4 m4 cE cF y5 s5 l5 y6 s6 k6 m6 cG cH y7 s7 l7 y8 s8 k8 hG
  refine region_inv [.val (.agg (u64s [w0, w1, w2 % 4]).toArray), .val (.agg (u64s [w2 - w2 % 4, w3, 0]).toArray), .val (.agg (u64s M).toArray), .val (.agg (u64s [w2 / 4 + w3 % 4 * 4611686018427387904, w3 / 4, 0]).toArray), .val (.agg (u64s F).toArray)] (by kernel_rfl) (by kernel_rfl) (by kernel_rfl) ?_ ?_
  · refine Steps'.cons ?_ (Steps'.cons ?_ (Steps'.cons ?_ (Steps'.cons ?_ (Steps'.cons ?_ (Steps'.one _ _ _ _ _ _ _)))))
    · intro ax wx hb hs hd
      have h3 : ax.tmps.getD 3 undef = (.pointer (some ⟨w.heap.size + 1 + 1, 0, none⟩)) := hs 3 (by kernel_rfl)
      exact Does.load 154 (.tmp 3) rfl (w.heap.size + 1 + 1) 0 h3 (u64s [w0, w1, w2 % 4]) _ ((Blk.later HB.out.1 hb (Blk.lt HB.out.1)).whole) Tryz.underlying154 rfl sizeNumber
    · intro ax wx hb hs hd
      have h4 : ax.tmps.getD 4 undef = (.pointer (some ⟨w.heap.size + 1 + 1 + 1, 0, none⟩)) := hs 4 (by kernel_rfl)
      exact Does.load 154 (.tmp 4) rfl (w.heap.size + 1 + 1 + 1) 0 h4 (u64s [w2 - w2 % 4, w3, 0]) _ ((Blk.later HB.out.2.1 hb (Blk.lt HB.out.2.1)).whole) Tryz.underlying154 rfl sizeNumber
    · intro ax wx hb hs hd
      have h31 : ax.tmps.getD 31 undef = (.agg (u64s [w0, w1, w2 % 4]).toArray) := hd 0 31 rfl (by kernel_rfl) (by decide)
      have h32 : ax.tmps.getD 32 undef = (.agg (u64s [w2 - w2 % 4, w3, 0]).toArray) := hd 1 32 rfl (by kernel_rfl) (by decide)
      refine Does.call 114 #[(.agg (u64s [w0, w1, w2 % 4]).toArray), (.agg (u64s [w2 - w2 % 4, w3, 0]).toArray)] (by go_simp) ?_
      refine (CC.out.1 _).mono ?_
      rintro z w' ⟨rfl, l⟩
      exact ⟨_, rfl, rfl, l⟩
    · intro ax wx hb hs hd
      have h5 : ax.tmps.getD 5 undef = (.pointer (some ⟨G, 0, none⟩)) := hs 5 (by kernel_rfl)
      exact Does.load 154 (.tmp 5) rfl G 0 h5 (u64s [w2 / 4 + w3 % 4 * 4611686018427387904, w3 / 4, 0]) _ ((Blk.later HB.out.2.2.1 hb (Blk.lt HB.out.2.2.1)).whole) Tryz.underlying154 rfl sizeNumber
    · intro ax wx hb hs hd
      have h33 : ax.tmps.getD 33 undef = (.agg (u64s M).toArray) := hd 2 33 rfl (by kernel_rfl) (by decide)
      have h34 : ax.tmps.getD 34 undef = (.agg (u64s [w2 / 4 + w3 % 4 * 4611686018427387904, w3 / 4, 0]).toArray) := hd 3 34 rfl (by kernel_rfl) (by decide)
      refine Does.call 114 #[(.agg (u64s M).toArray), (.agg (u64s [w2 / 4 + w3 % 4 * 4611686018427387904, w3 / 4, 0]).toArray)] (by go_simp) ?_
      refine (CC.out.2 _).mono ?_
      rintro z w' ⟨rfl, l⟩
      exact ⟨_, rfl, rfl, l⟩
  · intro wx hb
    refine @Ends.val _ _ _ _ _ _ _ _ _ (.agg (u64s [w0, w1, w2 % 4]).toArray) rfl ?_
    refine @Ends.val _ _ _ _ _ _ _ _ _ (.agg (u64s [w2 - w2 % 4, w3, 0]).toArray) rfl ?_
    refine @Ends.val _ _ _ _ _ _ _ _ _ (.agg (u64s M).toArray) rfl ?_
    refine @Ends.val _ _ _ _ _ _ _ _ _ (.agg (u64s [w2 / 4 + w3 % 4 * 4611686018427387904, w3 / 4, 0]).toArray) rfl ?_
    refine @Ends.val _ _ _ _ _ _ _ _ _ (.agg (u64s F).toArray) rfl ?_
    refine @Ends.one _ _ _ _ _ _ _ ?_
    simp only [Act.put, List.setIfInBounds_toArray, List.set_cons_zero, List.set_cons_succ]
    have q := HB.out.2.2.2.1
    refine last_store 154 (.tmp 2) (.tmp 35) rfl rfl _ rfl 154 _ (u64s F) rfl (q.later hb q.lt) (by rw [u64s_length, HF.out]; rfl) (by rw [u64s_length, HF.out]; exact sizeNumber) (u64s_one _) ?_
    intro x9 y9 s9 k9
    have HC : Hid (Below w.heap.size w x9) := below_kept (below_chain HB.out.2.2.2.2 hb (by have := HB.out.2.2.2.2.size; omega)) k9 (by have := HB.out.2.2.2.2.size; have := hb.size; omega) (fun j hj => by omega)
    clear hb k9 s9 q
    go_wp2_with fail
    exact ret_blk rfl (w.heap.size + 1) _ _ rfl y9 Tryz.underlying154 rfl (by rw [u64s_length, HF.out]; exact sizeNumber) rfl ⟨rfl, HC.out⟩
theorem red_words (x x0 x1 x2 : Int) (h : 0 ≤ x ∧ x < 2722258935367507707706996859454145691638) (h0 : x % 18446744073709551616 = x0) (h1 : x / 18446744073709551616 % 18446744073709551616 = x1) (h2 : x / 340282366920938463463374607431768211456 = x2) :
    nm (x % prime) = (if x < prime then [x0, x1, x2] else [(x0 - 18446744073709551611) % 18446744073709551616, (x1 - 18446744073709551615 - bor x0 18446744073709551611) % 18446744073709551616, (x2 - 3 - bor x1 (18446744073709551615 + bor x0 18446744073709551611)) % 18446744073709551616]) ∧ bor x2 (3 + bor x1 (18446744073709551615 + bor x0 18446744073709551611)) = if x < prime then 1 else 0 := by
  by_cases hp : x < 1361129467683753853853498429727072845819
  · have e : x % prime = x := Int.emod_eq_of_lt h.1 hp
    rw [if_pos hp, if_pos hp, e]
    refine ⟨by unfold nm; rw [h0, h1, h2], ?_⟩
    unfold bor
    split <;> split <;> split <;> first | rfl | omega
  · have e : x % prime = x - 1361129467683753853853498429727072845819 := by
      show x % 1361129467683753853853498429727072845819 = _
      omega
    rw [if_neg hp, if_neg hp, e]
    unfold nm bor
    refine ⟨List.cons_eq_cons.2 ⟨by omega, List.cons_eq_cons.2 ⟨?_, List.cons_eq_cons.2 ⟨?_, rfl⟩⟩⟩, ?_⟩
    · split <;> omega
    · split <;> split <;> omega
    · split <;> split <;> split <;> first | rfl | omega
set_option maxRecDepth 20000 in
set_option maxHeartbeats 2000000 in
theorem reduced_any (x : Int) (hx : 0 ≤ x ∧ x < 2722258935367507707706996859454145691638) (w : World) :
    Calls Tryz.prog 104 #[.agg (u64s (nm x)).toArray] w fun e w' => e = .returned (.agg (u64s (nm (x % prime))).toArray) ∧ Below w.heap.size w w' := by
  obtain ⟨x0, h0⟩ : ∃ z, x % 18446744073709551616 = z := ⟨_, rfl⟩
  obtain ⟨x1, h1⟩ : ∃ z, x / 18446744073709551616 % 18446744073709551616 = z := ⟨_, rfl⟩
  obtain ⟨x2, h2⟩ : ∃ z, x / 340282366920938463463374607431768211456 = z := ⟨_, rfl⟩
  obtain ⟨n1, n2⟩ := red_words x x0 x1 x2 hx h0 h1 h2
  have en : nm x = [x0, x1, x2] := by unfold nm; rw [h0, h1, h2]
  have k0 : Word x0 := ⟨by omega, by omega⟩
  have k1 : Word x1 := ⟨by omega, by omega⟩
  have k2 : Word x2 := ⟨by omega, by omega⟩
  obtain ⟨c1, hc1⟩ : ∃ z, bor x0 18446744073709551611 = z := ⟨_, rfl⟩
  obtain ⟨c2, hc2⟩ : ∃ z, bor x1 (18446744073709551615 + c1) = z := ⟨_, rfl⟩
  obtain ⟨c3, hc3⟩ : ∃ z, bor x2 (3 + c2) = z := ⟨_, rfl⟩
  obtain ⟨y0, hy0⟩ : ∃ z, (x0 - 18446744073709551611) % 18446744073709551616 = z := ⟨_, rfl⟩
  obtain ⟨y1, hy1⟩ : ∃ z, (x1 - 18446744073709551615 - c1) % 18446744073709551616 = z := ⟨_, rfl⟩
  obtain ⟨y2, hy2⟩ : ∃ z, (x2 - 3 - c2) % 18446744073709551616 = z := ⟨_, rfl⟩
  rw [hc1, hc2] at n1 n2
  rw [hc3] at n2
  rw [hy0, hy1, hy2] at n1
  have d1 := bor_bd x0 18446744073709551611
  have d2 := bor_bd x1 (18446744073709551615 + c1)
  have d3 := bor_bd x2 (3 + c2)
  rw [hc1] at d1
  rw [hc2] at d2
  rw [hc3] at d3
  have S0 : ∀ w, (callFunc 116 #[.int .u64 x0, .int .u64 18446744073709551611, .int .u64 0]).run Tryz.prog w = .ok (.value (.tuple #[.int .u64 y0, .int .u64 c1])) w := by
    intro w; rw [sub64_0 x0 _ k0 (by decide), hc1, hy0]
  have S1 : ∀ w, (callFunc 116 #[.int .u64 x1, .int .u64 18446744073709551615, .int .u64 c1]).run Tryz.prog w = .ok (.value (.tuple #[.int .u64 y1, .int .u64 c2])) w := by
    intro w; rw [sub64 x1 _ c1 k1 (by decide) d1.1 d1.2, hc2, hy1]
  have S2 : ∀ w, (callFunc 116 #[.int .u64 x2, .int .u64 3, .int .u64 c2]).run Tryz.prog w = .ok (.value (.tuple #[.int .u64 y2, .int .u64 c3])) w := by
    intro w; rw [sub64 x2 _ c2 k2 (by decide) d2.1 d2.2, hc3, hy2]
  have j0 : Word y0 := ⟨by omega, by omega⟩
  have j1 : Word y1 := ⟨by omega, by omega⟩
  have j2 : Word y2 := ⟨by omega, by omega⟩
  obtain ⟨m, hm⟩ : ∃ z, mk (c3 % 2 == 1) = z := ⟨_, rfl⟩
  have em : [pk m x0 y0, pk m x1 y1, pk m x2 y2] = nm (x % prime) := by
    rw [n1, ← hm, n2]
    by_cases hp : x < prime
    · rw [if_pos hp, if_pos hp]
      show [pk 18446744073709551615 x0 y0, pk 18446744073709551615 x1 y1, pk 18446744073709551615 x2 y2] = _
      rw [pk_ones _ _ k0 j0, pk_ones _ _ k1 j1, pk_ones _ _ k2 j2]
    · rw [if_neg hp, if_neg hp]
      show [pk 0 x0 y0, pk 0 x1 y1, pk 0 x2 y2] = _
      rw [pk_zero _ _ j0.1, pk_zero _ _ j1.1, pk_zero _ _ j2.1]
  have km : Word m := by rw [← hm]; exact mk_bd _
  obtain ⟨p0, hp0⟩ : ∃ z, pk m x0 y0 = z := ⟨_, rfl⟩
  obtain ⟨p1, hp1⟩ : ∃ z, pk m x1 y1 = z := ⟨_, rfl⟩
  obtain ⟨p2, hp2⟩ : ∃ z, pk m x2 y2 = z := ⟨_, rfl⟩
  have CC : Hid ((∀ w, Calls Tryz.prog 117 #[.int .u64 m, .int .u64 x0, .int .u64 y0] w fun e w' => e = .returned (.int .u64 p0) ∧ w = w') ∧ (∀ w, Calls Tryz.prog 117 #[.int .u64 m, .int .u64 x1, .int .u64 y1] w fun e w' => e = .returned (.int .u64 p1) ∧ w = w') ∧ (∀ w, Calls Tryz.prog 117 #[.int .u64 m, .int .u64 x2, .int .u64 y2] w fun e w' => e = .returned (.int .u64 p2) ∧ w = w') ∧ (∀ w, Calls Tryz.prog 106 #[.int .u64 c3] w fun e w' => e = .returned (.int .u64 m) ∧ w = w')) := by
    rw [← hp0, ← hp1, ← hp2]
    refine ⟨pick_any _ _ _ km k0 j0, pick_any _ _ _ km k1 j1, pick_any _ _ _ km k2 j2, ?_⟩
    have := bit_any c3 ⟨d3.1, by omega⟩
    rwa [hm] at this
  rw [en, ← em, hp0, hp1, hp2]
  clear hx h0 h1 h2 n1 n2 en k0 k1 k2 hc1 hc2 hc3 hy0 hy1 hy2 d1 d2 d3 j0 j1 j2 hm em km hp0 hp1 hp2
  go_enter Tryz.func104, Tryz.ntmps104
  go_wp2_with (first | (refine wpList_box_new rfl 154 _ rfl (u64s [x0, x1, x2]) rfl ?_; intro z1 b1 s1 l1) | (refine wpList_alloc_new rfl 154 rfl 3 _ zeroNumber ?_; intro z2 b2 s2 l2; have m1 := b1.later l2 (by omega); have cA : z2.cell? ⟨w.heap.size, 0, none⟩ = some (.int .u64 x0) := m1.cell 0; have cB : z2.cell? ⟨w.heap.size, 1, none⟩ = some (.int .u64 x1) := m1.cell 1; have cC : z2.cell? ⟨w.heap.size, 2, none⟩ = some (.int .u64 x2) := m1.cell 2) | (go_at_call 106; refine (CC.out.2.2.2 _).mono ?_; rintro e w' ⟨rfl, rfl⟩))
  try simp only [Act.put, List.setIfInBounds_toArray, List.set_cons_zero, List.set_cons_succ]
  have HB : Hid (Blk z2 w.heap.size 154 (u64s [x0, x1, x2]) ∧ Blk z2 (w.heap.size + 1) 154 (u64s [0, 0, 0]) ∧ Below w.heap.size w z2) := by
    rw [s1] at b2
    exact ⟨m1, b2, below_chain l1 l2 (by omega)⟩
  clear b1 s1 l1 b2 s2 l2 m1 cA cB cC
  refine region_inv [.val (.int .u64 m), .val (.pointer (some ⟨w.heap.size, 0, none⟩)), .val (.int .u64 x0), .val (.int .u64 y0), .val (.int .u64 p0), .val (.int .u64 m), .val (.pointer (some ⟨w.heap.size, 1, none⟩)), .val (.int .u64 x1), .val (.int .u64 y1), .val (.int .u64 p1), .val (.int .u64 m), .val (.pointer (some ⟨w.heap.size, 2, none⟩)), .val (.int .u64 x2), .val (.int .u64 y2), .val (.int .u64 p2), .val (.agg (u64s [p0, p1, p2]).toArray)] (by kernel_rfl) (by kernel_rfl) (by kernel_rfl) ?_ ?_
  · refine Steps'.cons ?_ (Steps'.cons ?_ (Steps'.cons ?_ (Steps'.cons ?_ (Steps'.cons ?_ (Steps'.cons ?_ (Steps'.cons ?_ (Steps'.cons ?_ (Steps'.cons ?_ (Steps'.cons ?_ (Steps'.cons ?_ (Steps'.cons ?_ (Steps'.cons ?_ (Steps'.cons ?_ (Steps'.cons ?_ (Steps'.cons ?_ (Steps'.one _ _ _ _ _ _ _))))))))))))))))
    · intro ax wx hb hs hd
      have h7 : ax.tmps.getD 7 undef = (.int .u64 m) := hs 7 (by kernel_rfl)
      refine Does.value (.int .u64 m) ?_ rfl
      go_simp
    · intro ax wx hb hs hd
      have h1 : ax.tmps.getD 1 undef = (.pointer (some ⟨w.heap.size, 0, none⟩)) := hs 1 (by kernel_rfl)
      refine Does.value (.pointer (some ⟨w.heap.size, 0, none⟩)) ?_ rfl
      go_simp
    · intro ax wx hb hs hd
      have h31 : ax.tmps.getD 31 undef = (.pointer (some ⟨w.heap.size, 0, none⟩)) := hd 1 31 rfl (by kernel_rfl) (by decide)
      have cx : wx.cell? ⟨w.heap.size, 0, none⟩ = some (.int .u64 x0) := (Blk.later HB.out.1 hb (Blk.lt HB.out.1)).cell 0
      refine Does.value (.int .u64 x0) ?_ rfl
      go_simp
    · intro ax wx hb hs hd
      have h3 : ax.tmps.getD 3 undef = (.int .u64 y0) := hs 3 (by kernel_rfl)
      refine Does.value (.int .u64 y0) ?_ rfl
      go_simp
    · intro ax wx hb hs hd
      have h30 : ax.tmps.getD 30 undef = (.int .u64 m) := hd 0 30 rfl (by kernel_rfl) (by decide)
      have h32 : ax.tmps.getD 32 undef = (.int .u64 x0) := hd 2 32 rfl (by kernel_rfl) (by decide)
      have h33 : ax.tmps.getD 33 undef = (.int .u64 y0) := hd 3 33 rfl (by kernel_rfl) (by decide)
      refine Does.call 117 #[(.int .u64 m), (.int .u64 x0), (.int .u64 y0)] (by go_simp) ?_
      refine (CC.out.1 _).mono ?_
      rintro z w' ⟨rfl, rfl⟩
      exact ⟨_, rfl, rfl, Below.refl _ _⟩
    · intro ax wx hb hs hd
      have h7 : ax.tmps.getD 7 undef = (.int .u64 m) := hs 7 (by kernel_rfl)
      refine Does.value (.int .u64 m) ?_ rfl
      go_simp
    · intro ax wx hb hs hd
      have h1 : ax.tmps.getD 1 undef = (.pointer (some ⟨w.heap.size, 0, none⟩)) := hs 1 (by kernel_rfl)
      refine Does.value (.pointer (some ⟨w.heap.size, 1, none⟩)) ?_ rfl
      go_simp
    · intro ax wx hb hs hd
      have h36 : ax.tmps.getD 36 undef = (.pointer (some ⟨w.heap.size, 1, none⟩)) := hd 6 36 rfl (by kernel_rfl) (by decide)
      have cx : wx.cell? ⟨w.heap.size, 1, none⟩ = some (.int .u64 x1) := (Blk.later HB.out.1 hb (Blk.lt HB.out.1)).cell 1
      refine Does.value (.int .u64 x1) ?_ rfl
      go_simp
    · intro ax wx hb hs hd
      have h5 : ax.tmps.getD 5 undef = (.int .u64 y1) := hs 5 (by kernel_rfl)
      refine Does.value (.int .u64 y1) ?_ rfl
      go_simp
    · intro ax wx hb hs hd
      have h35 : ax.tmps.getD 35 undef = (.int .u64 m) := hd 5 35 rfl (by kernel_rfl) (by decide)
      have h37 : ax.tmps.getD 37 undef = (.int .u64 x1) := hd 7 37 rfl (by kernel_rfl) (by decide)
      have h38 : ax.tmps.getD 38 undef = (.int .u64 y1) := hd 8 38 rfl (by kernel_rfl) (by decide)
      refine Does.call 117 #[(.int .u64 m), (.int .u64 x1), (.int .u64 y1)] (by go_simp) ?_
      refine (CC.out.2.1 _).mono ?_
      rintro z w' ⟨rfl, rfl⟩
      exact ⟨_, rfl, rfl, Below.refl _ _⟩
    · intro ax wx hb hs hd
      have h7 : ax.tmps.getD 7 undef = (.int .u64 m) := hs 7 (by kernel_rfl)
      refine Does.value (.int .u64 m) ?_ rfl
      go_simp
    · intro ax wx hb hs hd
      have h1 : ax.tmps.getD 1 undef = (.pointer (some ⟨w.heap.size, 0, none⟩)) := hs 1 (by kernel_rfl)
      refine Does.value (.pointer (some ⟨w.heap.size, 2, none⟩)) ?_ rfl
      go_simp
    · intro ax wx hb hs hd
      have h41 : ax.tmps.getD 41 undef = (.pointer (some ⟨w.heap.size, 2, none⟩)) := hd 11 41 rfl (by kernel_rfl) (by decide)
      have cx : wx.cell? ⟨w.heap.size, 2, none⟩ = some (.int .u64 x2) := (Blk.later HB.out.1 hb (Blk.lt HB.out.1)).cell 2
      refine Does.value (.int .u64 x2) ?_ rfl
      go_simp
    · intro ax wx hb hs hd
      have h6 : ax.tmps.getD 6 undef = (.int .u64 y2) := hs 6 (by kernel_rfl)
      refine Does.value (.int .u64 y2) ?_ rfl
      go_simp
    · intro ax wx hb hs hd
      have h40 : ax.tmps.getD 40 undef = (.int .u64 m) := hd 10 40 rfl (by kernel_rfl) (by decide)
      have h42 : ax.tmps.getD 42 undef = (.int .u64 x2) := hd 12 42 rfl (by kernel_rfl) (by decide)
      have h43 : ax.tmps.getD 43 undef = (.int .u64 y2) := hd 13 43 rfl (by kernel_rfl) (by decide)
      refine Does.call 117 #[(.int .u64 m), (.int .u64 x2), (.int .u64 y2)] (by go_simp) ?_
      refine (CC.out.2.2.1 _).mono ?_
      rintro z w' ⟨rfl, rfl⟩
      exact ⟨_, rfl, rfl, Below.refl _ _⟩
    · intro ax wx hb hs hd
      have h34 : ax.tmps.getD 34 undef = (.int .u64 p0) := hd 4 34 rfl (by kernel_rfl) (by decide)
      have h39 : ax.tmps.getD 39 undef = (.int .u64 p1) := hd 9 39 rfl (by kernel_rfl) (by decide)
      have h44 : ax.tmps.getD 44 undef = (.int .u64 p2) := hd 14 44 rfl (by kernel_rfl) (by decide)
      exact Does.build 154 _ rfl #[(0, .int .u64 p0), (1, .int .u64 p1), (2, .int .u64 p2)] (by simp only [List.map_toArray, List.map_cons, List.map_nil, Act.eval, h34, h39, h44]) _ (build_three _ _ _ _)
  · intro wx hb
    refine @Ends.val _ _ _ _ _ _ _ _ _ (.int .u64 m) rfl ?_
    refine @Ends.val _ _ _ _ _ _ _ _ _ (.pointer (some ⟨w.heap.size, 0, none⟩)) rfl ?_
    refine @Ends.val _ _ _ _ _ _ _ _ _ (.int .u64 x0) rfl ?_
    refine @Ends.val _ _ _ _ _ _ _ _ _ (.int .u64 y0) rfl ?_
    refine @Ends.val _ _ _ _ _ _ _ _ _ (.int .u64 p0) rfl ?_
    refine @Ends.val _ _ _ _ _ _ _ _ _ (.int .u64 m) rfl ?_
    refine @Ends.val _ _ _ _ _ _ _ _ _ (.pointer (some ⟨w.heap.size, 1, none⟩)) rfl ?_
    refine @Ends.val _ _ _ _ _ _ _ _ _ (.int .u64 x1) rfl ?_
    refine @Ends.val _ _ _ _ _ _ _ _ _ (.int .u64 y1) rfl ?_
    refine @Ends.val _ _ _ _ _ _ _ _ _ (.int .u64 p1) rfl ?_
    refine @Ends.val _ _ _ _ _ _ _ _ _ (.int .u64 m) rfl ?_
    refine @Ends.val _ _ _ _ _ _ _ _ _ (.pointer (some ⟨w.heap.size, 2, none⟩)) rfl ?_
    refine @Ends.val _ _ _ _ _ _ _ _ _ (.int .u64 x2) rfl ?_
    refine @Ends.val _ _ _ _ _ _ _ _ _ (.int .u64 y2) rfl ?_
    refine @Ends.val _ _ _ _ _ _ _ _ _ (.int .u64 p2) rfl ?_
    refine @Ends.val _ _ _ _ _ _ _ _ _ (.agg (u64s [p0, p1, p2]).toArray) rfl ?_
    refine @Ends.one _ _ _ _ _ _ _ ?_
    simp only [Act.put, List.setIfInBounds_toArray, List.set_cons_zero, List.set_cons_succ]
    have q := HB.out.2.1
    refine last_store 154 (.tmp 2) (.tmp 45) rfl rfl _ rfl 154 _ (u64s [p0, p1, p2]) rfl (q.later hb q.lt) rfl sizeNumber (u64s_one _) ?_
    intro x9 y9 s9 k9
    have HC : Hid (Below w.heap.size w x9) := below_kept (below_chain HB.out.2.2 hb (by have := HB.out.2.2.size; omega)) k9 (by have := HB.out.2.2.size; have := hb.size; omega) (fun j hj => by omega)
    clear hb k9 s9 q
    go_wp2_with fail
    exact ret_blk rfl (w.heap.size + 1) _ _ rfl y9 Tryz.underlying154 rfl sizeNumber rfl ⟨rfl, HC.out⟩
end Go.Proofs.YtcimiajkbgabiaaGreat
