/- Layer seal, the document's: Xor of stream, TooLong, filled. -/
import Derived.Test.YtogplebajpdmoaaRSXor
import Derived.Test.YtogplebajpdmoaaBL
import Derived.Test.YtogplebajpdmoaaBU
namespace Go.Proofs.Ytogplebajpdmoaa
open Go.RowKit
set_option linter.unusedVariables false
set_option linter.unusedSimpArgs false

set_option maxRecDepth 20000 in
set_option maxHeartbeats 1000000 in
theorem rxor_any (key nonce : List Int) (ctr n c : Nat) (ao : Option Addr) (zs : List Int) (hk : key.length = 32) (hno : nonce.length = 12) (hkb : Bytes key) (hnb : Bytes nonce) (hct : ctr < 4294967296) (hc : n + 64 * ctr ≤ 274877906944) (w : World) (hx : Seen w ao n zs) :
    Calls Try.prog 88 #[.agg (u8s key).toArray, .agg (u8s nonce).toArray, .int .u32 ctr, .slice ao n c] w fun e w' => ∃ v, e = .returned v ∧ w'.ownsRow w.heap.size 5 1 v n ((over key nonce (64 * ctr) zs).map (Value.int .u8)) ∧ Below w.heap.size w w' := by
  have HX : Hid (Seen w ao n zs) := hx
  clear hx
  have HS : Hid (key.length = 32 ∧ nonce.length = 12 ∧ Bytes key ∧ Bytes nonce) := ⟨hk, hno, hkb, hnb⟩
  clear hk hno hkb hnb
  go_enter Try.func88, Try.ntmps88
  go_wp2_with (first | (refine wpList_box_new rfl 30 _ rfl (u8s key) rfl ?_; intro w1 b1 s1 l1) | (refine wpList_box_new rfl 25 _ rfl (u8s nonce) rfl ?_; intro w2 b2 s2 l2) | (refine wpList_load_blk rfl 30 _ rfl _ rfl (u8s key) _ (by first | exact b1.later l2 (by omega)) Try.underlying30 rfl (by rw [u8s_length, HS.out.1]; exact sizeKey) ?_) | (refine wpList_load_blk rfl 25 _ rfl _ rfl (u8s nonce) _ (by first | exact b2 | (rw [← s1]; exact b2)) Try.underlying25 rfl (by rw [u8s_length, HS.out.2.1]; exact sizeNonce) ?_) | (go_at_call 40; refine (rsnew_any key ctr nonce HS.out.1 HS.out.2.1 HS.out.2.2.1 HS.out.2.2.2 hct _).mono ?_; rintro e w3 ⟨g, rfl, hg, st3, l3⟩))
  have L3 : Below w.heap.size w w3 := below_chain (below_chain l1 l2 (by omega)) l3 (by omega)
  have hgw : w.heap.size ≤ g := by omega
  clear b1 s1 l1 b2 s2 l2 l3 hg
  refine (rsxor_any g key nonce (64 * ctr) n c ao zs hc w3 st3 (HX.out.later L3 (Nat.le_refl _))).mono ?_
  rintro e w4 ⟨v, rfl, o4, st4, k4⟩
  have HO : Hid (w4.ownsRow w.heap.size 5 1 v n ((over key nonce (64 * ctr) zs).map (Value.int .u8)) ∧ Below w.heap.size w w4) := ⟨ownsRow_base o4 L3.size, below_kept L3 k4 L3.size (fun j hj => by omega)⟩
  clear o4 st4 k4 st3 L3
  go_wp2_with fail
  go_ret
  exact ⟨_, rfl, HO.out⟩
def lngE (n m : Nat) : Int := if n ≤ 1048576 ∧ m ≤ 1048576 then 0 else 3
set_option maxRecDepth 20000 in
set_option maxHeartbeats 1000000 in
theorem rlong_any (ao bo : Option Addr) (n m c d : Nat) (w : World) : Calls Try.prog 51 #[.slice ao n c, .slice bo m d] w fun e w' => e = .returned (.int .i64 (lngE n m)) ∧ w = w' := by
  by_cases h1 : n ≤ 1048576
  · by_cases h2 : m ≤ 1048576
    · have e : lngE n m = 0 := by rw [lngE, if_pos ⟨h1, h2⟩]
      have i1 : ¬ (1048576 : Int) < (n : Int) := by omega
      have i2 : ¬ (1048576 : Int) < (m : Int) := by omega
      rw [e]
      clear e
      go_enter Try.func51, Try.ntmps51
      go_wp2_with fail
      go_ret
      exact ⟨rfl, rfl⟩
    · have e : lngE n m = 3 := by rw [lngE, if_neg (fun h => h2 h.2)]
      have i1 : ¬ (1048576 : Int) < (n : Int) := by omega
      have i2 : (1048576 : Int) < (m : Int) := by omega
      rw [e]
      clear e
      go_enter Try.func51, Try.ntmps51
      go_wp2_with fail
      go_ret
      exact ⟨rfl, rfl⟩
  · have e : lngE n m = 3 := by rw [lngE, if_neg (fun h => h1 h.1)]
    have i1 : (1048576 : Int) < (n : Int) := by omega
    rw [e]
    clear e
    go_enter Try.func51, Try.ntmps51
    go_wp2_with fail
    go_ret
    exact ⟨rfl, rfl⟩
def lenV : Value → Nat
  | .slice _ n _ => n
  | _ => 0
theorem zeros_bytes (k : Nat) : Bytes (List.replicate k 0) := fun z hz => by rw [List.eq_of_mem_replicate hz]; decide
set_option maxRecDepth 20000 in
set_option maxHeartbeats 1000000 in
theorem filled_any (ao : Option Addr) (n c : Nat) (zs : List Int) (hn : n + 16 ≤ 140737488355328) (w : World) (hx : Seen w ao n zs) :
    Calls Try.prog 110 #[.slice ao n c] w fun e w' => ∃ v, e = .returned v ∧ w'.ownsRow w.heap.size 5 1 v (n + fillN n) ((zs ++ fillL n).map (Value.int .u8)) ∧ Below w.heap.size w w' := by
  obtain ⟨i0, hi, hz0, hz1, hz2⟩ := info_parts info_byte
  have HZ : Hid (zs.length = n ∧ Bytes zs ∧ fillL n = List.replicate (fillN n) 0) := ⟨hx.len, hx.bytes, rfl⟩
  obtain ⟨K, hK⟩ : ∃ K, fillN n = K := ⟨_, rfl⟩
  have hK2 : K = (16 - n % 16) % 16 := by rw [← hK, fillN]
  have hKs : K < 16 := by omega
  rw [hK] at HZ ⊢
  rw [HZ.out.2.2]
  clear hK
  go_enter Try.func110, Try.ntmps110
  go_wp2_with fail
  refine (copyB_any ao n c zs w hx).mono ?_
  rintro e w1 ⟨v, rfl, o1, l1⟩
  have HO1 : Hid (w1.ownsRow w.heap.size 5 1 v n (zs.map (Value.int .u8)) ∧ Below w.heap.size w w1) := ⟨o1, l1⟩
  clear o1 l1 hx
  go_wp2_with fail
  go_loopw [3] (fun v wr => ∃ k, k ≤ K ∧ wr.ownsRow w.heap.size 5 1 v (n + k) ((zs ++ List.replicate k 0).map (Value.int .u8)) ∧ Below w.heap.size w wr) (fun v _ => n + K - lenV v)
  case atStart => exact ⟨0, Nat.zero_le _, by simpa using HO1.out.1, HO1.out.2⟩
  case round =>
    obtain ⟨k, hk, hown, hbel⟩ := hrel
    have hsz := hbel.size
    obtain ⟨vo, vc, rfl, _, _⟩ := own_seen (n := n + k) (zs := zs ++ List.replicate k 0) (by simp [HZ.out.1]) (bytes_app HZ.out.2.1 (zeros_bytes k)) (by omega) hown
    obtain ⟨N, hN⟩ : ∃ N, n + k = N := ⟨_, rfl⟩
    rw [hN] at hown ⊢
    obtain ⟨r, hr⟩ : ∃ r, N % 16 = r := ⟨_, rfl⟩
    have t1 : (N : Int).tmod 16 = (r : Int) := by rw [Int.tmod_eq_emod_of_nonneg (by omega)]; omega
    have t2 : (N : Int) % 16 = (r : Int) := by omega
    by_cases hlt : k < K
    · have f0 : ((r : Int) == 0) = false := by rw [beq_eq_false_iff_ne]; omega
      have f1 : ¬ (r : Int) = 0 := by omega
      have HN : Hid (n + k = N ∧ N % 16 = r) := ⟨hN, hr⟩
      have HB : Hid (Below w.heap.size w wr) := hbel
      clear hN hr hK2 hbel
      go_wp2_with (at_builtin; refine wpList_append_own _ rfl _ _ 31 rfl w.heap.size 5 i0 (.int .u8 0) 1 1 Try.underlying31 hi hz0 hz1 hz2 rfl (by decide) _ _ _ rfl (hown.alloc _) ⟨wr.heap.size, 0, none⟩ 1 1 [.int .u8 0] rfl rfl ?c1 ?c2 ?c3 ?c4 ?c5 ?_)
      try case c1 => exact one_new _ _ _
      case c2 => first | rfl | (intro u hu; simp at hu; subst hu; rfl)
      case c3 => have := HN.out; unfold maxLen; omega
      case c4 => have := HN.out; omega
      case c5 => first | omega | (simp; omega)
      · intro v' w2 hown' hgrow _
        have HL : Hid (∀ j, (Value.slice vo N vc).ownBlock = some j → w.heap.size ≤ j) := fun j hj => (hown.lt j hj).1
        have R : Hid (w2.ownsRow w.heap.size 5 1 v' (N + 1) ((zs ++ List.replicate (k + 1) 0).map (Value.int .u8)) ∧ Below w.heap.size w w2) := by
          refine ⟨?_, (HB.out.alloc hsz _).grown hgrow (HB.out.alloc hsz _).size HL.out⟩
          have e : List.map (Value.int .u8) (zs ++ List.replicate (k + 1) 0) = zs.map (Value.int .u8) ++ (List.replicate k (Value.int .u8 0) ++ [Value.int .u8 0]) := by simp [List.replicate_succ']
          rw [e]
          exact hown'
        obtain ⟨a', c', rfl, _, _⟩ := own_seen (n := N + 1) (zs := zs ++ List.replicate (k + 1) 0) (by simp [HZ.out.1]; have := HN.out; omega) (bytes_app HZ.out.2.1 (zeros_bytes _)) (by have := HN.out; omega) R.out.1
        clear hown' hgrow hown
        go_wp2_with fail
        refine ⟨⟨k + 1, by omega, ?_, R.out.2⟩, ?_⟩
        · have e := R.out.1
          rwa [show N + 1 = n + (k + 1) by have := HN.out; omega] at e ⊢
        · have := HN.out
          simp only [lenV]
          omega
    · obtain rfl : K = k := by omega
      have f0 : ((r : Int) == 0) = true := by rw [beq_iff_eq]; omega
      have f1 : (r : Int) = 0 := by omega
      have HO : Hid (wr.ownsRow w.heap.size 5 1 (.slice vo N vc) (n + K) ((zs ++ List.replicate K 0).map (Value.int .u8)) ∧ Below w.heap.size w wr) := ⟨by rw [hN]; exact hown, hbel⟩
      clear hown hbel hN hr
      go_wp2_with fail
      go_ret
      exact ⟨_, rfl, HO.out⟩
end Go.Proofs.Ytogplebajpdmoaa
