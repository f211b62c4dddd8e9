/- The statements' works of layer derive: the second case of RFC 4231. -/
import Derived.Test.YtiimjhahblmggaaDoorVMac
import Derived.Test.YtiimjhahblmggaaDoorVHex
import Derived.Lib.SmallJoins
namespace Go.Proofs.YtiimjhahblmggaaDoor
open Go.RowKit Go.Joins
set_option linter.unusedVariables false
set_option linter.unusedSimpArgs false

def jefe : List Int := [74, 101, 102, 101]
def want1 : List Int := [119, 104, 97, 116, 32, 100, 111, 32, 121, 97, 32]
def want2 : List Int := [119, 97, 110, 116, 32, 102, 111, 114, 32, 110, 111, 116, 104, 105, 110, 103, 63]
abbrev rfcS : ByteArray := { data := #[53, 98, 100, 99, 99, 49, 52, 54, 98, 102, 54, 48, 55, 53, 52, 101, 54, 97, 48, 52, 50, 52, 50, 54, 48, 56, 57, 53, 55, 53, 99, 55, 53, 97, 48, 48, 51, 102, 48, 56, 57, 100, 50, 55, 51, 57, 56, 51, 57, 100, 101, 99, 53, 56, 98, 57, 54, 52, 101, 99, 51, 56, 52, 51] }
theorem rfc_mac : unL (strL rfcS) 32 = mac jefe (want1 ++ want2) := by decide +kernel
theorem rfc_hex : ∀ i, i < rfcS.size → isHex ((strL rfcS).getD i 0) = true := by decide +kernel
set_option maxRecDepth 20000 in
set_option maxHeartbeats 1000000 in
theorem works_any (w : World) (hK : KTab w) : Calls Tryd.prog 18 #[] w fun e w' => e = .returned (.bool true) ∧ Below w.heap.size w w' := by
  have HK : Hid (KTab w) := hK
  clear hK
  obtain ⟨C1, hC1⟩ : ∃ C : Array Value, C = #[.int .u8 74, .int .u8 101, .int .u8 102, .int .u8 101] := ⟨_, rfl⟩
  obtain ⟨C2, hC2⟩ : ∃ C : Array Value, C = #[.int .u8 119, .int .u8 104, .int .u8 97, .int .u8 116, .int .u8 32, .int .u8 100, .int .u8 111, .int .u8 32, .int .u8 121, .int .u8 97, .int .u8 32] := ⟨_, rfl⟩
  obtain ⟨C3, hC3⟩ : ∃ C : Array Value, C = #[.int .u8 119, .int .u8 97, .int .u8 110, .int .u8 116, .int .u8 32, .int .u8 102, .int .u8 111, .int .u8 114, .int .u8 32, .int .u8 110, .int .u8 111, .int .u8 116, .int .u8 104, .int .u8 105, .int .u8 110, .int .u8 103, .int .u8 63] := ⟨_, rfl⟩
  have hc1 := run_convert_bytes_const_at (P := Tryd.prog) w 22 5 C1 4 4 w.heap.size rfl Tryd.underlying22 Tryd.underlying5
  rw [show C1.size = 4 by rw [hC1]; rfl] at hc1
  obtain ⟨w1, hw1⟩ : ∃ w1, w.alloc (.cells C1 5 (4, 5)) = w1 := ⟨_, rfl⟩
  have hz1 : w1.heap.size = w.heap.size + 1 := by rw [← hw1]; simp
  rw [show 4 + 1 = 5 from rfl, hw1] at hc1
  have hc2 := run_convert_bytes_const_at (P := Tryd.prog) w1 22 5 C2 11 11 w1.heap.size rfl Tryd.underlying22 Tryd.underlying5
  rw [show C2.size = 11 by rw [hC2]; rfl] at hc2
  obtain ⟨w2, hw2⟩ : ∃ w2, w1.alloc (.cells C2 5 (11, 12)) = w2 := ⟨_, rfl⟩
  rw [show 11 + 1 = 12 from rfl, hw2] at hc2
  have hz2 : w2.heap.size = w1.heap.size + 1 := by rw [← hw2]; simp
  have hc3 := run_convert_bytes_const_at (P := Tryd.prog) w2 22 5 C3 17 17 w2.heap.size rfl Tryd.underlying22 Tryd.underlying5
  rw [show C3.size = 17 by rw [hC3]; rfl] at hc3
  obtain ⟨w3, hw3⟩ : ∃ w3, w2.alloc (.cells C3 5 (17, 18)) = w3 := ⟨_, rfl⟩
  rw [show 17 + 1 = 18 from rfl, hw3] at hc3
  have hz3 : w3.heap.size = w2.heap.size + 1 := by rw [← hw3]; simp
  have s1 : Seen w1 (some ⟨w.heap.size, 0, none⟩) 4 jefe := by
    have q := seen_lit w jefe (4, 5) (by unfold Bytes; decide) (by decide)
    rw [show (jefe.map (Value.int .u8)).toArray = C1 by rw [hC1]; rfl, hw1] at q; exact q
  have s2 : Seen w2 (some ⟨w1.heap.size, 0, none⟩) 11 want1 := by
    have q := seen_lit w1 want1 (11, 12) (by unfold Bytes; decide) (by decide)
    rw [show (want1.map (Value.int .u8)).toArray = C2 by rw [hC2]; rfl, hw2] at q; exact q
  have s3 : Seen w3 (some ⟨w2.heap.size, 0, none⟩) 17 want2 := by
    have q := seen_lit w2 want2 (17, 18) (by unfold Bytes; decide) (by decide)
    rw [show (want2.map (Value.int .u8)).toArray = C3 by rw [hC3]; rfl, hw3] at q; exact q
  have l1 : Below w.heap.size w w1 := by rw [← hw1]; exact (Below.refl _ _).alloc (Nat.le_refl _) _
  have l2 : Below w1.heap.size w1 w2 := by rw [← hw2]; exact (Below.refl _ _).alloc (Nat.le_refl _) _
  have l3 : Below w2.heap.size w2 w3 := by rw [← hw3]; exact (Below.refl _ _).alloc (Nat.le_refl _) _
  have s4 := seenP2 w3 (some ⟨w1.heap.size, 0, none⟩) (some ⟨w2.heap.size, 0, none⟩) 11 17 11 17 want1 want2 (s2.later l3 (Nat.le_refl _)) s3 (Nat.le_refl _) (Nat.le_refl _)
  obtain ⟨w4, hw4⟩ : ∃ w4, w3.alloc (.cells #[.slice (some ⟨w1.heap.size, 0, none⟩) 11 11, .slice (some ⟨w2.heap.size, 0, none⟩) 17 17] 22) = w4 := ⟨_, rfl⟩
  have l4 : Below w3.heap.size w3 w4 := by rw [← hw4]; exact (Below.refl _ _).alloc (Nat.le_refl _) _
  rw [hw4] at s4
  have HB : Hid (Below w.heap.size w w4 ∧ SeenP w4 (some ⟨w3.heap.size, 0, none⟩) 2 [want1, want2] ∧ Seen w4 (some ⟨w.heap.size, 0, none⟩) 4 jefe ∧ KTab w4) := by
    have B4 := below_chain (below_chain (below_chain l1 l2 (by omega)) l3 (by omega)) l4 (by omega)
    exact ⟨B4, s4, ((s1.later l2 (Nat.le_refl _)).later l3 (Nat.le_refl _)).later l4 (Nat.le_refl _), HK.out.below B4 HK.out.lt⟩
  clear s1 s2 s3 s4 l1 l2 l3 l4 hw1 hw2 hw3
  subst hC1 hC2 hC3
  rw [hz3, hz2, hz1] at HB
  rw [hz2, hz1] at hc3
  rw [hz1] at hc2
  rw [hz2, hz1] at hw4
  go_enter Tryd.func18, Tryd.ntmps18
  go_wp2_with (first | (go_at_call 12; (refine (vsum_any _ 4 4 jefe _ 2 2 [want1, want2] w4 HB.out.2.2.1 (Nat.le_refl _) HB.out.2.1 (by decide) (by decide) HB.out.2.2.2).mono ?_); rintro e w5 ⟨rfl, l5⟩) | (go_at_call 37; refine (is_yes (mac jefe ([want1, want2] : List (List Int)).flatten) rfcS (mac_length _ _) (by decide) rfc_hex (rfc_mac.trans (congrArg (mac jefe) (by decide))) w5).mono ?_; rintro e w6 ⟨rfl, l6⟩))
  go_ret
  exact ⟨rfl, below_chain (below_chain HB.out.1 l5 HB.out.1.size) l6 (Nat.le_trans HB.out.1.size l5.size)⟩
end Go.Proofs.YtiimjhahblmggaaDoor
