/- Plain mathematics for layer derive: a key's frame, the code of a text, the bytes that are drawn. -/
import Derived.Test.YtiimjhahblmggaaDoorDDsum
namespace Go.Proofs.YtiimjhahblmggaaDoor
open Go.RowKit
set_option linter.unusedVariables false
set_option linter.unusedSimpArgs false

theorem bytesF_bytes (st : List Int) (k : Nat) : Bytes (bytesF st k) := by
  intro z hz
  simp only [bytesF, List.mem_map] at hz
  obtain ⟨i, _, rfl⟩ := hz
  unfold byteF
  omega
theorem sha_bytes (m : List Int) : Bytes (sha m) := bytesF_bytes _ _
theorem zer_bytes (n : Nat) : Bytes (zer n) := by
  intro z hz
  obtain rfl := List.eq_of_mem_replicate hz
  omega
/-- A key of at most 64 bytes: itself, or its hash. -/
def keyS (key : List Int) : List Int := if 64 < key.length then sha key else key
theorem keyS_le (key : List Int) : (keyS key).length ≤ 64 := by
  unfold keyS; split
  · rw [sha_length]; decide
  · omega
theorem keyS_bytes (key : List Int) (h : Bytes key) : Bytes (keyS key) := by
  unfold keyS; split
  · exact sha_bytes _
  · exact h
/-- A key's frame. -/
def frm (key : List Int) : List Int := keyS key ++ zer (64 - (keyS key).length)
theorem frm_length (key : List Int) : (frm key).length = 64 := by
  have := keyS_le key
  simp [frm, zer_length]; omega
theorem frm_bytes (key : List Int) (h : Bytes key) : Bytes (frm key) := bytes_app (keyS_bytes key h) (zer_bytes _)
/-- A frame turned by c. -/
def turn (c : Int) (l : List Int) : List Int := l.map fun z => bits .xor .u8 z c
theorem turn_length (c : Int) (l : List Int) : (turn c l).length = l.length := by simp [turn]
theorem turn_frm (c : Int) (key : List Int) : (turn c (frm key)).length = 64 := by rw [turn_length, frm_length]
theorem xor8_in (a b : Int) : 0 ≤ bits .xor .u8 a b ∧ bits .xor .u8 a b < 256 := by
  show 0 ≤ IntKind.u8.wrap _ ∧ IntKind.u8.wrap _ < 256
  simp only [IntKind.wrap, IntKind.bits, IntKind.signed]
  simp
  omega
theorem turn_bytes (c : Int) (l : List Int) : Bytes (turn c l) := by
  intro z hz
  simp only [turn, List.mem_map] at hz
  obtain ⟨i, _, rfl⟩ := hz
  exact xor8_in _ _
/-- The code of a text under a key. -/
def mac (key text : List Int) : List Int := sha (turn 92 (frm key) ++ sha (turn 54 (frm key) ++ text))
theorem mac_length (key text : List Int) : (mac key text).length = 32 := sha_length _
theorem mac_bytes (key text : List Int) : Bytes (mac key text) := sha_bytes _
theorem frm_pad (key : List Int) (z : Nat) (h : key.length + z ≤ 64) : frm (key ++ zer z) = frm key := by
  have h1 : keyS key = key := by unfold keyS; rw [if_neg (by omega)]
  have h2 : keyS (key ++ zer z) = key ++ zer z := by unfold keyS; rw [if_neg (by rw [List.length_append, zer_length]; omega)]
  rw [frm, frm, h1, h2, List.append_assoc, ← zer_add, List.length_append, zer_length]
  congr 2; omega
theorem mac_pad (key text : List Int) (z : Nat) (h : key.length + z ≤ 64) : mac (key ++ zer z) text = mac key text := by rw [mac, mac, frm_pad key z h]
/-- T(i). -/
def expT (prk info : List Int) : Nat → List Int
  | 0 => []
  | i + 1 => mac prk (expT prk info i ++ (info ++ [((i : Int) + 1) % 256]))
/-- T(1) .. T(k), one behind the other. -/
def expA (prk info : List Int) : Nat → List Int
  | 0 => []
  | i + 1 => expA prk info i ++ expT prk info (i + 1)
theorem expT_length (prk info : List Int) (i : Nat) : (expT prk info (i + 1)).length = 32 := mac_length _ _
theorem expA_length (prk info : List Int) (k : Nat) : (expA prk info k).length = 32 * k := by
  induction k with
  | zero => rfl
  | succ k ih => rw [expA, List.length_append, ih, expT_length]; omega
theorem expT_bytes (prk info : List Int) (i : Nat) : Bytes (expT prk info i) := by
  cases i with
  | zero => intro z hz; cases hz
  | succ i => exact mac_bytes _ _
theorem expA_bytes (prk info : List Int) (k : Nat) : Bytes (expA prk info k) := by
  induction k with
  | zero => intro z hz; cases hz
  | succ k ih => exact bytes_app ih (expT_bytes _ _ _)
theorem expA_take (prk info : List Int) (a b n : Nat) (hab : a ≤ b) (hn : n ≤ 32 * a) : (expA prk info b).take n = (expA prk info a).take n := by
  induction b with
  | zero => obtain rfl : a = 0 := by omega
            rfl
  | succ b ih =>
    rcases Nat.lt_or_ge b a with h | h
    · obtain rfl : a = b + 1 := by omega
      rfl
    · rw [expA, List.take_append_of_le_length (by rw [expA_length]; omega), ih h]
/-- The first n bytes that are drawn. -/
def exps (prk info : List Int) (n : Nat) : List Int := (expA prk info ((n + 31) / 32)).take n
theorem exps_length (prk info : List Int) (n : Nat) : (exps prk info n).length = n := by
  rw [exps, List.length_take, expA_length]; omega
theorem exps_bytes (prk info : List Int) (n : Nat) : Bytes (exps prk info n) := bytes_take (expA_bytes _ _ _) _
theorem exps_take (prk info : List Int) (m n : Nat) (h : m ≤ n) : (exps prk info n).take m = exps prk info m := by
  rw [exps, exps, List.take_take, Nat.min_eq_left h, expA_take prk info ((m + 31) / 32) ((n + 31) / 32) m (by omega) (by omega)]
end Go.Proofs.YtiimjhahblmggaaDoor
