/- Plain mathematics for layer stream: ChaCha20. Nothing of the dump. -/
import Derived.Test.YtpjnimmclncdoaaSBase
namespace Go.Proofs.Ytpjnimmclncdoaa
open Go.RowKit
set_option linter.unusedVariables false

/-- A word turned to the left. -/
def rotl (x : Int) (n : Nat) : Int := bits .or .u32 (x * 2 ^ n % 4294967296) (x / 2 ^ (32 - n))
structure Q4 where
  a : Int
  b : Int
  c : Int
  d : Int
def Q4.list (q : Q4) : List Int := [q.a, q.b, q.c, q.d]
/-- Four of the eight steps. -/
def halfD (q : Q4) (n : Nat) : Int := rotl (bits .xor .u32 q.d ((q.a + q.b) % 4294967296)) n
def halfC (q : Q4) (n : Nat) : Int := (q.c + halfD q n) % 4294967296
def halfQ (q : Q4) (n m : Nat) : Q4 := ⟨(q.a + q.b) % 4294967296, rotl (bits .xor .u32 q.b (halfC q n)) m, halfC q n, halfD q n⟩
def quarter (q : Q4) : Q4 := halfQ (halfQ q 16 12) 8 7
def qOf (st : List Int) (i j k l : Nat) : Q4 := ⟨st.getD i 0, st.getD j 0, st.getD k 0, st.getD l 0⟩
def qPut (st : List Int) (q : Q4) (i j k l : Nat) : List Int := (((st.set i q.a).set j q.b).set k q.c).set l q.d
theorem qPut_length (st : List Int) (q : Q4) (i j k l : Nat) : (qPut st q i j k l).length = st.length := by simp [qPut]
/-- Column c, slanted by s. -/
def colStep (st : List Int) (s c : Nat) : List Int :=
  qPut st (quarter (qOf st (c % 4) (4 + (c + s) % 4) (8 + (c + 2 * s) % 4) (12 + (c + 3 * s) % 4))) (c % 4) (4 + (c + s) % 4) (8 + (c + 2 * s) % 4) (12 + (c + 3 * s) % 4)
def cols (st : List Int) (s : Nat) : Nat → List Int
  | 0 => st
  | n + 1 => colStep (cols st s n) s n
def slants (st : List Int) : Nat → List Int
  | 0 => st
  | n + 1 => cols (slants st n) n 4
def passN (st : List Int) : Nat → List Int
  | 0 => st
  | n + 1 => slants (passN st n) 2
def stir (st : List Int) : List Int := passN st 10
theorem colStep_length (st : List Int) (s c : Nat) : (colStep st s c).length = st.length := qPut_length ..
theorem cols_length (st : List Int) (s n : Nat) : (cols st s n).length = st.length := by
  induction n with
  | zero => rfl
  | succ n ih => rw [cols, colStep_length, ih]
theorem slants_length (st : List Int) (n : Nat) : (slants st n).length = st.length := by
  induction n with
  | zero => rfl
  | succ n ih => rw [slants, cols_length, ih]
theorem passN_length (st : List Int) (n : Nat) : (passN st n).length = st.length := by
  induction n with
  | zero => rfl
  | succ n ih => rw [passN, slants_length, ih]
theorem stir_length (st : List Int) : (stir st).length = st.length := passN_length ..
/-- The words of bytes, by fours, the lowest first. -/
def w4 (zs : List Int) (t : Nat) : Int := le ((zs.drop (4 * t)).take 4)
def wds (zs : List Int) (k : Nat) : List Int := (List.range k).map (w4 zs)
theorem wds_length (zs : List Int) (k : Nat) : (wds zs k).length = k := by simp [wds]
theorem wds_succ (zs : List Int) (k : Nat) : wds zs (k + 1) = wds zs k ++ [w4 zs k] := by simp [wds, List.range_succ]
/-- The state of a key, a counter and a nonce. -/
def fixW : List Int := [1634760805, 857760878, 2036477234, 1797285236]
def begW (key : List Int) (ctr : Int) (nonce : List Int) : List Int := fixW ++ (wds key 8 ++ (ctr :: wds nonce 3))
theorem begW_length (key : List Int) (ctr : Int) (nonce : List Int) : (begW key ctr nonce).length = 16 := by simp [begW, fixW, wds_length]
def blkW (key : List Int) (ctr : Int) (nonce : List Int) : List Int := addW (stir (begW key ctr nonce)) (begW key ctr nonce)
theorem blkW_length (key : List Int) (ctr : Int) (nonce : List Int) : (blkW key ctr nonce).length = 16 := addW_length _ _ 16 (by rw [stir_length, begW_length]) (begW_length ..)
/-- The bytes of words, the lowest first. -/
def wB (st : List Int) (k : Nat) : List Int := (st.take k).flatMap (leB 4)
theorem wB_succ (st : List Int) (k : Nat) (hk : k < st.length) : wB st (k + 1) = wB st k ++ leB 4 (st.getD k 0) := by
  have e : st.getD k 0 = st[k] := by simp [List.getD, hk]
  rw [wB, List.take_succ_eq_append_getElem hk, List.flatMap_append, e]; simp [wB]
theorem wB_length (st : List Int) (k : Nat) (hk : k ≤ st.length) : (wB st k).length = 4 * k := by
  induction k with
  | zero => simp [wB]
  | succ k ih => rw [wB_succ st k (by omega), List.length_append, ih (by omega), leB_length]; omega
theorem wB_bytes (st : List Int) (k : Nat) : Bytes (wB st k) := by
  intro z hz
  simp only [wB, List.mem_flatMap] at hz
  obtain ⟨x, _, hx⟩ := hz
  exact leB_bytes 4 x z hx
def blkB (key : List Int) (ctr : Int) (nonce : List Int) : List Int := wB (blkW key ctr nonce) 16
theorem blkB_length (key : List Int) (ctr : Int) (nonce : List Int) : (blkB key ctr nonce).length = 64 := wB_length _ 16 (by rw [blkW_length]; omega)
theorem blkB_bytes (key : List Int) (ctr : Int) (nonce : List Int) : Bytes (blkB key ctr nonce) := wB_bytes _ _
/-- The byte of the key stream at a place. -/
def ks (key nonce : List Int) (p : Nat) : Int := (blkB key ((p / 64 : Nat) : Int) nonce).getD (p % 64) 0
theorem ks_byte (key nonce : List Int) (p : Nat) : 0 ≤ ks key nonce p ∧ ks key nonce p < 256 := (blkB_bytes key _ nonce).at _ (by rw [blkB_length]; omega)
/-- Bytes laid over the key stream from a place on; the first k of them. -/
def over (key nonce : List Int) (p : Nat) (zs : List Int) : List Int := (List.range zs.length).map (fun i => bits .xor .u8 (zs.getD i 0) (ks key nonce (p + i)))
theorem over_length (key nonce : List Int) (p : Nat) (zs : List Int) : (over key nonce p zs).length = zs.length := by simp [over]
theorem over_at (key nonce : List Int) (p : Nat) (zs : List Int) (i : Nat) (hi : i < zs.length) : (over key nonce p zs).getD i 0 = bits .xor .u8 (zs.getD i 0) (ks key nonce (p + i)) := by
  simp [over, List.getD, hi]
end Go.Proofs.Ytpjnimmclncdoaa
