/- Plain mathematics for layer digest: the words of a block, the rounds, the digest of bytes. Nothing of the dump but its numbers' forms. -/
import Derived.Test.YtiimjhahblmggaaDoorDBase
namespace Go.Proofs.YtiimjhahblmggaaDoor
open Go.RowKit

def u32s (zs : List Int) : List Value := zs.map (Value.int .u32)
def u8s (zs : List Int) : List Value := zs.map (Value.int .u8)
theorem u32s_length (zs : List Int) : (u32s zs).length = zs.length := by simp [u32s]
theorem u8s_length (zs : List Int) : (u8s zs).length = zs.length := by simp [u8s]
theorem u32s_one (zs : List Int) : ∀ v ∈ u32s zs, v.oneCell' = true := one_ints _ _
theorem u8s_one (zs : List Int) : ∀ v ∈ u8s zs, v.oneCell' = true := one_ints _ _
theorem u32s_set (zs : List Int) (j : Nat) (z : Int) : (u32s zs).set j (.int .u32 z) = u32s (zs.set j z) := by simp [u32s, List.map_set]
theorem u8s_set (zs : List Int) (j : Nat) (z : Int) : (u8s zs).set j (.int .u8 z) = u8s (zs.set j z) := by simp [u8s, List.map_set]
theorem u8s_cell {w : World} {g : Nat} {t : TypeId} {zs : List Int} (h : Blk w g t (u8s zs)) (j : Nat) (hj : j < zs.length) : w.cell? ⟨g, j, none⟩ = some (.int .u8 (zs.getD j 0)) := by
  rw [h.cell]; simp [u8s, hj, List.getD]
theorem u32s_cell {w : World} {g : Nat} {t : TypeId} {zs : List Int} (h : Blk w g t (u32s zs)) (j : Nat) (hj : j < zs.length) : w.cell? ⟨g, j, none⟩ = some (.int .u32 (zs.getD j 0)) := by
  rw [h.cell]; simp [u32s, hj, List.getD]
theorem set_next (xs : List Int) (n : Nat) (z y : Int) : (xs ++ List.replicate (n + 1) y).set xs.length z = (xs ++ [z]) ++ List.replicate n y := by
  rw [List.set_append_right _ _ (Nat.le_refl _), Nat.sub_self, List.replicate_succ, List.set_cons_zero]; simp
theorem getD_front (xs ys : List Int) (j : Nat) (hj : j < xs.length) : (xs ++ ys).getD j 0 = xs.getD j 0 := by
  simp [List.getD, List.getElem?_append_left hj]

/-- The word at 4 t of a block's bytes, the highest first. -/
def word4 (zs : List Int) (t : Nat) : Int :=
  bits .or .u32 (bits .or .u32 (bits .or .u32 (zs.getD (4 * t) 0 % 4294967296 * 16777216 % 4294967296) (zs.getD (4 * t + 1) 0 % 4294967296 * 65536 % 4294967296)) (zs.getD (4 * t + 2) 0 % 4294967296 * 256 % 4294967296)) (zs.getD (4 * t + 3) 0 % 4294967296)
def w16 (zs : List Int) (k : Nat) : List Int := (List.range k).map (word4 zs)
theorem w16_length (zs : List Int) (k : Nat) : (w16 zs k).length = k := by simp [w16]
theorem w16_succ (zs : List Int) (k : Nat) : w16 zs (k + 1) = w16 zs k ++ [word4 zs k] := by simp [w16, List.range_succ]
def sig0 (x : Int) : Int := bits .xor .u32 (bits .xor .u32 (rotr x 7) (rotr x 18)) (x / 8)
def sig1 (y : Int) : Int := bits .xor .u32 (bits .xor .u32 (rotr y 17) (rotr y 19)) (y / 1024)
def wNext (ws : List Int) (n : Nat) : Int := (ws.getD n 0 + sig0 (ws.getD (n + 1) 0) + ws.getD (n + 9) 0 + sig1 (ws.getD (n + 14) 0)) % 4294967296
def wGrow (zs : List Int) : Nat → List Int
  | 0 => w16 zs 16
  | n + 1 => wGrow zs n ++ [wNext (wGrow zs n) n]
theorem wGrow_length (zs : List Int) (n : Nat) : (wGrow zs n).length = 16 + n := by
  induction n with
  | zero => exact w16_length _ _
  | succ n ih => simp [wGrow, ih]; omega
/-- The sixty-four words of a block. -/
def sched (zs : List Int) : List Int := wGrow zs 48
theorem sched_length (zs : List Int) : (sched zs).length = 64 := wGrow_length zs 48
/-- The words k0 .. k63. -/
def kWords : List Int := [1116352408, 1899447441, 3049323471, 3921009573, 961987163, 1508970993, 2453635748, 2870763221, 3624381080, 310598401, 607225278, 1426881987, 1925078388, 2162078206, 2614888103, 3248222580, 3835390401, 4022224774, 264347078, 604807628, 770255983, 1249150122, 1555081692, 1996064986, 2554220882, 2821834349, 2952996808, 3210313671, 3336571891, 3584528711, 113926993, 338241895, 666307205, 773529912, 1294757372, 1396182291, 1695183700, 1986661051, 2177026350, 2456956037, 2730485921, 2820302411, 3259730800, 3345764771, 3516065817, 3600352804, 4094571909, 275423344, 430227734, 506948616, 659060556, 883997877, 958139571, 1322822218, 1537002063, 1747873779, 1955562222, 2024104815, 2227730452, 2361852424, 2428436474, 2756734187, 3204031479, 3329325298]
structure V8 where
  a : Int
  b : Int
  c : Int
  d : Int
  e : Int
  f : Int
  g : Int
  h : Int
def V8.of (st : List Int) : V8 := ⟨st.getD 0 0, st.getD 1 0, st.getD 2 0, st.getD 3 0, st.getD 4 0, st.getD 5 0, st.getD 6 0, st.getD 7 0⟩
/-- One of the sixty-four rounds. -/
def rndP (v : V8) (k w : Int) : Int := (v.h + bits .xor .u32 (bits .xor .u32 (rotr v.e 6) (rotr v.e 11)) (rotr v.e 25) + bits .xor .u32 (bits .and .u32 v.e v.f) (bits .and .u32 (bits .xor .u32 4294967295 v.e) v.g) + k + w) % 4294967296
def rndQ (v : V8) : Int := (bits .xor .u32 (bits .xor .u32 (rotr v.a 2) (rotr v.a 13)) (rotr v.a 22) + bits .xor .u32 (bits .xor .u32 (bits .and .u32 v.a v.b) (bits .and .u32 v.a v.c)) (bits .and .u32 v.b v.c)) % 4294967296
def rnd (v : V8) (k w : Int) : V8 := ⟨(rndP v k w + rndQ v) % 4294967296, v.a, v.b, v.c, (v.d + rndP v k w) % 4294967296, v.e, v.f, v.g⟩
def rndN (ws : List Int) (v : V8) : Nat → V8
  | 0 => v
  | n + 1 => rnd (rndN ws v n) (kWords.getD n 0) (ws.getD n 0)
def V8.list (v : V8) : List Int := [v.a, v.b, v.c, v.d, v.e, v.f, v.g, v.h]
def addW (xs ys : List Int) : List Int := List.zipWith (fun x y => (x + y) % 4294967296) xs ys
/-- The words behind a block. -/
def mixF (st zs : List Int) : List Int := addW st (rndN (sched zs) (V8.of st) 64).list
theorem addW_length (xs ys : List Int) (n : Nat) (hx : xs.length = n) (hy : ys.length = n) : (addW xs ys).length = n := by simp [addW, hx, hy]
theorem mixF_length (st zs : List Int) (hs : st.length = 8) : (mixF st zs).length = 8 := addW_length _ _ 8 hs rfl
theorem addW_at (xs ys : List Int) (n i : Nat) (hx : xs.length = n) (hy : ys.length = n) (hi : i < n) : (addW xs ys).getD i 0 = (xs.getD i 0 + ys.getD i 0) % 4294967296 := by
  have h1 : i < xs.length := by omega
  have h2 : i < ys.length := by omega
  have h3 : i < (List.zipWith (fun x y => (x + y) % 4294967296) xs ys).length := by simp; omega
  simp only [addW, List.getD]
  rw [List.getElem?_eq_getElem h3, List.getElem?_eq_getElem h1, List.getElem?_eq_getElem h2]
  simp
theorem half_set (xs ys : List Int) (n i : Nat) (hx : xs.length = n) (hy : ys.length = n) (hi : i < n) : (xs.take i ++ ys.drop i).set i (xs.getD i 0) = xs.take (i + 1) ++ ys.drop (i + 1) := by
  have e : (xs.take i).length = i := by simp; omega
  have h1 : i < xs.length := by omega
  have h2 : xs.getD i 0 = xs[i] := by simp [List.getD, h1]
  rw [List.set_append_right _ _ (by omega), e, Nat.sub_self, List.drop_eq_getElem_cons (by omega : i < ys.length), List.set_cons_zero, List.take_succ_eq_append_getElem h1, h2, List.append_assoc]
  rfl
theorem half_at (xs ys : List Int) (n i : Nat) (hx : xs.length = n) (hy : ys.length = n) (hi : i < n) : (xs.take i ++ ys.drop i).getD i 0 = ys.getD i 0 := by
  have e : (xs.take i).length = i := by simp; omega
  simp only [List.getD]
  rw [List.getElem?_append_right (by omega), e, Nat.sub_self, List.getElem?_drop, Nat.add_zero]
theorem half_length (xs ys : List Int) (n i : Nat) (hx : xs.length = n) (hy : ys.length = n) (hi : i ≤ n) : (xs.take i ++ ys.drop i).length = n := by simp; omega
end Go.Proofs.YtiimjhahblmggaaDoor
