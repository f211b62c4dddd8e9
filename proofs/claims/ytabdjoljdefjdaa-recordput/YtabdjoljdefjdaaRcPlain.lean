/- Layer record, the plain mathematics: heads, their bytes, the orders. -/
import Derived.Test.YtabdjoljdefjdaaSBase
import Derived.Test.YtabdjoljdefjdaaListPlain
namespace Go.Proofs.Ytabdjoljdefjdaa
open Go.RowKit
set_option linter.unusedVariables false
set_option linter.unusedSimpArgs false

/-- A head's parts. -/
structure Hd where
  live : Int
  flag : Int
  index : Int
  rank : Int
  group : List Int
deriving DecidableEq
structure HdOk (h : Hd) : Prop where
  live : 0 ≤ h.live ∧ h.live < 256
  flag : 0 ≤ h.flag ∧ h.flag < 256
  index : 0 ≤ h.index ∧ h.index < 4294967296
  rank : 0 ≤ h.rank ∧ h.rank < 4294967296
  len : h.group.length = 16
  bytes : Bytes h.group
/-- Its cells. -/
def hdC (h : Hd) : List Value := .int .u8 h.live :: .int .u8 h.flag :: .int .u32 h.index :: .int .u32 h.rank :: u8s h.group
theorem hdC_length {h : Hd} (k : h.group.length = 16) : (hdC h).length = 20 := by simp [hdC, u8s_length, k]
theorem hdC_one (h : Hd) : ∀ v ∈ hdC h, v.oneCell' = true := by
  intro v hv
  simp only [hdC, List.mem_cons] at hv
  rcases hv with rfl | rfl | rfl | rfl | hv
  · rfl
  · rfl
  · rfl
  · rfl
  · exact u8s_one _ v hv
/-- Its bytes. -/
def hdB (h : Hd) : List Int := [h.live, h.flag] ++ leB 4 h.index ++ leB 4 h.rank ++ h.group
theorem hdB_length {h : Hd} (k : h.group.length = 16) : (hdB h).length = 26 := by simp [hdB, leB_length, k]
theorem bytes_two {a b : List Int} (h : Bytes a) (k : Bytes b) : Bytes (a ++ b) := fun z hz => (List.mem_append.1 hz).elim (h z) (k z)
theorem hdB_bytes {h : Hd} (k : HdOk h) : Bytes (hdB h) := by
  have h2 : Bytes [h.live, h.flag] := by
    intro z hz
    simp only [List.mem_cons, List.not_mem_nil, or_false] at hz
    rcases hz with rfl | rfl
    · exact k.live
    · exact k.flag
  exact bytes_two (bytes_two (bytes_two h2 (leB_bytes _ _)) (leB_bytes _ _)) k.bytes
def hdZ : Hd := ⟨0, 0, 0, 0, List.replicate 16 0⟩
theorem hdZ_ok : HdOk hdZ := ⟨by decide, by decide, by decide, by decide, by decide, fun z hz => by rw [hdZ] at hz; have := List.eq_of_mem_replicate hz; omega⟩
/-- What a list of bytes tells. -/
def hdOf (zs : List Int) : Hd := ⟨zs.getD 0 0, zs.getD 1 0, le ((zs.drop 2).take 4), le ((zs.drop 6).take 4), (zs.drop 10).take 16⟩
def hdV (zs : List Int) : Hd := if zs.length < 26 then hdZ else hdOf zs
def isR (zs : List Int) : Bool := decide (26 ≤ zs.length) && (decide (zs.getD 0 0 < 2) && decide (zs.getD 1 0 < 2))
theorem bytes_mid {zs : List Int} (hb : Bytes zs) (k n : Nat) : Bytes ((zs.drop k).take n) := fun z hz => hb z (List.mem_of_mem_drop (List.mem_of_mem_take hz))
theorem hdOf_ok {zs : List Int} (hb : Bytes zs) (hl : 26 ≤ zs.length) : HdOk (hdOf zs) := by
  have e1 : ((zs.drop 2).take 4).length = 4 := by simp; omega
  have e2 : ((zs.drop 6).take 4).length = 4 := by simp; omega
  have b1 := le_bd _ (bytes_mid hb 2 4)
  have b2 := le_bd _ (bytes_mid hb 6 4)
  rw [e1] at b1
  rw [e2] at b2
  exact ⟨hb.at 0 (by omega), hb.at 1 (by omega), b1, b2, by simp [hdOf]; omega, bytes_mid hb 10 16⟩
theorem hdV_ok {zs : List Int} (hb : Bytes zs) : HdOk (hdV zs) := by
  unfold hdV
  split
  · exact hdZ_ok
  · exact hdOf_ok hb (by omega)
theorem hdV_long {zs : List Int} (hl : 26 ≤ zs.length) : hdV zs = hdOf zs := by rw [hdV, if_neg (by omega)]
/-- There and back. -/
theorem hdOf_hdB {h : Hd} (k : HdOk h) (bs : List Int) : hdOf (hdB h ++ bs) = h := by
  obtain ⟨l, f, i, r, g⟩ := h
  have hi := k.index
  have hr := k.rank
  have hg := k.len
  simp only at hi hr hg
  have e : hdB ⟨l, f, i, r, g⟩ ++ bs = l :: f :: (leB 4 i ++ (leB 4 r ++ (g ++ bs))) := by simp [hdB]
  have l4 : ∀ v, (leB 4 v).length = 4 := leB_length 4
  have d2 : (l :: f :: (leB 4 i ++ (leB 4 r ++ (g ++ bs)))).drop 2 = leB 4 i ++ (leB 4 r ++ (g ++ bs)) := rfl
  have d6 : (l :: f :: (leB 4 i ++ (leB 4 r ++ (g ++ bs)))).drop 6 = leB 4 r ++ (g ++ bs) := by
    show (leB 4 i ++ (leB 4 r ++ (g ++ bs))).drop 4 = _
    rw [List.drop_append_of_le_length (by rw [l4]; exact Nat.le_refl _), List.drop_of_length_le (by rw [l4]; exact Nat.le_refl _), List.nil_append]
  have d10 : (l :: f :: (leB 4 i ++ (leB 4 r ++ (g ++ bs)))).drop 10 = g ++ bs := by
    show (leB 4 i ++ (leB 4 r ++ (g ++ bs))).drop 8 = _
    have q : ∀ v (t : List Int), (leB 4 v ++ t).drop 4 = t := fun v t => by rw [List.drop_append_of_le_length (by rw [l4]; exact Nat.le_refl _), List.drop_of_length_le (by rw [l4]; exact Nat.le_refl _), List.nil_append]
    rw [show 8 = 4 + 4 from rfl, ← List.drop_drop, q, q]
  rw [e, hdOf, d2, d6, d10]
  have t1 : (leB 4 i ++ (leB 4 r ++ (g ++ bs))).take 4 = leB 4 i := by rw [List.take_append_of_le_length (by rw [l4]; exact Nat.le_refl _), List.take_of_length_le (by rw [l4]; exact Nat.le_refl _)]
  have t2 : (leB 4 r ++ (g ++ bs)).take 4 = leB 4 r := by rw [List.take_append_of_le_length (by rw [l4]; exact Nat.le_refl _), List.take_of_length_le (by rw [l4]; exact Nat.le_refl _)]
  have t3 : (g ++ bs).take 16 = g := by rw [List.take_append_of_le_length (by omega), List.take_of_length_le (by omega)]
  rw [t1, t2, t3, le_leB, le_leB, Int.emod_eq_of_lt hi.1 (by omega), Int.emod_eq_of_lt hr.1 (by omega)]
  rfl
theorem hdB_hdOf {zs : List Int} (hb : Bytes zs) (hl : 26 ≤ zs.length) : hdB (hdOf zs) ++ zs.drop 26 = zs := by
  have e1 : ((zs.drop 2).take 4).length = 4 := by simp; omega
  have e2 : ((zs.drop 6).take 4).length = 4 := by simp; omega
  have r1 := leB_le _ (bytes_mid hb 2 4)
  have r2 := leB_le _ (bytes_mid hb 6 4)
  rw [e1] at r1
  rw [e2] at r2
  simp only [hdB, hdOf, r1, r2]
  have hc : [zs.getD 0 0, zs.getD 1 0] = zs.take 2 := by
    match zs, hl with
    | a :: b :: t, _ => rfl
  rw [hc]
  have s1 : zs.take 2 ++ (zs.drop 2).take 4 = zs.take 6 := (List.take_add (l := zs) (i := 2) (j := 4)).symm
  have s2 : zs.take 6 ++ (zs.drop 6).take 4 = zs.take 10 := (List.take_add (l := zs) (i := 6) (j := 4)).symm
  have s3 : zs.take 10 ++ (zs.drop 10).take 16 = zs.take 26 := (List.take_add (l := zs) (i := 10) (j := 16)).symm
  rw [s1, s2, s3, List.take_append_drop]
theorem isR_hdB {h : Hd} (k : HdOk h) (bs : List Int) : isR (hdB h ++ bs) = (decide (h.live < 2) && decide (h.flag < 2)) := by
  have hl : 26 ≤ (hdB h ++ bs).length := by rw [List.length_append, hdB_length k.len]; omega
  have e : hdB h ++ bs = h.live :: h.flag :: (leB 4 h.index ++ (leB 4 h.rank ++ (h.group ++ bs))) := by simp [hdB]
  rw [isR, decide_eq_true hl, Bool.true_and, e]
  rfl
/-- The mask of: two small numbers. -/
theorem or_two (a b : Int) (ha : 0 ≤ a ∧ a < 256) (hb : 0 ≤ b ∧ b < 256) : (0 ≤ bits .or .u8 a b ∧ bits .or .u8 a b < 256) ∧ decide (bits .or .u8 a b < 2) = (decide (a < 2) && decide (b < 2)) := by
  obtain ⟨x, rfl⟩ := Int.eq_ofNat_of_zero_le ha.1
  obtain ⟨y, rfl⟩ := Int.eq_ofNat_of_zero_le hb.1
  have e : bits .or .u8 (x : Int) (y : Int) = ((x ||| y : Nat) : Int) := by rw [u8_or (x : Int) (y : Int) ha.1 ha.2 hb.1 hb.2, Int.toNat_natCast, Int.toNat_natCast]
  have h3 : x ||| y < 256 := Nat.or_lt_two_pow (n := 8) (by omega) (by omega)
  rw [e]
  refine ⟨⟨by omega, by omega⟩, ?_⟩
  by_cases h : x < 2 ∧ y < 2
  · have h4 : x ||| y < 2 := Nat.or_lt_two_pow (n := 1) h.1 h.2
    rw [decide_eq_true (by omega : ((x ||| y : Nat) : Int) < 2), decide_eq_true (by omega : (x : Int) < 2), decide_eq_true (by omega : (y : Int) < 2)]
    rfl
  · have l1 : x ≤ x ||| y := Nat.left_le_or
    have l2 : y ≤ x ||| y := Nat.right_le_or
    rw [decide_eq_false (by omega : ¬ ((x ||| y : Nat) : Int) < 2)]
    by_cases hx : x < 2
    · rw [decide_eq_true (by omega : (x : Int) < 2), decide_eq_false (by omega : ¬ (y : Int) < 2)]; rfl
    · rw [decide_eq_false (by omega : ¬ (x : Int) < 2)]; rfl
theorem mk_and (p q : Bool) : bits .and .u64 (mk p) (mk q) = mk (p && q) := by cases p <;> cases q <;> decide
theorem mk_or (p q : Bool) : bits .or .u64 (mk p) (mk q) = mk (p || q) := by cases p <;> cases q <;> decide
theorem mk_andNot (p q : Bool) : bits .andNot .u64 (mk p) (mk q) = mk (p && !q) := by cases p <;> cases q <;> decide
/-- The orders. -/
def lvB (h : Hd) : Bool := h.live % 2 == 1
def lowB (x y : Hd) : Bool := decide (x.index < y.index)
def samB (x y : Hd) : Bool := decide (x.group = y.group)
def liveB (zs : List Int) : Bool := isR zs && lvB (hdV zs)
def togB (xs ys : List Int) : Bool := isR xs && isR ys && lvB (hdV xs) && lvB (hdV ys) && samB (hdV xs) (hdV ys)
def byI (xs ys : List Int) : Bool := isR xs && isR ys && lowB (hdV xs) (hdV ys)
def byG (xs ys : List Int) : Bool := isR xs && isR ys && (lvB (hdV xs) && !lvB (hdV ys) || lvB (hdV xs) && lvB (hdV ys) && (bef (hdV xs).group (hdV ys).group || samB (hdV xs) (hdV ys) && lowB (hdV xs) (hdV ys)) || !lvB (hdV xs) && !lvB (hdV ys) && lowB (hdV xs) (hdV ys))
end Go.Proofs.Ytabdjoljdefjdaa
