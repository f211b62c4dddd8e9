/- Layer octet, texts: Unhex; and the statements' awake. -/
import Derived.Test.YtgcpckkhkppnhaaOHex
namespace Go.Proofs.Ytgcpckkhkppnhaa
open Go.RowKit
set_option linter.unusedVariables false
set_option linter.unusedSimpArgs false

/-- The bytes of a text of digits; none: it is no such text. -/
def unhexL : List Int → Option (List Int)
  | [] => some []
  | [_] => none
  | a :: b :: r => if isDig a && isDig b then (unhexL r).map (fun l => (16 * dv a + dv b) :: l) else none
theorem unhexL_odd (k : Nat) (l : List Int) (h : l.length = 2 * k + 1) : unhexL l = none := by
  induction k generalizing l with
  | zero =>
    match l, h with
    | [a], _ => rfl
  | succ k ih =>
    match l, h with
    | a :: b :: r, h =>
      simp only [unhexL]
      rw [ih r (by simp at h; omega)]
      simp
theorem unhexL_len (k : Nat) (l us : List Int) (hl : l.length ≤ k) (h : unhexL l = some us) : l.length = 2 * us.length := by
  induction k generalizing l us with
  | zero =>
    match l, hl with
    | [], _ => simp [unhexL] at h; subst h; rfl
  | succ k ih =>
    match l, hl, h with
    | [], _, h => simp [unhexL] at h; subst h; rfl
    | [a], _, h => simp [unhexL] at h
    | a :: b :: r, hl, h =>
      simp only [unhexL] at h
      split at h
      · simp only [Option.map_eq_some_iff] at h
        obtain ⟨vs, hv, rfl⟩ := h
        have := ih r vs (by simp at hl; omega) hv
        simp; omega
      · cases h
theorem unhexL_bytes (k : Nat) (l us : List Int) (hl : l.length ≤ k) (h : unhexL l = some us) : Bytes us := by
  induction k generalizing l us with
  | zero =>
    match l, hl with
    | [], _ => simp [unhexL] at h; subst h; intro z hz; cases hz
  | succ k ih =>
    match l, hl, h with
    | [], _, h => simp [unhexL] at h; subst h; intro z hz; cases hz
    | [a], _, h => simp [unhexL] at h
    | a :: b :: r, hl, h =>
      simp only [unhexL] at h
      split at h
      · simp only [Option.map_eq_some_iff] at h
        obtain ⟨vs, hv, rfl⟩ := h
        have := ih r vs (by simp at hl; omega) hv
        intro z hz
        simp only [List.mem_cons] at hz
        rcases hz with rfl | hz
        · have h1 := dv_bd a; have h2 := dv_bd b; omega
        · exact this z hz
      · cases h
theorem drop_two (l : List Int) (k : Nat) (h : k + 1 < l.length) : l.drop k = l.getD k 0 :: l.getD (k + 1) 0 :: l.drop (k + 2) := by
  rw [List.drop_eq_getElem_cons (by omega), List.drop_eq_getElem_cons h]
  have h' : k < l.length := by omega
  simp [List.getD, h, h']
theorem map_app (o : Option (List Int)) (us : List Int) (x : Int) : (o.map (fun l => x :: l)).map (fun l => us ++ l) = o.map (fun l => (us ++ [x]) ++ l) := by
  cases o <;> simp
theorem unhexL_step (L us : List Int) (k : Nat) (hk : k + 1 < L.length) (h : unhexL L = (unhexL (L.drop k)).map (fun l => us ++ l)) (hd : (isDig (L.getD k 0) && isDig (L.getD (k + 1) 0)) = true) :
    unhexL L = (unhexL (L.drop (k + 2))).map (fun l => (us ++ [16 * dv (L.getD k 0) + dv (L.getD (k + 1) 0)]) ++ l) := by
  rw [h, drop_two L k hk]
  simp only [unhexL, hd, if_true]
  exact map_app _ _ _
theorem unhexL_stop (L us : List Int) (k : Nat) (hk : k + 1 < L.length) (h : unhexL L = (unhexL (L.drop k)).map (fun l => us ++ l)) (hd : (isDig (L.getD k 0) && isDig (L.getD (k + 1) 0)) = false) : unhexL L = none := by
  rw [h, drop_two L k hk]
  simp only [unhexL, hd]
  rfl
/-- A text's bytes. -/
def strL (s : ByteArray) : List Int := s.data.toList.map (fun b => (b.toNat : Int))
theorem strL_length (s : ByteArray) : (strL s).length = s.size := by
  unfold strL
  rw [List.length_map, Array.length_toList]; rfl
theorem strL_bytes (s : ByteArray) : Bytes (strL s) := by
  intro z hz
  simp only [strL, List.mem_map] at hz
  obtain ⟨b, _, rfl⟩ := hz
  have := b.toNat_lt
  omega
theorem strL_at (s : ByteArray) (i : Nat) (hi : i < s.size) : (strL s).getD i 0 = (s[i].toNat : Int) := by
  have h : i < s.data.size := hi
  unfold strL
  rw [List.getD_eq_getElem?_getD, List.getElem?_map, Array.getElem?_toList, Array.getElem?_eq_getElem h]; rfl
theorem strOfNums_strL (s : ByteArray) : strOfNums (strL s) = s := by
  unfold strOfNums strL
  rw [List.map_map]
  have : ((fun n : Int => UInt8.ofNat n.toNat) ∘ fun b : UInt8 => (b.toNat : Int)) = id := by
    funext b; simp
  rw [this, List.map_id]
theorem strL_strOfNums (zs : List Int) (h : Bytes zs) : strL (strOfNums zs) = zs := by
  unfold strL
  rw [strOfNums_data, List.map_map]
  have : ∀ z ∈ zs, ((fun b : UInt8 => (b.toNat : Int)) ∘ fun n : Int => UInt8.ofNat n.toNat) z = z := by
    intro z hz
    have := h z hz
    simp
    omega
  rw [List.map_congr_left this, List.map_id']
theorem str_index (s : ByteArray) (i : Nat) (hi : i < s.size) (w : World) : (Instr.index 9 (.string s) (.int .i64 i)).run Try.prog w = .ok (.int .u8 ((strL s).getD i 0)) w := by
  rw [run_index_string w 9 s .i64 i Try.underlying9, dif_pos (by omega), strL_at s i hi]
  simp
theorem or4 (a b : Int) (ha : 0 ≤ a ∧ a < 16) (hb : 0 ≤ b ∧ b < 16) : bits .or .u8 (a * 16) b = 16 * a + b := by
  rw [u8_or _ _ (by omega) (by omega) hb.1 (by omega)]
  obtain ⟨a, rfl⟩ := Int.eq_ofNat_of_zero_le ha.1
  obtain ⟨b, rfl⟩ := Int.eq_ofNat_of_zero_le hb.1
  have h := Nat.shiftLeft_add_eq_or_of_lt (i := 4) (b := b) (by omega) a
  have e1 : ((a : Int) * 16).toNat = a <<< 4 := by rw [Nat.shiftLeft_eq]; omega
  rw [e1, Int.toNat_natCast, ← h, Nat.shiftLeft_eq]; omega

/-- What Unhex answers. -/
def unV (s : ByteArray) : List Int := (unhexL (strL s)).getD []
def unE (s : ByteArray) : Int := if (unhexL (strL s)).isSome then 0 else 22
theorem un_none {s : ByteArray} (h : unhexL (strL s) = none) : unV s = [] ∧ unE s = 22 := by simp [unV, unE, h]
theorem un_some {s : ByteArray} {us : List Int} (h : unhexL (strL s) = some us) : unV s = us ∧ unE s = 0 := by simp [unV, unE, h]
theorem unV_bytes (s : ByteArray) : Bytes (unV s) := by
  rcases h : unhexL (strL s) with _ | us
  · rw [(un_none h).1]; intro z hz; cases hz
  · rw [(un_some h).1]; exact unhexL_bytes _ _ _ (Nat.le_refl _) h
theorem unV_len (s : ByteArray) : (unV s).length ≤ s.size := by
  rcases h : unhexL (strL s) with _ | us
  · rw [(un_none h).1]; exact Nat.zero_le _
  · rw [(un_some h).1]; have := unhexL_len _ _ _ (Nat.le_refl _) h; rw [strL_length] at this; omega

end Go.Proofs.Ytgcpckkhkppnhaa
