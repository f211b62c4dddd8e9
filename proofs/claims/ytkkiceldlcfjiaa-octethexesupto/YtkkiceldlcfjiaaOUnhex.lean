/- Layer octet, texts: Unhex; and the statements' awake. -/
import Derived.Test.YtkkiceldlcfjiaaOHex
namespace Go.Proofs.Ytkkiceldlcfjiaa
open Go.RowKit
set_option linter.unusedVariables false
set_option linter.unusedSimpArgs false

/-- The bytes of a text of digits; none: it is no such text. -/
def unhexL : List Int → Option (List Int)
  | [] => some []
  | [_] => none
  | a :: b :: r => if isDig a && isDig b then (unhexL r).map (fun l => (16 * dv a + dv b) :: l) else none
theorem unhexL_odd (k : Nat) (l : List Int) (h : l.length = 2 * k + 1) : unhexL l = none := by
  induction k generalizing l with
  | zero =>
    match l, h with
    | [a], _ => rfl
  | succ k ih =>
    match l, h with
    | a :: b :: r, h =>
      simp only [unhexL]
      rw [ih r (by simp at h; omega)]
      simp
theorem unhexL_len (k : Nat) (l us : List Int) (hl : l.length ≤ k) (h : unhexL l = some us) : l.length = 2 * us.length := by
  induction k generalizing l us with
  | zero =>
    match l, hl with
    | [], _ => simp [unhexL] at h; subst h; rfl
  | succ k ih =>
    match l, hl, h with
    | [], _, h => simp [unhexL] at h; subst h; rfl
    | [a], _, h => simp [unhexL] at h
    | a :: b :: r, hl, h =>
      simp only [unhexL] at h
      split at h
      · simp only [Option.map_eq_some_iff] at h
        obtain ⟨vs, hv, rfl⟩ := h
        have := ih r vs (by simp at hl; omega) hv
        simp; omega
      · cases h
theorem unhexL_bytes (k : Nat) (l us : List Int) (hl : l.length ≤ k) (h : unhexL l = some us) : Bytes us := by
  induction k generalizing l us with
  | zero =>
    match l, hl with
    | [], _ => simp [unhexL] at h; subst h; intro z hz; cases hz
  | succ k ih =>
    match l, hl, h with
    | [], _, h => simp [unhexL] at h; subst h; intro z hz; cases hz
    | [a], _, h => simp [unhexL] at h
    | a :: b :: r, hl, h =>
      simp only [unhexL] at h
      split at h
      · simp only [Option.map_eq_some_iff] at h
        obtain ⟨vs, hv, rfl⟩ := h
        have := ih r vs (by simp at hl; omega) hv
        intro z hz
        simp only [List.mem_cons] at hz
        rcases hz with rfl | hz
        · have h1 := dv_bd a; have h2 := dv_bd b; omega
        · exact this z hz
      · cases h
theorem drop_two (l : List Int) (k : Nat) (h : k + 1 < l.length) : l.drop k = l.getD k 0 :: l.getD (k + 1) 0 :: l.drop (k + 2) := by
  rw [List.drop_eq_getElem_cons (by omega), List.drop_eq_getElem_cons h]
  have h' : k < l.length := by omega
  simp [List.getD, h, h']
theorem map_app (o : Option (List Int)) (us : List Int) (x : Int) : (o.map (fun l => x :: l)).map (fun l => us ++ l) = o.map (fun l => (us ++ [x]) ++ l) := by
  cases o <;> simp
theorem unhexL_step (L us : List Int) (k : Nat) (hk : k + 1 < L.length) (h : unhexL L = (unhexL (L.drop k)).map (fun l => us ++ l)) (hd : (isDig (L.getD k 0) && isDig (L.getD (k + 1) 0)) = true) :
    unhexL L = (unhexL (L.drop (k + 2))).map (fun l => (us ++ [16 * dv (L.getD k 0) + dv (L.getD (k + 1) 0)]) ++ l) := by
  rw [h, drop_two L k hk]
  simp only [unhexL, hd, if_true]
  exact map_app _ _ _
theorem unhexL_stop (L us : List Int) (k : Nat) (hk : k + 1 < L.length) (h : unhexL L = (unhexL (L.drop k)).map (fun l => us ++ l)) (hd : (isDig (L.getD k 0) && isDig (L.getD (k + 1) 0)) = false) : unhexL L = none := by
  rw [h, drop_two L k hk]
  simp only [unhexL, hd]
  rfl
/-- A text's bytes. -/
def strL (s : ByteArray) : List Int := s.data.toList.map (fun b => (b.toNat : Int))
theorem strL_length (s : ByteArray) : (strL s).length = s.size := by
  unfold strL
  rw [List.length_map, Array.length_toList]; rfl
theorem strL_bytes (s : ByteArray) : Bytes (strL s) := by
  intro z hz
  simp only [strL, List.mem_map] at hz
  obtain ⟨b, _, rfl⟩ := hz
  have := b.toNat_lt
  omega
theorem strL_at (s : ByteArray) (i : Nat) (hi : i < s.size) : (strL s).getD i 0 = (s[i].toNat : Int) := by
  have h : i < s.data.size := hi
  unfold strL
  rw [List.getD_eq_getElem?_getD, List.getElem?_map, Array.getElem?_toList, Array.getElem?_eq_getElem h]; rfl
theorem strOfNums_strL (s : ByteArray) : strOfNums (strL s) = s := by
  unfold strOfNums strL
  rw [List.map_map]
  have : ((fun n : Int => UInt8.ofNat n.toNat) ∘ fun b : UInt8 => (b.toNat : Int)) = id := by
    funext b; simp
  rw [this, List.map_id]
theorem strL_strOfNums (zs : List Int) (h : Bytes zs) : strL (strOfNums zs) = zs := by
  unfold strL
  rw [strOfNums_data, List.map_map]
  have : ∀ z ∈ zs, ((fun b : UInt8 => (b.toNat : Int)) ∘ fun n : Int => UInt8.ofNat n.toNat) z = z := by
    intro z hz
    have := h z hz
    simp
    omega
  rw [List.map_congr_left this, List.map_id']
theorem str_index (s : ByteArray) (i : Nat) (hi : i < s.size) (w : World) : (Instr.index 9 (.string s) (.int .i64 i)).run Try.prog w = .ok (.int .u8 ((strL s).getD i 0)) w := by
  rw [run_index_string w 9 s .i64 i Try.underlying9, dif_pos (by omega), strL_at s i hi]
  simp
theorem or4 (a b : Int) (ha : 0 ≤ a ∧ a < 16) (hb : 0 ≤ b ∧ b < 16) : bits .or .u8 (a * 16) b = 16 * a + b := by
  rw [u8_or _ _ (by omega) (by omega) hb.1 (by omega)]
  obtain ⟨a, rfl⟩ := Int.eq_ofNat_of_zero_le ha.1
  obtain ⟨b, rfl⟩ := Int.eq_ofNat_of_zero_le hb.1
  have h := Nat.shiftLeft_add_eq_or_of_lt (i := 4) (b := b) (by omega) a
  have e1 : ((a : Int) * 16).toNat = a <<< 4 := by rw [Nat.shiftLeft_eq]; omega
  rw [e1, Int.toNat_natCast, ← h, Nat.shiftLeft_eq]; omega

/-- What Unhex answers. -/
def unV (s : ByteArray) : List Int := (unhexL (strL s)).getD []
def unE (s : ByteArray) : Int := if (unhexL (strL s)).isSome then 0 else 22
theorem un_none {s : ByteArray} (h : unhexL (strL s) = none) : unV s = [] ∧ unE s = 22 := by simp [unV, unE, h]
theorem un_some {s : ByteArray} {us : List Int} (h : unhexL (strL s) = some us) : unV s = us ∧ unE s = 0 := by simp [unV, unE, h]
theorem unV_bytes (s : ByteArray) : Bytes (unV s) := by
  rcases h : unhexL (strL s) with _ | us
  · rw [(un_none h).1]; intro z hz; cases hz
  · rw [(un_some h).1]; exact unhexL_bytes _ _ _ (Nat.le_refl _) h
theorem unV_len (s : ByteArray) : (unV s).length ≤ s.size := by
  rcases h : unhexL (strL s) with _ | us
  · rw [(un_none h).1]; exact Nat.zero_le _
  · rw [(un_some h).1]; have := unhexL_len _ _ _ (Nat.le_refl _) h; rw [strL_length] at this; omega

set_option maxHeartbeats 1000000 in
set_option maxRecDepth 20000 in
theorem unhex_any (s : ByteArray) (hn : s.size ≤ 140737488355328) (w : World) :
    Calls Try.prog 37 #[.string s] w fun e w' => ∃ v, e = .returned (.tuple #[v, .int .i64 (unE s)]) ∧ w'.ownsRow w.heap.size 5 1 v (unV s).length ((unV s).map (Value.int .u8)) ∧ Below w.heap.size w w' := by
  have HL : Hid ((strL s).length = s.size) := strL_length s
  rcases Nat.mod_two_eq_zero_or_one s.size with hm | hm
  · obtain ⟨m, hm2⟩ : ∃ m, s.size = m * 2 := ⟨s.size / 2, by omega⟩
    obtain ⟨i0, hi, hz0, hz1, hz2⟩ := info_parts info_byte
    obtain ⟨w0, hmk, ho1, hg0⟩ := run_make_own (P := Try.prog) w w.heap.size 22 5 i0 (.int .u8 0) 1 Try.underlying22 hi hz0 hz1 .i64 .i64 m (by rw [hz2]; omega) (by unfold maxLen; omega) (Nat.le_refl _)
    have hb1 : Below w.heap.size w w0 := (Below.refl _ _).grown hg0 (Nat.le_refl _) (fun j hj => by cases hj)
    have HM : Hid (s.size = m * 2) := hm2
    have e1 : (s.size : Int) % 2 = 0 := by omega
    have e2 : (s.size : Int) / 2 = (m : Int) := by omega
    have e3 : ((s.size : Int).tmod 2) = 0 := by rw [Int.tmod_eq_emod_of_nonneg (by omega)]; exact e1
    have e4 : ((s.size : Int).tdiv 2) = (m : Int) := by rw [Int.tdiv_eq_ediv_of_nonneg (by omega)]; exact e2
    have hsz1 : (s.size : Int) ≤ 140737488355328 := by omega
    clear hm hm2
    go_enter Try.func37, Try.ntmps37
    go_wp2
    go_loopw [4, 5] (fun v i wr => ∃ (k : Nat) (us : List Int), k ≤ m ∧ i = .int .i64 (2 * (k : Int)) ∧ us.length = k ∧ unhexL (strL s) = (unhexL ((strL s).drop (2 * k))).map (fun l => us ++ l) ∧ wr.ownsRow w.heap.size 5 1 v k (us.map (Value.int .u8)) ∧ Below w.heap.size w wr) (fun _ i _ => s.size - (intOf i).toNat)
    case atStart => exact ⟨0, [], Nat.zero_le _, rfl, rfl, by simp, ho1, hb1⟩
    case round =>
      clear ho1 hb1 hg0 hmk
      obtain ⟨k, us, hk, rfl, hul, hun, hown, hbel⟩ := hrel
      by_cases hlt : k < m
      · have l1 : 2 * k + 1 < s.size := by have := HM.out; omega
        have f1 := str_index s (2 * k) (by omega)
        have f2 := str_index s (2 * k + 1) l1
        have b1 := (strL_bytes s).at (2 * k) (by have := HL.out; omega)
        have b2 := (strL_bytes s).at (2 * k + 1) (by have := HL.out; omega)
        have c1 : ((2 * k : Nat) : Int) = 2 * (k : Int) := by omega
        have c2 : ((2 * k + 1 : Nat) : Int) = 2 * (k : Int) + 1 := by omega
        rw [c1] at f1
        rw [c2] at f2
        have HS := unhexL_step (strL s) us (2 * k) (by have := HL.out; omega) hun
        have HN := unhexL_stop (strL s) us (2 * k) (by have := HL.out; omega) hun
        obtain ⟨X, hX⟩ : ∃ X, (strL s).getD (2 * k) 0 = X := ⟨_, rfl⟩
        obtain ⟨Y, hY⟩ : ∃ Y, (strL s).getD (2 * k + 1) 0 = Y := ⟨_, rfl⟩
        rw [hX] at f1 b1 HS HN
        rw [hY] at f2 b2 HS HN
        have d1 := dv_bd X
        have d2 := dv_bd Y
        have HO := or4 (dv X) (dv Y) d1 d2
        have i1 : (2 * (k : Int)) < (s.size : Int) := by omega
        have i2 : (0 : Int) ≤ 2 * (k : Int) := by omega
        have hsz := hbel.size
        have HSS : Hid _ := HS
        have HNN : Hid _ := HN
        have HUL : Hid (us.length = k) := hul
        clear hX hY hun HS HN hul
        by_cases q1 : isDig X = true
        · by_cases q2 : isDig Y = true
          · have HD : Hid (unhexL (strL s) = (unhexL ((strL s).drop (2 * k + 2))).map (fun l => (us ++ [16 * dv X + dv Y]) ++ l)) := HSS.out (by rw [q1, q2]; rfl)
            have v1 : dv X * 16 % 256 = dv X * 16 := by omega
            go_wp2_with fail
            refine (digitOf_any X b1 wr).mono ?_
            rintro e w' ⟨rfl, rfl⟩
            go_wp2_with fail
            refine (digitOf_any Y b2 wr).mono ?_
            rintro e w' ⟨rfl, rfl⟩
            go_wp2_with (at_builtin; refine wpList_append_own _ rfl _ _ 22 rfl w.heap.size 5 i0 (.int .u8 0) 1 1 Try.underlying22 hi hz0 hz1 hz2 rfl (by decide) _ _ _ rfl (hown.alloc _) ⟨wr.heap.size, 0, none⟩ 1 1 [.int .u8 (16 * dv X + dv Y)] rfl rfl ?c1 ?c2 ?c3 ?c4 ?c5 ?_)
            case c1 => exact cell_one_new _ _ _
            case c2 => intro u hu; simp at hu; subst hu; rfl
            case c3 => unfold maxLen; omega
            case c4 => omega
            case c5 => simp; omega
            · intro v' w1 hown' hgrow _
              have R1 : w1.ownsRow w.heap.size 5 1 v' (k + 1) ((us ++ [16 * dv X + dv Y]).map (Value.int .u8)) := by rw [List.map_append]; exact hown'
              have R2 : Below w.heap.size w w1 := (hbel.alloc hsz _).grown hgrow (by simp; omega) (fun j hj => (hown.lt j hj).1)
              clear hown' hgrow hown hbel f1 f2
              go_wp2
              go_roundw
              case rel => exact ⟨k + 1, us ++ [16 * dv X + dv Y], by omega, by go_num, by simp [HUL.out], HD.out, R1, R2⟩
              case measure => simp [intOf]; omega
          · have q3 : isDig Y = false := by simpa using q2
            have HD : Hid (unhexL (strL s) = none) := HNN.out (by rw [q3]; simp)
            have HB : Hid _ := hbel
            clear hown hbel q2
            go_wp2_with fail
            refine (digitOf_any X b1 wr).mono ?_
            rintro e w' ⟨rfl, rfl⟩
            go_wp2_with fail
            refine (digitOf_any Y b2 wr).mono ?_
            rintro e w' ⟨rfl, rfl⟩
            go_wp2
            go_ret2
            rw [(un_none HD.out).1, (un_none HD.out).2]
            exact ⟨_, rfl, World.ownsRow_nil _ _ _ _, HB.out⟩
        · have q3 : isDig X = false := by simpa using q1
          have HD : Hid (unhexL (strL s) = none) := HNN.out (by rw [q3]; simp)
          have HB : Hid _ := hbel
          clear hown hbel q1
          go_wp2_with fail
          refine (digitOf_any X b1 wr).mono ?_
          rintro e w' ⟨rfl, rfl⟩
          go_wp2_with fail
          refine (digitOf_any Y b2 wr).mono ?_
          rintro e w' ⟨rfl, rfl⟩
          go_wp2
          go_ret2
          rw [(un_none HD.out).1, (un_none HD.out).2]
          exact ⟨_, rfl, World.ownsRow_nil _ _ _ _, HB.out⟩
      · have e : k = m := by omega
        subst e
        have HD : Hid (unhexL (strL s) = some us) := by
          show _ = _
          rw [hun, List.drop_of_length_le (by have := HL.out; have := HM.out; omega)]
          simp [unhexL]
        have HO : Hid (wr.ownsRow w.heap.size 5 1 u4 us.length (us.map (Value.int .u8))) := by rw [hul]; exact hown
        have HB : Hid _ := hbel
        have i1 : ¬ (2 * (k : Int)) < (s.size : Int) := by have := HM.out; omega
        clear hown hbel hun
        go_wp2
        go_ret2
        rw [(un_some HD.out).1, (un_some HD.out).2]
        exact ⟨_, rfl, HO.out, HB.out⟩
  · have HD : Hid (unhexL (strL s) = none) := unhexL_odd (s.size / 2) _ (by have := HL.out; omega)
    have e1 : (s.size : Int) % 2 = 1 := by omega
    have e3 : ((s.size : Int).tmod 2) = 1 := by rw [Int.tmod_eq_emod_of_nonneg (by omega)]; exact e1
    clear hm
    go_enter Try.func37, Try.ntmps37
    go_wp2
    go_ret2
    rw [(un_none HD.out).1, (un_none HD.out).2]
    exact ⟨_, rfl, World.ownsRow_nil _ _ _ _, Below.refl _ _⟩

/-! ### awake -/
set_option maxHeartbeats 1000000 in
theorem awake_any (w : World) : Calls Try.prog 39 #[] w fun e w' => e = .returned (.bool true) ∧ Below w.heap.size w w' := by
  go_enter Try.func39, Try.ntmps39
  go_wp2_with fail
  refine (put_32 none 0 0 [] 16909060 w (Seen.empty _ _) (fun _ => rfl) (by decide) (by decide)).mono ?_
  rintro e w1 ⟨v, rfl, o1, b1⟩
  obtain ⟨vo, cap, rfl, s1, _⟩ := own_seen (by rw [List.length_append, leB_length]; rfl) (bytes_app (by intro z hz; cases hz) (leB_bytes _ _)) (by decide) o1
  clear o1
  go_wp2_with fail
  refine (little_32 vo (0 + 4) cap _ w1 s1).mono ?_
  rintro e w' ⟨rfl, rfl⟩
  have e1 : leV 4 (0 + 4) ([] ++ leB 4 16909060) = 16909060 := by decide
  have e2 : fit (0 + 4) 4 = 0 := by decide
  rw [e1, e2]
  go_wp2_with fail
  refine (unhex_any { data := #[48, 97, 102, 102] } (by decide) w1).mono ?_
  rintro e w2 ⟨v2, rfl, o2, b2⟩
  have e3 : unE { data := #[48, 97, 102, 102] } = 0 := by decide
  have e4 : unV { data := #[48, 97, 102, 102] } = [10, 255] := by decide
  rw [e4] at o2
  rw [e3]
  rcases own_len (n := 2) rfl o2 with ⟨_, h⟩ | ⟨g, cap2, rfl, r2, l2, _, _⟩
  · cases h
  have c2 : w2.cell? ⟨g, 1, none⟩ = some (.int .u8 255) := r2.cell 1 (by decide)
  have HB : Hid (Below w.heap.size w w2) := b1.trans (b2.mono b1.size)
  clear o2 s1 r2 b1 b2
  have s3 : Seen (w2.alloc (.cells #[.int .u8 16] 5)) (some ⟨w2.heap.size, 0, none⟩) 1 [16] := Seen.of_row (n := 1) (RowAt.new w2 [16]) (by decide) (by decide) (by intro z hz; simp at hz; omega)
  have e5 : strOfNums (hexL [16]) = { data := #[49, 48] } := by decide
  have HA : Hid (Below w.heap.size w (w2.alloc (.cells #[.int .u8 16] 5))) := HB.out.alloc HB.out.size _
  go_wp2_with fail
  refine (hex_any _ 1 1 [16] _ s3 (by decide)).mono ?_
  rw [e5]
  rintro e w3 ⟨rfl, b3⟩
  have HZ : Hid (Below w.heap.size w w3) := HA.out.trans (b3.mono HA.out.size)
  clear b3 s3
  go_wp2
  go_ret
  exact ⟨rfl, HZ.out⟩
end Go.Proofs.Ytkkiceldlcfjiaa
