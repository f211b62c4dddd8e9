/- Layer octet: the statements' steps: how they are seen; width, cut, taken, lay. -/
import Derived.Test.YtgcpckkhkppnhaaOWrite
namespace Go.Proofs.Ytgcpckkhkppnhaa
open Go.RowKit
set_option linter.unusedVariables false
set_option linter.unusedSimpArgs false

structure Item where
  d : Int
  n : Int
  v : Int
  data : List Int
instance : Inhabited Item := ⟨⟨0, 0, 0, []⟩⟩
abbrev itAt (its : List Item) (i : Nat) : Item := its.getD i default
/-- A slice at ao of n steps, which are its. -/
structure SeenS (w : World) (ao : Option Addr) (n : Nat) (its : List Item) : Prop where
  len : its.length = n
  top : n ≤ 140737488355328
  cells : ∀ i, i < n → ∃ b o so cs, ao = some ⟨b, o, none⟩ ∧ b < w.heap.size ∧ w.cell? ⟨b, o + i * 4, none⟩ = some (.int .i64 (itAt its i).d) ∧ w.cell? ⟨b, o + i * 4 + 1, none⟩ = some (.int .i64 (itAt its i).n) ∧ w.cell? ⟨b, o + i * 4 + 2, none⟩ = some (.int .u64 (itAt its i).v) ∧
    w.cell? ⟨b, o + i * 4 + 3, none⟩ = some (.slice so (itAt its i).data.length cs) ∧ Seen w so (itAt its i).data.length (itAt its i).data ∧ (so = none → cs = 0)
  wf : ∀ i, i < n → Word (itAt its i).v ∧ (-9223372036854775808 ≤ (itAt its i).d ∧ (itAt its i).d ≤ 9223372036854775807) ∧ (-9223372036854775808 ≤ (itAt its i).n ∧ (itAt its i).n ≤ 9223372036854775807) ∧ (itAt its i).data.length ≤ 140737488351232
theorem SeenS.kept {S : Nat → Prop} {w w' : World} {ao : Option Addr} {n : Nat} {its : List Item} (h : SeenS w ao n its) (hk : Kept S w w') (hS : ∀ k, k < w.heap.size → ¬ S k) : SeenS w' ao n its :=
  ⟨h.len, h.top, fun i hi => by
    obtain ⟨b, o, so, cs, e, hlt, h0, h1, h2, h3, hs, hc⟩ := h.cells i hi
    exact ⟨b, o, so, cs, e, Nat.lt_of_lt_of_le hlt hk.size, (hk.cell (p := ⟨b, o + i * 4, none⟩) hlt (hS b hlt)).trans h0, (hk.cell (p := ⟨b, o + i * 4 + 1, none⟩) hlt (hS b hlt)).trans h1, (hk.cell (p := ⟨b, o + i * 4 + 2, none⟩) hlt (hS b hlt)).trans h2, (hk.cell (p := ⟨b, o + i * 4 + 3, none⟩) hlt (hS b hlt)).trans h3,
      hs.kept hk (fun b' o' hn e' => by
        obtain ⟨b2, o2, e2, hlt2, _⟩ := hs.cells hn
        rw [e'] at e2
        simp only [Option.some.injEq, Addr.mk.injEq] at e2
        exact hS b' (by omega)), hc⟩, h.wf⟩
theorem SeenS.later {w w' : World} {ao : Option Addr} {n : Nat} {its : List Item} (h : SeenS w ao n its) (hb : Below w.heap.size w w') : SeenS w' ao n its :=
  h.kept (S := fun _ => False) (kept_of_below hb (Nat.le_refl _)) (fun _ _ x => x)

/-- The bytes of a step's number; a step's bytes. -/
def wd (d : Int) : Nat := if d = 1 then 1 else if d = 2 then 2 else if d = 3 then 4 else if d = 4 then 8 else 0
theorem wd_cases (d : Int) : (d = 1 ∧ wd d = 1) ∨ (d = 2 ∧ wd d = 2) ∨ (d = 3 ∧ wd d = 4) ∨ (d = 4 ∧ wd d = 8) ∨ (d ≠ 1 ∧ d ≠ 2 ∧ d ≠ 3 ∧ d ≠ 4 ∧ wd d = 0) := by
  unfold wd
  by_cases h1 : d = 1
  · simp [h1]
  · by_cases h2 : d = 2
    · simp [h2]
    · by_cases h3 : d = 3
      · simp [h3]
      · by_cases h4 : d = 4
        · simp [h4]
        · simp [h1, h2, h3, h4]
theorem wd_le (d : Int) : wd d ≤ 8 := by rcases wd_cases d with h | h | h | h | h <;> omega
def itB (it : Item) : List Int := if it.d = 5 then it.data else leB (wd it.d) it.v
def itN (it : Item) : Nat := if it.d = 5 then it.data.length else wd it.d
theorem itB_length (it : Item) : (itB it).length = itN it := by unfold itB itN; split <;> simp [leB_length]
def encS (its : List Item) : List Int := its.flatMap itB
theorem encS_succ (its : List Item) (k : Nat) (hk : k < its.length) : encS (its.take (k + 1)) = encS (its.take k) ++ itB (itAt its k) := by
  unfold encS
  have e : itAt its k = its[k] := by simp [itAt, List.getD, hk]
  rw [List.take_succ_eq_append_getElem hk, List.flatMap_append, e]
  simp only [List.flatMap_cons, List.flatMap_nil, List.append_nil]
theorem encS_len (its : List Item) (k : Nat) (hk : k < its.length) : (encS (its.take (k + 1))).length = (encS (its.take k)).length + itN (itAt its k) := by
  rw [encS_succ its k hk, List.length_append, itB_length]
theorem encS_pre (its : List Item) (k : Nat) : ∃ r, encS its = encS (its.take k) ++ r := by
  refine ⟨encS (its.drop k), ?_⟩
  unfold encS
  rw [← List.flatMap_append, List.take_append_drop]

theorem width_any (d : Int) (w : World) : Calls Try.prog 20 #[.int .i64 d] w fun e w' => e = .returned (.int .i64 (wd d)) ∧ w = w' := by
  rcases wd_cases d with ⟨rfl, h⟩ | ⟨rfl, h⟩ | ⟨rfl, h⟩ | ⟨rfl, h⟩ | ⟨h1, h2, h3, h4, h⟩
  · go_enter Try.func20, Try.ntmps20
    go_wp2
    go_ret
    exact ⟨rfl, rfl⟩
  · go_enter Try.func20, Try.ntmps20
    go_wp2
    go_ret
    exact ⟨rfl, rfl⟩
  · go_enter Try.func20, Try.ntmps20
    go_wp2
    go_ret
    exact ⟨rfl, rfl⟩
  · go_enter Try.func20, Try.ntmps20
    go_wp2
    go_ret
    exact ⟨rfl, rfl⟩
  · have HH : Hid (wd d = 0) := h
    clear h
    go_enter Try.func20, Try.ntmps20
    go_wp2
    go_ret
    exact ⟨by rw [HH.out]; rfl, rfl⟩
theorem scut_any (x : Int) (hx : Word x) (d : Int) (hk : 0 < wd d) (w : World) :
    Calls Try.prog 30 #[.int .u64 x, .int .i64 (wd d)] w fun e w' => e = .returned (.int .u64 (x % 256 ^ wd d)) ∧ w = w' := by
  have hh : wd d = 1 ∨ wd d = 2 ∨ wd d = 4 ∨ wd d = 8 := by rcases wd_cases d with h | h | h | h | h <;> omega
  generalize wd d = k at *
  rcases hh with rfl | rfl | rfl | rfl
  · go_enter Try.func30, Try.ntmps30
    go_wp2
    go_ret
    exact ⟨ret_int (by rfl), rfl⟩
  · go_enter Try.func30, Try.ntmps30
    go_wp2
    go_ret
    exact ⟨ret_int (by rfl), rfl⟩
  · go_enter Try.func30, Try.ntmps30
    go_wp2
    go_ret
    exact ⟨ret_int (by rfl), rfl⟩
  · have e : x % 256 ^ 8 = x := by have h := hx; simp only [Word] at h; omega
    rw [e]
    go_enter Try.func30, Try.ntmps30
    go_wp2
    go_ret
    exact ⟨rfl, rfl⟩
theorem leV_lt (k n : Nat) (zs : List Int) (h : Bytes zs) (hl : zs.length = n) : 0 ≤ leV k n zs ∧ leV k n zs < 256 ^ k := by
  unfold leV
  split
  · next h1 => have := le_bd zs h; rw [hl, h1] at this; exact this
  · exact ⟨Int.le_refl _, Int.pow_pos (by decide)⟩
theorem nxL_bytes (zs : List Int) (h : Bytes zs) (p : Nat) (e n : Int) : Bytes (nxL zs p e n) := by
  unfold nxL
  split
  · intro z hz; cases hz
  · exact bytes_take (bytes_drop h _) _
/-- What a reader takes as a step's number. -/
def tkV (zs : List Int) (p : Nat) (e d : Int) : Int := leV (wd d) (nxL zs p e (wd d)).length (nxL zs p e (wd d))
theorem taken_any (r : Nat) (ao : Option Addr) (c : Nat) (zs : List Int) (p : Nat) (e d : Int) (hd : 0 < wd d) (w : World) (h : Rd w r ao c zs p e) :
    Calls Try.prog 21 #[.pointer (some ⟨r, 0, none⟩), .int .i64 d] w fun en w' => en = .returned (.int .u64 (tkV zs p e d)) ∧ Rd w' r ao c zs (nxP zs p e (wd d)) (nxE zs p e (wd d)) ∧ Kept (fun k => k = r) w w' := by
  have hb := leV_lt (wd d) _ (nxL zs p e (wd d)) (nxL_bytes zs h.hb p e _) rfl
  unfold tkV
  rcases wd_cases d with ⟨rfl, hw⟩ | ⟨rfl, hw⟩ | ⟨rfl, hw⟩ | ⟨rfl, hw⟩ | ⟨h1, h2, h3, h4, hw⟩
  · rw [hw] at hb ⊢
    have hr := ru_8 r ao c zs p e w h
    clear h
    simp only [Int.natCast_one] at hb ⊢
    generalize leV 1 _ _ = V at *
    go_enter Try.func21, Try.ntmps21
    go_wp2_with (go_at_call 34; refine hr.mono ?_; rintro en w1 ⟨rfl, rd, kp⟩; have HR : Hid _ := rd; have HK : Hid _ := kp; clear rd kp)
    go_ret
    exact ⟨rfl, HR.out, HK.out⟩
  · rw [hw] at hb ⊢
    have hr := ru_16 r ao c zs p e w h
    clear h
    have ec : ((2 : Nat) : Int) = 2 := rfl
    rw [ec] at hb ⊢
    generalize leV 2 _ _ = V at *
    go_enter Try.func21, Try.ntmps21
    go_wp2_with (go_at_call 35; refine hr.mono ?_; rintro en w1 ⟨rfl, rd, kp⟩; have HR : Hid _ := rd; have HK : Hid _ := kp; clear rd kp)
    go_ret
    exact ⟨rfl, HR.out, HK.out⟩
  · rw [hw] at hb ⊢
    have hr := ru_32 r ao c zs p e w h
    clear h
    have ec : ((4 : Nat) : Int) = 4 := rfl
    rw [ec] at hb ⊢
    generalize leV 4 _ _ = V at *
    go_enter Try.func21, Try.ntmps21
    go_wp2_with (go_at_call 36; refine hr.mono ?_; rintro en w1 ⟨rfl, rd, kp⟩; have HR : Hid _ := rd; have HK : Hid _ := kp; clear rd kp)
    go_ret
    exact ⟨rfl, HR.out, HK.out⟩
  · rw [hw] at hb ⊢
    have hr := ru_64 r ao c zs p e w h
    clear h
    have ec : ((8 : Nat) : Int) = 8 := rfl
    rw [ec] at hb ⊢
    generalize leV 8 _ _ = V at *
    go_enter Try.func21, Try.ntmps21
    go_wp2_with (go_at_call 37; refine hr.mono ?_; rintro en w1 ⟨rfl, rd, kp⟩; have HR : Hid _ := rd; have HK : Hid _ := kp; clear rd kp)
    go_ret
    exact ⟨rfl, HR.out, HK.out⟩
  · omega

theorem wb_none {size : Nat} {zs : List Int} {e : Int} (h : zs.length ≤ size) : wbL size zs e [] = zs ∧ wbE size zs e [] = e := by
  unfold wbL wbE
  by_cases he : e = 0
  · subst he
    simp
    omega
  · simp [he]
theorem slay_any (r : Nat) (v : Value) (size : Nat) (zs : List Int) (e d x : Int) (hx : Word x) (w : World) (h : Wr w r v size zs e) :
    Calls Try.prog 27 #[.pointer (some ⟨r, 0, none⟩), .int .i64 d, .int .u64 x] w fun en w' => en = .returned (.tuple #[]) ∧ ∃ v', Wr w' r v' size (wbL size zs e (leB (wd d) x)) (wbE size zs e (leB (wd d) x)) ∧ Kept (WFoot r v) w w' ∧ (∀ g, v'.ownBlock = some g → v.ownBlock = some g ∨ w.heap.size ≤ g) := by
  have hm : ∀ k : Nat, leB k (x % 256 ^ k) = leB k x := fun k => by
    have h := leB_le (leB k x) (leB_bytes k x)
    rw [leB_length, le_leB] at h
    exact h
  rcases wd_cases d with ⟨rfl, hw⟩ | ⟨rfl, hw⟩ | ⟨rfl, hw⟩ | ⟨rfl, hw⟩ | ⟨h1, h2, h3, h4, hw⟩
  · rw [hw]
    have hp := wu_8 r v size zs e (x % 256) (by omega) w h
    rw [show x % 256 = x % 256 ^ 1 by rfl, hm] at hp
    clear h hm
    go_enter Try.func27, Try.ntmps27
    go_wp2_with (go_at_call 41; refine hp.mono ?_; rintro en w1 ⟨rfl, v', wr, kp, hg⟩; have HR : Hid _ := wr; have HK : Hid _ := kp; have HG : Hid _ := hg; clear wr kp hg)
    (try simp only [Exit.inBlock, Exit.then]); first | (refine bodyPost_ret (results_none rfl _ _ _) rfl ?_) | (refine bodyPost_end (results_none rfl _ _ _) rfl ?_)
    exact ⟨rfl, v', HR.out, HK.out, HG.out⟩
  · rw [hw]
    have hp := wu_16 r v size zs e (x % 65536) (by omega) w h
    rw [show x % 65536 = x % 256 ^ 2 by rfl, hm] at hp
    clear h hm
    go_enter Try.func27, Try.ntmps27
    go_wp2_with (go_at_call 42; refine hp.mono ?_; rintro en w1 ⟨rfl, v', wr, kp, hg⟩; have HR : Hid _ := wr; have HK : Hid _ := kp; have HG : Hid _ := hg; clear wr kp hg)
    (try simp only [Exit.inBlock, Exit.then]); first | (refine bodyPost_ret (results_none rfl _ _ _) rfl ?_) | (refine bodyPost_end (results_none rfl _ _ _) rfl ?_)
    exact ⟨rfl, v', HR.out, HK.out, HG.out⟩
  · rw [hw]
    have hp := wu_32 r v size zs e (x % 4294967296) (by omega) w h
    rw [show x % 4294967296 = x % 256 ^ 4 by rfl, hm] at hp
    clear h hm
    go_enter Try.func27, Try.ntmps27
    go_wp2_with (go_at_call 43; refine hp.mono ?_; rintro en w1 ⟨rfl, v', wr, kp, hg⟩; have HR : Hid _ := wr; have HK : Hid _ := kp; have HG : Hid _ := hg; clear wr kp hg)
    (try simp only [Exit.inBlock, Exit.then]); first | (refine bodyPost_ret (results_none rfl _ _ _) rfl ?_) | (refine bodyPost_end (results_none rfl _ _ _) rfl ?_)
    exact ⟨rfl, v', HR.out, HK.out, HG.out⟩
  · rw [hw]
    have hp := wu_64 r v size zs e x hx w h
    clear h hm
    go_enter Try.func27, Try.ntmps27
    go_wp2_with (go_at_call 44; refine hp.mono ?_; rintro en w1 ⟨rfl, v', wr, kp, hg⟩; have HR : Hid _ := wr; have HK : Hid _ := kp; have HG : Hid _ := hg; clear wr kp hg)
    (try simp only [Exit.inBlock, Exit.then]); first | (refine bodyPost_ret (results_none rfl _ _ _) rfl ?_) | (refine bodyPost_end (results_none rfl _ _ _) rfl ?_)
    exact ⟨rfl, v', HR.out, HK.out, HG.out⟩
  · rw [hw, show leB 0 x = [] by rfl, (wb_none h.hs).1, (wb_none h.hs).2]
    have HH : Hid _ := h
    clear h hm hw
    go_enter Try.func27, Try.ntmps27
    go_wp2
    (try simp only [Exit.inBlock, Exit.then]); first | (refine bodyPost_ret (results_none rfl _ _ _) rfl ?_) | (refine bodyPost_end (results_none rfl _ _ _) rfl ?_)
    exact ⟨rfl, v, HH.out, Kept.refl _ _, fun g hg => .inl hg⟩
end Go.Proofs.Ytgcpckkhkppnhaa
