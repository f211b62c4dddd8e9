/- Joined texts: OMem SAwake SBg SBeginIn RSQuart RSRow RSState RSBlock. -/
import Derived.Test.YtogplebajpdmoaaBO
import Derived.Test.YtogplebajpdmoaaBS
import Derived.ProofKit
import Derived.OpenShut
import Derived.ShutString
import Derived.ChangeOld
import Derived.SizedLaws
import Derived.Test.YtogplebajpdmoaaBU
import Derived.Test.YtogplebajpdmoaaBV
import Derived.Test.YtogplebajpdmoaaBT
/- Layer octet: the statements' lent, still, same. -/
namespace Go.Proofs.Ytogplebajpdmoaa
open Go.RowKit
set_option linter.unusedVariables false
set_option linter.unusedSimpArgs false

theorem take_same_succ (xs ys : List Int) (k : Nat) (hx : k < xs.length) (hy : k < ys.length) : (xs.take (k + 1) = ys.take (k + 1)) ↔ (xs.take k = ys.take k ∧ xs.getD k 0 = ys.getD k 0) := by
  rw [List.take_succ_eq_append_getElem hx, List.take_succ_eq_append_getElem hy]
  have e1 : xs.getD k 0 = xs[k] := by simp [List.getD, hx]
  have e2 : ys.getD k 0 = ys[k] := by simp [List.getD, hy]
  rw [e1, e2]
  constructor
  · intro h
    have := List.append_inj h (by simp; omega)
    simpa using this
  · rintro ⟨h1, h2⟩; rw [h1, h2]
set_option maxHeartbeats 1000000 in
theorem same_any (ao bo : Option Addr) (n n' c c' : Nat) (xs ys : List Int) (w : World) (hx : Seen w ao n xs) (hy : Seen w bo n' ys) :
    Calls Try.prog 43 #[.slice ao n c, .slice bo n' c'] w fun e w' => e = .returned (.bool (decide (xs = ys))) ∧ ∃ q, w' = w.drewN q := by
  have t1 := hx.top
  have t2 := hy.top
  by_cases hne : n = n'
  · subst hne
    have HL : Hid (xs.length = n ∧ ys.length = n) := ⟨hx.len, hy.len⟩
    go_enter Try.func43, Try.ntmps43
    go_wp2
    go_loopw [5] (fun i wr => ∃ k : Nat, k ≤ n ∧ i = .int .i64 k ∧ xs.take k = ys.take k ∧ ∃ q, wr = w.drewN q) (fun i _ => n - (intOf i).toNat)
    case atStart => exact ⟨0, Nat.zero_le _, rfl, by simp, 0, rfl⟩
    case round =>
      obtain ⟨k, hk, rfl, hs, q, rfl⟩ := hrel
      by_cases hlt : k < n
      · obtain ⟨b, o, rfl, hb, hc⟩ := hx.cells (by omega)
        obtain ⟨b', o', rfl, hb', hc'⟩ := hy.cells (by omega)
        have c1 := hc k hlt
        have c2 := hc' k hlt
        have HT := take_same_succ xs ys k (by have := HL.out.1; omega) (by have := HL.out.2; omega)
        obtain ⟨X, hX⟩ : ∃ X, xs.getD k 0 = X := ⟨_, rfl⟩
        obtain ⟨Y, hY⟩ : ∃ Y, ys.getD k 0 = Y := ⟨_, rfl⟩
        rw [hX] at c1 HT
        rw [hY] at c2 HT
        have HS : Hid (xs.take k = ys.take k) := hs
        have HT' : Hid (xs.take (k + 1) = ys.take (k + 1) ↔ xs.take k = ys.take k ∧ X = Y) := HT
        have i1 : (0 : Int) ≤ (k : Int) := by omega
        have i2 : (k : Int) < (n : Int) := by omega
        clear hX hY hc hc' hx hy hs HT hb hb'
        by_cases e : X = Y
        · have hd : (X != Y) = false := by simp [e]
          have HE : Hid (X = Y) := e
          clear e
          go_wp2
          go_quiet (fail)
          go_wp2
          go_roundw
          case rel => exact ⟨k + 1, by omega, by go_num, HT'.out.2 ⟨HS.out, HE.out⟩, _, rfl⟩
          case measure => simp [intOf]; omega
        · have hd : (X != Y) = true := by simp [e]
          have HE : Hid (¬ X = Y) := e
          clear e
          have HN : Hid (decide (xs = ys) = false) := by
            show _ = _
            apply decide_eq_false
            intro h
            exact HE.out (HT'.out.1 (by rw [h])).2
          go_wp2
          go_quiet (fail)
          go_wp2
          go_ret
          exact ⟨ret_bool HN.out.symm, _, World.drewN_drewN _ _ _⟩
      · have HE : Hid (decide (xs = ys) = true) := by
          show _ = _
          apply decide_eq_true
          have e1 : xs.take k = xs := List.take_of_length_le (by have := HL.out.1; omega)
          have e2 : ys.take k = ys := List.take_of_length_le (by have := HL.out.2; omega)
          rw [← e1, ← e2]; exact hs
        clear hs
        go_wp2
        go_ret
        exact ⟨ret_bool HE.out.symm, _, rfl⟩
  · have h : ((n : Int) != (n' : Int)) = true := by simp; omega
    have HN : Hid (decide (xs = ys) = false) := by
      show _ = _
      apply decide_eq_false
      intro h
      exact hne (by rw [← hx.len, ← hy.len, h])
    go_enter Try.func43, Try.ntmps43
    go_wp2
    go_ret
    exact ⟨ret_bool HN.out.symm, 0, rfl⟩
theorem same_yes (ao bo : Option Addr) (n n' c c' : Nat) (xs : List Int) (w : World) (hx : Seen w ao n xs) (hy : Seen w bo n' xs) :
    Calls Try.prog 43 #[.slice ao n c, .slice bo n' c'] w fun e w' => e = .returned (.bool true) ∧ ∃ q, w' = w.drewN q :=
  (same_any ao bo n n' c c' xs xs w hx hy).mono fun e w' ⟨he, hq⟩ => ⟨by rw [he]; simp, hq⟩

/-- The marks behind what lent lends. -/
def marks : List Int := (List.range 90).map fun i => ((160 + i % 80 : Nat) : Int)
theorem marks_length : marks.length = 90 := by simp [marks]
theorem marks_getD (k : Nat) (hk : k < 90) : marks.getD k 0 = 160 + (k : Int) % 80 := by simp [marks, List.getD, hk]
theorem marks_bytes : Bytes marks := by
  intro z hz
  simp only [marks, List.mem_map, List.mem_range] at hz
  obtain ⟨i, hi, rfl⟩ := hz
  omega
theorem bytes_marks {xs : List Int} (h : Bytes xs) : Bytes (xs ++ marks) := bytes_app h marks_bytes

set_option maxHeartbeats 2000000 in
set_option maxRecDepth 20000 in
theorem lent_any (ao : Option Addr) (n c : Nat) (zs : List Int) (w : World) (hx : Seen w ao n zs) (hc : ao = none → c = 0) (hn : n + 90 ≤ 140737488355328) :
    Calls Try.prog 39 #[.slice ao n c] w fun e w' => ∃ g cap, e = .returned (.slice (some ⟨g, 0, none⟩) n cap) ∧ RowAt w' g (zs ++ marks) ∧ w.heap.size ≤ g ∧ n + 90 ≤ cap ∧ cap ≤ maxLen ∧ Below w.heap.size w w' := by
  obtain ⟨i0, hi, hz0, hz1, hz2⟩ := info_parts info_byte
  have A1 : Hid (∀ k, k < 90 → (zs ++ marks).getD (n + k) 0 = 160 + (k : Int) % 80) := fun k hk => by rw [app_getD _ _ _ _ hx.len, marks_getD _ hk]
  have A2 : Hid (((zs ++ marks).map (Value.int .u8)).take n = zs.map (Value.int .u8)) := app_take _ _ _ hx.len
  have A3 : Hid (((zs ++ marks).map (Value.int .u8)).take (n + 90) = (zs ++ marks).map (Value.int .u8)) := app_all _ _ _ _ hx.len marks_length
  have A4 : Hid ((zs ++ marks).length = n + 90) := by show _ = _; rw [List.length_append, hx.len, marks_length]
  generalize zs ++ marks = zm at *
  have HC : Hid (ao = none → c = 0) := hc
  clear hc
  go_enter Try.func39, Try.ntmps39
  go_wp2_with (at_builtin; refine wpList_append_seen rfl _ _ rfl w.heap.size _ 0 [] rfl (World.ownsRow_nil _ _ _ _) ao n c zs rfl hx HC.out (by omega) (Nat.le_refl _) ?_)
  intro v w1 hown hgrow
  have hbel : Below w.heap.size w w1 := below_grown (Below.refl _ _) (World.ownsRow_nil _ _ _ _) hgrow
  try simp only [Nat.zero_add, List.nil_append] at hown
  clear hgrow
  go_wp2
  go_loopw [3, 4] (fun v i wr => ∃ k : Nat, k ≤ 90 ∧ i = .int .i64 k ∧ wr.ownsRow w.heap.size 5 1 v (n + k) ((zm.map (Value.int .u8)).take (n + k)) ∧ Below w.heap.size w wr) (fun _ i _ => 90 - (intOf i).toNat)
  case atStart => exact ⟨0, Nat.zero_le _, rfl, by rw [Nat.add_zero, A2.out]; exact hown, hbel⟩
  case round =>
    clear hown hbel hx
    obtain ⟨k, hk, rfl, hown, hbel⟩ := hrel
    by_cases hlt : k < 90
    · have hsz := hbel.size
      have HZ : Hid (zm.getD (n + k) 0 = 160 + (k : Int) % 80) := A1.out k hlt
      have e1 : (160 + (k : Int) % 80) % 256 = 160 + (k : Int) % 80 := by omega
      go_wp2_with (at_builtin; refine wpList_append_own _ rfl _ _ 31 rfl w.heap.size 5 i0 (.int .u8 0) 1 1 Try.underlying31 hi hz0 hz1 hz2 rfl (by decide) _ _ _ rfl (hown.alloc _) ⟨wr.heap.size, 0, none⟩ 1 1 [.int .u8 (160 + (k : Int) % 80)] rfl rfl ?c1 ?c2 ?c3 ?c4 ?c5 ?_)
      case c1 => exact cell_one_new _ _ _
      case c2 => intro u hu; simp at hu; subst hu; rfl
      case c3 => unfold maxLen; omega
      case c4 => omega
      case c5 => simp; omega
      · intro v' w1 hown' hgrow _
        have R := step_own hbel hown (by have := A4.out; omega) HZ.out hown' hgrow
        clear hown' hgrow hown hbel
        go_wp2
        go_roundw
        case rel => exact ⟨k + 1, by omega, by go_num, R.1, R.2⟩
        case measure => simp [intOf]; omega
    · have e : k = 90 := by omega
      subst e
      rw [A3.out] at hown
      rcases own_len A4.out hown with ⟨_, h⟩ | ⟨g, cap, rfl, hr, hg, hc, hm⟩
      · omega
      · have HB : Hid _ := hbel
        have HR : Hid _ := hr
        have i1 : (n : Int) ≤ (cap : Int) := by omega
        clear hown hbel hr
        go_wp2
        go_ret
        exact ⟨g, cap, rfl, HR.out, hg, hc, hm, HB.out⟩

/-- still: is what was lent as it was? -/
theorem still_yes (g n cap : Nat) (bo : Option Addr) (c' : Nat) (zs : List Int) (w : World) (hg : RowAt w g (zs ++ marks)) (hcap : n + 90 ≤ cap) (hm : cap ≤ maxLen) (hz : Seen w bo n zs) :
    Calls Try.prog 44 #[.slice (some ⟨g, 0, none⟩) n cap, .slice bo n c'] w fun e w' => e = .returned (.bool true) ∧ ∃ q, w' = w.drewN q := by
  have t1 := hz.top
  have HL : Hid (zs.length = n) := hz.len
  have A1 : Hid (∀ k, k < n → w.cell? ⟨g, k, none⟩ = some (.int .u8 (zs.getD k 0))) := fun k hk => by
    rw [hg.cell k (by have := hz.len; simp; omega)]
    have : k < zs.length := by have := hz.len; omega
    simp [List.getD, List.getElem?_append, this]
  have A2 : Hid (∀ k, k < 90 → w.cell? ⟨g, n + k, none⟩ = some (.int .u8 (160 + (k : Int) % 80))) := fun k hk => by
    rw [hg.cell (n + k) (by have := hz.len; have := marks_length; simp; omega), app_getD _ _ _ _ hz.len, marks_getD _ hk]
  have hcI : (n : Int) + 90 ≤ (cap : Int) := by omega
  unfold maxLen at hm
  clear hg
  go_enter Try.func44, Try.ntmps44
  go_wp2
  go_loopw [6] (fun i wr => ∃ k : Nat, k ≤ n + 90 ∧ i = .int .i64 k ∧ ∃ q, wr = w.drewN q) (fun i _ => n + 90 - (intOf i).toNat)
  case atStart => exact ⟨0, Nat.zero_le _, rfl, 0, rfl⟩
  case round =>
    obtain ⟨k, hk, rfl, q, rfl⟩ := hrel
    by_cases hlt : k < n
    · obtain ⟨b, o, rfl, hb, hc⟩ := hz.cells (by omega)
      have c1 := A1.out k hlt
      have c2 := hc k hlt
      obtain ⟨X, hX⟩ : ∃ X, zs.getD k 0 = X := ⟨_, rfl⟩
      rw [hX] at c1 c2
      have i1 : (0 : Int) ≤ (k : Int) := by omega
      have i2 : (k : Int) < (n : Int) := by omega
      have i3 : (k : Int) < (n : Int) + 90 := by omega
      have d1 : decide (n ≤ k) = false := by simp; omega
      clear hX hc hb hz
      go_wp2
      go_quiet (fail)
      go_wp2
      go_roundw
      case rel => exact ⟨k + 1, by omega, by go_num, _, rfl⟩
      case measure => simp [intOf]; omega
    · by_cases hlt2 : k < n + 90
      · obtain ⟨p, rfl⟩ : ∃ p, k = n + p := ⟨k - n, by omega⟩
        have c1 := A2.out p (by omega)
        have e1 : ((n + p : Nat) : Int) = (n : Int) + (p : Int) := by omega
        rw [e1]
        have e2 : (n : Int) + (p : Int) - (n : Int) = (p : Int) := by omega
        have e3 : (160 + (p : Int) % 80) % 256 = 160 + (p : Int) % 80 := by omega
        have i1 : (0 : Int) ≤ (n : Int) + (p : Int) := by omega
        have d1 : decide ((n : Int) + (p : Int) < (n : Int)) = false := by simp; omega
        have i3 : (n : Int) + (p : Int) < (n : Int) + 90 := by omega
        have i4 : (n : Int) ≤ (n : Int) + (p : Int) := by omega
        clear hz
        go_wp2
        go_quiet (fail)
        go_wp2
        go_roundw
        case rel => exact ⟨n + p + 1, by omega, by go_num, _, rfl⟩
        case measure => simp [intOf]; omega
      · go_wp2
        go_ret
        exact ⟨rfl, _, rfl⟩
/-- The bytes that were lent, seen; written. -/
theorem Seen.lent {w : World} {g n : Nat} {ys : List Int} (h : RowAt w g (ys ++ marks)) (hl : ys.length = n) (hb : Bytes ys) (ht : n ≤ 140737488355328) : Seen w (some ⟨g, 0, none⟩) n ys := by
  have h1 := h.take n
  rw [List.take_append_of_le_length (by omega), List.take_of_length_le (by omega)] at h1
  have := Seen.of_row (n := n) h1 (by omega) ht hb
  rwa [List.take_of_length_le (by omega)] at this
theorem bytes_set {us : List Int} (h : Bytes us) (m : Nat) (z : Int) (hz : 0 ≤ z ∧ z < 256) : Bytes (us.set m z) := by
  intro y hy
  rcases List.mem_or_eq_of_mem_set hy with h1 | h1
  · exact h y h1
  · rw [h1]; exact hz
theorem RowAt.lentSet {w : World} {g m : Nat} {us : List Int} (h : RowAt w g (us ++ marks)) (hm : m < us.length) (z : Int) : RowAt (w.setCell ⟨g, m, none⟩ (.int .u8 z)) g (us.set m z ++ marks) := by
  have h1 := h.set m (by simp; omega) z
  rwa [List.set_append_left _ _ hm] at h1
theorem RowAt.lentCell {w : World} {g m : Nat} {us : List Int} (h : RowAt w g (us ++ marks)) (hm : m < us.length) : w.cell? ⟨g, m, none⟩ = some (.int .u8 (us.getD m 0)) := by
  rw [h.cell m (by simp; omega)]
  simp [List.getD, List.getElem?_append, hm]
theorem xor8_bd (x y : Int) (hx : 0 ≤ x ∧ x < 256) (hy : 0 ≤ y ∧ y < 256) : 0 ≤ bits .xor .u8 x y ∧ bits .xor .u8 x y < 256 := by
  rw [u8_xor x y hx.1 hx.2 hy.1 hy.2]
  have : x.toNat ^^^ y.toNat < 2 ^ 8 := Nat.xor_lt_two_pow (by omega) (by omega)
  omega
end Go.Proofs.Ytogplebajpdmoaa

/- Layer stream: the statements' awake. -/
namespace Go.Proofs.Ytogplebajpdmoaa
open Go.RowKit
set_option linter.unusedVariables false
set_option linter.unusedSimpArgs false

theorem rfc_quarter : quarter ⟨286331153, 16909060, 2609737539, 19088743⟩ = ⟨3928658676, 3407673550, 1166100270, 1484899515⟩ := by rfl
theorem rfc_block0 : (List.range 4).map (fun i => (blkB (List.replicate 32 0) 0 (List.replicate 12 0)).getD i 0) = [118, 184, 224, 173] := by decide +kernel
def zK : List Int := List.replicate 32 0
def zN : List Int := List.replicate 12 0
theorem zeroKey (w : World) : (Instr.build 30 #[]).run Try.prog w = .ok (.agg (u8s zK).toArray) w := by kernel_rfl
theorem zeroNonce (w : World) : (Instr.build 25 #[]).run Try.prog w = .ok (.agg (u8s zN).toArray) w := by kernel_rfl
theorem zer_bytes (n : Nat) : Bytes (List.replicate n 0) := fun z hz => by rw [List.eq_of_mem_replicate hz]; decide
theorem over0 : over zK zN (64 * 0) [0, 0, 0, 0] = [118, 184, 224, 173] := by decide +kernel
theorem seen_new (w : World) (zs : List Int) (hb : Bytes zs) (ht : zs.length ≤ 140737488355328) : Seen (w.alloc (.cells (zs.map (Value.int .u8)).toArray 5)) (some ⟨w.heap.size, 0, none⟩) zs.length zs := by
  have := Seen.of_row (n := zs.length) (RowAt.new w zs) (Nat.le_refl _) ht hb
  rwa [List.take_of_length_le (Nat.le_refl _)] at this
theorem four0 : Bytes [0, 0, 0, 0] := zer_bytes 4
end Go.Proofs.Ytogplebajpdmoaa

/- What is handed in as a Begin: a key, a nonce and a counter in a block. -/
namespace Go.Proofs.Ytogplebajpdmoaa
open Go.RowKit
set_option linter.unusedVariables false
set_option linter.unusedSimpArgs false

def bCells (key nonce : List Int) (ctr : Int) : List Value := u8s key ++ (u8s nonce ++ [Value.int .u32 ctr])
theorem sizeBegin : (Try.prog.info? 67).map (·.size) = some 45 := by kernel_rfl
/-- What is handed in: a key, a nonce and a counter, in block g. -/
structure BgAt (w : World) (g : Nat) (key nonce : List Int) (ctr : Nat) : Prop where
  blk : Blk w g 67 (bCells key nonce ctr)
  k32 : key.length = 32
  n12 : nonce.length = 12
  kb : Bytes key
  nb : Bytes nonce
  top : ctr < 4294967296
theorem BgAt.later {w w' : World} {g : Nat} {key nonce : List Int} {ctr : Nat} (h : BgAt w g key nonce ctr) {B : Nat} (hb : Below B w w') (hB : g < B) : BgAt w' g key nonce ctr := ⟨h.blk.later hb hB, h.k32, h.n12, h.kb, h.nb, h.top⟩
theorem BgAt.ctr {w : World} {g : Nat} {key nonce : List Int} {P : Nat} (h : BgAt w g key nonce P) : w.cell? ⟨g, 44, none⟩ = some (.int .u32 P) := by
  rw [h.blk.cell, bCells, List.getElem?_append_right (by rw [u8s_length, h.k32]; decide), u8s_length, h.k32, List.getElem?_append_right (by rw [u8s_length, h.n12]; decide), u8s_length, h.n12]; rfl
theorem BgAt.key {w : World} {g : Nat} {key nonce : List Int} {P : Nat} (h : BgAt w g key nonce P) : w.rangeAt g 0 (u8s key) := by
  have := Blk.range (xs := []) (ys := u8s key) (zs := u8s nonce ++ [Value.int .u32 P]) h.blk
  simpa using this
theorem BgAt.nonce {w : World} {g : Nat} {key nonce : List Int} {P : Nat} (h : BgAt w g key nonce P) : w.rangeAt g 32 (u8s nonce) := by
  have := Blk.range (xs := u8s key) (ys := u8s nonce) (zs := [Value.int .u32 P]) h.blk
  rwa [u8s_length, h.k32] at this
end Go.Proofs.Ytogplebajpdmoaa

/- What is handed in as a Begin: read as a key, a nonce and a counter. -/
namespace Go.Proofs.Ytogplebajpdmoaa
open Go.ChangeShapes Go.WideShapes Go.ChangeAt Go.RowKit
set_option linter.unusedVariables false
set_option linter.unusedSimpArgs false

theorem cellsByte : Try.prog.cellsOf 5 = 1 := by kernel_rfl
theorem cellsKey : Try.prog.cellsOf 30 = 32 := by kernel_rfl
theorem cellsNonce : Try.prog.cellsOf 25 = 12 := by kernel_rfl
theorem cellsU32 : Try.prog.cellsOf 22 = 1 := by kernel_rfl
theorem cellsBegin : Try.prog.cellsOf 67 = 45 := by kernel_rfl
theorem u32_of_wf {z : Int} (h : (Lit.int .u32 z).wf = true) : 0 ≤ z ∧ z < 4294967296 := by
  simp [Lit.wf, IntKind.min, IntKind.max, IntKind.signed, IntKind.bits] at h
  exact ⟨by omega, by omega⟩
def unByte : Value → Int
  | .int _ z => z
  | _ => 0
/-- An array of bytes, opened. -/
theorem bytes_arr {H : Type} {enc : TypeId × Value → H} {W : World} {base : Nat} {sp : Nat → Bool} {held : Bool} {fuel n : Nat} {t : TypeId} {cs : List Value} {x : DataW H × List MemPlace} (ht : Try.prog.underlying t = some (.array n 5)) (hn : Try.prog.cellsOf t = n)
    (h : DataW.trod enc Try.prog W base sp held fuel t cs = some x) : ∃ zs : List Int, cs = u8s zs ∧ zs.length = n ∧ Bytes zs := by
  obtain ⟨xs, m, _, _, hlen, hxl, hf⟩ := DataW.trod_array ht h
  have hc : cs.length = n := hlen.trans hn
  have key : ∀ i, (hi : i < cs.length) → ∃ z, cs[i] = .int .u8 z ∧ 0 ≤ z ∧ z < 256 := by
    intro i hi
    have h1 := hf i (by omega)
    rw [cellsByte, Nat.mul_one, List.getElem?_eq_getElem (by omega)] at h1
    obtain ⟨z, hz, _, hw⟩ := DataW.trod_int Try.underlying5 h1
    refine ⟨z, ?_, byte_of_wf hw⟩
    rw [List.drop_eq_getElem_cons hi, List.take_succ_cons, List.take_zero] at hz
    exact (List.cons.inj hz).1
  refine ⟨cs.map unByte, ?_, by simpa using hc, ?_⟩
  · apply List.ext_getElem
    · simp [u8s]
    · intro i h1 h2
      obtain ⟨z, hz, _⟩ := key i h1
      simp [u8s, hz, unByte]
  · intro z hz
    obtain ⟨v, hv, rfl⟩ := List.mem_map.1 hz
    obtain ⟨i, hi, rfl⟩ := List.mem_iff_getElem.1 hv
    obtain ⟨z, hz, hb⟩ := key i hi
    rw [hz]; exact hb
theorem begin_in {H : Type} {enc : TypeId × Value → H} {W : World} {base : Nat} {sp : Nat → Bool} {held : Bool} {fuel : Nat} {cs : List Value} {x : DataW H × List MemPlace} (h : DataW.trod enc Try.prog W base sp held fuel 67 cs = some x) :
    ∃ (key nonce : List Int) (ctr : Nat), cs = bCells key nonce ctr ∧ key.length = 32 ∧ nonce.length = 12 ∧ Bytes key ∧ Bytes nonce ∧ ctr < 4294967296 := by
  obtain ⟨xs, n, _, _, hlen, hxl, hf⟩ := DataW.trod_struct Try.underlying67 h
  rw [cellsBegin] at hlen
  match xs, hxl with
  | [y0, y1, y2], _ =>
    have f0 : DataW.trod enc Try.prog W base sp held n 30 (cs.take 32) = some y0 := by simpa [cellsKey] using hf 0 _ rfl
    have f1 : DataW.trod enc Try.prog W base sp held n 25 ((cs.drop 32).take 12) = some y1 := by simpa [cellsNonce] using hf 1 _ rfl
    have f2 : DataW.trod enc Try.prog W base sp held n 22 ((cs.drop 44).take 1) = some y2 := by simpa [cellsU32] using hf 2 _ rfl
    obtain ⟨key, e0, l0, b0⟩ := bytes_arr Try.underlying30 cellsKey f0
    obtain ⟨nonce, e1, l1, b1⟩ := bytes_arr Try.underlying25 cellsNonce f1
    obtain ⟨z, e2, _, hw⟩ := DataW.trod_int Try.underlying22 f2
    have hz := u32_of_wf hw
    refine ⟨key, nonce, z.toNat, ?_, l0, l1, b0, b1, by omega⟩
    rw [bCells, ← e0, ← e1, show ((z.toNat : Nat) : Int) = z by omega, ← e2]
    have d1 : cs.drop 44 = (cs.drop 44).take 1 := (List.take_of_length_le (by simp; omega)).symm
    have d2 : cs.drop 32 = (cs.drop 32).take 12 ++ cs.drop 44 := by
      have := (List.take_append_drop 12 (cs.drop 32)).symm
      rwa [List.drop_drop] at this
    have d3 : cs = cs.take 32 ++ ((cs.drop 32).take 12 ++ (cs.drop 44).take 1) := by rw [← d1, ← d2, List.take_append_drop]
    exact d3
end Go.Proofs.Ytogplebajpdmoaa

/- The document's stream (trystref05): plus, against, left, Quarter. -/
namespace Go.Proofs.Ytogplebajpdmoaa
open Go.RowKit
set_option linter.unusedVariables false
set_option linter.unusedSimpArgs false

abbrev Wd (x : Int) : Prop := 0 ≤ x ∧ x < 4294967296
theorem or_sum (q r n : Nat) (h : r < 2 ^ n) : (q * 2 ^ n) ||| r = q * 2 ^ n + r := by
  rw [Nat.mul_comm, Nat.two_pow_add_eq_or_of_lt h]
theorem rotl_sum (x : Int) (n : Nat) (hx : Wd x) (hn : TurnL n) : rotl x n = x * 2 ^ n % 4294967296 + x / 2 ^ (32 - n) ∧ Wd (rotl x n) := by
  obtain ⟨X, rfl⟩ : ∃ X : Nat, x = (X : Int) := ⟨x.toNat, by omega⟩
  have hX : X < 4294967296 := by omega
  rcases hn with rfl | rfl | rfl | rfl
  all_goals
    unfold rotl
    rw [u32_or _ _ (by omega) (by omega) (by omega) (by omega)]
    suffices h : _ = _ from ⟨h, by rw [h]; constructor <;> omega⟩
    first
    | (have e : ((X : Int) * 2 ^ 16 % 4294967296).toNat = (X % 65536) * 2 ^ 16 := by omega
       have e2 : ((X : Int) / 2 ^ (32 - 16)).toNat = X / 65536 := by omega
       rw [e, e2, or_sum _ _ 16 (by omega)]; omega)
    | (have e : ((X : Int) * 2 ^ 12 % 4294967296).toNat = (X % 1048576) * 2 ^ 12 := by omega
       have e2 : ((X : Int) / 2 ^ (32 - 12)).toNat = X / 1048576 := by omega
       rw [e, e2, or_sum _ _ 12 (by omega)]; omega)
    | (have e : ((X : Int) * 2 ^ 8 % 4294967296).toNat = (X % 16777216) * 2 ^ 8 := by omega
       have e2 : ((X : Int) / 2 ^ (32 - 8)).toNat = X / 16777216 := by omega
       rw [e, e2, or_sum _ _ 8 (by omega)]; omega)
    | (have e : ((X : Int) * 2 ^ 7 % 4294967296).toNat = (X % 33554432) * 2 ^ 7 := by omega
       have e2 : ((X : Int) / 2 ^ (32 - 7)).toNat = X / 33554432 := by omega
       rw [e, e2, or_sum _ _ 7 (by omega)]; omega)
theorem xor_64 (x y : Int) (hx : Wd x) (hy : Wd y) : bits .xor .u64 x y = bits .xor .u32 x y ∧ Wd (bits .xor .u32 x y) := by
  have h1 : x.toNat ^^^ y.toNat < 2 ^ 32 := Nat.xor_lt_two_pow (by omega) (by omega)
  rw [u64_xor x y hx.1 (by omega) hy.1 (by omega), u32_xor x y hx.1 hx.2 hy.1 hy.2]
  exact ⟨rfl, by omega, by omega⟩
theorem rplus_any (a b : Int) (ha : Wd a) (hb : Wd b) (w : World) : Calls Try.prog 77 #[.int .u64 a, .int .u64 b] w fun e w' => e = .returned (.int .u64 ((a + b) % 4294967296)) ∧ w = w' := by
  go_enter Try.func77, Try.ntmps77
  go_wp2_with fail
  go_ret
  exact ⟨rfl, rfl⟩
theorem ragainst_any (a b : Int) (ha : Wd a) (hb : Wd b) (w : World) : Calls Try.prog 78 #[.int .u64 a, .int .u64 b] w fun e w' => e = .returned (.int .u64 (bits .xor .u32 a b)) ∧ w = w' := by
  rw [← (xor_64 a b ha hb).1]
  go_enter Try.func78, Try.ntmps78
  go_wp2_with fail
  go_ret
  exact ⟨rfl, rfl⟩
theorem rleft_any (a : Int) (n : Nat) (ha : Wd a) (hn : TurnL n) (w : World) : Calls Try.prog 105 #[.int .u64 a, .int .i64 n] w fun e w' => e = .returned (.int .u64 (rotl a n)) ∧ ∃ q, w' = w.drewN q := by
  have hr := (rotl_sum a n ha hn).1
  rw [hr]
  clear hr
  rcases hn with rfl | rfl | rfl | rfl
  all_goals
    go_enter Try.func105, Try.ntmps105
    go_wp2_with fail
    go_quiet (fail)
    go_wp2_with fail
    go_ret
    refine ⟨?_, _, rfl⟩
    simp
def q64s (zs : List Int) : List Value := zs.map (Value.int .u64)
theorem q64s_length (zs : List Int) : (q64s zs).length = zs.length := by simp [q64s]
theorem q64s_one (zs : List Int) : ∀ v ∈ q64s zs, v.oneCell' = true := one_ints _ _
theorem u64s_set (zs : List Int) (j : Nat) (z : Int) : (q64s zs).set j (.int .u64 z) = q64s (zs.set j z) := by simp [q64s, List.map_set]
theorem u64s_cell {w : World} {g : Nat} {t : TypeId} {zs : List Int} (h : Blk w g t (q64s zs)) (j : Nat) (hj : j < zs.length) : w.cell? ⟨g, j, none⟩ = some (.int .u64 (zs.getD j 0)) := by
  rw [h.cell]; simp [q64s, hj, List.getD]
theorem zero4q : (Try.prog.info? 111).map (fun i => (i.zero, i.size)) = some (some (.agg (q64s [0, 0, 0, 0]).toArray), 4) := by kernel_rfl
theorem size4q : (Try.prog.info? 111).map (·.size) = some 4 := by kernel_rfl
def turnsV : List Value := [.int .i64 16, .int .i64 12, .int .i64 8, .int .i64 7]
theorem zero4i : (Try.prog.info? 146).map (fun i => (i.zero, i.size)) = some (some (.agg ([.int .i64 0, .int .i64 0, .int .i64 0, .int .i64 0] : List Value).toArray), 4) := by kernel_rfl
theorem size4i : (Try.prog.info? 146).map (·.size) = some 4 := by kernel_rfl
def rq (q : Q4) : Nat → Q4
  | 0 => q
  | 1 => halfQ q 16 12
  | _ => quarter q
theorem half_wd (q : Q4) (n m : Nat) (ha : Wd q.a) (hb : Wd q.b) (hc : Wd q.c) (hd : Wd q.d) (hn : TurnL n) (hm : TurnL m) : Wd (halfQ q n m).a ∧ Wd (halfQ q n m).b ∧ Wd (halfQ q n m).c ∧ Wd (halfQ q n m).d := by
  have h1 : Wd ((q.a + q.b) % 4294967296) := by constructor <;> omega
  have h2 : Wd (halfD q n) := (rotl_sum _ n (xor_64 _ _ hd h1).2 hn).2
  have h3 : Wd (halfC q n) := by unfold halfC; constructor <;> omega
  exact ⟨h1, (rotl_sum _ m (xor_64 _ _ hb h3).2 hm).2, h3, h2⟩
set_option maxRecDepth 20000 in
set_option maxHeartbeats 2000000 in
theorem rq_any (q : Q4) (ha : Wd q.a) (hb : Wd q.b) (hc : Wd q.c) (hd : Wd q.d) (w : World) :
    Calls Try.prog 75 #[.agg (q64s q.list).toArray] w fun e w' => e = .returned (.agg (q64s (quarter q).list).toArray) ∧ Below w.heap.size w w' := by
  have HW : Hid (Wd q.a ∧ Wd q.b ∧ Wd q.c ∧ Wd q.d) := ⟨ha, hb, hc, hd⟩
  clear ha hb hc hd
  go_enter Try.func75, Try.ntmps75
  go_wp2_with (first | (refine wpList_box_new rfl 111 _ rfl (q64s q.list) rfl ?_; intro w1 b1 s1 l1) | (refine wpList_alloc_new rfl 111 rfl 4 _ zero4q ?_; intro w2 b2 s2 l2) | (refine wpList_alloc_new rfl 146 rfl 4 _ zero4i ?_; intro w3 b3 s3 l3) | (refine wpList_store_blk rfl 146 146 _ _ rfl _ rfl _ turnsV rfl b3 rfl size4i (by intro v hv; simp [turnsV] at hv; rcases hv with rfl | rfl | rfl | rfl <;> rfl) ?_; intro w4 b4 s4 k4))
  have HB : Hid (Blk w4 w.heap.size 111 (q64s q.list) ∧ Blk w4 (w.heap.size + 1) 111 (q64s [0, 0, 0, 0]) ∧ Blk w4 (w.heap.size + 1 + 1) 146 turnsV ∧ Below w.heap.size w w4 ∧ w4.heap.size = w.heap.size + 3) := by
    rw [s1] at b2
    rw [s2, s1] at b4
    exact ⟨((b1.later l2 (by omega)).later l3 (by omega)).kept k4 (by omega), (b2.later l3 (by omega)).kept k4 (by omega), b4, below_kept (below_chain (below_chain l1 l2 (by omega)) l3 (by omega)) k4 (by omega) (fun j hj => by omega), by omega⟩
  try rw [s2, s1]
  clear b1 s1 l1 b2 s2 l2 b3 s3 l3 b4 s4 k4
  go_loopw [4] (fun i wr => ∃ r : Nat, r ≤ 2 ∧ i = .int .i64 (2 * (r : Int)) ∧ Blk wr w.heap.size 111 (q64s (rq q r).list) ∧ Blk wr (w.heap.size + 1 + 1) 146 turnsV ∧ Kept (fun b => b = w.heap.size) w4 wr) (fun i _ => 4 - (intOf i).toNat)
  case atStart => exact ⟨0, by omega, rfl, HB.out.1, HB.out.2.2.1, Kept.refl _ _⟩
  case round =>
    obtain ⟨r, hr, rfl, hb, ht, hkp⟩ := hrel
    rcases (by omega : r = 0 ∨ r = 1 ∨ r = 2) with rfl | rfl | rfl
    · rw [show 2 * ((0 : Nat) : Int) = 0 from rfl]
      obtain ⟨ha, hB, hc, hd⟩ := HW.out
      obtain ⟨⟨a, b, c, d⟩, hp⟩ : ∃ p, rq q 0 = p := ⟨_, rfl⟩
      have HP : Hid (rq q 0 = ⟨a, b, c, d⟩) := hp
      rw [show q = ⟨a, b, c, d⟩ from hp] at ha hB hc hd
      rw [hp] at hb
      have BR : Hid (Blk wr w.heap.size 111 (q64s [a, b, c, d]) ∧ Blk wr (w.heap.size + 1 + 1) 146 turnsV ∧ Kept (fun b => b = w.heap.size) w4 wr) := ⟨hb, ht, hkp⟩
      clear hb ht hkp hp
      have hb : Wd b := hB
      have p1 := u64s_cell BR.out.1 0 (by simp)
      have q1 := u64s_cell BR.out.1 1 (by simp)
      have f1 := BR.out.1.frozen 0
      simp only [List.getD_cons_zero, List.getD_cons_succ] at p1 q1
      go_wp2_with (go_at_call 77; refine (rplus_any a b ha hb _).mono ?_; rintro e w' ⟨rfl, rfl⟩)
      have B1 : Hid (Blk (wr.setCell ⟨w.heap.size, 0, none⟩ (.int .u64 ((a + b) % 4294967296))) w.heap.size 111 (q64s [(a + b) % 4294967296, b, c, d]) ∧ Blk (wr.setCell ⟨w.heap.size, 0, none⟩ (.int .u64 ((a + b) % 4294967296))) (w.heap.size + 1 + 1) 146 turnsV ∧ Kept (fun b => b = w.heap.size) w4 (wr.setCell ⟨w.heap.size, 0, none⟩ (.int .u64 ((a + b) % 4294967296)))) := ⟨BR.out.1.set 0 (.int .u64 ((a + b) % 4294967296)), BR.out.2.1.other (show w.heap.size + 1 + 1 ≠ w.heap.size by omega) _, BR.out.2.2.setCell rfl _⟩
      obtain ⟨x1, hx1⟩ : ∃ x, World.setCell wr ⟨w.heap.size, 0, none⟩ (.int .u64 ((a + b) % 4294967296)) = x := ⟨_, rfl⟩
      rw [hx1] at B1 ⊢
      clear hx1 p1 q1 f1
      obtain ⟨A, hA⟩ : ∃ x, (a + b) % 4294967296 = x := ⟨_, rfl⟩
      have wA : Wd A := by rw [← hA]; constructor <;> omega
      rw [hA] at B1 ⊢
      have HA : Hid ((a + b) % 4294967296 = A) := hA
      clear hA
      obtain ⟨d2, hd2⟩ : ∃ x, x1.drew = x := ⟨_, rfl⟩
      have Bd2 : Hid (Blk d2 w.heap.size 111 (q64s [A, b, c, d]) ∧ Blk d2 (w.heap.size + 1 + 1) 146 turnsV ∧ Kept (fun b => b = w.heap.size) w4 d2) := by rw [← hd2]; exact ⟨B1.out.1.drew, B1.out.2.1.drew, B1.out.2.2.drew⟩
      have HS2 : Hid (d2.cell? ⟨w.heap.size, 3, none⟩ = some (.int .u64 d) ∧ d2.cell? ⟨w.heap.size, 0, none⟩ = some (.int .u64 A) ∧ d2.cell? ⟨w.heap.size + 1 + 1, 0, none⟩ = some (.int .i64 16)) := ⟨u64s_cell Bd2.out.1 3 (by simp), u64s_cell Bd2.out.1 0 (by simp), by rw [Bd2.out.2.1.cell]; rfl⟩
      refine wp_region_noPanic (till_region 10 (fun W => W.cell? ⟨w.heap.size, 3, none⟩ = some (.int .u64 d) ∧ W.cell? ⟨w.heap.size, 0, none⟩ = some (.int .u64 A) ∧ W.cell? ⟨w.heap.size + 1 + 1, 0, none⟩ = some (.int .i64 16)) (by kernel_rfl) ?_)
      change wpTill _ _ _ _ _ _ _ _ x1.drew
      rw [hd2]
      clear hd2
      refine tTake 0 (some 16) (.pointer (some ⟨w.heap.size, 3, none⟩)) rfl rfl (by kernel_rfl) (by kernel_rfl) (by kernel_rfl) (by decide) (fun _ _ _ h => h) (by rfl) (fun _ => by go_simp) HS2.out ?_
      simp only [Act.put, List.setIfInBounds_toArray, List.set_cons_zero, List.set_cons_succ]
      refine tLoad 1 (some 17) (.int .u64 d) rfl rfl (by kernel_rfl) (by kernel_rfl) (by kernel_rfl) (by decide) (by kernel_rfl) (by kernel_rfl) (fun _ _ _ h => h) (by rfl) (fun W' hS' => by obtain ⟨s1, s2, s3⟩ := hS'; go_simp) HS2.out ?_
      simp only [Act.put, List.setIfInBounds_toArray, List.set_cons_zero, List.set_cons_succ]
      refine tTake 2 (some 18) (.pointer (some ⟨w.heap.size, 0, none⟩)) rfl rfl (by kernel_rfl) (by kernel_rfl) (by kernel_rfl) (by decide) (fun _ _ _ h => h) (by rfl) (fun _ => by go_simp) HS2.out ?_
      simp only [Act.put, List.setIfInBounds_toArray, List.set_cons_zero, List.set_cons_succ]
      refine tLoad 3 (some 19) (.int .u64 A) rfl rfl (by kernel_rfl) (by kernel_rfl) (by kernel_rfl) (by decide) (by kernel_rfl) (by kernel_rfl) (fun _ _ _ h => h) (by rfl) (fun W' hS' => by obtain ⟨s1, s2, s3⟩ := hS'; go_simp) HS2.out ?_
      simp only [Act.put, List.setIfInBounds_toArray, List.set_cons_zero, List.set_cons_succ]
      refine tTake 5 (some 21) (.int .i64 0) rfl rfl (by kernel_rfl) (by kernel_rfl) (by kernel_rfl) (by decide) (fun _ _ _ h => h) (by rfl) (fun _ => by rfl) HS2.out ?_
      simp only [Act.put, List.setIfInBounds_toArray, List.set_cons_zero, List.set_cons_succ]
      refine tTake 6 (some 22) (.pointer (some ⟨w.heap.size + 1 + 1, 0, none⟩)) rfl rfl (by kernel_rfl) (by kernel_rfl) (by kernel_rfl) (by decide) (fun _ _ _ h => h) (by rfl) (fun _ => by go_simp) HS2.out ?_
      simp only [Act.put, List.setIfInBounds_toArray, List.set_cons_zero, List.set_cons_succ]
      refine tLoad 7 (some 23) (.int .i64 16) rfl rfl (by kernel_rfl) (by kernel_rfl) (by kernel_rfl) (by decide) (by kernel_rfl) (by kernel_rfl) (fun _ _ _ h => h) (by rfl) (fun W' hS' => by obtain ⟨s1, s2, s3⟩ := hS'; go_simp) HS2.out ?_
      simp only [Act.put, List.setIfInBounds_toArray, List.set_cons_zero, List.set_cons_succ]
      refine till_ready 4 (by kernel_rfl) rfl (fun K hK => ?_)
      go_simp
      go_wp2_with (go_at_call 78; refine (ragainst_any _ _ hd wA _).mono ?_; rintro e w' ⟨rfl, rfl⟩)
      refine ⟨HS2.out, ?_⟩
      refine till_ready 8 (by kernel_rfl) rfl (fun K hK => ?_)
      go_simp
      go_wp2_with (go_at_call 105; refine (rleft_any _ 16 (xor_64 _ _ hd wA).2 (by simp [TurnL]) _).mono ?_; rintro e w' ⟨rfl, qq, rfl⟩)
      refine ⟨HS2.out, ?_⟩
      refine tTake 9 (some 25) (.pointer (some ⟨w.heap.size, 3, none⟩)) rfl rfl (by kernel_rfl) (by kernel_rfl) (by kernel_rfl) (by decide) (fun _ _ _ h => h) (by rfl) (fun _ => by go_simp) HS2.out ?_
      simp only [Act.put, List.setIfInBounds_toArray, List.set_cons_zero, List.set_cons_succ]
      refine till_at (by kernel_rfl) ?_
      have Be2 : Blk (d2.drewN qq) w.heap.size 111 (q64s [A, b, c, d]) := Bd2.out.1.drewN qq
      have c2 := u64s_cell Be2 3 (by simp)
      have f2 := Be2.frozen 3
      have B2 : Hid (Blk ((d2.drewN qq).setCell ⟨w.heap.size, 3, none⟩ (.int .u64 (rotl (bits .xor .u32 d A) 16))) w.heap.size 111 (q64s [A, b, c, rotl (bits .xor .u32 d A) 16]) ∧ Blk ((d2.drewN qq).setCell ⟨w.heap.size, 3, none⟩ (.int .u64 (rotl (bits .xor .u32 d A) 16))) (w.heap.size + 1 + 1) 146 turnsV ∧ Kept (fun b => b = w.heap.size) w4 ((d2.drewN qq).setCell ⟨w.heap.size, 3, none⟩ (.int .u64 (rotl (bits .xor .u32 d A) 16)))) := ⟨Be2.set 3 (.int .u64 (rotl (bits .xor .u32 d A) 16)), (Bd2.out.2.1.drewN qq).other (show w.heap.size + 1 + 1 ≠ w.heap.size by omega) _, (Bd2.out.2.2.drewN qq).setCell rfl _⟩
      clear Be2
      refine wpAny_ready (rs := [10]) (by kernel_rfl) (by simp) (AllReady.cons rfl (fun K hK => ?_) AllReady.nil)
      go_simp
      refine hK _ _ ?_
      clear hK K
      change wpAny _ _ _ _ _ _ _ (World.setCell (d2.drewN qq) ⟨w.heap.size, 3, none⟩ (.int .u64 (rotl (bits .xor .u32 d A) 16)))
      obtain ⟨x2, hx2⟩ : ∃ x, World.setCell (d2.drewN qq) ⟨w.heap.size, 3, none⟩ (.int .u64 (rotl (bits .xor .u32 d A) 16)) = x := ⟨_, rfl⟩
      rw [hx2] at B2 ⊢
      clear hx2 c2 f2 HS2 Bd2
      refine wpAny_done (by kernel_rfl) (NoPanic.normal ?_) _
      obtain ⟨D, hD⟩ : ∃ x, rotl (bits .xor .u32 d A) 16 = x := ⟨_, rfl⟩
      have wD : Wd D := by rw [← hD]; exact (rotl_sum _ 16 (xor_64 _ _ hd wA).2 (by simp [TurnL])).2
      rw [hD] at B2 ⊢
      have HD : Hid (rotl (bits .xor .u32 d A) 16 = D) := hD
      clear hD
      have p3 := u64s_cell B2.out.1 2 (by simp)
      have q3 := u64s_cell B2.out.1 3 (by simp)
      have f3 := B2.out.1.frozen 2
      simp only [List.getD_cons_zero, List.getD_cons_succ] at p3 q3
      go_wp2_with (go_at_call 77; refine (rplus_any c D hc wD _).mono ?_; rintro e w' ⟨rfl, rfl⟩)
      have B3 : Hid (Blk (x2.setCell ⟨w.heap.size, 2, none⟩ (.int .u64 ((c + D) % 4294967296))) w.heap.size 111 (q64s [A, b, (c + D) % 4294967296, D]) ∧ Blk (x2.setCell ⟨w.heap.size, 2, none⟩ (.int .u64 ((c + D) % 4294967296))) (w.heap.size + 1 + 1) 146 turnsV ∧ Kept (fun b => b = w.heap.size) w4 (x2.setCell ⟨w.heap.size, 2, none⟩ (.int .u64 ((c + D) % 4294967296)))) := ⟨B2.out.1.set 2 (.int .u64 ((c + D) % 4294967296)), B2.out.2.1.other (show w.heap.size + 1 + 1 ≠ w.heap.size by omega) _, B2.out.2.2.setCell rfl _⟩
      obtain ⟨x3, hx3⟩ : ∃ x, World.setCell x2 ⟨w.heap.size, 2, none⟩ (.int .u64 ((c + D) % 4294967296)) = x := ⟨_, rfl⟩
      rw [hx3] at B3 ⊢
      clear hx3 p3 q3 f3
      obtain ⟨C, hC⟩ : ∃ x, (c + D) % 4294967296 = x := ⟨_, rfl⟩
      have wC : Wd C := by rw [← hC]; constructor <;> omega
      rw [hC] at B3 ⊢
      have HC : Hid ((c + D) % 4294967296 = C) := hC
      clear hC
      obtain ⟨d4, hd4⟩ : ∃ x, x3.drew = x := ⟨_, rfl⟩
      have Bd4 : Hid (Blk d4 w.heap.size 111 (q64s [A, b, C, D]) ∧ Blk d4 (w.heap.size + 1 + 1) 146 turnsV ∧ Kept (fun b => b = w.heap.size) w4 d4) := by rw [← hd4]; exact ⟨B3.out.1.drew, B3.out.2.1.drew, B3.out.2.2.drew⟩
      have HS4 : Hid (d4.cell? ⟨w.heap.size, 1, none⟩ = some (.int .u64 b) ∧ d4.cell? ⟨w.heap.size, 2, none⟩ = some (.int .u64 C) ∧ d4.cell? ⟨w.heap.size + 1 + 1, 1, none⟩ = some (.int .i64 12)) := ⟨u64s_cell Bd4.out.1 1 (by simp), u64s_cell Bd4.out.1 2 (by simp), by rw [Bd4.out.2.1.cell]; rfl⟩
      refine wp_region_noPanic (till_region 11 (fun W => W.cell? ⟨w.heap.size, 1, none⟩ = some (.int .u64 b) ∧ W.cell? ⟨w.heap.size, 2, none⟩ = some (.int .u64 C) ∧ W.cell? ⟨w.heap.size + 1 + 1, 1, none⟩ = some (.int .i64 12)) (by kernel_rfl) ?_)
      change wpTill _ _ _ _ _ _ _ _ x3.drew
      rw [hd4]
      clear hd4
      refine tTake 0 (some 32) (.pointer (some ⟨w.heap.size, 1, none⟩)) rfl rfl (by kernel_rfl) (by kernel_rfl) (by kernel_rfl) (by decide) (fun _ _ _ h => h) (by rfl) (fun _ => by go_simp) HS4.out ?_
      simp only [Act.put, List.setIfInBounds_toArray, List.set_cons_zero, List.set_cons_succ]
      refine tLoad 1 (some 33) (.int .u64 b) rfl rfl (by kernel_rfl) (by kernel_rfl) (by kernel_rfl) (by decide) (by kernel_rfl) (by kernel_rfl) (fun _ _ _ h => h) (by rfl) (fun W' hS' => by obtain ⟨s1, s2, s3⟩ := hS'; go_simp) HS4.out ?_
      simp only [Act.put, List.setIfInBounds_toArray, List.set_cons_zero, List.set_cons_succ]
      refine tTake 2 (some 34) (.pointer (some ⟨w.heap.size, 2, none⟩)) rfl rfl (by kernel_rfl) (by kernel_rfl) (by kernel_rfl) (by decide) (fun _ _ _ h => h) (by rfl) (fun _ => by go_simp) HS4.out ?_
      simp only [Act.put, List.setIfInBounds_toArray, List.set_cons_zero, List.set_cons_succ]
      refine tLoad 3 (some 35) (.int .u64 C) rfl rfl (by kernel_rfl) (by kernel_rfl) (by kernel_rfl) (by decide) (by kernel_rfl) (by kernel_rfl) (fun _ _ _ h => h) (by rfl) (fun W' hS' => by obtain ⟨s1, s2, s3⟩ := hS'; go_simp) HS4.out ?_
      simp only [Act.put, List.setIfInBounds_toArray, List.set_cons_zero, List.set_cons_succ]
      refine tTake 5 (some 37) (.int .i64 0) rfl rfl (by kernel_rfl) (by kernel_rfl) (by kernel_rfl) (by decide) (fun _ _ _ h => h) (by rfl) (fun _ => by rfl) HS4.out ?_
      simp only [Act.put, List.setIfInBounds_toArray, List.set_cons_zero, List.set_cons_succ]
      refine tTake 6 (some 38) (.int .i64 1) rfl rfl (by kernel_rfl) (by kernel_rfl) (by kernel_rfl) (by decide) (fun _ _ _ h => h) (by rfl) (fun _ => by go_simp; rfl) HS4.out ?_
      simp only [Act.put, List.setIfInBounds_toArray, List.set_cons_zero, List.set_cons_succ]
      refine tTake 7 (some 39) (.pointer (some ⟨w.heap.size + 1 + 1, 1, none⟩)) rfl rfl (by kernel_rfl) (by kernel_rfl) (by kernel_rfl) (by decide) (fun _ _ _ h => h) (by rfl) (fun _ => by go_simp) HS4.out ?_
      simp only [Act.put, List.setIfInBounds_toArray, List.set_cons_zero, List.set_cons_succ]
      refine tLoad 8 (some 40) (.int .i64 12) rfl rfl (by kernel_rfl) (by kernel_rfl) (by kernel_rfl) (by decide) (by kernel_rfl) (by kernel_rfl) (fun _ _ _ h => h) (by rfl) (fun W' hS' => by obtain ⟨s1, s2, s3⟩ := hS'; go_simp) HS4.out ?_
      simp only [Act.put, List.setIfInBounds_toArray, List.set_cons_zero, List.set_cons_succ]
      refine till_ready 4 (by kernel_rfl) rfl (fun K hK => ?_)
      go_simp
      go_wp2_with (go_at_call 78; refine (ragainst_any _ _ hb wC _).mono ?_; rintro e w' ⟨rfl, rfl⟩)
      refine ⟨HS4.out, ?_⟩
      refine till_ready 9 (by kernel_rfl) rfl (fun K hK => ?_)
      go_simp
      go_wp2_with (go_at_call 105; refine (rleft_any _ 12 (xor_64 _ _ hb wC).2 (by simp [TurnL]) _).mono ?_; rintro e w' ⟨rfl, qq, rfl⟩)
      refine ⟨HS4.out, ?_⟩
      refine tTake 10 (some 42) (.pointer (some ⟨w.heap.size, 1, none⟩)) rfl rfl (by kernel_rfl) (by kernel_rfl) (by kernel_rfl) (by decide) (fun _ _ _ h => h) (by rfl) (fun _ => by go_simp) HS4.out ?_
      simp only [Act.put, List.setIfInBounds_toArray, List.set_cons_zero, List.set_cons_succ]
      refine till_at (by kernel_rfl) ?_
      have Be4 : Blk (d4.drewN qq) w.heap.size 111 (q64s [A, b, C, D]) := Bd4.out.1.drewN qq
      have c4 := u64s_cell Be4 1 (by simp)
      have f4 := Be4.frozen 1
      have B4 : Hid (Blk ((d4.drewN qq).setCell ⟨w.heap.size, 1, none⟩ (.int .u64 (rotl (bits .xor .u32 b C) 12))) w.heap.size 111 (q64s [A, rotl (bits .xor .u32 b C) 12, C, D]) ∧ Blk ((d4.drewN qq).setCell ⟨w.heap.size, 1, none⟩ (.int .u64 (rotl (bits .xor .u32 b C) 12))) (w.heap.size + 1 + 1) 146 turnsV ∧ Kept (fun b => b = w.heap.size) w4 ((d4.drewN qq).setCell ⟨w.heap.size, 1, none⟩ (.int .u64 (rotl (bits .xor .u32 b C) 12)))) := ⟨Be4.set 1 (.int .u64 (rotl (bits .xor .u32 b C) 12)), (Bd4.out.2.1.drewN qq).other (show w.heap.size + 1 + 1 ≠ w.heap.size by omega) _, (Bd4.out.2.2.drewN qq).setCell rfl _⟩
      clear Be4
      refine wpAny_ready (rs := [11]) (by kernel_rfl) (by simp) (AllReady.cons rfl (fun K hK => ?_) AllReady.nil)
      go_simp
      refine hK _ _ ?_
      clear hK K
      change wpAny _ _ _ _ _ _ _ (World.setCell (d4.drewN qq) ⟨w.heap.size, 1, none⟩ (.int .u64 (rotl (bits .xor .u32 b C) 12)))
      obtain ⟨x4, hx4⟩ : ∃ x, World.setCell (d4.drewN qq) ⟨w.heap.size, 1, none⟩ (.int .u64 (rotl (bits .xor .u32 b C) 12)) = x := ⟨_, rfl⟩
      rw [hx4] at B4 ⊢
      clear hx4 c4 f4 HS4 Bd4
      refine wpAny_done (by kernel_rfl) (NoPanic.normal ?_) _
      go_wp2_with fail
      refine ⟨⟨1, by omega, by go_num, ?_, B4.out.2⟩, by simp [intOf]⟩
      have e : rq q 1 = ⟨A, rotl (bits .xor .u32 b C) 12, C, D⟩ := by
        show halfQ (rq q 0) 16 12 = _
        rw [HP.out, halfQ, halfC, halfD, HA.out, HD.out, HC.out]
      rw [e]; exact B4.out.1
    · rw [show 2 * ((1 : Nat) : Int) = 2 from rfl]
      obtain ⟨ha, hB, hc, hd⟩ := half_wd q 16 12 HW.out.1 HW.out.2.1 HW.out.2.2.1 HW.out.2.2.2 (by simp [TurnL]) (by simp [TurnL])
      obtain ⟨⟨a, b, c, d⟩, hp⟩ : ∃ p, rq q 1 = p := ⟨_, rfl⟩
      have HP : Hid (rq q 1 = ⟨a, b, c, d⟩) := hp
      rw [show halfQ q 16 12 = ⟨a, b, c, d⟩ from hp] at ha hB hc hd
      rw [hp] at hb
      have BR : Hid (Blk wr w.heap.size 111 (q64s [a, b, c, d]) ∧ Blk wr (w.heap.size + 1 + 1) 146 turnsV ∧ Kept (fun b => b = w.heap.size) w4 wr) := ⟨hb, ht, hkp⟩
      clear hb ht hkp hp
      have hb : Wd b := hB
      have p1 := u64s_cell BR.out.1 0 (by simp)
      have q1 := u64s_cell BR.out.1 1 (by simp)
      have f1 := BR.out.1.frozen 0
      simp only [List.getD_cons_zero, List.getD_cons_succ] at p1 q1
      go_wp2_with (go_at_call 77; refine (rplus_any a b ha hb _).mono ?_; rintro e w' ⟨rfl, rfl⟩)
      have B1 : Hid (Blk (wr.setCell ⟨w.heap.size, 0, none⟩ (.int .u64 ((a + b) % 4294967296))) w.heap.size 111 (q64s [(a + b) % 4294967296, b, c, d]) ∧ Blk (wr.setCell ⟨w.heap.size, 0, none⟩ (.int .u64 ((a + b) % 4294967296))) (w.heap.size + 1 + 1) 146 turnsV ∧ Kept (fun b => b = w.heap.size) w4 (wr.setCell ⟨w.heap.size, 0, none⟩ (.int .u64 ((a + b) % 4294967296)))) := ⟨BR.out.1.set 0 (.int .u64 ((a + b) % 4294967296)), BR.out.2.1.other (show w.heap.size + 1 + 1 ≠ w.heap.size by omega) _, BR.out.2.2.setCell rfl _⟩
      obtain ⟨x1, hx1⟩ : ∃ x, World.setCell wr ⟨w.heap.size, 0, none⟩ (.int .u64 ((a + b) % 4294967296)) = x := ⟨_, rfl⟩
      rw [hx1] at B1 ⊢
      clear hx1 p1 q1 f1
      obtain ⟨A, hA⟩ : ∃ x, (a + b) % 4294967296 = x := ⟨_, rfl⟩
      have wA : Wd A := by rw [← hA]; constructor <;> omega
      rw [hA] at B1 ⊢
      have HA : Hid ((a + b) % 4294967296 = A) := hA
      clear hA
      obtain ⟨d2, hd2⟩ : ∃ x, x1.drew = x := ⟨_, rfl⟩
      have Bd2 : Hid (Blk d2 w.heap.size 111 (q64s [A, b, c, d]) ∧ Blk d2 (w.heap.size + 1 + 1) 146 turnsV ∧ Kept (fun b => b = w.heap.size) w4 d2) := by rw [← hd2]; exact ⟨B1.out.1.drew, B1.out.2.1.drew, B1.out.2.2.drew⟩
      have HS2 : Hid (d2.cell? ⟨w.heap.size, 3, none⟩ = some (.int .u64 d) ∧ d2.cell? ⟨w.heap.size, 0, none⟩ = some (.int .u64 A) ∧ d2.cell? ⟨w.heap.size + 1 + 1, 2, none⟩ = some (.int .i64 8)) := ⟨u64s_cell Bd2.out.1 3 (by simp), u64s_cell Bd2.out.1 0 (by simp), by rw [Bd2.out.2.1.cell]; rfl⟩
      refine wp_region_noPanic (till_region 10 (fun W => W.cell? ⟨w.heap.size, 3, none⟩ = some (.int .u64 d) ∧ W.cell? ⟨w.heap.size, 0, none⟩ = some (.int .u64 A) ∧ W.cell? ⟨w.heap.size + 1 + 1, 2, none⟩ = some (.int .i64 8)) (by kernel_rfl) ?_)
      change wpTill _ _ _ _ _ _ _ _ x1.drew
      rw [hd2]
      clear hd2
      refine tTake 0 (some 16) (.pointer (some ⟨w.heap.size, 3, none⟩)) rfl rfl (by kernel_rfl) (by kernel_rfl) (by kernel_rfl) (by decide) (fun _ _ _ h => h) (by rfl) (fun _ => by go_simp) HS2.out ?_
      simp only [Act.put, List.setIfInBounds_toArray, List.set_cons_zero, List.set_cons_succ]
      refine tLoad 1 (some 17) (.int .u64 d) rfl rfl (by kernel_rfl) (by kernel_rfl) (by kernel_rfl) (by decide) (by kernel_rfl) (by kernel_rfl) (fun _ _ _ h => h) (by rfl) (fun W' hS' => by obtain ⟨s1, s2, s3⟩ := hS'; go_simp) HS2.out ?_
      simp only [Act.put, List.setIfInBounds_toArray, List.set_cons_zero, List.set_cons_succ]
      refine tTake 2 (some 18) (.pointer (some ⟨w.heap.size, 0, none⟩)) rfl rfl (by kernel_rfl) (by kernel_rfl) (by kernel_rfl) (by decide) (fun _ _ _ h => h) (by rfl) (fun _ => by go_simp) HS2.out ?_
      simp only [Act.put, List.setIfInBounds_toArray, List.set_cons_zero, List.set_cons_succ]
      refine tLoad 3 (some 19) (.int .u64 A) rfl rfl (by kernel_rfl) (by kernel_rfl) (by kernel_rfl) (by decide) (by kernel_rfl) (by kernel_rfl) (fun _ _ _ h => h) (by rfl) (fun W' hS' => by obtain ⟨s1, s2, s3⟩ := hS'; go_simp) HS2.out ?_
      simp only [Act.put, List.setIfInBounds_toArray, List.set_cons_zero, List.set_cons_succ]
      refine tTake 5 (some 21) (.int .i64 2) rfl rfl (by kernel_rfl) (by kernel_rfl) (by kernel_rfl) (by decide) (fun _ _ _ h => h) (by rfl) (fun _ => by rfl) HS2.out ?_
      simp only [Act.put, List.setIfInBounds_toArray, List.set_cons_zero, List.set_cons_succ]
      refine tTake 6 (some 22) (.pointer (some ⟨w.heap.size + 1 + 1, 2, none⟩)) rfl rfl (by kernel_rfl) (by kernel_rfl) (by kernel_rfl) (by decide) (fun _ _ _ h => h) (by rfl) (fun _ => by go_simp) HS2.out ?_
      simp only [Act.put, List.setIfInBounds_toArray, List.set_cons_zero, List.set_cons_succ]
      refine tLoad 7 (some 23) (.int .i64 8) rfl rfl (by kernel_rfl) (by kernel_rfl) (by kernel_rfl) (by decide) (by kernel_rfl) (by kernel_rfl) (fun _ _ _ h => h) (by rfl) (fun W' hS' => by obtain ⟨s1, s2, s3⟩ := hS'; go_simp) HS2.out ?_
      simp only [Act.put, List.setIfInBounds_toArray, List.set_cons_zero, List.set_cons_succ]
      refine till_ready 4 (by kernel_rfl) rfl (fun K hK => ?_)
      go_simp
      go_wp2_with (go_at_call 78; refine (ragainst_any _ _ hd wA _).mono ?_; rintro e w' ⟨rfl, rfl⟩)
      refine ⟨HS2.out, ?_⟩
      refine till_ready 8 (by kernel_rfl) rfl (fun K hK => ?_)
      go_simp
      go_wp2_with (go_at_call 105; refine (rleft_any _ 8 (xor_64 _ _ hd wA).2 (by simp [TurnL]) _).mono ?_; rintro e w' ⟨rfl, qq, rfl⟩)
      refine ⟨HS2.out, ?_⟩
      refine tTake 9 (some 25) (.pointer (some ⟨w.heap.size, 3, none⟩)) rfl rfl (by kernel_rfl) (by kernel_rfl) (by kernel_rfl) (by decide) (fun _ _ _ h => h) (by rfl) (fun _ => by go_simp) HS2.out ?_
      simp only [Act.put, List.setIfInBounds_toArray, List.set_cons_zero, List.set_cons_succ]
      refine till_at (by kernel_rfl) ?_
      have Be2 : Blk (d2.drewN qq) w.heap.size 111 (q64s [A, b, c, d]) := Bd2.out.1.drewN qq
      have c2 := u64s_cell Be2 3 (by simp)
      have f2 := Be2.frozen 3
      have B2 : Hid (Blk ((d2.drewN qq).setCell ⟨w.heap.size, 3, none⟩ (.int .u64 (rotl (bits .xor .u32 d A) 8))) w.heap.size 111 (q64s [A, b, c, rotl (bits .xor .u32 d A) 8]) ∧ Blk ((d2.drewN qq).setCell ⟨w.heap.size, 3, none⟩ (.int .u64 (rotl (bits .xor .u32 d A) 8))) (w.heap.size + 1 + 1) 146 turnsV ∧ Kept (fun b => b = w.heap.size) w4 ((d2.drewN qq).setCell ⟨w.heap.size, 3, none⟩ (.int .u64 (rotl (bits .xor .u32 d A) 8)))) := ⟨Be2.set 3 (.int .u64 (rotl (bits .xor .u32 d A) 8)), (Bd2.out.2.1.drewN qq).other (show w.heap.size + 1 + 1 ≠ w.heap.size by omega) _, (Bd2.out.2.2.drewN qq).setCell rfl _⟩
      clear Be2
      refine wpAny_ready (rs := [10]) (by kernel_rfl) (by simp) (AllReady.cons rfl (fun K hK => ?_) AllReady.nil)
      go_simp
      refine hK _ _ ?_
      clear hK K
      change wpAny _ _ _ _ _ _ _ (World.setCell (d2.drewN qq) ⟨w.heap.size, 3, none⟩ (.int .u64 (rotl (bits .xor .u32 d A) 8)))
      obtain ⟨x2, hx2⟩ : ∃ x, World.setCell (d2.drewN qq) ⟨w.heap.size, 3, none⟩ (.int .u64 (rotl (bits .xor .u32 d A) 8)) = x := ⟨_, rfl⟩
      rw [hx2] at B2 ⊢
      clear hx2 c2 f2 HS2 Bd2
      refine wpAny_done (by kernel_rfl) (NoPanic.normal ?_) _
      obtain ⟨D, hD⟩ : ∃ x, rotl (bits .xor .u32 d A) 8 = x := ⟨_, rfl⟩
      have wD : Wd D := by rw [← hD]; exact (rotl_sum _ 8 (xor_64 _ _ hd wA).2 (by simp [TurnL])).2
      rw [hD] at B2 ⊢
      have HD : Hid (rotl (bits .xor .u32 d A) 8 = D) := hD
      clear hD
      have p3 := u64s_cell B2.out.1 2 (by simp)
      have q3 := u64s_cell B2.out.1 3 (by simp)
      have f3 := B2.out.1.frozen 2
      simp only [List.getD_cons_zero, List.getD_cons_succ] at p3 q3
      go_wp2_with (go_at_call 77; refine (rplus_any c D hc wD _).mono ?_; rintro e w' ⟨rfl, rfl⟩)
      have B3 : Hid (Blk (x2.setCell ⟨w.heap.size, 2, none⟩ (.int .u64 ((c + D) % 4294967296))) w.heap.size 111 (q64s [A, b, (c + D) % 4294967296, D]) ∧ Blk (x2.setCell ⟨w.heap.size, 2, none⟩ (.int .u64 ((c + D) % 4294967296))) (w.heap.size + 1 + 1) 146 turnsV ∧ Kept (fun b => b = w.heap.size) w4 (x2.setCell ⟨w.heap.size, 2, none⟩ (.int .u64 ((c + D) % 4294967296)))) := ⟨B2.out.1.set 2 (.int .u64 ((c + D) % 4294967296)), B2.out.2.1.other (show w.heap.size + 1 + 1 ≠ w.heap.size by omega) _, B2.out.2.2.setCell rfl _⟩
      obtain ⟨x3, hx3⟩ : ∃ x, World.setCell x2 ⟨w.heap.size, 2, none⟩ (.int .u64 ((c + D) % 4294967296)) = x := ⟨_, rfl⟩
      rw [hx3] at B3 ⊢
      clear hx3 p3 q3 f3
      obtain ⟨C, hC⟩ : ∃ x, (c + D) % 4294967296 = x := ⟨_, rfl⟩
      have wC : Wd C := by rw [← hC]; constructor <;> omega
      rw [hC] at B3 ⊢
      have HC : Hid ((c + D) % 4294967296 = C) := hC
      clear hC
      obtain ⟨d4, hd4⟩ : ∃ x, x3.drew = x := ⟨_, rfl⟩
      have Bd4 : Hid (Blk d4 w.heap.size 111 (q64s [A, b, C, D]) ∧ Blk d4 (w.heap.size + 1 + 1) 146 turnsV ∧ Kept (fun b => b = w.heap.size) w4 d4) := by rw [← hd4]; exact ⟨B3.out.1.drew, B3.out.2.1.drew, B3.out.2.2.drew⟩
      have HS4 : Hid (d4.cell? ⟨w.heap.size, 1, none⟩ = some (.int .u64 b) ∧ d4.cell? ⟨w.heap.size, 2, none⟩ = some (.int .u64 C) ∧ d4.cell? ⟨w.heap.size + 1 + 1, 3, none⟩ = some (.int .i64 7)) := ⟨u64s_cell Bd4.out.1 1 (by simp), u64s_cell Bd4.out.1 2 (by simp), by rw [Bd4.out.2.1.cell]; rfl⟩
      refine wp_region_noPanic (till_region 11 (fun W => W.cell? ⟨w.heap.size, 1, none⟩ = some (.int .u64 b) ∧ W.cell? ⟨w.heap.size, 2, none⟩ = some (.int .u64 C) ∧ W.cell? ⟨w.heap.size + 1 + 1, 3, none⟩ = some (.int .i64 7)) (by kernel_rfl) ?_)
      change wpTill _ _ _ _ _ _ _ _ x3.drew
      rw [hd4]
      clear hd4
      refine tTake 0 (some 32) (.pointer (some ⟨w.heap.size, 1, none⟩)) rfl rfl (by kernel_rfl) (by kernel_rfl) (by kernel_rfl) (by decide) (fun _ _ _ h => h) (by rfl) (fun _ => by go_simp) HS4.out ?_
      simp only [Act.put, List.setIfInBounds_toArray, List.set_cons_zero, List.set_cons_succ]
      refine tLoad 1 (some 33) (.int .u64 b) rfl rfl (by kernel_rfl) (by kernel_rfl) (by kernel_rfl) (by decide) (by kernel_rfl) (by kernel_rfl) (fun _ _ _ h => h) (by rfl) (fun W' hS' => by obtain ⟨s1, s2, s3⟩ := hS'; go_simp) HS4.out ?_
      simp only [Act.put, List.setIfInBounds_toArray, List.set_cons_zero, List.set_cons_succ]
      refine tTake 2 (some 34) (.pointer (some ⟨w.heap.size, 2, none⟩)) rfl rfl (by kernel_rfl) (by kernel_rfl) (by kernel_rfl) (by decide) (fun _ _ _ h => h) (by rfl) (fun _ => by go_simp) HS4.out ?_
      simp only [Act.put, List.setIfInBounds_toArray, List.set_cons_zero, List.set_cons_succ]
      refine tLoad 3 (some 35) (.int .u64 C) rfl rfl (by kernel_rfl) (by kernel_rfl) (by kernel_rfl) (by decide) (by kernel_rfl) (by kernel_rfl) (fun _ _ _ h => h) (by rfl) (fun W' hS' => by obtain ⟨s1, s2, s3⟩ := hS'; go_simp) HS4.out ?_
      simp only [Act.put, List.setIfInBounds_toArray, List.set_cons_zero, List.set_cons_succ]
      refine tTake 5 (some 37) (.int .i64 2) rfl rfl (by kernel_rfl) (by kernel_rfl) (by kernel_rfl) (by decide) (fun _ _ _ h => h) (by rfl) (fun _ => by rfl) HS4.out ?_
      simp only [Act.put, List.setIfInBounds_toArray, List.set_cons_zero, List.set_cons_succ]
      refine tTake 6 (some 38) (.int .i64 3) rfl rfl (by kernel_rfl) (by kernel_rfl) (by kernel_rfl) (by decide) (fun _ _ _ h => h) (by rfl) (fun _ => by go_simp; rfl) HS4.out ?_
      simp only [Act.put, List.setIfInBounds_toArray, List.set_cons_zero, List.set_cons_succ]
      refine tTake 7 (some 39) (.pointer (some ⟨w.heap.size + 1 + 1, 3, none⟩)) rfl rfl (by kernel_rfl) (by kernel_rfl) (by kernel_rfl) (by decide) (fun _ _ _ h => h) (by rfl) (fun _ => by go_simp) HS4.out ?_
      simp only [Act.put, List.setIfInBounds_toArray, List.set_cons_zero, List.set_cons_succ]
      refine tLoad 8 (some 40) (.int .i64 7) rfl rfl (by kernel_rfl) (by kernel_rfl) (by kernel_rfl) (by decide) (by kernel_rfl) (by kernel_rfl) (fun _ _ _ h => h) (by rfl) (fun W' hS' => by obtain ⟨s1, s2, s3⟩ := hS'; go_simp) HS4.out ?_
      simp only [Act.put, List.setIfInBounds_toArray, List.set_cons_zero, List.set_cons_succ]
      refine till_ready 4 (by kernel_rfl) rfl (fun K hK => ?_)
      go_simp
      go_wp2_with (go_at_call 78; refine (ragainst_any _ _ hb wC _).mono ?_; rintro e w' ⟨rfl, rfl⟩)
      refine ⟨HS4.out, ?_⟩
      refine till_ready 9 (by kernel_rfl) rfl (fun K hK => ?_)
      go_simp
      go_wp2_with (go_at_call 105; refine (rleft_any _ 7 (xor_64 _ _ hb wC).2 (by simp [TurnL]) _).mono ?_; rintro e w' ⟨rfl, qq, rfl⟩)
      refine ⟨HS4.out, ?_⟩
      refine tTake 10 (some 42) (.pointer (some ⟨w.heap.size, 1, none⟩)) rfl rfl (by kernel_rfl) (by kernel_rfl) (by kernel_rfl) (by decide) (fun _ _ _ h => h) (by rfl) (fun _ => by go_simp) HS4.out ?_
      simp only [Act.put, List.setIfInBounds_toArray, List.set_cons_zero, List.set_cons_succ]
      refine till_at (by kernel_rfl) ?_
      have Be4 : Blk (d4.drewN qq) w.heap.size 111 (q64s [A, b, C, D]) := Bd4.out.1.drewN qq
      have c4 := u64s_cell Be4 1 (by simp)
      have f4 := Be4.frozen 1
      have B4 : Hid (Blk ((d4.drewN qq).setCell ⟨w.heap.size, 1, none⟩ (.int .u64 (rotl (bits .xor .u32 b C) 7))) w.heap.size 111 (q64s [A, rotl (bits .xor .u32 b C) 7, C, D]) ∧ Blk ((d4.drewN qq).setCell ⟨w.heap.size, 1, none⟩ (.int .u64 (rotl (bits .xor .u32 b C) 7))) (w.heap.size + 1 + 1) 146 turnsV ∧ Kept (fun b => b = w.heap.size) w4 ((d4.drewN qq).setCell ⟨w.heap.size, 1, none⟩ (.int .u64 (rotl (bits .xor .u32 b C) 7)))) := ⟨Be4.set 1 (.int .u64 (rotl (bits .xor .u32 b C) 7)), (Bd4.out.2.1.drewN qq).other (show w.heap.size + 1 + 1 ≠ w.heap.size by omega) _, (Bd4.out.2.2.drewN qq).setCell rfl _⟩
      clear Be4
      refine wpAny_ready (rs := [11]) (by kernel_rfl) (by simp) (AllReady.cons rfl (fun K hK => ?_) AllReady.nil)
      go_simp
      refine hK _ _ ?_
      clear hK K
      change wpAny _ _ _ _ _ _ _ (World.setCell (d4.drewN qq) ⟨w.heap.size, 1, none⟩ (.int .u64 (rotl (bits .xor .u32 b C) 7)))
      obtain ⟨x4, hx4⟩ : ∃ x, World.setCell (d4.drewN qq) ⟨w.heap.size, 1, none⟩ (.int .u64 (rotl (bits .xor .u32 b C) 7)) = x := ⟨_, rfl⟩
      rw [hx4] at B4 ⊢
      clear hx4 c4 f4 HS4 Bd4
      refine wpAny_done (by kernel_rfl) (NoPanic.normal ?_) _
      go_wp2_with fail
      refine ⟨⟨2, by omega, by go_num, ?_, B4.out.2⟩, by simp [intOf]⟩
      have e : rq q 2 = ⟨A, rotl (bits .xor .u32 b C) 7, C, D⟩ := by
        show halfQ (rq q 1) 8 7 = _
        rw [HP.out, halfQ, halfC, halfD, HA.out, HD.out, HC.out]
      rw [e]; exact B4.out.1
    · rw [show 2 * ((2 : Nat) : Int) = 4 from rfl]
      have X3 : Hid (Blk wr w.heap.size 111 (q64s (quarter q).list)) := hb
      have X4 : Hid (Blk wr (w.heap.size + 1) 111 (q64s [0, 0, 0, 0])) := HB.out.2.1.kept hkp (by omega)
      have X5 : Hid (Below w.heap.size w wr) := below_kept HB.out.2.2.2.1 hkp (by have := HB.out.2.2.2.2; omega) (fun j hj => by omega)
      clear hb ht hkp
      go_wp2_with (first | (refine wpList_load_blk rfl 111 _ rfl _ rfl (q64s (quarter q).list) _ X3.out Try.underlying111 rfl size4q ?_) | (refine wpList_store_blk rfl 111 111 _ _ rfl _ rfl _ (q64s (quarter q).list) rfl X4.out rfl size4q (q64s_one _) ?_; intro w5 b5 s5 k5))
      exact ret_blk rfl (w.heap.size + 1) (q64s (quarter q).list) _ rfl b5 Try.underlying111 rfl size4q rfl ⟨rfl, below_kept X5.out k5 X5.out.size (fun j hj => by omega)⟩
end Go.Proofs.Ytogplebajpdmoaa

/- Rows of words; the document's numbers of bytes and bytes of numbers; words. -/
namespace Go.Proofs.Ytogplebajpdmoaa
open Go.RowKit
set_option linter.unusedVariables false
set_option linter.unusedSimpArgs false

theorem info_w : (Try.prog.info? 23).map (fun i => (i.zero, i.size, i.bytes)) = some (some (.int .u64 0), 1, 8) := by kernel_rfl
def Wds (zs : List Int) : Prop := ∀ z ∈ zs, Wd z
theorem Wds.at {zs : List Int} (h : Wds zs) (j : Nat) (hj : j < zs.length) : Wd (zs.getD j 0) := by
  have e : zs.getD j 0 = zs[j] := by simp [List.getD, hj]
  rw [e]; exact h _ (List.getElem_mem hj)
def w64s (l : List Int) : List Value := l.map (Value.int .u64)
theorem w64s_length (l : List Int) : (w64s l).length = l.length := List.length_map ..
theorem w64s_set (l : List Int) (j : Nat) (x : Int) : (w64s l).set j (.int .u64 x) = w64s (l.set j x) := by simp [w64s, List.map_set]
/-- A slice at ao of n numbers, which are zs. -/
structure SeenU (w : World) (ao : Option Addr) (n : Nat) (zs : List Int) : Prop where
  len : zs.length = n
  top : n ≤ 1000
  wd : Wds zs
  cells : 0 < n → ∃ b o, ao = some ⟨b, o, none⟩ ∧ b < w.heap.size ∧ ∀ i, i < n → w.cell? ⟨b, o + i, none⟩ = some (.int .u64 (zs.getD i 0))
theorem SeenU.later {w w' : World} {ao : Option Addr} {n : Nat} {zs : List Int} (h : SeenU w ao n zs) {B : Nat} (hb : Below B w w') (hB : w.heap.size ≤ B) : SeenU w' ao n zs :=
  ⟨h.len, h.top, h.wd, fun hn => by
    obtain ⟨b, o, e, hlt, hc⟩ := h.cells hn
    exact ⟨b, o, e, Nat.lt_of_lt_of_le hlt hb.size, fun i hi => (hb.cell (p := ⟨b, o + i, none⟩) (Nat.lt_of_lt_of_le hlt hB)).trans (hc i hi)⟩⟩
theorem SeenU.kept {S : Nat → Prop} {w w' : World} {ao : Option Addr} {n : Nat} {zs : List Int} (h : SeenU w ao n zs) (hk : Kept S w w') (hS : ∀ b, b < w.heap.size → ¬ S b) : SeenU w' ao n zs :=
  ⟨h.len, h.top, h.wd, fun hn => by
    obtain ⟨b, o, e, hlt, hc⟩ := h.cells hn
    exact ⟨b, o, e, Nat.lt_of_lt_of_le hlt hk.size, fun i hi => (hk.cell (p := ⟨b, o + i, none⟩) hlt (hS b hlt)).trans (hc i hi)⟩⟩
/-- Block g begins with the numbers zs, has room for cap, and may be written. -/
def RowU (w : World) (r cap : Nat) (zs : List Int) : Prop := ∃ rest : List Value, w.heap[r]? = some (.cells (w64s zs ++ rest).toArray 23 (0, 0)) ∧ zs.length + rest.length = cap
theorem RowU.cell {w : World} {g cap : Nat} {zs : List Int} (h : RowU w g cap zs) (j : Nat) (hj : j < zs.length) : w.cell? ⟨g, j, none⟩ = some (.int .u64 (zs.getD j 0)) := by
  obtain ⟨rest, h, _⟩ := h
  rw [cell_of_row w g j _ 23 (0, 0) h]
  simp [w64s, hj, List.getElem?_append]
theorem RowU.frozen {w : World} {g cap : Nat} {zs : List Int} (h : RowU w g cap zs) (j : Nat) : w.frozen? ⟨g, j, none⟩ = false := by
  obtain ⟨rest, h, _⟩ := h
  exact frozen_of_row w g j _ 23 h
theorem RowU.set {w : World} {g cap : Nat} {zs : List Int} (h : RowU w g cap zs) (j : Nat) (hj : j < zs.length) (z : Int) : RowU (w.setCell ⟨g, j, none⟩ (.int .u64 z)) g cap (zs.set j z) := by
  obtain ⟨rest, h, hc⟩ := h
  refine ⟨rest, ?_, by simpa using hc⟩
  rw [heap_setCell_same w g j _ 23 _ h, ← w64s_set]
  simp [w64s_length, hj]
theorem RowU.lt {w : World} {g cap : Nat} {zs : List Int} (h : RowU w g cap zs) : g < w.heap.size := by
  obtain ⟨rest, h, _⟩ := h
  rcases Nat.lt_or_ge g w.heap.size with h' | h'
  · exact h'
  · rw [Array.getElem?_eq_none h'] at h; cases h
theorem RowU.block {w w' : World} {r cap : Nat} {zs : List Int} (h : RowU w r cap zs) (e : w'.heap[r]? = w.heap[r]?) : RowU w' r cap zs := by
  obtain ⟨rest, h, hc⟩ := h
  exact ⟨rest, by rw [e]; exact h, hc⟩
theorem RowU.later {w w' : World} {r cap : Nat} {zs : List Int} (h : RowU w r cap zs) {B : Nat} (hb : Below B w w') (hB : w.heap.size ≤ B) : RowU w' r cap zs := h.block (hb.block r (Nat.lt_of_lt_of_le h.lt hB))
theorem RowU.drew {w : World} {r cap : Nat} {zs : List Int} (h : RowU w r cap zs) : RowU w.drew r cap zs := h
theorem RowU.of_own {w : World} {base r n cap : Nat} {zs : List Int} (h : w.ownsRow base 23 1 (.slice (some ⟨r, 0, none⟩) n cap) n (w64s zs)) : RowU w r cap zs ∧ base ≤ r ∧ n ≤ cap ∧ cap ≤ maxLen ∧ zs.length = n := by
  obtain ⟨hl, h⟩ := h
  rcases h with ⟨h, _⟩ | ⟨g', cap', cur, h, hb, hh, hc, hm, hs, ht⟩
  · cases h
  · simp only [Value.slice.injEq, Option.some.injEq, Addr.mk.injEq, and_true, true_and] at h
    obtain ⟨rfl, rfl⟩ := h
    rw [Nat.mul_one] at ht hs
    have hl' : zs.length = n := by simpa [w64s] using hl
    refine ⟨⟨cur.toList.drop n, ?_, ?_⟩, hb, hc, hm, hl'⟩
    · rw [← ht, List.take_append_drop]; simpa using hh
    · simp; omega
theorem RowU.own {w : World} {base r n cap : Nat} {zs : List Int} (h : RowU w r cap zs) (hl : zs.length = n) (hb : base ≤ r) (hm : cap ≤ maxLen) : w.ownsRow base 23 1 (.slice (some ⟨r, 0, none⟩) n cap) n (w64s zs) := by
  obtain ⟨rest, h, hc⟩ := h
  refine ⟨by rw [w64s_length]; omega, .inr ⟨r, cap, _, rfl, hb, h, by omega, hm, by simp [w64s_length]; omega, ?_⟩⟩
  rw [Nat.mul_one]
  simp [w64s_length, hl]
theorem RowU.seen {w : World} {g cap : Nat} {zs : List Int} (h : RowU w g cap zs) (ht : zs.length ≤ 1000) (hs : Wds zs) : SeenU w (some ⟨g, 0, none⟩) zs.length zs :=
  ⟨rfl, ht, hs, fun _ => ⟨g, 0, rfl, h.lt, fun i hi => by rw [Nat.zero_add]; exact h.cell i hi⟩⟩
theorem ownU {w : World} {base n : Nat} {v : Value} {zs : List Int} (hl : zs.length = n) (h : w.ownsRow base 23 1 v n (w64s zs)) :
    (v = .slice none 0 0 ∧ n = 0 ∧ zs = []) ∨ ∃ g cap, v = .slice (some ⟨g, 0, none⟩) n cap ∧ RowU w g cap zs ∧ base ≤ g ∧ n ≤ cap ∧ cap ≤ maxLen := by
  rcases h.2 with ⟨h1, h2⟩ | ⟨g, cap, cur, rfl, r⟩
  · left
    subst h2
    exact ⟨h1, rfl, List.length_eq_zero_iff.1 hl⟩
  · right
    have := RowU.of_own h
    exact ⟨g, cap, rfl, this.1, this.2.1, this.2.2.1, this.2.2.2.1⟩
/-- A slice of these numbers. -/
def isU (zs : List Int) (v : Value) (w : World) : Prop := ∃ vo n c, v = .slice vo n c ∧ SeenU w vo n zs
theorem isU_later (zs : List Int) : ∀ v w w', Below w.heap.size w w' → isU zs v w → isU zs v w' := fun _ _ _ hb ⟨b, o, c, h1, h2⟩ => ⟨b, o, c, h1, h2.later hb (Nat.le_refl _)⟩
theorem isU_own {w : World} {base n : Nat} {v : Value} {zs : List Int} (hl : zs.length = n) (ht : n ≤ 1000) (hs : Wds zs) (h : w.ownsRow base 23 1 v n (w64s zs)) : isU zs v w := by
  rcases ownU hl h with ⟨rfl, rfl, rfl⟩ | ⟨g, cap, rfl, hr, _, _, _⟩
  · exact ⟨none, 0, 0, rfl, rfl, Nat.zero_le _, (fun d hd => by cases hd), fun h => (by omega)⟩
  · subst hl
    exact ⟨_, _, cap, rfl, hr.seen ht hs⟩
/-- A number more. -/
theorem ownU_more {w wr w1 : World} {v v' : Value} {zs : List Int} {z : Int}
    (hb : Below w.heap.size w wr) (hown : wr.ownsRow w.heap.size 23 1 v zs.length (w64s zs))
    (hown' : w1.ownsRow w.heap.size 23 1 v' (zs.length + 1) (w64s zs ++ [.int .u64 z])) (hg : (wr.alloc (.cells #[.int .u64 z] 23)).grownBy w1 v.ownBlock) :
    w1.ownsRow w.heap.size 23 1 v' (zs ++ [z]).length (w64s (zs ++ [z])) ∧ Below w.heap.size w w1 := by
  constructor
  · rw [w64s, List.map_append, List.length_append]; exact hown'
  · exact (hb.alloc hb.size _).grown hg (by have := hb.size; simp; omega) (fun j hj => (hown.lt j hj).1)
theorem madeU (n : Nat) : (madeCells #[Value.int .u64 0] n) = (w64s (List.replicate n 0)).toArray := by
  apply Array.ext'
  rw [toList_madeCells_one]
  simp [w64s]
set_option maxHeartbeats 1000000 in
set_option maxRecDepth 20000 in
theorem rlittle_any (ao : Option Addr) (n c : Nat) (zs : List Int) (k : Nat) (hk : k ≤ 8) (w : World) (hx : Seen w ao n zs) :
    Calls Try.prog 127 #[.slice ao n c, .int .i64 k] w fun e w' => e = .returned (.tuple #[.int .u64 (leV k n zs), .int .i64 (fit n k)]) ∧ w = w' := by
  have t1 := hx.top
  rcases Nat.lt_trichotomy n k with h | h | h
  · rw [fit_short h, leV_no zs (by omega)]
    have h1 : (n : Int) < (k : Int) := by omega
    go_enter Try.func127, Try.ntmps127
    go_wp2
    go_ret2
    exact ⟨rfl, rfl⟩
  · subst h
    rw [fit_ok, leV_ok]
    have HL : Hid (zs.length = n) := hx.len
    have HB : Hid (Bytes zs) := hx.bytes
    go_enter Try.func127, Try.ntmps127
    go_wp2
    go_loopw [6, 7] (fun v i wr => ∃ (m : Nat) (I : Int), m ≤ n ∧ I + 1 = m ∧ i = .int .i64 I ∧ v = .int .u64 (le (zs.drop m)) ∧ wr = w) (fun _ i _ => (intOf i + 1).toNat)
    case atStart => exact ⟨n, (n : Int) - 1, Nat.le_refl _, by omega, rfl, by rw [List.drop_of_length_le (by have := HL.out; omega)]; rfl, rfl⟩
    case round =>
      obtain ⟨m, I, hm, hI, rfl, rfl, rfl⟩ := hrel
      by_cases hlt : 0 < m
      · obtain ⟨b, o, rfl, hb, hc⟩ := hx.cells (by omega)
        obtain ⟨p, rfl⟩ : ∃ p, m = p + 1 := ⟨m - 1, by omega⟩
        obtain rfl : I = (p : Int) := by omega
        have c1 := hc p (by omega)
        have hd := le_drop zs p (by have := HL.out; omega)
        have hbd := le_drop_bd zs HB.out n (p + 1) HL.out hk (by omega)
        have hz := HB.out.at p (by have := HL.out; omega)
        have hbd2 := le_bd (zs.drop p) (bytes_drop HB.out p)
        have hlt2 : le (zs.drop p) < 18446744073709551616 := by
          have : 256 ^ (zs.drop p).length ≤ 256 ^ 8 := Nat.pow_le_pow_right (by decide) (by rw [List.length_drop]; have := HL.out; omega)
          have h2 : (256 : Int) ^ (zs.drop p).length ≤ 256 ^ 8 := by
            show ((256 : Nat) : Int) ^ _ ≤ ((256 : Nat) : Int) ^ 8
            rw [← Int.natCast_pow, ← Int.natCast_pow]
            exact Int.ofNat_le.2 this
          omega
        obtain ⟨Z, hZ⟩ : ∃ Z, zs.getD p 0 = Z := ⟨_, rfl⟩
        obtain ⟨A, hA⟩ : ∃ A, le (zs.drop (p + 1)) = A := ⟨_, rfl⟩
        rw [hZ] at c1 hd hz
        rw [hA] at hd hbd
        rw [hd] at hlt2
        have HO : Hid (A * 256 + Z = le (zs.drop p)) := by show _ = _; rw [hd]; omega
        rw [hA]
        have w1 : A * 256 % 18446744073709551616 = A * 256 := by omega
        have w2 : (A * 256 + Z) % 18446744073709551616 = A * 256 + Z := by omega
        have i1 : (0 : Int) ≤ (p : Int) := by omega
        have i2 : (p : Int) < (n : Int) := by omega
        clear hZ hA hc hx hd hbd2
        go_wp2
        go_roundw
        case rel => exact ⟨p, (p : Int) - 1, by omega, by omega, by go_num, by rw [← HO.out], by first | rfl | trivial⟩
        case measure => simp [intOf] <;> omega
      · obtain rfl : m = 0 := by omega
        obtain rfl : I = -1 := by omega
        rw [List.drop_zero]
        obtain ⟨A, hA⟩ : ∃ A, le zs = A := ⟨_, rfl⟩
        rw [hA]
        have HA : Hid (le zs = A) := hA
        clear hx hA
        go_wp2
        go_ret2
        exact ⟨by rw [HA.out]; rfl, rfl⟩
  · rw [fit_rest h, leV_no zs (by omega)]
    have h1 : (k : Int) < (n : Int) := by omega
    go_enter Try.func127, Try.ntmps127
    go_wp2
    go_ret2
    exact ⟨rfl, rfl⟩

set_option maxHeartbeats 1000000 in
set_option maxRecDepth 20000 in
theorem rbytes_any (x : Int) (hv : Word x) (k : Nat) (hk : k ≤ 8) (w : World) :
    Calls Try.prog 76 #[.int .u64 x, .int .i64 k] w fun e w' => ∃ v, e = .returned v ∧ w'.ownsRow w.heap.size 5 1 v k ((leB k x).map (Value.int .u8)) ∧ Below w.heap.size w w' := by
  have A1 : Hid (∀ i, i < k → (leB k x).getD i 0 = x / 256 ^ i % 256) := fun i hi => leB_at _ _ _ hi
  have A4 : Hid ((leB k x).length = k) := leB_length _ _
  generalize leB k x = zm at *
  obtain ⟨i0, hi, hz0, hz1, hz2⟩ := info_parts info_byte
  go_enter Try.func76, Try.ntmps76
  go_wp2
  go_loopw [0, 5, 6] (fun u v i wr => ∃ m : Nat, m ≤ k ∧ u = .int .u64 (x / 256 ^ m) ∧ i = .int .i64 m ∧ wr.ownsRow w.heap.size 5 1 v m ((zm.map (Value.int .u8)).take m) ∧ Below w.heap.size w wr) (fun _ _ i _ => k - (intOf i).toNat)
  case atStart => exact ⟨0, Nat.zero_le _, by simp, rfl, by simpa using World.ownsRow_nil _ _ _ _, Below.refl _ _⟩
  case round =>
    obtain ⟨m, hm, rfl, rfl, hown, hbel⟩ := hrel
    have hq : 0 ≤ x / 256 ^ m ∧ x / 256 ^ m < 18446744073709551616 := by
      have hp : (0 : Int) < 256 ^ m := Int.pow_pos (by decide)
      have h1 := Int.ediv_nonneg hv.1 (Int.le_of_lt hp)
      have h2 : x / 256 ^ m ≤ x := Int.ediv_le_self _ hv.1
      have h3 := hv.2
      exact ⟨h1, by omega⟩
    have HP : Hid (x / 256 ^ (m + 1) = x / 256 ^ m / 256) := by
      show _ = _
      rw [Int.pow_succ, Int.ediv_ediv_of_nonneg (Int.le_of_lt (Int.pow_pos (by decide)))]
    by_cases hlt : m < k
    · have HZ : Hid (zm.getD m 0 = x / 256 ^ m % 256) := A1.out m hlt
      obtain ⟨Y, hY⟩ : ∃ Y, x / 256 ^ m = Y := ⟨_, rfl⟩
      have HY : Hid (x / 256 ^ m = Y) := hY
      rw [hY] at hq ⊢
      have e1 : Y % 256 % 256 = Y % 256 := by omega
      have hsz := hbel.size
      have i2 : (m : Int) < (k : Int) := by omega
      clear hY
      go_wp2_with (at_builtin; refine wpList_append_own _ rfl _ _ 31 rfl w.heap.size 5 i0 (.int .u8 0) 1 1 Try.underlying31 hi hz0 hz1 hz2 rfl (by decide) _ _ _ rfl (hown.alloc _) ⟨wr.heap.size, 0, none⟩ 1 1 [.int .u8 (Y % 256)] rfl rfl ?c1 ?c2 ?c3 ?c4 ?c5 ?_)
      case c1 => exact cell_one_new _ _ _
      case c2 => intro u hu; simp at hu; subst hu; rfl
      case c3 => unfold maxLen; omega
      case c4 => omega
      case c5 => simp; omega
      · intro v' w1 hown' hgrow _
        have R := step_own hbel hown (by have := A4.out; omega) (by rw [HZ.out, HY.out]) hown' hgrow
        clear hown' hgrow hown hbel
        go_wp2
        go_roundw
        case rel => exact ⟨m + 1, by omega, by rw [HP.out, HY.out], by go_num, R.1, R.2⟩
        case measure => simp [intOf]; omega
    · obtain rfl : m = k := by omega
      have HO : Hid (wr.ownsRow w.heap.size 5 1 u5 m ((zm.map (Value.int .u8)).take m)) := hown
      have HB : Hid _ := hbel
      clear hown hbel
      go_wp2
      go_ret
      refine ⟨_, rfl, ?_, HB.out⟩
      have h := HO.out
      rwa [List.take_of_length_le (by have := A4.out; simp; omega)] at h

theorem rnum_any (ao : Option Addr) (n c : Nat) (zs : List Int) (hn : n ≤ 8) (w : World) (hx : Seen w ao n zs) : Calls Try.prog 121 #[.slice ao n c] w fun e w' => e = .returned (.int .u64 (le zs)) ∧ w = w' := by
  have h := rlittle_any ao n c zs n hn w hx
  rw [leV_ok] at h
  go_enter Try.func121, Try.ntmps121
  go_wp2_with (go_at_call 127; refine h.mono ?_; rintro e w' ⟨rfl, rfl⟩)
  go_ret
  exact ⟨rfl, rfl⟩
theorem le4_wd (l : List Int) (hb : Bytes l) (hl : l.length = 4) : Wd (le l) := by
  have h := le_bd l hb
  rw [hl] at h
  exact ⟨h.1, h.2⟩
theorem wds_wd (zs : List Int) (k : Nat) (hb : Bytes zs) (hl : 4 * k ≤ zs.length) : Wds (wds zs k) := by
  intro z hz
  simp only [wds, List.mem_map, List.mem_range] at hz
  obtain ⟨t, ht, rfl⟩ := hz
  exact le4_wd _ (bytes_take (bytes_drop hb _) _) (by rw [List.length_take, List.length_drop]; omega)
theorem ownU_next {w wr w1 : World} {v v' : Value} {zs : List Int} {z : Int} {k : Nat} (hl : zs.length = k)
    (hb : Below w.heap.size w wr) (hown : wr.ownsRow w.heap.size 23 1 v k (w64s zs))
    (hown' : w1.ownsRow w.heap.size 23 1 v' (k + 1) (w64s zs ++ [.int .u64 z])) (hg : (wr.alloc (.cells #[.int .u64 z] 23)).grownBy w1 v.ownBlock) :
    w1.ownsRow w.heap.size 23 1 v' (k + 1) (w64s (zs ++ [z])) ∧ Below w.heap.size w w1 := by
  subst hl
  have R := ownU_more (zs := zs) (z := z) hb hown hown' hg
  rwa [List.length_append] at R
set_option maxHeartbeats 1000000 in
set_option maxRecDepth 20000 in
theorem words_any (ao : Option Addr) (K c : Nat) (zs : List Int) (hK : K ≤ 8) (w : World) (hx : Seen w ao (4 * K) zs) (hc : 4 * K ≤ c) :
    Calls Try.prog 104 #[.slice ao (4 * K) c] w fun e w' => ∃ v, e = .returned v ∧ isU (wds zs K) v w' ∧ Below w.heap.size w w' := by
  have HX : Hid (Seen w ao (4 * K) zs ∧ zs.length = 4 * K ∧ Bytes zs) := ⟨hx, hx.len, hx.bytes⟩
  obtain ⟨i0, hi, hz0, hz1, hz2⟩ := info_parts info_w
  clear hx
  go_enter Try.func104, Try.ntmps104
  go_wp2_with fail
  go_loopw [3, 4] (fun v i wr => ∃ k : Nat, k ≤ K ∧ i = .int .i64 (4 * (k : Int)) ∧ wr.ownsRow w.heap.size 23 1 v k (w64s (wds zs k)) ∧ Below w.heap.size w wr) (fun _ i _ => 4 * K - (intOf i).toNat)
  case atStart => exact ⟨0, Nat.zero_le _, rfl, World.ownsRow_nil _ _ _ _, Below.refl _ _⟩
  case round =>
    obtain ⟨k, hk, rfl, hown, hbel⟩ := hrel
    have hsz := hbel.size
    by_cases hlt : k < K
    · have i1 : 4 * (k : Int) + 4 ≤ 4 * (K : Int) := by omega
      have i2 : (0 : Int) ≤ 4 * (k : Int) := by omega
      have hsl : ∀ W, (Instr.sliceAt 31 (.slice ao (4 * K) c) (some (.int .i64 (4 * (k : Int)))) (some (.int .i64 (4 * (k : Int) + 4))) none).run Try.prog W = .ok (.slice (subA ao (4 * k) c) 4 (c - 4 * k)) W := fun W => by
        have := sl_lh ao (4 * K) c (4 * k) (4 * k + 4) (by omega) (by omega) W
        rw [Nat.add_sub_cancel_left] at this
        simpa using this
      have hs4 := (HX.out.1.later hbel (Nat.le_refl _)).sub (4 * k) (4 * k + 4) c (by omega) (by omega) hc
      rw [Nat.add_sub_cancel_left] at hs4
      have HS : Hid (Seen wr (subA ao (4 * k) c) 4 ((zs.drop (4 * k)).take 4)) := hs4
      obtain ⟨Z, HZ⟩ : ∃ Z, Hid (le ((zs.drop (4 * k)).take 4) = Z) := ⟨_, rfl⟩
      have HE : Hid (wds zs (k + 1) = wds zs k ++ [Z]) := by show _ = _; rw [wds_succ, ← HZ.out]; rfl
      clear hs4
      go_wp2_with fail
      refine (rnum_any _ 4 (c - 4 * k) _ (by decide) wr HS.out).mono ?_
      rintro e w' ⟨rfl, rfl⟩
      rw [HZ.out]
      go_wp2_with (at_builtin; refine wpList_append_own _ rfl _ _ 108 rfl w.heap.size 23 i0 (.int .u64 0) 1 8 Try.underlying108 hi hz0 hz1 hz2 rfl (by decide) _ _ _ rfl (hown.alloc _) ⟨wr.heap.size, 0, none⟩ 1 1 [.int .u64 Z] rfl rfl ?c1 ?c2 ?c3 ?c4 ?c5 ?_)
      try case c1 => exact one_new _ _ _
      case c2 => first | rfl | (intro u hu; simp at hu; subst hu; rfl)
      case c3 => unfold maxLen; omega
      case c4 => omega
      case c5 => first | omega | (simp; omega)
      · intro v' w1 hown' hgrow _
        have R := ownU_next (wds_length zs k) hbel hown hown' hgrow
        clear hown' hgrow hown hbel
        go_wp2_with fail
        exact ⟨⟨k + 1, by omega, by go_num, by rw [HE.out]; exact R.1, R.2⟩, by simp [intOf]; omega⟩
    · obtain rfl : K = k := by omega
      have i1 : ¬ 4 * (K : Int) + 4 ≤ 4 * (K : Int) := by omega
      have HO : Hid (isU (wds zs K) u3 wr ∧ Below w.heap.size w wr) := ⟨isU_own (wds_length zs K) (by omega) (wds_wd zs K HX.out.2.2 (by rw [HX.out.2.1]; exact Nat.le_refl _)) hown, hbel⟩
      clear hown hbel
      go_wp2_with fail
      go_ret
      exact ⟨_, rfl, HO.out⟩
end Go.Proofs.Ytogplebajpdmoaa

/- The document's state and places. -/
namespace Go.Proofs.Ytogplebajpdmoaa
open Go.RowKit
set_option linter.unusedVariables false
set_option linter.unusedSimpArgs false

theorem wpList_append_seenU {ops : Array Oper} {rest : List Oper} {o : Oper} {a : Act} {Q : Exit → Act → World → Prop} {w : World} (hgd : o.guard = none) (s x : Operand)
    (ho : o.op = .call { callee := .builtin .append, args := #[s, x], argTypes := #[108, 108] }) (base : Nat) (v : Value) (n : Nat) (xs : List Int) (hs : a.eval s = v) (hown : w.ownsRow base 23 1 v n (w64s xs))
    (ao : Option Addr) (m c : Nat) (zs : List Int) (hx : a.eval x = .slice ao m c) (hsn : SeenU w ao m zs) (h0 : 0 < m) (hb : n + m ≤ 2000) (hbase : base ≤ w.heap.size)
    (h : ∀ v' w', w'.ownsRow base 23 1 v' (n + m) (w64s (xs ++ zs)) → w.grownBy w' v.ownBlock → wpList Try.prog ops Q rest (a.put o.dst v') w') : wpList Try.prog ops Q (o :: rest) a w := by
  obtain ⟨i0, hi, hz0, hz1, hz2⟩ := info_parts info_w
  obtain ⟨b, off, rfl, hlt, hc⟩ := hsn.cells h0
  refine wpList_append_own _ hgd s x 108 ho base 23 i0 (.int .u64 0) 1 8 Try.underlying108 hi hz0 hz1 hz2 rfl (by decide) v n (w64s xs) hs hown ⟨b, off, none⟩ m c (w64s zs) hx ?_ ?_ ?_ ?_ ?_ hbase (fun v' w' h1 h2 _ => h v' w' ?_ h2)
  · rw [w64s_length, hsn.len, Nat.mul_one]
  · intro j u hj
    have hjl : j < zs.length := by have := (List.getElem?_eq_some_iff.1 hj).1; simpa [w64s] using this
    rw [show (⟨b, off, none⟩ : Addr).add j = ⟨b, off + j, none⟩ from Addr.add_mid b off j, hc j (by rw [← hsn.len]; exact hjl), ← hj]
    simp [w64s, List.getD, hjl]
  · intro u hu
    obtain ⟨z, _, rfl⟩ := List.mem_map.1 hu
    rfl
  · unfold maxLen; omega
  · omega
  · rw [w64s, List.map_append]; exact h1
theorem wd_app {xs ys : List Int} (hx : Wds xs) (hy : Wds ys) : Wds (xs ++ ys) := fun z hz => by
  rcases List.mem_append.1 hz with h | h
  · exact hx z h
  · exact hy z h
theorem fix_wd : Wds fixW := by unfold Wds fixW Wd; decide
theorem begW_wd (key : List Int) (ctr : Int) (nonce : List Int) (hk : key.length = 32) (hn : nonce.length = 12) (hkb : Bytes key) (hnb : Bytes nonce) (hc : Wd ctr) : Wds (begW key ctr nonce) :=
  wd_app fix_wd (wd_app (wds_wd key 8 hkb (by omega)) (fun z hz => by
    rcases List.mem_cons.1 hz with rfl | h
    · exact hc
    · exact wds_wd nonce 3 hnb (by omega) z h))
theorem one_u64 (w : World) (x : Int) (hx : Wd x) : SeenU (w.alloc (.cells #[.int .u64 x] 23)) (some ⟨w.heap.size, 0, none⟩) 1 [x] := by
  have h : RowU (w.alloc (.cells #[.int .u64 x] 23)) w.heap.size 1 [x] := ⟨[], heap_alloc_new w _, rfl⟩
  exact h.seen (by simp) (fun d hd => by simp at hd; subst hd; exact hx)
theorem below_grownU {w w1 w2 : World} {base n : Nat} {v : Value} {xs : List Value} (hb : Below w.heap.size w w1) (hbs : w.heap.size ≤ base) (ho : w1.ownsRow base 23 1 v n xs) (hg : w1.grownBy w2 v.ownBlock) : Below w.heap.size w w2 :=
  hb.grown hg hb.size (fun j hj => Nat.le_trans hbs (ho.lt j hj).1)
set_option maxHeartbeats 1000000 in
set_option maxRecDepth 20000 in
theorem rstate_any (key : List Int) (ctr : Int) (nonce : List Int) (hk : key.length = 32) (hn : nonce.length = 12) (hkb : Bytes key) (hnb : Bytes nonce) (hc : Wd ctr) (w : World) :
    Calls Try.prog 73 #[.agg (u8s key).toArray, .int .u32 ctr, .agg (u8s nonce).toArray] w fun e w' => ∃ v, e = .returned v ∧ w'.ownsRow w.heap.size 23 1 v 16 (w64s (begW key ctr nonce)) ∧ Below w.heap.size w w' := by
  have HS : Hid (key.length = 32 ∧ nonce.length = 12 ∧ Bytes key ∧ Bytes nonce ∧ Wd ctr) := ⟨hk, hn, hkb, hnb, hc⟩
  have v1 : IntKind.u64.wrap ctr = ctr := by simp only [IntKind.wrap, IntKind.bits, IntKind.signed]; simp; unfold Wd at hc; omega
  clear hk hn hkb hnb hc
  go_enter Try.func73, Try.ntmps73
  go_wp2_with (first | (refine wpList_box_new rfl 30 _ rfl (u8s key) rfl ?_; intro w1 b1 s1 l1) | (refine wpList_box_new rfl 25 _ rfl (u8s nonce) rfl ?_; intro w2 b2 s2 l2))
  have r3 : RowU (w2.alloc (.cells #[.int .u64 1634760805, .int .u64 857760878, .int .u64 2036477234, .int .u64 1797285236] 23)) w2.heap.size 4 fixW := ⟨[], heap_alloc_new w2 _, rfl⟩
  have l3 : Below w2.heap.size w2 (w2.alloc (.cells #[.int .u64 1634760805, .int .u64 857760878, .int .u64 2036477234, .int .u64 1797285236] 23)) := (Below.refl _ _).alloc (Nat.le_refl _) _
  obtain ⟨w3, hw3⟩ : ∃ W, w2.alloc (.cells #[.int .u64 1634760805, .int .u64 857760878, .int .u64 2036477234, .int .u64 1797285236] 23) = W := ⟨_, rfl⟩
  rw [hw3] at r3 l3 ⊢
  have e2 : w2.heap.size = w.heap.size + 1 + 1 := by omega
  rw [e2] at r3
  have H3 : Hid (Blk w3 w.heap.size 30 (u8s key) ∧ Blk w3 (w.heap.size + 1) 25 (u8s nonce) ∧ w3.ownsRow (w.heap.size + 1 + 1) 23 1 (.slice (some ⟨w.heap.size + 1 + 1, 0, none⟩) 4 4) 4 (w64s fixW) ∧ Below w.heap.size w w3) := by
    rw [s1] at b2
    exact ⟨(b1.later l2 (by omega)).later l3 (by omega), b2.later l3 (by omega), r3.own rfl (Nat.le_refl _) (by unfold maxLen; decide), below_chain (below_chain l1 l2 (by omega)) l3 (by omega)⟩
  clear b1 s1 l1 b2 s2 l2 r3 l3 hw3 e2
  have hw8 := words_any (some ⟨w.heap.size, 0, none⟩) 8 32 key (by decide) w3 (by have := seen_blk H3.out.1 HS.out.2.2.1 (by rw [HS.out.1]; decide); rwa [HS.out.1] at this) (by decide)
  go_wp2_with fail
  refine hw8.mono ?_
  rintro e w4 ⟨v4, rfl, hv4, l4⟩
  obtain ⟨a4, n4, c4, rfl, s4⟩ := hv4
  obtain rfl : 8 = n4 := by rw [← s4.len, wds_length]
  have H4 : Hid (Blk w4 (w.heap.size + 1) 25 (u8s nonce) ∧ w4.ownsRow (w.heap.size + 1 + 1) 23 1 (.slice (some ⟨w.heap.size + 1 + 1, 0, none⟩) 4 4) 4 (w64s fixW) ∧ Below w.heap.size w w4 ∧ SeenU w4 a4 8 (wds key 8) ∧ w.heap.size + 1 + 1 ≤ w4.heap.size) := ⟨H3.out.2.1.later l4 H3.out.2.1.lt, ownsRow_below H3.out.2.2.1 l4, below_chain H3.out.2.2.2 l4 H3.out.2.2.2.size, s4, by have := H3.out.2.1.lt; have := l4.size; omega⟩
  clear hw8 s4 l4 H3
  go_wp2_with (first | (at_builtin; refine wpList_append_seenU rfl _ _ rfl (w.heap.size + 1 + 1) _ 4 fixW rfl H4.out.2.1 a4 8 c4 (wds key 8) rfl H4.out.2.2.2.1 (by decide) (by decide) H4.out.2.2.2.2 ?_; intro v5 w5 o5 g5; have H5 : Hid (w5.ownsRow (w.heap.size + 1 + 1) 23 1 v5 (4 + 8) (w64s (fixW ++ wds key 8)) ∧ Below w.heap.size w w5 ∧ Blk w5 (w.heap.size + 1) 25 (u8s nonce)) := (by
    have B5 := H4.out.2.2.1.grown g5 H4.out.2.2.1.size (fun j hj => Nat.le_trans (by omega) (H4.out.2.1.lt j hj).1)
    refine ⟨o5, B5, ?_⟩
    have B6 : Below (w.heap.size + 1 + 1) w4 w5 := (Below.refl (w.heap.size + 1 + 1) w4).grown g5 H4.out.2.2.2.2 (fun j hj => (H4.out.2.1.lt j hj).1)
    exact H4.out.1.later B6 (by omega)); clear o5 g5 H4) | (at_builtin; refine wpList_append_seenU rfl _ _ rfl (w.heap.size + 1 + 1) _ (4 + 8) (fixW ++ wds key 8) rfl (H5.out.1.alloc _) (some ⟨w5.heap.size, 0, none⟩) 1 1 [ctr] rfl (one_u64 w5 ctr HS.out.2.2.2.2) (by decide) (by decide) (by have := H5.out.2.2.lt; simp; omega) ?_; intro v6 w6 o6 g6))
  have H6 : Hid (w6.ownsRow (w.heap.size + 1 + 1) 23 1 v6 (4 + 8 + 1) (w64s (fixW ++ wds key 8 ++ [ctr])) ∧ Below w.heap.size w w6 ∧ Blk w6 (w.heap.size + 1) 25 (u8s nonce)) := by
    have A6 : Below w.heap.size w (w5.alloc (.cells #[.int .u64 ctr] 23)) := H5.out.2.1.alloc H5.out.2.1.size _
    have oA := H5.out.1.alloc (.cells #[.int .u64 ctr] 23)
    have B5 := A6.grown g6 A6.size (fun j hj => Nat.le_trans (by omega) (oA.lt j hj).1)
    refine ⟨o6, B5, ?_⟩
    have q5 := H5.out.2.2.lt
    have B6 : Below (w.heap.size + 1 + 1) w5 w6 := ((Below.refl (w.heap.size + 1 + 1) w5).alloc (by omega) _).grown g6 (by simp; omega) (fun j hj => (oA.lt j hj).1)
    exact H5.out.2.2.later B6 (by omega)
  clear o6 g6 H5
  have hw3 := words_any (some ⟨w.heap.size + 1, 0, none⟩) 3 12 nonce (by decide) w6 (by have := seen_blk H6.out.2.2 HS.out.2.2.2.1 (by rw [HS.out.2.1]; decide); rwa [HS.out.2.1] at this) (by decide)
  refine hw3.mono ?_
  rintro e w7 ⟨v7, rfl, hv7, l7⟩
  obtain ⟨a7, n7, c7, rfl, s7⟩ := hv7
  obtain rfl : 3 = n7 := by rw [← s7.len, wds_length]
  have H7 : Hid (w7.ownsRow (w.heap.size + 1 + 1) 23 1 v6 (4 + 8 + 1) (w64s (fixW ++ wds key 8 ++ [ctr])) ∧ Below w.heap.size w w7 ∧ SeenU w7 a7 3 (wds nonce 3) ∧ w.heap.size + 1 + 1 ≤ w7.heap.size) := ⟨ownsRow_below H6.out.1 l7, below_chain H6.out.2.1 l7 H6.out.2.1.size, s7, by have := H6.out.2.2.lt; have := l7.size; omega⟩
  clear hw3 s7 l7 H6
  go_wp2_with (at_builtin; refine wpList_append_seenU rfl _ _ rfl (w.heap.size + 1 + 1) _ (4 + 8 + 1) (fixW ++ wds key 8 ++ [ctr]) rfl H7.out.1 a7 3 c7 (wds nonce 3) rfl H7.out.2.2.1 (by decide) (by decide) H7.out.2.2.2 ?_; intro v8 w8 o8 g8)
  have H8 : Hid (w8.ownsRow w.heap.size 23 1 v8 16 (w64s (begW key ctr nonce)) ∧ Below w.heap.size w w8) := by
    refine ⟨?_, H7.out.2.1.grown g8 H7.out.2.1.size (fun j hj => Nat.le_trans (by omega) (H7.out.1.lt j hj).1)⟩
    have e : fixW ++ wds key 8 ++ [ctr] ++ wds nonce 3 = begW key ctr nonce := by simp [begW]
    rw [e] at o8
    exact ownsRow_base o8 (by omega)
  clear o8 g8
  go_ret
  exact ⟨_, rfl, H8.out⟩
def placesL : List Int := [0, 4, 8, 12, 1, 5, 9, 13, 2, 6, 10, 14, 3, 7, 11, 15, 0, 5, 10, 15, 1, 6, 11, 12, 2, 7, 8, 13, 3, 4, 9, 14]
theorem places_run (W : World) : (Instr.buildSlice 97 32 #[(0, .int .i64 0), (1, .int .i64 4), (2, .int .i64 8), (3, .int .i64 12), (4, .int .i64 1), (5, .int .i64 5), (6, .int .i64 9), (7, .int .i64 13), (8, .int .i64 2), (9, .int .i64 6), (10, .int .i64 10), (11, .int .i64 14), (12, .int .i64 3), (13, .int .i64 7), (14, .int .i64 11), (15, .int .i64 15), (16, .int .i64 0), (17, .int .i64 5), (18, .int .i64 10), (19, .int .i64 15), (20, .int .i64 1), (21, .int .i64 6), (22, .int .i64 11), (23, .int .i64 12), (24, .int .i64 2), (25, .int .i64 7), (26, .int .i64 8), (27, .int .i64 13), (28, .int .i64 3), (29, .int .i64 4), (30, .int .i64 9), (31, .int .i64 14)]).run Try.prog W = .ok (.slice (some ⟨W.heap.size, 0, none⟩) 32 32) (W.alloc (.cells (i64s placesL).toArray 3)) := by kernel_rfl
set_option maxHeartbeats 1000000 in
set_option maxRecDepth 20000 in
theorem rplaces_any (w : World) : Calls Try.prog 74 #[] w fun e w' => ∃ g, e = .returned (.slice (some ⟨g, 0, none⟩) 32 32) ∧ RowN w' g 32 placesL ∧ w.heap.size ≤ g ∧ Below w.heap.size w w' := by
  go_enter Try.func74, Try.ntmps74
  go_wp2_with (refine wpList_buildSlice rfl 97 32 _ rfl _ rfl _ _ (places_run _) ?_)
  go_ret
  refine ⟨w.heap.size, rfl, ?_, Nat.le_refl _, (Below.refl _ _).alloc (Nat.le_refl _) _⟩
  have h : RowN (w.alloc (.cells (i64s placesL).toArray 3)) w.heap.size 32 placesL := ⟨[], by rw [List.append_nil]; exact heap_alloc_new w _, rfl⟩
  exact h
end Go.Proofs.Ytogplebajpdmoaa

/- The document's Block. -/
namespace Go.Proofs.Ytogplebajpdmoaa
open Go.RowKit
set_option linter.unusedVariables false
set_option linter.unusedSimpArgs false

theorem wB_take (st : List Int) (a b : Nat) (h : a ≤ b) (hb : b ≤ st.length) : wB st a = (wB st b).take (4 * a) := by
  induction b with
  | zero =>
    obtain rfl : a = 0 := by omega
    rfl
  | succ b ih =>
    rcases Nat.lt_or_ge a (b + 1) with h1 | h1
    · rw [wB_succ st b (by omega), List.take_append_of_le_length (by rw [wB_length _ _ (by omega)]; omega)]; exact ih (by omega) (by omega)
    · obtain rfl : a = b + 1 := by omega
      rw [List.take_of_length_le (by rw [wB_length _ _ hb]; exact Nat.le_refl _)]
/-- A slice of these bytes that begins no earlier. -/
def isF (base : Nat) (zs : List Int) (v : Value) (w : World) : Prop := ∃ vo n c, v = .slice vo n c ∧ Seen w vo n zs ∧ ∀ b o, vo = some ⟨b, o, none⟩ → base ≤ b
theorem isF_later (base : Nat) (zs : List Int) : ∀ v w w', Below w.heap.size w w' → isF base zs v w → isF base zs v w' := fun _ _ _ hb ⟨b, o, c, h1, h2, h3⟩ => ⟨b, o, c, h1, h2.later hb (Nat.le_refl _), h3⟩
/-- The quarters of a pass, one by one. -/
def passT (st : List Int) : Nat → List Int
  | 0 => st
  | T + 1 => colStep (passT st T) (T / 4) (T % 4)
theorem passT_8 (st : List Int) : passT st 8 = slants st 2 := rfl
theorem passT_length (st : List Int) (n : Nat) : (passT st n).length = st.length := by
  induction n with
  | zero => rfl
  | succ n ih => rw [passT, colStep_length, ih]
theorem wds_set {st : List Int} (h : Wds st) (i : Nat) (x : Int) (hx : Wd x) : Wds (st.set i x) := fun z hz => by
  rcases List.mem_or_eq_of_mem_set hz with h1 | rfl
  · exact h z h1
  · exact hx
theorem tl16 : TurnL 16 := by unfold TurnL; decide
theorem quarter_wd (q : Q4) (ha : Wd q.a) (hb : Wd q.b) (hc : Wd q.c) (hd : Wd q.d) : Wd (quarter q).a ∧ Wd (quarter q).b ∧ Wd (quarter q).c ∧ Wd (quarter q).d := by
  have h := half_wd q 16 12 ha hb hc hd (by unfold TurnL; decide) (by unfold TurnL; decide)
  exact half_wd _ 8 7 h.1 h.2.1 h.2.2.1 h.2.2.2 (by unfold TurnL; decide) (by unfold TurnL; decide)
theorem getD_wd {st : List Int} (h : Wds st) (i : Nat) : Wd (st.getD i 0) := by
  by_cases hi : i < st.length
  · exact h.at i hi
  · rw [List.getD, List.getElem?_eq_none (by omega)]; exact ⟨by decide, by decide⟩
theorem qPut_wd {st : List Int} (h : Wds st) (q : Q4) (hq : Wd q.a ∧ Wd q.b ∧ Wd q.c ∧ Wd q.d) (i j k l : Nat) : Wds (qPut st q i j k l) := wds_set (wds_set (wds_set (wds_set h i _ hq.1) j _ hq.2.1) k _ hq.2.2.1) l _ hq.2.2.2
theorem colStep_wd {st : List Int} (h : Wds st) (s c : Nat) : Wds (colStep st s c) := qPut_wd h _ (quarter_wd _ (getD_wd h _) (getD_wd h _) (getD_wd h _) (getD_wd h _)) _ _ _ _
theorem passT_wd {st : List Int} (h : Wds st) (n : Nat) : Wds (passT st n) := by
  induction n with
  | zero => exact h
  | succ n ih => exact colStep_wd ih _ _
theorem passN_wd {st : List Int} (h : Wds st) (n : Nat) : Wds (passN st n) := by
  induction n with
  | zero => exact h
  | succ n ih => rw [passN, ← passT_8]; exact passT_wd ih 8
/-- Where quarter T stands. -/
theorem pl_at : ∀ T : Nat, T < 8 → placesL.getD (4 * T) 0 = ((T % 4 % 4 : Nat) : Int) ∧ placesL.getD (4 * T + 1) 0 = ((4 + (T % 4 + T / 4) % 4 : Nat) : Int) ∧ placesL.getD (4 * T + 2) 0 = ((8 + (T % 4 + 2 * (T / 4)) % 4 : Nat) : Int) ∧ placesL.getD (4 * T + 3) 0 = ((12 + (T % 4 + 3 * (T / 4)) % 4 : Nat) : Int) := by decide
/-- The first words of a quarter laid back. -/
def putN (st : List Int) (ps : List Nat) (qs : List Int) (n : Nat) : List Int := (List.range n).foldl (fun s j => s.set (ps.getD j 0) (qs.getD j 0)) st
theorem putN_succ (st : List Int) (ps : List Nat) (qs : List Int) (n : Nat) : putN st ps qs (n + 1) = (putN st ps qs n).set (ps.getD n 0) (qs.getD n 0) := by simp [putN, List.range_succ]
theorem putN_length (st : List Int) (ps : List Nat) (qs : List Int) (n : Nat) : (putN st ps qs n).length = st.length := by
  induction n with
  | zero => rfl
  | succ n ih => rw [putN_succ, List.length_set, ih]
theorem putN_4 (st : List Int) (p0 p1 p2 p3 : Nat) (q : Q4) : putN st [p0, p1, p2, p3] q.list 4 = qPut st q p0 p1 p2 p3 := rfl
theorem build4 (a b c d : Int) (w : World) : (Instr.build 111 #[(0, .int .u64 a), (1, .int .u64 b), (2, .int .u64 c), (3, .int .u64 d)]).run Try.prog w = .ok (.agg (q64s [a, b, c, d]).toArray) w := by kernel_rfl
/-- What stands while the words are stirred. -/
structure Env (w W : World) (R gf cf gp gl cl : Nat) (st L : List Int) : Prop where
  bel : Below w.heap.size w W
  res : Blk W R 68 (u8s (zs0 64))
  fst : RowU W gf cf st
  pls : RowN W gp 32 placesL
  row : RowU W gl cl L
  new : w.heap.size ≤ gl
theorem Env.later {w W W' : World} {R gf cf gp gl cl : Nat} {st L : List Int} (h : Env w W R gf cf gp gl cl st L) (hb : Below W.heap.size W W') : Env w W' R gf cf gp gl cl st L :=
  ⟨below_chain h.bel hb h.bel.size, h.res.later hb h.res.lt, h.fst.later hb (Nat.le_refl _), h.pls.later hb (Nat.le_refl _), h.row.later hb (Nat.le_refl _), h.new⟩
theorem Env.set {w W : World} {R gf cf gp gl cl : Nat} {st L : List Int} (h : Env w W R gf cf gp gl cl st L) (ha : R ≠ gl ∧ gf ≠ gl ∧ gp ≠ gl) (j : Nat) (hj : j < L.length) (z : Int) : Env w (W.setCell ⟨gl, j, none⟩ (.int .u64 z)).drew R gf cf gp gl cl st (L.set j z) := by
  have k : Kept (fun x => x = gl) W (W.setCell ⟨gl, j, none⟩ (.int .u64 z)).drew := ((Kept.refl (fun x => x = gl) W).setCell (p := ⟨gl, j, none⟩) rfl _).drew
  exact ⟨below_kept h.bel k h.bel.size (fun i hi => by have := h.new; omega), h.res.kept k ha.1, h.fst.block (k.block gf h.fst.lt ha.2.1), h.pls.block (k.block gp h.pls.lt ha.2.2), (h.row.set j hj z).drew, h.new⟩
set_option maxRecDepth 20000 in
set_option maxHeartbeats 4000000 in
theorem rblock_any (key : List Int) (ctr : Int) (nonce : List Int) (hk : key.length = 32) (hn : nonce.length = 12) (hkb : Bytes key) (hnb : Bytes nonce) (hc : Wd ctr) (w : World) :
    Calls Try.prog 38 #[.agg (u8s key).toArray, .int .u32 ctr, .agg (u8s nonce).toArray] w fun e w' => e = .returned (.agg (u8s (blkB key ctr nonce)).toArray) ∧ Below w.heap.size w w' := by
  obtain ⟨Y, hY⟩ : ∃ Y, blkB key ctr nonce = Y := ⟨_, rfl⟩
  obtain ⟨st, hst⟩ : ∃ st, begW key ctr nonce = st := ⟨_, rfl⟩
  have HS : Hid (key.length = 32 ∧ nonce.length = 12 ∧ Bytes key ∧ Bytes nonce ∧ Wd ctr) := ⟨hk, hn, hkb, hnb, hc⟩
  have HY : Hid (Y.length = 64 ∧ Bytes Y ∧ wB (addW (passN st 10) st) 16 = Y ∧ st.length = 16 ∧ Wds st ∧ begW key ctr nonce = st) :=
    ⟨by rw [← hY, blkB_length], by rw [← hY]; exact blkB_bytes _ _ _, by rw [← hY, ← hst]; rfl, by rw [← hst, begW_length], by rw [← hst]; exact begW_wd key ctr nonce hk hn hkb hnb hc, hst⟩
  rw [hY]
  clear hk hn hkb hnb hc hY hst
  go_enter Try.func38, Try.ntmps38
  go_wp2_with (first | (refine wpList_box_new rfl 30 _ rfl (u8s key) rfl ?_; intro w1 b1 s1 l1) | (refine wpList_box_new rfl 25 _ rfl (u8s nonce) rfl ?_; intro w2 b2 s2 l2) | (refine wpList_alloc_new rfl 68 rfl 64 _ zero64b ?_; intro w3 b3 s3 l3; have K3 : Hid (Blk w3 w.heap.size 30 (u8s key) ∧ Blk w3 w1.heap.size 25 (u8s nonce)) := ⟨(b1.later l2 (by omega)).later l3 (by omega), b2.later l3 (by omega)⟩) | (refine wpList_load_blk rfl 30 _ rfl _ rfl (u8s key) _ K3.out.1 Try.underlying30 rfl (by rw [u8s_length, HS.out.1]; exact sizeKey) ?_) | (refine wpList_load_blk rfl 25 _ rfl _ rfl (u8s nonce) _ (by first | exact K3.out.2 | (rw [← s1]; exact K3.out.2)) Try.underlying25 rfl (by rw [u8s_length, HS.out.2.1]; exact sizeNonce) ?_))
  have H3 : Hid (Blk w3 w.heap.size 30 (u8s key) ∧ Blk w3 (w.heap.size + 1) 25 (u8s nonce) ∧ Blk w3 (w.heap.size + 1 + 1) 68 (u8s (zs0 64)) ∧ Below w.heap.size w w3 ∧ w3.heap.size = w.heap.size + 3) := by
    have k := K3.out.2
    rw [s1] at k
    rw [s2, s1] at b3
    exact ⟨K3.out.1, k, b3, below_chain (below_chain l1 l2 (by omega)) l3 (by omega), by omega⟩
  clear b1 s1 l1 b2 s2 l2 b3 s3 l3 K3
  refine (rstate_any key ctr nonce HS.out.1 HS.out.2.1 HS.out.2.2.1 HS.out.2.2.2.1 HS.out.2.2.2.2 w3).mono ?_
  rintro e w4 ⟨v4, rfl, o4, l4⟩
  rw [HY.out.2.2.2.2.2] at o4
  rcases ownU HY.out.2.2.2.1 o4 with ⟨_, h0, _⟩ | ⟨gf, cf, rfl, r4, g4, _, _⟩
  · cases h0
  have H4 : Hid (Blk w4 w.heap.size 30 (u8s key) ∧ Blk w4 (w.heap.size + 1) 25 (u8s nonce) ∧ Blk w4 (w.heap.size + 1 + 1) 68 (u8s (zs0 64)) ∧ Below w.heap.size w w4 ∧ RowU w4 gf cf st ∧ w.heap.size + 3 ≤ gf) := ⟨H3.out.1.later l4 H3.out.1.lt, H3.out.2.1.later l4 H3.out.2.1.lt, H3.out.2.2.1.later l4 H3.out.2.2.1.lt, below_chain H3.out.2.2.2.1 l4 H3.out.2.2.2.1.size, r4, by have := H3.out.2.2.2.2; omega⟩
  clear o4 l4 r4 g4 H3
  go_wp2_with (first | (refine wpList_load_blk rfl 30 _ rfl _ rfl (u8s key) _ H4.out.1 Try.underlying30 rfl (by rw [u8s_length, HS.out.1]; exact sizeKey) ?_) | (refine wpList_load_blk rfl 25 _ rfl _ rfl (u8s nonce) _ H4.out.2.1 Try.underlying25 rfl (by rw [u8s_length, HS.out.2.1]; exact sizeNonce) ?_))
  refine (rstate_any key ctr nonce HS.out.1 HS.out.2.1 HS.out.2.2.1 HS.out.2.2.2.1 HS.out.2.2.2.2 w4).mono ?_
  rintro e w5 ⟨v5, rfl, o5, l5⟩
  rw [HY.out.2.2.2.2.2] at o5
  rcases ownU HY.out.2.2.2.1 o5 with ⟨_, h0, _⟩ | ⟨gl, cl, rfl, r5, g5, _, _⟩
  · cases h0
  have H5 : Hid (Blk w5 (w.heap.size + 1 + 1) 68 (u8s (zs0 64)) ∧ Below w.heap.size w w5 ∧ RowU w5 gf cf st ∧ RowU w5 gl cl st ∧ w.heap.size + 3 ≤ gf ∧ gf < gl) := ⟨H4.out.2.2.1.later l5 H4.out.2.2.1.lt, below_chain H4.out.2.2.2.1 l5 H4.out.2.2.2.1.size, H4.out.2.2.2.2.1.later l5 (Nat.le_refl _), r5, H4.out.2.2.2.2.2, by have := H4.out.2.2.2.2.1.lt; omega⟩
  clear o5 l5 r5 g5 H4
  go_wp2_with fail
  refine (rplaces_any w5).mono ?_
  rintro e w6 ⟨gp, rfl, p6, g6, l6⟩
  have E6 : Hid (Env w w6 (w.heap.size + 1 + 1) gf cf gp gl cl st st ∧ (w.heap.size + 1 + 1 ≠ gl ∧ gf ≠ gl ∧ gp ≠ gl)) := by
    obtain ⟨h1, h2, h3, h4, h5, h6⟩ := H5.out
    have := h4.lt
    exact ⟨⟨below_chain h2 l6 h2.size, h1.later l6 h1.lt, h3.later l6 (Nat.le_refl _), p6, h4.later l6 (Nat.le_refl _), by omega⟩, by omega, by omega, by omega⟩
  have hap := E6.out.2
  clear p6 g6 l6 H5
  go_wp2_with fail
  go_loopw [10] (fun i wr => ∃ N : Nat, N ≤ 10 ∧ i = .int .i64 N ∧ Env w wr (w.heap.size + 1 + 1) gf cf gp gl cl st (passN st N)) (fun i _ => 10 - (intOf i).toNat)
  case atStart => exact ⟨0, Nat.zero_le _, rfl, E6.out.1⟩
  case round =>
    obtain ⟨N, hN, rfl, hE⟩ := hrel
    have EN : Hid (Env w wr (w.heap.size + 1 + 1) gf cf gp gl cl st (passN st N)) := hE
    clear hE
    by_cases hlt : N < 10
    · have i0 : (N : Int) < 10 := by omega
      obtain ⟨S, HSS⟩ : ∃ S, Hid (passN st N = S ∧ S.length = 16 ∧ Wds S) := ⟨_, ⟨rfl, by rw [passN_length]; exact HY.out.2.2.2.1, passN_wd HY.out.2.2.2.2.1 N⟩⟩
      rw [HSS.out.1] at EN
      obtain ⟨w7, hw7⟩ : ∃ W, W = wr := ⟨_, rfl⟩
      subst hw7
      go_wp2_with fail
      go_loopw [11] (fun i wr => ∃ T KK : Nat, T ≤ 8 ∧ KK = 4 * T ∧ i = .int .i64 KK ∧ Env w wr (w.heap.size + 1 + 1) gf cf gp gl cl st (passT S T)) (fun i _ => 32 - (intOf i).toNat)
      case atStart => exact ⟨0, 0, Nat.zero_le _, rfl, rfl, EN.out⟩
      case round =>
        obtain ⟨T, KK, hT, hKK, rfl, hE⟩ := hrel
        by_cases hlT : T < 8
        · have j1 : (KK : Int) < 32 := by omega
          have j2 : (0 : Int) ≤ (KK : Int) := by omega
          have j3 : (KK : Int) + 1 < 32 := by omega
          have j4 : (KK : Int) + 2 < 32 := by omega
          have j5 : (KK : Int) + 3 < 32 := by omega
          have j6 : (0 : Int) ≤ (KK : Int) + 1 := by omega
          have j7 : (0 : Int) ≤ (KK : Int) + 2 := by omega
          have j8 : (0 : Int) ≤ (KK : Int) + 3 := by omega
          have a1 : ((KK : Int) + 1).toNat = KK + 1 := by omega
          have a2 : ((KK : Int) + 2).toNat = KK + 2 := by omega
          have a3 : ((KK : Int) + 3).toNat = KK + 3 := by omega
          have v1 : IntKind.i64.wrap ((KK : Int) + 1) = (KK : Int) + 1 := by rw [IntKind.wrap_i64]; omega
          have v2 : IntKind.i64.wrap ((KK : Int) + 2) = (KK : Int) + 2 := by rw [IntKind.wrap_i64]; omega
          have v3 : IntKind.i64.wrap ((KK : Int) + 3) = (KK : Int) + 3 := by rw [IntKind.wrap_i64]; omega
          have hpl := pl_at T hlT
          rw [← hKK] at hpl
          obtain ⟨L, hL⟩ : ∃ L, passT S T = L := ⟨_, rfl⟩
          rw [hL] at hE
          obtain ⟨p0, hp0⟩ : ∃ p, T % 4 % 4 = p := ⟨_, rfl⟩
          obtain ⟨p1, hp1⟩ : ∃ p, 4 + (T % 4 + T / 4) % 4 = p := ⟨_, rfl⟩
          obtain ⟨p2, hp2⟩ : ∃ p, 8 + (T % 4 + 2 * (T / 4)) % 4 = p := ⟨_, rfl⟩
          obtain ⟨p3, hp3⟩ : ∃ p, 12 + (T % 4 + 3 * (T / 4)) % 4 = p := ⟨_, rfl⟩
          have q0 : p0 < 16 := by omega
          have q1 : p1 < 16 := by omega
          have q2 : p2 < 16 := by omega
          have q3 : p3 < 16 := by omega
          have hLl : L.length = 16 := by rw [← hL, passT_length]; exact HSS.out.2.1
          have hLw : Wds L := by rw [← hL]; exact passT_wd HSS.out.2.2 T
          have HN : Hid (passT S (T + 1) = qPut L (quarter (qOf L p0 p1 p2 p3)) p0 p1 p2 p3) := by show _ = _; rw [passT, hL, colStep, hp0, hp1, hp2, hp3]
          rw [hp0, hp1, hp2, hp3] at hpl
          have HE : Hid (Env w wr (w.heap.size + 1 + 1) gf cf gp gl cl st L ∧ L.length = 16 ∧ Wds L) := ⟨hE, hLl, hLw⟩
          have HP : Hid (∀ W, Below wr.heap.size wr W → W.cell? ⟨gp, KK, none⟩ = some (.int .i64 (p0 : Int)) ∧ W.cell? ⟨gp, KK + 1, none⟩ = some (.int .i64 (p1 : Int)) ∧ W.cell? ⟨gp, KK + 2, none⟩ = some (.int .i64 (p2 : Int)) ∧ W.cell? ⟨gp, KK + 3, none⟩ = some (.int .i64 (p3 : Int)) ∧ W.cell? ⟨gl, p0, none⟩ = some (.int .u64 (L.getD p0 0)) ∧ W.cell? ⟨gl, p1, none⟩ = some (.int .u64 (L.getD p1 0)) ∧ W.cell? ⟨gl, p2, none⟩ = some (.int .u64 (L.getD p2 0)) ∧ W.cell? ⟨gl, p3, none⟩ = some (.int .u64 (L.getD p3 0))) := fun W hW => by
            have e := HE.out.1.later hW
            have c := fun j (hj : j < 32) => e.pls.cell j (show j < placesL.length from hj)
            refine ⟨?_, ?_, ?_, ?_, e.row.cell p0 (by omega), e.row.cell p1 (by omega), e.row.cell p2 (by omega), e.row.cell p3 (by omega)⟩
            · rw [c KK (by omega), hpl.1]
            · rw [c (KK + 1) (by omega), hpl.2.1]
            · rw [c (KK + 2) (by omega), hpl.2.2.1]
            · rw [c (KK + 3) (by omega), hpl.2.2.2]
          have HPL : Hid (placesL.getD KK 0 = (p0 : Int) ∧ placesL.getD (KK + 1) 0 = (p1 : Int) ∧ placesL.getD (KK + 2) 0 = (p2 : Int) ∧ placesL.getD (KK + 3) 0 = (p3 : Int)) := hpl
          have HKK : Hid (KK = 4 * T) := hKK
          have k0 : (p0 : Int) < 16 := by omega
          have k1 : (p1 : Int) < 16 := by omega
          have k2 : (p2 : Int) < 16 := by omega
          have k3 : (p3 : Int) < 16 := by omega
          obtain ⟨q, hq⟩ : ∃ q, qOf L p0 p1 p2 p3 = q := ⟨_, rfl⟩
          have HQ : Hid (qOf L p0 p1 p2 p3 = q ∧ q = ⟨L.getD p0 0, L.getD p1 0, L.getD p2 0, L.getD p3 0⟩ ∧ Wd q.a ∧ Wd q.b ∧ Wd q.c ∧ Wd q.d) := ⟨hq, hq.symm, by rw [← hq]; exact getD_wd hLw _, by rw [← hq]; exact getD_wd hLw _, by rw [← hq]; exact getD_wd hLw _, by rw [← hq]; exact getD_wd hLw _⟩
          rw [hq] at HN
          clear hE hL hp0 hp1 hp2 hp3 hpl hLl hLw hKK hq
          go_wp2_with fail
          try simp only [Act.put, List.setIfInBounds_toArray, List.set_cons_zero, List.set_cons_succ]
          refine region_inv ((.val (.slice (some ⟨gl, 0, none⟩) 16 cl)) :: (.val (.slice (some ⟨gp, 0, none⟩) 32 32)) :: (.val (.int .i64 (KK : Int))) :: (.val (.pointer (some ⟨gp, KK, none⟩))) :: (.val (.int .i64 (p0 : Int))) :: (.val (.pointer (some ⟨gl, p0, none⟩))) :: (.val (.int .u64 (L.getD p0 0))) :: (.val (.slice (some ⟨gl, 0, none⟩) 16 cl)) :: (.val (.slice (some ⟨gp, 0, none⟩) 32 32)) :: (.val (.int .i64 (KK : Int))) :: (.val (.int .i64 ((KK : Int) + 1))) :: (.val (.pointer (some ⟨gp, KK + 1, none⟩))) :: (.val (.int .i64 (p1 : Int))) :: (.val (.pointer (some ⟨gl, p1, none⟩))) :: (.val (.int .u64 (L.getD p1 0))) :: (.val (.slice (some ⟨gl, 0, none⟩) 16 cl)) :: (.val (.slice (some ⟨gp, 0, none⟩) 32 32)) :: (.val (.int .i64 (KK : Int))) :: (.val (.int .i64 ((KK : Int) + 2))) :: (.val (.pointer (some ⟨gp, KK + 2, none⟩))) :: (.val (.int .i64 (p2 : Int))) :: (.val (.pointer (some ⟨gl, p2, none⟩))) :: (.val (.int .u64 (L.getD p2 0))) :: (.val (.slice (some ⟨gl, 0, none⟩) 16 cl)) :: (.val (.slice (some ⟨gp, 0, none⟩) 32 32)) :: (.val (.int .i64 (KK : Int))) :: (.val (.int .i64 ((KK : Int) + 3))) :: (.val (.pointer (some ⟨gp, KK + 3, none⟩))) :: (.val (.int .i64 (p3 : Int))) :: (.val (.pointer (some ⟨gl, p3, none⟩))) :: (.val (.int .u64 (L.getD p3 0))) :: (.val (.agg (q64s q.list).toArray)) :: (.val (.agg (q64s (quarter q).list).toArray)) :: (.blk 111 (q64s [0, 0, 0, 0])) :: []) (by kernel_rfl) (by kernel_rfl) (by kernel_rfl) ?_ ?_
          · refine Steps'.cons ?_ (Steps'.cons ?_ (Steps'.cons ?_ (Steps'.cons ?_ (Steps'.cons ?_ (Steps'.cons ?_ (Steps'.cons ?_ (Steps'.cons ?_ (Steps'.cons ?_ (Steps'.cons ?_ (Steps'.cons ?_ (Steps'.cons ?_ (Steps'.cons ?_ (Steps'.cons ?_ (Steps'.cons ?_ (Steps'.cons ?_ (Steps'.cons ?_ (Steps'.cons ?_ (Steps'.cons ?_ (Steps'.cons ?_ (Steps'.cons ?_ (Steps'.cons ?_ (Steps'.cons ?_ (Steps'.cons ?_ (Steps'.cons ?_ (Steps'.cons ?_ (Steps'.cons ?_ (Steps'.cons ?_ (Steps'.cons ?_ (Steps'.cons ?_ (Steps'.cons ?_ (Steps'.cons ?_ (Steps'.cons ?_ (Steps'.cons ?_ (Steps'.one _ _ _ _ _ _ _))))))))))))))))))))))))))))))))))
            · intro ax wx hb hs hd
              have h8 : ax.tmps.getD 8 undef = (.slice (some ⟨gl, 0, none⟩) 16 cl) := hs 8 (by kernel_rfl)
              refine Does.value (.slice (some ⟨gl, 0, none⟩) 16 cl) ?_ rfl
              go_simp
            · intro ax wx hb hs hd
              have h9 : ax.tmps.getD 9 undef = (.slice (some ⟨gp, 0, none⟩) 32 32) := hs 9 (by kernel_rfl)
              refine Does.value (.slice (some ⟨gp, 0, none⟩) 32 32) ?_ rfl
              go_simp
            · intro ax wx hb hs hd
              have h11 : ax.tmps.getD 11 undef = (.int .i64 (KK : Int)) := hs 11 (by kernel_rfl)
              refine Does.value (.int .i64 (KK : Int)) ?_ rfl
              go_simp
            · intro ax wx hb hs hd
              have h38 : ax.tmps.getD 38 undef = (.slice (some ⟨gp, 0, none⟩) 32 32) := hd 1 38 rfl (by kernel_rfl) (by decide)
              have h39 : ax.tmps.getD 39 undef = (.int .i64 (KK : Int)) := hd 2 39 rfl (by kernel_rfl) (by decide)
              refine Does.value (.pointer (some ⟨gp, KK, none⟩)) ?_ rfl
              go_simp
            · intro ax wx hb hs hd
              have h40 : ax.tmps.getD 40 undef = (.pointer (some ⟨gp, KK, none⟩)) := hd 3 40 rfl (by kernel_rfl) (by decide)
              have cx := (HP.out wx hb).1
              refine Does.value (.int .i64 (p0 : Int)) ?_ rfl
              go_simp
            · intro ax wx hb hs hd
              have h37 : ax.tmps.getD 37 undef = (.slice (some ⟨gl, 0, none⟩) 16 cl) := hd 0 37 rfl (by kernel_rfl) (by decide)
              have h41 : ax.tmps.getD 41 undef = (.int .i64 (p0 : Int)) := hd 4 41 rfl (by kernel_rfl) (by decide)
              refine Does.value (.pointer (some ⟨gl, p0, none⟩)) ?_ rfl
              go_simp
            · intro ax wx hb hs hd
              have h42 : ax.tmps.getD 42 undef = (.pointer (some ⟨gl, p0, none⟩)) := hd 5 42 rfl (by kernel_rfl) (by decide)
              have cx := (HP.out wx hb).2.2.2.2.1
              refine Does.value (.int .u64 (L.getD p0 0)) ?_ rfl
              go_simp
            · intro ax wx hb hs hd
              have h8 : ax.tmps.getD 8 undef = (.slice (some ⟨gl, 0, none⟩) 16 cl) := hs 8 (by kernel_rfl)
              refine Does.value (.slice (some ⟨gl, 0, none⟩) 16 cl) ?_ rfl
              go_simp
            · intro ax wx hb hs hd
              have h9 : ax.tmps.getD 9 undef = (.slice (some ⟨gp, 0, none⟩) 32 32) := hs 9 (by kernel_rfl)
              refine Does.value (.slice (some ⟨gp, 0, none⟩) 32 32) ?_ rfl
              go_simp
            · intro ax wx hb hs hd
              have h11 : ax.tmps.getD 11 undef = (.int .i64 (KK : Int)) := hs 11 (by kernel_rfl)
              refine Does.value (.int .i64 (KK : Int)) ?_ rfl
              go_simp
            · intro ax wx hb hs hd
              have h46 : ax.tmps.getD 46 undef = (.int .i64 (KK : Int)) := hd 9 46 rfl (by kernel_rfl) (by decide)
              refine Does.value (.int .i64 ((KK : Int) + 1)) ?_ rfl
              go_simp
            · intro ax wx hb hs hd
              have h45 : ax.tmps.getD 45 undef = (.slice (some ⟨gp, 0, none⟩) 32 32) := hd 8 45 rfl (by kernel_rfl) (by decide)
              have h47 : ax.tmps.getD 47 undef = (.int .i64 ((KK : Int) + 1)) := hd 10 47 rfl (by kernel_rfl) (by decide)
              refine Does.value (.pointer (some ⟨gp, KK + 1, none⟩)) ?_ rfl
              go_simp
            · intro ax wx hb hs hd
              have h48 : ax.tmps.getD 48 undef = (.pointer (some ⟨gp, KK + 1, none⟩)) := hd 11 48 rfl (by kernel_rfl) (by decide)
              have cx := (HP.out wx hb).2.1
              refine Does.value (.int .i64 (p1 : Int)) ?_ rfl
              go_simp
            · intro ax wx hb hs hd
              have h44 : ax.tmps.getD 44 undef = (.slice (some ⟨gl, 0, none⟩) 16 cl) := hd 7 44 rfl (by kernel_rfl) (by decide)
              have h49 : ax.tmps.getD 49 undef = (.int .i64 (p1 : Int)) := hd 12 49 rfl (by kernel_rfl) (by decide)
              refine Does.value (.pointer (some ⟨gl, p1, none⟩)) ?_ rfl
              go_simp
            · intro ax wx hb hs hd
              have h50 : ax.tmps.getD 50 undef = (.pointer (some ⟨gl, p1, none⟩)) := hd 13 50 rfl (by kernel_rfl) (by decide)
              have cx := (HP.out wx hb).2.2.2.2.2.1
              refine Does.value (.int .u64 (L.getD p1 0)) ?_ rfl
              go_simp
            · intro ax wx hb hs hd
              have h8 : ax.tmps.getD 8 undef = (.slice (some ⟨gl, 0, none⟩) 16 cl) := hs 8 (by kernel_rfl)
              refine Does.value (.slice (some ⟨gl, 0, none⟩) 16 cl) ?_ rfl
              go_simp
            · intro ax wx hb hs hd
              have h9 : ax.tmps.getD 9 undef = (.slice (some ⟨gp, 0, none⟩) 32 32) := hs 9 (by kernel_rfl)
              refine Does.value (.slice (some ⟨gp, 0, none⟩) 32 32) ?_ rfl
              go_simp
            · intro ax wx hb hs hd
              have h11 : ax.tmps.getD 11 undef = (.int .i64 (KK : Int)) := hs 11 (by kernel_rfl)
              refine Does.value (.int .i64 (KK : Int)) ?_ rfl
              go_simp
            · intro ax wx hb hs hd
              have h54 : ax.tmps.getD 54 undef = (.int .i64 (KK : Int)) := hd 17 54 rfl (by kernel_rfl) (by decide)
              refine Does.value (.int .i64 ((KK : Int) + 2)) ?_ rfl
              go_simp
            · intro ax wx hb hs hd
              have h53 : ax.tmps.getD 53 undef = (.slice (some ⟨gp, 0, none⟩) 32 32) := hd 16 53 rfl (by kernel_rfl) (by decide)
              have h55 : ax.tmps.getD 55 undef = (.int .i64 ((KK : Int) + 2)) := hd 18 55 rfl (by kernel_rfl) (by decide)
              refine Does.value (.pointer (some ⟨gp, KK + 2, none⟩)) ?_ rfl
              go_simp
            · intro ax wx hb hs hd
              have h56 : ax.tmps.getD 56 undef = (.pointer (some ⟨gp, KK + 2, none⟩)) := hd 19 56 rfl (by kernel_rfl) (by decide)
              have cx := (HP.out wx hb).2.2.1
              refine Does.value (.int .i64 (p2 : Int)) ?_ rfl
              go_simp
            · intro ax wx hb hs hd
              have h52 : ax.tmps.getD 52 undef = (.slice (some ⟨gl, 0, none⟩) 16 cl) := hd 15 52 rfl (by kernel_rfl) (by decide)
              have h57 : ax.tmps.getD 57 undef = (.int .i64 (p2 : Int)) := hd 20 57 rfl (by kernel_rfl) (by decide)
              refine Does.value (.pointer (some ⟨gl, p2, none⟩)) ?_ rfl
              go_simp
            · intro ax wx hb hs hd
              have h58 : ax.tmps.getD 58 undef = (.pointer (some ⟨gl, p2, none⟩)) := hd 21 58 rfl (by kernel_rfl) (by decide)
              have cx := (HP.out wx hb).2.2.2.2.2.2.1
              refine Does.value (.int .u64 (L.getD p2 0)) ?_ rfl
              go_simp
            · intro ax wx hb hs hd
              have h8 : ax.tmps.getD 8 undef = (.slice (some ⟨gl, 0, none⟩) 16 cl) := hs 8 (by kernel_rfl)
              refine Does.value (.slice (some ⟨gl, 0, none⟩) 16 cl) ?_ rfl
              go_simp
            · intro ax wx hb hs hd
              have h9 : ax.tmps.getD 9 undef = (.slice (some ⟨gp, 0, none⟩) 32 32) := hs 9 (by kernel_rfl)
              refine Does.value (.slice (some ⟨gp, 0, none⟩) 32 32) ?_ rfl
              go_simp
            · intro ax wx hb hs hd
              have h11 : ax.tmps.getD 11 undef = (.int .i64 (KK : Int)) := hs 11 (by kernel_rfl)
              refine Does.value (.int .i64 (KK : Int)) ?_ rfl
              go_simp
            · intro ax wx hb hs hd
              have h62 : ax.tmps.getD 62 undef = (.int .i64 (KK : Int)) := hd 25 62 rfl (by kernel_rfl) (by decide)
              refine Does.value (.int .i64 ((KK : Int) + 3)) ?_ rfl
              go_simp
            · intro ax wx hb hs hd
              have h61 : ax.tmps.getD 61 undef = (.slice (some ⟨gp, 0, none⟩) 32 32) := hd 24 61 rfl (by kernel_rfl) (by decide)
              have h63 : ax.tmps.getD 63 undef = (.int .i64 ((KK : Int) + 3)) := hd 26 63 rfl (by kernel_rfl) (by decide)
              refine Does.value (.pointer (some ⟨gp, KK + 3, none⟩)) ?_ rfl
              go_simp
            · intro ax wx hb hs hd
              have h64 : ax.tmps.getD 64 undef = (.pointer (some ⟨gp, KK + 3, none⟩)) := hd 27 64 rfl (by kernel_rfl) (by decide)
              have cx := (HP.out wx hb).2.2.2.1
              refine Does.value (.int .i64 (p3 : Int)) ?_ rfl
              go_simp
            · intro ax wx hb hs hd
              have h60 : ax.tmps.getD 60 undef = (.slice (some ⟨gl, 0, none⟩) 16 cl) := hd 23 60 rfl (by kernel_rfl) (by decide)
              have h65 : ax.tmps.getD 65 undef = (.int .i64 (p3 : Int)) := hd 28 65 rfl (by kernel_rfl) (by decide)
              refine Does.value (.pointer (some ⟨gl, p3, none⟩)) ?_ rfl
              go_simp
            · intro ax wx hb hs hd
              have h66 : ax.tmps.getD 66 undef = (.pointer (some ⟨gl, p3, none⟩)) := hd 29 66 rfl (by kernel_rfl) (by decide)
              have cx := (HP.out wx hb).2.2.2.2.2.2.2
              refine Does.value (.int .u64 (L.getD p3 0)) ?_ rfl
              go_simp
            · intro ax wx hb hs hd
              have h43 : ax.tmps.getD 43 undef = (.int .u64 (L.getD p0 0)) := hd 6 43 rfl (by kernel_rfl) (by decide)
              have h51 : ax.tmps.getD 51 undef = (.int .u64 (L.getD p1 0)) := hd 14 51 rfl (by kernel_rfl) (by decide)
              have h59 : ax.tmps.getD 59 undef = (.int .u64 (L.getD p2 0)) := hd 22 59 rfl (by kernel_rfl) (by decide)
              have h67 : ax.tmps.getD 67 undef = (.int .u64 (L.getD p3 0)) := hd 30 67 rfl (by kernel_rfl) (by decide)
              have hb4 := build4 (L.getD p0 0) (L.getD p1 0) (L.getD p2 0) (L.getD p3 0) wx
              have eq : q.list = [L.getD p0 0, L.getD p1 0, L.getD p2 0, L.getD p3 0] := by rw [HQ.out.2.1]; rfl
              rw [← eq] at hb4
              exact Does.build 111 _ rfl #[(0, .int .u64 (L.getD p0 0)), (1, .int .u64 (L.getD p1 0)), (2, .int .u64 (L.getD p2 0)), (3, .int .u64 (L.getD p3 0))] (by simp only [List.map_toArray, List.map_cons, List.map_nil, Act.eval, h43, h51, h59, h67]) _ hb4
            · intro ax wx hb hs hd
              have h68 : ax.tmps.getD 68 undef = (.agg (q64s q.list).toArray) := hd 31 68 rfl (by kernel_rfl) (by decide)
              refine Does.call 75 #[(.agg (q64s q.list).toArray)] (by go_simp) ?_
              refine (rq_any q HQ.out.2.2.1 HQ.out.2.2.2.1 HQ.out.2.2.2.2.1 HQ.out.2.2.2.2.2 wx).mono ?_
              rintro e w' ⟨rfl, l⟩
              exact ⟨_, rfl, rfl, l⟩
            · intro ax wx hb hs hd
              exact Does.alloc 111 rfl 4 _ zero4q hb.size
          · intro wx hb
            refine @Ends.val _ _ _ _ _ _ _ _ _ (.slice (some ⟨gl, 0, none⟩) 16 cl) rfl ?_
            refine @Ends.val _ _ _ _ _ _ _ _ _ (.slice (some ⟨gp, 0, none⟩) 32 32) rfl ?_
            refine @Ends.val _ _ _ _ _ _ _ _ _ (.int .i64 (KK : Int)) rfl ?_
            refine @Ends.val _ _ _ _ _ _ _ _ _ (.pointer (some ⟨gp, KK, none⟩)) rfl ?_
            refine @Ends.val _ _ _ _ _ _ _ _ _ (.int .i64 (p0 : Int)) rfl ?_
            refine @Ends.val _ _ _ _ _ _ _ _ _ (.pointer (some ⟨gl, p0, none⟩)) rfl ?_
            refine @Ends.val _ _ _ _ _ _ _ _ _ (.int .u64 (L.getD p0 0)) rfl ?_
            refine @Ends.val _ _ _ _ _ _ _ _ _ (.slice (some ⟨gl, 0, none⟩) 16 cl) rfl ?_
            refine @Ends.val _ _ _ _ _ _ _ _ _ (.slice (some ⟨gp, 0, none⟩) 32 32) rfl ?_
            refine @Ends.val _ _ _ _ _ _ _ _ _ (.int .i64 (KK : Int)) rfl ?_
            refine @Ends.val _ _ _ _ _ _ _ _ _ (.int .i64 ((KK : Int) + 1)) rfl ?_
            refine @Ends.val _ _ _ _ _ _ _ _ _ (.pointer (some ⟨gp, KK + 1, none⟩)) rfl ?_
            refine @Ends.val _ _ _ _ _ _ _ _ _ (.int .i64 (p1 : Int)) rfl ?_
            refine @Ends.val _ _ _ _ _ _ _ _ _ (.pointer (some ⟨gl, p1, none⟩)) rfl ?_
            refine @Ends.val _ _ _ _ _ _ _ _ _ (.int .u64 (L.getD p1 0)) rfl ?_
            refine @Ends.val _ _ _ _ _ _ _ _ _ (.slice (some ⟨gl, 0, none⟩) 16 cl) rfl ?_
            refine @Ends.val _ _ _ _ _ _ _ _ _ (.slice (some ⟨gp, 0, none⟩) 32 32) rfl ?_
            refine @Ends.val _ _ _ _ _ _ _ _ _ (.int .i64 (KK : Int)) rfl ?_
            refine @Ends.val _ _ _ _ _ _ _ _ _ (.int .i64 ((KK : Int) + 2)) rfl ?_
            refine @Ends.val _ _ _ _ _ _ _ _ _ (.pointer (some ⟨gp, KK + 2, none⟩)) rfl ?_
            refine @Ends.val _ _ _ _ _ _ _ _ _ (.int .i64 (p2 : Int)) rfl ?_
            refine @Ends.val _ _ _ _ _ _ _ _ _ (.pointer (some ⟨gl, p2, none⟩)) rfl ?_
            refine @Ends.val _ _ _ _ _ _ _ _ _ (.int .u64 (L.getD p2 0)) rfl ?_
            refine @Ends.val _ _ _ _ _ _ _ _ _ (.slice (some ⟨gl, 0, none⟩) 16 cl) rfl ?_
            refine @Ends.val _ _ _ _ _ _ _ _ _ (.slice (some ⟨gp, 0, none⟩) 32 32) rfl ?_
            refine @Ends.val _ _ _ _ _ _ _ _ _ (.int .i64 (KK : Int)) rfl ?_
            refine @Ends.val _ _ _ _ _ _ _ _ _ (.int .i64 ((KK : Int) + 3)) rfl ?_
            refine @Ends.val _ _ _ _ _ _ _ _ _ (.pointer (some ⟨gp, KK + 3, none⟩)) rfl ?_
            refine @Ends.val _ _ _ _ _ _ _ _ _ (.int .i64 (p3 : Int)) rfl ?_
            refine @Ends.val _ _ _ _ _ _ _ _ _ (.pointer (some ⟨gl, p3, none⟩)) rfl ?_
            refine @Ends.val _ _ _ _ _ _ _ _ _ (.int .u64 (L.getD p3 0)) rfl ?_
            refine @Ends.val _ _ _ _ _ _ _ _ _ (.agg (q64s q.list).toArray) rfl ?_
            refine @Ends.val _ _ _ _ _ _ _ _ _ (.agg (q64s (quarter q).list).toArray) rfl ?_
            refine @Ends.blk _ _ _ _ _ _ _ _ _ 111 (q64s [0, 0, 0, 0]) rfl ?_
            intro g33 hg33 bg33
            refine @Ends.one _ _ _ _ _ _ _ ?_
            simp only [Act.put, List.setIfInBounds_toArray, List.set_cons_zero, List.set_cons_succ]
            refine last_store 111 (.tmp 12) (.tmp 69) rfl rfl g33 rfl 111 _ (q64s (quarter q).list) rfl bg33 rfl size4q (u64s_one _) ?_
            intro w8 b8 s8 k8
            have L8 : Below wr.heap.size wr w8 := below_kept hb k8 hb.size (fun j hj => by omega)
            have E8 : Hid (Env w w8 (w.heap.size + 1 + 1) gf cf gp gl cl st L ∧ Blk w8 g33 111 (q64s (quarter q).list) ∧ gl ≠ g33) := ⟨HE.out.1.later L8, b8, by have := HE.out.1.row.lt; omega⟩
            clear hb bg33 hg33 b8 s8 k8 L8
            go_wp2_with fail
            go_loopw [13] (fun i wr => ∃ j : Nat, j ≤ 4 ∧ i = .int .i64 j ∧ Env w wr (w.heap.size + 1 + 1) gf cf gp gl cl st (putN L [p0, p1, p2, p3] (quarter q).list j) ∧ Blk wr g33 111 (q64s (quarter q).list)) (fun i _ => 4 - (intOf i).toNat)
            case atStart => exact ⟨0, Nat.zero_le _, rfl, E8.out.1, E8.out.2.1⟩
            case round =>
              obtain ⟨j, hj, rfl, hE, hB⟩ := hrel
              by_cases hj4 : j < 4
              · have m1 : (j : Int) < 4 := by omega
                have m2 : (0 : Int) ≤ (j : Int) := by omega
                have m3 : (KK : Int) + (j : Int) < 32 := by omega
                have m4 : (0 : Int) ≤ (KK : Int) + (j : Int) := by omega
                have m5 : ((KK : Int) + (j : Int)).toNat = KK + j := by omega
                have hps : ∃ P : Nat, P < 16 ∧ placesL.getD (KK + j) 0 = (P : Int) ∧ ([p0, p1, p2, p3] : List Nat).getD j 0 = P := by
                  rcases (by omega : j = 0 ∨ j = 1 ∨ j = 2 ∨ j = 3) with rfl | rfl | rfl | rfl
                  · exact ⟨p0, q0, HPL.out.1, rfl⟩
                  · exact ⟨p1, q1, HPL.out.2.1, rfl⟩
                  · exact ⟨p2, q2, HPL.out.2.2.1, rfl⟩
                  · exact ⟨p3, q3, HPL.out.2.2.2, rfl⟩
                obtain ⟨P, hP16, hPp, hPl⟩ := hps
                have cp : wr.cell? ⟨gp, KK + j, none⟩ = some (.int .i64 (P : Int)) := by rw [hE.pls.cell (KK + j) (show KK + j < 32 by omega), hPp]
                have cq := u64s_cell hB j (show j < 4 from hj4)
                obtain ⟨Z, hZ⟩ : ∃ Z, (quarter q).list.getD j 0 = Z := ⟨_, rfl⟩
                have hlen : (putN L [p0, p1, p2, p3] (quarter q).list j).length = 16 := by rw [putN_length]; exact HE.out.2.1
                have cl1 := hE.row.cell P (by rw [hlen]; exact hP16)
                have fl1 := hE.row.frozen P
                have HNX : Hid (Env w (wr.setCell ⟨gl, P, none⟩ (.int .u64 Z)).drew (w.heap.size + 1 + 1) gf cf gp gl cl st (putN L [p0, p1, p2, p3] (quarter q).list (j + 1)) ∧ Blk (wr.setCell ⟨gl, P, none⟩ (.int .u64 Z)).drew g33 111 (q64s (quarter q).list)) := by
                  refine ⟨?_, (hB.other (p := ⟨gl, P, none⟩) (fun e => E8.out.2.2 e.symm) _).drew⟩
                  rw [putN_succ, hPl, hZ]
                  exact hE.set hap P (by rw [hlen]; exact hP16) Z
                rw [hZ] at cq
                obtain ⟨B0, hB0⟩ : ∃ B, (putN L [p0, p1, p2, p3] (quarter q).list j).getD P 0 = B := ⟨_, rfl⟩
                rw [hB0] at cl1
                have n1 : (P : Int) < 16 := by omega
                have n2 : (0 : Int) ≤ (P : Int) := by omega
                have vv : IntKind.i64.wrap ((KK : Int) + (j : Int)) = (KK : Int) + (j : Int) := by rw [IntKind.wrap_i64]; omega
                clear hE hB hZ hB0 hPp hPl hlen
                go_wp2_with fail
                go_region
                all_goals
                  go_wp2_with fail
                  exact ⟨⟨j + 1, by omega, by go_num, HNX.out.1, HNX.out.2⟩, by simp [intOf]; omega⟩
              · obtain rfl : j = 4 := by omega
                have HF : Hid (Env w wr (w.heap.size + 1 + 1) gf cf gp gl cl st (passT S (T + 1))) := by
                  rw [putN_4] at hE
                  rw [HN.out]; exact hE
                clear hE hB
                rw [show ((4 : Nat) : Int) = 4 from rfl]
                go_wp2_with fail
                exact ⟨⟨T + 1, KK + 4, by omega, by have := HKK.out; omega, by go_num, HF.out⟩, by simp [intOf]; omega⟩
        · have hT8 : T = 8 := by omega
          subst hT8
          have hKK2 : KK = 32 := by omega
          subst hKK2
          have HF : Hid (Env w wr (w.heap.size + 1 + 1) gf cf gp gl cl st (passN st (N + 1))) := by
            rw [passT_8, ← HSS.out.1] at hE
            exact hE
          clear hE hKK
          rw [show ((32 : Nat) : Int) = 32 from rfl]
          go_wp2_with fail
          exact ⟨⟨N + 1, by omega, by go_num, HF.out⟩, by simp [intOf]; omega⟩
    · obtain rfl : N = 10 := by omega
      obtain ⟨L, HL⟩ : ∃ L, Hid (passN st 10 = L ∧ L.length = 16 ∧ Wds L) := ⟨_, ⟨rfl, by rw [passN_length]; exact HY.out.2.2.2.1, passN_wd HY.out.2.2.2.2.1 10⟩⟩
      rw [HL.out.1] at EN
      have HY2 : Hid (wB (addW L st) 16 = Y ∧ (addW L st).length = 16 ∧ ∀ i, i < 16 → (addW L st).getD i 0 = (L.getD i 0 + st.getD i 0) % 4294967296) := ⟨by rw [← HL.out.1]; exact HY.out.2.2.1, addW_length _ _ 16 HL.out.2.1 HY.out.2.2.2.1, fun i hi => addW_at _ _ 16 i HL.out.2.1 HY.out.2.2.2.1 hi⟩
      rw [show ((10 : Nat) : Int) = 10 from rfl]
      go_wp2_with (first | (refine wpList_alloc_new rfl 68 rfl 64 _ zero64b ?_; intro w7 b7 s7 l7))
      obtain ⟨G, HG⟩ : ∃ G, Hid (wr.heap.size = G) := ⟨_, rfl⟩
      have HGP : Hid (gp < G) := by rw [← HG.out]; exact EN.out.pls.lt
      have E7 : Hid (Env w w7 (w.heap.size + 1 + 1) gf cf gp gl cl st L ∧ Blk w7 G 68 (u8s (zs0 64)) ∧ gf < G ∧ gl < G ∧ w.heap.size + 1 + 1 < G) := by
        rw [← HG.out]
        exact ⟨EN.out.later l7, b7, EN.out.fst.lt, EN.out.row.lt, EN.out.res.lt⟩
      rw [HG.out]
      clear b7 s7 l7 EN
      go_loopw [15] (fun i wr => ∃ I : Nat, I ≤ 16 ∧ i = .int .i64 I ∧ Env w wr (w.heap.size + 1 + 1) gf cf gp gl cl st L ∧ Blk wr G 68 (u8s (Y.take (4 * I) ++ zs0 (64 - 4 * I)))) (fun i _ => 16 - (intOf i).toNat)
      case atStart => exact ⟨0, Nat.zero_le _, rfl, E7.out.1, E7.out.2.1⟩
      case round =>
        obtain ⟨I, hI, rfl, hE, hB⟩ := hrel
        by_cases hI16 : I < 16
        · have i1 : (I : Int) < 16 := by omega
          have i2 : (0 : Int) ≤ (I : Int) := by omega
          have HE : Hid (Env w wr (w.heap.size + 1 + 1) gf cf gp gl cl st L ∧ Blk wr G 68 (u8s (Y.take (4 * I) ++ zs0 (64 - 4 * I)))) := ⟨hE, hB⟩
          have wa := HL.out.2.2.at I (by rw [HL.out.2.1]; exact hI16)
          have wb := HY.out.2.2.2.2.1.at I (by rw [HY.out.2.2.2.1]; exact hI16)
          have HC : Hid (∀ W, Below wr.heap.size wr W → W.cell? ⟨gl, I, none⟩ = some (.int .u64 (L.getD I 0)) ∧ W.cell? ⟨gf, I, none⟩ = some (.int .u64 (st.getD I 0))) := fun W hW => ⟨(HE.out.1.later hW).row.cell I (by rw [HL.out.2.1]; exact hI16), (HE.out.1.later hW).fst.cell I (by rw [HY.out.2.2.2.1]; exact hI16)⟩
          have HX : Hid (∀ j, j < 4 → Y.getD (4 * I + j) 0 = (leB 4 ((L.getD I 0 + st.getD I 0) % 4294967296)).getD j 0) := fun j hj => by
            have h1 := wB_succ (addW L st) I (by rw [HY2.out.2.1]; exact hI16)
            rw [HY2.out.2.2 I hI16] at h1
            have h2 : wB (addW L st) (I + 1) = Y.take (4 * (I + 1)) := by
              rw [← HY2.out.1]
              exact wB_take (addW L st) (I + 1) 16 (by omega) (by rw [HY2.out.2.1]; exact Nat.le_refl _)
            have h3 : (wB (addW L st) I).length = 4 * I := wB_length _ _ (by rw [HY2.out.2.1]; omega)
            have h4 : (Y.take (4 * (I + 1))).getD (4 * I + j) 0 = Y.getD (4 * I + j) 0 := by simp [List.getD, List.getElem?_take, show 4 * I + j < 4 * (I + 1) by omega]
            rw [← h4, ← h2, h1, ← h3]
            exact app_getD _ _ _ _ rfl
          obtain ⟨A, hA⟩ : ∃ A, L.getD I 0 = A := ⟨_, rfl⟩
          obtain ⟨B, hB'⟩ : ∃ B, st.getD I 0 = B := ⟨_, rfl⟩
          rw [hA, hB'] at HC HX
          rw [hA] at wa
          rw [hB'] at wb
          obtain ⟨Z, hZ⟩ : ∃ Z, (A + B) % 4294967296 = Z := ⟨_, rfl⟩
          have HZ : Hid ((A + B) % 4294967296 = Z ∧ Word Z) := ⟨hZ, by rw [← hZ]; exact ⟨by omega, by omega⟩⟩
          rw [hZ] at HX
          clear hE hB hA hB' hZ
          go_wp2_with fail
          try simp only [Act.put, List.setIfInBounds_toArray, List.set_cons_zero, List.set_cons_succ]
          refine region_inv [.val (.slice (some ⟨gl, 0, none⟩) 16 cl), .val (.int .i64 (I : Int)), .val (.pointer (some ⟨gl, I, none⟩)), .val (.int .u64 A), .val (.slice (some ⟨gf, 0, none⟩) 16 cf), .val (.int .i64 (I : Int)), .val (.pointer (some ⟨gf, I, none⟩)), .val (.int .u64 B), .val (.int .u64 Z), .any (isF wr.heap.size (leB 4 Z)) (isF_later _ _)] (by kernel_rfl) (by kernel_rfl) (by kernel_rfl) ?_ ?_
          · refine Steps'.cons ?_ (Steps'.cons ?_ (Steps'.cons ?_ (Steps'.cons ?_ (Steps'.cons ?_ (Steps'.cons ?_ (Steps'.cons ?_ (Steps'.cons ?_ (Steps'.cons ?_ (Steps'.cons ?_ (Steps'.one _ _ _ _ _ _ _))))))))))
            · intro ax wx hb hs hd
              have h8 : ax.tmps.getD 8 undef = (.slice (some ⟨gl, 0, none⟩) 16 cl) := hs 8 (by kernel_rfl)
              refine Does.value (.slice (some ⟨gl, 0, none⟩) 16 cl) ?_ rfl
              go_simp
            · intro ax wx hb hs hd
              have h15 : ax.tmps.getD 15 undef = (.int .i64 (I : Int)) := hs 15 (by kernel_rfl)
              refine Does.value (.int .i64 (I : Int)) ?_ rfl
              go_simp
            · intro ax wx hb hs hd
              have h89 : ax.tmps.getD 89 undef = (.slice (some ⟨gl, 0, none⟩) 16 cl) := hd 0 89 rfl (by kernel_rfl) (by decide)
              have h90 : ax.tmps.getD 90 undef = (.int .i64 (I : Int)) := hd 1 90 rfl (by kernel_rfl) (by decide)
              refine Does.value (.pointer (some ⟨gl, I, none⟩)) ?_ rfl
              go_simp
            · intro ax wx hb hs hd
              have h91 : ax.tmps.getD 91 undef = (.pointer (some ⟨gl, I, none⟩)) := hd 2 91 rfl (by kernel_rfl) (by decide)
              have cx := (HC.out wx hb).1
              refine Does.value (.int .u64 A) ?_ rfl
              go_simp
            · intro ax wx hb hs hd
              have h7 : ax.tmps.getD 7 undef = (.slice (some ⟨gf, 0, none⟩) 16 cf) := hs 7 (by kernel_rfl)
              refine Does.value (.slice (some ⟨gf, 0, none⟩) 16 cf) ?_ rfl
              go_simp
            · intro ax wx hb hs hd
              have h15 : ax.tmps.getD 15 undef = (.int .i64 (I : Int)) := hs 15 (by kernel_rfl)
              refine Does.value (.int .i64 (I : Int)) ?_ rfl
              go_simp
            · intro ax wx hb hs hd
              have h93 : ax.tmps.getD 93 undef = (.slice (some ⟨gf, 0, none⟩) 16 cf) := hd 4 93 rfl (by kernel_rfl) (by decide)
              have h94 : ax.tmps.getD 94 undef = (.int .i64 (I : Int)) := hd 5 94 rfl (by kernel_rfl) (by decide)
              refine Does.value (.pointer (some ⟨gf, I, none⟩)) ?_ rfl
              go_simp
            · intro ax wx hb hs hd
              have h95 : ax.tmps.getD 95 undef = (.pointer (some ⟨gf, I, none⟩)) := hd 6 95 rfl (by kernel_rfl) (by decide)
              have cx := (HC.out wx hb).2
              refine Does.value (.int .u64 B) ?_ rfl
              go_simp
            · intro ax wx hb hs hd
              have h92 : ax.tmps.getD 92 undef = (.int .u64 A) := hd 3 92 rfl (by kernel_rfl) (by decide)
              have h96 : ax.tmps.getD 96 undef = (.int .u64 B) := hd 7 96 rfl (by kernel_rfl) (by decide)
              refine Does.call 77 #[(.int .u64 A), (.int .u64 B)] (by go_simp) ?_
              have q := rplus_any A B wa wb wx
              rw [HZ.out.1] at q
              refine q.mono ?_
              rintro e w' ⟨rfl, rfl⟩
              exact ⟨_, rfl, rfl, Below.refl _ _⟩
            · intro ax wx hb hs hd
              have h97 : ax.tmps.getD 97 undef = (.int .u64 Z) := hd 8 97 rfl (by kernel_rfl) (by decide)
              refine Does.call 76 #[(.int .u64 Z), (.int .i64 4)] (by go_simp) ?_
              refine (rbytes_any Z HZ.out.2 4 (by decide) wx).mono ?_
              rintro e w' ⟨v, rfl, o, l⟩
              obtain ⟨vo, cap, rfl, hs, hc, _, h4, _⟩ := own_data (leB_bytes 4 Z) (by rw [leB_length]; decide) (by simpa [leB_length] using o)
              exact ⟨_, rfl, ⟨_, _, _, rfl, hs, fun b o e => Nat.le_trans hb.size (h4 b o e).1⟩, l⟩
          · intro wx hb
            refine @Ends.val _ _ _ _ _ _ _ _ _ (.slice (some ⟨gl, 0, none⟩) 16 cl) rfl ?_
            refine @Ends.val _ _ _ _ _ _ _ _ _ (.int .i64 (I : Int)) rfl ?_
            refine @Ends.val _ _ _ _ _ _ _ _ _ (.pointer (some ⟨gl, I, none⟩)) rfl ?_
            refine @Ends.val _ _ _ _ _ _ _ _ _ (.int .u64 A) rfl ?_
            refine @Ends.val _ _ _ _ _ _ _ _ _ (.slice (some ⟨gf, 0, none⟩) 16 cf) rfl ?_
            refine @Ends.val _ _ _ _ _ _ _ _ _ (.int .i64 (I : Int)) rfl ?_
            refine @Ends.val _ _ _ _ _ _ _ _ _ (.pointer (some ⟨gf, I, none⟩)) rfl ?_
            refine @Ends.val _ _ _ _ _ _ _ _ _ (.int .u64 B) rfl ?_
            refine @Ends.val _ _ _ _ _ _ _ _ _ (.int .u64 Z) rfl ?_
            refine @Ends.any _ _ _ _ _ _ _ _ _ (isF wr.heap.size (leB 4 Z)) (isF_later _ _) rfl ?_
            intro v9 p9
            refine @Ends.one _ _ _ _ _ _ _ ?_
            simp only [Act.put, List.setIfInBounds_toArray, List.set_cons_zero, List.set_cons_succ]
            obtain ⟨vo, n9, c9, rfl, s9, h9⟩ := p9
            obtain rfl : 4 = n9 := by rw [← s9.len, leB_length]
            refine last_assign (.tmp 98) rfl (some 16) rfl (.slice vo 4 c9) rfl ?_
            simp only [Act.put, List.setIfInBounds_toArray, List.set_cons_zero, List.set_cons_succ]
            have E9 : Hid (Env w wx (w.heap.size + 1 + 1) gf cf gp gl cl st L ∧ Blk wx G 68 (u8s (Y.take (4 * I) ++ zs0 (64 - 4 * I))) ∧ Seen wx vo 4 (leB 4 Z) ∧ (∀ b o, vo = some ⟨b, o, none⟩ → b ≠ G)) := ⟨HE.out.1.later hb, HE.out.2.later hb HE.out.2.lt, s9, fun b o e => by have := h9 b o e; have := HE.out.2.lt; omega⟩
            clear hb s9 h9
            go_wp2_with fail
            go_loopw [17] (fun i wr => ∃ j : Nat, j ≤ 4 ∧ i = .int .i64 j ∧ Blk wr G 68 (u8s (Y.take (4 * I + j) ++ zs0 (64 - (4 * I + j)))) ∧ Kept (fun x => x = G) wx wr) (fun i _ => 4 - (intOf i).toNat)
            case atStart => exact ⟨0, Nat.zero_le _, rfl, E9.out.2.1, Kept.refl _ _⟩
            case round =>
              obtain ⟨j, hj, rfl, hB, hkp⟩ := hrel
              by_cases hj4 : j < 4
              · obtain ⟨b, o, rfl, hb, hc⟩ := E9.out.2.2.1.cells (by decide)
                have hbG := E9.out.2.2.2 b o rfl
                have c1 := (hkp.cell (p := ⟨b, o + j, none⟩) hb hbG).trans (hc j hj4)
                have hlen : (Y.take (4 * I + j) ++ zs0 (64 - (4 * I + j)) : List Int).length = 64 := by rw [List.length_append, List.length_take, HY.out.1, zs0_length]; omega
                have cg := u8s_cell hB (4 * I + j) (by rw [hlen]; omega)
                have fg := hB.frozen (4 * I + j)
                have hset : (Y.take (4 * I + j) ++ zs0 (64 - (4 * I + j)) : List Int).set (4 * I + j) ((leB 4 Z).getD j 0) = Y.take (4 * I + (j + 1)) ++ zs0 (64 - (4 * I + (j + 1))) := by
                  have h := take_next Y (4 * I + j) (by rw [HY.out.1]; omega) (64 - (4 * I + (j + 1)))
                  rw [show 64 - (4 * I + (j + 1)) + 1 = 64 - (4 * I + j) by omega, HX.out j hj4] at h
                  exact h
                obtain ⟨D, hD⟩ : ∃ D, (leB 4 Z).getD j 0 = D := ⟨_, rfl⟩
                obtain ⟨D0, hD0⟩ : ∃ D, (Y.take (4 * I + j) ++ zs0 (64 - (4 * I + j)) : List Int).getD (4 * I + j) 0 = D := ⟨_, rfl⟩
                rw [hD] at c1 hset
                rw [hD0] at cg
                have HQ : Hid (Blk (wr.setCell ⟨G, 4 * I + j, none⟩ (.int .u8 D)) G 68 (u8s (Y.take (4 * I + (j + 1)) ++ zs0 (64 - (4 * I + (j + 1))))) ∧ Kept (fun x => x = G) wx (wr.setCell ⟨G, 4 * I + j, none⟩ (.int .u8 D))) := by
                  have R := hB.set (4 * I + j) (.int .u8 D)
                  rw [u8s_set, hset] at R
                  exact ⟨R, hkp.setCell rfl _⟩
                have m1 : (j : Int) < 4 := by omega
                have m2 : (0 : Int) ≤ (j : Int) := by omega
                have m3 : 4 * (I : Int) + (j : Int) < 64 := by omega
                have m4 : (0 : Int) ≤ 4 * (I : Int) + (j : Int) := by omega
                have m5 : (4 * (I : Int) + (j : Int)).toNat = 4 * I + j := by omega
                clear hc hD hD0 hset hB hkp hlen
                go_wp2_with fail
                exact ⟨⟨j + 1, by omega, by go_num, HQ.out.1, HQ.out.2⟩, by simp [intOf]; omega⟩
              · obtain rfl : j = 4 := by omega
                have HF : Hid (Env w wr (w.heap.size + 1 + 1) gf cf gp gl cl st L ∧ Blk wr G 68 (u8s (Y.take (4 * (I + 1)) ++ zs0 (64 - 4 * (I + 1))))) := by
                  have e := E9.out.1
                  have hh := E7.out.2.2
                  exact ⟨⟨below_kept e.bel hkp e.bel.size (fun i hi => by omega), e.res.kept hkp (by omega), e.fst.block (hkp.block gf e.fst.lt (by omega)), e.pls.block (hkp.block gp e.pls.lt (by have := HGP.out; omega)), e.row.block (hkp.block gl e.row.lt (by omega)), e.new⟩, hB⟩
                clear hB hkp
                rw [show ((4 : Nat) : Int) = 4 from rfl]
                go_wp2_with fail
                exact ⟨⟨I + 1, by omega, by go_num, HF.out.1, HF.out.2⟩, by simp [intOf]; omega⟩
        · obtain rfl : I = 16 := by omega
          have e1 : Y.take (4 * 16) ++ zs0 (64 - 4 * 16) = Y := by rw [List.take_of_length_le (by rw [HY.out.1]; exact Nat.le_refl _)]; simp [zs0]
          rw [e1] at hB
          have HQ : Hid (Blk wr G 68 (u8s Y) ∧ Blk wr (w.heap.size + 1 + 1) 68 (u8s (zs0 64)) ∧ Below w.heap.size w wr ∧ (Try.prog.info? 68).map (·.size) = some (u8s Y).length) := ⟨hB, hE.res, hE.bel, by rw [u8s_length, HY.out.1]; kernel_rfl⟩
          clear hB hE e1
          rw [show ((16 : Nat) : Int) = 16 from rfl]
          go_wp2_with (first | (refine wpList_load_blk rfl 68 _ rfl _ rfl (u8s Y) _ HQ.out.1 Try.underlying68 rfl HQ.out.2.2.2 ?_) | (refine wpList_store_blk rfl 68 68 _ _ rfl _ rfl _ (u8s Y) rfl HQ.out.2.1 (by rw [u8s_length, u8s_length, HY.out.1]; rfl) HQ.out.2.2.2 (u8s_one _) ?_; intro w9 b9 s9 k9))
          exact ret_blk rfl (w.heap.size + 1 + 1) (u8s Y) _ rfl b9 Try.underlying68 rfl HQ.out.2.2.2 rfl ⟨rfl, below_kept HQ.out.2.2.1 k9 HQ.out.2.2.1.size (fun j hj => by omega)⟩
end Go.Proofs.Ytogplebajpdmoaa
