/- The statements' helpers Lent and Kept (trystref01). -/
import Derived.Test.YtiimjhahblmggaaDoorRTwin
import Derived.Test.YtiimjhahblmggaaDoorRSame
namespace Go.Proofs.YtiimjhahblmggaaDoor
open Go.RowKit
set_option linter.unusedVariables false
set_option linter.unusedSimpArgs false

/-- The marks behind what Lent lends. -/
def marks : List Int := (List.range 64).map fun i => ((200 + i % 7 : Nat) : Int)
theorem marks_length : marks.length = 64 := by simp [marks]
theorem marks_getD (k : Nat) (hk : k < 64) : marks.getD k 0 = 200 + (k : Int) % 7 := by simp [marks, List.getD, hk]
theorem marks_bytes : Bytes marks := by
  intro z hz
  simp only [marks, List.mem_map, List.mem_range] at hz
  obtain ⟨i, hi, rfl⟩ := hz
  omega

theorem lent_facts (zs : List Int) (n : Nat) (hl : zs.length = n) : ∃ zm, zm = zs ++ marks ∧ zm.length = n + 64 ∧ (∀ k, k < 64 → zm.getD (n + k) 0 = 200 + (k : Int) % 7) ∧ (zm.map (Value.int .u8)).take n = zs.map (Value.int .u8) := by
  refine ⟨_, rfl, by rw [List.length_append, marks_length, hl], fun k hk => ?_, ?_⟩
  · rw [← marks_getD k hk, ← hl]
    simp [List.getD, List.getElem?_append_right]
  · rw [List.map_append, List.take_append_of_le_length (by simp; omega), List.take_of_length_le (by simp; omega)]

set_option maxRecDepth 20000 in
set_option maxHeartbeats 1000000 in
theorem lent_any (ao : Option Addr) (n c : Nat) (zs : List Int) (w : World) (hx : Seen w ao n zs) (hn : n + 64 ≤ 140737488355328) :
    Calls Tryd.prog 7 #[.slice ao n c] w fun e w' => ∃ g cap, e = .returned (.slice (some ⟨g, 0, none⟩) (n + 64) cap) ∧ RowAt w' g (zs ++ marks) ∧ w.heap.size ≤ g ∧ n + 64 ≤ cap ∧ cap ≤ maxLen ∧ Below w.heap.size w w' := by
  obtain ⟨zm, e1, e2, e3, e4⟩ := lent_facts zs n hx.len
  have H1 : Hid (zm = zs ++ marks) := e1
  have H2 : Hid (zm.length = n + 64) := e2
  have H3 : Hid (∀ k, k < 64 → zm.getD (n + k) 0 = 200 + (k : Int) % 7) := e3
  have H4 : Hid ((zm.map (Value.int .u8)).take n = zs.map (Value.int .u8)) := e4
  clear e1 e2 e3 e4
  obtain ⟨i0, hi, hz0, hz1, hz2⟩ := info_parts info_byte
  go_enter Tryd.func7, Tryd.ntmps7
  go_wp2_with (go_at_call 27; refine (twin_any _ _ _ zs _ hx).mono ?_; rintro e w1 ⟨v, rfl, hown, hbel⟩)
  go_loopw [3, 4] (fun v i wr => ∃ k : Nat, k ≤ 64 ∧ i = .int .i64 k ∧ wr.ownsRow w.heap.size 5 1 v (n + k) ((zm.map (Value.int .u8)).take (n + k)) ∧ Below w.heap.size w wr) (fun _ i _ => 64 - (intOf i).toNat)
  case atStart => exact ⟨0, Nat.zero_le _, rfl, by rw [Nat.add_zero, H4.out]; exact hown, hbel⟩
  case round =>
    clear hown hbel hx
    obtain ⟨k, hk, rfl, hown, hbel⟩ := hrel
    by_cases hlt : k < 64
    · have hsz := hbel.size
      have HZ : Hid (zm.getD (n + k) 0 = 200 + (k : Int) % 7) := H3.out k hlt
      have e1 : (200 + (k : Int) % 7) % 256 = 200 + (k : Int) % 7 := by omega
      go_wp2_with (at_builtin; refine wpList_append_own _ rfl _ _ 22 rfl w.heap.size 5 i0 (.int .u8 0) 1 1 Tryd.underlying22 hi hz0 hz1 hz2 rfl (by decide) _ _ _ rfl (hown.alloc _) ⟨wr.heap.size, 0, none⟩ 1 1 [.int .u8 (200 + (k : Int) % 7)] rfl rfl ?c1 ?c2 ?c3 ?c4 ?c5 ?_)
      case c1 => exact one_new _ _ _
      case c2 => intro u hu; simp at hu; subst hu; rfl
      case c3 => unfold maxLen; omega
      case c4 => omega
      case c5 => simp; omega
      · intro v' w1 hown' hgrow _
        have R := step_own hbel hown (by have := H2.out; omega) HZ.out hown' hgrow
        clear hown' hgrow hown hbel
        go_wp2
        go_roundw
        case rel => exact ⟨k + 1, by omega, by go_num, R.1, R.2⟩
        case measure => simp [intOf]; omega
    · have e : k = 64 := by omega
      subst e
      rw [List.take_of_length_le (by have := H2.out; simp; omega), H1.out] at hown
      rcases own_len (by rw [← H1.out]; exact H2.out) hown with ⟨_, h⟩ | ⟨g, cap, rfl, hr, hg, hc, hm⟩
      · omega
      · have HB : Hid _ := hbel
        have HR : Hid _ := hr
        clear hown hbel hr
        go_wp2
        go_ret
        exact ⟨g, cap, rfl, HR.out, hg, hc, hm, HB.out⟩

set_option maxRecDepth 20000 in
theorem rkept_any (g n cap : Nat) (ws : List Int) (bo : Option Addr) (m c' : Nat) (zs : List Int) (w : World) (hg : RowAt w g ws) (hl : ws.length = n) (ht : n ≤ 140737488355328) (hb : Bytes ws) (hz : Seen w bo m zs) (hm : m + 64 ≤ 140737488355328) :
    Calls Tryd.prog 15 #[.slice (some ⟨g, 0, none⟩) n cap, .slice bo m c'] w fun e w' => e = .returned (.bool (decide (ws = zs ++ marks))) ∧ Below w.heap.size w w' := by
  have hbz : Bytes (zs ++ marks) := by
    intro z h
    rcases List.mem_append.1 h with h | h
    · exact hz.bytes z h
    · exact marks_bytes z h
  have hlz : (zs ++ marks).length = m + 64 := by rw [List.length_append, marks_length, hz.len]
  have HZ : Hid (Bytes (zs ++ marks) ∧ (zs ++ marks).length = m + 64) := ⟨hbz, hlz⟩
  have HG : Hid (RowAt w g ws) := hg
  clear hbz hlz hg
  go_enter Tryd.func15, Tryd.ntmps15
  go_wp2_with (first | (go_at_call 7; refine (lent_any _ _ _ zs _ hz hm).mono ?_; rintro e w1 ⟨h, cap', rfl, hr, hge, hc, hx, hbel⟩; have s1 := Seen.of_row (n := n) (HG.out.block (hbel.block g HG.out.lt)) (by omega) ht hb; have s2 := Seen.of_row (n := m + 64) hr (by rw [HZ.out.2]; omega) hm HZ.out.1; rw [List.take_of_length_le (by omega)] at s1; rw [List.take_of_length_le (by rw [HZ.out.2]; omega)] at s2; have S1 : Hid _ := s1; have S2 : Hid _ := s2; have HB : Hid _ := hbel; clear s1 s2 hbel hr) | (go_at_call 16; refine (rsame_any _ _ _ _ _ _ ws (zs ++ marks) _ S1.out S2.out).mono ?_; rintro e w2 ⟨rfl, q, rfl⟩))
  go_ret
  exact ⟨rfl, below_dn HB.out _⟩
theorem rkept_yes (g n cap : Nat) (bo : Option Addr) (m c' : Nat) (zs : List Int) (w : World) (hg : RowAt w g (zs ++ marks)) (hz : Seen w bo m zs) (hm : m + 64 ≤ 140737488355328) (hn : n = m + 64) :
    Calls Tryd.prog 15 #[.slice (some ⟨g, 0, none⟩) n cap, .slice bo m c'] w fun e w' => e = .returned (.bool true) ∧ Below w.heap.size w w' := by
  have hbz : Bytes (zs ++ marks) := by
    intro z h
    rcases List.mem_append.1 h with h | h
    · exact hz.bytes z h
    · exact marks_bytes z h
  have hlz : (zs ++ marks).length = n := by rw [List.length_append, marks_length, hz.len, hn]
  exact (rkept_any g n cap (zs ++ marks) bo m c' zs w hg hlz (by omega) hbz hz hm).mono fun e w' ⟨he, hb⟩ => ⟨by rw [he]; simp, hb⟩
/-- The bytes that were lent, seen. -/
theorem Seen.lent {w : World} {g n : Nat} {zs : List Int} (h : RowAt w g (zs ++ marks)) {ao : Option Addr} {w0 : World} (hz : Seen w0 ao n zs) : Seen w (some ⟨g, 0, none⟩) n zs := by
  have h1 := h.take n
  rw [List.take_append_of_le_length (by have := hz.len; omega), List.take_of_length_le (by have := hz.len; omega)] at h1
  have := Seen.of_row (n := n) h1 (by have := hz.len; omega) hz.top hz.bytes
  rwa [List.take_of_length_le (by have := hz.len; omega)] at this
end Go.Proofs.YtiimjhahblmggaaDoor
