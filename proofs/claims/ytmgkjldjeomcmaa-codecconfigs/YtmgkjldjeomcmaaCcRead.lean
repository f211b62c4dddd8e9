/- Layer codec: RequestSize, ReplySize; readers: number, readerOf, requestOf. -/
import Derived.Test.YtmgkjldjeomcmaaCcSize
import Derived.Test.YtmgkjldjeomcmaaORead
namespace Go.Proofs.Ytmgkjldjeomcmaa
open Go.RowKit
set_option linter.unusedVariables false
set_option linter.unusedSimpArgs false

/-- The number of four bytes. -/
def num4 (zs : List Int) (p : Nat) : Int := le ((zs.drop p).take 4)
theorem num4_bd (zs : List Int) (h : Bytes zs) (p : Nat) (hp : p + 4 ≤ zs.length) : 0 ≤ num4 zs p ∧ num4 zs p < 4294967296 := by
  have := le_bd ((zs.drop p).take 4) (bytes_take (bytes_drop h p) 4)
  rw [show ((zs.drop p).take 4).length = 4 by simp; omega] at this
  exact this
set_option maxRecDepth 20000 in
theorem number_in (r : Nat) (ao : Option Addr) (c : Nat) (zs : List Int) (p : Nat) (hp : p + 4 ≤ zs.length) (w : World) (h : Rd w r ao c zs p 0) :
    Calls Try.prog 11 #[.pointer (some ⟨r, 0, none⟩)] w fun e w' => e = .returned (.int .i64 (num4 zs p)) ∧ Rd w' r ao c zs (p + 4) 0 ∧ Kept (fun k => k = r) w w' := by
  have hn := ru_32 r ao c zs p 0 w h
  obtain ⟨e1, e2, e3⟩ := @nx_ok zs p 4 hp
  have e4 : ((4 : Nat) : Int) = 4 := rfl
  rw [e4] at e1 e2 e3
  rw [e1, e2, e3, show ((zs.drop p).take 4).length = 4 by simp; omega, leV_ok] at hn
  have hb := num4_bd zs h.hb p hp
  have hd : le ((zs.drop p).take 4) = num4 zs p := rfl
  rw [hd] at hn
  generalize num4 zs p = x at *
  have w1 : wrap64 x = x := by simp [wrap64]; omega
  clear h hd e1 e2 e3 e4
  go_enter Try.func11, Try.ntmps11
  go_wp2_with (go_at_call 16; refine hn.mono ?_; rintro e w1 ⟨rfl, rd, kp⟩)
  go_ret
  exact ⟨rfl, rd, kp⟩
set_option maxRecDepth 20000 in
theorem readerOf_yes (ao : Option Addr) (n c : Nat) (zs : List Int) (w : World) (hx : Seen w ao n zs) :
    Calls Try.prog 10 #[.slice ao n c, .int .i64 n] w fun e w' => ∃ r ao' c', e = .returned (.tuple #[.pointer (some ⟨r, 0, none⟩), .int .i64 0]) ∧ Rd w' r ao' c' zs 0 0 ∧ w.heap.size ≤ r ∧ (∀ g, ao' = some ⟨g, 0, none⟩ → w.heap.size ≤ g) ∧ Below w.heap.size w w' := by
  have hn := newReader_any ao n c zs w hx
  clear hx
  go_enter Try.func10, Try.ntmps10
  go_wp2_with (go_at_call 15; refine hn.mono ?_; rintro e w1 ⟨r, ao', c', rfl, rd, hr, hg, hb⟩)
  have HH : Hid (Rd w1 r ao' c' zs 0 0 ∧ w.heap.size ≤ r ∧ (∀ g, ao' = some ⟨g, 0, none⟩ → w.heap.size ≤ g) ∧ Below w.heap.size w w1) := ⟨rd, hr, hg, hb⟩
  clear rd hr hg hb hn
  go_wp2
  go_ret2
  exact ⟨r, ao', c', rfl, HH.out⟩
set_option maxRecDepth 20000 in
theorem readerOf_no (ao : Option Addr) (n c : Nat) (m : Int) (hne : ¬ (n : Int) = m) (w : World) :
    Calls Try.prog 10 #[.slice ao n c, .int .i64 m] w fun e w' => e = .returned (.tuple #[.pointer none, .int .i64 4]) ∧ w = w' := by
  have n1 : ((n : Int) != m) = true := by simpa using hne
  clear hne
  go_enter Try.func10, Try.ntmps10
  go_wp2
  go_ret2
  exact ⟨rfl, rfl⟩
end Go.Proofs.Ytmgkjldjeomcmaa
