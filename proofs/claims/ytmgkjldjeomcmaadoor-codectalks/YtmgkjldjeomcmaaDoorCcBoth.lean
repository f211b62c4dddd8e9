/- Layer codec: what both answer, in one form: requests and replies laid, requests and replies read. -/
import Derived.Test.YtmgkjldjeomcmaaDoorCcPOwn
import Derived.Test.YtmgkjldjeomcmaaDoorCcPErr
import Derived.Test.YtmgkjldjeomcmaaDoorCcRTal2
import Derived.Test.YtmgkjldjeomcmaaDoorCcRTal3
import Derived.Test.YtmgkjldjeomcmaaDoorROut
namespace Go.Proofs.YtmgkjldjeomcmaaDoor
open Go.RowKit
set_option linter.unusedVariables false
set_option linter.unusedSimpArgs false

/-- A row of one's own that a call answers, with an error's number; what stands ahead of it. -/
def LaysO (w : World) (E : Int) (L : List Int) (e : Ending) (w' : World) : Prop := ∃ vo cv, e = .returned (.tuple #[.slice vo L.length cv, .int .i64 E]) ∧ Out w' w.heap.size w'.heap.size vo L.length cv L ∧ Below w.heap.size w w'
def ReadsO (w : World) (X : Value) (E : Int) (L : List Int) (e : Ending) (w' : World) : Prop := ∃ vo cv dv, e = .returned (.tuple #[X, .slice vo L.length dv, .int .i64 E]) ∧ (dv = cv ∨ dv = L.length) ∧ Out w' w.heap.size w'.heap.size vo L.length cv L ∧ Below w.heap.size w w'
theorem out_nil (w : World) (lo hi : Nat) : Out w lo hi none 0 0 [] := ⟨World.ownsRow_nil _ _ _ _, Seen.empty _ _, (fun b o e => by cases e), fun _ => rfl⟩
theorem laysO_bad {w : World} {x : Int} {e : Ending} {w' : World} (h : e = .returned (.tuple #[.slice none 0 0, .int .i64 x]) ∧ Below w.heap.size w w') : LaysO w x [] e w' := ⟨none, 0, h.1, out_nil _ _ _, h.2⟩
theorem laysO_put {w : World} {L : List Int} (hb : Bytes L) (ht : L.length ≤ 140737488355328) {e : Ending} {w' : World} (h : PutR w L e w') : LaysO w 0 L e w' := by
  obtain ⟨vo, cv, rfl, ho, hb2⟩ := h
  obtain ⟨uo, cu, e, o⟩ := out_of rfl hb ht ho
  cases e
  exact ⟨_, _, rfl, o, hb2⟩
theorem laysO_lay {w : World} {L : List Int} (hb : Bytes L) (ht : L.length ≤ 140737488355328) {e : Ending} {w' : World} (h : LayR w L e w') : LaysO w 0 L e w' := by
  obtain ⟨v, rfl, ho, hb2⟩ := h
  obtain ⟨uo, cu, rfl, o⟩ := out_of rfl hb ht ho
  exact ⟨_, _, rfl, o, hb2⟩
theorem readsO_bad {w : World} {X : Value} {x : Int} {e : Ending} {w' : World} (h : e = .returned (.tuple #[X, .slice none 0 0, .int .i64 x]) ∧ Below w.heap.size w w') : ReadsO w X x [] e w' := ⟨none, 0, 0, h.1, .inl rfl, out_nil _ _ _, h.2⟩
theorem readsO_mine {w w' : World} {X : Value} {vo : Option Addr} {m : Nat} {L : List Int} (hs : Seen w' vo m L) (hm : Mine w' w.heap.size vo m L) (hb : Below w.heap.size w w') : ReadsO w X 0 L (.returned (.tuple #[X, .slice vo m m, .int .i64 0])) w' := by
  obtain ⟨cv, ho⟩ := hm
  obtain rfl := hs.len
  obtain ⟨uo, cu, e, o⟩ := out_of rfl hs.bytes hs.top ho
  cases e
  exact ⟨_, _, _, rfl, .inr rfl, o, hb⟩
theorem readsO_own {w w' : World} {X v : Value} {n : Nat} {L : List Int} (hl : L.length = n) (hb : Bytes L) (ht : L.length ≤ 140737488355328) (ho : w'.ownsRow w.heap.size 5 1 v n (L.map (Value.int .u8))) (hbl : Below w.heap.size w w') : ReadsO w X 0 L (.returned (.tuple #[X, v, .int .i64 0])) w' := by
  subst hl
  obtain ⟨uo, cu, rfl, o⟩ := out_of rfl hb ht ho
  exact ⟨_, _, _, rfl, .inl rfl, o, hbl⟩
/-- The error and the bytes of what is laid: a message of so many bytes. -/
def tE (c : Cg) (n : Nat) (k : Int) : Int := if c.ok then if (n : Int) = k then 0 else 4 else 200
def tL {A : Type} (c : Cg) (n : Nat) (k : Int) (x y : A) : A := if c.ok then if (n : Int) = k then x else y else y
theorem t_bad {c : Cg} (h : c.ok = false) (n : Nat) (k : Int) : tE c n k = 200 ∧ ∀ {A : Type} (x y : A), tL c n k x y = y := ⟨by simp [tE, h], fun x y => by simp [tL, h]⟩
theorem t_len {c : Cg} {n : Nat} {k : Int} (h : c.ok = true) (hn : ¬ (n : Int) = k) : tE c n k = 4 ∧ ∀ {A : Type} (x y : A), tL c n k x y = y := ⟨by simp [tE, h, hn], fun x y => by simp [tL, h, hn]⟩
theorem t_ok {c : Cg} {n : Nat} {k : Int} (h : c.ok = true) (hn : (n : Int) = k) : tE c n k = 0 ∧ ∀ {A : Type} (x y : A), tL c n k x y = x := ⟨by simp [tE, h, hn], fun x y => by simp [tL, h, hn]⟩
theorem treq_both (c : Cg) (d : List Int) (hd : d.length = 16) (hdb : Bytes d) (n : Nat) (zs : List Int) : (∀ W ao cap, Seen W ao n zs → (ao = none → cap = 0) → HdlAt W → Calls Tryd.prog 20 #[c.v, .agg (u8s d).toArray, .slice ao n cap] W (LaysO W (tE c n c.ms) (tL c n c.ms (d ++ zs) []))) ∧
    (∀ W ao cap, Seen W ao n zs → n ≤ cap → Calls Tryd.prog 21 #[c.v, .agg (u8s d).toArray, .slice ao n cap] W (LaysO W (tE c n c.ms) (tL c n c.ms (d ++ zs) []))) := by
  cases hok : c.ok with
  | false =>
    rw [(t_bad hok n c.ms).1, (t_bad hok n c.ms).2]
    exact ⟨fun W ao cap _ _ _ => (talkRequest_bad c d ao n cap hok W).mono fun _ _ h => laysO_bad h, fun W ao cap _ _ => (rtalkReq_bad c d hd ao n cap hok W).mono fun _ _ h => laysO_bad h⟩
  | true =>
    by_cases hn : (n : Int) = c.ms
    · rw [(t_ok hok hn).1, (t_ok hok hn).2]
      have hm := ok_fields hok
      exact ⟨fun W ao cap hs hc _ => (talkRequest_ok c d hd hdb ao n cap zs hn hok W hs hc).mono fun _ _ h => laysO_put (bytes_app hdb hs.bytes) (by rw [List.length_append, hd, hs.len]; omega) h, fun W ao cap hs hc => (rtalkReq_ok c d hd hdb ao n cap zs hc hok hn W hs).mono fun _ _ h => laysO_lay (bytes_app hdb hs.bytes) (by rw [List.length_append, hd, hs.len]; omega) h⟩
    · rw [(t_len hok hn).1, (t_len hok hn).2]
      exact ⟨fun W ao cap _ _ hg => (talkRequest_len c d hd hdb ao n cap hn hok W hg).mono fun _ _ h => laysO_bad h, fun W ao cap _ _ => (rtalkReq_len c d hd ao n cap hok hn W).mono fun _ _ h => laysO_bad h⟩
theorem trep_both (c : Cg) (b : Bool) (n : Nat) (zs : List Int) : (∀ W ao cap, Seen W ao n zs → (ao = none → cap = 0) → HdlAt W → Calls Tryd.prog 23 #[c.v, .bool b, .slice ao n cap] W (LaysO W (tE c n c.ms) (tL c n c.ms (if b then [1] ++ zs else List.replicate (1 + n) 0) []))) ∧
    (∀ W ao cap, Seen W ao n zs → n ≤ cap → Calls Tryd.prog 24 #[c.v, .bool b, .slice ao n cap] W (LaysO W (tE c n c.ms) (tL c n c.ms (if b then [1] ++ zs else List.replicate (1 + n) 0) []))) := by
  cases hok : c.ok with
  | false =>
    rw [(t_bad hok n c.ms).1, (t_bad hok n c.ms).2]
    exact ⟨fun W ao cap _ _ _ => (talkReply_bad c b ao n cap hok W).mono fun _ _ h => laysO_bad h, fun W ao cap _ _ => (rtalkRep_bad c b ao n cap hok W).mono fun _ _ h => laysO_bad h⟩
  | true =>
    by_cases hn : (n : Int) = c.ms
    · rw [(t_ok hok hn).1, (t_ok hok hn).2]
      have hm := ok_fields hok
      have h1 : Bytes [1] := fun z hz => by simp at hz; omega
      have h0 : Bytes (List.replicate (1 + n) 0) := fun z hz => by rw [List.eq_of_mem_replicate hz]; omega
      cases b with
      | true => exact ⟨fun W ao cap hs hc _ => (talkReply_yes c ao n cap zs hn hok W hs hc).mono fun _ _ h => laysO_put (bytes_app h1 hs.bytes) (by rw [List.length_append, hs.len]; simp; omega) h, fun W ao cap hs hc => (rtalkRep_yes c ao n cap zs hc hok hn W hs).mono fun _ _ h => laysO_lay (bytes_app h1 hs.bytes) (by rw [List.length_append, hs.len]; simp; omega) h⟩
      | false => exact ⟨fun W ao cap hs hc _ => (talkReply_not c ao n cap zs hn hok W hs hc).mono fun _ _ h => laysO_put h0 (by simp; omega) h, fun W ao cap hs hc => (rtalkRep_not c ao n cap hok hn W).mono fun _ _ h => laysO_lay h0 (by simp; omega) h⟩
    · rw [(t_len hok hn).1, (t_len hok hn).2]
      exact ⟨fun W ao cap _ _ hg => by
        cases b with
        | true => exact (talkReply_len_true c ao n cap hn hok W hg).mono fun _ _ h => laysO_bad h
        | false => exact (talkReply_len_false c ao n cap hn hok W hg).mono fun _ _ h => laysO_bad h, fun W ao cap _ _ => (rtalkRep_len c b ao n cap hok hn W).mono fun _ _ h => laysO_bad h⟩
theorem ptalk_both (c : Cg) (n : Nat) (zs : List Int) : (∀ W ao cap, Seen W ao n zs → Calls Tryd.prog 25 #[c.v, .slice ao n cap] W (ReadsO W (.agg (u8s (tL c n (16 + c.ms) (zs.take 16) (zer 16))).toArray) (tE c n (16 + c.ms)) (tL c n (16 + c.ms) (zs.drop 16) []))) ∧
    (∀ W ao cap, Seen W ao n zs → n ≤ cap → Calls Tryd.prog 26 #[c.v, .slice ao n cap] W (ReadsO W (.agg (u8s (tL c n (16 + c.ms) (zs.take 16) (zer 16))).toArray) (tE c n (16 + c.ms)) (tL c n (16 + c.ms) (zs.drop 16) []))) := by
  cases hok : c.ok with
  | false =>
    rw [(t_bad hok n _).1, (t_bad hok n _).2, (t_bad hok n _).2]
    exact ⟨fun W ao cap _ => (parseTalk_no c ao n cap 200 (by simp [reqE, szE, hok]) (by decide) W).mono fun _ _ h => readsO_bad h, fun W ao cap _ _ => (rparseTalk_bad c ao n cap hok W).mono fun _ _ h => readsO_bad h⟩
  | true =>
    by_cases hn : (n : Int) = 16 + c.ms
    · rw [(t_ok hok hn).1, (t_ok hok hn).2, (t_ok hok hn).2]
      have hm := ok_fields hok
      exact ⟨fun W ao cap hs => (parseTalk_own c hok ao n cap zs hn W hs).mono fun e w' h => by
        obtain ⟨vo, m, rfl, h1, h2, h3, h4⟩ := h
        exact readsO_mine h2 h3 h4, fun W ao cap hs hc => (rparseTalk_ok c ao n cap zs hc hok hn W hs).mono fun e w' h => by
        obtain ⟨v, rfl, h2, h3⟩ := h
        exact readsO_own rfl (bytes_drop hs.bytes _) (by simp [hs.len]; omega) h2 h3⟩
    · rw [(t_len hok hn).1, (t_len hok hn).2, (t_len hok hn).2]
      exact ⟨fun W ao cap _ => (parseTalk_no c ao n cap 4 (by simp [reqE, szE, szQ, hok, hn]) (by decide) W).mono fun _ _ h => readsO_bad h, fun W ao cap _ _ => (rparseTalk_len c ao n cap hok hn W).mono fun _ _ h => readsO_bad h⟩
/-- What a reply is read as. -/
def odd (zs : List Int) (n : Nat) : Bool := !(decide (zs.getD 0 0 = 1)) && !(decide (zs = List.replicate n 0))
theorem prep_both (c : Cg) (n : Nat) (zs : List Int) : ∃ (B : Bool) (E : Int) (L : List Int), L.length ≤ 600 ∧ (∀ W ao cap, Seen W ao n zs → Calls Tryd.prog 27 #[c.v, .slice ao n cap] W (ReadsO W (.bool B) E L)) ∧
    (∀ W ao cap, Seen W ao n zs → n ≤ cap → Calls Tryd.prog 28 #[c.v, .slice ao n cap] W (ReadsO W (.bool B) E L)) := by
  cases hok : c.ok with
  | false => exact ⟨false, 200, [], by decide, fun W ao cap _ => (parseReply_bad c hok ao n cap W).mono fun _ _ h => readsO_bad h, fun W ao cap _ _ => (rparseReply_bad c ao n cap hok W).mono fun _ _ h => readsO_bad h⟩
  | true =>
    by_cases hn : (n : Int) = 1 + c.ms
    · have hm := ok_fields hok
      by_cases hz : zs.length = n
      · by_cases h1 : zs.getD 0 0 = 1
        · refine ⟨true, 0, zs.drop 1, by simp; omega, fun W ao cap hs => (parseReply_own c hok true ao n cap zs hn W hs (by simpa using h1) ?_).mono fun e w' h => ?_, fun W ao cap hs hc => (rparseReply_yes c ao n cap zs hc hok hn W hs h1).mono fun e w' h => ?_⟩
          · obtain ⟨z, rest, rfl⟩ : ∃ z rest, zs = z :: rest := by
              cases zs with
              | nil => simp at hz; omega
              | cons z rest => exact ⟨z, rest, rfl⟩
            simp at h1
            subst h1
            rfl
          · obtain ⟨vo, m, rfl, _, h2, h3, h4⟩ := h
            exact readsO_mine h2 h3 h4
          · obtain ⟨v, rfl, h2, h3⟩ := h
            exact readsO_own (by simp [hz]) (bytes_drop hs.bytes _) (by simp [hz]; omega) h2 h3
        · by_cases h0 : zs = List.replicate n 0
          · have g0 : zs.getD 0 0 = 0 := by rw [h0]; have : 0 < n := by omega
                                            simp [List.getD, this]
            refine ⟨false, 0, zs.drop 1, by simp; omega, fun W ao cap hs => (parseReply_own c hok false ao n cap zs hn W hs (by simpa using g0) (by simpa using h0.symm)).mono fun e w' h => ?_, fun W ao cap hs hc => (rparseReply_nil c ao n cap zs hc hok hn W hs g0 h0).mono fun e w' h => ?_⟩
            · obtain ⟨vo, m, rfl, _, h2, h3, h4⟩ := h
              exact readsO_mine h2 h3 h4
            · obtain ⟨v, rfl, h2, h3⟩ := h
              exact readsO_own (by simp [hz]) (bytes_drop hs.bytes _) (by simp [hz]; omega) h2 h3
          · refine ⟨false, 203, [], by decide, fun W ao cap hs => (parseReply_odd c hok ao n cap zs hn W hs h1 (fun e => h0 e.symm)).mono fun _ _ h => readsO_bad h, fun W ao cap hs hc => ?_⟩
            have hb := hs.bytes.at 0 (by omega)
            by_cases g0 : zs.getD 0 0 = 0
            · exact (rparseReply_odd c ao n cap zs hok hn W hs g0 h0).mono fun _ _ h => readsO_bad h
            · exact (rparseReply_big c ao n cap zs hok hn W hs (by omega)).mono fun _ _ h => readsO_bad h
      · exact ⟨false, 0, [], by decide, fun W ao cap hs => absurd hs.len hz, fun W ao cap hs _ => absurd hs.len hz⟩
    · exact ⟨false, 4, [], by decide, fun W ao cap _ => (parseReply_len c hok ao n cap hn W).mono fun _ _ h => readsO_bad h, fun W ao cap _ _ => (rparseReply_len c ao n cap hok hn W).mono fun _ _ h => readsO_bad h⟩
end Go.Proofs.YtmgkjldjeomcmaaDoor
