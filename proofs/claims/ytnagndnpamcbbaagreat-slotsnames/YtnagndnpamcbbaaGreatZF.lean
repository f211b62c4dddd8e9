/- Joined texts: LOpen PIs PHead PSeal POpen REqb PSheet HSmall HAgo HTurn HBef. -/
import Derived.Test.YtnagndnpamcbbaaGreatZE
import Derived.Lib.SliceRun
import Derived.WalkMore
import Derived.ScopeJumps
import Derived.Test.YtnagndnpamcbbaaGreatZA
import Derived.WalkKit
import Derived.LaidEql
import Derived.Stop.Asserts
import Derived.RowKitTokens
import Derived.Lib.IfaceEq
import Derived.Test.YtnagndnpamcbbaaGreatZB
namespace Go.Proofs.YtnagndnpamcbbaaGreat
open Go.RowKit
set_option linter.unusedVariables false
set_option linter.unusedSimpArgs false

theorem boxE_ok {n m : Nat} (h16 : 16 ≤ m) (hm : m ≤ 1048592) (hn : n ≤ 1048576) : boxE n m = 0 := by
  unfold boxE
  rw [if_neg (by omega), if_neg (by omega)]
theorem clear_own {B n : Nat} {zs : List Int} {v : Value} {W : World} (h : isO B n zs v W) (hl : zs.length = n) : ∃ W', (∀ ty, (Builtin.clear_ #[67] ty #[v]).run Tryz.prog W = .ok (.tuple #[]) W') ∧ Kept (fun k => B ≤ k) W W' := by
  rcases own_len hl h with ⟨rfl, rfl⟩ | ⟨g, cap, rfl, hr, hg, _, _⟩
  · exact ⟨W, fun ty => by simp [Builtin.clear_, run_underlying Tryz.underlying67], Kept.refl _ _⟩
  · rcases Nat.eq_zero_or_pos n with rfl | h0
    · exact ⟨W, fun ty => by simp [Builtin.clear_, run_underlying Tryz.underlying67], Kept.refl _ _⟩
    · refine ⟨_, fun ty => Lib.run_clear_slice W 67 5 ty (.int .u8 0) Tryz.underlying67 (zero_of_info infoByte).1 rfl rfl g 0 n cap h0 (fun j hj => ?_) (fun j hj => ?_), (Kept.refl _ _).setCells hg _ _⟩
      · rw [Nat.zero_add, hr.cell j (by omega)]; rfl
      · exact hr.frozen _
set_option maxRecDepth 20000 in
set_option maxHeartbeats 1000000 in
theorem open_bad (key nonce : List Int) (n c m d : Nat) (ao bo : Option Addr) (t1 : n ≤ 140737488355328) (t2 : m ≤ 140737488355328) (E : Int) (hE : boxE n m = E) (h0 : E ≠ 0) (w : World) :
    Calls Tryz.prog 155 #[.agg (u8s key).toArray, .agg (u8s nonce).toArray, .slice ao n c, .slice bo m d] w fun e w' => e = .returned (.tuple #[.slice none 0 0, .int .i64 E]) ∧ Below w.heap.size w w' := by
  have q0 : (E != 0) = true := by simp [h0]
  go_enter Tryz.func155, Tryz.ntmps155
  go_wp2_with (first | (refine wpList_box_new rfl 42 _ rfl (u8s key) rfl ?_; intro w1 b1 s1 l1) | (refine wpList_box_new rfl 147 _ rfl (u8s nonce) rfl ?_; intro w2 b2 s2 l2))
  refine wp_scope_jumps 0 (fun a' w' => ∃ (u0 u1 u2 u3 u4 u5 u6 u7 u8 u9 u11 u13 u14 u15 u16 u17 u18 u19 u20 u21 u22 u23 u24 u25 u26 u27 u28 u29 u30 : Value), a' = { tmps := #[u0, u1, u2, u3, u4, u5, u6, u7, u8, u9, .slice none 0 0, u11, .int .i64 E, u13, u14, u15, u16, u17, u18, u19, u20, u21, u22, u23, u24, u25, u26, u27, u28, u29, u30], defers := [] } ∧ ∃ W, (∀ ty, (Builtin.clear_ #[67] ty #[.slice none 0 0]).run Tryz.prog w' = .ok (.tuple #[]) W) ∧ Below w.heap.size w W) (fun _ _ => 0) rfl ?_ ?_
  · go_wp2_with (first | (go_at_call 182; refine (checkBox_any ao bo n c m d t1 t2 _).mono ?_; rintro e w' ⟨rfl, rfl⟩; rw [hE]))
    go_step3
    refine ⟨rfl, _, _, _, _, _, _, _, _, _, _, _, _, _, _, _, _, _, _, _, _, _, _, _, _, _, _, _, _, _, rfl, _, fun ty => ?_, below_chain l1 l2 (by omega)⟩
    simp [Builtin.clear_, run_underlying Tryz.underlying67]
  · rintro a' w' ⟨u0, u1, u2, u3, u4, u5, u6, u7, u8, u9, u11, u13, u14, u15, u16, u17, u18, u19, u20, u21, u22, u23, u24, u25, u26, u27, u28, u29, u30, rfl, W, hcl, hbel⟩
    go_wp2_with fail
    try simp only [Exit.jump]
    go_ret2
    exact ⟨rfl, hbel⟩
set_option maxRecDepth 20000 in
set_option maxHeartbeats 1000000 in
theorem open_no (key nonce : List Int) (n c m d : Nat) (ao bo : Option Addr) (ms zs : List Int) (hk : key.length = 32) (hno : nonce.length = 12) (hkb : Bytes key) (hnb : Bytes nonce) (h16 : 16 ≤ m) (hm : m ≤ 1048592) (hn : n ≤ 1048576) (w : World) (hx : Seen w ao n ms) (hy : Seen w bo m zs) (hc : n ≤ c) (hd : m ≤ d) (hO : opensL key nonce ms zs = false) :
    Calls Tryz.prog 155 #[.agg (u8s key).toArray, .agg (u8s nonce).toArray, .slice ao n c, .slice bo m d] w fun e w' => e = .returned (.tuple #[.slice none 0 0, .int .i64 70]) ∧ Below w.heap.size w w' := by
  have HX : Hid (Seen w ao n ms ∧ Seen w bo m zs ∧ n ≤ c ∧ m ≤ d) := ⟨hx, hy, hc, hd⟩
  have HS : Hid (key.length = 32 ∧ nonce.length = 12 ∧ Bytes key ∧ Bytes nonce) := ⟨hk, hno, hkb, hnb⟩
  have t1 := hx.top
  have t2 := hy.top
  have hE := boxE_ok h16 hm hn
  have HL : Hid ((textL key nonce zs).length = m - 16) := by show _ = _; rw [textL_length, hy.len]
  clear hx hy hk hno hkb hnb hc hd
  go_enter Tryz.func155, Tryz.ntmps155
  go_wp2_with (first | (refine wpList_box_new rfl 42 _ rfl (u8s key) rfl ?_; intro w1 b1 s1 l1) | (refine wpList_box_new rfl 147 _ rfl (u8s nonce) rfl ?_; intro w2 b2 s2 l2))
  refine wp_scope_jumps 0 (fun a' w' => ∃ (T : Value) (u0 u1 u2 u3 u4 u5 u6 u7 u8 u9 u11 u13 u14 u15 u16 u17 u18 u19 u20 u21 u22 u23 u24 u25 u26 u27 u28 u29 u30 : Value), a' = { tmps := #[u0, u1, u2, u3, u4, u5, u6, u7, u8, u9, T, u11, .int .i64 70, u13, u14, u15, u16, u17, u18, u19, u20, u21, u22, u23, u24, u25, u26, u27, u28, u29, u30], defers := [] } ∧ ∃ W, (∀ ty, (Builtin.clear_ #[67] ty #[T]).run Tryz.prog w' = .ok (.tuple #[]) W) ∧ Below w.heap.size w W) (fun _ _ => 0) rfl ?_ ?_
  · go_wp2_with (first | (refine wpList_load_blk rfl 42 _ rfl _ rfl (u8s key) _ (by first | exact b1.later l2 (by omega)) Tryz.underlying42 rfl (by rw [u8s_length, HS.out.1]; exact sizeKey) ?_) | (refine wpList_load_blk rfl 147 _ rfl _ rfl (u8s nonce) _ (by first | exact b2 | (rw [← s1]; exact b2)) Tryz.underlying147 rfl (by rw [u8s_length, HS.out.2.1]; exact sizeNonce) ?_) | (go_at_call 182; refine (checkBox_any ao bo n c m d t1 t2 _).mono ?_; rintro e w' ⟨rfl, rfl⟩; rw [hE]) | (go_at_call 183; refine (uncovered_any key nonce n c m d ao bo ms zs HS.out.1 HS.out.2.1 HS.out.2.2.1 HS.out.2.2.2 h16 hm _ (HX.out.1.later (below_chain l1 l2 (by omega)) (Nat.le_refl _)) (HX.out.2.1.later (below_chain l1 l2 (by omega)) (Nat.le_refl _)) HX.out.2.2.1 HX.out.2.2.2).mono ?_; rintro e w3 ⟨v, rfl, o3, l3⟩; rw [hO]; have HO : Hid (isO w2.heap.size (m - 16) (textL key nonce zs) v w3 ∧ Below w.heap.size w w3 ∧ w.heap.size ≤ w2.heap.size) := ⟨o3, below_chain (below_chain l1 l2 (by omega)) l3 (by omega), by omega⟩; clear o3 l3))
    go_step3
    obtain ⟨W, hcl, hkp⟩ := clear_own HO.out.1 HL.out
    exact ⟨rfl, _, _, _, _, _, _, _, _, _, _, _, _, _, _, _, _, _, _, _, _, _, _, _, _, _, _, _, _, _, _, rfl, W, hcl, below_kept HO.out.2.1 hkp HO.out.2.1.size (fun j hj => by have := HO.out.2.2; omega)⟩
  · rintro a' w' ⟨T, u0, u1, u2, u3, u4, u5, u6, u7, u8, u9, u11, u13, u14, u15, u16, u17, u18, u19, u20, u21, u22, u23, u24, u25, u26, u27, u28, u29, u30, rfl, W, hcl, hbel⟩
    go_wp2_with fail
    try simp only [Exit.jump]
    go_ret2
    exact ⟨rfl, hbel⟩
set_option maxRecDepth 20000 in
set_option maxHeartbeats 1000000 in
theorem open_yes (key nonce : List Int) (n c m d : Nat) (ao bo : Option Addr) (ms zs : List Int) (hk : key.length = 32) (hno : nonce.length = 12) (hkb : Bytes key) (hnb : Bytes nonce) (h16 : 16 ≤ m) (hm : m ≤ 1048592) (hn : n ≤ 1048576) (w : World) (hx : Seen w ao n ms) (hy : Seen w bo m zs) (hc : n ≤ c) (hd : m ≤ d) (hO : opensL key nonce ms zs = true) :
    Calls Tryz.prog 155 #[.agg (u8s key).toArray, .agg (u8s nonce).toArray, .slice ao n c, .slice bo m d] w fun e w' => ∃ v, e = .returned (.tuple #[v, .int .i64 0]) ∧ isO w.heap.size (m - 16) (textL key nonce zs) v w' ∧ Below w.heap.size w w' := by
  have HX : Hid (Seen w ao n ms ∧ Seen w bo m zs ∧ n ≤ c ∧ m ≤ d) := ⟨hx, hy, hc, hd⟩
  have HS : Hid (key.length = 32 ∧ nonce.length = 12 ∧ Bytes key ∧ Bytes nonce) := ⟨hk, hno, hkb, hnb⟩
  have t1 := hx.top
  have t2 := hy.top
  have hE := boxE_ok h16 hm hn
  have HL : Hid ((textL key nonce zs).length = m - 16) := by show _ = _; rw [textL_length, hy.len]
  clear hx hy hk hno hkb hnb hc hd
  go_enter Tryz.func155, Tryz.ntmps155
  go_wp2_with (first | (refine wpList_box_new rfl 42 _ rfl (u8s key) rfl ?_; intro w1 b1 s1 l1) | (refine wpList_box_new rfl 147 _ rfl (u8s nonce) rfl ?_; intro w2 b2 s2 l2))
  go_step3
  go_wp2_with (first | (refine wpList_load_blk rfl 42 _ rfl _ rfl (u8s key) _ (by first | exact b1.later l2 (by omega)) Tryz.underlying42 rfl (by rw [u8s_length, HS.out.1]; exact sizeKey) ?_) | (refine wpList_load_blk rfl 147 _ rfl _ rfl (u8s nonce) _ (by first | exact b2 | (rw [← s1]; exact b2)) Tryz.underlying147 rfl (by rw [u8s_length, HS.out.2.1]; exact sizeNonce) ?_) | (go_at_call 182; refine (checkBox_any ao bo n c m d t1 t2 _).mono ?_; rintro e w' ⟨rfl, rfl⟩; rw [hE]) | (go_at_call 183; refine (uncovered_any key nonce n c m d ao bo ms zs HS.out.1 HS.out.2.1 HS.out.2.2.1 HS.out.2.2.2 h16 hm _ (HX.out.1.later (below_chain l1 l2 (by omega)) (Nat.le_refl _)) (HX.out.2.1.later (below_chain l1 l2 (by omega)) (Nat.le_refl _)) HX.out.2.2.1 HX.out.2.2.2).mono ?_; rintro e w3 ⟨v, rfl, o3, l3⟩; rw [hO]; have HO : Hid (isO w2.heap.size (m - 16) (textL key nonce zs) v w3 ∧ Below w.heap.size w w3 ∧ w.heap.size ≤ w2.heap.size) := ⟨o3, below_chain (below_chain l1 l2 (by omega)) l3 (by omega), by omega⟩; clear o3 l3))
  try rw [Exit.noGoto_ret]
  go_ret2
  exact ⟨_, rfl, ownsRow_base HO.out.1 HO.out.2.2, HO.out.2.1⟩
end Go.Proofs.YtnagndnpamcbbaaGreat

namespace Go.Proofs.YtnagndnpamcbbaaGreat
open Go.RowKit Go.Extern.Stop Go.Stop Go.Extern
set_option linter.unusedVariables false

theorem isTypeOf (v : Value) (w : World) : (Extern.ReflectliteType.typeOf #[.iface 22 v]).run Tryz.prog w = .ok (.iface 265 (.agg #[.pointer (some ⟨0, 22, none⟩)])) w := by kernel_rfl
/-- What the model answers to Comparable. -/
def cmpF : Array Value → Sem Value := Extern.ReflectliteType.method fun t => do Go.Extern.Rtype.noPackHeld "Comparable" t; pure (.bool (← typeInfo t).comparable)
theorem isComparable (w : World) : (cmpF #[.agg #[.pointer (some ⟨0, 22, none⟩)]]).run Tryz.prog w = .ok (.bool true) w := by kernel_rfl
theorem isMethodComparable (v : Value) (w : World) : (Go.method 490 265 v "Comparable").run Tryz.prog w = .ok (299, v) w := by kernel_rfl
theorem noIsE (v : Value) (xT : TypeId) (w : World) : (Instr.typeAssert (.iface 22 v) xT 267 true).run Tryz.prog w = .ok (.tuple #[.nilIface, .bool false]) w := run_typeAssert_lacksB Tryz.underlying267 (by kernel_rfl) (by kernel_rfl) v xT w
theorem noUnwrapE (v : Value) (xT : TypeId) (w : World) : (Instr.typeAssert (.iface 22 v) xT 270 true).run Tryz.prog w = .ok (.tuple #[.nilIface, .bool false]) w := run_typeAssert_lacksB Tryz.underlying270 (by kernel_rfl) (by kernel_rfl) v xT w
theorem noUnwrapsE (v : Value) (xT : TypeId) (w : World) : (Instr.typeAssert (.iface 22 v) xT 272 true).run Tryz.prog w = .ok (.tuple #[.nilIface, .bool false]) w := run_typeAssert_lacksB Tryz.underlying272 (by kernel_rfl) (by kernel_rfl) v xT w

/-- errors.Is of two numbers: are they the same? -/
theorem is_any (a : Int) (w : World) :
    Calls Tryz.prog 147 #[.iface 22 (.int .i64 a), .iface 22 (.int .i64 0)] w fun e w' => e = .returned (.bool (a == 0)) ∧ w' = w := by
  have h8 := @run_callFunc_extern Tryz.prog 171 _ Extern.ReflectliteType.typeOf Tryz.func171 (by kernel_rfl) (by kernel_rfl) (by kernel_rfl) (by kernel_rfl)
  have h32 := @run_callFunc_extern Tryz.prog 299 _ cmpF Tryz.func299 (by kernel_rfl) (by kernel_rfl) (by kernel_rfl) (by kernel_rfl)
  have tT := isTypeOf
  have cT := isComparable
  have mR := isMethodComparable
  have nE := noIsE
  have uE := noUnwrapE
  have vE := noUnwrapsE
  have heq := fun w => Go.Lib.run_eql_iface_int (P := Tryz.prog) w (t := 240) (tx := 22) (k := .i64) a 0 Tryz.underlying240 (by kernel_rfl) Tryz.underlying22
  by_cases h : a = 0
  · subst h
    have heq0 : ∀ w, (binOp .eql 240 (.iface 22 (.int .i64 0)) (.iface 22 (.int .i64 0))).run Tryz.prog w = .ok (.bool true) w := heq
    clear heq
    go_enter Tryz.func147, Tryz.ntmps147
    go_wp2
    refine wp_loop_rounds 1 ?_
    rw [rounds_succ]
    go_wp2
    go_ret
    exact ⟨rfl, rfl⟩
  · have hf : (a == 0) = false := by simpa using h
    rw [hf] at heq
    rw [hf]
    clear hf h
    go_enter Tryz.func147, Tryz.ntmps147
    go_wp2
    refine wp_loop_rounds 1 ?_
    rw [rounds_succ]
    go_wp2
    go_ret
    exact ⟨rfl, rfl⟩
end Go.Proofs.YtnagndnpamcbbaaGreat

namespace Go.Proofs.YtnagndnpamcbbaaGreat
open Go.RowKit
set_option linter.unusedVariables false
set_option linter.unusedSimpArgs false

theorem pzNonce : (Tryz.prog.info? 147).map (fun i => (i.zero, i.size)) = some (some (.agg (u8s (List.replicate 12 0)).toArray), 12) := by kernel_rfl
def U32 (x : Int) : Prop := 0 ≤ x ∧ x < 4294967296
/-- A place's cells. -/
def placeC (r c p q : Int) : List Value := [.int .u64 r, .int .u32 c, .int .u32 p, .int .u32 q]
def hdL (r c : Int) : List Int := leB 8 r ++ leB 4 c
def moL (p q : Int) : List Int := leB 4 p ++ leB 4 q
theorem hdL_length (r c : Int) : (hdL r c).length = 12 := by rw [hdL, List.length_append, leB_length, leB_length]
theorem moL_length (r c : Int) : (moL r c).length = 8 := by rw [moL, List.length_append, leB_length, leB_length]
theorem bytes_app' {a b : List Int} (h : Bytes a) (k : Bytes b) : Bytes (a ++ b) := fun z hz => (List.mem_append.1 hz).elim (h z) (k z)
theorem hdL_bytes (r c : Int) : Bytes (hdL r c) := bytes_app' (leB_bytes _ _) (leB_bytes _ _)
theorem moL_bytes (r c : Int) : Bytes (moL r c) := bytes_app' (leB_bytes _ _) (leB_bytes _ _)
/-- A pointer to bytes of the call's own. -/
def isPn (H : List Int) (v : Value) (w : World) : Prop := ∃ g, v = .pointer (some ⟨g, 0, none⟩) ∧ RowAt w g H
theorem isPn_later (H : List Int) : ∀ v w w', Below w.heap.size w w' → isPn H v w → isPn H v w' := fun _ _ _ hb ⟨g, h1, h2⟩ => ⟨g, h1, h2.block (hb.block g h2.lt)⟩
theorem Does.arrayAt {base : Nat} {E : Exp} {ρ : Operand → Value} {o : Oper} {w : World} (t : TypeId) (x : Operand) (ho : o.op = .sliceToArrayPointer t x) (v u : Value) (hx : ρ x = v) (hrun : (Instr.arrayAt t v).run Tryz.prog w = .ok u w) (hE : E.ok base u w) : Does base E ρ o w := by
  refine Does.value u ?_ hE
  unfold execOp
  simp only [ho, hx, Sem.run_bind, hrun, Sem.run_pure, Result.andThen_ok]
theorem at12 (g cap : Nat) (w : World) : (Instr.arrayAt 147 (.slice (some ⟨g, 0, none⟩) 12 cap)).run Tryz.prog w = .ok (.pointer (some ⟨g, 0, none⟩)) w := by kernel_rfl
theorem own_row {w : World} {base n : Nat} {v : Value} {zs : List Int} (hl : zs.length = n) (hn : 0 < n) (h : isO base n zs v w) : ∃ g cap, v = .slice (some ⟨g, 0, none⟩) n cap ∧ RowAt w g zs ∧ base ≤ g := by
  subst hl
  rcases own_cases h with ⟨_, h0⟩ | ⟨g, cap, rfl, hr, hg, _⟩
  · rw [h0] at hn; cases hn
  · exact ⟨g, cap, rfl, hr, hg⟩
theorem range_row {w : World} {g : Nat} {zs : List Int} (h : RowAt w g zs) : w.rangeAt g 0 (u8s zs) := fun j u hj => by
  obtain ⟨hj', e⟩ := List.getElem?_eq_some_iff.1 hj
  rw [u8s_length] at hj'
  rw [Nat.zero_add, h.cell j hj', ← e]
  simp [u8s, List.getD, hj']
theorem put64_own (r : Int) (hr : Word r) (W : World) : Calls Tryz.prog 168 #[.slice none 0 0, .int .u64 r] W fun e w' => ∃ v, e = .returned v ∧ isO W.heap.size 8 (leB 8 r) v w' ∧ Below W.heap.size W w' := by
  have h := put_64 none 0 0 [] r W (Seen.empty _ _) (fun _ => rfl) (by decide) hr
  rwa [List.nil_append, Nat.zero_add] at h
theorem put32_own (r : Int) (hr : U32 r) (W : World) : Calls Tryz.prog 167 #[.slice none 0 0, .int .u32 r] W fun e w' => ∃ v, e = .returned v ∧ isO W.heap.size 4 (leB 4 r) v w' ∧ Below W.heap.size W w' := by
  have h := put_32 none 0 0 [] r W (Seen.empty _ _) (fun _ => rfl) (by decide) hr
  rwa [List.nil_append, Nat.zero_add] at h
theorem put32_on (v : Value) (B n : Nat) (zs : List Int) (hn : zs.length = n) (hb : Bytes zs) (ht : n ≤ 100) (r : Int) (hr : U32 r) (W : World) (o : isO B n zs v W) : Calls Tryz.prog 167 #[v, .int .u32 r] W fun e w' => ∃ v, e = .returned v ∧ isO W.heap.size (n + 4) (zs ++ leB 4 r) v w' ∧ Below W.heap.size W w' := by
  subst hn
  obtain ⟨vo, cap, rfl, h1, h2, h3, _⟩ := own_data hb (by omega) o
  exact put_32 vo _ cap zs r W h1 h3 (by omega) hr

set_option maxRecDepth 20000 in
set_option maxHeartbeats 1000000 in
theorem headOf_any (r c p q : Int) (hr : Word r) (hc : U32 c) (w : World) :
    Calls Tryz.prog 144 #[.agg (placeC r c p q).toArray] w fun e w' => e = .returned (.agg (u8s (hdL r c)).toArray) ∧ Below w.heap.size w w' := by
  have HR : Hid (Word r ∧ U32 c) := ⟨hr, hc⟩
  obtain ⟨H, hH⟩ : ∃ H, hdL r c = H := ⟨_, rfl⟩
  have HH : Hid (leB 8 r ++ leB 4 c = H ∧ H.length = 12) := ⟨hH, by rw [← hH]; exact hdL_length r c⟩
  rw [hH]
  clear hr hc hH
  go_enter Tryz.func144, Tryz.ntmps144
  go_wp2_with (first | (refine wpList_box_new rfl 184 _ rfl (placeC r c p q) rfl ?_; intro w1 b1 s1 l1) | (refine wpList_alloc_new rfl 147 rfl 12 _ pzNonce ?_; intro w2 b2 s2 l2))
  have V : Hid (Below w.heap.size w w2 ∧ Blk w2 w.heap.size 184 (placeC r c p q) ∧ Blk w2 w1.heap.size 147 (u8s (List.replicate 12 0)) ∧ w.heap.size ≤ w1.heap.size) := ⟨below_chain l1 l2 (by omega), b1.later l2 (by omega), b2, by omega⟩
  clear b1 s2 l1 b2 l2 s1
  refine region_inv [.val (.pointer (some ⟨w.heap.size, 0, none⟩)), .val (.int .u64 r), .any (isO w.heap.size 8 (leB 8 r)) (isO_later _ _ _), .val (.pointer (some ⟨w.heap.size, 1, none⟩)), .val (.int .u32 c), .any (isO w.heap.size 12 H) (isO_later _ _ _), .any (isPn H) (isPn_later H), .val (.agg (u8s H).toArray)] (by kernel_rfl) (by kernel_rfl) (by kernel_rfl) ?_ ?_
  · refine Steps'.cons ?_ (Steps'.cons ?_ (Steps'.cons ?_ (Steps'.cons ?_ (Steps'.cons ?_ (Steps'.cons ?_ (Steps'.cons ?_ (Steps'.cons ?_ (Steps'.one _ _ _ _ _ _ _))))))))
    · intro ax wx hb hs hd
      have h1 : ax.tmps.getD 1 undef = (.pointer (some ⟨w.heap.size, 0, none⟩)) := hs 1 (by kernel_rfl)
      refine Does.value (.pointer (some ⟨w.heap.size, 0, none⟩)) ?_ rfl
      clear hs hd
      go_simp
    · intro ax wx hb hs hd
      have h3 : ax.tmps.getD 3 undef = (.pointer (some ⟨w.heap.size, 0, none⟩)) := hd 0 3 rfl (by kernel_rfl) (by decide)
      have cx : wx.cell? ⟨w.heap.size, 0, none⟩ = some (.int .u64 r) := (V.out.2.1.later hb V.out.2.1.lt).cell 0
      refine Does.value (.int .u64 r) ?_ rfl
      clear hs hd
      go_simp
    · intro ax wx hb hs hd
      have h4 : ax.tmps.getD 4 undef = (.int .u64 r) := hd 1 4 rfl (by kernel_rfl) (by decide)
      refine Does.call 168 #[.slice none 0 0, .int .u64 r] (by clear hs hd; go_simp) ?_
      refine (put64_own r HR.out.1 wx).mono ?_
      rintro e w' ⟨v, rfl, o, l⟩
      exact ⟨_, rfl, ownsRow_base o (by have := hb.size; have := V.out.1.size; omega), l⟩
    · intro ax wx hb hs hd
      have h1 : ax.tmps.getD 1 undef = (.pointer (some ⟨w.heap.size, 0, none⟩)) := hs 1 (by kernel_rfl)
      refine Does.value (.pointer (some ⟨w.heap.size, 1, none⟩)) ?_ rfl
      clear hs hd
      go_simp
    · intro ax wx hb hs hd
      have h6 : ax.tmps.getD 6 undef = (.pointer (some ⟨w.heap.size, 1, none⟩)) := hd 3 6 rfl (by kernel_rfl) (by decide)
      have cx : wx.cell? ⟨w.heap.size, 1, none⟩ = some (.int .u32 c) := (V.out.2.1.later hb V.out.2.1.lt).cell 1
      refine Does.value (.int .u32 c) ?_ rfl
      clear hs hd
      go_simp
    · intro ax wx hb hs hd
      have h7 : ax.tmps.getD 7 undef = (.int .u32 c) := hd 4 7 rfl (by kernel_rfl) (by decide)
      have p5 : isO w.heap.size 8 (leB 8 r) (ax.tmps.getD 5 undef) wx := hd 2 5 rfl (by kernel_rfl) (by decide)
      obtain ⟨v5, h5⟩ : ∃ v, ax.tmps.getD 5 undef = v := ⟨_, rfl⟩
      rw [h5] at p5
      refine Does.call 167 #[v5, .int .u32 c] (by clear hs hd; go_simp) ?_
      refine (put32_on v5 _ 8 (leB 8 r) (leB_length _ _) (leB_bytes _ _) (by decide) c HR.out.2 wx p5).mono ?_
      rintro e w' ⟨v, rfl, o, l⟩
      rw [HH.out.1] at o
      exact ⟨_, rfl, ownsRow_base o (by have := hb.size; have := V.out.1.size; omega), l⟩
    · intro ax wx hb hs hd
      have p8 : isO w.heap.size 12 H (ax.tmps.getD 8 undef) wx := hd 5 8 rfl (by kernel_rfl) (by decide)
      obtain ⟨g, cap, h8, hrow, _⟩ := own_row HH.out.2 (by decide) p8
      exact Does.arrayAt 147 (.tmp 8) rfl _ _ h8 (at12 g cap wx) ⟨g, rfl, hrow⟩
    · intro ax wx hb hs hd
      obtain ⟨g, h9, hrow⟩ : isPn H (ax.tmps.getD 9 undef) wx := hd 6 9 rfl (by kernel_rfl) (by decide)
      exact Does.load 147 (.tmp 9) rfl g 0 h9 (u8s H) _ (range_row hrow) Tryz.underlying147 rfl (by rw [u8s_length, HH.out.2]; exact sizeNonce)
  · intro wx hb
    refine @Ends.val _ _ _ _ _ _ _ _ _ (.pointer (some ⟨w.heap.size, 0, none⟩)) rfl ?_
    refine @Ends.val _ _ _ _ _ _ _ _ _ (.int .u64 r) rfl ?_
    refine @Ends.any _ _ _ _ _ _ _ _ _ (isO w.heap.size 8 (leB 8 r)) (isO_later _ _ _) rfl ?_
    intro v2 p2
    refine @Ends.val _ _ _ _ _ _ _ _ _ (.pointer (some ⟨w.heap.size, 1, none⟩)) rfl ?_
    refine @Ends.val _ _ _ _ _ _ _ _ _ (.int .u32 c) rfl ?_
    refine @Ends.any _ _ _ _ _ _ _ _ _ (isO w.heap.size 12 H) (isO_later _ _ _) rfl ?_
    intro v5 p5
    refine @Ends.any _ _ _ _ _ _ _ _ _ (isPn H) (isPn_later H) rfl ?_
    intro v6 p6
    refine @Ends.val _ _ _ _ _ _ _ _ _ (.agg (u8s H).toArray) rfl ?_
    refine @Ends.one _ _ _ _ _ _ _ ?_
    simp only [Act.put, List.setIfInBounds_toArray, List.set_cons_zero, List.set_cons_succ]
    have B := V.out.2.2.1.later hb V.out.2.2.1.lt
    have q0 := V.out.2.2.2
    refine last_store 147 (.tmp 2) (.tmp 10) rfl rfl w1.heap.size rfl 147 _ (u8s H) rfl B (by rw [u8s_length, HH.out.2]; rfl) (by rw [u8s_length, HH.out.2]; exact sizeNonce) (u8s_one _) ?_
    intro y6 b6 s6 k6
    have q1 := V.out.1.size
    have q2 := hb.size
    have L : Below w.heap.size w y6 := below_kept (below_chain V.out.1 hb (by omega)) k6 (by omega) (fun j hj => by omega)
    clear p2 p5 p6
    go_wp2
    exact ret_blk rfl w1.heap.size (u8s H) _ rfl b6 Tryz.underlying147 rfl (by rw [u8s_length, HH.out.2]; exact sizeNonce) rfl ⟨rfl, L⟩

set_option maxRecDepth 20000 in
set_option maxHeartbeats 1000000 in
theorem vouch_any (r c p q : Int) (hp : U32 p) (hq : U32 q) (w : World) :
    Calls Tryz.prog 146 #[.agg (placeC r c p q).toArray] w fun e w' => ∃ v, e = .returned v ∧ isO w.heap.size 8 (moL p q) v w' ∧ Below w.heap.size w w' := by
  have HR : Hid (U32 p ∧ U32 q) := ⟨hp, hq⟩
  obtain ⟨H, hH⟩ : ∃ H, moL p q = H := ⟨_, rfl⟩
  have HH : Hid (leB 4 p ++ leB 4 q = H ∧ H.length = 8) := ⟨hH, by rw [← hH]; exact moL_length p q⟩
  rw [hH]
  clear hp hq hH
  go_enter Tryz.func146, Tryz.ntmps146
  go_wp2_with (first | (refine wpList_box_new rfl 184 _ rfl (placeC r c p q) rfl ?_; intro w1 b1 s1 l1))
  have V : Hid (Below w.heap.size w w1 ∧ Blk w1 w.heap.size 184 (placeC r c p q)) := ⟨l1, b1⟩
  clear b1 l1 s1
  refine region_inv [.val (.pointer (some ⟨w.heap.size, 2, none⟩)), .val (.int .u32 p), .any (isO w.heap.size 4 (leB 4 p)) (isO_later _ _ _), .val (.pointer (some ⟨w.heap.size, 3, none⟩)), .val (.int .u32 q), .any (isO w.heap.size 8 H) (isO_later _ _ _)] (by kernel_rfl) (by kernel_rfl) (by kernel_rfl) ?_ ?_
  · refine Steps'.cons ?_ (Steps'.cons ?_ (Steps'.cons ?_ (Steps'.cons ?_ (Steps'.cons ?_ (Steps'.cons ?_ (Steps'.one _ _ _ _ _ _ _))))))
    · intro ax wx hb hs hd
      have h1 : ax.tmps.getD 1 undef = (.pointer (some ⟨w.heap.size, 0, none⟩)) := hs 1 (by kernel_rfl)
      refine Does.value (.pointer (some ⟨w.heap.size, 2, none⟩)) ?_ rfl
      clear hs hd
      go_simp
    · intro ax wx hb hs hd
      have h3 : ax.tmps.getD 3 undef = (.pointer (some ⟨w.heap.size, 2, none⟩)) := hd 0 3 rfl (by kernel_rfl) (by decide)
      have cx : wx.cell? ⟨w.heap.size, 2, none⟩ = some (.int .u32 p) := (V.out.2.later hb V.out.2.lt).cell 2
      refine Does.value (.int .u32 p) ?_ rfl
      clear hs hd
      go_simp
    · intro ax wx hb hs hd
      have h4 : ax.tmps.getD 4 undef = (.int .u32 p) := hd 1 4 rfl (by kernel_rfl) (by decide)
      refine Does.call 167 #[.slice none 0 0, .int .u32 p] (by clear hs hd; go_simp) ?_
      refine (put32_own p HR.out.1 wx).mono ?_
      rintro e w' ⟨v, rfl, o, l⟩
      exact ⟨_, rfl, ownsRow_base o (by have := hb.size; have := V.out.1.size; omega), l⟩
    · intro ax wx hb hs hd
      have h1 : ax.tmps.getD 1 undef = (.pointer (some ⟨w.heap.size, 0, none⟩)) := hs 1 (by kernel_rfl)
      refine Does.value (.pointer (some ⟨w.heap.size, 3, none⟩)) ?_ rfl
      clear hs hd
      go_simp
    · intro ax wx hb hs hd
      have h6 : ax.tmps.getD 6 undef = (.pointer (some ⟨w.heap.size, 3, none⟩)) := hd 3 6 rfl (by kernel_rfl) (by decide)
      have cx : wx.cell? ⟨w.heap.size, 3, none⟩ = some (.int .u32 q) := (V.out.2.later hb V.out.2.lt).cell 3
      refine Does.value (.int .u32 q) ?_ rfl
      clear hs hd
      go_simp
    · intro ax wx hb hs hd
      have h7 : ax.tmps.getD 7 undef = (.int .u32 q) := hd 4 7 rfl (by kernel_rfl) (by decide)
      have p5 : isO w.heap.size 4 (leB 4 p) (ax.tmps.getD 5 undef) wx := hd 2 5 rfl (by kernel_rfl) (by decide)
      obtain ⟨v5, h5⟩ : ∃ v, ax.tmps.getD 5 undef = v := ⟨_, rfl⟩
      rw [h5] at p5
      refine Does.call 167 #[v5, .int .u32 q] (by clear hs hd; go_simp) ?_
      refine (put32_on v5 _ 4 (leB 4 p) (leB_length _ _) (leB_bytes _ _) (by decide) q HR.out.2 wx p5).mono ?_
      rintro e w' ⟨v, rfl, o, l⟩
      rw [HH.out.1] at o
      exact ⟨_, rfl, ownsRow_base o (by have := hb.size; have := V.out.1.size; omega), l⟩
  · intro wx hb
    refine @Ends.val _ _ _ _ _ _ _ _ _ (.pointer (some ⟨w.heap.size, 2, none⟩)) rfl ?_
    refine @Ends.val _ _ _ _ _ _ _ _ _ (.int .u32 p) rfl ?_
    refine @Ends.any _ _ _ _ _ _ _ _ _ (isO w.heap.size 4 (leB 4 p)) (isO_later _ _ _) rfl ?_
    intro v2 p2
    refine @Ends.val _ _ _ _ _ _ _ _ _ (.pointer (some ⟨w.heap.size, 3, none⟩)) rfl ?_
    refine @Ends.val _ _ _ _ _ _ _ _ _ (.int .u32 q) rfl ?_
    refine @Ends.any _ _ _ _ _ _ _ _ _ (isO w.heap.size 8 H) (isO_later _ _ _) rfl ?_
    intro v5 p5
    refine @Ends.one _ _ _ _ _ _ _ ?_
    simp only [Act.put, List.setIfInBounds_toArray, List.set_cons_zero, List.set_cons_succ]
    have HE : Hid (isO w.heap.size 8 H v5 wx ∧ Below w.heap.size w wx) := ⟨p5, below_chain V.out.1 hb V.out.1.size⟩
    clear p2 p5
    refine last_assign (.tmp 8) rfl (some 2) rfl v5 rfl ?_
    simp only [Act.put, List.setIfInBounds_toArray, List.set_cons_zero, List.set_cons_succ]
    go_wp2
    go_ret
    exact ⟨_, rfl, HE.out.1, HE.out.2⟩
end Go.Proofs.YtnagndnpamcbbaaGreat

namespace Go.Proofs.YtnagndnpamcbbaaGreat
open Go.RowKit
set_option linter.unusedVariables false
set_option linter.unusedSimpArgs false

/-- What a page's first bytes tell. -/
def tellR (zs : List Int) : Int := le (zs.take 8)
def tellC (zs : List Int) : Int := le ((zs.drop 8).take 4)
set_option maxRecDepth 20000 in
theorem phead_bad (ao : Option Addr) (n c : Nat) (hn : n < 28) (w : World) :
    Calls Tryz.prog 154 #[.slice ao n c] w fun e w' => e = .returned (.tuple #[.int .u64 0, .int .u32 0, .int .i64 20]) ∧ w = w' := by
  have i1 : (n : Int) < 28 := by omega
  go_enter Tryz.func154, Tryz.ntmps154
  go_wp2
  go_ret3
  exact ⟨rfl, rfl⟩
set_option maxRecDepth 20000 in
set_option maxHeartbeats 1000000 in
theorem phead_any (ao : Option Addr) (n c : Nat) (zs : List Int) (w : World) (hx : Seen w ao n zs) (h28 : 28 ≤ n) (hc : n ≤ c) :
    Calls Tryz.prog 154 #[.slice ao n c] w fun e w' => e = .returned (.tuple #[.int .u64 (tellR zs), .int .u32 (tellC zs), .int .i64 0]) ∧ Below w.heap.size w w' := by
  have i1 : ¬ (n : Int) < 28 := by omega
  have t1 := hx.top
  have S12 : ∀ W, (Instr.sliceAt 67 (.slice ao n c) none (some (.int .i64 12)) none).run Tryz.prog W = .ok (.slice (subA ao 0 c) 12 c) W := fun W => sl_h ao n c 12 (by omega) W
  obtain ⟨T, hT⟩ : ∃ T, zs.take 12 = T := ⟨_, rfl⟩
  have hs : Seen w (subA ao 0 c) 12 T := by
    have h := hx.sub 0 12 c (by omega) (by omega) hc
    rwa [List.drop_zero, Nat.sub_zero, hT] at h
  have HT : Hid (T.length = 12 ∧ T.take 8 = zs.take 8 ∧ (T.drop 8).take 4 = (zs.drop 8).take 4) := ⟨hs.len, by rw [← hT, List.take_take]; rfl, by rw [← hT, List.drop_take, List.take_take]; rfl⟩
  have HS : Hid (Seen w (subA ao 0 c) 12 T) := hs
  have N1 : nxL T 0 0 8 = T.take 8 ∧ nxP T 0 0 8 = 8 ∧ nxE T 0 0 8 = 0 := by
    have h := nx_ok (zs := T) (p := 0) (m := 8) (by have := HT.out.1; omega)
    rw [List.drop_zero, Nat.zero_add] at h; exact h
  have N2 : nxL T 8 0 4 = (T.drop 8).take 4 ∧ nxP T 8 0 4 = 12 ∧ nxE T 8 0 4 = 0 := nx_ok (zs := T) (p := 8) (m := 4) (by have := HT.out.1; omega)
  have HN : Hid ((nxL T 0 0 8 = T.take 8 ∧ nxP T 0 0 8 = 8 ∧ nxE T 0 0 8 = 0) ∧ (nxL T 8 0 4 = (T.drop 8).take 4 ∧ nxP T 8 0 4 = 12 ∧ nxE T 8 0 4 = 0)) := ⟨N1, N2⟩
  have HV : Hid (leV 8 (nxL T 0 0 8).length (nxL T 0 0 8) = tellR zs ∧ leV 4 (nxL T 8 0 4).length (nxL T 8 0 4) = tellC zs ∧ endE T.length 12 0 = 0) := by
    have hl := HT.out.1
    refine ⟨?_, ?_, ?_⟩
    · rw [N1.1, List.length_take, hl]; show leV 8 8 _ = _; rw [leV_ok, HT.out.2.1]; rfl
    · rw [N2.1, List.length_take, List.length_drop, hl]; show leV 4 4 _ = _; rw [leV_ok, HT.out.2.2]; rfl
    · rw [hl]; rfl
  clear hx hT hs N1 N2
  go_enter Tryz.func154, Tryz.ntmps154
  go_wp2_with fail
  refine (newReader_any (subA ao 0 c) 12 c T w HS.out).mono ?_
  rintro e w1 ⟨r, ao', c', rfl, d1, g1, g2, l1⟩
  have D1 : Hid (Rd w1 r ao' c' T 0 0 ∧ w.heap.size ≤ r ∧ Below w.heap.size w w1) := ⟨d1, g1, l1⟩
  clear d1 g1 g2 l1
  go_wp2_with fail
  refine (ru_64 r ao' c' T 0 0 w1 D1.out.1).mono ?_
  rintro e w2 ⟨rfl, d2, k2⟩
  rw [HV.out.1]
  rw [HN.out.1.2.1, HN.out.1.2.2] at d2
  have D2 : Hid (Rd w2 r ao' c' T 8 0 ∧ Below w.heap.size w w2) := ⟨d2, below_kept D1.out.2.2 k2 D1.out.2.2.size (fun j hj => by have := D1.out.2.1; omega)⟩
  clear d2 k2
  go_wp2_with fail
  refine (ru_32 r ao' c' T 8 0 w2 D2.out.1).mono ?_
  rintro e w3 ⟨rfl, d3, k3⟩
  rw [HV.out.2.1]
  rw [HN.out.2.2.1, HN.out.2.2.2] at d3
  have D3 : Hid (Rd w3 r ao' c' T 12 0 ∧ Below w.heap.size w w3) := ⟨d3, below_kept D2.out.2 k3 D2.out.2.size (fun j hj => by have := D1.out.2.1; omega)⟩
  clear d3 k3
  go_wp2_with fail
  refine (end_any r ao' c' T 12 0 w3 D3.out.1).mono ?_
  rintro e w4 ⟨rfl, q, rfl⟩
  rw [HV.out.2.2]
  go_wp2_with fail
  go_ret3
  exact ⟨rfl, below_dn D3.out.2 q⟩

/-- The page of a text. -/
def pageL (key : List Int) (r c p q : Int) (zs : List Int) : List Int := hdL r c ++ boxL key (hdL r c) (moL p q) zs
theorem pageL_length (key : List Int) (r c p q : Int) (zs : List Int) : (pageL key r c p q zs).length = zs.length + 28 := by rw [pageL, List.length_append, hdL_length, boxL_length]; omega
theorem pageL_bytes (key : List Int) (r c p q : Int) {zs : List Int} (h : Bytes zs) : Bytes (pageL key r c p q zs) := bytes_app' (hdL_bytes _ _) (boxL_bytes _ _ _ h)
theorem pageL_head (key : List Int) (r c p q : Int) (zs : List Int) : (pageL key r c p q zs).take 12 = hdL r c := by rw [pageL, List.take_append_of_le_length (by rw [hdL_length]; omega), List.take_of_length_le (by rw [hdL_length]; omega)]
theorem pageL_box (key : List Int) (r c p q : Int) (zs : List Int) : (pageL key r c p q zs).drop 12 = boxL key (hdL r c) (moL p q) zs := by rw [pageL]; exact List.drop_left' (hdL_length r c)
/-- A tuple of bytes of the call's own and a number. -/
def isT (base n : Nat) (zs : List Int) (E : Int) (v : Value) (w : World) : Prop := ∃ u, v = .tuple #[u, .int .i64 E] ∧ isO base n zs u w
theorem isT_later (base n : Nat) (zs : List Int) (E : Int) : ∀ v w w', Below w.heap.size w w' → isT base n zs E v w → isT base n zs E v w' := fun _ _ _ hb ⟨u, h1, h2⟩ => ⟨u, h1, isO_later _ _ _ _ _ _ hb h2⟩
theorem grow_seen {w : World} {b : Addr} {xs : List Int} {n : Nat} (hX : Seen w (some b) n xs) {ao : Option Addr} {m c : Nat} {zs : List Int} (hZ : Seen w ao m zs) (hm : 0 < m) (hb : n + m ≤ 1000000) : ∃ v w', (Builtin.append_ #[67, 67] 67 #[.slice (some b) n n, .slice ao m c]).run Tryz.prog w = .ok v w' ∧ isO w.heap.size (n + m) (xs ++ zs) v w' ∧ Below w.heap.size w w' := by
  obtain ⟨i0, hi, hz0, hz1, hz2⟩ := info_parts info_byte
  obtain ⟨g, o, rfl, _, _⟩ := hZ.cells hm
  have hr := run_append_grow (P := Tryz.prog) (w := w) 67 67 5 i0 (.int .u8 0) Tryz.underlying67 hi hz0 b n n (xs.map (Value.int .u8)) (by rw [List.length_map, hX.len, hz1, Nat.mul_one]) (seen_news hX rfl) ⟨g, o, none⟩ m c (zs.map (Value.int .u8)) (by rw [List.length_map, hZ.len, hz1, Nat.mul_one]) (seen_news hZ rfl) (by omega) (by omega) (growslice_fits (by omega) (by rw [hz2]; omega))
  have hge := grownCap_ge w (n + m) n 5
  have hle := grownCap_le_maxLen w (n + m) n 5 (by unfold maxLen; omega)
  refine ⟨_, _, hr, ⟨by rw [List.length_map, List.length_append, hX.len, hZ.len, Nat.mul_one], .inr ⟨w.heap.size, _, _, rfl, Nat.le_refl _, heap_alloc_new w.drew _, hge, hle, ?_, ?_⟩⟩, below_ahead (k := 1) ((Below.refl _ (w.drewN 1)).alloc (Nat.le_refl _) _)⟩
  · simp [Builtin.zeroCells, Value.cells, hX.len, hZ.len]; omega
  · rw [Nat.mul_one, Array.toList_append, Array.toList_append, List.map_append]
    exact List.take_left' (by simp [hX.len, hZ.len])
theorem pown_sl {w : World} {B n : Nat} {v : Value} {zs : List Int} (hl : zs.length = n) (hb : Bytes zs) (ht : n ≤ 140737488355328) (o : isO B n zs v w) : ∃ vo cap, v = .slice vo n cap ∧ Seen w vo n zs ∧ n ≤ cap ∧ (vo = none → cap = 0) := by
  subst hl
  obtain ⟨a1, a2, a3, a4, a5, a6, _⟩ := own_data hb ht o
  exact ⟨a1, a2, a3, a4, a5, a6⟩
theorem wpList_append_go {ops : Array Oper} {rest : List Oper} {o : Oper} {a : Act} {Q : Exit → Act → World → Prop} {w : World} (hgd : o.guard = none) (s x : Operand) (t ty : TypeId) (ho : o.op = .call { callee := .builtin .append, args := #[s, x], argTypes := #[t, t] }) (hty : o.type = ty)
    (va vb : Value) (hs : a.eval s = va) (hx : a.eval x = vb) (v' : Value) (w' : World) (hr : (Builtin.append_ #[t, t] ty #[va, vb]).run Tryz.prog w = .ok v' w') (h : wpList Tryz.prog ops Q rest (a.put o.dst v') w') : wpList Tryz.prog ops Q (o :: rest) a w := by
  refine wpList_plain hgd fun K hK => ?_
  subst hty
  unfold Oper.wp execOp
  simp only [ho, resolve, invoke, builtin, Sem.run_bind, Sem.run_pure, Result.andThen_ok, List.map_toArray, List.map_cons, List.map_nil, hs, hx, hr]
  exact hK _ _ h
theorem seen12 {w : World} {g : Nat} {H : List Int} (b : Blk w g 147 (u8s H)) (hl : H.length = 12) (hb : Bytes H) : Seen w (some ⟨g, 0, none⟩) 12 H := by
  have h := seen_blk b hb (by omega)
  rwa [hl] at h
theorem sl_arr12 (g : Nat) (w : World) : (Instr.sliceAt 147 (.pointer (some ⟨g, 0, none⟩)) none none none).run Tryz.prog w = .ok (.slice (some ⟨g, 0, none⟩) 12 12) w := by kernel_rfl
theorem pzKey : (Tryz.prog.info? 184).map (·.size) = some 4 := by kernel_rfl
theorem placeC_one (r c p q : Int) : ∀ v ∈ placeC r c p q, v.oneCell' = true := by intro v hv; simp [placeC] at hv; rcases hv with rfl | rfl | rfl | rfl <;> rfl

set_option maxRecDepth 20000 in
set_option maxHeartbeats 1000000 in
theorem pseal_bad (key : List Int) (r c p q : Int) (bo : Option Addr) (m d : Nat) (t1 : m ≤ 140737488355328) (hm : 4096 < m) (w : World) :
    Calls Tryz.prog 123 #[.agg (u8s key).toArray, .agg (placeC r c p q).toArray, .slice bo m d] w fun e w' => e = .returned (.tuple #[.slice none 0 0, .int .i64 3]) ∧ Below w.heap.size w w' := by
  have i1 : (4096 : Int) < (m : Int) := by omega
  go_enter Tryz.func123, Tryz.ntmps123
  go_wp2_with (first | (refine wpList_box_new rfl 42 _ rfl (u8s key) rfl ?_; intro w1 b1 s1 l1) | (refine wpList_box_new rfl 184 _ rfl (placeC r c p q) rfl ?_; intro w2 b2 s2 l2))
  go_ret2
  exact ⟨rfl, below_chain l1 l2 (by omega)⟩
set_option maxRecDepth 20000 in
set_option maxHeartbeats 1000000 in
theorem pseal_any (key : List Int) (r c p q : Int) (bo : Option Addr) (m d : Nat) (zs : List Int) (hk : key.length = 32) (hkb : Bytes key) (hr : Word r) (hc : U32 c) (hp : U32 p) (hq : U32 q) (hm : m ≤ 4096) (w : World) (hy : Seen w bo m zs) (hd : m ≤ d) :
    Calls Tryz.prog 123 #[.agg (u8s key).toArray, .agg (placeC r c p q).toArray, .slice bo m d] w fun e w' => ∃ v, e = .returned (.tuple #[v, .int .i64 0]) ∧ isO w.heap.size (m + 28) (pageL key r c p q zs) v w' ∧ Below w.heap.size w w' := by
  have i1 : ¬ (4096 : Int) < (m : Int) := by omega
  obtain ⟨H, hH⟩ : ∃ H, hdL r c = H := ⟨_, rfl⟩
  obtain ⟨M, hM⟩ : ∃ H, moL p q = H := ⟨_, rfl⟩
  obtain ⟨X, hX⟩ : ∃ X, boxL key H M zs = X := ⟨_, rfl⟩
  have HH : Hid (hdL r c = H ∧ H.length = 12 ∧ Bytes H) := ⟨hH, by rw [← hH]; exact hdL_length r c, by rw [← hH]; exact hdL_bytes r c⟩
  have HM : Hid (moL p q = M ∧ M.length = 8 ∧ Bytes M) := ⟨hM, by rw [← hM]; exact moL_length p q, by rw [← hM]; exact moL_bytes p q⟩
  have HX : Hid (boxL key H M zs = X ∧ X.length = m + 16 ∧ Bytes X ∧ pageL key r c p q zs = H ++ X) := ⟨hX, by rw [← hX, boxL_length, hy.len], by rw [← hX]; exact boxL_bytes _ _ _ hy.bytes, by rw [pageL, hH, hM, hX]⟩
  have HK : Hid (key.length = 32 ∧ Bytes key ∧ Word r ∧ U32 c ∧ U32 p ∧ U32 q ∧ m ≤ 4096 ∧ m ≤ d) := ⟨hk, hkb, hr, hc, hp, hq, hm, hd⟩
  have HY : Hid (Seen w bo m zs) := hy
  clear hH hM hX hk hkb hr hc hp hq hy hd
  go_enter Tryz.func123, Tryz.ntmps123
  go_wp2_with (first | (refine wpList_box_new rfl 42 _ rfl (u8s key) rfl ?_; intro w1 b1 s1 l1) | (refine wpList_box_new rfl 184 _ rfl (placeC r c p q) rfl ?_; intro w2 b2 s2 l2) | (refine wpList_load_blk rfl 184 _ rfl _ rfl (placeC r c p q) _ (by first | exact b2 | (rw [← s1]; exact b2)) Tryz.underlying184 rfl pzKey ?_))
  refine (headOf_any r c p q HK.out.2.2.1 HK.out.2.2.2.1 w2).mono ?_
  rintro e w3 ⟨rfl, l3⟩
  rw [HH.out.1]
  have q3 := l3.size
  go_wp2_with (first | (refine wpList_alloc_new rfl 147 rfl 12 _ pzNonce ?_; intro w4 b4 s4 l4) | (refine wpList_store_blk rfl 147 147 _ _ rfl _ rfl _ (u8s H) rfl b4 (by rw [u8s_length, HH.out.2.1]; rfl) (by rw [u8s_length, HH.out.2.1]; exact sizeNonce) (u8s_one _) ?_; intro w5 b5 s5 k5))
  rw [s1] at b2
  have V : Hid (Blk w5 w.heap.size 42 (u8s key) ∧ Blk w5 (w.heap.size + 1) 184 (placeC r c p q) ∧ Blk w5 w3.heap.size 147 (u8s H) ∧ Below w.heap.size w w5 ∧ Seen w5 bo m zs) := by
    have L4 : Below w2.heap.size w2 w4 := below_chain l3 l4 (by omega)
    have L5 : Below w2.heap.size w2 w5 := below_kept L4 k5 (by omega) (fun j hj => by omega)
    have L : Below w.heap.size w w5 := below_chain (below_chain l1 l2 (by omega)) L5 (by omega)
    exact ⟨(b1.later l2 (by omega)).later L5 (by omega), b2.later L5 (by omega), b5, L, HY.out.later L (Nat.le_refl _)⟩
  clear b1 b2 b4 b5 l1 l2 l3 l4 k5 s2 s4 s5 q3 s1
  simp only [Act.put, List.setIfInBounds_toArray, List.set_cons_zero, List.set_cons_succ]
  refine region_inv [.val (.agg (u8s key).toArray), .val (.agg (u8s H).toArray), .val (.agg (placeC r c p q).toArray), .any (isO w.heap.size 8 M) (isO_later _ _ _), .val (.slice bo m d), .any (isT w.heap.size (m + 16) X 0) (isT_later _ _ _ _), .any (isT w.heap.size (m + 16) X 0) (isT_later _ _ _ _), .any (isO w.heap.size (m + 16) X) (isO_later _ _ _), .val (.int .i64 0), .any (isO w.heap.size (m + 16) X) (isO_later _ _ _)] (by kernel_rfl) (by kernel_rfl) (by kernel_rfl) ?_ ?_
  · refine Steps'.cons ?_ (Steps'.cons ?_ (Steps'.cons ?_ (Steps'.cons ?_ (Steps'.cons ?_ (Steps'.cons ?_ (Steps'.cons ?_ (Steps'.cons ?_ (Steps'.cons ?_ (Steps'.cons ?_ (Steps'.one _ _ _ _ _ _ _))))))))))
    · intro ax wx hb hs hd
      have h3 : ax.tmps.getD 3 undef = (.pointer (some ⟨w.heap.size, 0, none⟩)) := hs 3 (by kernel_rfl)
      exact Does.load 42 (.tmp 3) rfl w.heap.size 0 h3 (u8s key) _ ((V.out.1).later hb (V.out.1).lt).all Tryz.underlying42 rfl (by rw [u8s_length, HK.out.1]; exact sizeKey)
    · intro ax wx hb hs hd
      have h8 : ax.tmps.getD 8 undef = (.pointer (some ⟨w3.heap.size, 0, none⟩)) := hs 8 (by kernel_rfl)
      exact Does.load 147 (.tmp 8) rfl w3.heap.size 0 h8 (u8s H) _ ((V.out.2.2.1).later hb (V.out.2.2.1).lt).all Tryz.underlying147 rfl (by rw [u8s_length, HH.out.2.1]; exact sizeNonce)
    · intro ax wx hb hs hd
      have h4 : ax.tmps.getD 4 undef = (.pointer (some ⟨w.heap.size + 1, 0, none⟩)) := hs 4 (by kernel_rfl)
      exact Does.load 184 (.tmp 4) rfl (w.heap.size + 1) 0 h4 (placeC r c p q) _ ((V.out.2.1).later hb (V.out.2.1).lt).all Tryz.underlying184 rfl pzKey
    · intro ax wx hb hs hd
      have h19 : ax.tmps.getD 19 undef = (.agg (placeC r c p q).toArray) := hd 2 19 rfl (by kernel_rfl) (by decide)
      refine Does.call 146 #[.agg (placeC r c p q).toArray] (by clear hs hd; go_simp) ?_
      refine (vouch_any r c p q HK.out.2.2.2.2.1 HK.out.2.2.2.2.2.1 wx).mono ?_
      rintro e w' ⟨v, rfl, o, l⟩
      rw [HM.out.1] at o
      exact ⟨_, rfl, ownsRow_base o (by have := hb.size; have := V.out.2.2.2.1.size; omega), l⟩
    · intro ax wx hb hs hd
      have h2 : ax.tmps.getD 2 undef = (.slice bo m d) := hs 2 (by kernel_rfl)
      refine Does.value (.slice bo m d) ?_ rfl
      clear hs hd
      go_simp
    · intro ax wx hb hs hd
      have h17 : ax.tmps.getD 17 undef = (.agg (u8s key).toArray) := hd 0 17 rfl (by kernel_rfl) (by decide)
      have h18 : ax.tmps.getD 18 undef = (.agg (u8s H).toArray) := hd 1 18 rfl (by kernel_rfl) (by decide)
      have p20 : (isO w.heap.size 8 M) (ax.tmps.getD 20 undef) wx := hd 3 20 rfl (by kernel_rfl) (by decide)
      have h21 : ax.tmps.getD 21 undef = (.slice bo m d) := hd 4 21 rfl (by kernel_rfl) (by decide)
      obtain ⟨mo, mc, h20, s20, c20, _⟩ := pown_sl HM.out.2.1 HM.out.2.2 (by decide) p20
      clear p20
      refine Does.call 145 #[.agg (u8s key).toArray, .agg (u8s H).toArray, .slice mo 8 mc, .slice bo m d] (by clear hs hd; go_simp) ?_
      refine (seal_any key H 8 mc m d mo bo M zs HK.out.1 HH.out.2.1 HK.out.2.1 HH.out.2.2 (by decide) (by have := HK.out.2.2.2.2.2.2.1; omega) wx s20 (V.out.2.2.2.2.later hb (Nat.le_refl _)) c20 HK.out.2.2.2.2.2.2.2).mono ?_
      rintro e w' ⟨v, rfl, o, l⟩
      rw [HX.out.1] at o
      exact ⟨_, rfl, ⟨v, rfl, ownsRow_base o (by have := hb.size; have := V.out.2.2.2.1.size; omega)⟩, l⟩
    · intro ax wx hb hs hd
      have p22 : (isT w.heap.size (m + 16) X 0) (ax.tmps.getD 22 undef) wx := hd 5 22 rfl (by kernel_rfl) (by decide)
      obtain ⟨u, h22, o⟩ := p22
      refine Does.value (.tuple #[u, .int .i64 0]) ?_ ⟨u, rfl, o⟩
      clear hs hd
      go_simp
    · intro ax wx hb hs hd
      have p16 : (isT w.heap.size (m + 16) X 0) (ax.tmps.getD 16 undef) wx := hd 6 16 rfl (by kernel_rfl) (by decide)
      obtain ⟨u, h16, o⟩ := p16
      refine Does.value u ?_ o
      clear hs hd
      go_simp
    · intro ax wx hb hs hd
      have p16 : (isT w.heap.size (m + 16) X 0) (ax.tmps.getD 16 undef) wx := hd 6 16 rfl (by kernel_rfl) (by decide)
      obtain ⟨u, h16, o⟩ := p16
      refine Does.value (.int .i64 0) ?_ rfl
      clear hs hd
      go_simp
    · intro ax wx hb hs hd
      have p23 : (isO w.heap.size (m + 16) X) (ax.tmps.getD 23 undef) wx := hd 7 23 rfl (by kernel_rfl) (by decide)
      obtain ⟨u, h23⟩ : ∃ u, ax.tmps.getD 23 undef = u := ⟨_, rfl⟩
      rw [h23] at p23
      refine Does.value u ?_ p23
      clear hs hd
      go_simp
  · intro wx hb
    refine @Ends.val _ _ _ _ _ _ _ _ _ (.agg (u8s key).toArray) rfl ?_
    refine @Ends.val _ _ _ _ _ _ _ _ _ (.agg (u8s H).toArray) rfl ?_
    refine @Ends.val _ _ _ _ _ _ _ _ _ (.agg (placeC r c p q).toArray) rfl ?_
    refine @Ends.any _ _ _ _ _ _ _ _ _ (isO w.heap.size 8 M) (isO_later _ _ _) rfl ?_
    intro v20 p20
    refine @Ends.val _ _ _ _ _ _ _ _ _ (.slice bo m d) rfl ?_
    refine @Ends.any _ _ _ _ _ _ _ _ _ (isT w.heap.size (m + 16) X 0) (isT_later _ _ _ _) rfl ?_
    intro v22 p22
    refine @Ends.any _ _ _ _ _ _ _ _ _ (isT w.heap.size (m + 16) X 0) (isT_later _ _ _ _) rfl ?_
    intro v16 p16
    refine @Ends.any _ _ _ _ _ _ _ _ _ (isO w.heap.size (m + 16) X) (isO_later _ _ _) rfl ?_
    intro v23 p23
    refine @Ends.val _ _ _ _ _ _ _ _ _ (.int .i64 0) rfl ?_
    refine @Ends.any _ _ _ _ _ _ _ _ _ (isO w.heap.size (m + 16) X) (isO_later _ _ _) rfl ?_
    intro v9 p9
    refine @Ends.one _ _ _ _ _ _ _ ?_
    simp only [Act.put, List.setIfInBounds_toArray, List.set_cons_zero, List.set_cons_succ]
    obtain ⟨xo, xc, rfl, sx, cx, nx⟩ := pown_sl HX.out.2.1 HX.out.2.2.1 (by omega) p9
    have W1 : Hid (Blk wx w3.heap.size 147 (u8s H) ∧ Below w.heap.size w wx ∧ Seen wx xo (m + 16) X) := ⟨V.out.2.2.1.later hb V.out.2.2.1.lt, below_chain V.out.2.2.2.1 hb V.out.2.2.2.1.size, sx⟩
    clear p9 p23 p22 p20 p16 sx nx
    refine last_assign (.tmp 24) rfl (some 10) rfl (.int .i64 0) rfl ?_
    simp only [Act.put, List.setIfInBounds_toArray, List.set_cons_zero, List.set_cons_succ]
    have SA := sl_arr12 w3.heap.size
    obtain ⟨v7, w7, hr7, o7, l7⟩ := grow_seen (c := xc) (seen12 W1.out.1 HH.out.2.1 HH.out.2.2) W1.out.2.2 (by omega) (by omega)
    have G7 : Hid (isO wx.heap.size (12 + (m + 16)) (H ++ X) v7 w7 ∧ Below wx.heap.size wx w7) := ⟨o7, l7⟩
    clear o7 l7
    go_wp2_with (first | (go_at_call 147; refine (is_any 0 _).mono ?_; rintro e w' ⟨rfl, rfl⟩; rw [show ((0 : Int) == 0) = true from rfl]) | (at_builtin; refine wpList_append_go rfl _ _ 67 67 rfl rfl _ _ rfl rfl v7 w7 hr7 ?_))
    go_ret2
    exact ⟨_, rfl, by rw [HX.out.2.2.2, show m + 28 = 12 + (m + 16) by omega]; exact ownsRow_base G7.out.1 W1.out.2.1.size, below_chain W1.out.2.1 G7.out.2 W1.out.2.1.size⟩
end Go.Proofs.YtnagndnpamcbbaaGreat

namespace Go.Proofs.YtnagndnpamcbbaaGreat
open Go.RowKit
set_option linter.unusedVariables false
set_option linter.unusedSimpArgs false

theorem neq_place (r c p q r' c' : Int) (w : World) : (binOp .neq 184 (.agg (placeC r c p q).toArray) (.agg (placeC r' c' p q).toArray)).run Tryz.prog w = .ok (.bool (!(r == r' && c == c'))) w := by
  have hf : Tryz.prog.underlying 184 = some (.struct (Tryz.prog.fieldsOf 184)) := by kernel_rfl
  have hp : Tryz.prog.stoodInHeld 184 = false := by kernel_rfl
  have hl : (Tryz.prog.fieldsOf 184).toList = [{ name := "Round", type := 43, offset := 0, embedded := false, tag := "", pkgPath := "", byteOffset := 0 }, { name := "Counter", type := 80, offset := 1, embedded := false, tag := "", pkgPath := "", byteOffset := 8 }, { name := "Page", type := 80, offset := 2, embedded := false, tag := "", pkgPath := "", byteOffset := 12 }, { name := "Version", type := 80, offset := 3, embedded := false, tag := "", pkgPath := "", byteOffset := 16 }] := by kernel_rfl
  rw [run_neq_struct, run_equalIn_struct w 9999 184 _ _ hf hp, hl]
  have p0 : ∀ r c : Int, (Go.part 43 (placeC r c p q).toArray 0).run Tryz.prog w = .ok (.int .u64 r) w := fun r c => by simp [Go.part, isAgg, run_underlying Tryz.underlying43, placeC]
  have p1 : ∀ r c : Int, (Go.part 80 (placeC r c p q).toArray 1).run Tryz.prog w = .ok (.int .u32 c) w := fun r c => by simp [Go.part, isAgg, run_underlying Tryz.underlying80, placeC]
  have p2 : ∀ r c : Int, (Go.part 80 (placeC r c p q).toArray 2).run Tryz.prog w = .ok (.int .u32 p) w := fun r c => by simp [Go.part, isAgg, run_underlying Tryz.underlying80, placeC]
  have p3 : ∀ r c : Int, (Go.part 80 (placeC r c p q).toArray 3).run Tryz.prog w = .ok (.int .u32 q) w := fun r c => by simp [Go.part, isAgg, run_underlying Tryz.underlying80, placeC]
  have q0 : ∀ x y : Int, (Op.equalIn 9999 43 (.int .u64 x) (.int .u64 y)).run Tryz.prog w = .ok (x == y) w := fun x y => by rw [run_equalIn_int w 9998 43 .u64 .u64 _ _ Tryz.underlying43]
  have q1 : ∀ x y : Int, (Op.equalIn 9999 80 (.int .u32 x) (.int .u32 y)).run Tryz.prog w = .ok (x == y) w := fun x y => by rw [run_equalIn_int w 9998 80 .u32 .u32 _ _ Tryz.underlying80]
  cases h0 : (r == r') <;> cases h1 : (c == c') <;> simp [Op.eqFields, p0, p1, p2, p3, q0, q1, h0, h1]
theorem pbuild (r c p q : Int) (w : World) : (Instr.build 184 #[(0, .int .u64 r), (1, .int .u32 c), (2, .int .u32 p), (3, .int .u32 q)]).run Tryz.prog w = .ok (.agg (placeC r c p q).toArray) w := by kernel_rfl
theorem pzPlace : (Tryz.prog.info? 184).map (fun i => (i.zero, i.size)) = some (some (.agg (placeC 0 0 0 0).toArray), 4) := by kernel_rfl
/-- What a page's first bytes tell is its head. -/
theorem tell_head {zs : List Int} {r c : Int} (hb : Bytes zs) (hl : 12 ≤ zs.length) (hr : Word r) (hc : U32 c) : (tellR zs = r ∧ tellC zs = c) ↔ zs.take 12 = hdL r c := by
  have e8 : (zs.take 8).length = 8 := by simp; omega
  have e4 : ((zs.drop 8).take 4).length = 4 := by simp; omega
  have ex : zs.take 12 = zs.take 8 ++ (zs.drop 8).take 4 := by rw [show 12 = 8 + 4 from rfl, List.take_add]
  constructor
  · rintro ⟨rfl, rfl⟩
    have h8 := leB_le (zs.take 8) (fun z hz => hb z (List.mem_of_mem_take hz))
    have h4 := leB_le ((zs.drop 8).take 4) (fun z hz => hb z (List.mem_of_mem_drop (List.mem_of_mem_take hz)))
    rw [e8] at h8
    rw [e4] at h4
    rw [ex, hdL, tellR, tellC, h8, h4]
  · intro h
    rw [ex, hdL] at h
    have hh := List.append_inj h (by rw [e8, leB_length])
    rw [tellR, tellC, hh.1, hh.2, le_leB, le_leB]
    have h1 := hr.1
    have h2 := hr.2
    have h3 := hc.1
    have h4 := hc.2
    exact ⟨Int.emod_eq_of_lt h1 (by omega), Int.emod_eq_of_lt h3 (by omega)⟩

set_option maxRecDepth 20000 in
set_option maxHeartbeats 1000000 in
theorem popen_long (key : List Int) (r c p q : Int) (bo : Option Addr) (m d : Nat) (t1 : m ≤ 140737488355328) (hm : 4124 < m) (w : World) :
    Calls Tryz.prog 140 #[.agg (u8s key).toArray, .agg (placeC r c p q).toArray, .slice bo m d] w fun e w' => e = .returned (.tuple #[.slice none 0 0, .int .i64 120]) ∧ Below w.heap.size w w' := by
  have i1 : (4124 : Int) < (m : Int) := by omega
  go_enter Tryz.func140, Tryz.ntmps140
  go_wp2_with (first | (refine wpList_box_new rfl 42 _ rfl (u8s key) rfl ?_; intro w1 b1 s1 l1) | (refine wpList_box_new rfl 184 _ rfl (placeC r c p q) rfl ?_; intro w2 b2 s2 l2))
  go_ret2
  exact ⟨rfl, below_chain l1 l2 (by omega)⟩
set_option maxRecDepth 20000 in
set_option maxHeartbeats 1000000 in
theorem popen_short (key : List Int) (r c p q : Int) (bo : Option Addr) (m d : Nat) (hm : m < 28) (w : World) :
    Calls Tryz.prog 140 #[.agg (u8s key).toArray, .agg (placeC r c p q).toArray, .slice bo m d] w fun e w' => e = .returned (.tuple #[.slice none 0 0, .int .i64 120]) ∧ Below w.heap.size w w' := by
  have i1 : ¬ (4124 : Int) < (m : Int) := by omega
  go_enter Tryz.func140, Tryz.ntmps140
  go_wp2_with (first | (refine wpList_box_new rfl 42 _ rfl (u8s key) rfl ?_; intro w1 b1 s1 l1) | (refine wpList_box_new rfl 184 _ rfl (placeC r c p q) rfl ?_; intro w2 b2 s2 l2) | (go_at_call 154; refine (phead_bad bo m d hm _).mono ?_; rintro e w' ⟨rfl, rfl⟩))
  go_ret2
  exact ⟨rfl, below_chain l1 l2 (by omega)⟩
set_option maxRecDepth 20000 in
set_option maxHeartbeats 1000000 in
theorem popen_else (key : List Int) (r c p q : Int) (bo : Option Addr) (m d : Nat) (zs : List Int) (h28 : 28 ≤ m) (hm : m ≤ 4124) (w : World) (hy : Seen w bo m zs) (hd : m ≤ d) (hne : (tellR zs == r && tellC zs == c) = false) :
    Calls Tryz.prog 140 #[.agg (u8s key).toArray, .agg (placeC r c p q).toArray, .slice bo m d] w fun e w' => e = .returned (.tuple #[.slice none 0 0, .int .i64 120]) ∧ Below w.heap.size w w' := by
  have i1 : ¬ (4124 : Int) < (m : Int) := by omega
  have HY : Hid (Seen w bo m zs) := hy
  have HD : Hid (m ≤ d) := hd
  obtain ⟨R, hR⟩ : ∃ R, tellR zs = R := ⟨_, rfl⟩
  obtain ⟨C, hC⟩ : ∃ C, tellC zs = C := ⟨_, rfl⟩
  have HT : Hid (tellR zs = R ∧ tellC zs = C) := ⟨hR, hC⟩
  have HE : Hid ((!(R == r && C == c)) = true) := by show (!(R == r && C == c)) = true; rw [← hR, ← hC, hne]; rfl
  clear hy hd hR hC hne
  go_enter Tryz.func140, Tryz.ntmps140
  go_wp2_with (first | (refine wpList_box_new rfl 42 _ rfl (u8s key) rfl ?_; intro w1 b1 s1 l1) | (refine wpList_box_new rfl 184 _ rfl (placeC r c p q) rfl ?_; intro w2 b2 s2 l2))
  refine (phead_any bo m d zs w2 (HY.out.later (below_chain l1 l2 (by omega)) (Nat.le_refl _)) h28 HD.out).mono ?_
  rintro e w3 ⟨rfl, l3⟩
  rw [HT.out.1, HT.out.2]
  have q3 := l3.size
  rw [s1] at b2
  have V3 : Hid (Blk w3 w.heap.size 42 (u8s key) ∧ Blk w3 (w.heap.size + 1) 184 (placeC r c p q) ∧ Below w.heap.size w w3) := ⟨(b1.later l2 (by omega)).later l3 (by omega), b2.later l3 (by omega), below_chain (below_chain l1 l2 (by omega)) l3 (by omega)⟩
  have cp : w3.cell? ⟨w.heap.size + 1, 2, none⟩ = some (.int .u32 p) := V3.out.2.1.cell 2
  have cq : w3.cell? ⟨w.heap.size + 1, 3, none⟩ = some (.int .u32 q) := V3.out.2.1.cell 3
  clear b1 b2 l1 l2 l3 s2 s1 q3
  have NP := neq_place R C p q r c
  rw [HE.out] at NP
  go_wp2_with (first | (refine wpList_build rfl 184 _ rfl #[(0, .int .u64 R), (1, .int .u32 C), (2, .int .u32 p), (3, .int .u32 q)] (by simp only [List.map_toArray, List.map_cons, List.map_nil]; rfl) _ (pbuild R C p q _) ?_) | (refine wpList_alloc_new rfl 184 rfl 4 _ pzPlace ?_; intro w4 b4 s4 l4) | (refine wpList_store_blk rfl 184 184 _ _ rfl _ rfl _ (placeC R C p q) rfl b4 rfl pzKey (placeC_one _ _ _ _) ?_; intro w5 b5 s5 k5; have V5 : Hid (Blk w5 w.heap.size 42 (u8s key) ∧ Blk w5 (w.heap.size + 1) 184 (placeC r c p q) ∧ Below w.heap.size w w5 ∧ Blk w5 w3.heap.size 184 (placeC R C p q)) := (by have L5 : Below w3.heap.size w3 w5 := below_kept l4 k5 (by omega) (fun j hj => by omega); exact ⟨V3.out.1.later L5 V3.out.1.lt, V3.out.2.1.later L5 V3.out.2.1.lt, below_chain V3.out.2.2 L5 V3.out.2.2.size, b5⟩)) | ((with_reducible show wpList _ _ _ (({ dst := some 31, op := _, type := _, pos := _, after := _, guard := _ } : Oper) :: _) _ _); refine wpList_load_blk rfl 184 _ rfl _ rfl (placeC R C p q) _ V5.out.2.2.2 Tryz.underlying184 rfl pzKey ?_) | ((with_reducible show wpList _ _ _ (({ dst := some 32, op := _, type := _, pos := _, after := _, guard := _ } : Oper) :: _) _ _); refine wpList_load_blk rfl 184 _ rfl _ rfl (placeC r c p q) _ V5.out.2.1 Tryz.underlying184 rfl pzKey ?_))
  go_ret2
  exact ⟨rfl, V5.out.2.2.1⟩
set_option maxRecDepth 20000 in
set_option maxHeartbeats 2000000 in
theorem popen_no (key : List Int) (r c p q : Int) (bo : Option Addr) (m d : Nat) (zs : List Int) (hk : key.length = 32) (hkb : Bytes key) (hr : Word r) (hc : U32 c) (hp : U32 p) (hq : U32 q) (h28 : 28 ≤ m) (hm : m ≤ 4124) (w : World) (hy : Seen w bo m zs) (hd : m ≤ d) (heq : (tellR zs == r && tellC zs == c) = true) (hO : opensL key (hdL r c) (moL p q) (zs.drop 12) = false) :
    Calls Tryz.prog 140 #[.agg (u8s key).toArray, .agg (placeC r c p q).toArray, .slice bo m d] w fun e w' => e = .returned (.tuple #[.slice none 0 0, .int .i64 120]) ∧ Below w.heap.size w w' := by
  have i1 : ¬ (4124 : Int) < (m : Int) := by omega
  have HY : Hid (Seen w bo m zs) := hy
  have HD : Hid (m ≤ d) := hd
  obtain ⟨R, hR⟩ : ∃ R, tellR zs = R := ⟨_, rfl⟩
  obtain ⟨C, hC⟩ : ∃ C, tellC zs = C := ⟨_, rfl⟩
  have HT : Hid (tellR zs = R ∧ tellC zs = C) := ⟨hR, hC⟩
  have HE : Hid ((!(R == r && C == c)) = false) := by show (!(R == r && C == c)) = false; rw [← hR, ← hC, heq]; rfl
  obtain ⟨H, hH⟩ : ∃ H, hdL r c = H := ⟨_, rfl⟩
  obtain ⟨M, hM⟩ : ∃ H, moL p q = H := ⟨_, rfl⟩
  obtain ⟨B, hB⟩ : ∃ B, zs.drop 12 = B := ⟨_, rfl⟩
  have HH : Hid (hdL r c = H ∧ H.length = 12 ∧ Bytes H) := ⟨hH, by rw [← hH]; exact hdL_length r c, by rw [← hH]; exact hdL_bytes r c⟩
  have HM : Hid (moL p q = M ∧ M.length = 8 ∧ Bytes M) := ⟨hM, by rw [← hM]; exact moL_length p q, by rw [← hM]; exact moL_bytes p q⟩
  have HB : Hid ((∀ W, (Instr.sliceAt 67 (.slice bo m d) (some (.int .i64 12)) none none).run Tryz.prog W = .ok (.slice (subA bo 12 d) (m - 12) (d - 12)) W) ∧ Seen w (subA bo 12 d) (m - 12) B ∧ opensL key H M B = false) := by
    refine ⟨fun W => sl_l bo m d 12 (by omega) W, ?_, by rw [← hH, ← hM, ← hB]; exact hO⟩
    have h := hy.sub 12 m d (by omega) (Nat.le_refl _) hd
    rwa [hB, List.take_of_length_le (by rw [← hB, List.length_drop, hy.len]; omega)] at h
  have HK : Hid (key.length = 32 ∧ Bytes key ∧ Word r ∧ U32 c ∧ U32 p ∧ U32 q) := ⟨hk, hkb, hr, hc, hp, hq⟩
  clear hy hd hR hC heq hH hM hB hk hkb hr hc hp hq hO
  go_enter Tryz.func140, Tryz.ntmps140
  go_wp2_with (first | (refine wpList_box_new rfl 42 _ rfl (u8s key) rfl ?_; intro w1 b1 s1 l1) | (refine wpList_box_new rfl 184 _ rfl (placeC r c p q) rfl ?_; intro w2 b2 s2 l2))
  refine (phead_any bo m d zs w2 (HY.out.later (below_chain l1 l2 (by omega)) (Nat.le_refl _)) h28 HD.out).mono ?_
  rintro e w3 ⟨rfl, l3⟩
  rw [HT.out.1, HT.out.2]
  have q3 := l3.size
  rw [s1] at b2
  have V3 : Hid (Blk w3 w.heap.size 42 (u8s key) ∧ Blk w3 (w.heap.size + 1) 184 (placeC r c p q) ∧ Below w.heap.size w w3) := ⟨(b1.later l2 (by omega)).later l3 (by omega), b2.later l3 (by omega), below_chain (below_chain l1 l2 (by omega)) l3 (by omega)⟩
  have cp : w3.cell? ⟨w.heap.size + 1, 2, none⟩ = some (.int .u32 p) := V3.out.2.1.cell 2
  have cq : w3.cell? ⟨w.heap.size + 1, 3, none⟩ = some (.int .u32 q) := V3.out.2.1.cell 3
  clear b1 b2 l1 l2 l3 s2 s1 q3
  have NP := neq_place R C p q r c
  rw [HE.out] at NP
  go_wp2_with (first | (refine wpList_build rfl 184 _ rfl #[(0, .int .u64 R), (1, .int .u32 C), (2, .int .u32 p), (3, .int .u32 q)] (by simp only [List.map_toArray, List.map_cons, List.map_nil]; rfl) _ (pbuild R C p q _) ?_) | (refine wpList_alloc_new rfl 184 rfl 4 _ pzPlace ?_; intro w4 b4 s4 l4) | (refine wpList_store_blk rfl 184 184 _ _ rfl _ rfl _ (placeC R C p q) rfl b4 rfl pzKey (placeC_one _ _ _ _) ?_; intro w5 b5 s5 k5; have V5 : Hid (Blk w5 w.heap.size 42 (u8s key) ∧ Blk w5 (w.heap.size + 1) 184 (placeC r c p q) ∧ Below w.heap.size w w5 ∧ Blk w5 w3.heap.size 184 (placeC R C p q)) := (by have L5 : Below w3.heap.size w3 w5 := below_kept l4 k5 (by omega) (fun j hj => by omega); exact ⟨V3.out.1.later L5 V3.out.1.lt, V3.out.2.1.later L5 V3.out.2.1.lt, below_chain V3.out.2.2 L5 V3.out.2.2.size, b5⟩)) | ((with_reducible show wpList _ _ _ (({ dst := some 31, op := _, type := _, pos := _, after := _, guard := _ } : Oper) :: _) _ _); refine wpList_load_blk rfl 184 _ rfl _ rfl (placeC R C p q) _ V5.out.2.2.2 Tryz.underlying184 rfl pzKey ?_) | ((with_reducible show wpList _ _ _ (({ dst := some 32, op := _, type := _, pos := _, after := _, guard := _ } : Oper) :: _) _ _); refine wpList_load_blk rfl 184 _ rfl _ rfl (placeC r c p q) _ V5.out.2.1 Tryz.underlying184 rfl pzKey ?_))
  clear NP cp cq b4 s4 l4 b5 s5 k5
  refine region_inv [.val (.agg (u8s key).toArray), .val (.agg (placeC r c p q).toArray), .val (.agg (u8s H).toArray), .val (.agg (placeC r c p q).toArray), .any (isO w.heap.size 8 M) (isO_later _ _ _), .val (.slice bo m d), .val (.slice (subA bo 12 d) (m - 12) (d - 12)), .val (.tuple #[.slice none 0 0, .int .i64 70]), .val (.tuple #[.slice none 0 0, .int .i64 70]), .val (.slice none 0 0), .val (.int .i64 70), .val (.slice none 0 0)] (by kernel_rfl) (by kernel_rfl) (by kernel_rfl) ?_ ?_
  · refine Steps'.cons ?_ (Steps'.cons ?_ (Steps'.cons ?_ (Steps'.cons ?_ (Steps'.cons ?_ (Steps'.cons ?_ (Steps'.cons ?_ (Steps'.cons ?_ (Steps'.cons ?_ (Steps'.cons ?_ (Steps'.cons ?_ (Steps'.cons ?_ (Steps'.one _ _ _ _ _ _ _))))))))))))
    · intro ax wx hb hs hd
      have h3 : ax.tmps.getD 3 undef = (.pointer (some ⟨w.heap.size, 0, none⟩)) := hs 3 (by kernel_rfl)
      exact Does.load 42 (.tmp 3) rfl w.heap.size 0 h3 (u8s key) _ ((V5.out.1).later hb (V5.out.1).lt).all Tryz.underlying42 rfl (by rw [u8s_length, HK.out.1]; exact sizeKey)
    · intro ax wx hb hs hd
      have h4 : ax.tmps.getD 4 undef = (.pointer (some ⟨w.heap.size + 1, 0, none⟩)) := hs 4 (by kernel_rfl)
      exact Does.load 184 (.tmp 4) rfl (w.heap.size + 1) 0 h4 (placeC r c p q) _ ((V5.out.2.1).later hb (V5.out.2.1).lt).all Tryz.underlying184 rfl pzKey
    · intro ax wx hb hs hd
      have h36 : ax.tmps.getD 36 undef = (.agg (placeC r c p q).toArray) := hd 1 36 rfl (by kernel_rfl) (by decide)
      refine Does.call 144 #[.agg (placeC r c p q).toArray] (by clear hs hd; go_simp) ?_
      refine (headOf_any r c p q HK.out.2.2.1 HK.out.2.2.2.1 wx).mono ?_
      rintro e w' ⟨rfl, l⟩
      rw [HH.out.1]
      exact ⟨_, rfl, rfl, l⟩
    · intro ax wx hb hs hd
      have h4 : ax.tmps.getD 4 undef = (.pointer (some ⟨w.heap.size + 1, 0, none⟩)) := hs 4 (by kernel_rfl)
      exact Does.load 184 (.tmp 4) rfl (w.heap.size + 1) 0 h4 (placeC r c p q) _ ((V5.out.2.1).later hb (V5.out.2.1).lt).all Tryz.underlying184 rfl pzKey
    · intro ax wx hb hs hd
      have h38 : ax.tmps.getD 38 undef = (.agg (placeC r c p q).toArray) := hd 3 38 rfl (by kernel_rfl) (by decide)
      refine Does.call 146 #[.agg (placeC r c p q).toArray] (by clear hs hd; go_simp) ?_
      refine (vouch_any r c p q HK.out.2.2.2.2.1 HK.out.2.2.2.2.2 wx).mono ?_
      rintro e w' ⟨v, rfl, o, l⟩
      rw [HM.out.1] at o
      exact ⟨_, rfl, ownsRow_base o (by have := hb.size; have := V5.out.2.2.1.size; omega), l⟩
    · intro ax wx hb hs hd
      have h2 : ax.tmps.getD 2 undef = (.slice bo m d) := hs 2 (by kernel_rfl)
      refine Does.value (.slice bo m d) ?_ rfl
      clear hs hd
      go_simp
    · intro ax wx hb hs hd
      have h40 : ax.tmps.getD 40 undef = (.slice bo m d) := hd 5 40 rfl (by kernel_rfl) (by decide)
      have S12 := HB.out.1
      refine Does.value (.slice (subA bo 12 d) (m - 12) (d - 12)) ?_ rfl
      clear hs hd
      go_simp
    · intro ax wx hb hs hd
      have h35 : ax.tmps.getD 35 undef = (.agg (u8s key).toArray) := hd 0 35 rfl (by kernel_rfl) (by decide)
      have h37 : ax.tmps.getD 37 undef = (.agg (u8s H).toArray) := hd 2 37 rfl (by kernel_rfl) (by decide)
      have p39 : (isO w.heap.size 8 M) (ax.tmps.getD 39 undef) wx := hd 4 39 rfl (by kernel_rfl) (by decide)
      have h41 : ax.tmps.getD 41 undef = (.slice (subA bo 12 d) (m - 12) (d - 12)) := hd 6 41 rfl (by kernel_rfl) (by decide)
      obtain ⟨mo, mc, h39, s39, c39, _⟩ := pown_sl HM.out.2.1 HM.out.2.2 (by decide) p39
      clear p39
      refine Does.call 155 #[.agg (u8s key).toArray, .agg (u8s H).toArray, .slice mo 8 mc, .slice (subA bo 12 d) (m - 12) (d - 12)] (by clear hs hd; go_simp) ?_
      refine (open_no key H 8 mc (m - 12) (d - 12) mo (subA bo 12 d) M B HK.out.1 HH.out.2.1 HK.out.2.1 HH.out.2.2 (by omega) (by omega) (by decide) wx s39 (HB.out.2.1.later (below_chain V5.out.2.2.1 hb V5.out.2.2.1.size) (Nat.le_refl _)) c39 (by have := HD.out; omega) HB.out.2.2).mono ?_
      rintro e w' ⟨rfl, l⟩
      exact ⟨_, rfl, rfl, l⟩
    · intro ax wx hb hs hd
      have h42 : ax.tmps.getD 42 undef = (.tuple #[.slice none 0 0, .int .i64 70]) := hd 7 42 rfl (by kernel_rfl) (by decide)
      refine Does.value (.tuple #[.slice none 0 0, .int .i64 70]) ?_ rfl
      clear hs hd
      go_simp
    · intro ax wx hb hs hd
      have h34 : ax.tmps.getD 34 undef = (.tuple #[.slice none 0 0, .int .i64 70]) := hd 8 34 rfl (by kernel_rfl) (by decide)
      refine Does.value (.slice none 0 0) ?_ rfl
      clear hs hd
      go_simp
    · intro ax wx hb hs hd
      have h34 : ax.tmps.getD 34 undef = (.tuple #[.slice none 0 0, .int .i64 70]) := hd 8 34 rfl (by kernel_rfl) (by decide)
      refine Does.value (.int .i64 70) ?_ rfl
      clear hs hd
      go_simp
    · intro ax wx hb hs hd
      have h43 : ax.tmps.getD 43 undef = (.slice none 0 0) := hd 9 43 rfl (by kernel_rfl) (by decide)
      refine Does.value (.slice none 0 0) ?_ rfl
      clear hs hd
      go_simp
  · intro wx hb
    refine @Ends.val _ _ _ _ _ _ _ _ _ (.agg (u8s key).toArray) rfl ?_
    refine @Ends.val _ _ _ _ _ _ _ _ _ (.agg (placeC r c p q).toArray) rfl ?_
    refine @Ends.val _ _ _ _ _ _ _ _ _ (.agg (u8s H).toArray) rfl ?_
    refine @Ends.val _ _ _ _ _ _ _ _ _ (.agg (placeC r c p q).toArray) rfl ?_
    refine @Ends.any _ _ _ _ _ _ _ _ _ (isO w.heap.size 8 M) (isO_later _ _ _) rfl ?_
    intro v39 p39
    refine @Ends.val _ _ _ _ _ _ _ _ _ (.slice bo m d) rfl ?_
    refine @Ends.val _ _ _ _ _ _ _ _ _ (.slice (subA bo 12 d) (m - 12) (d - 12)) rfl ?_
    refine @Ends.val _ _ _ _ _ _ _ _ _ (.tuple #[.slice none 0 0, .int .i64 70]) rfl ?_
    refine @Ends.val _ _ _ _ _ _ _ _ _ (.tuple #[.slice none 0 0, .int .i64 70]) rfl ?_
    refine @Ends.val _ _ _ _ _ _ _ _ _ (.slice none 0 0) rfl ?_
    refine @Ends.val _ _ _ _ _ _ _ _ _ (.int .i64 70) rfl ?_
    refine @Ends.val _ _ _ _ _ _ _ _ _ (.slice none 0 0) rfl ?_
    refine @Ends.one _ _ _ _ _ _ _ ?_
    simp only [Act.put, List.setIfInBounds_toArray, List.set_cons_zero, List.set_cons_succ]
    have W1 : Hid (Below w.heap.size w wx) := below_chain V5.out.2.2.1 hb V5.out.2.2.1.size
    clear p39
    refine last_assign (.tmp 44) rfl (some 10) rfl (.int .i64 70) rfl ?_
    simp only [Act.put, List.setIfInBounds_toArray, List.set_cons_zero, List.set_cons_succ]
    go_wp2_with (go_at_call 147; refine (is_any 70 _).mono ?_; rintro e w' ⟨rfl, rfl⟩; rw [show ((70 : Int) == 0) = false from rfl])
    go_ret2
    exact ⟨rfl, W1.out⟩
set_option maxRecDepth 20000 in
set_option maxHeartbeats 2000000 in
theorem popen_yes (key : List Int) (r c p q : Int) (bo : Option Addr) (m d : Nat) (zs : List Int) (hk : key.length = 32) (hkb : Bytes key) (hr : Word r) (hc : U32 c) (hp : U32 p) (hq : U32 q) (h28 : 28 ≤ m) (hm : m ≤ 4124) (w : World) (hy : Seen w bo m zs) (hd : m ≤ d) (heq : (tellR zs == r && tellC zs == c) = true) (hO : opensL key (hdL r c) (moL p q) (zs.drop 12) = true) :
    Calls Tryz.prog 140 #[.agg (u8s key).toArray, .agg (placeC r c p q).toArray, .slice bo m d] w fun e w' => ∃ v, e = .returned (.tuple #[v, .int .i64 0]) ∧ isO w.heap.size (m - 28) (textL key (hdL r c) (zs.drop 12)) v w' ∧ Below w.heap.size w w' := by
  have i1 : ¬ (4124 : Int) < (m : Int) := by omega
  have HY : Hid (Seen w bo m zs) := hy
  have HD : Hid (m ≤ d) := hd
  obtain ⟨R, hR⟩ : ∃ R, tellR zs = R := ⟨_, rfl⟩
  obtain ⟨C, hC⟩ : ∃ C, tellC zs = C := ⟨_, rfl⟩
  have HT : Hid (tellR zs = R ∧ tellC zs = C) := ⟨hR, hC⟩
  have HE : Hid ((!(R == r && C == c)) = false) := by show (!(R == r && C == c)) = false; rw [← hR, ← hC, heq]; rfl
  obtain ⟨H, hH⟩ : ∃ H, hdL r c = H := ⟨_, rfl⟩
  obtain ⟨M, hM⟩ : ∃ H, moL p q = H := ⟨_, rfl⟩
  obtain ⟨B, hB⟩ : ∃ B, zs.drop 12 = B := ⟨_, rfl⟩
  have HH : Hid (hdL r c = H ∧ H.length = 12 ∧ Bytes H) := ⟨hH, by rw [← hH]; exact hdL_length r c, by rw [← hH]; exact hdL_bytes r c⟩
  have HM : Hid (moL p q = M ∧ M.length = 8 ∧ Bytes M) := ⟨hM, by rw [← hM]; exact moL_length p q, by rw [← hM]; exact moL_bytes p q⟩
  have HB : Hid ((∀ W, (Instr.sliceAt 67 (.slice bo m d) (some (.int .i64 12)) none none).run Tryz.prog W = .ok (.slice (subA bo 12 d) (m - 12) (d - 12)) W) ∧ Seen w (subA bo 12 d) (m - 12) B ∧ opensL key H M B = true) := by
    refine ⟨fun W => sl_l bo m d 12 (by omega) W, ?_, by rw [← hH, ← hM, ← hB]; exact hO⟩
    have h := hy.sub 12 m d (by omega) (Nat.le_refl _) hd
    rwa [hB, List.take_of_length_le (by rw [← hB, List.length_drop, hy.len]; omega)] at h
  have HK : Hid (key.length = 32 ∧ Bytes key ∧ Word r ∧ U32 c ∧ U32 p ∧ U32 q) := ⟨hk, hkb, hr, hc, hp, hq⟩
  obtain ⟨X, hX⟩ : ∃ X, textL key H B = X := ⟨_, rfl⟩
  have HX : Hid (textL key H B = X) := hX
  rw [hH, hB, hX]
  clear hX
  clear hy hd hR hC heq hH hM hB hk hkb hr hc hp hq hO
  go_enter Tryz.func140, Tryz.ntmps140
  go_wp2_with (first | (refine wpList_box_new rfl 42 _ rfl (u8s key) rfl ?_; intro w1 b1 s1 l1) | (refine wpList_box_new rfl 184 _ rfl (placeC r c p q) rfl ?_; intro w2 b2 s2 l2))
  refine (phead_any bo m d zs w2 (HY.out.later (below_chain l1 l2 (by omega)) (Nat.le_refl _)) h28 HD.out).mono ?_
  rintro e w3 ⟨rfl, l3⟩
  rw [HT.out.1, HT.out.2]
  have q3 := l3.size
  rw [s1] at b2
  have V3 : Hid (Blk w3 w.heap.size 42 (u8s key) ∧ Blk w3 (w.heap.size + 1) 184 (placeC r c p q) ∧ Below w.heap.size w w3) := ⟨(b1.later l2 (by omega)).later l3 (by omega), b2.later l3 (by omega), below_chain (below_chain l1 l2 (by omega)) l3 (by omega)⟩
  have cp : w3.cell? ⟨w.heap.size + 1, 2, none⟩ = some (.int .u32 p) := V3.out.2.1.cell 2
  have cq : w3.cell? ⟨w.heap.size + 1, 3, none⟩ = some (.int .u32 q) := V3.out.2.1.cell 3
  clear b1 b2 l1 l2 l3 s2 s1 q3
  have NP := neq_place R C p q r c
  rw [HE.out] at NP
  go_wp2_with (first | (refine wpList_build rfl 184 _ rfl #[(0, .int .u64 R), (1, .int .u32 C), (2, .int .u32 p), (3, .int .u32 q)] (by simp only [List.map_toArray, List.map_cons, List.map_nil]; rfl) _ (pbuild R C p q _) ?_) | (refine wpList_alloc_new rfl 184 rfl 4 _ pzPlace ?_; intro w4 b4 s4 l4) | (refine wpList_store_blk rfl 184 184 _ _ rfl _ rfl _ (placeC R C p q) rfl b4 rfl pzKey (placeC_one _ _ _ _) ?_; intro w5 b5 s5 k5; have V5 : Hid (Blk w5 w.heap.size 42 (u8s key) ∧ Blk w5 (w.heap.size + 1) 184 (placeC r c p q) ∧ Below w.heap.size w w5 ∧ Blk w5 w3.heap.size 184 (placeC R C p q)) := (by have L5 : Below w3.heap.size w3 w5 := below_kept l4 k5 (by omega) (fun j hj => by omega); exact ⟨V3.out.1.later L5 V3.out.1.lt, V3.out.2.1.later L5 V3.out.2.1.lt, below_chain V3.out.2.2 L5 V3.out.2.2.size, b5⟩)) | ((with_reducible show wpList _ _ _ (({ dst := some 31, op := _, type := _, pos := _, after := _, guard := _ } : Oper) :: _) _ _); refine wpList_load_blk rfl 184 _ rfl _ rfl (placeC R C p q) _ V5.out.2.2.2 Tryz.underlying184 rfl pzKey ?_) | ((with_reducible show wpList _ _ _ (({ dst := some 32, op := _, type := _, pos := _, after := _, guard := _ } : Oper) :: _) _ _); refine wpList_load_blk rfl 184 _ rfl _ rfl (placeC r c p q) _ V5.out.2.1 Tryz.underlying184 rfl pzKey ?_))
  clear NP cp cq b4 s4 l4 b5 s5 k5
  refine region_inv [.val (.agg (u8s key).toArray), .val (.agg (placeC r c p q).toArray), .val (.agg (u8s H).toArray), .val (.agg (placeC r c p q).toArray), .any (isO w.heap.size 8 M) (isO_later _ _ _), .val (.slice bo m d), .val (.slice (subA bo 12 d) (m - 12) (d - 12)), .any (isT w.heap.size (m - 28) X 0) (isT_later _ _ _ _), .any (isT w.heap.size (m - 28) X 0) (isT_later _ _ _ _), .any (isO w.heap.size (m - 28) X) (isO_later _ _ _), .val (.int .i64 0), .any (isO w.heap.size (m - 28) X) (isO_later _ _ _)] (by kernel_rfl) (by kernel_rfl) (by kernel_rfl) ?_ ?_
  · refine Steps'.cons ?_ (Steps'.cons ?_ (Steps'.cons ?_ (Steps'.cons ?_ (Steps'.cons ?_ (Steps'.cons ?_ (Steps'.cons ?_ (Steps'.cons ?_ (Steps'.cons ?_ (Steps'.cons ?_ (Steps'.cons ?_ (Steps'.cons ?_ (Steps'.one _ _ _ _ _ _ _))))))))))))
    · intro ax wx hb hs hd
      have h3 : ax.tmps.getD 3 undef = (.pointer (some ⟨w.heap.size, 0, none⟩)) := hs 3 (by kernel_rfl)
      exact Does.load 42 (.tmp 3) rfl w.heap.size 0 h3 (u8s key) _ ((V5.out.1).later hb (V5.out.1).lt).all Tryz.underlying42 rfl (by rw [u8s_length, HK.out.1]; exact sizeKey)
    · intro ax wx hb hs hd
      have h4 : ax.tmps.getD 4 undef = (.pointer (some ⟨w.heap.size + 1, 0, none⟩)) := hs 4 (by kernel_rfl)
      exact Does.load 184 (.tmp 4) rfl (w.heap.size + 1) 0 h4 (placeC r c p q) _ ((V5.out.2.1).later hb (V5.out.2.1).lt).all Tryz.underlying184 rfl pzKey
    · intro ax wx hb hs hd
      have h36 : ax.tmps.getD 36 undef = (.agg (placeC r c p q).toArray) := hd 1 36 rfl (by kernel_rfl) (by decide)
      refine Does.call 144 #[.agg (placeC r c p q).toArray] (by clear hs hd; go_simp) ?_
      refine (headOf_any r c p q HK.out.2.2.1 HK.out.2.2.2.1 wx).mono ?_
      rintro e w' ⟨rfl, l⟩
      rw [HH.out.1]
      exact ⟨_, rfl, rfl, l⟩
    · intro ax wx hb hs hd
      have h4 : ax.tmps.getD 4 undef = (.pointer (some ⟨w.heap.size + 1, 0, none⟩)) := hs 4 (by kernel_rfl)
      exact Does.load 184 (.tmp 4) rfl (w.heap.size + 1) 0 h4 (placeC r c p q) _ ((V5.out.2.1).later hb (V5.out.2.1).lt).all Tryz.underlying184 rfl pzKey
    · intro ax wx hb hs hd
      have h38 : ax.tmps.getD 38 undef = (.agg (placeC r c p q).toArray) := hd 3 38 rfl (by kernel_rfl) (by decide)
      refine Does.call 146 #[.agg (placeC r c p q).toArray] (by clear hs hd; go_simp) ?_
      refine (vouch_any r c p q HK.out.2.2.2.2.1 HK.out.2.2.2.2.2 wx).mono ?_
      rintro e w' ⟨v, rfl, o, l⟩
      rw [HM.out.1] at o
      exact ⟨_, rfl, ownsRow_base o (by have := hb.size; have := V5.out.2.2.1.size; omega), l⟩
    · intro ax wx hb hs hd
      have h2 : ax.tmps.getD 2 undef = (.slice bo m d) := hs 2 (by kernel_rfl)
      refine Does.value (.slice bo m d) ?_ rfl
      clear hs hd
      go_simp
    · intro ax wx hb hs hd
      have h40 : ax.tmps.getD 40 undef = (.slice bo m d) := hd 5 40 rfl (by kernel_rfl) (by decide)
      have S12 := HB.out.1
      refine Does.value (.slice (subA bo 12 d) (m - 12) (d - 12)) ?_ rfl
      clear hs hd
      go_simp
    · intro ax wx hb hs hd
      have h35 : ax.tmps.getD 35 undef = (.agg (u8s key).toArray) := hd 0 35 rfl (by kernel_rfl) (by decide)
      have h37 : ax.tmps.getD 37 undef = (.agg (u8s H).toArray) := hd 2 37 rfl (by kernel_rfl) (by decide)
      have p39 : (isO w.heap.size 8 M) (ax.tmps.getD 39 undef) wx := hd 4 39 rfl (by kernel_rfl) (by decide)
      have h41 : ax.tmps.getD 41 undef = (.slice (subA bo 12 d) (m - 12) (d - 12)) := hd 6 41 rfl (by kernel_rfl) (by decide)
      obtain ⟨mo, mc, h39, s39, c39, _⟩ := pown_sl HM.out.2.1 HM.out.2.2 (by decide) p39
      clear p39
      refine Does.call 155 #[.agg (u8s key).toArray, .agg (u8s H).toArray, .slice mo 8 mc, .slice (subA bo 12 d) (m - 12) (d - 12)] (by clear hs hd; go_simp) ?_
      refine (open_yes key H 8 mc (m - 12) (d - 12) mo (subA bo 12 d) M B HK.out.1 HH.out.2.1 HK.out.2.1 HH.out.2.2 (by omega) (by omega) (by decide) wx s39 (HB.out.2.1.later (below_chain V5.out.2.2.1 hb V5.out.2.2.1.size) (Nat.le_refl _)) c39 (by have := HD.out; omega) HB.out.2.2).mono ?_
      rintro e w' ⟨v, rfl, o, l⟩
      rw [HX.out, show m - 12 - 16 = m - 28 by omega] at o
      exact ⟨_, rfl, ⟨v, rfl, ownsRow_base o (by have := hb.size; have := V5.out.2.2.1.size; omega)⟩, l⟩
    · intro ax wx hb hs hd
      have p42 : (isT w.heap.size (m - 28) X 0) (ax.tmps.getD 42 undef) wx := hd 7 42 rfl (by kernel_rfl) (by decide)
      obtain ⟨u, h42, o⟩ := p42
      refine Does.value (.tuple #[u, .int .i64 0]) ?_ ⟨u, rfl, o⟩
      clear hs hd
      go_simp
    · intro ax wx hb hs hd
      have p34 : (isT w.heap.size (m - 28) X 0) (ax.tmps.getD 34 undef) wx := hd 8 34 rfl (by kernel_rfl) (by decide)
      obtain ⟨u, h34, o⟩ := p34
      refine Does.value u ?_ o
      clear hs hd
      go_simp
    · intro ax wx hb hs hd
      have p34 : (isT w.heap.size (m - 28) X 0) (ax.tmps.getD 34 undef) wx := hd 8 34 rfl (by kernel_rfl) (by decide)
      obtain ⟨u, h34, o⟩ := p34
      refine Does.value (.int .i64 0) ?_ rfl
      clear hs hd
      go_simp
    · intro ax wx hb hs hd
      have p43 : (isO w.heap.size (m - 28) X) (ax.tmps.getD 43 undef) wx := hd 9 43 rfl (by kernel_rfl) (by decide)
      obtain ⟨u, h43⟩ : ∃ u, ax.tmps.getD 43 undef = u := ⟨_, rfl⟩
      rw [h43] at p43
      refine Does.value u ?_ p43
      clear hs hd
      go_simp
  · intro wx hb
    refine @Ends.val _ _ _ _ _ _ _ _ _ (.agg (u8s key).toArray) rfl ?_
    refine @Ends.val _ _ _ _ _ _ _ _ _ (.agg (placeC r c p q).toArray) rfl ?_
    refine @Ends.val _ _ _ _ _ _ _ _ _ (.agg (u8s H).toArray) rfl ?_
    refine @Ends.val _ _ _ _ _ _ _ _ _ (.agg (placeC r c p q).toArray) rfl ?_
    refine @Ends.any _ _ _ _ _ _ _ _ _ (isO w.heap.size 8 M) (isO_later _ _ _) rfl ?_
    intro v39 p39
    refine @Ends.val _ _ _ _ _ _ _ _ _ (.slice bo m d) rfl ?_
    refine @Ends.val _ _ _ _ _ _ _ _ _ (.slice (subA bo 12 d) (m - 12) (d - 12)) rfl ?_
    refine @Ends.any _ _ _ _ _ _ _ _ _ (isT w.heap.size (m - 28) X 0) (isT_later _ _ _ _) rfl ?_
    intro v42 p42
    refine @Ends.any _ _ _ _ _ _ _ _ _ (isT w.heap.size (m - 28) X 0) (isT_later _ _ _ _) rfl ?_
    intro v34 p34
    refine @Ends.any _ _ _ _ _ _ _ _ _ (isO w.heap.size (m - 28) X) (isO_later _ _ _) rfl ?_
    intro v43 p43
    refine @Ends.val _ _ _ _ _ _ _ _ _ (.int .i64 0) rfl ?_
    refine @Ends.any _ _ _ _ _ _ _ _ _ (isO w.heap.size (m - 28) X) (isO_later _ _ _) rfl ?_
    intro v12 p12
    refine @Ends.one _ _ _ _ _ _ _ ?_
    simp only [Act.put, List.setIfInBounds_toArray, List.set_cons_zero, List.set_cons_succ]
    have W1 : Hid (isO w.heap.size (m - 28) X v12 wx ∧ Below w.heap.size w wx) := ⟨p12, below_chain V5.out.2.2.1 hb V5.out.2.2.1.size⟩
    clear p12 p43 p42 p39 p34
    refine last_assign (.tmp 44) rfl (some 10) rfl (.int .i64 0) rfl ?_
    simp only [Act.put, List.setIfInBounds_toArray, List.set_cons_zero, List.set_cons_succ]
    go_wp2_with (go_at_call 147; refine (is_any 0 _).mono ?_; rintro e w' ⟨rfl, rfl⟩; rw [show ((0 : Int) == 0) = true from rfl])
    go_ret2
    exact ⟨_, rfl, W1.out.1, W1.out.2⟩
end Go.Proofs.YtnagndnpamcbbaaGreat

namespace Go.Proofs.YtnagndnpamcbbaaGreat
open Go.RowKit
set_option linter.unusedVariables false
set_option linter.unusedSimpArgs false

set_option maxRecDepth 20000 in
set_option maxHeartbeats 1000000 in
theorem reqb_any (ao bo : Option Addr) (n n' c c' : Nat) (xs ys : List Int) (w : World) (hx : Seen w ao n xs) (hy : Seen w bo n' ys) :
    Calls Tryz.prog 38 #[.slice ao n c, .slice bo n' c'] w fun e w' => e = .returned (.bool (decide (xs = ys))) ∧ ∃ q, w' = w.drewN q := by
  have t1 := hx.top
  have t2 := hy.top
  by_cases hne : n = n'
  · subst hne
    have HL : Hid (xs.length = n ∧ ys.length = n) := ⟨hx.len, hy.len⟩
    go_enter Tryz.func38, Tryz.ntmps38
    go_wp2
    go_loopw [5] (fun i wr => ∃ k : Nat, k ≤ n ∧ i = .int .i64 k ∧ xs.take k = ys.take k ∧ ∃ q, wr = w.drewN q) (fun i _ => n - (intOf i).toNat)
    case atStart => exact ⟨0, Nat.zero_le _, rfl, by simp, 0, rfl⟩
    case round =>
      obtain ⟨k, hk, rfl, hs, q, rfl⟩ := hrel
      by_cases hlt : k < n
      · obtain ⟨b, o, rfl, hb, hc⟩ := hx.cells (by omega)
        obtain ⟨b', o', rfl, hb', hc'⟩ := hy.cells (by omega)
        have c1 := hc k hlt
        have c2 := hc' k hlt
        have HT := take_same_succ xs ys k (by have := HL.out.1; omega) (by have := HL.out.2; omega)
        obtain ⟨X, hX⟩ : ∃ X, xs.getD k 0 = X := ⟨_, rfl⟩
        obtain ⟨Y, hY⟩ : ∃ Y, ys.getD k 0 = Y := ⟨_, rfl⟩
        rw [hX] at c1 HT
        rw [hY] at c2 HT
        have HS : Hid (xs.take k = ys.take k) := hs
        have HT' : Hid (xs.take (k + 1) = ys.take (k + 1) ↔ xs.take k = ys.take k ∧ X = Y) := HT
        have i1 : (0 : Int) ≤ (k : Int) := by omega
        have i2 : (k : Int) < (n : Int) := by omega
        clear hX hY hc hc' hx hy hs HT hb hb'
        by_cases e : X = Y
        · have hd : (X != Y) = false := by simp [e]
          have HE : Hid (X = Y) := e
          clear e
          go_wp2
          go_quiet (fail)
          go_wp2
          go_roundw
          case rel => exact ⟨k + 1, by omega, by go_num, HT'.out.2 ⟨HS.out, HE.out⟩, _, rfl⟩
          case measure => simp [intOf]; omega
        · have hd : (X != Y) = true := by simp [e]
          have HE : Hid (¬ X = Y) := e
          clear e
          have HN : Hid (decide (xs = ys) = false) := by
            show _ = _
            apply decide_eq_false
            intro h
            exact HE.out (HT'.out.1 (by rw [h])).2
          go_wp2
          go_quiet (fail)
          go_wp2
          go_ret
          exact ⟨ret_bool HN.out.symm, _, World.drewN_drewN _ _ _⟩
      · have HE : Hid (decide (xs = ys) = true) := by
          show _ = _
          apply decide_eq_true
          have e1 : xs.take k = xs := List.take_of_length_le (by have := HL.out.1; omega)
          have e2 : ys.take k = ys := List.take_of_length_le (by have := HL.out.2; omega)
          rw [← e1, ← e2]; exact hs
        clear hs
        go_wp2
        go_ret
        exact ⟨ret_bool HE.out.symm, _, rfl⟩
  · have h : ((n : Int) != (n' : Int)) = true := by simp; omega
    have HN : Hid (decide (xs = ys) = false) := by
      show _ = _
      apply decide_eq_false
      intro h
      exact hne (by rw [← hx.len, ← hy.len, h])
    go_enter Tryz.func38, Tryz.ntmps38
    go_wp2
    go_ret
    exact ⟨ret_bool HN.out.symm, 0, rfl⟩
end Go.Proofs.YtnagndnpamcbbaaGreat

namespace Go.Proofs.YtnagndnpamcbbaaGreat
open Go.RowKit
set_option linter.unusedVariables false
set_option linter.unusedSimpArgs false

/-- A sheet: a key, a place, a slice of bytes. -/
structure Sh where
  key : List Int
  r : Int
  c : Int
  p : Int
  q : Int
  bo : Option Addr
  m : Nat
  d : Nat
  zs : List Int
def sheetC (s : Sh) : List Value := u8s s.key ++ (placeC s.r s.c s.p s.q ++ [.slice s.bo s.m s.d])
structure ShIn (w : World) (s : Sh) : Prop where
  k32 : s.key.length = 32
  kb : Bytes s.key
  hr : Word s.r
  hc : U32 s.c
  hp : U32 s.p
  hq : U32 s.q
  text : Seen w s.bo s.m s.zs
  hd : s.m ≤ s.d
  hn : s.bo = none → s.d = 0
theorem ShIn.later {w w' : World} {s : Sh} (h : ShIn w s) {B : Nat} (hb : Below B w w') (hB : w.heap.size ≤ B) : ShIn w' s := ⟨h.k32, h.kb, h.hr, h.hc, h.hp, h.hq, h.text.later hb hB, h.hd, h.hn⟩
/-- Does Open open it? -/
def pOpens (key : List Int) (r c p q : Int) (zs : List Int) : Bool := decide (28 ≤ zs.length) && decide (zs.length ≤ 4124) && ((tellR zs == r && tellC zs == c) && opensL key (hdL r c) (moL p q) (zs.drop 12))
/-- What Open answers then. -/
def pText (key : List Int) (r c : Int) (zs : List Int) : List Int := textL key (hdL r c) (zs.drop 12)
theorem popen_bad (key : List Int) (r c p q : Int) (bo : Option Addr) (m d : Nat) (zs : List Int) (hk : key.length = 32) (hkb : Bytes key) (hr : Word r) (hc : U32 c) (hp : U32 p) (hq : U32 q) (w : World) (hy : Seen w bo m zs) (hd : m ≤ d) (hO : pOpens key r c p q zs = false) :
    Calls Tryz.prog 140 #[.agg (u8s key).toArray, .agg (placeC r c p q).toArray, .slice bo m d] w fun e w' => e = .returned (.tuple #[.slice none 0 0, .int .i64 120]) ∧ Below w.heap.size w w' := by
  have hl := hy.len
  have t1 := hy.top
  by_cases h1 : 4124 < m
  · exact popen_long key r c p q bo m d t1 h1 w
  · by_cases h2 : m < 28
    · exact popen_short key r c p q bo m d h2 w
    · cases h3 : (tellR zs == r && tellC zs == c) with
      | false => exact popen_else key r c p q bo m d zs (by omega) (by omega) w hy hd h3
      | true =>
        refine popen_no key r c p q bo m d zs hk hkb hr hc hp hq (by omega) (by omega) w hy hd h3 ?_
        rw [pOpens, h3, decide_eq_true (by omega), decide_eq_true (by omega), Bool.true_and, Bool.true_and, Bool.true_and] at hO
        exact hO
theorem pOpens_len {key : List Int} {r c p q : Int} {zs : List Int} (h : pOpens key r c p q zs = true) : 28 ≤ zs.length ∧ zs.length ≤ 4124 ∧ (tellR zs == r && tellC zs == c) = true ∧ opensL key (hdL r c) (moL p q) (zs.drop 12) = true := by
  simp only [pOpens, Bool.and_eq_true, decide_eq_true_eq] at h
  exact ⟨h.1.1, h.1.2, by rw [h.2.1.1, h.2.1.2]; rfl, h.2.2⟩
theorem popen_good (key : List Int) (r c p q : Int) (bo : Option Addr) (m d : Nat) (zs : List Int) (hk : key.length = 32) (hkb : Bytes key) (hr : Word r) (hc : U32 c) (hp : U32 p) (hq : U32 q) (w : World) (hy : Seen w bo m zs) (hd : m ≤ d) (hO : pOpens key r c p q zs = true) :
    Calls Tryz.prog 140 #[.agg (u8s key).toArray, .agg (placeC r c p q).toArray, .slice bo m d] w fun e w' => ∃ v, e = .returned (.tuple #[v, .int .i64 0]) ∧ isO w.heap.size (m - 28) (pText key r c zs) v w' ∧ Below w.heap.size w w' := by
  obtain ⟨h1, h2, h3, h4⟩ := pOpens_len hO
  have hl := hy.len
  exact popen_yes key r c p q bo m d zs hk hkb hr hc hp hq (by omega) (by omega) w hy hd h3 h4
theorem tell_page (key : List Int) (r c p q : Int) {zs : List Int} (hb : Bytes zs) (hr : Word r) (hc : U32 c) : tellR (pageL key r c p q zs) = r ∧ tellC (pageL key r c p q zs) = c :=
  (tell_head (pageL_bytes key r c p q hb) (by rw [pageL_length]; omega) hr hc).2 (pageL_head key r c p q zs)
theorem opens_page (key : List Int) (r c p q : Int) {zs : List Int} (hb : Bytes zs) (hl : zs.length ≤ 4096) (hr : Word r) (hc : U32 c) : pOpens key r c p q (pageL key r c p q zs) = true := by
  have h := tell_page key r c p q hb hr hc
  rw [pOpens, pageL_length, decide_eq_true (by omega), decide_eq_true (by omega), h.1, h.2, pageL_box, opens_box]
  simp
theorem text_page (key : List Int) (r c p q : Int) {zs : List Int} (hb : Bytes zs) : pText key r c (pageL key r c p q zs) = zs := by rw [pText, pageL_box, text_box _ _ _ hb]
theorem page_text {key : List Int} {r c p q : Int} {zs : List Int} (hb : Bytes zs) (hr : Word r) (hc : U32 c) (h : pOpens key r c p q zs = true) : pageL key r c p q (pText key r c zs) = zs := by
  obtain ⟨h1, h2, h3, h4⟩ := pOpens_len h
  have ht : zs.take 12 = hdL r c := (tell_head hb (by omega) hr hc).1 (by simpa using h3)
  have hx := box_text key (hdL r c) (moL p q) (box := zs.drop 12) (fun z hz => hb z (List.mem_of_mem_drop hz)) h4
  rw [pageL, pText, hx, ← ht, List.take_append_drop]
def k7 : List Int := 7 :: List.replicate 31 0
theorem k7_bytes : Bytes k7 := fun z hz => by
  rcases List.mem_cons.1 hz with rfl | h
  · decide
  · rw [List.eq_of_mem_replicate h]; decide
theorem bk7 (w : World) : (Instr.build 42 #[(0, .int .u8 7)]).run Tryz.prog w = .ok (.agg (u8s k7).toArray) w := by kernel_rfl
theorem pb123 : Bytes [1, 2, 3] := fun z hz => by simp at hz; rcases hz with rfl | rfl | rfl <;> decide
end Go.Proofs.YtnagndnpamcbbaaGreat

namespace Go.Proofs.YtnagndnpamcbbaaGreat
open Go.RowKit
set_option linter.unusedVariables false
set_option linter.unusedSimpArgs false

theorem hc {w : World} {h : Nat} {s : HSt} {gl gm : Nat} {lg : Value} (b : Blk w h 136 (hostC s gl gm lg)) (j : Nat) : w.cell? ⟨h, j, none⟩ = (hostC s gl gm lg)[j]? := b.cell j
theorem down_any (h : Nat) (s : HSt) (M : Nat → Prop) (w : World) (x : HostAt w M h s) : Calls Tryz.prog 51 #[.pointer (some ⟨h, 0, none⟩)] w fun e w' => e = .returned (.bool s.down) ∧ w = w' := by
  obtain ⟨gl, gm, lg, rws, n, D, x⟩ := x
  have c7 : w.cell? ⟨h, 7, none⟩ = some (.bool s.down) := x.blk.cell 7
  clear x
  go_enter Tryz.func51, Tryz.ntmps51
  go_wp2
  go_ret
  exact ⟨rfl, rfl⟩
theorem pages_any (h : Nat) (s : HSt) (M : Nat → Prop) (w : World) (x : HostAt w M h s) : Calls Tryz.prog 281 #[.pointer (some ⟨h, 0, none⟩)] w fun e w' => e = .returned (.int .i64 s.pages) ∧ w = w' := by
  obtain ⟨gl, gm, lg, rws, n, D, x⟩ := x
  have c1 : w.cell? ⟨h, 1, none⟩ = some (.slice (some ⟨gl, 0, none⟩) s.pages s.pages) := x.blk.cell 1
  clear x
  go_enter Tryz.func281, Tryz.ntmps281
  go_wp2
  go_ret
  exact ⟨rfl, rfl⟩
theorem size_any (h : Nat) (s : HSt) (M : Nat → Prop) (w : World) (x : HostAt w M h s) : Calls Tryz.prog 283 #[.pointer (some ⟨h, 0, none⟩)] w fun e w' => e = .returned (.int .i64 s.size) ∧ w = w' := by
  obtain ⟨gl, gm, lg, rws, n, D, x⟩ := x
  have c0 : w.cell? ⟨h, 0, none⟩ = some (.int .i64 s.size) := x.blk.cell 0
  clear x
  go_enter Tryz.func283, Tryz.ntmps283
  go_wp2
  go_ret
  exact ⟨rfl, rfl⟩
def hasP (s : HSt) (p : Int) : Bool := decide (0 ≤ p ∧ p < s.pages)
theorem has_any (h : Nat) (s : HSt) (p : Int) (M : Nat → Prop) (w : World) (x : HostAt w M h s) : Calls Tryz.prog 292 #[.pointer (some ⟨h, 0, none⟩), .int .i64 p] w fun e w' => e = .returned (.bool (hasP s p)) ∧ w = w' := by
  obtain ⟨gl, gm, lg, rws, n, D, x⟩ := x
  have c1 : w.cell? ⟨h, 1, none⟩ = some (.slice (some ⟨gl, 0, none⟩) s.pages s.pages) := x.blk.cell 1
  clear x
  by_cases h0 : 0 ≤ p
  · by_cases h1 : p < s.pages
    · go_enter Tryz.func292, Tryz.ntmps292
      go_wp2
      go_ret
      exact ⟨ret_bool (by simp [hasP, h0, h1]), rfl⟩
    · go_enter Tryz.func292, Tryz.ntmps292
      go_wp2
      go_ret
      exact ⟨ret_bool (by simp [hasP, h0, h1]), rfl⟩
  · go_enter Tryz.func292, Tryz.ntmps292
    go_wp2
    go_ret
    exact ⟨ret_bool (by simp [hasP]; omega), rfl⟩
theorem checkH_any (h : Nat) (s : HSt) (p : Int) (M : Nat → Prop) (w : World) (x : HostAt w M h s) : Calls Tryz.prog 285 #[.pointer (some ⟨h, 0, none⟩), .int .i64 p] w fun e w' => e = .returned (.int .i64 (if hasP s p then 0 else 2)) ∧ w = w' := by
  have C := has_any h s p M w x
  cases hp : hasP s p
  · rw [hp] at C
    clear x hp
    go_enter Tryz.func285, Tryz.ntmps285
    go_wp2_with (go_at_call 292; refine C.mono ?_; rintro e _ ⟨rfl, rfl⟩)
    go_ret
    exact ⟨rfl, rfl⟩
  · rw [hp] at C
    clear x hp
    go_enter Tryz.func285, Tryz.ntmps285
    go_wp2_with (go_at_call 292; refine C.mono ?_; rintro e _ ⟨rfl, rfl⟩)
    go_ret
    exact ⟨rfl, rfl⟩
theorem checkH_nil (p : Int) (w : World) : Calls Tryz.prog 285 #[.pointer none, .int .i64 p] w fun e w' => e = .returned (.int .i64 1) ∧ w = w' := by
  go_enter Tryz.func285, Tryz.ntmps285
  go_wp2_with fail
  go_ret
  exact ⟨rfl, rfl⟩
/-- The faults are of known kinds. -/
def known (fs : List Fl) : Bool := fs.all fun f => decide (0 ≤ f.k ∧ f.k ≤ 4)
theorem known_cut {fs : List Fl} {i : Nat} (hi : i < fs.length) (h : ¬ (0 ≤ (fs.getD i default).k ∧ (fs.getD i default).k ≤ 4)) : known fs = false := by
  have e : fs.getD i default = fs[i] := by simp [List.getD, hi]
  rw [e] at h
  cases hk : known fs with
  | false => rfl
  | true =>
    simp only [known, List.all_eq_true] at hk
    have := hk _ (List.getElem_mem hi)
    simp only [decide_eq_true_eq] at this
    exact absurd this h
set_option maxRecDepth 20000 in
set_option maxHeartbeats 1000000 in
theorem allKnown_any (v : Value) (fs : List Fl) (M : Nat → Prop) (w : World) (x : FlS w M v fs) : Calls Tryz.prog 65 #[v] w fun e w' => e = .returned (.bool (known fs)) ∧ Below w.heap.size w w' := by
  obtain ⟨ao, c, rfl, hx⟩ := x.ex
  have X : Hid (FlS w M (.slice ao fs.length c) fs) := x
  have HX : Hid (∀ i, i < fs.length → ∃ b o, ao = some ⟨b, o, none⟩ ∧ b < w.heap.size ∧ M b ∧ w.rangeAt b (o + i * 6) (flC (fs.getD i default))) := hx
  have ht := x.top
  clear x hx
  obtain ⟨n, hn⟩ : ∃ n, fs.length = n := ⟨_, rfl⟩
  rw [hn] at ht ⊢
  have HN : Hid (fs.length = n) := hn
  clear hn
  go_enter Tryz.func65, Tryz.ntmps65
  go_wp2
  go_loopw [7] (fun i wr => ∃ k : Nat, k ≤ n ∧ i = .int .i64 k ∧ Below w.heap.size w wr ∧ ∀ j, j < k → 0 ≤ (fs.getD j default).k ∧ (fs.getD j default).k ≤ 4) (fun i _ => n - (intOf i).toNat)
  case atStart => exact ⟨0, Nat.zero_le _, rfl, Below.refl _ _, fun j hj => by omega⟩
  case round =>
    obtain ⟨k, hk, rfl, hbel, hall⟩ := hrel
    by_cases hlt : k < n
    · obtain ⟨b, o, rfl, hbl, _, hrg⟩ := HX.out k (by rw [HN.out]; exact hlt)
      obtain ⟨f, hf⟩ : ∃ f, fs.getD k default = f := ⟨_, rfl⟩
      rw [hf] at hrg
      have hg : f.Good := by rw [← hf]; exact Fl.good_at X.out.good k (by rw [HN.out]; exact hlt)
      have HB : Hid (Below w.heap.size w wr ∧ wr.rangeAt b (o + k * 6) (flC f) ∧ (∀ j, j < k → 0 ≤ (fs.getD j default).k ∧ (fs.getD j default).k ≤ 4) ∧ fs.getD k default = f) := ⟨hbel, rangeAt_same hrg (hbel.block b hbl), hall, hf⟩
      have hk1 := hg.2.1
      have i1 : (0 : Int) ≤ (k : Int) := by omega
      have i2 : (k : Int) < (n : Int) := by omega
      clear hbl hrg hf hg hbel hall
      by_cases h0 : 0 ≤ f.k ∧ f.k ≤ 4
      · have h01 := h0.1
        have h02 := h0.2
        have HK : Hid (0 ≤ f.k ∧ f.k ≤ 4) := h0
        clear h0
        go_wp2_with (first | (refine wpList_load_mid rfl 114 (.tmp 9) rfl b (o + k * 6) rfl (flC f) _ HB.out.2.1 Tryz.underlying114 rfl (sizeFl f) ?_) | (refine wpList_alloc_new rfl 114 rfl 6 _ zeroFl ?_; intro w4 b4 s4 l4) | (refine wpList_store_blk rfl 114 114 (.tmp 4) _ rfl _ rfl _ (flC f) rfl b4 rfl (sizeFl f) (flC_one f) ?_; intro w5 b5 s5 k5; have c1 : w5.cell? ⟨wr.heap.size, 1, none⟩ = some (.int .i64 f.k) := b5.cell 1))
        have R : Hid (Below w.heap.size w w5) := below_chain HB.out.1 (below_kept l4 k5 (by omega) (fun j hj => by omega)) HB.out.1.size
        clear b4 s4 l4 b5 s5 k5 c1
        go_roundw
        case rel => exact ⟨k + 1, by omega, by go_num, R.out, fun j hj => by
          rcases Nat.lt_or_ge j k with h1 | h1
          · exact HB.out.2.2.1 j h1
          · obtain rfl : j = k := by omega
            rw [HB.out.2.2.2]; exact HK.out⟩
        case measure => simp [intOf] <;> omega
      · have HF : Hid (known fs = false) := known_cut (i := k) (by rw [HN.out]; exact hlt) (by rw [HB.out.2.2.2]; exact h0)
        rcases (show f.k < 0 ∨ (0 ≤ f.k ∧ 4 < f.k) by omega) with h1 | ⟨h1, h2⟩
        all_goals
          clear h0
          go_wp2_with (first | (refine wpList_load_mid rfl 114 (.tmp 9) rfl b (o + k * 6) rfl (flC f) _ HB.out.2.1 Tryz.underlying114 rfl (sizeFl f) ?_) | (refine wpList_alloc_new rfl 114 rfl 6 _ zeroFl ?_; intro w4 b4 s4 l4) | (refine wpList_store_blk rfl 114 114 (.tmp 4) _ rfl _ rfl _ (flC f) rfl b4 rfl (sizeFl f) (flC_one f) ?_; intro w5 b5 s5 k5; have c1 : w5.cell? ⟨wr.heap.size, 1, none⟩ = some (.int .i64 f.k) := b5.cell 1))
          have R : Hid (Below w.heap.size w w5) := below_chain HB.out.1 (below_kept l4 k5 (by omega) (fun j hj => by omega)) HB.out.1.size
          clear b4 s4 l4 b5 s5 k5 c1
          go_ret
          exact ⟨ret_bool HF.out.symm, R.out⟩
    · obtain rfl : k = n := by omega
      have HF : Hid (known fs = true ∧ Below w.heap.size w wr) := ⟨by
        simp only [known, List.all_eq_true, decide_eq_true_eq]
        intro f hf
        obtain ⟨j, hj, rfl⟩ := List.getElem_of_mem hf
        have := hall j (by have := HN.out; omega)
        simpa [List.getD, hj] using this, hbel⟩
      clear hbel hall hk
      go_wp2
      go_ret
      exact ⟨ret_bool HF.out.1.symm, HF.out.2⟩
/-- What the power does under these faults: 0 it stays, 1 it goes ahead, 2 behind. -/
def powL (fs : List Fl) : Int := if fs.any (fun f => f.k == 3) then 1 else if fs.any (fun f => f.k == 4) then 2 else 0
theorem powL_ahead {fs : List Fl} {i : Nat} (hi : i < fs.length) (h : (fs.getD i default).k = 3) : powL fs = 1 := by
  have e : fs.getD i default = fs[i] := by simp [List.getD, hi]
  rw [e] at h
  unfold powL
  rw [if_pos]
  exact List.any_eq_true.2 ⟨_, List.getElem_mem hi, by simp [h]⟩
theorem take_any_succ {fs : List Fl} {k : Nat} (hk : k < fs.length) (q : Fl → Bool) : (fs.take (k + 1)).any q = ((fs.take k).any q || q (fs.getD k default)) := by
  rw [List.take_succ_eq_append_getElem hk, List.any_append]
  simp [List.getD, hk]
set_option maxRecDepth 20000 in
set_option maxHeartbeats 1000000 in
theorem power_any (v : Value) (fs : List Fl) (M : Nat → Prop) (w : World) (x : FlS w M v fs) : Calls Tryz.prog 294 #[v] w fun e w' => e = .returned (.int .i64 (powL fs)) ∧ Below w.heap.size w w' := by
  obtain ⟨ao, c, rfl, hx⟩ := x.ex
  have X : Hid (FlS w M (.slice ao fs.length c) fs) := x
  have HX : Hid (∀ i, i < fs.length → ∃ b o, ao = some ⟨b, o, none⟩ ∧ b < w.heap.size ∧ M b ∧ w.rangeAt b (o + i * 6) (flC (fs.getD i default))) := hx
  have ht := x.top
  clear x hx
  obtain ⟨n, hn⟩ : ∃ n, fs.length = n := ⟨_, rfl⟩
  rw [hn] at ht ⊢
  have HN : Hid (fs.length = n) := hn
  clear hn
  go_enter Tryz.func294, Tryz.ntmps294
  go_wp2
  go_loopw [3, 8] (fun pw i wr => ∃ k : Nat, k ≤ n ∧ i = .int .i64 k ∧ Below w.heap.size w wr ∧ (fs.take k).any (fun f => f.k == 3) = false ∧ pw = .int .i64 (if (fs.take k).any (fun f => f.k == 4) then 2 else 0)) (fun _ i _ => n - (intOf i).toNat)
  case atStart => exact ⟨0, Nat.zero_le _, rfl, Below.refl _ _, by simp, by simp⟩
  case round =>
    obtain ⟨k, hk, rfl, hbel, hall, rfl⟩ := hrel
    obtain ⟨pw, hpw⟩ : ∃ q, (if (fs.take k).any (fun f => f.k == 4) then (2 : Int) else 0) = q := ⟨_, rfl⟩
    rw [hpw]
    have HP : Hid ((if (fs.take k).any (fun f => f.k == 4) then (2 : Int) else 0) = pw) := hpw
    clear hpw
    by_cases hlt : k < n
    · obtain ⟨b, o, rfl, hbl, _, hrg⟩ := HX.out k (by rw [HN.out]; exact hlt)
      have hlt' : k < fs.length := by rw [HN.out]; exact hlt
      obtain ⟨f, hf⟩ : ∃ f, fs.getD k default = f := ⟨_, rfl⟩
      rw [hf] at hrg
      have HB : Hid (Below w.heap.size w wr ∧ wr.rangeAt b (o + k * 6) (flC f) ∧ (fs.take k).any (fun f => f.k == 3) = false ∧ fs.getD k default = f ∧ k < fs.length) := ⟨hbel, rangeAt_same hrg (hbel.block b hbl), hall, hf, hlt'⟩
      have i1 : (0 : Int) ≤ (k : Int) := by omega
      have i2 : (k : Int) < (n : Int) := by omega
      clear hbl hrg hf hbel hall hlt'
      by_cases h3 : f.k = 3
      · have h3' : (f.k == 3) = true := by simp [h3]
        have HF : Hid (powL fs = 1) := powL_ahead (i := k) HB.out.2.2.2.2 (by rw [HB.out.2.2.2.1]; exact h3)
        clear h3
        go_wp2_with (first | (refine wpList_load_mid rfl 114 (.tmp 10) rfl b (o + k * 6) rfl (flC f) _ HB.out.2.1 Tryz.underlying114 rfl (sizeFl f) ?_) | (refine wpList_alloc_new rfl 114 rfl 6 _ zeroFl ?_; intro w4 b4 s4 l4) | (refine wpList_store_blk rfl 114 114 (.tmp 5) _ rfl _ rfl _ (flC f) rfl b4 rfl (sizeFl f) (flC_one f) ?_; intro w5 b5 s5 k5; have c1 : w5.cell? ⟨wr.heap.size, 1, none⟩ = some (.int .i64 f.k) := b5.cell 1))
        have R : Hid (Below w.heap.size w w5) := below_chain HB.out.1 (below_kept l4 k5 (by omega) (fun j hj => by omega)) HB.out.1.size
        clear b4 s4 l4 b5 s5 k5 c1
        go_ret
        exact ⟨ret_int HF.out.symm, R.out⟩
      · have h3' : (f.k == 3) = false := by simp [h3]
        rcases (show f.k = 4 ∨ f.k ≠ 4 by omega) with h4 | h4
        · have h4' : (f.k == 4) = true := by simp [h4]
          have HF : Hid ((fs.take (k + 1)).any (fun f => f.k == 3) = false ∧ (if (fs.take (k + 1)).any (fun f => f.k == 4) then (2 : Int) else 0) = 2) := ⟨by rw [take_any_succ HB.out.2.2.2.2, HB.out.2.2.1, HB.out.2.2.2.1, h3']; rfl, by rw [take_any_succ HB.out.2.2.2.2, HB.out.2.2.2.1, h4', Bool.or_true]; rfl⟩
          clear h3 h4
          go_wp2_with (first | (refine wpList_load_mid rfl 114 (.tmp 10) rfl b (o + k * 6) rfl (flC f) _ HB.out.2.1 Tryz.underlying114 rfl (sizeFl f) ?_) | (refine wpList_alloc_new rfl 114 rfl 6 _ zeroFl ?_; intro w4 b4 s4 l4) | (refine wpList_store_blk rfl 114 114 (.tmp 5) _ rfl _ rfl _ (flC f) rfl b4 rfl (sizeFl f) (flC_one f) ?_; intro w5 b5 s5 k5; have c1 : w5.cell? ⟨wr.heap.size, 1, none⟩ = some (.int .i64 f.k) := b5.cell 1))
          have R : Hid (Below w.heap.size w w5) := below_chain HB.out.1 (below_kept l4 k5 (by omega) (fun j hj => by omega)) HB.out.1.size
          clear b4 s4 l4 b5 s5 k5 c1
          go_roundw
          case rel => exact ⟨k + 1, by omega, by go_num, R.out, HF.out.1, by rw [HF.out.2]⟩
          case measure => simp [intOf] <;> omega
        · have h4' : (f.k == 4) = false := by simp [h4]
          have HF : Hid ((fs.take (k + 1)).any (fun f => f.k == 3) = false ∧ (if (fs.take (k + 1)).any (fun f => f.k == 4) then (2 : Int) else 0) = pw) := ⟨by rw [take_any_succ HB.out.2.2.2.2, HB.out.2.2.1, HB.out.2.2.2.1, h3']; rfl, by rw [take_any_succ HB.out.2.2.2.2, HB.out.2.2.2.1, h4', Bool.or_false]; exact HP.out⟩
          clear h3 h4
          go_wp2_with (first | (refine wpList_load_mid rfl 114 (.tmp 10) rfl b (o + k * 6) rfl (flC f) _ HB.out.2.1 Tryz.underlying114 rfl (sizeFl f) ?_) | (refine wpList_alloc_new rfl 114 rfl 6 _ zeroFl ?_; intro w4 b4 s4 l4) | (refine wpList_store_blk rfl 114 114 (.tmp 5) _ rfl _ rfl _ (flC f) rfl b4 rfl (sizeFl f) (flC_one f) ?_; intro w5 b5 s5 k5; have c1 : w5.cell? ⟨wr.heap.size, 1, none⟩ = some (.int .i64 f.k) := b5.cell 1))
          have R : Hid (Below w.heap.size w w5) := below_chain HB.out.1 (below_kept l4 k5 (by omega) (fun j hj => by omega)) HB.out.1.size
          clear b4 s4 l4 b5 s5 k5 c1
          go_roundw
          case rel => exact ⟨k + 1, by omega, by go_num, R.out, HF.out.1, by rw [HF.out.2]⟩
          case measure => simp [intOf] <;> omega
    · obtain rfl : k = n := by omega
      have HF : Hid (powL fs = pw ∧ Below w.heap.size w wr) := ⟨by
        have e := HN.out
        rw [List.take_of_length_le (by omega)] at hall
        have p := HP.out
        rw [List.take_of_length_le (by omega)] at p
        unfold powL
        rw [hall, p]; rfl, hbel⟩
      clear hbel hall hk
      go_wp2
      go_ret
      exact ⟨ret_int HF.out.1.symm, HF.out.2⟩
end Go.Proofs.YtnagndnpamcbbaaGreat

namespace Go.Proofs.YtnagndnpamcbbaaGreat
open Go.RowKit
set_option linter.unusedVariables false
set_option linter.unusedSimpArgs false

/-- What lay on page p so many writes ago. -/
def agoL (s : HSt) (p : Nat) (b : Int) : List Int :=
  if b.toNat < (s.laid p).length then (s.laid p).getD ((s.laid p).length - 1 - b.toNat) [] else List.replicate s.size 0
theorem agoL_length {s : HSt} (g : s.Good) (p : Nat) (b : Int) : (agoL s p b).length = s.size := by
  unfold agoL
  split
  · next h =>
    have hi : (s.laid p).length - 1 - b.toNat < (s.laid p).length := by omega
    have e : (s.laid p).getD ((s.laid p).length - 1 - b.toNat) [] = (s.laid p)[(s.laid p).length - 1 - b.toNat] := by simp [List.getD, hi]
    rw [e]; exact g.len p _ (List.getElem_mem hi)
  · simp
theorem mk_bytes (n : Nat) (hn : n ≤ 1048576) (w : World) : (Instr.makeSlice 67 (.int .i64 (n : Int)) (.int .i64 (n : Int))).run Tryz.prog w = .ok (.slice (some ⟨w.heap.size, 0, none⟩) n n) (w.alloc (.cells (madeCells #[.int .u8 0] n) 5)) :=
  run_make_row' 67 5 (.int .u8 0) 1 Tryz.underlying67 info_byte rfl .i64 .i64 n (by omega) (by omega) w
theorem made_blk (w : World) (z : Value) (n : Nat) (t : TypeId) : Blk (w.alloc (.cells (madeCells #[z] n) t)) w.heap.size t (List.replicate n z) := by
  unfold Blk
  have e : madeCells #[z] n = (List.replicate n z).toArray := by
    apply Array.ext
    · simp [size_madeCells]
    · intro i h1 h2
      simp [madeCells, Nat.mod_one]
  rw [e]; exact heap_alloc_new w _
theorem zeros_u8s (n : Nat) : List.replicate n (Value.int .u8 0) = u8s (List.replicate n 0) := by simp [u8s]
theorem bytes_zeros (n : Nat) : Bytes (List.replicate n 0) := fun z hz => by rw [List.eq_of_mem_replicate hz]; decide
/-- A row of its own: new, known whole. -/
def NewB (w w' : World) (v : Value) (zs : List Int) : Prop := ∃ g, v = .slice (some ⟨g, 0, none⟩) zs.length zs.length ∧ Blk w' g 5 (u8s zs) ∧ w.heap.size ≤ g ∧ Bytes zs
theorem agoL_bytes {w : World} {M : Nat → Prop} {h : Nat} {s : HSt} (x : HostAt w M h s) (p : Nat) (hp : p < s.pages) (b : Int) : Bytes (agoL s p b) := by
  obtain ⟨gl, gm, lg, rws, n, D, x⟩ := x
  unfold agoL
  split
  · next hl =>
    rcases x.row p hp with ⟨_, e⟩ | ⟨g, o, cap, vs, e, hb, hM, hc, ho, hx⟩
    · rw [e] at hl; cases hl
    · obtain ⟨_, _, _, _, _, q, _⟩ := hx ((s.laid p).length - 1 - b.toNat) (by omega)
      exact q
  · exact bytes_zeros _
theorem ago_zeros {s : HSt} {p : Nat} {b : Int} {sz : Nat} (h : (s.laid p).length ≤ b.toNat) (e : s.size = sz) : agoL s p b = List.replicate sz 0 := by
  unfold agoL
  rw [if_neg (by omega), e]
theorem ago_at {s : HSt} {p : Nat} {b : Int} {j : Nat} (h : (s.laid p).length = j + b.toNat + 1) : agoL s p b = (s.laid p).getD j [] := by
  unfold agoL
  rw [if_pos (by omega), h, show j + b.toNat + 1 - 1 - b.toNat = j by omega]
set_option maxRecDepth 20000 in
set_option maxHeartbeats 1000000 in
theorem ago_any (h : Nat) (s : HSt) (p : Nat) (b : Int) (hp : p < s.pages) (hb : I64 b) (M : Nat → Prop) (w : World) (x : HostAt w M h s) :
    Calls Tryz.prog 295 #[.pointer (some ⟨h, 0, none⟩), .int .i64 p, .int .i64 b] w fun e w' => ∃ v, e = .returned v ∧ NewB w w' v (agoL s p b) ∧ Below w.heap.size w w' := by
  have HBy := agoL_bytes x p hp b
  obtain ⟨gl, gm, lg, rws, n, D, x⟩ := x
  have c0 : w.cell? ⟨h, 0, none⟩ = some (.int .i64 s.size) := x.blk.cell 0
  have c1 : w.cell? ⟨h, 1, none⟩ = some (.slice (some ⟨gl, 0, none⟩) s.pages s.pages) := x.blk.cell 1
  have cp : w.cell? ⟨gl, p, none⟩ = some (rws.getD p (.slice none 0 0)) := by
    rw [x.lot.cell p]
    have := x.cnt
    simp [List.getD, show p < rws.length by omega]
  have hL := agoL_length x.good p b
  have hs1 := x.good.size
  have hpg := x.good.pages
  have hlo := x.good.laid p
  have hop := x.good.ops
  obtain ⟨sz, hsz⟩ : ∃ q, s.size = q := ⟨_, rfl⟩
  obtain ⟨np, hnp⟩ : ∃ q, s.pages = q := ⟨_, rfl⟩
  have hhl : h < w.heap.size := x.blk.lt
  have hgl : gl < w.heap.size := x.lot.lt
  have HL : Hid ((agoL s p b).length = sz ∧ h < w.heap.size ∧ gl < w.heap.size ∧ Bytes (agoL s p b)) := ⟨by rw [← hsz]; exact hL, hhl, hgl, HBy⟩
  have hr := x.row p hp
  rw [hsz] at c0
  rw [hnp] at c1
  have HZ : Hid (s.size = sz ∧ s.pages = np) := ⟨hsz, hnp⟩
  have i1 : (0 : Int) ≤ (p : Int) := by omega
  have i2 : (p : Int) < (np : Int) := by omega
  have mk := mk_bytes sz (by omega)
  have B0 : Hid (Blk (w.alloc (.cells (madeCells #[.int .u8 0] sz) 5)) w.heap.size 5 (u8s (List.replicate sz 0)) ∧ Below w.heap.size w (w.alloc (.cells (madeCells #[.int .u8 0] sz) 5))) := ⟨by rw [← zeros_u8s]; exact made_blk _ _ _ _, (Below.refl _ _).alloc (Nat.le_refl _) _⟩
  have hsz4 : sz ≤ 4124 := by omega
  have hwg : w.heap.size ≠ h := by omega
  have hwl : w.heap.size ≠ gl := by omega
  clear hL hs1 hsz hnp HBy
  rcases hr with ⟨er, el⟩ | ⟨g, o, cap, vs, er, hbk, hM, hc, ho, hx⟩
  · rw [er] at cp
    have HF : Hid (agoL s p b = List.replicate sz 0) := ago_zeros (by rw [el]; exact Nat.zero_le _) HZ.out.1
    clear er el x hlo hpg
    rcases (show b < 0 ∨ 0 ≤ b by omega) with h0 | h0
    all_goals
      go_enter Tryz.func295, Tryz.ntmps295
      go_wp2_with fail
      go_ret
      refine ⟨.slice (some ⟨w.heap.size, 0, none⟩) sz sz, rfl, ⟨w.heap.size, by rw [HF.out, List.length_replicate], by rw [HF.out]; exact B0.out.1, Nat.le_refl _, HL.out.2.2.2⟩, B0.out.2⟩
  · rw [er] at cp
    obtain ⟨L, hLn⟩ : ∃ q, (s.laid p).length = q := ⟨_, rfl⟩
    rw [hLn] at cp hc hx hlo
    have hgg : g < w.heap.size := hbk.lt
    have hwb : w.heap.size ≠ g := by omega
    rcases (show L ≤ b.toNat ∨ ∃ j, L = j + b.toNat + 1 from by
      rcases Nat.lt_or_ge b.toNat L with h | h
      · exact .inr ⟨L - 1 - b.toNat, by omega⟩
      · exact .inl h) with hz | ⟨j, hj⟩
    · have HF : Hid (agoL s p b = List.replicate sz 0) := ago_zeros (by rw [hLn]; exact hz) HZ.out.1
      clear er x hpg hx hLn hbk
      rcases (show b < 0 ∨ 0 ≤ b by omega) with h0 | h0
      · obtain rfl : L = 0 := by omega
        clear hz
        go_enter Tryz.func295, Tryz.ntmps295
        go_wp2_with fail
        go_ret
        refine ⟨.slice (some ⟨w.heap.size, 0, none⟩) sz sz, rfl, ⟨w.heap.size, by rw [HF.out, List.length_replicate], by rw [HF.out]; exact B0.out.1, Nat.le_refl _, HL.out.2.2.2⟩, B0.out.2⟩
      · have h1 : (L : Int) ≤ b := by omega
        clear hz
        go_enter Tryz.func295, Tryz.ntmps295
        go_wp2_with fail
        go_ret
        refine ⟨.slice (some ⟨w.heap.size, 0, none⟩) sz sz, rfl, ⟨w.heap.size, by rw [HF.out, List.length_replicate], by rw [HF.out]; exact B0.out.1, Nat.le_refl _, HL.out.2.2.2⟩, B0.out.2⟩
    · have hF : agoL s p b = (s.laid p).getD j [] := ago_at (by rw [hLn]; exact hj)
      obtain ⟨bb, cc, e1, hr1, hMb, hBy, hle⟩ := hx j (by omega)
      rw [← hF] at e1 hr1 hBy hle
      rw [HL.out.1] at e1
      have cj : w.cell? ⟨g, o + j, none⟩ = some (.slice (some ⟨bb, 0, none⟩) sz cc) := by rw [hbk.cell, e1]
      have Z := HL.out.1
      obtain ⟨zs, hzs⟩ : ∃ q, agoL s p b = q := ⟨_, rfl⟩
      rw [hzs] at hr1 hBy Z
      have S1 := (Seen.of_row (n := sz) hr1 (by omega) (by omega) hBy).later B0.out.2 (Nat.le_refl _)
      rw [List.take_of_length_le (by omega)] at S1
      have HS : Hid (Seen (w.alloc (.cells (madeCells #[.int .u8 0] sz) 5)) (some ⟨bb, 0, none⟩) sz zs ∧ agoL s p b = zs ∧ zs.length = sz ∧ Bytes zs) := ⟨S1, hzs, Z, hBy⟩
      clear er x hpg hx hLn hbk e1 hr1 hBy hle Z S1 hF hzs hMb
      have HK : Hid (zs.take sz = zs) := List.take_of_length_le (by rw [HS.out.2.2.1]; exact Nat.le_refl _)
      rcases (show b < 0 ∨ 0 ≤ b by omega) with h0 | h0
      · have e2 : (L : Int) - 1 = (j : Int) := by omega
        have e3 : (0 : Int) ≤ (j : Int) := by omega
        have e4 : (j : Int) < (L : Int) := by omega
        clear hj
        go_enter Tryz.func295, Tryz.ntmps295
        go_wp2_with (first | ((with_reducible show wpList _ _ _ (({ dst := some 35, op := _, type := _, pos := _, after := _, guard := _ } : Oper) :: _) _ _); refine wpList_copy_seen rfl _ _ rfl w.heap.size 0 sz sz _ _ sz cc rfl rfl zs HS.out.1 5 [] (u8s (List.replicate sz 0)) [] (by simpa using B0.out.1) rfl sz (Nat.min_self _) (by rw [u8s_length, List.length_replicate]) (fun _ => rfl) ?_; intro w2 b2 s2 k2))
        have R : Hid (Blk w2 w.heap.size 5 (u8s zs) ∧ Below w.heap.size w w2) := ⟨by rw [HK.out] at b2; simpa using b2, below_kept B0.out.2 k2 B0.out.2.size (fun j hj => by omega)⟩
        clear b2 s2 k2
        go_ret
        exact ⟨.slice (some ⟨w.heap.size, 0, none⟩) sz sz, rfl, ⟨w.heap.size, by rw [HS.out.2.1, HS.out.2.2.1], by rw [HS.out.2.1]; exact R.out.1, Nat.le_refl _, HL.out.2.2.2⟩, R.out.2⟩
      · have e2 : (L : Int) - 1 - b = (j : Int) := by omega
        have e3 : (0 : Int) ≤ (j : Int) := by omega
        have e4 : (j : Int) < (L : Int) := by omega
        clear hj
        go_enter Tryz.func295, Tryz.ntmps295
        go_wp2_with (first | ((with_reducible show wpList _ _ _ (({ dst := some 35, op := _, type := _, pos := _, after := _, guard := _ } : Oper) :: _) _ _); refine wpList_copy_seen rfl _ _ rfl w.heap.size 0 sz sz _ _ sz cc rfl rfl zs HS.out.1 5 [] (u8s (List.replicate sz 0)) [] (by simpa using B0.out.1) rfl sz (Nat.min_self _) (by rw [u8s_length, List.length_replicate]) (fun _ => rfl) ?_; intro w2 b2 s2 k2))
        have R : Hid (Blk w2 w.heap.size 5 (u8s zs) ∧ Below w.heap.size w w2) := ⟨by rw [HK.out] at b2; simpa using b2, below_kept B0.out.2 k2 B0.out.2.size (fun j hj => by omega)⟩
        clear b2 s2 k2
        go_ret
        exact ⟨.slice (some ⟨w.heap.size, 0, none⟩) sz sz, rfl, ⟨w.heap.size, by rw [HS.out.2.1, HS.out.2.2.1], by rw [HS.out.2.1]; exact R.out.1, Nat.le_refl _, HL.out.2.2.2⟩, R.out.2⟩
end Go.Proofs.YtnagndnpamcbbaaGreat

namespace Go.Proofs.YtnagndnpamcbbaaGreat
open Go.RowKit
set_option linter.unusedVariables false
set_option linter.unusedSimpArgs false

/-- A byte is turned. -/
def turnL (zs : List Int) (f : Fl) : List Int := if 0 ≤ f.b ∧ f.b < zs.length then zs.set f.b.toNat (bits .xor .u8 (zs.getD f.b.toNat 0) f.y) else zs
theorem turnL_length (zs : List Int) (f : Fl) : (turnL zs f).length = zs.length := by unfold turnL; split <;> simp
set_option maxRecDepth 20000 in
set_option maxHeartbeats 1000000 in
theorem turn_any (g : Nat) (zs : List Int) (f : Fl) (hf : f.Good) (hz : Bytes zs) (hl : zs.length ≤ 1048576) (w : World) (x : Blk w g 5 (u8s zs)) :
    Calls Tryz.prog 296 #[.slice (some ⟨g, 0, none⟩) zs.length zs.length, .agg (flC f).toArray] w fun e w' => e = .returned (.tuple #[]) ∧ Blk w' g 5 (u8s (turnL zs f)) ∧ Kept (fun k => k = g) w w' := by
  have X : Hid (Blk w g 5 (u8s zs)) := x
  have hg : g < w.heap.size := x.lt
  have hgw : w.heap.size ≠ g := by omega
  have hb3 := hf.2.2.2.1
  have hy := hf.2.2.2.2.1
  obtain ⟨n, hn⟩ : ∃ n, zs.length = n := ⟨_, rfl⟩
  rw [hn] at hl ⊢
  have HN : Hid (zs.length = n) := hn
  clear hn hf
  rcases (show f.b < 0 ∨ (n : Int) ≤ f.b ∧ 0 ≤ f.b ∨ (0 ≤ f.b ∧ f.b < (n : Int)) by omega) with h0 | ⟨h0, h1⟩ | ⟨h0, h1⟩
  · have HF : Hid (turnL zs f = zs) := if_neg (by omega)
    clear x
    go_enter Tryz.func296, Tryz.ntmps296
    go_wp2_with (first | (refine wpList_box_new rfl 114 _ rfl (flC f) rfl ?_; intro w1 b1 s1 l1; have c3 : w1.cell? ⟨w.heap.size, 3, none⟩ = some (.int .i64 f.b) := b1.cell 3))
    go_end0
    exact ⟨rfl, by rw [HF.out]; exact X.out.later l1 X.out.lt, Kept.new _ l1⟩
  · have HF : Hid (turnL zs f = zs) := if_neg (by have := HN.out; omega)
    clear x
    go_enter Tryz.func296, Tryz.ntmps296
    go_wp2_with (first | (refine wpList_box_new rfl 114 _ rfl (flC f) rfl ?_; intro w1 b1 s1 l1; have c3 : w1.cell? ⟨w.heap.size, 3, none⟩ = some (.int .i64 f.b) := b1.cell 3))
    go_end0
    exact ⟨rfl, by rw [HF.out]; exact X.out.later l1 X.out.lt, Kept.new _ l1⟩
  · obtain ⟨j, hj⟩ : ∃ j : Nat, f.b = (j : Int) := ⟨f.b.toNat, by omega⟩
    obtain ⟨z, hzz⟩ : ∃ z, zs.getD j 0 = z := ⟨_, rfl⟩
    have HF : Hid (turnL zs f = zs.set j (bits .xor .u8 z f.y)) := by
      have e : turnL zs f = zs.set f.b.toNat (bits .xor .u8 (zs.getD f.b.toNat 0) f.y) := if_pos ⟨h0, by have := HN.out; omega⟩
      rw [hj, Int.toNat_natCast, hzz] at e; exact e
    have cz : w.cell? ⟨g, j, none⟩ = some (.int .u8 z) := by rw [← hzz]; exact u8s_cell x j (by have := HN.out; omega)
    have fz : w.frozen? ⟨g, j, none⟩ = false := x.frozen j
    have bz := hz.at j (by have := HN.out; omega)
    rw [hzz] at bz
    clear x hzz
    have h1' : (j : Int) < (n : Int) := by omega
    have h0' : (0 : Int) ≤ (j : Int) := by omega
    have HJ : Hid (f.b = (j : Int)) := hj
    clear hj h0 h1 hb3
    go_enter Tryz.func296, Tryz.ntmps296
    go_wp2_with (first | (refine wpList_box_new rfl 114 _ rfl (flC f) rfl ?_; intro w1 b1 s1 l1; have c3 : w1.cell? ⟨w.heap.size, 3, none⟩ = some (.int .i64 j) := by { rw [b1.cell 3, ← HJ.out]; rfl }; have c4 : w1.cell? ⟨w.heap.size, 4, none⟩ = some (.int .u8 f.y) := b1.cell 4; have cz1 : w1.cell? ⟨g, j, none⟩ = some (.int .u8 z) := (l1.cell (p := ⟨g, j, none⟩) hg).trans cz; have fz1 : w1.frozen? ⟨g, j, none⟩ = false := (X.out.later l1 X.out.lt).frozen j))
    go_region_with (fail)
    all_goals
      go_end0
      have B2 := (X.out.later l1 X.out.lt).set j (.int .u8 (bits .xor .u8 z f.y))
      rw [u8s_set] at B2
      exact ⟨rfl, by rw [HF.out]; exact B2.drew, ((Kept.new (fun k => k = g) l1).setCell (p := ⟨g, j, none⟩) rfl _).drew⟩
def spL (s : HSt) (p : Nat) (z : List Int) (f : Fl) : List Int :=
  if f.k = 0 then turnL z f else if f.k = 1 then agoL s p f.c else if f.k = 2 ∧ hasP s f.p then agoL s f.p.toNat 0 else z
/-- What a read answers under these faults. -/
def spoL (s : HSt) (p : Nat) (fs : List Fl) : List Int := fs.foldl (spL s p) (agoL s p 0)
theorem spL_length {s : HSt} (g : s.Good) (p : Nat) (z : List Int) (f : Fl) (h : z.length = s.size) : (spL s p z f).length = s.size := by
  unfold spL
  split
  · rw [turnL_length, h]
  · split
    · exact agoL_length g _ _
    · split
      · exact agoL_length g _ _
      · exact h
theorem spoL_take {s : HSt} (p : Nat) (fs : List Fl) (k : Nat) (hk : k < fs.length) : spoL s p (fs.take (k + 1)) = spL s p (spoL s p (fs.take k)) (fs.getD k default) := by
  unfold spoL
  rw [List.take_succ_eq_append_getElem hk, List.foldl_append]
  simp [List.getD, hk]
theorem spoL_length {s : HSt} (g : s.Good) (p : Nat) (fs : List Fl) : (spoL s p fs).length = s.size := by
  unfold spoL
  have : ∀ (l : List Fl) (z : List Int), z.length = s.size → (l.foldl (spL s p) z).length = s.size := by
    intro l
    induction l with
    | nil => intro z hz; exact hz
    | cons f l ih => intro z hz; exact ih _ (spL_length g p z f hz)
  exact this fs _ (agoL_length g p 0)
theorem xor8 (x y : Int) (hx : 0 ≤ x ∧ x < 256) (hy : 0 ≤ y ∧ y < 256) : 0 ≤ bits .xor .u8 x y ∧ bits .xor .u8 x y < 256 := by
  have h1 : x.toNat ^^^ y.toNat < 2 ^ 8 := Nat.xor_lt_two_pow (by omega) (by omega)
  rw [u8_xor x y hx.1 hx.2 hy.1 hy.2]
  omega
theorem turnL_bytes {z : List Int} {f : Fl} (hz : Bytes z) (hf : f.Good) : Bytes (turnL z f) := by
  unfold turnL
  split
  · next h =>
    intro y hy
    rcases List.mem_or_eq_of_mem_set hy with h1 | rfl
    · exact hz y h1
    · exact xor8 _ _ (hz.at _ (by omega)) hf.2.2.2.2.1
  · exact hz
theorem spL_bytes {w : World} {M : Nat → Prop} {h : Nat} {s : HSt} (x : HostAt w M h s) {p : Nat} (hp : p < s.pages) {z : List Int} {f : Fl} (hz : Bytes z) (hf : f.Good) : Bytes (spL s p z f) := by
  unfold spL
  split
  · exact turnL_bytes hz hf
  · split
    · exact agoL_bytes x p hp _
    · split
      · next h => exact agoL_bytes x _ (by have := h.2; simp [hasP] at this; omega) _
      · exact hz
set_option maxRecDepth 20000 in
set_option maxHeartbeats 2000000 in
theorem spoilt_any (h : Nat) (s : HSt) (p : Nat) (hp : p < s.pages) (v : Value) (fs : List Fl) (M : Nat → Prop) (w : World) (x : HostAt w M h s) (y : FlS w M v fs) :
    Calls Tryz.prog 289 #[.pointer (some ⟨h, 0, none⟩), .int .i64 p, v] w fun e w' => ∃ v, e = .returned v ∧ NewB w w' v (spoL s p fs) ∧ Below w.heap.size w w' := by
  obtain ⟨ao, c, rfl, hx⟩ := y.ex
  have G : Hid s.Good := by obtain ⟨_, _, _, _, _, _, x⟩ := x; exact x.good
  have X : Hid (HostAt w M h s ∧ FlS w M (.slice ao fs.length c) fs ∧ p < s.pages) := ⟨x, y, hp⟩
  have HX : Hid (∀ i, i < fs.length → ∃ b o, ao = some ⟨b, o, none⟩ ∧ b < w.heap.size ∧ M b ∧ w.rangeAt b (o + i * 6) (flC (fs.getD i default))) := hx
  have ht := y.top
  have CA : Hid (∀ (W : World), Below w.heap.size w W → ∀ (q : Nat) (b : Int), q < s.pages → I64 b → Calls Tryz.prog 295 #[.pointer (some ⟨h, 0, none⟩), .int .i64 q, .int .i64 b] W fun e w' => ∃ v, e = .returned v ∧ NewB W w' v (agoL s q b) ∧ Below W.heap.size W w') :=
    fun W hW q b hq hb => ago_any h s q b hq hb M W (X.out.1.later hW)
  have CH : Hid (∀ (W : World), Below w.heap.size w W → ∀ (q : Int), Calls Tryz.prog 292 #[.pointer (some ⟨h, 0, none⟩), .int .i64 q] W fun e w' => e = .returned (.bool (hasP s q)) ∧ W = w') :=
    fun W hW q => has_any h s q M W (X.out.1.later hW)
  have C0 := CA.out w (Below.refl _ _) p 0 hp (by decide)
  clear x y hx
  obtain ⟨n, hn⟩ : ∃ n, fs.length = n := ⟨_, rfl⟩
  rw [hn] at ht ⊢
  have HN : Hid (fs.length = n) := hn
  clear hn hp
  go_enter Tryz.func289, Tryz.ntmps289
  go_wp2_with (go_at_call 295; refine C0.mono ?_; rintro e w1 ⟨v1, rfl, n1, l1⟩)
  go_loopw [7, 15] (fun b i wr => ∃ k : Nat, k ≤ n ∧ i = .int .i64 k ∧ Below w.heap.size w wr ∧ NewB w wr b (spoL s p (fs.take k))) (fun _ i _ => n - (intOf i).toNat)
  case atStart => exact ⟨0, Nat.zero_le _, rfl, l1, n1⟩
  case round =>
    obtain ⟨k, hk, rfl, hbel, hnb⟩ := hrel
    obtain ⟨g, rfl, hbk, hgw, hby⟩ := hnb
    have hlz := spoL_length G.out p (fs.take k)
    rw [hlz]
    obtain ⟨zs, hzs⟩ : ∃ q, spoL s p (fs.take k) = q := ⟨_, rfl⟩
    rw [hzs] at hbk hby hlz
    obtain ⟨sz, hsz⟩ : ∃ q, s.size = q := ⟨_, rfl⟩
    rw [hsz] at hlz ⊢
    have hs4 : sz ≤ 4124 := by rw [← hsz]; exact G.out.size.2
    by_cases hlt : k < n
    · obtain ⟨b, o, rfl, hbl, _, hrg⟩ := HX.out k (by rw [HN.out]; exact hlt)
      have hlt' : k < fs.length := by rw [HN.out]; exact hlt
      obtain ⟨f, hf⟩ : ∃ f, fs.getD k default = f := ⟨_, rfl⟩
      rw [hf] at hrg
      have hg : f.Good := by rw [← hf]; exact Fl.good_at X.out.2.1.good k hlt'
      have hst : spoL s p (fs.take (k + 1)) = spL s p zs f := by rw [spoL_take p fs k hlt', hzs, hf]
      have HB : Hid (Below w.heap.size w wr ∧ wr.rangeAt b (o + k * 6) (flC f) ∧ Blk wr g 5 (u8s zs) ∧ w.heap.size ≤ g ∧ g < wr.heap.size ∧ Bytes zs ∧ f.Good ∧ spoL s p (fs.take (k + 1)) = spL s p zs f ∧ zs.length = sz ∧ s.size = sz) := ⟨hbel, rangeAt_same hrg (hbel.block b hbl), hbk, hgw, hbk.lt, hby, hg, hst, hlz, hsz⟩
      have HE : Hid (∀ (v : Value) (W W' : World), Below w.heap.size w W → NewB W W' v (spL s p zs f) → Below W.heap.size W W' → NewB w W' v (spoL s p (fs.take (k + 1))) ∧ Below w.heap.size w W') := fun v W W' h1 h2 h3 => by
        obtain ⟨q, e1, e2, e3, e4⟩ := h2
        exact ⟨⟨q, by rw [hst]; exact e1, by rw [hst]; exact e2, Nat.le_trans h1.size e3, by rw [hst]; exact e4⟩, below_chain h1 h3 h1.size⟩
      have i1 : (0 : Int) ≤ (k : Int) := by omega
      have i2 : (k : Int) < (n : Int) := by omega
      clear hbl hrg hf hg hst hbk hgw hby hlt' hbel hzs hlz hsz
      rcases (show f.k = 0 ∨ f.k = 1 ∨ (f.k = 2 ∧ hasP s f.p = true) ∨ (f.k = 2 ∧ hasP s f.p = false) ∨ (f.k ≠ 0 ∧ f.k ≠ 1 ∧ f.k ≠ 2) by
        cases hasP s f.p <;> simp <;> omega) with h0 | h0 | ⟨h0, h1⟩ | ⟨h0, h1⟩ | ⟨h0, h1, h2⟩
      · have q0 : (f.k == 0) = true := by simp [h0]
        have HF : Hid (spL s p zs f = turnL zs f) := if_pos h0
        clear h0
        go_wp2_with (first | (refine wpList_load_mid rfl 114 (.tmp 17) rfl b (o + k * 6) rfl (flC f) _ HB.out.2.1 Tryz.underlying114 rfl (sizeFl f) ?_) | (refine wpList_alloc_new rfl 114 rfl 6 _ zeroFl ?_; intro w4 b4 s4 l4) | (refine wpList_store_blk rfl 114 114 (.tmp 9) _ rfl _ rfl _ (flC f) rfl b4 rfl (sizeFl f) (flC_one f) ?_; intro w5 b5 s5 k5; have c1 : w5.cell? ⟨wr.heap.size, 1, none⟩ = some (.int .i64 f.k) := b5.cell 1) | (refine wpList_load_blk rfl 114 (.tmp 9) rfl _ rfl (flC f) _ b5 Tryz.underlying114 rfl (sizeFl f) ?_))
        have U5 : Hid (Below wr.heap.size wr w5) := below_kept l4 k5 (by omega) (fun j hj => by omega)
        have CT := turn_any g zs f HB.out.2.2.2.2.2.2.1 HB.out.2.2.2.2.2.1 (by rw [HB.out.2.2.2.2.2.2.2.2.1]; omega) w5 (HB.out.2.2.1.later U5.out HB.out.2.2.2.2.1)
        rw [HB.out.2.2.2.2.2.2.2.2.1] at CT
        refine CT.mono ?_
        rintro e w6 ⟨rfl, b6, k6⟩
        have R : Hid (NewB w w6 (.slice (some ⟨g, 0, none⟩) sz sz) (spoL s p (fs.take (k + 1))) ∧ Below w.heap.size w w6) := by
          refine ⟨⟨g, ?_, ?_, HB.out.2.2.2.1, ?_⟩, below_kept (below_chain HB.out.1 U5.out HB.out.1.size) k6 (by have := U5.out.size; have := HB.out.1.size; omega) (fun j hj => by have := HB.out.2.2.2.1; omega)⟩
          · rw [HB.out.2.2.2.2.2.2.2.1, HF.out, turnL_length, HB.out.2.2.2.2.2.2.2.2.1]
          · rw [HB.out.2.2.2.2.2.2.2.1, HF.out]; exact b6
          · rw [HB.out.2.2.2.2.2.2.2.1, HF.out]; exact turnL_bytes HB.out.2.2.2.2.2.1 HB.out.2.2.2.2.2.2.1
        clear b4 s4 l4 b5 s5 k5 c1 b6 k6 U5 CT
        go_wp2
        go_roundw
        case rel => exact ⟨k + 1, by omega, by go_num, R.out.2, R.out.1⟩
        case measure => simp [intOf] <;> omega
      · have q0 : (f.k == 0) = false := by simp [h0]
        have q1 : (f.k == 1) = true := by simp [h0]
        have HF : Hid (spL s p zs f = agoL s p f.c) := by
          have : spL s p zs f = agoL s p f.c := by unfold spL; rw [if_neg (by omega), if_pos h0]
          exact this
        clear h0
        go_wp2_with (first | (refine wpList_load_mid rfl 114 (.tmp 17) rfl b (o + k * 6) rfl (flC f) _ HB.out.2.1 Tryz.underlying114 rfl (sizeFl f) ?_) | (refine wpList_alloc_new rfl 114 rfl 6 _ zeroFl ?_; intro w4 b4 s4 l4) | (refine wpList_store_blk rfl 114 114 (.tmp 9) _ rfl _ rfl _ (flC f) rfl b4 rfl (sizeFl f) (flC_one f) ?_; intro w5 b5 s5 k5; have c1 : w5.cell? ⟨wr.heap.size, 1, none⟩ = some (.int .i64 f.k) := b5.cell 1; have c5 : w5.cell? ⟨wr.heap.size, 5, none⟩ = some (.int .i64 f.c) := b5.cell 5))
        have U5 : Hid (Below w.heap.size w w5) := below_chain HB.out.1 (below_kept l4 k5 (by omega) (fun j hj => by omega)) HB.out.1.size
        refine (CA.out w5 U5.out p f.c X.out.2.2 HB.out.2.2.2.2.2.2.1.2.2.2.2.2).mono ?_
        rintro e w6 ⟨v6, rfl, n6, l6⟩
        have R : Hid (NewB w w6 v6 (spoL s p (fs.take (k + 1))) ∧ Below w.heap.size w w6) := HE.out v6 w5 w6 U5.out (by rw [HF.out]; exact n6) l6
        clear c5
        clear b4 s4 l4 b5 s5 k5 c1 n6 l6 U5
        go_wp2
        go_roundw
        case rel => exact ⟨k + 1, by omega, by go_num, R.out.2, R.out.1⟩
        case measure => simp [intOf] <;> omega
      · have q0 : (f.k == 0) = false := by simp [h0]
        have q1 : (f.k == 1) = false := by simp [h0]
        have q2 : (f.k == 2) = true := by simp [h0]
        obtain ⟨q, hq⟩ : ∃ q : Nat, f.p = (q : Int) := ⟨f.p.toNat, by simp [hasP] at h1; omega⟩
        have HQ : Hid (f.p = (q : Int) ∧ q < s.pages) := ⟨hq, by simp [hasP] at h1; omega⟩
        have HF : Hid (spL s p zs f = agoL s q 0) := by
          have : spL s p zs f = agoL s q 0 := by unfold spL; rw [if_neg (by omega), if_neg (by omega), if_pos ⟨h0, h1⟩, hq, Int.toNat_natCast]
          exact this
        have C5 := fun W hW => CH.out W hW f.p
        rw [h1, hq] at C5
        clear h0 h1 hq
        go_wp2_with (first | (refine wpList_load_mid rfl 114 (.tmp 17) rfl b (o + k * 6) rfl (flC f) _ HB.out.2.1 Tryz.underlying114 rfl (sizeFl f) ?_) | (refine wpList_alloc_new rfl 114 rfl 6 _ zeroFl ?_; intro w4 b4 s4 l4) | (refine wpList_store_blk rfl 114 114 (.tmp 9) _ rfl _ rfl _ (flC f) rfl b4 rfl (sizeFl f) (flC_one f) ?_; intro w5 b5 s5 k5; have c1 : w5.cell? ⟨wr.heap.size, 1, none⟩ = some (.int .i64 f.k) := b5.cell 1; have c2 : w5.cell? ⟨wr.heap.size, 2, none⟩ = some (.int .i64 q) := by { rw [b5.cell 2, ← HQ.out.1]; rfl }) | (go_at_call 292; refine (C5 w5 (below_chain HB.out.1 (below_kept l4 k5 (by omega) (fun j hj => by omega)) HB.out.1.size)).mono ?_; rintro e _ ⟨rfl, rfl⟩))
        have U5 : Hid (Below w.heap.size w w5) := below_chain HB.out.1 (below_kept l4 k5 (by omega) (fun j hj => by omega)) HB.out.1.size
        refine (CA.out w5 U5.out q 0 HQ.out.2 (by decide)).mono ?_
        rintro e w6 ⟨v6, rfl, n6, l6⟩
        have R : Hid (NewB w w6 v6 (spoL s p (fs.take (k + 1))) ∧ Below w.heap.size w w6) := HE.out v6 w5 w6 U5.out (by rw [HF.out]; exact n6) l6
        clear c2
        clear b4 s4 l4 b5 s5 k5 c1 n6 l6 U5
        go_wp2
        go_roundw
        case rel => exact ⟨k + 1, by omega, by go_num, R.out.2, R.out.1⟩
        case measure => simp [intOf] <;> omega
      · have q0 : (f.k == 0) = false := by simp [h0]
        have q1 : (f.k == 1) = false := by simp [h0]
        have q2 : (f.k == 2) = true := by simp [h0]
        have HF : Hid (spL s p zs f = zs) := by
          have : spL s p zs f = zs := by unfold spL; rw [if_neg (by omega), if_neg (by omega), if_neg (by rw [h1]; simp)]
          exact this
        have C5 := fun W hW => CH.out W hW f.p
        rw [h1] at C5
        clear h0 h1
        go_wp2_with (first | (refine wpList_load_mid rfl 114 (.tmp 17) rfl b (o + k * 6) rfl (flC f) _ HB.out.2.1 Tryz.underlying114 rfl (sizeFl f) ?_) | (refine wpList_alloc_new rfl 114 rfl 6 _ zeroFl ?_; intro w4 b4 s4 l4) | (refine wpList_store_blk rfl 114 114 (.tmp 9) _ rfl _ rfl _ (flC f) rfl b4 rfl (sizeFl f) (flC_one f) ?_; intro w5 b5 s5 k5; have c1 : w5.cell? ⟨wr.heap.size, 1, none⟩ = some (.int .i64 f.k) := b5.cell 1; have c2 : w5.cell? ⟨wr.heap.size, 2, none⟩ = some (.int .i64 f.p) := b5.cell 2) | (go_at_call 292; refine (C5 w5 (below_chain HB.out.1 (below_kept l4 k5 (by omega) (fun j hj => by omega)) HB.out.1.size)).mono ?_; rintro e _ ⟨rfl, rfl⟩))
        have R : Hid (NewB w w5 (.slice (some ⟨g, 0, none⟩) sz sz) (spoL s p (fs.take (k + 1))) ∧ Below w.heap.size w w5) := by
          have U4 : Below wr.heap.size wr w5 := below_kept l4 k5 (by omega) (fun j hj => by omega)
          refine ⟨⟨g, ?_, ?_, HB.out.2.2.2.1, ?_⟩, below_chain HB.out.1 U4 HB.out.1.size⟩
          · rw [HB.out.2.2.2.2.2.2.2.1, HF.out, HB.out.2.2.2.2.2.2.2.2.1]
          · rw [HB.out.2.2.2.2.2.2.2.1, HF.out]; exact HB.out.2.2.1.later U4 HB.out.2.2.2.2.1
          · rw [HB.out.2.2.2.2.2.2.2.1, HF.out]; exact HB.out.2.2.2.2.2.1
        clear c2
        clear b4 s4 l4 b5 s5 k5 c1
        go_roundw
        case rel => exact ⟨k + 1, by omega, by go_num, R.out.2, R.out.1⟩
        case measure => simp [intOf] <;> omega
      · have q0 : (f.k == 0) = false := by simp [h0]
        have q1 : (f.k == 1) = false := by simp [h1]
        have q2 : (f.k == 2) = false := by simp [h2]
        have HF : Hid (spL s p zs f = zs) := by
          have : spL s p zs f = zs := by unfold spL; rw [if_neg h0, if_neg h1, if_neg (fun h => h2 h.1)]
          exact this
        clear h0 h1 h2
        go_wp2_with (first | (refine wpList_load_mid rfl 114 (.tmp 17) rfl b (o + k * 6) rfl (flC f) _ HB.out.2.1 Tryz.underlying114 rfl (sizeFl f) ?_) | (refine wpList_alloc_new rfl 114 rfl 6 _ zeroFl ?_; intro w4 b4 s4 l4) | (refine wpList_store_blk rfl 114 114 (.tmp 9) _ rfl _ rfl _ (flC f) rfl b4 rfl (sizeFl f) (flC_one f) ?_; intro w5 b5 s5 k5; have c1 : w5.cell? ⟨wr.heap.size, 1, none⟩ = some (.int .i64 f.k) := b5.cell 1))
        have R : Hid (NewB w w5 (.slice (some ⟨g, 0, none⟩) sz sz) (spoL s p (fs.take (k + 1))) ∧ Below w.heap.size w w5) := by
          have U4 : Below wr.heap.size wr w5 := below_kept l4 k5 (by omega) (fun j hj => by omega)
          refine ⟨⟨g, ?_, ?_, HB.out.2.2.2.1, ?_⟩, below_chain HB.out.1 U4 HB.out.1.size⟩
          · rw [HB.out.2.2.2.2.2.2.2.1, HF.out, HB.out.2.2.2.2.2.2.2.2.1]
          · rw [HB.out.2.2.2.2.2.2.2.1, HF.out]; exact HB.out.2.2.1.later U4 HB.out.2.2.2.2.1
          · rw [HB.out.2.2.2.2.2.2.2.1, HF.out]; exact HB.out.2.2.2.2.2.1
        clear b4 s4 l4 b5 s5 k5 c1
        go_roundw
        case rel => exact ⟨k + 1, by omega, by go_num, R.out.2, R.out.1⟩
        case measure => simp [intOf] <;> omega
    · obtain rfl : k = n := by omega
      have HF : Hid (spoL s p fs = zs ∧ Below w.heap.size w wr ∧ Blk wr g 5 (u8s zs) ∧ w.heap.size ≤ g ∧ Bytes zs ∧ zs.length = sz) := ⟨by
        rw [← hzs, List.take_of_length_le (by rw [HN.out]; exact Nat.le_refl _)], hbel, hbk, hgw, hby, hlz⟩
      clear hbel hzs hbk hgw hby hk hlz hsz
      go_wp2
      go_ret
      exact ⟨.slice (some ⟨g, 0, none⟩) sz sz, rfl, ⟨g, by rw [HF.out.1, HF.out.2.2.2.2.2], by rw [HF.out.1]; exact HF.out.2.2.1, HF.out.2.2.2.1, by rw [HF.out.1]; exact HF.out.2.2.2.2.1⟩, HF.out.2.1⟩
end Go.Proofs.YtnagndnpamcbbaaGreat

namespace Go.Proofs.YtnagndnpamcbbaaGreat
open Go.RowKit
set_option linter.unusedVariables false
set_option linter.unusedSimpArgs false

def HSt.past (s : HSt) : HSt := { s with coming := fun k => if k = s.ops then [] else s.coming k }
theorem map_ne {w : World} {gm n : Nat} {D : DataW Value} (x : w.ownsMap Tryz.prog 3 heldR gm n D) {g : Nat} {t : TypeId} {vs : List Value} (hb : Blk w g t vs) : g ≠ gm := fun e => by
  subst e
  obtain ⟨es, clock, h1, _⟩ := x
  unfold Blk at hb
  rw [h1] at hb
  cases hb
theorem RowP.isBlk {w : World} {M : Nat → Prop} {v : Value} {L : List (List Int)} (h : RowP w M v L) {b : Nat} (hb : rowBlk v = some b) : ∃ vs, Blk w b 67 vs := by
  rcases h with ⟨rfl, _⟩ | ⟨g, o, cap, vs, rfl, hk, _⟩
  · cases hb
  · cases hb; exact ⟨vs, hk⟩
theorem HostIn.past {w w' : World} {M : Nat → Prop} {h : Nat} {s : HSt} {gl gm : Nat} {lg : Value} {rws : List Value} {n : Nat} {D : DataW Value} (x : HostIn w M h s gl gm lg rws n D)
    (hm : w'.ownsMap Tryz.prog 3 heldR gm n (D.del (.int .i64 s.ops))) (hg : w.grownBy w' (some gm)) : HostIn w' M h s.past gl gm lg rws n (D.del (.int .i64 s.ops)) ∧ FlS w' M (lookV D s.ops) (s.coming s.ops) ∧ Kept (fun k => k = gm) w w' := by
  have hk : Kept (fun k => k = gm) w w' := ⟨hg.os, hg.tape, hg.output, hg.size, fun k hk hs => hg.block k hk (fun e => hs (Option.some.inj e))⟩
  have ne : ∀ {t : TypeId} (b : Nat) (vs : List Value), Blk w b t vs → ¬ b = gm := fun b vs hb => map_ne x.map hb
  refine ⟨⟨⟨x.good.size, x.good.pages, x.good.depth, x.good.reg, x.good.ops, x.good.log, x.good.laid, x.good.len⟩, x.blk.kept hk (ne _ _ x.blk), x.lot.kept hk (ne _ _ x.lot), x.cnt, x.mh, x.ml, x.mm, hm, fun k => ?_, log_kept x.log hk ne, fun p hp => row_kept (x.row p hp) hk (fun b hb => ?_) ne, x.apart, fun k hk => Nat.lt_of_lt_of_le (x.all k hk) hg.size⟩, (com_kept (x.com _) hk ne).mono (fun k hk => hk.1), hk⟩
  · by_cases e : k = s.ops
    · subst e
      rw [lookV_del, show s.past.coming s.ops = [] from if_pos rfl]
      exact FlS.nil _ _
    · rw [lookV_del_other _ _ e, show s.past.coming k = s.coming k from if_neg e]
      exact com_kept (x.com k) hk ne
  · obtain ⟨vs, hv⟩ := (x.row p hp).isBlk hb
    exact ne _ _ hv
/-- The host's own block alone is written. -/
theorem HostIn.turned {w w' : World} {M : Nat → Prop} {h : Nat} {s : HSt} {gl gm : Nat} {lg : Value} {rws : List Value} {n : Nat} {D : DataW Value} (x : HostIn w M h s gl gm lg rws n D) (s' : HSt)
    (g : s'.Good) (e1 : s'.pages = s.pages) (e2 : s'.coming = s.coming) (e3 : s'.laid = s.laid) (e4 : s'.log = s.log) (b : Blk w' h 136 (hostC s' gl gm lg)) (hk : Kept (fun k => k = h) w w') : HostIn w' M h s' gl gm lg rws n D := by
  have ne : ∀ {t : TypeId}, t ≠ 136 → ∀ (b : Nat) (vs : List Value), Blk w b t vs → ¬ b = h := fun ht b vs hb => blk_ne hb x.blk ht
  refine ⟨g, b, x.lot.kept hk (ne (by decide) _ _ x.lot), by rw [e1]; exact x.cnt, x.mh, x.ml, x.mm, ownsMap_same x.map (hk.block _ x.map.lt (map_ne x.map x.blk).symm), fun k => by rw [e2]; exact com_kept (x.com k) hk (ne (by decide)), by rw [e4]; exact log_kept x.log hk (ne (by decide)), fun p hp => ?_, by rw [e1]; exact x.apart, fun k hk' => Nat.lt_of_lt_of_le (x.all k hk') hk.size⟩
  rw [e1] at hp
  rw [e3]
  exact row_kept (x.row p hp) hk (fun b hb => by
    obtain ⟨vs, hv⟩ := (x.row p hp).isBlk hb
    exact ne (by decide) _ _ hv) (ne (by decide))
theorem i64_ops {s : HSt} (g : s.Good) : I64 (s.ops : Int) := by have := g.ops; constructor <;> omega
set_option maxRecDepth 20000 in
set_option maxHeartbeats 1000000 in
theorem bef_any (h : Nat) (s : HSt) (M : Nat → Prop) (gl gm : Nat) (lg : Value) (rws : List Value) (n : Nat) (D : DataW Value) (w : World) (x : HostIn w M h s gl gm lg rws n D) :
    Calls Tryz.prog 293 #[.pointer (some ⟨h, 0, none⟩)] w fun e w' => e = .returned (lookV D s.ops) ∧ HostIn w' M h s.past gl gm lg rws n (D.del (.int .i64 s.ops)) ∧ FlS w' M (lookV D s.ops) (s.coming s.ops) ∧ Kept (fun k => k = gm) w w' := by
  have X : Hid (HostIn w M h s gl gm lg rws n D) := x
  have c4 : w.cell? ⟨h, 4, none⟩ = some (.map (some gm)) := x.blk.cell 4
  have c5 : w.cell? ⟨h, 5, none⟩ = some (.int .i64 s.ops) := x.blk.cell 5
  have hlk := look_at x.map (i64_ops x.good)
  obtain ⟨v, hv⟩ : ∃ q, lookV D s.ops = q := ⟨_, rfl⟩
  rw [hv] at hlk
  have HV : Hid (lookV D s.ops = v) := hv
  rw [hv]
  clear x hv
  have HL : Hid (∀ k, (Instr.lookup 131 (.map (some gm)) (.int .i64 s.ops) false).run Tryz.prog (w.drewN k) = .ok v (w.drewN k)) := fun k => by
    have := look_at (w := w.drewN k) X.out.map (i64_ops X.out.good)
    rw [HV.out] at this
    exact this
  go_enter Tryz.func293, Tryz.ntmps293
  have hl1 : (Instr.lookup 131 (.map (some gm)) (.int .i64 s.ops) false).run Tryz.prog w.drew = .ok v w.drew := HL.out 1
  have own2 : w.drew.drew.ownsMap Tryz.prog 3 heldR gm n D := X.out.map
  obtain ⟨w2, hd2, m2, t2⟩ := own2.drop keysI Tryz.underlying131 (Maps.keyOf_int_mk Tryz.underlying3 (wf_of_i64 (i64_ops X.out.good))) 0
  have R : Hid (HostIn w2 M h s.past gl gm lg rws n (D.del (.int .i64 s.ops)) ∧ FlS w2 M (lookV D s.ops) (s.coming s.ops) ∧ Kept (fun k => k = gm) w w2) := by
    have q := t2.grown
    exact X.out.past m2 ⟨q.os, q.tape, q.output, q.size, q.block⟩
  clear own2 m2 t2
  go_wp2_with fail
  go_region_with (fail)
  all_goals
    go_wp2_with fail
    go_region_with (fail)
    all_goals
      go_wp2_with fail
      go_ret
      exact ⟨rfl, R.out.1, by rw [← HV.out]; exact R.out.2.1, R.out.2.2⟩
set_option maxRecDepth 20000 in
theorem restart_any (h : Nat) (s : HSt) (M : Nat → Prop) (w : World) (x : HostAt w M h s) : Calls Tryz.prog 78 #[.pointer (some ⟨h, 0, none⟩)] w fun e w' => e = .returned (.tuple #[]) ∧ HostAt w' M h { s with down := false } ∧ Kept (fun k => k = h) w w' := by
  obtain ⟨gl, gm, lg, rws, n, D, x⟩ := x
  have X : Hid (HostIn w M h s gl gm lg rws n D) := x
  have f7 : w.frozen? ⟨h, 7, none⟩ = false := x.blk.frozen 7
  have c7 : w.cell? ⟨h, 7, none⟩ = some (.bool s.down) := x.blk.cell 7
  clear x
  go_enter Tryz.func78, Tryz.ntmps78
  go_wp2_with fail
  go_end0
  have hk : Kept (fun k => k = h) w (w.setCell ⟨h, 7, none⟩ (.bool false)) := (Kept.refl (fun k => k = h) _).setCell (p := ⟨h, 7, none⟩) rfl _
  exact ⟨rfl, (X.out.turned { s with down := false } ⟨X.out.good.size, X.out.good.pages, X.out.good.depth, X.out.good.reg, X.out.good.ops, X.out.good.log, X.out.good.laid, X.out.good.len⟩ rfl rfl rfl rfl (X.out.blk.set 7 (.bool false)) hk).at, hk⟩
end Go.Proofs.YtnagndnpamcbbaaGreat
