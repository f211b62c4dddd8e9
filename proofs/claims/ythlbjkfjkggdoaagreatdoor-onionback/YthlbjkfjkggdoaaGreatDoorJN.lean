/- Joined by program: what the theorem reaches. -/
import Derived.ProofKit
import Derived.OpenShut
import Derived.ShutString
import Derived.ChangeOld
import Derived.SizedLaws
import Derived.Conc.Holds
import Derived.Leaving
import Derived.Deep.Slices
import Derived.LaidMore
import Derived.Stop.Joined
import Derived.Lib.LaidTab
import Derived.SevenTiedAt
import Derived.Test.YthlbjkfjkggdoaaGreatDoorJA
import Derived.Test.YthlbjkfjkggdoaaGreatDoorJC
import Derived.Test.YthlbjkfjkggdoaaGreatDoorJL
import Derived.Test.YthlbjkfjkggdoaaGreatDoorJM
namespace Go.Proofs.YthlbjkfjkggdoaaGreatDoor
open Go.RowKit Go.ChangeShapes Go.WideShapes Go.ChangeAt Go.Deep Go.WideMaps Go.WideElems
set_option linter.unusedVariables false
set_option linter.unusedSimpArgs false
set_option maxRecDepth 20000
set_option maxHeartbeats 2000000
theorem sizeU (l : List Int) (h : l.length = 32) : (Tryz.prog.info? 23).map (·.size) = some (u8s l).length := by rw [u8s_length, h]; exact ksizeKey
theorem lenU (l m : List Int) (h : l.length = 32) (h' : m.length = 32) : (u8s l).length = (u8s m).length := by rw [u8s_length, u8s_length, h, h']
theorem len0 : (List.replicate 32 (0 : Int)).length = 32 := rfl
theorem isO_kept {S : Nat → Prop} {B n : Nat} {zs : List Int} {v : Value} {w w' : World} (h : isO B n zs v w) (hk : Kept S w w') (hS : ∀ k, B ≤ k → ¬ S k) : isO B n zs v w' := by
 refine ⟨h.1, ?_⟩
 rcases h.2 with h0 | ⟨g, cap, cur, rfl, hg, hh, r⟩
 ·exact .inl h0
 ·exact .inr ⟨g, cap, cur, rfl, hg, by rw [hk.block g (Array.getElem?_eq_some_iff.1 hh).1 (hS g hg)]; exact hh, r⟩
def isT2 (n : Nat) (zs : List Int) (v : Value) (w : World) : Prop := ∃ q, v = .tuple #[q, .int .i64 0] ∧ isB n zs q w
theorem isT2_later (n : Nat) (zs : List Int) : ∀ v w w', Below w.heap.size w w' → isT2 n zs v w → isT2 n zs v w' := fun _ _ _ hb ⟨q, h1, h2⟩ => ⟨q, h1, isB_later _ _ _ _ _ hb h2⟩
theorem ret_tbt {fn : Func} {p q r : Tmp} {ty : TypeId} (h : fn.results = #[.tmp p, .cell q ty, .tmp r]) {R : Ending → World → Prop} {a : Act} {w : World} (g : Nat) (vs : List Value) (d : TypeDesc) (v u : Value) (hp : a.tmps.getD p undef = v) (hq : a.tmps.getD q undef = .pointer (some ⟨g, 0, none⟩)) (hr : a.tmps.getD r undef = u)
  (hb : Blk w g ty vs) (hu : Tryz.prog.underlying ty = some d) (hd : d.isRow = true) (hi : (Tryz.prog.info? ty).map (·.size) = some vs.length) (hdef : a.defers = []) (hR : R (.returned (.tuple #[v, .agg vs.toArray, u])) w) : bodyPost Tryz.prog fn R .ret a w := by
 refine bodyPost_ret (v := .tuple #[v, .agg vs.toArray, u]) ?_ hdef hR
 have hp' : a.tmps[p]?.getD undef = v := by simpa using hp
 have hq' : a.tmps[q]?.getD undef = .pointer (some ⟨g, 0, none⟩) := by simpa using hq
 have hr' : a.tmps[r]?.getD undef = u := by simpa using hr
 have hl := run_loadVar_row (P := Tryz.prog) w g ty ty vs.toArray (0, 0) d hb hu (by cases d <;> simp_all) (by simpa using hi)
 simp [results, h, hp', hq', hr', asAddr, hl]
theorem putOn_any (server priv : List Int) (rd : Int) (ao : Option Addr) (n c : Nat) (zs : List Int) (h1 : server.length = 32) (b1 : Bytes server) (h2 : priv.length = 32) (b2 : Bytes priv) (hr : 0 ≤ rd ∧ rd < 18446744073709551616) (hn : n ≤ 1048576) (w : World) (hx : Seen w ao n zs) (hc : n ≤ c) (hK : KTab w) :
  Calls Tryz.prog 61 #[.agg (u8s server).toArray, .agg (u8s priv).toArray, .int .u64 rd, .slice ao n c] w fun e w' => ∃ v, e = .returned (.tuple #[v, .agg (u8s (repO rd server priv)).toArray, .int .u64 (validN priv server)]) ∧ isO w.heap.size (n + 48) (layL rd server priv zs) v w' ∧ Below w.heap.size w w' := by
 have HX : Hid (Seen w ao n zs ∧ n ≤ c ∧ KTab w ∧ n ≤ 1048576) := ⟨hx, hc, hK, hn⟩
 have HL : Hid (server.length = 32 ∧ Bytes server ∧ priv.length = 32 ∧ Bytes priv) := ⟨h1, b1, h2, b2⟩
 have HR : Hid (0 ≤ rd ∧ rd < 18446744073709551616) := hr
 have CB := base_any priv h2 b2
 have CA := agree_any priv server h2 b2 h1 b1
 have CS := sched_any (prodL priv server) (prodL priv nineL) server rd (prodL_length _ _) (prodL_bytes _ _) (prodL_length _ _) (prodL_bytes _ _) h1 b1 hr
 have CN := nonce_any 0 rd (by decide) hr
 obtain ⟨fs, hfs⟩ : ∃ q, prodL priv nineL = q := ⟨_, rfl⟩
 obtain ⟨ss, hss⟩ : ∃ q, prodL priv server = q := ⟨_, rfl⟩
 obtain ⟨vd, hvd⟩ : ∃ q, validN priv server = q := ⟨_, rfl⟩
 rw [hfs] at CB CS
 rw [hss] at CA CS
 rw [hvd] at CA ⊢
 obtain ⟨ka, hka⟩ : ∃ q, reqL ss fs server rd = q := ⟨_, rfl⟩
 obtain ⟨kb, hkb⟩ : ∃ q, repL ss fs server rd = q := ⟨_, rfl⟩
 rw [hka, hkb] at CS
 obtain ⟨no, hno⟩ : ∃ q, lnonL 0 rd = q := ⟨_, rfl⟩
 rw [hno] at CN
 have HF : Hid (fs.length = 32 ∧ Bytes fs ∧ ss.length = 32 ∧ ka.length = 32 ∧ Bytes ka ∧ kb.length = 32 ∧ no.length = 12 ∧ Bytes no) :=
  ⟨by rw [← hfs, prodL_length], by rw [← hfs]; exact prodL_bytes _ _, by rw [← hss, prodL_length], by rw [← hka, reqL_length], by rw [← hka]; exact reqL_bytes _ _ _ _, by rw [← hkb, repL_length], by rw [← hno]; exact nonL_length _ _, by rw [← hno]; exact nonL_bytes _ _⟩
 have HE : Hid (repO rd server priv = kb ∧ layL rd server priv zs = fs ++ boxL ka no [] zs) := ⟨by rw [repO, hfs, hss, hkb], by rw [layL, hfs, hss, hka, hno]⟩
 rw [HE.out.1, HE.out.2]
 have HQ : Hid ((boxL ka no [] zs).length = n + 16 ∧ Bytes (boxL ka no [] zs)) := ⟨by rw [boxL_length, hx.len], boxL_bytes _ _ _ hx.bytes⟩
 clear h1 b1 h2 b2 hr hx hc hK hn hfs hss hvd hka hkb hno
 go_enter Tryz.func61, Tryz.ntmps61
 go_wp2_with (first | ((with_reducible show wpList _ _ _ (({ dst := some 4, op := _, type := _, pos := _, after := _, guard := _ } : Oper) :: _) _ _); refine wpList_box_new rfl 23 (.tmp 0) rfl (u8s server) rfl ?_; intro w1 b1 s1 l1; have z1 : Hid (w1.heap.size = w.heap.size + 1) := s1; clear s1) | ((with_reducible show wpList _ _ _ (({ dst := some 5, op := _, type := _, pos := _, after := _, guard := _ } : Oper) :: _) _ _); refine wpList_box_new rfl 23 (.tmp 1) rfl (u8s priv) rfl ?_; intro w2 b2 s2 l2; have z2 : Hid (w2.heap.size = w1.heap.size + 1) := s2; clear s2) | ((with_reducible show wpList _ _ _ (({ dst := some 9, op := _, type := _, pos := _, after := _, guard := _ } : Oper) :: _) _ _); refine wpList_alloc_new rfl 23 rfl 32 _ zeroKey ?_; intro w3 b3 s3 l3; have z3 : Hid (w3.heap.size = w2.heap.size + 1) := s3; clear s3) | ((with_reducible show wpList _ _ _ (({ dst := some 18, op := _, type := _, pos := _, after := _, guard := _ } : Oper) :: _) _ _); refine wpList_load_blk rfl 23 (.tmp 5) rfl _ rfl (u8s priv) _ (b2.later l3 (by have := z1.out; have := z2.out; have := z3.out; omega)) Tryz.underlying23 rfl (sizeU priv HL.out.2.2.1) ?_))
 refine (CB _).mono ?_
 rintro e w4 ⟨rfl, l4⟩
 have z4 : Hid (w3.heap.size ≤ w4.heap.size) := l4.size
 have V1 : Hid (Below w.heap.size w w4 ∧ Blk w4 (w.heap.size) 23 (u8s server) ∧ Blk w4 (w1.heap.size) 23 (u8s priv) ∧ Blk w4 (w2.heap.size) 23 (u8s (List.replicate 32 0))) := ⟨(below_chain (below_chain (below_chain l1 l2 (by have := z1.out; have := z2.out; omega)) l3 (by have := z1.out; have := z2.out; have := z3.out; omega)) l4 (by have := z1.out; have := z2.out; have := z3.out; have := z4.out; omega)), (((b1.later l2 (by have := z1.out; have := z2.out; omega)).later l3 (by have := z1.out; have := z2.out; have := z3.out; omega)).later l4 (by have := z1.out; have := z2.out; have := z3.out; have := z4.out; omega)), ((b2.later l3 (by have := z1.out; have := z2.out; have := z3.out; omega)).later l4 (by have := z1.out; have := z2.out; have := z3.out; have := z4.out; omega)), (b3.later l4 (by have := z1.out; have := z2.out; have := z3.out; have := z4.out; omega))⟩
 clear l1 l2 l3 l4 b1 b2 b3
 go_wp2_with (first | ((with_reducible show wpList _ _ _ (({ dst := some 11, op := _, type := _, pos := _, after := _, guard := _ } : Oper) :: _) _ _); refine wpList_alloc_new rfl 23 rfl 32 _ zeroKey ?_; intro w5 b5 s5 l5; have z5 : Hid (w5.heap.size = w4.heap.size + 1) := s5; clear s5) | (refine wpList_store_blk rfl 23 23 (.tmp 11) (.tmp 19) rfl _ rfl _ (u8s fs) rfl b5 (lenU _ _ HF.out.1 len0) (sizeU fs HF.out.1) (u8s_one _) ?_; intro w6 b6 s6 k6; have z6 : Hid (w6.heap.size = w5.heap.size) := s6; clear s6) | ((with_reducible show wpList _ _ _ (({ dst := some 21, op := _, type := _, pos := _, after := _, guard := _ } : Oper) :: _) _ _); refine wpList_load_blk rfl 23 (.tmp 5) rfl _ rfl (u8s priv) _ ((V1.out.2.2.1.later l5 (by have := z1.out; have := z2.out; have := z3.out; have := z4.out; have := z5.out; omega)).kept k6 (by have := z1.out; have := z2.out; have := z3.out; have := z4.out; have := z5.out; have := z6.out; omega)) Tryz.underlying23 rfl (sizeU priv HL.out.2.2.1) ?_) | ((with_reducible show wpList _ _ _ (({ dst := some 22, op := _, type := _, pos := _, after := _, guard := _ } : Oper) :: _) _ _); refine wpList_load_blk rfl 23 (.tmp 4) rfl _ rfl (u8s server) _ ((V1.out.2.1.later l5 (by have := z1.out; have := z2.out; have := z3.out; have := z4.out; have := z5.out; omega)).kept k6 (by have := z1.out; have := z2.out; have := z3.out; have := z4.out; have := z5.out; have := z6.out; omega)) Tryz.underlying23 rfl (sizeU server HL.out.1) ?_))
 refine (CA _).mono ?_
 rintro e w7 ⟨rfl, l7⟩
 have z7 : Hid (w6.heap.size ≤ w7.heap.size) := l7.size
 have V2 : Hid (Below w.heap.size w w7 ∧ Blk w7 (w.heap.size) 23 (u8s server) ∧ Blk w7 (w1.heap.size) 23 (u8s priv) ∧ Blk w7 (w2.heap.size) 23 (u8s (List.replicate 32 0)) ∧ Blk w7 (w4.heap.size) 23 (u8s fs)) := ⟨(below_chain (below_kept (below_chain V1.out.1 l5 (by have := z1.out; have := z2.out; have := z3.out; have := z4.out; have := z5.out; omega)) k6 (by have := z1.out; have := z2.out; have := z3.out; have := z4.out; have := z5.out; have := z6.out; omega) (fun j hj => (by have := z1.out; have := z2.out; have := z3.out; have := z4.out; have := z5.out; have := z6.out; omega))) l7 (by have := z1.out; have := z2.out; have := z3.out; have := z4.out; have := z5.out; have := z6.out; have := z7.out; omega)), (((V1.out.2.1.later l5 (by have := z1.out; have := z2.out; have := z3.out; have := z4.out; have := z5.out; omega)).kept k6 (by have := z1.out; have := z2.out; have := z3.out; have := z4.out; have := z5.out; have := z6.out; omega)).later l7 (by have := z1.out; have := z2.out; have := z3.out; have := z4.out; have := z5.out; have := z6.out; have := z7.out; omega)), (((V1.out.2.2.1.later l5 (by have := z1.out; have := z2.out; have := z3.out; have := z4.out; have := z5.out; omega)).kept k6 (by have := z1.out; have := z2.out; have := z3.out; have := z4.out; have := z5.out; have := z6.out; omega)).later l7 (by have := z1.out; have := z2.out; have := z3.out; have := z4.out; have := z5.out; have := z6.out; have := z7.out; omega)), (((V1.out.2.2.2.later l5 (by have := z1.out; have := z2.out; have := z3.out; have := z4.out; have := z5.out; omega)).kept k6 (by have := z1.out; have := z2.out; have := z3.out; have := z4.out; have := z5.out; have := z6.out; omega)).later l7 (by have := z1.out; have := z2.out; have := z3.out; have := z4.out; have := z5.out; have := z6.out; have := z7.out; omega)), (b6.later l7 (by have := z1.out; have := z2.out; have := z3.out; have := z4.out; have := z5.out; have := z6.out; have := z7.out; omega))⟩
 clear l5 k6 l7 b6
 go_wp2_with (first | ((with_reducible show wpList _ _ _ (({ dst := some 12, op := _, type := _, pos := _, after := _, guard := _ } : Oper) :: _) _ _); refine wpList_alloc_new rfl 23 rfl 32 _ zeroKey ?_; intro w8 b8 s8 l8; have z8 : Hid (w8.heap.size = w7.heap.size + 1) := s8; clear s8) | (refine wpList_store_blk rfl 23 23 (.tmp 12) (.tmp 24) rfl _ rfl _ (u8s ss) rfl b8 (lenU _ _ HF.out.2.2.1 len0) (sizeU ss HF.out.2.2.1) (u8s_one _) ?_; intro w9 b9 s9 k9; have z9 : Hid (w9.heap.size = w8.heap.size) := s9; clear s9) | ((with_reducible show wpList _ _ _ (({ dst := some 27, op := _, type := _, pos := _, after := _, guard := _ } : Oper) :: _) _ _); refine wpList_load_blk rfl 23 (.tmp 12) rfl _ rfl (u8s ss) _ b9 Tryz.underlying23 rfl (sizeU ss HF.out.2.2.1) ?_) | ((with_reducible show wpList _ _ _ (({ dst := some 28, op := _, type := _, pos := _, after := _, guard := _ } : Oper) :: _) _ _); refine wpList_load_blk rfl 23 (.tmp 11) rfl _ rfl (u8s fs) _ ((V2.out.2.2.2.2.later l8 (by have := z1.out; have := z2.out; have := z3.out; have := z4.out; have := z5.out; have := z6.out; have := z7.out; have := z8.out; omega)).kept k9 (by have := z1.out; have := z2.out; have := z3.out; have := z4.out; have := z5.out; have := z6.out; have := z7.out; have := z8.out; have := z9.out; omega)) Tryz.underlying23 rfl (sizeU fs HF.out.1) ?_) | ((with_reducible show wpList _ _ _ (({ dst := some 29, op := _, type := _, pos := _, after := _, guard := _ } : Oper) :: _) _ _); refine wpList_load_blk rfl 23 (.tmp 4) rfl _ rfl (u8s server) _ ((V2.out.2.1.later l8 (by have := z1.out; have := z2.out; have := z3.out; have := z4.out; have := z5.out; have := z6.out; have := z7.out; have := z8.out; omega)).kept k9 (by have := z1.out; have := z2.out; have := z3.out; have := z4.out; have := z5.out; have := z6.out; have := z7.out; have := z8.out; have := z9.out; omega)) Tryz.underlying23 rfl (sizeU server HL.out.1) ?_))
 refine (CS _ (HX.out.2.2.1.below (below_kept (below_chain V2.out.1 l8 (by have := z1.out; have := z2.out; have := z3.out; have := z4.out; have := z5.out; have := z6.out; have := z7.out; have := z8.out; omega)) k9 (by have := z1.out; have := z2.out; have := z3.out; have := z4.out; have := z5.out; have := z6.out; have := z7.out; have := z8.out; have := z9.out; omega) (fun j hj => (by have := z1.out; have := z2.out; have := z3.out; have := z4.out; have := z5.out; have := z6.out; have := z7.out; have := z8.out; have := z9.out; omega))) HX.out.2.2.1.lt)).mono ?_
 rintro e w10 ⟨rfl, l10⟩
 have z10 : Hid (w9.heap.size ≤ w10.heap.size) := l10.size
 have V3 : Hid (Below w.heap.size w w10 ∧ Blk w10 (w.heap.size) 23 (u8s server) ∧ Blk w10 (w1.heap.size) 23 (u8s priv) ∧ Blk w10 (w2.heap.size) 23 (u8s (List.replicate 32 0)) ∧ Blk w10 (w4.heap.size) 23 (u8s fs) ∧ Blk w10 (w7.heap.size) 23 (u8s ss)) := ⟨(below_chain (below_kept (below_chain V2.out.1 l8 (by have := z1.out; have := z2.out; have := z3.out; have := z4.out; have := z5.out; have := z6.out; have := z7.out; have := z8.out; omega)) k9 (by have := z1.out; have := z2.out; have := z3.out; have := z4.out; have := z5.out; have := z6.out; have := z7.out; have := z8.out; have := z9.out; omega) (fun j hj => (by have := z1.out; have := z2.out; have := z3.out; have := z4.out; have := z5.out; have := z6.out; have := z7.out; have := z8.out; have := z9.out; omega))) l10 (by have := z1.out; have := z2.out; have := z3.out; have := z4.out; have := z5.out; have := z6.out; have := z7.out; have := z8.out; have := z9.out; have := z10.out; omega)), (((V2.out.2.1.later l8 (by have := z1.out; have := z2.out; have := z3.out; have := z4.out; have := z5.out; have := z6.out; have := z7.out; have := z8.out; omega)).kept k9 (by have := z1.out; have := z2.out; have := z3.out; have := z4.out; have := z5.out; have := z6.out; have := z7.out; have := z8.out; have := z9.out; omega)).later l10 (by have := z1.out; have := z2.out; have := z3.out; have := z4.out; have := z5.out; have := z6.out; have := z7.out; have := z8.out; have := z9.out; have := z10.out; omega)), (((V2.out.2.2.1.later l8 (by have := z1.out; have := z2.out; have := z3.out; have := z4.out; have := z5.out; have := z6.out; have := z7.out; have := z8.out; omega)).kept k9 (by have := z1.out; have := z2.out; have := z3.out; have := z4.out; have := z5.out; have := z6.out; have := z7.out; have := z8.out; have := z9.out; omega)).later l10 (by have := z1.out; have := z2.out; have := z3.out; have := z4.out; have := z5.out; have := z6.out; have := z7.out; have := z8.out; have := z9.out; have := z10.out; omega)), (((V2.out.2.2.2.1.later l8 (by have := z1.out; have := z2.out; have := z3.out; have := z4.out; have := z5.out; have := z6.out; have := z7.out; have := z8.out; omega)).kept k9 (by have := z1.out; have := z2.out; have := z3.out; have := z4.out; have := z5.out; have := z6.out; have := z7.out; have := z8.out; have := z9.out; omega)).later l10 (by have := z1.out; have := z2.out; have := z3.out; have := z4.out; have := z5.out; have := z6.out; have := z7.out; have := z8.out; have := z9.out; have := z10.out; omega)), (((V2.out.2.2.2.2.later l8 (by have := z1.out; have := z2.out; have := z3.out; have := z4.out; have := z5.out; have := z6.out; have := z7.out; have := z8.out; omega)).kept k9 (by have := z1.out; have := z2.out; have := z3.out; have := z4.out; have := z5.out; have := z6.out; have := z7.out; have := z8.out; have := z9.out; omega)).later l10 (by have := z1.out; have := z2.out; have := z3.out; have := z4.out; have := z5.out; have := z6.out; have := z7.out; have := z8.out; have := z9.out; have := z10.out; omega)), (b9.later l10 (by have := z1.out; have := z2.out; have := z3.out; have := z4.out; have := z5.out; have := z6.out; have := z7.out; have := z8.out; have := z9.out; have := z10.out; omega))⟩
 clear l8 k9 l10 b9
 go_wp2_with (first | ((with_reducible show wpList _ _ _ (({ dst := some 14, op := _, type := _, pos := _, after := _, guard := _ } : Oper) :: _) _ _); refine wpList_alloc_new rfl 23 rfl 32 _ zeroKey ?_; intro w11 b11 s11 l11; have z11 : Hid (w11.heap.size = w10.heap.size + 1) := s11; clear s11) | ((with_reducible show wpList _ _ _ (({ dst := some 15, op := _, type := _, pos := _, after := _, guard := _ } : Oper) :: _) _ _); refine wpList_alloc_new rfl 23 rfl 32 _ zeroKey ?_; intro w12 b12 s12 l12; have z12 : Hid (w12.heap.size = w11.heap.size + 1) := s12; clear s12) | (refine wpList_store_blk rfl 23 23 (.tmp 14) (.tmp 32) rfl _ rfl _ (u8s ka) rfl (b11.later l12 (by have := z1.out; have := z2.out; have := z3.out; have := z4.out; have := z5.out; have := z6.out; have := z7.out; have := z8.out; have := z9.out; have := z10.out; have := z11.out; have := z12.out; omega)) (lenU _ _ HF.out.2.2.2.1 len0) (sizeU ka HF.out.2.2.2.1) (u8s_one _) ?_; intro w13 b13 s13 k13; have z13 : Hid (w13.heap.size = w12.heap.size) := s13; clear s13) | (refine wpList_store_blk rfl 23 23 (.tmp 15) (.tmp 33) rfl _ rfl _ (u8s kb) rfl (b12.kept k13 (by have := z1.out; have := z2.out; have := z3.out; have := z4.out; have := z5.out; have := z6.out; have := z7.out; have := z8.out; have := z9.out; have := z10.out; have := z11.out; have := z12.out; have := z13.out; omega)) (lenU _ _ HF.out.2.2.2.2.2.1 len0) (sizeU kb HF.out.2.2.2.2.2.1) (u8s_one _) ?_; intro w14 b14 s14 k14; have z14 : Hid (w14.heap.size = w13.heap.size) := s14; clear s14))
 have V4 : Hid (Below w.heap.size w w14 ∧ Blk w14 (w.heap.size) 23 (u8s server) ∧ Blk w14 (w1.heap.size) 23 (u8s priv) ∧ Blk w14 (w2.heap.size) 23 (u8s (List.replicate 32 0)) ∧ Blk w14 (w4.heap.size) 23 (u8s fs) ∧ Blk w14 (w7.heap.size) 23 (u8s ss) ∧ Blk w14 (w10.heap.size) 23 (u8s ka) ∧ Blk w14 (w11.heap.size) 23 (u8s kb)) := ⟨(below_kept (below_kept (below_chain (below_chain V3.out.1 l11 (by have := z1.out; have := z2.out; have := z3.out; have := z4.out; have := z5.out; have := z6.out; have := z7.out; have := z8.out; have := z9.out; have := z10.out; have := z11.out; omega)) l12 (by have := z1.out; have := z2.out; have := z3.out; have := z4.out; have := z5.out; have := z6.out; have := z7.out; have := z8.out; have := z9.out; have := z10.out; have := z11.out; have := z12.out; omega)) k13 (by have := z1.out; have := z2.out; have := z3.out; have := z4.out; have := z5.out; have := z6.out; have := z7.out; have := z8.out; have := z9.out; have := z10.out; have := z11.out; have := z12.out; have := z13.out; omega) (fun j hj => (by have := z1.out; have := z2.out; have := z3.out; have := z4.out; have := z5.out; have := z6.out; have := z7.out; have := z8.out; have := z9.out; have := z10.out; have := z11.out; have := z12.out; have := z13.out; omega))) k14 (by have := z1.out; have := z2.out; have := z3.out; have := z4.out; have := z5.out; have := z6.out; have := z7.out; have := z8.out; have := z9.out; have := z10.out; have := z11.out; have := z12.out; have := z13.out; have := z14.out; omega) (fun j hj => (by have := z1.out; have := z2.out; have := z3.out; have := z4.out; have := z5.out; have := z6.out; have := z7.out; have := z8.out; have := z9.out; have := z10.out; have := z11.out; have := z12.out; have := z13.out; have := z14.out; omega))), ((((V3.out.2.1.later l11 (by have := z1.out; have := z2.out; have := z3.out; have := z4.out; have := z5.out; have := z6.out; have := z7.out; have := z8.out; have := z9.out; have := z10.out; have := z11.out; omega)).later l12 (by have := z1.out; have := z2.out; have := z3.out; have := z4.out; have := z5.out; have := z6.out; have := z7.out; have := z8.out; have := z9.out; have := z10.out; have := z11.out; have := z12.out; omega)).kept k13 (by have := z1.out; have := z2.out; have := z3.out; have := z4.out; have := z5.out; have := z6.out; have := z7.out; have := z8.out; have := z9.out; have := z10.out; have := z11.out; have := z12.out; have := z13.out; omega)).kept k14 (by have := z1.out; have := z2.out; have := z3.out; have := z4.out; have := z5.out; have := z6.out; have := z7.out; have := z8.out; have := z9.out; have := z10.out; have := z11.out; have := z12.out; have := z13.out; have := z14.out; omega)), ((((V3.out.2.2.1.later l11 (by have := z1.out; have := z2.out; have := z3.out; have := z4.out; have := z5.out; have := z6.out; have := z7.out; have := z8.out; have := z9.out; have := z10.out; have := z11.out; omega)).later l12 (by have := z1.out; have := z2.out; have := z3.out; have := z4.out; have := z5.out; have := z6.out; have := z7.out; have := z8.out; have := z9.out; have := z10.out; have := z11.out; have := z12.out; omega)).kept k13 (by have := z1.out; have := z2.out; have := z3.out; have := z4.out; have := z5.out; have := z6.out; have := z7.out; have := z8.out; have := z9.out; have := z10.out; have := z11.out; have := z12.out; have := z13.out; omega)).kept k14 (by have := z1.out; have := z2.out; have := z3.out; have := z4.out; have := z5.out; have := z6.out; have := z7.out; have := z8.out; have := z9.out; have := z10.out; have := z11.out; have := z12.out; have := z13.out; have := z14.out; omega)), ((((V3.out.2.2.2.1.later l11 (by have := z1.out; have := z2.out; have := z3.out; have := z4.out; have := z5.out; have := z6.out; have := z7.out; have := z8.out; have := z9.out; have := z10.out; have := z11.out; omega)).later l12 (by have := z1.out; have := z2.out; have := z3.out; have := z4.out; have := z5.out; have := z6.out; have := z7.out; have := z8.out; have := z9.out; have := z10.out; have := z11.out; have := z12.out; omega)).kept k13 (by have := z1.out; have := z2.out; have := z3.out; have := z4.out; have := z5.out; have := z6.out; have := z7.out; have := z8.out; have := z9.out; have := z10.out; have := z11.out; have := z12.out; have := z13.out; omega)).kept k14 (by have := z1.out; have := z2.out; have := z3.out; have := z4.out; have := z5.out; have := z6.out; have := z7.out; have := z8.out; have := z9.out; have := z10.out; have := z11.out; have := z12.out; have := z13.out; have := z14.out; omega)), ((((V3.out.2.2.2.2.1.later l11 (by have := z1.out; have := z2.out; have := z3.out; have := z4.out; have := z5.out; have := z6.out; have := z7.out; have := z8.out; have := z9.out; have := z10.out; have := z11.out; omega)).later l12 (by have := z1.out; have := z2.out; have := z3.out; have := z4.out; have := z5.out; have := z6.out; have := z7.out; have := z8.out; have := z9.out; have := z10.out; have := z11.out; have := z12.out; omega)).kept k13 (by have := z1.out; have := z2.out; have := z3.out; have := z4.out; have := z5.out; have := z6.out; have := z7.out; have := z8.out; have := z9.out; have := z10.out; have := z11.out; have := z12.out; have := z13.out; omega)).kept k14 (by have := z1.out; have := z2.out; have := z3.out; have := z4.out; have := z5.out; have := z6.out; have := z7.out; have := z8.out; have := z9.out; have := z10.out; have := z11.out; have := z12.out; have := z13.out; have := z14.out; omega)), ((((V3.out.2.2.2.2.2.later l11 (by have := z1.out; have := z2.out; have := z3.out; have := z4.out; have := z5.out; have := z6.out; have := z7.out; have := z8.out; have := z9.out; have := z10.out; have := z11.out; omega)).later l12 (by have := z1.out; have := z2.out; have := z3.out; have := z4.out; have := z5.out; have := z6.out; have := z7.out; have := z8.out; have := z9.out; have := z10.out; have := z11.out; have := z12.out; omega)).kept k13 (by have := z1.out; have := z2.out; have := z3.out; have := z4.out; have := z5.out; have := z6.out; have := z7.out; have := z8.out; have := z9.out; have := z10.out; have := z11.out; have := z12.out; have := z13.out; omega)).kept k14 (by have := z1.out; have := z2.out; have := z3.out; have := z4.out; have := z5.out; have := z6.out; have := z7.out; have := z8.out; have := z9.out; have := z10.out; have := z11.out; have := z12.out; have := z13.out; have := z14.out; omega)), (b13.kept k14 (by have := z1.out; have := z2.out; have := z3.out; have := z4.out; have := z5.out; have := z6.out; have := z7.out; have := z8.out; have := z9.out; have := z10.out; have := z11.out; have := z12.out; have := z13.out; have := z14.out; omega)), b14⟩
 clear l11 l12 k13 k14 b13 b14
 refine region_invP 6 ((.val (.agg (u8s ka).toArray)) :: (.val (.int .u64 rd)) :: (.val (.agg (u8s no).toArray)) :: (.val (.slice ao n c)) :: (.any (isT2 (n + 16) (boxL ka no [] zs)) (isT2_later _ _)) :: (.any (isT2 (n + 16) (boxL ka no [] zs)) (isT2_later _ _)) :: []) (by kernel_rfl) (by kernel_rfl) (by kernel_rfl) [] ⟨.inl rfl, .inl rfl, .inl rfl, .inl rfl, .inl rfl, .inl rfl, trivial⟩ (by kernel_rfl) ?_ ?_
 ·refine Steps'.cons ?_ (Steps'.cons ?_ (Steps'.cons ?_ (Steps'.cons ?_ (Steps'.cons ?_ (Steps'.cons ?_ (Steps'.one _ _ _ _ _ _ _))))))
  ·intro ax wx hb hs hd
   have h14 : ax.tmps.getD 14 undef = (.pointer (some ⟨w10.heap.size, 0, none⟩)) := hs 14 (by kernel_rfl)
   exact Does.load 23 (.tmp 14) rfl _ 0 h14 (u8s ka) _ ((V4.out.2.2.2.2.2.2.1.later hb V4.out.2.2.2.2.2.2.1.lt)).whole Tryz.underlying23 rfl (sizeU ka HF.out.2.2.2.1)
  ·intro ax wx hb hs hd
   have h2 : ax.tmps.getD 2 undef = (.int .u64 rd) := hs 2 (by kernel_rfl)
   exact Does.value _ (by clear hs hd; go_simp) rfl
  ·intro ax wx hb hs hd
   have h36 := vOf (hd 1 36 rfl (by kernel_rfl) (by decide))
   refine Does.call 75 #[.int .u32 0, .int .u64 rd] (by clear hs hd; go_simp) ?_
   refine (CN wx).mono ?_
   rintro z w' ⟨rfl, l⟩
   exact ⟨_, rfl, rfl, l⟩
  ·intro ax wx hb hs hd
   have h3 : ax.tmps.getD 3 undef = (.slice ao n c) := hs 3 (by kernel_rfl)
   exact Does.value _ (by clear hs hd; go_simp) rfl
  ·intro ax wx hb hs hd
   have h35 := vOf (hd 0 35 rfl (by kernel_rfl) (by decide))
   have h37 := vOf (hd 2 37 rfl (by kernel_rfl) (by decide))
   have h38 := vOf (hd 3 38 rfl (by kernel_rfl) (by decide))
   refine Does.call 74 #[.agg (u8s ka).toArray, .agg (u8s no).toArray, .slice none 0 0, .slice ao n c] (by clear hs hd; go_simp) ?_
   refine (seal_any ka no 0 0 n c none ao [] zs HF.out.2.2.2.1 HF.out.2.2.2.2.2.2.1 HF.out.2.2.2.2.1 HF.out.2.2.2.2.2.2.2 (by decide) HX.out.2.2.2 wx (Seen.empty _ _) (HX.out.1.later (below_chain V4.out.1 hb V4.out.1.size) (Nat.le_refl _)) (Nat.le_refl _) HX.out.2.1).mono ?_
   rintro z w' ⟨r, rfl, ho, l⟩
   exact ⟨_, rfl, ⟨r, rfl, isB_own HQ.out.1 HQ.out.2 (by have := HX.out.2.2.2; omega) ho⟩, l⟩
  ·intro ax wx hb hs hd
   have hq : isT2 (n + 16) (boxL ka no [] zs) (ax.tmps.getD 39 undef) wx := hd 4 39 rfl (by kernel_rfl) (by decide)
   exact Does.value (ax.tmps.getD 39 undef) (by clear hs hd; go_simp) hq
 ·intro wx hb
  iterate 4 refine @EndsP.val _ _ _ _ _ _ _ _ _ rfl ?_
  refine @EndsP.any _ _ _ _ _ _ _ _ (isT2 (n + 16) (boxL ka no [] zs)) (isT2_later _ _) rfl ?_
  intro v4 p4
  refine @EndsP.any _ _ _ _ _ _ _ _ (isT2 (n + 16) (boxL ka no [] zs)) (isT2_later _ _) rfl ?_
  intro v5 p5
  intro hD nf hn
  obtain ⟨q5, rfl, so, sc, rfl, hso, hsn, hsz⟩ := p5
  obtain ⟨mf, rfl⟩ : ∃ mf, nf = mf + 4 := ⟨nf - 4, by have h3 : 4 ≤ nf := hn; omega⟩
  clear hD hn
  simp only [Act.put, sA, sB, sC]
  refine take_op 6 (some 40) (.slice so (n + 16) sc) rfl rfl (by kernel_rfl) (by kernel_rfl) (by kernel_rfl) (fun _ _ _ h => h) (by rfl) (fun W' => by go_simp) ?_
  simp only [Act.put, sA, sB, sC]
  refine take_op 7 (some 41) (.int .i64 0) rfl rfl (by kernel_rfl) (by kernel_rfl) (by kernel_rfl) (fun _ _ _ h => h) (by rfl) (fun W' => by go_simp) ?_
  simp only [Act.put, sA, sB, sC]
  refine take_op 8 (some 16) (.slice so (n + 16) sc) rfl rfl (by kernel_rfl) (by kernel_rfl) (by kernel_rfl) (fun _ _ _ h => h) (by rfl) (fun W' => by go_simp) ?_
  simp only [Act.put, sA, sB, sC]
  refine take_op 9 (some 17) (.int .i64 0) rfl rfl (by kernel_rfl) (by kernel_rfl) (by kernel_rfl) (fun _ _ _ h => h) (by rfl) (fun W' => by go_simp) ?_
  simp only [Act.put, sA, sB, sC]
  refine wpAny_done (by kernel_rfl) (NoPanic.normal ?_) _
  obtain ⟨y5, rfl⟩ : ∃ q, q = wx := ⟨_, rfl⟩
  have V5 : Hid (Below w.heap.size w y5 ∧ Blk y5 (w.heap.size) 23 (u8s server) ∧ Blk y5 (w1.heap.size) 23 (u8s priv) ∧ Blk y5 (w2.heap.size) 23 (u8s (List.replicate 32 0)) ∧ Blk y5 (w4.heap.size) 23 (u8s fs) ∧ Blk y5 (w7.heap.size) 23 (u8s ss) ∧ Blk y5 (w10.heap.size) 23 (u8s ka) ∧ Blk y5 (w11.heap.size) 23 (u8s kb) ∧ Seen y5 so (n + 16) (boxL ka no [] zs) ∧ n + 16 ≤ sc ∧ (so = none → sc = 0) ∧ w14.heap.size ≤ y5.heap.size) := ⟨below_chain V4.out.1 hb V4.out.1.size, V4.out.2.1.later hb V4.out.2.1.lt, V4.out.2.2.1.later hb V4.out.2.2.1.lt, V4.out.2.2.2.1.later hb V4.out.2.2.2.1.lt, V4.out.2.2.2.2.1.later hb V4.out.2.2.2.2.1.lt, V4.out.2.2.2.2.2.1.later hb V4.out.2.2.2.2.2.1.lt, V4.out.2.2.2.2.2.2.1.later hb V4.out.2.2.2.2.2.2.1.lt, V4.out.2.2.2.2.2.2.2.later hb V4.out.2.2.2.2.2.2.2.lt, hso, hsn, hsz, hb.size⟩
  clear V4 hb hso hsn hsz p4
  go_wp2_with fail
  have hl2 : w2.heap.size < y5.heap.size := V5.out.2.2.2.1.lt
  have BD : Below y5.heap.size y5 y5.drew := below_dn (Below.refl _ _) 1
  have sD : y5.drew.heap.size = y5.heap.size := rfl
  have hl3 : w11.heap.size < y5.heap.size := V5.out.2.2.2.2.2.2.2.1.lt
  have hne : w11.heap.size ≠ w2.heap.size := by have := z1.out; have := z2.out; have := z3.out; have := z4.out; have := z5.out; have := z6.out; have := z7.out; have := z8.out; have := z9.out; have := z10.out; have := z11.out; have := z12.out; have := z13.out; have := z14.out; omega
  refine wp_region_noPanic (wp_region_held_drew (S := fun W => Blk W (w11.heap.size) 23 (u8s kb)) (by kernel_rfl) (V5.out.2.2.2.2.2.2.2.1.drew) (fun hH => ?_))
  refine hLoad 4 (some 46) (u8s kb) rfl rfl (by kernel_rfl) (by kernel_rfl) (by kernel_rfl) (fun _ _ _ h => h) (by rfl) 23 (.tmp 15) rfl (w11.heap.size) 0 rfl _ (fun _ h => h.whole) Tryz.underlying23 rfl (sizeU kb HF.out.2.2.2.2.2.1) hH ?_
  simp only [Act.put, sA, sB, sC]
  refine hTake 0 (some 42) (.slice (some ⟨w4.heap.size, 0, none⟩) 32 32) rfl rfl (by kernel_rfl) (by kernel_rfl) (by kernel_rfl) (fun _ _ _ h => h) (by rfl) (fun W' hS' => by go_simp) hH ?_
  simp only [Act.put, sA, sB, sC]
  refine hTake 1 (some 43) (.slice so (n + 16) sc) rfl rfl (by kernel_rfl) (by kernel_rfl) (by kernel_rfl) (fun _ _ _ h => h) (by rfl) (fun W' hS' => by go_simp) hH ?_
  simp only [Act.put, sA, sB, sC]
  refine hTake 5 (some 47) (.int .u64 vd) rfl rfl (by kernel_rfl) (by kernel_rfl) (by kernel_rfl) (fun _ _ _ h => h) (by rfl) (fun W' hS' => by go_simp) hH ?_
  simp only [Act.put, sA, sB, sC]
  refine wpAnyH_ready (rs := [2]) (by kernel_rfl) (by simp) (AllReadyH.cons rfl (fun K hK => ?_) AllReadyH.nil)
  rw [if_pos (by rfl)]
  refine Does.wp (base := 0) (E := .any (isQ 2 [fs, boxL ka no [] zs]) (isQ_later _ _)) ?_ (fun v2 x2 p2 l2 => ?_)
  ·have u1 : Seen y5.drew (some ⟨w4.heap.size, 0, none⟩) 32 fs := by have := seen_blk (V5.out.2.2.2.2.1.drew) HF.out.2.1 (by rw [HF.out.1]; decide); rwa [HF.out.1] at this
   exact Does.parts2 _ rfl _ _ 32 (n + 16) 32 sc fs _ (by simp [Act.eval]) u1 (V5.out.2.2.2.2.2.2.2.2.1.later BD (Nat.le_refl _)) (by decide) V5.out.2.2.2.2.2.2.2.2.2.1 (fun h => by cases h) V5.out.2.2.2.2.2.2.2.2.2.2.1
  change K (Act.put _ (some 44) v2) x2
  refine hK.out _ _ (hH.later l2 hl3) (fun hH => ?_)
  clear hK K
  simp only [Act.put, sA, sB, sC]
  obtain ⟨bq, rfl, pq⟩ := p2
  have q2 := l2.size
  refine wpAnyH_ready (rs := [3]) (by kernel_rfl) (by simp) (AllReadyH.cons rfl (fun K hK => ?_) AllReadyH.nil)
  rw [if_pos (by rfl)]
  refine Does.wp (base := 0) (E := .any (isO y5.heap.size (n + 48) (fs ++ boxL ka no [] zs)) (isO_later _ _ _)) ?_ (fun v3 x3 p3 l3 => ?_)
  ·refine Does.call 45 #[.slice (some ⟨bq, 0, none⟩) 2 2] (by go_simp) ?_
   have HJ : ([fs, boxL ka no [] zs] : List (List Int)).flatten = fs ++ boxL ka no [] zs := by simp
   have HJ2 : (fs ++ boxL ka no [] zs).length = n + 48 := by rw [List.length_append, HF.out.1, HQ.out.1]; omega
   have HN := HX.out.2.2.2
   refine (joined_any _ 2 2 _ x2 pq (by decide) (by rw [HJ, HJ2]; omega) _ HJ).mono ?_
   rintro z w' ⟨r, rfl, ho, l⟩
   rw [HJ2] at ho
   exact ⟨_, rfl, isO_base ho (by omega), l⟩
  change K (Act.put _ (some 45) v3) x3
  refine hK.out _ _ (hH.later l3 (by omega)) (fun hH => ?_)
  clear hK K
  simp only [Act.put, sA, sB, sC]
  have q3 := l3.size
  refine hTake 6 (some 8) v3 rfl rfl (by kernel_rfl) (by kernel_rfl) (by kernel_rfl) (fun _ _ _ h => h) (by rfl) (fun W' hS' => by go_simp) hH ?_
  simp only [Act.put, sA, sB, sC]
  refine wpAnyH_ready (rs := [7]) (by kernel_rfl) (by simp) (AllReadyH.cons rfl (fun K hK => ?_) AllReadyH.nil)
  rw [if_pos (by rfl)]
  refine last_store 23 (.tmp 9) (.tmp 46) rfl rfl (w2.heap.size) rfl 23 _ (u8s kb) rfl ((V5.out.2.2.2.1.drew.later l2 (by omega)).later l3 (by omega)) (lenU _ _ HF.out.2.2.2.2.2.1 len0) (sizeU kb HF.out.2.2.2.2.2.1) (u8s_one _) ?_
  intro w50 b50 s50 k50
  refine hK.out _ _ (hH.kept k50 hne) (fun hH => ?_)
  clear hK K
  refine hTake 8 (some 10) (.int .u64 vd) rfl rfl (by kernel_rfl) (by kernel_rfl) (by kernel_rfl) (fun _ _ _ h => h) (by rfl) (fun W' hS' => by go_simp) hH ?_
  simp only [Act.put, sA, sB, sC]
  refine wpAnyH_done (by kernel_rfl) (NoPanic.normal ?_) _
  clear hH
  go_wp2_with fail
  have hlt : w.heap.size ≤ w2.heap.size := by have := z1.out; have := z2.out; omega
  exact ret_tbt rfl (w2.heap.size) (u8s kb) _ v3 (.int .u64 vd) rfl rfl rfl b50 Tryz.underlying23 rfl (sizeU kb HF.out.2.2.2.2.2.1) rfl ⟨_, rfl, isO_base (isO_kept p3 k50 (fun g hg => by omega)) V5.out.1.size, below_kept (below_chain (below_chain (below_dn V5.out.1 1) l2 V5.out.1.size) l3 (by have := V5.out.1.size; omega)) k50 (by have := V5.out.1.size; omega) (fun j hj => by omega)⟩
def keptL (b : Bool) (zs : List Int) : List Int := if b then zs else List.replicate zs.length 0
def kpL (b : Bool) (k : Nat) (zs : List Int) : List Int := keptL b (zs.take k) ++ zs.drop k
theorem kpL_zero (b : Bool) (zs : List Int) : kpL b 0 zs = zs := by cases b <;> simp [kpL, keptL]
theorem kpL_all (b : Bool) (zs : List Int) (k : Nat) (h : zs.length = k) : kpL b k zs = keptL b zs := by
 subst h; simp [kpL]
theorem kpL_length (b : Bool) (k : Nat) (zs : List Int) : (kpL b k zs).length = zs.length := by
 cases b
 ·simp [kpL, keptL]; omega
 ·simp [kpL, keptL]
theorem keptL_length (b : Bool) (zs : List Int) : (keptL b zs).length = zs.length := by cases b <;> simp [keptL]
theorem kpL_at (b : Bool) (k : Nat) (zs : List Int) (h : k < zs.length) : (kpL b k zs).getD k 0 = zs.getD k 0 := by
 have e : (keptL b (zs.take k)).length = k := by rw [keptL_length, List.length_take]; omega
 rw [kpL, List.getD, List.getElem?_append_right (by omega), e, Nat.sub_self, List.getElem?_drop, Nat.add_zero]
 rfl
theorem kpL_succ (b : Bool) (k : Nat) (zs : List Int) (h : k < zs.length) : (kpL b k zs).set k (if b then zs.getD k 0 else 0) = kpL b (k + 1) zs := by
 have e : (keptL b (zs.take k)).length = k := by rw [keptL_length, List.length_take]; omega
 rw [kpL, List.set_append_right _ _ (by omega), e, Nat.sub_self, List.drop_eq_getElem_cons h, List.set_cons_zero, kpL, List.take_succ_eq_append_getElem h]
 have g : zs.getD k 0 = zs[k] := by simp [List.getD, h]
 cases b
 ·simp only [keptL, Bool.false_eq_true, if_false, List.length_append, List.length_cons, List.length_nil, List.replicate_succ', List.append_assoc, List.cons_append, List.nil_append]
 ·simp only [keptL, if_true, g, List.append_assoc, List.cons_append, List.nil_append]
theorem and_255 (X : Int) (h : 0 ≤ X ∧ X < 256) : bits .and .u8 X 255 = X := by
 obtain ⟨n, rfl⟩ : ∃ n : Nat, X = n := ⟨X.toNat, by omega⟩
 have hn : n < 256 := by omega
 have : ∀ n : Nat, n < 256 → bits .and .u8 (n : Int) 255 = n := by decide +kernel
 exact this n hn
theorem and_0 (X : Int) (h : 0 ≤ X ∧ X < 256) : bits .and .u8 X 0 = 0 := by
 obtain ⟨n, rfl⟩ : ∃ n : Nat, X = n := ⟨X.toNat, by omega⟩
 have hn : n < 256 := by omega
 have : ∀ n : Nat, n < 256 → bits .and .u8 (n : Int) 0 = 0 := by decide +kernel
 exact this n hn
theorem keepBy_any (b : Bool) (B n : Nat) (zs : List Int) (v : Value) (w : World) (hl : zs.length = n) (hb : Bytes zs) (hn : n ≤ 1048576) (h : isO B n zs v w) :
  Calls Tryz.prog 111 #[.int .u64 (mk b), v] w fun e w' => e = .returned (.tuple #[]) ∧ isO B n (keptL b zs) v w' ∧ Kept (fun k => B ≤ k) w w' := by
 rcases isO_len h hl with ⟨rfl, rfl, rfl⟩ | ⟨g, cap, rfl, hr, hg, hc, hm⟩
 ·have e0 : keptL b [] = [] := by cases b <;> rfl
  rw [e0]
  have HO : Hid (isO B 0 [] (.slice none 0 0) w) := h
  clear h e0
  go_enter Tryz.func111, Tryz.ntmps111
  go_wp2
  go_loopw [7] (fun i wr => i = .int .i64 0 ∧ w = wr) (fun i _ => 0)
  case atStart => exact ⟨rfl, rfl⟩
  case round =>
   obtain ⟨rfl, rfl⟩ := hrel
   go_wp2
   go_end0
   exact ⟨rfl, HO.out, Kept.refl _ _⟩
 ·have HX : Hid (zs.length = n ∧ Bytes zs ∧ n ≤ 1048576 ∧ B ≤ g ∧ cap ≤ maxLen) := ⟨hl, hb, hn, hg, hm⟩
  have HR : Hid (RowC w g cap zs) := hr
  clear h hr hl hb hg hm
  go_enter Tryz.func111, Tryz.ntmps111
  go_wp2
  go_loopw [7] (fun i wr => ∃ k : Nat, k ≤ n ∧ i = .int .i64 k ∧ RowC wr g cap (kpL b k zs) ∧ Kept (fun k => k = g) w wr) (fun i _ => n - (intOf i).toNat)
  case atStart => exact ⟨0, Nat.zero_le _, rfl, by rw [kpL_zero]; exact HR.out, Kept.refl _ _⟩
  case round =>
   obtain ⟨k, hk, rfl, hrg, hkept⟩ := hrel
   by_cases hlt : k < n
   ·have hx : k < zs.length := by have := HX.out.1; omega
    obtain ⟨X, hX⟩ : ∃ X, zs.getD k 0 = X := ⟨_, rfl⟩
    have c1 : wr.cell? ⟨g, k, none⟩ = some (.int .u8 X) := by rw [hrg.cell k (by rw [kpL_length]; exact hx), kpL_at _ _ _ hx, hX]
    have f1 : wr.frozen? ⟨g, k, none⟩ = false := hrg.frozen k
    have bX : 0 ≤ X ∧ X < 256 := by rw [← hX]; exact HX.out.2.1.at k hx
    have R : Hid (∀ z, z = (if b then X else 0) → RowC (wr.setCell ⟨g, k, none⟩ (.int .u8 z)) g cap (kpL b (k + 1) zs) ∧ Kept (fun k => k = g) w (wr.setCell ⟨g, k, none⟩ (.int .u8 z))) := fun z hz => by
     refine ⟨?_, hkept.setCell (by exact rfl) _⟩
     rw [← kpL_succ b k zs hx, hX, hz]
     exact hrg.set k (by rw [kpL_length]; exact hx) _
    have e1 := and_255 X bX
    have e2 := and_0 X bX
    have i1 : (0 : Int) ≤ (k : Int) := by omega
    have i2 : (k : Int) < (n : Int) := by omega
    clear hX hrg hkept hx
    cases b
    ·have m0 : mk false = 0 := rfl
     rw [m0]
     go_wp2
     go_roundw
     case rel => exact ⟨k + 1, by omega, by go_num, (R.out _ rfl).1, (R.out _ rfl).2⟩
     case measure => simp [intOf]; omega
    ·have m0 : mk true = 18446744073709551615 := rfl
     rw [m0]
     go_wp2
     go_roundw
     case rel => exact ⟨k + 1, by omega, by go_num, (R.out _ rfl).1, (R.out _ rfl).2⟩
     case measure => simp [intOf]; omega
   ·obtain rfl : k = n := by omega
    rw [kpL_all _ _ _ HX.out.1] at hrg
    have HO : Hid (isO B k (keptL b zs) (.slice (some ⟨g, 0, none⟩) k cap) wr ∧ Kept (fun k => B ≤ k) w wr) := ⟨hrg.own (by rw [keptL_length]; exact HX.out.1) HX.out.2.2.2.1 HX.out.2.2.2.2, ⟨hkept.os, hkept.tape, hkept.output, hkept.size, fun j hj hs => hkept.block j hj (fun e => hs (by rw [e]; exact HX.out.2.2.2.1))⟩⟩
    clear hrg hkept
    go_wp2
    go_end0
    exact ⟨rfl, HO.out.1, HO.out.2⟩
def peelC (v : Value) (rep : List Int) (x : Int) : List Value := v :: (u8s rep ++ [.int .u64 x])
theorem peelC_length (v : Value) (rep : List Int) (x : Int) (h : rep.length = 32) : (peelC v rep x).length = 34 := by simp [peelC, u8s_length, h]
theorem peelC_one (ao : Option Addr) (n c : Nat) (rep : List Int) (x : Int) : ∀ v ∈ peelC (.slice ao n c) rep x, v.oneCell' = true := by
 intro v hv
 simp only [peelC, List.mem_cons, List.mem_append, List.not_mem_nil, or_false] at hv
 rcases hv with rfl | hv | rfl
 ·rfl
 ·exact u8s_one _ _ hv
 ·rfl
theorem zeroPeeled : (Tryz.prog.info? 56).map (fun i => (i.zero, i.size)) = some (some (.agg (peelC (.slice none 0 0) (List.replicate 32 0) 0).toArray), 34) := by kernel_rfl
theorem sizePeeled : (Tryz.prog.info? 56).map (·.size) = some 34 := by kernel_rfl
theorem list32 (l : List Int) (h : l.length = 32) : ∃ a0 a1 a2 a3 a4 a5 a6 a7 a8 a9 b0 b1 b2 b3 b4 b5 b6 b7 b8 b9 c0 c1 c2 c3 c4 c5 c6 c7 c8 c9 d0 d1, l = [a0, a1, a2, a3, a4, a5, a6, a7, a8, a9, b0, b1, b2, b3, b4, b5, b6, b7, b8, b9, c0, c1, c2, c3, c4, c5, c6, c7, c8, c9, d0, d1] := by
 match l, h with
 | [a0, a1, a2, a3, a4, a5, a6, a7, a8, a9, b0, b1, b2, b3, b4, b5, b6, b7, b8, b9, c0, c1, c2, c3, c4, c5, c6, c7, c8, c9, d0, d1], _ => exact ⟨a0, a1, a2, a3, a4, a5, a6, a7, a8, a9, b0, b1, b2, b3, b4, b5, b6, b7, b8, b9, c0, c1, c2, c3, c4, c5, c6, c7, c8, c9, d0, d1, rfl⟩
theorem build_peeled (ao : Option Addr) (n c : Nat) (rep : List Int) (x : Int) (h : rep.length = 32) (w : World) : (Instr.build 56 #[(0, .slice ao n c), (1, .agg (u8s rep).toArray), (2, .int .u64 x)]).run Tryz.prog w = .ok (.agg (peelC (.slice ao n c) rep x).toArray) w := by
 obtain ⟨a0, a1, a2, a3, a4, a5, a6, a7, a8, a9, b0, b1, b2, b3, b4, b5, b6, b7, b8, b9, c0, c1, c2, c3, c4, c5, c6, c7, c8, c9, d0, d1, rfl⟩ := list32 rep h
 kernel_rfl
theorem and_mk (a b : Bool) : bits .and .u64 (mk a) (mk b) = mk (a && b) := by cases a <;> cases b <;> decide +kernel
theorem rangeAt_below {w w' : World} {b o B : Nat} {cs : List Value} (h : w.rangeAt b o cs) (hb : Below B w w') (hB : b < B) : w'.rangeAt b o cs := fun j v hv => (hb.cell (p := ⟨b, o + j, none⟩) hB).trans (h j v hv)
def isT3 (B n : Nat) (zs : List Int) (x : Int) (v : Value) (w : World) : Prop := ∃ q, v = .tuple #[q, .int .u64 x, .int .i64 0] ∧ isO B n zs q w
theorem isT3_later (B n : Nat) (zs : List Int) (x : Int) : ∀ v w w', Below w.heap.size w w' → isT3 B n zs x v w → isT3 B n zs x v w' := fun _ _ _ hb ⟨q, h1, h2⟩ => ⟨q, h1, isO_later _ _ _ _ _ _ hb h2⟩
theorem isO_form {B n : Nat} {zs : List Int} {v : Value} {W : World} (h : isO B n zs v W) (hl : zs.length = n) : ∃ vo c, v = .slice vo n c := by
 rcases isO_len h hl with ⟨rfl, rfl, _⟩ | ⟨g, cap, rfl, _⟩
 ·exact ⟨none, 0, rfl⟩
 ·exact ⟨_, cap, rfl⟩
theorem offB_mk (rd : Int) (own box : List Int) : mk (offB rd own box) = bits .and .u64 (validN own (box.take 32)) (mk (opensL (offR rd own box) (lnonL 0 rd) [] (box.drop 32))) := by
 rw [validN, and_mk, offB]
 congr 2
 by_cases h : prodN own (box.take 32) = 0 <;> simp [h]
theorem offI_kept (rd : Int) (own box : List Int) (h : 48 ≤ box.length) : keptL (offB rd own box) (peekL (offR rd own box) (lnonL 0 rd) [] (box.drop 32)) = offI rd own box := by
 have hl : (peekL (offR rd own box) (lnonL 0 rd) [] (box.drop 32)).length = box.length - 48 := by rw [peekL_length, List.length_drop]; omega
 unfold offI keptL
 by_cases hb : offB rd own box = true
 ·rw [if_pos hb, if_pos hb, peekL, if_pos]
  unfold offB at hb
  simp only [Bool.and_eq_true] at hb
  exact hb.2
 ·rw [if_neg hb, if_neg hb, hl]
theorem takeOff_any (own : List Int) (rd : Int) (ao : Option Addr) (M c : Nat) (box : List Int) (h1 : own.length = 32) (b1 : Bytes own) (hr : 0 ≤ rd ∧ rd < 18446744073709551616) (hM : M + 48 ≤ 1048576) (w : World) (hx : Seen w ao (M + 48) box) (hc : M + 48 ≤ c) (hK : KTab w) :
  Calls Tryz.prog 69 #[.agg (u8s own).toArray, .agg (u8s (prodL own nineL)).toArray, .int .u64 rd, .slice ao (M + 48) c] w fun e w' => ∃ v, e = .returned (.agg (peelC v (offP rd own box) (mk (offB rd own box))).toArray) ∧ isO w.heap.size M (offI rd own box) v w' ∧ Below w.heap.size w w' := by
 obtain ⟨b, o, rfl, hbl, hcell⟩ := hx.cells (by omega)
 have hlen := hx.len
 have hRG : w.rangeAt b o (u8s (box.take 32)) := fun j u hu => by
  have hj : j < 32 := by
   have := (List.getElem?_eq_some_iff.1 hu).1
   rw [u8s_length, List.length_take] at this; omega
  rw [hcell j (by omega)]
  rw [← hu]
  simp [u8s, List.getElem?_take, hj, List.getD, List.getElem?_eq_getElem (show j < box.length by omega)]
 have hSB : Seen w (some ⟨b, o + 32, none⟩) (M + 16) (box.drop 32) := by
  have q := hx.sub 32 (M + 48) c (by omega) (Nat.le_refl _) hc
  rw [show M + 48 - 32 = M + 16 by omega, show subA (some ⟨b, o, none⟩) 32 c = some ⟨b, o + 32, none⟩ by unfold subA; rw [if_neg (by omega)]; simp [add_mid], List.take_of_length_le (by rw [List.length_drop]; omega)] at q
  exact q
 have f1 : ∀ W, (Instr.sliceAt 32 (.slice (some ⟨b, o, none⟩) (M + 48) c) none (some (.int .i64 32)) none).run Tryz.prog W = .ok (.slice (some ⟨b, o, none⟩) 32 c) W := fun W => by
  have q := sl_h (some ⟨b, o, none⟩) (M + 48) c 32 (by omega) W
  rw [show subA (some ⟨b, o, none⟩) 0 c = some ⟨b, o, none⟩ by unfold subA; rw [if_neg (by omega)]; simp [add_mid]] at q
  exact q
 have f2 : ∀ W, (Instr.sliceAt 32 (.slice (some ⟨b, o, none⟩) (M + 48) c) (some (.int .i64 32)) none none).run Tryz.prog W = .ok (.slice (some ⟨b, o + 32, none⟩) (M + 16) (c - 32)) W := fun W => by
  have q := sl_l (some ⟨b, o, none⟩) (M + 48) c 32 (by omega) W
  rw [show subA (some ⟨b, o, none⟩) 32 c = some ⟨b, o + 32, none⟩ by unfold subA; rw [if_neg (by omega)]; simp [add_mid], show M + 48 - 32 = M + 16 by omega] at q
  exact q
 have hat : ∀ W, (Instr.arrayAt 23 (.slice (some ⟨b, o, none⟩) 32 c)).run Tryz.prog W = .ok (.pointer (some ⟨b, o, none⟩)) W := fun W => run_arrayAt W 23 5 32 _ 32 c Tryz.underlying23 (Nat.le_refl _)
 have HX : Hid (Seen w (some ⟨b, o + 32, none⟩) (M + 16) (box.drop 32) ∧ M + 16 ≤ c - 32 ∧ KTab w ∧ M + 48 ≤ 1048576 ∧ w.rangeAt b o (u8s (box.take 32)) ∧ b < w.heap.size) := ⟨hSB, by omega, hK, hM, hRG, hbl⟩
 have hFl : (box.take 32).length = 32 := by rw [List.length_take]; omega
 have hFb : Bytes (box.take 32) := bytes_take hx.bytes 32
 have CA := agree_any own (box.take 32) h1 b1 hFl hFb
 have CS := sched_any (prodL own (box.take 32)) (box.take 32) (prodL own nineL) rd (prodL_length _ _) (prodL_bytes _ _) hFl hFb (prodL_length _ _) (prodL_bytes _ _) hr
 have CN := nonce_any 0 rd (by decide) hr
 have HV := offB_mk rd own box
 have HI := offI_kept rd own box (by omega)
 have hka' : reqL (prodL own (box.take 32)) (box.take 32) (prodL own nineL) rd = offR rd own box := rfl
 have hkb' : repL (prodL own (box.take 32)) (box.take 32) (prodL own nineL) rd = offP rd own box := rfl
 rw [hka', hkb'] at CS
 obtain ⟨ka, hka⟩ : ∃ q, offR rd own box = q := ⟨_, rfl⟩
 obtain ⟨kb, hkb⟩ : ∃ q, offP rd own box = q := ⟨_, rfl⟩
 obtain ⟨no, hno⟩ : ∃ q, lnonL 0 rd = q := ⟨_, rfl⟩
 obtain ⟨fs, hfs⟩ : ∃ q, box.take 32 = q := ⟨_, rfl⟩
 obtain ⟨rs, hrs⟩ : ∃ q, box.drop 32 = q := ⟨_, rfl⟩
 obtain ⟨sv, hsv⟩ : ∃ q, prodL own nineL = q := ⟨_, rfl⟩
 obtain ⟨B, hB⟩ : ∃ q, offB rd own box = q := ⟨_, rfl⟩
 obtain ⟨I, hI⟩ : ∃ q, offI rd own box = q := ⟨_, rfl⟩
 rw [hB, hfs, hka, hno, hrs] at HV
 rw [hB, hka, hno, hrs, hI] at HI
 rw [hfs] at CA HX
 rw [hfs, hka, hkb, hsv] at CS
 rw [hno] at CN
 rw [hrs] at HX
 rw [hB, hI, hkb, hsv]
 obtain ⟨ss, hss⟩ : ∃ q, prodL own fs = q := ⟨_, rfl⟩
 obtain ⟨vd, hvd⟩ : ∃ q, validN own fs = q := ⟨_, rfl⟩
 obtain ⟨ob, hob⟩ : ∃ q, opensL ka no [] rs = q := ⟨_, rfl⟩
 obtain ⟨pl, hpl⟩ : ∃ q, peekL ka no [] rs = q := ⟨_, rfl⟩
 rw [hss] at CS
 rw [hss, hvd] at CA
 rw [hvd, hob] at HV
 rw [hpl] at HI
 have HF : Hid (own.length = 32 ∧ sv.length = 32 ∧ fs.length = 32 ∧ ss.length = 32 ∧ ka.length = 32 ∧ Bytes ka ∧ kb.length = 32 ∧ no.length = 12 ∧ Bytes no ∧ Bytes own ∧ Bytes fs) :=
  ⟨h1, by rw [← hsv, prodL_length], by rw [← hfs]; exact hFl, by rw [← hss, prodL_length], by rw [← hka, offR, reqL_length], by rw [← hka, offR]; exact reqL_bytes _ _ _ _, by rw [← hkb, offP, repL_length], by rw [← hno]; exact nonL_length _ _, by rw [← hno]; exact nonL_bytes _ _, b1, by rw [← hfs]; exact hFb⟩
 have HP : Hid (pl.length = M ∧ Bytes pl ∧ opensL ka no [] rs = ob ∧ peekL ka no [] rs = pl ∧ mk B = bits .and .u64 vd (mk ob) ∧ keptL B pl = I) := by
  refine ⟨?_, ?_, hob, hpl, HV, HI⟩
  ·rw [← hpl, peekL_length, ← hrs, List.length_drop]; omega
  ·rw [← hpl, peekL]
   split
   ·exact textL_bytes _ _ (by rw [← hrs]; exact bytes_drop hx.bytes 32)
   ·exact rep0_bytes _
 have hAnd : bits .and .u64 vd (mk ob) = mk B := HP.out.2.2.2.2.1.symm
 obtain ⟨vo, hvo⟩ : ∃ q, mk ob = q := ⟨_, rfl⟩
 rw [hvo] at hAnd
 have HO : Hid (mk (opensL ka no [] rs) = vo) := by show _ = _; rw [hob, hvo]
 clear hx hbl hcell hlen hRG hSB h1 b1 hr hM hc hK hFl hFb hka' hkb' hka hkb hno hfs hrs hsv hB hI hss hvd hob hpl HV HI hvo
 go_enter Tryz.func69, Tryz.ntmps69
 go_wp2_with (first | ((with_reducible show wpList _ _ _ (({ dst := some 4, op := _, type := _, pos := _, after := _, guard := _ } : Oper) :: _) _ _); refine wpList_box_new rfl 23 (.tmp 0) rfl (u8s own) rfl ?_; intro w1 b1 s1 l1; have z1 : Hid (w1.heap.size = w.heap.size + 1) := s1; clear s1) | ((with_reducible show wpList _ _ _ (({ dst := some 5, op := _, type := _, pos := _, after := _, guard := _ } : Oper) :: _) _ _); refine wpList_box_new rfl 23 (.tmp 1) rfl (u8s sv) rfl ?_; intro w2 b2 s2 l2; have z2 : Hid (w2.heap.size = w1.heap.size + 1) := s2; clear s2) | ((with_reducible show wpList _ _ _ (({ dst := some 8, op := _, type := _, pos := _, after := _, guard := _ } : Oper) :: _) _ _); refine wpList_alloc_new rfl 56 rfl 34 _ zeroPeeled ?_; intro w3 b3 s3 l3; have z3 : Hid (w3.heap.size = w2.heap.size + 1) := s3; clear s3) | ((with_reducible show wpList _ _ _ (({ dst := some 21, op := _, type := _, pos := _, after := _, guard := _ } : Oper) :: _) _ _); refine wpList_load_mid rfl 23 (.tmp 20) rfl b o rfl (u8s fs) _ (rangeAt_below HX.out.2.2.2.2.1 (below_chain (below_chain l1 l2 (by have := z1.out; have := z2.out; omega)) l3 (by have := z1.out; have := z2.out; have := z3.out; omega)) HX.out.2.2.2.2.2) Tryz.underlying23 rfl (sizeU fs HF.out.2.2.1) ?_) | ((with_reducible show wpList _ _ _ (({ dst := some 9, op := _, type := _, pos := _, after := _, guard := _ } : Oper) :: _) _ _); refine wpList_alloc_new rfl 23 rfl 32 _ zeroKey ?_; intro w4 b4 s4 l4; have z4 : Hid (w4.heap.size = w3.heap.size + 1) := s4; clear s4) | (refine wpList_store_blk rfl 23 23 (.tmp 9) (.tmp 21) rfl _ rfl _ (u8s fs) rfl b4 (lenU _ _ HF.out.2.2.1 len0) (sizeU fs HF.out.2.2.1) (u8s_one _) ?_; intro w5 b5 s5 k5; have z5 : Hid (w5.heap.size = w4.heap.size) := s5; clear s5) | ((with_reducible show wpList _ _ _ (({ dst := some 23, op := _, type := _, pos := _, after := _, guard := _ } : Oper) :: _) _ _); refine wpList_load_blk rfl 23 (.tmp 4) rfl _ rfl (u8s own) _ ((((b1.later l2 (by have := z1.out; have := z2.out; omega)).later l3 (by have := z1.out; have := z2.out; have := z3.out; omega)).later l4 (by have := z1.out; have := z2.out; have := z3.out; have := z4.out; omega)).kept k5 (by have := z1.out; have := z2.out; have := z3.out; have := z4.out; have := z5.out; omega)) Tryz.underlying23 rfl (sizeU own HF.out.1) ?_) | ((with_reducible show wpList _ _ _ (({ dst := some 24, op := _, type := _, pos := _, after := _, guard := _ } : Oper) :: _) _ _); refine wpList_load_blk rfl 23 (.tmp 9) rfl _ rfl (u8s fs) _ b5 Tryz.underlying23 rfl (sizeU fs HF.out.2.2.1) ?_))
 refine (CA _).mono ?_
 rintro e w6 ⟨rfl, l6⟩
 have z6 : Hid (w5.heap.size ≤ w6.heap.size) := l6.size
 have V2 : Hid (Below w.heap.size w w6 ∧ Blk w6 (w.heap.size) 23 (u8s own) ∧ Blk w6 (w1.heap.size) 23 (u8s sv) ∧ Blk w6 (w2.heap.size) 56 (peelC (.slice none 0 0) (List.replicate 32 0) 0) ∧ Blk w6 (w3.heap.size) 23 (u8s fs)) := ⟨(below_chain (below_kept (below_chain (below_chain (below_chain l1 l2 (by have := z1.out; have := z2.out; omega)) l3 (by have := z1.out; have := z2.out; have := z3.out; omega)) l4 (by have := z1.out; have := z2.out; have := z3.out; have := z4.out; omega)) k5 (by have := z1.out; have := z2.out; have := z3.out; have := z4.out; have := z5.out; omega) (fun j hj => (by have := z1.out; have := z2.out; have := z3.out; have := z4.out; have := z5.out; omega))) l6 (by have := z1.out; have := z2.out; have := z3.out; have := z4.out; have := z5.out; have := z6.out; omega)), (((((b1.later l2 (by have := z1.out; have := z2.out; omega)).later l3 (by have := z1.out; have := z2.out; have := z3.out; omega)).later l4 (by have := z1.out; have := z2.out; have := z3.out; have := z4.out; omega)).kept k5 (by have := z1.out; have := z2.out; have := z3.out; have := z4.out; have := z5.out; omega)).later l6 (by have := z1.out; have := z2.out; have := z3.out; have := z4.out; have := z5.out; have := z6.out; omega)), ((((b2.later l3 (by have := z1.out; have := z2.out; have := z3.out; omega)).later l4 (by have := z1.out; have := z2.out; have := z3.out; have := z4.out; omega)).kept k5 (by have := z1.out; have := z2.out; have := z3.out; have := z4.out; have := z5.out; omega)).later l6 (by have := z1.out; have := z2.out; have := z3.out; have := z4.out; have := z5.out; have := z6.out; omega)), (((b3.later l4 (by have := z1.out; have := z2.out; have := z3.out; have := z4.out; omega)).kept k5 (by have := z1.out; have := z2.out; have := z3.out; have := z4.out; have := z5.out; omega)).later l6 (by have := z1.out; have := z2.out; have := z3.out; have := z4.out; have := z5.out; have := z6.out; omega)), (b5.later l6 (by have := z1.out; have := z2.out; have := z3.out; have := z4.out; have := z5.out; have := z6.out; omega))⟩
 clear l1 l2 l3 l4 k5 l6 b1 b2 b3 b5
 go_wp2_with (first | ((with_reducible show wpList _ _ _ (({ dst := some 10, op := _, type := _, pos := _, after := _, guard := _ } : Oper) :: _) _ _); refine wpList_alloc_new rfl 23 rfl 32 _ zeroKey ?_; intro w7 b7 s7 l7; have z7 : Hid (w7.heap.size = w6.heap.size + 1) := s7; clear s7) | (refine wpList_store_blk rfl 23 23 (.tmp 10) (.tmp 26) rfl _ rfl _ (u8s ss) rfl b7 (lenU _ _ HF.out.2.2.2.1 len0) (sizeU ss HF.out.2.2.2.1) (u8s_one _) ?_; intro w8 b8 s8 k8; have z8 : Hid (w8.heap.size = w7.heap.size) := s8; clear s8) | ((with_reducible show wpList _ _ _ (({ dst := some 29, op := _, type := _, pos := _, after := _, guard := _ } : Oper) :: _) _ _); refine wpList_load_blk rfl 23 (.tmp 10) rfl _ rfl (u8s ss) _ b8 Tryz.underlying23 rfl (sizeU ss HF.out.2.2.2.1) ?_) | ((with_reducible show wpList _ _ _ (({ dst := some 30, op := _, type := _, pos := _, after := _, guard := _ } : Oper) :: _) _ _); refine wpList_load_blk rfl 23 (.tmp 9) rfl _ rfl (u8s fs) _ ((V2.out.2.2.2.2.later l7 (by have := z1.out; have := z2.out; have := z3.out; have := z4.out; have := z5.out; have := z6.out; have := z7.out; omega)).kept k8 (by have := z1.out; have := z2.out; have := z3.out; have := z4.out; have := z5.out; have := z6.out; have := z7.out; have := z8.out; omega)) Tryz.underlying23 rfl (sizeU fs HF.out.2.2.1) ?_) | ((with_reducible show wpList _ _ _ (({ dst := some 31, op := _, type := _, pos := _, after := _, guard := _ } : Oper) :: _) _ _); refine wpList_load_blk rfl 23 (.tmp 5) rfl _ rfl (u8s sv) _ ((V2.out.2.2.1.later l7 (by have := z1.out; have := z2.out; have := z3.out; have := z4.out; have := z5.out; have := z6.out; have := z7.out; omega)).kept k8 (by have := z1.out; have := z2.out; have := z3.out; have := z4.out; have := z5.out; have := z6.out; have := z7.out; have := z8.out; omega)) Tryz.underlying23 rfl (sizeU sv HF.out.2.1) ?_))
 refine (CS _ (HX.out.2.2.1.below (below_kept (below_chain V2.out.1 l7 (by have := z1.out; have := z2.out; have := z3.out; have := z4.out; have := z5.out; have := z6.out; have := z7.out; omega)) k8 (by have := z1.out; have := z2.out; have := z3.out; have := z4.out; have := z5.out; have := z6.out; have := z7.out; have := z8.out; omega) (fun j hj => (by have := z1.out; have := z2.out; have := z3.out; have := z4.out; have := z5.out; have := z6.out; have := z7.out; have := z8.out; omega))) HX.out.2.2.1.lt)).mono ?_
 rintro e w9 ⟨rfl, l9⟩
 have z9 : Hid (w8.heap.size ≤ w9.heap.size) := l9.size
 have V3 : Hid (Below w.heap.size w w9 ∧ Blk w9 (w.heap.size) 23 (u8s own) ∧ Blk w9 (w1.heap.size) 23 (u8s sv) ∧ Blk w9 (w2.heap.size) 56 (peelC (.slice none 0 0) (List.replicate 32 0) 0) ∧ Blk w9 (w3.heap.size) 23 (u8s fs) ∧ Blk w9 (w6.heap.size) 23 (u8s ss)) := ⟨(below_chain (below_kept (below_chain V2.out.1 l7 (by have := z1.out; have := z2.out; have := z3.out; have := z4.out; have := z5.out; have := z6.out; have := z7.out; omega)) k8 (by have := z1.out; have := z2.out; have := z3.out; have := z4.out; have := z5.out; have := z6.out; have := z7.out; have := z8.out; omega) (fun j hj => (by have := z1.out; have := z2.out; have := z3.out; have := z4.out; have := z5.out; have := z6.out; have := z7.out; have := z8.out; omega))) l9 (by have := z1.out; have := z2.out; have := z3.out; have := z4.out; have := z5.out; have := z6.out; have := z7.out; have := z8.out; have := z9.out; omega)), (((V2.out.2.1.later l7 (by have := z1.out; have := z2.out; have := z3.out; have := z4.out; have := z5.out; have := z6.out; have := z7.out; omega)).kept k8 (by have := z1.out; have := z2.out; have := z3.out; have := z4.out; have := z5.out; have := z6.out; have := z7.out; have := z8.out; omega)).later l9 (by have := z1.out; have := z2.out; have := z3.out; have := z4.out; have := z5.out; have := z6.out; have := z7.out; have := z8.out; have := z9.out; omega)), (((V2.out.2.2.1.later l7 (by have := z1.out; have := z2.out; have := z3.out; have := z4.out; have := z5.out; have := z6.out; have := z7.out; omega)).kept k8 (by have := z1.out; have := z2.out; have := z3.out; have := z4.out; have := z5.out; have := z6.out; have := z7.out; have := z8.out; omega)).later l9 (by have := z1.out; have := z2.out; have := z3.out; have := z4.out; have := z5.out; have := z6.out; have := z7.out; have := z8.out; have := z9.out; omega)), (((V2.out.2.2.2.1.later l7 (by have := z1.out; have := z2.out; have := z3.out; have := z4.out; have := z5.out; have := z6.out; have := z7.out; omega)).kept k8 (by have := z1.out; have := z2.out; have := z3.out; have := z4.out; have := z5.out; have := z6.out; have := z7.out; have := z8.out; omega)).later l9 (by have := z1.out; have := z2.out; have := z3.out; have := z4.out; have := z5.out; have := z6.out; have := z7.out; have := z8.out; have := z9.out; omega)), (((V2.out.2.2.2.2.later l7 (by have := z1.out; have := z2.out; have := z3.out; have := z4.out; have := z5.out; have := z6.out; have := z7.out; omega)).kept k8 (by have := z1.out; have := z2.out; have := z3.out; have := z4.out; have := z5.out; have := z6.out; have := z7.out; have := z8.out; omega)).later l9 (by have := z1.out; have := z2.out; have := z3.out; have := z4.out; have := z5.out; have := z6.out; have := z7.out; have := z8.out; have := z9.out; omega)), (b8.later l9 (by have := z1.out; have := z2.out; have := z3.out; have := z4.out; have := z5.out; have := z6.out; have := z7.out; have := z8.out; have := z9.out; omega))⟩
 clear l7 k8 l9 b8
 go_wp2_with (first | ((with_reducible show wpList _ _ _ (({ dst := some 12, op := _, type := _, pos := _, after := _, guard := _ } : Oper) :: _) _ _); refine wpList_alloc_new rfl 23 rfl 32 _ zeroKey ?_; intro w10 b10 s10 l10; have z10 : Hid (w10.heap.size = w9.heap.size + 1) := s10; clear s10) | ((with_reducible show wpList _ _ _ (({ dst := some 13, op := _, type := _, pos := _, after := _, guard := _ } : Oper) :: _) _ _); refine wpList_alloc_new rfl 23 rfl 32 _ zeroKey ?_; intro w11 b11 s11 l11; have z11 : Hid (w11.heap.size = w10.heap.size + 1) := s11; clear s11) | (refine wpList_store_blk rfl 23 23 (.tmp 12) (.tmp 34) rfl _ rfl _ (u8s ka) rfl (b10.later l11 (by have := z1.out; have := z2.out; have := z3.out; have := z4.out; have := z5.out; have := z6.out; have := z7.out; have := z8.out; have := z9.out; have := z10.out; have := z11.out; omega)) (lenU _ _ HF.out.2.2.2.2.1 len0) (sizeU ka HF.out.2.2.2.2.1) (u8s_one _) ?_; intro w12 b12 s12 k12; have z12 : Hid (w12.heap.size = w11.heap.size) := s12; clear s12) | (refine wpList_store_blk rfl 23 23 (.tmp 13) (.tmp 35) rfl _ rfl _ (u8s kb) rfl (b11.kept k12 (by have := z1.out; have := z2.out; have := z3.out; have := z4.out; have := z5.out; have := z6.out; have := z7.out; have := z8.out; have := z9.out; have := z10.out; have := z11.out; have := z12.out; omega)) (lenU _ _ HF.out.2.2.2.2.2.2.1 len0) (sizeU kb HF.out.2.2.2.2.2.2.1) (u8s_one _) ?_; intro w13 b13 s13 k13; have z13 : Hid (w13.heap.size = w12.heap.size) := s13; clear s13))
 have V4 : Hid (Below w.heap.size w w13 ∧ Blk w13 (w.heap.size) 23 (u8s own) ∧ Blk w13 (w1.heap.size) 23 (u8s sv) ∧ Blk w13 (w2.heap.size) 56 (peelC (.slice none 0 0) (List.replicate 32 0) 0) ∧ Blk w13 (w3.heap.size) 23 (u8s fs) ∧ Blk w13 (w6.heap.size) 23 (u8s ss) ∧ Blk w13 (w9.heap.size) 23 (u8s ka) ∧ Blk w13 (w10.heap.size) 23 (u8s kb)) := ⟨(below_kept (below_kept (below_chain (below_chain V3.out.1 l10 (by have := z1.out; have := z2.out; have := z3.out; have := z4.out; have := z5.out; have := z6.out; have := z7.out; have := z8.out; have := z9.out; have := z10.out; omega)) l11 (by have := z1.out; have := z2.out; have := z3.out; have := z4.out; have := z5.out; have := z6.out; have := z7.out; have := z8.out; have := z9.out; have := z10.out; have := z11.out; omega)) k12 (by have := z1.out; have := z2.out; have := z3.out; have := z4.out; have := z5.out; have := z6.out; have := z7.out; have := z8.out; have := z9.out; have := z10.out; have := z11.out; have := z12.out; omega) (fun j hj => (by have := z1.out; have := z2.out; have := z3.out; have := z4.out; have := z5.out; have := z6.out; have := z7.out; have := z8.out; have := z9.out; have := z10.out; have := z11.out; have := z12.out; omega))) k13 (by have := z1.out; have := z2.out; have := z3.out; have := z4.out; have := z5.out; have := z6.out; have := z7.out; have := z8.out; have := z9.out; have := z10.out; have := z11.out; have := z12.out; have := z13.out; omega) (fun j hj => (by have := z1.out; have := z2.out; have := z3.out; have := z4.out; have := z5.out; have := z6.out; have := z7.out; have := z8.out; have := z9.out; have := z10.out; have := z11.out; have := z12.out; have := z13.out; omega))), ((((V3.out.2.1.later l10 (by have := z1.out; have := z2.out; have := z3.out; have := z4.out; have := z5.out; have := z6.out; have := z7.out; have := z8.out; have := z9.out; have := z10.out; omega)).later l11 (by have := z1.out; have := z2.out; have := z3.out; have := z4.out; have := z5.out; have := z6.out; have := z7.out; have := z8.out; have := z9.out; have := z10.out; have := z11.out; omega)).kept k12 (by have := z1.out; have := z2.out; have := z3.out; have := z4.out; have := z5.out; have := z6.out; have := z7.out; have := z8.out; have := z9.out; have := z10.out; have := z11.out; have := z12.out; omega)).kept k13 (by have := z1.out; have := z2.out; have := z3.out; have := z4.out; have := z5.out; have := z6.out; have := z7.out; have := z8.out; have := z9.out; have := z10.out; have := z11.out; have := z12.out; have := z13.out; omega)), ((((V3.out.2.2.1.later l10 (by have := z1.out; have := z2.out; have := z3.out; have := z4.out; have := z5.out; have := z6.out; have := z7.out; have := z8.out; have := z9.out; have := z10.out; omega)).later l11 (by have := z1.out; have := z2.out; have := z3.out; have := z4.out; have := z5.out; have := z6.out; have := z7.out; have := z8.out; have := z9.out; have := z10.out; have := z11.out; omega)).kept k12 (by have := z1.out; have := z2.out; have := z3.out; have := z4.out; have := z5.out; have := z6.out; have := z7.out; have := z8.out; have := z9.out; have := z10.out; have := z11.out; have := z12.out; omega)).kept k13 (by have := z1.out; have := z2.out; have := z3.out; have := z4.out; have := z5.out; have := z6.out; have := z7.out; have := z8.out; have := z9.out; have := z10.out; have := z11.out; have := z12.out; have := z13.out; omega)), ((((V3.out.2.2.2.1.later l10 (by have := z1.out; have := z2.out; have := z3.out; have := z4.out; have := z5.out; have := z6.out; have := z7.out; have := z8.out; have := z9.out; have := z10.out; omega)).later l11 (by have := z1.out; have := z2.out; have := z3.out; have := z4.out; have := z5.out; have := z6.out; have := z7.out; have := z8.out; have := z9.out; have := z10.out; have := z11.out; omega)).kept k12 (by have := z1.out; have := z2.out; have := z3.out; have := z4.out; have := z5.out; have := z6.out; have := z7.out; have := z8.out; have := z9.out; have := z10.out; have := z11.out; have := z12.out; omega)).kept k13 (by have := z1.out; have := z2.out; have := z3.out; have := z4.out; have := z5.out; have := z6.out; have := z7.out; have := z8.out; have := z9.out; have := z10.out; have := z11.out; have := z12.out; have := z13.out; omega)), ((((V3.out.2.2.2.2.1.later l10 (by have := z1.out; have := z2.out; have := z3.out; have := z4.out; have := z5.out; have := z6.out; have := z7.out; have := z8.out; have := z9.out; have := z10.out; omega)).later l11 (by have := z1.out; have := z2.out; have := z3.out; have := z4.out; have := z5.out; have := z6.out; have := z7.out; have := z8.out; have := z9.out; have := z10.out; have := z11.out; omega)).kept k12 (by have := z1.out; have := z2.out; have := z3.out; have := z4.out; have := z5.out; have := z6.out; have := z7.out; have := z8.out; have := z9.out; have := z10.out; have := z11.out; have := z12.out; omega)).kept k13 (by have := z1.out; have := z2.out; have := z3.out; have := z4.out; have := z5.out; have := z6.out; have := z7.out; have := z8.out; have := z9.out; have := z10.out; have := z11.out; have := z12.out; have := z13.out; omega)), ((((V3.out.2.2.2.2.2.later l10 (by have := z1.out; have := z2.out; have := z3.out; have := z4.out; have := z5.out; have := z6.out; have := z7.out; have := z8.out; have := z9.out; have := z10.out; omega)).later l11 (by have := z1.out; have := z2.out; have := z3.out; have := z4.out; have := z5.out; have := z6.out; have := z7.out; have := z8.out; have := z9.out; have := z10.out; have := z11.out; omega)).kept k12 (by have := z1.out; have := z2.out; have := z3.out; have := z4.out; have := z5.out; have := z6.out; have := z7.out; have := z8.out; have := z9.out; have := z10.out; have := z11.out; have := z12.out; omega)).kept k13 (by have := z1.out; have := z2.out; have := z3.out; have := z4.out; have := z5.out; have := z6.out; have := z7.out; have := z8.out; have := z9.out; have := z10.out; have := z11.out; have := z12.out; have := z13.out; omega)), (b12.kept k13 (by have := z1.out; have := z2.out; have := z3.out; have := z4.out; have := z5.out; have := z6.out; have := z7.out; have := z8.out; have := z9.out; have := z10.out; have := z11.out; have := z12.out; have := z13.out; omega)), b13⟩
 clear l10 l11 k12 k13 b12 b13
 refine region_invP 7 ((.val (.agg (u8s ka).toArray)) :: (.val (.int .u64 rd)) :: (.val (.agg (u8s no).toArray)) :: (.val (.slice (some ⟨b, o, none⟩) (M + 48) c)) :: (.val (.slice (some ⟨b, o + 32, none⟩) (M + 16) (c - 32))) :: (.any (isT3 w13.heap.size M pl vo) (isT3_later _ _ _ _)) :: (.any (isT3 w13.heap.size M pl vo) (isT3_later _ _ _ _)) :: []) (by kernel_rfl) (by kernel_rfl) (by kernel_rfl) [] ⟨.inl rfl, .inl rfl, .inl rfl, .inl rfl, .inl rfl, .inl rfl, .inl rfl, trivial⟩ (by kernel_rfl) ?_ ?_
 ·refine Steps'.cons ?_ (Steps'.cons ?_ (Steps'.cons ?_ (Steps'.cons ?_ (Steps'.cons ?_ (Steps'.cons ?_ (Steps'.cons ?_ (Steps'.one _ _ _ _ _ _ _)))))))
  ·intro ax wx hb hs hd
   have h12 : ax.tmps.getD 12 undef = (.pointer (some ⟨w9.heap.size, 0, none⟩)) := hs 12 (by kernel_rfl)
   exact Does.load 23 (.tmp 12) rfl _ 0 h12 (u8s ka) _ ((V4.out.2.2.2.2.2.2.1.later hb V4.out.2.2.2.2.2.2.1.lt)).whole Tryz.underlying23 rfl (sizeU ka HF.out.2.2.2.2.1)
  ·intro ax wx hb hs hd
   have h2 : ax.tmps.getD 2 undef = (.int .u64 rd) := hs 2 (by kernel_rfl)
   exact Does.value _ (by clear hs hd; go_simp) rfl
  ·intro ax wx hb hs hd
   have h38 := vOf (hd 1 38 rfl (by kernel_rfl) (by decide))
   refine Does.call 75 #[.int .u32 0, .int .u64 rd] (by clear hs hd; go_simp) ?_
   refine (CN wx).mono ?_
   rintro z w' ⟨rfl, l⟩
   exact ⟨_, rfl, rfl, l⟩
  ·intro ax wx hb hs hd
   have h3 : ax.tmps.getD 3 undef = (.slice (some ⟨b, o, none⟩) (M + 48) c) := hs 3 (by kernel_rfl)
   exact Does.value _ (by clear hs hd; go_simp) rfl
  ·intro ax wx hb hs hd
   have h40 := vOf (hd 3 40 rfl (by kernel_rfl) (by decide))
   exact Does.value _ (by clear hs hd; go_simp) rfl
  ·intro ax wx hb hs hd
   have h37 := vOf (hd 0 37 rfl (by kernel_rfl) (by decide))
   have h39 := vOf (hd 2 39 rfl (by kernel_rfl) (by decide))
   have h41 := vOf (hd 4 41 rfl (by kernel_rfl) (by decide))
   refine Does.call 110 #[.agg (u8s ka).toArray, .agg (u8s no).toArray, .slice none 0 0, .slice (some ⟨b, o + 32, none⟩) (M + 16) (c - 32)] (by clear hs hd; go_simp) ?_
   have hn4 := HX.out.2.2.2.1
   refine (peek_any ka no 0 0 (M + 16) (c - 32) none (some ⟨b, o + 32, none⟩) [] rs HF.out.2.2.2.2.1 HF.out.2.2.2.2.2.2.2.1 HF.out.2.2.2.2.2.1 HF.out.2.2.2.2.2.2.2.2.1 (by omega) (by omega) (by decide) wx (Seen.empty _ _) (HX.out.1.later (below_chain V4.out.1 hb V4.out.1.size) (Nat.le_refl _)) (Nat.le_refl _) HX.out.2.1).mono ?_
   rintro z w' ⟨r, rfl, ho, l⟩
   rw [HO.out]
   rw [show M + 16 - 16 = M by omega, HP.out.2.2.2.1] at ho
   exact ⟨_, rfl, ⟨r, rfl, isO_base ho hb.size⟩, l⟩
  ·intro ax wx hb hs hd
   have hq : isT3 w13.heap.size M pl vo (ax.tmps.getD 42 undef) wx := hd 5 42 rfl (by kernel_rfl) (by decide)
   exact Does.value (ax.tmps.getD 42 undef) (by clear hs hd; go_simp) hq
 ·intro wx hb
  iterate 5 refine @EndsP.val _ _ _ _ _ _ _ _ _ rfl ?_
  refine @EndsP.any _ _ _ _ _ _ _ _ (isT3 w13.heap.size M pl vo) (isT3_later _ _ _ _) rfl ?_
  intro v5 p5
  refine @EndsP.any _ _ _ _ _ _ _ _ (isT3 w13.heap.size M pl vo) (isT3_later _ _ _ _) rfl ?_
  intro v6 p6
  intro hD nf hn
  obtain ⟨q6, rfl, hq6⟩ := p6
  obtain ⟨qo, qc, rfl⟩ := isO_form hq6 HP.out.1
  obtain ⟨mf, rfl⟩ : ∃ mf, nf = mf + 6 := ⟨nf - 6, by have h3 : 6 ≤ nf := hn; omega⟩
  clear hD hn
  simp only [Act.put, sA, sB, sC]
  refine take_op 7 (some 43) (.slice qo M qc) rfl rfl (by kernel_rfl) (by kernel_rfl) (by kernel_rfl) (fun _ _ _ h => h) (by rfl) (fun W' => by go_simp) ?_
  simp only [Act.put, sA, sB, sC]
  refine take_op 8 (some 44) (.int .u64 vo) rfl rfl (by kernel_rfl) (by kernel_rfl) (by kernel_rfl) (fun _ _ _ h => h) (by rfl) (fun W' => by go_simp) ?_
  simp only [Act.put, sA, sB, sC]
  refine take_op 9 (some 45) (.int .i64 0) rfl rfl (by kernel_rfl) (by kernel_rfl) (by kernel_rfl) (fun _ _ _ h => h) (by rfl) (fun W' => by go_simp) ?_
  simp only [Act.put, sA, sB, sC]
  refine take_op 10 (some 14) (.slice qo M qc) rfl rfl (by kernel_rfl) (by kernel_rfl) (by kernel_rfl) (fun _ _ _ h => h) (by rfl) (fun W' => by go_simp) ?_
  simp only [Act.put, sA, sB, sC]
  refine take_op 11 (some 15) (.int .u64 vo) rfl rfl (by kernel_rfl) (by kernel_rfl) (by kernel_rfl) (fun _ _ _ h => h) (by rfl) (fun W' => by go_simp) ?_
  simp only [Act.put, sA, sB, sC]
  refine take_op 12 (some 16) (.int .i64 0) rfl rfl (by kernel_rfl) (by kernel_rfl) (by kernel_rfl) (fun _ _ _ h => h) (by rfl) (fun W' => by go_simp) ?_
  simp only [Act.put, sA, sB, sC]
  refine wpAny_done (by kernel_rfl) (NoPanic.normal ?_) _
  obtain ⟨y5, rfl⟩ : ∃ q, q = wx := ⟨_, rfl⟩
  have hl9 : w2.heap.size < w13.heap.size := V4.out.2.2.2.1.lt
  have hl13 : w10.heap.size < w13.heap.size := V4.out.2.2.2.2.2.2.2.lt
  have hW4 : w.heap.size ≤ w13.heap.size := V4.out.1.size
  have V5 : Hid (Below w.heap.size w y5 ∧ Blk y5 (w.heap.size) 23 (u8s own) ∧ Blk y5 (w1.heap.size) 23 (u8s sv) ∧ Blk y5 (w2.heap.size) 56 (peelC (.slice none 0 0) (List.replicate 32 0) 0) ∧ Blk y5 (w3.heap.size) 23 (u8s fs) ∧ Blk y5 (w6.heap.size) 23 (u8s ss) ∧ Blk y5 (w9.heap.size) 23 (u8s ka) ∧ Blk y5 (w10.heap.size) 23 (u8s kb) ∧ isO w13.heap.size M pl (.slice qo M qc) y5) := ⟨below_chain V4.out.1 hb V4.out.1.size, V4.out.2.1.later hb V4.out.2.1.lt, V4.out.2.2.1.later hb V4.out.2.2.1.lt, V4.out.2.2.2.1.later hb V4.out.2.2.2.1.lt, V4.out.2.2.2.2.1.later hb V4.out.2.2.2.2.1.lt, V4.out.2.2.2.2.2.1.later hb V4.out.2.2.2.2.2.1.lt, V4.out.2.2.2.2.2.2.1.later hb V4.out.2.2.2.2.2.2.1.lt, V4.out.2.2.2.2.2.2.2.later hb V4.out.2.2.2.2.2.2.2.lt, hq6⟩
  clear V4 hb hq6 p5
  have HN := HX.out.2.2.2.1
  go_wp2_with fail
  try rw [hAnd]
  refine (keepBy_any B w13.heap.size M pl _ y5 HP.out.1 HP.out.2.1 (by omega) V5.out.2.2.2.2.2.2.2.2).mono ?_
  rintro e y6 ⟨rfl, o6, k6⟩
  rw [HP.out.2.2.2.2.2] at o6
  have V6 : Hid (Below w.heap.size w y6 ∧ Blk y6 (w2.heap.size) 56 (peelC (.slice none 0 0) (List.replicate 32 0) 0) ∧ Blk y6 (w10.heap.size) 23 (u8s kb) ∧ isO w13.heap.size M I (.slice qo M qc) y6) := ⟨below_kept V5.out.1 k6 V5.out.1.size (fun j hj => by omega), V5.out.2.2.2.1.kept k6 (by omega), V5.out.2.2.2.2.2.2.2.1.kept k6 (by omega), o6⟩
  clear V5 o6 k6
  have hbd := build_peeled qo M qc kb (mk B) HF.out.2.2.2.2.2.2.1
  go_wp2_with (first | (refine wpList_load_blk rfl 23 (.tmp 13) rfl _ rfl (u8s kb) _ V6.out.2.2.1 Tryz.underlying23 rfl (sizeU kb HF.out.2.2.2.2.2.2.1) ?_) | (refine wpList_build rfl 56 _ rfl #[(0, .slice qo M qc), (1, .agg (u8s kb).toArray), (2, .int .u64 (mk B))] (by simp [Act.eval]) _ (hbd _) ?_) | (refine wpList_store_blk rfl 56 56 (.tmp 8) (.tmp 55) rfl _ rfl _ (peelC (.slice qo M qc) kb (mk B)) rfl V6.out.2.1 (by rw [peelC_length _ _ _ HF.out.2.2.2.2.2.2.1]; rfl) (by rw [peelC_length _ _ _ HF.out.2.2.2.2.2.2.1]; exact sizePeeled) (peelC_one _ _ _ _ _) ?_; intro y7 b7 s7 k7))
  have hlt : w.heap.size ≤ w2.heap.size := by have := z1.out; have := z2.out; omega
  exact ret_blk rfl (w2.heap.size) (peelC (.slice qo M qc) kb (mk B)) _ rfl b7 Tryz.underlying56 rfl (by rw [peelC_length _ _ _ HF.out.2.2.2.2.2.2.1]; exact sizePeeled) rfl ⟨_, rfl, isO_base (isO_kept V6.out.2.2.2 k7 (fun k hk => by omega)) hW4, below_kept V6.out.1 k7 V6.out.1.size (fun j hj => by omega)⟩
def isPl (B n : Nat) (zs rep : List Int) (x : Int) (v : Value) (w : World) : Prop := ∃ ao c, v = .agg (peelC (.slice ao n c) rep x).toArray ∧ isO B n zs (.slice ao n c) w
theorem isPl_later (B n : Nat) (zs rep : List Int) (x : Int) : ∀ v w w', Below w.heap.size w w' → isPl B n zs rep x v w → isPl B n zs rep x v w' := fun _ _ _ hb ⟨ao, c, h1, h2⟩ => ⟨ao, c, h1, isO_later _ _ _ _ _ _ hb h2⟩
def isO1 (B n : Nat) (zs : List Int) (v : Value) (w : World) : Prop := ∃ ao c, v = .slice ao n c ∧ isO B n zs (.slice ao n c) w
theorem isO1_later (B n : Nat) (zs : List Int) : ∀ v w w', Below w.heap.size w w' → isO1 B n zs v w → isO1 B n zs v w' := fun _ _ _ hb ⟨ao, c, h1, h2⟩ => ⟨ao, c, h1, isO_later _ _ _ _ _ _ hb h2⟩
def isT2o (B n : Nat) (zs : List Int) (v : Value) (w : World) : Prop := ∃ ao c, v = .tuple #[.slice ao n c, .int .i64 0] ∧ isO B n zs (.slice ao n c) w
theorem isT2o_later (B n : Nat) (zs : List Int) : ∀ v w w', Below w.heap.size w w' → isT2o B n zs v w → isT2o B n zs v w' := fun _ _ _ hb ⟨ao, c, h1, h2⟩ => ⟨ao, c, h1, isO_later _ _ _ _ _ _ hb h2⟩
theorem offI_length (rd : Int) (own box : List Int) (h : 48 ≤ box.length) : (offI rd own box).length = box.length - 48 := by
 unfold offI
 split
 ·rw [textL_length, List.length_drop]; omega
 ·simp
theorem peel_any (own : List Int) (rd : Int) (ao : Option Addr) (M c : Nat) (box : List Int) (h1 : own.length = 32) (b1 : Bytes own) (hr : 0 ≤ rd ∧ rd < 18446744073709551616) (hM : M + 48 ≤ 1048576) (w : World) (hx : Seen w ao (M + 48) box) (hc : M + 48 ≤ c) (hK : KTab w) :
  Calls Tryz.prog 31 #[.agg (u8s own).toArray, .int .u64 rd, .slice ao (M + 48) c] w fun e w' => ∃ qo qc, e = .returned (.tuple #[.agg (peelC (.slice qo M qc) (offP rd own box) (mk (offB rd own box))).toArray, .int .i64 0]) ∧ isO w.heap.size M (offI rd own box) (.slice qo M qc) w' ∧ Below w.heap.size w w' := by
 have CC := checkBoxY_any ao (M + 48) c (by omega)
 have hE : peelE (M + 48) = 0 := by unfold peelE; rw [if_neg (by omega), if_neg (by omega)]
 rw [hE] at CC
 have CB := base_any own h1 b1
 have CT := fun (W : World) (hs : Seen W ao (M + 48) box) (hk : KTab W) => takeOff_any own rd ao M c box h1 b1 hr hM W hs hc hk
 have HI : Hid ((offI rd own box).length = M ∧ (offP rd own box).length = 32) := ⟨by rw [offI_length _ _ _ (by rw [hx.len]; omega), hx.len]; omega, by rw [offP, repL_length]⟩
 obtain ⟨sv, hsv⟩ : ∃ q, prodL own nineL = q := ⟨_, rfl⟩
 obtain ⟨kb, hkb⟩ : ∃ q, offP rd own box = q := ⟨_, rfl⟩
 obtain ⟨I, hI⟩ : ∃ q, offI rd own box = q := ⟨_, rfl⟩
 obtain ⟨B, hB⟩ : ∃ q, mk (offB rd own box) = q := ⟨_, rfl⟩
 rw [hsv] at CB
 rw [hsv, hkb, hI, hB] at CT
 rw [hI, hkb] at HI
 rw [hkb, hI, hB]
 have HX : Hid (Seen w ao (M + 48) box ∧ KTab w ∧ own.length = 32) := ⟨hx, hK, h1⟩
 clear hx hc hK h1 b1 hr hM hE hsv hkb hI hB
 go_enter Tryz.func31, Tryz.ntmps31
 go_wp2_with (first | ((with_reducible show wpList _ _ _ (({ dst := some 3, op := _, type := _, pos := _, after := _, guard := _ } : Oper) :: _) _ _); refine wpList_box_new rfl 23 (.tmp 0) rfl (u8s own) rfl ?_; intro w1 b1 s1 l1; have z1 : Hid (w1.heap.size = w.heap.size + 1) := s1; clear s1) | ((with_reducible show wpList _ _ _ (({ dst := some 6, op := _, type := _, pos := _, after := _, guard := _ } : Oper) :: _) _ _); refine wpList_alloc_new rfl 56 rfl 34 _ zeroPeeled ?_; intro w2 b2 s2 l2; have z2 : Hid (w2.heap.size = w1.heap.size + 1) := s2; clear s2) | (go_at_call 65; refine (CC _).mono ?_; rintro e _ ⟨rfl, rfl⟩))
 have V1 : Hid (Below w.heap.size w w2 ∧ Blk w2 (w.heap.size) 23 (u8s own) ∧ Blk w2 (w1.heap.size) 56 (peelC (.slice none 0 0) (List.replicate 32 0) 0)) := ⟨(below_chain l1 l2 (by have := z1.out; have := z2.out; omega)), (b1.later l2 (by have := z1.out; have := z2.out; omega)), b2⟩
 clear l1 l2 b1 b2
 refine region_invP 6 ((.val (.agg (u8s own).toArray)) :: (.val (.agg (u8s own).toArray)) :: (.val (.agg (u8s sv).toArray)) :: (.val (.int .u64 rd)) :: (.val (.slice ao (M + 48) c)) :: (.any (isPl w2.heap.size M I kb B) (isPl_later _ _ _ _ _)) :: []) (by kernel_rfl) (by kernel_rfl) (by kernel_rfl) [] ⟨.inl rfl, .inl rfl, .inl rfl, .inl rfl, .inl rfl, .inl rfl, trivial⟩ (by kernel_rfl) ?_ ?_
 ·refine Steps'.cons ?_ (Steps'.cons ?_ (Steps'.cons ?_ (Steps'.cons ?_ (Steps'.cons ?_ (Steps'.cons ?_ (Steps'.one _ _ _ _ _ _ _))))))
  ·intro ax wx hb hs hd
   have h3 : ax.tmps.getD 3 undef = (.pointer (some ⟨w.heap.size, 0, none⟩)) := hs 3 (by kernel_rfl)
   exact Does.load 23 (.tmp 3) rfl _ 0 h3 (u8s own) _ ((V1.out.2.1.later hb V1.out.2.1.lt)).whole Tryz.underlying23 rfl (sizeU own HX.out.2.2)
  ·intro ax wx hb hs hd
   have h3 : ax.tmps.getD 3 undef = (.pointer (some ⟨w.heap.size, 0, none⟩)) := hs 3 (by kernel_rfl)
   exact Does.load 23 (.tmp 3) rfl _ 0 h3 (u8s own) _ ((V1.out.2.1.later hb V1.out.2.1.lt)).whole Tryz.underlying23 rfl (sizeU own HX.out.2.2)
  ·intro ax wx hb hs hd
   have h16 := vOf (hd 1 16 rfl (by kernel_rfl) (by decide))
   refine Does.call 39 #[.agg (u8s own).toArray] (by clear hs hd; go_simp) ?_
   refine (CB wx).mono ?_
   rintro z w' ⟨rfl, l⟩
   exact ⟨_, rfl, rfl, l⟩
  ·intro ax wx hb hs hd
   have h1 : ax.tmps.getD 1 undef = (.int .u64 rd) := hs 1 (by kernel_rfl)
   exact Does.value _ (by clear hs hd; go_simp) rfl
  ·intro ax wx hb hs hd
   have h2 : ax.tmps.getD 2 undef = (.slice ao (M + 48) c) := hs 2 (by kernel_rfl)
   exact Does.value _ (by clear hs hd; go_simp) rfl
  ·intro ax wx hb hs hd
   have h15 := vOf (hd 0 15 rfl (by kernel_rfl) (by decide))
   have h17 := vOf (hd 2 17 rfl (by kernel_rfl) (by decide))
   have h18 := vOf (hd 3 18 rfl (by kernel_rfl) (by decide))
   have h19 := vOf (hd 4 19 rfl (by kernel_rfl) (by decide))
   refine Does.call 69 #[.agg (u8s own).toArray, .agg (u8s sv).toArray, .int .u64 rd, .slice ao (M + 48) c] (by clear hs hd; go_simp) ?_
   refine (CT wx (HX.out.1.later (below_chain V1.out.1 hb V1.out.1.size) (Nat.le_refl _)) (HX.out.2.1.below (below_chain V1.out.1 hb V1.out.1.size) HX.out.2.1.lt)).mono ?_
   rintro z w' ⟨r, rfl, ho, l⟩
   obtain ⟨qo, qc, rfl⟩ := isO_form ho HI.out.1
   exact ⟨_, rfl, ⟨qo, qc, rfl, isO_base ho hb.size⟩, l⟩
 ·intro wx hb
  iterate 5 refine @EndsP.val _ _ _ _ _ _ _ _ _ rfl ?_
  refine @EndsP.any _ _ _ _ _ _ _ _ (isPl w2.heap.size M I kb B) (isPl_later _ _ _ _ _) rfl ?_
  intro v5 p5
  intro hD nf hn
  obtain ⟨qo, qc, rfl, hq5⟩ := p5
  obtain ⟨mf, rfl⟩ : ∃ mf, nf = mf + 2 := ⟨nf - 2, by have h3 : 2 ≤ nf := hn; omega⟩
  clear hD hn
  simp only [Act.put, sA, sB, sC]
  refine wpAny_ready (rs := [6]) (by kernel_rfl) (by simp) (AllReady.cons rfl (fun K hK => ?_) AllReady.nil)
  rw [if_pos (by rfl)]
  refine last_store 56 (.tmp 6) (.tmp 20) rfl rfl (w1.heap.size) rfl 56 _ (peelC (.slice qo M qc) kb B) rfl (V1.out.2.2.later hb V1.out.2.2.lt) (by rw [peelC_length _ _ _ HI.out.2]; rfl) (by rw [peelC_length _ _ _ HI.out.2]; exact sizePeeled) (peelC_one _ _ _ _ _) ?_
  intro w6 b6 s6 k6
  refine hK _ _ ?_
  clear hK K
  refine wpAny_ready (rs := [7]) (by kernel_rfl) (by simp) (AllReady.cons rfl (fun K hK => ?_) AllReady.nil)
  rw [if_pos (by rfl)]
  refine last_assign (.const (.int .i64 0)) rfl (some 7) rfl (.int .i64 0) rfl ?_
  refine hK _ _ ?_
  clear hK K
  simp only [Act.put, sA, sB, sC]
  refine wpAny_done (by kernel_rfl) (NoPanic.normal ?_) _
  have hlt : w1.heap.size < w2.heap.size := V1.out.2.2.lt
  have hw1 : w.heap.size ≤ w2.heap.size := V1.out.1.size
  have hwx := hb.size
  have hle : w.heap.size ≤ w1.heap.size := by have := z1.out; omega
  go_wp2_with fail
  exact ret_blkt rfl (w1.heap.size) (peelC (.slice qo M qc) kb B) _ _ rfl rfl b6 Tryz.underlying56 rfl (by rw [peelC_length _ _ _ HI.out.2]; exact sizePeeled) rfl ⟨qo, qc, rfl, isO_base (isO_kept hq5 k6 (fun k hk => by omega)) hw1, below_kept (below_chain V1.out.1 hb V1.out.1.size) k6 (by omega) (fun j hj => by omega)⟩
theorem answer_any (key : List Int) (rd : Int) (ao : Option Addr) (n c : Nat) (zs : List Int) (h1 : key.length = 32) (b1 : Bytes key) (hr : 0 ≤ rd ∧ rd < 18446744073709551616) (hn : n ≤ 1048576) (w : World) (hx : Seen w ao n zs) (hc : n ≤ c) :
  Calls Tryz.prog 37 #[.agg (u8s key).toArray, .int .u64 rd, .slice ao n c] w fun e w' => ∃ qo qc, e = .returned (.tuple #[.slice qo (n + 16) qc, .int .i64 0]) ∧ isO w.heap.size (n + 16) (ansL rd key zs) (.slice qo (n + 16) qc) w' ∧ Below w.heap.size w w' := by
 have CN := nonce_any 1 rd (by decide) hr
 obtain ⟨no, hno⟩ : ∃ q, lnonL 1 rd = q := ⟨_, rfl⟩
 rw [hno] at CN
 have HQ : Hid ((boxL key no [] zs).length = n + 16) := by show _ = _; rw [boxL_length, hx.len]
 have HA : Hid (ansL rd key zs = boxL key no [] zs ∧ key.length = 32) := ⟨by rw [ansL, hno], h1⟩
 rw [HA.out.1]
 have CS := fun (W : World) (hs : Seen W ao n zs) => seal_any key no 0 0 n c none ao [] zs h1 (by rw [← hno]; exact nonL_length _ _) b1 (by rw [← hno]; exact nonL_bytes _ _) (by decide) hn W (Seen.empty _ _) hs (Nat.le_refl _) hc
 have HX : Hid (Seen w ao n zs) := hx
 clear hx hc h1 b1 hr hn hno
 go_enter Tryz.func37, Tryz.ntmps37
 go_wp2_with (first | ((with_reducible show wpList _ _ _ (({ dst := some 3, op := _, type := _, pos := _, after := _, guard := _ } : Oper) :: _) _ _); refine wpList_box_new rfl 23 (.tmp 0) rfl (u8s key) rfl ?_; intro w1 b1 s1 l1; have z1 : Hid (w1.heap.size = w.heap.size + 1) := s1; clear s1))
 have V1 : Hid (Below w.heap.size w w1 ∧ Blk w1 (w.heap.size) 23 (u8s key)) := ⟨l1, b1⟩
 clear l1 b1
 refine region_invP 7 ((.val (.agg (u8s key).toArray)) :: (.val (.int .u64 rd)) :: (.val (.agg (u8s no).toArray)) :: (.val (.slice ao n c)) :: (.any (isT2o w1.heap.size (n + 16) (boxL key no [] zs)) (isT2o_later _ _ _)) :: (.any (isO1 w1.heap.size (n + 16) (boxL key no [] zs)) (isO1_later _ _ _)) :: (.val (.int .i64 0)) :: []) (by kernel_rfl) (by kernel_rfl) (by kernel_rfl) [] ⟨.inl rfl, .inl rfl, .inl rfl, .inl rfl, .inl rfl, .inl rfl, .inl rfl, trivial⟩ (by kernel_rfl) ?_ ?_
 ·refine Steps'.cons ?_ (Steps'.cons ?_ (Steps'.cons ?_ (Steps'.cons ?_ (Steps'.cons ?_ (Steps'.cons ?_ (Steps'.cons ?_ (Steps'.one _ _ _ _ _ _ _)))))))
  ·intro ax wx hb hs hd
   have h3 : ax.tmps.getD 3 undef = (.pointer (some ⟨w.heap.size, 0, none⟩)) := hs 3 (by kernel_rfl)
   exact Does.load 23 (.tmp 3) rfl _ 0 h3 (u8s key) _ ((V1.out.2.later hb V1.out.2.lt)).whole Tryz.underlying23 rfl (sizeU key HA.out.2)
  ·intro ax wx hb hs hd
   have h1 : ax.tmps.getD 1 undef = (.int .u64 rd) := hs 1 (by kernel_rfl)
   exact Does.value _ (by clear hs hd; go_simp) rfl
  ·intro ax wx hb hs hd
   have h9 := vOf (hd 1 9 rfl (by kernel_rfl) (by decide))
   refine Does.call 75 #[.int .u32 1, .int .u64 rd] (by clear hs hd; go_simp) ?_
   refine (CN wx).mono ?_
   rintro z w' ⟨rfl, l⟩
   exact ⟨_, rfl, rfl, l⟩
  ·intro ax wx hb hs hd
   have h2 : ax.tmps.getD 2 undef = (.slice ao n c) := hs 2 (by kernel_rfl)
   exact Does.value _ (by clear hs hd; go_simp) rfl
  ·intro ax wx hb hs hd
   have h8 := vOf (hd 0 8 rfl (by kernel_rfl) (by decide))
   have h10 := vOf (hd 2 10 rfl (by kernel_rfl) (by decide))
   have h11 := vOf (hd 3 11 rfl (by kernel_rfl) (by decide))
   refine Does.call 74 #[.agg (u8s key).toArray, .agg (u8s no).toArray, .slice none 0 0, .slice ao n c] (by clear hs hd; go_simp) ?_
   refine (CS wx (HX.out.later (below_chain V1.out.1 hb V1.out.1.size) (Nat.le_refl _))).mono ?_
   rintro z w' ⟨r, rfl, ho, l⟩
   obtain ⟨qo, qc, rfl⟩ := isO_form ho HQ.out
   exact ⟨_, rfl, ⟨qo, qc, rfl, isO_base ho hb.size⟩, l⟩
  ·intro ax wx hb hs hd
   obtain ⟨qo12, qc12, h12, hq12⟩ : isT2o w1.heap.size (n + 16) (boxL key no [] zs) (ax.tmps.getD 12 undef) wx := hd 4 12 rfl (by kernel_rfl) (by decide)
   exact Does.value (.slice qo12 (n + 16) qc12) (by clear hs hd; go_simp) ⟨_, _, rfl, hq12⟩
  ·intro ax wx hb hs hd
   obtain ⟨qo12, qc12, h12, hq12⟩ : isT2o w1.heap.size (n + 16) (boxL key no [] zs) (ax.tmps.getD 12 undef) wx := hd 4 12 rfl (by kernel_rfl) (by decide)
   exact Does.value (.int .i64 0) (by clear hs hd; go_simp) rfl
 ·intro wx hb
  iterate 4 refine @EndsP.val _ _ _ _ _ _ _ _ _ rfl ?_
  refine @EndsP.any _ _ _ _ _ _ _ _ (isT2o w1.heap.size (n + 16) (boxL key no [] zs)) (isT2o_later _ _ _) rfl ?_
  intro v4 p4
  refine @EndsP.any _ _ _ _ _ _ _ _ (isO1 w1.heap.size (n + 16) (boxL key no [] zs)) (isO1_later _ _ _) rfl ?_
  intro v5 p5
  refine @EndsP.val _ _ _ _ _ _ _ _ (.int .i64 0) rfl ?_
  intro hD nf hn
  obtain ⟨qo, qc, rfl, hq⟩ := p5
  obtain ⟨mf, rfl⟩ : ∃ mf, nf = mf + 2 := ⟨nf - 2, by have h3 : 2 ≤ nf := hn; omega⟩
  clear hD hn
  simp only [Act.put, sA, sB, sC]
  refine take_op 7 (some 6) (.slice qo (n + 16) qc) rfl rfl (by kernel_rfl) (by kernel_rfl) (by kernel_rfl) (fun _ _ _ h => h) (by rfl) (fun W' => by go_simp) ?_
  simp only [Act.put, sA, sB, sC]
  refine take_op 8 (some 7) (.int .i64 0) rfl rfl (by kernel_rfl) (by kernel_rfl) (by kernel_rfl) (fun _ _ _ h => h) (by rfl) (fun W' => by go_simp) ?_
  simp only [Act.put, sA, sB, sC]
  refine wpAny_done (by kernel_rfl) (NoPanic.normal ?_) _
  go_wp2_with fail
  go_ret2
  exact ⟨qo, qc, rfl, isO_base hq V1.out.1.size, below_chain V1.out.1 hb V1.out.1.size⟩
theorem answer_bad (key : List Int) (rd : Int) (ao : Option Addr) (n c : Nat) (h1 : key.length = 32) (hr : 0 ≤ rd ∧ rd < 18446744073709551616) (hn : n ≤ 140737488355328) (hb : 1048576 < n) (w : World) :
  Calls Tryz.prog 37 #[.agg (u8s key).toArray, .int .u64 rd, .slice ao n c] w fun e w' => e = .returned (.tuple #[.slice none 0 0, .int .i64 3]) ∧ Below w.heap.size w w' := by
 have CN := nonce_any 1 rd (by decide) hr
 obtain ⟨no, hno⟩ : ∃ q, lnonL 1 rd = q := ⟨_, rfl⟩
 rw [hno] at CN
 have HA : Hid (True ∧ key.length = 32) := ⟨trivial, h1⟩
 have CS := seal_bad key no 0 0 n c none ao (by decide) hn (.inr hb)
 clear h1 hr hn hb hno
 go_enter Tryz.func37, Tryz.ntmps37
 go_wp2_with (first | ((with_reducible show wpList _ _ _ (({ dst := some 3, op := _, type := _, pos := _, after := _, guard := _ } : Oper) :: _) _ _); refine wpList_box_new rfl 23 (.tmp 0) rfl (u8s key) rfl ?_; intro w1 b1 s1 l1; have z1 : Hid (w1.heap.size = w.heap.size + 1) := s1; clear s1))
 have V1 : Hid (Below w.heap.size w w1 ∧ Blk w1 (w.heap.size) 23 (u8s key)) := ⟨l1, b1⟩
 clear l1 b1
 refine region_invP 7 ((.val (.agg (u8s key).toArray)) :: (.val (.int .u64 rd)) :: (.val (.agg (u8s no).toArray)) :: (.val (.slice ao n c)) :: (.val (.tuple #[.slice none 0 0, .int .i64 3])) :: (.val (.slice none 0 0)) :: (.val (.int .i64 3)) :: []) (by kernel_rfl) (by kernel_rfl) (by kernel_rfl) [] ⟨.inl rfl, .inl rfl, .inl rfl, .inl rfl, .inl rfl, .inl rfl, .inl rfl, trivial⟩ (by kernel_rfl) ?_ ?_
 ·refine Steps'.cons ?_ (Steps'.cons ?_ (Steps'.cons ?_ (Steps'.cons ?_ (Steps'.cons ?_ (Steps'.cons ?_ (Steps'.cons ?_ (Steps'.one _ _ _ _ _ _ _)))))))
  ·intro ax wx hb hs hd
   have h3 : ax.tmps.getD 3 undef = (.pointer (some ⟨w.heap.size, 0, none⟩)) := hs 3 (by kernel_rfl)
   exact Does.load 23 (.tmp 3) rfl _ 0 h3 (u8s key) _ ((V1.out.2.later hb V1.out.2.lt)).whole Tryz.underlying23 rfl (sizeU key HA.out.2)
  ·intro ax wx hb hs hd
   have h1 : ax.tmps.getD 1 undef = (.int .u64 rd) := hs 1 (by kernel_rfl)
   exact Does.value _ (by clear hs hd; go_simp) rfl
  ·intro ax wx hb hs hd
   have h9 := vOf (hd 1 9 rfl (by kernel_rfl) (by decide))
   refine Does.call 75 #[.int .u32 1, .int .u64 rd] (by clear hs hd; go_simp) ?_
   refine (CN wx).mono ?_
   rintro z w' ⟨rfl, l⟩
   exact ⟨_, rfl, rfl, l⟩
  ·intro ax wx hb hs hd
   have h2 : ax.tmps.getD 2 undef = (.slice ao n c) := hs 2 (by kernel_rfl)
   exact Does.value _ (by clear hs hd; go_simp) rfl
  ·intro ax wx hb hs hd
   have h8 := vOf (hd 0 8 rfl (by kernel_rfl) (by decide))
   have h10 := vOf (hd 2 10 rfl (by kernel_rfl) (by decide))
   have h11 := vOf (hd 3 11 rfl (by kernel_rfl) (by decide))
   refine Does.call 74 #[.agg (u8s key).toArray, .agg (u8s no).toArray, .slice none 0 0, .slice ao n c] (by clear hs hd; go_simp) ?_
   refine (CS wx).mono ?_
   rintro z w' ⟨rfl, l⟩
   exact ⟨_, rfl, rfl, l⟩
  ·intro ax wx hb hs hd
   have h12 := vOf (hd 4 12 rfl (by kernel_rfl) (by decide))
   exact Does.value (.slice none 0 0) (by clear hs hd; go_simp) rfl
  ·intro ax wx hb hs hd
   have h12 := vOf (hd 4 12 rfl (by kernel_rfl) (by decide))
   exact Does.value (.int .i64 3) (by clear hs hd; go_simp) rfl
 ·intro wx hb
  iterate 7 refine @EndsP.val _ _ _ _ _ _ _ _ _ rfl ?_
  intro hD nf hn
  obtain ⟨mf, rfl⟩ : ∃ mf, nf = mf + 2 := ⟨nf - 2, by have h3 : 2 ≤ nf := hn; omega⟩
  clear hD hn
  simp only [Act.put, sA, sB, sC]
  refine take_op 7 (some 6) (.slice none 0 0) rfl rfl (by kernel_rfl) (by kernel_rfl) (by kernel_rfl) (fun _ _ _ h => h) (by rfl) (fun W' => by go_simp) ?_
  simp only [Act.put, sA, sB, sC]
  refine take_op 8 (some 7) (.int .i64 3) rfl rfl (by kernel_rfl) (by kernel_rfl) (by kernel_rfl) (fun _ _ _ h => h) (by rfl) (fun W' => by go_simp) ?_
  simp only [Act.put, sA, sB, sC]
  refine wpAny_done (by kernel_rfl) (NoPanic.normal ?_) _
  go_wp2_with fail
  go_ret2
  exact ⟨rfl, below_chain V1.out.1 hb V1.out.1.size⟩
structure KeysS (w : World) (ao : Option Addr) (n : Nat) (kss : List (List Int)) : Prop where
 len : kss.length = n
 good : ∀ i, i < n → (kss.getD i []).length = 32 ∧ Bytes (kss.getD i [])
 cells : ∀ i, i < n → ∃ b o, ao = some ⟨b, o, none⟩ ∧ b < w.heap.size ∧ w.rangeAt b (o + i * 32) (u8s (kss.getD i []))
theorem KeysS.later {w w' : World} {ao : Option Addr} {n : Nat} {kss : List (List Int)} (h : KeysS w ao n kss) (hb : Below w.heap.size w w') : KeysS w' ao n kss :=
 ⟨h.len, h.good, fun i hi => by
  obtain ⟨b, o, h1, h2, h3⟩ := h.cells i hi
  exact ⟨b, o, h1, by have := hb.size; omega, rangeAt_below h3 hb h2⟩⟩
def ySl (n : Nat) (zs : List Int) (v : Value) (w : World) : Prop := ∃ ao c, v = .slice ao n c ∧ Seen w ao n zs ∧ n ≤ c
theorem ySl_own {B n : Nat} {zs : List Int} {v : Value} {w : World} (hn : zs.length = n) (hb : Bytes zs) (ht : n ≤ 140737488355328) (h : isO B n zs v w) : ySl n zs v w := by
 obtain ⟨ao, c, h1, h2, h3, _⟩ := isB_own hn hb ht h
 exact ⟨ao, c, h1, h2, h3⟩
theorem zeroNonY : (Tryz.prog.info? 92).map (fun i => (i.zero, i.size)) = some (some (.agg (u8s (List.replicate 12 0)).toArray), 12) := by kernel_rfl
theorem sizeNonY (l : List Int) (h : l.length = 12) : (Tryz.prog.info? 92).map (·.size) = some (u8s l).length := by rw [u8s_length, h]; kernel_rfl
theorem unwrap_any (kss : List (List Int)) (rd : Int) (ko : Option Addr) (n kc : Nat) (ao : Option Addr) (m c : Nat) (z : List Int) (hn : 1 ≤ n ∧ n ≤ 8) (hr : 0 ≤ rd ∧ rd < 18446744073709551616) (hm : m = z.length + 16 * n) (hz : z.length + 16 * n ≤ 1048592) (hzb : Bytes z) (w : World) (hk : KeysS w ko n kss) (hx : Seen w ao m (anssL rd kss z)) (hc : m ≤ c) :
  Calls Tryz.prog 38 #[.slice ko n kc, .int .u64 rd, .slice ao m c] w fun e w' => ∃ vo vc, e = .returned (.tuple #[.slice vo z.length vc, .int .i64 0]) ∧ Seen w' vo z.length z ∧ z.length ≤ vc ∧ Below w.heap.size w w' := by
 have CM := mayServe_any n (by omega)
 rw [show decide (1 ≤ n ∧ n ≤ 8) = true by simp; omega] at CM
 have CN := nonce_any 1 rd (by decide) hr
 obtain ⟨no, hno⟩ : ∃ q, lnonL 1 rd = q := ⟨_, rfl⟩
 rw [hno] at CN
 have HN : Hid (no.length = 12 ∧ Bytes no ∧ lnonL 1 rd = no) := ⟨by rw [← hno]; exact nonL_length _ _, by rw [← hno]; exact nonL_bytes _ _, hno⟩
 have HX : Hid (KeysS w ko n kss ∧ Seen w ao m (anssL rd kss z) ∧ m ≤ c ∧ m = z.length + 16 * n ∧ z.length + 16 * n ≤ 1048592 ∧ Bytes z) := ⟨hk, hx, hc, hm, hz, hzb⟩
 have hn1 := hn.1
 have hn8 := hn.2
 clear hn hr hm hz hzb hk hx hc hno
 go_enter Tryz.func38, Tryz.ntmps38
 go_wp2_with (first | (go_at_call 60; refine (CM _).mono ?_; rintro e _ ⟨rfl, rfl⟩) | (go_at_call 75; refine (CN _).mono ?_; rintro e w1 ⟨rfl, l1⟩) | (refine wpList_alloc_new rfl 92 rfl 12 _ zeroNonY ?_; intro w2 b2 s2 l2) | (refine wpList_store_blk rfl 92 92 _ _ rfl _ rfl _ (u8s no) rfl b2 (by rw [u8s_length, u8s_length, HN.out.1]; rfl) (sizeNonY no HN.out.1) (u8s_one _) ?_; intro w3 b3 s3 k3))
 have V0 : Hid (Below w.heap.size w w3 ∧ Blk w3 w1.heap.size 92 (u8s no) ∧ w.heap.size ≤ w1.heap.size ∧ w1.heap.size < w3.heap.size) := by
  have := l1.size
  exact ⟨below_kept (below_chain l1 l2 (by omega)) k3 (by omega) (fun j hj => by omega), b3, by omega, by omega⟩
 clear l1 b2 s2 l2 b3 s3 k3
 go_loopw [8, 23] (fun v i wr => ∃ k : Nat, k ≤ n ∧ i = .int .i64 k ∧ ySl (z.length + 16 * (n - k)) (anssL rd (kss.drop k) z) v wr ∧ Blk wr w1.heap.size 92 (u8s no) ∧ Below w.heap.size w wr) (fun _ i _ => n - (intOf i).toNat)
 case atStart => exact ⟨0, Nat.zero_le _, rfl, ⟨ao, c, by rw [HX.out.2.2.2.1]; rfl, by have := HX.out.2.1.later V0.out.1 (Nat.le_refl _); rw [HX.out.2.2.2.1] at this; exact this, by have := HX.out.2.2.1; have := HX.out.2.2.2.1; omega⟩, V0.out.2.1, V0.out.1⟩
 case round =>
  obtain ⟨k, hk, rfl, hv, hb, hbel⟩ := hrel
  obtain ⟨vo, vc, rfl, hvs, hvc⟩ := hv
  by_cases hlt : k < n
  ·obtain ⟨b, o, rfl, hbl, hrg⟩ := HX.out.1.cells k hlt
   obtain ⟨kg, kb⟩ := HX.out.1.good k hlt
   obtain ⟨K, hK⟩ : ∃ q, kss.getD k [] = q := ⟨_, rfl⟩
   rw [hK] at hrg kg kb
   have hD : kss.drop k = K :: kss.drop (k + 1) := by
    have hl : k < kss.length := by rw [HX.out.1.len]; exact hlt
    rw [List.drop_eq_getElem_cons hl, ← hK]
    simp [List.getD, hl]
   obtain ⟨T, hT⟩ : ∃ q, anssL rd (kss.drop (k + 1)) z = q := ⟨_, rfl⟩
   have hTl : T.length = z.length + 16 * (n - (k + 1)) := by rw [← hT, anssL_length, List.length_drop, HX.out.1.len]
   have hTb : Bytes T := by rw [← hT]; exact anssL_bytes _ _ HX.out.2.2.2.2.2
   have hA : anssL rd (kss.drop k) z = boxL K no [] T := by rw [hD, anssL, hT, ansL, HN.out.2.2]
   rw [hA] at hvs
   obtain ⟨L, hL⟩ : ∃ q, z.length + 16 * (n - k) = q := ⟨_, rfl⟩
   rw [hL] at hvs hvc ⊢
   have hz5 := HX.out.2.2.2.2.1
   have HO : Hid (∀ W, Seen W vo L (boxL K no [] T) → Calls Tryz.prog 76 #[.agg (u8s K).toArray, .agg (u8s no).toArray, .slice none 0 0, .slice vo L vc] W fun e w' => ∃ v, e = .returned (.tuple #[v, .int .i64 0]) ∧ isO W.heap.size (L - 16) T v w' ∧ Below W.heap.size W w') := fun W hs => by
    have q := open_yes K no 0 0 L vc none vo [] (boxL K no [] T) kg HN.out.1 kb HN.out.2.1 (by omega) (by omega) (by decide) W (Seen.empty _ _) hs (Nat.le_refl _) hvc (opens_box _ _ _)
    rw [text_box _ _ _ hTb] at q
    exact q
   have HB : Hid (Below w.heap.size w wr ∧ Blk wr w1.heap.size 92 (u8s no) ∧ Seen wr vo L (boxL K no [] T) ∧ wr.rangeAt b (o + k * 32) (u8s K) ∧ K.length = 32 ∧ L - 16 = z.length + 16 * (n - (k + 1)) ∧ T.length = L - 16 ∧ Bytes T ∧ anssL rd (kss.drop (k + 1)) z = T ∧ L ≤ 1048592) := ⟨hbel, hb, hvs, rangeAt_below hrg hbel hbl, kg, by omega, by omega, hTb, hT, by omega⟩
   have i1 : (0 : Int) ≤ (k : Int) := by omega
   have i2 : (k : Int) < (n : Int) := by omega
   clear hbl hrg kg kb hK hD hT hTl hTb hA hvs hvc hL hz5 hb hbel
   go_wp2_with (first | (refine wpList_load_mid rfl 23 (.tmp 25) rfl b (o + k * 32) rfl (u8s K) _ HB.out.2.2.2.1 Tryz.underlying23 rfl (sizeU K HB.out.2.2.2.2.1) ?_) | (refine wpList_alloc_new rfl 23 rfl 32 _ zeroKey ?_; intro w4 b4 s4 l4) | (refine wpList_store_blk rfl 23 23 (.tmp 11) _ rfl _ rfl _ (u8s K) rfl b4 (lenU _ _ HB.out.2.2.2.2.1 len0) (sizeU K HB.out.2.2.2.2.1) (u8s_one _) ?_; intro w5 b5 s5 k5) | (refine wpList_load_blk rfl 23 (.tmp 11) rfl _ rfl (u8s K) _ b5 Tryz.underlying23 rfl (sizeU K HB.out.2.2.2.2.1) ?_) | (refine wpList_load_blk rfl 92 (.tmp 9) rfl _ rfl (u8s no) _ ((HB.out.2.1.later l4 HB.out.2.1.lt).kept k5 (by have := HB.out.2.1.lt; omega)) Tryz.underlying92 rfl (sizeNonY no HN.out.1) ?_))
   have U5 : Hid (Below wr.heap.size wr w5) := below_kept l4 k5 (by omega) (fun j hj => by omega)
   refine (HO.out w5 (HB.out.2.2.1.later U5.out (Nat.le_refl _))).mono ?_
   rintro e w6 ⟨v6, rfl, o6, l6⟩
   obtain ⟨xo, xc, rfl, sx, hxc⟩ := ySl_own HB.out.2.2.2.2.2.2.1 HB.out.2.2.2.2.2.2.2.1 (by have := HB.out.2.2.2.2.2.2.2.2.2; omega) o6
   have U6 : Hid (Below wr.heap.size wr w6) := below_chain U5.out l6 U5.out.size
   have R : Hid (ySl (z.length + 16 * (n - (k + 1))) (anssL rd (kss.drop (k + 1)) z) (.slice xo (L - 16) xc) w6 ∧ Blk w6 w1.heap.size 92 (u8s no) ∧ Below w.heap.size w w6) := by
    refine ⟨?_, HB.out.2.1.later U6.out HB.out.2.1.lt, below_chain HB.out.1 U6.out HB.out.1.size⟩
    rw [HB.out.2.2.2.2.2.2.2.2.1, ← HB.out.2.2.2.2.2.1]
    exact ⟨xo, xc, rfl, sx, hxc⟩
   clear o6 l6 sx hxc U5 U6 b4 s4 l4 b5 s5 k5
   go_wp2
   go_roundw
   case rel => exact ⟨k + 1, by omega, by go_num, R.out.1, R.out.2.1, R.out.2.2⟩
   case measure => simp [intOf] <;> omega
  ·obtain rfl : k = n := by omega
   rw [Nat.sub_self, Nat.mul_zero, Nat.add_zero] at hvs hvc
   rw [Nat.sub_self, Nat.mul_zero, Nat.add_zero]
   rw [List.drop_of_length_le (by rw [HX.out.1.len]; exact Nat.le_refl _), anssL] at hvs
   have i2 : ¬ ((k : Int) < (k : Int)) := by omega
   have HE : Hid (Seen wr vo z.length z ∧ z.length ≤ vc ∧ Below w.heap.size w wr) := ⟨hvs, hvc, hbel⟩
   clear hvs hvc hbel hb
   go_wp2
   go_ret2
   exact ⟨vo, vc, rfl, HE.out⟩
theorem leaving_of {a : Assume} {C : Checked} {os : Os} {f : FuncId} {r : Reach} {Pre : World → Array Value → Prop} {Post : World → Array Value → Value → World → Prop} (h : ReturnsInHanded a C os f r Pre Post) : ReturnsInLeavingWide a C os f r Pre Post :=
 fun enter => ReturnsInOpen.mono (fun _ _ _ x => ⟨x.2.1, onlyLeaving_of_quiet x.1, x.2.2⟩) (fun _ x => x) (h enter)
theorem cellsByte : Tryz.prog.cellsOf 5 = 1 := by kernel_rfl
theorem cellsKey : Tryz.prog.cellsOf 23 = 32 := by kernel_rfl
def unByte : Value → Int
 | .int _ z => z
 | _ => 0
theorem bytes_arr {H : Type} {enc : TypeId × Value → H} {W : World} {base : Nat} {sp : Nat → Bool} {held : Bool} {fuel n : Nat} {t : TypeId} {cs : List Value} {x : DataW H × List MemPlace} (ht : Tryz.prog.underlying t = some (.array n 5)) (hn : Tryz.prog.cellsOf t = n)
  (h : DataW.trod enc Tryz.prog W base sp held fuel t cs = some x) : ∃ zs : List Int, cs = u8s zs ∧ zs.length = n ∧ Bytes zs := by
 obtain ⟨xs, m, _, _, hlen, hxl, hf⟩ := DataW.trod_array ht h
 have hc : cs.length = n := hlen.trans hn
 have key : ∀ i, (hi : i < cs.length) → ∃ z, cs[i] = .int .u8 z ∧ 0 ≤ z ∧ z < 256 := by
  intro i hi
  have h1 := hf i (by omega)
  rw [cellsByte, Nat.mul_one, List.getElem?_eq_getElem (by omega)] at h1
  obtain ⟨z, hz, _, hw⟩ := DataW.trod_int Tryz.underlying5 h1
  refine ⟨z, ?_, byte_of_wf hw⟩
  rw [List.drop_eq_getElem_cons hi, List.take_succ_cons, List.take_zero] at hz
  exact (List.cons.inj hz).1
 refine ⟨cs.map unByte, ?_, by simpa using hc, ?_⟩
 ·apply List.ext_getElem
  ·simp [u8s]
  ·intro i h1 h2
   obtain ⟨z, hz, _⟩ := key i h1
   simp [u8s, hz, unByte]
 ·intro z hz
  obtain ⟨v, hv, rfl⟩ := List.mem_map.1 hz
  obtain ⟨i, hi, rfl⟩ := List.mem_iff_getElem.1 hv
  obtain ⟨z, hz, hb⟩ := key i hi
  rw [hz]; exact hb
theorem bytesOfB : Tryz.prog.bytesOf 5 = 1 := by kernel_rfl
theorem bytesOfK : Tryz.prog.bytesOf 23 = 32 := by kernel_rfl
theorem cellsOfKs : Tryz.prog.cellsOf 31 = 1 := by kernel_rfl
theorem cellsOfU : Tryz.prog.cellsOf 24 = 1 := by kernel_rfl
theorem cellsOfL : Tryz.prog.cellsOf 32 = 1 := by kernel_rfl
theorem add_atY (b o j : Nat) : (⟨b, o, none⟩ : Addr).add j = ⟨b, o + j, none⟩ := Addr.add_mid b o j
theorem u64_of_wf {x : Int} (h : (Lit.int .u64 x).wf = true) : 0 ≤ x ∧ x < 18446744073709551616 := by
 simp [Lit.wf, IntKind.min, IntKind.max, IntKind.signed, IntKind.bits] at h
 omega
theorem bytes_in {H : Type} {enc : TypeId × Value → H} {W : World} {fuel : Nat} {v : Value} {y : DataW H × List MemPlace} (h : DataW.trod enc Tryz.prog W 0 (fun _ => true) true fuel 32 [v] = some y)
  (hs : ∀ n ∈ y.1.weights Tryz.prog 32, n ≤ reachBytes) : ∃ (so : Option Addr) (n c : Nat) (zs : List Int), v = .slice so n c ∧ Seen W so n zs ∧ n ≤ 140737488351232 ∧ (so = none → c = 0) ∧ n ≤ c := by
 rcases open_ints Tryz.underlying32 Tryz.underlying5 (by kernel_rfl) h with ⟨hcs, _⟩ | ⟨x, l, c, zs, hcs, _, hl, hm, hz, hx, hcell, hwz⟩
 ·simp at hcs
  subst hcs
  exact ⟨none, 0, 0, [], rfl, Seen.empty _ _, by decide, fun _ => rfl, Nat.le_refl _⟩
 ·simp at hcs
  subst hcs
  have hz' : zs.length = c := by simpa using hz
  have h1 := hs (((lits (H := H) .u8 (zs.take l)).length + (lits (H := H) .u8 (zs.drop l)).length) * Tryz.prog.bytesOf 5) (by rw [hx]; simp [DataW.weights, Tryz.underlying32])
  rw [bytesOfB] at h1
  simp only [lits, List.length_map, List.length_take, List.length_drop, reachBytes] at h1
  exact ⟨some x, l, c, _, rfl, Seen.of_ints (by omega) hl hz' hcell hwz, by omega, (fun h => by cases h), hl⟩
theorem keys_in {H : Type} {enc : TypeId × Value → H} {W : World} {fuel : Nat} {v : Value} {y : DataW H × List MemPlace} (h : DataW.trod enc Tryz.prog W 0 (fun _ => true) true fuel 31 [v] = some y)
  (hs : ∀ n ∈ y.1.weights Tryz.prog 31, n ≤ reachBytes) : ∃ ao n c kss, v = .slice ao n c ∧ KeysS W ao n kss ∧ n ≤ 140737488355328 ∧ (ao = none → c = 0) ∧ n ≤ c := by
 rcases open_slice Tryz.underlying31 h with ⟨hcs, hx⟩ | h
 ·simp at hcs
  subst hcs
  exact ⟨none, 0, 0, [], rfl, ⟨rfl, fun i hi => by omega, fun i hi => by omega⟩, by decide, fun _ => rfl, Nat.le_refl _⟩
 ·obtain ⟨a, len, cap, m, nn, D, Pl, hcs, _, hl, hm, hmm, hx, hcell⟩ := h
  simp at hcs
  subst hcs
  rw [cellsKey] at hcell
  have hmm' : m = cap := by simpa using hmm
  have hlen : len ≤ 140737488355328 := by
   have h1 := hs ((((List.range len).map D).length + ((List.range (m - len)).map fun j => D (len + j)).length) * Tryz.prog.bytesOf 23) (by rw [hx]; simp [DataW.weights, Tryz.underlying31])
   rw [bytesOfK] at h1
   simp only [List.length_map, List.length_range, reachBytes] at h1
   omega
  obtain ⟨f, hf⟩ := choose_lt (n := len) (p := fun i (zs : List Int) => W.cells? 0 (a.add (i * 32)) 32 = some (u8s zs) ∧ zs.length = 32 ∧ Bytes zs) (fun i hi => by
   obtain ⟨cs', h1, h2⟩ := hcell i (by omega)
   obtain ⟨zs, rfl, h3⟩ := bytes_arr Tryz.underlying23 cellsKey h2
   exact ⟨zs, h1, h3⟩)
  have hgz : ∀ i, i < len → ((List.range len).map f).getD i [] = f i := fun i hi => by simp [List.getD, hi]
  refine ⟨some a, len, cap, (List.range len).map f, rfl, ⟨by simp, fun i hi => ?_, fun i hi => ?_⟩, hlen, (fun h => by cases h), hl⟩
  ·rw [hgz i hi]; exact (hf i hi).2
  ·obtain ⟨b, off, spot⟩ := a
   obtain ⟨h1, h2, h3⟩ := hf i hi
   obtain ⟨g1, g2, g3⟩ := hf 0 (by omega)
   have hc0 := (World.cells?_some g1).2.2 0 (by decide)
   have hspot : spot = none := by
    have e0 : (u8s (f 0))[0]? = some (.int .u8 ((f 0).getD 0 0)) := by simp [u8s, List.getD, show 0 < (f 0).length by omega]
    have : W.cell? ⟨b, off, spot⟩ = some (.int .u8 ((f 0).getD 0 0)) := by rw [← e0]; simpa [Addr.add] using hc0
    exact World.cell?_spot this
   subst hspot
   have hcs := (World.cells?_some h1).2.2
   rw [hgz i hi]
   have k0 := hcs 0 (by decide)
   have key : ∀ j, j < 32 → W.cell? ⟨b, off + i * 32 + j, none⟩ = (u8s (f i))[j]? := fun j hj => by
    have k := hcs j hj
    rw [add_atY, add_atY] at k
    exact k
   have k0' := key 0 (by decide)
   refine ⟨b, off, rfl, ?_, fun j u hu => ?_⟩
   ·have e0 : (u8s (f i))[0]? = some (.int .u8 ((f i).getD 0 0)) := by simp [u8s, List.getD, show 0 < (f i).length by omega]
    exact World.block_lt_of_cell? _ _ (k0'.trans e0)
   ·have hj : j < 32 := by
     have := (List.getElem?_eq_some_iff.1 hu).1
     rw [u8s_length] at this; omega
    exact (key j hj).trans hu
theorem weights_first {H : Type} {t : TypeId} {d : DataW H} (h : (DataW.weightsEach Tryz.prog [t] [d]).all (· ≤ reachBytes) = true) : ∀ n ∈ d.weights Tryz.prog t, n ≤ reachBytes := fun n hn => by
 have := List.all_eq_true.1 h n (DataW.weights_mem_each (j := 0) (t := t) rfl rfl n hn)
 simpa using this
abbrev laidK : List (String × DataW Unit) := [("tryst/digest.roundWords", Rows.laid_tryst_digest_roundWords)]
theorem gK : Tryz.prog.globalNamed "tryst/digest.roundWords" = some 0 := by kernel_rfl
theorem tK : (Tryz.prog.globals[0]?).map (·.type) = some 282 := by kernel_rfl
theorem cellsU32 : Tryz.prog.cellsOf 94 = 1 := by kernel_rfl
theorem cellsA64w : Tryz.prog.cellsOf 282 = 64 := by kernel_rfl
theorem door_met (os : Os) (args : Array Value) : laidMetH Tryz.prog laidK ((World.doorLaid Tryz.prog 14 os).forCall (fun _ _ => 0) ⟨#[], args, []⟩).memory :=
 laidMetH_of_parts3 (fuel := 8) (laidMet_of_run' 8 (by kernel_rfl) (by kernel_rfl)) (by kernel_rfl) (by kernel_rfl)
theorem ktab_of_laid {W : World} (h : laidMetH Tryz.prog laidK W) : KTab W := by
 rw [MakeChecks.laidMetH_plain _ _ _ (by kernel_rfl)] at h
 have hT : Lib.TabIs Tryz.prog W "tryst/digest.roundWords" .u32 kWords := Lib.tabIs_of_head (rest := []) gK tK Tryz.underlying282 Tryz.underlying94 cellsU32 cellsA64w h
 intro i hi
 exact hT.cell gK i hi
theorem tied_goes {p : Pinned} {s : OpenSpec} {c : OpenClaim} (kinds : List LaidKind) (tests : Bool) (har : Bool × String) (lk : Bool)
  (hc : c.holds p s) (hw : c.wfByText s = true) (htie : c.laidByTextAt .later p kinds tests)
  (hst : c.start = .entering) (hnb : c.noBlocks = false ∧ c.again = false) (hm : p.checked.prog.mainIs = some (har.1, har.2.toList)) (hn : (!har.1 && har.2.isEmpty && !lk) = false)
  (hl : ∀ f fn, p.checked.prog.funcNamed c.func = some f → p.checked.prog.funcs[f]? = some fn → lk = p.checked.prog.looks [] ∧ ∀ (j : Nat) t, fn.params[j]? = some t → p.checked.prog.wantsStandIn t = false)
  (hg : true = c.goesBy p.checked.prog) :
  Claim7.holds p (.plain s) { stood := { row := c, standIns := [], harness := har, looks := lk }, kinds := [], alts := [], goes := true, laidByText := true, laidKinds := kinds, laidTests := tests, laidLooks := .later } := by
 have h6 : ∀ r : OpenClaim, Claim7.isSixth { stood := { row := r, standIns := [], harness := har, looks := lk }, kinds := [] } = false := fun r => by simpa [Claim7.isSixth] using hn
 exact ⟨Claim7.tied_new_at .later kinds tests (Claim7.new_of_sixth hc har lk hst hnb hm (h6 c) hl) hw, (fun D hD => by cases hD), htie, (fun h => by cases h), hg⟩
end Go.Proofs.YthlbjkfjkggdoaaGreatDoor
