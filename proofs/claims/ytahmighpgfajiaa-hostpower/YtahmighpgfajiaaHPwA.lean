/- HostPower: the walk where the power goes ahead of each operation, over the bytes that came in. -/
import Derived.Test.YtahmighpgfajiaaHPwT
import Derived.Test.YtahmighpgfajiaaDCopy
namespace Go.Proofs.Ytahmighpgfajiaa
open Go.RowKit
set_option linter.unusedVariables false
set_option linter.unusedSimpArgs false

set_option maxRecDepth 20000 in
set_option maxHeartbeats 8000000 in
theorem pw_a (ao : Option Addr) (n c : Nat) (zs : List Int) (v : Int) (w : World) (hx : Seen w ao n zs) (hv : Word v) (hn : 1 ≤ n ∧ n ≤ 4124) :
    Calls Try.prog 7 #[.slice ao n c, .int .u64 v, .bool false] w fun e w' => e = .returned (.bool true) ∧ Below w.heap.size w w' := by
  have X : Hid (Seen w ao n zs ∧ Word v) := ⟨hx, hv⟩
  have ht := hx.top
  have A : Hid (∀ zs : List Int, ((pw1 3 n zs).down = true ∧ (pw1 3 n zs).ops = 1 ∧ (pw3 3 n zs v).ops = 2 ∧ (pw5 3 n zs v).ops = 3 ∧ (pw8 3 n zs v).ops = 5)) := fun zs => by
    have q := a_opE n zs v
    exact ⟨q.2.1, q.2.2.1, q.2.2.2.2.1, q.2.2.2.2.2.2.2.1, q.2.2.2.2.2.2.2.2.2.2.1⟩
  have bf := fun a => build_fl a 3
  have b3 : ∀ w, (Instr.buildSlice 22 3 #[(0, .agg (flC ⟨0, 3, 0, 0, 0, 0⟩).toArray), (1, .agg (flC ⟨1, 3, 0, 0, 0, 0⟩).toArray), (2, .agg (flC ⟨2, 3, 0, 0, 0, 0⟩).toArray)]).run Try.prog w = .ok (.slice (some ⟨w.heap.size, 0, none⟩) 3 3) (w.alloc (.cells ((pwF 3).flatMap flC).toArray 55)) := build3_fl ⟨0, 3, 0, 0, 0, 0⟩ ⟨1, 3, 0, 0, 0, 0⟩ ⟨2, 3, 0, 0, 0, 0⟩
  clear hx hv
  obtain ⟨hn1, hn2⟩ := hn
  have q0 : ((n : Int) == 0) = false := by simp; omega
  have q1 : ¬ (4124 : Int) < (n : Int) := by omega
  have q2 : (n : Int) ≤ 4124 := by omega
  · skip
    go_enter Try.func7, Try.ntmps7
    go_wp2_with fail
    refine (awake_any w).mono ?_
    rintro e w1 ⟨rfl, l1⟩
    have U1 : Hid (Below w.heap.size w w1) := l1
    clear l1
    go_wp2_with (first | ((with_reducible show wpList _ _ _ (({ dst := some 31, op := _, type := _, pos := _, after := _, guard := _ } : Oper) :: _) _ _); refine wpList_build rfl 55 _ rfl #[(0, .int .i64 0), (1, .int .i64 3)] (by simp [Act.eval, Act.put]) _ (bf 0 _) ?_) | ((with_reducible show wpList _ _ _ (({ dst := some 33, op := _, type := _, pos := _, after := _, guard := _ } : Oper) :: _) _ _); refine wpList_build rfl 55 _ rfl #[(0, .int .i64 1), (1, .int .i64 3)] (by simp [Act.eval, Act.put]) _ (bf 1 _) ?_) | ((with_reducible show wpList _ _ _ (({ dst := some 35, op := _, type := _, pos := _, after := _, guard := _ } : Oper) :: _) _ _); refine wpList_build rfl 55 _ rfl #[(0, .int .i64 2), (1, .int .i64 3)] (by simp [Act.eval, Act.put]) _ (bf 2 _) ?_) | ((with_reducible show wpList _ _ _ (({ dst := some 36, op := _, type := _, pos := _, after := _, guard := _ } : Oper) :: _) _ _); refine wpList_bs rfl 22 3 _ rfl #[(0, .agg (flC ⟨0, 3, 0, 0, 0, 0⟩).toArray), (1, .agg (flC ⟨1, 3, 0, 0, 0, 0⟩).toArray), (2, .agg (flC ⟨2, 3, 0, 0, 0, 0⟩).toArray)] (by simp [Act.eval, Act.put]) _ _ (b3 _) ?_))
    obtain ⟨w2, hw2⟩ : ∃ q, w1 = q := ⟨_, rfl⟩
    rw [hw2]
    have V2 : Hid (Seen w2 ao n zs ∧ Below w.heap.size w w2 ∧ (∀ b o, 0 < n → ao = some ⟨b, o, none⟩ → b < w.heap.size)) := by
      rw [← hw2]; exact ⟨X.out.1.later U1.out (Nat.le_refl _), U1.out, fun b o h e => X.out.1.old (Nat.le_refl _) b o h e⟩
    clear hw2
    obtain ⟨w3, hw3⟩ : ∃ q, w2.alloc (.cells ((pwF 3).flatMap flC).toArray 55) = q := ⟨_, rfl⟩
    rw [hw3]
    have V3 : Hid (Blk w3 w2.heap.size 55 ((pwF 3).flatMap flC) ∧ Below w2.heap.size w2 w3) := by
      rw [← hw3]; exact ⟨heap_alloc_new w2 _, (Below.refl _ _).alloc (Nat.le_refl _) _⟩
    clear hw3 bf b3
    refine (a_new n ⟨hn1, hn2⟩ _ _ w3 (fls_flat V3.out.1 a_good (by decide)) (fun _ h => h)).mono ?_
    rintro e w4 ⟨h, rfl, x4, l4⟩
    have U4 : Hid (HostAt w4 (fun k => w3.heap.size ≤ k ∧ k < w4.heap.size) h (pw0 3 n) ∧ Below w.heap.size w w4 ∧ (∀ k, w3.heap.size ≤ k ∧ k < w4.heap.size → w.heap.size ≤ k) ∧ Seen w4 ao n zs ∧ Below w3.heap.size w3 w4) := by
      have l3 := below_chain V2.out.2.1 V3.out.2 V2.out.2.1.size
      have l34 : Below w2.heap.size w2 w4 := below_chain V3.out.2 l4 V3.out.2.size
      have := l3.size
      exact ⟨x4, below_chain l3 l4 l3.size, fun k hk => by omega, V2.out.1.later l34 (Nat.le_refl _), l4⟩
    clear x4 l4
    go_wp2_with fail
    refine (copyB_any ao n c zs w4 U4.out.2.2.2.1).mono ?_
    rintro e w5 ⟨v5, rfl, o5, l5⟩
    obtain ⟨co5, cc5, rfl, s5, n5⟩ := own_seen (U4.out.2.2.2.1).len (U4.out.2.2.2.1).bytes (U4.out.2.2.2.1).top o5
    have C5 : Hid (HostAt w5 (fun k => w3.heap.size ≤ k ∧ k < w4.heap.size) h (pw0 3 n) ∧ Below w.heap.size w w5 ∧ (∀ k, (fun k => w3.heap.size ≤ k ∧ k < w4.heap.size) k → w.heap.size ≤ k) ∧ Seen w5 ao n zs ∧ Seen w5 co5 n zs ∧ (∀ b o, co5 = some ⟨b, o, none⟩ → w4.heap.size ≤ b) ∧ (∀ k, (fun k => w3.heap.size ≤ k ∧ k < w4.heap.size) k → k < w4.heap.size)) := ⟨U4.out.1.later l5, below_chain U4.out.2.1 l5 U4.out.2.1.size, U4.out.2.2.1, (U4.out.2.2.2.1).later l5 (Nat.le_refl _), s5, n5, U4.out.1.all⟩
    clear o5 l5 s5 n5
    go_wp2_with fail
    refine (a_w1 h n zs _ w5 C5.out.1 co5 cc5 C5.out.2.2.2.2.1 (fun b o _ e hM => by have := C5.out.2.2.2.2.2.1 b o e; have := C5.out.2.2.2.2.2.2 b hM; omega)).mono ?_
    rintro e w6 ⟨rfl, M6, x6, g6⟩
    have U6 : Hid (HostAt w6 M6 h (pw1 3 n zs) ∧ Below w.heap.size w w6 ∧ (∀ k, M6 k → w.heap.size ≤ k) ∧ Seen w6 ao n zs) := by
      obtain ⟨q1, q2⟩ := g6.below (B := w.heap.size) C5.out.2.2.1 C5.out.2.1.size
      exact ⟨x6, below_chain C5.out.2.1 q1 (Nat.le_refl _), q2, C5.out.2.2.2.1.kept g6.kept (fun b o hh e hM => by have := V2.out.2.2 b o hh e; have := C5.out.2.2.1 b hM; omega)⟩
    clear x6 g6
    go_wp2_with fail
    refine (copyB_any ao n c zs w6 U6.out.2.2.2).mono ?_
    rintro e w7 ⟨v7, rfl, o7, l7⟩
    obtain ⟨co7, cc7, rfl, s7, n7⟩ := own_seen (U6.out.2.2.2).len (U6.out.2.2.2).bytes (U6.out.2.2.2).top o7
    have C7 : Hid (HostAt w7 M6 h (pw1 3 n zs) ∧ Below w.heap.size w w7 ∧ (∀ k, M6 k → w.heap.size ≤ k) ∧ Seen w7 ao n zs ∧ Seen w7 co7 n zs ∧ (∀ b o, co7 = some ⟨b, o, none⟩ → w6.heap.size ≤ b) ∧ (∀ k, M6 k → k < w6.heap.size)) := ⟨U6.out.1.later l7, below_chain U6.out.2.1 l7 U6.out.2.1.size, U6.out.2.2.1, (U6.out.2.2.2).later l7 (Nat.le_refl _), s7, n7, U6.out.1.all⟩
    clear o7 l7 s7 n7
    go_wp2_with fail
    refine (a_w2 h n zs _ w7 C7.out.1 co7 cc7 C7.out.2.2.2.2.1 (fun b o _ e hM => by have := C7.out.2.2.2.2.2.1 b o e; have := C7.out.2.2.2.2.2.2 b hM; omega)).mono ?_
    rintro e w8 ⟨rfl, M8, x8, g8⟩
    have U8 : Hid (HostAt w8 M8 h (pw1 3 n zs) ∧ Below w.heap.size w w8 ∧ (∀ k, M8 k → w.heap.size ≤ k) ∧ Seen w8 ao n zs) := by
      obtain ⟨q1, q2⟩ := g8.below (B := w.heap.size) C7.out.2.2.1 C7.out.2.1.size
      exact ⟨x8, below_chain C7.out.2.1 q1 (Nat.le_refl _), q2, C7.out.2.2.2.1.kept g8.kept (fun b o hh e hM => by have := V2.out.2.2 b o hh e; have := C7.out.2.2.1 b hM; omega)⟩
    clear x8 g8
    go_wp2_with fail
    refine (a_r1 h n zs v X.out.2 M8 w8 U8.out.1).mono ?_
    rintro e w9 ⟨rfl, M9, x9, g9⟩
    have U9 : Hid (HostAt w9 M9 h (pw1 3 n zs) ∧ Below w.heap.size w w9 ∧ (∀ k, M9 k → w.heap.size ≤ k) ∧ Seen w9 ao n zs) := by
      obtain ⟨q1, q2⟩ := g9.below (B := w.heap.size) U8.out.2.2.1 U8.out.2.1.size
      exact ⟨x9, below_chain U8.out.2.1 q1 (Nat.le_refl _), q2, U8.out.2.2.2.kept g9.kept (fun b o hh e hM => by have := V2.out.2.2 b o hh e; have := U8.out.2.2.1 b hM; omega)⟩
    clear x9 g9
    have CD := down_any h (pw1 3 n zs) M9 w9 U9.out.1
    rw [(A.out zs).1] at CD
    have CO := ops_any h (pw1 3 n zs) M9 w9 U9.out.1
    rw [(A.out zs).2.1] at CO
    go_wp2_with (first | (go_at_call 20; refine CD.mono ?_; rintro e _ ⟨rfl, rfl⟩) | (go_at_call 19; refine CO.mono ?_; rintro e _ ⟨rfl, rfl⟩))
    clear CD CO
    refine (restart_any h (pw1 3 n zs) M9 w9 U9.out.1).mono ?_
    rintro e w10 ⟨rfl, x10, k10⟩
    have U10 : Hid (HostAt w10 M9 h (pw2 3 n zs) ∧ Below w.heap.size w w10 ∧ (∀ k, M9 k → w.heap.size ≤ k) ∧ Seen w10 ao n zs) := by
      have mh : M9 h := by obtain ⟨_, _, _, _, _, _, q⟩ := U9.out.1; exact q.mh
      have hh := U9.out.2.2.1 h mh
      exact ⟨x10, below_kept U9.out.2.1 k10 U9.out.2.1.size (fun j hj e => by omega), U9.out.2.2.1, U9.out.2.2.2.kept k10 (fun b o h1 e hM => by subst hM; have := V2.out.2.2 _ o h1 e; omega)⟩
    clear x10 k10
    go_wp2_with fail
    refine (a_r2 h n zs v X.out.2 M9 w10 U10.out.1).mono ?_
    rintro e w11 ⟨rfl, M11, x11, g11⟩
    have U11 : Hid (HostAt w11 M11 h (pw3 3 n zs v) ∧ Below w.heap.size w w11 ∧ (∀ k, M11 k → w.heap.size ≤ k) ∧ Seen w11 ao n zs) := by
      obtain ⟨q1, q2⟩ := g11.below (B := w.heap.size) U10.out.2.2.1 U10.out.2.1.size
      exact ⟨x11, below_chain U10.out.2.1 q1 (Nat.le_refl _), q2, U10.out.2.2.2.kept g11.kept (fun b o hh e hM => by have := V2.out.2.2 b o hh e; have := U10.out.2.2.1 b hM; omega)⟩
    clear x11 g11
    have CO := ops_any h (pw3 3 n zs v) M11 w11 U11.out.1
    rw [(A.out zs).2.2.1] at CO
    go_wp2_with (go_at_call 19; refine CO.mono ?_; rintro e _ ⟨rfl, rfl⟩)
    clear CO
    refine (restart_any h (pw3 3 n zs v) M11 w11 U11.out.1).mono ?_
    rintro e w12 ⟨rfl, x12, k12⟩
    have U12 : Hid (HostAt w12 M11 h (pw4 3 n zs v) ∧ Below w.heap.size w w12 ∧ (∀ k, M11 k → w.heap.size ≤ k) ∧ Seen w12 ao n zs) := by
      have mh : M11 h := by obtain ⟨_, _, _, _, _, _, q⟩ := U11.out.1; exact q.mh
      have hh := U11.out.2.2.1 h mh
      exact ⟨x12, below_kept U11.out.2.1 k12 U11.out.2.1.size (fun j hj e => by omega), U11.out.2.2.1, U11.out.2.2.2.kept k12 (fun b o h1 e hM => by subst hM; have := V2.out.2.2 _ o h1 e; omega)⟩
    clear x12 k12
    go_wp2_with fail
    refine (a_rd1 h n zs v M11 w12 U12.out.1).mono ?_
    rintro e w13 ⟨rfl, M13, x13, g13⟩
    have U13 : Hid (HostAt w13 M13 h (pw5 3 n zs v) ∧ Below w.heap.size w w13 ∧ (∀ k, M13 k → w.heap.size ≤ k) ∧ Seen w13 ao n zs) := by
      obtain ⟨q1, q2⟩ := g13.below (B := w.heap.size) U12.out.2.2.1 U12.out.2.1.size
      exact ⟨x13, below_chain U12.out.2.1 q1 (Nat.le_refl _), q2, U12.out.2.2.2.kept g13.kept (fun b o hh e hM => by have := V2.out.2.2 b o hh e; have := U12.out.2.2.1 b hM; omega)⟩
    clear x13 g13
    go_wp2_with fail
    refine (a_ask1 h n zs v M13 w13 U13.out.1).mono ?_
    rintro e w14 ⟨rfl, M14, x14, g14⟩
    have U14 : Hid (HostAt w14 M14 h (pw5 3 n zs v) ∧ Below w.heap.size w w14 ∧ (∀ k, M14 k → w.heap.size ≤ k) ∧ Seen w14 ao n zs) := by
      obtain ⟨q1, q2⟩ := g14.below (B := w.heap.size) U13.out.2.2.1 U13.out.2.1.size
      exact ⟨x14, below_chain U13.out.2.1 q1 (Nat.le_refl _), q2, U13.out.2.2.2.kept g14.kept (fun b o hh e hM => by have := V2.out.2.2 b o hh e; have := U13.out.2.2.1 b hM; omega)⟩
    clear x14 g14
    have CO := ops_any h (pw5 3 n zs v) M14 w14 U14.out.1
    rw [(A.out zs).2.2.2.1] at CO
    go_wp2_with (go_at_call 19; refine CO.mono ?_; rintro e _ ⟨rfl, rfl⟩)
    clear CO
    refine (restart_any h (pw5 3 n zs v) M14 w14 U14.out.1).mono ?_
    rintro e w15 ⟨rfl, x15, k15⟩
    have U15 : Hid (HostAt w15 M14 h (pw6 3 n zs v) ∧ Below w.heap.size w w15 ∧ (∀ k, M14 k → w.heap.size ≤ k) ∧ Seen w15 ao n zs) := by
      have mh : M14 h := by obtain ⟨_, _, _, _, _, _, q⟩ := U14.out.1; exact q.mh
      have hh := U14.out.2.2.1 h mh
      exact ⟨x15, below_kept U14.out.2.1 k15 U14.out.2.1.size (fun j hj e => by omega), U14.out.2.2.1, U14.out.2.2.2.kept k15 (fun b o h1 e hM => by subst hM; have := V2.out.2.2 _ o h1 e; omega)⟩
    clear x15 k15
    go_wp2_with fail
    refine (restart_any h (pw6 3 n zs v) M14 w15 U15.out.1).mono ?_
    rintro e w16 ⟨rfl, x16, k16⟩
    have U16 : Hid (HostAt w16 M14 h (pw6 3 n zs v) ∧ Below w.heap.size w w16 ∧ (∀ k, M14 k → w.heap.size ≤ k) ∧ Seen w16 ao n zs) := by
      have mh : M14 h := by obtain ⟨_, _, _, _, _, _, q⟩ := U15.out.1; exact q.mh
      have hh := U15.out.2.2.1 h mh
      exact ⟨x16, below_kept U15.out.2.1 k16 U15.out.2.1.size (fun j hj e => by omega), U15.out.2.2.1, U15.out.2.2.2.kept k16 (fun b o h1 e hM => by subst hM; have := V2.out.2.2 _ o h1 e; omega)⟩
    clear x16 k16
    go_wp2_with fail
    refine (a_rd2 h n zs v M14 w16 U16.out.1).mono ?_
    rintro e w17 ⟨g, rfl, M17, x17, g17, b17, m17, y17⟩
    rw [(a_last n zs v).1] at b17 y17
    have U17 : Hid (HostAt w17 M17 h (pw7 3 n zs v) ∧ Below w.heap.size w w17 ∧ (∀ k, M17 k → w.heap.size ≤ k) ∧ Seen w17 ao n zs ∧ Blk w17 g 5 (u8s (List.replicate n 0)) ∧ ¬ M17 g ∧ Bytes (List.replicate n 0)) := by
      obtain ⟨q1, q2⟩ := g17.below (B := w.heap.size) U16.out.2.2.1 U16.out.2.1.size
      exact ⟨x17, below_chain U16.out.2.1 q1 (Nat.le_refl _), q2, U16.out.2.2.2.kept g17.kept (fun b o hh e hM => by have := V2.out.2.2 b o hh e; have := U16.out.2.2.1 b hM; omega), b17, m17, y17⟩
    clear x17 g17 b17 m17 y17
    go_wp2_with fail
    refine (a_ask2 h n zs v M17 w17 U17.out.1).mono ?_
    rintro e w18 ⟨rfl, M18, x18, g18⟩
    rw [(a_last n zs v).2.1]
    have U18 : Hid (HostAt w18 M18 h (pw8 3 n zs v) ∧ Below w.heap.size w w18 ∧ Seen w18 ao n zs ∧ Blk w18 g 5 (u8s (List.replicate n 0)) ∧ Bytes (List.replicate n 0)) := by
      obtain ⟨q1, q2⟩ := g18.below (B := w.heap.size) U17.out.2.2.1 U17.out.2.1.size
      exact ⟨x18, below_chain U17.out.2.1 q1 (Nat.le_refl _), U17.out.2.2.2.1.kept g18.kept (fun b o hh e hM => by have := V2.out.2.2 b o hh e; have := U17.out.2.2.1 b hM; omega), U17.out.2.2.2.2.1.kept g18.kept U17.out.2.2.2.2.2.1, U17.out.2.2.2.2.2.2⟩
    clear x18 g18
    have CO := ops_any h (pw8 3 n zs v) M18 w18 U18.out.1
    rw [(A.out zs).2.2.2.2] at CO
    have mk : ∀ w, (Instr.makeSlice 32 (.int .i64 (n : Int)) (.int .i64 (n : Int))).run Try.prog w = .ok (.slice (some ⟨w.heap.size, 0, none⟩) n n) (w.alloc (.cells (madeCells #[.int .u8 0] n) 5)) := mk_bytes n (by omega)
    go_wp2_with (go_at_call 19; refine CO.mono ?_; rintro e _ ⟨rfl, rfl⟩)
    clear CO mk
    obtain ⟨w19, hw19⟩ : ∃ q, w18.alloc (.cells (madeCells #[.int .u8 0] n) 5) = q := ⟨_, rfl⟩
    rw [hw19]
    have U19 : Hid (HostAt w19 M18 h (pw8 3 n zs v) ∧ Below w.heap.size w w19 ∧ Seen w19 (some ⟨g, 0, none⟩) n (List.replicate n 0) ∧ Seen w19 (some ⟨w18.heap.size, 0, none⟩) n (List.replicate n 0)) := by
      have l19 : Below w18.heap.size w18 w19 := by rw [← hw19]; exact (Below.refl _ _).alloc (Nat.le_refl _) _
      have b19 : Blk w19 w18.heap.size 5 (u8s (List.replicate n 0)) := by rw [← hw19, ← zeros_u8s]; exact made_blk _ _ _ _
      have p1 := seen_blk (U18.out.2.2.2.1.later l19 U18.out.2.2.2.1.lt) (bytes_zeros n) (by rw [List.length_replicate]; omega)
      have p2 := seen_blk b19 (bytes_zeros n) (by rw [List.length_replicate]; omega)
      rw [List.length_replicate] at p1 p2
      exact ⟨U18.out.1.later l19, below_chain U18.out.2.1 l19 U18.out.2.1.size, p1, p2⟩
    clear hw19
    refine (reqb_any _ _ n n _ _ _ _ w19 U19.out.2.2.1 U19.out.2.2.2).mono ?_
    rintro e w20 ⟨rfl, q20, hw20⟩
    rw [show decide ((List.replicate n 0 : List Int) = List.replicate n 0) = true by simp]
    have U20 : Hid (HostAt w20 M18 h (pw8 3 n zs v) ∧ Below w.heap.size w w20) := by rw [hw20]; exact ⟨U19.out.1.frame ⟨Nat.le_refl _, fun _ _ => rfl⟩, below_dn U19.out.2.1 _⟩
    clear hw20
    go_wp2_with fail
    refine (log_len h (pw8 3 n zs v) 2 (a_last n zs v).2.2 M18 w20 U20.out.1).mono ?_
    rintro e w21 ⟨la, lc, rfl, l21⟩
    have R : Hid (Below w.heap.size w w21) := below_chain U20.out.2 l21 U20.out.2.size
    clear l21
    go_wp2_with fail
    go_ret
    exact ⟨rfl, R.out⟩
end Go.Proofs.Ytahmighpgfajiaa
