/- Layer digest: a hash in memory; fresh, filled, Len, New, Copy, Reset. -/
import Derived.Test.YtiimjhahblmggaaDoorDMix
namespace Go.Proofs.YtiimjhahblmggaaDoor
open Go.RowKit
set_option linter.unusedVariables false
set_option linter.unusedSimpArgs false

def zer (n : Nat) : List Int := List.replicate n 0
theorem zer_length (n : Nat) : (zer n).length = n := List.length_replicate
def iv : List Int := [0x6a09e667, 0xbb67ae85, 0x3c6ef372, 0xa54ff53a, 0x510e527f, 0x9b05688c, 0x1f83d9ab, 0x5be0cd19]
def hcells (st bl : List Int) (sz : Int) : List Value := u32s st ++ (u8s bl ++ [.int .u64 sz])
theorem hcells_length (st bl : List Int) (sz : Int) (hs : st.length = 8) (hb : bl.length = 64) : (hcells st bl sz).length = 73 := by simp [hcells, u32s_length, u8s_length, hs, hb]
theorem hcells_one (st bl : List Int) (sz : Int) : ∀ v ∈ hcells st bl sz, v.oneCell' = true := by
  intro v hv
  simp only [hcells, List.mem_append, List.mem_singleton] at hv
  rcases hv with h | h | rfl
  · exact u32s_one _ v h
  · exact u8s_one _ v h
  · rfl
/-- A hash in block g: its words, its open block, how many bytes it has had. -/
structure HashAt (w : World) (g : Nat) (st bl : List Int) (sz : Int) : Prop where
  blk : Blk w g 87 (hcells st bl sz)
  st8 : st.length = 8
  bl64 : bl.length = 64
theorem zeroHash : (Tryd.prog.info? 87).map (fun i => (i.zero, i.size)) = some (some (.agg (hcells (List.replicate 8 0) (zer 64) 0).toArray), 73) := by kernel_rfl
theorem sizeHash : (Tryd.prog.info? 87).map (·.size) = some 73 := by kernel_rfl
theorem buildH (w : World) : (Instr.build 87 #[(0, .agg (u32s iv).toArray)]).run Tryd.prog w = .ok (.agg (hcells iv (zer 64) 0).toArray) w := by kernel_rfl
theorem build8 (w : World) : (Instr.build 79 #[(0, .int .u32 1779033703), (1, .int .u32 3144134277), (2, .int .u32 1013904242), (3, .int .u32 2773480762), (4, .int .u32 1359893119), (5, .int .u32 2600822924), (6, .int .u32 528734635), (7, .int .u32 1541459225)]).run Tryd.prog w = .ok (.agg (u32s iv).toArray) w := by kernel_rfl
/-- What a fresh hash holds. -/
abbrev freshV : Value := .agg (hcells iv (zer 64) 0).toArray
theorem freshLen : (hcells iv (zer 64) 0).length = 73 := by rw [hcells_length _ _ _ rfl (zer_length _)]

set_option maxRecDepth 20000 in
theorem fresh_any (w : World) : Calls Tryd.prog 60 #[] w fun e w' => e = .returned freshV ∧ Below w.heap.size w w' := by
  go_enter Tryd.func60, Tryd.ntmps60
  go_wp2_with (first | (refine wpList_alloc_new rfl 87 rfl 73 _ zeroHash ?_; intro w1 b1 s1 l1) | (refine wpList_build rfl 79 _ rfl #[(0, .int .u32 1779033703), (1, .int .u32 3144134277), (2, .int .u32 1013904242), (3, .int .u32 2773480762), (4, .int .u32 1359893119), (5, .int .u32 2600822924), (6, .int .u32 528734635), (7, .int .u32 1541459225)] (by simp only [List.map_toArray, List.map_cons, List.map_nil]; rfl) _ (build8 _) ?_) | (refine wpList_build rfl 87 _ rfl #[(0, .agg (u32s iv).toArray)] (by simp only [List.map_toArray, List.map_cons, List.map_nil]; rfl) _ (buildH _) ?_) | (refine wpList_store_blk rfl 87 87 _ _ rfl _ rfl _ (hcells iv (zer 64) 0) rfl b1 (by rw [freshLen, hcells_length _ _ _ (by simp) (zer_length _)]) (by rw [freshLen]; exact sizeHash) (hcells_one _ _ _) ?_; intro w2 b2 s2 k2))
  exact ret_blk rfl w.heap.size (hcells iv (zer 64) 0) _ rfl b2 Tryd.underlying87 rfl (by rw [freshLen]; exact sizeHash) rfl ⟨rfl, below_kept l1 k2 (by omega) (fun j hj => by omega)⟩
set_option maxRecDepth 20000 in
theorem new_any (w : World) : Calls Tryd.prog 55 #[] w fun e w' => ∃ g, e = .returned (.pointer (some ⟨g, 0, none⟩)) ∧ w.heap.size ≤ g ∧ HashAt w' g iv (zer 64) 0 ∧ Below w.heap.size w w' := by
  go_enter Tryd.func55, Tryd.ntmps55
  go_wp2_with (first | (go_at_call 60; refine (fresh_any _).mono ?_; rintro e w0 ⟨rfl, l0⟩) | (refine wpList_alloc_new rfl 87 rfl 73 _ zeroHash ?_; intro w1 b1 s1 l1) | (refine wpList_store_blk rfl 87 87 _ _ rfl _ rfl _ (hcells iv (zer 64) 0) rfl b1 (by rw [freshLen, hcells_length _ _ _ (by simp) (zer_length _)]) (by rw [freshLen]; exact sizeHash) (hcells_one _ _ _) ?_; intro w2 b2 s2 k2))
  have q := l0.size
  go_ret
  exact ⟨_, rfl, q, ⟨b2, rfl, zer_length _⟩, below_kept (below_chain l0 l1 q) k2 (by omega) (fun j hj => by omega)⟩

/-- The number of bytes a hash has had. -/
theorem HashAt.size_cell {w : World} {g : Nat} {st bl : List Int} {sz : Int} (h : HashAt w g st bl sz) : w.cell? ⟨g, 72, none⟩ = some (.int .u64 sz) := by
  rw [h.blk.cell]
  have e1 : (u32s st).length = 8 := by rw [u32s_length, h.st8]
  have e2 : (u8s bl).length = 64 := by rw [u8s_length, h.bl64]
  simp only [hcells]
  rw [List.getElem?_append_right (by omega), List.getElem?_append_right (by omega), e1, e2]; rfl
theorem HashAt.byte_cell {w : World} {g : Nat} {st bl : List Int} {sz : Int} (h : HashAt w g st bl sz) (j : Nat) (hj : j < 64) : w.cell? ⟨g, 8 + j, none⟩ = some (.int .u8 (bl.getD j 0)) := by
  rw [h.blk.cell]
  have e1 : (u32s st).length = 8 := by rw [u32s_length, h.st8]
  have e2 : (u8s bl).length = 64 := by rw [u8s_length, h.bl64]
  have e3 : j < bl.length := by rw [h.bl64]; exact hj
  simp only [hcells]
  rw [List.getElem?_append_right (by omega), e1, Nat.add_sub_cancel_left, List.getElem?_append_left (by omega)]
  simp [u8s, e3, List.getD]
theorem HashAt.lt {w : World} {g : Nat} {st bl : List Int} {sz : Int} (h : HashAt w g st bl sz) : g < w.heap.size := h.blk.lt
theorem HashAt.later {w w' : World} {g : Nat} {st bl : List Int} {sz : Int} (h : HashAt w g st bl sz) {B : Nat} (hb : Below B w w') (hB : g < B) : HashAt w' g st bl sz := ⟨h.blk.later hb hB, h.st8, h.bl64⟩
theorem HashAt.kept {S : Nat → Prop} {w w' : World} {g : Nat} {st bl : List Int} {sz : Int} (h : HashAt w g st bl sz) (hk : Kept S w w') (hS : ¬ S g) : HashAt w' g st bl sz := ⟨h.blk.kept hk hS, h.st8, h.bl64⟩
theorem HashAt.drewN {w : World} {g : Nat} {st bl : List Int} {sz : Int} (h : HashAt w g st bl sz) (k : Nat) : HashAt (w.drewN k) g st bl sz := ⟨h.blk, h.st8, h.bl64⟩

set_option maxRecDepth 20000 in
theorem nil_eql (w : World) (g : Nat) : (binOp .eql 68 (.pointer (some ⟨g, 0, none⟩)) (.pointer none)).run Tryd.prog w = .ok (.bool false) w := by rfl
set_option maxRecDepth 20000 in
theorem filled_any (g : Nat) (st bl : List Int) (sz : Int) (w : World) (h : HashAt w g st bl sz) (hz : 0 ≤ sz) : Calls Tryd.prog 46 #[.pointer (some ⟨g, 0, none⟩)] w fun e w' => e = .returned (.int .i64 (sz % 64)) ∧ w' = w := by
  have c := h.size_cell
  have q : sz.tmod 64 = sz % 64 := Int.tmod_eq_emod_of_nonneg hz
  have q1 : wrap64 (sz % 64) = sz % 64 := by unfold wrap64; omega
  clear hz
  go_enter Tryd.func46, Tryd.ntmps46
  go_wp2
  go_ret
  exact ⟨rfl, rfl⟩
set_option maxRecDepth 20000 in
theorem copy_any (g : Nat) (st bl : List Int) (sz : Int) (w : World) (h : HashAt w g st bl sz) : Calls Tryd.prog 49 #[.pointer (some ⟨g, 0, none⟩)] w fun e w' => ∃ g', e = .returned (.pointer (some ⟨g', 0, none⟩)) ∧ w.heap.size ≤ g' ∧ HashAt w' g' st bl sz ∧ Below w.heap.size w w' := by
  have HH : Hid (HashAt w g st bl sz) := h
  have HC : Hid ((hcells st bl sz).length = 73) := hcells_length _ _ _ h.st8 h.bl64
  clear h
  go_enter Tryd.func49, Tryd.ntmps49
  go_wp2_with (first | (refine wpList_load_blk rfl 87 _ rfl _ rfl (hcells st bl sz) _ HH.out.blk Tryd.underlying87 rfl (by rw [HC.out]; exact sizeHash) ?_) | (refine wpList_alloc_new rfl 87 rfl 73 _ zeroHash ?_; intro w1 b1 s1 l1) | (refine wpList_store_blk rfl 87 87 _ _ rfl _ rfl _ (hcells st bl sz) rfl b1 (by rw [HC.out, hcells_length _ _ _ (by simp) (zer_length _)]) (by rw [HC.out]; exact sizeHash) (hcells_one _ _ _) ?_; intro w2 b2 s2 k2))
  go_ret
  exact ⟨_, rfl, Nat.le_refl _, ⟨b2, HH.out.st8, HH.out.bl64⟩, below_kept l1 k2 (by omega) (fun j hj => by omega)⟩
end Go.Proofs.YtiimjhahblmggaaDoor
