/- What is handed in as a Begin: a key, a nonce and a counter in a block. -/
import Derived.Test.YtpjnimmclncdoaaSAwake
namespace Go.Proofs.Ytpjnimmclncdoaa
open Go.RowKit
set_option linter.unusedVariables false
set_option linter.unusedSimpArgs false

def bCells (key nonce : List Int) (ctr : Int) : List Value := u8s key ++ (u8s nonce ++ [Value.int .u32 ctr])
theorem sizeBegin : (Try.prog.info? 28).map (·.size) = some 45 := by kernel_rfl
/-- What is handed in: a key, a nonce and a counter, in block g. -/
structure BgAt (w : World) (g : Nat) (key nonce : List Int) (ctr : Nat) : Prop where
  blk : Blk w g 28 (bCells key nonce ctr)
  k32 : key.length = 32
  n12 : nonce.length = 12
  kb : Bytes key
  nb : Bytes nonce
  top : ctr < 4294967296
theorem BgAt.later {w w' : World} {g : Nat} {key nonce : List Int} {ctr : Nat} (h : BgAt w g key nonce ctr) {B : Nat} (hb : Below B w w') (hB : g < B) : BgAt w' g key nonce ctr := ⟨h.blk.later hb hB, h.k32, h.n12, h.kb, h.nb, h.top⟩
theorem BgAt.ctr {w : World} {g : Nat} {key nonce : List Int} {P : Nat} (h : BgAt w g key nonce P) : w.cell? ⟨g, 44, none⟩ = some (.int .u32 P) := by
  rw [h.blk.cell, bCells, List.getElem?_append_right (by rw [u8s_length, h.k32]; decide), u8s_length, h.k32, List.getElem?_append_right (by rw [u8s_length, h.n12]; decide), u8s_length, h.n12]; rfl
theorem BgAt.key {w : World} {g : Nat} {key nonce : List Int} {P : Nat} (h : BgAt w g key nonce P) : w.rangeAt g 0 (u8s key) := by
  have := Blk.range (xs := []) (ys := u8s key) (zs := u8s nonce ++ [Value.int .u32 P]) h.blk
  simpa using this
theorem BgAt.nonce {w : World} {g : Nat} {key nonce : List Int} {P : Nat} (h : BgAt w g key nonce P) : w.rangeAt g 32 (u8s nonce) := by
  have := Blk.range (xs := u8s key) (ys := u8s nonce) (zs := [Value.int .u32 P]) h.blk
  rwa [u8s_length, h.k32] at this
end Go.Proofs.Ytpjnimmclncdoaa
