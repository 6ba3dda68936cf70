/-
  The published rows that ChachaKnown asks, reckoned.
-/
import Derived.Test.YtgfmjfpafpmghaaDoorCcXorsLaw
import Derived.Test.YtgfmjfpafpmghaaDoorCcStreamLaw
import Derived.Test.YtgfmjfpafpmghaaDoorCcPlacesLaw
import Derived.Test.YtgfmjfpafpmghaaDoorCcBlocksLaw
import Derived.Test.YtgfmjfpafpmghaaDoorKitRow
namespace Go.Proofs.YtgfmjfpafpmghaaDoor
open Go.RowKit Go.Proofs.ShaWords
/-- The words of the published quarter round. -/
def qIn : List (BitVec 32) := [0x11111111#32, 0x01020304#32, 0x9B8D6F43#32, 0x01234567#32]
theorem qOut : stepQ qIn 0 1 2 3 = [0xEA2A92F4#32, 0xCB1CF8CE#32, 0x4581472E#32, 0x5881C4BB#32] := by decide +kernel
/-- The block of noughts. -/
def zeroBlk : List (BitVec 8) := ccBlock (noughts 32) 0#32 (noughts 12)
def zeroW : List (BitVec 32) := [0x76B8E0AD#32, 0xA0F13D90#32, 0x405D6AE5#32, 0x5386BD28#32]
theorem zeroW_vals : (wordsV zeroW).toArray = #[.int .u32 1991827629, .int .u32 2700164496, .int .u32 1079864037, .int .u32 1401339176] := by kernel_rfl
theorem zeroRow : zeroBlk.take 16 = zeroW.flatMap beBytes := by decide +kernel
theorem zeroBlk_any (w : World) (hq : Quads w) : Calls Tryd.prog 18 #[.agg #[.int .u8 0, .int .u8 0, .int .u8 0, .int .u8 0, .int .u8 0, .int .u8 0, .int .u8 0, .int .u8 0, .int .u8 0, .int .u8 0, .int .u8 0, .int .u8 0, .int .u8 0, .int .u8 0, .int .u8 0, .int .u8 0, .int .u8 0, .int .u8 0, .int .u8 0, .int .u8 0, .int .u8 0, .int .u8 0, .int .u8 0, .int .u8 0, .int .u8 0, .int .u8 0, .int .u8 0, .int .u8 0, .int .u8 0, .int .u8 0, .int .u8 0, .int .u8 0], .int .u32 0, .agg #[.int .u8 0, .int .u8 0, .int .u8 0, .int .u8 0, .int .u8 0, .int .u8 0, .int .u8 0, .int .u8 0, .int .u8 0, .int .u8 0, .int .u8 0, .int .u8 0]] w
    fun e w' => e = .returned (.agg (bytesV zeroBlk).toArray) ∧ Below w.heap.size w w' := ccBlock_any (noughts 32) (noughts 12) 0#32 w rfl rfl hq
def ladies : List (BitVec 8) := [76#8, 97#8, 100#8, 105#8, 101#8, 115#8, 32#8, 97#8, 110#8, 100#8, 32#8, 71#8, 101#8, 110#8, 116#8, 108#8]
def ladiesNonce : List (BitVec 8) := [0#8, 0#8, 0#8, 0#8, 0#8, 0#8, 0#8, 0x4A#8, 0#8, 0#8, 0#8, 0#8]
def ladiesW : List (BitVec 32) := [0x6E2E359A#32, 0x2568F980#32, 0x41BA0728#32, 0xDD0D6981#32]
theorem ladiesW_vals : (wordsV ladiesW).toArray = #[.int .u32 1848522138, .int .u32 627636608, .int .u32 1102710568, .int .u32 3708643713] := by kernel_rfl
theorem ladiesRow : xorKs countedK 1#32 ladiesNonce ladies = ladiesW.flatMap beBytes := by decide +kernel
theorem ownW_new (w : World) (C : Array Value) (l : List (BitVec 32)) (n : Nat) (hC : C = (wordsV l).toArray) (hl : l.length = n) (hn : n ≤ maxLen) : OwnW w.heap.size (w.alloc (.cells C 25)) l (.slice (some ⟨w.heap.size, 0, none⟩) n n) := by
  subst hC; subst hl
  refine ⟨by simp [wordsV], .inr ⟨w.heap.size, l.length, _, rfl, Nat.le_refl _, heap_alloc_new w _, Nat.le_refl _, hn, by simp [wordsV], ?_⟩⟩
  rw [Nat.mul_one, List.toList_toArray, List.take_of_length_le (by simp [wordsV])]
end Go.Proofs.YtgfmjfpafpmghaaDoor
