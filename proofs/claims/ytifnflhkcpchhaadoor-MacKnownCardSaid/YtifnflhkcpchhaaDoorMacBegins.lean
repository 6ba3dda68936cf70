/-
  The contracts of the law's own begins (where it holds) and known: the published code, by the kernel's own reckoning.
-/
import Derived.Test.YtifnflhkcpchhaaDoorMacOf
namespace Go.Proofs.YtifnflhkcpchhaaDoor
open Go.RowKit Go.Proofs.ShaWords
attribute [local go_sem] add32 wrap32_n8 shl32_8 shl32_16 shl32_24

/-- Four bytes as a word. -/
def word4 (s : List (BitVec 8)) (i : Nat) : BitVec 32 := ext (s.getD i 0#8) <<< 24 + ext (s.getD (i + 1) 0#8) <<< 16 + ext (s.getD (i + 2) 0#8) <<< 8 + ext (s.getD (i + 3) 0#8)
set_option maxRecDepth 100000 in
set_option maxHeartbeats 1000000 in
theorem begins_yes (s : List (BitVec 8)) (x y : Int) (w : World) (hl : s.length = 32) (h1 : n32 (word4 s 0) = x) (h2 : n32 (word4 s 28) = y) :
    Calls Tryd.prog 34 #[.agg (bytesV s).toArray, .int .u32 x, .int .u32 y] w fun e w' => e = .returned (.bool true) ∧ Below w.heap.size w w' := by
  have hc : ∀ j, j < 32 → (w.alloc (.cells (bytesV s).toArray 31)).cell? ⟨w.heap.size, j, none⟩ = some (.int .u8 (n8 (s.getD j 0#8))) := fun j hj => by
    have h := range_bytesV (heap_alloc_new w (.cells (bytesV s).toArray 31)) j (.int .u8 (n8 (s.getD j 0#8))) (by simp [bytesV, List.getD, hl, hj])
    rw [Nat.zero_add] at h; exact h
  have c0 := hc 0 (by omega); have c1 := hc 1 (by omega); have c2 := hc 2 (by omega); have c3 := hc 3 (by omega)
  have c4 := hc 28 (by omega); have c5 := hc 29 (by omega); have c6 := hc 30 (by omega); have c7 := hc 31 (by omega)
  have HB := Lib.hid ((Below.refl w.heap.size w).alloc (Nat.le_refl _) (.cells (bytesV s).toArray 31))
  unfold word4 at h1 h2
  simp only [Nat.zero_add] at h1 h2
  clear hc hl
  generalize s.getD 0 0#8 = b0 at *; generalize s.getD 1 0#8 = b1 at *; generalize s.getD 2 0#8 = b2 at *; generalize s.getD 3 0#8 = b3 at *
  generalize s.getD 28 0#8 = b4 at *; generalize s.getD (28 + 1) 0#8 = b5 at *; generalize s.getD (28 + 2) 0#8 = b6 at *; generalize s.getD (28 + 3) 0#8 = b7 at *
  subst h1; subst h2
  go_enter Tryd.func34, Tryd.ntmps34
  go_wp2_with fail
  go_ret
  exact ⟨rfl, HB.out⟩
/-- The published example: the key Jefe. -/
def jefe : List (BitVec 8) := [74#8, 101#8, 102#8, 101#8]
def jefeText : List (BitVec 8) := [119#8, 104#8, 97#8, 116#8, 32#8, 100#8, 111#8, 32#8, 121#8, 97#8, 32#8, 119#8, 97#8, 110#8, 116#8, 32#8, 102#8, 111#8, 114#8, 32#8, 110#8, 111#8, 116#8, 104#8, 105#8, 110#8, 103#8, 63#8]
def jefeCode : List (BitVec 8) := [0x5b#8, 0xdc#8, 0xc1#8, 0x46#8, 0xbf#8, 0x60#8, 0x75#8, 0x4e#8, 0x6a#8, 0x04#8, 0x24#8, 0x26#8, 0x08#8, 0x95#8, 0x75#8, 0xc7#8, 0x5a#8, 0x00#8, 0x3f#8, 0x08#8, 0x9d#8, 0x27#8, 0x39#8, 0x83#8, 0x9d#8, 0xec#8, 0x58#8, 0xb9#8, 0x64#8, 0xec#8, 0x38#8, 0x43#8]
theorem jefe_code : macOf jefe jefeText = jefeCode := by decide +kernel
end Go.Proofs.YtifnflhkcpchhaaDoor
