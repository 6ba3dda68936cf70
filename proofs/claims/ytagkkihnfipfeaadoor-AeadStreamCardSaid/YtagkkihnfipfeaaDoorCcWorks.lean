/-
  The contracts of the law's own counted and works: the published block; works returns true, and nothing that was there changes.
-/
import Derived.Test.YtagkkihnfipfeaaDoorCcWords
import Derived.Test.YtagkkihnfipfeaaDoorCcBlock
namespace Go.Proofs.YtagkkihnfipfeaaDoor
open Go.RowKit Go.Proofs.ShaWords

/-- The key 0, 1, 2 and so on. -/
def countedK : List (BitVec 8) := (List.range 32).map (BitVec.ofNat 8)
def countTo (k : Nat) : List (BitVec 8) := (List.range k).map (BitVec.ofNat 8) ++ noughts (32 - k)
theorem countTo_length (k : Nat) (hk : k ≤ 32) : (countTo k).length = 32 := by simp [countTo, noughts]; omega
theorem countTo_set (k : Nat) (hk : k < 32) : (countTo k).set k (BitVec.ofNat 8 k) = countTo (k + 1) := by
  unfold countTo noughts
  obtain ⟨m, hm⟩ : ∃ m, 32 - k = m + 1 := ⟨31 - k, by omega⟩
  rw [hm, show 32 - (k + 1) = m by omega, List.set_append_right _ _ (by simp), List.range_succ, List.map_append]
  simp [List.replicate_succ]
theorem countTo_full : countTo 32 = countedK := by simp [countTo, countedK, noughts]
theorem wrap8_nat (m : Nat) : IntKind.u8.wrap (m : Int) = n8 (BitVec.ofNat 8 m) := by
  unfold n8; rw [IntKind.wrap_u8', BitVec.toNat_ofNat]; omega
structure CntW (w : World) (l : List (BitVec 8)) (wr : World) : Prop where
  res : BytesAt wr w.heap.size 23 (noughts 32)
  row : BytesAt wr (w.heap.size + 1) 23 l
  below : Below w.heap.size w wr
theorem CntW.put {w wr : World} {l : List (BitVec 8)} (h : CntW w l wr) (k : Nat) (x : BitVec 8) : CntW w (l.set k x) (wr.setCell ⟨w.heap.size + 1, k, none⟩ (.int .u8 (n8 x))) :=
  ⟨h.res.putOther (by omega) _ _, h.row.put k x, h.below.setCell (by show w.heap.size ≤ w.heap.size + 1; omega) _⟩
attribute [local irreducible] countTo
/-- The published nonce and block. -/
def nonce9 : List (BitVec 8) := [0#8, 0#8, 0#8, 9#8, 0#8, 0#8, 0#8, 0x4A#8, 0#8, 0#8, 0#8, 0#8]
def blockW : List (BitVec 32) := [0x10F1E7E4#32, 0xD13B5915#32, 0x500FDD1F#32, 0xA32071C4#32, 0xC7D1F4C7#32, 0x33C06803#32, 0x0422AA9A#32, 0xC3D46C4E#32, 0xD2826446#32, 0x079FAA09#32, 0x14C2D705#32, 0xD98B02A2#32, 0xB5129CD1#32, 0xDE164EB9#32, 0xCBD083E8#32, 0xA2503C4E#32]
theorem published : ccBlock countedK 1#32 nonce9 = blockW.flatMap beBytes := by decide +kernel
theorem blockW_vals : (wordsV blockW).toArray = #[.int .u32 284288996, .int .u32 3510327573, .int .u32 1343216927, .int .u32 2736812484, .int .u32 3352425671, .int .u32 868247555, .int .u32 69380762, .int .u32 3285478478, .int .u32 3531760710, .int .u32 127904265, .int .u32 348313349, .int .u32 3649766050, .int .u32 3037895889, .int .u32 3726003897, .int .u32 3419440104, .int .u32 2723167310] := by kernel_rfl

attribute [local irreducible] ccBlock countedK
end Go.Proofs.YtagkkihnfipfeaaDoor
