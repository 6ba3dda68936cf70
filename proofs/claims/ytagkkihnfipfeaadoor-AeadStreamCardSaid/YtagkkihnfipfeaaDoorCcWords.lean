/-
  The contract of the law's own words: the bytes of words, the highest first.
-/
import Derived.Test.YtagkkihnfipfeaaDoorAppendOps
import Derived.Deep.CutRange
namespace Go.Proofs.YtagkkihnfipfeaaDoor
open Go.RowKit Go.Proofs.ShaWords

/-- A word's four bytes, the highest first. -/
def beBytes (x : BitVec 32) : List (BitVec 8) := [lo8 (x >>> 24), lo8 (x >>> 16), lo8 (x >>> 8), lo8 x]
theorem beFlat_length (l : List (BitVec 32)) : (l.flatMap beBytes).length = 4 * l.length := by
  induction l with
  | nil => rfl
  | cons a r ih => rw [List.flatMap_cons, List.length_append, ih]; simp [beBytes]; omega
theorem beFlat_succ (L : List (BitVec 32)) (k : Nat) (hk : k < L.length) : (L.take (k + 1)).flatMap beBytes = (L.take k).flatMap beBytes ++ beBytes (L.getD k 0#32) := by
  rw [List.take_succ_eq_append_getElem hk, List.flatMap_append]
  simp [List.getD, hk]

end Go.Proofs.YtagkkihnfipfeaaDoor
