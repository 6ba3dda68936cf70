/-
  The first 64 primes; the bits behind the point of their roots are the code's two tables, by the kernel's own reckoning.
-/
import Derived.Test.YtgfmjfpafpmghaaDoorRoot
namespace Go.Proofs.YtgfmjfpafpmghaaDoor
open Go.RowKit Go.Proofs.ShaWords
def primes64 : List Nat := [2, 3, 5, 7, 11, 13, 17, 19, 23, 29, 31, 37, 41, 43, 47, 53, 59, 61, 67, 71, 73, 79, 83, 89, 97, 101, 103, 107, 109, 113, 127, 131, 137, 139, 149, 151, 157, 163, 167, 173, 179, 181, 191, 193, 197, 199, 211, 223, 227, 229, 233, 239, 241, 251, 257, 263, 269, 271, 277, 281, 283, 293, 307, 311]
theorem cubes : primes64.map (fun p => BitVec.ofNat 32 (rootTo (fun c => cbLe c p) 35)) = kTable := by decide +kernel
theorem squares : (primes64.take 8).map (fun p => BitVec.ofNat 32 (rootTo (fun c => sqLe c p) 35)) = iv.list := by decide +kernel
theorem primes_small : ∀ p ∈ primes64, p < 512 := by decide +kernel
end Go.Proofs.YtgfmjfpafpmghaaDoor
