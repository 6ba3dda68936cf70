/-
  The document's constants out of the roots of primes: Root; the bits of the 72 roots by the kernel's own reckoning.
-/
import Derived.Test.YtgfmjfpafpmghaaDoorRoots
import Derived.Test.YtgfmjfpafpmghaaDoorRefConsts
namespace Go.Proofs.YtgfmjfpafpmghaaDoor
open Go.RowKit Go.Proofs.ShaWords

/-- The bit that is tried in round k. -/
def bitAt (k : Nat) : Nat := 17179869184 / 2 ^ k
theorem bitAt_succ (k : Nat) : bitAt (k + 1) = bitAt k / 2 := by unfold bitAt; rw [Nat.pow_succ, Nat.div_div_eq_div_mul]
theorem bitAt_pos (k : Nat) : 0 < bitAt k ↔ k < 35 := by
  unfold bitAt
  constructor
  · intro h
    rcases Nat.lt_or_ge k 35 with h1 | h1
    · exact h1
    · have h2 : 2 ^ 35 ≤ 2 ^ k := Nat.pow_le_pow_right (by omega) h1
      rw [Nat.div_eq_of_lt (by omega)] at h; omega
  · intro h
    have h2 : 2 ^ k ≤ 2 ^ 34 := Nat.pow_le_pow_right (by omega) (by omega)
    exact Nat.div_pos (by omega) (Nat.two_pow_pos k)
/-- What the rounds have found. -/
def rootTo (le : Nat → Bool) : Nat → Nat
  | 0 => 0
  | k + 1 => if le (rootTo le k + bitAt k) then rootTo le k + bitAt k else rootTo le k
theorem rootTo_succ (le : Nat → Bool) (k : Nat) : rootTo le (k + 1) = if le (rootTo le k + bitAt k) then rootTo le k + bitAt k else rootTo le k := rfl
attribute [local irreducible] bitAt rootTo
set_option maxRecDepth 100000 in
set_option maxHeartbeats 1000000 in
theorem root_any (le : Nat → Bool) (p : Nat) (power : Int) (w : World)
    (hb : ∀ (c : Nat) (w : World), c < 68719476736 → Calls Tryd.prog 44 #[.int .u64 (c : Int), .int .u64 p, .int .i64 power] w fun e w' => e = .returned (.bool (le c)) ∧ w = w') :
    Calls Tryd.prog 29 #[.int .u64 p, .int .i64 power] w fun e w' => e = .returned (.int .u32 ((rootTo le 35 % 4294967296 : Nat) : Int)) ∧ w = w' := by
  have HB := Lib.hid hb; clear hb
  have HZ : Hid (bitAt 0 = 17179869184 ∧ rootTo le 0 = 0) := by
    show _ ∧ _
    unfold bitAt rootTo; exact ⟨by decide, rfl⟩
  go_enter Tryd.func29, Tryd.ntmps29
  go_wp2_with fail
  go_loopw [5, 6] (fun c b wr => ∃ k : Nat, k ≤ 35 ∧ c = .int .u64 (rootTo le k : Nat) ∧ b = .int .u64 (bitAt k : Nat) ∧ rootTo le k + 2 * bitAt k ≤ 34359738368 ∧ w = wr) (fun _ b _ => (intOf b).toNat)
  case atStart => exact ⟨0, by omega, by rw [HZ.out.2]; rfl, by rw [HZ.out.1]; rfl, by rw [HZ.out.1, HZ.out.2]; omega, rfl⟩
  case round =>
    clear HZ
    obtain ⟨k, hk, rfl, rfl, hle, rfl⟩ := hrel
    have hpos := bitAt_pos k
    have HBS := Lib.hid (bitAt_succ k)
    have HRS := Lib.hid (rootTo_succ le k)
    generalize bitAt k = b at hle hpos HBS HRS ⊢
    generalize hce : rootTo le k = c at hle HRS ⊢
    have HCE := Lib.hid hce; clear hce
    by_cases hlt : k < 35
    · have hb0 : 0 < b := hpos.2 hlt
      have hb1 : (0 : Int) < (b : Int) := by omega
      have hcb : c + b < 68719476736 := by omega
      have HC := Lib.hid (HB.out (c + b) w hcb)
      rw [Int.natCast_add] at HC
      have i1 : (c : Int) + (b : Int) < 68719476736 := by omega
      clear hpos
      cases hl : le (c + b)
      · rw [hl] at HC HRS
        have HL := Lib.hid hl; clear hl
        go_wp2_with fail
        refine HC.out.mono ?_
        rintro e w' ⟨rfl, rfl⟩
        go_wp2_with fail
        have hr : rootTo le (k + 1) = c := by rw [HRS.out]; simp
        exact ⟨⟨k + 1, by omega, by rw [hr], by rw [HBS.out, Int.natCast_ediv]; rfl, by rw [hr, HBS.out]; omega, trivial⟩, by simp [intOf]; omega⟩
      · rw [hl] at HC HRS
        have HL := Lib.hid hl; clear hl
        go_wp2_with fail
        refine HC.out.mono ?_
        rintro e w' ⟨rfl, rfl⟩
        go_wp2_with fail
        have hr : rootTo le (k + 1) = c + b := by rw [HRS.out]; simp
        exact ⟨⟨k + 1, by omega, by rw [hr, Int.natCast_add], by rw [HBS.out, Int.natCast_ediv]; rfl, by rw [hr, HBS.out]; omega, trivial⟩, by simp [intOf]; omega⟩
    · have HK : Hid (k = 35) := show k = 35 by omega
      have hb0 : ¬ 0 < b := fun h => hlt (hpos.1 h)
      have hb1 : ¬ (0 : Int) < (b : Int) := by omega
      go_wp2_with fail
      go_ret
      refine ⟨?_, rfl⟩
      rw [← HK.out, HCE.out]
      rfl
theorem root2_any (p : Nat) (w : World) :
    Calls Tryd.prog 29 #[.int .u64 p, .int .i64 2] w fun e w' => e = .returned (.int .u32 ((rootTo (fun c => sqLe c p) 35 % 4294967296 : Nat) : Int)) ∧ w = w' :=
  root_any (fun c => sqLe c p) p 2 w (fun c w hc => below2_any c p w hc)
theorem root3_any (p : Nat) (w : World) (hp : p < 512) :
    Calls Tryd.prog 29 #[.int .u64 p, .int .i64 3] w fun e w' => e = .returned (.int .u32 ((rootTo (fun c => cbLe c p) 35 % 4294967296 : Nat) : Int)) ∧ w = w' :=
  root_any (fun c => cbLe c p) p 3 w (fun c w hc => below3_any c p w hc hp)
end Go.Proofs.YtgfmjfpafpmghaaDoor
