/-
  The document's constants out of the roots of primes: math/bits.Mul64 (the library's contract, laid for this program), below, Root.
-/
import Derived.Test.YtgfmjfpafpmghaaDoorWorks
import Derived.Shelf.Bits.Mul64
namespace Go.Proofs.YtgfmjfpafpmghaaDoor
open Go.RowKit Go.Proofs.ShaWords Go.Shelf

def mulRen : Ren := ⟨fun f => if f = 264 then 54 else f, fun t => if t = 46 then 62 else if t = 53 then 58 else t, fun g => g⟩
theorem mulLays : Lays.n264 Tryd.prog mulRen where
  mixed := by kernel_rfl
  f264 := Tryd.func54.trans (by kernel_rfl)
  t46 := Tryd.underlying62
  a46 := fun w => by kernel_rfl
  z46 := fun w => by kernel_rfl
  v46 := fun w => by kernel_rfl
  t53 := Tryd.underlying58
  a53 := fun w => by kernel_rfl
  z53 := fun w => by kernel_rfl
  v53 := fun w => by kernel_rfl
theorem mul_any (x y : Nat) (hx : x < 18446744073709551616) (hy : y < 18446744073709551616) (w : World) :
    Calls Tryd.prog 54 #[.int .u64 x, .int .u64 y] w fun e w' => e = .returned (.tuple #[.int .u64 ((x * y / 18446744073709551616 : Nat) : Int), .int .u64 ((x * y % 18446744073709551616 : Nat) : Int)]) ∧ w = w' :=
  (Any.bits_Mul64 mulLays x y hx hy w).mono fun _ _ h => ⟨h.1, h.2.symm⟩

/-- Is this square, this cube, at most p times that power of 2^32? (As the document's answer reckons it, in halves of 64 bits.) -/
def sqLe (c p : Nat) : Bool := decide (c * c / 18446744073709551616 < p) || (decide (c * c / 18446744073709551616 = p) && decide (c * c % 18446744073709551616 = 0))
def top3 (c : Nat) : Nat := c * c / 18446744073709551616 * c + c * c % 18446744073709551616 * c / 18446744073709551616
def last3 (c : Nat) : Nat := c * c % 18446744073709551616 * c % 18446744073709551616
def cbLe (c p : Nat) : Bool := decide (top3 c < p * 4294967296) || (decide (top3 c = p * 4294967296) && decide (last3 c = 0))
theorem hi_small (c : Nat) (hc : c < 68719476736) : c * c / 18446744073709551616 < 256 := by
  have h : c * c ≤ 68719476735 * 68719476735 := Nat.mul_le_mul (by omega) (by omega)
  omega
theorem top3_small (c : Nat) (hc : c < 68719476736) : top3 c < 1152921504606846976 := by
  have h1 := hi_small c hc
  have h2 : c * c / 18446744073709551616 * c ≤ 255 * 68719476735 := Nat.mul_le_mul (by omega) (by omega)
  have h3 : c * c % 18446744073709551616 * c ≤ 18446744073709551615 * 68719476735 := Nat.mul_le_mul (by omega) (by omega)
  unfold top3; omega
set_option maxRecDepth 100000 in
set_option maxHeartbeats 1000000 in
theorem below2_any (c p : Nat) (w : World) (hc : c < 68719476736) :
    Calls Tryd.prog 44 #[.int .u64 c, .int .u64 p, .int .i64 2] w fun e w' => e = .returned (.bool (sqLe c p)) ∧ w = w' := by
  have HM := Lib.hid (fun w => mul_any c c (by omega) (by omega) w)
  have hh := hi_small c hc
  have hl : c * c % 18446744073709551616 < 18446744073709551616 := Nat.mod_lt _ (by omega)
  have HF : Hid (sqLe c p = (decide (c * c / 18446744073709551616 < p) || (decide (c * c / 18446744073709551616 = p) && decide (c * c % 18446744073709551616 = 0)))) := rfl
  generalize c * c / 18446744073709551616 = hi at HM hh HF
  generalize c * c % 18446744073709551616 = lo at HM hl HF
  have fin : ∀ b, (decide (hi < p) || (decide (hi = p) && decide (lo = 0))) = b → Ending.returned (.bool b) = Ending.returned (.bool (sqLe c p)) := fun b hb => by rw [HF.out, hb]
  have FIN := Lib.hid fin; clear fin
  by_cases h1 : hi < p
  · have d1 : decide ((hi : Int) < (p : Int)) = true := decide_eq_true (by omega)
    go_enter Tryd.func44, Tryd.ntmps44
    go_wp2_with fail
    refine (HM.out w).mono ?_
    rintro e w' ⟨rfl, rfl⟩
    go_wp2_with fail
    go_ret
    exact ⟨FIN.out true (by simp [h1]), rfl⟩
  · have d1 : decide ((hi : Int) < (p : Int)) = false := decide_eq_false (by omega)
    by_cases h2 : hi = p
    · have d2 : ((hi : Int) == (p : Int)) = true := beq_iff_eq.2 (by omega)
      by_cases h3 : lo = 0
      · have d3 : ((lo : Int) == 0) = true := beq_iff_eq.2 (by omega)
        have F1 := Lib.hid (FIN.out true (by simp [h2, h3])); have H2 := Lib.hid h2; have H3 := Lib.hid h3; clear h2 h3
        go_enter Tryd.func44, Tryd.ntmps44
        go_wp2_with fail
        refine (HM.out w).mono ?_
        rintro e w' ⟨rfl, rfl⟩
        go_wp2_with fail
        go_ret
        exact ⟨F1.out, rfl⟩
      · have d3 : ((lo : Int) == 0) = false := beq_eq_false_iff_ne.2 (by omega)
        have F1 := Lib.hid (FIN.out false (by simp [h2, h3])); have H2 := Lib.hid h2; clear h2
        go_enter Tryd.func44, Tryd.ntmps44
        go_wp2_with fail
        refine (HM.out w).mono ?_
        rintro e w' ⟨rfl, rfl⟩
        go_wp2_with fail
        go_ret
        exact ⟨F1.out, rfl⟩
    · have d2 : ((hi : Int) == (p : Int)) = false := beq_eq_false_iff_ne.2 (by omega)
      have F1 := Lib.hid (FIN.out false (by simp [h1, h2]))
      go_enter Tryd.func44, Tryd.ntmps44
      go_wp2_with fail
      refine (HM.out w).mono ?_
      rintro e w' ⟨rfl, rfl⟩
      go_wp2_with fail
      go_ret
      exact ⟨F1.out, rfl⟩
set_option maxRecDepth 100000 in
set_option maxHeartbeats 1000000 in
theorem below3_any (c p : Nat) (w : World) (hc : c < 68719476736) (hp : p < 512) :
    Calls Tryd.prog 44 #[.int .u64 c, .int .u64 p, .int .i64 3] w fun e w' => e = .returned (.bool (cbLe c p)) ∧ w = w' := by
  have HM := Lib.hid (fun w => mul_any c c (by omega) (by omega) w)
  have hh := hi_small c hc
  have hl : c * c % 18446744073709551616 < 18446744073709551616 := Nat.mod_lt _ (by omega)
  have HM2 := Lib.hid (fun w => mul_any (c * c % 18446744073709551616) c hl (by omega) w)
  have HF : Hid (cbLe c p = (decide (top3 c < p * 4294967296) || (decide (top3 c = p * 4294967296) && decide (last3 c = 0)))) := rfl
  have HT : Hid (top3 c = c * c / 18446744073709551616 * c + c * c % 18446744073709551616 * c / 18446744073709551616) := rfl
  have ht := top3_small c hc
  have HLA : Hid (c * c % 18446744073709551616 * c % 18446744073709551616 = last3 c) := rfl
  generalize c * c / 18446744073709551616 = hi at HM hh HT
  generalize c * c % 18446744073709551616 = lo at HM HM2 hl HT HLA
  rw [HLA.out] at HM2
  generalize lo * c / 18446744073709551616 = more at HM2 HT
  generalize last3 c = la at HM2 HF
  clear HLA
  have h2 : hi * c ≤ 255 * 68719476735 := Nat.mul_le_mul (by omega) (by omega)
  have e1 : IntKind.u64.wrap ((hi : Int) * (c : Int)) = ((hi * c : Nat) : Int) := by rw [← Int.natCast_mul, IntKind.wrap_u64]; omega
  have e2 : IntKind.u64.wrap (((hi * c : Nat) : Int) + (more : Int)) = ((top3 c : Nat) : Int) := by rw [HT.out, ← Int.natCast_add, IntKind.wrap_u64]; have := HT.out; omega
  have e3 : IntKind.u64.wrap ((p : Int) * 4294967296) = ((p * 4294967296 : Nat) : Int) := by rw [IntKind.wrap_u64]; omega
  generalize top3 c = top at HF e2 ht
  generalize hlim : p * 4294967296 = lim at HF e3
  clear HT h2 hlim
  generalize hi * c = hc2 at e1 e2
  have fin : ∀ b, (decide (top < lim) || (decide (top = lim) && decide (la = 0))) = b → Ending.returned (.bool b) = Ending.returned (.bool (cbLe c p)) := fun b hb => by rw [HF.out, hb]
  have FIN := Lib.hid fin; clear fin
  by_cases h1 : top < lim
  · have d1 : decide ((top : Int) < (lim : Int)) = true := decide_eq_true (by omega)
    go_enter Tryd.func44, Tryd.ntmps44
    go_wp2_with fail
    refine (HM.out w).mono ?_
    rintro e w' ⟨rfl, rfl⟩
    go_wp2_with fail
    refine (HM2.out w).mono ?_
    rintro e w' ⟨rfl, rfl⟩
    go_wp2_with fail
    go_ret
    exact ⟨FIN.out true (by simp [h1]), rfl⟩
  · have d1 : decide ((top : Int) < (lim : Int)) = false := decide_eq_false (by omega)
    by_cases h2 : top = lim
    · have d2 : ((top : Int) == (lim : Int)) = true := beq_iff_eq.2 (by omega)
      by_cases h3 : la = 0
      · have d3 : ((la : Int) == 0) = true := beq_iff_eq.2 (by omega)
        have F1 := Lib.hid (FIN.out true (by simp [h2, h3])); have H2 := Lib.hid h2; have H3 := Lib.hid h3; clear h2 h3
        go_enter Tryd.func44, Tryd.ntmps44
        go_wp2_with fail
        refine (HM.out w).mono ?_
        rintro e w' ⟨rfl, rfl⟩
        go_wp2_with fail
        refine (HM2.out w).mono ?_
        rintro e w' ⟨rfl, rfl⟩
        go_wp2_with fail
        go_ret
        exact ⟨F1.out, rfl⟩
      · have d3 : ((la : Int) == 0) = false := beq_eq_false_iff_ne.2 (by omega)
        have F1 := Lib.hid (FIN.out false (by simp [h2, h3])); have H2 := Lib.hid h2; clear h2
        go_enter Tryd.func44, Tryd.ntmps44
        go_wp2_with fail
        refine (HM.out w).mono ?_
        rintro e w' ⟨rfl, rfl⟩
        go_wp2_with fail
        refine (HM2.out w).mono ?_
        rintro e w' ⟨rfl, rfl⟩
        go_wp2_with fail
        go_ret
        exact ⟨F1.out, rfl⟩
    · have d2 : ((top : Int) == (lim : Int)) = false := beq_eq_false_iff_ne.2 (by omega)
      have F1 := Lib.hid (FIN.out false (by simp [h1, h2]))
      go_enter Tryd.func44, Tryd.ntmps44
      go_wp2_with fail
      refine (HM.out w).mono ?_
      rintro e w' ⟨rfl, rfl⟩
      go_wp2_with fail
      refine (HM2.out w).mono ?_
      rintro e w' ⟨rfl, rfl⟩
      go_wp2_with fail
      go_ret
      exact ⟨F1.out, rfl⟩
end Go.Proofs.YtgfmjfpafpmghaaDoor
