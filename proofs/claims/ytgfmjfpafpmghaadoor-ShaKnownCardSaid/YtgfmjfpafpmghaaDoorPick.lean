/- The kit's Pick: some number below its bound. -/
import Derived.Test.YtgfmjfpafpmghaaDoorGen
namespace Go.Proofs.YtgfmjfpafpmghaaDoor
open Go.RowKit Go.Proofs.ShaWords

theorem tmod_bounds (v n : Int) (h : 1 ≤ n) : -n < v.tmod n ∧ v.tmod n < n := by
  have h1 := Int.tmod_lt_of_pos v (show 0 < n by omega)
  have h2 := Int.tmod_lt_of_pos (-v) (show 0 < n by omega)
  rw [Int.neg_tmod] at h2
  omega
def SomeIn (n : Int) (w : World) (e : Ending) (w' : World) : Prop := ∃ r : Nat, (r : Int) < n ∧ e = .returned (.int .i64 (r : Int)) ∧ w = w'
set_option maxHeartbeats 400000 in
theorem pick_any (v n : Int) (w : World) (h1 : 1 ≤ n) (h2 : n ≤ 1000000) : Calls Tryd.prog 35 #[.int .i64 v, .int .i64 n] w (SomeIn n w) := by
  have hb := tmod_bounds v n h1
  obtain ⟨hb1, hb2⟩ := hb
  have hn0 : ¬ n = 0 := by omega
  by_cases hneg : v.tmod n < 0
  · go_enter Tryd.func35, Tryd.ntmps35
    go_wp2_with fail
    go_ret
    exact ⟨(v.tmod n + n).toNat, by omega, by
      have : ((v.tmod n + n).toNat : Int) = v.tmod n + n := by omega
      rw [this]; rfl, rfl⟩
  · go_enter Tryd.func35, Tryd.ntmps35
    go_wp2_with fail
    go_ret
    exact ⟨(v.tmod n).toNat, by omega, by
      have : ((v.tmod n).toNat : Int) = v.tmod n := by omega
      rw [this]; rfl, rfl⟩

end Go.Proofs.YtgfmjfpafpmghaaDoor
