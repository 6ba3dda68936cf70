/-
  The contracts of math/bits.RotateLeft32 and sha.turned: for every word, and turns from 1 to 31.
-/
import Derived.Test.YtgfmjfpafpmghaaDoorGen
import Derived.WalkSpells
import Derived.Lib.Hide
namespace Go.Proofs.YtgfmjfpafpmghaaDoor
open Go.RowKit Go.Proofs.ShaWords

theorem turn_by (n : Int) (h1 : 1 ≤ n) (h2 : n ≤ 31) : bits .and .u64 (IntKind.u64.wrap (-n)) 31 = 32 - n := by
  obtain ⟨k, rfl⟩ := Int.eq_ofNat_of_zero_le (show 0 ≤ n by omega)
  have hk : k < 32 := by omega
  have hk1 : 1 ≤ k := by omega
  have H : ∀ k : Fin 32, 1 ≤ k.val → bits .and .u64 (IntKind.u64.wrap (-(k.val : Int))) 31 = 32 - (k.val : Int) := by decide
  exact H ⟨k, hk⟩ hk1

attribute [local go_sem] and32 or32 xor32 add32 shl32 shr32

set_option maxHeartbeats 400000 in
theorem rot_any (x : BitVec 32) (n : Int) (w : World) (h1 : 1 ≤ n) (h2 : n ≤ 31) :
    Calls Tryd.prog 60 #[.int .u32 (n32 x), .int .i64 (-n)] w fun e w' => e = .returned (.int .u32 (n32 (rr x n.toNat))) ∧ w = w' := by
  have hb := turn_by n h1 h2
  go_enter Tryd.func60, Tryd.ntmps60
  go_wp2
  go_ret
  refine ⟨?_, rfl⟩
  show Ending.returned (.int .u32 (n32 (x <<< (32 - n).toNat ||| x >>> (32 - (32 - n)).toNat))) = _
  unfold rr
  rw [show (32 - n).toNat = 32 - n.toNat by omega, show (32 - (32 - n)).toNat = n.toNat by omega]

/-- The exclusive or of a word's turns. -/
def turns (x : BitVec 32) (ns : List Int) : BitVec 32 := ns.foldl (fun s n => s ^^^ rr x n.toNat) 0#32
theorem turns_snoc (x : BitVec 32) (ns : List Int) (k : Nat) (h : k < ns.length) : turns x (ns.take (k + 1)) = turns x (ns.take k) ^^^ rr x (ns[k]).toNat := by
  unfold turns; rw [List.take_succ_eq_append_getElem h, List.foldl_append]; rfl

set_option maxHeartbeats 400000 in
theorem turned_any (x : BitVec 32) (ns : List Int) (b cap : Nat) (w : World) (hl : ns.length ≤ 8) (hr : ∀ n ∈ ns, 1 ≤ n ∧ n ≤ 31)
    (hc : ∀ (i : Nat) (h : i < ns.length), w.cell? ⟨b, i, none⟩ = some (.int .i64 ns[i])) :
    Calls Tryd.prog 59 #[.int .u32 (n32 x), .slice (some ⟨b, 0, none⟩) ns.length cap] w fun e w' => e = .returned (.int .u32 (n32 (turns x ns))) ∧ w = w' := by
  have HC := Lib.hid hc; clear hc
  have HR := Lib.hid hr; clear hr
  go_enter Tryd.func59, Tryd.ntmps59
  go_wp2
  go_loop [5, 10] (fun s i => ∃ k : Nat, k ≤ ns.length ∧ i = .int .i64 k ∧ s = .int .u32 (n32 (turns x (ns.take k)))) (fun _ i => ns.length - (intOf i).toNat)
  case atStart => exact ⟨0, Nat.zero_le _, rfl, rfl⟩
  case round =>
    obtain ⟨k, hk, rfl, rfl⟩ := hrel
    by_cases hlt : k < ns.length
    · have hcell := HC.out k hlt
      have h1 := (HR.out ns[k] (List.getElem_mem hlt)).1
      have h2 := (HR.out ns[k] (List.getElem_mem hlt)).2
      have HS := Lib.hid (turns_snoc x ns k hlt)
      generalize ns[k] = m at *
      go_wp2_with (go_at_call 60; refine (rot_any _ _ _ h1 h2).mono ?_; rintro e w' ⟨rfl, rfl⟩)
      go_round
      case rel => exact ⟨k + 1, by omega, by go_num, by rw [HS.out]⟩
      case measure => simp [intOf]; omega
    · go_wp2_with fail
      go_ret
      refine ⟨?_, rfl⟩
      rw [show k = ns.length by omega, List.take_length]
      rfl

theorem turned_two (x : BitVec 32) (n1 n2 : Int) (b cap : Nat) (w : World) (h1 : 1 ≤ n1 ∧ n1 ≤ 31) (h2 : 1 ≤ n2 ∧ n2 ≤ 31)
    (c1 : w.cell? ⟨b, 0, none⟩ = some (.int .i64 n1)) (c2 : w.cell? ⟨b, 1, none⟩ = some (.int .i64 n2)) :
    Calls Tryd.prog 59 #[.int .u32 (n32 x), .slice (some ⟨b, 0, none⟩) 2 cap] w fun e w' => e = .returned (.int .u32 (n32 (rr x n1.toNat ^^^ rr x n2.toNat))) ∧ w = w' := by
  have h := turned_any x [n1, n2] b cap w (by simp) (by simp; exact ⟨h1, h2⟩) (fun i hi => by
    rcases i with _ | _ | i
    · exact c1
    · exact c2
    · exfalso; simp at hi; omega)
  have e : turns x [n1, n2] = rr x n1.toNat ^^^ rr x n2.toNat := by simp [turns]
  rw [e] at h
  exact h
theorem turned_three (x : BitVec 32) (n1 n2 n3 : Int) (b cap : Nat) (w : World) (h1 : 1 ≤ n1 ∧ n1 ≤ 31) (h2 : 1 ≤ n2 ∧ n2 ≤ 31) (h3 : 1 ≤ n3 ∧ n3 ≤ 31)
    (c1 : w.cell? ⟨b, 0, none⟩ = some (.int .i64 n1)) (c2 : w.cell? ⟨b, 1, none⟩ = some (.int .i64 n2)) (c3 : w.cell? ⟨b, 2, none⟩ = some (.int .i64 n3)) :
    Calls Tryd.prog 59 #[.int .u32 (n32 x), .slice (some ⟨b, 0, none⟩) 3 cap] w fun e w' => e = .returned (.int .u32 (n32 (rr x n1.toNat ^^^ rr x n2.toNat ^^^ rr x n3.toNat))) ∧ w = w' := by
  have h := turned_any x [n1, n2, n3] b cap w (by simp) (by simp; exact ⟨h1, h2, h3⟩) (fun i hi => by
    rcases i with _ | _ | _ | i
    · exact c1
    · exact c2
    · exact c3
    · exfalso; simp at hi; omega)
  have e : turns x [n1, n2, n3] = rr x n1.toNat ^^^ rr x n2.toNat ^^^ rr x n3.toNat := by simp [turns]
  rw [e] at h
  exact h
end Go.Proofs.YtgfmjfpafpmghaaDoor
