/-
  The kit's SameBytes at any two lists.
-/
import Derived.Test.YtagkkihnfipfeaaDoorBytes
namespace Go.Proofs.YtagkkihnfipfeaaDoor
open Go.RowKit Go.Proofs.ShaWords
theorem take_next {l m : List (BitVec 8)} {k : Nat} (h1 : k < l.length) (h2 : k < m.length) (h : l.take k = m.take k) (he : l[k] = m[k]) : l.take (k + 1) = m.take (k + 1) := by
  rw [List.take_succ_eq_append_getElem h1, List.take_succ_eq_append_getElem h2, h, he]
theorem n8_eq {x y : BitVec 8} (h : x ≠ y) : ¬ n8 x = n8 y := fun e => h (by
  unfold n8 at e
  exact BitVec.eq_of_toNat_eq (by omega))
set_option maxHeartbeats 800000 in
theorem sameBytes_any (l m : List (BitVec 8)) (n1 n2 : Nat) (p q : Option Addr) (c1 c2 : Nat) (w : World) (h1 : l.length = n1) (h2 : m.length = n2) (hn1 : n1 < 1000000) (hn2 : n2 < 1000000) (hp : Lies w p l) (hq : Lies w q m) :
    Calls Tryd.prog 14 #[.slice p n1 c1, .slice q n2 c2] w fun e w' => e = .returned (.bool (decide (l = m))) ∧ Below w.heap.size w w' := by
  have HP := Lib.hid hp; clear hp
  have HQ := Lib.hid hq; clear hq
  by_cases hne : n1 = n2
  · subst hne
    by_cases heq : l = m
    · subst heq
      refine (same_any l n1 p q c1 c2 w h1 hn1 HP.out HQ.out).mono ?_
      rintro e w' ⟨rfl, hb⟩
      exact ⟨by simp, hb⟩
    have HNE : Hid (decide (l = m) = false) := show _ = _ by simpa using heq
    have HL1 := Lib.hid h1
    have HL2 := Lib.hid h2
    have HEQ := Lib.hid heq
    clear h1 h2 heq
    go_enter Tryd.func14, Tryd.ntmps14
    go_wp2_with fail
    go_loopw [5] (fun i wr => ∃ k : Nat, k ≤ n1 ∧ i = .int .i64 k ∧ l.take k = m.take k ∧ Below w.heap.size w wr) (fun i _ => n1 - (intOf i).toNat)
    case atStart => exact ⟨0, Nat.zero_le _, rfl, by simp, Below.refl _ _⟩
    case round =>
      obtain ⟨k, hk, rfl, ht, hb⟩ := hrel
      by_cases hlt : k < n1
      · have k1 : k < l.length := by rw [HL1.out]; exact hlt
        have k2 : k < m.length := by rw [HL2.out]; exact hlt
        have hv : (bytesV l)[k]? = some (.int .u8 (n8 l[k])) := by simp [bytesV, k1]
        have hv2 : (bytesV m)[k]? = some (.int .u8 (n8 m[k])) := by simp [bytesV, k2]
        rcases HP.out with h0 | ⟨b, off, rfl, hr⟩
        · exfalso; rw [h0] at k1; simp at k1
        rcases HQ.out with h0 | ⟨b2, off2, rfl, hr2⟩
        · exfalso; rw [h0] at k2; simp at k2
        have hc := (hb.cell (p := ⟨b, off + k, none⟩) (World.block_lt_of_cell? w _ (hr k _ hv))).trans (hr k _ hv)
        have hc2 := (hb.cell (p := ⟨b2, off2 + k, none⟩) (World.block_lt_of_cell? w _ (hr2 k _ hv2))).trans (hr2 k _ hv2)
        have HN : Hid (l[k] = m[k] → l.take (k + 1) = m.take (k + 1)) := show _ → _ from fun he => take_next k1 k2 ht he
        generalize l[k] = x at hc hv HN
        generalize m[k] = y at hc2 hv2 HN
        have HB := Lib.hid hb
        clear hb hr hr2 hv hv2 k1 k2 ht
        have q0 : (k : Int) < (n1 : Int) := by omega
        by_cases hxy : x = y
        · subst hxy
          have HN' := Lib.hid (HN.out rfl); clear HN
          go_wp2_with fail
          go_quiet (fail)
          go_wp2_with fail
          go_roundw
          case rel => exact ⟨k + 1, by omega, by go_num, HN'.out, HB.out.trans ⟨rfl, rfl, rfl, Nat.le_refl _, fun _ _ => rfl⟩⟩
          case measure => simp [intOf]; omega
        · have q1 : (n8 x == n8 y) = false := by simpa using n8_eq hxy
          clear HN
          go_wp2_with fail
          go_quiet (fail)
          go_wp2_with fail
          go_ret
          exact ⟨by rw [HNE.out]; rfl, HB.out.trans ⟨rfl, rfl, rfl, Nat.le_refl _, fun _ _ => rfl⟩⟩
      · exfalso
        refine HEQ.out ?_
        rw [List.take_of_length_le (by rw [HL1.out]; omega), List.take_of_length_le (by rw [HL2.out]; omega)] at ht
        exact ht
  · have HNE : Hid (decide (l = m) = false) := show _ = _ by
      have : l ≠ m := fun e => hne (by rw [← h1, ← h2, e])
      simpa using this
    clear h1 h2
    have q0 : ((n1 : Int) == (n2 : Int)) = false := beq_eq_false_iff_ne.2 (by omega)
    have q1 : ¬ (n1 : Int) = (n2 : Int) := by omega
    go_enter Tryd.func14, Tryd.ntmps14
    go_wp2_with fail
    go_ret
    exact ⟨by rw [HNE.out]; rfl, Below.refl _ _⟩
end Go.Proofs.YtagkkihnfipfeaaDoor
