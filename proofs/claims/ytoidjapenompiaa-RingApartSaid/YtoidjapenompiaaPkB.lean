/-
  What other texts lean on: KitInts, KrInts.
-/
import Derived.Test.YtoidjapenompiaaPkA
import Derived.Test.YtoidjapenompiaaPkT
import Derived.Test.YtoidjapenompiaaPkZ
import Derived.BigQuiet
/-
  The kit's functions on lists of whole numbers: copied, lent with marks behind, compared, kept (gen_kitints.py, out of Bytes' text).
-/
namespace Go.Proofs.Ytoidjapenompiaa
open Go.RowKit Go.Proofs.ShaWords
/-- A slice of whole numbers of the call's own. -/
def OwnZ (B : Nat) (w : World) (l : List Int) (v : Value) : Prop := w.ownsRow B 3 1 v l.length (intsV l)
theorem OwnZ.nil (B : Nat) (w : World) : OwnZ B w [] (.slice none 0 0) := World.ownsRow_nil w B 3 1
theorem OwnZ.below {B : Nat} {w w' : World} {l : List Int} {v : Value} (h : OwnZ B w l v) (hb : Below w.heap.size w w') : OwnZ B w' l v :=
  World.ownsRow.kept h (grown_below hb (Nat.le_refl _) none) (by cases v.ownBlock <;> simp)
theorem OwnZ.lies {B : Nat} {w : World} {l : List Int} {v : Value} (h : OwnZ B w l v) : ∃ p cap, v = .slice p l.length cap ∧ l.length ≤ cap ∧ cap ≤ maxLen ∧ LiesZ w p l := by
  rcases h.2 with ⟨rfl, h0⟩ | ⟨g, cap, cur, rfl, hg, hh, hc, hm, hs, ht⟩
  · have : l = [] := List.length_eq_zero_iff.1 h0
    subst this
    exact ⟨none, 0, rfl, Nat.le_refl _, Nat.zero_le _, Or.inl rfl⟩
  · refine ⟨some ⟨g, 0, none⟩, cap, rfl, hc, hm, Or.inr ⟨g, 0, rfl, fun j v hv => ?_⟩⟩
    rw [Nat.zero_add, cell_of_row w g j cur 3 (0, 0) hh]
    rw [← ht, Nat.mul_one, List.getElem?_take] at hv
    split at hv
    · rw [← hv]; simp
    · cases hv
set_option maxHeartbeats 400000 in
/-- Two lists of the same bytes are told to be the same. -/
theorem sameZ_any (l : List Int) (n : Nat) (p q : Option Addr) (c1 c2 : Nat) (w : World) (hln : l.length = n) (hl : n < 1000000) (hp : LiesZ w p l) (hq : LiesZ w q l) :
    Calls Try.prog 19 #[.slice p n c1, .slice q n c2] w fun e w' => e = .returned (.bool true) ∧ Below w.heap.size w w' := by
  have HP := Lib.hid hp; clear hp
  have HQ := Lib.hid hq; clear hq
  have HN := Lib.hid hln; clear hln
  go_enter Try.func19, Try.ntmps19
  go_wp2_with fail
  go_loopw [5] (fun i wr => ∃ k : Nat, k ≤ n ∧ i = .int .i64 k ∧ Below w.heap.size w wr) (fun i _ => n - (intOf i).toNat)
  case atStart => exact ⟨0, Nat.zero_le _, rfl, Below.refl _ _⟩
  case round =>
    obtain ⟨k, hk, rfl, hb⟩ := hrel
    by_cases hlt : k < n
    · have hlt' : k < l.length := by rw [HN.out]; exact hlt
      have hv : (intsV l)[k]? = some (.int .i64 l[k]) := by simp [intsV, hlt']
      rcases HP.out with h0 | ⟨b, off, rfl, hr⟩
      · exfalso; rw [h0] at hlt'; simp at hlt'
      rcases HQ.out with h0 | ⟨b2, off2, rfl, hr2⟩
      · exfalso; rw [h0] at hlt'; simp at hlt'
      have hc := (hb.cell (p := ⟨b, off + k, none⟩) (World.block_lt_of_cell? w _ (hr k _ hv))).trans (hr k _ hv)
      have hc2 := (hb.cell (p := ⟨b2, off2 + k, none⟩) (World.block_lt_of_cell? w _ (hr2 k _ hv))).trans (hr2 k _ hv)
      generalize l[k] = x at hc hc2 hv
      have HB := Lib.hid hb
      clear hb hr hr2 hv hlt'
      have q0 : (k : Int) < (n : Int) := by omega
      go_wp2_with fail
      go_quiet (fail)
      go_wp2_with fail
      go_roundw
      case rel => exact ⟨k + 1, by omega, by go_num, HB.out.trans ⟨rfl, rfl, rfl, Nat.le_refl _, fun _ _ => rfl⟩⟩
      case measure => simp [intOf]; omega
    · have HB := Lib.hid hb; clear hb
      go_wp2_with fail
      go_ret
      exact ⟨rfl, HB.out⟩

end Go.Proofs.Ytoidjapenompiaa

/-
  Slots as lists of whole numbers, for the kit's SameInts.
-/
namespace Go.Proofs.Ytoidjapenompiaa
open Go.RowKit Go.Proofs.ShaWords
def zs (l : List Nat) : List Int := l.map fun (n : Nat) => (n : Int)
theorem numsV_zs (l : List Nat) : numsV l = intsV (zs l) := by simp [numsV, intsV, zs]
theorem LiesI.toZ {w : World} {p : Option Addr} {l : List Nat} (h : LiesI w p l) : LiesZ w p (zs l) := by
  rcases h with h0 | ⟨b, off, rfl, hr⟩
  · exact Or.inl (by rw [h0]; rfl)
  · exact Or.inr ⟨b, off, rfl, by rw [← numsV_zs]; exact hr⟩
theorem lits_lie (w : World) (l : List Int) : LiesZ (w.alloc (.cells (intsV l).toArray 3)) (some ⟨w.heap.size, 0, none⟩) l :=
  Or.inr ⟨_, 0, rfl, fun j v hv => by
    rw [Nat.zero_add, cell_of_row _ _ j _ _ _ (heap_new_at rfl)]
    simpa using hv⟩
/-- A slice of one's own, as a list of whole numbers that lies somewhere. -/
theorem OwnI.out {B : Nat} {w : World} {l : List Nat} {v : Value} (h : OwnI B w l v) : ∃ p cap, v = .slice p l.length cap ∧ LiesZ w p (zs l) := by
  obtain ⟨p, cap, rfl, -, hl⟩ := h.lies
  exact ⟨p, cap, rfl, hl.toZ⟩
end Go.Proofs.Ytoidjapenompiaa
