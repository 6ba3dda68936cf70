/-
  What other texts lean on: WaL, WaKnP, FrSameM, WaKn, KitRow, WaRow, WaIn, WaK.
-/
import Derived.Test.YtdkoomcmkfnfkaaDoorPkA
import Derived.Test.YtdkoomcmkfnfkaaDoorPkZ
import Derived.Test.YtdkoomcmkfnfkaaDoorPkD
import Derived.Test.YtdkoomcmkfnfkaaDoorPkF
import Derived.Test.YtdkoomcmkfnfkaaDoorPkG
/-
  A log of the call's own beside its disk, and blocks of others that its calls leave alone.
-/
namespace Go.Proofs.YtdkoomcmkfnfkaaDoor
open Go.RowKit Go.Proofs.ShaWords
theorem write_else (d : DiskM) (f : Nat) (b : List (BitVec 8)) {s : Nat} (h : s ≠ f) : (d.write (f : Int) b).1.files s = d.files s := by
  unfold DiskM.write
  split
  · rfl
  · split
    · rfl
    · unfold DiskM.exec
      split
      · show writeF _ _ _ _ = _
        rw [Int.toNat_natCast, write_other _ _ h]
      · rfl
theorem syncedW_else (d : DiskM) (E : Nat) {s : Nat} (h : s ≠ E) : (syncedW d E).1.files s = d.files s := by
  unfold syncedW
  split
  · rfl
  · unfold DiskM.sync
    split
    · rfl
    · unfold DiskM.exec
      split
      · show syncF _ _ _ = _
        rw [Int.toNat_natCast, sync_other _ h]
      · rfl
theorem syncedW_all (d : DiskM) (E s : Nat) : ((syncedW d E).1.files s).all = (d.files s).all := by
  unfold syncedW
  split
  · rfl
  · unfold DiskM.sync
    split
    · rfl
    · unfold DiskM.exec
      split
      · show (syncF _ _ _).all = _
        rw [sync_all]
      · rfl
/-- Where a row more leaves the log, and that no later segment has bytes. -/
theorem appendW_E (d : DiskM) (E : Nat) (dead : Bool) (z : Int) (f : RowW) (hE : E ≤ 32) : (appendW d E dead z f).E ≤ 32 ∧ E ≤ (appendW d E dead z f).E ∧ ∀ s, (appendW d E dead z f).E < s → (appendW d E dead z f).d.files s = d.files s := by
  unfold appendW
  split
  · exact ⟨hE, Nat.le_refl _, fun _ _ => rfl⟩
  · split
    · exact ⟨hE, Nat.le_refl _, fun _ _ => rfl⟩
    · split
      · exact ⟨hE, Nat.le_refl _, fun _ _ => rfl⟩
      · split
        · exact ⟨hE, Nat.le_refl _, fun _ _ => rfl⟩
        · split
          · exact ⟨hE, Nat.le_refl _, fun s hs => write_else d E _ (by have hs : E < s := hs; omega)⟩
          · rename_i h1 h2
            have h3 : E < 32 := by
              rcases Nat.lt_or_ge E 32 with h | h
              · exact h
              · exact absurd (Or.inl ⟨by simpa using h2, by omega⟩) h1
            unfold beginW
            split
            · exact ⟨hE, Nat.le_refl _, fun s hs => syncedW_else d E (by have hs : E < s := hs; omega)⟩
            · split
              · exact ⟨h3, Nat.le_succ _, fun s hs => by
                  have hs : E + 1 < s := hs
                  exact (write_else _ (E + 1) _ (by omega)).trans (syncedW_else d E (by omega))⟩
              · exact ⟨h3, Nat.le_succ _, fun s hs => by
                  have hs : E + 1 < s := hs
                  exact (write_else _ (E + 1) _ (by omega)).trans ((write_else _ (E + 1) _ (by omega)).trans (syncedW_else d E (by omega)))⟩
theorem appendW_count (d : DiskM) (E : Nat) (dead : Bool) (z : Int) (f : RowW) : (appendW d E dead z f).d.count ≤ d.count + 3 := by
  have h1 := syncedW_count (d := d) (E := E)
  unfold appendW
  split
  · exact Nat.le_add_right _ _
  · split
    · exact Nat.le_add_right _ _
    · split
      · exact Nat.le_add_right _ _
      · split
        · exact Nat.le_add_right _ _
        · split
          · have := write_count d (E : Int) (frameB f.1 f.2)
            show (d.write _ _).1.count ≤ _
            omega
          · unfold beginW
            split
            · show (syncedW d E).1.count ≤ _; omega
            · have h2 := write_count (syncedW d E).1 ((E + 1 : Nat) : Int) (frameB (hdW (E + 1)).1 (hdW (E + 1)).2)
              split
              · show ((syncedW d E).1.write _ _).1.count ≤ _; omega
              · have h3 := write_count ((syncedW d E).1.write ((E + 1 : Nat) : Int) (frameB (hdW (E + 1)).1 (hdW (E + 1)).2)).1 ((E + 1 : Nat) : Int) (frameB f.1 f.2)
                show (DiskM.write _ _ _).1.count ≤ _
                omega
section
variable {lo b g E : Nat} {d : DiskM} {dead : Bool} {w w' : World} {L : List (Nat × Obj)}
theorem rem_kept {S : Nat → Prop} (hS : ∀ k, S k → lo ≤ k) (hb : lo ≤ b) (hlo : lo ≤ w.heap.size) (hg : 0 < lo) (hR : Rem w) : ∀ w', Stays (fun k => S k ∨ k = b) w w' → Rem w' :=
  fun _ hs => hR.below (hs.below (B := lo) (fun k f => f.elim (hS k) (fun e => by omega)) hlo) hg
theorem syncW_count (d : DiskM) (E : Nat) (dead : Bool) : (syncW d E dead).d.count ≤ d.count + 1 := by
  unfold syncW
  split
  · exact Nat.le_succ _
  · exact syncedW_count
end
end Go.Proofs.YtdkoomcmkfnfkaaDoor

/-
  A log step by step while the power stays: a row more in its segment, in a new one; a crash that keeps nothing.
-/
namespace Go.Proofs.YtdkoomcmkfnfkaaDoor
open Go.Proofs.ShaWords
theorem fitsW_yes1 {d : DiskM} {E m : Nat} (h1 : 1 ≤ E) (h2 : (d.files E).all.length + (m + 9) ≤ 2048) : fitsW d E m = true := by unfold fitsW; simp; omega
structure KnW (d : DiskM) (E : Nat) (segs : Nat → List RowW) (all : List RowW) : Prop where
  live : LiveW d E segs 0 all
  calm : d.Calm
section
variable {d : DiskM} {E : Nat} {segs : Nat → List RowW} {all : List RowW}
theorem KnW.row (h : KnW d E segs all) (z : Int) (hz : 1 ≤ z ∧ z ≤ 254) (f : RowW) (hf : f.1 ≠ 0#8 ∧ f.2.length ≤ 2022) (hfit : fitsW d E f.2.length = true) (hroom : d.used + needW d E f.2.length ≤ d.room) :
    AddedW d E f (appendW d E false z f) ∧ KnW (appendW d E false z f).d E (setW segs E (segs E ++ [f])) (all ++ [f]) := by
  have ha := append_calm h.live.files h.calm z hz f hf.2 hroom (Or.inl hfit)
  have h1 : 1 ≤ E := by unfold fitsW at hfit; simp at hfit; omega
  have hfi := ha.files
  rw [if_pos hfit] at hfi
  obtain ⟨g1, g2, g3⟩ := LogFiles.wrote h.live h1 f ⟨hf.1, by omega⟩
  exact ⟨ha, ⟨by rw [hfi]; exact g1, by rw [hfi]; exact g2, g3⟩, ha.calm⟩
theorem KnW.seg (h : KnW d E segs all) (z : Int) (hz : 1 ≤ z ∧ z ≤ 254) (f : RowW) (hf : f.1 ≠ 0#8 ∧ f.2.length ≤ 2022) (hfit : fitsW d E f.2.length = false) (hE : E < 32) (hroom : d.used + needW d E f.2.length ≤ d.room) :
    AddedW d E f (appendW d E false z f) ∧ KnW (appendW d E false z f).d (E + 1) (setW segs (E + 1) [f]) (all ++ [f]) ∧ ((appendW d E false z f).d.files (E + 1)).dur = (d.files (E + 1)).dur ∧ (1 ≤ E → ((appendW d E false z f).d.files E).dur = (d.files E).all.length) := by
  have hfit' : ¬ fitsW d E f.2.length = true := by rw [hfit]; decide
  have ha := append_calm h.live.files h.calm z hz f hf.2 hroom (Or.inr hE)
  have hfi := ha.files
  rw [if_neg hfit'] at hfi
  have h0 : (d.files (E + 1)).all = [] := h.live.files.rest (E + 1) (by omega) (by omega)
  have hsy : ∀ s, ((if E = 0 then d.files else syncF E d.files) s).all = (d.files s).all := fun s => by
    split
    · rfl
    · exact sync_all _ _ _
  have hso : ∀ s, s ≠ E → (if E = 0 then d.files else syncF E d.files) s = d.files s := fun s hs => by
    split
    · rfl
    · exact sync_other _ hs
  have hsd : 1 ≤ E → ((if E = 0 then d.files else syncF E d.files) E).dur = (d.files E).all.length := fun h1 => by
    rw [if_neg (by omega)]; exact (sync_same _ _).2
  generalize (if E = 0 then d.files else syncF E d.files) = F1 at hfi hsy hso hsd
  obtain ⟨g1, g2, g3⟩ := LogFiles.begun (G := (appendW d E false z f).d.files) h.live hE [f] (fun x hx => by rw [List.mem_singleton.1 hx]; exact ⟨hf.1, by omega⟩)
    (by rw [hfi, (write_same _ _ _).1, (write_same _ _ _).1, hsy, h0, List.nil_append, framesB_cons, framesB_one])
    ⟨by rw [hfi, write_other _ _ (by omega), write_other _ _ (by omega)]; exact hsy E, fun h1 => by rw [hfi, write_other _ _ (by omega), write_other _ _ (by omega)]; exact hsd h1⟩
    (fun s a b => by rw [hfi, write_other _ _ b, write_other _ _ b]; exact hso s a)
  refine ⟨ha, ⟨⟨g1, g2, g3⟩, ha.calm⟩, ?_, fun h1 => ?_⟩
  · rw [hfi, (write_same _ _ _).2, (write_same _ _ _).2, hso _ (by omega)]
  · rw [hfi, write_other _ _ (by omega), write_other _ _ (by omega)]; exact hsd h1
theorem row_dur {z : Int} {f : RowW} (ha : AddedW d E f (appendW d E false z f)) (hfit : fitsW d E f.2.length = true) : ((appendW d E false z f).d.files E).dur = (d.files E).dur := by
  have hfi := ha.files
  rw [if_pos hfit] at hfi
  rw [hfi, (write_same _ _ _).2]
theorem KnW.sync (h : KnW d E segs all) : (syncW d E false).e = 0 ∧ (syncW d E false).dead = false ∧ (syncW d E false).E = E ∧ KnW (syncW d E false).d E segs all ∧ (syncW d E false).d.used = d.used ∧ (syncW d E false).d.room = d.room ∧ (1 ≤ E → ((syncW d E false).d.files E).dur = (d.files E).all.length) ∧ ∀ s, ((syncW d E false).d.files s).all = (d.files s).all := by
  have hle := h.live.files.le
  have hsl := sync_live h.live h.calm.down
  have hon : syncW d E false = ⟨(syncedW d E).1, E, decide ((syncedW d E).2 = 9), (syncedW d E).2⟩ := if_neg (by rw [h.calm.down]; decide)
  obtain ⟨d1, hd1, hc1, hu1, hr1, hdu, hal⟩ : ∃ d1, syncedW d E = (d1, 0) ∧ d1.Calm ∧ d1.used = d.used ∧ d1.room = d.room ∧ (1 ≤ E → (d1.files E).dur = (d.files E).all.length) ∧ ∀ s, (d1.files s).all = (d.files s).all := by
    unfold syncedW
    by_cases e : E = 0
    · rw [if_pos e]; exact ⟨d, rfl, h.calm, rfl, rfl, fun h1 => by omega, fun _ => rfl⟩
    · rw [if_neg e, h.calm.sync (f := (E : Int)) (by omega), Int.toNat_natCast]
      exact ⟨_, rfl, ⟨h.calm.down, h.calm.left⟩, used_sync d E (by omega), rfl, fun _ => (sync_same _ _).2, fun s => sync_all _ _ _⟩
  rw [hd1] at hon
  rw [hon] at hsl ⊢
  refine ⟨rfl, rfl, rfl, ⟨?_, hc1⟩, hu1, hr1, hdu, hal⟩
  rcases hsl with ⟨-, -, -, -, h5⟩ | ⟨h5, -⟩
  · exact ⟨h5.files, ⟨h5.dur.ahead, Or.inl (Nat.zero_le _)⟩, h5.rows⟩
  · exact absurd h5 (by show ¬ (0 : Int) = 9; decide)
/-- A new disk that is opened. -/
theorem kn_open {d : DiskM} {N : Nat} (hF : d.files = openF (fun _ => ⟨[], 0⟩) 0 N) (hc : d.Calm) : KnW d 0 (fun _ => []) [] ∧ d.used = 0 ∧ ∀ s, d.files s = ⟨[], 0⟩ := by
  have hs : ∀ s, d.files s = ⟨[], 0⟩ := fun s => by
    rw [hF]
    unfold openF
    split
    · rfl
    · split
      · rw [List.take_nil]
        rename_i h1 h2
        omega
      · rfl
  have hf : d.files = fun _ => ⟨[], 0⟩ := funext hs
  refine ⟨⟨⟨?_, ⟨fun s h1 h2 => by omega, Or.inl (Nat.zero_le _)⟩, rfl⟩, hc⟩, ?_, hs⟩
  · rw [hf]; exact LogFiles.new
  · unfold DiskM.used; rw [hf, sumTo_nil]
theorem new_log (room : Int) : LogOf (fun s => ((DiskM.new room).files s).all) 0 (fun _ => []) [] := LogFiles.new.log
/-- A crash that keeps nothing, where the last segment's first rows last. -/
theorem crash_part (h : LogFiles (fun s => (d.files s).all) E segs) (ok : d.Ok) (hE : 1 ≤ E) (ha : ∀ s, 1 ≤ s → s < E → (d.files s).dur = (d.files s).all.length) {j : Nat} (hj : j ≤ (segs E).length) (hd : (d.files E).dur = (framesB (hdW E :: (segs E).take j)).length) :
    LogFiles (fun s => ((d.crash []).files s).all) E (setW segs E ((segs E).take j)) := by
  have hle := h.le
  have hall : ∀ s, s < 33 → ((d.crash []).files s).all = (d.files s).all.take (d.files s).dur := fun s hs => crash_none d.files s hs (ok.dur s hs)
  refine ⟨hle, fun s h1 h2 => ?_, fun s h1 h2 f hf => ?_, fun s h1 h2 => ?_⟩
  · show ((d.crash []).files s).all = _
    rw [hall s (by omega)]
    by_cases e : s = E
    · subst e
      rw [setW_same, hd, show (d.files s).all = _ from h.seg s h1 h2]
      conv => lhs; rw [← List.take_append_drop j (segs s), ← List.cons_append, framesB_append]
      rw [List.take_append_drop]
      exact List.take_left
    · rw [setW_other _ _ e, ha s h1 (by omega), List.take_length]; exact h.seg s h1 h2
  · by_cases e : s = E
    · subst e
      rw [setW_same] at hf
      exact h.ok s h1 h2 f (List.mem_of_mem_take hf)
    · rw [setW_other _ _ e] at hf; exact h.ok s h1 h2 f hf
  · show ((d.crash []).files s).all = _
    rw [hall s (by omega), show (d.files s).all = [] from h.rest s h1 h2, List.take_nil]
/-- A crash that keeps nothing of the last segment. -/
theorem crash_gone (h : LogFiles (fun s => (d.files s).all) (E + 1) segs) (ok : d.Ok) (ha : ∀ s, 1 ≤ s → s < E + 1 → (d.files s).dur = (d.files s).all.length) (hd : (d.files (E + 1)).dur = 0) :
    LogFiles (fun s => ((d.crash []).files s).all) E segs := by
  have hle := h.le
  have hall : ∀ s, s < 33 → ((d.crash []).files s).all = (d.files s).all.take (d.files s).dur := fun s hs => crash_none d.files s hs (ok.dur s hs)
  refine ⟨by omega, fun s h1 h2 => ?_, fun s h1 h2 f hf => h.ok s h1 (by omega) f hf, fun s h1 h2 => ?_⟩
  · show ((d.crash []).files s).all = _
    rw [hall s (by omega), ha s h1 (by omega), List.take_length]; exact h.seg s h1 (by omega)
  · show ((d.crash []).files s).all = _
    rw [hall s (by omega)]
    by_cases e : s = E + 1
    · subst e; rw [hd, List.take_zero]
    · rw [show (d.files s).all = [] from h.rest s (by omega) h2, List.take_nil]
end
def kAB : RowW := (kb 1, [97#8, 98#8])
def kC : RowW := (kb 2, [99#8])
theorem kb_1 : kb 1 ≠ 0#8 := by decide
theorem kb_2 : kb 2 ≠ 0#8 := by decide
/-- What known does. -/
theorem known10_pure {d : DiskM} {N : Nat} (hF : d.files = openF (fun _ => ⟨[], 0⟩) 0 N) (hc : d.Calm) (hr : d.room = 4096) : ∃ d1 d2 d3, appendW d 0 false 1 kAB = ⟨d1, 1, false, 0⟩ ∧ syncW d1 1 false = ⟨d2, 1, false, 0⟩ ∧ appendW d2 1 false 2 kC = ⟨d3, 1, false, 0⟩ ∧
    (d3.Ok → ∃ segs, LogOf (fun s => ((d3.crash []).files s).all) 1 segs [] ∧ rowsW segs 1 = [kAB] ∧ ∀ s, 1 ≤ s → s ≤ 32 → ((d3.crash []).files s).all.length < 100000) := by
  obtain ⟨k0, hu0, hs0⟩ := kn_open hF hc
  have hfit0 : fitsW d 0 kAB.2.length = false := rfl
  have hn0 : needW d 0 kAB.2.length = 28 := by unfold needW; rw [hfit0]; rfl
  obtain ⟨a1, k1, hd1, -⟩ := k0.seg 1 (by decide) kAB ⟨kb_1, by decide⟩ hfit0 (by decide) (by rw [hn0, hu0, hr]; decide)
  have e1 : appendW d 0 false 1 kAB = ⟨(appendW d 0 false 1 kAB).d, 1, false, 0⟩ := by
    have h1 := a1.seg; have h2 := a1.dead; have h3 := a1.e
    rw [hfit0] at h1
    cases hx : appendW d 0 false 1 kAB with
    | mk x1 x2 x3 x4 => rw [hx] at h1 h2 h3; simp only at h1 h2 h3; rw [h1, h2, h3]; rfl
  have hl1 := a1.len
  rw [a1.seg, hfit0] at hl1
  have hl1 : ((appendW d 0 false 1 kAB).d.files 1).all.length = 28 := hl1
  have hu1 : (appendW d 0 false 1 kAB).d.used = 28 := by rw [a1.used, hn0, hu0]
  have hr1 : (appendW d 0 false 1 kAB).d.room = 4096 := by rw [a1.room, hr]
  generalize (appendW d 0 false 1 kAB).d = d1 at e1 k1 hl1 hu1 hr1
  obtain ⟨s1, s2, s3, k2, hu2, hr2, hdu2, hal2⟩ := k1.sync
  have e2 : syncW d1 1 false = ⟨(syncW d1 1 false).d, 1, false, 0⟩ := by
    cases hx : syncW d1 1 false with
    | mk x1 x2 x3 x4 => rw [show (0 : Nat) + 1 = 1 from rfl, hx] at s1 s2 s3; simp only at s1 s2 s3; rw [s1, s2, s3]
  have k2 : KnW (syncW d1 1 false).d 1 (setW (fun _ => []) 1 [kAB]) [kAB] := k2
  have hdu2 : ((syncW d1 1 false).d.files 1).dur = 28 := by rw [hdu2 (by decide)]; exact hl1
  have hl2 : ((syncW d1 1 false).d.files 1).all.length = 28 := by rw [hal2]; exact hl1
  have hu2 : (syncW d1 1 false).d.used = 28 := hu2.trans hu1
  have hr2 : (syncW d1 1 false).d.room = 4096 := hr2.trans hr1
  generalize (syncW d1 1 false).d = d2 at e2 k2 hdu2 hl2 hu2 hr2
  have hfit2 : fitsW d2 1 kC.2.length = true := fitsW_yes1 (by decide) (by rw [hl2]; decide)
  have hn2 : needW d2 1 kC.2.length = 10 := by unfold needW; rw [hfit2]; rfl
  obtain ⟨a3, k3⟩ := k2.row 2 (by decide) kC ⟨kb_2, by decide⟩ hfit2 (by rw [hn2, hu2, hr2]; decide)
  have hdu3 := row_dur a3 hfit2
  rw [hdu2] at hdu3
  have e3 : appendW d2 1 false 2 kC = ⟨(appendW d2 1 false 2 kC).d, 1, false, 0⟩ := by
    have h1 := a3.seg; have h2 := a3.dead; have h3 := a3.e
    rw [hfit2] at h1
    cases hx : appendW d2 1 false 2 kC with
    | mk x1 x2 x3 x4 => rw [hx] at h1 h2 h3; simp only at h1 h2 h3; rw [h1, h2, h3]; rfl
  have hu3 : (appendW d2 1 false 2 kC).d.room = 4096 := by rw [a3.room, hr2]
  generalize (appendW d2 1 false 2 kC).d = d3 at e3 k3 hdu3 hu3
  refine ⟨d1, d2, d3, e1, e2, e3, fun ok => ⟨_, (crash_part (j := 1) k3.live.files ok (by decide) (fun s h1 h2 => by omega) (by rw [setW_same, setW_same]; decide) ?_).log, ?_, fun s h1 h2 => ?_⟩⟩
  · rw [hdu3, setW_same, setW_same]
    show 28 = (framesB [hdW 1, kAB]).length
    rw [framesB_cons, framesB_one, List.length_append, hdW_length, frameB_length]; rfl
  · rw [show (1 : Nat) = 0 + 1 from rfl, rowsW_set, setW_same, setW_same]
    rfl
  · have hu := (DiskM.crash_ok ok []).used
    have hle := sumTo_le (d3.crash []).files s 33 (by omega)
    unfold DiskM.used at hu
    have : (d3.crash []).room = 4096 := hu3
    omega
end Go.Proofs.YtdkoomcmkfnfkaaDoor

/-
  Two lists of frames, as they are read, are the same.
-/
namespace Go.Proofs.YtdkoomcmkfnfkaaDoor
open Go.RowKit Go.Proofs.ShaWords
/-- Frames in memory, as they are read. -/
def FrM (w : World) (hv : Value) (fs : List Fr9) : Prop := ∃ q c, hv = .slice q fs.length c ∧ (0 < fs.length → ∃ g, q = some ⟨g, 0, none⟩ ∧ g < w.heap.size ∧ ∀ (i : Nat) (f : Fr9), fs[i]? = some f → ∃ qv cv, w.cell? ⟨g, i * 2, none⟩ = some (.int .i64 (n8 f.1)) ∧ w.cell? ⟨g, i * 2 + 1, none⟩ = some (.slice qv f.2.length cv) ∧ Lies w qv f.2)
theorem FrM.below {w w' : World} {hv : Value} {fs : List Fr9} (h : FrM w hv fs) (hb : Below w.heap.size w w') : FrM w' hv fs := by
  obtain ⟨q, c, rfl, h1⟩ := h
  refine ⟨q, c, rfl, fun h0 => ?_⟩
  obtain ⟨g, rfl, hg, hc⟩ := h1 h0
  refine ⟨g, rfl, Nat.lt_of_lt_of_le hg hb.size, fun i f hf => ?_⟩
  obtain ⟨qv, cv, c0, c1, hl⟩ := hc i f hf
  exact ⟨qv, cv, (hb.cell (p := ⟨g, i * 2, none⟩) hg).trans c0, (hb.cell (p := ⟨g, i * 2 + 1, none⟩) hg).trans c1, hl.below hb⟩
/-- The first ones of them. -/
theorem FrM.take {w : World} {q : Option Addr} {n c : Nat} {fs : List Fr9} (h : FrM w (.slice q n c) fs) (k : Nat) (hk : k ≤ n) : FrM w (.slice q k c) (fs.take k) := by
  obtain ⟨q', c', e, h1⟩ := h
  cases e
  refine ⟨q, c, by rw [List.length_take, Nat.min_eq_left hk], fun h0 => ?_⟩
  rw [List.length_take] at h0
  obtain ⟨g, rfl, hg, hc⟩ := h1 (by omega)
  refine ⟨g, rfl, hg, fun i f hf => hc i f ?_⟩
  rw [List.getElem?_take] at hf
  split at hf
  · exact hf
  · cases hf
/-- One frame whose bytes lie somewhere. -/
theorem FrM.one {w : World} {g n c cv : Nat} {qv : Option Addr} {z : Int} {cs : Array Value} {t : TypeId} {fz : Nat × Nat} {f : Fr9} (hh : w.heap[g]? = some (.cells cs t fz)) (hcs : cs = #[.int .i64 z, .slice qv n cv]) (hz : z = n8 f.1) (hn : f.2.length = n) (hl : Lies w qv f.2) : FrM w (.slice (some ⟨g, 0, none⟩) 1 c) [f] := by
  subst hcs hz hn
  refine ⟨_, c, rfl, fun _ => ⟨g, rfl, (Array.getElem?_eq_some_iff.1 hh).1, fun i x hx => ?_⟩⟩
  have hi : i = 0 := by have := (List.getElem?_eq_some_iff.1 hx).1; simp at this; exact this
  subst hi
  simp only [List.getElem?_cons_zero, Option.some.injEq] at hx
  subst hx
  exact ⟨qv, cv, by rw [cell_of_row w g _ _ _ _ hh]; rfl, by rw [cell_of_row w g _ _ _ _ hh]; rfl, hl⟩
end Go.Proofs.YtdkoomcmkfnfkaaDoor

/-
  The statement's example: rows that are told when the disk is opened again.
-/
namespace Go.Proofs.YtdkoomcmkfnfkaaDoor
open Go.RowKit Go.Proofs.ShaWords
section
variable {lo b g E : Nat} {d : DiskM} {dead : Bool} {w w' : World} {L : List (Nat × Obj)}
theorem lies_obj {w : World} {k : Nat} {l : List (BitVec 8)} {cs : Array Value} {t : TypeId} {fr : Nat × Nat} (h : w.heap[k]? = some (.cells cs t fr)) (hc : cs = (bytesV l).toArray) : Lies w (some ⟨k, 0, none⟩) l := by
  subst hc
  exact Or.inr ⟨k, 0, rfl, range_bytesV h⟩
/-- A new disk. -/
theorem dkNewL (room : Int) (w : World) : Calls Tryd.prog 7 #[.int .i64 room] w fun e w' => ∃ g, e = .returned (.pointer (some ⟨g, 0, none⟩)) ∧ DkL w.heap.size w' g (DiskM.new room) [] ∧ Below w.heap.size w w' :=
  (dkNewI w.heap.size room w (Nat.le_refl _)).mono fun _ _ ⟨g, h1, h2, h3⟩ => ⟨g, h1, DkL.of h2, h3⟩
theorem new_count (room : Int) : (DiskM.new room).count = 0 := rfl
theorem new_small (room : Int) (s : Nat) : ((DiskM.new room).files s).all.length < 100000 := by show ([] : List (BitVec 8)).length < _; decide
end
end Go.Proofs.YtdkoomcmkfnfkaaDoor

/- The kit's Row: so many bytes, 7, 8, 9 and so on, modulo 251. -/
namespace Go.Proofs.YtdkoomcmkfnfkaaDoor
open Go.RowKit Go.Proofs.ShaWords
def rowAt (i : Nat) : BitVec 8 := BitVec.ofNat 8 ((7 + i) % 251)
def kitRow (n : Nat) : List (BitVec 8) := (List.range n).map rowAt
theorem kitRow_succ (n : Nat) : kitRow (n + 1) = kitRow n ++ [rowAt n] := by simp [kitRow, List.range_succ]
theorem kitRow_length (n : Nat) : (kitRow n).length = n := by simp [kitRow]
theorem rowAt_eq (i : Nat) : IntKind.u8.wrap ((7 + (i : Int)) % 251) = n8 (rowAt i) := by
  unfold n8 rowAt; rw [IntKind.wrap_u8', BitVec.toNat_ofNat]; omega
attribute [local irreducible] rowAt kitRow
set_option maxHeartbeats 400000 in
theorem kitRow_any (n : Nat) (w : World) (hn : n ≤ 100000) :
    Calls Tryd.prog 31 #[.int .i64 (n : Int)] w fun e w' => ∃ v, e = .returned v ∧ Own w.heap.size w' (kitRow n) v ∧ Below w.heap.size w w' := by
  have HZ : Hid (kitRow 0 = []) := show _ = _ by unfold kitRow; rfl
  go_enter Tryd.func31, Tryd.ntmps31
  go_wp2_with fail
  go_loopw [3, 4] (fun v i wr => ∃ k : Nat, k ≤ n ∧ i = .int .i64 k ∧ Own w.heap.size wr (kitRow k) v ∧ Below w.heap.size w wr) (fun _ i _ => n - (intOf i).toNat)
  case atStart => exact ⟨0, Nat.zero_le _, rfl, by rw [HZ.out]; exact Own.nil _ _, Below.refl _ _⟩
  case round =>
    obtain ⟨k, hk, rfl, ho, hb⟩ := hrel
    have sz := hb.size
    by_cases hlt : k < n
    · have HTK := Lib.hid (kitRow_succ k)
      have HK1 : Hid ((kitRow k).length < 1099511627776) := show _ < _ by rw [kitRow_length]; omega
      have hre := rowAt_eq k
      have HO := Lib.hid ho; clear ho
      have HB := Lib.hid hb; clear hb
      go_wp2_with (at_builtin; refine wpList_append_byte rfl (.tmp 10) (.tmp 15) rfl w.heap.size _ (kitRow k) (rowAt k) rfl HO.out rfl HK1.out (by omega) ?_; intro v' w' ho' hb'; rw [← HTK.out] at ho'; have HO' := Lib.hid ho'; have HB' := Lib.hid (HB.out.trans hb'); clear ho' hb')
      go_roundw
      case rel => exact ⟨k + 1, by omega, by go_num, HO'.out, HB'.out⟩
      case measure => simp [intOf]; omega
    · have HK : Hid (k = n) := show k = n by omega
      have HO := Lib.hid ho; clear ho
      have HB := Lib.hid hb; clear hb
      go_wp2_with fail
      go_ret
      refine ⟨_, rfl, ?_, HB.out⟩
      have h1 := HO.out
      rw [HK.out] at h1
      exact h1
end Go.Proofs.YtdkoomcmkfnfkaaDoor

/-
  The statements' rows: the frame that a row is.
-/
namespace Go.Proofs.YtdkoomcmkfnfkaaDoor
open Go.RowKit Go.Proofs.ShaWords
/-- The bytes of a row, and the frame. -/
def rowBs (sz : Int) (i : Nat) : List (BitVec 8) := if pickZ sz 900 = 0 then [] else (kitRow (pickZ sz 900)).set 0 (kb (i : Int))
def rowF (kd sz : Int) (i : Nat) : Fr9 := (kb (1 + (pickZ kd 254 : Int)), rowBs sz i)
theorem rowBs_length (sz : Int) (i : Nat) : (rowBs sz i).length = pickZ sz 900 := by
  unfold rowBs
  split
  · rename_i h; rw [h]; rfl
  · rw [List.length_set, kitRow_length]
theorem rowF_kind (kd : Int) : 1 ≤ 1 + (pickZ kd 254 : Int) ∧ 1 + (pickZ kd 254 : Int) ≤ 254 := by
  have := pickZ_lt kd 254 (by decide)
  omega
theorem rowF_ok (kd sz : Int) (i : Nat) : (rowF kd sz i).1 ≠ 0#8 ∧ (rowF kd sz i).2.length ≤ 900 := by
  have h1 := rowF_kind kd
  have h2 := pickZ_lt sz 900 (by decide)
  refine ⟨kb_ne h1.1 (by omega), ?_⟩
  show (rowBs sz i).length ≤ 900
  rw [rowBs_length]; omega
theorem rowF_n8 (kd sz : Int) (i : Nat) : n8 (rowF kd sz i).1 = 1 + (pickZ kd 254 : Int) := by
  have h1 := rowF_kind kd
  exact n8_kb (by omega) (by omega)
theorem wrap8_nat (i : Nat) : IntKind.u8.wrap (i : Int) = n8 (kb (i : Int)) := wrap8_kb _
theorem below_setT {B : Nat} {w w3 : World} {T : Nat} (h : Below B w w3) (hB : B ≤ w.heap.size) (hT : B ≤ T) (x y : Value) : Below B w ((w3.setCell ⟨T, 0, none⟩ x).setCell ⟨T, 1, none⟩ y) :=
  (h.grown (grown_setCell w3 T 0 x) (Nat.le_trans hB h.size) (fun k e => by cases e; exact hT)).grown (grown_setCell _ T 1 y) (by have := h.size; simpa [World.setCell] using (Nat.le_trans hB this)) (fun k e => by cases e; exact hT)
theorem Own.blockOf {B n c : Nat} {w : World} {l : List (BitVec 8)} {q : Option Addr} (h : Own B w l (.slice q n c)) (hl : l.length = n) (hn : n ≠ 0) : ∃ g, q = some ⟨g, 0, none⟩ ∧ B ≤ g ∧ g < w.heap.size ∧ w.frozen? ⟨g, 0, none⟩ = false ∧ ∃ v, w.cell? ⟨g, 0, none⟩ = some v := by
  rcases h.2 with ⟨h0, h1⟩ | ⟨g, cap, cur, he, hg, hh, hc, hm, hs, ht⟩
  · omega
  · cases he
    refine ⟨g, rfl, hg, (Array.getElem?_eq_some_iff.1 hh).1, frozen_of_row _ _ _ _ _ hh, cur[0]'(by omega), ?_⟩
    rw [cell_of_row w g 0 _ _ _ hh]
    exact Array.getElem?_eq_getElem _
attribute [local irreducible] rowBs
end Go.Proofs.YtdkoomcmkfnfkaaDoor

/-
  What comes in at layer 10, opened: rows, lives, files.
-/
namespace Go.Proofs.YtdkoomcmkfnfkaaDoor
open Go.ChangeShapes Go.WideShapes Go.ChangeAt Go.RowKit Go.Proofs.ShaWords Go.Deep
structure InRow where
  kd : Int
  sz : Int
  sy : Bool
instance : Inhabited InRow := ⟨⟨0, 0, false⟩⟩
def InRow.cells (x : InRow) : List Value := [.int .i64 x.kd, .int .i64 x.sz, .bool x.sy]
/-- A life that came in. -/
structure InLife where
  p : Option Addr
  c : Nat
  rows : List InRow
  cut : Int
  q : Option Addr
  k : Nat
  keep : List Int
instance : Inhabited InLife := ⟨⟨none, 0, [], 0, none, 0, []⟩⟩
def InLife.cells (x : InLife) : List Value := [.slice x.p x.rows.length x.c, .int .i64 x.cut, .slice x.q x.keep.length x.k]
structure InLife.Ok (W : World) (x : InLife) : Prop where
  rows : RowOf 3 InRow.cells W x.p x.rows
  keep : LiesZ W x.q x.keep
  cap : x.keep.length ≤ x.k
/-- Bytes that came in, among others. -/
structure InB where
  p : Option Addr
  c : Nat
  b : List (BitVec 8)
instance : Inhabited InB := ⟨⟨none, 0, []⟩⟩
def InB.cells (x : InB) : List Value := [.slice x.p x.b.length x.c]
structure InB.Ok (W : World) (x : InB) : Prop where
  cap : x.b.length ≤ x.c
  lies : Lies W x.p x.b
theorem open_inb {H : Type} {enc : TypeId × Value → H} {W : World} (fuel : Nat) (cs : List Value) (x : DataW H × List MemPlace) (h : DataW.trod enc Tryd.prog W 0 (fun _ => true) true fuel 37 cs = some x) :
    ∃ t : InB, cs = t.cells ∧ t.Ok W := by
  obtain ⟨a, k, b, e, h1, h2⟩ := open_bytesF h
  exact ⟨⟨a, k, b⟩, e, ⟨h1, h2⟩⟩
/-- The cells of one of them, at any later time. -/
theorem RowOf.cellsAt {α : Type} {N : Nat} {cells : α → List Value} {w : World} {a : Option Addr} {os : List α} (h : RowOf N cells w a os) {k : Nat} {o : α} (ho : os[k]? = some o) (hN : 0 < (cells o).length) :
    ∃ b off, a = some ⟨b, off, none⟩ ∧ b < w.heap.size ∧ ∀ w' B, Below B w w' → b < B → ∀ j v, (cells o)[j]? = some v → w'.cell? ⟨b, off + k * N + j, none⟩ = some v := by
  obtain ⟨hk, e⟩ := List.getElem?_eq_some_iff.1 ho
  rcases h.at' with h0 | ⟨b, off, h1, h2⟩
  · rw [h0] at hk; simp at hk
  · have h3 := h2 k hk
    rw [e] at h3
    have hlt := World.block_lt_of_cell? w _ (h3 0 _ (List.getElem?_eq_getElem hN))
    exact ⟨b, off, h1, hlt, fun w' B hb hB j v hv => (hb.cell (p := ⟨b, off + k * N + j, none⟩) hB).trans (h3 j v hv)⟩
end Go.Proofs.YtdkoomcmkfnfkaaDoor

/-
  Frames of a list and bytes by their blocks, beside a log: carried through its calls, one more appended.
-/
namespace Go.Proofs.YtdkoomcmkfnfkaaDoor
open Go.RowKit Go.Proofs.ShaWords
theorem wanted_guardF {ops : Array Oper} {a : Act} {o : Oper} {j : Nat} {dj : Tmp} {oj : Oper} (hg : o.guard = some (j, false)) (hj : ops[j]? = some oj) (hd : oj.dst = some dj) (he : a.eval (.tmp dj) = .bool false) : Region.wanted o (yielded ops a.tmps) = true := by
  have h2 := tmp_at he
  unfold Region.wanted
  rw [hg]
  simp only [yielded, hj, Option.bind_some, hd, h2]
  rfl
theorem Own.objs {B : Nat} {w : World} {l : List (BitVec 8)} {v : Value} (h : Own B w l v) : ∃ L : List (Nat × Obj), (∀ x ∈ L, v.ownBlock = some x.1 ∧ w.heap[x.1]? = some x.2) ∧ ∀ w' : World, (∀ x ∈ L, w'.heap[x.1]? = some x.2) → Own B w' l v := by
  cases hk : v.ownBlock with
  | none => exact ⟨[], by simp, fun w' _ => ownsRow_same h (fun k e => by rw [hk] at e; cases e)⟩
  | some k =>
    have hlt := (World.ownsRow.lt h k hk).2
    refine ⟨[(k, w.heap[k])], fun x hx => ?_, fun w' hw => ownsRow_same h (fun j e => ?_)⟩
    · rw [List.mem_singleton.1 hx]
      exact ⟨rfl, Array.getElem?_eq_getElem hlt⟩
    · rw [hk] at e
      cases e
      exact (hw _ (List.mem_singleton.2 rfl)).trans (Array.getElem?_eq_getElem hlt).symm
end Go.Proofs.YtdkoomcmkfnfkaaDoor
