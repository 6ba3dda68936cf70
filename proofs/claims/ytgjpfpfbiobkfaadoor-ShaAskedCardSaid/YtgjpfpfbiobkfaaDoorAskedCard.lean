/-
  ShaAsked, for every two slices of bytes: the law returns true, and both slices read afterwards as they read before; the package's two tables start as the program's own text lays them (the tie is given).
-/
import Derived.Test.YtgjpfpfbiobkfaaDoorBase
import Derived.Test.YtgjpfpfbiobkfaaDoorAsked
import Derived.Test.YtgjpfpfbiobkfaaDoorTie
import Derived.Test.YtgjpfpfbiobkfaaDoorCards
import Derived.SevenTiedAt
namespace Go.Proofs.YtgjpfpfbiobkfaaDoor
open Go.ChangeShapes Go.WideShapes Go.ChangeAt Go.RowKit Go.Proofs.ShaWords

theorem asked_any (la lb : Nat) (pa pb : Option Addr) (ca cb : Nat) (w : World) (xs bs : List (BitVec 8)) (hla : xs.length = la) (hlb : bs.length = lb) (hLa : Lies w pa xs) (hLb : Lies w pb bs)
    (hca : la ≤ ca) (hcam : ca ≤ 140737488351232) (hcb : lb ≤ cb) (hcbm : cb ≤ 140737488351232) (hk : Consts w) (hs : Starts w) :
    Calls Tryd.prog 6 #[.slice pa la ca, .slice pb lb cb] w fun e w' => e = .returned (.bool true) ∧ Below w.heap.size w w' := by
  subst hla hlb
  by_cases h : 8192 < xs.length ∨ 8192 < bs.length
  · exact asked_long _ _ pa pb ca cb w h (by omega) (by omega) hk hs
  · exact asked_main xs bs pa pb ca cb w (by omega) (by omega) hLa hLb hca hcam hcb hcbm hk hs

set_option maxRecDepth 100000 in
theorem asked_lifted (os : Os) (started : os.Started) (H : Type) (enc : TypeId × Value → H) :
    ReturnsInHanded {} Tryd.checked os 6 .any (fun w args => (Rows.shaAskedSpec.pre enc Tryd.prog Tryd.f6 [] false w args ∧ laidMetH Tryd.prog laid2 w) ∧ sizedMet enc Tryd.prog Tryd.f6 (OpenSpec.ofChange Rows.shaAskedSpec) false w args)
      (Rows.shaAskedSpec.post enc Tryd.prog Tryd.f6 false true false false) := by
  refine returnsInHanded_of_change_and (C := Tryd.checked) (X := fun w _ => laidMetH Tryd.prog laid2 w) (fun _ _ _ hh h => h.of_heap hh) own started (by kernel_rfl) Tryd.func6
    (ChangeSpec.witness_shaped (enc := enc) (C := Tryd.checked) (os := os) (X := fun w _ => laidMetH Tryd.prog laid2 w) false (World.doorLaid Tryd.prog 400 os) #[.slice none 0 0, .slice none 0 0] 8 rfl (World.shaped_of_RefB (by kernel_rfl) (by kernel_rfl)) (by kernel_rfl) (by kernel_rfl) (by kernel_rfl) (door_met os _)) ?_
  intro W base args ds gs before hval0 hW _ hsz hL _
  have hval : ∀ (j : Nat) t v, Tryd.f6.params[j]? = some t → args[j]? = some v → Value.okWide Tryd.prog W .any base t v := hval0
  have hW' := hW
  obtain ⟨p, q, hA0, hV, rfl, hfz, hnd⟩ := hW
  have hA : DataW.TrodAll enc Tryd.prog W 0 (fun _ => true) true Tryd.f6.params.toList args.toList ds p := hA0
  have hsz2 : (DataW.weightsEach Tryd.prog (Tryd.f6.params.toList ++ Rows.shaAskedSpec.plain.varTypes Tryd.prog) (ds ++ gs)).all (· ≤ reachBytes) = true := hsz
  rw [Tryd.params6] at hA hval hsz2
  obtain ⟨v0, vs0, d0, ds0, p0, q0, hargs, rfl, rfl, h0, r0⟩ := trodAll_cons hA
  obtain ⟨v1, vs1, d1, ds1, p1, q1, rfl, rfl, rfl, h1, r1⟩ := trodAll_cons r0
  obtain ⟨rfl, rfl, rfl⟩ := trodAll_nil r1
  obtain rfl : args = #[v0, v1] := by cases args; simp_all
  obtain ⟨rfl, rfl⟩ := trodVars_none hV
  obtain ⟨a0, len0, cap0, rfl⟩ := okWide_slice Tryd.underlying22 (hval 0 22 v0 rfl rfl)
  obtain ⟨a1, len1, cap1, rfl⟩ := okWide_slice Tryd.underlying22 (hval 1 22 v1 rfl rfl)
  have k0 := h0
  have lt0 : ∀ x ∈ p0, x.block < W.heap.size := by obtain ⟨m, hm⟩ := k0; exact DataW.trod_lt m _ _ _ hm
  have k1 := h1
  have lt1 : ∀ x ∈ p1, x.block < W.heap.size := by obtain ⟨m, hm⟩ := k1; exact DataW.trod_lt m _ _ _ hm
  obtain ⟨f0, hf0⟩ := h0
  obtain ⟨f1, hf1⟩ := h1
  obtain ⟨xs, hx1, hx2, hx3, hx4⟩ := open_bytes hf0
  obtain ⟨ys, hy1, hy2, hy3, hy4⟩ := open_bytes hf1
  have hb5 : Tryd.prog.bytesOf 5 = 1 := by kernel_rfl
  have hc0 : cap0 ≤ 140737488351232 := by
    rcases hx4 with ⟨_, h⟩ | ⟨e, sp, he, hl⟩
    · omega
    · have h := sized_slice hsz2 (j := 0) (t := 22) (elems := e) (spare := sp) rfl (by rw [← he]; rfl) Tryd.underlying22
      rw [hb5] at h; unfold reachBytes at h; omega
  have hc1 : cap1 ≤ 140737488351232 := by
    rcases hy4 with ⟨_, h⟩ | ⟨e, sp, he, hl⟩
    · omega
    · have h := sized_slice hsz2 (j := 1) (t := 22) (elems := e) (spare := sp) rfl (by rw [← he]; rfl) Tryd.underlying22
      rw [hb5] at h; unfold reachBytes at h; omega
  obtain ⟨hS, hK⟩ := of_laid hL
  clear hA0 hval0
  refine (asked_any len0 len1 a0 a1 cap0 cap1 W xs ys hx1 hy1 hx3 hy3 hx2 hc0 hy2 hc1 hK hS).mono fun e W' ⟨he, bel⟩ => ?_
  subst he
  exact ⟨_, rfl, _, _, _, [], _, [], hW', trodAll_mk1 (shut_bool Tryd.underlying4 _), (trodAll_cons_mk (Below.trod laidOut (by kernel_rfl) (of_decide_eq_true (by kernel_rfl)) k0 bel lt0) (trodAll_cons_mk (Below.trod laidOut (by kernel_rfl) (of_decide_eq_true (by kernel_rfl)) k1 bel lt1) trodAll_mk0)), rfl, bel.frame _, fun h => by cases h⟩

theorem asked_holds : Rows.ShaAskedSaid :=
  OpenClaim.holds_of_wide 6 Tryd.f6 rfl rfl rfl rfl rfl rfl rfl ⟨rfl, rfl, rfl, rfl, rfl⟩ rfl rfl rfl rfl rfl (by kernel_rfl) Tryd.func6 (by kernel_rfl)
    (of_decide_eq_true (by kernel_rfl)) (by unfold Func.isWrapper; first | (rw [if_pos (by decide +kernel)]; kernel_rfl) | (rw [if_neg (by decide +kernel)]; exact ⟨rfl, rfl⟩))
    (fun os started H enc _ => asked_lifted os started H enc)

theorem asked_card : Rows.ShaAskedCardSaid :=
  Claim7.holds_tied_plain_at .later [] [.data, .data] true Rows.shaAskedCard.stood.harness false
    asked_holds (fun _ h => by cases h) (by kernel_rfl) (fun _ h => by cases h) shaAsked_row_tie rfl ⟨rfl, rfl⟩ (by kernel_rfl) rfl
    (fun f fn hf hfn => by
      obtain rfl : f = 6 := Option.some.inj (hf.symm.trans (show _ = some 6 by kernel_rfl))
      obtain rfl : fn = Tryd.f6 := (Option.some.inj (Tryd.func6.symm.trans hfn)).symm
      exact ⟨by kernel_rfl, fun j t ht => by
        rw [Tryd.params6] at ht
        have hm : t ∈ [22, 22] := by simpa using Array.mem_of_getElem? ht
        have hall : ([22, 22].all fun u => !Tryd.prog.wantsStandIn u) = true := by kernel_rfl
        exact (show Tryd.prog.wantsStandIn t = false by simpa using List.all_eq_true.1 hall t hm)⟩)
    (by kernel_rfl)
#print axioms asked_card
end Go.Proofs.YtgjpfpfbiobkfaaDoor
