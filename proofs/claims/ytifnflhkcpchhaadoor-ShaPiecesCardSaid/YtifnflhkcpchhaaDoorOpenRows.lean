/-
  What came in, opened: a slice of slices of bytes.
-/
import Derived.Test.YtifnflhkcpchhaaDoorBase
import Derived.Test.YtifnflhkcpchhaaDoorPiecesWalk
import Derived.Deep.Matrix
import Derived.SizedLaws
namespace Go.Proofs.YtifnflhkcpchhaaDoor
open Go.ChangeShapes Go.WideShapes Go.ChangeAt Go.RowKit Go.Proofs.ShaWords Go.Deep

theorem weights_mem_all {H : Type} {P : Program} {e : TypeId} : ∀ {l : List (DataW H)} {d : DataW H}, d ∈ l → ∀ n ∈ d.weights P e, n ∈ DataW.weightsAll P e l
  | x :: l, d, hd, n, hn => by
    simp only [DataW.weightsAll, List.mem_append]
    rcases List.mem_cons.1 hd with rfl | hd
    · exact Or.inl hn
    · exact Or.inr (weights_mem_all hd n hn)
/-- The pieces that came in. -/
theorem open_pieces {H : Type} {enc : TypeId × Value → H} {W : World} {fuel : Nat} {a : Option Addr} {len cap : Nat} {x : DataW H × List MemPlace}
    (h : DataW.trod enc Tryd.prog W 0 (fun _ => true) true fuel 22 (Value.cells (.slice a len cap)).toList = some x)
    (hsz : ∀ n ∈ x.1.weights Tryd.prog 22, n ≤ reachBytes) :
    ∃ ps : List Piece, ps.length = len ∧ len ≤ 140737488351232 ∧ (ps = [] ∨ ∃ b off, a = some ⟨b, off, none⟩ ∧ ∀ k (h : k < ps.length), W.cell? ⟨b, off + k, none⟩ = some (pieceV ps[k])) ∧
      (∀ k (h : k < ps.length), Lies W ps[k].1 ps[k].2.2 ∧ ps[k].2.2.length ≤ 140737488351232) := by
  have c5 : Tryd.prog.cellsOf 5 = 1 := by kernel_rfl
  have c26 : Tryd.prog.cellsOf 26 = 1 := by kernel_rfl
  have b5 : Tryd.prog.bytesOf 5 = 1 := by kernel_rfl
  have b26 : Tryd.prog.bytesOf 26 = 24 := by kernel_rfl
  rcases open_int_rows Tryd.underlying22 Tryd.underlying26 Tryd.underlying5 c26 c5 h with ⟨hcs, hx⟩ | ⟨y, l, c, A, L, C, Z, hcs, _, hl, hm, hx, hr⟩
  · simp [Value.cells] at hcs
    obtain ⟨rfl, rfl, rfl⟩ := hcs
    exact ⟨[], rfl, by omega, .inl rfl, fun k h => by simp at h⟩
  · simp [Value.cells] at hcs
    obtain ⟨rfl, rfl, rfl⟩ := hcs
    have hx1 := congrArg Prod.fst hx
    dsimp only at hx1
    rw [hx1] at hsz
    have hlen : len ≤ 140737488351232 := by
      have h1 := hsz ((len + (cap - len)) * 24) (by simp [DataW.weights, Tryd.underlying22, b26])
      unfold reachBytes at h1; omega
    have hrow : ∀ k, k < len → (Z k).length ≤ 140737488351232 := fun k hk => by
      cases hA : A k with
      | none => have := (hr k (by omega)).2.2.2.2.2.1 hA; rw [(hr k (by omega)).2.2.2.1]; omega
      | some a' =>
        have hd : intRow (H := H) .u8 (A k) (L k) (Z k) ∈ (List.range len).map fun r => intRow (H := H) .u8 (A r) (L r) (Z r) := List.mem_map.2 ⟨k, List.mem_range.2 hk, rfl⟩
        have h1 := hsz (((lits (H := H) .u8 ((Z k).take (L k))).length + (lits (H := H) .u8 ((Z k).drop (L k))).length) * 1) (by
          simp only [DataW.weights, Tryd.underlying22, List.mem_cons, List.mem_append]
          refine .inr (.inl (weights_mem_all hd _ ?_))
          simp [intRow, hA, DataW.weights, Tryd.underlying26, b5])
        simp [lits] at h1
        unfold reachBytes at h1
        omega
    refine ⟨(List.range len).map fun k => (A k, C k, ((Z k).take (L k)).map (BitVec.ofInt 8)), by simp, hlen, ?_, fun k hk => ?_⟩
    · by_cases h0 : len = 0
      · left; subst h0; rfl
      · right
        have hok : ∀ k, k < len → (L k) ≤ (Z k).length := fun k hk => by have := hr k (by omega); rw [this.2.2.2.1]; exact this.2.1
        obtain ⟨b, off, hb⟩ : ∃ b off, y = ⟨b, off, none⟩ := by
          have h1 := (hr 0 (by omega)).1
          obtain ⟨b, off, s⟩ := y
          have hspot : s = none := by simpa [Addr.add] using World.cell?_spot h1
          exact ⟨b, off, by rw [hspot]⟩
        subst hb
        refine ⟨b, off, rfl, fun k hk => ?_⟩
        simp at hk
        have h1 := (hr k (by omega)).1
        rw [Addr.add_mid] at h1
        rw [h1]
        simp [pieceV, List.length_take, Nat.min_eq_left (hok k hk)]
    · simp at hk
      have h1 := hr k (by omega)
      have hZ := h1.2.2.2.1
      simp only [List.getElem_map, List.getElem_range]
      refine ⟨?_, by simp; have := hrow k hk; omega⟩
      by_cases h0 : L k = 0
      · left; simp [h0]
      right
      cases hA : A k with
      | none => have := h1.2.2.2.2.2.1 hA; omega
      | some a' =>
        obtain ⟨_, hc⟩ := h1.2.2.2.2.2.2 a' hA
        obtain ⟨b, off, rfl, hc2⟩ := ints_at (zs := Z k) (fun c hc' => hc c (by omega)) (by omega)
        refine ⟨b, off, rfl, fun j v hv => ?_⟩
        simp only [bytesV, List.map_map, List.getElem?_map, Option.map_eq_some_iff] at hv
        obtain ⟨z, hz1, rfl⟩ := hv
        have hj : j < L k := by have := (List.getElem?_eq_some_iff.1 hz1).1; simp at this; omega
        have hz2 : (Z k)[j]? = some z := by rw [List.getElem?_take] at hz1; simpa [hj] using hz1
        have hw : (Lit.int .u8 z).wf = true := h1.2.2.2.2.1 z (List.mem_of_getElem? hz2)
        rw [hc2 j (by omega)]
        simp only [Function.comp, n8_ofInt z hw, List.getD, hz2, Option.getD_some]
end Go.Proofs.YtifnflhkcpchhaaDoor
