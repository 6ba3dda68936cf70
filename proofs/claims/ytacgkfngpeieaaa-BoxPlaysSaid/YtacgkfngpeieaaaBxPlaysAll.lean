/-
  BoxPlays, for any list and anything that is to be done: the law returns true, and what came in reads afterwards as it read before. Without any condition.
-/
import Derived.Test.YtacgkfngpeieaaaPkA
import Derived.Test.YtacgkfngpeieaaaPkV
import Derived.Deep.RegionHeld3
/- The kit's Pick: some number below its bound. -/
namespace Go.Proofs.Ytacgkfngpeieaaa
open Go.RowKit Go.Proofs.ShaWords

theorem tmod_bounds (v n : Int) (h : 1 ≤ n) : -n < v.tmod n ∧ v.tmod n < n := by
  have h1 := Int.tmod_lt_of_pos v (show 0 < n by omega)
  have h2 := Int.tmod_lt_of_pos (-v) (show 0 < n by omega)
  rw [Int.neg_tmod] at h2
  omega
def SomeIn (n : Int) (w : World) (e : Ending) (w' : World) : Prop := ∃ r : Nat, (r : Int) < n ∧ e = .returned (.int .i64 (r : Int)) ∧ w = w'
set_option maxHeartbeats 400000 in
theorem pick_any (v n : Int) (w : World) (h1 : 1 ≤ n) (h2 : n ≤ 1000000) : Calls Try.prog 28 #[.int .i64 v, .int .i64 n] w (SomeIn n w) := by
  have hb := tmod_bounds v n h1
  obtain ⟨hb1, hb2⟩ := hb
  have hn0 : ¬ n = 0 := by omega
  by_cases hneg : v.tmod n < 0
  · go_enter Try.func28, Try.ntmps28
    go_wp2_with fail
    go_ret
    exact ⟨(v.tmod n + n).toNat, by omega, by
      have : ((v.tmod n + n).toNat : Int) = v.tmod n + n := by omega
      rw [this]; rfl, rfl⟩
  · go_enter Try.func28, Try.ntmps28
    go_wp2_with fail
    go_ret
    exact ⟨(v.tmod n).toNat, by omega, by
      have : ((v.tmod n).toNat : Int) = v.tmod n := by omega
      rw [this]; rfl, rfl⟩

end Go.Proofs.Ytacgkfngpeieaaa

/-
  A bit of a byte.
-/
namespace Go.Proofs.Ytacgkfngpeieaaa
open Go.RowKit Go.Proofs.ShaWords
theorem pow8 (R : Nat) : (2 : Int) ^ R % 256 = n8 (BitVec.ofNat 8 (2 ^ R)) := by
  unfold n8
  rw [BitVec.toNat_ofNat, show (2 : Int) = ((2 : Nat) : Int) from rfl, ← Int.natCast_pow]
  omega
end Go.Proofs.Ytacgkfngpeieaaa

/-
  The statement's own sealed: what an opening is asked of.
-/
namespace Go.Proofs.Ytacgkfngpeieaaa
open Go.RowKit Go.Proofs.ShaWords

/-- An Op by itself in a block. -/
def OpAt (w : World) (T : Nat) (o : OpM) : Prop := w.heap[T]? = some (.cells o.cells.toArray 35 (0, 0))
theorem OpAt.on {w w' : World} {T : Nat} {o : OpM} (h : OpAt w T o) (hb : Below w.heap.size w w') : OpAt w' T o := (hb.block _ (Array.getElem?_eq_some_iff.1 h).1).trans h
theorem OpAt.onB {B : Nat} {w w' : World} {T : Nat} {o : OpM} (h : OpAt w T o) (hb : Below B w w') (hB : w.heap.size ≤ B) : OpAt w' T o := (hb.block _ (Nat.lt_of_lt_of_le (Array.getElem?_eq_some_iff.1 h).1 hB)).trans h
theorem OpAt.cell {w : World} {T : Nat} {o : OpM} (h : OpAt w T o) (j : Nat) : w.cell? ⟨T, j, none⟩ = o.cells[j]? := by
  rw [cell_of_row w T j _ _ _ h]; simp
theorem wf_i64 {z : Int} (h : (Lit.int .i64 z).wf = true) : -9223372036854775808 ≤ z ∧ z ≤ 9223372036854775807 := by
  simp [Lit.wf, IntKind.min, IntKind.max, IntKind.signed, IntKind.bits] at h
  omega
set_option maxRecDepth 100000 in
set_option maxHeartbeats 2000000 in
theorem sealed_any (o : OpM) (nh ch : Nat) (ph : Option Addr) (w : World) (ht : Lies w o.tp o.text) (htc : o.text.length ≤ o.tc) (h1 : (Lit.int .i64 o.at').wf = true) (h2 : (Lit.int .i64 o.turn).wf = true) (hnh : nh ≤ 1000)
    (hh : nh = 0 ∨ ∃ g, ph = some ⟨g, 0, none⟩ ∧ ∀ i, i < nh → ∃ q c s, w.cell? ⟨g, i, none⟩ = some (.slice q s.length c) ∧ Lies w q s ∧ 16 ≤ s.length ∧ s.length ≤ 2000) :
    Calls Try.prog 16 #[.agg o.cells.toArray, .slice ph nh ch] w fun e w' => ∃ q c s, e = .returned (.slice q s.length c) ∧ s.length ≤ c ∧ (s.length ≤ o.text.length ∨ s.length ≤ 2000) ∧ Lies w' q s ∧ Below w.heap.size w w' := by
  have HT := Lib.hid ht; clear ht
  have HH := Lib.hid hh; clear hh
  have a1 := wf_i64 h1
  have a2 := wf_i64 h2
  clear h1 h2
  go_enter Try.func16, Try.ntmps16
  go_upto_region 1 with (fail)
  refine wp_gen (fun w' => OpAt w' w.heap.size o ∧ Below w.heap.size w w') ⟨heap_new_at rfl, (Below.refl _ _).alloc (Nat.le_refl _) _⟩ ?_
  rintro w0 ⟨ho0, hb0⟩
  have e4 : w0.cell? ⟨w.heap.size, 4, none⟩ = some (.slice o.tp o.text.length o.tc) := by rw [ho0.cell]; rfl
  have e5 : w0.cell? ⟨w.heap.size, 5, none⟩ = some (.int .i64 o.at') := by rw [ho0.cell]; rfl
  have HO0 := Lib.hid ho0; clear ho0
  have HB0 := Lib.hid hb0; clear hb0
  by_cases hat : o.at' < 1
  · go_wp2_with fail
    go_ret
    exact ⟨_, _, o.text, rfl, htc, Or.inl (Nat.le_refl _), HT.out.below HB0.out, HB0.out⟩
  · by_cases hn0 : nh = 0
    · subst hn0
      go_wp2_with fail
      go_ret
      exact ⟨_, _, o.text, rfl, htc, Or.inl (Nat.le_refl _), HT.out.below HB0.out, HB0.out⟩
    · have n0 : ¬ (nh : Int) = 0 := by omega
      have n1 : ((nh : Int) == 0) = false := by simpa using hn0
      obtain ⟨z, hz⟩ : ∃ z, z = o.at' - 1 := ⟨_, rfl⟩
      have t1 : IntKind.i64.wrap (o.at' - 1) = z := by rw [hz]; exact IntWalk.i64_in _ (by omega)
      clear hz
      obtain ⟨g, rfl, hg⟩ : ∃ g, ph = some ⟨g, 0, none⟩ ∧ ∀ i, i < nh → ∃ q c s, w.cell? ⟨g, i, none⟩ = some (.slice q s.length c) ∧ Lies w q s ∧ 16 ≤ s.length ∧ s.length ≤ 2000 := by
        rcases HH.out with h | h
        · exact absurd h hn0
        · exact h
      go_wp2_with fail
      refine (pick_any z (nh : Int) w0 (by omega) (by omega)).mono ?_
      rintro e w1 ⟨r, hr, rfl, rfl⟩
      obtain ⟨q, c, s, hc, hl, hs1, hs2⟩ := hg r (by omega)
      have er := (HB0.out.cell (World.block_lt_of_cell? w _ hc)).trans hc
      have HL := Lib.hid (hl.below HB0.out)
      clear hc hl hg e4
      have r0 : 0 ≤ (r : Int) := by omega
      go_wp2_with fail
      refine (copy_any s q c w0 (by omega) HL.out).mono ?_
      rintro e w2 ⟨v2, rfl, ho2, hb2⟩
      obtain ⟨g2, c2, rfl, hg2, hg2', hc2, hc2', hcell, hfr⟩ := ho2.form8 (by omega)
      have HO2 := Lib.hid ho2; clear ho2
      have e6 : w2.cell? ⟨w.heap.size, 6, none⟩ = some (.int .i64 o.turn) := by rw [(HO0.out.on hb2).cell]; rfl
      have HB2 := Lib.hid (HB0.out.trans (hb2.mono HB0.out.size)); clear hb2 e5 er
      by_cases htu : 0 < o.turn
      · obtain ⟨z2, hz2⟩ : ∃ z2, z2 = o.turn - 1 := ⟨_, rfl⟩
        have t2 : IntKind.i64.wrap (o.turn - 1) = z2 := by rw [hz2]; exact IntWalk.i64_in _ (by omega)
        obtain ⟨L8, hL8⟩ : ∃ L8, L8 = 8 * s.length := ⟨_, rfl⟩
        have t3 : IntKind.i64.wrap (8 * (s.length : Int)) = (L8 : Int) := by rw [IntWalk.i64_in _ (by omega)]; omega
        have HL8 := Lib.hid hL8
        have hL1 : 1 ≤ L8 := by omega
        have hL2 : L8 ≤ 16000 := by omega
        clear hz2 hL8
        go_wp2_with fail
        refine (pick_any z2 (L8 : Int) w2 (by omega) (by omega)).mono ?_
        rintro e w3 ⟨r2, hr2, rfl, rfl⟩
        obtain ⟨D8, hD8⟩ : ∃ D8, D8 = r2 / 8 := ⟨_, rfl⟩
        obtain ⟨R8, hR8⟩ : ∃ R8, R8 = r2 % 8 := ⟨_, rfl⟩
        have u1 : (r2 : Int).tdiv 8 = (D8 : Int) := by rw [Int.tdiv_eq_ediv_of_nonneg (by omega)]; omega
        have u2 : IntKind.i64.wrap (D8 : Int) = (D8 : Int) := IntWalk.i64_in _ (by omega)
        have u3 : (r2 : Int).tmod 8 = (R8 : Int) := by rw [Int.tmod_eq_emod_of_nonneg (by omega)]; omega
        have u4 : IntKind.i64.wrap (R8 : Int) = (R8 : Int) := IntWalk.i64_in _ (by omega)
        have hR7 : R8 < 8 := by omega
        have hDl : D8 < s.length := by have := HL8.out; omega
        have hDl2 : (D8 : Int) < (s.length : Int) := by omega
        have hx := hcell D8 hDl
        have hf := hfr D8
        clear hD8 hR8 hcell hfr e6 hr2
        generalize s.getD D8 0#8 = x at hx
        have p8 := pow8 R8
        generalize BitVec.ofNat 8 (2 ^ R8) = c8 at p8
        have hx8 := xor8 x c8
        go_wp2_with fail
        go_ret
        have HO3 := HO2.out.put D8 (x ^^^ c8)
        refine ⟨some ⟨g2, 0, none⟩, c2, s.set D8 (x ^^^ c8), by rw [List.length_set]; rfl, by rw [List.length_set]; exact hc2, Or.inr (by rw [List.length_set]; exact hs2), ?_, HB2.out.setCell (by show w.heap.size ≤ g2; have := HB0.out.size; omega) _⟩
        obtain ⟨p', c', e', -, -, hl'⟩ := HO3.lies
        rw [List.length_set] at e'
        cases e'
        exact hl'
      · clear hcell hfr
        go_wp2_with fail
        go_ret
        refine ⟨some ⟨g2, 0, none⟩, c2, s, rfl, hc2, Or.inr hs2, ?_, HB2.out⟩
        obtain ⟨p', c', e', -, -, hl'⟩ := HO2.out.lies
        cases e'
        exact hl'
end Go.Proofs.Ytacgkfngpeieaaa

/-
  What the statement BoxPlays has in memory: the two boxes, and what was sealed.
-/
namespace Go.Proofs.Ytacgkfngpeieaaa
open Go.RowKit Go.Proofs.ShaWords
def PlayOwn (S S' D : Nat → Prop) (hv : Value) (k : Nat) : Prop := S k ∨ S' k ∨ D k ∨ hv.ownBlock = some k
structure PlayW (w : World) (x y : Value) (l : List (BitVec 8)) (d : Nat) (A : List RowA) (S S' D : Nat → Prop) (hv : Value) (vs : List Value) (wr : World) : Prop where
  code : CodeBox S wr x l d A
  ref : RefBox S' wr y l d A
  had : HadR D wr hv vs
  low : ∀ k, PlayOwn S S' D hv k → w.heap.size ≤ k
  d1 : ∀ k, S k → ¬ S' k ∧ ¬ D k ∧ hv.ownBlock ≠ some k
  d2 : ∀ k, S' k → ¬ D k ∧ hv.ownBlock ≠ some k
  below : Below w.heap.size w wr
variable {w wr w' : World} {x y : Value} {l : List (BitVec 8)} {d : Nat} {A : List RowA} {S S' D F : Nat → Prop} {hv : Value} {vs : List Value}
theorem PlayW.keep (h : PlayW w x y l d A S S' D hv vs wr) (hk : Stays F wr w') (hF : ∀ k, F k → ¬ PlayOwn S S' D hv k ∧ w.heap.size ≤ k) : PlayW w x y l d A S S' D hv vs w' :=
  ⟨h.code.keep hk (fun k f s => (hF k f).1 (Or.inl s)), h.ref.keep hk (fun k f s => (hF k f).1 (Or.inr (Or.inl s))), h.had.keep hk (fun k f => ⟨fun s => (hF k f).1 (Or.inr (Or.inr (Or.inl s))), fun s => (hF k f).1 (Or.inr (Or.inr (Or.inr s)))⟩),
    h.low, h.d1, h.d2, h.below.trans (hk.below (fun k f => (hF k f).2) h.below.size)⟩
theorem PlayW.on (h : PlayW w x y l d A S S' D hv vs wr) (hb : Below wr.heap.size wr w') : PlayW w x y l d A S S' D hv vs w' :=
  h.keep (F := fun _ => False) (Below.stays hb) (fun _ h => h.elim)
theorem PlayW.lt (h : PlayW w x y l d A S S' D hv vs wr) (k : Nat) (hk : PlayOwn S S' D hv k) : k < wr.heap.size := by
  rcases hk with h1 | h1 | h1 | h1
  · exact h.code.dom k h1
  · exact h.ref.dom k h1
  · exact h.had.dom k h1
  · exact (World.ownsRow.lt h.had.rows k h1).2
/-- The program's Seal. -/
theorem PlayW.code' {S2 : Nat → Prop} {d2 : Nat} {A2 : List RowA} (h : PlayW w x y l d A S S' D hv vs wr) (hs : Stays S wr w') (_ : CodeBox S2 w' x l d2 A2) (hS : ∀ k, S2 k → S k ∨ wr.heap.size ≤ k) :
    RefBox S' w' y l d A ∧ HadR D w' hv vs ∧ (∀ k, PlayOwn S2 S' D hv k → w.heap.size ≤ k) ∧ (∀ k, S2 k → ¬ S' k ∧ ¬ D k ∧ hv.ownBlock ≠ some k) ∧ Below w.heap.size w w' := by
  refine ⟨h.ref.keep hs (fun k f s => (h.d1 k f).1 s), h.had.keep hs (fun k f => (h.d1 k f).2), fun k hk => ?_, fun k hk => ?_, h.below.trans (hs.below (fun k f => h.low k (Or.inl f)) h.below.size)⟩
  · rcases hk with h1 | h1
    · rcases hS k h1 with h2 | h2
      · exact h.low k (Or.inl h2)
      · have := h.below.size; omega
    · exact h.low k (Or.inr h1)
  · rcases hS k hk with h2 | h2
    · exact h.d1 k h2
    · refine ⟨fun s => ?_, fun s => ?_, fun s => ?_⟩
      · have := h.lt k (Or.inr (Or.inl s)); omega
      · have := h.lt k (Or.inr (Or.inr (Or.inl s))); omega
      · have := h.lt k (Or.inr (Or.inr (Or.inr s))); omega
/-- Both have sealed, and what the document's box returned is one more of what was had. -/
theorem PlayW.step {w9 w10 w11 w13 w14 : World} {T d2 : Nat} {A2 : List RowA} {S2 S3 : Nat → Prop} {hv2 u : Value} {bx : List (BitVec 8)} (h9 : PlayW w x y l d A S S' D hv vs w9) (hT : ∀ k, PlayOwn S S' D hv k → k < T) (hT9 : T ≤ w9.heap.size)
    (hs10 : Stays S w9 w10) (hS2 : ∀ k, S2 k → S k ∨ w9.heap.size ≤ k) (hc10 : CodeBox S2 w10 x l d2 A2) (hs11 : Stays S' w10 w11) (hS3 : ∀ k, S3 k → S' k ∨ w10.heap.size ≤ k) (hr11 : RefBox S3 w11 y l d2 A2) (hb13 : Below w11.heap.size w11 w13)
    (hu : Own w10.heap.size w13 bx u) (hua : ∀ k, u.ownBlock = some k → ¬ S3 k) (hbl : 16 ≤ bx.length ∧ bx.length ≤ 2000) (hrow : w14.ownsRow 0 22 1 hv2 (vs ++ [u]).length (vs ++ [u])) (hs14 : Stays (fun k => hv.ownBlock = some k) w13 w14) (hfr : ∀ k, hv2.ownBlock = some k → hv.ownBlock = some k ∨ w13.heap.size ≤ k) :
    PlayW w x y l d2 A2 S2 S3 (fun k => D k ∨ u.ownBlock = some k) hv2 (vs ++ [u]) w14 ∧ (∀ k, PlayOwn S2 S3 (fun k => D k ∨ u.ownBlock = some k) hv2 k → k < T ∨ S2 k ∨ w10.heap.size ≤ k) := by
  obtain ⟨hr10, hh10, hlow, hd1, hb10⟩ := h9.code' hs10 hc10 hS2
  have z10 : w9.heap.size ≤ w10.heap.size := hs10.size
  have z11 : w10.heap.size ≤ w11.heap.size := hs11.size
  have z13 : w11.heap.size ≤ w13.heap.size := hb13.size
  have z14 : w13.heap.size ≤ w14.heap.size := hs14.size
  have zw : w.heap.size ≤ w9.heap.size := h9.below.size
  have hh11 := hh10.keep hs11 (fun k f => h9.d2 k f)
  have hh13 := hh11.keep (F := fun _ => False) (Below.stays hb13) (fun _ h => h.elim)
  have hc11 := hc10.keep hs11 (fun k f s => (hd1 k s).1 f)
  have hc13 := hc11.keep (F := fun _ => False) (Below.stays hb13) (fun _ h => h.elim)
  have hr13 := hr11.keep (F := fun _ => False) (Below.stays hb13) (fun _ h => h.elim)
  have hou : ∀ k, u.ownBlock = some k → w10.heap.size ≤ k ∧ k < w13.heap.size := fun k hk => World.ownsRow.lt hu k hk
  have hvT : ∀ k, hv.ownBlock = some k → k < T := fun k hk => hT k (Or.inr (Or.inr (Or.inr hk)))
  have hDT : ∀ k, D k → k < T := fun k hk => hT k (Or.inr (Or.inr (Or.inl hk)))
  have hST' : ∀ k, S' k → k < T := fun k hk => hT k (Or.inr (Or.inl hk))
  have hST : ∀ k, S k → k < T := fun k hk => hT k (Or.inl hk)
  have hnot : ∀ k, hv.ownBlock = some k → u.ownBlock ≠ some k := fun k h1 h2 => by have := hvT k h1; have := hou k h2; omega
  refine ⟨⟨hc13.keep hs14 (fun k f s => (hd1 k s).2.2 f), hr13.keep hs14 (fun k f s => ?_), ⟨hrow, ?_, ?_, ?_⟩, ?_, ?_, ?_, ?_⟩, ?_⟩
  · rcases hS3 k s with h | h
    · exact (h9.d2 k h).2 f
    · have := hvT k f; omega
  · intro v hv'
    rcases List.mem_append.1 hv' with h | h
    · obtain ⟨s, h1, h2⟩ := hh13.each v h
      exact ⟨s, (h1.keep hs14 (fun k f => hh13.clear k f)).more (fun k hk _ => Or.inl hk), h2⟩
    · rw [List.mem_singleton.1 h]
      exact ⟨bx, (hu.sliceIn (D := fun k => D k ∨ u.ownBlock = some k) (fun k hk => Or.inr hk)).keep hs14 (fun k f hd => hd.elim (hh13.clear k f) (hnot k f)), hbl⟩
  · intro k hk hd
    rcases hfr k hk with h | h
    · exact hd.elim (hh13.clear k h) (hnot k h)
    · rcases hd with h2 | h2
      · have := hDT k h2; omega
      · have := hou k h2; omega
  · intro k hk
    rcases hk with h | h
    · have := hDT k h; omega
    · have := hou k h; omega
  · intro k hk
    rcases hk with h | h | h | h
    · exact hlow k (Or.inl h)
    · rcases hS3 k h with h2 | h2
      · exact h9.low k (Or.inr (Or.inl h2))
      · omega
    · rcases h with h | h
      · exact h9.low k (Or.inr (Or.inr (Or.inl h)))
      · have := hou k h; omega
    · rcases hfr k h with h2 | h2
      · exact h9.low k (Or.inr (Or.inr (Or.inr h2)))
      · omega
  · intro k hk
    have hk10 := hc10.dom k hk
    refine ⟨fun h => ?_, fun h => ?_, fun h => ?_⟩
    · rcases hS3 k h with h2 | h2
      · exact (hd1 k hk).1 h2
      · omega
    · rcases h with h | h
      · exact (hd1 k hk).2.1 h
      · have := hou k h; omega
    · rcases hfr k h with h2 | h2
      · exact (hd1 k hk).2.2 h2
      · omega
  · intro k hk
    have hk11 := hr11.dom k hk
    refine ⟨fun h => ?_, fun h => ?_⟩
    · rcases h with h | h
      · rcases hS3 k hk with h2 | h2
        · exact (h9.d2 k h2).1 h
        · have := hDT k h; omega
      · exact hua k h hk
    · rcases hfr k h with h2 | h2
      · rcases hS3 k hk with h3 | h3
        · exact (h9.d2 k h3).2 h2
        · have := hvT k h2; omega
      · omega
  · exact ((hb10.trans (hs11.below (fun k f => h9.low k (Or.inr (Or.inl f))) (by omega))).trans (hb13.mono (by omega))).trans (hs14.below (fun k f => h9.low k (Or.inr (Or.inr (Or.inr f)))) (by omega))
  · intro k hk
    rcases hk with h | h | h | h
    · exact Or.inr (Or.inl h)
    · rcases hS3 k h with h2 | h2
      · exact Or.inl (hST' k h2)
      · exact Or.inr (Or.inr h2)
    · rcases h with h | h
      · exact Or.inl (hDT k h)
      · exact Or.inr (Or.inr (hou k h).1)
    · rcases hfr k h with h2 | h2
      · exact Or.inl (hvT k h2)
      · exact Or.inr (Or.inr (by omega))
end Go.Proofs.Ytacgkfngpeieaaa

/-
  A region that draws its order, whatever the order: a fact of each operation that no other one turns.
-/
namespace Go.Proofs.Ytacgkfngpeieaaa
open Go.RowKit Go.Proofs.ShaWords

/-- Each operation waits for earlier ones alone. -/
def backward (ops : Array Oper) : Bool := (List.range ops.size).all fun i => match ops[i]? with | none => true | some o => o.after.all fun e => !(Region.binds .any e) || decide (e.on < i)
theorem backward_spec {ops : Array Oper} (h : backward ops = true) {i : Nat} {o : Oper} (ho : ops[i]? = some o) {e : Edge} (he : e ∈ o.after) (hb : Region.binds .any e = true) : e.on < i := by
  have hi : i < ops.size := (Array.getElem?_eq_some_iff.1 ho).1
  have h1 := List.all_eq_true.1 h i (List.mem_range.2 hi)
  rw [ho] at h1
  have h2 := Array.all_eq_true_iff_forall_mem.1 h1 e he
  simpa [hb] using h2
theorem ready_empty {ops : Array Oper} {L : Array Bool} (hb : backward ops = true) (hL : L.size = ops.size) (h : Region.ready .any ops L = []) (i : Nat) : i < ops.size → L.getD i false = true := by
  induction i using Nat.strongRecOn with
  | _ i ih =>
    intro hi
    by_cases hl : L.getD i false = true
    · exact hl
    · exfalso
      have hm : i ∈ Region.ready .any ops L := mem_ready.2 ⟨by
        have h1 : i < L.size := by omega
        simp [h1] at hl ⊢; exact hl, ops[i], by simp [hi], fun e he hbd => ih e.on (backward_spec hb (show ops[i]? = some ops[i] by simp [hi]) he hbd) (by have := backward_spec hb (show ops[i]? = some ops[i] by simp [hi]) he hbd; omega)⟩
      rw [h] at hm; cases hm
/-- How many are still to come. -/
def leftOf (L : Array Bool) : Nat := L.toList.count false
theorem leftOf_set {L : Array Bool} {i : Nat} (h : L.getD i true = false) : leftOf (L.setIfInBounds i true) + 1 = leftOf L := by
  have hi : i < L.size := by
    rcases Nat.lt_or_ge i L.size with h' | h'
    · exact h'
    · simp [Array.getElem?_eq_none h'] at h
  have hv : L.toList[i]'(by simpa using hi) = false := by simpa [hi] using h
  unfold leftOf
  rw [Array.toList_setIfInBounds, List.count_set (by simpa using hi), hv]
  have hpos : 0 < List.count false L.toList := List.count_pos_iff.2 (by rw [← hv]; exact List.getElem_mem _)
  simp only [beq_self_eq_true, if_true, show (true == false) = false from rfl]
  have : (if false = true then 1 else 0) = 0 := rfl
  omega
theorem leftOf_none {L : Array Bool} (h : leftOf L = 0) (i : Nat) (hi : i < L.size) : L.getD i false = true := by
  have h1 : false ∉ L.toList := List.count_eq_zero.1 h
  have h2 : L[i] ∈ L.toList := by simp
  cases hv : L[i] with
  | true => simp [hi, hv]
  | false => rw [hv] at h2; exact absurd h2 h1
section
variable {P : Program} {ops : Array Oper} {Q : Exit → Act → World → Prop}
theorem wpAny_inv (I : Array Bool → Act → World → Prop) (hb : backward ops = true)
    (hstep : ∀ (i : Nat) (o : Oper) (L : Array Bool) (a : Act) (w : World), ops[i]? = some o → L.getD i true = false → (∀ e ∈ o.after, Region.binds .any e = true → L.getD e.on false = true) → I L a w → wpOp P ops Q i (I (L.setIfInBounds i true)) a w)
    (hdone : ∀ L a w, (∀ i, i < ops.size → L.getD i false = true) → I L a w → Q .normal a w) :
    ∀ (fuel : Nat) (L : Array Bool) (a : Act) (w : World), L.size = ops.size → leftOf L ≤ fuel → I L a w → wpAny P .any ops Q fuel L a w
  | 0, L, a, w, hL, hf, h => by
    have hall : ∀ i, i < ops.size → L.getD i false = true := fun i hi => leftOf_none (by omega) i (by omega)
    refine ⟨List.eq_nil_iff_forall_not_mem.2 fun i hi => ?_, hdone L a w hall h⟩
    obtain ⟨h1, o, ho, -⟩ := mem_ready.1 hi
    have h2 := hall i (Array.getElem?_eq_some_iff.1 ho).1
    rw [getD_both h1] at h2; cases h2
  | fuel + 1, L, a, w, hL, hf, h => by
    refine ⟨fun h0 => hdone L a w (ready_empty hb hL h0) h, fun i hi => ?_⟩
    obtain ⟨h1, o, ho, h2⟩ := mem_ready.1 hi
    refine wpOp_mono (fun a' w' h' => wpAny_inv I hb hstep hdone fuel _ a' w' (by rw [Array.size_setIfInBounds]; exact hL) ?_ h') (hstep i o L a w ho h1 h2 h)
    have := leftOf_set h1
    omega
/-- No two operations write one slot. -/
def apartDst (ops : Array Oper) : Bool := (List.range ops.size).all fun i => (List.range ops.size).all fun j => decide (i = j) || match ops[i]?, ops[j]? with | some o, some p => (match o.dst, p.dst with | some d, some e => decide (d ≠ e) | _, _ => true) | _, _ => true
theorem apartDst_spec (h : apartDst ops = true) {i j : Nat} {o p : Oper} {d e : Tmp} (hij : i ≠ j) (hi : ops[i]? = some o) (hj : ops[j]? = some p) (hd : o.dst = some d) (he : p.dst = some e) : d ≠ e := by
  have h1 := List.all_eq_true.1 (List.all_eq_true.1 h i (List.mem_range.2 (Array.getElem?_eq_some_iff.1 hi).1)) j (List.mem_range.2 (Array.getElem?_eq_some_iff.1 hj).1)
  rw [hi, hj] at h1
  simpa [hij, hd, he] using h1
/-- The value that stands where an operation wrote. -/
def valOf (a : Act) (o : Oper) : Value := match o.dst with | some d => a.tmps.getD d undef | none => undef
/-- What holds on the way: the frame but for what was written, and each fact of what has come up. -/
structure InvAt (ops : Array Oper) (a0 : Act) (S : World → Prop) (V : Nat → Value → World → Prop) (L : Array Bool) (a : Act) (w : World) : Prop where
  world : S w
  defers : a.defers = a0.defers
  size : a.tmps.size = a0.tmps.size
  slot : ∀ t, (∀ (i : Nat) (o : Oper), ops[i]? = some o → o.dst ≠ some t) → a.tmps.getD t undef = a0.tmps.getD t undef
  fact : ∀ (i : Nat) (o : Oper), ops[i]? = some o → L.getD i false = true → V i (valOf a o) w
theorem region_facts {id : Nat} {a0 : Act} {w : World} (S : World → Prop) (R : World → World → Prop) (V : Nat → Value → World → Prop) (hm : P.follows .mixedOrders = true)
    (hb : backward ops = true) (hd : apartDst ops = true) (hfit : (List.range ops.size).all (fun i => match ops[i]? with | some o => (match o.dst with | some d => decide (d < a0.tmps.size) | none => true) | none => true) = true) (hS : S w.drew)
    (hR : ∀ i u w w', S w → R w w' → V i u w → V i u w')
    (hop : ∀ (i : Nat) (o : Oper) (A : Act) (W : World), ops[i]? = some o → S W → (∀ t, (∀ (i : Nat) (o : Oper), ops[i]? = some o → o.dst ≠ some t) → A.tmps.getD t undef = a0.tmps.getD t undef) →
      (∀ e ∈ o.after, Region.binds .any e = true → ∀ p, ops[e.on]? = some p → V e.on (valOf A p) W) → wpOp P ops (NoPanic Q) i (fun a' w' => ∃ v, a' = A.put o.dst v ∧ S w' ∧ R W w' ∧ (∀ (u : Value), u = (match o.dst with | some _ => v | none => undef) → V i u w')) A W)
    (h : ∀ A W, S W → A.defers = a0.defers → A.tmps.size = a0.tmps.size → (∀ t, (∀ (i : Nat) (o : Oper), ops[i]? = some o → o.dst ≠ some t) → A.tmps.getD t undef = a0.tmps.getD t undef) → (∀ (i : Nat) (o : Oper), ops[i]? = some o → V i (valOf A o) W) → Q .normal A W) :
    (Code.region id ops true).wp P Q a0 w := by
  refine wp_region_noPanic (wp_region_any hm ?_)
  refine wpAny_inv (InvAt ops a0 S V) hb ?_ ?_ ops.size _ a0 w.drew (by simp) (by simp [leftOf]) ⟨hS, rfl, rfl, fun _ _ => rfl, fun i o ho hl => ?_⟩
  · intro i o L a w1 ho hl hdep hI
    refine wpOp_mono ?_ (hop i o a w1 ho hI.world hI.slot (fun e he hbd p hp => hI.fact e.on p hp (hdep e he hbd)))
    rintro a' w' ⟨v, rfl, hS', hR', hV⟩
    have hdlt : ∀ d, o.dst = some d → d < a.tmps.size := fun d hd' => by
      have h1 := List.all_eq_true.1 hfit i (List.mem_range.2 (Array.getElem?_eq_some_iff.1 ho).1)
      rw [ho] at h1
      simp only [hd', decide_eq_true_eq] at h1
      rw [hI.size]; exact h1
    refine ⟨hS', ?_, ?_, ?_, ?_⟩
    · cases o.dst <;> exact hI.defers
    · rw [← hI.size]; cases o.dst <;> simp [Act.put]
    · intro t ht
      rw [← hI.slot t ht]
      cases hd' : o.dst with
      | none => rfl
      | some d =>
        have hne : d ≠ t := fun e => ht i o ho (by rw [hd', e])
        simp [Act.put, Array.getElem?_setIfInBounds_ne hne]
    · intro j p hp hlj
      by_cases hij : i = j
      · subst hij
        rw [ho] at hp; cases hp
        refine hV _ ?_
        unfold valOf
        cases hd' : o.dst with
        | none => rfl
        | some d => simp [Act.put, hdlt d hd']
      · have hlj' : L.getD j false = true := by rw [getD_set_ne false hij] at hlj; exact hlj
        have h1 := hR j _ w1 w' hI.world hR' (hI.fact j p hp hlj')
        have e : valOf (a.put o.dst v) p = valOf a p := by
          unfold valOf
          cases hpd : p.dst with
          | none => rfl
          | some e =>
            cases hd' : o.dst with
            | none => rfl
            | some d => simp [Act.put, Array.getElem?_setIfInBounds_ne (apartDst_spec hd hij ho hp hd' hpd)]
        rw [e]; exact h1
  · intro L a w1 hall hI
    exact h a w1 hI.world hI.defers hI.size hI.slot (fun i o ho => hI.fact i o ho (hall i (Array.getElem?_eq_some_iff.1 ho).1))
  · exfalso
    have hi := (Array.getElem?_eq_some_iff.1 ho).1
    simp [hi] at hl
end
end Go.Proofs.Ytacgkfngpeieaaa

/-
  A region in any order, where an operation's fact may speak of the slots of those that it waits for.
-/
namespace Go.Proofs.Ytacgkfngpeieaaa
open Go.RowKit Go.Proofs.ShaWords
/-- The slots. -/
def rdA (a : Act) (t : Nat) : Value := a.tmps.getD t undef
/-- Each slot that a fact reads is written by its own operation, or by one that it waits for. -/
def readsOk (ops : Array Oper) (reads : Nat → List Nat) : Bool := (List.range ops.size).all fun j => (reads j).all fun t => (List.range ops.size).all fun i => match ops[i]?, ops[j]? with | some o, some p => (match o.dst with | some d => decide (d ≠ t) || decide (i = j) || p.after.any (fun e => Region.binds .any e && decide (e.on = i)) | none => true) | _, _ => true
theorem readsOk_spec {ops : Array Oper} {reads : Nat → List Nat} (h : readsOk ops reads = true) {i j t : Nat} {o p : Oper} (hi : ops[i]? = some o) (hj : ops[j]? = some p) (ht : t ∈ reads j) (hd : o.dst = some t) (hij : i ≠ j) : ∃ e ∈ p.after, Region.binds .any e = true ∧ e.on = i := by
  have h1 := List.all_eq_true.1 (List.all_eq_true.1 (List.all_eq_true.1 h j (List.mem_range.2 (Array.getElem?_eq_some_iff.1 hj).1)) t ht) i (List.mem_range.2 (Array.getElem?_eq_some_iff.1 hi).1)
  rw [hi, hj] at h1
  simp only [hd, ne_eq, not_true_eq_false, decide_false, Bool.false_or, hij, Array.any_eq_true', Bool.and_eq_true, decide_eq_true_eq] at h1
  obtain ⟨e, he, h2, h3⟩ := h1
  exact ⟨e, he, h2, h3⟩
/-- What holds on the way. -/
structure InvB (ops : Array Oper) (a0 : Act) (S : World → Prop) (V : Nat → (Nat → Value) → World → Prop) (L : Array Bool) (a : Act) (w : World) : Prop where
  world : S w
  defers : a.defers = a0.defers
  size : a.tmps.size = a0.tmps.size
  slot : ∀ t, (∀ (i : Nat) (o : Oper), ops[i]? = some o → o.dst ≠ some t) → a.tmps.getD t undef = a0.tmps.getD t undef
  fact : ∀ (i : Nat) (o : Oper), ops[i]? = some o → L.getD i false = true → V i (rdA a) w
  closed : ∀ (i : Nat) (o : Oper), ops[i]? = some o → L.getD i false = true → ∀ e ∈ o.after, Region.binds .any e = true → L.getD e.on false = true
theorem region_facts2 {P : Program} {ops : Array Oper} {Q : Exit → Act → World → Prop} {id : Nat} {a0 : Act} {w : World} (S : World → Prop) (R : World → World → Prop) (V : Nat → (Nat → Value) → World → Prop) (reads : Nat → List Nat) (hm : P.follows .mixedOrders = true)
    (hb : backward ops = true) (hr : readsOk ops reads = true) (hfit : (List.range ops.size).all (fun i => match ops[i]? with | some o => (match o.dst with | some d => decide (d < a0.tmps.size) | none => true) | none => true) = true) (hS : S w.drew)
    (hV : ∀ i ρ ρ' w, (∀ t ∈ reads i, ρ t = ρ' t) → V i ρ w → V i ρ' w) (hR : ∀ i ρ w w', S w → R w w' → V i ρ w → V i ρ w')
    (hop : ∀ (i : Nat) (o : Oper) (A : Act) (W : World), ops[i]? = some o → S W → (∀ t, (∀ (i : Nat) (o : Oper), ops[i]? = some o → o.dst ≠ some t) → A.tmps.getD t undef = a0.tmps.getD t undef) →
      (∀ e ∈ o.after, Region.binds .any e = true → ∀ p, ops[e.on]? = some p → V e.on (rdA A) W) → wpOp P ops (NoPanic Q) i (fun a' w' => ∃ v, a' = A.put o.dst v ∧ S w' ∧ R W w' ∧ (∀ ρ : Nat → Value, (∀ t, o.dst ≠ some t → ρ t = rdA A t) → (∀ d, o.dst = some d → ρ d = v) → V i ρ w')) A W)
    (h : ∀ A W, S W → A.defers = a0.defers → A.tmps.size = a0.tmps.size → (∀ t, (∀ (i : Nat) (o : Oper), ops[i]? = some o → o.dst ≠ some t) → A.tmps.getD t undef = a0.tmps.getD t undef) → (∀ (i : Nat) (o : Oper), ops[i]? = some o → V i (rdA A) W) → Q .normal A W) :
    (Code.region id ops true).wp P Q a0 w := by
  have hmono : ∀ (L : Array Bool) (i j : Nat), L.getD j false = true → (L.setIfInBounds i true).getD j false = true := fun L i j hj => by
    by_cases hij : i = j
    · subst hij
      have hlt : i < L.size := by
        rcases Nat.lt_or_ge i L.size with h' | h'
        · exact h'
        · simp [Array.getElem?_eq_none h'] at hj
      simp [hlt]
    · rw [getD_set_ne false hij]; exact hj
  refine wp_region_noPanic (wp_region_any hm ?_)
  refine wpAny_inv (InvB ops a0 S V) hb ?_ ?_ ops.size _ a0 w.drew (by simp) (by simp [leftOf]) ⟨hS, rfl, rfl, fun _ _ => rfl, fun i o ho hl => ?_, fun i o ho hl => ?_⟩
  · intro i o L a w1 ho hl hdep hI
    refine wpOp_mono ?_ (hop i o a w1 ho hI.world hI.slot (fun e he hbd p hp => hI.fact e.on p hp (hdep e he hbd)))
    rintro a' w' ⟨v, rfl, hS', hR', hVi⟩
    have hdlt : ∀ d, o.dst = some d → d < a.tmps.size := fun d hd' => by
      have h1 := List.all_eq_true.1 hfit i (List.mem_range.2 (Array.getElem?_eq_some_iff.1 ho).1)
      rw [ho] at h1
      simp only [hd', decide_eq_true_eq] at h1
      rw [hI.size]; exact h1
    have hput : ∀ t, o.dst ≠ some t → rdA (a.put o.dst v) t = rdA a t := fun t ht => by
      unfold rdA
      cases hd' : o.dst with
      | none => rfl
      | some d =>
        have hne : d ≠ t := fun e => ht (by rw [hd', e])
        simp [Act.put, Array.getElem?_setIfInBounds_ne hne]
    refine ⟨hS', ?_, ?_, ?_, ?_, ?_⟩
    · cases o.dst <;> exact hI.defers
    · rw [← hI.size]; cases o.dst <;> simp [Act.put]
    · intro t ht
      rw [← hI.slot t ht]
      exact hput t (ht i o ho)
    · intro j p hp hlj
      by_cases hij : i = j
      · subst hij
        refine hVi _ hput (fun d hd' => ?_)
        unfold rdA
        simp [hd', Act.put, hdlt d hd']
      · have hlj' : L.getD j false = true := by rw [getD_set_ne false hij] at hlj; exact hlj
        have h1 := hR j _ w1 w' hI.world hR' (hI.fact j p hp hlj')
        refine hV j _ _ w' (fun t ht => (hput t (fun hd' => ?_)).symm) h1
        obtain ⟨e, he, hbd, hon⟩ := readsOk_spec hr ho hp ht hd' hij
        have h2 := hI.closed j p hp hlj' e he hbd
        rw [hon] at h2
        have h3 : i < L.size := by
          rcases Nat.lt_or_ge i L.size with h' | h'
          · exact h'
          · simp [Array.getElem?_eq_none h'] at hl
        simp [h3] at hl h2
        rw [hl] at h2; cases h2
    · intro j p hp hlj e he hbd
      by_cases hij : i = j
      · subst hij
        rw [ho] at hp; cases hp
        exact hmono L i e.on (hdep e he hbd)
      · have hlj' : L.getD j false = true := by rw [getD_set_ne false hij] at hlj; exact hlj
        exact hmono L i e.on (hI.closed j p hp hlj' e he hbd)
  · intro L a w1 hall hI
    exact h a w1 hI.world hI.defers hI.size hI.slot (fun i o ho => hI.fact i o ho (hall i (Array.getElem?_eq_some_iff.1 ho).1))
  · exfalso
    have hi := (Array.getElem?_eq_some_iff.1 ho).1
    simp [hi] at hl
  · exfalso
    have hi := (Array.getElem?_eq_some_iff.1 ho).1
    simp [hi] at hl
theorem slot_free {ops : Array Oper} {t : Nat} (h : ops.all (fun o => decide (o.dst ≠ some t)) = true) (i : Nat) (o : Oper) (ho : ops[i]? = some o) : o.dst ≠ some t := by
  have h1 := Array.all_eq_true_iff_forall_mem.1 h o (Array.mem_of_getElem? ho)
  simpa using h1
theorem wpOp_value {P : Program} {ops : Array Oper} {Q : Exit → Act → World → Prop} {i : Nat} {K : Act → World → Prop} {a : Act} {w w' : World} {o : Oper} {v : Value} (ho : ops[i]? = some o) (hg : o.guard = none) (hr : (execOp a.eval o).run P w = .ok (.value v) w') (h : K (a.put o.dst v) w') : wpOp P ops Q i K a w := by
  refine wpOp_of_wp ho hg ?_
  unfold Oper.wp
  rw [hr, Oper.upon_value]
  exact h
theorem act_ext {a : Act} {N : Nat} {X : Array Value} {D : List Deferred} (h1 : a.tmps.size = N) (h2 : X.size = N) (h3 : a.defers = D) (h : ∀ t, t < N → a.tmps.getD t undef = X.getD t undef) : a = { tmps := X, defers := D } := by
  obtain ⟨tm, df⟩ := a
  simp only at h1 h3 h
  subst h3
  have : tm = X := by
    apply Array.ext (by omega)
    intro i hi hj
    have := h i (by omega)
    simpa [hi, hj] using this
  rw [this]
theorem put_get (a : Act) (d t : Nat) (v : Value) : (a.put (some d) v).tmps.getD t undef = if d = t ∧ t < a.tmps.size then v else a.tmps.getD t undef := by
  by_cases h : d = t
  · subst h
    by_cases h2 : d < a.tmps.size
    · simp [Act.put, h2]
    · simp [Act.put, h2]
  · simp [Act.put, h, Array.getElem?_setIfInBounds_ne h]
theorem act_of_slots {A : Act} : ∀ (ts : List Nat) (a0 : Act), A.tmps.size = a0.tmps.size → A.defers = a0.defers → (∀ t, t ∉ ts → A.tmps.getD t undef = a0.tmps.getD t undef) → A = ts.foldl (fun a t => a.put (some t) (rdA A t)) a0
  | [], a0, h1, h2, h3 => act_ext (X := a0.tmps) (D := a0.defers) rfl h1.symm h2 (fun t _ => h3 t (by simp))
  | d :: ts, a0, h1, h2, h3 => by
    refine act_of_slots ts (a0.put (some d) (rdA A d)) (by simp [Act.put, h1]) (by simp [Act.put, h2]) (fun t ht => ?_)
    rw [put_get]
    by_cases h : d = t
    · subst h
      by_cases h4 : d < a0.tmps.size
      · rw [if_pos ⟨rfl, h4⟩]; rfl
      · rw [if_neg (fun h => h4 h.2)]
        simp [Array.getElem?_eq_none (show A.tmps.size ≤ d by omega), Array.getElem?_eq_none (show a0.tmps.size ≤ d by omega)]
    · rw [if_neg (fun h' => h h'.1)]
      exact h3 t (by simp [Ne.symm h, ht])
/-- Slots that no operation writes. -/
theorem slots_free {ops : Array Oper} {ts : List Nat} (h : ops.all (fun o => match o.dst with | some d => ts.contains d | none => true) = true) (t : Nat) (ht : t ∉ ts) (i : Nat) (o : Oper) (ho : ops[i]? = some o) : o.dst ≠ some t := fun hd => by
  have h1 := Array.all_eq_true_iff_forall_mem.1 h o (Array.mem_of_getElem? ho)
  rw [hd] at h1
  exact ht (by simpa using h1)
end Go.Proofs.Ytacgkfngpeieaaa

/-
  Arrays whose first byte is given, in new blocks, laid in any order: what the statement BoxPlays does ahead of each call.
-/
namespace Go.Proofs.Ytacgkfngpeieaaa
open Go.RowKit Go.Proofs.ShaWords
section
variable {ρ : Operand → Value} {o : Oper} {x y c : Operand} {w : World}
theorem run_keyOf {b : BitVec 8} (ho : o.op = .build 38 #[(0, x)]) (hx : ρ x = .int .u8 (n8 b)) (w : World) : (execOp ρ o).run Try.prog w = .ok (.value (.agg (bytesV (b :: noughts 31)).toArray)) w := by
  have e : (bytesV (b :: noughts 31)).toArray = #[.int .u8 (n8 b), .int .u8 0, .int .u8 0, .int .u8 0, .int .u8 0, .int .u8 0, .int .u8 0, .int .u8 0, .int .u8 0, .int .u8 0, .int .u8 0, .int .u8 0, .int .u8 0, .int .u8 0, .int .u8 0, .int .u8 0, .int .u8 0, .int .u8 0, .int .u8 0, .int .u8 0, .int .u8 0, .int .u8 0, .int .u8 0, .int .u8 0, .int .u8 0, .int .u8 0, .int .u8 0, .int .u8 0, .int .u8 0, .int .u8 0, .int .u8 0, .int .u8 0] := rfl
  rw [e]
  obtain ⟨dst, op, ty', pos, after, guard⟩ := o
  simp only at ho
  subst ho
  go_simp
theorem run_nonceOf {b : BitVec 8} (ho : o.op = .build 40 #[(0, x)]) (hx : ρ x = .int .u8 (n8 b)) (w : World) : (execOp ρ o).run Try.prog w = .ok (.value (.agg (bytesV (b :: noughts 11)).toArray)) w := by
  have e : (bytesV (b :: noughts 11)).toArray = #[.int .u8 (n8 b), .int .u8 0, .int .u8 0, .int .u8 0, .int .u8 0, .int .u8 0, .int .u8 0, .int .u8 0, .int .u8 0, .int .u8 0, .int .u8 0, .int .u8 0] := rfl
  rw [e]
  obtain ⟨dst, op, ty', pos, after, guard⟩ := o
  simp only at ho
  subst ho
  go_simp
theorem run_allocKey (ho : o.op = .alloc 38) (w : World) : (execOp ρ o).run Try.prog w = .ok (.value (.pointer (some ⟨w.heap.size, 0, none⟩))) (w.alloc (.cells (bytesV (noughts 32)).toArray 38)) := by
  have e : (bytesV (noughts 32)).toArray = Array.replicate 32 (.int .u8 0) := by kernel_rfl
  rw [e]
  obtain ⟨dst, op, ty', pos, after, guard⟩ := o
  simp only at ho
  subst ho
  go_simp
  rfl
theorem run_allocNonce (ho : o.op = .alloc 40) (w : World) : (execOp ρ o).run Try.prog w = .ok (.value (.pointer (some ⟨w.heap.size, 0, none⟩))) (w.alloc (.cells (bytesV (noughts 12)).toArray 40)) := by
  have e : (bytesV (noughts 12)).toArray = Array.replicate 12 (.int .u8 0) := by kernel_rfl
  rw [e]
  obtain ⟨dst, op, ty', pos, after, guard⟩ := o
  simp only at ho
  subst ho
  go_simp
  rfl
end
/-- What each operation has yielded. -/
def KrV (B T : Nat) (o : OpM) : Nat → (Nat → Value) → World → Prop
  | 0, ρ, _ => ρ 66 = .pointer (some ⟨T, 1, none⟩)
  | 1, ρ, _ => ρ 67 = .int .u8 (n8 o.k)
  | 2, ρ, _ => ρ 68 = .agg (bytesV (o.k :: noughts 31)).toArray
  | 3, ρ, _ => ρ 69 = .pointer (some ⟨T, 2, none⟩)
  | 4, ρ, _ => ρ 70 = .int .u8 (n8 o.n)
  | 5, ρ, _ => ρ 71 = .agg (bytesV (o.n :: noughts 11)).toArray
  | 6, ρ, w => ∃ g, ρ 13 = .pointer (some ⟨g, 0, none⟩) ∧ B ≤ g ∧ ∃ kk : List (BitVec 8), kk.length = 32 ∧ BytesAt w g 38 kk
  | 7, ρ, w => ∃ g, ρ 14 = .pointer (some ⟨g, 0, none⟩) ∧ B ≤ g ∧ ∃ kk : List (BitVec 8), kk.length = 12 ∧ BytesAt w g 40 kk
  | 8, ρ, w => ∃ g, ρ 13 = .pointer (some ⟨g, 0, none⟩) ∧ B ≤ g ∧ BytesAt w g 38 (o.k :: noughts 31)
  | 9, ρ, w => ∃ g, ρ 14 = .pointer (some ⟨g, 0, none⟩) ∧ B ≤ g ∧ BytesAt w g 40 (o.n :: noughts 11)
  | _, _, _ => True
def krReads : Nat → List Nat
  | 0 => [66] | 1 => [67] | 2 => [68] | 3 => [69] | 4 => [70] | 5 => [71] | 6 => [13] | 7 => [14] | 8 => [13] | 9 => [14] | _ => []
theorem krV_reads (B T : Nat) (o : OpM) (i : Nat) (ρ ρ' : Nat → Value) (w : World) (h : ∀ t ∈ krReads i, ρ t = ρ' t) (hv : KrV B T o i ρ w) : KrV B T o i ρ' w := by
  match i, h, hv with
  | 0, h, hv => exact (h 66 (by simp [krReads])).symm.trans hv
  | 1, h, hv => exact (h 67 (by simp [krReads])).symm.trans hv
  | 2, h, hv => exact (h 68 (by simp [krReads])).symm.trans hv
  | 3, h, hv => exact (h 69 (by simp [krReads])).symm.trans hv
  | 4, h, hv => exact (h 70 (by simp [krReads])).symm.trans hv
  | 5, h, hv => exact (h 71 (by simp [krReads])).symm.trans hv
  | 6, h, ⟨g, e, r⟩ => exact ⟨g, (h 13 (by simp [krReads])).symm.trans e, r⟩
  | 7, h, ⟨g, e, r⟩ => exact ⟨g, (h 14 (by simp [krReads])).symm.trans e, r⟩
  | 8, h, ⟨g, e, r⟩ => exact ⟨g, (h 13 (by simp [krReads])).symm.trans e, r⟩
  | 9, h, ⟨g, e, r⟩ => exact ⟨g, (h 14 (by simp [krReads])).symm.trans e, r⟩
  | n + 10, h, hv => trivial
/-- What a step keeps. -/
structure KrR (o : OpM) (w w' : World) : Prop where
  shape : ∀ (g : Nat) (t : TypeId) (l : List (BitVec 8)), (t = 38 ∨ t = 40) → BytesAt w g t l → ∃ l' : List (BitVec 8), l'.length = l.length ∧ BytesAt w' g t l'
  key : ∀ g, BytesAt w g 38 (o.k :: noughts 31) → BytesAt w' g 38 (o.k :: noughts 31)
  nonce : ∀ g, BytesAt w g 40 (o.n :: noughts 11) → BytesAt w' g 40 (o.n :: noughts 11)
theorem KrR.of_below {o : OpM} {w w' : World} (h : Below w.heap.size w w') : KrR o w w' := ⟨fun _ _ l _ hb => ⟨l, rfl, hb.keep h⟩, fun _ hb => hb.keep h, fun _ hb => hb.keep h⟩
theorem krV_on (B T : Nat) (o : OpM) (i : Nat) (ρ : Nat → Value) (w w' : World) (h : KrR o w w') (hv : KrV B T o i ρ w) : KrV B T o i ρ w' := by
  match i, hv with
  | 0, hv => exact hv
  | 1, hv => exact hv
  | 2, hv => exact hv
  | 3, hv => exact hv
  | 4, hv => exact hv
  | 5, hv => exact hv
  | 6, ⟨g, e, hg, kk, hl, hb⟩ =>
    obtain ⟨l', h1, h2⟩ := h.shape g _ kk (Or.inl rfl) hb
    exact ⟨g, e, hg, l', h1.trans hl, h2⟩
  | 7, ⟨g, e, hg, kk, hl, hb⟩ =>
    obtain ⟨l', h1, h2⟩ := h.shape g _ kk (Or.inr rfl) hb
    exact ⟨g, e, hg, l', h1.trans hl, h2⟩
  | 8, ⟨g, e, hg, hb⟩ => exact ⟨g, e, hg, h.key g hb⟩
  | 9, ⟨g, e, hg, hb⟩ => exact ⟨g, e, hg, h.nonce g hb⟩
  | n + 10, hv => trivial
theorem krR_setKey {o : OpM} {w : World} {g : Nat} {kk : List (BitVec 8)} (hb : BytesAt w g 38 kk) (hl : kk.length = 32) : KrR o w (w.setRow g (bytesV (o.k :: noughts 31)).toArray) ∧ BytesAt (w.setRow g (bytesV (o.k :: noughts 31)).toArray) g 38 (o.k :: noughts 31) := by
  have h1 : BytesAt (w.setRow g (bytesV (o.k :: noughts 31)).toArray) g 38 (o.k :: noughts 31) := setRow_heap _ _ _ _ _ _ hb
  have h2 := grown_setRow w g (bytesV (o.k :: noughts 31)).toArray
  refine ⟨⟨fun g' t l ht hb' => ?_, fun g' hb' => ?_, fun g' hb' => ?_⟩, h1⟩
  · by_cases e : g' = g
    · subst e
      have e1 := Obj.cells.inj (Option.some.inj (hb'.symm.trans hb))
      have hln : l.length = kk.length := by simpa [bytesV] using congrArg Array.size e1.1
      have ht2 : t = 38 := e1.2.1
      subst ht2
      exact ⟨_, by rw [hln, hl]; simp [noughts], h1⟩
    · exact ⟨l, rfl, hb'.past h2 e⟩
  · by_cases e : g' = g
    · subst e; exact h1
    · exact hb'.past h2 e
  · by_cases e : g' = g
    · subst e
      have e1 := Obj.cells.inj (Option.some.inj (hb'.symm.trans hb))
      exact absurd e1.2.1 (by decide)
    · exact hb'.past h2 e
theorem krR_setNonce {o : OpM} {w : World} {g : Nat} {kk : List (BitVec 8)} (hb : BytesAt w g 40 kk) (hl : kk.length = 12) : KrR o w (w.setRow g (bytesV (o.n :: noughts 11)).toArray) ∧ BytesAt (w.setRow g (bytesV (o.n :: noughts 11)).toArray) g 40 (o.n :: noughts 11) := by
  have h1 : BytesAt (w.setRow g (bytesV (o.n :: noughts 11)).toArray) g 40 (o.n :: noughts 11) := setRow_heap _ _ _ _ _ _ hb
  have h2 := grown_setRow w g (bytesV (o.n :: noughts 11)).toArray
  refine ⟨⟨fun g' t l ht hb' => ?_, fun g' hb' => ?_, fun g' hb' => ?_⟩, h1⟩
  · by_cases e : g' = g
    · subst e
      have e1 := Obj.cells.inj (Option.some.inj (hb'.symm.trans hb))
      have hln : l.length = kk.length := by simpa [bytesV] using congrArg Array.size e1.1
      have ht2 : t = 40 := e1.2.1
      subst ht2
      exact ⟨_, by rw [hln, hl]; simp [noughts], h1⟩
    · exact ⟨l, rfl, hb'.past h2 e⟩
  · by_cases e : g' = g
    · subst e
      have e1 := Obj.cells.inj (Option.some.inj (hb'.symm.trans hb))
      exact absurd e1.2.1 (by decide)
    · exact hb'.past h2 e
  · by_cases e : g' = g
    · subst e; exact h1
    · exact hb'.past h2 e
end Go.Proofs.Ytacgkfngpeieaaa

/-
  The walk of the law BoxPlays.
-/
namespace Go.Proofs.Ytacgkfngpeieaaa
open Go.RowKit Go.Proofs.ShaWords

theorem Own.liesB {B : Nat} {w : World} {l : List (BitVec 8)} {p : Option Addr} {n c : Nat} (h : Own B w l (.slice p n c)) : Lies w p l := by
  obtain ⟨p', c', e, -, -, hl⟩ := h.lies
  cases e
  exact hl
theorem r_toB {ρ : Operand → Value} {o : Oper} {x y : Operand} {p : Option Addr} {n cp k : Nat} (ho : o.op = .slice 22 x none (some y) none) (hk : k ≤ cp) (hx : ρ x = .slice p n cp) (hy : ρ y = .int .i64 (k : Int)) (w : World) :
    (execOp ρ o).run Try.prog w = .ok (.value (.slice p k cp)) w := by
  obtain ⟨dst, op, ty', pos, after, guard⟩ := o
  simp only at ho
  subst ho
  have h0 : (0 : Int) ≤ (k : Int) := by omega
  have h1 : (k : Int) ≤ (cp : Int) := by omega
  cases p <;> go_simp
/-- What a round has at hand: what is to be done, the key, the nonce. -/
structure RnW (T gk gn : Nat) (o : OpM) (kk nn : List (BitVec 8)) (W : World) : Prop where
  op : OpAt W T o
  key : BytesAt W gk 38 kk
  nonce : BytesAt W gn 40 nn
theorem RnW.stay {T gk gn : Nat} {o : OpM} {kk nn : List (BitVec 8)} {W W' : World} {F : Nat → Prop} (h : RnW T gk gn o kk nn W) (hk : Stays F W W') (hF : ∀ k, (k = T ∨ k = gk ∨ k = gn) → ¬ F k) : RnW T gk gn o kk nn W' :=
  ⟨(hk.block _ (Array.getElem?_eq_some_iff.1 h.op).1 (hF T (Or.inl rfl))).trans h.op, (hk.block _ h.key.size (hF gk (Or.inr (Or.inl rfl)))).trans h.key, (hk.block _ h.nonce.size (hF gn (Or.inr (Or.inr rfl)))).trans h.nonce⟩
theorem RnW.on {T gk gn : Nat} {o : OpM} {kk nn : List (BitVec 8)} {W W' : World} (h : RnW T gk gn o kk nn W) (hb : Below W.heap.size W W') : RnW T gk gn o kk nn W' := h.stay (F := fun _ => False) (Below.stays hb) (fun _ _ h => h)
theorem run_loadSlB {ρ : Operand → Value} {o : Oper} {x : Operand} {w : World} {a : Addr} {p : Option Addr} {n c : Nat} (ho : o.op = .load 22 x) (hx : ρ x = .pointer (some a)) (hc : w.cell? a = some (.slice p n c)) : (execOp ρ o).run Try.prog w = .ok (.value (.slice p n c)) w := by
  obtain ⟨dst, op, ty', pos, after, guard⟩ := o
  simp only at ho
  subst ho
  go_simp
theorem OpM.ones (o : OpM) : o.cells.toArray.all (·.oneCell') = true := by
  rw [Array.all_eq_true_iff_forall_mem]
  intro u hu
  simp only [OpM.cells, List.mem_toArray, List.mem_cons, List.not_mem_nil, or_false] at hu
  rcases hu with rfl | rfl | rfl | rfl | rfl | rfl | rfl <;> rfl
theorem wanted_guardF {ops : Array Oper} {a : Act} {o : Oper} {j : Nat} {dj : Tmp} {oj : Oper} (hg : o.guard = some (j, false)) (hj : ops[j]? = some oj) (hd : oj.dst = some dj) (he : a.eval (.tmp dj) = .bool false) : Region.wanted o (yielded ops a.tmps) = true := by
  have h2 : a.tmps[dj]? = some (.bool false) := by
    have h3 : a.tmps.getD dj undef = .bool false := he
    rw [Array.getD_eq_getD_getElem?] at h3
    cases h4 : a.tmps[dj]? with
    | none => rw [h4] at h3; exact absurd h3 (by simp [undef])
    | some u => rw [h4] at h3; simp at h3; rw [h3]
  unfold Region.wanted
  rw [hg]
  simp only [yielded, hj, Option.bind_some, hd, h2]
  rfl
theorem run_extract {ρ : Operand → Value} {o : Oper} {x : Operand} {vs : Array Value} {k : Nat} {v : Value} {P : Program} (ho : o.op = .extract x k) (hx : ρ x = .tuple vs) (hv : vs[k]? = some v) (w : World) : (execOp ρ o).run P w = .ok (.value v) w := by
  obtain ⟨dst, op, ty', pos, after, guard⟩ := o
  simp only at ho
  subst ho
  go_simp
theorem wpList_runW {P : Program} {ops : Array Oper} {rest : List Oper} {o : Oper} {a : Act} {w w' : World} {Q : Exit → Act → World → Prop} {v : Value} (hw : Region.wanted o (yielded ops a.tmps) = true) (hr : (execOp a.eval o).run P w = .ok (.value v) w')
    (h : wpList P ops Q rest (a.put o.dst v) w') : wpList P ops Q (o :: rest) a w := by
  unfold wpList
  rw [if_pos hw]
  refine .inl ?_
  unfold Oper.wp
  rw [hr, Oper.upon_value]
  exact h
theorem wpList_enter {P : Program} {ops : Array Oper} {rest : List Oper} {o : Oper} {a : Act} {w : World} {Q : Exit → Act → World → Prop} {f : FuncId} {args : Array Value} {R : Ending → World → Prop} (hw : Region.wanted o (yielded ops a.tmps) = true) (hr : (execOp a.eval o).run P w = .ok (.enter f args) w)
    (hc : Calls P f args w R) (h : ∀ e w', R e w' → ∃ v, e = .returned v ∧ wpList P ops Q rest (a.put o.dst v) w') : wpList P ops Q (o :: rest) a w := by
  unfold wpList
  rw [if_pos hw]
  refine .inl ?_
  unfold Oper.wp
  rw [hr, Oper.upon_enter]
  refine hc.mono ?_
  rintro e w' hR
  obtain ⟨v, rfl, h⟩ := h e w' hR
  exact h
theorem run_loadOp {ρ : Operand → Value} {o' : Oper} {x : Operand} {w : World} {T : Nat} {o : OpM} (ho : o'.op = .load 35 x) (hx : ρ x = .pointer (some ⟨T, 0, none⟩)) (h : OpAt w T o) : (execOp ρ o').run Try.prog w = .ok (.value (.agg o.cells.toArray)) w := by
  have hr : w.rangeAt T 0 o.cells := fun j v hv => by rw [Nat.zero_add, h.cell]; exact hv
  have h1 := run_loadAt_mid (P := Try.prog) w T 0 35 o.cells _ hr Try.underlying35 rfl (show (Try.prog.info? 35).map (·.size) = some 7 by kernel_rfl)
  unfold execOp
  simp only [ho, hx, Sem.run_bind, h1, Result.andThen_ok, Sem.run_pure]
theorem run_eqlBool {ρ : Operand → Value} {o : Oper} {x y : Operand} {b : Bool} (ho : o.op = .binOp .eql 4 x y 4) (hx : ρ x = .bool b) (hy : ρ y = .bool b) (w : World) : (execOp ρ o).run Try.prog w = .ok (.value (.bool true)) w := by
  obtain ⟨dst, op, ty', pos, after, guard⟩ := o
  simp only at ho
  subst ho
  cases b <;> go_simp <;> rfl
theorem openB_small {A : List RowA} (h : ∀ r ∈ A, r.Small) (key nonce head sealed : List (BitVec 8)) : (openB A key nonce head sealed).length ≤ 300000 := by
  unfold openB
  cases e : openA A key nonce head sealed with
  | none => simp
  | some r => exact (h r (List.mem_of_find?_eq_some e)).2.1
attribute [local irreducible] boxOf
set_option maxRecDepth 100000 in
set_option maxHeartbeats 8000000 in
theorem boxPlays_any (l : List (BitVec 8)) (os : List OpM) (n no cl co : Nat) (pl po : Option Addr) (w : World) (hl : l.length = n) (hln : n ≤ 140737488351232) (hp : Lies w pl l) (hos : os.length = no)
    (hop : os = [] ∨ ∃ b off, po = some ⟨b, off, none⟩ ∧ ∀ k (h : k < os.length), w.rangeAt b (off + k * 7) os[k].cells) (hok : ∀ o ∈ os, o.Ok w) :
    Calls Try.prog 3 #[.slice pl n cl, .slice po no co] w fun e w' => e = .returned (.bool true) ∧ Below w.heap.size w w' := by
  have HL := Lib.hid hl
  have HP := Lib.hid hp; clear hp
  have HOS := Lib.hid hos
  have HOP := Lib.hid hop; clear hop
  have HOK := Lib.hid hok; clear hok
  have HX5 : Hid ((l ++ marks 5).length = n + 5) := show _ = _ by rw [List.length_append, marks_length, hl]
  have HXT : Hid ((l ++ marks 5).take n = l) := show _ = _ by rw [← hl, List.take_left]
  have HKL : Hid (∀ o : OpM, (o.k :: noughts 31).length = 32) := show ∀ o : OpM, _ from fun o => by simp [noughts]
  have HNL : Hid (∀ o : OpM, (o.n :: noughts 11).length = 12) := show ∀ o : OpM, _ from fun o => by simp [noughts]
  clear hl hos
  go_enter Try.func3, Try.ntmps3
  go_wp2_with fail
  refine (lent_bigL l n pl cl w HL.out (by omega) HP.out).mono ?_
  rintro e w1 ⟨v1, rfl, ho1, hb1⟩
  obtain ⟨g1, c1, hv1, hg1, hg1', hc1, hc1', -, -⟩ := ho1.form8 (by rw [HX5.out]; omega)
  rw [HX5.out] at hv1 hc1
  subst hv1
  have HO1 := Lib.hid ho1; clear ho1
  have HB1 := Lib.hid hb1; clear hb1
  have sz1 := HB1.out.size
  have q1 : (n : Int) ≤ (c1 : Int) := by omega
  have q2 : 0 ≤ (n : Int) := by omega
  go_wp2_with fail
  refine (codeNew_any l n (some ⟨g1, 0, none⟩) c1 w1 HL.out (by omega) (by
    obtain ⟨p', c', e', -, -, hl'⟩ := HO1.out.lies
    rw [HX5.out] at e'
    cases e'
    have h := lies_takeB hl' n
    rwa [HXT.out] at h)).mono ?_
  rintro e w2 ⟨x, S, rfl, hc2, hS2, hb2⟩
  have HC2 := Lib.hid hc2; clear hc2
  have HB2 := Lib.hid hb2; clear hb2
  have sz2 := HB2.out.size
  go_wp2_with fail
  refine (refBoxNew_any l n pl cl w2 HL.out (by omega) ((HP.out.below HB1.out).below HB2.out)).mono ?_
  rintro e w3 ⟨y, S', rfl, hr3, hS3, hb3⟩
  have HR3 := Lib.hid hr3; clear hr3
  have HB3 := Lib.hid hb3; clear hb3
  have sz3 := HB3.out.size
  go_wp2_with fail
  refine (kept_big l n (n + 5) (some ⟨g1, 0, none⟩) pl c1 cl w3 HL.out (by omega) (by omega) (by omega) hc1 (by
    obtain ⟨p', c', e', -, -, hl'⟩ := (((HO1.out.below HB2.out).below HB3.out)).lies
    rw [HX5.out] at e'
    cases e'
    exact hl') (((HP.out.below HB1.out).below HB2.out).below HB3.out)).mono ?_
  rintro e w4 ⟨rfl, hb4⟩
  have HB4 := Lib.hid hb4; clear hb4
  have sz4 := HB4.out.size
  go_wp2_with fail
  refine (spoil_big (l ++ marks 5) w.heap.size (n + 5) c1 (some ⟨g1, 0, none⟩) w4 HX5.out (by omega) ((((HO1.out.below HB2.out).below HB3.out)).below HB4.out)).mono ?_
  rintro e w5 ⟨rfl, hg5⟩
  have hs5 : Stays (fun k => k = g1) w4 w5 := grown_stays hg5 (fun k e => (Option.some.inj e).symm)
  have HPW : Hid (PlayW w x y l 0 [] S S' (fun _ => False) (.slice none 0 0) [] w5) := show PlayW _ _ _ _ _ _ _ _ _ _ _ _ from by
    refine ⟨?_, ?_, HadR.nil w5, fun k hk => ?_, fun k hk => ⟨fun h => ?_, id, by simp [Value.ownBlock]⟩, fun k hk => ⟨id, by simp [Value.ownBlock]⟩, ?_⟩
    · exact ((HC2.out.keep (F := fun _ => False) (Below.stays HB3.out) (fun _ h => h.elim)).keep (F := fun _ => False) (Below.stays HB4.out) (fun _ h => h.elim)).keep hs5 (fun k hk s => by have := hS2 k s; omega)
    · exact (HR3.out.keep (F := fun _ => False) (Below.stays HB4.out) (fun _ h => h.elim)).keep hs5 (fun k hk s => by have := hS3 k s; omega)
    · rcases hk with h | h | h | h
      · have := hS2 k h; omega
      · have := hS3 k h; omega
      · exact h.elim
      · simp [Value.ownBlock] at h
    · have h1 := HC2.out.dom k hk
      have h2 := hS3 k h
      omega
    · exact (((HB1.out.trans (HB2.out.mono sz1)).trans (HB3.out.mono (by omega))).trans (HB4.out.mono (by omega))).trans (hs5.below (fun k hk => by omega) (by omega))
  clear hS2 hS3 hs5 hg5 HC2 HR3 HO1 HB1 HB2 HB3 HB4
  go_wp2_with fail
  go_loopw [9, 10, 11] (fun sm hv i wr => ∃ k : Nat, k ≤ 60 ∧ i = .int .i64 (k : Int) ∧ sm = .bool true ∧ ∃ d A S S' D vs, d ≤ k * 2000 ∧ A.length ≤ k ∧ vs.length ≤ k ∧ (∀ r ∈ A, r.Small) ∧ PlayW w x y l d A S S' D hv vs wr) (fun _ _ i _ => 60 - (intOf i).toNat)
  case atStart => exact ⟨0, by omega, rfl, rfl, 0, [], S, S', _, [], by omega, by simp, by simp, by simp, HPW.out⟩
  case round =>
    clear HPW
    obtain ⟨k, hk, rfl, rfl, d, A, S, S', D, vs, hd, hA, hvs, hsm, hw⟩ := hrel
    have HW := Lib.hid hw; clear hw
    have HSM := Lib.hid hsm; clear hsm
    by_cases hlt : k < no
    · by_cases hlt2 : k < 60
      · have q3 : (k : Int) < (no : Int) := by omega
        have q4 : (k : Int) < 60 := by omega
        obtain ⟨b, off, rfl, hrg⟩ : ∃ b off, po = some ⟨b, off, none⟩ ∧ ∀ k (h : k < os.length), w.rangeAt b (off + k * 7) os[k].cells := by
          rcases HOP.out with h | h
          · have := HOS.out; rw [h] at this; simp at this; omega
          · exact h
        have hko : k < os.length := by rw [HOS.out]; exact hlt
        obtain ⟨o, ho⟩ : ∃ o, o = os[k] := ⟨_, rfl⟩
        have hrgk := hrg k hko
        clear hrg
        have hrg := hrgk
        clear hrgk
        rw [← ho] at hrg
        have hoo := HOK.out o (by rw [ho]; exact List.getElem_mem _)
        have HRG : Hid (wr.rangeAt b (off + k * 7) o.cells) := show World.rangeAt _ _ _ _ from fun j v hv => (HW.out.below.cell (p := ⟨b, off + k * 7 + j, none⟩) (World.block_lt_of_cell? w _ (hrg j v hv))).trans (hrg j v hv)
        have HOO := Lib.hid hoo
        clear hoo hrg ho hko
        have HCS : Hid (o.cells.length = 7) := show _ = _ from rfl
        have HI : Hid ((Try.prog.info? 35).map (·.size) = some o.cells.length) := show _ = _ from (show (Try.prog.info? 35).map (·.size) = some 7 by kernel_rfl)
        have HI2 : Hid ((Try.prog.info? 35).map (·.size) = some o.cells.toArray.size) := show _ = _ from (show (Try.prog.info? 35).map (·.size) = some 7 by kernel_rfl)
        have HON : Hid (o.cells.toArray.all (·.oneCell') = true) := show _ = _ from o.ones
        go_upto_region 12 with (first
          | (refine wpList_load_mid rfl 35 (.tmp 53) rfl b (off + k * 7) rfl o.cells _ HRG.out Try.underlying35 rfl HI.out ?_)
          | (refine wpList_store_new rfl 35 (.tmp 12) (.tmp 54) rfl wr.heap.size rfl o.cells.toArray rfl rfl HI2.out (by rfl) HON.out ?_; intro w6 h6 b6; have HT6 := Lib.hid (show OpAt w6 wr.heap.size o from h6); have HB6 := Lib.hid b6; clear h6 b6))
        have HW6 := Lib.hid (HW.out.on HB6.out)
        have HW6L := HW.out.lt
        have zw6 : w.heap.size ≤ w6.heap.size := HW6.out.below.size
        clear HW HRG
        have HTL : Hid (∀ k, PlayOwn S S' D u10 k → k < wr.heap.size) := show ∀ k, _ from fun k hk => HW6L k hk
        have hT6 : wr.heap.size < w6.heap.size := (Array.getElem?_eq_some_iff.1 HT6.out).1
        generalize wr.heap.size = T at HT6 HB6 HTL hT6 ⊢
        have e3 : w6.cell? ⟨T, 3, none⟩ = some (.slice o.hp o.head.length o.hc) := by rw [HT6.out.cell]; rfl
        have e4 : w6.cell? ⟨T, 4, none⟩ = some (.slice o.tp o.text.length o.tc) := by rw [HT6.out.cell]; rfl
        by_cases hbh : 1024 < o.head.length
        · have t1 : (1024 : Int) < (o.head.length : Int) := by omega
          go_wp2_with fail
          refine (known6_any w6).mono ?_
          rintro e w8 ⟨rfl, hb8⟩
          have HW8 := Lib.hid (HW6.out.on hb8); clear hb8
          go_wp2_with fail
          go_ret
          exact ⟨rfl, HW8.out.below⟩
        by_cases hbt : 1024 < o.text.length
        · have t1 : ¬ (1024 : Int) < (o.head.length : Int) := by omega
          have t2 : (1024 : Int) < (o.text.length : Int) := by omega
          go_wp2_with fail
          refine (known6_any w6).mono ?_
          rintro e w8 ⟨rfl, hb8⟩
          have HW8 := Lib.hid (HW6.out.on hb8); clear hb8
          go_wp2_with fail
          go_ret
          exact ⟨rfl, HW8.out.below⟩
        have t1 : ¬ (1024 : Int) < (o.head.length : Int) := by omega
        have t2 : ¬ (1024 : Int) < (o.text.length : Int) := by omega
        go_upto_region 14 with (fail)
        refine region_facts2 (fun W => Below w6.heap.size w6 W) (KrR o) (KrV w6.heap.size T o) krReads (by kernel_rfl) (by kernel_rfl) (by kernel_rfl) (by kernel_rfl) ((Below.refl _ _).drew) (fun i ρ ρ' w h hv => krV_reads _ _ _ i ρ ρ' w h hv) (fun i ρ w w' _ h hv => krV_on _ _ _ i ρ w w' h hv) ?_ ?_
        · intro i op A W hop hS hslot hdep
          have s12 : A.eval (.tmp 12) = .pointer (some ⟨T, 0, none⟩) := hslot 12 (slot_free (by kernel_rfl))
          have sT := HT6.out.onB hS (Nat.le_refl _)
          clear hslot
          match i, hop with
          | 0, hop =>
            cases hop
            refine wpOp_value rfl rfl (run_fieldT (off := 1) rfl (fun _ => by kernel_rfl) s12 W) ⟨_, rfl, hS, KrR.of_below (Below.refl _ _), fun ρ _ hd => hd 66 rfl⟩
          | 1, hop =>
            cases hop
            have h0 : A.eval (.tmp 66) = .pointer (some ⟨T, 1, none⟩) := hdep ⟨0, .data⟩ (by simp) rfl _ rfl
            refine wpOp_value rfl rfl (run_load8 rfl h0 (by rw [sT.cell]; rfl)) ⟨_, rfl, hS, KrR.of_below (Below.refl _ _), fun ρ _ hd => hd 67 rfl⟩
          | 2, hop =>
            cases hop
            have h0 : A.eval (.tmp 67) = .int .u8 (n8 o.k) := hdep ⟨1, .data⟩ (by simp) rfl _ rfl
            refine wpOp_value rfl rfl (run_keyOf rfl h0 W) ⟨_, rfl, hS, KrR.of_below (Below.refl _ _), fun ρ _ hd => hd 68 rfl⟩
          | 3, hop =>
            cases hop
            refine wpOp_value rfl rfl (run_fieldT (off := 2) rfl (fun _ => by kernel_rfl) s12 W) ⟨_, rfl, hS, KrR.of_below (Below.refl _ _), fun ρ _ hd => hd 69 rfl⟩
          | 4, hop =>
            cases hop
            have h0 : A.eval (.tmp 69) = .pointer (some ⟨T, 2, none⟩) := hdep ⟨3, .data⟩ (by simp) rfl _ rfl
            refine wpOp_value rfl rfl (run_load8 rfl h0 (by rw [sT.cell]; rfl)) ⟨_, rfl, hS, KrR.of_below (Below.refl _ _), fun ρ _ hd => hd 70 rfl⟩
          | 5, hop =>
            cases hop
            have h0 : A.eval (.tmp 70) = .int .u8 (n8 o.n) := hdep ⟨4, .data⟩ (by simp) rfl _ rfl
            refine wpOp_value rfl rfl (run_nonceOf rfl h0 W) ⟨_, rfl, hS, KrR.of_below (Below.refl _ _), fun ρ _ hd => hd 71 rfl⟩
          | 6, hop =>
            cases hop
            refine wpOp_value rfl rfl (run_allocKey rfl W) ⟨_, rfl, hS.alloc hS.size _, KrR.of_below ((Below.refl _ _).alloc (Nat.le_refl _) _), fun ρ _ hd => ⟨W.heap.size, hd 13 rfl, hS.size, noughts 32, noughts_length 32, heap_new_at rfl⟩⟩
          | 7, hop =>
            cases hop
            refine wpOp_value rfl rfl (run_allocNonce rfl W) ⟨_, rfl, hS.alloc hS.size _, KrR.of_below ((Below.refl _ _).alloc (Nat.le_refl _) _), fun ρ _ hd => ⟨W.heap.size, hd 14 rfl, hS.size, noughts 12, noughts_length 12, heap_new_at rfl⟩⟩
          | 8, hop =>
            cases hop
            obtain ⟨g, s13, hg, kk, hkk, hb⟩ : KrV w6.heap.size T o 6 (rdA A) W := hdep ⟨6, .data⟩ (by simp) rfl _ rfl
            have h0 : A.eval (.tmp 68) = .agg (bytesV (o.k :: noughts 31)).toArray := hdep ⟨2, .data⟩ (by simp) rfl _ rfl
            refine wpOp_of_wp rfl rfl (wp_store_row 38 _ _ rfl g _ s13 h0 38 _ hb (infoKey _ (by simp [noughts])) (by rw [bytesV_size _ 32 hkk, bytesV_size _ 32 (by simp [noughts])]) (bytesV_one _) ?_)
            obtain ⟨h1, h2⟩ := krR_setKey (o := o) hb hkk
            exact ⟨_, rfl, below_setRow hS hg _, h1, fun ρ hr _ => ⟨g, (hr 13 (by simp)).trans s13, hg, h2⟩⟩
          | 9, hop =>
            cases hop
            obtain ⟨g, s14, hg, kk, hkk, hb⟩ : KrV w6.heap.size T o 7 (rdA A) W := hdep ⟨7, .data⟩ (by simp) rfl _ rfl
            have h0 : A.eval (.tmp 71) = .agg (bytesV (o.n :: noughts 11)).toArray := hdep ⟨5, .data⟩ (by simp) rfl _ rfl
            refine wpOp_of_wp rfl rfl (wp_store_row 40 _ _ rfl g _ s14 h0 40 _ hb (infoNonce _ (by simp [noughts])) (by rw [bytesV_size _ 12 hkk, bytesV_size _ 12 (by simp [noughts])]) (bytesV_one _) ?_)
            obtain ⟨h1, h2⟩ := krR_setNonce (o := o) hb hkk
            exact ⟨_, rfl, below_setRow hS hg _, h1, fun ρ hr _ => ⟨g, (hr 14 (by simp)).trans s14, hg, h2⟩⟩
          | n + 10, hop => simp at hop
        · intro A W hS hD hN hslot hfact
          have HAE := act_of_slots [13, 14, 66, 67, 68, 69, 70, 71] _ hN hD (fun t ht => hslot t (slots_free (by kernel_rfl) t ht))
          obtain ⟨gk, s13, hgk, hbk⟩ : KrV w6.heap.size T o 8 (rdA A) W := hfact 8 _ rfl
          obtain ⟨gn, s14, hgn, hbn⟩ : KrV w6.heap.size T o 9 (rdA A) W := hfact 9 _ rfl
          rw [HAE]
          simp only [List.foldl_cons, List.foldl_nil, s13, s14]
          clear HAE hN hD hslot hfact s13 s14
          generalize rdA A 66 = y66
          generalize rdA A 67 = y67
          generalize rdA A 68 = y68
          generalize rdA A 69 = y69
          generalize rdA A 70 = y70
          generalize rdA A 71 = y71
          clear A
          have HW7 := Lib.hid (HW6.out.on hS)
          have HT7 := Lib.hid (HT6.out.on hS)
          obtain ⟨kk, hkk⟩ : ∃ kk, kk = o.k :: noughts 31 := ⟨_, rfl⟩
          obtain ⟨nn, hnn⟩ : ∃ nn, nn = o.n :: noughts 11 := ⟨_, rfl⟩
          have HKK : Hid (kk.length = 32) := show _ = _ by rw [hkk]; exact HKL.out o
          have HNN : Hid (nn.length = 12) := show _ = _ by rw [hnn]; exact HNL.out o
          rw [← hkk] at hbk
          rw [← hnn] at hbn
          clear hkk hnn
          have HKY := Lib.hid hbk
          have HNC := Lib.hid hbn
          have HB7 := Lib.hid hS
          clear hS hbk hbn e3 e4
          rename World => w7
          go_frame
          have e3 : w7.cell? ⟨T, 3, none⟩ = some (.slice o.hp o.head.length o.hc) := by rw [HT7.out.cell]; rfl
          have HRN7 : Hid (RnW T gk gn o kk nn w7) := show RnW _ _ _ _ _ _ _ from ⟨HT7.out, HKY.out, HNC.out⟩
          have sz7 : w6.heap.size ≤ w7.heap.size := HB7.out.size
          have zk : gk < w7.heap.size := HKY.out.size
          have zn : gn < w7.heap.size := HNC.out.size
          clear HT6 HT7 HKY HNC HB7 HB6 HW6 HW6L
          have HH5 : Hid ((o.head ++ marks 5).length = o.head.length + 5) := show _ = _ by rw [List.length_append, marks_length]
          have HHT : Hid ((o.head ++ marks 5).take o.head.length = o.head) := show _ = _ by rw [List.take_left]
          have HHL := Lib.hid (HOO.out.head)
          have HTL2 := Lib.hid (HOO.out.text)
          go_wp2_with fail
          refine (lent_bigL o.head _ o.hp o.hc w7 rfl (by omega) (HHL.out.below HW7.out.below)).mono ?_
          rintro e w8 ⟨v8, rfl, ho8, hb8⟩
          obtain ⟨gx, cx, hvx, hgx, hgx', hcx, hcx', -, -⟩ := ho8.form8 (by rw [HH5.out]; omega)
          rw [HH5.out] at hvx hcx
          subst hvx
          have HOX := Lib.hid ho8; clear ho8
          have HW8 := Lib.hid (HW7.out.on hb8)
          have HRN8 := Lib.hid (HRN7.out.on hb8)
          have sz8 := hb8.size
          clear hb8 e3 HW7 HRN7
          have e0 : w8.cell? ⟨T, 0, none⟩ = some (.bool o.doSeal) := by rw [HRN8.out.op.cell]; rfl
          have e4 : w8.cell? ⟨T, 4, none⟩ = some (.slice o.tp o.text.length o.tc) := by rw [HRN8.out.op.cell]; rfl
          cases hse : o.doSeal with
          | true =>
            rw [hse] at e0
            go_wp2_with fail
            have HT5 : Hid ((o.text ++ marks 5).length = o.text.length + 5) := show _ = _ by rw [List.length_append, marks_length]
            have HTT : Hid ((o.text ++ marks 5).take o.text.length = o.text) := show _ = _ by rw [List.take_left]
            refine (lent_bigL o.text _ o.tp o.tc w8 rfl (by omega) (HTL2.out.below HW8.out.below)).mono ?_
            rintro e w9 ⟨v9, rfl, ho9, hb9⟩
            obtain ⟨gy, cy, hvy, hgy, hgy', hcy, hcy', -, -⟩ := ho9.form8 (by rw [HT5.out]; omega)
            rw [HT5.out] at hvy hcy
            subst hvy
            have HOY := Lib.hid ho9; clear ho9
            have HOX9 := Lib.hid (HOX.out.below hb9); clear HOX
            have HW9 := Lib.hid (HW8.out.on hb9)
            have HRN9 := Lib.hid (HRN8.out.on hb9)
            have sz9 := hb9.size
            clear hb9 e0 e4 HW8 HRN8
            go_upto_region 18 with (fail)
            refine region_phase (RnW T gk gn o kk nn) (fun _ => True) 13 (HRN9.out.on ((Below.refl _ _).drew)) trivial [(0, .free), (1, .free), (2, .free), (3, .free), (4, .free), (5, .free), (6, .free), (7, .free), (8, .free), (9, .free), (10, .free), (11, .free), (12, .free), (13, .behind), (14, .free)] (by kernel_rfl) (by kernel_rfl) (by kernel_rfl) (by kernel_rfl) (fun ops hops A2 hA => ?_)
            have hsz : A2.tmps.size = 183 := by rw [hA]; rfl
            have base6 : A2.eval (.tmp 6) = x := by rw [hA]; rfl
            have base8 : A2.eval (.tmp 8) = y := by rw [hA]; rfl
            have base12 : A2.eval (.tmp 12) = .pointer (some ⟨T, 0, none⟩) := by rw [hA]; rfl
            have base13 : A2.eval (.tmp 13) = .pointer (some ⟨gk, 0, none⟩) := by rw [hA]; rfl
            have base14 : A2.eval (.tmp 14) = .pointer (some ⟨gn, 0, none⟩) := by rw [hA]; rfl
            have base15 : A2.eval (.tmp 15) = .slice (some ⟨gx, 0, none⟩) (o.head.length + 5) cx := by rw [hA]; rfl
            have base16 : A2.eval (.tmp 16) = .slice (some ⟨gy, 0, none⟩) (o.text.length + 5) cy := by rw [hA]; rfl
            have HAA := Lib.hid hA; clear hA
            obtain ⟨o0, po0, q0, d0, gd0⟩ : ∃ o, ops[0]? = some o ∧ o.op = .move (.tmp 6) ∧ o.dst = some 80 ∧ o.guard = none := ⟨_, by rw [hops]; rfl, rfl, rfl, rfl⟩
            obtain ⟨o1, po1, q1, d1, gd1⟩ : ∃ o, ops[1]? = some o ∧ o.op = .load 38 (.tmp 13) ∧ o.dst = some 81 ∧ o.guard = none := ⟨_, by rw [hops]; rfl, rfl, rfl, rfl⟩
            obtain ⟨o2, po2, q2, d2, gd2⟩ : ∃ o, ops[2]? = some o ∧ o.op = .load 40 (.tmp 14) ∧ o.dst = some 82 ∧ o.guard = none := ⟨_, by rw [hops]; rfl, rfl, rfl, rfl⟩
            obtain ⟨o3, po3, q3, d3, gd3⟩ : ∃ o, ops[3]? = some o ∧ o.op = .move (.tmp 15) ∧ o.dst = some 83 ∧ o.guard = none := ⟨_, by rw [hops]; rfl, rfl, rfl, rfl⟩
            obtain ⟨o4, po4, q4, d4, gd4⟩ : ∃ o, ops[4]? = some o ∧ o.op = .fieldAddr 35 (.tmp 12) 3 ∧ o.dst = some 84 ∧ o.guard = none := ⟨_, by rw [hops]; rfl, rfl, rfl, rfl⟩
            obtain ⟨o5, po5, q5, d5, gd5⟩ : ∃ o, ops[5]? = some o ∧ o.op = .load 22 (.tmp 84) ∧ o.dst = some 85 ∧ o.guard = none := ⟨_, by rw [hops]; rfl, rfl, rfl, rfl⟩
            obtain ⟨o6, po6, q6, d6, gd6⟩ : ∃ o, ops[6]? = some o ∧ o.op = .call { callee := .builtin .len, args := #[.tmp 85], argTypes := #[22] } ∧ o.dst = some 86 ∧ o.guard = none := ⟨_, by rw [hops]; rfl, rfl, rfl, rfl⟩
            obtain ⟨o7, po7, q7, d7, gd7⟩ : ∃ o, ops[7]? = some o ∧ o.op = .slice 22 (.tmp 83) none (some (.tmp 86)) none ∧ o.dst = some 87 ∧ o.guard = none := ⟨_, by rw [hops]; rfl, rfl, rfl, rfl⟩
            obtain ⟨o8, po8, q8, d8, gd8⟩ : ∃ o, ops[8]? = some o ∧ o.op = .move (.tmp 16) ∧ o.dst = some 88 ∧ o.guard = none := ⟨_, by rw [hops]; rfl, rfl, rfl, rfl⟩
            obtain ⟨o9, po9, q9, d9, gd9⟩ : ∃ o, ops[9]? = some o ∧ o.op = .fieldAddr 35 (.tmp 12) 4 ∧ o.dst = some 89 ∧ o.guard = none := ⟨_, by rw [hops]; rfl, rfl, rfl, rfl⟩
            obtain ⟨o10, po10, q10, d10, gd10⟩ : ∃ o, ops[10]? = some o ∧ o.op = .load 22 (.tmp 89) ∧ o.dst = some 90 ∧ o.guard = none := ⟨_, by rw [hops]; rfl, rfl, rfl, rfl⟩
            obtain ⟨o11, po11, q11, d11, gd11⟩ : ∃ o, ops[11]? = some o ∧ o.op = .call { callee := .builtin .len, args := #[.tmp 90], argTypes := #[22] } ∧ o.dst = some 91 ∧ o.guard = none := ⟨_, by rw [hops]; rfl, rfl, rfl, rfl⟩
            obtain ⟨o12, po12, q12, d12, gd12⟩ : ∃ o, ops[12]? = some o ∧ o.op = .slice 22 (.tmp 88) none (some (.tmp 91)) none ∧ o.dst = some 92 ∧ o.guard = none := ⟨_, by rw [hops]; rfl, rfl, rfl, rfl⟩
            obtain ⟨o13, po13, q13, d13, gd13⟩ : ∃ o, ops[13]? = some o ∧ o.op = .call { callee := .value (.func 13), args := #[.tmp 80, .tmp 81, .tmp 82, .tmp 87, .tmp 92], argTypes := #[25, 38, 40, 22, 22] } ∧ o.dst = some 93 ∧ o.guard = none := ⟨_, by rw [hops]; rfl, rfl, rfl, rfl⟩
            obtain ⟨o14, po14, q14, d14, gd14⟩ : ∃ o, ops[14]? = some o ∧ o.op = .assign (.tmp 93) ∧ o.dst = some 17 ∧ o.guard = none := ⟨_, by rw [hops]; rfl, rfl, rfl, rfl⟩
            clear hops
            refine met_free po0 d0 (wanted_of gd0) (fun w' h' => run_move q0 base6 w') ?_
            refine met_free po1 d1 (wanted_of gd1) (fun w' h' => run_loadKeyB q1 ((eval_other _ 80 13 _ (by decide)).trans base13) HKK.out h'.key) ?_
            refine met_free po2 d2 (wanted_of gd2) (fun w' h' => run_loadNonceB q2 ((eval_other _ 81 14 _ (by decide)).trans ((eval_other _ 80 14 _ (by decide)).trans base14)) HNN.out h'.nonce) ?_
            refine met_free po3 d3 (wanted_of gd3) (fun w' h' => run_move q3 ((eval_other _ 82 15 _ (by decide)).trans ((eval_other _ 81 15 _ (by decide)).trans ((eval_other _ 80 15 _ (by decide)).trans base15))) w') ?_
            refine met_free po4 d4 (wanted_of gd4) (fun w' h' => run_fieldT (off := 3) q4 (fun _ => by kernel_rfl) ((eval_other _ 83 12 _ (by decide)).trans ((eval_other _ 82 12 _ (by decide)).trans ((eval_other _ 81 12 _ (by decide)).trans ((eval_other _ 80 12 _ (by decide)).trans base12)))) w') ?_
            refine met_free po5 d5 (wanted_of gd5) (fun w' h' => run_loadSlB q5 (eval_same _ _ _ (by simp only [put_size, hsz]; decide)) (by rw [h'.op.cell]; rfl)) ?_
            refine met_free po6 d6 (wanted_of gd6) (fun w' h' => run_len26 q6 (eval_same _ _ _ (by simp only [put_size, hsz]; decide)) w') ?_
            refine met_free po7 d7 (wanted_of gd7) (fun w' h' => r_toB q7 (by omega) ((eval_other _ 86 83 _ (by decide)).trans ((eval_other _ 85 83 _ (by decide)).trans ((eval_other _ 84 83 _ (by decide)).trans (eval_same _ _ _ (by simp only [put_size, hsz]; decide))))) (eval_same _ _ _ (by simp only [put_size, hsz]; decide)) w') ?_
            refine met_free po8 d8 (wanted_of gd8) (fun w' h' => run_move q8 ((eval_other _ 87 16 _ (by decide)).trans ((eval_other _ 86 16 _ (by decide)).trans ((eval_other _ 85 16 _ (by decide)).trans ((eval_other _ 84 16 _ (by decide)).trans ((eval_other _ 83 16 _ (by decide)).trans ((eval_other _ 82 16 _ (by decide)).trans ((eval_other _ 81 16 _ (by decide)).trans ((eval_other _ 80 16 _ (by decide)).trans base16)))))))) w') ?_
            refine met_free po9 d9 (wanted_of gd9) (fun w' h' => run_fieldT (off := 4) q9 (fun _ => by kernel_rfl) ((eval_other _ 88 12 _ (by decide)).trans ((eval_other _ 87 12 _ (by decide)).trans ((eval_other _ 86 12 _ (by decide)).trans ((eval_other _ 85 12 _ (by decide)).trans ((eval_other _ 84 12 _ (by decide)).trans ((eval_other _ 83 12 _ (by decide)).trans ((eval_other _ 82 12 _ (by decide)).trans ((eval_other _ 81 12 _ (by decide)).trans ((eval_other _ 80 12 _ (by decide)).trans base12))))))))) w') ?_
            refine met_free po10 d10 (wanted_of gd10) (fun w' h' => run_loadSlB q10 (eval_same _ _ _ (by simp only [put_size, hsz]; decide)) (by rw [h'.op.cell]; rfl)) ?_
            refine met_free po11 d11 (wanted_of gd11) (fun w' h' => run_len26 q11 (eval_same _ _ _ (by simp only [put_size, hsz]; decide)) w') ?_
            refine met_free po12 d12 (wanted_of gd12) (fun w' h' => r_toB q12 (by omega) ((eval_other _ 91 88 _ (by decide)).trans ((eval_other _ 90 88 _ (by decide)).trans ((eval_other _ 89 88 _ (by decide)).trans (eval_same _ _ _ (by simp only [put_size, hsz]; decide))))) (eval_same _ _ _ (by simp only [put_size, hsz]; decide)) w') ?_
            refine m_enter po13 d13 (wanted_of gd13) (run_callf5 q13 rfl ((eval_other _ 92 80 _ (by decide)).trans ((eval_other _ 91 80 _ (by decide)).trans ((eval_other _ 90 80 _ (by decide)).trans ((eval_other _ 89 80 _ (by decide)).trans ((eval_other _ 88 80 _ (by decide)).trans ((eval_other _ 87 80 _ (by decide)).trans ((eval_other _ 86 80 _ (by decide)).trans ((eval_other _ 85 80 _ (by decide)).trans ((eval_other _ 84 80 _ (by decide)).trans ((eval_other _ 83 80 _ (by decide)).trans ((eval_other _ 82 80 _ (by decide)).trans ((eval_other _ 81 80 _ (by decide)).trans (eval_same _ _ _ (by rw [hsz]; decide)))))))))))))) ((eval_other _ 92 81 _ (by decide)).trans ((eval_other _ 91 81 _ (by decide)).trans ((eval_other _ 90 81 _ (by decide)).trans ((eval_other _ 89 81 _ (by decide)).trans ((eval_other _ 88 81 _ (by decide)).trans ((eval_other _ 87 81 _ (by decide)).trans ((eval_other _ 86 81 _ (by decide)).trans ((eval_other _ 85 81 _ (by decide)).trans ((eval_other _ 84 81 _ (by decide)).trans ((eval_other _ 83 81 _ (by decide)).trans ((eval_other _ 82 81 _ (by decide)).trans (eval_same _ _ _ (by simp only [put_size, hsz]; decide))))))))))))) ((eval_other _ 92 82 _ (by decide)).trans ((eval_other _ 91 82 _ (by decide)).trans ((eval_other _ 90 82 _ (by decide)).trans ((eval_other _ 89 82 _ (by decide)).trans ((eval_other _ 88 82 _ (by decide)).trans ((eval_other _ 87 82 _ (by decide)).trans ((eval_other _ 86 82 _ (by decide)).trans ((eval_other _ 85 82 _ (by decide)).trans ((eval_other _ 84 82 _ (by decide)).trans ((eval_other _ 83 82 _ (by decide)).trans (eval_same _ _ _ (by simp only [put_size, hsz]; decide)))))))))))) ((eval_other _ 92 87 _ (by decide)).trans ((eval_other _ 91 87 _ (by decide)).trans ((eval_other _ 90 87 _ (by decide)).trans ((eval_other _ 89 87 _ (by decide)).trans ((eval_other _ 88 87 _ (by decide)).trans (eval_same _ _ _ (by simp only [put_size, hsz]; decide))))))) (eval_same _ _ _ (by simp only [put_size, hsz]; decide)) Try.func13 (by kernel_rfl) _) (codeSeal_any S x d l kk nn o.head o.text A _ _ (some ⟨gx, 0, none⟩) (some ⟨gy, 0, none⟩) cx cy _ HKK.out HNN.out rfl rfl (by omega) (by omega) (by omega) (by rw [HL.out]; omega) (by have h := lies_takeB (HOX9.out.liesB.below (w' := w9.drew) ((Below.refl _ _).drew)) o.head.length; rw [HHT.out] at h; exact h) (by have h := lies_takeB (HOY.out.liesB.below (w' := w9.drew) ((Below.refl _ _).drew)) o.text.length; rw [HTT.out] at h; exact h) ((HW9.out.on ((Below.refl _ _).drew)).code)) ?_
            rintro e w10 ⟨u17, S2, rfl, hc10, hS10, ho10, ha10, hs10⟩
            have HRN10 : Hid (RnW T gk gn o kk nn w10) := show RnW _ _ _ _ _ _ _ from (HRN9.out.on ((Below.refl _ _).drew)).stay hs10 (fun k hk f => by have := HTL.out k (Or.inl f); omega)
            refine ⟨_, rfl, HRN10.out, ?_⟩
            refine met_free po14 d14 (wanted_of gd14) (fun w' h' => run_assign q14 (eval_same _ _ _ (by simp only [put_size, hsz]; decide)) w') ?_
            show NoPanic _ .normal _ _
            refine NoPanic.normal ?_
            rw [HAA.out]
            go_frame
            clear HAA
            clear po0 q0 d0 gd0 po1 q1 d1 gd1 po2 q2 d2 gd2 po3 q3 d3 gd3 po4 q4 d4 gd4 po5 q5 d5 gd5 po6 q6 d6 gd6 po7 q7 d7 gd7 po8 q8 d8 gd8 po9 q9 d9 gd9 po10 q10 d10 gd10 po11 q11 d11 gd11 po12 q12 d12 gd12 po13 q13 d13 gd13 po14 q14 d14 gd14
            have HP9 := Lib.hid (HW9.out.on (w' := w9.drew) ((Below.refl _ _).drew))
            have z9 : w9.heap.size ≤ w10.heap.size := hs10.size
            obtain ⟨hr10, hh10, hlow10, hd10, hb10⟩ := HP9.out.code' hs10 hc10 hS10
            have hbl : (boxOf l d A.length o.text.length).length = 16 + o.text.length := boxOf_length _ _ _ _
            obtain ⟨ga, ca, hva, hga, hga', -, -, -, -⟩ := ho10.form8 (by rw [hbl]; omega)
            have hga9 : w9.heap.size ≤ ga := hga
            subst hva
            have hST : ∀ k, S k → k < T := fun k hk => HTL.out k (Or.inl hk)
            have hST' : ∀ k, S' k → k < T := fun k hk => HTL.out k (Or.inr (Or.inl hk))
            have HOX10 : Hid (Own w7.heap.size w10 (o.head ++ marks 5) (.slice (some ⟨gx, 0, none⟩) (o.head.length + 5) cx)) := show Own _ _ _ _ from ownsRow_stays (HOX9.out.below (w' := w9.drew) ((Below.refl _ _).drew)) hs10 (fun k hk f => by have h1 := hST k f; have h2 : gx = k := Option.some.inj hk; omega)
            have HOY10 : Hid (Own w8.heap.size w10 (o.text ++ marks 5) (.slice (some ⟨gy, 0, none⟩) (o.text.length + 5) cy)) := show Own _ _ _ _ from ownsRow_stays (HOY.out.below (w' := w9.drew) ((Below.refl _ _).drew)) hs10 (fun k hk f => by have h1 := hST k f; have h2 : gy = k := Option.some.inj hk; omega)
            have HHL10 := Lib.hid (HHL.out.below hb10)
            have HTL10 := Lib.hid (HTL2.out.below hb10)
            have HOA10 := Lib.hid ho10; clear ho10
            clear HOX9 HOY HRN9 HW9
            have e3 : w10.cell? ⟨T, 3, none⟩ = some (.slice o.hp o.head.length o.hc) := by rw [HRN10.out.op.cell]; rfl
            have e4 : w10.cell? ⟨T, 4, none⟩ = some (.slice o.tp o.text.length o.tc) := by rw [HRN10.out.op.cell]; rfl
            have HIK := Lib.hid (infoKey _ HKK.out)
            have HIN := Lib.hid (infoNonce _ HNN.out)
            clear e3 e4
            generalize hbxx : boxOf l d A.length o.text.length = bx at HOA10 hbl hc10 ⊢
            have HBX := Lib.hid hbxx; clear hbxx
            have hbl2 : bx.length ≤ 2000 := by omega
            go_upto_region 19 with (fail)
            refine wp_act fun A2 hA => ?_
            have hsz : A2.tmps.size = 183 := by rw [hA]; rfl
            have base8 : A2.eval (.tmp 8) = y := by rw [hA]; rfl
            have base12 : A2.eval (.tmp 12) = .pointer (some ⟨T, 0, none⟩) := by rw [hA]; rfl
            have base13 : A2.eval (.tmp 13) = .pointer (some ⟨gk, 0, none⟩) := by rw [hA]; rfl
            have base14 : A2.eval (.tmp 14) = .pointer (some ⟨gn, 0, none⟩) := by rw [hA]; rfl
            have HAA := Lib.hid hA; clear hA
            refine wp_region_lit ?_
            refine wpList_run (wanted_of rfl) (run_move (v := y) rfl base8 _) ?_
            refine wpList_run (wanted_of rfl) (run_loadKeyB rfl ((eval_other _ 94 13 _ (by decide)).trans base13) HKK.out HRN10.out.key) ?_
            refine wpList_run (wanted_of rfl) (run_loadNonceB rfl ((eval_other _ 95 14 _ (by decide)).trans ((eval_other _ 94 14 _ (by decide)).trans base14)) HNN.out HRN10.out.nonce) ?_
            refine wpList_run (wanted_of rfl) (run_fieldT (off := 3) rfl (fun _ => by kernel_rfl) ((eval_other _ 96 12 _ (by decide)).trans ((eval_other _ 95 12 _ (by decide)).trans ((eval_other _ 94 12 _ (by decide)).trans base12))) _) ?_
            refine wpList_run (wanted_of rfl) (run_loadSlB (p := o.hp) (n := o.head.length) (c := o.hc) rfl (eval_same _ _ _ (by simp only [put_size, hsz]; decide)) (by rw [HRN10.out.op.cell]; rfl)) ?_
            refine wpList_run (wanted_of rfl) (run_fieldT (off := 4) rfl (fun _ => by kernel_rfl) ((eval_other _ 98 12 _ (by decide)).trans ((eval_other _ 97 12 _ (by decide)).trans ((eval_other _ 96 12 _ (by decide)).trans ((eval_other _ 95 12 _ (by decide)).trans ((eval_other _ 94 12 _ (by decide)).trans base12))))) _) ?_
            refine wpList_run (wanted_of rfl) (run_loadSlB (p := o.tp) (n := o.text.length) (c := o.tc) rfl (eval_same _ _ _ (by simp only [put_size, hsz]; decide)) (by rw [HRN10.out.op.cell]; rfl)) ?_
            refine wpList_enter (wanted_of rfl) (run_callf5 rfl rfl ((eval_other _ 100 94 _ (by decide)).trans ((eval_other _ 99 94 _ (by decide)).trans ((eval_other _ 98 94 _ (by decide)).trans ((eval_other _ 97 94 _ (by decide)).trans ((eval_other _ 96 94 _ (by decide)).trans ((eval_other _ 95 94 _ (by decide)).trans (eval_same _ _ _ (by rw [hsz]; decide)))))))) ((eval_other _ 100 95 _ (by decide)).trans ((eval_other _ 99 95 _ (by decide)).trans ((eval_other _ 98 95 _ (by decide)).trans ((eval_other _ 97 95 _ (by decide)).trans ((eval_other _ 96 95 _ (by decide)).trans (eval_same _ _ _ (by simp only [put_size, hsz]; decide))))))) ((eval_other _ 100 96 _ (by decide)).trans ((eval_other _ 99 96 _ (by decide)).trans ((eval_other _ 98 96 _ (by decide)).trans ((eval_other _ 97 96 _ (by decide)).trans (eval_same _ _ _ (by simp only [put_size, hsz]; decide)))))) ((eval_other _ 100 98 _ (by decide)).trans ((eval_other _ 99 98 _ (by decide)).trans (eval_same _ _ _ (by simp only [put_size, hsz]; decide)))) (eval_same _ _ _ (by simp only [put_size, hsz]; decide)) Try.func14 (by kernel_rfl) _) (refBoxSeal_any S' y d l kk nn o.head o.text A _ _ o.hp o.tp o.hc o.tc w10 HKK.out HNN.out rfl rfl (by omega) (by omega) (by omega) (by omega) (by rw [HL.out]; omega) HHL10.out HTL10.out hr10) ?_
            rintro e w11 ⟨u18, S3, rfl, hr11, hS11, ho11, ha11, hs11⟩
            rw [HBX.out] at hr11 ho11
            have z10 : w10.heap.size ≤ w11.heap.size := hs11.size
            obtain ⟨gb, cb, hvb, hgb, hgb', -, -, -, -⟩ := ho11.form8 (by rw [hbl]; omega)
            subst hvb
            have HOA11 : Hid (Own w9.drew.heap.size w11 bx (.slice (some ⟨ga, 0, none⟩) bx.length ca)) := show Own _ _ _ _ from ownsRow_stays HOA10.out hs11 (fun k hk f => by have h1 := hST' k f; have h2 : ga = k := Option.some.inj hk; omega)
            have HOX11 : Hid (Own w7.heap.size w11 (o.head ++ marks 5) (.slice (some ⟨gx, 0, none⟩) (o.head.length + 5) cx)) := show Own _ _ _ _ from ownsRow_stays HOX10.out hs11 (fun k hk f => by have h1 := hST' k f; have h2 : gx = k := Option.some.inj hk; omega)
            have HOY11 : Hid (Own w8.heap.size w11 (o.text ++ marks 5) (.slice (some ⟨gy, 0, none⟩) (o.text.length + 5) cy)) := show Own _ _ _ _ from ownsRow_stays HOY10.out hs11 (fun k hk f => by have h1 := hST' k f; have h2 : gy = k := Option.some.inj hk; omega)
            have HRN11 : Hid (RnW T gk gn o kk nn w11) := show RnW _ _ _ _ _ _ _ from HRN10.out.stay hs11 (fun k hk f => by have := hST' k f; omega)
            have hb11 : Below w.heap.size w w11 := hb10.trans (hs11.below (fun k f => HP9.out.low k (Or.inr (Or.inl f))) hb10.size)
            have HBB11 := Lib.hid hb11; clear hb11 hb10
            have HOB11 := Lib.hid ho11; clear ho11
            clear HOA10 HOX10 HOY10 HRN10 HHL10 HTL10
            have KS10 := Lib.hid hs10; clear hs10
            have KD10 := Lib.hid hS10; clear hS10
            have KC10 := Lib.hid hc10; clear hc10
            have KS11 := Lib.hid hs11; clear hs11
            have KD11 := Lib.hid hS11; clear hS11
            have KR11 := Lib.hid hr11; clear hr11
            have KA11 := Lib.hid ha11; clear ha11
            have KA10 := Lib.hid ha10; clear ha10
            clear hr10 hh10 hlow10 hd10 hST hST'
            refine ⟨_, rfl, ?_⟩
            refine wpList_run (wanted_of rfl) (run_assign (v := .slice (some ⟨gb, 0, none⟩) bx.length cb) rfl (eval_same _ _ _ (by simp only [put_size, hsz]; decide)) _) ?_
            refine wpList_nil ?_
            rw [HAA.out]
            go_frame
            clear HAA
            go_upto_region 20 with (fail)
            refine wp_act fun A2 hA => ?_
            have hsz : A2.tmps.size = 183 := by rw [hA]; rfl
            have base9 : A2.eval (.tmp 9) = .bool true := by rw [hA]; rfl
            have base12 : A2.eval (.tmp 12) = .pointer (some ⟨T, 0, none⟩) := by rw [hA]; rfl
            have base16 : A2.eval (.tmp 16) = .slice (some ⟨gy, 0, none⟩) (o.text.length + 5) cy := by rw [hA]; rfl
            have base17 : A2.eval (.tmp 17) = .slice (some ⟨ga, 0, none⟩) bx.length ca := by rw [hA]; rfl
            have base18 : A2.eval (.tmp 18) = .slice (some ⟨gb, 0, none⟩) bx.length cb := by rw [hA]; rfl
            have HAA := Lib.hid hA; clear hA
            refine wp_region_lit ?_
            refine wpList_run (wanted_of rfl) (run_move (v := .bool true) rfl base9 _) ?_
            refine wpList_run (wanted_of rfl) (run_move (v := .bool true) rfl (eval_same _ _ _ (by rw [hsz]; decide)) _) ?_
            refine wpList_run (wanted_guard rfl rfl rfl (eval_same _ _ _ (by simp only [put_size, hsz]; decide))) (run_move (v := .slice (some ⟨ga, 0, none⟩) bx.length ca) rfl ((eval_other _ 103 17 _ (by decide)).trans ((eval_other _ 102 17 _ (by decide)).trans base17)) _) ?_
            refine wpList_run (wanted_guard rfl rfl rfl ((eval_other _ 104 103 _ (by decide)).trans (eval_same _ _ _ (by simp only [put_size, hsz]; decide)))) (run_move (v := .slice (some ⟨gb, 0, none⟩) bx.length cb) rfl ((eval_other _ 104 18 _ (by decide)).trans ((eval_other _ 103 18 _ (by decide)).trans ((eval_other _ 102 18 _ (by decide)).trans base18))) _) ?_
            refine wpList_enter (wanted_guard rfl rfl rfl ((eval_other _ 105 103 _ (by decide)).trans ((eval_other _ 104 103 _ (by decide)).trans (eval_same _ _ _ (by simp only [put_size, hsz]; decide))))) (run_callf2 rfl rfl ((eval_other _ 105 104 _ (by decide)).trans (eval_same _ _ _ (by simp only [put_size, hsz]; decide))) (eval_same _ _ _ (by simp only [put_size, hsz]; decide)) Try.func15 (by kernel_rfl) _) (same_any bx bx.length _ _ ca cb w11 rfl (by omega) HOA11.out.liesB HOB11.out.liesB) ?_
            rintro e w12 ⟨rfl, hb12⟩
            have hbb12 : Below w.heap.size w w12 := HBB11.out.trans (hb12.mono HBB11.out.size)
            have HB12 := Lib.hid hb12; clear hb12
            refine ⟨_, rfl, ?_⟩
            generalize hA30 : Act.put _ _ _ = A30
            have nb103 : A30.eval (.tmp 103) = .bool true := by rw [← hA30]; exact ((eval_other _ 106 103 _ (by decide)).trans ((eval_other _ 105 103 _ (by decide)).trans ((eval_other _ 104 103 _ (by decide)).trans (eval_same _ _ _ (by simp only [put_size, hsz]; decide)))))
            have nb12 : A30.eval (.tmp 12) = .pointer (some ⟨T, 0, none⟩) := by rw [← hA30]; exact ((eval_other _ 106 12 _ (by decide)).trans ((eval_other _ 105 12 _ (by decide)).trans ((eval_other _ 104 12 _ (by decide)).trans ((eval_other _ 103 12 _ (by decide)).trans ((eval_other _ 102 12 _ (by decide)).trans base12)))))
            have nb16 : A30.eval (.tmp 16) = .slice (some ⟨gy, 0, none⟩) (o.text.length + 5) cy := by rw [← hA30]; exact ((eval_other _ 106 16 _ (by decide)).trans ((eval_other _ 105 16 _ (by decide)).trans ((eval_other _ 104 16 _ (by decide)).trans ((eval_other _ 103 16 _ (by decide)).trans ((eval_other _ 102 16 _ (by decide)).trans base16)))))
            have nb106 : A30.eval (.tmp 106) = .bool true := by rw [← hA30]; exact (eval_same _ _ _ (by simp only [put_size, hsz]; decide))
            have nsz : A30.tmps.size = 183 := by rw [← hA30]; simp only [put_size, hsz]
            have HA30 := Lib.hid hA30; clear hA30
            have base103 := nb103
            have base12 := nb12
            have base16 := nb16
            have base106 := nb106
            have hsz := nsz
            refine wpList_run (wanted_of rfl) (run_pick_true (v := .bool true) rfl base103 base106 _) ?_
            refine wpList_run (wanted_of rfl) (run_move (v := .bool true) rfl (eval_same _ _ _ (by rw [hsz]; decide)) _) ?_
            generalize hA31 : Act.put _ _ _ = A31
            have nb12 : A31.eval (.tmp 12) = .pointer (some ⟨T, 0, none⟩) := by rw [← hA31]; exact ((eval_other _ 108 12 _ (by decide)).trans ((eval_other _ 107 12 _ (by decide)).trans base12))
            have nb16 : A31.eval (.tmp 16) = .slice (some ⟨gy, 0, none⟩) (o.text.length + 5) cy := by rw [← hA31]; exact ((eval_other _ 108 16 _ (by decide)).trans ((eval_other _ 107 16 _ (by decide)).trans base16))
            have nb108 : A31.eval (.tmp 108) = .bool true := by rw [← hA31]; exact (eval_same _ _ _ (by simp only [put_size, hsz]; decide))
            have nsz : A31.tmps.size = 183 := by rw [← hA31]; simp only [put_size, hsz]
            have HA31 := Lib.hid hA31; clear hA31
            have base12 := nb12
            have base16 := nb16
            have base108 := nb108
            have hsz := nsz
            refine wpList_run (wanted_guard rfl rfl rfl base108) (run_move (v := .slice (some ⟨gy, 0, none⟩) (o.text.length + 5) cy) rfl base16 _) ?_
            refine wpList_run (wanted_guard rfl rfl rfl ((eval_other _ 109 108 _ (by decide)).trans base108)) (run_fieldT (off := 4) rfl (fun _ => by kernel_rfl) ((eval_other _ 109 12 _ (by decide)).trans base12) _) ?_
            generalize hA32 : Act.put _ _ _ = A32
            have nb108 : A32.eval (.tmp 108) = .bool true := by rw [← hA32]; exact ((eval_other _ 110 108 _ (by decide)).trans ((eval_other _ 109 108 _ (by decide)).trans base108))
            have nb109 : A32.eval (.tmp 109) = .slice (some ⟨gy, 0, none⟩) (o.text.length + 5) cy := by rw [← hA32]; exact ((eval_other _ 110 109 _ (by decide)).trans (eval_same _ _ _ (by rw [hsz]; decide)))
            have nb110 : A32.eval (.tmp 110) = .pointer (some ⟨T, 4, none⟩) := by rw [← hA32]; exact (eval_same _ _ _ (by simp only [put_size, hsz]; decide))
            have nsz : A32.tmps.size = 183 := by rw [← hA32]; simp only [put_size, hsz]
            have HA32 := Lib.hid hA32; clear hA32
            have base108 := nb108
            have base109 := nb109
            have base110 := nb110
            have hsz := nsz
            refine wpList_run (wanted_guard rfl rfl rfl base108) (run_loadSlB (p := o.tp) (n := o.text.length) (c := o.tc) rfl base110 (by rw [(HRN11.out.on HB12.out).op.cell]; rfl)) ?_
            refine wpList_enter (wanted_guard rfl rfl rfl ((eval_other _ 111 108 _ (by decide)).trans base108)) (run_callf2 rfl rfl ((eval_other _ 111 109 _ (by decide)).trans base109) (eval_same _ _ _ (by rw [hsz]; decide)) Try.func10 (by kernel_rfl) _) (kept_any o.text _ (o.text.length + 5) (some ⟨gy, 0, none⟩) o.tp cy o.tc w12 rfl (by omega) (by omega) (by omega) hcy (HOY11.out.below HB12.out).liesB (HTL2.out.below hbb12)) ?_
            rintro e w13 ⟨rfl, hb13⟩
            have HB13 : Hid (Below w11.heap.size w11 w13) := show Below _ _ _ from HB12.out.trans (hb13.mono HB12.out.size)
            clear hb13 hbb12 HB12
            refine ⟨_, rfl, ?_⟩
            generalize hA33 : Act.put _ _ _ = A33
            have nb108 : A33.eval (.tmp 108) = .bool true := by rw [← hA33]; exact ((eval_other _ 112 108 _ (by decide)).trans ((eval_other _ 111 108 _ (by decide)).trans base108))
            have nb112 : A33.eval (.tmp 112) = .bool true := by rw [← hA33]; exact (eval_same _ _ _ (by simp only [put_size, hsz]; decide))
            have nsz : A33.tmps.size = 183 := by rw [← hA33]; simp only [put_size, hsz]
            have HA33 := Lib.hid hA33; clear hA33
            have base108 := nb108
            have base112 := nb112
            have hsz := nsz
            refine wpList_run (wanted_of rfl) (run_pick_true (v := .bool true) rfl base108 base112 _) ?_
            refine wpList_run (wanted_of rfl) (run_assign (v := .bool true) rfl (eval_same _ _ _ (by rw [hsz]; decide)) _) ?_
            refine wpList_nil ?_
            rw [← HA33.out]
            rw [← HA32.out]
            rw [← HA31.out]
            rw [← HA30.out]
            rw [HAA.out]
            go_frame
            clear HAA HA30 HA31 HA32 HA33
            go_upto_region 21 with (fail)
            have hh10 := (HP9.out.code' KS10.out KC10.out KD10.out).2.1
            have hh11 := hh10.keep KS11.out (fun k f => HP9.out.d2 k f)
            have HH13 := Lib.hid (hh11.keep (F := fun _ => False) (Below.stays HB13.out) (fun _ h => h.elim))
            clear hh10 hh11
            refine wp_act fun A2 hA => ?_
            have hsz : A2.tmps.size = 183 := by rw [hA]; rfl
            have base10 : A2.eval (.tmp 10) = u10 := by rw [hA]; rfl
            have base18 : A2.eval (.tmp 18) = .slice (some ⟨gb, 0, none⟩) bx.length cb := by rw [hA]; rfl
            have HAA := Lib.hid hA; clear hA
            refine wp_region_lit ?_
            refine wpList_run (wanted_of rfl) (run_move (v := u10) rfl base10 _) ?_
            refine wpList_run (wanted_of rfl) (run_move (v := .slice (some ⟨gb, 0, none⟩) bx.length cb) rfl ((eval_other _ 114 18 _ (by decide)).trans base18) _) ?_
            generalize hA30 : Act.put _ _ _ = A30
            have nb114 : A30.eval (.tmp 114) = u10 := by rw [← hA30]; exact ((eval_other _ 115 114 _ (by decide)).trans (eval_same _ _ _ (by rw [hsz]; decide)))
            have nb115 : A30.eval (.tmp 115) = .slice (some ⟨gb, 0, none⟩) bx.length cb := by rw [← hA30]; exact (eval_same _ _ _ (by simp only [put_size, hsz]; decide))
            have nsz : A30.tmps.size = 183 := by rw [← hA30]; simp only [put_size, hsz]
            have HA30 := Lib.hid hA30; clear hA30
            have base114 := nb114
            have base115 := nb115
            have hsz := nsz
            refine wpList_runW (wanted_of rfl) (run_oneSlice (v := .slice (some ⟨gb, 0, none⟩) bx.length cb) rfl base115 rfl _) ?_
            generalize hA31 : Act.put _ _ _ = A31
            have nb114 : A31.eval (.tmp 114) = u10 := by rw [← hA31]; exact ((eval_other _ 116 114 _ (by decide)).trans base114)
            have nb116 : A31.eval (.tmp 116) = .slice (some ⟨w13.heap.size, 0, none⟩) 1 1 := by rw [← hA31]; exact (eval_same _ _ _ (by rw [hsz]; decide))
            have nsz : A31.tmps.size = 183 := by rw [← hA31]; simp only [put_size, hsz]
            have HA31 := Lib.hid hA31; clear hA31
            have base114 := nb114
            have base116 := nb116
            have hsz := nsz
            refine wpList_append_slice rfl _ _ rfl u10 (.slice (some ⟨gb, 0, none⟩) bx.length cb) vs base114 HH13.out rfl base116 (by omega) ?_
            intro hv2 w14 hrow14 hs14 hfr14
            have zz9 : T ≤ w9.drew.heap.size := by have h1 : w9.heap.size ≤ w9.drew.heap.size := ((Below.refl w9.heap.size w9).drew).size; omega
            have hstep := PlayW.step HP9.out HTL.out zz9 KS10.out KD10.out KC10.out KS11.out KD11.out KR11.out HB13.out (HOB11.out.below HB13.out) (fun k hk => KA11.out k hk) (by omega) hrow14 hs14 hfr14
            have HST := Lib.hid hstep; clear hstep
            have HS14 := Lib.hid hs14; clear hs14 hrow14 hfr14
            generalize hA32 : Act.put _ _ _ = A32
            have nb117 : A32.eval (.tmp 117) = hv2 := by rw [← hA32]; exact (eval_same _ _ _ (by rw [hsz]; decide))
            have nsz : A32.tmps.size = 183 := by rw [← hA32]; simp only [put_size, hsz]
            have HA32 := Lib.hid hA32; clear hA32
            have base117 := nb117
            have hsz := nsz
            refine wpList_run (wanted_of rfl) (run_assign (v := hv2) rfl base117 _) ?_
            refine wpList_nil ?_
            rw [← HA32.out]
            rw [← HA31.out]
            rw [← HA30.out]
            rw [HAA.out]
            go_frame
            clear HAA HA30 HA31 HA32
            have hu10 : ∀ k, u10.ownBlock = some k → k < T := fun k f => HTL.out k (Or.inr (Or.inr (Or.inr f)))
            have HOA14 : Hid (Own w9.drew.heap.size w14 bx (.slice (some ⟨ga, 0, none⟩) bx.length ca)) := show Own _ _ _ _ from ownsRow_stays (HOA11.out.below HB13.out) HS14.out (fun k hk f => by have h1 := hu10 k f; have h2 : ga = k := Option.some.inj hk; omega)
            have HOX14 : Hid (Own w7.heap.size w14 (o.head ++ marks 5) (.slice (some ⟨gx, 0, none⟩) (o.head.length + 5) cx)) := show Own _ _ _ _ from ownsRow_stays (HOX11.out.below HB13.out) HS14.out (fun k hk f => by have h1 := hu10 k f; have h2 : gx = k := Option.some.inj hk; omega)
            have HOY14 : Hid (Own w8.heap.size w14 (o.text ++ marks 5) (.slice (some ⟨gy, 0, none⟩) (o.text.length + 5) cy)) := show Own _ _ _ _ from ownsRow_stays (HOY11.out.below HB13.out) HS14.out (fun k hk f => by have h1 := hu10 k f; have h2 : gy = k := Option.some.inj hk; omega)
            have HRN14 : Hid (RnW T gk gn o kk nn w14) := show RnW _ _ _ _ _ _ _ from (HRN11.out.on HB13.out).stay HS14.out (fun k hk f => by have := hu10 k f; omega)
            clear hu10 HOA11 HOX11 HOY11 HRN11 HS14
            have z99 : w9.heap.size ≤ w9.drew.heap.size := ((Below.refl w9.heap.size w9).drew).size
            have zw9 : w.heap.size ≤ w9.drew.heap.size := HP9.out.below.size
            go_upto_region 22 with (fail)
            refine wp_act fun A2 hA => ?_
            have hsz : A2.tmps.size = 183 := by rw [hA]; rfl
            have base17 : A2.eval (.tmp 17) = .slice (some ⟨ga, 0, none⟩) bx.length ca := by rw [hA]; rfl
            have HAA := Lib.hid hA; clear hA
            refine wp_region_lit ?_
            refine wpList_run (wanted_of rfl) (run_move (v := .slice (some ⟨ga, 0, none⟩) bx.length ca) rfl base17 _) ?_
            refine wpList_enter (wanted_of rfl) (run_callf1 rfl rfl (eval_same _ _ _ (by rw [hsz]; decide)) Try.func11 (by kernel_rfl) _) (spoil_big bx w9.drew.heap.size bx.length ca (some ⟨ga, 0, none⟩) w14 rfl (by omega) HOA14.out) ?_
            rintro e w15 ⟨rfl, hgx⟩
            have HS15 := Lib.hid (grown_stays (F := fun k => k = ga) hgx (fun k e => (Option.some.inj e).symm))
            clear hgx
            refine ⟨_, rfl, ?_⟩
            refine wpList_nil ?_
            rw [HAA.out]
            go_frame
            clear HAA
            have hp15 := HST.out.1.keep (F := fun k => k = ga) HS15.out (fun k f => ⟨fun ho => by
              have f : k = ga := f
              subst f
              rcases HST.out.2 _ ho with h | h | h
              · omega
              · exact KA10.out _ rfl h
              · omega, by have f : k = ga := f; omega⟩)
            have HP15 := Lib.hid hp15; clear hp15
            have HOX15 : Hid (Own w7.heap.size w15 (o.head ++ marks 5) (.slice (some ⟨gx, 0, none⟩) (o.head.length + 5) cx)) := show Own _ _ _ _ from ownsRow_stays HOX14.out HS15.out (fun k hk f => by have f : k = ga := f; have h2 : gx = k := Option.some.inj hk; omega)
            have HOY15 : Hid (Own w8.heap.size w15 (o.text ++ marks 5) (.slice (some ⟨gy, 0, none⟩) (o.text.length + 5) cy)) := show Own _ _ _ _ from ownsRow_stays HOY14.out HS15.out (fun k hk f => by have f : k = ga := f; have h2 : gy = k := Option.some.inj hk; omega)
            have HRN15 : Hid (RnW T gk gn o kk nn w15) := show RnW _ _ _ _ _ _ _ from HRN14.out.stay HS15.out (fun k hk f => by have f : k = ga := f; omega)
            clear HOA14 HOX14 HOY14 HRN14
            go_upto_region 23 with (fail)
            refine wp_act fun A2 hA => ?_
            have hsz : A2.tmps.size = 183 := by rw [hA]; rfl
            have base16 : A2.eval (.tmp 16) = .slice (some ⟨gy, 0, none⟩) (o.text.length + 5) cy := by rw [hA]; rfl
            have HAA := Lib.hid hA; clear hA
            refine wp_region_lit ?_
            refine wpList_run (wanted_of rfl) (run_move (v := .slice (some ⟨gy, 0, none⟩) (o.text.length + 5) cy) rfl base16 _) ?_
            refine wpList_enter (wanted_of rfl) (run_callf1 rfl rfl (eval_same _ _ _ (by rw [hsz]; decide)) Try.func11 (by kernel_rfl) _) (spoil_big (o.text ++ marks 5) w8.heap.size (o.text.length + 5) cy (some ⟨gy, 0, none⟩) w15 HT5.out (by omega) HOY15.out) ?_
            rintro e w16 ⟨rfl, hgx⟩
            have HS16 := Lib.hid (grown_stays (F := fun k => k = gy) hgx (fun k e => (Option.some.inj e).symm))
            clear hgx
            refine ⟨_, rfl, ?_⟩
            refine wpList_nil ?_
            rw [HAA.out]
            go_frame
            clear HAA
            have hp16 := HP15.out.keep (F := fun k => k = gy) HS16.out (fun k f => ⟨fun ho => by
              have f : k = gy := f
              subst f
              rcases HST.out.2 _ ho with h | h | h
              · omega
              · rcases KD10.out _ h with h2 | h2
                · have := HTL.out _ (Or.inl h2); omega
                · omega
              · omega, by have f : k = gy := f; omega⟩)
            have HP16 := Lib.hid hp16; clear hp16
            have HOX16 : Hid (Own w7.heap.size w16 (o.head ++ marks 5) (.slice (some ⟨gx, 0, none⟩) (o.head.length + 5) cx)) := show Own _ _ _ _ from ownsRow_stays HOX15.out HS16.out (fun k hk f => by have f : k = gy := f; have h2 : gx = k := Option.some.inj hk; omega)
            have HRN16 : Hid (RnW T gk gn o kk nn w16) := show RnW _ _ _ _ _ _ _ from HRN15.out.stay HS16.out (fun k hk f => by have f : k = gy := f; omega)
            clear HOX15 HOY15 HRN15 HS15 HS16
            go_upto_region 30 with (fail)
            refine wp_act fun A2 hA => ?_
            have hsz : A2.tmps.size = 183 := by rw [hA]; rfl
            have base9 : A2.eval (.tmp 9) = .bool true := by rw [hA]; rfl
            have base12 : A2.eval (.tmp 12) = .pointer (some ⟨T, 0, none⟩) := by rw [hA]; rfl
            have base15 : A2.eval (.tmp 15) = .slice (some ⟨gx, 0, none⟩) (o.head.length + 5) cx := by rw [hA]; rfl
            have HAA := Lib.hid hA; clear hA
            refine wp_region_lit ?_
            refine wpList_run (wanted_of rfl) (run_move (v := .bool true) rfl base9 _) ?_
            refine wpList_run (wanted_of rfl) (r_not (b := true) rfl (eval_same _ _ _ (by rw [hsz]; decide)) _) ?_
            refine wpList_run (wanted_of rfl) (run_move (v := .bool false) rfl (eval_same _ _ _ (by simp only [put_size, hsz]; decide)) _) ?_
            generalize hA30 : Act.put _ _ _ = A30
            have nb12 : A30.eval (.tmp 12) = .pointer (some ⟨T, 0, none⟩) := by rw [← hA30]; exact ((eval_other _ 173 12 _ (by decide)).trans ((eval_other _ 172 12 _ (by decide)).trans ((eval_other _ 171 12 _ (by decide)).trans base12)))
            have nb15 : A30.eval (.tmp 15) = .slice (some ⟨gx, 0, none⟩) (o.head.length + 5) cx := by rw [← hA30]; exact ((eval_other _ 173 15 _ (by decide)).trans ((eval_other _ 172 15 _ (by decide)).trans ((eval_other _ 171 15 _ (by decide)).trans base15)))
            have nb173 : A30.eval (.tmp 173) = .bool false := by rw [← hA30]; exact (eval_same _ _ _ (by simp only [put_size, hsz]; decide))
            have nsz : A30.tmps.size = 183 := by rw [← hA30]; simp only [put_size, hsz]
            have HA30 := Lib.hid hA30; clear hA30
            have base12 := nb12
            have base15 := nb15
            have base173 := nb173
            have hsz := nsz
            refine wpList_run (wanted_guardF rfl rfl rfl base173) (run_move (v := .slice (some ⟨gx, 0, none⟩) (o.head.length + 5) cx) rfl base15 _) ?_
            refine wpList_run (wanted_guardF rfl rfl rfl ((eval_other _ 174 173 _ (by decide)).trans base173)) (run_fieldT (off := 3) rfl (fun _ => by kernel_rfl) ((eval_other _ 174 12 _ (by decide)).trans base12) _) ?_
            generalize hA31 : Act.put _ _ _ = A31
            have nb173 : A31.eval (.tmp 173) = .bool false := by rw [← hA31]; exact ((eval_other _ 175 173 _ (by decide)).trans ((eval_other _ 174 173 _ (by decide)).trans base173))
            have nb174 : A31.eval (.tmp 174) = .slice (some ⟨gx, 0, none⟩) (o.head.length + 5) cx := by rw [← hA31]; exact ((eval_other _ 175 174 _ (by decide)).trans (eval_same _ _ _ (by rw [hsz]; decide)))
            have nb175 : A31.eval (.tmp 175) = .pointer (some ⟨T, 3, none⟩) := by rw [← hA31]; exact (eval_same _ _ _ (by simp only [put_size, hsz]; decide))
            have nsz : A31.tmps.size = 183 := by rw [← hA31]; simp only [put_size, hsz]
            have HA31 := Lib.hid hA31; clear hA31
            have base173 := nb173
            have base174 := nb174
            have base175 := nb175
            have hsz := nsz
            refine wpList_run (wanted_guardF rfl rfl rfl base173) (run_loadSlB (p := o.hp) (n := o.head.length) (c := o.hc) rfl base175 (by rw [HRN16.out.op.cell]; rfl)) ?_
            refine wpList_enter (wanted_guardF rfl rfl rfl ((eval_other _ 176 173 _ (by decide)).trans base173)) (run_callf2 rfl rfl ((eval_other _ 176 174 _ (by decide)).trans base174) (eval_same _ _ _ (by rw [hsz]; decide)) Try.func10 (by kernel_rfl) _) (kept_any o.head _ (o.head.length + 5) (some ⟨gx, 0, none⟩) o.hp cx o.hc w16 rfl (by omega) (by omega) (by omega) hcx HOX16.out.liesB (HHL.out.below HP16.out.below)) ?_
            rintro e w17 ⟨rfl, hb17⟩
            have HB17 := Lib.hid hb17; clear hb17
            refine ⟨_, rfl, ?_⟩
            generalize hA32 : Act.put _ _ _ = A32
            have nb173 : A32.eval (.tmp 173) = .bool false := by rw [← hA32]; exact ((eval_other _ 177 173 _ (by decide)).trans ((eval_other _ 176 173 _ (by decide)).trans base173))
            have nb177 : A32.eval (.tmp 177) = .bool true := by rw [← hA32]; exact (eval_same _ _ _ (by simp only [put_size, hsz]; decide))
            have nsz : A32.tmps.size = 183 := by rw [← hA32]; simp only [put_size, hsz]
            have HA32 := Lib.hid hA32; clear hA32
            have base173 := nb173
            have base177 := nb177
            have hsz := nsz
            refine wpList_run (wanted_guardF rfl rfl rfl base173) (r_not (b := true) rfl base177 _) ?_
            refine wpList_run (wanted_of rfl) (r_pickF (v := .bool false) rfl ((eval_other _ 178 173 _ (by decide)).trans base173) (eval_same _ _ _ (by rw [hsz]; decide)) _) ?_
            refine wpList_nil ?_
            rw [← HA32.out]
            rw [← HA31.out]
            rw [← HA30.out]
            rw [HAA.out]
            go_frame
            clear HAA HA30 HA31 HA32
            go_upto_region 32 with (fail)
            refine wp_act fun A2 hA => ?_
            have hsz : A2.tmps.size = 183 := by rw [hA]; rfl
            have base15 : A2.eval (.tmp 15) = .slice (some ⟨gx, 0, none⟩) (o.head.length + 5) cx := by rw [hA]; rfl
            have HAA := Lib.hid hA; clear hA
            refine wp_region_lit ?_
            refine wpList_run (wanted_of rfl) (run_move (v := .slice (some ⟨gx, 0, none⟩) (o.head.length + 5) cx) rfl base15 _) ?_
            refine wpList_enter (wanted_of rfl) (run_callf1 rfl rfl (eval_same _ _ _ (by rw [hsz]; decide)) Try.func11 (by kernel_rfl) _) (spoil_big (o.head ++ marks 5) w7.heap.size (o.head.length + 5) cx (some ⟨gx, 0, none⟩) w17 HH5.out (by omega) (HOX16.out.below HB17.out)) ?_
            rintro e w18 ⟨rfl, hgx⟩
            have HS18 := Lib.hid (grown_stays (F := fun k => k = gx) hgx (fun k e => (Option.some.inj e).symm))
            clear hgx
            refine ⟨_, rfl, ?_⟩
            refine wpList_nil ?_
            rw [HAA.out]
            go_frame
            clear HAA
            have hp18 := (HP16.out.on HB17.out).keep (F := fun k => k = gx) HS18.out (fun k f => ⟨fun ho => by
              have f : k = gx := f
              subst f
              rcases HST.out.2 _ ho with h | h | h
              · omega
              · rcases KD10.out _ h with h2 | h2
                · have := HTL.out _ (Or.inl h2); omega
                · omega
              · omega, by have f : k = gx := f; omega⟩)
            have HP18 := Lib.hid hp18; clear hp18
            have HSM2 : Hid (∀ r ∈ A ++ [(⟨kk, nn, o.head, o.text, bx⟩ : RowA)], r.Small) := show ∀ r ∈ _, _ from fun r hr => by
              rcases List.mem_append.1 hr with h | h
              · exact HSM.out r h
              · rw [List.mem_singleton.1 h]
                exact ⟨by show o.head.length ≤ _; omega, by show o.text.length ≤ _; omega, by show bx.length ≤ _; omega⟩
            go_wp2_with fail
            go_roundw
            case rel => exact ⟨k + 1, by omega, by go_num, rfl, _, _, _, _, _, _, by omega, by rw [List.length_append]; simp; omega, by rw [List.length_append]; simp; omega, HSM2.out, HP18.out⟩
            case measure => simp [intOf]; omega
          | false =>
            rw [hse] at e0
            obtain ⟨ph, ch, huv, hhad⟩ := HW8.out.had.form
            have HUV := Lib.hid huv; clear huv
            have HHAD := Lib.hid hhad; clear hhad
            go_upto_region 24 with (fail)
            refine wp_act fun A2 hA => ?_
            have hsz : A2.tmps.size = 183 := by rw [hA]; rfl
            have base10 : A2.eval (.tmp 10) = u10 := by rw [hA]; rfl
            have base12 : A2.eval (.tmp 12) = .pointer (some ⟨T, 0, none⟩) := by rw [hA]; rfl
            have HAA := Lib.hid hA; clear hA
            refine wp_region_lit ?_
            refine wpList_run (wanted_of rfl) (run_loadOp rfl base12 HRN8.out.op) ?_
            refine wpList_run (wanted_of rfl) (run_move (v := .slice ph vs.length ch) rfl (((eval_other _ 122 10 _ (by decide)).trans base10).trans HUV.out) _) ?_
            refine wpList_enter (wanted_of rfl) (run_callf2 rfl rfl ((eval_other _ 123 122 _ (by decide)).trans (eval_same _ _ _ (by rw [hsz]; decide))) (eval_same _ _ _ (by simp only [put_size, hsz]; decide)) Try.func16 (by kernel_rfl) _) (sealed_any o vs.length ch ph w8 (HTL2.out.below HW8.out.below) HOO.out.tcap HOO.out.atw HOO.out.turnw (by omega) HHAD.out) ?_
            rintro e w9 ⟨q9, c9, s, rfl, hcs, hsl, hls, hb9⟩
            have HS5 : Hid ((s ++ marks 5).length = s.length + 5) := show _ = _ by rw [List.length_append, marks_length]
            have HST5 : Hid ((s ++ marks 5).take s.length = s) := show _ = _ by rw [List.take_left]
            have hs2 : s.length ≤ 2000 := by rcases hsl with h | h <;> omega
            have HW9 := Lib.hid (HW8.out.on hb9)
            have HRN9 := Lib.hid (HRN8.out.on hb9)
            have HOX9 := Lib.hid (HOX.out.below hb9)
            have HLS9 := Lib.hid hls
            have sz9 := hb9.size
            clear hb9 hls hsl HW8 HRN8 HOX HHAD e0 e4
            refine ⟨_, rfl, ?_⟩
            refine wpList_run (wanted_of rfl) (run_assign (v := .slice q9 s.length c9) rfl (eval_same _ _ _ (by simp only [put_size, hsz]; decide)) _) ?_
            refine wpList_nil ?_
            rw [HAA.out]
            go_frame
            clear HAA
            go_upto_region 25 with (fail)
            refine wp_act fun A2 hA => ?_
            have hsz : A2.tmps.size = 183 := by rw [hA]; rfl
            have base19 : A2.eval (.tmp 19) = .slice q9 s.length c9 := by rw [hA]; rfl
            have HAA := Lib.hid hA; clear hA
            refine wp_region_lit ?_
            refine wpList_run (wanted_of rfl) (run_move (v := .slice q9 s.length c9) rfl base19 _) ?_
            refine wpList_enter (wanted_of rfl) (run_callf1 rfl rfl (eval_same _ _ _ (by rw [hsz]; decide)) Try.func7 (by kernel_rfl) _) (lent_bigL s _ q9 c9 w9 rfl (by omega) HLS9.out) ?_
            rintro e w10 ⟨v10, rfl, ho10, hb10⟩
            obtain ⟨gt, ct, hvt, hgt, hgt', hct, hct', -, -⟩ := ho10.form8 (by rw [HS5.out]; omega)
            rw [HS5.out] at hvt hct
            subst hvt
            have HOT10 := Lib.hid ho10; clear ho10
            have HW10 := Lib.hid (HW9.out.on hb10)
            have HRN10 := Lib.hid (HRN9.out.on hb10)
            have HOX10 := Lib.hid (HOX9.out.below hb10)
            have HLS10 := Lib.hid (HLS9.out.below hb10)
            have sz10 := hb10.size
            clear hb10 HW9 HRN9 HOX9 HLS9
            refine ⟨_, rfl, ?_⟩
            refine wpList_run (wanted_of rfl) (run_assign (v := .slice (some ⟨gt, 0, none⟩) (s.length + 5) ct) rfl (eval_same _ _ _ (by simp only [put_size, hsz]; decide)) _) ?_
            refine wpList_nil ?_
            rw [HAA.out]
            go_frame
            clear HAA
            obtain ⟨bo, hbo⟩ : ∃ bo, openB A kk nn o.head s = bo := ⟨_, rfl⟩
            obtain ⟨ib, hib⟩ : ∃ ib, (openA A kk nn o.head s).isSome = ib := ⟨_, rfl⟩
            have hbol : bo.length ≤ 300000 := by rw [← hbo]; exact openB_small HSM.out _ _ _ _
            have HBO := Lib.hid hbo; clear hbo
            have HIB := Lib.hid hib; clear hib
            go_upto_region 26 with (fail)
            refine region_phase (RnW T gk gn o kk nn) (fun _ => True) 12 (HRN10.out.on ((Below.refl _ _).drew)) trivial [(0, .free), (1, .free), (2, .free), (3, .free), (4, .free), (5, .free), (6, .free), (7, .free), (8, .free), (9, .free), (10, .free), (11, .free), (12, .behind), (13, .free), (14, .free), (15, .free), (16, .free), (17, .free)] (by kernel_rfl) (by kernel_rfl) (by kernel_rfl) (by kernel_rfl) (fun ops hops A2 hA => ?_)
            have hsz : A2.tmps.size = 183 := by rw [hA]; rfl
            have base6 : A2.eval (.tmp 6) = x := by rw [hA]; rfl
            have base12 : A2.eval (.tmp 12) = .pointer (some ⟨T, 0, none⟩) := by rw [hA]; rfl
            have base13 : A2.eval (.tmp 13) = .pointer (some ⟨gk, 0, none⟩) := by rw [hA]; rfl
            have base14 : A2.eval (.tmp 14) = .pointer (some ⟨gn, 0, none⟩) := by rw [hA]; rfl
            have base15 : A2.eval (.tmp 15) = .slice (some ⟨gx, 0, none⟩) (o.head.length + 5) cx := by rw [hA]; rfl
            have base19 : A2.eval (.tmp 19) = .slice q9 s.length c9 := by rw [hA]; rfl
            have base20 : A2.eval (.tmp 20) = .slice (some ⟨gt, 0, none⟩) (s.length + 5) ct := by rw [hA]; rfl
            have HAA := Lib.hid hA; clear hA
            obtain ⟨o0, po0, q0, d0, gd0⟩ : ∃ o, ops[0]? = some o ∧ o.op = .move (.tmp 6) ∧ o.dst = some 128 ∧ o.guard = none := ⟨_, by rw [hops]; rfl, rfl, rfl, rfl⟩
            obtain ⟨o1, po1, q1, d1, gd1⟩ : ∃ o, ops[1]? = some o ∧ o.op = .load 38 (.tmp 13) ∧ o.dst = some 129 ∧ o.guard = none := ⟨_, by rw [hops]; rfl, rfl, rfl, rfl⟩
            obtain ⟨o2, po2, q2, d2, gd2⟩ : ∃ o, ops[2]? = some o ∧ o.op = .load 40 (.tmp 14) ∧ o.dst = some 130 ∧ o.guard = none := ⟨_, by rw [hops]; rfl, rfl, rfl, rfl⟩
            obtain ⟨o3, po3, q3, d3, gd3⟩ : ∃ o, ops[3]? = some o ∧ o.op = .move (.tmp 15) ∧ o.dst = some 131 ∧ o.guard = none := ⟨_, by rw [hops]; rfl, rfl, rfl, rfl⟩
            obtain ⟨o4, po4, q4, d4, gd4⟩ : ∃ o, ops[4]? = some o ∧ o.op = .fieldAddr 35 (.tmp 12) 3 ∧ o.dst = some 132 ∧ o.guard = none := ⟨_, by rw [hops]; rfl, rfl, rfl, rfl⟩
            obtain ⟨o5, po5, q5, d5, gd5⟩ : ∃ o, ops[5]? = some o ∧ o.op = .load 22 (.tmp 132) ∧ o.dst = some 133 ∧ o.guard = none := ⟨_, by rw [hops]; rfl, rfl, rfl, rfl⟩
            obtain ⟨o6, po6, q6, d6, gd6⟩ : ∃ o, ops[6]? = some o ∧ o.op = .call { callee := .builtin .len, args := #[.tmp 133], argTypes := #[22] } ∧ o.dst = some 134 ∧ o.guard = none := ⟨_, by rw [hops]; rfl, rfl, rfl, rfl⟩
            obtain ⟨o7, po7, q7, d7, gd7⟩ : ∃ o, ops[7]? = some o ∧ o.op = .slice 22 (.tmp 131) none (some (.tmp 134)) none ∧ o.dst = some 135 ∧ o.guard = none := ⟨_, by rw [hops]; rfl, rfl, rfl, rfl⟩
            obtain ⟨o8, po8, q8, d8, gd8⟩ : ∃ o, ops[8]? = some o ∧ o.op = .move (.tmp 20) ∧ o.dst = some 136 ∧ o.guard = none := ⟨_, by rw [hops]; rfl, rfl, rfl, rfl⟩
            obtain ⟨o9, po9, q9, d9, gd9⟩ : ∃ o, ops[9]? = some o ∧ o.op = .move (.tmp 19) ∧ o.dst = some 137 ∧ o.guard = none := ⟨_, by rw [hops]; rfl, rfl, rfl, rfl⟩
            obtain ⟨o10, po10, q10, d10, gd10⟩ : ∃ o, ops[10]? = some o ∧ o.op = .call { callee := .builtin .len, args := #[.tmp 137], argTypes := #[22] } ∧ o.dst = some 138 ∧ o.guard = none := ⟨_, by rw [hops]; rfl, rfl, rfl, rfl⟩
            obtain ⟨o11, po11, q11, d11, gd11⟩ : ∃ o, ops[11]? = some o ∧ o.op = .slice 22 (.tmp 136) none (some (.tmp 138)) none ∧ o.dst = some 139 ∧ o.guard = none := ⟨_, by rw [hops]; rfl, rfl, rfl, rfl⟩
            obtain ⟨o12, po12, q12, d12, gd12⟩ : ∃ o, ops[12]? = some o ∧ o.op = .call { callee := .value (.func 17), args := #[.tmp 128, .tmp 129, .tmp 130, .tmp 135, .tmp 139], argTypes := #[25, 38, 40, 22, 22] } ∧ o.dst = some 140 ∧ o.guard = none := ⟨_, by rw [hops]; rfl, rfl, rfl, rfl⟩
            obtain ⟨o13, po13, q13, d13, gd13⟩ : ∃ o, ops[13]? = some o ∧ o.op = .move (.tmp 140) ∧ o.dst = some 127 ∧ o.guard = none := ⟨_, by rw [hops]; rfl, rfl, rfl, rfl⟩
            obtain ⟨o14, po14, q14, d14, gd14⟩ : ∃ o, ops[14]? = some o ∧ o.op = .extract (.tmp 127) 0 ∧ o.dst = some 141 ∧ o.guard = none := ⟨_, by rw [hops]; rfl, rfl, rfl, rfl⟩
            obtain ⟨o15, po15, q15, d15, gd15⟩ : ∃ o, ops[15]? = some o ∧ o.op = .extract (.tmp 127) 1 ∧ o.dst = some 142 ∧ o.guard = none := ⟨_, by rw [hops]; rfl, rfl, rfl, rfl⟩
            obtain ⟨o16, po16, q16, d16, gd16⟩ : ∃ o, ops[16]? = some o ∧ o.op = .assign (.tmp 141) ∧ o.dst = some 21 ∧ o.guard = none := ⟨_, by rw [hops]; rfl, rfl, rfl, rfl⟩
            obtain ⟨o17, po17, q17, d17, gd17⟩ : ∃ o, ops[17]? = some o ∧ o.op = .assign (.tmp 142) ∧ o.dst = some 22 ∧ o.guard = none := ⟨_, by rw [hops]; rfl, rfl, rfl, rfl⟩
            clear hops
            refine met_free po0 d0 (wanted_of gd0) (fun w' h' => run_move q0 base6 w') ?_
            refine met_free po1 d1 (wanted_of gd1) (fun w' h' => run_loadKeyB q1 ((eval_other _ 128 13 _ (by decide)).trans base13) HKK.out h'.key) ?_
            refine met_free po2 d2 (wanted_of gd2) (fun w' h' => run_loadNonceB q2 ((eval_other _ 129 14 _ (by decide)).trans ((eval_other _ 128 14 _ (by decide)).trans base14)) HNN.out h'.nonce) ?_
            refine met_free po3 d3 (wanted_of gd3) (fun w' h' => run_move q3 ((eval_other _ 130 15 _ (by decide)).trans ((eval_other _ 129 15 _ (by decide)).trans ((eval_other _ 128 15 _ (by decide)).trans base15))) w') ?_
            refine met_free po4 d4 (wanted_of gd4) (fun w' h' => run_fieldT (off := 3) q4 (fun _ => by kernel_rfl) ((eval_other _ 131 12 _ (by decide)).trans ((eval_other _ 130 12 _ (by decide)).trans ((eval_other _ 129 12 _ (by decide)).trans ((eval_other _ 128 12 _ (by decide)).trans base12)))) w') ?_
            refine met_free po5 d5 (wanted_of gd5) (fun w' h' => run_loadSlB q5 (eval_same _ _ _ (by simp only [put_size, hsz]; decide)) (by rw [h'.op.cell]; rfl)) ?_
            refine met_free po6 d6 (wanted_of gd6) (fun w' h' => run_len26 q6 (eval_same _ _ _ (by simp only [put_size, hsz]; decide)) w') ?_
            refine met_free po7 d7 (wanted_of gd7) (fun w' h' => r_toB q7 (by omega) ((eval_other _ 134 131 _ (by decide)).trans ((eval_other _ 133 131 _ (by decide)).trans ((eval_other _ 132 131 _ (by decide)).trans (eval_same _ _ _ (by simp only [put_size, hsz]; decide))))) (eval_same _ _ _ (by simp only [put_size, hsz]; decide)) w') ?_
            refine met_free po8 d8 (wanted_of gd8) (fun w' h' => run_move q8 ((eval_other _ 135 20 _ (by decide)).trans ((eval_other _ 134 20 _ (by decide)).trans ((eval_other _ 133 20 _ (by decide)).trans ((eval_other _ 132 20 _ (by decide)).trans ((eval_other _ 131 20 _ (by decide)).trans ((eval_other _ 130 20 _ (by decide)).trans ((eval_other _ 129 20 _ (by decide)).trans ((eval_other _ 128 20 _ (by decide)).trans base20)))))))) w') ?_
            refine met_free po9 d9 (wanted_of gd9) (fun w' h' => run_move q9 ((eval_other _ 136 19 _ (by decide)).trans ((eval_other _ 135 19 _ (by decide)).trans ((eval_other _ 134 19 _ (by decide)).trans ((eval_other _ 133 19 _ (by decide)).trans ((eval_other _ 132 19 _ (by decide)).trans ((eval_other _ 131 19 _ (by decide)).trans ((eval_other _ 130 19 _ (by decide)).trans ((eval_other _ 129 19 _ (by decide)).trans ((eval_other _ 128 19 _ (by decide)).trans base19))))))))) w') ?_
            refine met_free po10 d10 (wanted_of gd10) (fun w' h' => run_len26 q10 (eval_same _ _ _ (by simp only [put_size, hsz]; decide)) w') ?_
            refine met_free po11 d11 (wanted_of gd11) (fun w' h' => r_toB q11 (by omega) ((eval_other _ 138 136 _ (by decide)).trans ((eval_other _ 137 136 _ (by decide)).trans (eval_same _ _ _ (by simp only [put_size, hsz]; decide)))) (eval_same _ _ _ (by simp only [put_size, hsz]; decide)) w') ?_
            refine m_enter po12 d12 (wanted_of gd12) (run_callf5 q12 rfl ((eval_other _ 139 128 _ (by decide)).trans ((eval_other _ 138 128 _ (by decide)).trans ((eval_other _ 137 128 _ (by decide)).trans ((eval_other _ 136 128 _ (by decide)).trans ((eval_other _ 135 128 _ (by decide)).trans ((eval_other _ 134 128 _ (by decide)).trans ((eval_other _ 133 128 _ (by decide)).trans ((eval_other _ 132 128 _ (by decide)).trans ((eval_other _ 131 128 _ (by decide)).trans ((eval_other _ 130 128 _ (by decide)).trans ((eval_other _ 129 128 _ (by decide)).trans (eval_same _ _ _ (by rw [hsz]; decide))))))))))))) ((eval_other _ 139 129 _ (by decide)).trans ((eval_other _ 138 129 _ (by decide)).trans ((eval_other _ 137 129 _ (by decide)).trans ((eval_other _ 136 129 _ (by decide)).trans ((eval_other _ 135 129 _ (by decide)).trans ((eval_other _ 134 129 _ (by decide)).trans ((eval_other _ 133 129 _ (by decide)).trans ((eval_other _ 132 129 _ (by decide)).trans ((eval_other _ 131 129 _ (by decide)).trans ((eval_other _ 130 129 _ (by decide)).trans (eval_same _ _ _ (by simp only [put_size, hsz]; decide)))))))))))) ((eval_other _ 139 130 _ (by decide)).trans ((eval_other _ 138 130 _ (by decide)).trans ((eval_other _ 137 130 _ (by decide)).trans ((eval_other _ 136 130 _ (by decide)).trans ((eval_other _ 135 130 _ (by decide)).trans ((eval_other _ 134 130 _ (by decide)).trans ((eval_other _ 133 130 _ (by decide)).trans ((eval_other _ 132 130 _ (by decide)).trans ((eval_other _ 131 130 _ (by decide)).trans (eval_same _ _ _ (by simp only [put_size, hsz]; decide))))))))))) ((eval_other _ 139 135 _ (by decide)).trans ((eval_other _ 138 135 _ (by decide)).trans ((eval_other _ 137 135 _ (by decide)).trans ((eval_other _ 136 135 _ (by decide)).trans (eval_same _ _ _ (by simp only [put_size, hsz]; decide)))))) (eval_same _ _ _ (by simp only [put_size, hsz]; decide)) Try.func17 (by kernel_rfl) _) (codeOpen_any S x d l kk nn o.head s A _ _ (some ⟨gx, 0, none⟩) (some ⟨gt, 0, none⟩) cx ct _ HKK.out HNN.out rfl rfl (by omega) (by omega) HSM.out (by have h := lies_takeB (HOX10.out.liesB.below (w' := w10.drew) ((Below.refl _ _).drew)) o.head.length; rw [HHT.out] at h; exact h) (by have h := lies_takeB (HOT10.out.liesB.below (w' := w10.drew) ((Below.refl _ _).drew)) s.length; rw [HST5.out] at h; exact h) ((HW10.out.on ((Below.refl _ _).drew)).code)) ?_
            rintro e w11 ⟨u21, rfl, ho11, hb11⟩
            rw [HBO.out] at ho11
            rw [HIB.out]
            obtain ⟨pa, ca, hva, hca, -, -⟩ := ho11.lies
            subst hva
            have z10 : w10.heap.size ≤ w10.drew.heap.size := ((Below.refl w10.heap.size w10).drew).size
            have hb11' : Below w10.heap.size w10 w11 := ((Below.refl _ _).drew).trans (hb11.mono z10)
            have HRN11 := Lib.hid (HRN10.out.on hb11')
            have HW11 := Lib.hid (HW10.out.on hb11')
            have HOX11 := Lib.hid (HOX10.out.below hb11')
            have HOT11 := Lib.hid (HOT10.out.below hb11')
            have HLS11 := Lib.hid (HLS10.out.below hb11')
            have HOA11 := Lib.hid ho11
            have sz11 := hb11'.size
            clear hb11 hb11' ho11
            refine ⟨_, rfl, HRN11.out, ?_⟩
            refine met_free po13 d13 (wanted_of gd13) (fun w' h' => run_move q13 (eval_same _ _ _ (by simp only [put_size, hsz]; decide)) w') ?_
            refine met_free po14 d14 (wanted_of gd14) (fun w' h' => run_extract q14 (eval_same _ _ _ (by simp only [put_size, hsz]; decide)) rfl w') ?_
            refine met_free po15 d15 (wanted_of gd15) (fun w' h' => run_extract q15 ((eval_other _ 141 127 _ (by decide)).trans (eval_same _ _ _ (by simp only [put_size, hsz]; decide))) rfl w') ?_
            refine met_free po16 d16 (wanted_of gd16) (fun w' h' => run_assign q16 ((eval_other _ 142 141 _ (by decide)).trans (eval_same _ _ _ (by simp only [put_size, hsz]; decide))) w') ?_
            refine met_free po17 d17 (wanted_of gd17) (fun w' h' => run_assign q17 ((eval_other _ 21 142 _ (by decide)).trans (eval_same _ _ _ (by simp only [put_size, hsz]; decide))) w') ?_
            show NoPanic _ .normal _ _
            refine NoPanic.normal ?_
            rw [HAA.out]
            go_frame
            clear HAA
            clear po0 q0 d0 gd0 po1 q1 d1 gd1 po2 q2 d2 gd2 po3 q3 d3 gd3 po4 q4 d4 gd4 po5 q5 d5 gd5 po6 q6 d6 gd6 po7 q7 d7 gd7 po8 q8 d8 gd8 po9 q9 d9 gd9 po10 q10 d10 gd10 po11 q11 d11 gd11 po12 q12 d12 gd12 po13 q13 d13 gd13 po14 q14 d14 gd14 po15 q15 d15 gd15 po16 q16 d16 gd16 po17 q17 d17 gd17
            clear HW10 HRN10 HOX10 HLS10 HOT10
            go_upto_region 27 with (fail)
            refine wp_act fun A2 hA => ?_
            have hsz : A2.tmps.size = 183 := by rw [hA]; rfl
            have base8 : A2.eval (.tmp 8) = y := by rw [hA]; rfl
            have base12 : A2.eval (.tmp 12) = .pointer (some ⟨T, 0, none⟩) := by rw [hA]; rfl
            have base13 : A2.eval (.tmp 13) = .pointer (some ⟨gk, 0, none⟩) := by rw [hA]; rfl
            have base14 : A2.eval (.tmp 14) = .pointer (some ⟨gn, 0, none⟩) := by rw [hA]; rfl
            have base19 : A2.eval (.tmp 19) = .slice q9 s.length c9 := by rw [hA]; rfl
            have HAA := Lib.hid hA; clear hA
            refine wp_region_lit ?_
            refine wpList_run (wanted_of rfl) (run_move (v := y) rfl base8 _) ?_
            refine wpList_run (wanted_of rfl) (run_loadKeyB rfl ((eval_other _ 144 13 _ (by decide)).trans base13) HKK.out HRN11.out.key) ?_
            refine wpList_run (wanted_of rfl) (run_loadNonceB rfl ((eval_other _ 145 14 _ (by decide)).trans ((eval_other _ 144 14 _ (by decide)).trans base14)) HNN.out HRN11.out.nonce) ?_
            refine wpList_run (wanted_of rfl) (run_fieldT (off := 3) rfl (fun _ => by kernel_rfl) ((eval_other _ 146 12 _ (by decide)).trans ((eval_other _ 145 12 _ (by decide)).trans ((eval_other _ 144 12 _ (by decide)).trans base12))) _) ?_
            refine wpList_run (wanted_of rfl) (run_loadSlB (p := o.hp) (n := o.head.length) (c := o.hc) rfl (eval_same _ _ _ (by simp only [put_size, hsz]; decide)) (by rw [HRN11.out.op.cell]; rfl)) ?_
            refine wpList_run (wanted_of rfl) (run_move (v := .slice q9 s.length c9) rfl ((eval_other _ 148 19 _ (by decide)).trans ((eval_other _ 147 19 _ (by decide)).trans ((eval_other _ 146 19 _ (by decide)).trans ((eval_other _ 145 19 _ (by decide)).trans ((eval_other _ 144 19 _ (by decide)).trans base19))))) _) ?_
            refine wpList_enter (wanted_of rfl) (run_callf5 rfl rfl ((eval_other _ 149 144 _ (by decide)).trans ((eval_other _ 148 144 _ (by decide)).trans ((eval_other _ 147 144 _ (by decide)).trans ((eval_other _ 146 144 _ (by decide)).trans ((eval_other _ 145 144 _ (by decide)).trans (eval_same _ _ _ (by rw [hsz]; decide))))))) ((eval_other _ 149 145 _ (by decide)).trans ((eval_other _ 148 145 _ (by decide)).trans ((eval_other _ 147 145 _ (by decide)).trans ((eval_other _ 146 145 _ (by decide)).trans (eval_same _ _ _ (by simp only [put_size, hsz]; decide)))))) ((eval_other _ 149 146 _ (by decide)).trans ((eval_other _ 148 146 _ (by decide)).trans ((eval_other _ 147 146 _ (by decide)).trans (eval_same _ _ _ (by simp only [put_size, hsz]; decide))))) ((eval_other _ 149 148 _ (by decide)).trans (eval_same _ _ _ (by simp only [put_size, hsz]; decide))) (eval_same _ _ _ (by simp only [put_size, hsz]; decide)) Try.func18 (by kernel_rfl) _) (refBoxOpen_any S' y d l kk nn o.head s A _ _ o.hp q9 o.hc c9 w11 HKK.out HNN.out rfl rfl (by omega) (by omega) (by omega) HSM.out (HHL.out.below HW11.out.below) HLS11.out HW11.out.ref) ?_
            rintro e w12 ⟨u23, rfl, ho12, hb12⟩
            rw [HBO.out] at ho12
            rw [HIB.out]
            obtain ⟨pb, cb, hvb, hcb, -, -⟩ := ho12.lies
            subst hvb
            have HRN12 := Lib.hid (HRN11.out.on hb12)
            have HW12 := Lib.hid (HW11.out.on hb12)
            have HOX12 := Lib.hid (HOX11.out.below hb12)
            have HOT12 := Lib.hid (HOT11.out.below hb12)
            have HLS12 := Lib.hid (HLS11.out.below hb12)
            have HOA12 := Lib.hid (HOA11.out.below hb12)
            have HOB12 := Lib.hid ho12
            have sz12 := hb12.size
            clear hb12 ho12 HRN11 HW11 HOX11 HOT11 HLS11 HOA11
            refine ⟨_, rfl, ?_⟩
            generalize hA30 : Act.put _ _ _ = A30
            have nb150 : A30.eval (.tmp 150) = .tuple #[.slice pb bo.length cb, .bool ib] := by rw [← hA30]; exact (eval_same _ _ _ (by simp only [put_size, hsz]; decide))
            have nsz : A30.tmps.size = 183 := by rw [← hA30]; simp only [put_size, hsz]
            have HA30 := Lib.hid hA30; clear hA30
            have base150 := nb150
            have hsz := nsz
            refine wpList_run (wanted_of rfl) (run_move (v := .tuple #[.slice pb bo.length cb, .bool ib]) rfl base150 _) ?_
            refine wpList_run (wanted_of rfl) (run_extract (v := .slice pb bo.length cb) rfl (eval_same _ _ _ (by rw [hsz]; decide)) rfl _) ?_
            refine wpList_run (wanted_of rfl) (run_extract (v := .bool ib) rfl ((eval_other _ 151 143 _ (by decide)).trans (eval_same _ _ _ (by rw [hsz]; decide))) rfl _) ?_
            refine wpList_run (wanted_of rfl) (run_assign (v := .slice pb bo.length cb) rfl ((eval_other _ 152 151 _ (by decide)).trans (eval_same _ _ _ (by simp only [put_size, hsz]; decide))) _) ?_
            refine wpList_run (wanted_of rfl) (run_assign (v := .bool ib) rfl ((eval_other _ 23 152 _ (by decide)).trans (eval_same _ _ _ (by simp only [put_size, hsz]; decide))) _) ?_
            refine wpList_nil ?_
            rw [← HA30.out]
            rw [HAA.out]
            go_frame
            clear HAA HA30
            go_upto_region 28 with (fail)
            refine wp_act fun A2 hA => ?_
            have hsz : A2.tmps.size = 183 := by rw [hA]; rfl
            have base9 : A2.eval (.tmp 9) = .bool true := by rw [hA]; rfl
            have base19 : A2.eval (.tmp 19) = .slice q9 s.length c9 := by rw [hA]; rfl
            have base20 : A2.eval (.tmp 20) = .slice (some ⟨gt, 0, none⟩) (s.length + 5) ct := by rw [hA]; rfl
            have base21 : A2.eval (.tmp 21) = .slice pa bo.length ca := by rw [hA]; rfl
            have base22 : A2.eval (.tmp 22) = .bool ib := by rw [hA]; rfl
            have base23 : A2.eval (.tmp 23) = .slice pb bo.length cb := by rw [hA]; rfl
            have base24 : A2.eval (.tmp 24) = .bool ib := by rw [hA]; rfl
            have HAA := Lib.hid hA; clear hA
            refine wp_region_lit ?_
            refine wpList_run (wanted_of rfl) (run_move (v := .bool true) rfl base9 _) ?_
            refine wpList_run (wanted_of rfl) (run_move (v := .bool true) rfl (eval_same _ _ _ (by rw [hsz]; decide)) _) ?_
            generalize hA30 : Act.put _ _ _ = A30
            have nb154 : A30.eval (.tmp 154) = .bool true := by rw [← hA30]; exact (eval_same _ _ _ (by simp only [put_size, hsz]; decide))
            have nb19 : A30.eval (.tmp 19) = .slice q9 s.length c9 := by rw [← hA30]; exact ((eval_other _ 154 19 _ (by decide)).trans ((eval_other _ 153 19 _ (by decide)).trans base19))
            have nb20 : A30.eval (.tmp 20) = .slice (some ⟨gt, 0, none⟩) (s.length + 5) ct := by rw [← hA30]; exact ((eval_other _ 154 20 _ (by decide)).trans ((eval_other _ 153 20 _ (by decide)).trans base20))
            have nb21 : A30.eval (.tmp 21) = .slice pa bo.length ca := by rw [← hA30]; exact ((eval_other _ 154 21 _ (by decide)).trans ((eval_other _ 153 21 _ (by decide)).trans base21))
            have nb22 : A30.eval (.tmp 22) = .bool ib := by rw [← hA30]; exact ((eval_other _ 154 22 _ (by decide)).trans ((eval_other _ 153 22 _ (by decide)).trans base22))
            have nb23 : A30.eval (.tmp 23) = .slice pb bo.length cb := by rw [← hA30]; exact ((eval_other _ 154 23 _ (by decide)).trans ((eval_other _ 153 23 _ (by decide)).trans base23))
            have nb24 : A30.eval (.tmp 24) = .bool ib := by rw [← hA30]; exact ((eval_other _ 154 24 _ (by decide)).trans ((eval_other _ 153 24 _ (by decide)).trans base24))
            have nsz : A30.tmps.size = 183 := by rw [← hA30]; simp only [put_size, hsz]
            have HA30 := Lib.hid hA30; clear hA30
            have base154 := nb154
            have base19 := nb19
            have base20 := nb20
            have base21 := nb21
            have base22 := nb22
            have base23 := nb23
            have base24 := nb24
            have hsz := nsz
            refine wpList_run (wanted_guard rfl rfl rfl base154) (run_move (v := .bool ib) rfl base22 _) ?_
            refine wpList_run (wanted_guard rfl rfl rfl ((eval_other _ 155 154 _ (by decide)).trans base154)) (run_move (v := .bool ib) rfl ((eval_other _ 155 24 _ (by decide)).trans base24) _) ?_
            refine wpList_run (wanted_guard rfl rfl rfl ((eval_other _ 156 154 _ (by decide)).trans ((eval_other _ 155 154 _ (by decide)).trans base154))) (run_eqlBool (b := ib) rfl ((eval_other _ 156 155 _ (by decide)).trans (eval_same _ _ _ (by rw [hsz]; decide))) (eval_same _ _ _ (by simp only [put_size, hsz]; decide)) _) ?_
            generalize hA31 : Act.put _ _ _ = A31
            have nb154 : A31.eval (.tmp 154) = .bool true := by rw [← hA31]; exact ((eval_other _ 157 154 _ (by decide)).trans ((eval_other _ 156 154 _ (by decide)).trans ((eval_other _ 155 154 _ (by decide)).trans base154)))
            have nb157 : A31.eval (.tmp 157) = .bool true := by rw [← hA31]; exact (eval_same _ _ _ (by simp only [put_size, hsz]; decide))
            have nb19 : A31.eval (.tmp 19) = .slice q9 s.length c9 := by rw [← hA31]; exact ((eval_other _ 157 19 _ (by decide)).trans ((eval_other _ 156 19 _ (by decide)).trans ((eval_other _ 155 19 _ (by decide)).trans base19)))
            have nb20 : A31.eval (.tmp 20) = .slice (some ⟨gt, 0, none⟩) (s.length + 5) ct := by rw [← hA31]; exact ((eval_other _ 157 20 _ (by decide)).trans ((eval_other _ 156 20 _ (by decide)).trans ((eval_other _ 155 20 _ (by decide)).trans base20)))
            have nb21 : A31.eval (.tmp 21) = .slice pa bo.length ca := by rw [← hA31]; exact ((eval_other _ 157 21 _ (by decide)).trans ((eval_other _ 156 21 _ (by decide)).trans ((eval_other _ 155 21 _ (by decide)).trans base21)))
            have nb23 : A31.eval (.tmp 23) = .slice pb bo.length cb := by rw [← hA31]; exact ((eval_other _ 157 23 _ (by decide)).trans ((eval_other _ 156 23 _ (by decide)).trans ((eval_other _ 155 23 _ (by decide)).trans base23)))
            have nsz : A31.tmps.size = 183 := by rw [← hA31]; simp only [put_size, hsz]
            have HA31 := Lib.hid hA31; clear hA31
            have base154 := nb154
            have base157 := nb157
            have base19 := nb19
            have base20 := nb20
            have base21 := nb21
            have base23 := nb23
            have hsz := nsz
            refine wpList_run (wanted_of rfl) (run_pick_true (v := .bool true) rfl base154 base157 _) ?_
            refine wpList_run (wanted_of rfl) (run_move (v := .bool true) rfl (eval_same _ _ _ (by rw [hsz]; decide)) _) ?_
            generalize hA32 : Act.put _ _ _ = A32
            have nb159 : A32.eval (.tmp 159) = .bool true := by rw [← hA32]; exact (eval_same _ _ _ (by simp only [put_size, hsz]; decide))
            have nb19 : A32.eval (.tmp 19) = .slice q9 s.length c9 := by rw [← hA32]; exact ((eval_other _ 159 19 _ (by decide)).trans ((eval_other _ 158 19 _ (by decide)).trans base19))
            have nb20 : A32.eval (.tmp 20) = .slice (some ⟨gt, 0, none⟩) (s.length + 5) ct := by rw [← hA32]; exact ((eval_other _ 159 20 _ (by decide)).trans ((eval_other _ 158 20 _ (by decide)).trans base20))
            have nb21 : A32.eval (.tmp 21) = .slice pa bo.length ca := by rw [← hA32]; exact ((eval_other _ 159 21 _ (by decide)).trans ((eval_other _ 158 21 _ (by decide)).trans base21))
            have nb23 : A32.eval (.tmp 23) = .slice pb bo.length cb := by rw [← hA32]; exact ((eval_other _ 159 23 _ (by decide)).trans ((eval_other _ 158 23 _ (by decide)).trans base23))
            have nsz : A32.tmps.size = 183 := by rw [← hA32]; simp only [put_size, hsz]
            have HA32 := Lib.hid hA32; clear hA32
            have base159 := nb159
            have base19 := nb19
            have base20 := nb20
            have base21 := nb21
            have base23 := nb23
            have hsz := nsz
            refine wpList_run (wanted_guard rfl rfl rfl base159) (run_move (v := .slice pa bo.length ca) rfl base21 _) ?_
            refine wpList_run (wanted_guard rfl rfl rfl ((eval_other _ 160 159 _ (by decide)).trans base159)) (run_move (v := .slice pb bo.length cb) rfl ((eval_other _ 160 23 _ (by decide)).trans base23) _) ?_
            refine wpList_enter (wanted_guard rfl rfl rfl ((eval_other _ 161 159 _ (by decide)).trans ((eval_other _ 160 159 _ (by decide)).trans base159))) (run_callf2 rfl rfl ((eval_other _ 161 160 _ (by decide)).trans (eval_same _ _ _ (by rw [hsz]; decide))) (eval_same _ _ _ (by simp only [put_size, hsz]; decide)) Try.func15 (by kernel_rfl) _) (same_any bo bo.length _ _ ca cb w12 rfl (by omega) HOA12.out.liesB HOB12.out.liesB) ?_
            rintro e w13 ⟨rfl, hb13⟩
            have HB13 := Lib.hid hb13; clear hb13
            refine ⟨_, rfl, ?_⟩
            generalize hA33 : Act.put _ _ _ = A33
            have nb159 : A33.eval (.tmp 159) = .bool true := by rw [← hA33]; exact ((eval_other _ 162 159 _ (by decide)).trans ((eval_other _ 161 159 _ (by decide)).trans ((eval_other _ 160 159 _ (by decide)).trans base159)))
            have nb162 : A33.eval (.tmp 162) = .bool true := by rw [← hA33]; exact (eval_same _ _ _ (by simp only [put_size, hsz]; decide))
            have nb19 : A33.eval (.tmp 19) = .slice q9 s.length c9 := by rw [← hA33]; exact ((eval_other _ 162 19 _ (by decide)).trans ((eval_other _ 161 19 _ (by decide)).trans ((eval_other _ 160 19 _ (by decide)).trans base19)))
            have nb20 : A33.eval (.tmp 20) = .slice (some ⟨gt, 0, none⟩) (s.length + 5) ct := by rw [← hA33]; exact ((eval_other _ 162 20 _ (by decide)).trans ((eval_other _ 161 20 _ (by decide)).trans ((eval_other _ 160 20 _ (by decide)).trans base20)))
            have nsz : A33.tmps.size = 183 := by rw [← hA33]; simp only [put_size, hsz]
            have HA33 := Lib.hid hA33; clear hA33
            have base159 := nb159
            have base162 := nb162
            have base19 := nb19
            have base20 := nb20
            have hsz := nsz
            refine wpList_run (wanted_of rfl) (run_pick_true (v := .bool true) rfl base159 base162 _) ?_
            refine wpList_run (wanted_of rfl) (run_move (v := .bool true) rfl (eval_same _ _ _ (by rw [hsz]; decide)) _) ?_
            generalize hA34 : Act.put _ _ _ = A34
            have nb164 : A34.eval (.tmp 164) = .bool true := by rw [← hA34]; exact (eval_same _ _ _ (by simp only [put_size, hsz]; decide))
            have nb19 : A34.eval (.tmp 19) = .slice q9 s.length c9 := by rw [← hA34]; exact ((eval_other _ 164 19 _ (by decide)).trans ((eval_other _ 163 19 _ (by decide)).trans base19))
            have nb20 : A34.eval (.tmp 20) = .slice (some ⟨gt, 0, none⟩) (s.length + 5) ct := by rw [← hA34]; exact ((eval_other _ 164 20 _ (by decide)).trans ((eval_other _ 163 20 _ (by decide)).trans base20))
            have nsz : A34.tmps.size = 183 := by rw [← hA34]; simp only [put_size, hsz]
            have HA34 := Lib.hid hA34; clear hA34
            have base164 := nb164
            have base19 := nb19
            have base20 := nb20
            have hsz := nsz
            refine wpList_run (wanted_guard rfl rfl rfl base164) (run_move (v := .slice (some ⟨gt, 0, none⟩) (s.length + 5) ct) rfl base20 _) ?_
            refine wpList_run (wanted_guard rfl rfl rfl ((eval_other _ 165 164 _ (by decide)).trans base164)) (run_move (v := .slice q9 s.length c9) rfl ((eval_other _ 165 19 _ (by decide)).trans base19) _) ?_
            refine wpList_enter (wanted_guard rfl rfl rfl ((eval_other _ 166 164 _ (by decide)).trans ((eval_other _ 165 164 _ (by decide)).trans base164))) (run_callf2 rfl rfl ((eval_other _ 166 165 _ (by decide)).trans (eval_same _ _ _ (by rw [hsz]; decide))) (eval_same _ _ _ (by simp only [put_size, hsz]; decide)) Try.func10 (by kernel_rfl) _) (kept_any s _ (s.length + 5) (some ⟨gt, 0, none⟩) q9 ct c9 w13 rfl (by omega) (by omega) (by omega) hct (HOT12.out.below HB13.out).liesB (HLS12.out.below HB13.out)) ?_
            rintro e w14 ⟨rfl, hb14⟩
            have hb14' : Below w12.heap.size w12 w14 := HB13.out.trans (hb14.mono HB13.out.size)
            have HRN14 := Lib.hid (HRN12.out.on hb14')
            have HW14 := Lib.hid (HW12.out.on hb14')
            have HOX14 := Lib.hid (HOX12.out.below hb14')
            have HOA14 := Lib.hid (HOA12.out.below hb14')
            have sz14 := hb14'.size
            clear hb14 hb14' HB13 HRN12 HW12 HOX12 HOT12 HLS12 HOA12 HOB12
            refine ⟨_, rfl, ?_⟩
            generalize hA35 : Act.put _ _ _ = A35
            have nb164 : A35.eval (.tmp 164) = .bool true := by rw [← hA35]; exact ((eval_other _ 167 164 _ (by decide)).trans ((eval_other _ 166 164 _ (by decide)).trans ((eval_other _ 165 164 _ (by decide)).trans base164)))
            have nb167 : A35.eval (.tmp 167) = .bool true := by rw [← hA35]; exact (eval_same _ _ _ (by simp only [put_size, hsz]; decide))
            have nsz : A35.tmps.size = 183 := by rw [← hA35]; simp only [put_size, hsz]
            have HA35 := Lib.hid hA35; clear hA35
            have base164 := nb164
            have base167 := nb167
            have hsz := nsz
            refine wpList_run (wanted_of rfl) (run_pick_true (v := .bool true) rfl base164 base167 _) ?_
            refine wpList_run (wanted_of rfl) (run_assign (v := .bool true) rfl (eval_same _ _ _ (by rw [hsz]; decide)) _) ?_
            refine wpList_nil ?_
            rw [← HA35.out]
            rw [← HA34.out]
            rw [← HA33.out]
            rw [← HA32.out]
            rw [← HA31.out]
            rw [← HA30.out]
            rw [HAA.out]
            go_frame
            clear HAA HA30 HA31 HA32 HA33 HA34 HA35
            go_upto_region 29 with (fail)
            refine wp_act fun A2 hA => ?_
            have hsz : A2.tmps.size = 183 := by rw [hA]; rfl
            have base21 : A2.eval (.tmp 21) = .slice pa bo.length ca := by rw [hA]; rfl
            have HAA := Lib.hid hA; clear hA
            refine wp_region_lit ?_
            refine wpList_run (wanted_of rfl) (run_move (v := .slice pa bo.length ca) rfl base21 _) ?_
            refine wpList_enter (wanted_of rfl) (run_callf1 rfl rfl (eval_same _ _ _ (by rw [hsz]; decide)) Try.func11 (by kernel_rfl) _) (spoil_big bo _ bo.length ca pa w14 rfl (by omega) HOA14.out) ?_
            rintro e w15 ⟨rfl, hg15⟩
            have hpa : ∀ k, (Value.slice pa bo.length ca).ownBlock = some k → w10.drew.heap.size ≤ k := fun k hk => (World.ownsRow.lt HOA14.out k hk).1
            have hs15 : Stays (fun k => (Value.slice pa bo.length ca).ownBlock = some k) w14 w15 := grown_stays hg15 (fun k e => e)
            have HW15 := Lib.hid (HW14.out.keep hs15 (fun k f => by have h1 := hpa k f; exact ⟨fun ho => by have := HTL.out k ho; omega, by omega⟩))
            have HRN15 : Hid (RnW T gk gn o kk nn w15) := show RnW _ _ _ _ _ _ _ from HRN14.out.stay hs15 (fun k hk f => by have h1 := hpa k f; omega)
            have HOX15 : Hid (Own w7.heap.size w15 (o.head ++ marks 5) (.slice (some ⟨gx, 0, none⟩) (o.head.length + 5) cx)) := show Own _ _ _ _ from ownsRow_stays HOX14.out hs15 (fun k hk f => by have h1 := hpa k f; have h2 : gx = k := Option.some.inj hk; omega)
            have sz15 := hs15.size
            clear hg15 hs15 hpa HW14 HRN14 HOX14 HOA14
            refine ⟨_, rfl, ?_⟩
            refine wpList_nil ?_
            rw [HAA.out]
            go_frame
            clear HAA
            go_upto_region 30 with (fail)
            refine wp_act fun A2 hA => ?_
            have hsz : A2.tmps.size = 183 := by rw [hA]; rfl
            have base9 : A2.eval (.tmp 9) = .bool true := by rw [hA]; rfl
            have base12 : A2.eval (.tmp 12) = .pointer (some ⟨T, 0, none⟩) := by rw [hA]; rfl
            have base15 : A2.eval (.tmp 15) = .slice (some ⟨gx, 0, none⟩) (o.head.length + 5) cx := by rw [hA]; rfl
            have HAA := Lib.hid hA; clear hA
            refine wp_region_lit ?_
            refine wpList_run (wanted_of rfl) (run_move (v := .bool true) rfl base9 _) ?_
            refine wpList_run (wanted_of rfl) (r_not (b := true) rfl (eval_same _ _ _ (by rw [hsz]; decide)) _) ?_
            refine wpList_run (wanted_of rfl) (run_move (v := .bool false) rfl (eval_same _ _ _ (by simp only [put_size, hsz]; decide)) _) ?_
            generalize hA30 : Act.put _ _ _ = A30
            have nb12 : A30.eval (.tmp 12) = .pointer (some ⟨T, 0, none⟩) := by rw [← hA30]; exact ((eval_other _ 173 12 _ (by decide)).trans ((eval_other _ 172 12 _ (by decide)).trans ((eval_other _ 171 12 _ (by decide)).trans base12)))
            have nb15 : A30.eval (.tmp 15) = .slice (some ⟨gx, 0, none⟩) (o.head.length + 5) cx := by rw [← hA30]; exact ((eval_other _ 173 15 _ (by decide)).trans ((eval_other _ 172 15 _ (by decide)).trans ((eval_other _ 171 15 _ (by decide)).trans base15)))
            have nb173 : A30.eval (.tmp 173) = .bool false := by rw [← hA30]; exact (eval_same _ _ _ (by simp only [put_size, hsz]; decide))
            have nsz : A30.tmps.size = 183 := by rw [← hA30]; simp only [put_size, hsz]
            have HA30 := Lib.hid hA30; clear hA30
            have base12 := nb12
            have base15 := nb15
            have base173 := nb173
            have hsz := nsz
            refine wpList_run (wanted_guardF rfl rfl rfl base173) (run_move (v := .slice (some ⟨gx, 0, none⟩) (o.head.length + 5) cx) rfl base15 _) ?_
            refine wpList_run (wanted_guardF rfl rfl rfl ((eval_other _ 174 173 _ (by decide)).trans base173)) (run_fieldT (off := 3) rfl (fun _ => by kernel_rfl) ((eval_other _ 174 12 _ (by decide)).trans base12) _) ?_
            generalize hA31 : Act.put _ _ _ = A31
            have nb173 : A31.eval (.tmp 173) = .bool false := by rw [← hA31]; exact ((eval_other _ 175 173 _ (by decide)).trans ((eval_other _ 174 173 _ (by decide)).trans base173))
            have nb174 : A31.eval (.tmp 174) = .slice (some ⟨gx, 0, none⟩) (o.head.length + 5) cx := by rw [← hA31]; exact ((eval_other _ 175 174 _ (by decide)).trans (eval_same _ _ _ (by rw [hsz]; decide)))
            have nb175 : A31.eval (.tmp 175) = .pointer (some ⟨T, 3, none⟩) := by rw [← hA31]; exact (eval_same _ _ _ (by simp only [put_size, hsz]; decide))
            have nsz : A31.tmps.size = 183 := by rw [← hA31]; simp only [put_size, hsz]
            have HA31 := Lib.hid hA31; clear hA31
            have base173 := nb173
            have base174 := nb174
            have base175 := nb175
            have hsz := nsz
            refine wpList_run (wanted_guardF rfl rfl rfl base173) (run_loadSlB (p := o.hp) (n := o.head.length) (c := o.hc) rfl base175 (by rw [HRN15.out.op.cell]; rfl)) ?_
            refine wpList_enter (wanted_guardF rfl rfl rfl ((eval_other _ 176 173 _ (by decide)).trans base173)) (run_callf2 rfl rfl ((eval_other _ 176 174 _ (by decide)).trans base174) (eval_same _ _ _ (by rw [hsz]; decide)) Try.func10 (by kernel_rfl) _) (kept_any o.head _ (o.head.length + 5) (some ⟨gx, 0, none⟩) o.hp cx o.hc w15 rfl (by omega) (by omega) (by omega) hcx HOX15.out.liesB (HHL.out.below HW15.out.below)) ?_
            rintro e w17 ⟨rfl, hb17⟩
            have HB17 := Lib.hid hb17; clear hb17
            refine ⟨_, rfl, ?_⟩
            generalize hA32 : Act.put _ _ _ = A32
            have nb173 : A32.eval (.tmp 173) = .bool false := by rw [← hA32]; exact ((eval_other _ 177 173 _ (by decide)).trans ((eval_other _ 176 173 _ (by decide)).trans base173))
            have nb177 : A32.eval (.tmp 177) = .bool true := by rw [← hA32]; exact (eval_same _ _ _ (by simp only [put_size, hsz]; decide))
            have nsz : A32.tmps.size = 183 := by rw [← hA32]; simp only [put_size, hsz]
            have HA32 := Lib.hid hA32; clear hA32
            have base173 := nb173
            have base177 := nb177
            have hsz := nsz
            refine wpList_run (wanted_guardF rfl rfl rfl base173) (r_not (b := true) rfl base177 _) ?_
            refine wpList_run (wanted_of rfl) (r_pickF (v := .bool false) rfl ((eval_other _ 178 173 _ (by decide)).trans base173) (eval_same _ _ _ (by rw [hsz]; decide)) _) ?_
            refine wpList_nil ?_
            rw [← HA32.out]
            rw [← HA31.out]
            rw [← HA30.out]
            rw [HAA.out]
            go_frame
            clear HAA HA30 HA31 HA32
            go_upto_region 32 with (fail)
            refine wp_act fun A2 hA => ?_
            have hsz : A2.tmps.size = 183 := by rw [hA]; rfl
            have base15 : A2.eval (.tmp 15) = .slice (some ⟨gx, 0, none⟩) (o.head.length + 5) cx := by rw [hA]; rfl
            have HAA := Lib.hid hA; clear hA
            refine wp_region_lit ?_
            refine wpList_run (wanted_of rfl) (run_move (v := .slice (some ⟨gx, 0, none⟩) (o.head.length + 5) cx) rfl base15 _) ?_
            refine wpList_enter (wanted_of rfl) (run_callf1 rfl rfl (eval_same _ _ _ (by rw [hsz]; decide)) Try.func11 (by kernel_rfl) _) (spoil_big (o.head ++ marks 5) w7.heap.size (o.head.length + 5) cx (some ⟨gx, 0, none⟩) w17 HH5.out (by omega) (HOX15.out.below HB17.out)) ?_
            rintro e w18 ⟨rfl, hgx⟩
            have HS18 := Lib.hid (grown_stays (F := fun k => k = gx) hgx (fun k e => (Option.some.inj e).symm))
            clear hgx
            refine ⟨_, rfl, ?_⟩
            refine wpList_nil ?_
            rw [HAA.out]
            go_frame
            clear HAA
            have hp17 := (HW15.out.on HB17.out).keep (F := fun k => k = gx) HS18.out (fun k f => ⟨fun ho => by
              have f : k = gx := f
              subst f
              have := HTL.out _ ho
              omega, by have f : k = gx := f; omega⟩)
            have HP17 := Lib.hid hp17; clear hp17
            go_wp2_with fail
            go_roundw
            case rel => exact ⟨k + 1, by omega, by go_num, rfl, d, A, S, S', D, vs, by omega, by omega, by omega, HSM.out, HP17.out⟩
            case measure => simp [intOf]; omega
      · have q3 : (k : Int) < (no : Int) := by omega
        have q4 : ¬ (k : Int) < 60 := by omega
        go_wp2_with fail
        refine (known6_any wr).mono ?_
        rintro e w8 ⟨rfl, hb8⟩
        have HW8 := Lib.hid (HW.out.on hb8); clear hb8
        go_wp2_with fail
        go_ret
        exact ⟨rfl, HW8.out.below⟩
    · have q3 : ¬ (k : Int) < (no : Int) := by omega
      go_wp2_with fail
      refine (known6_any wr).mono ?_
      rintro e w8 ⟨rfl, hb8⟩
      have HW8 := Lib.hid (HW.out.on hb8); clear hb8
      go_wp2_with fail
      go_ret
      exact ⟨rfl, HW8.out.below⟩
end Go.Proofs.Ytacgkfngpeieaaa

/-
  BoxPlays, for any list and anything that is to be done: the law returns true, and what came in reads afterwards as it read before. Without any condition.
-/
namespace Go.Proofs.Ytacgkfngpeieaaa
open Go.ChangeShapes Go.WideShapes Go.ChangeAt Go.RowKit Go.Proofs.ShaWords

set_option maxRecDepth 100000 in
theorem boxPlays_lifted (os : Os) (started : os.Started) (H : Type) (enc : TypeId × Value → H) :
    ReturnsInHanded {} Try.checked os 3 .any (Rows.boxPlaysSpec.pre6 enc Try.prog Try.f3 Rows.boxPlaysRow.domain false)
      (Rows.boxPlaysSpec.post enc Try.prog Try.f3 false true false false) := by
  refine returnsInHanded_of_change_sized (C := Try.checked) own started (by kernel_rfl) Try.func3
    (ChangeSpec.witness6 (enc := enc) (C := Try.checked) false ⟨#[], #[.slice none 0 0, .slice none 0 0], []⟩ 8 (by kernel_rfl) (by kernel_rfl) (by kernel_rfl) (by kernel_rfl)) ?_
  intro W base args ds gs before hval0 hW _ hsz _
  have hW' := hW
  obtain ⟨p, q, hA0, hV, rfl, hfz, hnd⟩ := hW
  have hA : DataW.TrodAll enc Try.prog W 0 (fun _ => true) true Try.f3.params.toList args.toList ds p := hA0
  have hval : ∀ (j : Nat) t v, Try.f3.params[j]? = some t → args[j]? = some v → Value.okWide Try.prog W .any base t v := hval0
  have hsz2 : (DataW.weightsEach Try.prog (Try.f3.params.toList ++ Rows.boxPlaysSpec.plain.varTypes Try.prog) (ds ++ gs)).all (· ≤ reachBytes) = true := hsz
  rw [Try.params3] at hA hval hsz2
  obtain ⟨v0, vs0, d0, ds0, p0, q0, hargs, rfl, rfl, h0, r0⟩ := trodAll_cons hA
  obtain ⟨v1, vs1, d1, ds1, p1, q1, rfl, rfl, rfl, h1, r1⟩ := trodAll_cons r0
  obtain ⟨rfl, rfl, rfl⟩ := trodAll_nil r1
  obtain rfl : args = #[v0, v1] := by cases args; simp_all
  obtain ⟨rfl, rfl⟩ := trodVars_none hV
  have hb5 : Try.prog.bytesOf 5 = 1 := by kernel_rfl
  obtain ⟨a0, len0, cap0, rfl⟩ := okWide_slice Try.underlying22 (hval 0 22 v0 rfl rfl)
  have k0 := h0
  have lt0 : ∀ x ∈ p0, x.block < W.heap.size := by obtain ⟨m, hm⟩ := k0; exact DataW.trod_lt m _ _ _ hm
  obtain ⟨f0, hf0⟩ := h0
  obtain ⟨xs0, hx0a, hx0b, hx0c, hx0d⟩ := open_bytes hf0
  have hc0 : cap0 ≤ 140737488351232 := by
    rcases hx0d with ⟨_, h⟩ | ⟨e, sp, he, hl⟩
    · omega
    · have h := sized_slice hsz2 (j := 0) (t := 22) (elems := e) (spare := sp) rfl (by rw [← he]; rfl) Try.underlying22
      rw [hb5] at h; unfold reachBytes at h; omega
  obtain ⟨a1, len1, cap1, rfl⟩ := okWide_slice Try.underlying23 (hval 1 23 v1 rfl rfl)
  have k1 := h1
  have lt1 : ∀ x ∈ p1, x.block < W.heap.size := by obtain ⟨m, hm⟩ := k1; exact DataW.trod_lt m _ _ _ hm
  obtain ⟨f1, hf1⟩ := h1
  obtain ⟨ps1, hx1a, hx1b, hx1c, hx1d⟩ := open_ops hf1
  clear hA0 hval0
  refine (boxPlays_any xs0 ps1 len0 len1 cap0 cap1 a0 a1 W hx0a (by omega) hx0c hx1a hx1c hx1d).mono fun e W' ⟨he, bel⟩ => ?_
  subst he
  exact ⟨_, rfl, _, _, _, [], _, [], hW', trodAll_mk1 (shut_bool Try.underlying4 _), (trodAll_cons_mk (Below.trod laidOut (by kernel_rfl) (of_decide_eq_true (by kernel_rfl)) k0 bel lt0) (trodAll_cons_mk (Below.trod laidOut (by kernel_rfl) (of_decide_eq_true (by kernel_rfl)) k1 bel lt1) trodAll_mk0)), rfl, bel.frame _, fun h => by cases h⟩

theorem boxPlays_holds : Rows.BoxPlaysSaid :=
  OpenClaim.holds_of_wide 3 Try.f3 rfl rfl rfl rfl rfl rfl rfl ⟨rfl, rfl, rfl, rfl, rfl⟩ rfl rfl rfl rfl rfl (by kernel_rfl) Try.func3 (by kernel_rfl)
    (of_decide_eq_true (by kernel_rfl)) (by unfold Func.isWrapper; first | (rw [if_pos (by decide +kernel)]; kernel_rfl) | (rw [if_neg (by decide +kernel)]; exact ⟨rfl, rfl⟩))
    (fun os started H enc _ => boxPlays_lifted os started H enc)

#print axioms boxPlays_holds
end Go.Proofs.Ytacgkfngpeieaaa
