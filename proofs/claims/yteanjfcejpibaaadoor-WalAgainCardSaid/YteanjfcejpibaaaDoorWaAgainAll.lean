/-
  WalAgain, for any files and kind: the law returns true, and what came in reads afterwards as it read before; the package's table starts as the program's own text lays it (the tie is given).
-/
import Derived.Test.YteanjfcejpibaaaDoorPkH
import Derived.Deep.LoopGhost
import Derived.Test.YteanjfcejpibaaaDoorTie
import Derived.Test.YteanjfcejpibaaaDoorCards
import Derived.SevenTiedAt
/-
  WalAgain: any files that are opened, and opened again, tell the same rows, and stay; so does a log that goes on with a row in between, but for that row.
-/
namespace Go.Proofs.YteanjfcejpibaaaDoor
open Go.RowKit Go.Proofs.ShaWords
/-- Frames in a row of one's own, whose bytes lie somewhere. -/
structure FrX (B : Nat) (w : World) (hv : Value) (vs : List Value) (fs : List Fr9) : Prop where
  rows : w.ownsRow B 46 2 hv fs.length (frCells fs vs)
  len : vs.length = fs.length
  each : ∀ (i : Nat) (v : Value) (f : Fr9), vs[i]? = some v → fs[i]? = some f → ∃ q c, v = .slice q f.2.length c ∧ Lies w q f.2
theorem FrX.toM {B : Nat} {w : World} {hv : Value} {vs : List Value} {fs : List Fr9} (h : FrX B w hv vs fs) : FrM w hv fs := by
  rcases h.rows.2 with ⟨h0, h1⟩ | ⟨g, cap, cur, he, hg, hh, hc, hm, hs, ht⟩
  · exact ⟨none, 0, by rw [h0, h1], fun x => by omega⟩
  · refine ⟨_, cap, he, fun h0 => ⟨g, rfl, (Array.getElem?_eq_some_iff.1 hh).1, fun i f hf => ?_⟩⟩
    have hi : i < fs.length := (List.getElem?_eq_some_iff.1 hf).1
    have hv : vs[i]? = some (vs[i]'(by rw [h.len]; exact hi)) := List.getElem?_eq_getElem _
    obtain ⟨a, b⟩ := frCells_get fs vs i f _ hf hv
    obtain ⟨q, c, e, hl⟩ := h.each i _ f hv hf
    rw [← ht, List.getElem?_take, if_pos (by omega)] at a b
    rw [e] at b
    refine ⟨q, c, ?_, ?_, hl⟩
    · rw [cell_of_row w g _ cur _ (0, 0) hh]; simpa using a
    · rw [cell_of_row w g _ cur _ (0, 0) hh]; simpa using b
theorem FrX.same {B : Nat} {w w' : World} {hv : Value} {vs : List Value} {fs : List Fr9} (h : FrX B w hv vs fs) (hb : ∀ k, FrB hv vs k → w'.heap[k]? = w.heap[k]?) : FrX B w' hv vs fs :=
  ⟨ownsRow_same h.rows (fun k e => hb k (Or.inl e)), h.len, fun i v f h1 h2 => by
    obtain ⟨q, c, rfl, hl⟩ := h.each i v f h1 h2
    refine ⟨q, c, rfl, ?_⟩
    rcases hl with hl | ⟨b, off, rfl, hr⟩
    · exact Or.inl hl
    · exact Or.inr ⟨b, off, rfl, range_of_block hr (hb b (Or.inr ⟨i, _, h1, rfl⟩))⟩⟩
theorem keeps_any (w : World) (hv : Value) (vs : List Value) : ∃ L : List (Nat × Obj), ∀ x, x ∈ L ↔ FrB hv vs x.1 ∧ w.heap[x.1]? = some x.2 := by
  refine ⟨(hv :: vs).filterMap (fun v => v.ownBlock.bind fun k => (w.heap[k]?).map fun o => (k, o)), fun x => ?_⟩
  rw [List.mem_filterMap]
  constructor
  · rintro ⟨v, hv1, hx⟩
    obtain ⟨k, hk, hx⟩ := Option.bind_eq_some_iff.1 hx
    obtain ⟨o, ho, rfl⟩ := Option.map_eq_some_iff.1 hx
    refine ⟨?_, ho⟩
    rcases List.mem_cons.1 hv1 with rfl | hv1
    · exact Or.inl hk
    · obtain ⟨i, hi⟩ := List.getElem?_of_mem hv1
      exact Or.inr ⟨i, v, hi, hk⟩
  · rintro ⟨hb, ho⟩
    rcases hb with hb | ⟨i, v, hi, hb⟩
    · exact ⟨hv, List.mem_cons_self, by rw [hb]; show (w.heap[x.1]?).map _ = _; rw [ho]; rfl⟩
    · exact ⟨v, List.mem_cons_of_mem _ (List.mem_of_getElem? hi), by rw [hb]; show (w.heap[x.1]?).map _ = _; rw [ho]; rfl⟩
theorem FrX.keeps {B : Nat} {w : World} {hv : Value} {vs : List Value} {fs : List Fr9} (h : FrX B w hv vs fs) (hlt : ∀ k, FrB hv vs k → k < w.heap.size) : ∃ L : List (Nat × Obj), (∀ x ∈ L, FrB hv vs x.1 ∧ w.heap[x.1]? = some x.2) ∧ ∀ w' : World, (∀ x ∈ L, w'.heap[x.1]? = some x.2) → FrX B w' hv vs fs := by
  obtain ⟨L, hL⟩ := keeps_any w hv vs
  refine ⟨L, fun x hx => (hL x).1 hx, fun w' hw => h.same fun k hk => ?_⟩
  have h1 : w.heap[k]? = some (w.heap[k]'(hlt k hk)) := Array.getElem?_eq_getElem (hlt k hk)
  exact (hw (k, w.heap[k]'(hlt k hk)) ((hL _).2 ⟨hk, h1⟩)).trans h1.symm
/-- One more behind a list, whose bytes lie in a block of its own that is none of the list's. -/
theorem FrL.snocX {B : Nat} {w w' : World} {hv hv' : Value} {vs : List Value} {fs : List Fr9} {f : Fr9} {k n c : Nat} (h : FrL B w hv vs fs) (hn : f.2.length = n) (hl : Lies w (some ⟨k, 0, none⟩) f.2) (hk : k < w.heap.size) (hkr : hv.ownBlock ≠ some k)
    (hrow : w'.ownsRow B 46 2 hv' (fs.length + 1) (frCells fs vs ++ [.int .i64 (n8 f.1), .slice (some ⟨k, 0, none⟩) n c])) (hg : w.grownBy w' hv.ownBlock) : FrX B w' hv' (vs ++ [.slice (some ⟨k, 0, none⟩) n c]) (fs ++ [f]) := by
  have hs : Stays (fun j => hv.ownBlock = some j) w w' := grown_stays hg (fun j e => e)
  refine ⟨by rw [List.length_append, List.length_singleton, frCells_snoc _ _ _ _ h.len]; exact hrow, by rw [List.length_append, List.length_append, h.len, List.length_singleton, List.length_singleton], fun i u g hi hj => ?_⟩
  by_cases hlt : i < vs.length
  · rw [List.getElem?_append_left hlt] at hi
    rw [List.getElem?_append_left (by rw [← h.len]; exact hlt)] at hj
    have ho := h.each i u g hi hj
    have ho' : Own B w' g.2 u := ownsRow_stays ho hs (fun j hj2 e => own_not_row ho h.rows hj2 e)
    obtain ⟨q, cc, e, -, -, hl2⟩ := ho'.slN (n := g.2.length) rfl
    exact ⟨q, cc, e, hl2⟩
  · have hi2 : i < vs.length + 1 := by have := (List.getElem?_eq_some_iff.1 hi).1; simpa using this
    obtain rfl : i = vs.length := by omega
    rw [List.getElem?_append_right (Nat.le_refl _), Nat.sub_self] at hi
    rw [List.getElem?_append_right (by rw [h.len]; exact Nat.le_refl _), h.len, Nat.sub_self] at hj
    simp only [List.getElem?_cons_zero, Option.some.injEq] at hi hj
    subst hi hj
    refine ⟨some ⟨k, 0, none⟩, c, by rw [hn], ?_⟩
    rcases hl with hl | ⟨b, off, e, hr⟩
    · exact Or.inl hl
    · cases e
      exact Or.inr ⟨k, 0, rfl, range_of_block hr (hs.block k hk hkr)⟩
theorem rowsW_mem {segs : Nat → List RowW} {f : RowW} : ∀ n, f ∈ rowsW segs n → ∃ s, 1 ≤ s ∧ s ≤ n ∧ f ∈ segs s
  | 0, h => by cases h
  | n + 1, h => by
    rw [rowsW_succ] at h
    rcases List.mem_append.1 h with h | h
    · obtain ⟨s, h1, h2, h3⟩ := rowsW_mem n h
      exact ⟨s, h1, by omega, h3⟩
    · exact ⟨n + 1, by omega, Nat.le_refl _, h⟩
theorem DkL.small {lo g : Nat} {d : DiskM} {w : World} {L : List (Nat × Obj)} (h : DkL lo w g d L) (hr : d.room < 100000) (s : Nat) (h2 : s ≤ 32) : (d.files s).all.length < 100000 := by
  have hu := h.ok.used
  have hle := sumTo_le d.files s 33 (by omega)
  unfold DiskM.used at hu
  omega
structure AgR (lo : Nat) (w0 : World) (g k : Nat) (d : DiskM) (A : World) : Prop where
  disk : DkL lo A g d []
  calm : d.Calm
  room : d.room = 65536
  count : d.count ≤ k
  used : d.used ≤ 2100 * k
  later : ∀ s, k < s → (d.files s).all = []
  below : Below lo w0 A
theorem AgR.write {lo g k n c : Nat} {d : DiskM} {w0 A : World} {b : List (BitVec 8)} {p : Option Addr} (h : AgR lo w0 g k d A) (hlo : lo ≤ A.heap.size) (hk : k < 4) (hb : b.length = n) (hn : n ≤ 2100) (hL : Lies A p b) :
    Calls Tryd.prog 13 #[.pointer (some ⟨g, 0, none⟩), .int .i64 ((k : Int) + 1), .slice p n c] A fun e w' => e = .returned (.int .i64 0) ∧ ∃ d', AgR lo w0 g (k + 1) d' w' := by
  have hu := h.used
  have hr := h.room
  have hw := h.calm.write (f := (k : Int) + 1) (by omega) b (by omega)
  rw [show ((k : Int) + 1).toNat = k + 1 by omega] at hw
  refine (h.disk.go hlo (fun S hS => dkWrite_any S g d ((k : Int) + 1) b n c p A hS (by have := h.count; omega) hb (by omega) hL)).mono ?_
  rintro e w' ⟨rfl, hd, hbel⟩
  rw [hw] at hd ⊢
  refine ⟨rfl, _, hd, ⟨h.calm.down, h.calm.left⟩, hr, Nat.succ_le_succ h.count, ?_, fun s hs => ?_, h.below.trans hbel⟩
  · have := used_write d (k + 1) (by omega) b
    show sumTo (writeF (k + 1) b d.files) 33 ≤ _
    omega
  · show (writeF (k + 1) b d.files s).all = []
    rw [write_other _ _ (by omega)]; exact h.later s (by omega)
def rowB3 : List (BitVec 8) := [114#8, 111#8, 119#8]
def litRow : Obj := .cells #[.int .u8 114, .int .u8 111, .int .u8 119] 5 (3, 4)
theorem again_snoc {lo b g E NA c1 : Nat} {d : DiskM} {w6 w7 : World} {L1 : List (Nat × Obj)} {q1 : Option Addr} {vs1 : List Value} {rows : List RowW} {z : Int} {v7 : Value} {o2 : Obj} {w0 : World} (hB0 : Below lo w0 w6) (hI : WaL lo w6 b g d E false L1) (hlo : lo ≤ w6.heap.size) (hK : FrK lo L1 (.slice q1 NA c1) vs1 rows) (hNA : rows.length = NA) (hz : 1 ≤ z ∧ z ≤ 254)
    (hrow7 : w7.ownsRow lo 46 2 v7 (NA + 1) (frCells rows vs1 ++ [.int .i64 z, .slice (some ⟨w6.heap.size, 0, none⟩) 3 3])) (hg7 : ((w6.alloc litRow).alloc o2).grownBy w7 (Value.slice q1 NA c1).ownBlock)
    (ho7 : v7.ownBlock = (Value.slice q1 NA c1).ownBlock ∨ v7.ownBlock = some ((w6.alloc litRow).alloc o2).heap.size) :
    ∃ L3 q7 c7, v7 = .slice q7 (NA + 1) c7 ∧ WaL lo w7 b g d E false L3 ∧ Below lo w0 w7 ∧ ∀ w'' : World, (∀ x ∈ L3, w''.heap[x.1]? = some x.2) → FrM w'' v7 (rows ++ [(kb z, rowB3)]) := by
  have hn8 : n8 (kb z) = z := n8_kb (by omega) (by omega)
  have hA := hI.one litRow
  have hB := hA.one o2
  have hsA : (w6.alloc litRow).heap.size = w6.heap.size + 1 := size_alloc _ _
  have hsB : ((w6.alloc litRow).alloc o2).heap.size = w6.heap.size + 2 := by rw [size_alloc, hsA]
  have hbB : Below (w6.alloc litRow).heap.size (w6.alloc litRow) ((w6.alloc litRow).alloc o2) := (Below.refl _ _).alloc (Nat.le_refl _) _
  have hfr := hK.fr _ (fun x hx => hB.all x (List.mem_cons_of_mem _ (List.mem_cons_of_mem _ hx)))
  have hfr6 := hK.fr _ (fun x hx => hI.all x hx)
  have hlit : ((w6.alloc litRow).alloc o2).heap[w6.heap.size]? = some litRow := hB.all _ (List.mem_cons_of_mem _ List.mem_cons_self)
  have hkr : (Value.slice q1 NA c1).ownBlock ≠ some w6.heap.size := fun e => by
    have := (World.ownsRow.lt hfr6.rows _ e).2
    omega
  have hx : FrX lo w7 v7 (vs1 ++ [.slice (some ⟨w6.heap.size, 0, none⟩) 3 3]) (rows ++ [(kb z, rowB3)]) :=
    hfr.snocX (f := (kb z, rowB3)) (n := 3) (c := 3) rfl (lies_obj hlit rfl) (by omega) hkr (by rw [hNA]; show w7.ownsRow _ _ _ _ _ (frCells rows vs1 ++ [.int .i64 (n8 (kb z)), _]); rw [hn8]; exact hrow7) hg7
  have hlt : ∀ k, FrB v7 (vs1 ++ [.slice (some ⟨w6.heap.size, 0, none⟩) 3 3]) k → (((w6.alloc litRow).alloc o2).heap.size ≤ k ∧ k < w7.heap.size ∨ ∃ o, (k, o) ∈ L1 ++ [(w6.heap.size, litRow)]) ∧ k < w7.heap.size := fun k hk => by
    have hsz := hg7.size
    rcases hk with e | ⟨i, u, h1, e⟩
    · have h2 := (World.ownsRow.lt hrow7 k e).2
      refine ⟨?_, h2⟩
      rcases ho7 with ho | ho
      · rw [ho] at e
        obtain ⟨o, hm⟩ := hK.whole _ (Or.inl e)
        exact Or.inr ⟨o, List.mem_append_left _ hm⟩
      · rw [ho] at e
        have e2 := Option.some.inj e
        exact Or.inl ⟨by omega, h2⟩
    · by_cases hlt : i < vs1.length
      · rw [List.getElem?_append_left hlt] at h1
        obtain ⟨o, hm⟩ := hK.whole _ (Or.inr ⟨i, u, h1, e⟩)
        have h2 := (Array.getElem?_eq_some_iff.1 (hI.all _ hm)).1
        exact ⟨Or.inr ⟨o, List.mem_append_left _ hm⟩, by have h2 : k < w6.heap.size := h2; omega⟩
      · rw [List.getElem?_append_right (by omega)] at h1
        have hi : i - vs1.length = 0 := by have := (List.getElem?_eq_some_iff.1 h1).1; simp at this; omega
        rw [hi] at h1
        simp only [List.getElem?_cons_zero, Option.some.injEq] at h1
        subst h1
        have e2 : w6.heap.size = k := by simpa [Value.ownBlock] using e
        subst e2
        exact ⟨Or.inr ⟨litRow, List.mem_append_right _ List.mem_cons_self⟩, by omega⟩
  obtain ⟨L3, l1, l2⟩ := hx.keeps (fun k hk => (hlt k hk).2)
  have h3 : WaL lo ((w6.alloc litRow).alloc o2) b g d E false ((L1 ++ [(w6.heap.size, litRow)]) ++ []) := hB.fewer (fun x hx => by
    rw [List.append_nil] at hx
    rcases List.mem_append.1 hx with hx | hx
    · exact List.mem_cons_of_mem _ (List.mem_cons_of_mem _ hx)
    · rw [List.mem_singleton.1 hx]; exact List.mem_cons_of_mem _ List.mem_cons_self)
  have h4 := h3.grown hg7 (fun k e => by
    obtain ⟨o, hm⟩ := hK.whole k (Or.inl e)
    exact ⟨⟨o, List.mem_append_left _ hm⟩, fun x hx => absurd hx List.not_mem_nil⟩) L3 (fun x hx => ⟨(l1 x hx).2, by
      rcases (hlt _ (l1 x hx).1).1 with h | ⟨o, h⟩
      · exact Or.inl h.1
      · exact Or.inr ⟨o, by rw [List.append_nil]; exact h⟩⟩)
  rw [List.append_nil] at h4
  obtain ⟨q7, c7, e7, -⟩ := hx.toM
  refine ⟨L3, q7, c7, by rw [e7, List.length_append, hNA]; rfl, h4, ((hB0.trans ((Below.refl w6.heap.size w6).alloc (Nat.le_refl _) litRow |>.mono hlo)).trans (hbB.mono (by omega))).grown hg7 (by omega) (fun j e => (World.ownsRow.lt hfr6.rows j e).1), fun w'' hw => (l2 w'' hw).toM⟩
set_option maxRecDepth 1000000 in
set_option maxHeartbeats 4000000 in
theorem walAgain_any (os : List InB) (z0 : Int) (N c : Nat) (p : Option Addr) (w : World) (hN : os.length = N) (hO : RowOf 1 InB.cells w p os) (hok : ∀ o ∈ os, o.Ok w) (hR : Rem w) :
    Calls Tryd.prog 4 #[.slice p N c, .int .i64 z0] w fun e w' => e = .returned (.bool true) ∧ Below w.heap.size w w' := by
  have HO := Lib.hid hO
  have HN := Lib.hid hN
  have HOK := Lib.hid hok
  have HR := Lib.hid hR
  have HG := Lib.hid hR.size
  have HPK := fun w => Lib.hid (pickZ_any z0 254 w (by decide) (by decide))
  have hkd := rowF_kind z0
  obtain ⟨pk, hpk⟩ : ∃ pk, pk = pickZ z0 254 := ⟨_, rfl⟩
  rw [← hpk] at HPK hkd
  have HKD := Lib.hid hkd
  have kc := fun (w : World) (C : Array Value) (n c : Nat) => Lib.run_convert_bytes_const (P := Tryd.prog) w 41 5 C n c Tryd.underlying41 Tryd.underlying5
  have hpk2 : (pk : Int) < 254 := by omega
  clear hO hN hok hR hpk hkd
  go_enter Tryd.func4, Tryd.ntmps4
  go_wp2_with fail
  refine (dkNewL 65536 w).mono ?_
  rintro e w1 ⟨g, rfl, hi, hb⟩
  have H0 : Hid (AgR w.heap.size w g 0 (DiskM.new 65536) w1) := ⟨hi, calm_new _, rfl, Nat.le_refl _, by show sumTo (fun _ => ⟨[], 0⟩) 33 ≤ _; rw [sumTo_nil]; exact Nat.zero_le _, fun _ _ => rfl, hb⟩
  clear hi hb
  go_wp2_with fail
  go_loopg [6] 4 (fun gk s6 wx => ∃ (k : Nat) (d : DiskM), k + gk = 4 ∧ s6 = .int .i64 (k : Int) ∧ k ≤ N ∧ AgR w.heap.size w g k d wx)
  case atStart => exact ⟨0, _, by omega, rfl, Nat.zero_le _, H0.out⟩
  case round =>
    clear H0
    obtain ⟨k, d, hkg, rfl, hkN, hI⟩ := hrel
    have HI := Lib.hid hI
    by_cases hlt : k < N ∧ k < 4
    · obtain ⟨hlt1, hlt2⟩ := hlt
      obtain ⟨g1, rfl⟩ : ∃ g1, gk = g1 + 1 := ⟨gk - 1, by omega⟩
      obtain ⟨o, ho⟩ : ∃ o, os[k]? = some o := ⟨_, List.getElem?_eq_getElem (by rw [HN.out]; exact hlt1)⟩
      have hoo := HOK.out o (List.mem_of_getElem? ho)
      obtain ⟨b0, off, rfl, hb0, hcs⟩ := HO.out.cellsAt ho (by show 0 < 1; decide)
      have k0 := hcs wr _ hI.below hb0 0 _ rfl
      simp only [Nat.mul_one, Nat.add_zero] at k0
      obtain ⟨n, hn⟩ : ∃ n, o.b.length = n := ⟨_, rfl⟩
      rw [hn] at k0
      have qk1 : (k : Int) < (N : Int) := by omega
      have qk2 : (k : Int) < 4 := by omega
      by_cases hlong : 2100 < n
      · have ql : (2100 : Int) < (n : Int) := by omega
        clear hI hcs ho hb0 hoo hlt2 hlong hn
        go_wp2_with (go_at_call 9; fail)
        refine (known10_any wr (HR.out.on HI.out.below)).mono ?_
        rintro e w2 ⟨rfl, hb2⟩
        have HB2 := Lib.hid (HI.out.below.trans (hb2.mono HI.out.below.size))
        clear hb2
        go_wp2_with fail
        go_ret
        exact ⟨rfl, HB2.out⟩
      · have ql : ¬ (2100 : Int) < (n : Int) := by omega
        have HW := Lib.hid (hI.write (c := o.c) hI.below.size hlt2 hn (by omega) (hoo.lies.below hI.below))
        clear hI hcs ho hb0 hoo hlt2 hlong hn
        go_wp2_with (go_at_call 13; fail)
        refine HW.out.mono ?_
        rintro e w2 ⟨rfl, d2, hI2⟩
        have HI2 := Lib.hid hI2
        clear hI2
        go_wp2_with fail
        go_roundg g1
        case measure => omega
        case rel => exact ⟨k + 1, d2, by omega, by first | rfl | simp, by omega, HI2.out⟩
    · obtain ⟨E, segs, r, hLog⟩ := logOf_ex (fun s => (d.files s).all)
      have hE4 : E ≤ 4 := hLog.small (fun s h1 _ => hI.later s (by omega))
      have hsm := hI.disk.small (by have := hI.room; omega)
      have HMEM : Hid (∀ f ∈ rowsW segs E, f.2.length < 100000) := show ∀ f ∈ rowsW segs E, _ from fun f hf => by
        obtain ⟨s, h1, h2, h3⟩ := rowsW_mem E hf
        have := (hLog.opened.ok s h1 h2 f h3).2
        omega
      have HFEW : Hid ((rowsW segs E).length ≤ 44444) := show _ ≤ _ by
        have := rows_few hLog (fun s _ h2 => hsm s h2) (Nat.le_refl E)
        omega
      have HLOG := Lib.hid hLog
      have HE4 := Lib.hid (And.intro hE4 trivial)
      have HOPEN := Lib.hid (hI.disk.open hI.below.size (HR.out.on hI.below) hI.calm (by have := hI.count; omega) segs r hLog (fun s _ h2 => hsm s h2))
      have hx : ¬ (k : Int) < (N : Int) ∨ (k : Int) < (N : Int) ∧ ¬ (k : Int) < 4 := by omega
      clear hI hLog hE4 hsm hlt
      rcases hx with qk1 | ⟨qk1, qk2⟩
      · go_wp2_with (go_at_call 8; fail)
        refine HOPEN.out.mono ?_
        rintro e w2 ⟨b1, hv1, vs1, d1, L1, rfl, hi, hb, hfr, hk1, hf1, hc1, hr1, hn1⟩
        obtain ⟨NA, hNA⟩ : ∃ NA, (rowsW segs E).length = NA := ⟨_, rfl⟩
        obtain ⟨q1, c1, rfl, -⟩ := hfr.sl9 hNA
        have HNA := Lib.hid hNA
        have HB2 := Lib.hid (HI.out.below.trans hb)
        have hlf1 : LogFiles (fun s => (d1.files s).all) E segs := by rw [hf1]; exact HLOG.out.opened
        have HLF1 := Lib.hid hlf1
        have HU1L : Hid (d1.used ≤ 8400 ∧ True) := show _ ∧ _ from ⟨by
          have h1 : d1.used ≤ d.used := by unfold DiskM.used; rw [hf1]; exact open_used_le
          have := HI.out.used
          omega, trivial⟩
        have HK1 := Lib.hid (hk1.lower HI.out.below.size)
        have HD1 := Lib.hid hi.dk
        have HU1 := hi.dk.used
        have HOPEN2 := Lib.hid (hi.dk.open HB2.out.size (HR.out.on HB2.out) hc1 (by have := HI.out.count; omega) segs [] hlf1.log (fun s _ h2 => hi.dk.small (by have := HI.out.room; omega) s h2))
        have HN1 := Lib.hid (And.intro hn1 trivial)
        have HR1 := Lib.hid hr1
        clear hi hb hfr hk1 hf1 hc1 hr1 hn1 hNA hlf1 HOPEN
        go_wp2_with (first | (go_at_call 14; refine HU1.mono ?_; rintro e wq ⟨rfl, rfl⟩) | (go_at_call 8; fail))
        clear HU1
        refine HOPEN2.out.mono ?_
        rintro e w3 ⟨b2, hv2, vs2, d2, L2, rfl, hi, hb, hfr, hk2, hf2, hc2, hr2, hn2⟩
        obtain ⟨q2, c2, rfl, -⟩ := hfr.sl9 HNA.out
        have HB3 := Lib.hid (HB2.out.trans hb)
        have hm2 := hfr.toM
        have hm1 := (HK1.out.fr w3 (fun x hx => hi.all x (List.mem_append_right _ (List.mem_append_left _ hx)))).toM
        have HM1 := Lib.hid hm1; have HM2 := Lib.hid hm2
        have hlf2 : LogFiles (fun s => (d2.files s).all) E segs := by rw [hf2]; exact HLF1.out.log.opened
        have huse : d2.used = d1.used := by unfold DiskM.used; rw [hf2]; exact open_used HLF1.out
        have HUSE := Lib.hid huse
        have HLF2 := Lib.hid hlf2
        have HI3 : Hid (WaL w.heap.size w3 b2 g d2 E false L1) := hi.fewer (fun x hx => List.mem_append_right _ (List.mem_append_left _ hx))
        have HC2 := Lib.hid hc2
        have HRM2 : Hid (d2.room = 65536) := show _ = _ from hr2.trans (HR1.out.trans HI.out.room)
        have HN2 : Hid (d2.count ≤ 70 ∧ True) := show _ ∧ _ from ⟨by have := HN1.out.1; have := HI.out.count; omega, trivial⟩
        have HU2 : Hid (d2.used ≤ 8400 ∧ True) := show _ ∧ _ from ⟨by rw [huse]; exact HU1L.out.1, trivial⟩
        clear hi hb hfr hk2 hf2 hc2 hr2 hn2 hm1 hm2 hlf2 huse HOPEN2
        go_wp2_with (go_at_call 12; fail)
        refine (sameFramesM_any _ _ _ w3 (by have := HFEW.out; omega) HMEM.out HM1.out HM2.out).mono ?_
        rintro e w4 ⟨rfl, hb4⟩
        have HI4 := Lib.hid (HI3.out.below hb4)
        have HB4 := Lib.hid (HB3.out.trans (hb4.mono HB3.out.size))
        have hu4 := HI4.out.used
        rw [HUSE.out] at hu4
        clear hb4
        go_wp2_with (first | (go_at_call 14; refine hu4.mono ?_; rintro e wq ⟨rfl, rfl⟩) | (go_at_call 15; refine (HPK w4).out.mono ?_; rintro e w4p ⟨rfl, rfl⟩) | (go_at_call 16; fail))
        have hi := HI4.out.one litRow
        have hb : Below w4p.heap.size w4p (w4p.alloc litRow) := (Below.refl _ _).alloc (Nat.le_refl _) _
        show Calls _ _ _ (w4p.alloc litRow) _
        generalize w4p.alloc litRow = w5 at hi hb ⊢
        have HI5 := Lib.hid hi; have HB5 := Lib.hid (HB4.out.trans (hb.mono HB4.out.size))
        have hcall := HI5.out.append HB5.out.size HG.out (HR.out.on HB5.out) (by have := HN2.out.1; omega) (1 + (pk : Int)) rowB3 3 3 (some ⟨w4p.heap.size, 0, none⟩) rfl (by decide) (fun w' h _ => lies_obj (h _ List.mem_cons_self) rfl)
        have hneed : d2.used + needW d2 E 3 ≤ d2.room := by
          have := HU2.out.1; have := HRM2.out
          unfold needW
          split <;> omega
        have ha := append_calm HLF2.out HC2.out (1 + (pk : Int)) HKD.out (kb (1 + (pk : Int)), rowB3) (by show 3 ≤ 2022; decide) hneed (Or.inr (by have := HE4.out.1; omega))
        obtain ⟨segs', hlf3, hrows3⟩ := ha.log HLF2.out ⟨kb_ne HKD.out.1 (by have := HKD.out.2; omega), by show 3 ≤ 2039; decide⟩ (Or.inr (by have := HE4.out.1; omega))
        have hcn := appendW_count d2 E false (1 + (pk : Int)) (kb (1 + (pk : Int)), rowB3)
        obtain ⟨rr, hrr⟩ : ∃ rr, rr = appendW d2 E false (1 + (pk : Int)) (kb (1 + (pk : Int)), rowB3) := ⟨_, rfl⟩
        rw [← hrr] at hcall ha hlf3 hrows3 hcn
        obtain ⟨d3, E3, dd, e3⟩ := rr
        have he := ha.e; have hdd := ha.dead; have hcl := ha.calm; have hrm := ha.room; have hsg := ha.seg
        simp only at he hdd hcl hrm hsg hcall hlf3 hrows3 hcn
        subst he hdd
        have HCL := Lib.hid hcl; have HLF3 := Lib.hid hlf3; have HROWS3 := Lib.hid hrows3
        have HRM3 : Hid (d3.room = 65536) := show _ = _ from hrm.trans HRM2.out
        have HN3 : Hid (d3.count ≤ 80 ∧ True) := show _ ∧ _ from ⟨by have := HN2.out.1; omega, trivial⟩
        have HCALL := Lib.hid hcall
        clear hi hb hu4 hneed ha hcn hrr hcl hrm hsg hcall hlf3 hrows3
        refine HCALL.out.mono ?_
        rintro e w6 ⟨rfl, hi, hb⟩
        have HI6 : Hid (WaL w.heap.size w6 b2 g d3 E3 false L1) := show WaL _ _ _ _ _ _ _ _ from WaL.fewer hi (fun x hx => List.mem_cons_of_mem _ hx)
        have HB6 := Lib.hid (HB5.out.trans hb)
        have hrow := (HK1.out.fr w6 (fun x hx => HI6.out.all x hx)).rows
        rw [HNA.out] at hrow
        have HROW := Lib.hid (hrow : w6.ownsRow w.heap.size 46 2 (.slice q1 NA c1) NA (frCells (rowsW segs E) vs1))
        have h2c : ∀ u ∈ [Value.int .i64 (1 + (pk : Int)), .slice (some ⟨w6.heap.size, 0, none⟩) 3 3], u.oneCell' = true := by
          intro u hu
          simp only [List.mem_cons, List.not_mem_nil, or_false] at hu
          rcases hu with rfl | rfl <;> rfl
        have hNA6 : NA ≤ 1000000 := by have := HFEW.out; have := HNA.out; omega
        have hs6 := HB6.out.size
        clear hi hb hrow HCALL
        go_wp2_with (first
          | (at_builtin; refine frT.wpList_append (base := w.heap.size) (n := NA) (C := #[.int .i64 (1 + (pk : Int)), .slice (some ⟨w6.heap.size, 0, none⟩) 3 3]) (by rfl) rfl rfl ((HROW.out.alloc _).alloc _) rfl (heap_new_at (size_alloc _ _)) rfl h2c hNA6 (by rw [size_alloc, size_alloc]; omega) ?_; intro v7 w7 hrow7 hg7 ho7; obtain ⟨L3, q7, c7, rfl, hi7, hb7, hm7⟩ := again_snoc HB6.out HI6.out HB6.out.size HK1.out HNA.out HKD.out hrow7 hg7 ho7; have HI7 := Lib.hid hi7; have HM7 := Lib.hid hm7; have HB7 := Lib.hid hb7; clear hrow7 hg7 ho7 hi7 hm7 hb7)
          | (go_at_call 8; fail))
        refine (HI7.out.dk.open HB7.out.size (HR.out.on HB7.out) HCL.out (by have := HN3.out.1; omega) segs' [] HLF3.out.log (fun s _ h2 => HI7.out.dk.small (by have := HRM3.out; omega) s h2)).mono ?_
        rintro e w8 ⟨b3, hv3, vs3, d4, L4, rfl, hi, hb, hfr, -, -, -, -, -⟩
        rw [HROWS3.out] at hfr
        obtain ⟨q8, c8, rfl, -⟩ := hfr.sl9 (n := NA + 1) (by rw [List.length_append, HNA.out]; rfl)
        have hm8 := hfr.toM
        have hma := HM7.out w8 (fun x hx => hi.all x (List.mem_append_right _ hx))
        have HM8 := Lib.hid hm8; have HMA := Lib.hid hma
        have HB8 := Lib.hid (HB7.out.trans hb)
        have HMEM2 : Hid (∀ f ∈ rowsW segs E ++ [(kb (1 + (pk : Int)), rowB3)], f.2.length < 100000) := show ∀ f ∈ _, _ from fun f hf => by
          rcases List.mem_append.1 hf with hf | hf
          · exact HMEM.out f hf
          · rw [List.mem_singleton.1 hf]; show 3 < 100000; decide
        clear hi hb hfr hm8 hma
        go_wp2_with (go_at_call 12; fail)
        refine (sameFramesM_any _ _ _ w8 (by rw [List.length_append]; have := HFEW.out; simp only [List.length_singleton]; omega) HMEM2.out HMA.out HM8.out).mono ?_
        rintro e w9 ⟨rfl, hb9⟩
        have HB9 := Lib.hid (HB8.out.trans (hb9.mono HB8.out.size))
        clear hb9
        go_wp2_with (go_at_call 9; fail)
        refine (known10_any w9 (HR.out.on HB9.out)).mono ?_
        rintro e w10 ⟨rfl, hb10⟩
        have HB10 := Lib.hid (HB9.out.trans (hb10.mono HB9.out.size))
        clear hb10
        go_wp2_with fail
        go_ret
        exact ⟨rfl, HB10.out⟩
      · go_wp2_with (go_at_call 8; fail)
        refine HOPEN.out.mono ?_
        rintro e w2 ⟨b1, hv1, vs1, d1, L1, rfl, hi, hb, hfr, hk1, hf1, hc1, hr1, hn1⟩
        obtain ⟨NA, hNA⟩ : ∃ NA, (rowsW segs E).length = NA := ⟨_, rfl⟩
        obtain ⟨q1, c1, rfl, -⟩ := hfr.sl9 hNA
        have HNA := Lib.hid hNA
        have HB2 := Lib.hid (HI.out.below.trans hb)
        have hlf1 : LogFiles (fun s => (d1.files s).all) E segs := by rw [hf1]; exact HLOG.out.opened
        have HLF1 := Lib.hid hlf1
        have HU1L : Hid (d1.used ≤ 8400 ∧ True) := show _ ∧ _ from ⟨by
          have h1 : d1.used ≤ d.used := by unfold DiskM.used; rw [hf1]; exact open_used_le
          have := HI.out.used
          omega, trivial⟩
        have HK1 := Lib.hid (hk1.lower HI.out.below.size)
        have HD1 := Lib.hid hi.dk
        have HU1 := hi.dk.used
        have HOPEN2 := Lib.hid (hi.dk.open HB2.out.size (HR.out.on HB2.out) hc1 (by have := HI.out.count; omega) segs [] hlf1.log (fun s _ h2 => hi.dk.small (by have := HI.out.room; omega) s h2))
        have HN1 := Lib.hid (And.intro hn1 trivial)
        have HR1 := Lib.hid hr1
        clear hi hb hfr hk1 hf1 hc1 hr1 hn1 hNA hlf1 HOPEN
        go_wp2_with (first | (go_at_call 14; refine HU1.mono ?_; rintro e wq ⟨rfl, rfl⟩) | (go_at_call 8; fail))
        clear HU1
        refine HOPEN2.out.mono ?_
        rintro e w3 ⟨b2, hv2, vs2, d2, L2, rfl, hi, hb, hfr, hk2, hf2, hc2, hr2, hn2⟩
        obtain ⟨q2, c2, rfl, -⟩ := hfr.sl9 HNA.out
        have HB3 := Lib.hid (HB2.out.trans hb)
        have hm2 := hfr.toM
        have hm1 := (HK1.out.fr w3 (fun x hx => hi.all x (List.mem_append_right _ (List.mem_append_left _ hx)))).toM
        have HM1 := Lib.hid hm1; have HM2 := Lib.hid hm2
        have hlf2 : LogFiles (fun s => (d2.files s).all) E segs := by rw [hf2]; exact HLF1.out.log.opened
        have huse : d2.used = d1.used := by unfold DiskM.used; rw [hf2]; exact open_used HLF1.out
        have HUSE := Lib.hid huse
        have HLF2 := Lib.hid hlf2
        have HI3 : Hid (WaL w.heap.size w3 b2 g d2 E false L1) := hi.fewer (fun x hx => List.mem_append_right _ (List.mem_append_left _ hx))
        have HC2 := Lib.hid hc2
        have HRM2 : Hid (d2.room = 65536) := show _ = _ from hr2.trans (HR1.out.trans HI.out.room)
        have HN2 : Hid (d2.count ≤ 70 ∧ True) := show _ ∧ _ from ⟨by have := HN1.out.1; have := HI.out.count; omega, trivial⟩
        have HU2 : Hid (d2.used ≤ 8400 ∧ True) := show _ ∧ _ from ⟨by rw [huse]; exact HU1L.out.1, trivial⟩
        clear hi hb hfr hk2 hf2 hc2 hr2 hn2 hm1 hm2 hlf2 huse HOPEN2
        go_wp2_with (go_at_call 12; fail)
        refine (sameFramesM_any _ _ _ w3 (by have := HFEW.out; omega) HMEM.out HM1.out HM2.out).mono ?_
        rintro e w4 ⟨rfl, hb4⟩
        have HI4 := Lib.hid (HI3.out.below hb4)
        have HB4 := Lib.hid (HB3.out.trans (hb4.mono HB3.out.size))
        have hu4 := HI4.out.used
        rw [HUSE.out] at hu4
        clear hb4
        go_wp2_with (first | (go_at_call 14; refine hu4.mono ?_; rintro e wq ⟨rfl, rfl⟩) | (go_at_call 15; refine (HPK w4).out.mono ?_; rintro e w4p ⟨rfl, rfl⟩) | (go_at_call 16; fail))
        have hi := HI4.out.one litRow
        have hb : Below w4p.heap.size w4p (w4p.alloc litRow) := (Below.refl _ _).alloc (Nat.le_refl _) _
        show Calls _ _ _ (w4p.alloc litRow) _
        generalize w4p.alloc litRow = w5 at hi hb ⊢
        have HI5 := Lib.hid hi; have HB5 := Lib.hid (HB4.out.trans (hb.mono HB4.out.size))
        have hcall := HI5.out.append HB5.out.size HG.out (HR.out.on HB5.out) (by have := HN2.out.1; omega) (1 + (pk : Int)) rowB3 3 3 (some ⟨w4p.heap.size, 0, none⟩) rfl (by decide) (fun w' h _ => lies_obj (h _ List.mem_cons_self) rfl)
        have hneed : d2.used + needW d2 E 3 ≤ d2.room := by
          have := HU2.out.1; have := HRM2.out
          unfold needW
          split <;> omega
        have ha := append_calm HLF2.out HC2.out (1 + (pk : Int)) HKD.out (kb (1 + (pk : Int)), rowB3) (by show 3 ≤ 2022; decide) hneed (Or.inr (by have := HE4.out.1; omega))
        obtain ⟨segs', hlf3, hrows3⟩ := ha.log HLF2.out ⟨kb_ne HKD.out.1 (by have := HKD.out.2; omega), by show 3 ≤ 2039; decide⟩ (Or.inr (by have := HE4.out.1; omega))
        have hcn := appendW_count d2 E false (1 + (pk : Int)) (kb (1 + (pk : Int)), rowB3)
        obtain ⟨rr, hrr⟩ : ∃ rr, rr = appendW d2 E false (1 + (pk : Int)) (kb (1 + (pk : Int)), rowB3) := ⟨_, rfl⟩
        rw [← hrr] at hcall ha hlf3 hrows3 hcn
        obtain ⟨d3, E3, dd, e3⟩ := rr
        have he := ha.e; have hdd := ha.dead; have hcl := ha.calm; have hrm := ha.room; have hsg := ha.seg
        simp only at he hdd hcl hrm hsg hcall hlf3 hrows3 hcn
        subst he hdd
        have HCL := Lib.hid hcl; have HLF3 := Lib.hid hlf3; have HROWS3 := Lib.hid hrows3
        have HRM3 : Hid (d3.room = 65536) := show _ = _ from hrm.trans HRM2.out
        have HN3 : Hid (d3.count ≤ 80 ∧ True) := show _ ∧ _ from ⟨by have := HN2.out.1; omega, trivial⟩
        have HCALL := Lib.hid hcall
        clear hi hb hu4 hneed ha hcn hrr hcl hrm hsg hcall hlf3 hrows3
        refine HCALL.out.mono ?_
        rintro e w6 ⟨rfl, hi, hb⟩
        have HI6 : Hid (WaL w.heap.size w6 b2 g d3 E3 false L1) := show WaL _ _ _ _ _ _ _ _ from WaL.fewer hi (fun x hx => List.mem_cons_of_mem _ hx)
        have HB6 := Lib.hid (HB5.out.trans hb)
        have hrow := (HK1.out.fr w6 (fun x hx => HI6.out.all x hx)).rows
        rw [HNA.out] at hrow
        have HROW := Lib.hid (hrow : w6.ownsRow w.heap.size 46 2 (.slice q1 NA c1) NA (frCells (rowsW segs E) vs1))
        have h2c : ∀ u ∈ [Value.int .i64 (1 + (pk : Int)), .slice (some ⟨w6.heap.size, 0, none⟩) 3 3], u.oneCell' = true := by
          intro u hu
          simp only [List.mem_cons, List.not_mem_nil, or_false] at hu
          rcases hu with rfl | rfl <;> rfl
        have hNA6 : NA ≤ 1000000 := by have := HFEW.out; have := HNA.out; omega
        have hs6 := HB6.out.size
        clear hi hb hrow HCALL
        go_wp2_with (first
          | (at_builtin; refine frT.wpList_append (base := w.heap.size) (n := NA) (C := #[.int .i64 (1 + (pk : Int)), .slice (some ⟨w6.heap.size, 0, none⟩) 3 3]) (by rfl) rfl rfl ((HROW.out.alloc _).alloc _) rfl (heap_new_at (size_alloc _ _)) rfl h2c hNA6 (by rw [size_alloc, size_alloc]; omega) ?_; intro v7 w7 hrow7 hg7 ho7; obtain ⟨L3, q7, c7, rfl, hi7, hb7, hm7⟩ := again_snoc HB6.out HI6.out HB6.out.size HK1.out HNA.out HKD.out hrow7 hg7 ho7; have HI7 := Lib.hid hi7; have HM7 := Lib.hid hm7; have HB7 := Lib.hid hb7; clear hrow7 hg7 ho7 hi7 hm7 hb7)
          | (go_at_call 8; fail))
        refine (HI7.out.dk.open HB7.out.size (HR.out.on HB7.out) HCL.out (by have := HN3.out.1; omega) segs' [] HLF3.out.log (fun s _ h2 => HI7.out.dk.small (by have := HRM3.out; omega) s h2)).mono ?_
        rintro e w8 ⟨b3, hv3, vs3, d4, L4, rfl, hi, hb, hfr, -, -, -, -, -⟩
        rw [HROWS3.out] at hfr
        obtain ⟨q8, c8, rfl, -⟩ := hfr.sl9 (n := NA + 1) (by rw [List.length_append, HNA.out]; rfl)
        have hm8 := hfr.toM
        have hma := HM7.out w8 (fun x hx => hi.all x (List.mem_append_right _ hx))
        have HM8 := Lib.hid hm8; have HMA := Lib.hid hma
        have HB8 := Lib.hid (HB7.out.trans hb)
        have HMEM2 : Hid (∀ f ∈ rowsW segs E ++ [(kb (1 + (pk : Int)), rowB3)], f.2.length < 100000) := show ∀ f ∈ _, _ from fun f hf => by
          rcases List.mem_append.1 hf with hf | hf
          · exact HMEM.out f hf
          · rw [List.mem_singleton.1 hf]; show 3 < 100000; decide
        clear hi hb hfr hm8 hma
        go_wp2_with (go_at_call 12; fail)
        refine (sameFramesM_any _ _ _ w8 (by rw [List.length_append]; have := HFEW.out; simp only [List.length_singleton]; omega) HMEM2.out HMA.out HM8.out).mono ?_
        rintro e w9 ⟨rfl, hb9⟩
        have HB9 := Lib.hid (HB8.out.trans (hb9.mono HB8.out.size))
        clear hb9
        go_wp2_with (go_at_call 9; fail)
        refine (known10_any w9 (HR.out.on HB9.out)).mono ?_
        rintro e w10 ⟨rfl, hb10⟩
        have HB10 := Lib.hid (HB9.out.trans (hb10.mono HB9.out.size))
        clear hb10
        go_wp2_with fail
        go_ret
        exact ⟨rfl, HB10.out⟩
end Go.Proofs.YteanjfcejpibaaaDoor

/-
  WalAgain, for any files and kind: the law returns true, and what came in reads afterwards as it read before; the package's table starts as the program's own text lays it (the tie is given).
-/
namespace Go.Proofs.YteanjfcejpibaaaDoor
open Go.ChangeShapes Go.WideShapes Go.ChangeAt Go.RowKit Go.Proofs.ShaWords

set_option maxRecDepth 100000 in
theorem walAgain_lifted (os : Os) (started : os.Started) (H : Type) (enc : TypeId × Value → H) :
    ReturnsInHanded {} Tryd.checked os 4 .any (fun w args => (Rows.walAgainSpec.pre enc Tryd.prog Tryd.f4 [] false w args ∧ laidMetH Tryd.prog laid10 w) ∧ sizedMet enc Tryd.prog Tryd.f4 (OpenSpec.ofChange Rows.walAgainSpec) false w args)
      (Rows.walAgainSpec.post enc Tryd.prog Tryd.f4 false true false false) := by
  refine returnsInHanded_of_change_and (C := Tryd.checked) (X := fun w _ => laidMetH Tryd.prog laid10 w) (fun _ _ _ hh h => h.of_heap hh) own started (by kernel_rfl) Tryd.func4
    (ChangeSpec.witness_shaped (enc := enc) (C := Tryd.checked) (os := os) (X := fun w _ => laidMetH Tryd.prog laid10 w) false (World.doorLaid Tryd.prog 400 os) #[.slice none 0 0, .int .i64 0] 8 rfl (World.shaped_of_RefB (by kernel_rfl) (by kernel_rfl)) (by kernel_rfl) (by kernel_rfl) (by kernel_rfl) (door_met10 os _)) ?_
  intro W base args ds gs before hval0 hW _ hsz hL _
  have hW' := hW
  obtain ⟨p, q, hA0, hV, rfl, hfz, hnd⟩ := hW
  have hA : DataW.TrodAll enc Tryd.prog W 0 (fun _ => true) true Tryd.f4.params.toList args.toList ds p := hA0
  have hval : ∀ (j : Nat) t v, Tryd.f4.params[j]? = some t → args[j]? = some v → Value.okWide Tryd.prog W .any base t v := hval0
  have hsz2 : (DataW.weightsEach Tryd.prog (Tryd.f4.params.toList ++ Rows.walAgainSpec.plain.varTypes Tryd.prog) (ds ++ gs)).all (· ≤ reachBytes) = true := hsz
  rw [Tryd.params4] at hA hval hsz2
  obtain ⟨v0, vs0, d0, ds0, p0, q0, hargs, rfl, rfl, h0, r0⟩ := trodAll_cons hA
  obtain ⟨v1, vs1, d1, ds1, p1, q1, rfl, rfl, rfl, h1, r1⟩ := trodAll_cons r0
  obtain ⟨rfl, rfl, rfl⟩ := trodAll_nil r1
  obtain rfl : args = #[v0, v1] := by cases args; simp_all
  obtain ⟨rfl, rfl⟩ := trodVars_none hV
  obtain ⟨a0, len0, cap0, rfl⟩ := okWide_slice Tryd.underlying40 (hval 0 40 v0 rfl rfl)
  have k0 := h0
  have lt0 : ∀ x ∈ p0, x.block < W.heap.size := by obtain ⟨m, hm⟩ := k0; exact DataW.trod_lt m _ _ _ hm
  obtain ⟨f0, hf0⟩ := h0
  obtain ⟨os0, hx0a, hx0b, hx0c, hx0d⟩ := open_files_in hf0
  obtain ⟨z1, rfl, rfl, rfl, wz1⟩ := open_int Tryd.underlying3 (hval 1 3 v1 rfl rfl) h1
  have hQ := of_laid10 hL
  clear hA0 hval0
  refine (walAgain_any os0 z1 len0 cap0 a0 W hx0a hx0c hx0d hQ).mono fun e W' ⟨he, bel⟩ => ?_
  subst he
  exact ⟨_, rfl, _, _, _, [], _, [], hW', trodAll_mk1 (shut_bool Tryd.underlying4 _), (trodAll_cons_mk (Below.trod laidOut (by kernel_rfl) (of_decide_eq_true (by kernel_rfl)) k0 bel lt0) (trodAll_cons_mk (shut_int Tryd.underlying3 wz1) trodAll_mk0)), rfl, bel.frame _, fun h => by cases h⟩

theorem walAgain_holds : Rows.WalAgainSaid :=
  OpenClaim.holds_of_wide 4 Tryd.f4 rfl rfl rfl rfl rfl rfl rfl ⟨rfl, rfl, rfl, rfl, rfl⟩ rfl rfl rfl rfl rfl (by kernel_rfl) Tryd.func4 (by kernel_rfl)
    (of_decide_eq_true (by kernel_rfl)) (by unfold Func.isWrapper; first | (rw [if_pos (by decide +kernel)]; kernel_rfl) | (rw [if_neg (by decide +kernel)]; exact ⟨rfl, rfl⟩))
    (fun os started H enc _ => walAgain_lifted os started H enc)

theorem walAgain_card : Rows.WalAgainCardSaid :=
  Claim7.holds_tied_plain_at .later [] [.data] true Rows.walAgainCard.stood.harness false
    walAgain_holds (fun _ h => by cases h) (by kernel_rfl) (fun _ h => by cases h) walAgain_row_tie rfl ⟨rfl, rfl⟩ (by kernel_rfl) rfl
    (fun f fn hf hfn => by
      obtain rfl : f = 4 := Option.some.inj (hf.symm.trans (show _ = some 4 by kernel_rfl))
      obtain rfl : fn = Tryd.f4 := (Option.some.inj (Tryd.func4.symm.trans hfn)).symm
      exact ⟨by kernel_rfl, fun j t ht => by
        rw [Tryd.params4] at ht
        have hm : t ∈ [40, 3] := by simpa using Array.mem_of_getElem? ht
        have hall : ([40, 3].all fun u => !Tryd.prog.wantsStandIn u) = true := by kernel_rfl
        exact (show Tryd.prog.wantsStandIn t = false by simpa using List.all_eq_true.1 hall t hm)⟩)
    (by kernel_rfl)
#print axioms walAgain_card
end Go.Proofs.YteanjfcejpibaaaDoor
