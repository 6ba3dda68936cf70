/-
  The contract of the statements' own published: the chapter's key, nonce, head and text.
-/
import Derived.Test.YtagkkihnfipfeaaDoorAeOpen
import Derived.Test.YtagkkihnfipfeaaDoorAnyOrder
import Derived.Test.YtagkkihnfipfeaaDoorCcWorks
namespace Go.Proofs.YtagkkihnfipfeaaDoor
open Go.RowKit Go.Proofs.ShaWords

def pubKey : List (BitVec 8) := (List.range 32).map fun i => BitVec.ofNat 8 (128 + i)
def pubTo (k : Nat) : List (BitVec 8) := (List.range k).map (fun i => BitVec.ofNat 8 (128 + i)) ++ noughts (32 - k)
def pubNonce : List (BitVec 8) := [7#8, 0#8, 0#8, 0#8, 64#8, 65#8, 66#8, 67#8, 68#8, 69#8, 70#8, 71#8]
def pubHead : List (BitVec 8) := [80#8, 81#8, 82#8, 83#8, 192#8, 193#8, 194#8, 195#8, 196#8, 197#8, 198#8, 199#8]
def pubText : List (BitVec 8) := [76#8, 97#8, 100#8, 105#8, 101#8, 115#8, 32#8, 97#8, 110#8, 100#8, 32#8, 71#8, 101#8, 110#8, 116#8, 108#8, 101#8, 109#8, 101#8, 110#8, 32#8, 111#8, 102#8, 32#8, 116#8, 104#8, 101#8, 32#8, 99#8, 108#8, 97#8, 115#8, 115#8, 32#8, 111#8, 102#8, 32#8, 39#8, 57#8, 57#8, 58#8, 32#8, 73#8, 102#8, 32#8, 73#8, 32#8, 99#8, 111#8, 117#8, 108#8, 100#8, 32#8, 111#8, 102#8, 102#8, 101#8, 114#8, 32#8, 121#8, 111#8, 117#8, 32#8, 111#8, 110#8, 108#8, 121#8, 32#8, 111#8, 110#8, 101#8, 32#8, 116#8, 105#8, 112#8, 32#8, 102#8, 111#8, 114#8, 32#8, 116#8, 104#8, 101#8, 32#8, 102#8, 117#8, 116#8, 117#8, 114#8, 101#8, 44#8, 32#8, 115#8, 117#8, 110#8, 115#8, 99#8, 114#8, 101#8, 101#8, 110#8, 32#8, 119#8, 111#8, 117#8, 108#8, 100#8, 32#8, 98#8, 101#8, 32#8, 105#8, 116#8, 46#8]
theorem pubTo_length (k : Nat) (hk : k ≤ 32) : (pubTo k).length = 32 := by simp [pubTo, noughts]; omega
theorem pubTo_set (k : Nat) (hk : k < 32) : (pubTo k).set k (BitVec.ofNat 8 (128 + k)) = pubTo (k + 1) := by
  unfold pubTo noughts
  obtain ⟨m, hm⟩ : ∃ m, 32 - k = m + 1 := ⟨31 - k, by omega⟩
  rw [hm, show 32 - (k + 1) = m by omega, List.set_append_right _ _ (by simp), List.range_succ, List.map_append]
  simp [List.replicate_succ]
theorem pubTo_full : pubTo 32 = pubKey := by simp [pubTo, pubKey, noughts]
def isConst : Operand → Bool
  | .const _ => true
  | _ => false
def constOf : Operand → Value
  | .const v => v
  | _ => undef
/-- A slice of bytes that is built of constants. -/
theorem run_buildBytes {ρ : Operand → Value} {o : Oper} {n : Nat} {ps : Array (Nat × Operand)} (ho : o.op = .buildSlice 26 n ps) (h0 : ∀ v, ρ (.const v) = v) (hall : ps.all (fun p => isConst p.2) = true) (l : List (BitVec 8))
    (hf : Instr.fill (fun i => some (i * 1, 1)) ((Array.range (n * 1)).map (#[Value.int .u8 0][· % 1]!)) (ps.map fun p => (p.1, constOf p.2)).toList = some (bytesV l).toArray) (hn : n ≠ 0) (hn2 : n ≤ 1000) (w : World) :
    (execOp ρ o).run Tryd.prog w = .ok (.value (.slice (some ⟨w.heap.size, 0, none⟩) n n)) (w.alloc (.cells (bytesV l).toArray 5)) := by
  obtain ⟨i, hi, hz, hs, hb⟩ := info_parts info5
  have hps : ps.map (fun (i, x) => (i, ρ x)) = ps.map fun p => (p.1, constOf p.2) := by
    apply Array.map_congr_left
    intro p hp
    have h1 := Array.all_eq_true_iff_forall_mem.1 hall p hp
    obtain ⟨k, x⟩ := p
    cases x <;> simp [isConst] at h1
    simp [constOf, h0]
  unfold execOp
  have hle : ¬ 2 ^ 24 < n * 1 := by omega
  have hne : ¬ n * 1 = 0 := by omega
  have hsz : (sizeOf 5).run Tryd.prog w = .ok 1 w := by kernel_rfl
  have hzv : (zeroValue 5).run Tryd.prog w = .ok (.int .u8 0) w := by kernel_rfl
  have hc : (Value.int .u8 0).cells = #[Value.int .u8 0] := rfl
  simp only [ho, hps, Instr.buildSlice, Sem.run_bind, run_underlying Tryd.underlying26, Result.andThen_ok, hsz, if_neg hle, if_neg hne, hzv, hc, Sem.run_pure]
  simp only [show (#[Value.int .u8 0] : Array Value).size = 1 from rfl, hf]
  simp [newRow, go_sem]
theorem slot_free {ops : Array Oper} {t : Nat} (h : ops.all (fun o => decide (o.dst ≠ some t)) = true) (i : Nat) (o : Oper) (ho : ops[i]? = some o) : o.dst ≠ some t := by
  have h1 := Array.all_eq_true_iff_forall_mem.1 h o (Array.mem_of_getElem? ho)
  simpa using h1
/-- The result's blocks, the key's. -/
structure PubW (w : World) (l : List (BitVec 8)) (wr : World) : Prop where
  res : BytesAt wr w.heap.size 23 (noughts 32)
  res2 : BytesAt wr (w.heap.size + 1) 25 (noughts 12)
  row : BytesAt wr (w.heap.size + 1 + 1) 23 l
  below : Below w.heap.size w wr
theorem PubW.on {w wr w' : World} {l : List (BitVec 8)} (h : PubW w l wr) (hb : Below wr.heap.size wr w') : PubW w l w' := ⟨h.res.keep hb, h.res2.keep hb, h.row.keep hb, h.below.trans (hb.mono h.below.size)⟩
theorem PubW.put {w wr : World} {l : List (BitVec 8)} (h : PubW w l wr) (k : Nat) (x : BitVec 8) : PubW w (l.set k x) (wr.setCell ⟨w.heap.size + 1 + 1, k, none⟩ (.int .u8 (n8 x))) :=
  ⟨h.res.putOther (by omega) _ _, h.res2.putOther (by omega) _ _, h.row.put k x, h.below.setCell (by show w.heap.size ≤ w.heap.size + 1 + 1; omega) _⟩
theorem wrap_pub (k : Nat) : IntKind.u8.wrap (128 + (k : Int)) = n8 (BitVec.ofNat 8 (128 + k)) := by
  unfold n8; rw [IntKind.wrap_u8', BitVec.toNat_ofNat]; omega
/-- What the last statement keeps. -/
structure PubS (w : World) (G : Nat) (wr : World) : Prop where
  row : BytesAt wr (w.heap.size + 1 + 1) 23 pubKey
  nonce : BytesAt wr G 25 pubNonce
  res : ∃ l, BytesAt wr w.heap.size 23 l ∧ l.length = 32
  res2 : ∃ l, BytesAt wr (w.heap.size + 1) 25 l ∧ l.length = 12
  below : Below w.heap.size w wr
/-- A block whose cells are these bytes, marked or not. -/
def Row5 (W : World) (g : Nat) (l : List (BitVec 8)) : Prop := ∃ fr, W.heap[g]? = some (.cells (bytesV l).toArray 5 fr)
def PubV (w : World) (G : Nat) : Nat → Value → World → Prop
  | 0, u, _ => u = .agg (bytesV pubKey).toArray
  | 1, u, _ => u = .agg (bytesV pubNonce).toArray
  | 2, u, W => ∃ g, u = .slice (some ⟨g, 0, none⟩) 12 12 ∧ G < g ∧ Row5 W g pubHead
  | 3, u, W => ∃ g, u = .slice (some ⟨g, 0, none⟩) 114 114 ∧ G < g ∧ Row5 W g pubText
  | 4, u, W => ∃ g, u = .slice (some ⟨g, 0, none⟩) 114 114 ∧ G < g ∧ Row5 W g pubText
  | 5, _, W => BytesAt W w.heap.size 23 pubKey
  | 6, _, W => BytesAt W (w.heap.size + 1) 25 pubNonce
  | 7, u, W => ∃ g, u = .slice (some ⟨g, 0, none⟩) 12 12 ∧ G < g ∧ Row5 W g pubHead
  | 8, u, W => ∃ g, u = .slice (some ⟨g, 0, none⟩) 114 114 ∧ G < g ∧ Row5 W g pubText
  | _, _, _ => True
def PubR (w : World) (G : Nat) (W W' : World) : Prop := (∀ g l, G < g → Row5 W g l → Row5 W' g l) ∧ (BytesAt W w.heap.size 23 pubKey → BytesAt W' w.heap.size 23 pubKey) ∧ (BytesAt W (w.heap.size + 1) 25 pubNonce → BytesAt W' (w.heap.size + 1) 25 pubNonce)
theorem PubR.refl (w : World) (G : Nat) (W : World) : PubR w G W W := ⟨fun _ _ _ h => h, id, id⟩
theorem Row5.past {W W' : World} {g r : Nat} {l : List (BitVec 8)} (h : Row5 W g l) (hg : W.grownBy W' (some r)) (hne : g ≠ r) : Row5 W' g l := by
  obtain ⟨fr, h⟩ := h
  exact ⟨fr, (hg.block _ (Array.getElem?_eq_some_iff.1 h).1 (fun e => hne (Option.some.inj e))).trans h⟩
theorem PubR.of_below {w W W' : World} {G : Nat} (h : Below W.heap.size W W') : PubR w G W W' := ⟨fun _ _ _ ⟨fr, h'⟩ => ⟨fr, (h.block _ (Array.getElem?_eq_some_iff.1 h').1).trans h'⟩, fun h' => h'.keep h, fun h' => h'.keep h⟩
theorem pubV_on (w : World) (G i : Nat) (u : Value) (W W' : World) (h : PubR w G W W') (hv : PubV w G i u W) : PubV w G i u W' := by
  match i, hv with
  | 0, hv => exact hv
  | 1, hv => exact hv
  | 2, ⟨g, h1, h2, h3⟩ => exact ⟨g, h1, h2, h.1 g _ h2 h3⟩
  | 3, ⟨g, h1, h2, h3⟩ => exact ⟨g, h1, h2, h.1 g _ h2 h3⟩
  | 4, ⟨g, h1, h2, h3⟩ => exact ⟨g, h1, h2, h.1 g _ h2 h3⟩
  | 5, hv => exact h.2.1 hv
  | 6, hv => exact h.2.2 hv
  | 7, ⟨g, h1, h2, h3⟩ => exact ⟨g, h1, h2, h.1 g _ h2 h3⟩
  | 8, ⟨g, h1, h2, h3⟩ => exact ⟨g, h1, h2, h.1 g _ h2 h3⟩
  | _ + 9, _ => trivial
theorem PubS.on {w W W' : World} {G : Nat} (h : PubS w G W) (hb : Below W.heap.size W W') : PubS w G W' :=
  ⟨h.row.keep hb, h.nonce.keep hb, h.res.imp fun _ x => ⟨x.1.keep hb, x.2⟩, h.res2.imp fun _ x => ⟨x.1.keep hb, x.2⟩, h.below.trans (hb.mono h.below.size)⟩
theorem PubS.past {w W W' : World} {G g : Nat} (h : PubS w G W) (h2 : W.grownBy W' (some g)) (hg : G < g) (hG : w.heap.size + 1 + 1 < G) : PubS w G W' :=
  ⟨h.row.past h2 (by omega), h.nonce.past h2 (by omega), h.res.imp fun _ x => ⟨x.1.past h2 (by omega), x.2⟩, h.res2.imp fun _ x => ⟨x.1.past h2 (by omega), x.2⟩, h.below.grown h2 h.below.size (fun k hk => by cases hk; omega)⟩
theorem wpOp_value {P : Program} {ops : Array Oper} {Q : Exit → Act → World → Prop} {i : Nat} {K : Act → World → Prop} {a : Act} {w w' : World} {o : Oper} {v : Value} (ho : ops[i]? = some o) (hg : o.guard = none) (hr : (execOp a.eval o).run P w = .ok (.value v) w') (h : K (a.put o.dst v) w') : wpOp P ops Q i K a w := by
  refine wpOp_of_wp ho hg ?_
  unfold Oper.wp
  rw [hr, Oper.upon_value]
  exact h
/-- '[]byte(..)' of a constant: the row's mark alone is turned. -/
theorem run_conv26 {ρ : Operand → Value} {o : Oper} {x : Operand} {g n c : Nat} {C : Array Value} {fr : Nat × Nat} (ho : o.op = .convert 26 26 x) (hx : ρ x = .slice (some ⟨g, 0, none⟩) n c) (w : World) (hg : w.heap[g]? = some (.cells C 5 fr)) :
    ∃ w' fr', (execOp ρ o).run Tryd.prog w = .ok (.value (.slice (some ⟨g, 0, none⟩) n c)) w' ∧ w'.heap[g]? = some (.cells C 5 fr') ∧ w.grownBy w' (some g) := by
  have hsh : w.shape? g = some (5, C.size) := by unfold World.shape?; rw [hg]
  have hrun : (convert 26 26 (.slice (some ⟨g, 0, none⟩) n c)).run Tryd.prog w = .ok (.slice (some ⟨g, 0, none⟩) n c) (w.freeze ⟨g, C.size, none⟩ 1) := by
    simp [convert, run_underlying Tryd.underlying26, run_underlying Tryd.underlying5, markStringish, hsh]
  have hlt : g < w.heap.size := (Array.getElem?_eq_some_iff.1 hg).1
  have hv : w.heap[g] = .cells C 5 fr := (Array.getElem?_eq_some_iff.1 hg).2
  obtain ⟨lo, hi⟩ := fr
  refine ⟨w.freeze ⟨g, C.size, none⟩ 1, if lo == hi then (C.size, C.size + 1) else (min lo C.size, max hi (C.size + 1)), ?_, ?_, ?_⟩
  · unfold execOp
    simp only [ho, hx, Sem.run_bind, hrun, Result.andThen_ok, Sem.run_pure]
  · unfold World.freeze
    rw [if_neg (by decide)]
    show (w.heap.modify g _)[g]? = _
    rw [Array.getElem?_modify, if_pos rfl, hg]
    rfl
  · unfold World.freeze
    rw [if_neg (by decide)]
    refine ⟨rfl, rfl, rfl, by simp, fun k hk hne => ?_⟩
    show (w.heap.modify g _)[k]? = _
    rw [Array.getElem?_modify, if_neg (fun e => hne (by rw [e]))]
theorem act_ext {a : Act} {N : Nat} {X : Array Value} {D : List Deferred} (h1 : a.tmps.size = N) (h2 : X.size = N) (h3 : a.defers = D) (h : ∀ t, t < N → a.tmps.getD t undef = X.getD t undef) : a = { tmps := X, defers := D } := by
  obtain ⟨tm, df⟩ := a
  simp only at h1 h3 h
  subst h3
  have : tm = X := by
    apply Array.ext (by omega)
    intro i hi hj
    have := h i (by omega)
    simpa [hi, hj] using this
  rw [this]
attribute [local irreducible] pubTo pubKey pubText pubHead pubNonce
set_option maxRecDepth 100000 in
set_option maxHeartbeats 2000000 in
theorem aePub_any (w : World) : Calls Tryd.prog 22 #[] w fun e w' => ∃ g h, e = .returned (.tuple #[.agg (bytesV pubKey).toArray, .agg (bytesV pubNonce).toArray, .slice (some ⟨g, 0, none⟩) 12 12, .slice (some ⟨h, 0, none⟩) 114 114]) ∧
    Row5 w' g pubHead ∧ Row5 w' h pubText ∧ w.heap.size ≤ g ∧ w.heap.size ≤ h ∧ Below w.heap.size w w' := by
  have HZ : Hid (pubTo 0 = noughts 32) := show _ = _ by unfold pubTo; rfl
  go_enter Tryd.func22, Tryd.ntmps22
  go_upto_region 3 with (fail)
  refine wp_gen (PubW w (pubTo 0)) ⟨?_, ?_, ?_, alloc3_below _ _ _ _⟩ ?_
  · exact alloc3_1 _ (.cells (bytesV (noughts 32)).toArray _) _ _
  · exact alloc3_2 _ _ (.cells (bytesV (noughts 12)).toArray _) _
  · rw [HZ.out]; exact alloc3_3 _ _ _ (.cells (bytesV (noughts 32)).toArray _)
  intro w0 hw0
  have HW0 := Lib.hid hw0; clear hw0
  go_wp2_with fail
  go_loopw [5] (fun i wr => ∃ k : Nat, k ≤ 32 ∧ i = .int .i64 (k : Int) ∧ PubW w (pubTo k) wr) (fun i _ => 32 - (intOf i).toNat)
  case atStart => exact ⟨0, by omega, rfl, HW0.out⟩
  case round =>
    clear HW0
    obtain ⟨k, hk, rfl, hw⟩ := hrel
    by_cases hlt : k < 32
    · have e0 := hw.row.cell k (by rw [pubTo_length k hk]; exact hlt)
      have f0 := hw.row.frozenAt k
      have HS := Lib.hid (pubTo_set k hlt)
      have hwr := wrap_pub k
      have HW := Lib.hid hw; clear hw
      have q0 : (k : Int) < 32 := by omega
      have m0 : IntKind.i64.wrap (128 + (k : Int)) = 128 + (k : Int) := IntWalk.i64_in _ (by omega)
      go_wp2_with fail
      go_roundw
      case rel => exact ⟨k + 1, by omega, by go_num, by rw [← HS.out]; exact HW.out.put _ _⟩
      case measure => simp [intOf]; omega
    · have HK : Hid (k = 32) := show k = 32 by omega
      have HW : Hid (PubW w pubKey wr) := show PubW _ _ _ by rw [← pubTo_full, ← HK.out]; exact hw
      clear hw
      have HNL : Hid (pubNonce.length = 12) := show _ = _ by unfold pubNonce; rfl
      have HKL : Hid (pubKey.length = 32) := show _ = _ by unfold pubKey; rfl
      have HI := Lib.hid (infoNonce _ HNL.out)
      have HIK := Lib.hid (infoKey _ HKL.out)
      have HOLD := Lib.hid (show (bytesV (noughts 12)).toArray.size = (bytesV pubNonce).toArray.size by rw [bytesV_size _ 12 HNL.out, bytesV_size _ 12 (noughts_length 12)])
      have HONE := Lib.hid (bytesV_one pubNonce)
      have sz : w.heap.size + 1 + 1 < wr.heap.size := HW.out.row.size
      go_upto_region 7 with (first
        | (refine wpList_build_eq rfl 25 #[(0, .const (.int .u8 7)), (1, .const (.int .u8 0)), (2, .const (.int .u8 0)), (3, .const (.int .u8 0)), (4, .const (.int .u8 64)), (5, .const (.int .u8 65)), (6, .const (.int .u8 66)), (7, .const (.int .u8 67)), (8, .const (.int .u8 68)), (9, .const (.int .u8 69)), (10, .const (.int .u8 70)), (11, .const (.int .u8 71))] rfl (bytesV pubNonce).toArray (by kernel_rfl) ?_)
        | (refine wpList_store_new rfl 25 (.tmp 6) (.tmp 16) rfl wr.heap.size rfl (bytesV pubNonce).toArray rfl rfl HI.out (by exact HOLD.out) HONE.out ?_; intro w2 h2 b2; have HK2 := Lib.hid (show BytesAt w2 wr.heap.size 25 pubNonce from h2); have HW2 := Lib.hid (HW.out.on b2); clear h2 b2))
      clear HW
      generalize wr.heap.size = G at HK2 sz ⊢
      refine region_facts (PubS w G) (PubR w G) (PubV w G) (by kernel_rfl) (by kernel_rfl) (by kernel_rfl) (by kernel_rfl)
        ⟨HW2.out.row, HK2.out, ⟨_, HW2.out.res, noughts_length 32⟩, ⟨_, HW2.out.res2, noughts_length 12⟩, HW2.out.below.trans (((Below.refl _ _).drew).mono HW2.out.below.size)⟩ (fun i u W W' _ h hv => pubV_on w G i u W W' h hv) ?_ ?_
      · intro i o A W ho hS hslot hdep
        have s4 : A.eval (.tmp 4) = .pointer (some ⟨w.heap.size + 1 + 1, 0, none⟩) := hslot 4 (slot_free (by kernel_rfl))
        have s6 : A.eval (.tmp 6) = .pointer (some ⟨G, 0, none⟩) := hslot 6 (slot_free (by kernel_rfl))
        have s0 : A.eval (.tmp 0) = .pointer (some ⟨w.heap.size, 0, none⟩) := hslot 0 (slot_free (by kernel_rfl))
        have s1 : A.eval (.tmp 1) = .pointer (some ⟨w.heap.size + 1, 0, none⟩) := hslot 1 (slot_free (by kernel_rfl))
        have sW : G < W.heap.size := hS.nonce.size
        clear hslot
        match i, ho with
        | 0, ho =>
          cases ho
          refine wpOp_value rfl rfl (run_loadKey rfl s4 HKL.out hS.row) ⟨_, rfl, hS, PubR.refl _ _ _, ?_⟩
          rintro u rfl; rfl
        | 1, ho =>
          cases ho
          refine wpOp_value rfl rfl (run_loadNonce rfl s6 HNL.out hS.nonce) ⟨_, rfl, hS, PubR.refl _ _ _, ?_⟩
          rintro u rfl; rfl
        | 2, ho =>
          cases ho
          refine wpOp_value rfl rfl (run_buildBytes rfl (fun _ => rfl) (by kernel_rfl) pubHead (by kernel_rfl) (by omega) (by omega) W) ⟨_, rfl, hS.on ((Below.refl _ _).alloc (Nat.le_refl _) _), PubR.of_below ((Below.refl _ _).alloc (Nat.le_refl _) _), ?_⟩
          rintro u rfl; exact ⟨_, rfl, sW, _, heap_new_at rfl⟩
        | 3, ho =>
          cases ho
          refine wpOp_value rfl rfl (run_buildBytes rfl (fun _ => rfl) (by kernel_rfl) pubText (by kernel_rfl) (by omega) (by omega) W) ⟨_, rfl, hS.on ((Below.refl _ _).alloc (Nat.le_refl _) _), PubR.of_below ((Below.refl _ _).alloc (Nat.le_refl _) _), ?_⟩
          rintro u rfl; exact ⟨_, rfl, sW, _, heap_new_at rfl⟩
        | 4, ho =>
          have hop : o.op = .convert 26 26 (.tmp 20) ∧ o.dst = some 21 ∧ o.guard = none := by cases ho; exact ⟨rfl, rfl, rfl⟩
          obtain ⟨g, hu, hg, hb⟩ : ∃ g, A.eval (.tmp 20) = .slice (some ⟨g, 0, none⟩) 114 114 ∧ G < g ∧ Row5 W g pubText := hdep ⟨3, .data⟩ (by cases ho; simp) rfl _ rfl
          obtain ⟨fr, hb⟩ := hb
          obtain ⟨w', fr', hr, h1, h2⟩ := run_conv26 hop.1 hu W hb
          have HR : PubR w G W w' := ⟨fun g' l hg' h' => by
            by_cases e : g' = g
            · subst e
              obtain ⟨f0, h0⟩ := h'
              rw [hb] at h0
              have e1 := (Obj.cells.inj (Option.some.inj h0)).1
              exact ⟨fr', by rw [h1, e1]⟩
            · exact h'.past h2 e, fun h' => h'.past h2 (by omega), fun h' => h'.past h2 (by omega)⟩
          refine wpOp_value ho hop.2.2 hr ⟨_, rfl, hS.past h2 (by omega) sz, HR, ?_⟩
          rintro u rfl; rw [hop.2.1]; exact ⟨g, rfl, hg, fr', h1⟩
        | 5, ho =>
          cases ho
          have hu : A.eval (.tmp 17) = .agg (bytesV pubKey).toArray := hdep ⟨0, .data⟩ (by simp) rfl _ rfl
          obtain ⟨l, hl, hll⟩ := hS.res
          refine wpOp_of_wp rfl rfl (wp_store_row 23 _ _ rfl w.heap.size _ s0 hu 23 _ hl HIK.out (by rw [bytesV_size _ 32 hll, bytesV_size _ 32 HKL.out]) (bytesV_one _) ?_)
          have h2 := grown_setRow W w.heap.size (bytesV pubKey).toArray
          have h1 : BytesAt (W.setRow w.heap.size (bytesV pubKey).toArray) w.heap.size 23 pubKey := setRow_heap _ _ _ _ _ _ hl
          refine ⟨_, rfl, ?_, ⟨fun g' l hg' h' => h'.past h2 (by omega), fun _ => h1, fun h' => h'.past h2 (by omega)⟩, ?_⟩
          · obtain ⟨l2, hl2, hll2⟩ := hS.res2
            exact ⟨hS.row.past h2 (by omega), hS.nonce.past h2 (by omega), ⟨_, h1, HKL.out⟩, ⟨l2, hl2.past h2 (by omega), hll2⟩, below_setRow hS.below (Nat.le_refl _) _⟩
          · rintro u rfl; exact h1
        | 6, ho =>
          cases ho
          have hu : A.eval (.tmp 18) = .agg (bytesV pubNonce).toArray := hdep ⟨1, .data⟩ (by simp) rfl _ rfl
          obtain ⟨l, hl, hll⟩ := hS.res2
          refine wpOp_of_wp rfl rfl (wp_store_row 25 _ _ rfl (w.heap.size + 1) _ s1 hu 25 _ hl HI.out (by rw [bytesV_size _ 12 hll, bytesV_size _ 12 HNL.out]) (bytesV_one _) ?_)
          have h2 := grown_setRow W (w.heap.size + 1) (bytesV pubNonce).toArray
          have h1 : BytesAt (W.setRow (w.heap.size + 1) (bytesV pubNonce).toArray) (w.heap.size + 1) 25 pubNonce := setRow_heap _ _ _ _ _ _ hl
          refine ⟨_, rfl, ?_, ⟨fun g' l hg' h' => h'.past h2 (by omega), fun h' => h'.past h2 (by omega), fun _ => h1⟩, ?_⟩
          · obtain ⟨l2, hl2, hll2⟩ := hS.res
            exact ⟨hS.row.past h2 (by omega), hS.nonce.past h2 (by omega), ⟨l2, hl2.past h2 (by omega), hll2⟩, ⟨_, h1, HNL.out⟩, below_setRow hS.below (by omega) _⟩
          · rintro u rfl; exact h1
        | 7, ho =>
          cases ho
          obtain ⟨g, hu, hg, hb⟩ : ∃ g, A.eval (.tmp 19) = .slice (some ⟨g, 0, none⟩) 12 12 ∧ G < g ∧ Row5 W g pubHead := hdep ⟨2, .data⟩ (by simp) rfl _ rfl
          refine wpOp_value rfl rfl (run_assign rfl hu W) ⟨_, rfl, hS, PubR.refl _ _ _, ?_⟩
          rintro u rfl; exact ⟨g, rfl, hg, hb⟩
        | 8, ho =>
          cases ho
          obtain ⟨g, hu, hg, hb⟩ : ∃ g, A.eval (.tmp 21) = .slice (some ⟨g, 0, none⟩) 114 114 ∧ G < g ∧ Row5 W g pubText := hdep ⟨4, .data⟩ (by simp) rfl _ rfl
          refine wpOp_value rfl rfl (run_assign rfl hu W) ⟨_, rfl, hS, PubR.refl _ _ _, ?_⟩
          rintro u rfl; exact ⟨g, rfl, hg, hb⟩
        | n + 9, ho => simp at ho
      · intro A W hS hD hN hslot hfact
        have s0 : A.tmps.getD 0 undef = .pointer (some ⟨w.heap.size, 0, none⟩) := hslot 0 (slot_free (by kernel_rfl))
        have s1 : A.tmps.getD 1 undef = .pointer (some ⟨w.heap.size + 1, 0, none⟩) := hslot 1 (slot_free (by kernel_rfl))
        obtain ⟨g, s2, hg, hr2⟩ : ∃ g, A.tmps.getD 2 undef = .slice (some ⟨g, 0, none⟩) 12 12 ∧ G < g ∧ Row5 W g pubHead := hfact 7 _ rfl
        obtain ⟨h, s3, hh, hr3⟩ : ∃ g, A.tmps.getD 3 undef = .slice (some ⟨g, 0, none⟩) 114 114 ∧ G < g ∧ Row5 W g pubText := hfact 8 _ rfl
        have b0 : BytesAt W w.heap.size 23 pubKey := hfact 5 _ rfl
        have b1 : BytesAt W (w.heap.size + 1) 25 pubNonce := hfact 6 _ rfl
        have hA : A = { tmps := #[.pointer (some ⟨w.heap.size, 0, none⟩), .pointer (some ⟨w.heap.size + 1, 0, none⟩), .slice (some ⟨g, 0, none⟩) 12 12, .slice (some ⟨h, 0, none⟩) 114 114, A.tmps.getD 4 undef, A.tmps.getD 5 undef, A.tmps.getD 6 undef, A.tmps.getD 7 undef, A.tmps.getD 8 undef, A.tmps.getD 9 undef, A.tmps.getD 10 undef, A.tmps.getD 11 undef, A.tmps.getD 12 undef, A.tmps.getD 13 undef, A.tmps.getD 14 undef, A.tmps.getD 15 undef, A.tmps.getD 16 undef, A.tmps.getD 17 undef, A.tmps.getD 18 undef, A.tmps.getD 19 undef, A.tmps.getD 20 undef, A.tmps.getD 21 undef], defers := [] } := act_ext (N := 22) hN rfl hD fun t ht => match t, ht with
          | 0, _ => s0
          | 1, _ => s1
          | 2, _ => s2
          | 3, _ => s3
          | 4, _ => rfl
          | 5, _ => rfl
          | 6, _ => rfl
          | 7, _ => rfl
          | 8, _ => rfl
          | 9, _ => rfl
          | 10, _ => rfl
          | 11, _ => rfl
          | 12, _ => rfl
          | 13, _ => rfl
          | 14, _ => rfl
          | 15, _ => rfl
          | 16, _ => rfl
          | 17, _ => rfl
          | 18, _ => rfl
          | 19, _ => rfl
          | 20, _ => rfl
          | 21, _ => rfl
          | n + 22, h => absurd h (by omega)
        have HB := Lib.hid hS.below
        rw [hA]
        clear hA hD hN hslot hfact
        generalize A.tmps.getD 4 undef = x4
        go_wp2_with fail
        refine bodyPost_ret (v := .tuple #[.agg (bytesV pubKey).toArray, .agg (bytesV pubNonce).toArray, .slice (some ⟨g, 0, none⟩) 12 12, .slice (some ⟨h, 0, none⟩) 114 114]) ?_ rfl ?_
        · have r0 := run_loadVar_row (P := Tryd.prog) W w.heap.size 23 23 _ _ _ b0 Tryd.underlying23 rfl HIK.out
          have r1 := run_loadVar_row (P := Tryd.prog) W (w.heap.size + 1) 25 25 _ _ _ b1 Tryd.underlying25 rfl HI.out
          simp [results, Tryd.results22, asAddr, r0, r1]
        · exact ⟨g, h, rfl, hr2, hr3, by omega, by omega, HB.out⟩
end Go.Proofs.YtagkkihnfipfeaaDoor
