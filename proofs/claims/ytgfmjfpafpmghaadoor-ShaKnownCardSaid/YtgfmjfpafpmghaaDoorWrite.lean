/-
  The contract of (*sha.Hash).Write: for a hash that lies whole in a block of its own and any bytes that lie in another block, the hash is fed these bytes; nothing else that was there changes.
-/
import Derived.Test.YtgfmjfpafpmghaaDoorFeed
import Derived.Deep.DeepFit
import Derived.Deep.RegionHeld3
namespace Go.Proofs.YtgfmjfpafpmghaaDoor
open Go.RowKit Go.Proofs.ShaWords

def hashCells (h : HS) : List Value := wordsV h.s.list ++ (bytesV h.blk ++ [.int .u64 (h.n : Int)])
/-- Block g holds this hash. -/
def HashAt (w : World) (g : Nat) (h : HS) : Prop := w.heap[g]? = some (.cells (hashCells h).toArray 64 (0, 0)) ∧ h.blk.length = 64
theorem hashCells_length (h : HS) (hb : h.blk.length = 64) : (hashCells h).length = 73 := by
  simp [hashCells, wordsV_length, bytesV_length, hb, St.list]
theorem HashAt.cellN {w : World} {g : Nat} {h : HS} (ha : HashAt w g h) : w.cell? ⟨g, 72, none⟩ = some (.int .u64 (h.n : Int)) := by
  rw [cell_of_row w g 72 _ 64 (0, 0) ha.1]
  have e : (hashCells h)[72]? = some (.int .u64 (h.n : Int)) := by
    unfold hashCells
    rw [List.getElem?_append_right (by simp [wordsV_length, St.list]), List.getElem?_append_right (by simp [wordsV_length, bytesV_length, St.list, ha.2])]
    simp [wordsV_length, bytesV_length, St.list, ha.2]
  simpa using e
theorem HashAt.frozen {w : World} {g : Nat} {h : HS} (ha : HashAt w g h) (j : Nat) : w.frozen? ⟨g, j, none⟩ = false := frozen_of_row _ _ _ _ _ ha.1

/-- A copy into the block, seen in the whole row. -/
theorem hash_splice (h : HS) (m : Nat) (cs : List (BitVec 8)) (hb : h.blk.length = 64) (hm : m + cs.length ≤ 64) :
    (hashCells h).take (8 + m) ++ (bytesV cs ++ (hashCells h).drop (8 + m + (bytesV cs).length)) = hashCells ⟨h.s, splice h.blk m cs, h.n⟩ := by
  have hw : (wordsV h.s.list).length = 8 := by simp [wordsV_length, St.list]
  have hbl : (bytesV h.blk).length = 64 := by simp [bytesV_length, hb]
  unfold hashCells splice
  rw [bytesV_append, bytesV_append, bytesV_take, bytesV_drop]
  generalize bytesV h.blk = B at hbl
  generalize wordsV h.s.list = W at hw
  rw [show (bytesV cs).length = cs.length from bytesV_length cs]
  rw [List.take_append, List.take_of_length_le (by omega), hw, show 8 + m - 8 = m by omega, List.take_append_of_le_length (by omega),
    List.drop_append, List.drop_of_length_le (by omega), hw, show 8 + m + cs.length - 8 = m + cs.length by omega, List.nil_append, List.drop_append_of_le_length (by omega)]
  simp only [List.append_assoc]
theorem HashAt.setN {w : World} {g : Nat} {h : HS} (ha : HashAt w g h) (n' : Nat) : HashAt (w.setCell ⟨g, 72, none⟩ (.int .u64 (n' : Int))) g ⟨h.s, h.blk, n'⟩ := by
  refine ⟨?_, ha.2⟩
  rw [heap_setCell_same _ _ _ _ _ _ ha.1]
  have e : ((hashCells h).toArray.setIfInBounds 72 (.int .u64 (n' : Int))) = (hashCells ⟨h.s, h.blk, n'⟩).toArray := by
    simp only [List.setIfInBounds_toArray, hashCells]
    rw [List.set_append_right _ _ (by simp [wordsV_length, St.list]), List.set_append_right _ _ (by simp [wordsV_length, bytesV_length, St.list, ha.2])]
    simp [wordsV_length, bytesV_length, St.list, ha.2]
  rw [e]

/-- The copy into a hash's block. -/
theorem wpList_copy_hash {P : Program} {w : World} {ops : Array Oper} {rest : List Oper} {o : Oper} {a : Act} {Q : Exit → Act → World → Prop} (hgd : o.guard = none) (d s : Operand) (dT sT : TypeId)
    (ho : o.op = .call { callee := .builtin .copy, args := #[d, s], argTypes := #[dT, sT] }) (elem : TypeId) (hu : P.underlying dT = some (.slice elem)) (hsz : (P.info? elem).map (·.size) = some 1)
    (g m b off sLen sCap k : Nat) (h : HS) (bs : List (BitVec 8)) (hd : a.eval d = .slice (some ⟨g, 8 + m, none⟩) (64 - m) (64 - m)) (hs : a.eval s = .slice (some ⟨b, off, none⟩) sLen sCap)
    (ha : HashAt w g h) (hl : bs.length = sLen) (hk : k = Nat.min sLen (64 - m)) (hm : m < 64) (hr : w.rangeAt b off (bytesV bs))
    (hK : ∀ w', HashAt w' g ⟨h.s, splice h.blk m (bs.take k), h.n⟩ → w.grownBy w' (some g) → wpList P ops Q rest (a.put o.dst (.int .i64 (k : Int))) w') :
    wpList P ops Q (o :: rest) a w := by
  have hk1 : k ≤ bs.length := by rw [hk, hl]; exact Nat.min_le_left _ _
  have hk2 : m + k ≤ 64 := by have h2 : k ≤ 64 - m := hk ▸ Nat.min_le_right _ _; omega
  have hkl : (bytesV (bs.take k)).length = k := by rw [bytesV_length, List.length_take]; omega
  refine wpList_copy_own hgd d s dT sT ho elem hu hsz g (8 + m) (64 - m) (64 - m) ⟨b, off, none⟩ sLen sCap hd hs (hashCells h).toArray 64 ha.1 (bytesV (bs.take k)) (by rw [hkl, hk]) ?_ ?_ (fun v hv => bytesV_mem hv) ?_
  · intro j v hv
    rw [Addr.add_mid]
    refine hr j v ?_
    rw [bytesV_take, List.getElem?_take] at hv
    split at hv
    · exact hv
    · cases hv
  · rw [hkl, List.size_toArray, hashCells_length h ha.2]; omega
  · rw [hkl]
    refine hK _ ⟨?_, ?_⟩ (grown_setRow _ _ _)
    · rw [setRow_heap _ _ _ _ _ _ ha.1]
      have e := hash_splice h m (bs.take k) ha.2 (by rw [← bytesV_length, hkl]; exact hk2)
      rw [hkl] at e
      rw [← e]
    · show (splice h.blk m (bs.take k)).length = 64
      rw [length_splice _ _ _ (by rw [← bytesV_length (bs.take k), hkl, ha.2]; exact hk2), ha.2]

theorem HashAt.words {w : World} {g : Nat} {h : HS} (ha : HashAt w g h) : w.rangeAt g 0 (wordsV h.s.list) := fun j v hv => by
  rw [Nat.zero_add, cell_of_row w g j _ 64 (0, 0) ha.1]
  have hj : j < (wordsV h.s.list).length := (List.getElem?_eq_some_iff.1 hv).1
  simp only [List.getElem?_toArray, hashCells]
  rw [List.getElem?_append_left hj]; exact hv
theorem HashAt.bytes {w : World} {g : Nat} {h : HS} (ha : HashAt w g h) : w.rangeAt g 8 (bytesV h.blk) := fun j v hv => by
  rw [cell_of_row w g _ _ 64 (0, 0) ha.1]
  have hj : j < (bytesV h.blk).length := (List.getElem?_eq_some_iff.1 hv).1
  have hw : (wordsV h.s.list).length = 8 := by simp [wordsV_length, St.list]
  simp only [List.getElem?_toArray, hashCells]
  rw [List.getElem?_append_right (by omega), hw, show 8 + j - 8 = j by omega, List.getElem?_append_left hj]; exact hv
theorem HashAt.there {w : World} {g : Nat} {h : HS} (ha : HashAt w g h) (o n : Nat) (hon : o + n ≤ 73) : w.there g o n := fun j hj => by
  refine ⟨?_, ha.frozen _⟩
  rw [cell_of_row w g _ _ 64 (0, 0) ha.1]
  have : o + j < (hashCells h).length := by rw [hashCells_length h ha.2]; omega
  simp [this]
theorem HashAt.setWords {w : World} {g : Nat} {h : HS} (ha : HashAt w g h) (s' : St) : HashAt (w.setCells g 0 (wordsV s'.list)) g ⟨s', h.blk, h.n⟩ := by
  refine ⟨?_, ha.2⟩
  rw [heap_setCells g 64 _ 0 (hashCells h) w ha.1 (by rw [hashCells_length h ha.2, wordsV_length]; simp [St.list])]
  have e : splice (hashCells h) 0 (wordsV s'.list) = hashCells ⟨s', h.blk, h.n⟩ := by
    have hw : (wordsV h.s.list).length = 8 := by simp [wordsV_length, St.list]
    have hw' : (wordsV s'.list).length = 8 := by simp [wordsV_length, St.list]
    unfold splice hashCells
    rw [hw', List.take_zero, List.nil_append, Nat.zero_add, List.drop_append, List.drop_of_length_le (by omega), hw]; rfl
  rw [e]
theorem HashAt.size {w : World} {g : Nat} {h : HS} (ha : HashAt w g h) : g < w.heap.size := (Array.getElem?_eq_some_iff.1 ha.1).1
theorem HashAt.keep {w w' : World} {g : Nat} {h : HS} (ha : HashAt w g h) (hb : Below w.heap.size w w') : HashAt w' g h := ⟨(hb.block _ ha.size).trans ha.1, ha.2⟩
theorem Consts.grown {w w' : World} {g : Nat} (h : Consts w) (hb : w.grownBy w' (some g)) (hg : g ≠ 2) : Consts w' := fun i hi =>
  (World.cell?_of_block (a := ⟨2, i, none⟩) (hb.block 2 h.size (fun e => hg (Option.some.inj e).symm))).trans (h i hi)

/-- The cells of a hash that the mixing statement touches. -/
theorem HashAt.eight {w : World} {g : Nat} {h : HS} (ha : HashAt w g h) : w.cell? ⟨g, 0, none⟩ = some (.int .u32 (n32 h.s.a)) ∧ w.cell? ⟨g, 1, none⟩ = some (.int .u32 (n32 h.s.b)) ∧ w.cell? ⟨g, 2, none⟩ = some (.int .u32 (n32 h.s.c)) ∧
    w.cell? ⟨g, 3, none⟩ = some (.int .u32 (n32 h.s.d)) ∧ w.cell? ⟨g, 4, none⟩ = some (.int .u32 (n32 h.s.e)) ∧ w.cell? ⟨g, 5, none⟩ = some (.int .u32 (n32 h.s.f)) ∧ w.cell? ⟨g, 6, none⟩ = some (.int .u32 (n32 h.s.g)) ∧ w.cell? ⟨g, 7, none⟩ = some (.int .u32 (n32 h.s.h)) :=
  ⟨ha.words 0 _ rfl, ha.words 1 _ rfl, ha.words 2 _ rfl, ha.words 3 _ rfl, ha.words 4 _ rfl, ha.words 5 _ rfl, ha.words 6 _ rfl, ha.words 7 _ rfl⟩
def eightAt (w : World) (g : Nat) (s : St) : Prop := w.cell? ⟨g, 0, none⟩ = some (.int .u32 (n32 s.a)) ∧ w.cell? ⟨g, 1, none⟩ = some (.int .u32 (n32 s.b)) ∧ w.cell? ⟨g, 2, none⟩ = some (.int .u32 (n32 s.c)) ∧
    w.cell? ⟨g, 3, none⟩ = some (.int .u32 (n32 s.d)) ∧ w.cell? ⟨g, 4, none⟩ = some (.int .u32 (n32 s.e)) ∧ w.cell? ⟨g, 5, none⟩ = some (.int .u32 (n32 s.f)) ∧ w.cell? ⟨g, 6, none⟩ = some (.int .u32 (n32 s.g)) ∧ w.cell? ⟨g, 7, none⟩ = some (.int .u32 (n32 s.h))

theorem run_field {ρ : Operand → Value} {o : Oper} {x : Operand} {f off g : Nat} (ho : o.op = .fieldAddr 64 x f)
    (hf : ∀ w, (Instr.fieldAt 64 (.pointer (some ⟨g, 0, none⟩)) f).run Tryd.prog w = .ok (.pointer (some ⟨g, off, none⟩)) w) (h : ρ x = .pointer (some ⟨g, 0, none⟩)) (w : World) :
    (execOp ρ o).run Tryd.prog w = .ok (.value (.pointer (some ⟨g, off, none⟩))) w := by
  unfold execOp; simp only [ho, h, Sem.run_bind, hf, Result.andThen_ok, Sem.run_pure]
theorem run_call28 {ρ : Operand → Value} {o : Oper} {x y : Operand} {v u : Value} (ho : o.op = .call { callee := .value (.func 48), args := #[x, y], argTypes := #[35, 42] }) (hf : ρ (.func 48) = .func (.func 48) #[] #[]) (hx : ρ x = v) (hy : ρ y = u) (w : World) :
    (execOp ρ o).run Tryd.prog w = .ok (.enter 48 #[v, u]) w := by
  obtain ⟨dst, op, ty, pos, after, guard⟩ := o
  simp only at ho
  subst ho
  go_simp

set_option maxRecDepth 100000 in
set_option maxHeartbeats 1000000 in
theorem write_any (g : Nat) (h : HS) (bs : List (BitVec 8)) (p : Option Addr) (cap : Nat) (w : World) (ha : HashAt w g h) (hr : Reads w g p bs) (hcap : bs.length ≤ cap) (hcm : cap ≤ 140737488351232)
    (hn : h.n + bs.length < 1099511627776) (hk : Consts w) (hg : g ≠ 2) :
    Calls Tryd.prog 33 #[.pointer (some ⟨g, 0, none⟩), .slice p bs.length cap] w fun e w' => e = .returned (.tuple #[]) ∧ HashAt w' g (writeOf h bs) ∧ w.grownBy w' (some g) := by
  have HG := Lib.hid hg; clear hg
  have HK := Lib.hid hk; clear hk
  have HA := Lib.hid ha; clear ha
  have HR := Lib.hid hr; clear hr
  go_enter Tryd.func33, Tryd.ntmps33
  go_wp2_with fail
  go_loopw [1, 4, 5] (fun b _ _ wr => ∃ (done rest : List (BitVec 8)) (p' : Option Addr) (cap' : Nat), bs = done ++ rest ∧ b = .slice p' rest.length cap' ∧ rest.length ≤ cap' ∧ cap' ≤ 140737488351232 ∧
      Reads wr g p' rest ∧ HashAt wr g (writeOf h done) ∧ w.grownBy wr (some g)) (fun b _ _ _ => match b with | .slice _ n _ => n | _ => 0)
  case atStart => exact ⟨[], bs, p, cap, rfl, rfl, hcap, hcm, HR.out, HA.out, World.grownBy.refl _ _⟩
  case round =>
    clear HR HA hcap hcm
    obtain ⟨done, rest, p', cap', hbs, rfl, hc1, hc2, hr, ha, hgr⟩ := hrel
    by_cases hne : rest = []
    · subst hne
      have HB := Lib.hid hbs; clear hbs
      have HA := Lib.hid ha; clear ha
      have HGR := Lib.hid hgr; clear hgr hr
      go_wp2_with fail
      go_end0
      refine ⟨rfl, ?_, HGR.out⟩
      have h1 := HB.out
      rw [List.append_nil] at h1
      rw [h1]; exact HA.out
    · have hpos : 0 < rest.length := List.length_pos_iff.2 hne
      have hblk := ha.2
      have hnn := writeOf_n h done
      have hlen : bs.length = done.length + rest.length := by rw [hbs, List.length_append]
      generalize hH : writeOf h done = H at ha hblk hnn
      have hnb : H.n + rest.length < 1099511627776 := by omega
      have cn := ha.cellN
      have HH := Lib.hid hH; clear hH hnn hlen
      have HB := Lib.hid hbs; clear hbs
      rcases hr with hr | ⟨b, off, rfl, hbg, hrg⟩
      · exact absurd hr hne
      have HR := Lib.hid hrg; clear hrg
      have HBG := Lib.hid hbg; clear hbg
      have HA := Lib.hid ha; clear ha
      have HBLK := Lib.hid hblk; clear hblk
      have HGR := Lib.hid hgr; clear hgr
      have HNE := Lib.hid hne; clear hne
      obtain ⟨m, hm, hm64⟩ : ∃ m : Nat, (H.n : Int) % 64 = (m : Int) ∧ m < 64 := ⟨H.n % 64, by omega, by omega⟩
      have hm0 : (m : Int) ≤ 64 := by omega
      have hm1 : ¬ (64 = m) := by omega
      have hm2 : ¬ (m = 64) := by omega
      obtain ⟨k, hk, hk1, hk2, hk3⟩ : ∃ k : Nat, k = Nat.min rest.length (64 - m) ∧ k ≤ rest.length ∧ m + k ≤ 64 ∧ 0 < k := ⟨_, rfl, Nat.min_le_left _ _, by have h2 : Nat.min rest.length (64 - m) ≤ 64 - m := Nat.min_le_right _ _; omega, by
        show 0 < Nat.min rest.length (64 - m); exact Nat.lt_min.2 ⟨hpos, by omega⟩⟩
      have HKK := Lib.hid hk; clear hk
      have hkc : (k : Int) ≤ (cap' : Int) := by omega
      obtain ⟨p2, hsl, hp3⟩ : ∃ p2 : Option Addr, (if cap' = k then some (⟨b, off, none⟩ : Addr) else some ⟨b, off + k, none⟩) = p2 ∧ (∀ w2 : World, w2.rangeAt b off (bytesV rest) → Reads w2 g p2 (rest.drop k)) := by
        by_cases hck : cap' = k
        · exact ⟨some ⟨b, off, none⟩, by rw [if_pos hck], fun _ _ => Or.inl (List.drop_of_length_le (by omega))⟩
        · exact ⟨some ⟨b, off + k, none⟩, by rw [if_neg hck], fun w2 hw2 => Or.inr ⟨b, off + k, rfl, HBG.out, range_drop hw2⟩⟩
      have HP3 := Lib.hid hp3; clear hp3
      by_cases hz : (H.n + k) % 64 = 0
      · have hzb : (((H.n : Int) + (k : Int)) % 64 == 0) = true := by rw [beq_iff_eq]; omega
        have HCH : Hid (writeOf h (done ++ rest.take k) = ⟨mixOf H.s (splice H.blk m (rest.take k)), splice H.blk m (rest.take k), H.n + k⟩) := by
          have hl : (rest.take k).length = k := by rw [List.length_take]; omega
          have hmn : H.n % 64 = m := by omega
          have e := writeOf_chunk H (rest.take k) HBLK.out (fun e => by rw [e] at hl; simp at hl; omega) (by omega)
          rw [hl, if_pos hz, hmn] at e
          show _ = _
          rw [writeOf_append, HH.out, e]
        clear hz
        go_wp2_with (refine wpList_copy_hash rfl (.tmp 18) (.tmp 19) 26 26 rfl 5 Tryd.underlying26 (by kernel_rfl) g m b off rest.length cap' k H rest rfl rfl HA.out rfl HKK.out hm64 HR.out ?_; intro w1 ha1 hg1; have cn := ha1.cellN; have fn := ha1.frozen 72; have HA1 := Lib.hid ha1; have HG1 := Lib.hid hg1; clear ha1 hg1)
        refine wp_gen (fun w2 => HashAt w2 g ⟨H.s, splice H.blk m (rest.take k), H.n + k⟩ ∧ wr.grownBy w2 (some g)) ⟨?_, ?_⟩ ?_
        · have h2 := HA1.out.setN (H.n + k)
          rw [Int.natCast_add] at h2; exact h2
        · exact grown_trans HG1.out (grown_setCell _ _ _ _)
        clear cn fn HA1 HG1 w1 HA
        rintro w2 ⟨ha2, hg2⟩
        have HA2 := Lib.hid ha2; clear ha2
        have HG2 := Lib.hid hg2; clear hg2
        have HCO := Lib.hid ((HK.out.grown HGR.out HG.out).grown HG2.out HG.out)
        have HB2 := Lib.hid HA2.out.2
        generalize hB : splice H.blk m (rest.take k) = B at HA2 HCH HB2
        clear hB
        refine wp_act (fun A hA => ?_)
        have h0 : A.eval (.tmp 0) = .pointer (some ⟨g, 0, none⟩) := by rw [hA]; rfl
        have hsz : A.tmps.size = 51 := by rw [hA]; rfl
        have HAA := Lib.hid hA; clear hA
        have hf0 : ∀ w, (Instr.fieldAt 64 (.pointer (some ⟨g, 0, none⟩)) 0).run Tryd.prog w = .ok (.pointer (some ⟨g, 0, none⟩)) w := fun _ => by kernel_rfl
        have hf1 : ∀ w, (Instr.fieldAt 64 (.pointer (some ⟨g, 0, none⟩)) 1).run Tryd.prog w = .ok (.pointer (some ⟨g, 8, none⟩)) w := fun _ => by kernel_rfl
        refine wp_region_noPanic ?_
        refine wp_region_any (by kernel_rfl) ?_
        change wpAny Tryd.prog .any _ _ 13 (Array.replicate 13 false) _ w2.drew
        refine abs_ops (fun ops hops => ?_)
        obtain ⟨o0, po0, q0, d0, u0g⟩ : ∃ o, ops[0]? = some o ∧ o.op = .move (.tmp 0) ∧ o.dst = some 39 ∧ o.guard = none := ⟨_, by rw [hops]; rfl, rfl, rfl, rfl⟩
        obtain ⟨o1, po1, q1, d1, u1g⟩ : ∃ o, ops[1]? = some o ∧ o.op = .move (.tmp 0) ∧ o.dst = some 40 ∧ o.guard = none := ⟨_, by rw [hops]; rfl, rfl, rfl, rfl⟩
        obtain ⟨o2, po2, q2, d2, u2g⟩ : ∃ o, ops[2]? = some o ∧ o.op = .nilCheck (.tmp 40) ∧ o.dst = some 41 ∧ o.guard = none := ⟨_, by rw [hops]; rfl, rfl, rfl, rfl⟩
        obtain ⟨o3, po3, q3, d3, u3g⟩ : ∃ o, ops[3]? = some o ∧ o.op = .fieldAddr 64 (.tmp 41) 0 ∧ o.dst = some 42 ∧ o.guard = none := ⟨_, by rw [hops]; rfl, rfl, rfl, rfl⟩
        obtain ⟨o4, po4, q4, d4, u4g⟩ : ∃ o, ops[4]? = some o ∧ o.op = .load 35 (.tmp 42) ∧ o.dst = some 43 ∧ o.guard = none := ⟨_, by rw [hops]; rfl, rfl, rfl, rfl⟩
        obtain ⟨o5, po5, q5, d5, u5g⟩ : ∃ o, ops[5]? = some o ∧ o.op = .move (.tmp 0) ∧ o.dst = some 44 ∧ o.guard = none := ⟨_, by rw [hops]; rfl, rfl, rfl, rfl⟩
        obtain ⟨o6, po6, q6, d6, u6g⟩ : ∃ o, ops[6]? = some o ∧ o.op = .nilCheck (.tmp 44) ∧ o.dst = some 45 ∧ o.guard = none := ⟨_, by rw [hops]; rfl, rfl, rfl, rfl⟩
        obtain ⟨o7, po7, q7, d7, u7g⟩ : ∃ o, ops[7]? = some o ∧ o.op = .fieldAddr 64 (.tmp 45) 1 ∧ o.dst = some 46 ∧ o.guard = none := ⟨_, by rw [hops]; rfl, rfl, rfl, rfl⟩
        obtain ⟨o8, po8, q8, d8, u8g⟩ : ∃ o, ops[8]? = some o ∧ o.op = .load 42 (.tmp 46) ∧ o.dst = some 47 ∧ o.guard = none := ⟨_, by rw [hops]; rfl, rfl, rfl, rfl⟩
        obtain ⟨o9, po9, q9, d9, u9g⟩ : ∃ o, ops[9]? = some o ∧ o.op = .call { callee := .value (.func 48), args := #[.tmp 43, .tmp 47], argTypes := #[35, 42] } ∧ o.dst = some 48 ∧ o.guard = none := ⟨_, by rw [hops]; rfl, rfl, rfl, rfl⟩
        obtain ⟨o10, po10, q10, d10, u10g⟩ : ∃ o, ops[10]? = some o ∧ o.op = .nilCheck (.tmp 39) ∧ o.dst = some 49 ∧ o.guard = none := ⟨_, by rw [hops]; rfl, rfl, rfl, rfl⟩
        obtain ⟨o11, po11, q11, d11, u11g⟩ : ∃ o, ops[11]? = some o ∧ o.op = .fieldAddr 64 (.tmp 49) 0 ∧ o.dst = some 50 ∧ o.guard = none := ⟨_, by rw [hops]; rfl, rfl, rfl, rfl⟩
        obtain ⟨o12, po12, q12, d12, u12g⟩ : ∃ o, ops[12]? = some o ∧ o.op = .store 35 (.tmp 50) (.tmp 48) ∧ o.dst = none ∧ o.guard = none := ⟨_, by rw [hops]; rfl, rfl, rfl, rfl⟩
        have hns : Region.noSelect ops = true := by rw [hops]; kernel_rfl
        have f0 : Region.free .any ops (Array.replicate 13 false) 0 = true := by rw [hops]; kernel_rfl
        have r0 : (Region.ready .any ops (Array.replicate 13 false)).contains 0 = true := by rw [hops]; kernel_rfl
        have f1 : Region.free .any ops ((Array.replicate 13 false).setIfInBounds 0 true) 1 = true := by rw [hops]; kernel_rfl
        have r1 : (Region.ready .any ops ((Array.replicate 13 false).setIfInBounds 0 true)).contains 1 = true := by rw [hops]; kernel_rfl
        have f2 : Region.free .any ops (((Array.replicate 13 false).setIfInBounds 0 true).setIfInBounds 1 true) 2 = true := by rw [hops]; kernel_rfl
        have r2 : (Region.ready .any ops (((Array.replicate 13 false).setIfInBounds 0 true).setIfInBounds 1 true)).contains 2 = true := by rw [hops]; kernel_rfl
        have f3 : Region.free .any ops ((((Array.replicate 13 false).setIfInBounds 0 true).setIfInBounds 1 true).setIfInBounds 2 true) 3 = true := by rw [hops]; kernel_rfl
        have r3 : (Region.ready .any ops ((((Array.replicate 13 false).setIfInBounds 0 true).setIfInBounds 1 true).setIfInBounds 2 true)).contains 3 = true := by rw [hops]; kernel_rfl
        have f5 : Region.free .any ops (((((Array.replicate 13 false).setIfInBounds 0 true).setIfInBounds 1 true).setIfInBounds 2 true).setIfInBounds 3 true) 5 = true := by rw [hops]; kernel_rfl
        have r5 : (Region.ready .any ops (((((Array.replicate 13 false).setIfInBounds 0 true).setIfInBounds 1 true).setIfInBounds 2 true).setIfInBounds 3 true)).contains 5 = true := by rw [hops]; kernel_rfl
        have f6 : Region.free .any ops ((((((Array.replicate 13 false).setIfInBounds 0 true).setIfInBounds 1 true).setIfInBounds 2 true).setIfInBounds 3 true).setIfInBounds 5 true) 6 = true := by rw [hops]; kernel_rfl
        have r6 : (Region.ready .any ops ((((((Array.replicate 13 false).setIfInBounds 0 true).setIfInBounds 1 true).setIfInBounds 2 true).setIfInBounds 3 true).setIfInBounds 5 true)).contains 6 = true := by rw [hops]; kernel_rfl
        have f7 : Region.free .any ops (((((((Array.replicate 13 false).setIfInBounds 0 true).setIfInBounds 1 true).setIfInBounds 2 true).setIfInBounds 3 true).setIfInBounds 5 true).setIfInBounds 6 true) 7 = true := by rw [hops]; kernel_rfl
        have r7 : (Region.ready .any ops (((((((Array.replicate 13 false).setIfInBounds 0 true).setIfInBounds 1 true).setIfInBounds 2 true).setIfInBounds 3 true).setIfInBounds 5 true).setIfInBounds 6 true)).contains 7 = true := by rw [hops]; kernel_rfl
        have r48 : Region.ready .any ops ((((((((Array.replicate 13 false).setIfInBounds 0 true).setIfInBounds 1 true).setIfInBounds 2 true).setIfInBounds 3 true).setIfInBounds 5 true).setIfInBounds 6 true).setIfInBounds 7 true) = [4, 8] := by rw [hops]; kernel_rfl
        have r8a : Region.ready .any ops (((((((((Array.replicate 13 false).setIfInBounds 0 true).setIfInBounds 1 true).setIfInBounds 2 true).setIfInBounds 3 true).setIfInBounds 5 true).setIfInBounds 6 true).setIfInBounds 7 true).setIfInBounds 4 true) = [8] := by rw [hops]; kernel_rfl
        have r4a : Region.ready .any ops (((((((((Array.replicate 13 false).setIfInBounds 0 true).setIfInBounds 1 true).setIfInBounds 2 true).setIfInBounds 3 true).setIfInBounds 5 true).setIfInBounds 6 true).setIfInBounds 7 true).setIfInBounds 8 true) = [4] := by rw [hops]; kernel_rfl
        have hLL : ((((((((((Array.replicate 13 false).setIfInBounds 0 true).setIfInBounds 1 true).setIfInBounds 2 true).setIfInBounds 3 true).setIfInBounds 5 true).setIfInBounds 6 true).setIfInBounds 7 true).setIfInBounds 8 true).setIfInBounds 4 true) = ((((((((((Array.replicate 13 false).setIfInBounds 0 true).setIfInBounds 1 true).setIfInBounds 2 true).setIfInBounds 3 true).setIfInBounds 5 true).setIfInBounds 6 true).setIfInBounds 7 true).setIfInBounds 4 true).setIfInBounds 8 true) := by kernel_rfl
        have r9 : Region.ready .any ops ((((((((((Array.replicate 13 false).setIfInBounds 0 true).setIfInBounds 1 true).setIfInBounds 2 true).setIfInBounds 3 true).setIfInBounds 5 true).setIfInBounds 6 true).setIfInBounds 7 true).setIfInBounds 4 true).setIfInBounds 8 true) = [9] := by rw [hops]; kernel_rfl
        have r10 : Region.ready .any ops (((((((((((Array.replicate 13 false).setIfInBounds 0 true).setIfInBounds 1 true).setIfInBounds 2 true).setIfInBounds 3 true).setIfInBounds 5 true).setIfInBounds 6 true).setIfInBounds 7 true).setIfInBounds 4 true).setIfInBounds 8 true).setIfInBounds 9 true) = [10] := by rw [hops]; kernel_rfl
        have r11 : Region.ready .any ops ((((((((((((Array.replicate 13 false).setIfInBounds 0 true).setIfInBounds 1 true).setIfInBounds 2 true).setIfInBounds 3 true).setIfInBounds 5 true).setIfInBounds 6 true).setIfInBounds 7 true).setIfInBounds 4 true).setIfInBounds 8 true).setIfInBounds 9 true).setIfInBounds 10 true) = [11] := by rw [hops]; kernel_rfl
        have r12 : Region.ready .any ops (((((((((((((Array.replicate 13 false).setIfInBounds 0 true).setIfInBounds 1 true).setIfInBounds 2 true).setIfInBounds 3 true).setIfInBounds 5 true).setIfInBounds 6 true).setIfInBounds 7 true).setIfInBounds 4 true).setIfInBounds 8 true).setIfInBounds 9 true).setIfInBounds 10 true).setIfInBounds 11 true) = [12] := by rw [hops]; kernel_rfl
        have r13 : Region.ready .any ops ((((((((((((((Array.replicate 13 false).setIfInBounds 0 true).setIfInBounds 1 true).setIfInBounds 2 true).setIfInBounds 3 true).setIfInBounds 5 true).setIfInBounds 6 true).setIfInBounds 7 true).setIfInBounds 4 true).setIfInBounds 8 true).setIfInBounds 9 true).setIfInBounds 10 true).setIfInBounds 11 true).setIfInBounds 12 true) = [] := by rw [hops]; kernel_rfl
        clear hops
        refine wpAny_take (v := .pointer (some ⟨g, 0, none⟩)) po0 hns f0 r0 (fun _ _ _ h => h) (Or.inl ⟨wanted_of u0g, run_move q0 h0⟩) ?_
        rw [d0]
        refine wpAny_take (v := .pointer (some ⟨g, 0, none⟩)) po1 hns f1 r1 (fun _ _ _ h => h) (Or.inl ⟨wanted_of u1g, run_move q1 (by rw [eval_other _ 39 0 _ (by decide)]; exact h0)⟩) ?_
        rw [d1]
        refine wpAny_take (v := .pointer (some ⟨g, 0, none⟩)) po2 hns f2 r2 (fun _ _ _ h => h) (Or.inl ⟨wanted_of u2g, run_nilCheck q2 (eval_same _ _ _ (by simp only [put_size, hsz]; decide))⟩) ?_
        rw [d2]
        refine wpAny_take (v := .pointer (some ⟨g, 0, none⟩)) po3 hns f3 r3 (fun _ _ _ h => h) (Or.inl ⟨wanted_of u3g, run_field q3 hf0 (eval_same _ _ _ (by simp only [put_size, hsz]; decide))⟩) ?_
        rw [d3]
        refine wpAny_take (v := .pointer (some ⟨g, 0, none⟩)) po5 hns f5 r5 (fun _ _ _ h => h) (Or.inl ⟨wanted_of u5g, run_move q5 (by rw [eval_other _ 42 0 _ (by decide), eval_other _ 41 0 _ (by decide), eval_other _ 40 0 _ (by decide), eval_other _ 39 0 _ (by decide)]; exact h0)⟩) ?_
        rw [d5]
        refine wpAny_take (v := .pointer (some ⟨g, 0, none⟩)) po6 hns f6 r6 (fun _ _ _ h => h) (Or.inl ⟨wanted_of u6g, run_nilCheck q6 (eval_same _ _ _ (by simp only [put_size, hsz]; decide))⟩) ?_
        rw [d6]
        refine wpAny_take (v := .pointer (some ⟨g, 8, none⟩)) po7 hns f7 r7 (fun _ _ _ h => h) (Or.inl ⟨wanted_of u7g, run_field q7 hf1 (eval_same _ _ _ (by simp only [put_size, hsz]; decide))⟩) ?_
        rw [d7]
        have htail : ∀ (Qx : Exit → Act → World → Prop) (A1 : Act), A1.tmps.size = 51 → A1.eval (.tmp 43) = .agg (wordsV H.s.list).toArray → A1.eval (.tmp 47) = .agg (bytesV B).toArray → A1.eval (.tmp 39) = .pointer (some ⟨g, 0, none⟩) →
            (∀ w3 : World, HashAt w3 g ⟨mixOf H.s B, B, H.n + k⟩ → w2.grownBy w3 (some g) → Qx .normal ((((A1.put (some 48) (.agg (wordsV (mixOf H.s B).list).toArray)).put (some 49) (.pointer (some ⟨g, 0, none⟩))).put (some 50) (.pointer (some ⟨g, 0, none⟩))).put none undef) w3) →
            wpAny Tryd.prog .any ops Qx 4 ((((((((((Array.replicate 13 false).setIfInBounds 0 true).setIfInBounds 1 true).setIfInBounds 2 true).setIfInBounds 3 true).setIfInBounds 5 true).setIfInBounds 6 true).setIfInBounds 7 true).setIfInBounds 4 true).setIfInBounds 8 true) A1 w2.drew := by
          intro Qx A1 s1 e43 e47 e39 hend
          refine wpAny_one 9 r9 (wpOp_of_wp po9 u9g (wp_enter (run_call28 q9 rfl e43 e47 _) (mix_any H.s B w2.drew HB2.out HCO.out) ?_))
          intro w3 hb3
          have ha3 := HashAt.keep (w := w2.drew) HA2.out hb3
          rw [d9]
          refine wpAny_one 10 r10 (Yields.wpOp po10 (Or.inl ⟨wanted_of u10g, run_nilCheck q10 (by rw [eval_other _ 48 39 _ (by decide)]; exact e39)⟩) ?_)
          rw [d10]
          refine wpAny_one 11 r11 (Yields.wpOp po11 (Or.inl ⟨wanted_of u11g, run_field q11 hf0 (eval_same _ _ _ (by simp only [put_size, s1]; decide))⟩) ?_)
          rw [d11]
          refine wpAny_one 12 r12 (wpOp_of_wp po12 u12g (wp_store_mid 35 (.tmp 50) (.tmp 48) q12 g 0 (wordsV (mixOf H.s B).list).toArray (eval_same _ _ _ (by simp only [put_size, s1]; decide)) ?_ ?_ (info44 _) (wordsV_one _) ?_))
          · rw [eval_other _ 50 48 _ (by decide), eval_other _ 49 48 _ (by decide)]; exact eval_same _ _ _ (by rw [s1]; decide)
          · exact ha3.there 0 8 (by omega)
          · rw [d12]
            exact wpAny_done r13 (hend _ (ha3.setWords _) (grown_trans (grown_below (w := w2) ⟨hb3.os, hb3.tape, hb3.output, hb3.size, hb3.block⟩ (Nat.le_refl _) _) (grown_setCells _ _ _ _))) _
        refine wpAny_two 4 8 r48 ?_ ?_
        · refine wpOp_of_wp po4 u4g (wp_load_mid 35 (.tmp 42) q4 g 0 (by rw [eval_other _ 46 42 _ (by decide), eval_other _ 45 42 _ (by decide), eval_other _ 44 42 _ (by decide)]; exact eval_same _ _ _ (by simp only [put_size, hsz]; decide)) (wordsV H.s.list) (.array 8 25) HA2.out.words Tryd.underlying35 rfl (by rw [wordsV_length]; kernel_rfl) ?_)
          rw [d4]
          refine wpAny_one 8 r8a (wpOp_of_wp po8 u8g (wp_load_mid 42 (.tmp 46) q8 g 8 (by rw [eval_other _ 43 46 _ (by decide)]; exact eval_same _ _ _ (by simp only [put_size, hsz]; decide)) (bytesV B) (.array 64 5) HA2.out.bytes Tryd.underlying42 rfl (by rw [bytesV_length, HB2.out]; kernel_rfl) ?_))
          rw [d8]
          refine htail _ _ (by simp only [put_size, hsz]) (by rw [eval_other _ 47 43 _ (by decide)]; exact eval_same _ _ _ (by simp only [put_size, hsz]; decide)) (eval_same _ _ _ (by simp only [put_size, hsz]; decide)) ?_ ?_
          · rw [eval_other _ 47 39 _ (by decide), eval_other _ 43 39 _ (by decide), eval_other _ 46 39 _ (by decide), eval_other _ 45 39 _ (by decide), eval_other _ 44 39 _ (by decide), eval_other _ 42 39 _ (by decide), eval_other _ 41 39 _ (by decide), eval_other _ 40 39 _ (by decide)]
            exact eval_same _ _ _ (by rw [hsz]; decide)
          · intro w3 ha3 hg3
            refine NoPanic.normal ?_
            rw [HAA.out]
            have HA3 := Lib.hid ha3
            have HG3 := Lib.hid (grown_trans HG2.out hg3)
            clear ha3 hg3 htail
            go_frame
            go_wp2_with fail
            go_roundw
            case rel =>
              refine ⟨done ++ rest.take k, rest.drop k, p2, cap' - k, ?_, ?_, ?_, by omega, ?_, ?_, ?_⟩
              · rw [HB.out, List.append_assoc, List.take_append_drop]
              · rw [List.length_drop]
              · rw [List.length_drop]; omega
              · exact HP3.out _ (Reads.grown HR.out HG3.out HBG.out)
              · rw [HCH.out]; exact HA3.out
              · exact grown_trans HGR.out HG3.out
            case measure => simp; omega
        · refine wpOp_of_wp po8 u8g (wp_load_mid 42 (.tmp 46) q8 g 8 (eval_same _ _ _ (by simp only [put_size, hsz]; decide)) (bytesV B) (.array 64 5) HA2.out.bytes Tryd.underlying42 rfl (by rw [bytesV_length, HB2.out]; kernel_rfl) ?_)
          rw [d8]
          refine wpAny_one 4 r4a (wpOp_of_wp po4 u4g (wp_load_mid 35 (.tmp 42) q4 g 0 (by rw [eval_other _ 47 42 _ (by decide), eval_other _ 46 42 _ (by decide), eval_other _ 45 42 _ (by decide), eval_other _ 44 42 _ (by decide)]; exact eval_same _ _ _ (by simp only [put_size, hsz]; decide)) (wordsV H.s.list) (.array 8 25) HA2.out.words Tryd.underlying35 rfl (by rw [wordsV_length]; kernel_rfl) ?_))
          rw [d4, hLL]
          refine htail _ _ (by simp only [put_size, hsz]) (eval_same _ _ _ (by simp only [put_size, hsz]; decide)) (by rw [eval_other _ 43 47 _ (by decide)]; exact eval_same _ _ _ (by simp only [put_size, hsz]; decide)) ?_ ?_
          · rw [eval_other _ 43 39 _ (by decide), eval_other _ 47 39 _ (by decide), eval_other _ 46 39 _ (by decide), eval_other _ 45 39 _ (by decide), eval_other _ 44 39 _ (by decide), eval_other _ 42 39 _ (by decide), eval_other _ 41 39 _ (by decide), eval_other _ 40 39 _ (by decide)]
            exact eval_same _ _ _ (by rw [hsz]; decide)
          · intro w3 ha3 hg3
            refine NoPanic.normal ?_
            rw [HAA.out]
            have HA3 := Lib.hid ha3
            have HG3 := Lib.hid (grown_trans HG2.out hg3)
            clear ha3 hg3 htail
            go_frame
            go_wp2_with fail
            go_roundw
            case rel =>
              refine ⟨done ++ rest.take k, rest.drop k, p2, cap' - k, ?_, ?_, ?_, by omega, ?_, ?_, ?_⟩
              · rw [HB.out, List.append_assoc, List.take_append_drop]
              · rw [List.length_drop]
              · rw [List.length_drop]; omega
              · exact HP3.out _ (Reads.grown HR.out HG3.out HBG.out)
              · rw [HCH.out]; exact HA3.out
              · exact grown_trans HGR.out HG3.out
            case measure => simp; omega
      · have hzb : (((H.n : Int) + (k : Int)) % 64 == 0) = false := by rw [beq_eq_false_iff_ne]; omega
        have HCH : Hid (writeOf h (done ++ rest.take k) = ⟨H.s, splice H.blk m (rest.take k), H.n + k⟩) := by
          have hl : (rest.take k).length = k := by rw [List.length_take]; omega
          have hmn : H.n % 64 = m := by omega
          have e := writeOf_chunk H (rest.take k) HBLK.out (fun e => by rw [e] at hl; simp at hl; omega) (by omega)
          rw [hl, if_neg hz, hmn] at e
          show _ = _
          rw [writeOf_append, HH.out, e]
        clear hz
        go_wp2_with (refine wpList_copy_hash rfl (.tmp 18) (.tmp 19) 26 26 rfl 5 Tryd.underlying26 (by kernel_rfl) g m b off rest.length cap' k H rest rfl rfl HA.out rfl HKK.out hm64 HR.out ?_; intro w1 ha1 hg1; have cn := ha1.cellN; have fn := ha1.frozen 72; have HA1 := Lib.hid ha1; have HG1 := Lib.hid hg1; clear ha1 hg1)
        have hg3 := grown_trans HG1.out (grown_setCell w1 g 72 (.int .u64 ((H.n : Int) + (k : Int))))
        have ha3 := HA1.out.setN (H.n + k)
        rw [Int.natCast_add] at ha3
        go_roundw
        case rel =>
          refine ⟨done ++ rest.take k, rest.drop k, p2, cap' - k, ?_, ?_, ?_, by omega, ?_, ?_, ?_⟩
          · rw [HB.out, List.append_assoc, List.take_append_drop]
          · rw [List.length_drop]
          · rw [List.length_drop]; omega
          · exact HP3.out _ (Reads.grown HR.out hg3 HBG.out)
          · rw [HCH.out]; exact ha3
          · exact grown_trans HGR.out hg3
        case measure => simp; omega
end Go.Proofs.YtgfmjfpafpmghaaDoor
