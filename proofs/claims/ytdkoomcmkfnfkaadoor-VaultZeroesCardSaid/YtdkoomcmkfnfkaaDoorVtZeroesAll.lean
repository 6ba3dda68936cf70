/-
  VaultZeroes, for any keys, slot and kept number: the law returns true, and what came in reads afterwards as it read before; the package's table starts as the program's own text lays it (the tie is given).
-/
import Derived.Test.YtdkoomcmkfnfkaaDoorPkA
import Derived.Test.YtdkoomcmkfnfkaaDoorPkD
import Derived.Test.YtdkoomcmkfnfkaaDoorPkH
import Derived.Test.YtdkoomcmkfnfkaaDoorPkJ
import Derived.Test.YtdkoomcmkfnfkaaDoorTie
import Derived.Test.YtdkoomcmkfnfkaaDoorCards
import Derived.SevenTiedAt
/-
  VaultOpens: whatever bytes lie in the vault's file, a vault is opened, of the slots that they begin with; opened once more it is the same; the next key gets the next slot.
-/
namespace Go.Proofs.YtdkoomcmkfnfkaaDoor
open Go.RowKit Go.Proofs.ShaWords
theorem getVt_length {l : List SlotV} (h : ∀ s ∈ l, SlotOk s) (z : Int) : (getVt l z).1.length = 32 := by
  by_cases hz : z < 1 ∨ (l.length : Int) < z
  · rw [getVt_none hz]; exact List.length_replicate
  · obtain ⟨i, rfl⟩ : ∃ i : Nat, z = (i : Int) + 1 := ⟨(z - 1).toNat, by omega⟩
    have hi : i < l.length := by omega
    rw [getVt_at hi]
    have := h _ (List.getElem_mem hi)
    cases hs : l[i] with
    | none => exact List.length_replicate
    | some k => rw [hs] at this; exact this k rfl
theorem writeF_same (f : Nat) (b : List (BitVec 8)) (F : Nat → FileM) : (writeF f b F f).all = (F f).all ++ b := congrArg FileM.all (setF_same _ _ _)
theorem writeF_other (f : Nat) (b : List (BitVec 8)) (F : Nat → FileM) {k : Nat} (h : k ≠ f) : writeF f b F k = F k := setF_other _ _ h
theorem wpList_runVW {P : Program} {ops : Array Oper} {rest : List Oper} {o : Oper} {a : Act} {w w' : World} {Q : Exit → Act → World → Prop} {v : Value} (hw : Region.wanted o (yielded ops a.tmps) = true) (hr : (execOp a.eval o).run P w = .ok (.value v) w')
    (h : wpList P ops Q rest (a.put o.dst v) w') : wpList P ops Q (o :: rest) a w := by
  unfold wpList
  rw [if_pos hw]
  refine .inl ?_
  unfold Oper.wp
  rw [hr, Oper.upon_value]
  exact h
def keysV (l : List SlotV) (n : Nat) : List Value := (List.range n).flatMap fun z : Nat => bytesV (getVt l (z : Int)).1
def codesV (l : List SlotV) (n : Nat) : List Value := (List.range n).map fun z : Nat => .int .i64 (getVt l (z : Int)).2
theorem keysV_succ (l : List SlotV) (n : Nat) : keysV l (n + 1) = keysV l n ++ bytesV (getVt l (n : Int)).1 := by
  unfold keysV
  rw [List.range_succ, List.flatMap_append, List.flatMap_cons, List.flatMap_nil, List.append_nil]
theorem codesV_succ (l : List SlotV) (n : Nat) : codesV l (n + 1) = codesV l n ++ [.int .i64 (getVt l (n : Int)).2] := by
  unfold codesV
  rw [List.range_succ, List.map_append]; rfl
theorem keysV_at {l : List SlotV} (h : ∀ s ∈ l, SlotOk s) {n i : Nat} (hi : i < n) {j : Nat} (hj : j < 32) : (keysV l n)[i * 32 + j]? = (bytesV (getVt l (i : Int)).1)[j]? := by
  unfold keysV
  rw [flat_at (fun z : Nat => bytesV (getVt l (z : Int)).1) 32 (List.range n) i j (fun s _ => by rw [bytesV_length]; exact getVt_length h _) (by simpa using hi) hj]
  rw [List.getElem_range]
theorem codesV_at (l : List SlotV) {n i : Nat} (hi : i < n) : (codesV l n)[i]? = some (.int .i64 (getVt l (i : Int)).2) := by
  unfold codesV
  rw [List.getElem?_map, List.getElem?_range hi]; rfl
section
variable {ρ : Operand → Value} {o : Oper} {x y : Operand}
theorem run_ixKeyV {b n c i : Nat} (ho : o.op = .indexAddr 47 x y) (hx : ρ x = .slice (some ⟨b, 0, none⟩) n c) (hy : ρ y = .int .i64 (i : Int)) (hi : i < n) (w : World) : (execOp ρ o).run Tryd.prog w = .ok (.value (.pointer (some ⟨b, i * 32, none⟩))) w := by
  obtain ⟨dst, op, ty', pos, after, guard⟩ := o
  simp only at ho
  subst ho
  have q : (i : Int) < (n : Int) := by omega
  go_simp
theorem run_ixErrV {b n c i : Nat} (ho : o.op = .indexAddr 58 x y) (hx : ρ x = .slice (some ⟨b, 0, none⟩) n c) (hy : ρ y = .int .i64 (i : Int)) (hi : i < n) (w : World) : (execOp ρ o).run Tryd.prog w = .ok (.value (.pointer (some ⟨b, i, none⟩))) w := by
  obtain ⟨dst, op, ty', pos, after, guard⟩ := o
  simp only at ho
  subst ho
  have q : (i : Int) < (n : Int) := by omega
  go_simp
theorem run_loadErrV {a : Addr} {n : Int} (ho : o.op = .load 43 x) (hx : ρ x = .pointer (some a)) {w : World} (hc : w.cell? a = some (.int .i64 n)) : (execOp ρ o).run Tryd.prog w = .ok (.value (.int .i64 n)) w := by
  obtain ⟨dst, op, ty', pos, after, guard⟩ := o
  simp only at ho
  subst ho
  go_simp
theorem run_oneErr {z : Int} (ho : o.op = .buildSlice 58 1 #[(0, x)]) (hx : ρ x = .int .i64 z) (w : World) : (execOp ρ o).run Tryd.prog w = .ok (.value (.slice (some ⟨w.heap.size, 0, none⟩) 1 1)) (w.alloc (.cells #[.int .i64 z] 43)) := by
  obtain ⟨dst, op, ty', pos, after, guard⟩ := o
  simp only at ho
  subst ho
  go_simp
theorem run_toPV {p : Option Addr} {N c M : Nat} (hp : 0 < c → ∃ b off, p = some ⟨b, off, none⟩) (hM : M ≤ c) (ho : o.op = .slice 37 x none (some y) none) (hx : ρ x = .slice p N c) (hy : ρ y = .int .i64 (M : Int)) (w : World) : (execOp ρ o).run Tryd.prog w = .ok (.value (.slice p M c)) w := by
  by_cases h0 : c = 0
  · subst h0
    obtain rfl : M = 0 := by omega
    obtain ⟨dst, op, ty', pos, after, guard⟩ := o
    simp only at ho
    subst ho
    cases p with
    | none => go_simp
    | some a => go_simp
  · obtain ⟨b, off, rfl⟩ := hp (by omega)
    exact run_sliceToV ho hx hy hM w
theorem run_neKeyT {l m : List (BitVec 8)} {ty : TypeId} (ho : o.op = .binOp .neq 36 x y ty) (hl : l.length = 32) (hm : m.length = 32) (hx : ρ x = .agg (bytesV l).toArray) (hy : ρ y = .agg (bytesV m).toArray) (w : World) :
    (execOp ρ o).run Tryd.prog w = .ok (.value (.bool (!decide (l = m)))) w := by
  have h := (run_neq_struct (P := Tryd.prog) (w := w) 36 (bytesV l).toArray (bytesV m).toArray)
  have h2 := run_equalIn_bytes (P := Tryd.prog) w 9998 36 5 32 Tryd.underlying36 Tryd.underlying5 (fun w => by kernel_rfl) (l.map UInt8.ofBitVec) (m.map UInt8.ofBitVec) (by simpa using hl) (by simpa using hm)
  rw [← bytesV_cell, ← bytesV_cell] at h2
  have e : (l.map UInt8.ofBitVec == m.map UInt8.ofBitVec) = decide (l = m) := by
    rw [Bool.eq_iff_iff]
    simp only [beq_iff_eq, decide_eq_true_eq]
    exact List.map_inj_right (fun a b e => by simpa using congrArg UInt8.toBitVec e)
  rw [e] at h2
  rw [h2] at h
  simp only [Result.andThen_ok] at h
  have hg : Tryd.prog.eqGuardType Tryd.prog.depth 36 = false := by kernel_rfl
  unfold execOp
  simp only [ho, hx, hy, Sem.run_bind, run_eqGuard_agg w .neq 36 x y _ _ hg, Result.andThen_ok, h, Sem.run_pure]
theorem run_neKeyS {l : List (BitVec 8)} {ty : TypeId} (ho : o.op = .binOp .neq 36 x y ty) (hl : l.length = 32) (hx : ρ x = .agg (bytesV l).toArray) (hy : ρ y = .agg (bytesV l).toArray) (w : World) : (execOp ρ o).run Tryd.prog w = .ok (.value (.bool false)) w := by
  have h := run_neKeyT ho hl hl hx hy w
  rwa [decide_eq_true rfl] at h
theorem run_neErrS {n : Int} {ty : TypeId} (ho : o.op = .binOp .neq 43 x y ty) (hx : ρ x = .int .i64 n) (hy : ρ y = .int .i64 n) (w : World) : (execOp ρ o).run Tryd.prog w = .ok (.value (.bool false)) w := by
  obtain ⟨dst, op, ty', pos, after, guard⟩ := o
  simp only at ho
  subst ho
  go_simp
end
/-- Amid the first loop: what was told is laid in two rows. -/
structure OpnR (lo : Nat) (w0 : World) (v g : Nat) (d : DiskM) (l : List SlotV) (L0 : List (Nat × Obj)) (i : Nat) (kv cv : Value) (LK LC : List (Nat × Obj)) (A : World) : Prop where
  vt : VtL lo A v g d l false (LK ++ (LC ++ L0))
  keys : RowK lo LK 36 32 kv i (keysV l i)
  codes : RowK lo LC 43 1 cv i (codesV l i)
  ap1 : ∀ x ∈ LC ++ L0, kv.ownBlock ≠ some x.1
  ap2 : ∀ x ∈ L0, cv.ownBlock ≠ some x.1
  below : Below lo w0 A
theorem liesB {B : Nat} {w w' : World} {p : Option Addr} {bs : List (BitVec 8)} (h : Lies w p bs) (hb : Below B w w') (hB : w.heap.size ≤ B) : Lies w' p bs := h.below ⟨hb.os, hb.tape, hb.output, hb.size, fun k hk => hb.block k (by omega)⟩
def OpS (bk bc T i : Nat) (kz : List (BitVec 8)) (ez : Int) (w : World) : Prop := w.rangeAt bk (i * 32) (bytesV kz) ∧ BytesAt w T 36 kz ∧ w.cell? ⟨bc, i, none⟩ = some (.int .i64 ez)
/-- One error more. -/
theorem opn_push {lo v g n n' i : Nat} {w w' : World} {d : DiskM} {l : List SlotV} {dead : Bool} {L0 LK LC : List (Nat × Obj)} {kv cv cv' : Value} {xs ys ys' : List Value} {tk tc : TypeId} {Nk Nc : Nat} (hV : VtL lo w v g d l dead (LK ++ (LC ++ L0))) (hK : RowK lo LK tk Nk kv n xs) (hC : RowK lo LC tc Nc cv i ys)
    (a1 : ∀ x ∈ LC ++ L0, kv.ownBlock ≠ some x.1) (a2 : ∀ x ∈ L0, cv.ownBlock ≠ some x.1) (hrow : w'.ownsRow lo tc Nc cv' n' ys') (hg : w.grownBy w' cv.ownBlock) (hb : cv'.ownBlock = cv.ownBlock ∨ cv'.ownBlock = some w.heap.size) :
    ∃ LC', VtL lo w' v g d l dead (LK ++ (LC' ++ L0)) ∧ RowK lo LC' tc Nc cv' n' ys' ∧ (∀ x ∈ LC' ++ L0, kv.ownBlock ≠ some x.1) ∧ ∀ x ∈ L0, cv'.ownBlock ≠ some x.1 := by
  have h2 : ∀ x ∈ LK ++ L0, x ∈ LK ++ (LC ++ L0) ∧ cv.ownBlock ≠ some x.1 := fun x hx => by
    rcases List.mem_append.1 hx with hx | hx
    · refine ⟨List.mem_append_left _ hx, fun e => ?_⟩
      obtain ⟨o, ho⟩ := hC.whole _ e
      exact a1 _ (List.mem_append_left _ ho) (hK.on x hx)
    · exact ⟨List.mem_append_right _ (List.mem_append_right _ hx), a2 x hx⟩
  obtain ⟨LC', k1, k2, k3⟩ := hC.append hV (fun x hx => List.mem_append_right _ (List.mem_append_left _ hx)) h2 hrow hg hb
  refine ⟨LC', k2.fewer (fun x hx => ?_), k1, fun x hx e => ?_, fun x hx => k3 x (List.mem_append_right _ hx)⟩
  · rcases List.mem_append.1 hx with hx | hx
    · exact List.mem_append_right _ (List.mem_append_left _ hx)
    · rcases List.mem_append.1 hx with hx | hx
      · exact List.mem_append_left _ hx
      · exact List.mem_append_right _ (List.mem_append_right _ hx)
  · rcases List.mem_append.1 hx with hx | hx
    · obtain ⟨o, ho⟩ := hK.whole _ e
      exact k3 _ (List.mem_append_left _ ho) (k1.on x hx)
    · exact a1 x (List.mem_append_right _ hx) e
set_option maxRecDepth 1000000 in
set_option maxHeartbeats 4000000 in
theorem vtOpens_any (bs kk : List (BitVec 8)) (N c : Nat) (p : Option Addr) (w : World) (hN : bs.length = N) (hNc : N ≤ c) (hpc : 0 < c → ∃ b off, p = some ⟨b, off, none⟩) (hL : Lies w p bs) (hk : kk.length = 32) (hR : Rem w) :
    Calls Tryd.prog 5 #[.slice p N c, .agg (bytesV kk).toArray] w fun e w' => e = .returned (.bool true) ∧ Below w.heap.size w w' := by
  have HN := Lib.hid hN
  have HNC := Lib.hid (And.intro hNc trivial)
  have HPC := Lib.hid hpc
  have HL := Lib.hid hL
  have HK := Lib.hid hk
  have HR := Lib.hid hR
  have HG := Lib.hid hR.size
  clear hN hNc hpc hL hk hR
  go_enter Tryd.func5, Tryd.ntmps5
  go_upto_region 1 with (fail)
  refine wp_gen (fun A => BytesAt A w.heap.size 36 kk ∧ Below w.heap.size w A) ⟨heap_new_at rfl, (Below.refl _ _).alloc (Nat.le_refl _) _⟩ ?_
  rintro A ⟨hKA, hBA⟩
  have HKA := Lib.hid hKA
  have HBA := Lib.hid hBA
  have HGA : Hid (0 < A.heap.size) := show _ < _ by have := HG.out; have := hBA.size; omega
  clear hKA hBA
  go_wp2_with (go_at_call 7; fail)
  refine (dkNewL 262144 A).mono ?_
  rintro e w1 ⟨g, rfl, hi, hb⟩
  have HI1 := Lib.hid hi; have HB1 := Lib.hid hb; clear hi hb
  have HW1 := Lib.hid (HBA.out.trans (HB1.out.mono HBA.out.size))
  by_cases hbig : 4096 < N
  · have q0 : (4096 : Int) < (N : Int) := by omega
    clear hbig
    go_wp2_with (go_at_call 10; refine (works11_any w1 (HR.out.on HW1.out)).mono ?_; rintro e w2 ⟨rfl, hb⟩; have HB2 := Lib.hid (HW1.out.trans (hb.mono HW1.out.size)); clear hb)
    go_ret
    exact ⟨rfl, HB2.out⟩
  · have q0 : ¬ (4096 : Int) < (N : Int) := by omega
    have HNS : Hid (N ≤ 4096 ∧ True) := show _ ∧ _ from ⟨by omega, trivial⟩
    have hwr : (DiskM.new 262144).write 0 bs = ({ DiskM.new 262144 with files := writeF (0 : Int).toNat bs (DiskM.new 262144).files, count := (DiskM.new 262144).count + 1 }, 0) := (calm_new 262144).write (by omega) bs (by
      have h1 : (DiskM.new 262144).used = 0 := (vtCalm_new 262144).used
      have h2 : (DiskM.new 262144).room = 262144 := rfl
      rw [h1, h2, HN.out]; omega)
    obtain ⟨d1, hd1⟩ : ∃ d1, ({ DiskM.new 262144 with files := writeF (0 : Int).toNat bs (DiskM.new 262144).files, count := (DiskM.new 262144).count + 1 } : DiskM) = d1 := ⟨_, rfl⟩
    rw [hd1] at hwr
    have hf1 : (d1.files 0).all = bs := by rw [← hd1]; exact writeF_same _ _ _
    have ho1 : ∀ f, f ≠ 0 → (d1.files f).all = [] := fun f hf => by rw [← hd1]; exact (congrArg FileM.all (writeF_other _ _ _ hf)).trans rfl
    have hc1 : d1.Calm := by rw [← hd1]; exact ⟨rfl, rfl⟩
    have hn1 : d1.count = 1 := by rw [← hd1]; rfl
    have hr1 : d1.room = 262144 := by rw [← hd1]; rfl
    have hk1 : d1.Ok := by have := DiskM.write_ok (DiskM.new_ok 262144) 0 bs; rw [hwr] at this; exact this
    obtain ⟨l, r, hV⟩ := vt_ex (d1.files 0).all
    obtain ⟨he2, hO2⟩ := openVt_calm hc1 hk1 hV
    obtain ⟨d2, hd2⟩ : ∃ d2, (openVt d1 l r).1 = d2 := ⟨_, rfl⟩
    rw [hd2] at hO2
    have hC2 : VtCalm d2 l 262144 d2.count := ⟨hO2.ok, hO2.calm, hO2.room.trans hr1, hO2.file, hO2.dur, fun f hf => by rw [hO2.others f hf]; exact ho1 f hf, hV.ok, hV.le, rfl⟩
    have hn2 : d2.count ≤ 2 := by
      rw [← hd2]
      unfold openVt
      split
      · have := cut_count d1 0 ((40 * l.length : Nat) : Int); omega
      · split
        · have := sync_count d1 0; omega
        · show d1.count ≤ 2; omega
    have hbt : bs.take (40 * l.length) = slotsB l := by rw [← hf1]; exact hV.take
    have HWR := Lib.hid hwr
    have HC1 := Lib.hid (And.intro hc1 hn1)
    have HV := Lib.hid hV
    have HD2 := Lib.hid hd2
    have HC2 := Lib.hid hC2
    have HN2 := Lib.hid (And.intro hn2 trivial)
    have HBT := Lib.hid hbt
    have HLL : Hid (l.length ≤ 64 ∧ 40 * l.length ≤ N) := show _ ∧ _ from ⟨hV.le, by have := hV.length; rw [hf1, HN.out] at this; omega⟩
    clear hbig hwr hd1 hf1 ho1 hc1 hn1 hr1 hk1 hV he2 hO2 hd2 hC2 hn2 hbt
    go_wp2_with (go_at_call 30; fail)
    have hcall := HI1.out.go (d' := d1) (v := .returned (.int .i64 0)) HB1.out.size (fun S h => by
      have := dkWrite_any S g (DiskM.new 262144) 0 bs N c p w1 h (by decide) HN.out (by have := HNS.out.1; omega) (HL.out.below HW1.out)
      rwa [HWR.out] at this)
    refine hcall.mono ?_
    rintro e w2 ⟨rfl, hi, hb⟩
    have HI2 := Lib.hid hi
    have HB2 := Lib.hid (HB1.out.trans hb)
    clear hcall hi hb HI1 HB1 HW1
    go_wp2_with (go_at_call 24; fail)
    refine (HI2.out.openVC HB2.out.size HGA.out (HR.out.on (HBA.out.trans (HB2.out.mono HBA.out.size))) HC1.out.1 (by have := HC1.out.2; omega) HV.out).mono ?_
    rintro e w3 ⟨v, rfl, -, hv, hb⟩
    rw [HD2.out] at hv
    have HV3 := Lib.hid hv
    have HB3 := Lib.hid (HB2.out.trans hb)
    clear hv hb HI2 HB2
    obtain ⟨M, hM⟩ : ∃ M, 40 * l.length = M := ⟨_, rfl⟩
    have hrd : d2.read 0 = slotsB l := by
      have := HC2.out.file
      unfold DiskM.read
      rw [if_pos (by omega)]; exact this
    have hsl : (slotsB l).length = M := by rw [slotsB_length HC2.out.slots, hM]
    have HRD := Lib.hid hrd
    have HSL := Lib.hid hsl
    have HM := Lib.hid hM
    clear hrd hsl
    go_wp2_with (go_at_call 15; fail)
    refine (HV3.out.disk.read 0).mono ?_
    rintro e w4 ⟨sv, rfl, ho, hb⟩
    rw [HRD.out] at ho
    have ho' := ho.lower HB3.out.size
    obtain ⟨q, cq, rfl, -, -, -⟩ := ho.slP HSL.out
    obtain ⟨L0, hK0, hL0⟩ := rowK_of (show w4.ownsRow w3.heap.size 5 1 (.slice q M cq) (slotsB l).length (bytesV (slotsB l)) from ho)
    have hV4 := HV3.out.add hb (L' := L0) hL0
    rw [List.append_nil] at hV4
    have HK0 : Hid (RowK A.heap.size L0 5 1 (.slice q M cq) (slotsB l).length (bytesV (slotsB l))) := show RowK _ _ _ _ _ _ _ from ⟨hK0.on, hK0.whole, fun w' hw => (show Own _ w' (slotsB l) _ from hK0.row w' hw).lower HB3.out.size⟩
    have HV4 := Lib.hid hV4
    have HB4 := Lib.hid (HB3.out.trans (hb.mono HB3.out.size))
    clear ho ho' hb hK0 hL0 hV4 HV3 HB3
    go_wp2_with (go_at_call 29; fail)
    refine HV4.out.len.mono ?_
    rintro e w5 ⟨rfl, rfl⟩
    have H0 : Hid (OpnR A.heap.size A v g d2 l L0 0 (.slice none 0 0) (.slice none 0 0) [] [] w5) := show OpnR _ _ _ _ _ _ _ _ _ _ _ _ _ from ⟨HV4.out, RowK.nil _ _ _, RowK.nil _ _ _, (fun x _ e => by cases e), (fun x _ e => by cases e), HB4.out⟩
    clear HV4 HB4
    obtain ⟨n, hn⟩ : ∃ n, l.length = n := ⟨_, rfl⟩
    have hn64 : n ≤ 64 := by rw [← hn]; exact HLL.out.1
    rw [hn]
    have HLN := Lib.hid hn
    clear hn
    go_wp2_with fail
    go_loopw [10, 11, 12] (fun s10 s11 s12 wr => ∃ (i : Nat) (LK LC : List (Nat × Obj)), i ≤ n + 2 ∧ s12 = .int .i64 (i : Int) ∧ OpnR A.heap.size A v g d2 l L0 i s10 s11 LK LC wr) (fun _ _ s12 _ => n + 2 - (intOf s12).toNat)
    case atStart => exact ⟨0, [], [], by omega, rfl, H0.out⟩
    case round =>
      clear H0
      obtain ⟨i, LK, LC, hi, rfl, hI⟩ := hrel
      have HI := Lib.hid hI
      by_cases hlt : i < n + 2
      · have q1 : (i : Int) ≤ (n : Int) + 1 := by omega
        have hkl := getVt_length hI.vt.slots (i : Int)
        have hks := keysV_succ l i
        have hcs := codesV_succ l i
        have hgv : gvV l (i : Int) = .tuple #[.agg (bytesV (getVt l (i : Int)).1).toArray, .int .i64 (getVt l (i : Int)).2] := rfl
        generalize (getVt l (i : Int)).1 = kz at hkl hks hgv
        generalize (getVt l (i : Int)).2 = ez at hcs hgv
        have HKL := Lib.hid hkl
        have HKS := Lib.hid hks
        have HCS := Lib.hid hcs
        have HGV := Lib.hid hgv
        have HIK := Lib.hid (infoKey kz hkl)
        have HZS : Hid ((bytesV (noughts 32)).toArray.size = (bytesV kz).toArray.size) := show _ = _ by rw [bytesV_size _ 32 (noughts_length 32), bytesV_size _ 32 hkl]
        clear hI hkl hks hcs hgv
        go_wp2_with (go_at_call 22; fail)
        refine (HI.out.vt.get (i : Int)).mono ?_
        rintro e w6 ⟨rfl, hb⟩
        rw [HGV.out]
        have HV6 := Lib.hid (HI.out.vt.below hb)
        have HB6 := Lib.hid (HI.out.below.trans (hb.mono HI.out.below.size))
        clear hb
        go_upto_region 16 with (show wpList _ _ _ (⟨_, .store 36 _ _, _, _, _, _⟩ :: _) _ _; go_loud (refine wpList_store_new rfl 36 (.tmp 13) (.tmp 56) rfl w6.heap.size rfl (bytesV kz).toArray rfl rfl HIK.out (by exact HZS.out) (keyV_ones _) ?_; intro w7 h7 b7; have HT7 := Lib.hid (show BytesAt w7 w6.heap.size 36 kz from h7); have HV7 := Lib.hid (HV6.out.below b7); have HB7 := Lib.hid (HB6.out.trans (b7.mono HB6.out.size)); clear h7 b7))
        have HSK : Hid ((bytesV kz).toArray.size = 32) := show _ = _ from bytesV_size _ 32 HKL.out
        have HI60 : Hid (i ≤ 1000000 ∧ True) := show _ ∧ _ from ⟨by omega, trivial⟩
        go_upto_region 17 with (first
          | (show wpList _ _ _ (⟨_, .load 36 _, _, _, _, _⟩ :: _) _ _; refine wpList_runV (by rfl) (run_loadKeyB (x := .tmp 13) rfl rfl HKL.out HT7.out) ?_)
          | (show wpList _ _ _ (⟨_, .buildSlice _ _ _, _, _, _, _⟩ :: _) _ _; go_loud (refine wpList_runVW (by rfl) (keyT.run_one (x := .tmp 59) rfl rfl HSK.out w7) ?_; have hb8 : Below w7.heap.size w7 (w7.alloc (.cells (bytesV kz).toArray 36)) := (Below.refl _ _).alloc (Nat.le_refl _) _; have HC8 : Hid ((w7.alloc (.cells (bytesV kz).toArray 36)).heap[w7.heap.size]? = some (.cells (bytesV kz).toArray 36 (0, 0))) := show _ = _ from heap_new_at rfl; have HV8 := Lib.hid (HV7.out.below hb8); have HB8 := Lib.hid (HB7.out.trans (hb8.mono HB7.out.size)); clear hb8; generalize w7.alloc (.cells (bytesV kz).toArray 36) = w8 at HC8 HV8 HB8 ⊢))
          | (at_builtin; go_loud (refine keyT.wpList_append (by rfl) (s := .tmp 58) (x := .tmp 60) rfl rfl (HI.out.keys.own HV8.out (fun x hx => List.mem_append_left _ hx)) rfl HC8.out HSK.out (fun u hu => bytesV_mem hu) HI60.out.1 HB8.out.size ?_; intro v9 w9 hrow9 hg9 hat9; rw [show keysV l i ++ (bytesV kz).toArray.toList = keysV l (i + 1) from HKS.out.symm] at hrow9; obtain ⟨LK9, hK9, hV9, ha9⟩ := RowK.append HI.out.keys HV8.out (fun x hx => List.mem_append_left _ hx) (fun x hx => ⟨List.mem_append_right _ hx, HI.out.ap1 x hx⟩) hrow9 hg9 hat9; have HK9 := Lib.hid hK9; have HV9 := Lib.hid hV9; have HA9 := Lib.hid ha9; have HB9 : Hid (Below A.heap.size A w9) := show Below _ _ _ from HB8.out.trans (grown_stays (F := fun k => A.heap.size ≤ k) hg9 (fun k e => (World.ownsRow.lt (HI.out.keys.own HV8.out (fun x hx => List.mem_append_left _ hx)) k e).1) |>.below (fun k h => h) HB8.out.size); clear hrow9 hg9 hat9 hK9 hV9 ha9)))
        clear HV7 HB7 HV6 HB6 HV8 HB8 HC8 HT7 HGV HKS
        go_wp2_with (first
          | (show wpList _ _ _ (⟨_, .buildSlice _ _ _, _, _, _, _⟩ :: _) _ _; go_loud (refine wpList_runVW (by rfl) (run_oneErr (x := .tmp 63) (z := ez) rfl rfl w9) ?_; have hb10 : Below w9.heap.size w9 (w9.alloc (.cells #[.int .i64 ez] 43)) := (Below.refl _ _).alloc (Nat.le_refl _) _; have HC10 : Hid ((w9.alloc (.cells #[.int .i64 ez] 43)).heap[w9.heap.size]? = some (.cells #[.int .i64 ez] 43 (0, 0))) := show _ = _ from heap_new_at rfl; have HV10 := Lib.hid (HV9.out.below hb10); have HB10 := Lib.hid (HB9.out.trans (hb10.mono HB9.out.size)); clear hb10; generalize w9.alloc (.cells #[.int .i64 ez] 43) = w10 at HC10 HV10 HB10 ⊢))
          | (at_builtin; go_loud (refine errT.wpList_append (by rfl) (s := .tmp 62) (x := .tmp 64) rfl rfl (HI.out.codes.own HV10.out (fun x hx => List.mem_append_right _ (List.mem_append_left _ hx))) rfl HC10.out rfl (fun u hu => by simp at hu; rw [hu]; rfl) HI60.out.1 HB10.out.size ?_; intro v11 w11 hrow11 hg11 hat11; rw [show codesV l i ++ (#[.int .i64 ez] : Array Value).toList = codesV l (i + 1) from HCS.out.symm] at hrow11; have hb11 : Below A.heap.size A w11 := HB10.out.trans (grown_stays (F := fun k => A.heap.size ≤ k) hg11 (fun k e => (World.ownsRow.lt (HI.out.codes.own HV10.out (fun x hx => List.mem_append_right _ (List.mem_append_left _ hx))) k e).1) |>.below (fun k h => h) HB10.out.size); obtain ⟨LC11, hV11, hC11, ha1, ha2⟩ := opn_push HV10.out HK9.out HI.out.codes HA9.out HI.out.ap2 hrow11 hg11 hat11; have HO11 : Hid (OpnR A.heap.size A v g d2 l L0 (i + 1) v9 v11 LK9 LC11 w11) := show OpnR _ _ _ _ _ _ _ _ _ _ _ _ _ from ⟨hV11, HK9.out, hC11, ha1, ha2, hb11⟩; clear hrow11 hg11 hat11 hb11 hV11 hC11 ha1 ha2)))
        go_roundw
        case rel => exact ⟨i + 1, LK9, LC11, by omega, by go_num, HO11.out⟩
        case measure => simp [intOf]; omega
      · obtain rfl : i = n + 2 := by omega
        have q1 : ¬ ((n + 2 : Nat) : Int) ≤ (n : Int) + 1 := by omega
        clear hlt hi
        have hsl := HK0.out
        obtain ⟨hq1, hq2⟩ : Lies wr q (slotsB l) ∧ True := ⟨by
          have ho : Own A.heap.size wr (slotsB l) (.slice q M cq) := HK0.out.row wr (fun x hx => hI.vt.all x (List.mem_append_right _ (List.mem_append_right _ hx)))
          obtain ⟨_, _, e, -, -, hl⟩ := ho.slP HSL.out
          cases e
          exact hl, trivial⟩
        have HQ := Lib.hid hq1
        clear hsl hq1 hq2 hI
        have hmm : (n : Int) * 40 = (M : Int) := by have := HM.out; have := HLN.out; omega
        have hmm2 : 40 * (n : Int) = (M : Int) := by omega
        have hMN : (M : Int) ≤ (N : Int) := by have := HLL.out.2; have := HM.out; omega
        have hn65 : (n : Int) ≤ 64 := by omega
        have HMC : Hid (M ≤ c ∧ True) := show _ ∧ _ from ⟨by have := HNC.out.1; omega, trivial⟩
        have HBTM : Hid (bs.take M = slotsB l) := show _ = _ by rw [← HM.out]; exact HBT.out
        have HTL : Hid ((bs.take M).length = M) := show _ = _ by rw [HBTM.out]; exact HSL.out
        have HLT : Hid (Lies wr p (bs.take M)) := show Lies _ _ _ from lies_takeB (liesB (HL.out.below HBA.out) HI.out.below (Nat.le_refl _)) M
        have HSM : Hid (M < 1000000 ∧ True) := show _ ∧ _ from ⟨by have := HNS.out.1; omega, trivial⟩
        clear hmm
        have hMc := HMC.out.1
        have hMc2 : (M : Int) ≤ (c : Int) := by omega
        go_wp2_with (go_at_call 14; fail)
        refine (sameBytes_any (slotsB l) (bs.take M) M M q p cq c wr HSL.out HTL.out HSM.out.1 HSM.out.1 HQ.out HLT.out).mono ?_
        rintro e w6 ⟨rfl, hb⟩
        have HDE : Hid (decide (slotsB l = bs.take M) = true) := show _ = _ from decide_eq_true HBTM.out.symm
        rw [HDE.out]
        have HV6 := Lib.hid (HI.out.vt.below hb)
        have HB6 := Lib.hid (HI.out.below.trans (hb.mono HI.out.below.size))
        have HKR := Lib.hid HI.out.keys
        have HCR := Lib.hid HI.out.codes
        obtain ⟨he3, n3, hC3, hn3⟩ := HC2.out.open
        obtain ⟨d3, hd3⟩ : ∃ d3, (openVt d2 l []).1 = d3 := ⟨_, rfl⟩
        rw [hd3] at hC3
        have HC3 := Lib.hid hC3
        have HN3 := Lib.hid (And.intro hn3 trivial)
        have HD3 := Lib.hid hd3
        clear hb HI HDE he3 hC3 hn3 hd3 hMc hMc2 hmm2 hMN hn65 HLT
        go_wp2_with (go_at_call 24; fail)
        refine (HV6.out.disk.openVC HB6.out.size HGA.out (HR.out.on (HBA.out.trans (HB6.out.mono HBA.out.size))) HC2.out.calm (by have := HN2.out.1; omega) HC2.out.of).mono ?_
        rintro e w7 ⟨v2, rfl, -, hv, hb⟩
        rw [HD3.out] at hv
        have HV7 := Lib.hid (hv.fewer (L' := LK ++ (LC ++ L0)) (fun x hx => List.mem_cons_of_mem _ hx))
        have HB7 := Lib.hid (HB6.out.trans hb)
        have hrd3 : d3.read 0 = slotsB l := by
          have := HC3.out.file
          unfold DiskM.read
          rw [if_pos (by omega)]; exact this
        have HRD3 := Lib.hid hrd3
        clear hv hb HV6 HB6 hrd3
        have hnn : ((n : Int) == (n : Int)) = true := by simp
        go_wp2_with (first
          | (go_at_call 29; go_loud (refine HV7.out.len.mono ?_; rintro e w8 ⟨rfl, rfl⟩; rw [HLN.out]))
          | (go_at_call 15; fail))
        refine (HV7.out.disk.read 0).mono ?_
        rintro e w9 ⟨sv, rfl, ho, hb⟩
        rw [HRD3.out] at ho
        obtain ⟨q2, cq2, rfl, -, -, hl2⟩ := ho.slP HSL.out
        have HQ2 := Lib.hid hl2
        have HV9 := Lib.hid (HV7.out.below hb)
        have HB9 := Lib.hid (HB7.out.trans (hb.mono HB7.out.size))
        have hlq : Lies w9 q (slotsB l) := by
          have ho : Own A.heap.size w9 (slotsB l) (.slice q M cq) := HK0.out.row w9 (fun x hx => HV9.out.all x (List.mem_append_right _ (List.mem_append_right _ hx)))
          obtain ⟨_, _, e, -, -, hl⟩ := ho.slP HSL.out
          cases e
          exact hl
        have HLQ := Lib.hid hlq
        clear ho hb hl2 hlq HV7 HB7
        go_wp2_with (go_at_call 14; fail)
        refine (sameBytes_any (slotsB l) (slotsB l) M M q2 q cq2 cq w9 HSL.out HSL.out HSM.out.1 HSM.out.1 HQ2.out HLQ.out).mono ?_
        rintro e w10 ⟨rfl, hb⟩
        have HDE : Hid (decide (slotsB l = slotsB l) = true) := show _ = _ from decide_eq_true rfl
        rw [HDE.out]
        have HV10 := Lib.hid (HV9.out.below hb)
        have HB10 := Lib.hid (HB9.out.trans (hb.mono HB9.out.size))
        clear hb HV9 HB9 HDE HQ2 HLQ
        go_wp2_with fail
        go_loopw [16] (fun s16 wr => ∃ i : Nat, i ≤ n + 2 ∧ s16 = .int .i64 (i : Int) ∧ VtL A.heap.size wr v2 g d3 l false (LK ++ (LC ++ L0)) ∧ Below A.heap.size A wr) (fun s16 _ => n + 2 - (intOf s16).toNat)
        case atStart => exact ⟨0, by omega, rfl, HV10.out, HB10.out⟩
        case round =>
          clear HV10 HB10
          obtain ⟨i, hi, rfl, hv, hb⟩ := hrel
          have HVR := Lib.hid hv
          have HBR := Lib.hid hb
          by_cases hlt : i < n + 2
          · have q1 : (i : Int) ≤ (n : Int) + 1 := by omega
            have HLT := Lib.hid (And.intro hlt trivial)
            have hkl := getVt_length hv.slots (i : Int)
            have hka := fun j (hj : j < 32) => keysV_at hv.slots hlt hj
            have hca := codesV_at l hlt
            have hgv : gvV l (i : Int) = .tuple #[.agg (bytesV (getVt l (i : Int)).1).toArray, .int .i64 (getVt l (i : Int)).2] := rfl
            generalize (getVt l (i : Int)).1 = kz at hkl hka hgv
            generalize (getVt l (i : Int)).2 = ez at hca hgv
            have HKL := Lib.hid hkl
            have HKX := Lib.hid hka
            have HCX := Lib.hid hca
            have HGV := Lib.hid hgv
            have HIK := Lib.hid (infoKey kz hkl)
            have HZS : Hid ((bytesV (noughts 32)).toArray.size = (bytesV kz).toArray.size) := show _ = _ by rw [bytesV_size _ 32 (noughts_length 32), bytesV_size _ 32 hkl]
            clear hkl hka hca hgv hv hb hlt hi
            go_wp2_with (go_at_call 22; fail)
            refine (HVR.out.get (i : Int)).mono ?_
            rintro e w11 ⟨rfl, hb⟩
            rw [HGV.out]
            have HV11 := Lib.hid (HVR.out.below hb)
            have HB11 := Lib.hid (HBR.out.trans (hb.mono HBR.out.size))
            clear hb
            go_upto_region 27 with (show wpList _ _ _ (⟨_, .store 36 _ _, _, _, _, _⟩ :: _) _ _; go_loud (refine wpList_store_new rfl 36 (.tmp 17) (.tmp 125) rfl w11.heap.size rfl (bytesV kz).toArray rfl rfl HIK.out (by exact HZS.out) (keyV_ones _) ?_; intro w12 h12 b12; have HT12 := Lib.hid (show BytesAt w12 w11.heap.size 36 kz from h12); have HV12 := Lib.hid (HV11.out.below b12); have HB12 := Lib.hid (HB11.out.trans (b12.mono HB11.out.size)); clear h12 b12))
            obtain ⟨bk, ck, rfl, -, -, hkc⟩ := own_cell (HKR.out.own HV12.out (fun x hx => List.mem_append_left _ hx)) (j := 0) (by have := HLT.out.1; omega)
            obtain ⟨bc, cc, rfl, -, -, hcc⟩ := own_cell (HCR.out.own HV12.out (fun x hx => List.mem_append_right _ (List.mem_append_left _ hx))) (j := 0) (by have := HLT.out.1; omega)
            have HOS : Hid (OpS bk bc w11.heap.size i kz ez w12.drew) := show OpS _ _ _ _ _ _ _ from ⟨fun j u hu => by
                have hj : j < 32 := by have := (List.getElem?_eq_some_iff.1 hu).1; rwa [bytesV_length, HKL.out] at this
                have h1 := hkc (i * 32 + j) (by have := HLT.out.1; omega)
                rw [HKX.out j hj, hu] at h1
                exact h1, HT12.out, by
                have h1 := hcc i (by have := HLT.out.1; omega)
                rw [HCX.out] at h1
                exact h1⟩
            have HVD := Lib.hid (HV12.out.below (Below.refl _ w12).drew)
            have HBD := Lib.hid (HB12.out.drew)
            clear hkc hcc HT12 HV12 HB12 HV11 HB11 HVR HBR HGV HKX HCX
            generalize w11.heap.size = T at HOS ⊢
            refine region_phase (OpS bk bc T i kz ez) (fun _ => True) 99 (HOS.out) trivial [(0, .free), (1, .free), (2, .free), (3, .free), (4, .free), (5, .free), (6, .free), (7, .free), (8, .free), (9, .free), (10, .free), (11, .free), (12, .free), (13, .free)] (by kernel_rfl) (by kernel_rfl) (by kernel_rfl) (by kernel_rfl) (fun ops hops A2 hA => ?_)
            have hsz : A2.tmps.size = 180 := by rw [hA]; rfl
            have base10 : A2.eval (.tmp 10) = .slice (some ⟨bk, 0, none⟩) (n + 2) ck := by rw [hA]; rfl
            have base11 : A2.eval (.tmp 11) = .slice (some ⟨bc, 0, none⟩) (n + 2) cc := by rw [hA]; rfl
            have base16 : A2.eval (.tmp 16) = .int .i64 (i : Int) := by rw [hA]; rfl
            have base17 : A2.eval (.tmp 17) = .pointer (some ⟨T, 0, none⟩) := by rw [hA]; rfl
            have base18 : A2.eval (.tmp 18) = .int .i64 ez := by rw [hA]; rfl
            have HAA := Lib.hid hA; clear hA
            obtain ⟨o0, po0, q0, d0, gd0⟩ : ∃ o, ops[0]? = some o ∧ o.op = .move (.tmp 10) ∧ o.dst = some 127 ∧ o.guard = none := ⟨_, by rw [hops]; rfl, rfl, rfl, rfl⟩
            obtain ⟨o1, po1, q1, d1, gd1⟩ : ∃ o, ops[1]? = some o ∧ o.op = .move (.tmp 16) ∧ o.dst = some 128 ∧ o.guard = none := ⟨_, by rw [hops]; rfl, rfl, rfl, rfl⟩
            obtain ⟨o2, po2, q2, d2, gd2⟩ : ∃ o, ops[2]? = some o ∧ o.op = .indexAddr 47 (.tmp 127) (.tmp 128) ∧ o.dst = some 129 ∧ o.guard = none := ⟨_, by rw [hops]; rfl, rfl, rfl, rfl⟩
            obtain ⟨o3, po3, q3, d3, gd3⟩ : ∃ o, ops[3]? = some o ∧ o.op = .load 36 (.tmp 129) ∧ o.dst = some 130 ∧ o.guard = none := ⟨_, by rw [hops]; rfl, rfl, rfl, rfl⟩
            obtain ⟨o4, po4, q4, d4, gd4⟩ : ∃ o, ops[4]? = some o ∧ o.op = .load 36 (.tmp 17) ∧ o.dst = some 131 ∧ o.guard = none := ⟨_, by rw [hops]; rfl, rfl, rfl, rfl⟩
            obtain ⟨o5, po5, q5, d5, gd5⟩ : ∃ o, ops[5]? = some o ∧ o.op = .binOp .neq 36 (.tmp 130) (.tmp 131) 36 ∧ o.dst = some 132 ∧ o.guard = none := ⟨_, by rw [hops]; rfl, rfl, rfl, rfl⟩
            obtain ⟨o6, po6, q6, d6, gd6⟩ : ∃ o, ops[6]? = some o ∧ o.op = .move (.tmp 132) ∧ o.dst = some 133 ∧ o.guard = none := ⟨_, by rw [hops]; rfl, rfl, rfl, rfl⟩
            obtain ⟨o7, po7, q7, d7, gd7⟩ : ∃ o, ops[7]? = some o ∧ o.op = .move (.tmp 11) ∧ o.dst = some 134 ∧ o.guard = some (6, false) := ⟨_, by rw [hops]; rfl, rfl, rfl, rfl⟩
            obtain ⟨o8, po8, q8, d8, gd8⟩ : ∃ o, ops[8]? = some o ∧ o.op = .move (.tmp 16) ∧ o.dst = some 135 ∧ o.guard = some (6, false) := ⟨_, by rw [hops]; rfl, rfl, rfl, rfl⟩
            obtain ⟨o9, po9, q9, d9, gd9⟩ : ∃ o, ops[9]? = some o ∧ o.op = .indexAddr 58 (.tmp 134) (.tmp 135) ∧ o.dst = some 136 ∧ o.guard = some (6, false) := ⟨_, by rw [hops]; rfl, rfl, rfl, rfl⟩
            obtain ⟨o10, po10, q10, d10, gd10⟩ : ∃ o, ops[10]? = some o ∧ o.op = .load 43 (.tmp 136) ∧ o.dst = some 137 ∧ o.guard = some (6, false) := ⟨_, by rw [hops]; rfl, rfl, rfl, rfl⟩
            obtain ⟨o11, po11, q11, d11, gd11⟩ : ∃ o, ops[11]? = some o ∧ o.op = .move (.tmp 18) ∧ o.dst = some 138 ∧ o.guard = some (6, false) := ⟨_, by rw [hops]; rfl, rfl, rfl, rfl⟩
            obtain ⟨o12, po12, q12, d12, gd12⟩ : ∃ o, ops[12]? = some o ∧ o.op = .binOp .neq 43 (.tmp 137) (.tmp 138) 43 ∧ o.dst = some 139 ∧ o.guard = some (6, false) := ⟨_, by rw [hops]; rfl, rfl, rfl, rfl⟩
            obtain ⟨o13, po13, q13, d13, gd13⟩ : ∃ o, ops[13]? = some o ∧ o.op = .pick (.tmp 133) (.const (.bool true)) (.tmp 139) ∧ o.dst = some 140 ∧ o.guard = none := ⟨_, by rw [hops]; rfl, rfl, rfl, rfl⟩
            clear hops
            refine met_free po0 d0 (wanted_of gd0) (fun w' h' => run_move q0 base10 w') ?_
            refine met_free po1 d1 (wanted_of gd1) (fun w' h' => run_move q1 ((eval_other _ 127 16 _ (by decide)).trans base16) w') ?_
            refine met_free po2 d2 (wanted_of gd2) (fun w' h' => run_ixKeyV q2 ((eval_other _ 128 127 _ (by decide)).trans (eval_same _ _ _ (by rw [hsz]; decide))) (eval_same _ _ _ (by simp only [put_size, hsz]; decide)) (by have := HLT.out.1; omega) w') ?_
            refine met_free po3 d3 (wanted_of gd3) (fun w' h' => run_loadKeyR q3 (eval_same _ _ _ (by simp only [put_size, hsz]; decide)) HKL.out h'.1) ?_
            refine met_free po4 d4 (wanted_of gd4) (fun w' h' => run_loadKeyB q4 ((eval_other _ 130 17 _ (by decide)).trans ((eval_other _ 129 17 _ (by decide)).trans ((eval_other _ 128 17 _ (by decide)).trans ((eval_other _ 127 17 _ (by decide)).trans base17)))) HKL.out h'.2.1) ?_
            refine met_free po5 d5 (wanted_of gd5) (fun w' h' => run_neKeyS q5 HKL.out ((eval_other _ 131 130 _ (by decide)).trans (eval_same _ _ _ (by simp only [put_size, hsz]; decide))) (eval_same _ _ _ (by simp only [put_size, hsz]; decide)) w') ?_
            refine met_free po6 d6 (wanted_of gd6) (fun w' h' => run_move q6 (eval_same _ _ _ (by simp only [put_size, hsz]; decide)) w') ?_
            refine met_free po7 d7 (wanted_guardF gd7 po6 d6 (eval_same _ _ _ (by simp only [put_size, hsz]; decide))) (fun w' h' => run_move q7 ((eval_other _ 133 11 _ (by decide)).trans ((eval_other _ 132 11 _ (by decide)).trans ((eval_other _ 131 11 _ (by decide)).trans ((eval_other _ 130 11 _ (by decide)).trans ((eval_other _ 129 11 _ (by decide)).trans ((eval_other _ 128 11 _ (by decide)).trans ((eval_other _ 127 11 _ (by decide)).trans base11))))))) w') ?_
            refine met_free po8 d8 (wanted_guardF gd8 po6 d6 ((eval_other _ 134 133 _ (by decide)).trans (eval_same _ _ _ (by simp only [put_size, hsz]; decide)))) (fun w' h' => run_move q8 ((eval_other _ 134 16 _ (by decide)).trans ((eval_other _ 133 16 _ (by decide)).trans ((eval_other _ 132 16 _ (by decide)).trans ((eval_other _ 131 16 _ (by decide)).trans ((eval_other _ 130 16 _ (by decide)).trans ((eval_other _ 129 16 _ (by decide)).trans ((eval_other _ 128 16 _ (by decide)).trans ((eval_other _ 127 16 _ (by decide)).trans base16)))))))) w') ?_
            refine met_free po9 d9 (wanted_guardF gd9 po6 d6 ((eval_other _ 135 133 _ (by decide)).trans ((eval_other _ 134 133 _ (by decide)).trans (eval_same _ _ _ (by simp only [put_size, hsz]; decide))))) (fun w' h' => run_ixErrV q9 ((eval_other _ 135 134 _ (by decide)).trans (eval_same _ _ _ (by simp only [put_size, hsz]; decide))) (eval_same _ _ _ (by simp only [put_size, hsz]; decide)) (by have := HLT.out.1; omega) w') ?_
            refine met_free po10 d10 (wanted_guardF gd10 po6 d6 ((eval_other _ 136 133 _ (by decide)).trans ((eval_other _ 135 133 _ (by decide)).trans ((eval_other _ 134 133 _ (by decide)).trans (eval_same _ _ _ (by simp only [put_size, hsz]; decide)))))) (fun w' h' => run_loadErrV q10 (eval_same _ _ _ (by simp only [put_size, hsz]; decide)) h'.2.2) ?_
            refine met_free po11 d11 (wanted_guardF gd11 po6 d6 ((eval_other _ 137 133 _ (by decide)).trans ((eval_other _ 136 133 _ (by decide)).trans ((eval_other _ 135 133 _ (by decide)).trans ((eval_other _ 134 133 _ (by decide)).trans (eval_same _ _ _ (by simp only [put_size, hsz]; decide))))))) (fun w' h' => run_move q11 ((eval_other _ 137 18 _ (by decide)).trans ((eval_other _ 136 18 _ (by decide)).trans ((eval_other _ 135 18 _ (by decide)).trans ((eval_other _ 134 18 _ (by decide)).trans ((eval_other _ 133 18 _ (by decide)).trans ((eval_other _ 132 18 _ (by decide)).trans ((eval_other _ 131 18 _ (by decide)).trans ((eval_other _ 130 18 _ (by decide)).trans ((eval_other _ 129 18 _ (by decide)).trans ((eval_other _ 128 18 _ (by decide)).trans ((eval_other _ 127 18 _ (by decide)).trans base18))))))))))) w') ?_
            refine met_free po12 d12 (wanted_guardF gd12 po6 d6 ((eval_other _ 138 133 _ (by decide)).trans ((eval_other _ 137 133 _ (by decide)).trans ((eval_other _ 136 133 _ (by decide)).trans ((eval_other _ 135 133 _ (by decide)).trans ((eval_other _ 134 133 _ (by decide)).trans (eval_same _ _ _ (by simp only [put_size, hsz]; decide)))))))) (fun w' h' => run_neErrS q12 ((eval_other _ 138 137 _ (by decide)).trans (eval_same _ _ _ (by simp only [put_size, hsz]; decide))) (eval_same _ _ _ (by simp only [put_size, hsz]; decide)) w') ?_
            refine met_free po13 d13 (wanted_of gd13) (fun w' h' => r_pickF q13 ((eval_other _ 139 133 _ (by decide)).trans ((eval_other _ 138 133 _ (by decide)).trans ((eval_other _ 137 133 _ (by decide)).trans ((eval_other _ 136 133 _ (by decide)).trans ((eval_other _ 135 133 _ (by decide)).trans ((eval_other _ 134 133 _ (by decide)).trans (eval_same _ _ _ (by simp only [put_size, hsz]; decide)))))))) (eval_same _ _ _ (by simp only [put_size, hsz]; decide)) w') ?_
            show NoPanic _ .normal _ _
            refine NoPanic.normal ?_
            rw [HAA.out]
            go_frame
            clear HAA
            clear po0 q0 d0 gd0 po1 q1 d1 gd1 po2 q2 d2 gd2 po3 q3 d3 gd3 po4 q4 d4 gd4 po5 q5 d5 gd5 po6 q6 d6 gd6 po7 q7 d7 gd7 po8 q8 d8 gd8 po9 q9 d9 gd9 po10 q10 d10 gd10 po11 q11 d11 gd11 po12 q12 d12 gd12 po13 q13 d13 gd13
            clear base10 base11 base16 base17 base18 hsz
            clear HOS
            generalize w12.drew = w13 at HVD HBD ⊢
            go_wp2_with fail
            go_roundw
            case rel => exact ⟨i + 1, by have := HLT.out.1; omega, by go_num, HVD.out, HBD.out⟩
            case measure => simp [intOf]; omega
          · obtain rfl : i = n + 2 := by omega
            have q1 : ¬ ((n + 2 : Nat) : Int) ≤ (n : Int) + 1 := by omega
            have hKr : BytesAt wr w.heap.size 36 kk := (HBR.out.block _ HKA.out.size).trans HKA.out
            have HKW := Lib.hid hKr
            clear hlt hi hv hb hKr
            go_wp2_with (first
              | (show wpList _ _ _ (⟨_, .load 36 _, _, _, _, _⟩ :: _) _ _; refine wpList_runV (by rfl) (run_loadKeyB (x := .tmp 3) rfl rfl HK.out HKW.out) ?_)
              | (go_at_call 25; fail))
            by_cases h64 : n = 64
            · have hpv : putVt d3 l false kk = ⟨d3, l, false, 3⟩ := by unfold putVt; rw [if_neg (by decide), if_pos (by rw [HLN.out]; exact h64)]
              have hcall := HVR.out.put HBR.out.size kk HK.out (by have := HC3.out.count; have := HN3.out.1; have := HN2.out.1; omega) (HR.out.on (HBA.out.trans (HBR.out.mono HBA.out.size)))
              unfold putVE at hcall
              rw [hpv] at hcall
              dsimp only at hcall
              refine hcall.mono ?_
              rintro e w11 ⟨rfl, hv, hb⟩
              have HB11 := Lib.hid (HBA.out.trans ((HBR.out.trans hb).mono HBA.out.size))
              subst h64
              clear hcall hpv hv hb
              go_wp2_with (go_at_call 10; refine (works11_any w11 (HR.out.on HB11.out)).mono ?_; rintro e w12 ⟨rfl, hb⟩; have HB12 := Lib.hid (HB11.out.trans (hb.mono HB11.out.size)); clear hb)
              go_ret
              exact ⟨rfl, HB12.out⟩
            · obtain ⟨d4, hpv, hC4⟩ := HC3.out.put HK.out (by rw [HLN.out]; omega) (by rw [HLN.out]; omega)
              have hcall := HVR.out.put HBR.out.size kk HK.out (by have := HC3.out.count; have := HN3.out.1; have := HN2.out.1; omega) (HR.out.on (HBA.out.trans (HBR.out.mono HBA.out.size)))
              unfold putVE at hcall
              rw [hpv] at hcall
              dsimp only at hcall
              rw [if_pos rfl, List.length_append, HLN.out] at hcall
              refine hcall.mono ?_
              rintro e w11 ⟨rfl, hv, hb⟩
              have HV11 := Lib.hid hv
              have HB11 := Lib.hid (HBR.out.trans hb)
              have hgv : gvV (l ++ [some kk]) ((n : Int) + 1) = .tuple #[.agg (bytesV kk).toArray, .int .i64 0] := gvV_key (l := l ++ [some kk]) (i := n) (by rw [List.length_append, HLN.out]; exact Nat.lt_succ_self n) (by simp [← HLN.out])
              have HGV := Lib.hid hgv
              have q64 : ((n : Int) == 64) = false := beq_eq_false_iff_ne.2 (by omega)
              have HIK := Lib.hid (infoKey kk HK.out)
              have HZS : Hid ((bytesV (noughts 32)).toArray.size = (bytesV kk).toArray.size) := show _ = _ by rw [bytesV_size _ 32 (noughts_length 32), bytesV_size _ 32 HK.out]
              clear hcall hpv hv hb hC4 hgv h64 HKW HVR
              go_wp2_with (go_at_call 22; fail)
              refine (HV11.out.get ((n : Int) + 1)).mono ?_
              rintro e w12 ⟨rfl, hb⟩
              rw [HGV.out]
              have HB12 := Lib.hid (HB11.out.trans (hb.mono HB11.out.size))
              clear hb HV11
              go_upto_region 33 with (show wpList _ _ _ (⟨_, .store 36 _ _, _, _, _, _⟩ :: _) _ _; go_loud (refine wpList_store_new rfl 36 (.tmp 21) (.tmp 158) rfl w12.heap.size rfl (bytesV kk).toArray rfl rfl HIK.out (by exact HZS.out) (keyV_ones _) ?_; intro w13 h13 b13; have HT13 := Lib.hid (show BytesAt w13 w12.heap.size 36 kk from h13); have HB13 := Lib.hid (HB12.out.trans (b13.mono HB12.out.size)); clear h13 b13))
              have hK13 : BytesAt w13 w.heap.size 36 kk := (HB13.out.block _ HKA.out.size).trans HKA.out
              have HK13 := Lib.hid hK13
              have HBW := Lib.hid (HBA.out.trans (HB13.out.mono HBA.out.size))
              have HEQ : Hid (decide (kk = kk) = true) := show _ = _ from decide_eq_true rfl
              clear hK13
              go_wp2_with (first
                | (show wpList _ _ _ (⟨_, .load 36 (.tmp 21), _, _, _, _⟩ :: _) _ _; refine wpList_runV (by rfl) (run_loadKeyB (x := .tmp 21) rfl rfl HK.out HT13.out) ?_)
                | (show wpList _ _ _ (⟨_, .load 36 (.tmp 3), _, _, _, _⟩ :: _) _ _; refine wpList_runV (by rfl) (run_loadKeyB (x := .tmp 3) rfl rfl HK.out HK13.out) ?_)
                | (refine wpList_runV (by rfl) (run_eqKeyT (x := .tmp 173) (y := .tmp 174) rfl HK.out HK.out rfl rfl HEQ.out _) ?_)
                | (go_at_call 10; refine (works11_any w13 (HR.out.on HBW.out)).mono ?_; rintro e w14 ⟨rfl, hb⟩; have HB14 := Lib.hid (HBW.out.trans (hb.mono HBW.out.size)); clear hb))
              go_ret
              exact ⟨rfl, HB14.out⟩
end Go.Proofs.YtdkoomcmkfnfkaaDoor

/-
  VaultZeroes: of a vault with some keys one is zeroed; its bytes are 0, all others stay, and so it is behind any failure; zeroed again nothing is done.
-/
namespace Go.Proofs.YtdkoomcmkfnfkaaDoor
open Go.RowKit Go.Proofs.ShaWords
section
variable {P : Program} {ops : Array Oper} {o : Oper} {a : Act}
theorem w_undef {j : Nat} {b : Bool} {dj : Tmp} {oj : Oper} (hg : o.guard = some (j, b)) (hj : ops[j]? = some oj) (hd : oj.dst = some dj) (he : a.eval (.tmp dj) = undef) : Region.wanted o (yielded ops a.tmps) = false := by
  have h2 : a.tmps[dj]? = none ∨ a.tmps[dj]? = some undef := by
    have h3 : a.tmps.getD dj undef = undef := he
    rw [Array.getD_eq_getD_getElem?] at h3
    cases h4 : a.tmps[dj]? with
    | none => exact Or.inl rfl
    | some u => rw [h4] at h3; simp at h3; exact Or.inr (by rw [h3])
  unfold Region.wanted
  rw [hg]
  rcases h2 with h2 | h2
  · simp only [yielded, hj, Option.bind_some, hd, h2]
    cases b <;> rfl
  · simp only [yielded, hj, Option.bind_some, hd, h2]
    cases b <;> rfl
theorem w_notT {j : Nat} {dj : Tmp} {oj : Oper} (hg : o.guard = some (j, false)) (hj : ops[j]? = some oj) (hd : oj.dst = some dj) (he : a.eval (.tmp dj) = .bool true) : Region.wanted o (yielded ops a.tmps) = false := by
  have h2 := tmp_at he
  unfold Region.wanted
  rw [hg]
  simp only [yielded, hj, Option.bind_some, hd, h2]
  rfl
end
section
variable {ρ : Operand → Value} {o : Oper} {x y : Operand}
theorem run_ixKeyO {b off n c i : Nat} (ho : o.op = .indexAddr 47 x y) (hx : ρ x = .slice (some ⟨b, off, none⟩) n c) (hy : ρ y = .int .i64 (i : Int)) (hi : i < n) (w : World) : (execOp ρ o).run Tryd.prog w = .ok (.value (.pointer (some ⟨b, off + i * 32, none⟩))) w := by
  obtain ⟨dst, op, ty', pos, after, guard⟩ := o
  simp only at ho
  subst ho
  have q : (i : Int) < (n : Int) := by omega
  go_simp
theorem run_eqIV {m n : Int} {b : Bool} {ty : TypeId} (ho : o.op = .binOp .eql 3 x y ty) (hx : ρ x = .int .i64 m) (hy : ρ y = .int .i64 n) (hb : (m == n) = b) (w : World) : (execOp ρ o).run Tryd.prog w = .ok (.value (.bool b)) w := by
  obtain ⟨dst, op, ty', pos, after, guard⟩ := o
  simp only at ho
  subst ho
  subst hb
  go_simp
theorem run_neIV {m n : Int} {b : Bool} {ty : TypeId} (ho : o.op = .binOp .neq 3 x y ty) (hx : ρ x = .int .i64 m) (hy : ρ y = .int .i64 n) (hb : (!(m == n)) = b) (w : World) : (execOp ρ o).run Tryd.prog w = .ok (.value (.bool b)) w := by
  obtain ⟨dst, op, ty', pos, after, guard⟩ := o
  simp only at ho
  subst ho
  subst hb
  go_simp
  rfl
theorem run_mul40N {m : Nat} (ho : o.op = .binOp .mul 3 (.const (.int .i64 40)) x 3) (h0 : ∀ u, ρ (.const u) = u) (hx : ρ x = .int .i64 (m : Int)) (hm : m ≤ 1000000) (w : World) : (execOp ρ o).run Tryd.prog w = .ok (.value (.int .i64 ((40 * m : Nat) : Int))) w := by
  obtain ⟨dst, op, ty', pos, after, guard⟩ := o
  simp only at ho
  subst ho
  have h := IntWalk.i64_in (40 * (m : Int)) (by omega)
  have h1 := h0 (.int .i64 40)
  go_simp
theorem run_neErrC {n : Int} {ty : TypeId} (ho : o.op = .binOp .neq 43 x (.const (.int .i64 n)) ty) (h0 : ∀ u, ρ (.const u) = u) (hx : ρ x = .int .i64 n) (w : World) : (execOp ρ o).run Tryd.prog w = .ok (.value (.bool false)) w := by
  have h1 := h0 (.int .i64 n)
  obtain ⟨dst, op, ty', pos, after, guard⟩ := o
  simp only at ho
  subst ho
  go_simp
theorem run_bldKey0 (ho : o.op = .build 36 #[]) (w : World) : (execOp ρ o).run Tryd.prog w = .ok (.value (.agg (bytesV (noughts 32)).toArray)) w := by
  have hr := Go.run_build (P := Tryd.prog) w 36 #[] _ zeroKey_built
  obtain ⟨dst, op, ty', pos, after, guard⟩ := o
  simp only at ho
  subst ho
  unfold execOp
  simp only [List.map_toArray, List.map_nil, Sem.run_bind, hr, Result.andThen_ok, Sem.run_pure]
end
def somes (ks : List (List (BitVec 8))) : List SlotV := ks.map some
theorem somes_length (ks : List (List (BitVec 8))) : (somes ks).length = ks.length := by unfold somes; rw [List.length_map]
theorem somes_at {ks : List (List (BitVec 8))} {i : Nat} (hi : i < (somes ks).length) : (somes ks)[i] = some (ks[i]'(by rwa [somes_length] at hi)) := List.getElem_map _
/-- Noughts over bytes from a place on, as far as they have been laid. -/
def nz (b : List (BitVec 8)) (at_ j : Nat) : List (BitVec 8) := b.take at_ ++ (noughts j ++ b.drop (at_ + j))
theorem nz_length {b : List (BitVec 8)} {at_ j : Nat} (h : at_ + j ≤ b.length) : (nz b at_ j).length = b.length := by
  unfold nz
  rw [List.length_append, List.length_append, List.length_take, List.length_drop, noughts_length]; omega
theorem nz_zero (b : List (BitVec 8)) (at_ : Nat) : nz b at_ 0 = b := by
  unfold nz
  rw [Nat.add_zero]
  show _ ++ ([] ++ _) = _
  rw [List.nil_append, List.take_append_drop]
theorem nz_step {b : List (BitVec 8)} {at_ j : Nat} (h : at_ + j < b.length) : (nz b at_ j).set (at_ + j) 0#8 = nz b at_ (j + 1) := by
  unfold nz
  have h1 : (b.take at_).length = at_ := by rw [List.length_take]; omega
  rw [List.set_append_right _ _ (by omega), h1, show at_ + j - at_ = j by omega, List.set_append_right _ _ (by rw [noughts_length]; omega), noughts_length, Nat.sub_self]
  congr 1
  have h2 : noughts (j + 1) = noughts j ++ [0#8] := by unfold noughts; rw [List.replicate_succ']
  rw [h2, List.append_assoc]
  congr 1
  rw [List.drop_eq_getElem_cons (by omega), List.set_cons_zero, List.singleton_append]
  rfl
theorem nz_all {l : List SlotV} (h : ∀ s ∈ l, SlotOk s) {i : Nat} (hi : i < l.length) : nz (slotsB l) (40 * i) 40 = slotsB (l.set i none) := by
  have := slotsB_over h i hi
  unfold layOver at this
  unfold nz noughts
  rw [← this, List.length_replicate, List.append_assoc]
/-- Amid the first loop. -/
structure ZesR (lo : Nat) (w0 : World) (v g : Nat) (ks : List (List (BitVec 8))) (i : Nat) (d : DiskM) (cnt : Nat) (A : World) : Prop where
  vt : VtL lo A v g d (somes (ks.take i)) false []
  calm : VtCalm d (somes (ks.take i)) 262144 cnt
  few : cnt ≤ 1 + 2 * i
  below : Below lo w0 A
set_option maxRecDepth 1000000 in
set_option maxHeartbeats 4000000 in
theorem vtZeroes_any (ks : List (List (BitVec 8))) (z kp : Int) (N c : Nat) (p : Option Addr) (w : World) (hN : ks.length = N) (hO : RowOf 32 bytesV w p ks) (hok : ∀ x ∈ ks, x.length = 32) (hR : Rem w) :
    Calls Tryd.prog 4 #[.slice p N c, .int .i64 z, .int .i64 kp] w fun e w' => e = .returned (.bool true) ∧ Below w.heap.size w w' := by
  have HN := Lib.hid hN
  have HO := Lib.hid hO
  have HOK := Lib.hid hok
  have HR := Lib.hid hR
  have HG := Lib.hid hR.size
  clear hN hO hok hR
  by_cases hbig : N = 0 ∨ 64 < N
  · by_cases h0 : N = 0
    · subst h0
      clear hbig
      go_enter Tryd.func4, Tryd.ntmps4
      go_wp2_with (go_at_call 10; refine (works11_any w HR.out).mono ?_; rintro e w2 ⟨rfl, hb⟩; have HB2 := Lib.hid hb; clear hb)
      go_ret
      exact ⟨rfl, HB2.out⟩
    · have q0 : ((N : Int) == 0) = false := beq_eq_false_iff_ne.2 (by omega)
      have q1 : (64 : Int) < (N : Int) := by omega
      clear hbig h0
      go_enter Tryd.func4, Tryd.ntmps4
      go_wp2_with (go_at_call 10; refine (works11_any w HR.out).mono ?_; rintro e w2 ⟨rfl, hb⟩; have HB2 := Lib.hid hb; clear hb)
      go_ret
      exact ⟨rfl, HB2.out⟩
  · have HNS : Hid (1 ≤ N ∧ N ≤ 64) := show _ ∧ _ from by omega
    have q0 : ((N : Int) == 0) = false := beq_eq_false_iff_ne.2 (by omega)
    have q1 : ¬ (64 : Int) < (N : Int) := by omega
    clear hbig
    have c0 : VtCalm (DiskM.new 262144) [] 262144 0 := vtCalm_new 262144
    obtain ⟨-, n1, c1, hn1⟩ := c0.open
    obtain ⟨d1, hd1⟩ : ∃ d1, (openVt (DiskM.new 262144) [] []).1 = d1 := ⟨_, rfl⟩
    rw [hd1] at c1
    have HC0 := Lib.hid c0
    have HC1 := Lib.hid c1
    have HN1 := Lib.hid (And.intro hn1 trivial)
    have HD1 := Lib.hid hd1
    clear c0 c1 hn1 hd1
    go_enter Tryd.func4, Tryd.ntmps4
    go_wp2_with (go_at_call 7; fail)
    refine (dkNewL 262144 w).mono ?_
    rintro e w1 ⟨g, rfl, hi, hb⟩
    have HI1 := Lib.hid hi; have HB1 := Lib.hid hb; clear hi hb
    go_wp2_with (go_at_call 24; fail)
    refine (HI1.out.openVC HB1.out.size HG.out (HR.out.on HB1.out) HC0.out.calm (by rw [HC0.out.count]; decide) HC0.out.of).mono ?_
    rintro e w2 ⟨v, rfl, -, hv, hb⟩
    rw [HD1.out] at hv
    have H0 : Hid (ZesR w.heap.size w v g ks 0 d1 n1 w2) := show ZesR _ _ _ _ _ _ _ _ _ from ⟨by rw [List.take_zero]; exact hv, by rw [List.take_zero]; exact HC1.out, by have := HN1.out.1; omega, HB1.out.trans hb⟩
    clear hv hb HI1 HB1
    go_wp2_with fail
    go_loopw [10] (fun s10 wr => ∃ (i : Nat) (d : DiskM) (cnt : Nat), i ≤ N ∧ s10 = .int .i64 (i : Int) ∧ ZesR w.heap.size w v g ks i d cnt wr) (fun s10 _ => N - (intOf s10).toNat)
    case atStart => exact ⟨0, d1, n1, Nat.zero_le _, rfl, H0.out⟩
    case round =>
      clear H0
      obtain ⟨i, d, cnt, hi, rfl, hI⟩ := hrel
      have HI := Lib.hid hI
      have HNI := Lib.hid (And.intro hi trivial)
      by_cases hlt : i < N
      · have hik : i < ks.length := by rw [HN.out]; exact hlt
        have h32 := HOK.out _ (List.getElem_mem hik)
        have hlt2 : (ks.take i).length = i := by rw [List.length_take, HN.out]; omega
        obtain ⟨b, off, rfl, hrg⟩ := HO.out.rangeK hik hI.below (Nat.le_refl _)
        obtain ⟨d', hpv, hC'⟩ := hI.calm.put h32 (by rw [somes_length, hlt2]; have := HNS.out.2; omega) (by rw [somes_length, hlt2]; have := HNS.out.2; omega)
        have hsn : somes (ks.take i) ++ [some ks[i]] = somes (ks.take (i + 1)) := by
          unfold somes
          rw [List.take_succ_eq_append_getElem hik, List.map_append]; rfl
        rw [hsn] at hpv hC'
        have hcall := hI.vt.put hI.below.size ks[i] h32 (by have := hI.calm.count; have := hI.few; have := HNS.out.2; omega) (HR.out.on hI.below)
        unfold putVE at hcall
        rw [hpv] at hcall
        dsimp only at hcall
        rw [if_pos rfl, somes_length, List.length_take, HN.out, Nat.min_eq_left (by omega)] at hcall
        generalize ks[i] = ki at h32 hrg hcall
        have H32 := Lib.hid h32
        have HRG := Lib.hid hrg
        have HCALL := Lib.hid hcall
        have HC' := Lib.hid hC'
        have q2 : (i : Int) < (N : Int) := by omega
        clear hI hik h32 hlt2 hrg hpv hC' hsn hcall
        go_wp2_with (first
          | (show wpList _ _ _ (⟨_, .indexAddr 47 _ _, _, _, _, _⟩ :: _) _ _; go_loud (refine wpList_runV (by rfl) (run_ixKeyO (x := .tmp 50) (y := .tmp 51) rfl rfl rfl hlt _) ?_))
          | (show wpList _ _ _ (⟨_, .load 36 _, _, _, _, _⟩ :: _) _ _; go_loud (refine wpList_runV (by rfl) (run_loadKeyR (x := .tmp 52) rfl rfl H32.out HRG.out) ?_))
          | (go_at_call 25; fail))
        refine HCALL.out.mono ?_
        rintro e w3 ⟨rfl, hv, hb⟩
        have HI3 : Hid (ZesR w.heap.size w v g ks (i + 1) d' (cnt + 2) w3) := show ZesR _ _ _ _ _ _ _ _ _ from ⟨hv, HC'.out, by have := HI.out.few; omega, HI.out.below.trans hb⟩
        clear hv hb HCALL HRG
        go_wp2_with fail
        go_roundw
        case rel => exact ⟨i + 1, d', cnt + 2, by omega, by go_num, HI3.out⟩
        case measure => simp [intOf]; omega
      · obtain rfl : i = N := by omega
        have htk : ks.take i = ks := List.take_of_length_le (by rw [HN.out]; exact Nat.le_refl _)
        have q2 : ¬ (i : Int) < (i : Int) := by omega
        obtain ⟨s, hs⟩ : ∃ s, s = pickZ z (i : Int) := ⟨_, rfl⟩
        have hsN : s < i := by have := pickZ_lt z (i : Int) (by have := HNS.out.1; omega); omega
        have HPK := Lib.hid (pickZ_any z (i : Int) wr (by have := HNS.out.1; omega) (by have := HNS.out.2; omega))
        rw [← hs] at HPK
        have hI2 : VtL w.heap.size wr v g d (somes ks) false [] := by have := hI.vt; rwa [htk] at this
        have hC2 : VtCalm d (somes ks) 262144 cnt := by have := hI.calm; rwa [htk] at this
        have hsl : s < (somes ks).length := by rw [somes_length, HN.out]; exact hsN
        obtain ⟨d2, hzv, hC3⟩ := hC2.zero hsl (by rw [somes_at hsl]; simp)
        have hsl2 : s < ((somes ks).set s none).length := by rw [List.length_set]; exact hsl
        have hzv2 : zeroVt d2 ((somes ks).set s none) false ((s : Int) + 1) = ⟨d2, (somes ks).set s none, false, 0⟩ := zeroVt_gone hsl2 (by rw [List.getElem_set_self])
        have HI2 := Lib.hid hI2
        have HC2 := Lib.hid hC2
        have HC3 := Lib.hid hC3
        have HZV := Lib.hid hzv
        have HZV2 := Lib.hid hzv2
        have HB2 := Lib.hid hI.below
        have HSN := Lib.hid (And.intro hsN hsl)
        have hfew := hI.few
        have HFEW := Lib.hid (And.intro hfew trivial)
        obtain ⟨M, hM⟩ : ∃ M, 40 * i = M := ⟨_, rfl⟩
        have HM := Lib.hid hM
        have hSL : (slotsB (somes ks)).length = M := by rw [slotsB_length hC2.slots, somes_length, HN.out, hM]
        have HSL := Lib.hid hSL
        have hrd : d.read 0 = slotsB (somes ks) := by
          have := hC2.file
          unfold DiskM.read
          rw [if_pos (by omega)]; exact this
        have HRD := Lib.hid hrd
        have hwz : wrap64 (1 + (s : Int)) = (s : Int) + 1 := by unfold wrap64; have := HNS.out.2; omega
        clear hI hs hI2 hC2 hC3 hzv hzv2 hsl hsl2 hM hSL hrd htk hlt hi HI hfew
        go_wp2_with (go_at_call 26; refine HPK.out.mono ?_; rintro e w3 ⟨rfl, rfl⟩)
        rw [Int.add_comm 1 (s : Int)]
        refine (HI2.out.disk.read 0).mono ?_
        rintro e w4 ⟨sv, rfl, ho, hb⟩
        rw [HRD.out] at ho
        have hM1 : 0 < M := by have := HM.out; have := HNS.out.1; omega
        obtain ⟨q, cq, rfl, -, -, -⟩ := ho.slP HSL.out
        obtain ⟨bw, rfl⟩ : ∃ bw, q = some ⟨bw, 0, none⟩ := by
          rcases ho.2 with ⟨h0, h1⟩ | ⟨b, cap, cur, h0, -⟩
          · rw [HSL.out] at h1; omega
          · cases h0; exact ⟨_, rfl⟩
        obtain ⟨L0, hK0, hL0⟩ := rowK_of (show w4.ownsRow w3.heap.size 5 1 (.slice (some ⟨bw, 0, none⟩) M cq) (slotsB (somes ks)).length (bytesV (slotsB (somes ks))) from ho)
        have hV4 := HI2.out.add hb (L' := L0) hL0
        rw [List.append_nil] at hV4
        have hK4 : RowK w.heap.size L0 5 1 (.slice (some ⟨bw, 0, none⟩) M cq) M (bytesV (nz (slotsB (somes ks)) (40 * s) 0)) := by
          rw [nz_zero]
          exact ⟨hK0.on, hK0.whole, fun w' hw => by
            have := (show Own _ w' (slotsB (somes ks)) _ from hK0.row w' hw).lower HB2.out.size
            unfold Own at this
            rwa [HSL.out] at this⟩
        have HV4 := Lib.hid hV4
        have HK4 := Lib.hid hK4
        have HB4 := Lib.hid (HB2.out.trans (hb.mono HB2.out.size))
        have HM1 := Lib.hid (And.intro hM1 trivial)
        clear ho hb hK0 hL0 hV4 hK4 HI2 HB2 hM1
        go_wp2_with (first
          | (show wpList _ _ _ (⟨_, .binOp .sub _ _ _ _, _, _, _, _⟩ :: _) _ _; go_loud (refine wpList_runV (by rfl) (run_subOneV (x := .tmp 72) (i := s) rfl (fun _ => rfl) rfl (by have := HSN.out.1; have := HNS.out.2; omega) _) ?_))
          | (show wpList _ _ _ (⟨_, .binOp .mul _ _ _ _, _, _, _, _⟩ :: _) _ _; go_loud (refine wpList_runV (by rfl) (run_mul40N (x := .tmp 73) (m := s) rfl (fun _ => rfl) rfl (by have := HSN.out.1; have := HNS.out.2; omega) _) ?_)))
        go_loopw [14] (fun s14 wr => ∃ (j : Nat) (L0 : List (Nat × Obj)), j ≤ 40 ∧ s14 = .int .i64 ((40 * s + j : Nat) : Int) ∧ RowK w.heap.size L0 5 1 (.slice (some ⟨bw, 0, none⟩) M cq) M (bytesV (nz (slotsB (somes ks)) (40 * s) j)) ∧ VtL w.heap.size wr v g d (somes ks) false L0 ∧ Below w.heap.size w wr) (fun s14 _ => 40 * s + 40 - (intOf s14).toNat)
        case atStart =>
          exact ⟨0, L0, by omega, congrArg (Value.int .i64) (by omega), HK4.out, HV4.out, HB4.out⟩
        case round =>
          clear HK4 HV4 HB4
          obtain ⟨j, LJ, hj, rfl, hK, hV, hb⟩ := hrel
          have HKJ := Lib.hid hK
          have HVJ := Lib.hid hV
          have HBJ := Lib.hid hb
          obtain ⟨E, hE⟩ : ∃ E, 40 * (s + 1) = E := ⟨_, rfl⟩
          obtain ⟨K, hKK⟩ : ∃ K, 40 * s + j = K := ⟨_, rfl⟩
          rw [hKK]
          have HEE := Lib.hid hE
          have HKK := Lib.hid hKK
          have hEM : E ≤ M := by have := HM.out; have := HSN.out.1; omega
          have HEM := Lib.hid (And.intro hEM trivial)
          by_cases hlt : j < 40
          · have q2 : (K : Int) < (E : Int) := by omega
            have q3 : (K : Int) < (M : Int) := by omega
            have hO := hK.row wr (fun x hx => hV.all x hx)
            have hnl : (nz (slotsB (somes ks)) (40 * s) j).length = M := by rw [nz_length (by rw [HSL.out]; omega), HSL.out]
            have hO' : Own w.heap.size wr (nz (slotsB (somes ks)) (40 * s) j) (.slice (some ⟨bw, 0, none⟩) M cq) := by unfold Own; rw [hnl]; exact hO
            obtain ⟨b', c', he, -, -, -, -, hcl, hfr⟩ := hO'.form8 (by rw [hnl]; omega)
            obtain rfl : bw = b' := by injection he with he; injection he with he; injection he
            have hcK := hcl K (by rw [hnl]; omega)
            have hfK := hfr K
            have hput := hO'.put K 0#8
            have hstep := nz_step (b := slotsB (somes ks)) (at_ := 40 * s) (j := j) (by rw [HSL.out]; omega)
            rw [hKK] at hstep
            rw [hstep] at hput
            have hn2 : (nz (slotsB (somes ks)) (40 * s) (j + 1)).length = M := by rw [nz_length (by rw [HSL.out]; omega), HSL.out]
            unfold Own at hput
            rw [hn2] at hput
            obtain ⟨L2, hK2, hV2, -⟩ := hK.append (L2 := []) hV (fun x hx => hx) (fun x hx => absurd hx List.not_mem_nil) hput (grown_setCell wr bw K _) (Or.inl rfl)
            rw [List.append_nil] at hV2
            have HK2 := Lib.hid hK2
            have HV2 := Lib.hid hV2
            have hbw : w.heap.size ≤ bw := (World.ownsRow.lt hO bw rfl).1
            have HB2 : Hid (Below w.heap.size w (wr.setCell ⟨bw, K, none⟩ (.int .u8 (n8 0#8)))) := show Below _ _ _ from hb.setCell (p := ⟨bw, K, none⟩) hbw _
            generalize (nz (slotsB (somes ks)) (40 * s) j).getD K 0#8 = y0 at hcK
            have hn0 : n8 0#8 = 0 := rfl
            rw [hn0] at HV2 HB2
            have hM9 : M ≤ 2560 := by have := HM.out; have := HNS.out.2; omega
            clear hO hnl hO' he hcl hfr hput hstep hn2 hK2 hV2 hbw hn0 hK hV hb hE hKK hEM HKJ HVJ HBJ
            go_wp2_with (show wpList _ _ _ (⟨_, .binOp .mul _ _ _ _, _, _, _, _⟩ :: _) _ _; go_loud (refine wpList_runV (by rfl) (run_mul40N (x := .tmp 76) (m := s + 1) rfl (fun _ => rfl) rfl (by have := HSN.out.1; have := HNS.out.2; omega) _) ?_; rw [HEE.out]))
            go_roundw
            case rel => exact ⟨j + 1, L2, by omega, congrArg (Value.int .i64) (by have := HKK.out; go_num), HK2.out, HV2.out, HB2.out⟩
            case measure => simp [intOf]; have := HKK.out; omega
          · obtain rfl : j = 40 := by omega
            have q2 : ¬ (K : Int) < (E : Int) := by omega
            have hnz := nz_all HC2.out.slots (HSN.out.2)
            rw [hnz] at hK
            obtain ⟨WB, hWB⟩ : ∃ WB, slotsB ((somes ks).set s none) = WB := ⟨_, rfl⟩
            rw [hWB] at hK
            have HKW := Lib.hid hK
            have HWB := Lib.hid hWB
            have hWL : WB.length = M := by rw [← hWB, slotsB_length HC3.out.slots, List.length_set, somes_length, HN.out]; exact HM.out
            have HWL := Lib.hid hWL
            have hcall := hV.zero hb.size ((s : Int) + 1) (by have := HC2.out.count; have := HFEW.out.1; have := HNS.out.2; omega)
            rw [HZV.out] at hcall
            dsimp only at hcall
            have HCALL := Lib.hid hcall
            clear hnz hWB hWL hcall hK hV hKK hEM hE HKJ HVJ
            go_wp2_with (first
              | (show wpList _ _ _ (⟨_, .binOp .mul _ _ _ _, _, _, _, _⟩ :: _) _ _; go_loud (refine wpList_runV (by rfl) (run_mul40N (x := .tmp 76) (m := s + 1) rfl (fun _ => rfl) rfl (by have := HSN.out.1; have := HNS.out.2; omega) _) ?_; rw [HEE.out]))
              | (go_at_call 27; fail))
            refine HCALL.out.mono ?_
            rintro e w5 ⟨rfl, hv, hb5⟩
            have HV5 := Lib.hid hv
            have HB5 := Lib.hid (HBJ.out.trans hb5)
            clear hv hb5 HCALL hb HBJ
            have hcall := HV5.out.zero HB5.out.size ((s : Int) + 1) (by have := HC3.out.count; have := HFEW.out.1; have := HNS.out.2; omega)
            rw [HZV2.out] at hcall
            dsimp only at hcall
            have HCALL := Lib.hid hcall
            clear hcall
            go_wp2_with (first
              | (go_at_call 19; go_loud (refine HV5.out.disk.count.mono ?_; rintro e w6 ⟨rfl, rfl⟩))
              | (go_at_call 27; fail))
            refine HCALL.out.mono ?_
            rintro e w7 ⟨rfl, hv, hb7⟩
            have HV7 := Lib.hid hv
            have HB7 := Lib.hid (HB5.out.trans hb7)
            clear hv hb7 HCALL HV5 HB5
            have hrd2 : d2.read 0 = WB := by
              have := HC3.out.file
              rw [HWB.out] at this
              unfold DiskM.read
              rw [if_pos (by omega)]; exact this
            have HRD2 := Lib.hid hrd2
            clear hrd2
            go_wp2_with (first
              | (go_at_call 19; go_loud (refine HV7.out.disk.count.mono ?_; rintro e w8 ⟨rfl, rfl⟩))
              | (go_at_call 15; fail))
            refine (HV7.out.disk.read 0).mono ?_
            rintro e w9 ⟨sv, rfl, ho, hb⟩
            rw [HRD2.out] at ho
            obtain ⟨q2, cq2, rfl, -, -, hl2⟩ := ho.slP HWL.out
            have HQ2 := Lib.hid hl2
            have HV9 := Lib.hid (HV7.out.below hb)
            have HB9 := Lib.hid (HB7.out.trans (hb.mono HB7.out.size))
            have hlq : Lies w9 (some ⟨bw, 0, none⟩) WB := by
              have h9 := HKW.out.row w9 (fun x hx => HV9.out.all x hx)
              have ho : Own w.heap.size w9 WB (.slice (some ⟨bw, 0, none⟩) M cq) := by unfold Own; rw [HWL.out]; exact h9
              obtain ⟨_, _, e, -, -, hl⟩ := ho.slP HWL.out
              cases e
              exact hl
            have HLQ := Lib.hid hlq
            have HSM : Hid (M < 1000000 ∧ True) := show _ ∧ _ from ⟨by have := HM.out; have := HNS.out.2; omega, trivial⟩
            clear ho hb hl2 hlq HV7 HB7
            go_wp2_with (go_at_call 14; fail)
            refine (sameBytes_any WB WB M M q2 (some ⟨bw, 0, none⟩) cq2 cq w9 HWL.out HWL.out HSM.out.1 HSM.out.1 HQ2.out HLQ.out).mono ?_
            rintro e w10 ⟨rfl, hb⟩
            have HDE : Hid (decide (WB = WB) = true) := show _ = _ from decide_eq_true rfl
            rw [HDE.out]
            have HV10 := Lib.hid (HV9.out.below hb)
            have HB10 := Lib.hid (HB9.out.trans (hb.mono HB9.out.size))
            clear hb HV9 HB9 HQ2 HLQ
            go_wp2_with (go_at_call 28; fail)
            obtain ⟨d3, hd3⟩ : ∃ d3, d2.crash [kp] = d3 := ⟨_, rfl⟩
            have hC4 := HC3.out.crash [kp]
            rw [hd3] at hC4
            obtain ⟨-, n4, hC5, hn5⟩ := hC4.open
            obtain ⟨d4, hd4⟩ : ∃ d4, (openVt d3 ((somes ks).set s none) []).1 = d4 := ⟨_, rfl⟩
            rw [hd4] at hC5
            have HC4 := Lib.hid hC4
            have HC5 := Lib.hid hC5
            have HN5 := Lib.hid (And.intro hn5 trivial)
            have HD3 := Lib.hid hd3
            have HD4 := Lib.hid hd4
            have hcr := HV10.out.disk.crash (keep := [kp]) (n := 1) (c := 1) (b := w10.heap.size) (w' := w10.alloc (.cells #[.int .i64 kp] 3)) HB10.out.size ((Below.refl _ _).alloc (Nat.le_refl _) _) (Nat.le_refl _) (heap_new_at rfl) rfl rfl (Nat.le_refl _)
            rw [hd3] at hcr
            have hbw : Below w10.heap.size w10 (w10.alloc (.cells #[.int .i64 kp] 3)) := (Below.refl _ _).alloc (Nat.le_refl _) _
            have HBW := Lib.hid (HB10.out.trans (hbw.mono HB10.out.size))
            clear hC4 hC5 hn5 hd3 hd4 hbw
            refine hcr.mono ?_
            rintro e w11 ⟨rfl, hv, hb⟩
            have HV11 := Lib.hid hv
            have HB11 := Lib.hid (HBW.out.trans hb)
            clear hv hb hcr HBW HV10 HB10
            go_wp2_with (go_at_call 24; fail)
            refine (HV11.out.openVC HB11.out.size HG.out (HR.out.on HB11.out) HC4.out.calm (by have := HC4.out.count; have := HFEW.out.1; have := HNS.out.2; omega) HC4.out.of).mono ?_
            rintro e w12 ⟨v2, rfl, -, hv, hb⟩
            rw [HD4.out] at hv
            have HV12 := Lib.hid (hv.fewer (L' := LJ) (fun x hx => List.mem_cons_of_mem _ hx))
            have HB12 := Lib.hid (HB11.out.trans hb)
            have HLS : Hid (((somes ks).set s none).length = i) := show _ = _ by rw [List.length_set, somes_length, HN.out]
            clear hv hb HV11 HB11
            go_wp2_with (go_at_call 29; go_loud (refine HV12.out.len.mono ?_; rintro e w13 ⟨rfl, rfl⟩; rw [HLS.out]))
            go_loopw [18] (fun s18 wr => ∃ m : Nat, m ≤ i ∧ s18 = .int .i64 (m : Int) ∧ VtL w.heap.size wr v2 g d4 ((somes ks).set s none) false LJ ∧ Below w.heap.size w wr) (fun s18 _ => i - (intOf s18).toNat)
            case atStart => exact ⟨0, Nat.zero_le _, rfl, HV12.out, HB12.out⟩
            case round =>
              clear HV12 HB12
              obtain ⟨m, hm, rfl, hv, hb⟩ := hrel
              have HVR := Lib.hid hv
              have HBR := Lib.hid hb
              by_cases hlt : m < i
              · have q4 : (m : Int) < (i : Int) := by omega
                have hmk : m < ks.length := by rw [HN.out]; exact hlt
                have hml : m < ((somes ks).set s none).length := by rw [HLS.out]; exact hlt
                have h32 := HOK.out _ (List.getElem_mem hmk)
                obtain ⟨b, off, rfl, hrg⟩ := HO.out.rangeK hmk hb (Nat.le_refl _)
                have HLT := Lib.hid (And.intro hlt trivial)
                have HM60 : Hid (m ≤ 1000000 ∧ True) := show _ ∧ _ from ⟨by have := HNS.out.2; omega, trivial⟩
                by_cases hms : m = s
                · have hgv := gvV_gone hml (by subst hms; rw [List.getElem_set_self])
                  have HGV := Lib.hid hgv
                  have HEQ : Hid ((((m + 1 : Nat) : Int) == (s : Int) + 1) = true) := show _ = _ by rw [hms]; simp
                  have HIK := Lib.hid (infoKey (noughts 32) (noughts_length 32))
                  clear hgv hmk hml h32 hrg hv hb hlt hm hms
                  go_wp2_with (go_at_call 22; fail)
                  refine (HVR.out.get ((m : Int) + 1)).mono ?_
                  rintro e w13 ⟨rfl, hb⟩
                  rw [HGV.out]
                  have HV13 := Lib.hid (HVR.out.below hb)
                  have HB13 := Lib.hid (HBR.out.trans (hb.mono HBR.out.size))
                  clear hb
                  go_upto_region 32 with (show wpList _ _ _ (⟨_, .store 36 _ _, _, _, _, _⟩ :: _) _ _; go_loud (refine wpList_store_new rfl 36 (.tmp 19) (.tmp 144) rfl w13.heap.size rfl (bytesV (noughts 32)).toArray rfl rfl HIK.out (by rfl) (keyV_ones _) ?_; intro w14 h14 b14; have HT14 := Lib.hid (show BytesAt w14 w13.heap.size 36 (noughts 32) from h14); have HV14 := Lib.hid (HV13.out.below b14); have HB14 := Lib.hid (HB13.out.trans (b14.mono HB13.out.size)); clear h14 b14))
                  have HOS : Hid (BytesAt w14.drew w13.heap.size 36 (noughts 32)) := show BytesAt _ _ _ _ from HT14.out
                  have HVD := Lib.hid (HV14.out.below (Below.refl _ w14).drew)
                  have HBD := Lib.hid (HB14.out.drew)
                  clear HT14 HV14 HB14 HV13 HB13 HVR HBR HGV
                  generalize w13.heap.size = T at HOS ⊢
                  refine region_phase (fun w' => BytesAt w' T 36 (noughts 32)) (fun _ => True) 99 (HOS.out) trivial [(0, .free), (1, .free), (2, .free), (3, .free), (4, .free), (5, .free), (6, .free), (7, .free), (8, .free), (9, .free), (10, .free), (11, .free), (12, .free), (13, .free), (14, .free), (15, .free), (16, .free), (17, .free), (18, .free), (19, .free), (20, .free), (21, .free), (22, .free), (23, .free), (24, .free), (25, .free), (26, .free), (27, .free), (28, .free), (29, .free), (30, .free)] (by kernel_rfl) (by kernel_rfl) (by kernel_rfl) (by kernel_rfl) (fun ops hops A2 hA => ?_)
                  have hsz : A2.tmps.size = 184 := by rw [hA]; rfl
                  have base1 : A2.eval (.tmp 1) = .int .i64 ((s : Int) + 1) := by rw [hA]; rfl
                  have base18 : A2.eval (.tmp 18) = .int .i64 (m : Int) := by rw [hA]; rfl
                  have base19 : A2.eval (.tmp 19) = .pointer (some ⟨T, 0, none⟩) := by rw [hA]; rfl
                  have base20 : A2.eval (.tmp 20) = .int .i64 17 := by rw [hA]; rfl
                  have HAA := Lib.hid hA; clear hA
                  obtain ⟨o0, po0, q0, d0, gd0⟩ : ∃ o, ops[0]? = some o ∧ o.op = .move (.tmp 18) ∧ o.dst = some 146 ∧ o.guard = none := ⟨_, by rw [hops]; rfl, rfl, rfl, rfl⟩
                  obtain ⟨o1, po1, q1, d1, gd1⟩ : ∃ o, ops[1]? = some o ∧ o.op = .binOp .add 3 (.tmp 146) (.const (.int .i64 1)) 3 ∧ o.dst = some 147 ∧ o.guard = none := ⟨_, by rw [hops]; rfl, rfl, rfl, rfl⟩
                  obtain ⟨o2, po2, q2, d2, gd2⟩ : ∃ o, ops[2]? = some o ∧ o.op = .move (.tmp 1) ∧ o.dst = some 148 ∧ o.guard = none := ⟨_, by rw [hops]; rfl, rfl, rfl, rfl⟩
                  obtain ⟨o3, po3, q3, d3, gd3⟩ : ∃ o, ops[3]? = some o ∧ o.op = .binOp .eql 3 (.tmp 147) (.tmp 148) 3 ∧ o.dst = some 149 ∧ o.guard = none := ⟨_, by rw [hops]; rfl, rfl, rfl, rfl⟩
                  obtain ⟨o4, po4, q4, d4, gd4⟩ : ∃ o, ops[4]? = some o ∧ o.op = .move (.tmp 149) ∧ o.dst = some 150 ∧ o.guard = none := ⟨_, by rw [hops]; rfl, rfl, rfl, rfl⟩
                  obtain ⟨o5, po5, q5, d5, gd5⟩ : ∃ o, ops[5]? = some o ∧ o.op = .move (.tmp 20) ∧ o.dst = some 151 ∧ o.guard = some (4, true) := ⟨_, by rw [hops]; rfl, rfl, rfl, rfl⟩
                  obtain ⟨o6, po6, q6, d6, gd6⟩ : ∃ o, ops[6]? = some o ∧ o.op = .binOp .neq 43 (.tmp 151) (.const (.int .i64 17)) 43 ∧ o.dst = some 152 ∧ o.guard = some (4, true) := ⟨_, by rw [hops]; rfl, rfl, rfl, rfl⟩
                  obtain ⟨o7, po7, q7, d7, gd7⟩ : ∃ o, ops[7]? = some o ∧ o.op = .move (.tmp 152) ∧ o.dst = some 153 ∧ o.guard = some (4, true) := ⟨_, by rw [hops]; rfl, rfl, rfl, rfl⟩
                  obtain ⟨o8, po8, q8, d8, gd8⟩ : ∃ o, ops[8]? = some o ∧ o.op = .load 36 (.tmp 19) ∧ o.dst = some 154 ∧ o.guard = some (7, false) := ⟨_, by rw [hops]; rfl, rfl, rfl, rfl⟩
                  obtain ⟨o9, po9, q9, d9, gd9⟩ : ∃ o, ops[9]? = some o ∧ o.op = .build 36 #[] ∧ o.dst = some 155 ∧ o.guard = some (7, false) := ⟨_, by rw [hops]; rfl, rfl, rfl, rfl⟩
                  obtain ⟨o10, po10, q10, d10, gd10⟩ : ∃ o, ops[10]? = some o ∧ o.op = .binOp .neq 36 (.tmp 154) (.tmp 155) 36 ∧ o.dst = some 156 ∧ o.guard = some (7, false) := ⟨_, by rw [hops]; rfl, rfl, rfl, rfl⟩
                  obtain ⟨o11, po11, q11, d11, gd11⟩ : ∃ o, ops[11]? = some o ∧ o.op = .pick (.tmp 153) (.const (.bool true)) (.tmp 156) ∧ o.dst = some 157 ∧ o.guard = some (4, true) := ⟨_, by rw [hops]; rfl, rfl, rfl, rfl⟩
                  obtain ⟨o12, po12, q12, d12, gd12⟩ : ∃ o, ops[12]? = some o ∧ o.op = .pick (.tmp 150) (.tmp 157) (.const (.bool false)) ∧ o.dst = some 158 ∧ o.guard = none := ⟨_, by rw [hops]; rfl, rfl, rfl, rfl⟩
                  obtain ⟨o13, po13, q13, d13, gd13⟩ : ∃ o, ops[13]? = some o ∧ o.op = .move (.tmp 158) ∧ o.dst = some 159 ∧ o.guard = none := ⟨_, by rw [hops]; rfl, rfl, rfl, rfl⟩
                  obtain ⟨o14, po14, q14, d14, gd14⟩ : ∃ o, ops[14]? = some o ∧ o.op = .move (.tmp 18) ∧ o.dst = some 160 ∧ o.guard = some (13, false) := ⟨_, by rw [hops]; rfl, rfl, rfl, rfl⟩
                  obtain ⟨o15, po15, q15, d15, gd15⟩ : ∃ o, ops[15]? = some o ∧ o.op = .binOp .add 3 (.tmp 160) (.const (.int .i64 1)) 3 ∧ o.dst = some 161 ∧ o.guard = some (13, false) := ⟨_, by rw [hops]; rfl, rfl, rfl, rfl⟩
                  obtain ⟨o16, po16, q16, d16, gd16⟩ : ∃ o, ops[16]? = some o ∧ o.op = .move (.tmp 1) ∧ o.dst = some 162 ∧ o.guard = some (13, false) := ⟨_, by rw [hops]; rfl, rfl, rfl, rfl⟩
                  obtain ⟨o17, po17, q17, d17, gd17⟩ : ∃ o, ops[17]? = some o ∧ o.op = .binOp .neq 3 (.tmp 161) (.tmp 162) 3 ∧ o.dst = some 163 ∧ o.guard = some (13, false) := ⟨_, by rw [hops]; rfl, rfl, rfl, rfl⟩
                  obtain ⟨o18, po18, q18, d18, gd18⟩ : ∃ o, ops[18]? = some o ∧ o.op = .move (.tmp 163) ∧ o.dst = some 164 ∧ o.guard = some (13, false) := ⟨_, by rw [hops]; rfl, rfl, rfl, rfl⟩
                  obtain ⟨o19, po19, q19, d19, gd19⟩ : ∃ o, ops[19]? = some o ∧ o.op = .move (.tmp 20) ∧ o.dst = some 165 ∧ o.guard = some (18, true) := ⟨_, by rw [hops]; rfl, rfl, rfl, rfl⟩
                  obtain ⟨o20, po20, q20, d20, gd20⟩ : ∃ o, ops[20]? = some o ∧ o.op = .binOp .neq 43 (.tmp 165) (.const (.int .i64 0)) 43 ∧ o.dst = some 166 ∧ o.guard = some (18, true) := ⟨_, by rw [hops]; rfl, rfl, rfl, rfl⟩
                  obtain ⟨o21, po21, q21, d21, gd21⟩ : ∃ o, ops[21]? = some o ∧ o.op = .move (.tmp 166) ∧ o.dst = some 167 ∧ o.guard = some (18, true) := ⟨_, by rw [hops]; rfl, rfl, rfl, rfl⟩
                  obtain ⟨o22, po22, q22, d22, gd22⟩ : ∃ o, ops[22]? = some o ∧ o.op = .load 36 (.tmp 19) ∧ o.dst = some 168 ∧ o.guard = some (21, false) := ⟨_, by rw [hops]; rfl, rfl, rfl, rfl⟩
                  obtain ⟨o23, po23, q23, d23, gd23⟩ : ∃ o, ops[23]? = some o ∧ o.op = .move (.tmp 0) ∧ o.dst = some 169 ∧ o.guard = some (21, false) := ⟨_, by rw [hops]; rfl, rfl, rfl, rfl⟩
                  obtain ⟨o24, po24, q24, d24, gd24⟩ : ∃ o, ops[24]? = some o ∧ o.op = .move (.tmp 18) ∧ o.dst = some 170 ∧ o.guard = some (21, false) := ⟨_, by rw [hops]; rfl, rfl, rfl, rfl⟩
                  obtain ⟨o25, po25, q25, d25, gd25⟩ : ∃ o, ops[25]? = some o ∧ o.op = .indexAddr 47 (.tmp 169) (.tmp 170) ∧ o.dst = some 171 ∧ o.guard = some (21, false) := ⟨_, by rw [hops]; rfl, rfl, rfl, rfl⟩
                  obtain ⟨o26, po26, q26, d26, gd26⟩ : ∃ o, ops[26]? = some o ∧ o.op = .load 36 (.tmp 171) ∧ o.dst = some 172 ∧ o.guard = some (21, false) := ⟨_, by rw [hops]; rfl, rfl, rfl, rfl⟩
                  obtain ⟨o27, po27, q27, d27, gd27⟩ : ∃ o, ops[27]? = some o ∧ o.op = .binOp .neq 36 (.tmp 168) (.tmp 172) 36 ∧ o.dst = some 173 ∧ o.guard = some (21, false) := ⟨_, by rw [hops]; rfl, rfl, rfl, rfl⟩
                  obtain ⟨o28, po28, q28, d28, gd28⟩ : ∃ o, ops[28]? = some o ∧ o.op = .pick (.tmp 167) (.const (.bool true)) (.tmp 173) ∧ o.dst = some 174 ∧ o.guard = some (18, true) := ⟨_, by rw [hops]; rfl, rfl, rfl, rfl⟩
                  obtain ⟨o29, po29, q29, d29, gd29⟩ : ∃ o, ops[29]? = some o ∧ o.op = .pick (.tmp 164) (.tmp 174) (.const (.bool false)) ∧ o.dst = some 175 ∧ o.guard = some (13, false) := ⟨_, by rw [hops]; rfl, rfl, rfl, rfl⟩
                  obtain ⟨o30, po30, q30, d30, gd30⟩ : ∃ o, ops[30]? = some o ∧ o.op = .pick (.tmp 159) (.const (.bool true)) (.tmp 175) ∧ o.dst = some 176 ∧ o.guard = none := ⟨_, by rw [hops]; rfl, rfl, rfl, rfl⟩
                  clear hops
                  refine met_free po0 d0 (wanted_of gd0) (fun w' h' => run_move q0 base18 w') ?_
                  refine met_free po1 d1 (wanted_of gd1) (fun w' h' => run_addOneV q1 (fun _ => rfl) (eval_same _ _ _ (by rw [hsz]; decide)) HM60.out.1 w') ?_
                  refine met_free po2 d2 (wanted_of gd2) (fun w' h' => run_move q2 ((eval_other _ 147 1 _ (by decide)).trans ((eval_other _ 146 1 _ (by decide)).trans base1)) w') ?_
                  refine met_free po3 d3 (wanted_of gd3) (fun w' h' => run_eqIV q3 ((eval_other _ 148 147 _ (by decide)).trans (eval_same _ _ _ (by simp only [put_size, hsz]; decide))) (eval_same _ _ _ (by simp only [put_size, hsz]; decide)) HEQ.out w') ?_
                  refine met_free po4 d4 (wanted_of gd4) (fun w' h' => run_move q4 (eval_same _ _ _ (by simp only [put_size, hsz]; decide)) w') ?_
                  refine met_free po5 d5 (wanted_guard gd5 po4 d4 (eval_same _ _ _ (by simp only [put_size, hsz]; decide))) (fun w' h' => run_move q5 ((eval_other _ 150 20 _ (by decide)).trans ((eval_other _ 149 20 _ (by decide)).trans ((eval_other _ 148 20 _ (by decide)).trans ((eval_other _ 147 20 _ (by decide)).trans ((eval_other _ 146 20 _ (by decide)).trans base20))))) w') ?_
                  refine met_free po6 d6 (wanted_guard gd6 po4 d4 ((eval_other _ 151 150 _ (by decide)).trans (eval_same _ _ _ (by simp only [put_size, hsz]; decide)))) (fun w' h' => run_neErrC q6 (fun _ => rfl) (eval_same _ _ _ (by simp only [put_size, hsz]; decide)) w') ?_
                  refine met_free po7 d7 (wanted_guard gd7 po4 d4 ((eval_other _ 152 150 _ (by decide)).trans ((eval_other _ 151 150 _ (by decide)).trans (eval_same _ _ _ (by simp only [put_size, hsz]; decide))))) (fun w' h' => run_move q7 (eval_same _ _ _ (by simp only [put_size, hsz]; decide)) w') ?_
                  refine met_free po8 d8 (wanted_guardF gd8 po7 d7 (eval_same _ _ _ (by simp only [put_size, hsz]; decide))) (fun w' h' => run_loadKeyB q8 ((eval_other _ 153 19 _ (by decide)).trans ((eval_other _ 152 19 _ (by decide)).trans ((eval_other _ 151 19 _ (by decide)).trans ((eval_other _ 150 19 _ (by decide)).trans ((eval_other _ 149 19 _ (by decide)).trans ((eval_other _ 148 19 _ (by decide)).trans ((eval_other _ 147 19 _ (by decide)).trans ((eval_other _ 146 19 _ (by decide)).trans base19)))))))) (noughts_length 32) h') ?_
                  refine met_free po9 d9 (wanted_guardF gd9 po7 d7 ((eval_other _ 154 153 _ (by decide)).trans (eval_same _ _ _ (by simp only [put_size, hsz]; decide)))) (fun w' h' => run_bldKey0 q9 w') ?_
                  refine met_free po10 d10 (wanted_guardF gd10 po7 d7 ((eval_other _ 155 153 _ (by decide)).trans ((eval_other _ 154 153 _ (by decide)).trans (eval_same _ _ _ (by simp only [put_size, hsz]; decide))))) (fun w' h' => run_neKeyS q10 (noughts_length 32) ((eval_other _ 155 154 _ (by decide)).trans (eval_same _ _ _ (by simp only [put_size, hsz]; decide))) (eval_same _ _ _ (by simp only [put_size, hsz]; decide)) w') ?_
                  refine met_free po11 d11 (wanted_guard gd11 po4 d4 ((eval_other _ 156 150 _ (by decide)).trans ((eval_other _ 155 150 _ (by decide)).trans ((eval_other _ 154 150 _ (by decide)).trans ((eval_other _ 153 150 _ (by decide)).trans ((eval_other _ 152 150 _ (by decide)).trans ((eval_other _ 151 150 _ (by decide)).trans (eval_same _ _ _ (by simp only [put_size, hsz]; decide))))))))) (fun w' h' => r_pickF q11 ((eval_other _ 156 153 _ (by decide)).trans ((eval_other _ 155 153 _ (by decide)).trans ((eval_other _ 154 153 _ (by decide)).trans (eval_same _ _ _ (by simp only [put_size, hsz]; decide))))) (eval_same _ _ _ (by simp only [put_size, hsz]; decide)) w') ?_
                  refine met_free po12 d12 (wanted_of gd12) (fun w' h' => run_pick_true q12 ((eval_other _ 157 150 _ (by decide)).trans ((eval_other _ 156 150 _ (by decide)).trans ((eval_other _ 155 150 _ (by decide)).trans ((eval_other _ 154 150 _ (by decide)).trans ((eval_other _ 153 150 _ (by decide)).trans ((eval_other _ 152 150 _ (by decide)).trans ((eval_other _ 151 150 _ (by decide)).trans (eval_same _ _ _ (by simp only [put_size, hsz]; decide))))))))) (eval_same _ _ _ (by simp only [put_size, hsz]; decide)) w') ?_
                  refine met_free po13 d13 (wanted_of gd13) (fun w' h' => run_move q13 (eval_same _ _ _ (by simp only [put_size, hsz]; decide)) w') ?_
                  refine met_free po14 d14 (wanted_guardF gd14 po13 d13 (eval_same _ _ _ (by simp only [put_size, hsz]; decide))) (fun w' h' => run_move q14 ((eval_other _ 159 18 _ (by decide)).trans ((eval_other _ 158 18 _ (by decide)).trans ((eval_other _ 157 18 _ (by decide)).trans ((eval_other _ 156 18 _ (by decide)).trans ((eval_other _ 155 18 _ (by decide)).trans ((eval_other _ 154 18 _ (by decide)).trans ((eval_other _ 153 18 _ (by decide)).trans ((eval_other _ 152 18 _ (by decide)).trans ((eval_other _ 151 18 _ (by decide)).trans ((eval_other _ 150 18 _ (by decide)).trans ((eval_other _ 149 18 _ (by decide)).trans ((eval_other _ 148 18 _ (by decide)).trans ((eval_other _ 147 18 _ (by decide)).trans ((eval_other _ 146 18 _ (by decide)).trans base18)))))))))))))) w') ?_
                  refine met_free po15 d15 (wanted_guardF gd15 po13 d13 ((eval_other _ 160 159 _ (by decide)).trans (eval_same _ _ _ (by simp only [put_size, hsz]; decide)))) (fun w' h' => run_addOneV q15 (fun _ => rfl) (eval_same _ _ _ (by simp only [put_size, hsz]; decide)) HM60.out.1 w') ?_
                  refine met_free po16 d16 (wanted_guardF gd16 po13 d13 ((eval_other _ 161 159 _ (by decide)).trans ((eval_other _ 160 159 _ (by decide)).trans (eval_same _ _ _ (by simp only [put_size, hsz]; decide))))) (fun w' h' => run_move q16 ((eval_other _ 161 1 _ (by decide)).trans ((eval_other _ 160 1 _ (by decide)).trans ((eval_other _ 159 1 _ (by decide)).trans ((eval_other _ 158 1 _ (by decide)).trans ((eval_other _ 157 1 _ (by decide)).trans ((eval_other _ 156 1 _ (by decide)).trans ((eval_other _ 155 1 _ (by decide)).trans ((eval_other _ 154 1 _ (by decide)).trans ((eval_other _ 153 1 _ (by decide)).trans ((eval_other _ 152 1 _ (by decide)).trans ((eval_other _ 151 1 _ (by decide)).trans ((eval_other _ 150 1 _ (by decide)).trans ((eval_other _ 149 1 _ (by decide)).trans ((eval_other _ 148 1 _ (by decide)).trans ((eval_other _ 147 1 _ (by decide)).trans ((eval_other _ 146 1 _ (by decide)).trans base1)))))))))))))))) w') ?_
                  refine met_free po17 d17 (wanted_guardF gd17 po13 d13 ((eval_other _ 162 159 _ (by decide)).trans ((eval_other _ 161 159 _ (by decide)).trans ((eval_other _ 160 159 _ (by decide)).trans (eval_same _ _ _ (by simp only [put_size, hsz]; decide)))))) (fun w' h' => run_neIV q17 ((eval_other _ 162 161 _ (by decide)).trans (eval_same _ _ _ (by simp only [put_size, hsz]; decide))) (eval_same _ _ _ (by simp only [put_size, hsz]; decide)) (by rw [HEQ.out]) w') ?_
                  refine met_free po18 d18 (wanted_guardF gd18 po13 d13 ((eval_other _ 163 159 _ (by decide)).trans ((eval_other _ 162 159 _ (by decide)).trans ((eval_other _ 161 159 _ (by decide)).trans ((eval_other _ 160 159 _ (by decide)).trans (eval_same _ _ _ (by simp only [put_size, hsz]; decide))))))) (fun w' h' => run_move q18 (eval_same _ _ _ (by simp only [put_size, hsz]; decide)) w') ?_
                  refine m_unwanted po19 d19 (w_not gd19 po18 d18 (eval_same _ _ _ (by simp only [put_size, hsz]; decide))) ?_
                  refine m_unwanted po20 d20 (w_not gd20 po18 d18 ((eval_other _ 165 164 _ (by decide)).trans (eval_same _ _ _ (by simp only [put_size, hsz]; decide)))) ?_
                  refine m_unwanted po21 d21 (w_not gd21 po18 d18 ((eval_other _ 166 164 _ (by decide)).trans ((eval_other _ 165 164 _ (by decide)).trans (eval_same _ _ _ (by simp only [put_size, hsz]; decide))))) ?_
                  refine m_unwanted po22 d22 (w_undef gd22 po21 d21 (eval_same _ _ _ (by simp only [put_size, hsz]; decide))) ?_
                  refine m_unwanted po23 d23 (w_undef gd23 po21 d21 ((eval_other _ 168 167 _ (by decide)).trans (eval_same _ _ _ (by simp only [put_size, hsz]; decide)))) ?_
                  refine m_unwanted po24 d24 (w_undef gd24 po21 d21 ((eval_other _ 169 167 _ (by decide)).trans ((eval_other _ 168 167 _ (by decide)).trans (eval_same _ _ _ (by simp only [put_size, hsz]; decide))))) ?_
                  refine m_unwanted po25 d25 (w_undef gd25 po21 d21 ((eval_other _ 170 167 _ (by decide)).trans ((eval_other _ 169 167 _ (by decide)).trans ((eval_other _ 168 167 _ (by decide)).trans (eval_same _ _ _ (by simp only [put_size, hsz]; decide)))))) ?_
                  refine m_unwanted po26 d26 (w_undef gd26 po21 d21 ((eval_other _ 171 167 _ (by decide)).trans ((eval_other _ 170 167 _ (by decide)).trans ((eval_other _ 169 167 _ (by decide)).trans ((eval_other _ 168 167 _ (by decide)).trans (eval_same _ _ _ (by simp only [put_size, hsz]; decide))))))) ?_
                  refine m_unwanted po27 d27 (w_undef gd27 po21 d21 ((eval_other _ 172 167 _ (by decide)).trans ((eval_other _ 171 167 _ (by decide)).trans ((eval_other _ 170 167 _ (by decide)).trans ((eval_other _ 169 167 _ (by decide)).trans ((eval_other _ 168 167 _ (by decide)).trans (eval_same _ _ _ (by simp only [put_size, hsz]; decide)))))))) ?_
                  refine m_unwanted po28 d28 (w_not gd28 po18 d18 ((eval_other _ 173 164 _ (by decide)).trans ((eval_other _ 172 164 _ (by decide)).trans ((eval_other _ 171 164 _ (by decide)).trans ((eval_other _ 170 164 _ (by decide)).trans ((eval_other _ 169 164 _ (by decide)).trans ((eval_other _ 168 164 _ (by decide)).trans ((eval_other _ 167 164 _ (by decide)).trans ((eval_other _ 166 164 _ (by decide)).trans ((eval_other _ 165 164 _ (by decide)).trans (eval_same _ _ _ (by simp only [put_size, hsz]; decide)))))))))))) ?_
                  refine met_free po29 d29 (wanted_guardF gd29 po13 d13 ((eval_other _ 174 159 _ (by decide)).trans ((eval_other _ 173 159 _ (by decide)).trans ((eval_other _ 172 159 _ (by decide)).trans ((eval_other _ 171 159 _ (by decide)).trans ((eval_other _ 170 159 _ (by decide)).trans ((eval_other _ 169 159 _ (by decide)).trans ((eval_other _ 168 159 _ (by decide)).trans ((eval_other _ 167 159 _ (by decide)).trans ((eval_other _ 166 159 _ (by decide)).trans ((eval_other _ 165 159 _ (by decide)).trans ((eval_other _ 164 159 _ (by decide)).trans ((eval_other _ 163 159 _ (by decide)).trans ((eval_other _ 162 159 _ (by decide)).trans ((eval_other _ 161 159 _ (by decide)).trans ((eval_other _ 160 159 _ (by decide)).trans (eval_same _ _ _ (by simp only [put_size, hsz]; decide)))))))))))))))))) (fun w' h' => r_pickF q29 ((eval_other _ 174 164 _ (by decide)).trans ((eval_other _ 173 164 _ (by decide)).trans ((eval_other _ 172 164 _ (by decide)).trans ((eval_other _ 171 164 _ (by decide)).trans ((eval_other _ 170 164 _ (by decide)).trans ((eval_other _ 169 164 _ (by decide)).trans ((eval_other _ 168 164 _ (by decide)).trans ((eval_other _ 167 164 _ (by decide)).trans ((eval_other _ 166 164 _ (by decide)).trans ((eval_other _ 165 164 _ (by decide)).trans (eval_same _ _ _ (by simp only [put_size, hsz]; decide)))))))))))) rfl w') ?_
                  refine met_free po30 d30 (wanted_of gd30) (fun w' h' => r_pickF q30 ((eval_other _ 175 159 _ (by decide)).trans ((eval_other _ 174 159 _ (by decide)).trans ((eval_other _ 173 159 _ (by decide)).trans ((eval_other _ 172 159 _ (by decide)).trans ((eval_other _ 171 159 _ (by decide)).trans ((eval_other _ 170 159 _ (by decide)).trans ((eval_other _ 169 159 _ (by decide)).trans ((eval_other _ 168 159 _ (by decide)).trans ((eval_other _ 167 159 _ (by decide)).trans ((eval_other _ 166 159 _ (by decide)).trans ((eval_other _ 165 159 _ (by decide)).trans ((eval_other _ 164 159 _ (by decide)).trans ((eval_other _ 163 159 _ (by decide)).trans ((eval_other _ 162 159 _ (by decide)).trans ((eval_other _ 161 159 _ (by decide)).trans ((eval_other _ 160 159 _ (by decide)).trans (eval_same _ _ _ (by simp only [put_size, hsz]; decide)))))))))))))))))) (eval_same _ _ _ (by simp only [put_size, hsz]; decide)) w') ?_
                  show NoPanic _ .normal _ _
                  refine NoPanic.normal ?_
                  rw [HAA.out]
                  go_frame
                  clear HAA
                  clear po0 q0 d0 gd0 po1 q1 d1 gd1 po2 q2 d2 gd2 po3 q3 d3 gd3 po4 q4 d4 gd4 po5 q5 d5 gd5 po6 q6 d6 gd6 po7 q7 d7 gd7 po8 q8 d8 gd8 po9 q9 d9 gd9 po10 q10 d10 gd10 po11 q11 d11 gd11 po12 q12 d12 gd12 po13 q13 d13 gd13 po14 q14 d14 gd14 po15 q15 d15 gd15 po16 q16 d16 gd16 po17 q17 d17 gd17 po18 q18 d18 gd18 po19 q19 d19 gd19 po20 q20 d20 gd20 po21 q21 d21 gd21 po22 q22 d22 gd22 po23 q23 d23 gd23 po24 q24 d24 gd24 po25 q25 d25 gd25 po26 q26 d26 gd26 po27 q27 d27 gd27 po28 q28 d28 gd28 po29 q29 d29 gd29 po30 q30 d30 gd30
                  clear base1 base18 base19 base20 hsz
                  clear HOS
                  generalize w14.drew = w15 at HVD HBD ⊢
                  go_wp2_with fail
                  go_roundw
                  case rel => exact ⟨m + 1, by have := HLT.out.1; omega, by go_num, HVD.out, HBD.out⟩
                  case measure => simp [intOf]; omega
                · have hgv := gvV_key hml (k := ks[m]) (by rw [List.getElem_set_ne (by omega), somes_at])
                  generalize ks[m] = km at h32 hrg hgv
                  have HGV := Lib.hid hgv
                  have HEQ : Hid ((((m + 1 : Nat) : Int) == (s : Int) + 1) = false) := show _ = _ from beq_eq_false_iff_ne.2 (by omega)
                  have H32 := Lib.hid h32
                  have HRG := Lib.hid (And.intro hrg hb)
                  have HIK := Lib.hid (infoKey km h32)
                  have HZS : Hid ((bytesV (noughts 32)).toArray.size = (bytesV km).toArray.size) := show _ = _ by rw [bytesV_size _ 32 (noughts_length 32), bytesV_size _ 32 h32]
                  clear hgv hmk hml h32 hrg hv hb hlt hm hms
                  go_wp2_with (go_at_call 22; fail)
                  refine (HVR.out.get ((m : Int) + 1)).mono ?_
                  rintro e w13 ⟨rfl, hb⟩
                  rw [HGV.out]
                  have HV13 := Lib.hid (HVR.out.below hb)
                  have HB13 := Lib.hid (HBR.out.trans (hb.mono HBR.out.size))
                  have HR13 := Lib.hid (range_keep HRG.out.1 hb)
                  clear hb
                  go_upto_region 32 with (show wpList _ _ _ (⟨_, .store 36 _ _, _, _, _, _⟩ :: _) _ _; go_loud (refine wpList_store_new rfl 36 (.tmp 19) (.tmp 144) rfl w13.heap.size rfl (bytesV km).toArray rfl rfl HIK.out (by exact HZS.out) (keyV_ones _) ?_; intro w14 h14 b14; have HT14 := Lib.hid (show BytesAt w14 w13.heap.size 36 km from h14); have HR14 := Lib.hid (range_keep HR13.out b14); have HV14 := Lib.hid (HV13.out.below b14); have HB14 := Lib.hid (HB13.out.trans (b14.mono HB13.out.size)); clear h14 b14))
                  have HOS : Hid (BytesAt w14.drew w13.heap.size 36 km ∧ w14.drew.rangeAt b (off + m * 32) (bytesV km)) := show BytesAt _ _ _ _ ∧ World.rangeAt _ _ _ _ from ⟨HT14.out, HR14.out⟩
                  have HVD := Lib.hid (HV14.out.below (Below.refl _ w14).drew)
                  have HBD := Lib.hid (HB14.out.drew)
                  clear HT14 HV14 HB14 HV13 HB13 HVR HBR HGV HR13 HR14 HRG
                  generalize w13.heap.size = T at HOS ⊢
                  refine region_phase (fun w' => BytesAt w' T 36 km ∧ w'.rangeAt b (off + m * 32) (bytesV km)) (fun _ => True) 99 (HOS.out) trivial [(0, .free), (1, .free), (2, .free), (3, .free), (4, .free), (5, .free), (6, .free), (7, .free), (8, .free), (9, .free), (10, .free), (11, .free), (12, .free), (13, .free), (14, .free), (15, .free), (16, .free), (17, .free), (18, .free), (19, .free), (20, .free), (21, .free), (22, .free), (23, .free), (24, .free), (25, .free), (26, .free), (27, .free), (28, .free), (29, .free), (30, .free)] (by kernel_rfl) (by kernel_rfl) (by kernel_rfl) (by kernel_rfl) (fun ops hops A2 hA => ?_)
                  have hsz : A2.tmps.size = 184 := by rw [hA]; rfl
                  have base1 : A2.eval (.tmp 1) = .int .i64 ((s : Int) + 1) := by rw [hA]; rfl
                  have base18 : A2.eval (.tmp 18) = .int .i64 (m : Int) := by rw [hA]; rfl
                  have base19 : A2.eval (.tmp 19) = .pointer (some ⟨T, 0, none⟩) := by rw [hA]; rfl
                  have base20 : A2.eval (.tmp 20) = .int .i64 0 := by rw [hA]; rfl
                  have base0 : A2.eval (.tmp 0) = .slice (some ⟨b, off, none⟩) i c := by rw [hA]; rfl
                  have HAA := Lib.hid hA; clear hA
                  obtain ⟨o0, po0, q0, d0, gd0⟩ : ∃ o, ops[0]? = some o ∧ o.op = .move (.tmp 18) ∧ o.dst = some 146 ∧ o.guard = none := ⟨_, by rw [hops]; rfl, rfl, rfl, rfl⟩
                  obtain ⟨o1, po1, q1, d1, gd1⟩ : ∃ o, ops[1]? = some o ∧ o.op = .binOp .add 3 (.tmp 146) (.const (.int .i64 1)) 3 ∧ o.dst = some 147 ∧ o.guard = none := ⟨_, by rw [hops]; rfl, rfl, rfl, rfl⟩
                  obtain ⟨o2, po2, q2, d2, gd2⟩ : ∃ o, ops[2]? = some o ∧ o.op = .move (.tmp 1) ∧ o.dst = some 148 ∧ o.guard = none := ⟨_, by rw [hops]; rfl, rfl, rfl, rfl⟩
                  obtain ⟨o3, po3, q3, d3, gd3⟩ : ∃ o, ops[3]? = some o ∧ o.op = .binOp .eql 3 (.tmp 147) (.tmp 148) 3 ∧ o.dst = some 149 ∧ o.guard = none := ⟨_, by rw [hops]; rfl, rfl, rfl, rfl⟩
                  obtain ⟨o4, po4, q4, d4, gd4⟩ : ∃ o, ops[4]? = some o ∧ o.op = .move (.tmp 149) ∧ o.dst = some 150 ∧ o.guard = none := ⟨_, by rw [hops]; rfl, rfl, rfl, rfl⟩
                  obtain ⟨o5, po5, q5, d5, gd5⟩ : ∃ o, ops[5]? = some o ∧ o.op = .move (.tmp 20) ∧ o.dst = some 151 ∧ o.guard = some (4, true) := ⟨_, by rw [hops]; rfl, rfl, rfl, rfl⟩
                  obtain ⟨o6, po6, q6, d6, gd6⟩ : ∃ o, ops[6]? = some o ∧ o.op = .binOp .neq 43 (.tmp 151) (.const (.int .i64 17)) 43 ∧ o.dst = some 152 ∧ o.guard = some (4, true) := ⟨_, by rw [hops]; rfl, rfl, rfl, rfl⟩
                  obtain ⟨o7, po7, q7, d7, gd7⟩ : ∃ o, ops[7]? = some o ∧ o.op = .move (.tmp 152) ∧ o.dst = some 153 ∧ o.guard = some (4, true) := ⟨_, by rw [hops]; rfl, rfl, rfl, rfl⟩
                  obtain ⟨o8, po8, q8, d8, gd8⟩ : ∃ o, ops[8]? = some o ∧ o.op = .load 36 (.tmp 19) ∧ o.dst = some 154 ∧ o.guard = some (7, false) := ⟨_, by rw [hops]; rfl, rfl, rfl, rfl⟩
                  obtain ⟨o9, po9, q9, d9, gd9⟩ : ∃ o, ops[9]? = some o ∧ o.op = .build 36 #[] ∧ o.dst = some 155 ∧ o.guard = some (7, false) := ⟨_, by rw [hops]; rfl, rfl, rfl, rfl⟩
                  obtain ⟨o10, po10, q10, d10, gd10⟩ : ∃ o, ops[10]? = some o ∧ o.op = .binOp .neq 36 (.tmp 154) (.tmp 155) 36 ∧ o.dst = some 156 ∧ o.guard = some (7, false) := ⟨_, by rw [hops]; rfl, rfl, rfl, rfl⟩
                  obtain ⟨o11, po11, q11, d11, gd11⟩ : ∃ o, ops[11]? = some o ∧ o.op = .pick (.tmp 153) (.const (.bool true)) (.tmp 156) ∧ o.dst = some 157 ∧ o.guard = some (4, true) := ⟨_, by rw [hops]; rfl, rfl, rfl, rfl⟩
                  obtain ⟨o12, po12, q12, d12, gd12⟩ : ∃ o, ops[12]? = some o ∧ o.op = .pick (.tmp 150) (.tmp 157) (.const (.bool false)) ∧ o.dst = some 158 ∧ o.guard = none := ⟨_, by rw [hops]; rfl, rfl, rfl, rfl⟩
                  obtain ⟨o13, po13, q13, d13, gd13⟩ : ∃ o, ops[13]? = some o ∧ o.op = .move (.tmp 158) ∧ o.dst = some 159 ∧ o.guard = none := ⟨_, by rw [hops]; rfl, rfl, rfl, rfl⟩
                  obtain ⟨o14, po14, q14, d14, gd14⟩ : ∃ o, ops[14]? = some o ∧ o.op = .move (.tmp 18) ∧ o.dst = some 160 ∧ o.guard = some (13, false) := ⟨_, by rw [hops]; rfl, rfl, rfl, rfl⟩
                  obtain ⟨o15, po15, q15, d15, gd15⟩ : ∃ o, ops[15]? = some o ∧ o.op = .binOp .add 3 (.tmp 160) (.const (.int .i64 1)) 3 ∧ o.dst = some 161 ∧ o.guard = some (13, false) := ⟨_, by rw [hops]; rfl, rfl, rfl, rfl⟩
                  obtain ⟨o16, po16, q16, d16, gd16⟩ : ∃ o, ops[16]? = some o ∧ o.op = .move (.tmp 1) ∧ o.dst = some 162 ∧ o.guard = some (13, false) := ⟨_, by rw [hops]; rfl, rfl, rfl, rfl⟩
                  obtain ⟨o17, po17, q17, d17, gd17⟩ : ∃ o, ops[17]? = some o ∧ o.op = .binOp .neq 3 (.tmp 161) (.tmp 162) 3 ∧ o.dst = some 163 ∧ o.guard = some (13, false) := ⟨_, by rw [hops]; rfl, rfl, rfl, rfl⟩
                  obtain ⟨o18, po18, q18, d18, gd18⟩ : ∃ o, ops[18]? = some o ∧ o.op = .move (.tmp 163) ∧ o.dst = some 164 ∧ o.guard = some (13, false) := ⟨_, by rw [hops]; rfl, rfl, rfl, rfl⟩
                  obtain ⟨o19, po19, q19, d19, gd19⟩ : ∃ o, ops[19]? = some o ∧ o.op = .move (.tmp 20) ∧ o.dst = some 165 ∧ o.guard = some (18, true) := ⟨_, by rw [hops]; rfl, rfl, rfl, rfl⟩
                  obtain ⟨o20, po20, q20, d20, gd20⟩ : ∃ o, ops[20]? = some o ∧ o.op = .binOp .neq 43 (.tmp 165) (.const (.int .i64 0)) 43 ∧ o.dst = some 166 ∧ o.guard = some (18, true) := ⟨_, by rw [hops]; rfl, rfl, rfl, rfl⟩
                  obtain ⟨o21, po21, q21, d21, gd21⟩ : ∃ o, ops[21]? = some o ∧ o.op = .move (.tmp 166) ∧ o.dst = some 167 ∧ o.guard = some (18, true) := ⟨_, by rw [hops]; rfl, rfl, rfl, rfl⟩
                  obtain ⟨o22, po22, q22, d22, gd22⟩ : ∃ o, ops[22]? = some o ∧ o.op = .load 36 (.tmp 19) ∧ o.dst = some 168 ∧ o.guard = some (21, false) := ⟨_, by rw [hops]; rfl, rfl, rfl, rfl⟩
                  obtain ⟨o23, po23, q23, d23, gd23⟩ : ∃ o, ops[23]? = some o ∧ o.op = .move (.tmp 0) ∧ o.dst = some 169 ∧ o.guard = some (21, false) := ⟨_, by rw [hops]; rfl, rfl, rfl, rfl⟩
                  obtain ⟨o24, po24, q24, d24, gd24⟩ : ∃ o, ops[24]? = some o ∧ o.op = .move (.tmp 18) ∧ o.dst = some 170 ∧ o.guard = some (21, false) := ⟨_, by rw [hops]; rfl, rfl, rfl, rfl⟩
                  obtain ⟨o25, po25, q25, d25, gd25⟩ : ∃ o, ops[25]? = some o ∧ o.op = .indexAddr 47 (.tmp 169) (.tmp 170) ∧ o.dst = some 171 ∧ o.guard = some (21, false) := ⟨_, by rw [hops]; rfl, rfl, rfl, rfl⟩
                  obtain ⟨o26, po26, q26, d26, gd26⟩ : ∃ o, ops[26]? = some o ∧ o.op = .load 36 (.tmp 171) ∧ o.dst = some 172 ∧ o.guard = some (21, false) := ⟨_, by rw [hops]; rfl, rfl, rfl, rfl⟩
                  obtain ⟨o27, po27, q27, d27, gd27⟩ : ∃ o, ops[27]? = some o ∧ o.op = .binOp .neq 36 (.tmp 168) (.tmp 172) 36 ∧ o.dst = some 173 ∧ o.guard = some (21, false) := ⟨_, by rw [hops]; rfl, rfl, rfl, rfl⟩
                  obtain ⟨o28, po28, q28, d28, gd28⟩ : ∃ o, ops[28]? = some o ∧ o.op = .pick (.tmp 167) (.const (.bool true)) (.tmp 173) ∧ o.dst = some 174 ∧ o.guard = some (18, true) := ⟨_, by rw [hops]; rfl, rfl, rfl, rfl⟩
                  obtain ⟨o29, po29, q29, d29, gd29⟩ : ∃ o, ops[29]? = some o ∧ o.op = .pick (.tmp 164) (.tmp 174) (.const (.bool false)) ∧ o.dst = some 175 ∧ o.guard = some (13, false) := ⟨_, by rw [hops]; rfl, rfl, rfl, rfl⟩
                  obtain ⟨o30, po30, q30, d30, gd30⟩ : ∃ o, ops[30]? = some o ∧ o.op = .pick (.tmp 159) (.const (.bool true)) (.tmp 175) ∧ o.dst = some 176 ∧ o.guard = none := ⟨_, by rw [hops]; rfl, rfl, rfl, rfl⟩
                  clear hops
                  refine met_free po0 d0 (wanted_of gd0) (fun w' h' => run_move q0 base18 w') ?_
                  refine met_free po1 d1 (wanted_of gd1) (fun w' h' => run_addOneV q1 (fun _ => rfl) (eval_same _ _ _ (by rw [hsz]; decide)) HM60.out.1 w') ?_
                  refine met_free po2 d2 (wanted_of gd2) (fun w' h' => run_move q2 ((eval_other _ 147 1 _ (by decide)).trans ((eval_other _ 146 1 _ (by decide)).trans base1)) w') ?_
                  refine met_free po3 d3 (wanted_of gd3) (fun w' h' => run_eqIV q3 ((eval_other _ 148 147 _ (by decide)).trans (eval_same _ _ _ (by simp only [put_size, hsz]; decide))) (eval_same _ _ _ (by simp only [put_size, hsz]; decide)) HEQ.out w') ?_
                  refine met_free po4 d4 (wanted_of gd4) (fun w' h' => run_move q4 (eval_same _ _ _ (by simp only [put_size, hsz]; decide)) w') ?_
                  refine m_unwanted po5 d5 (w_not gd5 po4 d4 (eval_same _ _ _ (by simp only [put_size, hsz]; decide))) ?_
                  refine m_unwanted po6 d6 (w_not gd6 po4 d4 ((eval_other _ 151 150 _ (by decide)).trans (eval_same _ _ _ (by simp only [put_size, hsz]; decide)))) ?_
                  refine m_unwanted po7 d7 (w_not gd7 po4 d4 ((eval_other _ 152 150 _ (by decide)).trans ((eval_other _ 151 150 _ (by decide)).trans (eval_same _ _ _ (by simp only [put_size, hsz]; decide))))) ?_
                  refine m_unwanted po8 d8 (w_undef gd8 po7 d7 (eval_same _ _ _ (by simp only [put_size, hsz]; decide))) ?_
                  refine m_unwanted po9 d9 (w_undef gd9 po7 d7 ((eval_other _ 154 153 _ (by decide)).trans (eval_same _ _ _ (by simp only [put_size, hsz]; decide)))) ?_
                  refine m_unwanted po10 d10 (w_undef gd10 po7 d7 ((eval_other _ 155 153 _ (by decide)).trans ((eval_other _ 154 153 _ (by decide)).trans (eval_same _ _ _ (by simp only [put_size, hsz]; decide))))) ?_
                  refine m_unwanted po11 d11 (w_not gd11 po4 d4 ((eval_other _ 156 150 _ (by decide)).trans ((eval_other _ 155 150 _ (by decide)).trans ((eval_other _ 154 150 _ (by decide)).trans ((eval_other _ 153 150 _ (by decide)).trans ((eval_other _ 152 150 _ (by decide)).trans ((eval_other _ 151 150 _ (by decide)).trans (eval_same _ _ _ (by simp only [put_size, hsz]; decide))))))))) ?_
                  refine met_free po12 d12 (wanted_of gd12) (fun w' h' => r_pickF q12 ((eval_other _ 157 150 _ (by decide)).trans ((eval_other _ 156 150 _ (by decide)).trans ((eval_other _ 155 150 _ (by decide)).trans ((eval_other _ 154 150 _ (by decide)).trans ((eval_other _ 153 150 _ (by decide)).trans ((eval_other _ 152 150 _ (by decide)).trans ((eval_other _ 151 150 _ (by decide)).trans (eval_same _ _ _ (by simp only [put_size, hsz]; decide))))))))) rfl w') ?_
                  refine met_free po13 d13 (wanted_of gd13) (fun w' h' => run_move q13 (eval_same _ _ _ (by simp only [put_size, hsz]; decide)) w') ?_
                  refine met_free po14 d14 (wanted_guardF gd14 po13 d13 (eval_same _ _ _ (by simp only [put_size, hsz]; decide))) (fun w' h' => run_move q14 ((eval_other _ 159 18 _ (by decide)).trans ((eval_other _ 158 18 _ (by decide)).trans ((eval_other _ 157 18 _ (by decide)).trans ((eval_other _ 156 18 _ (by decide)).trans ((eval_other _ 155 18 _ (by decide)).trans ((eval_other _ 154 18 _ (by decide)).trans ((eval_other _ 153 18 _ (by decide)).trans ((eval_other _ 152 18 _ (by decide)).trans ((eval_other _ 151 18 _ (by decide)).trans ((eval_other _ 150 18 _ (by decide)).trans ((eval_other _ 149 18 _ (by decide)).trans ((eval_other _ 148 18 _ (by decide)).trans ((eval_other _ 147 18 _ (by decide)).trans ((eval_other _ 146 18 _ (by decide)).trans base18)))))))))))))) w') ?_
                  refine met_free po15 d15 (wanted_guardF gd15 po13 d13 ((eval_other _ 160 159 _ (by decide)).trans (eval_same _ _ _ (by simp only [put_size, hsz]; decide)))) (fun w' h' => run_addOneV q15 (fun _ => rfl) (eval_same _ _ _ (by simp only [put_size, hsz]; decide)) HM60.out.1 w') ?_
                  refine met_free po16 d16 (wanted_guardF gd16 po13 d13 ((eval_other _ 161 159 _ (by decide)).trans ((eval_other _ 160 159 _ (by decide)).trans (eval_same _ _ _ (by simp only [put_size, hsz]; decide))))) (fun w' h' => run_move q16 ((eval_other _ 161 1 _ (by decide)).trans ((eval_other _ 160 1 _ (by decide)).trans ((eval_other _ 159 1 _ (by decide)).trans ((eval_other _ 158 1 _ (by decide)).trans ((eval_other _ 157 1 _ (by decide)).trans ((eval_other _ 156 1 _ (by decide)).trans ((eval_other _ 155 1 _ (by decide)).trans ((eval_other _ 154 1 _ (by decide)).trans ((eval_other _ 153 1 _ (by decide)).trans ((eval_other _ 152 1 _ (by decide)).trans ((eval_other _ 151 1 _ (by decide)).trans ((eval_other _ 150 1 _ (by decide)).trans ((eval_other _ 149 1 _ (by decide)).trans ((eval_other _ 148 1 _ (by decide)).trans ((eval_other _ 147 1 _ (by decide)).trans ((eval_other _ 146 1 _ (by decide)).trans base1)))))))))))))))) w') ?_
                  refine met_free po17 d17 (wanted_guardF gd17 po13 d13 ((eval_other _ 162 159 _ (by decide)).trans ((eval_other _ 161 159 _ (by decide)).trans ((eval_other _ 160 159 _ (by decide)).trans (eval_same _ _ _ (by simp only [put_size, hsz]; decide)))))) (fun w' h' => run_neIV q17 ((eval_other _ 162 161 _ (by decide)).trans (eval_same _ _ _ (by simp only [put_size, hsz]; decide))) (eval_same _ _ _ (by simp only [put_size, hsz]; decide)) (by rw [HEQ.out]) w') ?_
                  refine met_free po18 d18 (wanted_guardF gd18 po13 d13 ((eval_other _ 163 159 _ (by decide)).trans ((eval_other _ 162 159 _ (by decide)).trans ((eval_other _ 161 159 _ (by decide)).trans ((eval_other _ 160 159 _ (by decide)).trans (eval_same _ _ _ (by simp only [put_size, hsz]; decide))))))) (fun w' h' => run_move q18 (eval_same _ _ _ (by simp only [put_size, hsz]; decide)) w') ?_
                  refine met_free po19 d19 (wanted_guard gd19 po18 d18 (eval_same _ _ _ (by simp only [put_size, hsz]; decide))) (fun w' h' => run_move q19 ((eval_other _ 164 20 _ (by decide)).trans ((eval_other _ 163 20 _ (by decide)).trans ((eval_other _ 162 20 _ (by decide)).trans ((eval_other _ 161 20 _ (by decide)).trans ((eval_other _ 160 20 _ (by decide)).trans ((eval_other _ 159 20 _ (by decide)).trans ((eval_other _ 158 20 _ (by decide)).trans ((eval_other _ 157 20 _ (by decide)).trans ((eval_other _ 156 20 _ (by decide)).trans ((eval_other _ 155 20 _ (by decide)).trans ((eval_other _ 154 20 _ (by decide)).trans ((eval_other _ 153 20 _ (by decide)).trans ((eval_other _ 152 20 _ (by decide)).trans ((eval_other _ 151 20 _ (by decide)).trans ((eval_other _ 150 20 _ (by decide)).trans ((eval_other _ 149 20 _ (by decide)).trans ((eval_other _ 148 20 _ (by decide)).trans ((eval_other _ 147 20 _ (by decide)).trans ((eval_other _ 146 20 _ (by decide)).trans base20))))))))))))))))))) w') ?_
                  refine met_free po20 d20 (wanted_guard gd20 po18 d18 ((eval_other _ 165 164 _ (by decide)).trans (eval_same _ _ _ (by simp only [put_size, hsz]; decide)))) (fun w' h' => run_neErrC q20 (fun _ => rfl) (eval_same _ _ _ (by simp only [put_size, hsz]; decide)) w') ?_
                  refine met_free po21 d21 (wanted_guard gd21 po18 d18 ((eval_other _ 166 164 _ (by decide)).trans ((eval_other _ 165 164 _ (by decide)).trans (eval_same _ _ _ (by simp only [put_size, hsz]; decide))))) (fun w' h' => run_move q21 (eval_same _ _ _ (by simp only [put_size, hsz]; decide)) w') ?_
                  refine met_free po22 d22 (wanted_guardF gd22 po21 d21 (eval_same _ _ _ (by simp only [put_size, hsz]; decide))) (fun w' h' => run_loadKeyB q22 ((eval_other _ 167 19 _ (by decide)).trans ((eval_other _ 166 19 _ (by decide)).trans ((eval_other _ 165 19 _ (by decide)).trans ((eval_other _ 164 19 _ (by decide)).trans ((eval_other _ 163 19 _ (by decide)).trans ((eval_other _ 162 19 _ (by decide)).trans ((eval_other _ 161 19 _ (by decide)).trans ((eval_other _ 160 19 _ (by decide)).trans ((eval_other _ 159 19 _ (by decide)).trans ((eval_other _ 158 19 _ (by decide)).trans ((eval_other _ 157 19 _ (by decide)).trans ((eval_other _ 156 19 _ (by decide)).trans ((eval_other _ 155 19 _ (by decide)).trans ((eval_other _ 154 19 _ (by decide)).trans ((eval_other _ 153 19 _ (by decide)).trans ((eval_other _ 152 19 _ (by decide)).trans ((eval_other _ 151 19 _ (by decide)).trans ((eval_other _ 150 19 _ (by decide)).trans ((eval_other _ 149 19 _ (by decide)).trans ((eval_other _ 148 19 _ (by decide)).trans ((eval_other _ 147 19 _ (by decide)).trans ((eval_other _ 146 19 _ (by decide)).trans base19)))))))))))))))))))))) H32.out h'.1) ?_
                  refine met_free po23 d23 (wanted_guardF gd23 po21 d21 ((eval_other _ 168 167 _ (by decide)).trans (eval_same _ _ _ (by simp only [put_size, hsz]; decide)))) (fun w' h' => run_move q23 ((eval_other _ 168 0 _ (by decide)).trans ((eval_other _ 167 0 _ (by decide)).trans ((eval_other _ 166 0 _ (by decide)).trans ((eval_other _ 165 0 _ (by decide)).trans ((eval_other _ 164 0 _ (by decide)).trans ((eval_other _ 163 0 _ (by decide)).trans ((eval_other _ 162 0 _ (by decide)).trans ((eval_other _ 161 0 _ (by decide)).trans ((eval_other _ 160 0 _ (by decide)).trans ((eval_other _ 159 0 _ (by decide)).trans ((eval_other _ 158 0 _ (by decide)).trans ((eval_other _ 157 0 _ (by decide)).trans ((eval_other _ 156 0 _ (by decide)).trans ((eval_other _ 155 0 _ (by decide)).trans ((eval_other _ 154 0 _ (by decide)).trans ((eval_other _ 153 0 _ (by decide)).trans ((eval_other _ 152 0 _ (by decide)).trans ((eval_other _ 151 0 _ (by decide)).trans ((eval_other _ 150 0 _ (by decide)).trans ((eval_other _ 149 0 _ (by decide)).trans ((eval_other _ 148 0 _ (by decide)).trans ((eval_other _ 147 0 _ (by decide)).trans ((eval_other _ 146 0 _ (by decide)).trans base0))))))))))))))))))))))) w') ?_
                  refine met_free po24 d24 (wanted_guardF gd24 po21 d21 ((eval_other _ 169 167 _ (by decide)).trans ((eval_other _ 168 167 _ (by decide)).trans (eval_same _ _ _ (by simp only [put_size, hsz]; decide))))) (fun w' h' => run_move q24 ((eval_other _ 169 18 _ (by decide)).trans ((eval_other _ 168 18 _ (by decide)).trans ((eval_other _ 167 18 _ (by decide)).trans ((eval_other _ 166 18 _ (by decide)).trans ((eval_other _ 165 18 _ (by decide)).trans ((eval_other _ 164 18 _ (by decide)).trans ((eval_other _ 163 18 _ (by decide)).trans ((eval_other _ 162 18 _ (by decide)).trans ((eval_other _ 161 18 _ (by decide)).trans ((eval_other _ 160 18 _ (by decide)).trans ((eval_other _ 159 18 _ (by decide)).trans ((eval_other _ 158 18 _ (by decide)).trans ((eval_other _ 157 18 _ (by decide)).trans ((eval_other _ 156 18 _ (by decide)).trans ((eval_other _ 155 18 _ (by decide)).trans ((eval_other _ 154 18 _ (by decide)).trans ((eval_other _ 153 18 _ (by decide)).trans ((eval_other _ 152 18 _ (by decide)).trans ((eval_other _ 151 18 _ (by decide)).trans ((eval_other _ 150 18 _ (by decide)).trans ((eval_other _ 149 18 _ (by decide)).trans ((eval_other _ 148 18 _ (by decide)).trans ((eval_other _ 147 18 _ (by decide)).trans ((eval_other _ 146 18 _ (by decide)).trans base18)))))))))))))))))))))))) w') ?_
                  refine met_free po25 d25 (wanted_guardF gd25 po21 d21 ((eval_other _ 170 167 _ (by decide)).trans ((eval_other _ 169 167 _ (by decide)).trans ((eval_other _ 168 167 _ (by decide)).trans (eval_same _ _ _ (by simp only [put_size, hsz]; decide)))))) (fun w' h' => run_ixKeyO q25 ((eval_other _ 170 169 _ (by decide)).trans (eval_same _ _ _ (by simp only [put_size, hsz]; decide))) (eval_same _ _ _ (by simp only [put_size, hsz]; decide)) HLT.out.1 w') ?_
                  refine met_free po26 d26 (wanted_guardF gd26 po21 d21 ((eval_other _ 171 167 _ (by decide)).trans ((eval_other _ 170 167 _ (by decide)).trans ((eval_other _ 169 167 _ (by decide)).trans ((eval_other _ 168 167 _ (by decide)).trans (eval_same _ _ _ (by simp only [put_size, hsz]; decide))))))) (fun w' h' => run_loadKeyR q26 (eval_same _ _ _ (by simp only [put_size, hsz]; decide)) H32.out h'.2) ?_
                  refine met_free po27 d27 (wanted_guardF gd27 po21 d21 ((eval_other _ 172 167 _ (by decide)).trans ((eval_other _ 171 167 _ (by decide)).trans ((eval_other _ 170 167 _ (by decide)).trans ((eval_other _ 169 167 _ (by decide)).trans ((eval_other _ 168 167 _ (by decide)).trans (eval_same _ _ _ (by simp only [put_size, hsz]; decide)))))))) (fun w' h' => run_neKeyS q27 H32.out ((eval_other _ 172 168 _ (by decide)).trans ((eval_other _ 171 168 _ (by decide)).trans ((eval_other _ 170 168 _ (by decide)).trans ((eval_other _ 169 168 _ (by decide)).trans (eval_same _ _ _ (by simp only [put_size, hsz]; decide)))))) (eval_same _ _ _ (by simp only [put_size, hsz]; decide)) w') ?_
                  refine met_free po28 d28 (wanted_guard gd28 po18 d18 ((eval_other _ 173 164 _ (by decide)).trans ((eval_other _ 172 164 _ (by decide)).trans ((eval_other _ 171 164 _ (by decide)).trans ((eval_other _ 170 164 _ (by decide)).trans ((eval_other _ 169 164 _ (by decide)).trans ((eval_other _ 168 164 _ (by decide)).trans ((eval_other _ 167 164 _ (by decide)).trans ((eval_other _ 166 164 _ (by decide)).trans ((eval_other _ 165 164 _ (by decide)).trans (eval_same _ _ _ (by simp only [put_size, hsz]; decide)))))))))))) (fun w' h' => r_pickF q28 ((eval_other _ 173 167 _ (by decide)).trans ((eval_other _ 172 167 _ (by decide)).trans ((eval_other _ 171 167 _ (by decide)).trans ((eval_other _ 170 167 _ (by decide)).trans ((eval_other _ 169 167 _ (by decide)).trans ((eval_other _ 168 167 _ (by decide)).trans (eval_same _ _ _ (by simp only [put_size, hsz]; decide)))))))) (eval_same _ _ _ (by simp only [put_size, hsz]; decide)) w') ?_
                  refine met_free po29 d29 (wanted_guardF gd29 po13 d13 ((eval_other _ 174 159 _ (by decide)).trans ((eval_other _ 173 159 _ (by decide)).trans ((eval_other _ 172 159 _ (by decide)).trans ((eval_other _ 171 159 _ (by decide)).trans ((eval_other _ 170 159 _ (by decide)).trans ((eval_other _ 169 159 _ (by decide)).trans ((eval_other _ 168 159 _ (by decide)).trans ((eval_other _ 167 159 _ (by decide)).trans ((eval_other _ 166 159 _ (by decide)).trans ((eval_other _ 165 159 _ (by decide)).trans ((eval_other _ 164 159 _ (by decide)).trans ((eval_other _ 163 159 _ (by decide)).trans ((eval_other _ 162 159 _ (by decide)).trans ((eval_other _ 161 159 _ (by decide)).trans ((eval_other _ 160 159 _ (by decide)).trans (eval_same _ _ _ (by simp only [put_size, hsz]; decide)))))))))))))))))) (fun w' h' => run_pick_true q29 ((eval_other _ 174 164 _ (by decide)).trans ((eval_other _ 173 164 _ (by decide)).trans ((eval_other _ 172 164 _ (by decide)).trans ((eval_other _ 171 164 _ (by decide)).trans ((eval_other _ 170 164 _ (by decide)).trans ((eval_other _ 169 164 _ (by decide)).trans ((eval_other _ 168 164 _ (by decide)).trans ((eval_other _ 167 164 _ (by decide)).trans ((eval_other _ 166 164 _ (by decide)).trans ((eval_other _ 165 164 _ (by decide)).trans (eval_same _ _ _ (by simp only [put_size, hsz]; decide)))))))))))) (eval_same _ _ _ (by simp only [put_size, hsz]; decide)) w') ?_
                  refine met_free po30 d30 (wanted_of gd30) (fun w' h' => r_pickF q30 ((eval_other _ 175 159 _ (by decide)).trans ((eval_other _ 174 159 _ (by decide)).trans ((eval_other _ 173 159 _ (by decide)).trans ((eval_other _ 172 159 _ (by decide)).trans ((eval_other _ 171 159 _ (by decide)).trans ((eval_other _ 170 159 _ (by decide)).trans ((eval_other _ 169 159 _ (by decide)).trans ((eval_other _ 168 159 _ (by decide)).trans ((eval_other _ 167 159 _ (by decide)).trans ((eval_other _ 166 159 _ (by decide)).trans ((eval_other _ 165 159 _ (by decide)).trans ((eval_other _ 164 159 _ (by decide)).trans ((eval_other _ 163 159 _ (by decide)).trans ((eval_other _ 162 159 _ (by decide)).trans ((eval_other _ 161 159 _ (by decide)).trans ((eval_other _ 160 159 _ (by decide)).trans (eval_same _ _ _ (by simp only [put_size, hsz]; decide)))))))))))))))))) (eval_same _ _ _ (by simp only [put_size, hsz]; decide)) w') ?_
                  show NoPanic _ .normal _ _
                  refine NoPanic.normal ?_
                  rw [HAA.out]
                  go_frame
                  clear HAA
                  clear po0 q0 d0 gd0 po1 q1 d1 gd1 po2 q2 d2 gd2 po3 q3 d3 gd3 po4 q4 d4 gd4 po5 q5 d5 gd5 po6 q6 d6 gd6 po7 q7 d7 gd7 po8 q8 d8 gd8 po9 q9 d9 gd9 po10 q10 d10 gd10 po11 q11 d11 gd11 po12 q12 d12 gd12 po13 q13 d13 gd13 po14 q14 d14 gd14 po15 q15 d15 gd15 po16 q16 d16 gd16 po17 q17 d17 gd17 po18 q18 d18 gd18 po19 q19 d19 gd19 po20 q20 d20 gd20 po21 q21 d21 gd21 po22 q22 d22 gd22 po23 q23 d23 gd23 po24 q24 d24 gd24 po25 q25 d25 gd25 po26 q26 d26 gd26 po27 q27 d27 gd27 po28 q28 d28 gd28 po29 q29 d29 gd29 po30 q30 d30 gd30
                  clear base0 base1 base18 base19 base20 hsz
                  clear HOS
                  generalize w14.drew = w15 at HVD HBD ⊢
                  go_wp2_with fail
                  go_roundw
                  case rel => exact ⟨m + 1, by have := HLT.out.1; omega, by go_num, HVD.out, HBD.out⟩
                  case measure => simp [intOf]; omega
              · obtain rfl : m = i := by omega
                have q4 : ¬ (m : Int) < (m : Int) := by omega
                have hrd4 : d4.read 0 = WB := by
                  have := HC5.out.file
                  rw [HWB.out] at this
                  unfold DiskM.read
                  rw [if_pos (by omega)]; exact this
                have HRD4 := Lib.hid hrd4
                clear hrd4 hv hb hlt hm
                go_wp2_with (go_at_call 15; fail)
                refine (HVR.out.disk.read 0).mono ?_
                rintro e w13 ⟨sv, rfl, ho, hb⟩
                rw [HRD4.out] at ho
                obtain ⟨q3, cq3, rfl, -, -, hl3⟩ := ho.slP HWL.out
                have HQ3 := Lib.hid hl3
                have HB13 := Lib.hid (HBR.out.trans (hb.mono HBR.out.size))
                have hlq : Lies w13 (some ⟨bw, 0, none⟩) WB := by
                  have h9 := HKW.out.row w13 (fun x hx => (HVR.out.below hb).all x hx)
                  have ho : Own w.heap.size w13 WB (.slice (some ⟨bw, 0, none⟩) M cq) := by unfold Own; rw [HWL.out]; exact h9
                  obtain ⟨_, _, e, -, -, hl⟩ := ho.slP HWL.out
                  cases e
                  exact hl
                have HLQ := Lib.hid hlq
                clear ho hb hl3 hlq HVR HBR
                go_wp2_with (go_at_call 14; fail)
                refine (sameBytes_any WB WB M M q3 (some ⟨bw, 0, none⟩) cq3 cq w13 HWL.out HWL.out HSM.out.1 HSM.out.1 HQ3.out HLQ.out).mono ?_
                rintro e w14 ⟨rfl, hb⟩
                have HDE2 : Hid (decide (WB = WB) = true) := show _ = _ from decide_eq_true rfl
                rw [HDE2.out]
                have HB14 := Lib.hid (HB13.out.trans (hb.mono HB13.out.size))
                clear hb
                go_wp2_with (go_at_call 10; refine (works11_any w14 (HR.out.on HB14.out)).mono ?_; rintro e w15 ⟨rfl, hb⟩; have HB15 := Lib.hid (HB14.out.trans (hb.mono HB14.out.size)); clear hb)
                go_ret
                exact ⟨rfl, HB15.out⟩
end Go.Proofs.YtdkoomcmkfnfkaaDoor

/-
  VaultZeroes, for any keys, slot and kept number: the law returns true, and what came in reads afterwards as it read before; the package's table starts as the program's own text lays it (the tie is given).
-/
namespace Go.Proofs.YtdkoomcmkfnfkaaDoor
open Go.ChangeShapes Go.WideShapes Go.ChangeAt Go.RowKit Go.Proofs.ShaWords

set_option maxRecDepth 100000 in
theorem vaultZeroes_lifted (os : Os) (started : os.Started) (H : Type) (enc : TypeId × Value → H) :
    ReturnsInHanded {} Tryd.checked os 4 .any (fun w args => (Rows.vaultZeroesSpec.pre enc Tryd.prog Tryd.f4 [] false w args ∧ laidMetH Tryd.prog laid11 w) ∧ sizedMet enc Tryd.prog Tryd.f4 (OpenSpec.ofChange Rows.vaultZeroesSpec) false w args)
      (Rows.vaultZeroesSpec.post enc Tryd.prog Tryd.f4 false true false false) := by
  refine returnsInHanded_of_change_and (C := Tryd.checked) (X := fun w _ => laidMetH Tryd.prog laid11 w) (fun _ _ _ hh h => h.of_heap hh) own started (by kernel_rfl) Tryd.func4
    (ChangeSpec.witness_shaped (enc := enc) (C := Tryd.checked) (os := os) (X := fun w _ => laidMetH Tryd.prog laid11 w) false (World.doorLaid Tryd.prog 400 os) #[.slice none 0 0, .int .i64 0, .int .i64 0] 8 rfl (World.shaped_of_RefB (by kernel_rfl) (by kernel_rfl)) (by kernel_rfl) (by kernel_rfl) (by kernel_rfl) (door_met11 os _)) ?_
  intro W base args ds gs before hval0 hW _ hsz hL _
  have hW' := hW
  obtain ⟨p, q, hA0, hV, rfl, hfz, hnd⟩ := hW
  have hA : DataW.TrodAll enc Tryd.prog W 0 (fun _ => true) true Tryd.f4.params.toList args.toList ds p := hA0
  have hval : ∀ (j : Nat) t v, Tryd.f4.params[j]? = some t → args[j]? = some v → Value.okWide Tryd.prog W .any base t v := hval0
  have hsz2 : (DataW.weightsEach Tryd.prog (Tryd.f4.params.toList ++ Rows.vaultZeroesSpec.plain.varTypes Tryd.prog) (ds ++ gs)).all (· ≤ reachBytes) = true := hsz
  rw [Tryd.params4] at hA hval hsz2
  obtain ⟨v0, vs0, d0, ds0, p0, q0, hargs, rfl, rfl, h0, r0⟩ := trodAll_cons hA
  obtain ⟨v1, vs1, d1, ds1, p1, q1, rfl, rfl, rfl, h1, r1⟩ := trodAll_cons r0
  obtain ⟨v2, vs2, d2, ds2, p2, q2, rfl, rfl, rfl, h2, r2⟩ := trodAll_cons r1
  obtain ⟨rfl, rfl, rfl⟩ := trodAll_nil r2
  obtain rfl : args = #[v0, v1, v2] := by cases args; simp_all
  obtain ⟨rfl, rfl⟩ := trodVars_none hV
  obtain ⟨a0, len0, cap0, rfl⟩ := okWide_slice Tryd.underlying47 (hval 0 47 v0 rfl rfl)
  have k0 := h0
  have lt0 : ∀ x ∈ p0, x.block < W.heap.size := by obtain ⟨m, hm⟩ := k0; exact DataW.trod_lt m _ _ _ hm
  obtain ⟨f0, hf0⟩ := h0
  obtain ⟨os0, hx0a, hx0b, hx0c, hx0d⟩ := open_keysIn hf0
  obtain ⟨z1, rfl, rfl, rfl, wz1⟩ := open_int Tryd.underlying3 (hval 1 3 v1 rfl rfl) h1
  obtain ⟨z2, rfl, rfl, rfl, wz2⟩ := open_int Tryd.underlying3 (hval 2 3 v2 rfl rfl) h2
  have hQ := of_laid11 hL
  clear hA0 hval0
  refine (vtZeroes_any os0 z1 z2 len0 cap0 a0 W hx0a hx0c hx0d hQ).mono fun e W' ⟨he, bel⟩ => ?_
  subst he
  exact ⟨_, rfl, _, _, _, [], _, [], hW', trodAll_mk1 (shut_bool Tryd.underlying4 _), (trodAll_cons_mk (Below.trod laidOut (by kernel_rfl) (of_decide_eq_true (by kernel_rfl)) k0 bel lt0) (trodAll_cons_mk (shut_int Tryd.underlying3 wz1) (trodAll_cons_mk (shut_int Tryd.underlying3 wz2) trodAll_mk0))), rfl, bel.frame _, fun h => by cases h⟩

theorem vaultZeroes_holds : Rows.VaultZeroesSaid :=
  OpenClaim.holds_of_wide 4 Tryd.f4 rfl rfl rfl rfl rfl rfl rfl ⟨rfl, rfl, rfl, rfl, rfl⟩ rfl rfl rfl rfl rfl (by kernel_rfl) Tryd.func4 (by kernel_rfl)
    (of_decide_eq_true (by kernel_rfl)) (by unfold Func.isWrapper; first | (rw [if_pos (by decide +kernel)]; kernel_rfl) | (rw [if_neg (by decide +kernel)]; exact ⟨rfl, rfl⟩))
    (fun os started H enc _ => vaultZeroes_lifted os started H enc)

theorem vaultZeroes_card : Rows.VaultZeroesCardSaid :=
  Claim7.holds_tied_plain_at .later [] [.data] true Rows.vaultZeroesCard.stood.harness false
    vaultZeroes_holds (fun _ h => by cases h) (by kernel_rfl) (fun _ h => by cases h) vaultZeroes_row_tie rfl ⟨rfl, rfl⟩ (by kernel_rfl) rfl
    (fun f fn hf hfn => by
      obtain rfl : f = 4 := Option.some.inj (hf.symm.trans (show _ = some 4 by kernel_rfl))
      obtain rfl : fn = Tryd.f4 := (Option.some.inj (Tryd.func4.symm.trans hfn)).symm
      exact ⟨by kernel_rfl, fun j t ht => by
        rw [Tryd.params4] at ht
        have hm : t ∈ [47, 3, 3] := by simpa using Array.mem_of_getElem? ht
        have hall : ([47, 3, 3].all fun u => !Tryd.prog.wantsStandIn u) = true := by kernel_rfl
        exact (show Tryd.prog.wantsStandIn t = false by simpa using List.all_eq_true.1 hall t hm)⟩)
    (by kernel_rfl)
#print axioms vaultZeroes_card
end Go.Proofs.YtdkoomcmkfnfkaaDoor
