/-
  VaultRuns, for any room and calls: the law returns true, and what came in reads afterwards as it read before; the package's table starts as the program's own text lays it (the tie is given).
-/
import Derived.Test.YtoidjapenompiaaDoorPkA
import Derived.Test.YtoidjapenompiaaDoorPkZ
import Derived.Test.YtoidjapenompiaaDoorPkH
import Derived.Test.YtoidjapenompiaaDoorPkJ
import Derived.Test.YtoidjapenompiaaDoorPkK
import Derived.Test.YtoidjapenompiaaDoorPkL
import Derived.Test.YtoidjapenompiaaDoorTie
import Derived.Test.YtoidjapenompiaaDoorCards
import Derived.SevenTiedAt
/-
  VaultOpens: whatever bytes lie in the vault's file, a vault is opened, of the slots that they begin with; opened once more it is the same; the next key gets the next slot.
-/
namespace Go.Proofs.YtoidjapenompiaaDoor
open Go.RowKit Go.Proofs.ShaWords
theorem getVt_length {l : List SlotV} (h : ∀ s ∈ l, SlotOk s) (z : Int) : (getVt l z).1.length = 32 := by
  by_cases hz : z < 1 ∨ (l.length : Int) < z
  · rw [getVt_none hz]; exact List.length_replicate
  · obtain ⟨i, rfl⟩ : ∃ i : Nat, z = (i : Int) + 1 := ⟨(z - 1).toNat, by omega⟩
    have hi : i < l.length := by omega
    rw [getVt_at hi]
    have := h _ (List.getElem_mem hi)
    cases hs : l[i] with
    | none => exact List.length_replicate
    | some k => rw [hs] at this; exact this k rfl
theorem writeF_same (f : Nat) (b : List (BitVec 8)) (F : Nat → FileM) : (writeF f b F f).all = (F f).all ++ b := congrArg FileM.all (setF_same _ _ _)
theorem writeF_other (f : Nat) (b : List (BitVec 8)) (F : Nat → FileM) {k : Nat} (h : k ≠ f) : writeF f b F k = F k := setF_other _ _ h
theorem wpList_runVW {P : Program} {ops : Array Oper} {rest : List Oper} {o : Oper} {a : Act} {w w' : World} {Q : Exit → Act → World → Prop} {v : Value} (hw : Region.wanted o (yielded ops a.tmps) = true) (hr : (execOp a.eval o).run P w = .ok (.value v) w')
    (h : wpList P ops Q rest (a.put o.dst v) w') : wpList P ops Q (o :: rest) a w := by
  unfold wpList
  rw [if_pos hw]
  refine .inl ?_
  unfold Oper.wp
  rw [hr, Oper.upon_value]
  exact h
def keysV (l : List SlotV) (n : Nat) : List Value := (List.range n).flatMap fun z : Nat => bytesV (getVt l (z : Int)).1
def codesV (l : List SlotV) (n : Nat) : List Value := (List.range n).map fun z : Nat => .int .i64 (getVt l (z : Int)).2
theorem keysV_succ (l : List SlotV) (n : Nat) : keysV l (n + 1) = keysV l n ++ bytesV (getVt l (n : Int)).1 := by
  unfold keysV
  rw [List.range_succ, List.flatMap_append, List.flatMap_cons, List.flatMap_nil, List.append_nil]
theorem codesV_succ (l : List SlotV) (n : Nat) : codesV l (n + 1) = codesV l n ++ [.int .i64 (getVt l (n : Int)).2] := by
  unfold codesV
  rw [List.range_succ, List.map_append]; rfl
theorem keysV_at {l : List SlotV} (h : ∀ s ∈ l, SlotOk s) {n i : Nat} (hi : i < n) {j : Nat} (hj : j < 32) : (keysV l n)[i * 32 + j]? = (bytesV (getVt l (i : Int)).1)[j]? := by
  unfold keysV
  rw [flat_at (fun z : Nat => bytesV (getVt l (z : Int)).1) 32 (List.range n) i j (fun s _ => by rw [bytesV_length]; exact getVt_length h _) (by simpa using hi) hj]
  rw [List.getElem_range]
theorem codesV_at (l : List SlotV) {n i : Nat} (hi : i < n) : (codesV l n)[i]? = some (.int .i64 (getVt l (i : Int)).2) := by
  unfold codesV
  rw [List.getElem?_map, List.getElem?_range hi]; rfl
section
variable {ρ : Operand → Value} {o : Oper} {x y : Operand}
theorem run_ixKeyV {b n c i : Nat} (ho : o.op = .indexAddr 47 x y) (hx : ρ x = .slice (some ⟨b, 0, none⟩) n c) (hy : ρ y = .int .i64 (i : Int)) (hi : i < n) (w : World) : (execOp ρ o).run Tryd.prog w = .ok (.value (.pointer (some ⟨b, i * 32, none⟩))) w := by
  obtain ⟨dst, op, ty', pos, after, guard⟩ := o
  simp only at ho
  subst ho
  have q : (i : Int) < (n : Int) := by omega
  go_simp
theorem run_ixErrV {b n c i : Nat} (ho : o.op = .indexAddr 58 x y) (hx : ρ x = .slice (some ⟨b, 0, none⟩) n c) (hy : ρ y = .int .i64 (i : Int)) (hi : i < n) (w : World) : (execOp ρ o).run Tryd.prog w = .ok (.value (.pointer (some ⟨b, i, none⟩))) w := by
  obtain ⟨dst, op, ty', pos, after, guard⟩ := o
  simp only at ho
  subst ho
  have q : (i : Int) < (n : Int) := by omega
  go_simp
theorem run_loadErrV {a : Addr} {n : Int} (ho : o.op = .load 43 x) (hx : ρ x = .pointer (some a)) {w : World} (hc : w.cell? a = some (.int .i64 n)) : (execOp ρ o).run Tryd.prog w = .ok (.value (.int .i64 n)) w := by
  obtain ⟨dst, op, ty', pos, after, guard⟩ := o
  simp only at ho
  subst ho
  go_simp
theorem run_oneErr {z : Int} (ho : o.op = .buildSlice 58 1 #[(0, x)]) (hx : ρ x = .int .i64 z) (w : World) : (execOp ρ o).run Tryd.prog w = .ok (.value (.slice (some ⟨w.heap.size, 0, none⟩) 1 1)) (w.alloc (.cells #[.int .i64 z] 43)) := by
  obtain ⟨dst, op, ty', pos, after, guard⟩ := o
  simp only at ho
  subst ho
  go_simp
theorem run_toPV {p : Option Addr} {N c M : Nat} (hp : 0 < c → ∃ b off, p = some ⟨b, off, none⟩) (hM : M ≤ c) (ho : o.op = .slice 37 x none (some y) none) (hx : ρ x = .slice p N c) (hy : ρ y = .int .i64 (M : Int)) (w : World) : (execOp ρ o).run Tryd.prog w = .ok (.value (.slice p M c)) w := by
  by_cases h0 : c = 0
  · subst h0
    obtain rfl : M = 0 := by omega
    obtain ⟨dst, op, ty', pos, after, guard⟩ := o
    simp only at ho
    subst ho
    cases p with
    | none => go_simp
    | some a => go_simp
  · obtain ⟨b, off, rfl⟩ := hp (by omega)
    exact run_sliceToV ho hx hy hM w
theorem run_neKeyT {l m : List (BitVec 8)} {ty : TypeId} (ho : o.op = .binOp .neq 36 x y ty) (hl : l.length = 32) (hm : m.length = 32) (hx : ρ x = .agg (bytesV l).toArray) (hy : ρ y = .agg (bytesV m).toArray) (w : World) :
    (execOp ρ o).run Tryd.prog w = .ok (.value (.bool (!decide (l = m)))) w := by
  have h := (run_neq_struct (P := Tryd.prog) (w := w) 36 (bytesV l).toArray (bytesV m).toArray)
  have h2 := run_equalIn_bytes (P := Tryd.prog) w 9998 36 5 32 Tryd.underlying36 Tryd.underlying5 (fun w => by kernel_rfl) (l.map UInt8.ofBitVec) (m.map UInt8.ofBitVec) (by simpa using hl) (by simpa using hm)
  rw [← bytesV_cell, ← bytesV_cell] at h2
  have e : (l.map UInt8.ofBitVec == m.map UInt8.ofBitVec) = decide (l = m) := by
    rw [Bool.eq_iff_iff]
    simp only [beq_iff_eq, decide_eq_true_eq]
    exact List.map_inj_right (fun a b e => by simpa using congrArg UInt8.toBitVec e)
  rw [e] at h2
  rw [h2] at h
  simp only [Result.andThen_ok] at h
  have hg : Tryd.prog.eqGuardType Tryd.prog.depth 36 = false := by kernel_rfl
  unfold execOp
  simp only [ho, hx, hy, Sem.run_bind, run_eqGuard_agg w .neq 36 x y _ _ hg, Result.andThen_ok, h, Sem.run_pure]
theorem run_neKeyS {l : List (BitVec 8)} {ty : TypeId} (ho : o.op = .binOp .neq 36 x y ty) (hl : l.length = 32) (hx : ρ x = .agg (bytesV l).toArray) (hy : ρ y = .agg (bytesV l).toArray) (w : World) : (execOp ρ o).run Tryd.prog w = .ok (.value (.bool false)) w := by
  have h := run_neKeyT ho hl hl hx hy w
  rwa [decide_eq_true rfl] at h
theorem run_neErrS {n : Int} {ty : TypeId} (ho : o.op = .binOp .neq 43 x y ty) (hx : ρ x = .int .i64 n) (hy : ρ y = .int .i64 n) (w : World) : (execOp ρ o).run Tryd.prog w = .ok (.value (.bool false)) w := by
  obtain ⟨dst, op, ty', pos, after, guard⟩ := o
  simp only at ho
  subst ho
  go_simp
end
/-- Amid the first loop: what was told is laid in two rows. -/
structure OpnR (lo : Nat) (w0 : World) (v g : Nat) (d : DiskM) (l : List SlotV) (L0 : List (Nat × Obj)) (i : Nat) (kv cv : Value) (LK LC : List (Nat × Obj)) (A : World) : Prop where
  vt : VtL lo A v g d l false (LK ++ (LC ++ L0))
  keys : RowK lo LK 36 32 kv i (keysV l i)
  codes : RowK lo LC 43 1 cv i (codesV l i)
  ap1 : ∀ x ∈ LC ++ L0, kv.ownBlock ≠ some x.1
  ap2 : ∀ x ∈ L0, cv.ownBlock ≠ some x.1
  below : Below lo w0 A
theorem liesB {B : Nat} {w w' : World} {p : Option Addr} {bs : List (BitVec 8)} (h : Lies w p bs) (hb : Below B w w') (hB : w.heap.size ≤ B) : Lies w' p bs := h.below ⟨hb.os, hb.tape, hb.output, hb.size, fun k hk => hb.block k (by omega)⟩
def OpS (bk bc T i : Nat) (kz : List (BitVec 8)) (ez : Int) (w : World) : Prop := w.rangeAt bk (i * 32) (bytesV kz) ∧ BytesAt w T 36 kz ∧ w.cell? ⟨bc, i, none⟩ = some (.int .i64 ez)
/-- One error more. -/
theorem opn_push {lo v g n n' i : Nat} {w w' : World} {d : DiskM} {l : List SlotV} {dead : Bool} {L0 LK LC : List (Nat × Obj)} {kv cv cv' : Value} {xs ys ys' : List Value} {tk tc : TypeId} {Nk Nc : Nat} (hV : VtL lo w v g d l dead (LK ++ (LC ++ L0))) (hK : RowK lo LK tk Nk kv n xs) (hC : RowK lo LC tc Nc cv i ys)
    (a1 : ∀ x ∈ LC ++ L0, kv.ownBlock ≠ some x.1) (a2 : ∀ x ∈ L0, cv.ownBlock ≠ some x.1) (hrow : w'.ownsRow lo tc Nc cv' n' ys') (hg : w.grownBy w' cv.ownBlock) (hb : cv'.ownBlock = cv.ownBlock ∨ cv'.ownBlock = some w.heap.size) :
    ∃ LC', VtL lo w' v g d l dead (LK ++ (LC' ++ L0)) ∧ RowK lo LC' tc Nc cv' n' ys' ∧ (∀ x ∈ LC' ++ L0, kv.ownBlock ≠ some x.1) ∧ ∀ x ∈ L0, cv'.ownBlock ≠ some x.1 := by
  have h2 : ∀ x ∈ LK ++ L0, x ∈ LK ++ (LC ++ L0) ∧ cv.ownBlock ≠ some x.1 := fun x hx => by
    rcases List.mem_append.1 hx with hx | hx
    · refine ⟨List.mem_append_left _ hx, fun e => ?_⟩
      obtain ⟨o, ho⟩ := hC.whole _ e
      exact a1 _ (List.mem_append_left _ ho) (hK.on x hx)
    · exact ⟨List.mem_append_right _ (List.mem_append_right _ hx), a2 x hx⟩
  obtain ⟨LC', k1, k2, k3⟩ := hC.append hV (fun x hx => List.mem_append_right _ (List.mem_append_left _ hx)) h2 hrow hg hb
  refine ⟨LC', k2.fewer (fun x hx => ?_), k1, fun x hx e => ?_, fun x hx => k3 x (List.mem_append_right _ hx)⟩
  · rcases List.mem_append.1 hx with hx | hx
    · exact List.mem_append_right _ (List.mem_append_left _ hx)
    · rcases List.mem_append.1 hx with hx | hx
      · exact List.mem_append_left _ hx
      · exact List.mem_append_right _ (List.mem_append_right _ hx)
  · rcases List.mem_append.1 hx with hx | hx
    · obtain ⟨o, ho⟩ := hK.whole _ e
      exact k3 _ (List.mem_append_left _ ho) (k1.on x hx)
    · exact a1 x (List.mem_append_right _ hx) e
set_option maxRecDepth 1000000 in
set_option maxHeartbeats 4000000 in
theorem vtOpens_any (bs kk : List (BitVec 8)) (N c : Nat) (p : Option Addr) (w : World) (hN : bs.length = N) (hNc : N ≤ c) (hpc : 0 < c → ∃ b off, p = some ⟨b, off, none⟩) (hL : Lies w p bs) (hk : kk.length = 32) (hR : Rem w) :
    Calls Tryd.prog 5 #[.slice p N c, .agg (bytesV kk).toArray] w fun e w' => e = .returned (.bool true) ∧ Below w.heap.size w w' := by
  have HN := Lib.hid hN
  have HNC := Lib.hid (And.intro hNc trivial)
  have HPC := Lib.hid hpc
  have HL := Lib.hid hL
  have HK := Lib.hid hk
  have HR := Lib.hid hR
  have HG := Lib.hid hR.size
  clear hN hNc hpc hL hk hR
  go_enter Tryd.func5, Tryd.ntmps5
  go_upto_region 1 with (fail)
  refine wp_gen (fun A => BytesAt A w.heap.size 36 kk ∧ Below w.heap.size w A) ⟨heap_new_at rfl, (Below.refl _ _).alloc (Nat.le_refl _) _⟩ ?_
  rintro A ⟨hKA, hBA⟩
  have HKA := Lib.hid hKA
  have HBA := Lib.hid hBA
  have HGA : Hid (0 < A.heap.size) := show _ < _ by have := HG.out; have := hBA.size; omega
  clear hKA hBA
  go_wp2_with (go_at_call 7; fail)
  refine (dkNewL 262144 A).mono ?_
  rintro e w1 ⟨g, rfl, hi, hb⟩
  have HI1 := Lib.hid hi; have HB1 := Lib.hid hb; clear hi hb
  have HW1 := Lib.hid (HBA.out.trans (HB1.out.mono HBA.out.size))
  by_cases hbig : 4096 < N
  · have q0 : (4096 : Int) < (N : Int) := by omega
    clear hbig
    go_wp2_with (go_at_call 10; refine (works11_any w1 (HR.out.on HW1.out)).mono ?_; rintro e w2 ⟨rfl, hb⟩; have HB2 := Lib.hid (HW1.out.trans (hb.mono HW1.out.size)); clear hb)
    go_ret
    exact ⟨rfl, HB2.out⟩
  · have q0 : ¬ (4096 : Int) < (N : Int) := by omega
    have HNS : Hid (N ≤ 4096 ∧ True) := show _ ∧ _ from ⟨by omega, trivial⟩
    have hwr : (DiskM.new 262144).write 0 bs = ({ DiskM.new 262144 with files := writeF (0 : Int).toNat bs (DiskM.new 262144).files, count := (DiskM.new 262144).count + 1 }, 0) := (calm_new 262144).write (by omega) bs (by
      have h1 : (DiskM.new 262144).used = 0 := (vtCalm_new 262144).used
      have h2 : (DiskM.new 262144).room = 262144 := rfl
      rw [h1, h2, HN.out]; omega)
    obtain ⟨d1, hd1⟩ : ∃ d1, ({ DiskM.new 262144 with files := writeF (0 : Int).toNat bs (DiskM.new 262144).files, count := (DiskM.new 262144).count + 1 } : DiskM) = d1 := ⟨_, rfl⟩
    rw [hd1] at hwr
    have hf1 : (d1.files 0).all = bs := by rw [← hd1]; exact writeF_same _ _ _
    have ho1 : ∀ f, f ≠ 0 → (d1.files f).all = [] := fun f hf => by rw [← hd1]; exact (congrArg FileM.all (writeF_other _ _ _ hf)).trans rfl
    have hc1 : d1.Calm := by rw [← hd1]; exact ⟨rfl, rfl⟩
    have hn1 : d1.count = 1 := by rw [← hd1]; rfl
    have hr1 : d1.room = 262144 := by rw [← hd1]; rfl
    have hk1 : d1.Ok := by have := DiskM.write_ok (DiskM.new_ok 262144) 0 bs; rw [hwr] at this; exact this
    obtain ⟨l, r, hV⟩ := vt_ex (d1.files 0).all
    obtain ⟨he2, hO2⟩ := openVt_calm hc1 hk1 hV
    obtain ⟨d2, hd2⟩ : ∃ d2, (openVt d1 l r).1 = d2 := ⟨_, rfl⟩
    rw [hd2] at hO2
    have hC2 : VtCalm d2 l 262144 d2.count := ⟨hO2.ok, hO2.calm, hO2.room.trans hr1, hO2.file, hO2.dur, fun f hf => by rw [hO2.others f hf]; exact ho1 f hf, hV.ok, hV.le, rfl⟩
    have hn2 : d2.count ≤ 2 := by
      rw [← hd2]
      unfold openVt
      split
      · have := cut_count d1 0 ((40 * l.length : Nat) : Int); omega
      · split
        · have := sync_count d1 0; omega
        · show d1.count ≤ 2; omega
    have hbt : bs.take (40 * l.length) = slotsB l := by rw [← hf1]; exact hV.take
    have HWR := Lib.hid hwr
    have HC1 := Lib.hid (And.intro hc1 hn1)
    have HV := Lib.hid hV
    have HD2 := Lib.hid hd2
    have HC2 := Lib.hid hC2
    have HN2 := Lib.hid (And.intro hn2 trivial)
    have HBT := Lib.hid hbt
    have HLL : Hid (l.length ≤ 64 ∧ 40 * l.length ≤ N) := show _ ∧ _ from ⟨hV.le, by have := hV.length; rw [hf1, HN.out] at this; omega⟩
    clear hbig hwr hd1 hf1 ho1 hc1 hn1 hr1 hk1 hV he2 hO2 hd2 hC2 hn2 hbt
    go_wp2_with (go_at_call 30; fail)
    have hcall := HI1.out.go (d' := d1) (v := .returned (.int .i64 0)) HB1.out.size (fun S h => by
      have := dkWrite_any S g (DiskM.new 262144) 0 bs N c p w1 h (by decide) HN.out (by have := HNS.out.1; omega) (HL.out.below HW1.out)
      rwa [HWR.out] at this)
    refine hcall.mono ?_
    rintro e w2 ⟨rfl, hi, hb⟩
    have HI2 := Lib.hid hi
    have HB2 := Lib.hid (HB1.out.trans hb)
    clear hcall hi hb HI1 HB1 HW1
    go_wp2_with (go_at_call 24; fail)
    refine (HI2.out.openVC HB2.out.size HGA.out (HR.out.on (HBA.out.trans (HB2.out.mono HBA.out.size))) HC1.out.1 (by have := HC1.out.2; omega) HV.out).mono ?_
    rintro e w3 ⟨v, rfl, -, hv, hb⟩
    rw [HD2.out] at hv
    have HV3 := Lib.hid hv
    have HB3 := Lib.hid (HB2.out.trans hb)
    clear hv hb HI2 HB2
    obtain ⟨M, hM⟩ : ∃ M, 40 * l.length = M := ⟨_, rfl⟩
    have hrd : d2.read 0 = slotsB l := by
      have := HC2.out.file
      unfold DiskM.read
      rw [if_pos (by omega)]; exact this
    have hsl : (slotsB l).length = M := by rw [slotsB_length HC2.out.slots, hM]
    have HRD := Lib.hid hrd
    have HSL := Lib.hid hsl
    have HM := Lib.hid hM
    clear hrd hsl
    go_wp2_with (go_at_call 15; fail)
    refine (HV3.out.disk.read 0).mono ?_
    rintro e w4 ⟨sv, rfl, ho, hb⟩
    rw [HRD.out] at ho
    have ho' := ho.lower HB3.out.size
    obtain ⟨q, cq, rfl, -, -, -⟩ := ho.slP HSL.out
    obtain ⟨L0, hK0, hL0⟩ := rowK_of (show w4.ownsRow w3.heap.size 5 1 (.slice q M cq) (slotsB l).length (bytesV (slotsB l)) from ho)
    have hV4 := HV3.out.add hb (L' := L0) hL0
    rw [List.append_nil] at hV4
    have HK0 : Hid (RowK A.heap.size L0 5 1 (.slice q M cq) (slotsB l).length (bytesV (slotsB l))) := show RowK _ _ _ _ _ _ _ from ⟨hK0.on, hK0.whole, fun w' hw => (show Own _ w' (slotsB l) _ from hK0.row w' hw).lower HB3.out.size⟩
    have HV4 := Lib.hid hV4
    have HB4 := Lib.hid (HB3.out.trans (hb.mono HB3.out.size))
    clear ho ho' hb hK0 hL0 hV4 HV3 HB3
    go_wp2_with (go_at_call 29; fail)
    refine HV4.out.len.mono ?_
    rintro e w5 ⟨rfl, rfl⟩
    have H0 : Hid (OpnR A.heap.size A v g d2 l L0 0 (.slice none 0 0) (.slice none 0 0) [] [] w5) := show OpnR _ _ _ _ _ _ _ _ _ _ _ _ _ from ⟨HV4.out, RowK.nil _ _ _, RowK.nil _ _ _, (fun x _ e => by cases e), (fun x _ e => by cases e), HB4.out⟩
    clear HV4 HB4
    obtain ⟨n, hn⟩ : ∃ n, l.length = n := ⟨_, rfl⟩
    have hn64 : n ≤ 64 := by rw [← hn]; exact HLL.out.1
    rw [hn]
    have HLN := Lib.hid hn
    clear hn
    go_wp2_with fail
    go_loopw [10, 11, 12] (fun s10 s11 s12 wr => ∃ (i : Nat) (LK LC : List (Nat × Obj)), i ≤ n + 2 ∧ s12 = .int .i64 (i : Int) ∧ OpnR A.heap.size A v g d2 l L0 i s10 s11 LK LC wr) (fun _ _ s12 _ => n + 2 - (intOf s12).toNat)
    case atStart => exact ⟨0, [], [], by omega, rfl, H0.out⟩
    case round =>
      clear H0
      obtain ⟨i, LK, LC, hi, rfl, hI⟩ := hrel
      have HI := Lib.hid hI
      by_cases hlt : i < n + 2
      · have q1 : (i : Int) ≤ (n : Int) + 1 := by omega
        have hkl := getVt_length hI.vt.slots (i : Int)
        have hks := keysV_succ l i
        have hcs := codesV_succ l i
        have hgv : gvV l (i : Int) = .tuple #[.agg (bytesV (getVt l (i : Int)).1).toArray, .int .i64 (getVt l (i : Int)).2] := rfl
        generalize (getVt l (i : Int)).1 = kz at hkl hks hgv
        generalize (getVt l (i : Int)).2 = ez at hcs hgv
        have HKL := Lib.hid hkl
        have HKS := Lib.hid hks
        have HCS := Lib.hid hcs
        have HGV := Lib.hid hgv
        have HIK := Lib.hid (infoKey kz hkl)
        have HZS : Hid ((bytesV (noughts 32)).toArray.size = (bytesV kz).toArray.size) := show _ = _ by rw [bytesV_size _ 32 (noughts_length 32), bytesV_size _ 32 hkl]
        clear hI hkl hks hcs hgv
        go_wp2_with (go_at_call 22; fail)
        refine (HI.out.vt.get (i : Int)).mono ?_
        rintro e w6 ⟨rfl, hb⟩
        rw [HGV.out]
        have HV6 := Lib.hid (HI.out.vt.below hb)
        have HB6 := Lib.hid (HI.out.below.trans (hb.mono HI.out.below.size))
        clear hb
        go_upto_region 16 with (show wpList _ _ _ (⟨_, .store 36 _ _, _, _, _, _⟩ :: _) _ _; go_loud (refine wpList_store_new rfl 36 (.tmp 13) (.tmp 56) rfl w6.heap.size rfl (bytesV kz).toArray rfl rfl HIK.out (by exact HZS.out) (keyV_ones _) ?_; intro w7 h7 b7; have HT7 := Lib.hid (show BytesAt w7 w6.heap.size 36 kz from h7); have HV7 := Lib.hid (HV6.out.below b7); have HB7 := Lib.hid (HB6.out.trans (b7.mono HB6.out.size)); clear h7 b7))
        have HSK : Hid ((bytesV kz).toArray.size = 32) := show _ = _ from bytesV_size _ 32 HKL.out
        have HI60 : Hid (i ≤ 1000000 ∧ True) := show _ ∧ _ from ⟨by omega, trivial⟩
        go_upto_region 17 with (first
          | (show wpList _ _ _ (⟨_, .load 36 _, _, _, _, _⟩ :: _) _ _; refine wpList_runV (by rfl) (run_loadKeyB (x := .tmp 13) rfl rfl HKL.out HT7.out) ?_)
          | (show wpList _ _ _ (⟨_, .buildSlice _ _ _, _, _, _, _⟩ :: _) _ _; go_loud (refine wpList_runVW (by rfl) (keyT.run_one (x := .tmp 59) rfl rfl HSK.out w7) ?_; have hb8 : Below w7.heap.size w7 (w7.alloc (.cells (bytesV kz).toArray 36)) := (Below.refl _ _).alloc (Nat.le_refl _) _; have HC8 : Hid ((w7.alloc (.cells (bytesV kz).toArray 36)).heap[w7.heap.size]? = some (.cells (bytesV kz).toArray 36 (0, 0))) := show _ = _ from heap_new_at rfl; have HV8 := Lib.hid (HV7.out.below hb8); have HB8 := Lib.hid (HB7.out.trans (hb8.mono HB7.out.size)); clear hb8; generalize w7.alloc (.cells (bytesV kz).toArray 36) = w8 at HC8 HV8 HB8 ⊢))
          | (at_builtin; go_loud (refine keyT.wpList_append (by rfl) (s := .tmp 58) (x := .tmp 60) rfl rfl (HI.out.keys.own HV8.out (fun x hx => List.mem_append_left _ hx)) rfl HC8.out HSK.out (fun u hu => bytesV_mem hu) HI60.out.1 HB8.out.size ?_; intro v9 w9 hrow9 hg9 hat9; rw [show keysV l i ++ (bytesV kz).toArray.toList = keysV l (i + 1) from HKS.out.symm] at hrow9; obtain ⟨LK9, hK9, hV9, ha9⟩ := RowK.append HI.out.keys HV8.out (fun x hx => List.mem_append_left _ hx) (fun x hx => ⟨List.mem_append_right _ hx, HI.out.ap1 x hx⟩) hrow9 hg9 hat9; have HK9 := Lib.hid hK9; have HV9 := Lib.hid hV9; have HA9 := Lib.hid ha9; have HB9 : Hid (Below A.heap.size A w9) := show Below _ _ _ from HB8.out.trans (grown_stays (F := fun k => A.heap.size ≤ k) hg9 (fun k e => (World.ownsRow.lt (HI.out.keys.own HV8.out (fun x hx => List.mem_append_left _ hx)) k e).1) |>.below (fun k h => h) HB8.out.size); clear hrow9 hg9 hat9 hK9 hV9 ha9)))
        clear HV7 HB7 HV6 HB6 HV8 HB8 HC8 HT7 HGV HKS
        go_wp2_with (first
          | (show wpList _ _ _ (⟨_, .buildSlice _ _ _, _, _, _, _⟩ :: _) _ _; go_loud (refine wpList_runVW (by rfl) (run_oneErr (x := .tmp 63) (z := ez) rfl rfl w9) ?_; have hb10 : Below w9.heap.size w9 (w9.alloc (.cells #[.int .i64 ez] 43)) := (Below.refl _ _).alloc (Nat.le_refl _) _; have HC10 : Hid ((w9.alloc (.cells #[.int .i64 ez] 43)).heap[w9.heap.size]? = some (.cells #[.int .i64 ez] 43 (0, 0))) := show _ = _ from heap_new_at rfl; have HV10 := Lib.hid (HV9.out.below hb10); have HB10 := Lib.hid (HB9.out.trans (hb10.mono HB9.out.size)); clear hb10; generalize w9.alloc (.cells #[.int .i64 ez] 43) = w10 at HC10 HV10 HB10 ⊢))
          | (at_builtin; go_loud (refine errT.wpList_append (by rfl) (s := .tmp 62) (x := .tmp 64) rfl rfl (HI.out.codes.own HV10.out (fun x hx => List.mem_append_right _ (List.mem_append_left _ hx))) rfl HC10.out rfl (fun u hu => by simp at hu; rw [hu]; rfl) HI60.out.1 HB10.out.size ?_; intro v11 w11 hrow11 hg11 hat11; rw [show codesV l i ++ (#[.int .i64 ez] : Array Value).toList = codesV l (i + 1) from HCS.out.symm] at hrow11; have hb11 : Below A.heap.size A w11 := HB10.out.trans (grown_stays (F := fun k => A.heap.size ≤ k) hg11 (fun k e => (World.ownsRow.lt (HI.out.codes.own HV10.out (fun x hx => List.mem_append_right _ (List.mem_append_left _ hx))) k e).1) |>.below (fun k h => h) HB10.out.size); obtain ⟨LC11, hV11, hC11, ha1, ha2⟩ := opn_push HV10.out HK9.out HI.out.codes HA9.out HI.out.ap2 hrow11 hg11 hat11; have HO11 : Hid (OpnR A.heap.size A v g d2 l L0 (i + 1) v9 v11 LK9 LC11 w11) := show OpnR _ _ _ _ _ _ _ _ _ _ _ _ _ from ⟨hV11, HK9.out, hC11, ha1, ha2, hb11⟩; clear hrow11 hg11 hat11 hb11 hV11 hC11 ha1 ha2)))
        go_roundw
        case rel => exact ⟨i + 1, LK9, LC11, by omega, by go_num, HO11.out⟩
        case measure => simp [intOf]; omega
      · obtain rfl : i = n + 2 := by omega
        have q1 : ¬ ((n + 2 : Nat) : Int) ≤ (n : Int) + 1 := by omega
        clear hlt hi
        have hsl := HK0.out
        obtain ⟨hq1, hq2⟩ : Lies wr q (slotsB l) ∧ True := ⟨by
          have ho : Own A.heap.size wr (slotsB l) (.slice q M cq) := HK0.out.row wr (fun x hx => hI.vt.all x (List.mem_append_right _ (List.mem_append_right _ hx)))
          obtain ⟨_, _, e, -, -, hl⟩ := ho.slP HSL.out
          cases e
          exact hl, trivial⟩
        have HQ := Lib.hid hq1
        clear hsl hq1 hq2 hI
        have hmm : (n : Int) * 40 = (M : Int) := by have := HM.out; have := HLN.out; omega
        have hmm2 : 40 * (n : Int) = (M : Int) := by omega
        have hMN : (M : Int) ≤ (N : Int) := by have := HLL.out.2; have := HM.out; omega
        have hn65 : (n : Int) ≤ 64 := by omega
        have HMC : Hid (M ≤ c ∧ True) := show _ ∧ _ from ⟨by have := HNC.out.1; omega, trivial⟩
        have HBTM : Hid (bs.take M = slotsB l) := show _ = _ by rw [← HM.out]; exact HBT.out
        have HTL : Hid ((bs.take M).length = M) := show _ = _ by rw [HBTM.out]; exact HSL.out
        have HLT : Hid (Lies wr p (bs.take M)) := show Lies _ _ _ from lies_takeB (liesB (HL.out.below HBA.out) HI.out.below (Nat.le_refl _)) M
        have HSM : Hid (M < 1000000 ∧ True) := show _ ∧ _ from ⟨by have := HNS.out.1; omega, trivial⟩
        clear hmm
        have hMc := HMC.out.1
        have hMc2 : (M : Int) ≤ (c : Int) := by omega
        go_wp2_with (go_at_call 14; fail)
        refine (sameBytes_any (slotsB l) (bs.take M) M M q p cq c wr HSL.out HTL.out HSM.out.1 HSM.out.1 HQ.out HLT.out).mono ?_
        rintro e w6 ⟨rfl, hb⟩
        have HDE : Hid (decide (slotsB l = bs.take M) = true) := show _ = _ from decide_eq_true HBTM.out.symm
        rw [HDE.out]
        have HV6 := Lib.hid (HI.out.vt.below hb)
        have HB6 := Lib.hid (HI.out.below.trans (hb.mono HI.out.below.size))
        have HKR := Lib.hid HI.out.keys
        have HCR := Lib.hid HI.out.codes
        obtain ⟨he3, n3, hC3, hn3⟩ := HC2.out.open
        obtain ⟨d3, hd3⟩ : ∃ d3, (openVt d2 l []).1 = d3 := ⟨_, rfl⟩
        rw [hd3] at hC3
        have HC3 := Lib.hid hC3
        have HN3 := Lib.hid (And.intro hn3 trivial)
        have HD3 := Lib.hid hd3
        clear hb HI HDE he3 hC3 hn3 hd3 hMc hMc2 hmm2 hMN hn65 HLT
        go_wp2_with (go_at_call 24; fail)
        refine (HV6.out.disk.openVC HB6.out.size HGA.out (HR.out.on (HBA.out.trans (HB6.out.mono HBA.out.size))) HC2.out.calm (by have := HN2.out.1; omega) HC2.out.of).mono ?_
        rintro e w7 ⟨v2, rfl, -, hv, hb⟩
        rw [HD3.out] at hv
        have HV7 := Lib.hid (hv.fewer (L' := LK ++ (LC ++ L0)) (fun x hx => List.mem_cons_of_mem _ hx))
        have HB7 := Lib.hid (HB6.out.trans hb)
        have hrd3 : d3.read 0 = slotsB l := by
          have := HC3.out.file
          unfold DiskM.read
          rw [if_pos (by omega)]; exact this
        have HRD3 := Lib.hid hrd3
        clear hv hb HV6 HB6 hrd3
        have hnn : ((n : Int) == (n : Int)) = true := by simp
        go_wp2_with (first
          | (go_at_call 29; go_loud (refine HV7.out.len.mono ?_; rintro e w8 ⟨rfl, rfl⟩; rw [HLN.out]))
          | (go_at_call 15; fail))
        refine (HV7.out.disk.read 0).mono ?_
        rintro e w9 ⟨sv, rfl, ho, hb⟩
        rw [HRD3.out] at ho
        obtain ⟨q2, cq2, rfl, -, -, hl2⟩ := ho.slP HSL.out
        have HQ2 := Lib.hid hl2
        have HV9 := Lib.hid (HV7.out.below hb)
        have HB9 := Lib.hid (HB7.out.trans (hb.mono HB7.out.size))
        have hlq : Lies w9 q (slotsB l) := by
          have ho : Own A.heap.size w9 (slotsB l) (.slice q M cq) := HK0.out.row w9 (fun x hx => HV9.out.all x (List.mem_append_right _ (List.mem_append_right _ hx)))
          obtain ⟨_, _, e, -, -, hl⟩ := ho.slP HSL.out
          cases e
          exact hl
        have HLQ := Lib.hid hlq
        clear ho hb hl2 hlq HV7 HB7
        go_wp2_with (go_at_call 14; fail)
        refine (sameBytes_any (slotsB l) (slotsB l) M M q2 q cq2 cq w9 HSL.out HSL.out HSM.out.1 HSM.out.1 HQ2.out HLQ.out).mono ?_
        rintro e w10 ⟨rfl, hb⟩
        have HDE : Hid (decide (slotsB l = slotsB l) = true) := show _ = _ from decide_eq_true rfl
        rw [HDE.out]
        have HV10 := Lib.hid (HV9.out.below hb)
        have HB10 := Lib.hid (HB9.out.trans (hb.mono HB9.out.size))
        clear hb HV9 HB9 HDE HQ2 HLQ
        go_wp2_with fail
        go_loopw [16] (fun s16 wr => ∃ i : Nat, i ≤ n + 2 ∧ s16 = .int .i64 (i : Int) ∧ VtL A.heap.size wr v2 g d3 l false (LK ++ (LC ++ L0)) ∧ Below A.heap.size A wr) (fun s16 _ => n + 2 - (intOf s16).toNat)
        case atStart => exact ⟨0, by omega, rfl, HV10.out, HB10.out⟩
        case round =>
          clear HV10 HB10
          obtain ⟨i, hi, rfl, hv, hb⟩ := hrel
          have HVR := Lib.hid hv
          have HBR := Lib.hid hb
          by_cases hlt : i < n + 2
          · have q1 : (i : Int) ≤ (n : Int) + 1 := by omega
            have HLT := Lib.hid (And.intro hlt trivial)
            have hkl := getVt_length hv.slots (i : Int)
            have hka := fun j (hj : j < 32) => keysV_at hv.slots hlt hj
            have hca := codesV_at l hlt
            have hgv : gvV l (i : Int) = .tuple #[.agg (bytesV (getVt l (i : Int)).1).toArray, .int .i64 (getVt l (i : Int)).2] := rfl
            generalize (getVt l (i : Int)).1 = kz at hkl hka hgv
            generalize (getVt l (i : Int)).2 = ez at hca hgv
            have HKL := Lib.hid hkl
            have HKX := Lib.hid hka
            have HCX := Lib.hid hca
            have HGV := Lib.hid hgv
            have HIK := Lib.hid (infoKey kz hkl)
            have HZS : Hid ((bytesV (noughts 32)).toArray.size = (bytesV kz).toArray.size) := show _ = _ by rw [bytesV_size _ 32 (noughts_length 32), bytesV_size _ 32 hkl]
            clear hkl hka hca hgv hv hb hlt hi
            go_wp2_with (go_at_call 22; fail)
            refine (HVR.out.get (i : Int)).mono ?_
            rintro e w11 ⟨rfl, hb⟩
            rw [HGV.out]
            have HV11 := Lib.hid (HVR.out.below hb)
            have HB11 := Lib.hid (HBR.out.trans (hb.mono HBR.out.size))
            clear hb
            go_upto_region 27 with (show wpList _ _ _ (⟨_, .store 36 _ _, _, _, _, _⟩ :: _) _ _; go_loud (refine wpList_store_new rfl 36 (.tmp 17) (.tmp 125) rfl w11.heap.size rfl (bytesV kz).toArray rfl rfl HIK.out (by exact HZS.out) (keyV_ones _) ?_; intro w12 h12 b12; have HT12 := Lib.hid (show BytesAt w12 w11.heap.size 36 kz from h12); have HV12 := Lib.hid (HV11.out.below b12); have HB12 := Lib.hid (HB11.out.trans (b12.mono HB11.out.size)); clear h12 b12))
            obtain ⟨bk, ck, rfl, -, -, hkc⟩ := own_cell (HKR.out.own HV12.out (fun x hx => List.mem_append_left _ hx)) (j := 0) (by have := HLT.out.1; omega)
            obtain ⟨bc, cc, rfl, -, -, hcc⟩ := own_cell (HCR.out.own HV12.out (fun x hx => List.mem_append_right _ (List.mem_append_left _ hx))) (j := 0) (by have := HLT.out.1; omega)
            have HOS : Hid (OpS bk bc w11.heap.size i kz ez w12.drew) := show OpS _ _ _ _ _ _ _ from ⟨fun j u hu => by
                have hj : j < 32 := by have := (List.getElem?_eq_some_iff.1 hu).1; rwa [bytesV_length, HKL.out] at this
                have h1 := hkc (i * 32 + j) (by have := HLT.out.1; omega)
                rw [HKX.out j hj, hu] at h1
                exact h1, HT12.out, by
                have h1 := hcc i (by have := HLT.out.1; omega)
                rw [HCX.out] at h1
                exact h1⟩
            have HVD := Lib.hid (HV12.out.below (Below.refl _ w12).drew)
            have HBD := Lib.hid (HB12.out.drew)
            clear hkc hcc HT12 HV12 HB12 HV11 HB11 HVR HBR HGV HKX HCX
            generalize w11.heap.size = T at HOS ⊢
            refine region_phase (OpS bk bc T i kz ez) (fun _ => True) 99 (HOS.out) trivial [(0, .free), (1, .free), (2, .free), (3, .free), (4, .free), (5, .free), (6, .free), (7, .free), (8, .free), (9, .free), (10, .free), (11, .free), (12, .free), (13, .free)] (by kernel_rfl) (by kernel_rfl) (by kernel_rfl) (by kernel_rfl) (fun ops hops A2 hA => ?_)
            have hsz : A2.tmps.size = 180 := by rw [hA]; rfl
            have base10 : A2.eval (.tmp 10) = .slice (some ⟨bk, 0, none⟩) (n + 2) ck := by rw [hA]; rfl
            have base11 : A2.eval (.tmp 11) = .slice (some ⟨bc, 0, none⟩) (n + 2) cc := by rw [hA]; rfl
            have base16 : A2.eval (.tmp 16) = .int .i64 (i : Int) := by rw [hA]; rfl
            have base17 : A2.eval (.tmp 17) = .pointer (some ⟨T, 0, none⟩) := by rw [hA]; rfl
            have base18 : A2.eval (.tmp 18) = .int .i64 ez := by rw [hA]; rfl
            have HAA := Lib.hid hA; clear hA
            obtain ⟨o0, po0, q0, d0, gd0⟩ : ∃ o, ops[0]? = some o ∧ o.op = .move (.tmp 10) ∧ o.dst = some 127 ∧ o.guard = none := ⟨_, by rw [hops]; rfl, rfl, rfl, rfl⟩
            obtain ⟨o1, po1, q1, d1, gd1⟩ : ∃ o, ops[1]? = some o ∧ o.op = .move (.tmp 16) ∧ o.dst = some 128 ∧ o.guard = none := ⟨_, by rw [hops]; rfl, rfl, rfl, rfl⟩
            obtain ⟨o2, po2, q2, d2, gd2⟩ : ∃ o, ops[2]? = some o ∧ o.op = .indexAddr 47 (.tmp 127) (.tmp 128) ∧ o.dst = some 129 ∧ o.guard = none := ⟨_, by rw [hops]; rfl, rfl, rfl, rfl⟩
            obtain ⟨o3, po3, q3, d3, gd3⟩ : ∃ o, ops[3]? = some o ∧ o.op = .load 36 (.tmp 129) ∧ o.dst = some 130 ∧ o.guard = none := ⟨_, by rw [hops]; rfl, rfl, rfl, rfl⟩
            obtain ⟨o4, po4, q4, d4, gd4⟩ : ∃ o, ops[4]? = some o ∧ o.op = .load 36 (.tmp 17) ∧ o.dst = some 131 ∧ o.guard = none := ⟨_, by rw [hops]; rfl, rfl, rfl, rfl⟩
            obtain ⟨o5, po5, q5, d5, gd5⟩ : ∃ o, ops[5]? = some o ∧ o.op = .binOp .neq 36 (.tmp 130) (.tmp 131) 36 ∧ o.dst = some 132 ∧ o.guard = none := ⟨_, by rw [hops]; rfl, rfl, rfl, rfl⟩
            obtain ⟨o6, po6, q6, d6, gd6⟩ : ∃ o, ops[6]? = some o ∧ o.op = .move (.tmp 132) ∧ o.dst = some 133 ∧ o.guard = none := ⟨_, by rw [hops]; rfl, rfl, rfl, rfl⟩
            obtain ⟨o7, po7, q7, d7, gd7⟩ : ∃ o, ops[7]? = some o ∧ o.op = .move (.tmp 11) ∧ o.dst = some 134 ∧ o.guard = some (6, false) := ⟨_, by rw [hops]; rfl, rfl, rfl, rfl⟩
            obtain ⟨o8, po8, q8, d8, gd8⟩ : ∃ o, ops[8]? = some o ∧ o.op = .move (.tmp 16) ∧ o.dst = some 135 ∧ o.guard = some (6, false) := ⟨_, by rw [hops]; rfl, rfl, rfl, rfl⟩
            obtain ⟨o9, po9, q9, d9, gd9⟩ : ∃ o, ops[9]? = some o ∧ o.op = .indexAddr 58 (.tmp 134) (.tmp 135) ∧ o.dst = some 136 ∧ o.guard = some (6, false) := ⟨_, by rw [hops]; rfl, rfl, rfl, rfl⟩
            obtain ⟨o10, po10, q10, d10, gd10⟩ : ∃ o, ops[10]? = some o ∧ o.op = .load 43 (.tmp 136) ∧ o.dst = some 137 ∧ o.guard = some (6, false) := ⟨_, by rw [hops]; rfl, rfl, rfl, rfl⟩
            obtain ⟨o11, po11, q11, d11, gd11⟩ : ∃ o, ops[11]? = some o ∧ o.op = .move (.tmp 18) ∧ o.dst = some 138 ∧ o.guard = some (6, false) := ⟨_, by rw [hops]; rfl, rfl, rfl, rfl⟩
            obtain ⟨o12, po12, q12, d12, gd12⟩ : ∃ o, ops[12]? = some o ∧ o.op = .binOp .neq 43 (.tmp 137) (.tmp 138) 43 ∧ o.dst = some 139 ∧ o.guard = some (6, false) := ⟨_, by rw [hops]; rfl, rfl, rfl, rfl⟩
            obtain ⟨o13, po13, q13, d13, gd13⟩ : ∃ o, ops[13]? = some o ∧ o.op = .pick (.tmp 133) (.const (.bool true)) (.tmp 139) ∧ o.dst = some 140 ∧ o.guard = none := ⟨_, by rw [hops]; rfl, rfl, rfl, rfl⟩
            clear hops
            refine met_free po0 d0 (wanted_of gd0) (fun w' h' => run_move q0 base10 w') ?_
            refine met_free po1 d1 (wanted_of gd1) (fun w' h' => run_move q1 ((eval_other _ 127 16 _ (by decide)).trans base16) w') ?_
            refine met_free po2 d2 (wanted_of gd2) (fun w' h' => run_ixKeyV q2 ((eval_other _ 128 127 _ (by decide)).trans (eval_same _ _ _ (by rw [hsz]; decide))) (eval_same _ _ _ (by simp only [put_size, hsz]; decide)) (by have := HLT.out.1; omega) w') ?_
            refine met_free po3 d3 (wanted_of gd3) (fun w' h' => run_loadKeyR q3 (eval_same _ _ _ (by simp only [put_size, hsz]; decide)) HKL.out h'.1) ?_
            refine met_free po4 d4 (wanted_of gd4) (fun w' h' => run_loadKeyB q4 ((eval_other _ 130 17 _ (by decide)).trans ((eval_other _ 129 17 _ (by decide)).trans ((eval_other _ 128 17 _ (by decide)).trans ((eval_other _ 127 17 _ (by decide)).trans base17)))) HKL.out h'.2.1) ?_
            refine met_free po5 d5 (wanted_of gd5) (fun w' h' => run_neKeyS q5 HKL.out ((eval_other _ 131 130 _ (by decide)).trans (eval_same _ _ _ (by simp only [put_size, hsz]; decide))) (eval_same _ _ _ (by simp only [put_size, hsz]; decide)) w') ?_
            refine met_free po6 d6 (wanted_of gd6) (fun w' h' => run_move q6 (eval_same _ _ _ (by simp only [put_size, hsz]; decide)) w') ?_
            refine met_free po7 d7 (wanted_guardF gd7 po6 d6 (eval_same _ _ _ (by simp only [put_size, hsz]; decide))) (fun w' h' => run_move q7 ((eval_other _ 133 11 _ (by decide)).trans ((eval_other _ 132 11 _ (by decide)).trans ((eval_other _ 131 11 _ (by decide)).trans ((eval_other _ 130 11 _ (by decide)).trans ((eval_other _ 129 11 _ (by decide)).trans ((eval_other _ 128 11 _ (by decide)).trans ((eval_other _ 127 11 _ (by decide)).trans base11))))))) w') ?_
            refine met_free po8 d8 (wanted_guardF gd8 po6 d6 ((eval_other _ 134 133 _ (by decide)).trans (eval_same _ _ _ (by simp only [put_size, hsz]; decide)))) (fun w' h' => run_move q8 ((eval_other _ 134 16 _ (by decide)).trans ((eval_other _ 133 16 _ (by decide)).trans ((eval_other _ 132 16 _ (by decide)).trans ((eval_other _ 131 16 _ (by decide)).trans ((eval_other _ 130 16 _ (by decide)).trans ((eval_other _ 129 16 _ (by decide)).trans ((eval_other _ 128 16 _ (by decide)).trans ((eval_other _ 127 16 _ (by decide)).trans base16)))))))) w') ?_
            refine met_free po9 d9 (wanted_guardF gd9 po6 d6 ((eval_other _ 135 133 _ (by decide)).trans ((eval_other _ 134 133 _ (by decide)).trans (eval_same _ _ _ (by simp only [put_size, hsz]; decide))))) (fun w' h' => run_ixErrV q9 ((eval_other _ 135 134 _ (by decide)).trans (eval_same _ _ _ (by simp only [put_size, hsz]; decide))) (eval_same _ _ _ (by simp only [put_size, hsz]; decide)) (by have := HLT.out.1; omega) w') ?_
            refine met_free po10 d10 (wanted_guardF gd10 po6 d6 ((eval_other _ 136 133 _ (by decide)).trans ((eval_other _ 135 133 _ (by decide)).trans ((eval_other _ 134 133 _ (by decide)).trans (eval_same _ _ _ (by simp only [put_size, hsz]; decide)))))) (fun w' h' => run_loadErrV q10 (eval_same _ _ _ (by simp only [put_size, hsz]; decide)) h'.2.2) ?_
            refine met_free po11 d11 (wanted_guardF gd11 po6 d6 ((eval_other _ 137 133 _ (by decide)).trans ((eval_other _ 136 133 _ (by decide)).trans ((eval_other _ 135 133 _ (by decide)).trans ((eval_other _ 134 133 _ (by decide)).trans (eval_same _ _ _ (by simp only [put_size, hsz]; decide))))))) (fun w' h' => run_move q11 ((eval_other _ 137 18 _ (by decide)).trans ((eval_other _ 136 18 _ (by decide)).trans ((eval_other _ 135 18 _ (by decide)).trans ((eval_other _ 134 18 _ (by decide)).trans ((eval_other _ 133 18 _ (by decide)).trans ((eval_other _ 132 18 _ (by decide)).trans ((eval_other _ 131 18 _ (by decide)).trans ((eval_other _ 130 18 _ (by decide)).trans ((eval_other _ 129 18 _ (by decide)).trans ((eval_other _ 128 18 _ (by decide)).trans ((eval_other _ 127 18 _ (by decide)).trans base18))))))))))) w') ?_
            refine met_free po12 d12 (wanted_guardF gd12 po6 d6 ((eval_other _ 138 133 _ (by decide)).trans ((eval_other _ 137 133 _ (by decide)).trans ((eval_other _ 136 133 _ (by decide)).trans ((eval_other _ 135 133 _ (by decide)).trans ((eval_other _ 134 133 _ (by decide)).trans (eval_same _ _ _ (by simp only [put_size, hsz]; decide)))))))) (fun w' h' => run_neErrS q12 ((eval_other _ 138 137 _ (by decide)).trans (eval_same _ _ _ (by simp only [put_size, hsz]; decide))) (eval_same _ _ _ (by simp only [put_size, hsz]; decide)) w') ?_
            refine met_free po13 d13 (wanted_of gd13) (fun w' h' => r_pickF q13 ((eval_other _ 139 133 _ (by decide)).trans ((eval_other _ 138 133 _ (by decide)).trans ((eval_other _ 137 133 _ (by decide)).trans ((eval_other _ 136 133 _ (by decide)).trans ((eval_other _ 135 133 _ (by decide)).trans ((eval_other _ 134 133 _ (by decide)).trans (eval_same _ _ _ (by simp only [put_size, hsz]; decide)))))))) (eval_same _ _ _ (by simp only [put_size, hsz]; decide)) w') ?_
            show NoPanic _ .normal _ _
            refine NoPanic.normal ?_
            rw [HAA.out]
            go_frame
            clear HAA
            clear po0 q0 d0 gd0 po1 q1 d1 gd1 po2 q2 d2 gd2 po3 q3 d3 gd3 po4 q4 d4 gd4 po5 q5 d5 gd5 po6 q6 d6 gd6 po7 q7 d7 gd7 po8 q8 d8 gd8 po9 q9 d9 gd9 po10 q10 d10 gd10 po11 q11 d11 gd11 po12 q12 d12 gd12 po13 q13 d13 gd13
            clear base10 base11 base16 base17 base18 hsz
            clear HOS
            generalize w12.drew = w13 at HVD HBD ⊢
            go_wp2_with fail
            go_roundw
            case rel => exact ⟨i + 1, by have := HLT.out.1; omega, by go_num, HVD.out, HBD.out⟩
            case measure => simp [intOf]; omega
          · obtain rfl : i = n + 2 := by omega
            have q1 : ¬ ((n + 2 : Nat) : Int) ≤ (n : Int) + 1 := by omega
            have hKr : BytesAt wr w.heap.size 36 kk := (HBR.out.block _ HKA.out.size).trans HKA.out
            have HKW := Lib.hid hKr
            clear hlt hi hv hb hKr
            go_wp2_with (first
              | (show wpList _ _ _ (⟨_, .load 36 _, _, _, _, _⟩ :: _) _ _; refine wpList_runV (by rfl) (run_loadKeyB (x := .tmp 3) rfl rfl HK.out HKW.out) ?_)
              | (go_at_call 25; fail))
            by_cases h64 : n = 64
            · have hpv : putVt d3 l false kk = ⟨d3, l, false, 3⟩ := by unfold putVt; rw [if_neg (by decide), if_pos (by rw [HLN.out]; exact h64)]
              have hcall := HVR.out.put HBR.out.size kk HK.out (by have := HC3.out.count; have := HN3.out.1; have := HN2.out.1; omega) (HR.out.on (HBA.out.trans (HBR.out.mono HBA.out.size)))
              unfold putVE at hcall
              rw [hpv] at hcall
              dsimp only at hcall
              refine hcall.mono ?_
              rintro e w11 ⟨rfl, hv, hb⟩
              have HB11 := Lib.hid (HBA.out.trans ((HBR.out.trans hb).mono HBA.out.size))
              subst h64
              clear hcall hpv hv hb
              go_wp2_with (go_at_call 10; refine (works11_any w11 (HR.out.on HB11.out)).mono ?_; rintro e w12 ⟨rfl, hb⟩; have HB12 := Lib.hid (HB11.out.trans (hb.mono HB11.out.size)); clear hb)
              go_ret
              exact ⟨rfl, HB12.out⟩
            · obtain ⟨d4, hpv, hC4⟩ := HC3.out.put HK.out (by rw [HLN.out]; omega) (by rw [HLN.out]; omega)
              have hcall := HVR.out.put HBR.out.size kk HK.out (by have := HC3.out.count; have := HN3.out.1; have := HN2.out.1; omega) (HR.out.on (HBA.out.trans (HBR.out.mono HBA.out.size)))
              unfold putVE at hcall
              rw [hpv] at hcall
              dsimp only at hcall
              rw [if_pos rfl, List.length_append, HLN.out] at hcall
              refine hcall.mono ?_
              rintro e w11 ⟨rfl, hv, hb⟩
              have HV11 := Lib.hid hv
              have HB11 := Lib.hid (HBR.out.trans hb)
              have hgv : gvV (l ++ [some kk]) ((n : Int) + 1) = .tuple #[.agg (bytesV kk).toArray, .int .i64 0] := gvV_key (l := l ++ [some kk]) (i := n) (by rw [List.length_append, HLN.out]; exact Nat.lt_succ_self n) (by simp [← HLN.out])
              have HGV := Lib.hid hgv
              have q64 : ((n : Int) == 64) = false := beq_eq_false_iff_ne.2 (by omega)
              have HIK := Lib.hid (infoKey kk HK.out)
              have HZS : Hid ((bytesV (noughts 32)).toArray.size = (bytesV kk).toArray.size) := show _ = _ by rw [bytesV_size _ 32 (noughts_length 32), bytesV_size _ 32 HK.out]
              clear hcall hpv hv hb hC4 hgv h64 HKW HVR
              go_wp2_with (go_at_call 22; fail)
              refine (HV11.out.get ((n : Int) + 1)).mono ?_
              rintro e w12 ⟨rfl, hb⟩
              rw [HGV.out]
              have HB12 := Lib.hid (HB11.out.trans (hb.mono HB11.out.size))
              clear hb HV11
              go_upto_region 33 with (show wpList _ _ _ (⟨_, .store 36 _ _, _, _, _, _⟩ :: _) _ _; go_loud (refine wpList_store_new rfl 36 (.tmp 21) (.tmp 158) rfl w12.heap.size rfl (bytesV kk).toArray rfl rfl HIK.out (by exact HZS.out) (keyV_ones _) ?_; intro w13 h13 b13; have HT13 := Lib.hid (show BytesAt w13 w12.heap.size 36 kk from h13); have HB13 := Lib.hid (HB12.out.trans (b13.mono HB12.out.size)); clear h13 b13))
              have hK13 : BytesAt w13 w.heap.size 36 kk := (HB13.out.block _ HKA.out.size).trans HKA.out
              have HK13 := Lib.hid hK13
              have HBW := Lib.hid (HBA.out.trans (HB13.out.mono HBA.out.size))
              have HEQ : Hid (decide (kk = kk) = true) := show _ = _ from decide_eq_true rfl
              clear hK13
              go_wp2_with (first
                | (show wpList _ _ _ (⟨_, .load 36 (.tmp 21), _, _, _, _⟩ :: _) _ _; refine wpList_runV (by rfl) (run_loadKeyB (x := .tmp 21) rfl rfl HK.out HT13.out) ?_)
                | (show wpList _ _ _ (⟨_, .load 36 (.tmp 3), _, _, _, _⟩ :: _) _ _; refine wpList_runV (by rfl) (run_loadKeyB (x := .tmp 3) rfl rfl HK.out HK13.out) ?_)
                | (refine wpList_runV (by rfl) (run_eqKeyT (x := .tmp 173) (y := .tmp 174) rfl HK.out HK.out rfl rfl HEQ.out _) ?_)
                | (go_at_call 10; refine (works11_any w13 (HR.out.on HBW.out)).mono ?_; rintro e w14 ⟨rfl, hb⟩; have HB14 := Lib.hid (HBW.out.trans (hb.mono HBW.out.size)); clear hb))
              go_ret
              exact ⟨rfl, HB14.out⟩
end Go.Proofs.YtoidjapenompiaaDoor

/-
  VaultRuns' walk.
-/
namespace Go.Proofs.YtoidjapenompiaaDoor
open Go.RowKit Go.Proofs.ShaWords
theorem Op11.size (o : Op11) (hk : o.key.length = 32) : o.cells.length = 36 := (o.at hk).1
set_option maxRecDepth 100000 in
theorem long11_any (os : List Op11) (N c : Nat) (p : Option Addr) (W w : World) (hN : os.length = N) (hN2 : N < (2 ^ 47)) (hT : RowOf 36 Op11.cells W p os) (hk : ∀ o ∈ os, o.Ok W ∧ o.b.length < (2 ^ 47)) (hb : Below W.heap.size W w) :
    Calls Tryd.prog 9 #[.slice p N c] w fun e w' => ∃ b, e = .returned (.bool b) ∧ w' = w ∧ (b = false → N ≤ 150 ∧ ∀ o ∈ os, o.b.length ≤ 8192) := by
  have HN := Lib.hid hN
  have HT := Lib.hid (hT.below hb)
  have HK := Lib.hid hk
  have HN2 := Lib.hid hN2
  clear hN hT hk hb hN2
  go_enter Tryd.func9, Tryd.ntmps9
  go_wp2_with fail
  go_loopw [3, 4] (fun s i wr => ∃ k m : Nat, k ≤ N ∧ i = .int .i64 (k : Int) ∧ s = .int .i64 (m : Int) ∧ m ≤ 8192 ∧ (∀ o ∈ os.take k, o.b.length ≤ 8192) ∧ wr = w) (fun _ i _ => N - (intOf i).toNat)
  case atStart => exact ⟨0, 0, by omega, rfl, rfl, by omega, by simp, rfl⟩
  case round =>
    obtain ⟨k, m, hk, rfl, rfl, hm, hS, rfl⟩ := hrel
    have HS := Lib.hid hS
    clear hS
    by_cases hlt : k < N
    · have q1 : (k : Int) < (N : Int) := by omega
      have hkt : k < os.length := by rw [HN.out]; exact hlt
      rcases HT.out.at' with h0 | ⟨b, off, rfl, hr'⟩
      · exfalso; rw [h0] at hkt; simp at hkt
      have hrk := hr' k hkt
      have hok := HK.out os[k] (List.getElem_mem hkt)
      have HTK : Hid (os.take (k + 1) = os.take k ++ [os[k]]) := show _ = _ from by rw [List.take_succ_eq_append_getElem hkt]
      generalize os[k] = o at hrk hok HTK
      have f35 : wr.cell? ⟨b, off + k * 36 + 35, none⟩ = some (.slice o.p o.b.length o.c) := hrk 35 _ (o.at hok.1.key).2.2.2.2
      obtain ⟨nb, hnb⟩ : ∃ nb, o.b.length = nb := ⟨_, rfl⟩
      rw [hnb] at f35
      have HNB := Lib.hid hnb
      have hk47 : k < 200000000000000 := by
        have h47 : (2 : Nat) ^ 47 ≤ 200000000000000 := by decide
        have := HN2.out
        omega
      have hs : nb < 200000000000000 := by
        have h47 : (2 : Nat) ^ 47 ≤ 200000000000000 := by decide
        have := hok.2
        omega
      clear hr' hrk hok hkt hnb
      by_cases hbig : m + nb ≤ 8192
      · have q2 : ¬ ((m : Int) + (nb : Int) > 8192) := by omega
        go_wp2_with fail
        go_roundw
        case rel => exact ⟨k + 1, m + nb, by omega, by first | rfl | simp, by first | rfl | simp, hbig, by rw [HTK.out]; intro x hx; rcases List.mem_append.1 hx with hx | hx; exact HS.out x hx; rw [List.mem_singleton.1 hx, HNB.out]; omega, by first | trivial | rfl⟩
        case measure => simp [intOf]; omega
      · have q2 : (m : Int) + (nb : Int) > 8192 := by omega
        go_wp2_with fail
        go_ret
        exact ⟨true, rfl, rfl, fun h => by cases h⟩
    · obtain rfl : k = N := by omega
      have HTA : Hid (os.take k = os) := show _ = _ from List.take_of_length_le (by rw [HN.out]; exact Nat.le_refl _)
      clear hlt
      by_cases h150 : k ≤ 150
      · have q2 : ¬ ((k : Int) > 150) := by omega
        have H150 := Lib.hid h150
        go_wp2_with fail
        go_ret
        have hall : ∀ o ∈ os, o.b.length ≤ 8192 := fun o ho => HS.out o (by rw [HTA.out]; exact ho)
        first | exact Or.inl ⟨rfl, rfl, hall⟩ | exact ⟨_, rfl, rfl, fun _ => ⟨H150.out, hall⟩⟩
      · have q2 : (k : Int) > 150 := by omega
        go_wp2_with fail
        go_ret
        first | exact ⟨_, rfl, rfl, fun h => by cases h⟩ | exact Or.inr ⟨rfl, rfl⟩
theorem pair_built (g x : Nat) : Tryd.prog.built 31 [(0, .pointer (some ⟨g, 0, none⟩)), (1, .pointer (some ⟨x, 0, none⟩))] = some #[.pointer (some ⟨g, 0, none⟩), .pointer (some ⟨x, 0, none⟩), .pointer none, .pointer none] := by kernel_rfl
theorem run_buildPair {ρ : Operand → Value} {o : Oper} {a b : Operand} {g x : Nat} (ho : o.op = .build 31 #[(0, a), (1, b)]) (hx : ρ a = .pointer (some ⟨g, 0, none⟩)) (hy : ρ b = .pointer (some ⟨x, 0, none⟩)) (w : World) :
    (execOp ρ o).run Tryd.prog w = .ok (.value (.agg #[.pointer (some ⟨g, 0, none⟩), .pointer (some ⟨x, 0, none⟩), .pointer none, .pointer none])) w := by
  have hr := Go.run_build (P := Tryd.prog) w 31 #[(0, .pointer (some ⟨g, 0, none⟩)), (1, .pointer (some ⟨x, 0, none⟩))] _ (pair_built g x)
  obtain ⟨dst, op, ty', pos, after, guard⟩ := o
  simp only at ho
  subst ho
  unfold execOp
  simp only [List.map_toArray, List.map_cons, List.map_nil, hx, hy, Sem.run_bind, hr, Result.andThen_ok, Sem.run_pure]
/-- What is read amid the first loop. -/
def RnS (q g x : Nat) (W w : World) : Prop := (∃ o, w.heap[q]? = some (pairO g x o)) ∧ Below W.heap.size W w
theorem RnS.gp {q g x : Nat} {W w : World} (h : RnS q g x W w) : w.cell? ⟨q, 0, none⟩ = some (.pointer (some ⟨g, 0, none⟩)) := by
  obtain ⟨⟨o, h⟩, -⟩ := h
  exact (cell_of_row _ _ _ _ _ _ h).trans rfl
theorem RnS.xp {q g x : Nat} {W w : World} (h : RnS q g x W w) : w.cell? ⟨q, 1, none⟩ = some (.pointer (some ⟨x, 0, none⟩)) := by
  obtain ⟨⟨o, h⟩, -⟩ := h
  exact (cell_of_row _ _ _ _ _ _ h).trans rfl
section
variable {ρ : Operand → Value} {o : Oper} {x y : Operand}
theorem run_ixOp {b off n c i : Nat} (ho : o.op = .indexAddr 22 x y) (hx : ρ x = .slice (some ⟨b, off, none⟩) n c) (hy : ρ y = .int .i64 (i : Int)) (hi : i < n) (w : World) : (execOp ρ o).run Tryd.prog w = .ok (.value (.pointer (some ⟨b, off + i * 36, none⟩))) w := by
  obtain ⟨dst, op, ty', pos, after, guard⟩ := o
  simp only at ho
  subst ho
  have q : (i : Int) < (n : Int) := by omega
  go_simp
theorem run_loadOp {B O : Nat} {op : Op11} {w : World} (ho : o.op = .load 39 x) (hx : ρ x = .pointer (some ⟨B, O, none⟩)) (hk : op.key.length = 32) (h : w.rangeAt B O op.cells) : (execOp ρ o).run Tryd.prog w = .ok (.value (.agg op.cells.toArray)) w := by
  have hi : (Tryd.prog.info? 39).map (·.size) = some op.cells.length := by rw [op.size hk]; kernel_rfl
  have h2 := run_loadAt_mid (P := Tryd.prog) w B O 39 op.cells _ h Tryd.underlying39 rfl hi
  unfold execOp
  simp only [ho, hx, Sem.run_bind, h2, Result.andThen_ok, Sem.run_pure]
theorem run_neBP {b : Bool} {ty : TypeId} (ho : o.op = .binOp .neq 4 x y ty) (hx : ρ x = .bool b) (hy : ρ y = .bool b) (w : World) : (execOp ρ o).run Tryd.prog w = .ok (.value (.bool false)) w := by
  obtain ⟨dst, op, ty', pos, after, guard⟩ := o
  simp only at ho
  subst ho
  cases b <;> go_simp
theorem run_neInP {n : Int} {ty : TypeId} (ho : o.op = .binOp .neq 3 x y ty) (hx : ρ x = .int .i64 n) (hy : ρ y = .int .i64 n) (w : World) : (execOp ρ o).run Tryd.prog w = .ok (.value (.bool false)) w := by
  obtain ⟨dst, op, ty', pos, after, guard⟩ := o
  simp only at ho
  subst ho
  go_simp
end
section
variable {A B : (Nat → Prop) → World → Prop} {lo g x : Nat} {d : DiskM} {o : PairS} {w : World} {L : List (Nat × Obj)}
theorem X2.readV (h : X2 (AP g d o) B lo w L) (f : Int) : Calls Tryd.prog 15 #[.pointer (some ⟨g, 0, none⟩), .int .i64 f] w fun e w' => ∃ v, e = .returned v ∧ Own w.heap.size w' (d.read f) v ∧ Below w.heap.size w w' := by
  obtain ⟨S, U, hA, -⟩ := h
  obtain ⟨S0, h0, -⟩ := hA.drop
  exact dkRead_any S0 g d f w h0
theorem X2.readY (h : X2 (AP g d o) (BP x d o) lo w L) (f : Int) : Calls Tryd.prog 16 #[.pointer (some ⟨x, 0, none⟩), .int .i64 f] w fun e w' => ∃ v, e = .returned v ∧ Own w.heap.size w' (d.read f) v ∧ Below w.heap.size w w' := by
  have hok := h.okA
  obtain ⟨S, U, -, hB, -⟩ := h
  obtain ⟨T, h0, -⟩ := hB.drop
  exact rfRead_any T x d w f h0 hok
theorem X2.leA {v y : Nat} {l : List SlotV} {a : Bool} (h : X2 (AP g d (some (v, y, l, a))) B lo w L) : l.length ≤ 64 := by
  obtain ⟨S, U, ⟨S0, hI, -⟩, -⟩ := h
  exact hI.le
theorem X2.readS (h : X2 (AP g d o) B lo w L) : (d.read 0).length ≤ 262144 := by
  have hrd : d.read 0 = (d.files 0).all := by unfold DiskM.read; rw [if_pos (by omega)]; rfl
  rw [hrd]
  exact file_small h.okA 0 (by omega)
theorem X2.downV (h : X2 (AP g d o) B lo w L) : Calls Tryd.prog 17 #[.pointer (some ⟨g, 0, none⟩)] w fun e w' => e = .returned (.bool d.down) ∧ w = w' := by
  obtain ⟨S, U, hA, -⟩ := h
  obtain ⟨S0, h0, -⟩ := hA.drop
  exact dkDown_any S0 g d w h0
theorem X2.downY (h : X2 A (BP x d o) lo w L) : Calls Tryd.prog 18 #[.pointer (some ⟨x, 0, none⟩)] w fun e w' => e = .returned (.bool d.down) ∧ w = w' := by
  obtain ⟨S, U, -, hB, -⟩ := h
  obtain ⟨T, h0, -⟩ := hB.drop
  exact rfDown_any T x d w h0
theorem X2.countV (h : X2 (AP g d o) B lo w L) : Calls Tryd.prog 19 #[.pointer (some ⟨g, 0, none⟩)] w fun e w' => e = .returned (.int .i64 (d.count : Int)) ∧ w = w' := by
  obtain ⟨S, U, hA, -⟩ := h
  obtain ⟨S0, h0, -⟩ := hA.drop
  exact dkCount_any S0 g d w h0
theorem X2.countY (h : X2 A (BP x d o) lo w L) : Calls Tryd.prog 20 #[.pointer (some ⟨x, 0, none⟩)] w fun e w' => e = .returned (.int .i64 (d.count : Int)) ∧ w = w' := by
  obtain ⟨S, U, -, hB, -⟩ := h
  obtain ⟨T, h0, -⟩ := hB.drop
  exact rfCount_any T x d w h0
end
set_option maxRecDepth 1000000 in
set_option maxHeartbeats 4000000 in
theorem vtRuns_any (os : List Op11) (room : Int) (N c : Nat) (p : Option Addr) (W : World) (hN : os.length = N) (hN2 : N < 2 ^ 47) (hT : RowOf 36 Op11.cells W p os) (hO : ∀ o ∈ os, o.Ok W ∧ o.b.length < 2 ^ 47) (hR : Rem W) :
    Calls Tryd.prog 3 #[.int .i64 room, .slice p N c] W fun e w' => e = .returned (.bool true) ∧ Below W.heap.size W w' := by
  have HN := Lib.hid hN
  have HT := Lib.hid hT
  have HO := Lib.hid hO
  have HR := Lib.hid hR
  have HG := Lib.hid hR.size
  have HLG : Hid (∀ w', Below W.heap.size W w' → Calls Tryd.prog 9 #[.slice p N c] w' fun e w'' => ∃ b, e = .returned (.bool b) ∧ w'' = w' ∧ (b = false → N ≤ 150 ∧ ∀ o ∈ os, o.b.length ≤ 8192)) := show ∀ _, _ → _ from fun w' h => long11_any os N c p W w' hN hN2 hT hO h
  clear hN hT hO hR hN2
  go_enter Tryd.func3, Tryd.ntmps3
  go_wp2_with fail
  refine (dkNewI W.heap.size room W (Nat.le_refl _)).mono ?_
  rintro e w1 ⟨g, rfl, hi, hb⟩
  have HI1 := Lib.hid hi; have HB1 := Lib.hid hb; clear hi hb
  go_wp2_with fail
  refine (rfNew_any room w1).mono ?_
  rintro e w2 ⟨x, rfl, hx, hr, hb⟩
  have HX2 : Hid (X2 (AP g (DiskM.new room) none) (BP x (DiskM.new room) none) W.heap.size w2 []) := show X2 _ _ _ _ _ from by
    obtain ⟨S, h1, h2⟩ := HI1.out
    exact ⟨S, fun k => k = x, h1.below hb, hr, fun k s e => by have := h1.dom2 k s; omega, h2, fun k e => e ▸ Nat.le_trans HB1.out.size hx, fun y hy => absurd hy List.not_mem_nil⟩
  have HB2 := Lib.hid (HB1.out.trans (hb.mono HB1.out.size))
  clear hr hb hx HI1 HB1
  obtain ⟨d0, hd0⟩ : ∃ d0, DiskM.new room = d0 := ⟨_, rfl⟩
  have HD0 : Hid (d0.count = 0) := show _ = _ from by rw [← hd0]; rfl
  rw [hd0] at HX2
  clear hd0
  go_upto_region 2 with (show wpList _ _ _ (⟨_, .build 31 _, _, _, _, _⟩ :: _) _ _; refine wpList_runV (by rfl) (run_buildPair (a := .tmp 13) (b := .tmp 15) rfl rfl rfl _) ?_)
  refine wp_gen (fun A => Below w2.heap.size w2 A ∧ A.heap[w2.heap.size]? = some (pairO g x none)) ⟨(Below.refl _ _).alloc (Nat.le_refl _) _, heap_new_at rfl⟩ ?_
  rintro A ⟨bA, hA⟩
  obtain ⟨q, hq⟩ : ∃ q, q = w2.heap.size := ⟨_, rfl⟩
  rw [← hq] at hA ⊢
  have hx3 : X2 (AP g d0 none) (BP x d0 none) W.heap.size A ([(q, pairO g x none)] ++ []) := HX2.out.add (AP.part g _ _) (BP.part x _ _) bA (fun y hy => by rw [List.mem_singleton.1 hy]; exact ⟨Nat.le_of_eq hq.symm, hA⟩)
  have HX3 : Hid (X2 (AP g d0 none) (BP x d0 none) W.heap.size A [(q, pairO g x none)]) := show X2 _ _ _ _ _ from hx3
  have HB3 := Lib.hid (HB2.out.trans (bA.mono HB2.out.size))
  have HQ : Hid (W.heap.size ≤ q) := show _ ≤ _ from by rw [hq]; exact HB2.out.size
  clear hx3 hA bA hq HX2 HB2
  have HWK : Hid (∀ w' : World, Below W.heap.size W w' → Calls Tryd.prog 10 #[] w' fun e w'' => e = .returned (.bool true) ∧ Below W.heap.size W w'') := show ∀ _, _ → _ from fun w' h => (works11_any w' (HR.out.on h)).mono fun e w'' ⟨h1, h2⟩ => ⟨h1, h.trans (h2.mono h.size)⟩
  go_wp2_with fail
  refine (HLG.out A HB3.out).mono ?_
  rintro e w4 ⟨b, rfl, rfl, hlg⟩
  cases b with
  | true =>
    clear hlg
    go_wp2_with fail
    refine (HWK.out _ HB3.out).mono ?_
    rintro e w5 ⟨rfl, hb⟩
    have HB5 := Lib.hid hb
    clear hb
    go_wp2_with fail
    go_ret
    exact ⟨rfl, HB5.out⟩
  | false =>
    obtain ⟨hn150, hb8⟩ := hlg rfl
    have HN150 := Lib.hid (And.intro hn150 hb8)
    clear hlg hn150 hb8
    go_wp2_with fail
    refine (pairOpen_any HX3.out (fun z hz => by cases hz) HQ.out HB3.out.size HG.out (HR.out.on HB3.out) (by have := HD0.out; omega)).mono ?_
    rintro e w5 ⟨rfl, d5, o5, hd5, hx5, hb5⟩
    have HX5 := Lib.hid hx5
    have HB5 := Lib.hid (HB3.out.trans hb5)
    have HD5 : Hid (d5.count ≤ 1) := show _ ≤ _ from by have := HD0.out; omega
    clear hx5 hb5 hd5 HX3
    go_wp2_with fail
    go_loopw [6] (fun i wr => ∃ (k : Nat) (d : DiskM) (o : PairS), k ≤ N ∧ k ≤ 150 ∧ i = .int .i64 (k : Int) ∧ d.count ≤ 1 + 4 * k ∧ X2 (AP g d o) (BP x d o) W.heap.size wr [(q, pairO g x o)] ∧ Below W.heap.size W wr) (fun i _ => N - (intOf i).toNat)
    case atStart => exact ⟨0, d5, o5, by omega, by omega, rfl, HD5.out, HX5.out, HB5.out⟩
    case round =>
      clear HX5 HB5
      obtain ⟨k, d, o, hk, hk150, rfl, hct, hx, hb⟩ := hrel
      have HXK := Lib.hid hx; have HBK := Lib.hid hb; have HCK := Lib.hid hct
      clear hx hb hct
      by_cases hlt : k < N
      · have q1 : (k : Int) < (N : Int) := by omega
        have hkt : k < os.length := by rw [HN.out]; exact hlt
        rcases HT.out.at' with h0 | ⟨B, off, rfl, hr'⟩
        · exfalso; rw [h0] at hkt; simp at hkt
        have hrk := hr' k hkt
        have hok := HO.out os[k] (List.getElem_mem hkt)
        have hb8 := HN150.out.2 os[k] (List.getElem_mem hkt)
        generalize os[k] = op at hrk hok hb8
        have hlw : B < W.heap.size := World.block_lt_of_cell? W _ (hrk 0 _ (op.at hok.1.key).2.1)
        have HRO : Hid (∀ w', Below W.heap.size W w' → w'.rangeAt B (off + k * 36) op.cells) := show ∀ _, _ → World.rangeAt _ _ _ _ from fun w' h j u hu => (h.cell (p := ⟨B, off + k * 36 + j, none⟩) hlw).trans (hrk j u hu)
        have HOK := Lib.hid hok.1
        have HB8 := Lib.hid hb8
        have HNW : Hid (op.n < 9223372036854775808) := show _ < _ from by have := hok.1.nw; unfold wrap64 at this; omega
        clear hr' hrk hok hb8 hlw hkt
        go_upto_region 9 with fail
        have HXD := Lib.hid (HXK.out.below (AP.part g _ _) (BP.part x _ _) (Below.refl _ wr).drew)
        have HBD : Hid (Below W.heap.size W wr.drew) := show Below _ _ _ from HBK.out.drew
        have HS0 : Hid (RnS q g x W wr.drew) := show RnS _ _ _ _ _ from ⟨⟨_, HXD.out.all _ List.mem_cons_self⟩, HBD.out⟩
        refine region_phase (RnS q g x W) (fun _ => True) 99 (HS0.out) trivial [(0, .free), (1, .free), (2, .free), (3, .free), (4, .free), (5, .behind), (6, .free), (7, .free), (8, .free), (9, .free), (10, .free), (11, .free), (12, .free), (13, .behind), (14, .free), (15, .free), (16, .free), (17, .free), (18, .free), (19, .free), (20, .free), (22, .free), (23, .free), (24, .free), (25, .free), (21, .behind), (26, .behind), (27, .behind), (28, .free), (29, .free), (30, .free), (31, .free), (32, .free), (33, .free), (34, .free), (36, .free), (37, .free), (38, .free), (39, .free), (35, .behind), (40, .behind), (41, .free), (42, .free), (43, .free), (44, .free), (45, .free), (46, .free), (47, .free), (49, .free), (50, .free), (51, .free), (52, .free), (48, .behind), (53, .behind), (54, .free), (55, .free)] (by kernel_rfl) (by kernel_rfl) (by kernel_rfl) (by kernel_rfl) (fun ops hops A9 hA => ?_)
        have hsz : A9.tmps.size = 130 := by rw [hA]; rfl
        have base5 : A9.eval (.tmp 5) = .pointer (some ⟨q, 0, none⟩) := by rw [hA]; rfl
        have base1 : A9.eval (.tmp 1) = .slice (some ⟨B, off, none⟩) N c := by rw [hA]; rfl
        have base6 : A9.eval (.tmp 6) = .int .i64 (k : Int) := by rw [hA]; rfl
        have HAA := Lib.hid hA; clear hA
        obtain ⟨o0, po0, q0, d0, gd0⟩ : ∃ o, ops[0]? = some o ∧ o.op = .move (.tmp 5) ∧ o.dst = some 30 ∧ o.guard = none := ⟨_, by rw [hops]; rfl, rfl, rfl, rfl⟩
        obtain ⟨o1, po1, q1, d1, gd1⟩ : ∃ o, ops[1]? = some o ∧ o.op = .move (.tmp 1) ∧ o.dst = some 31 ∧ o.guard = none := ⟨_, by rw [hops]; rfl, rfl, rfl, rfl⟩
        obtain ⟨o2, po2, q2, d2, gd2⟩ : ∃ o, ops[2]? = some o ∧ o.op = .move (.tmp 6) ∧ o.dst = some 32 ∧ o.guard = none := ⟨_, by rw [hops]; rfl, rfl, rfl, rfl⟩
        obtain ⟨o3, po3, q3, d3, gd3⟩ : ∃ o, ops[3]? = some o ∧ o.op = .indexAddr 22 (.tmp 31) (.tmp 32) ∧ o.dst = some 33 ∧ o.guard = none := ⟨_, by rw [hops]; rfl, rfl, rfl, rfl⟩
        obtain ⟨o4, po4, q4, d4, gd4⟩ : ∃ o, ops[4]? = some o ∧ o.op = .load 39 (.tmp 33) ∧ o.dst = some 34 ∧ o.guard = none := ⟨_, by rw [hops]; rfl, rfl, rfl, rfl⟩
        obtain ⟨o5, po5, q5, d5, gd5⟩ : ∃ o, ops[5]? = some o ∧ o.op = .call { callee := .value (.func 12), args := #[.tmp 30, .tmp 34], argTypes := #[23, 39] } ∧ o.dst = some 35 ∧ o.guard = none := ⟨_, by rw [hops]; rfl, rfl, rfl, rfl⟩
        obtain ⟨o6, po6, q6, d6, gd6⟩ : ∃ o, ops[6]? = some o ∧ o.op = .unOp .not 4 (.tmp 35) ∧ o.dst = some 36 ∧ o.guard = none := ⟨_, by rw [hops]; rfl, rfl, rfl, rfl⟩
        obtain ⟨o7, po7, q7, d7, gd7⟩ : ∃ o, ops[7]? = some o ∧ o.op = .move (.tmp 36) ∧ o.dst = some 37 ∧ o.guard = none := ⟨_, by rw [hops]; rfl, rfl, rfl, rfl⟩
        obtain ⟨o8, po8, q8, d8, gd8⟩ : ∃ o, ops[8]? = some o ∧ o.op = .move (.tmp 5) ∧ o.dst = some 38 ∧ o.guard = some (7, false) := ⟨_, by rw [hops]; rfl, rfl, rfl, rfl⟩
        obtain ⟨o9, po9, q9, d9, gd9⟩ : ∃ o, ops[9]? = some o ∧ o.op = .move (.tmp 1) ∧ o.dst = some 39 ∧ o.guard = some (7, false) := ⟨_, by rw [hops]; rfl, rfl, rfl, rfl⟩
        obtain ⟨o10, po10, q10, d10, gd10⟩ : ∃ o, ops[10]? = some o ∧ o.op = .move (.tmp 6) ∧ o.dst = some 40 ∧ o.guard = some (7, false) := ⟨_, by rw [hops]; rfl, rfl, rfl, rfl⟩
        obtain ⟨o11, po11, q11, d11, gd11⟩ : ∃ o, ops[11]? = some o ∧ o.op = .indexAddr 22 (.tmp 39) (.tmp 40) ∧ o.dst = some 41 ∧ o.guard = some (7, false) := ⟨_, by rw [hops]; rfl, rfl, rfl, rfl⟩
        obtain ⟨o12, po12, q12, d12, gd12⟩ : ∃ o, ops[12]? = some o ∧ o.op = .load 39 (.tmp 41) ∧ o.dst = some 42 ∧ o.guard = some (7, false) := ⟨_, by rw [hops]; rfl, rfl, rfl, rfl⟩
        obtain ⟨o13, po13, q13, d13, gd13⟩ : ∃ o, ops[13]? = some o ∧ o.op = .call { callee := .value (.func 13), args := #[.tmp 38, .tmp 42], argTypes := #[23, 39] } ∧ o.dst = some 43 ∧ o.guard = some (7, false) := ⟨_, by rw [hops]; rfl, rfl, rfl, rfl⟩
        obtain ⟨o14, po14, q14, d14, gd14⟩ : ∃ o, ops[14]? = some o ∧ o.op = .unOp .not 4 (.tmp 43) ∧ o.dst = some 44 ∧ o.guard = some (7, false) := ⟨_, by rw [hops]; rfl, rfl, rfl, rfl⟩
        obtain ⟨o15, po15, q15, d15, gd15⟩ : ∃ o, ops[15]? = some o ∧ o.op = .pick (.tmp 37) (.const (.bool true)) (.tmp 44) ∧ o.dst = some 45 ∧ o.guard = none := ⟨_, by rw [hops]; rfl, rfl, rfl, rfl⟩
        obtain ⟨o16, po16, q16, d16, gd16⟩ : ∃ o, ops[16]? = some o ∧ o.op = .move (.tmp 45) ∧ o.dst = some 46 ∧ o.guard = none := ⟨_, by rw [hops]; rfl, rfl, rfl, rfl⟩
        obtain ⟨o17, po17, q17, d17, gd17⟩ : ∃ o, ops[17]? = some o ∧ o.op = .move (.tmp 5) ∧ o.dst = some 47 ∧ o.guard = some (16, false) := ⟨_, by rw [hops]; rfl, rfl, rfl, rfl⟩
        obtain ⟨o18, po18, q18, d18, gd18⟩ : ∃ o, ops[18]? = some o ∧ o.op = .nilCheck (.tmp 47) ∧ o.dst = some 48 ∧ o.guard = some (16, false) := ⟨_, by rw [hops]; rfl, rfl, rfl, rfl⟩
        obtain ⟨o19, po19, q19, d19, gd19⟩ : ∃ o, ops[19]? = some o ∧ o.op = .fieldAddr 31 (.tmp 48) 0 ∧ o.dst = some 49 ∧ o.guard = some (16, false) := ⟨_, by rw [hops]; rfl, rfl, rfl, rfl⟩
        obtain ⟨o20, po20, q20, d20, gd20⟩ : ∃ o, ops[20]? = some o ∧ o.op = .load 24 (.tmp 49) ∧ o.dst = some 50 ∧ o.guard = some (16, false) := ⟨_, by rw [hops]; rfl, rfl, rfl, rfl⟩
        obtain ⟨o21, po21, q21, d21, gd21⟩ : ∃ o, ops[21]? = some o ∧ o.op = .call { callee := .value (.func 15), args := #[.tmp 50, .const (.int .i64 0)], argTypes := #[24, 3] } ∧ o.dst = some 51 ∧ o.guard = some (16, false) := ⟨_, by rw [hops]; rfl, rfl, rfl, rfl⟩
        obtain ⟨o22, po22, q22, d22, gd22⟩ : ∃ o, ops[22]? = some o ∧ o.op = .move (.tmp 5) ∧ o.dst = some 52 ∧ o.guard = some (16, false) := ⟨_, by rw [hops]; rfl, rfl, rfl, rfl⟩
        obtain ⟨o23, po23, q23, d23, gd23⟩ : ∃ o, ops[23]? = some o ∧ o.op = .nilCheck (.tmp 52) ∧ o.dst = some 53 ∧ o.guard = some (16, false) := ⟨_, by rw [hops]; rfl, rfl, rfl, rfl⟩
        obtain ⟨o24, po24, q24, d24, gd24⟩ : ∃ o, ops[24]? = some o ∧ o.op = .fieldAddr 31 (.tmp 53) 1 ∧ o.dst = some 54 ∧ o.guard = some (16, false) := ⟨_, by rw [hops]; rfl, rfl, rfl, rfl⟩
        obtain ⟨o25, po25, q25, d25, gd25⟩ : ∃ o, ops[25]? = some o ∧ o.op = .load 26 (.tmp 54) ∧ o.dst = some 55 ∧ o.guard = some (16, false) := ⟨_, by rw [hops]; rfl, rfl, rfl, rfl⟩
        obtain ⟨o26, po26, q26, d26, gd26⟩ : ∃ o, ops[26]? = some o ∧ o.op = .call { callee := .value (.func 16), args := #[.tmp 55, .const (.int .i64 0)], argTypes := #[26, 3] } ∧ o.dst = some 56 ∧ o.guard = some (16, false) := ⟨_, by rw [hops]; rfl, rfl, rfl, rfl⟩
        obtain ⟨o27, po27, q27, d27, gd27⟩ : ∃ o, ops[27]? = some o ∧ o.op = .call { callee := .value (.func 14), args := #[.tmp 51, .tmp 56], argTypes := #[37, 37] } ∧ o.dst = some 57 ∧ o.guard = some (16, false) := ⟨_, by rw [hops]; rfl, rfl, rfl, rfl⟩
        obtain ⟨o28, po28, q28, d28, gd28⟩ : ∃ o, ops[28]? = some o ∧ o.op = .unOp .not 4 (.tmp 57) ∧ o.dst = some 58 ∧ o.guard = some (16, false) := ⟨_, by rw [hops]; rfl, rfl, rfl, rfl⟩
        obtain ⟨o29, po29, q29, d29, gd29⟩ : ∃ o, ops[29]? = some o ∧ o.op = .pick (.tmp 46) (.const (.bool true)) (.tmp 58) ∧ o.dst = some 59 ∧ o.guard = none := ⟨_, by rw [hops]; rfl, rfl, rfl, rfl⟩
        obtain ⟨o30, po30, q30, d30, gd30⟩ : ∃ o, ops[30]? = some o ∧ o.op = .move (.tmp 59) ∧ o.dst = some 60 ∧ o.guard = none := ⟨_, by rw [hops]; rfl, rfl, rfl, rfl⟩
        obtain ⟨o31, po31, q31, d31, gd31⟩ : ∃ o, ops[31]? = some o ∧ o.op = .move (.tmp 5) ∧ o.dst = some 61 ∧ o.guard = some (30, false) := ⟨_, by rw [hops]; rfl, rfl, rfl, rfl⟩
        obtain ⟨o32, po32, q32, d32, gd32⟩ : ∃ o, ops[32]? = some o ∧ o.op = .nilCheck (.tmp 61) ∧ o.dst = some 62 ∧ o.guard = some (30, false) := ⟨_, by rw [hops]; rfl, rfl, rfl, rfl⟩
        obtain ⟨o33, po33, q33, d33, gd33⟩ : ∃ o, ops[33]? = some o ∧ o.op = .fieldAddr 31 (.tmp 62) 0 ∧ o.dst = some 63 ∧ o.guard = some (30, false) := ⟨_, by rw [hops]; rfl, rfl, rfl, rfl⟩
        obtain ⟨o34, po34, q34, d34, gd34⟩ : ∃ o, ops[34]? = some o ∧ o.op = .load 24 (.tmp 63) ∧ o.dst = some 64 ∧ o.guard = some (30, false) := ⟨_, by rw [hops]; rfl, rfl, rfl, rfl⟩
        obtain ⟨o35, po35, q35, d35, gd35⟩ : ∃ o, ops[35]? = some o ∧ o.op = .call { callee := .value (.func 17), args := #[.tmp 64], argTypes := #[24] } ∧ o.dst = some 65 ∧ o.guard = some (30, false) := ⟨_, by rw [hops]; rfl, rfl, rfl, rfl⟩
        obtain ⟨o36, po36, q36, d36, gd36⟩ : ∃ o, ops[36]? = some o ∧ o.op = .move (.tmp 5) ∧ o.dst = some 66 ∧ o.guard = some (30, false) := ⟨_, by rw [hops]; rfl, rfl, rfl, rfl⟩
        obtain ⟨o37, po37, q37, d37, gd37⟩ : ∃ o, ops[37]? = some o ∧ o.op = .nilCheck (.tmp 66) ∧ o.dst = some 67 ∧ o.guard = some (30, false) := ⟨_, by rw [hops]; rfl, rfl, rfl, rfl⟩
        obtain ⟨o38, po38, q38, d38, gd38⟩ : ∃ o, ops[38]? = some o ∧ o.op = .fieldAddr 31 (.tmp 67) 1 ∧ o.dst = some 68 ∧ o.guard = some (30, false) := ⟨_, by rw [hops]; rfl, rfl, rfl, rfl⟩
        obtain ⟨o39, po39, q39, d39, gd39⟩ : ∃ o, ops[39]? = some o ∧ o.op = .load 26 (.tmp 68) ∧ o.dst = some 69 ∧ o.guard = some (30, false) := ⟨_, by rw [hops]; rfl, rfl, rfl, rfl⟩
        obtain ⟨o40, po40, q40, d40, gd40⟩ : ∃ o, ops[40]? = some o ∧ o.op = .call { callee := .value (.func 18), args := #[.tmp 69], argTypes := #[26] } ∧ o.dst = some 70 ∧ o.guard = some (30, false) := ⟨_, by rw [hops]; rfl, rfl, rfl, rfl⟩
        obtain ⟨o41, po41, q41, d41, gd41⟩ : ∃ o, ops[41]? = some o ∧ o.op = .binOp .neq 4 (.tmp 65) (.tmp 70) 4 ∧ o.dst = some 71 ∧ o.guard = some (30, false) := ⟨_, by rw [hops]; rfl, rfl, rfl, rfl⟩
        obtain ⟨o42, po42, q42, d42, gd42⟩ : ∃ o, ops[42]? = some o ∧ o.op = .pick (.tmp 60) (.const (.bool true)) (.tmp 71) ∧ o.dst = some 72 ∧ o.guard = none := ⟨_, by rw [hops]; rfl, rfl, rfl, rfl⟩
        obtain ⟨o43, po43, q43, d43, gd43⟩ : ∃ o, ops[43]? = some o ∧ o.op = .move (.tmp 72) ∧ o.dst = some 73 ∧ o.guard = none := ⟨_, by rw [hops]; rfl, rfl, rfl, rfl⟩
        obtain ⟨o44, po44, q44, d44, gd44⟩ : ∃ o, ops[44]? = some o ∧ o.op = .move (.tmp 5) ∧ o.dst = some 74 ∧ o.guard = some (43, false) := ⟨_, by rw [hops]; rfl, rfl, rfl, rfl⟩
        obtain ⟨o45, po45, q45, d45, gd45⟩ : ∃ o, ops[45]? = some o ∧ o.op = .nilCheck (.tmp 74) ∧ o.dst = some 75 ∧ o.guard = some (43, false) := ⟨_, by rw [hops]; rfl, rfl, rfl, rfl⟩
        obtain ⟨o46, po46, q46, d46, gd46⟩ : ∃ o, ops[46]? = some o ∧ o.op = .fieldAddr 31 (.tmp 75) 0 ∧ o.dst = some 76 ∧ o.guard = some (43, false) := ⟨_, by rw [hops]; rfl, rfl, rfl, rfl⟩
        obtain ⟨o47, po47, q47, d47, gd47⟩ : ∃ o, ops[47]? = some o ∧ o.op = .load 24 (.tmp 76) ∧ o.dst = some 77 ∧ o.guard = some (43, false) := ⟨_, by rw [hops]; rfl, rfl, rfl, rfl⟩
        obtain ⟨o48, po48, q48, d48, gd48⟩ : ∃ o, ops[48]? = some o ∧ o.op = .call { callee := .value (.func 19), args := #[.tmp 77], argTypes := #[24] } ∧ o.dst = some 78 ∧ o.guard = some (43, false) := ⟨_, by rw [hops]; rfl, rfl, rfl, rfl⟩
        obtain ⟨o49, po49, q49, d49, gd49⟩ : ∃ o, ops[49]? = some o ∧ o.op = .move (.tmp 5) ∧ o.dst = some 79 ∧ o.guard = some (43, false) := ⟨_, by rw [hops]; rfl, rfl, rfl, rfl⟩
        obtain ⟨o50, po50, q50, d50, gd50⟩ : ∃ o, ops[50]? = some o ∧ o.op = .nilCheck (.tmp 79) ∧ o.dst = some 80 ∧ o.guard = some (43, false) := ⟨_, by rw [hops]; rfl, rfl, rfl, rfl⟩
        obtain ⟨o51, po51, q51, d51, gd51⟩ : ∃ o, ops[51]? = some o ∧ o.op = .fieldAddr 31 (.tmp 80) 1 ∧ o.dst = some 81 ∧ o.guard = some (43, false) := ⟨_, by rw [hops]; rfl, rfl, rfl, rfl⟩
        obtain ⟨o52, po52, q52, d52, gd52⟩ : ∃ o, ops[52]? = some o ∧ o.op = .load 26 (.tmp 81) ∧ o.dst = some 82 ∧ o.guard = some (43, false) := ⟨_, by rw [hops]; rfl, rfl, rfl, rfl⟩
        obtain ⟨o53, po53, q53, d53, gd53⟩ : ∃ o, ops[53]? = some o ∧ o.op = .call { callee := .value (.func 20), args := #[.tmp 82], argTypes := #[26] } ∧ o.dst = some 83 ∧ o.guard = some (43, false) := ⟨_, by rw [hops]; rfl, rfl, rfl, rfl⟩
        obtain ⟨o54, po54, q54, d54, gd54⟩ : ∃ o, ops[54]? = some o ∧ o.op = .binOp .neq 3 (.tmp 78) (.tmp 83) 3 ∧ o.dst = some 84 ∧ o.guard = some (43, false) := ⟨_, by rw [hops]; rfl, rfl, rfl, rfl⟩
        obtain ⟨o55, po55, q55, d55, gd55⟩ : ∃ o, ops[55]? = some o ∧ o.op = .pick (.tmp 73) (.const (.bool true)) (.tmp 84) ∧ o.dst = some 85 ∧ o.guard = none := ⟨_, by rw [hops]; rfl, rfl, rfl, rfl⟩
        clear hops
        refine met_free po0 d0 (wanted_of gd0) (fun w' h' => run_move q0 base5 w') ?_
        refine met_free po1 d1 (wanted_of gd1) (fun w' h' => run_move q1 ((eval_other _ 30 1 _ (by decide)).trans base1) w') ?_
        refine met_free po2 d2 (wanted_of gd2) (fun w' h' => run_move q2 ((eval_other _ 31 6 _ (by decide)).trans ((eval_other _ 30 6 _ (by decide)).trans base6)) w') ?_
        refine met_free po3 d3 (wanted_of gd3) (fun w' h' => run_ixOp q3 ((eval_other _ 32 31 _ (by decide)).trans (eval_same _ _ _ (by simp only [put_size, hsz]; decide))) (eval_same _ _ _ (by simp only [put_size, hsz]; decide)) (by omega) w') ?_
        refine met_free po4 d4 (wanted_of gd4) (fun w' h' => run_loadOp q4 (eval_same _ _ _ (by simp only [put_size, hsz]; decide)) HOK.out.key (HRO.out w' h'.2)) ?_
        refine m_enter po5 d5 (wanted_of gd5) (run_callf2 q5 rfl ((eval_other _ 34 30 _ (by decide)).trans ((eval_other _ 33 30 _ (by decide)).trans ((eval_other _ 32 30 _ (by decide)).trans ((eval_other _ 31 30 _ (by decide)).trans (eval_same _ _ _ (by rw [hsz]; decide)))))) (eval_same _ _ _ (by simp only [put_size, hsz]; decide)) Tryd.func12 (by kernel_rfl) _) (pairDisks_any HXD.out HQ.out HBD.out.size (HR.out.on HBD.out) HG.out (by have := HCK.out; omega) HOK.out.key HNW.out HB8.out (fun w' h => HOK.out.lies.below (HBD.out.trans h))) ?_
        rintro e w3 ⟨rfl, dA, oA, hdA, hxA, hbA⟩
        have HXA := Lib.hid hxA
        have HBA := Lib.hid (HBD.out.trans hbA)
        have HDA : Hid (dA.count ≤ d.count + 2) := show _ ≤ _ from hdA
        clear hxA hbA hdA
        refine ⟨_, rfl, ⟨⟨_, HXA.out.all _ List.mem_cons_self⟩, HBA.out⟩, ?_⟩
        refine met_free po6 d6 (wanted_of gd6) (fun w' h' => r_not q6 (eval_same _ _ _ (by simp only [put_size, hsz]; decide)) w') ?_
        refine met_free po7 d7 (wanted_of gd7) (fun w' h' => run_move q7 (eval_same _ _ _ (by simp only [put_size, hsz]; decide)) w') ?_
        refine met_free po8 d8 (wanted_guardF gd8 po7 d7 (eval_same _ _ _ (by simp only [put_size, hsz]; decide))) (fun w' h' => run_move q8 ((eval_other _ 37 5 _ (by decide)).trans ((eval_other _ 36 5 _ (by decide)).trans ((eval_other _ 35 5 _ (by decide)).trans ((eval_other _ 34 5 _ (by decide)).trans ((eval_other _ 33 5 _ (by decide)).trans ((eval_other _ 32 5 _ (by decide)).trans ((eval_other _ 31 5 _ (by decide)).trans ((eval_other _ 30 5 _ (by decide)).trans base5)))))))) w') ?_
        refine met_free po9 d9 (wanted_guardF gd9 po7 d7 ((eval_other _ 38 37 _ (by decide)).trans (eval_same _ _ _ (by simp only [put_size, hsz]; decide)))) (fun w' h' => run_move q9 ((eval_other _ 38 1 _ (by decide)).trans ((eval_other _ 37 1 _ (by decide)).trans ((eval_other _ 36 1 _ (by decide)).trans ((eval_other _ 35 1 _ (by decide)).trans ((eval_other _ 34 1 _ (by decide)).trans ((eval_other _ 33 1 _ (by decide)).trans ((eval_other _ 32 1 _ (by decide)).trans ((eval_other _ 31 1 _ (by decide)).trans ((eval_other _ 30 1 _ (by decide)).trans base1))))))))) w') ?_
        refine met_free po10 d10 (wanted_guardF gd10 po7 d7 ((eval_other _ 39 37 _ (by decide)).trans ((eval_other _ 38 37 _ (by decide)).trans (eval_same _ _ _ (by simp only [put_size, hsz]; decide))))) (fun w' h' => run_move q10 ((eval_other _ 39 6 _ (by decide)).trans ((eval_other _ 38 6 _ (by decide)).trans ((eval_other _ 37 6 _ (by decide)).trans ((eval_other _ 36 6 _ (by decide)).trans ((eval_other _ 35 6 _ (by decide)).trans ((eval_other _ 34 6 _ (by decide)).trans ((eval_other _ 33 6 _ (by decide)).trans ((eval_other _ 32 6 _ (by decide)).trans ((eval_other _ 31 6 _ (by decide)).trans ((eval_other _ 30 6 _ (by decide)).trans base6)))))))))) w') ?_
        refine met_free po11 d11 (wanted_guardF gd11 po7 d7 ((eval_other _ 40 37 _ (by decide)).trans ((eval_other _ 39 37 _ (by decide)).trans ((eval_other _ 38 37 _ (by decide)).trans (eval_same _ _ _ (by simp only [put_size, hsz]; decide)))))) (fun w' h' => run_ixOp q11 ((eval_other _ 40 39 _ (by decide)).trans (eval_same _ _ _ (by simp only [put_size, hsz]; decide))) (eval_same _ _ _ (by simp only [put_size, hsz]; decide)) (by omega) w') ?_
        refine met_free po12 d12 (wanted_guardF gd12 po7 d7 ((eval_other _ 41 37 _ (by decide)).trans ((eval_other _ 40 37 _ (by decide)).trans ((eval_other _ 39 37 _ (by decide)).trans ((eval_other _ 38 37 _ (by decide)).trans (eval_same _ _ _ (by simp only [put_size, hsz]; decide))))))) (fun w' h' => run_loadOp q12 (eval_same _ _ _ (by simp only [put_size, hsz]; decide)) HOK.out.key (HRO.out w' h'.2)) ?_
        refine m_enter po13 d13 (wanted_guardF gd13 po7 d7 ((eval_other _ 42 37 _ (by decide)).trans ((eval_other _ 41 37 _ (by decide)).trans ((eval_other _ 40 37 _ (by decide)).trans ((eval_other _ 39 37 _ (by decide)).trans ((eval_other _ 38 37 _ (by decide)).trans (eval_same _ _ _ (by simp only [put_size, hsz]; decide)))))))) (run_callf2 q13 rfl ((eval_other _ 42 38 _ (by decide)).trans ((eval_other _ 41 38 _ (by decide)).trans ((eval_other _ 40 38 _ (by decide)).trans ((eval_other _ 39 38 _ (by decide)).trans (eval_same _ _ _ (by simp only [put_size, hsz]; decide)))))) (eval_same _ _ _ (by simp only [put_size, hsz]; decide)) Tryd.func13 (by kernel_rfl) _) (pairCall_any (op := op) HXA.out HBA.out.size (HR.out.on HBA.out) HG.out (by have := HCK.out; have := HDA.out; omega) HOK.out.key) ?_
        rintro e w4 ⟨rfl, dB, oB, hdB, hxB, hbB⟩
        have HXB := Lib.hid hxB
        have HBB := Lib.hid (HBA.out.trans hbB)
        have HDB : Hid (dB.count ≤ d.count + 4) := show _ ≤ _ from by have := HDA.out; omega
        obtain ⟨rd, hrd⟩ : ∃ rd, dB.read 0 = rd := ⟨_, rfl⟩
        obtain ⟨nr, hnr⟩ : ∃ nr, rd.length = nr := ⟨_, rfl⟩
        have HRD := Lib.hid hrd
        have HNR := Lib.hid hnr
        have HRS : Hid (nr ≤ 262144) := show _ ≤ _ from by rw [← hnr, ← hrd]; exact hxB.readS
        clear hxB hbB hdB hrd hnr HXA HBA
        refine ⟨_, rfl, ⟨⟨_, HXB.out.all _ List.mem_cons_self⟩, HBB.out⟩, ?_⟩
        refine met_free po14 d14 (wanted_guardF gd14 po7 d7 ((eval_other _ 43 37 _ (by decide)).trans ((eval_other _ 42 37 _ (by decide)).trans ((eval_other _ 41 37 _ (by decide)).trans ((eval_other _ 40 37 _ (by decide)).trans ((eval_other _ 39 37 _ (by decide)).trans ((eval_other _ 38 37 _ (by decide)).trans (eval_same _ _ _ (by simp only [put_size, hsz]; decide))))))))) (fun w' h' => r_not q14 (eval_same _ _ _ (by simp only [put_size, hsz]; decide)) w') ?_
        refine met_free po15 d15 (wanted_of gd15) (fun w' h' => r_pickF q15 ((eval_other _ 44 37 _ (by decide)).trans ((eval_other _ 43 37 _ (by decide)).trans ((eval_other _ 42 37 _ (by decide)).trans ((eval_other _ 41 37 _ (by decide)).trans ((eval_other _ 40 37 _ (by decide)).trans ((eval_other _ 39 37 _ (by decide)).trans ((eval_other _ 38 37 _ (by decide)).trans (eval_same _ _ _ (by simp only [put_size, hsz]; decide))))))))) (eval_same _ _ _ (by simp only [put_size, hsz]; decide)) w') ?_
        refine met_free po16 d16 (wanted_of gd16) (fun w' h' => run_move q16 (eval_same _ _ _ (by simp only [put_size, hsz]; decide)) w') ?_
        refine met_free po17 d17 (wanted_guardF gd17 po16 d16 (eval_same _ _ _ (by simp only [put_size, hsz]; decide))) (fun w' h' => run_move q17 ((eval_other _ 46 5 _ (by decide)).trans ((eval_other _ 45 5 _ (by decide)).trans ((eval_other _ 44 5 _ (by decide)).trans ((eval_other _ 43 5 _ (by decide)).trans ((eval_other _ 42 5 _ (by decide)).trans ((eval_other _ 41 5 _ (by decide)).trans ((eval_other _ 40 5 _ (by decide)).trans ((eval_other _ 39 5 _ (by decide)).trans ((eval_other _ 38 5 _ (by decide)).trans ((eval_other _ 37 5 _ (by decide)).trans ((eval_other _ 36 5 _ (by decide)).trans ((eval_other _ 35 5 _ (by decide)).trans ((eval_other _ 34 5 _ (by decide)).trans ((eval_other _ 33 5 _ (by decide)).trans ((eval_other _ 32 5 _ (by decide)).trans ((eval_other _ 31 5 _ (by decide)).trans ((eval_other _ 30 5 _ (by decide)).trans base5))))))))))))))))) w') ?_
        refine met_free po18 d18 (wanted_guardF gd18 po16 d16 ((eval_other _ 47 46 _ (by decide)).trans (eval_same _ _ _ (by simp only [put_size, hsz]; decide)))) (fun w' h' => run_nilCheck q18 (eval_same _ _ _ (by simp only [put_size, hsz]; decide)) w') ?_
        refine met_free po19 d19 (wanted_guardF gd19 po16 d16 ((eval_other _ 48 46 _ (by decide)).trans ((eval_other _ 47 46 _ (by decide)).trans (eval_same _ _ _ (by simp only [put_size, hsz]; decide))))) (fun w' h' => run_fieldT (off := 0) q19 (fun _ => by kernel_rfl) (eval_same _ _ _ (by simp only [put_size, hsz]; decide)) w') ?_
        refine met_free po20 d20 (wanted_guardF gd20 po16 d16 ((eval_other _ 49 46 _ (by decide)).trans ((eval_other _ 48 46 _ (by decide)).trans ((eval_other _ 47 46 _ (by decide)).trans (eval_same _ _ _ (by simp only [put_size, hsz]; decide)))))) (fun w' h' => run_loadDP q20 (eval_same _ _ _ (by simp only [put_size, hsz]; decide)) h'.gp) ?_
        refine met_free po22 d22 (wanted_guardF gd22 po16 d16 ((eval_other _ 50 46 _ (by decide)).trans ((eval_other _ 49 46 _ (by decide)).trans ((eval_other _ 48 46 _ (by decide)).trans ((eval_other _ 47 46 _ (by decide)).trans (eval_same _ _ _ (by simp only [put_size, hsz]; decide))))))) (fun w' h' => run_move q22 ((eval_other _ 50 5 _ (by decide)).trans ((eval_other _ 49 5 _ (by decide)).trans ((eval_other _ 48 5 _ (by decide)).trans ((eval_other _ 47 5 _ (by decide)).trans ((eval_other _ 46 5 _ (by decide)).trans ((eval_other _ 45 5 _ (by decide)).trans ((eval_other _ 44 5 _ (by decide)).trans ((eval_other _ 43 5 _ (by decide)).trans ((eval_other _ 42 5 _ (by decide)).trans ((eval_other _ 41 5 _ (by decide)).trans ((eval_other _ 40 5 _ (by decide)).trans ((eval_other _ 39 5 _ (by decide)).trans ((eval_other _ 38 5 _ (by decide)).trans ((eval_other _ 37 5 _ (by decide)).trans ((eval_other _ 36 5 _ (by decide)).trans ((eval_other _ 35 5 _ (by decide)).trans ((eval_other _ 34 5 _ (by decide)).trans ((eval_other _ 33 5 _ (by decide)).trans ((eval_other _ 32 5 _ (by decide)).trans ((eval_other _ 31 5 _ (by decide)).trans ((eval_other _ 30 5 _ (by decide)).trans base5))))))))))))))))))))) w') ?_
        refine met_free po23 d23 (wanted_guardF gd23 po16 d16 ((eval_other _ 52 46 _ (by decide)).trans ((eval_other _ 50 46 _ (by decide)).trans ((eval_other _ 49 46 _ (by decide)).trans ((eval_other _ 48 46 _ (by decide)).trans ((eval_other _ 47 46 _ (by decide)).trans (eval_same _ _ _ (by simp only [put_size, hsz]; decide)))))))) (fun w' h' => run_nilCheck q23 (eval_same _ _ _ (by simp only [put_size, hsz]; decide)) w') ?_
        refine met_free po24 d24 (wanted_guardF gd24 po16 d16 ((eval_other _ 53 46 _ (by decide)).trans ((eval_other _ 52 46 _ (by decide)).trans ((eval_other _ 50 46 _ (by decide)).trans ((eval_other _ 49 46 _ (by decide)).trans ((eval_other _ 48 46 _ (by decide)).trans ((eval_other _ 47 46 _ (by decide)).trans (eval_same _ _ _ (by simp only [put_size, hsz]; decide))))))))) (fun w' h' => run_fieldT (off := 1) q24 (fun _ => by kernel_rfl) (eval_same _ _ _ (by simp only [put_size, hsz]; decide)) w') ?_
        refine met_free po25 d25 (wanted_guardF gd25 po16 d16 ((eval_other _ 54 46 _ (by decide)).trans ((eval_other _ 53 46 _ (by decide)).trans ((eval_other _ 52 46 _ (by decide)).trans ((eval_other _ 50 46 _ (by decide)).trans ((eval_other _ 49 46 _ (by decide)).trans ((eval_other _ 48 46 _ (by decide)).trans ((eval_other _ 47 46 _ (by decide)).trans (eval_same _ _ _ (by simp only [put_size, hsz]; decide)))))))))) (fun w' h' => run_loadRD q25 (eval_same _ _ _ (by simp only [put_size, hsz]; decide)) h'.xp) ?_
        refine m_enter po21 d21 (wanted_guardF gd21 po16 d16 ((eval_other _ 55 46 _ (by decide)).trans ((eval_other _ 54 46 _ (by decide)).trans ((eval_other _ 53 46 _ (by decide)).trans ((eval_other _ 52 46 _ (by decide)).trans ((eval_other _ 50 46 _ (by decide)).trans ((eval_other _ 49 46 _ (by decide)).trans ((eval_other _ 48 46 _ (by decide)).trans ((eval_other _ 47 46 _ (by decide)).trans (eval_same _ _ _ (by simp only [put_size, hsz]; decide))))))))))) (run_callf2 q21 rfl ((eval_other _ 55 50 _ (by decide)).trans ((eval_other _ 54 50 _ (by decide)).trans ((eval_other _ 53 50 _ (by decide)).trans ((eval_other _ 52 50 _ (by decide)).trans (eval_same _ _ _ (by simp only [put_size, hsz]; decide)))))) rfl Tryd.func15 (by kernel_rfl) _) (HXB.out.readV 0) ?_
        rintro e w5 ⟨v1, rfl, ho1, hb1⟩
        rw [HRD.out] at ho1
        obtain ⟨p1, c1, rfl, -, -, hl1⟩ := ho1.slP HNR.out
        have HL1 := Lib.hid hl1
        have HXC := Lib.hid (HXB.out.below (AP.part g _ _) (BP.part x _ _) hb1)
        have HBC := Lib.hid (HBB.out.trans (hb1.mono HBB.out.size))
        clear ho1 hb1 hl1 HXB HBB
        refine ⟨_, rfl, ⟨⟨_, HXC.out.all _ List.mem_cons_self⟩, HBC.out⟩, ?_⟩
        refine m_enter po26 d26 (wanted_guardF gd26 po16 d16 ((eval_other _ 51 46 _ (by decide)).trans ((eval_other _ 55 46 _ (by decide)).trans ((eval_other _ 54 46 _ (by decide)).trans ((eval_other _ 53 46 _ (by decide)).trans ((eval_other _ 52 46 _ (by decide)).trans ((eval_other _ 50 46 _ (by decide)).trans ((eval_other _ 49 46 _ (by decide)).trans ((eval_other _ 48 46 _ (by decide)).trans ((eval_other _ 47 46 _ (by decide)).trans (eval_same _ _ _ (by simp only [put_size, hsz]; decide)))))))))))) (run_callf2 q26 rfl ((eval_other _ 51 55 _ (by decide)).trans (eval_same _ _ _ (by simp only [put_size, hsz]; decide))) rfl Tryd.func16 (by kernel_rfl) _) (HXC.out.readY 0) ?_
        rintro e w6 ⟨v2, rfl, ho2, hb2⟩
        rw [HRD.out] at ho2
        obtain ⟨p2, c2, rfl, -, -, hl2⟩ := ho2.slP HNR.out
        have HL2 := Lib.hid hl2
        have HL12 := Lib.hid (HL1.out.below hb2)
        have HXE := Lib.hid (HXC.out.below (AP.part g _ _) (BP.part x _ _) hb2)
        have HBE := Lib.hid (HBC.out.trans (hb2.mono HBC.out.size))
        clear ho2 hb2 hl2 HXC HBC HL1
        refine ⟨_, rfl, ⟨⟨_, HXE.out.all _ List.mem_cons_self⟩, HBE.out⟩, ?_⟩
        refine m_enter po27 d27 (wanted_guardF gd27 po16 d16 ((eval_other _ 56 46 _ (by decide)).trans ((eval_other _ 51 46 _ (by decide)).trans ((eval_other _ 55 46 _ (by decide)).trans ((eval_other _ 54 46 _ (by decide)).trans ((eval_other _ 53 46 _ (by decide)).trans ((eval_other _ 52 46 _ (by decide)).trans ((eval_other _ 50 46 _ (by decide)).trans ((eval_other _ 49 46 _ (by decide)).trans ((eval_other _ 48 46 _ (by decide)).trans ((eval_other _ 47 46 _ (by decide)).trans (eval_same _ _ _ (by simp only [put_size, hsz]; decide))))))))))))) (run_callf2 q27 rfl ((eval_other _ 56 51 _ (by decide)).trans (eval_same _ _ _ (by simp only [put_size, hsz]; decide))) (eval_same _ _ _ (by simp only [put_size, hsz]; decide)) Tryd.func14 (by kernel_rfl) _) (same_any rd nr p1 p2 c1 c2 w6 HNR.out (by have := HRS.out; omega) HL12.out HL2.out) ?_
        rintro e w7 ⟨rfl, hb3⟩
        have HXF := Lib.hid (HXE.out.below (AP.part g _ _) (BP.part x _ _) hb3)
        have HBF := Lib.hid (HBE.out.trans (hb3.mono HBE.out.size))
        clear hb3 HXE HBE HL12 HL2
        have HSF : Hid (RnS q g x W w7) := show RnS _ _ _ _ _ from ⟨⟨_, HXF.out.all _ List.mem_cons_self⟩, HBF.out⟩
        refine ⟨_, rfl, HSF.out, ?_⟩
        refine met_free po28 d28 (wanted_guardF gd28 po16 d16 ((eval_other _ 57 46 _ (by decide)).trans ((eval_other _ 56 46 _ (by decide)).trans ((eval_other _ 51 46 _ (by decide)).trans ((eval_other _ 55 46 _ (by decide)).trans ((eval_other _ 54 46 _ (by decide)).trans ((eval_other _ 53 46 _ (by decide)).trans ((eval_other _ 52 46 _ (by decide)).trans ((eval_other _ 50 46 _ (by decide)).trans ((eval_other _ 49 46 _ (by decide)).trans ((eval_other _ 48 46 _ (by decide)).trans ((eval_other _ 47 46 _ (by decide)).trans (eval_same _ _ _ (by simp only [put_size, hsz]; decide)))))))))))))) (fun w' h' => r_not q28 (eval_same _ _ _ (by simp only [put_size, hsz]; decide)) w') ?_
        refine met_free po29 d29 (wanted_of gd29) (fun w' h' => r_pickF q29 ((eval_other _ 58 46 _ (by decide)).trans ((eval_other _ 57 46 _ (by decide)).trans ((eval_other _ 56 46 _ (by decide)).trans ((eval_other _ 51 46 _ (by decide)).trans ((eval_other _ 55 46 _ (by decide)).trans ((eval_other _ 54 46 _ (by decide)).trans ((eval_other _ 53 46 _ (by decide)).trans ((eval_other _ 52 46 _ (by decide)).trans ((eval_other _ 50 46 _ (by decide)).trans ((eval_other _ 49 46 _ (by decide)).trans ((eval_other _ 48 46 _ (by decide)).trans ((eval_other _ 47 46 _ (by decide)).trans (eval_same _ _ _ (by simp only [put_size, hsz]; decide)))))))))))))) (eval_same _ _ _ (by simp only [put_size, hsz]; decide)) w') ?_
        refine met_free po30 d30 (wanted_of gd30) (fun w' h' => run_move q30 (eval_same _ _ _ (by simp only [put_size, hsz]; decide)) w') ?_
        refine met_free po31 d31 (wanted_guardF gd31 po30 d30 (eval_same _ _ _ (by simp only [put_size, hsz]; decide))) (fun w' h' => run_move q31 ((eval_other _ 60 5 _ (by decide)).trans ((eval_other _ 59 5 _ (by decide)).trans ((eval_other _ 58 5 _ (by decide)).trans ((eval_other _ 57 5 _ (by decide)).trans ((eval_other _ 56 5 _ (by decide)).trans ((eval_other _ 51 5 _ (by decide)).trans ((eval_other _ 55 5 _ (by decide)).trans ((eval_other _ 54 5 _ (by decide)).trans ((eval_other _ 53 5 _ (by decide)).trans ((eval_other _ 52 5 _ (by decide)).trans ((eval_other _ 50 5 _ (by decide)).trans ((eval_other _ 49 5 _ (by decide)).trans ((eval_other _ 48 5 _ (by decide)).trans ((eval_other _ 47 5 _ (by decide)).trans ((eval_other _ 46 5 _ (by decide)).trans ((eval_other _ 45 5 _ (by decide)).trans ((eval_other _ 44 5 _ (by decide)).trans ((eval_other _ 43 5 _ (by decide)).trans ((eval_other _ 42 5 _ (by decide)).trans ((eval_other _ 41 5 _ (by decide)).trans ((eval_other _ 40 5 _ (by decide)).trans ((eval_other _ 39 5 _ (by decide)).trans ((eval_other _ 38 5 _ (by decide)).trans ((eval_other _ 37 5 _ (by decide)).trans ((eval_other _ 36 5 _ (by decide)).trans ((eval_other _ 35 5 _ (by decide)).trans ((eval_other _ 34 5 _ (by decide)).trans ((eval_other _ 33 5 _ (by decide)).trans ((eval_other _ 32 5 _ (by decide)).trans ((eval_other _ 31 5 _ (by decide)).trans ((eval_other _ 30 5 _ (by decide)).trans base5))))))))))))))))))))))))))))))) w') ?_
        refine met_free po32 d32 (wanted_guardF gd32 po30 d30 ((eval_other _ 61 60 _ (by decide)).trans (eval_same _ _ _ (by simp only [put_size, hsz]; decide)))) (fun w' h' => run_nilCheck q32 (eval_same _ _ _ (by simp only [put_size, hsz]; decide)) w') ?_
        refine met_free po33 d33 (wanted_guardF gd33 po30 d30 ((eval_other _ 62 60 _ (by decide)).trans ((eval_other _ 61 60 _ (by decide)).trans (eval_same _ _ _ (by simp only [put_size, hsz]; decide))))) (fun w' h' => run_fieldT (off := 0) q33 (fun _ => by kernel_rfl) (eval_same _ _ _ (by simp only [put_size, hsz]; decide)) w') ?_
        refine met_free po34 d34 (wanted_guardF gd34 po30 d30 ((eval_other _ 63 60 _ (by decide)).trans ((eval_other _ 62 60 _ (by decide)).trans ((eval_other _ 61 60 _ (by decide)).trans (eval_same _ _ _ (by simp only [put_size, hsz]; decide)))))) (fun w' h' => run_loadDP q34 (eval_same _ _ _ (by simp only [put_size, hsz]; decide)) h'.gp) ?_
        refine met_free po36 d36 (wanted_guardF gd36 po30 d30 ((eval_other _ 64 60 _ (by decide)).trans ((eval_other _ 63 60 _ (by decide)).trans ((eval_other _ 62 60 _ (by decide)).trans ((eval_other _ 61 60 _ (by decide)).trans (eval_same _ _ _ (by simp only [put_size, hsz]; decide))))))) (fun w' h' => run_move q36 ((eval_other _ 64 5 _ (by decide)).trans ((eval_other _ 63 5 _ (by decide)).trans ((eval_other _ 62 5 _ (by decide)).trans ((eval_other _ 61 5 _ (by decide)).trans ((eval_other _ 60 5 _ (by decide)).trans ((eval_other _ 59 5 _ (by decide)).trans ((eval_other _ 58 5 _ (by decide)).trans ((eval_other _ 57 5 _ (by decide)).trans ((eval_other _ 56 5 _ (by decide)).trans ((eval_other _ 51 5 _ (by decide)).trans ((eval_other _ 55 5 _ (by decide)).trans ((eval_other _ 54 5 _ (by decide)).trans ((eval_other _ 53 5 _ (by decide)).trans ((eval_other _ 52 5 _ (by decide)).trans ((eval_other _ 50 5 _ (by decide)).trans ((eval_other _ 49 5 _ (by decide)).trans ((eval_other _ 48 5 _ (by decide)).trans ((eval_other _ 47 5 _ (by decide)).trans ((eval_other _ 46 5 _ (by decide)).trans ((eval_other _ 45 5 _ (by decide)).trans ((eval_other _ 44 5 _ (by decide)).trans ((eval_other _ 43 5 _ (by decide)).trans ((eval_other _ 42 5 _ (by decide)).trans ((eval_other _ 41 5 _ (by decide)).trans ((eval_other _ 40 5 _ (by decide)).trans ((eval_other _ 39 5 _ (by decide)).trans ((eval_other _ 38 5 _ (by decide)).trans ((eval_other _ 37 5 _ (by decide)).trans ((eval_other _ 36 5 _ (by decide)).trans ((eval_other _ 35 5 _ (by decide)).trans ((eval_other _ 34 5 _ (by decide)).trans ((eval_other _ 33 5 _ (by decide)).trans ((eval_other _ 32 5 _ (by decide)).trans ((eval_other _ 31 5 _ (by decide)).trans ((eval_other _ 30 5 _ (by decide)).trans base5))))))))))))))))))))))))))))))))))) w') ?_
        refine met_free po37 d37 (wanted_guardF gd37 po30 d30 ((eval_other _ 66 60 _ (by decide)).trans ((eval_other _ 64 60 _ (by decide)).trans ((eval_other _ 63 60 _ (by decide)).trans ((eval_other _ 62 60 _ (by decide)).trans ((eval_other _ 61 60 _ (by decide)).trans (eval_same _ _ _ (by simp only [put_size, hsz]; decide)))))))) (fun w' h' => run_nilCheck q37 (eval_same _ _ _ (by simp only [put_size, hsz]; decide)) w') ?_
        refine met_free po38 d38 (wanted_guardF gd38 po30 d30 ((eval_other _ 67 60 _ (by decide)).trans ((eval_other _ 66 60 _ (by decide)).trans ((eval_other _ 64 60 _ (by decide)).trans ((eval_other _ 63 60 _ (by decide)).trans ((eval_other _ 62 60 _ (by decide)).trans ((eval_other _ 61 60 _ (by decide)).trans (eval_same _ _ _ (by simp only [put_size, hsz]; decide))))))))) (fun w' h' => run_fieldT (off := 1) q38 (fun _ => by kernel_rfl) (eval_same _ _ _ (by simp only [put_size, hsz]; decide)) w') ?_
        refine met_free po39 d39 (wanted_guardF gd39 po30 d30 ((eval_other _ 68 60 _ (by decide)).trans ((eval_other _ 67 60 _ (by decide)).trans ((eval_other _ 66 60 _ (by decide)).trans ((eval_other _ 64 60 _ (by decide)).trans ((eval_other _ 63 60 _ (by decide)).trans ((eval_other _ 62 60 _ (by decide)).trans ((eval_other _ 61 60 _ (by decide)).trans (eval_same _ _ _ (by simp only [put_size, hsz]; decide)))))))))) (fun w' h' => run_loadRD q39 (eval_same _ _ _ (by simp only [put_size, hsz]; decide)) h'.xp) ?_
        refine m_enter po35 d35 (wanted_guardF gd35 po30 d30 ((eval_other _ 69 60 _ (by decide)).trans ((eval_other _ 68 60 _ (by decide)).trans ((eval_other _ 67 60 _ (by decide)).trans ((eval_other _ 66 60 _ (by decide)).trans ((eval_other _ 64 60 _ (by decide)).trans ((eval_other _ 63 60 _ (by decide)).trans ((eval_other _ 62 60 _ (by decide)).trans ((eval_other _ 61 60 _ (by decide)).trans (eval_same _ _ _ (by simp only [put_size, hsz]; decide))))))))))) (run_callf1 q35 rfl ((eval_other _ 69 64 _ (by decide)).trans ((eval_other _ 68 64 _ (by decide)).trans ((eval_other _ 67 64 _ (by decide)).trans ((eval_other _ 66 64 _ (by decide)).trans (eval_same _ _ _ (by simp only [put_size, hsz]; decide)))))) Tryd.func17 (by kernel_rfl) _) (HXF.out.downV) ?_
        rintro e w8 ⟨rfl, rfl⟩
        refine ⟨_, rfl, HSF.out, ?_⟩
        refine m_enter po40 d40 (wanted_guardF gd40 po30 d30 ((eval_other _ 65 60 _ (by decide)).trans ((eval_other _ 69 60 _ (by decide)).trans ((eval_other _ 68 60 _ (by decide)).trans ((eval_other _ 67 60 _ (by decide)).trans ((eval_other _ 66 60 _ (by decide)).trans ((eval_other _ 64 60 _ (by decide)).trans ((eval_other _ 63 60 _ (by decide)).trans ((eval_other _ 62 60 _ (by decide)).trans ((eval_other _ 61 60 _ (by decide)).trans (eval_same _ _ _ (by simp only [put_size, hsz]; decide)))))))))))) (run_callf1 q40 rfl ((eval_other _ 65 69 _ (by decide)).trans (eval_same _ _ _ (by simp only [put_size, hsz]; decide))) Tryd.func18 (by kernel_rfl) _) (HXF.out.downY) ?_
        rintro e w9 ⟨rfl, rfl⟩
        refine ⟨_, rfl, HSF.out, ?_⟩
        refine met_free po41 d41 (wanted_guardF gd41 po30 d30 ((eval_other _ 70 60 _ (by decide)).trans ((eval_other _ 65 60 _ (by decide)).trans ((eval_other _ 69 60 _ (by decide)).trans ((eval_other _ 68 60 _ (by decide)).trans ((eval_other _ 67 60 _ (by decide)).trans ((eval_other _ 66 60 _ (by decide)).trans ((eval_other _ 64 60 _ (by decide)).trans ((eval_other _ 63 60 _ (by decide)).trans ((eval_other _ 62 60 _ (by decide)).trans ((eval_other _ 61 60 _ (by decide)).trans (eval_same _ _ _ (by simp only [put_size, hsz]; decide))))))))))))) (fun w' h' => run_neBP q41 ((eval_other _ 70 65 _ (by decide)).trans (eval_same _ _ _ (by simp only [put_size, hsz]; decide))) (eval_same _ _ _ (by simp only [put_size, hsz]; decide)) w') ?_
        refine met_free po42 d42 (wanted_of gd42) (fun w' h' => r_pickF q42 ((eval_other _ 71 60 _ (by decide)).trans ((eval_other _ 70 60 _ (by decide)).trans ((eval_other _ 65 60 _ (by decide)).trans ((eval_other _ 69 60 _ (by decide)).trans ((eval_other _ 68 60 _ (by decide)).trans ((eval_other _ 67 60 _ (by decide)).trans ((eval_other _ 66 60 _ (by decide)).trans ((eval_other _ 64 60 _ (by decide)).trans ((eval_other _ 63 60 _ (by decide)).trans ((eval_other _ 62 60 _ (by decide)).trans ((eval_other _ 61 60 _ (by decide)).trans (eval_same _ _ _ (by simp only [put_size, hsz]; decide))))))))))))) (eval_same _ _ _ (by simp only [put_size, hsz]; decide)) w') ?_
        refine met_free po43 d43 (wanted_of gd43) (fun w' h' => run_move q43 (eval_same _ _ _ (by simp only [put_size, hsz]; decide)) w') ?_
        refine met_free po44 d44 (wanted_guardF gd44 po43 d43 (eval_same _ _ _ (by simp only [put_size, hsz]; decide))) (fun w' h' => run_move q44 ((eval_other _ 73 5 _ (by decide)).trans ((eval_other _ 72 5 _ (by decide)).trans ((eval_other _ 71 5 _ (by decide)).trans ((eval_other _ 70 5 _ (by decide)).trans ((eval_other _ 65 5 _ (by decide)).trans ((eval_other _ 69 5 _ (by decide)).trans ((eval_other _ 68 5 _ (by decide)).trans ((eval_other _ 67 5 _ (by decide)).trans ((eval_other _ 66 5 _ (by decide)).trans ((eval_other _ 64 5 _ (by decide)).trans ((eval_other _ 63 5 _ (by decide)).trans ((eval_other _ 62 5 _ (by decide)).trans ((eval_other _ 61 5 _ (by decide)).trans ((eval_other _ 60 5 _ (by decide)).trans ((eval_other _ 59 5 _ (by decide)).trans ((eval_other _ 58 5 _ (by decide)).trans ((eval_other _ 57 5 _ (by decide)).trans ((eval_other _ 56 5 _ (by decide)).trans ((eval_other _ 51 5 _ (by decide)).trans ((eval_other _ 55 5 _ (by decide)).trans ((eval_other _ 54 5 _ (by decide)).trans ((eval_other _ 53 5 _ (by decide)).trans ((eval_other _ 52 5 _ (by decide)).trans ((eval_other _ 50 5 _ (by decide)).trans ((eval_other _ 49 5 _ (by decide)).trans ((eval_other _ 48 5 _ (by decide)).trans ((eval_other _ 47 5 _ (by decide)).trans ((eval_other _ 46 5 _ (by decide)).trans ((eval_other _ 45 5 _ (by decide)).trans ((eval_other _ 44 5 _ (by decide)).trans ((eval_other _ 43 5 _ (by decide)).trans ((eval_other _ 42 5 _ (by decide)).trans ((eval_other _ 41 5 _ (by decide)).trans ((eval_other _ 40 5 _ (by decide)).trans ((eval_other _ 39 5 _ (by decide)).trans ((eval_other _ 38 5 _ (by decide)).trans ((eval_other _ 37 5 _ (by decide)).trans ((eval_other _ 36 5 _ (by decide)).trans ((eval_other _ 35 5 _ (by decide)).trans ((eval_other _ 34 5 _ (by decide)).trans ((eval_other _ 33 5 _ (by decide)).trans ((eval_other _ 32 5 _ (by decide)).trans ((eval_other _ 31 5 _ (by decide)).trans ((eval_other _ 30 5 _ (by decide)).trans base5)))))))))))))))))))))))))))))))))))))))))))) w') ?_
        refine met_free po45 d45 (wanted_guardF gd45 po43 d43 ((eval_other _ 74 73 _ (by decide)).trans (eval_same _ _ _ (by simp only [put_size, hsz]; decide)))) (fun w' h' => run_nilCheck q45 (eval_same _ _ _ (by simp only [put_size, hsz]; decide)) w') ?_
        refine met_free po46 d46 (wanted_guardF gd46 po43 d43 ((eval_other _ 75 73 _ (by decide)).trans ((eval_other _ 74 73 _ (by decide)).trans (eval_same _ _ _ (by simp only [put_size, hsz]; decide))))) (fun w' h' => run_fieldT (off := 0) q46 (fun _ => by kernel_rfl) (eval_same _ _ _ (by simp only [put_size, hsz]; decide)) w') ?_
        refine met_free po47 d47 (wanted_guardF gd47 po43 d43 ((eval_other _ 76 73 _ (by decide)).trans ((eval_other _ 75 73 _ (by decide)).trans ((eval_other _ 74 73 _ (by decide)).trans (eval_same _ _ _ (by simp only [put_size, hsz]; decide)))))) (fun w' h' => run_loadDP q47 (eval_same _ _ _ (by simp only [put_size, hsz]; decide)) h'.gp) ?_
        refine met_free po49 d49 (wanted_guardF gd49 po43 d43 ((eval_other _ 77 73 _ (by decide)).trans ((eval_other _ 76 73 _ (by decide)).trans ((eval_other _ 75 73 _ (by decide)).trans ((eval_other _ 74 73 _ (by decide)).trans (eval_same _ _ _ (by simp only [put_size, hsz]; decide))))))) (fun w' h' => run_move q49 ((eval_other _ 77 5 _ (by decide)).trans ((eval_other _ 76 5 _ (by decide)).trans ((eval_other _ 75 5 _ (by decide)).trans ((eval_other _ 74 5 _ (by decide)).trans ((eval_other _ 73 5 _ (by decide)).trans ((eval_other _ 72 5 _ (by decide)).trans ((eval_other _ 71 5 _ (by decide)).trans ((eval_other _ 70 5 _ (by decide)).trans ((eval_other _ 65 5 _ (by decide)).trans ((eval_other _ 69 5 _ (by decide)).trans ((eval_other _ 68 5 _ (by decide)).trans ((eval_other _ 67 5 _ (by decide)).trans ((eval_other _ 66 5 _ (by decide)).trans ((eval_other _ 64 5 _ (by decide)).trans ((eval_other _ 63 5 _ (by decide)).trans ((eval_other _ 62 5 _ (by decide)).trans ((eval_other _ 61 5 _ (by decide)).trans ((eval_other _ 60 5 _ (by decide)).trans ((eval_other _ 59 5 _ (by decide)).trans ((eval_other _ 58 5 _ (by decide)).trans ((eval_other _ 57 5 _ (by decide)).trans ((eval_other _ 56 5 _ (by decide)).trans ((eval_other _ 51 5 _ (by decide)).trans ((eval_other _ 55 5 _ (by decide)).trans ((eval_other _ 54 5 _ (by decide)).trans ((eval_other _ 53 5 _ (by decide)).trans ((eval_other _ 52 5 _ (by decide)).trans ((eval_other _ 50 5 _ (by decide)).trans ((eval_other _ 49 5 _ (by decide)).trans ((eval_other _ 48 5 _ (by decide)).trans ((eval_other _ 47 5 _ (by decide)).trans ((eval_other _ 46 5 _ (by decide)).trans ((eval_other _ 45 5 _ (by decide)).trans ((eval_other _ 44 5 _ (by decide)).trans ((eval_other _ 43 5 _ (by decide)).trans ((eval_other _ 42 5 _ (by decide)).trans ((eval_other _ 41 5 _ (by decide)).trans ((eval_other _ 40 5 _ (by decide)).trans ((eval_other _ 39 5 _ (by decide)).trans ((eval_other _ 38 5 _ (by decide)).trans ((eval_other _ 37 5 _ (by decide)).trans ((eval_other _ 36 5 _ (by decide)).trans ((eval_other _ 35 5 _ (by decide)).trans ((eval_other _ 34 5 _ (by decide)).trans ((eval_other _ 33 5 _ (by decide)).trans ((eval_other _ 32 5 _ (by decide)).trans ((eval_other _ 31 5 _ (by decide)).trans ((eval_other _ 30 5 _ (by decide)).trans base5)))))))))))))))))))))))))))))))))))))))))))))))) w') ?_
        refine met_free po50 d50 (wanted_guardF gd50 po43 d43 ((eval_other _ 79 73 _ (by decide)).trans ((eval_other _ 77 73 _ (by decide)).trans ((eval_other _ 76 73 _ (by decide)).trans ((eval_other _ 75 73 _ (by decide)).trans ((eval_other _ 74 73 _ (by decide)).trans (eval_same _ _ _ (by simp only [put_size, hsz]; decide)))))))) (fun w' h' => run_nilCheck q50 (eval_same _ _ _ (by simp only [put_size, hsz]; decide)) w') ?_
        refine met_free po51 d51 (wanted_guardF gd51 po43 d43 ((eval_other _ 80 73 _ (by decide)).trans ((eval_other _ 79 73 _ (by decide)).trans ((eval_other _ 77 73 _ (by decide)).trans ((eval_other _ 76 73 _ (by decide)).trans ((eval_other _ 75 73 _ (by decide)).trans ((eval_other _ 74 73 _ (by decide)).trans (eval_same _ _ _ (by simp only [put_size, hsz]; decide))))))))) (fun w' h' => run_fieldT (off := 1) q51 (fun _ => by kernel_rfl) (eval_same _ _ _ (by simp only [put_size, hsz]; decide)) w') ?_
        refine met_free po52 d52 (wanted_guardF gd52 po43 d43 ((eval_other _ 81 73 _ (by decide)).trans ((eval_other _ 80 73 _ (by decide)).trans ((eval_other _ 79 73 _ (by decide)).trans ((eval_other _ 77 73 _ (by decide)).trans ((eval_other _ 76 73 _ (by decide)).trans ((eval_other _ 75 73 _ (by decide)).trans ((eval_other _ 74 73 _ (by decide)).trans (eval_same _ _ _ (by simp only [put_size, hsz]; decide)))))))))) (fun w' h' => run_loadRD q52 (eval_same _ _ _ (by simp only [put_size, hsz]; decide)) h'.xp) ?_
        refine m_enter po48 d48 (wanted_guardF gd48 po43 d43 ((eval_other _ 82 73 _ (by decide)).trans ((eval_other _ 81 73 _ (by decide)).trans ((eval_other _ 80 73 _ (by decide)).trans ((eval_other _ 79 73 _ (by decide)).trans ((eval_other _ 77 73 _ (by decide)).trans ((eval_other _ 76 73 _ (by decide)).trans ((eval_other _ 75 73 _ (by decide)).trans ((eval_other _ 74 73 _ (by decide)).trans (eval_same _ _ _ (by simp only [put_size, hsz]; decide))))))))))) (run_callf1 q48 rfl ((eval_other _ 82 77 _ (by decide)).trans ((eval_other _ 81 77 _ (by decide)).trans ((eval_other _ 80 77 _ (by decide)).trans ((eval_other _ 79 77 _ (by decide)).trans (eval_same _ _ _ (by simp only [put_size, hsz]; decide)))))) Tryd.func19 (by kernel_rfl) _) (HXF.out.countV) ?_
        rintro e w10 ⟨rfl, rfl⟩
        refine ⟨_, rfl, HSF.out, ?_⟩
        refine m_enter po53 d53 (wanted_guardF gd53 po43 d43 ((eval_other _ 78 73 _ (by decide)).trans ((eval_other _ 82 73 _ (by decide)).trans ((eval_other _ 81 73 _ (by decide)).trans ((eval_other _ 80 73 _ (by decide)).trans ((eval_other _ 79 73 _ (by decide)).trans ((eval_other _ 77 73 _ (by decide)).trans ((eval_other _ 76 73 _ (by decide)).trans ((eval_other _ 75 73 _ (by decide)).trans ((eval_other _ 74 73 _ (by decide)).trans (eval_same _ _ _ (by simp only [put_size, hsz]; decide)))))))))))) (run_callf1 q53 rfl ((eval_other _ 78 82 _ (by decide)).trans (eval_same _ _ _ (by simp only [put_size, hsz]; decide))) Tryd.func20 (by kernel_rfl) _) (HXF.out.countY) ?_
        rintro e w11 ⟨rfl, rfl⟩
        refine ⟨_, rfl, HSF.out, ?_⟩
        refine met_free po54 d54 (wanted_guardF gd54 po43 d43 ((eval_other _ 83 73 _ (by decide)).trans ((eval_other _ 78 73 _ (by decide)).trans ((eval_other _ 82 73 _ (by decide)).trans ((eval_other _ 81 73 _ (by decide)).trans ((eval_other _ 80 73 _ (by decide)).trans ((eval_other _ 79 73 _ (by decide)).trans ((eval_other _ 77 73 _ (by decide)).trans ((eval_other _ 76 73 _ (by decide)).trans ((eval_other _ 75 73 _ (by decide)).trans ((eval_other _ 74 73 _ (by decide)).trans (eval_same _ _ _ (by simp only [put_size, hsz]; decide))))))))))))) (fun w' h' => run_neInP q54 ((eval_other _ 83 78 _ (by decide)).trans (eval_same _ _ _ (by simp only [put_size, hsz]; decide))) (eval_same _ _ _ (by simp only [put_size, hsz]; decide)) w') ?_
        refine met_free po55 d55 (wanted_of gd55) (fun w' h' => r_pickF q55 ((eval_other _ 84 73 _ (by decide)).trans ((eval_other _ 83 73 _ (by decide)).trans ((eval_other _ 78 73 _ (by decide)).trans ((eval_other _ 82 73 _ (by decide)).trans ((eval_other _ 81 73 _ (by decide)).trans ((eval_other _ 80 73 _ (by decide)).trans ((eval_other _ 79 73 _ (by decide)).trans ((eval_other _ 77 73 _ (by decide)).trans ((eval_other _ 76 73 _ (by decide)).trans ((eval_other _ 75 73 _ (by decide)).trans ((eval_other _ 74 73 _ (by decide)).trans (eval_same _ _ _ (by simp only [put_size, hsz]; decide))))))))))))) (eval_same _ _ _ (by simp only [put_size, hsz]; decide)) w') ?_
        show NoPanic _ .normal _ _
        refine NoPanic.normal ?_
        rw [HAA.out]
        go_frame
        clear HAA
        clear po0 q0 d0 gd0 po1 q1 d1 gd1 po2 q2 d2 gd2 po3 q3 d3 gd3 po4 q4 d4 gd4 po5 q5 d5 gd5 po6 q6 d6 gd6 po7 q7 d7 gd7 po8 q8 d8 gd8 po9 q9 d9 gd9 po10 q10 d10 gd10 po11 q11 d11 gd11 po12 q12 d12 gd12 po13 q13 d13 gd13 po14 q14 d14 gd14 po15 q15 d15 gd15 po16 q16 d16 gd16 po17 q17 d17 gd17 po18 q18 d18 gd18 po19 q19 d19 gd19 po20 q20 d20 gd20 po21 q21 d21 gd21 po22 q22 d22 gd22 po23 q23 d23 gd23 po24 q24 d24 gd24 po25 q25 d25 gd25 po26 q26 d26 gd26 po27 q27 d27 gd27 po28 q28 d28 gd28 po29 q29 d29 gd29 po30 q30 d30 gd30 po31 q31 d31 gd31 po32 q32 d32 gd32 po33 q33 d33 gd33 po34 q34 d34 gd34 po35 q35 d35 gd35 po36 q36 d36 gd36 po37 q37 d37 gd37 po38 q38 d38 gd38 po39 q39 d39 gd39 po40 q40 d40 gd40 po41 q41 d41 gd41 po42 q42 d42 gd42 po43 q43 d43 gd43 po44 q44 d44 gd44 po45 q45 d45 gd45 po46 q46 d46 gd46 po47 q47 d47 gd47 po48 q48 d48 gd48 po49 q49 d49 gd49 po50 q50 d50 gd50 po51 q51 d51 gd51 po52 q52 d52 gd52 po53 q53 d53 gd53 po54 q54 d54 gd54 po55 q55 d55 gd55
        clear base1 base5 base6 hsz
        clear HXD HBD HS0 HRO
        go_wp2_with fail
        go_roundw
        case rel => exact ⟨k + 1, dB, oB, by omega, by have := HN150.out.1; omega, by first | rfl | simp, by have := HDB.out; have := HCK.out; omega, HXF.out, HBF.out⟩
        case measure => simp [intOf]; omega
      · have q1 : ¬ (k : Int) < (N : Int) := by omega
        clear HLG HD5 HD0 HCK
        go_wp2_with fail
        go_loopw [7] (fun i wx => ∃ m : Nat, m ≤ 66 ∧ i = .int .i64 (m : Int) ∧ X2 (AP g d o) (BP x d o) W.heap.size wx [(q, pairO g x o)] ∧ Below W.heap.size W wx) (fun i _ => 66 - (intOf i).toNat)
        case atStart => exact ⟨0, by omega, rfl, HXK.out, HBK.out⟩
        case round =>
          clear HXK HBK
          obtain ⟨m, hm, rfl, hx, hb⟩ := hrel
          have HXM := Lib.hid hx; have HBM := Lib.hid hb
          have hrow := hx.all _ List.mem_cons_self
          clear hx hb
          cases o with
          | none =>
            have c2 : wr.cell? ⟨q, 2, none⟩ = some (.pointer none) := (cell_of_row _ _ _ _ _ _ hrow).trans rfl
            clear hrow
            have HW := Lib.hid (HWK.out _ HBM.out)
            go_wp2_with fail
            refine HW.out.mono ?_
            rintro e w6 ⟨rfl, hb⟩
            have HB6 := Lib.hid hb
            clear hb
            go_wp2_with fail
            go_ret
            exact ⟨rfl, HB6.out⟩
          | some pr =>
            obtain ⟨v, y, l, a⟩ := pr
            have c2 : wr.cell? ⟨q, 2, none⟩ = some (.pointer (some ⟨v, 0, none⟩)) := (cell_of_row _ _ _ _ _ _ hrow).trans rfl
            have c3 : wr.cell? ⟨q, 3, none⟩ = some (.pointer (some ⟨y, 0, none⟩)) := (cell_of_row _ _ _ _ _ _ hrow).trans rfl
            clear hrow
            have hle := HXM.out.leA
            have HLY := Lib.hid HXM.out.lenY
            by_cases hml : m ≤ l.length + 1
            · have q2 : (m : Int) ≤ (l.length : Int) + 1 := by omega
              obtain ⟨gk, ge, hgv, hgl⟩ : ∃ gk ge, gvV l (m : Int) = .tuple #[.agg (bytesV gk).toArray, .int .i64 ge] ∧ gk.length = 32 := ⟨_, _, rfl, getVt_len HXM.out.slotsA m⟩
              have HGV := Lib.hid hgv
              have HGL := Lib.hid hgl
              have HIK := Lib.hid (infoKey gk hgl)
              have HON := Lib.hid (keyV_ones gk)
              have HZS : Hid ((bytesV (noughts 32)).toArray.size = (bytesV gk).toArray.size) := show _ = _ from zeroKey32 hgl
              have hga := HXM.out.getV (m : Int)
              rw [hgv] at hga
              have HGA := Lib.hid hga
              have HML := Lib.hid (And.intro hml hle)
              clear hga hgv hgl
              go_upto_region 14 with (go_at_call 21; refine HLY.out.mono ?_; rintro e w6 ⟨rfl, rfl⟩)
              clear HLY q2 hml hle
              go_upto_region 15 with (first
                | (go_at_call 22; refine HGA.out.mono ?_; rintro e w6 ⟨rfl, hb6⟩; have HX6 := Lib.hid (HXM.out.below (AP.part g _ _) (BP.part x _ _) hb6); have HB6 := Lib.hid (HBM.out.trans (hb6.mono HBM.out.size)); clear hb6)
                | (refine wpList_store_new rfl 36 (.tmp 8) (.tmp 110) rfl w6.heap.size rfl (bytesV gk).toArray rfl rfl HIK.out (by exact HZS.out) HON.out ?_; intro w7 h7 b7; have HK7 := Lib.hid h7; have HX7 := Lib.hid (HX6.out.below (AP.part g _ _) (BP.part x _ _) b7); have HB7 := Lib.hid (HB6.out.trans (b7.mono HB6.out.size)); clear h7 b7))
              obtain ⟨T1, hT1⟩ : ∃ T1, T1 = w6.heap.size := ⟨_, rfl⟩
              rw [← hT1] at HK7 ⊢
              have hrow := HX7.out.all _ List.mem_cons_self
              have c4 : w7.cell? ⟨q, 3, none⟩ = some (.pointer (some ⟨y, 0, none⟩)) := (cell_of_row _ _ _ _ _ _ hrow).trans rfl
              have hga := HX7.out.getY (m : Int)
              rw [HGV.out] at hga
              have HGB := Lib.hid hga
              clear hga hrow hT1 HGA HX6 HB6 HXM HBM
              go_upto_region 16 with (first
                | (go_at_call 23; refine HGB.out.mono ?_; rintro e w8 ⟨rfl, hb8⟩; have HX8 := Lib.hid (HX7.out.below (AP.part g _ _) (BP.part x _ _) hb8); have HB8 := Lib.hid (HB7.out.trans (hb8.mono HB7.out.size)); have HK8 := Lib.hid ((hb8.block _ (Array.getElem?_eq_some_iff.1 HK7.out).1).trans HK7.out); clear hb8)
                | (refine wpList_store_new rfl 36 (.tmp 10) (.tmp 119) rfl w8.heap.size rfl (bytesV gk).toArray rfl rfl HIK.out (by exact HZS.out) HON.out ?_; intro w9 h9 b9; have HL9 := Lib.hid h9; have HX9 := Lib.hid (HX8.out.below (AP.part g _ _) (BP.part x _ _) b9); have HB9 := Lib.hid (HB8.out.trans (b9.mono HB8.out.size)); have HK9 := Lib.hid ((b9.block _ (Array.getElem?_eq_some_iff.1 HK8.out).1).trans HK8.out); clear h9 b9))
              obtain ⟨T2, hT2⟩ : ∃ T2, T2 = w8.heap.size := ⟨_, rfl⟩
              rw [← hT2] at HL9 ⊢
              clear hT2 HX7 HB7 HK7 HX8 HB8 HK8 HGB c2 c3 c4
              go_wp2_with (first
                | (show wpList _ _ _ (⟨_, .load 36 (.tmp 8), _, _, _, _⟩ :: _) _ _; refine wpList_runV (by rfl) (run_loadKeyB (l := gk) (b := T1) rfl rfl HGL.out HK9.out) ?_)
                | (show wpList _ _ _ (⟨_, .load 36 (.tmp 10), _, _, _, _⟩ :: _) _ _; refine wpList_runV (by rfl) (run_loadKeyB (l := gk) (b := T2) rfl rfl HGL.out HL9.out) ?_)
                | (show wpList _ _ _ (⟨_, .binOp .neq 36 _ _ _, _, _, _, _⟩ :: _) _ _; refine wpList_runV (by rfl) (run_neKeyS (l := gk) rfl HGL.out rfl rfl _) ?_))
              go_roundw
              case rel => exact ⟨m + 1, by have := HML.out; omega, by first | rfl | simp, HX9.out, HB9.out⟩
              case measure => have := HML.out; simp [intOf]; omega
            · have q2 : ¬ (m : Int) ≤ (l.length : Int) + 1 := by omega
              have HW := Lib.hid (HWK.out _ HBM.out)
              go_wp2_with (go_at_call 21; refine HLY.out.mono ?_; rintro e w6 ⟨rfl, rfl⟩)
              refine HW.out.mono ?_
              rintro e w6 ⟨rfl, hb6⟩
              have HB6 := Lib.hid hb6
              clear hb6
              go_wp2_with fail
              go_ret
              exact ⟨rfl, HB6.out⟩
end Go.Proofs.YtoidjapenompiaaDoor

/-
  VaultRuns, for any room and calls: the law returns true, and what came in reads afterwards as it read before; the package's table starts as the program's own text lays it (the tie is given).
-/
namespace Go.Proofs.YtoidjapenompiaaDoor
open Go.ChangeShapes Go.WideShapes Go.ChangeAt Go.RowKit Go.Proofs.ShaWords

set_option maxRecDepth 100000 in
theorem vaultRuns_lifted (os : Os) (started : os.Started) (H : Type) (enc : TypeId × Value → H) :
    ReturnsInHanded {} Tryd.checked os 3 .any (fun w args => (Rows.vaultRunsSpec.pre enc Tryd.prog Tryd.f3 [] false w args ∧ laidMetH Tryd.prog laid11 w) ∧ sizedMet enc Tryd.prog Tryd.f3 (OpenSpec.ofChange Rows.vaultRunsSpec) false w args)
      (Rows.vaultRunsSpec.post enc Tryd.prog Tryd.f3 false true false false) := by
  refine returnsInHanded_of_change_and (C := Tryd.checked) (X := fun w _ => laidMetH Tryd.prog laid11 w) (fun _ _ _ hh h => h.of_heap hh) own started (by kernel_rfl) Tryd.func3
    (ChangeSpec.witness_shaped (enc := enc) (C := Tryd.checked) (os := os) (X := fun w _ => laidMetH Tryd.prog laid11 w) false (World.doorLaid Tryd.prog 400 os) #[.int .i64 0, .slice none 0 0] 8 rfl (World.shaped_of_RefB (by kernel_rfl) (by kernel_rfl)) (by kernel_rfl) (by kernel_rfl) (by kernel_rfl) (door_met11 os _)) ?_
  intro W base args ds gs before hval0 hW _ hsz hL _
  have hW' := hW
  obtain ⟨p, q, hA0, hV, rfl, hfz, hnd⟩ := hW
  have hA : DataW.TrodAll enc Tryd.prog W 0 (fun _ => true) true Tryd.f3.params.toList args.toList ds p := hA0
  have hval : ∀ (j : Nat) t v, Tryd.f3.params[j]? = some t → args[j]? = some v → Value.okWide Tryd.prog W .any base t v := hval0
  have hsz2 : (DataW.weightsEach Tryd.prog (Tryd.f3.params.toList ++ Rows.vaultRunsSpec.plain.varTypes Tryd.prog) (ds ++ gs)).all (· ≤ reachBytes) = true := hsz
  rw [Tryd.params3] at hA hval hsz2
  obtain ⟨v0, vs0, d0, ds0, p0, q0, hargs, rfl, rfl, h0, r0⟩ := trodAll_cons hA
  obtain ⟨v1, vs1, d1, ds1, p1, q1, rfl, rfl, rfl, h1, r1⟩ := trodAll_cons r0
  obtain ⟨rfl, rfl, rfl⟩ := trodAll_nil r1
  obtain rfl : args = #[v0, v1] := by cases args; simp_all
  obtain ⟨rfl, rfl⟩ := trodVars_none hV
  obtain ⟨z0, rfl, rfl, rfl, wz0⟩ := open_int Tryd.underlying3 (hval 0 3 v0 rfl rfl) h0
  obtain ⟨a1, len1, cap1, rfl⟩ := okWide_slice Tryd.underlying22 (hval 1 22 v1 rfl rfl)
  have k1 := h1
  have lt1 : ∀ x ∈ p1, x.block < W.heap.size := by obtain ⟨m, hm⟩ := k1; exact DataW.trod_lt m _ _ _ hm
  obtain ⟨f1, hf1⟩ := h1
  obtain ⟨os1, hx1a, hx1b, hx1c, hx1d, hx1e⟩ := open_ops11 hf1 (fun n hn => by have := List.all_eq_true.1 hsz2 n (DataW.weights_mem_each (j := 1) rfl rfl n hn); simpa using this)
  have hQ := of_laid11 hL
  clear hA0 hval0
  refine (vtRuns_any os1 z0 len1 cap1 a1 W hx1a hx1c hx1d hx1e hQ).mono fun e W' ⟨he, bel⟩ => ?_
  subst he
  exact ⟨_, rfl, _, _, _, [], _, [], hW', trodAll_mk1 (shut_bool Tryd.underlying4 _), (trodAll_cons_mk (shut_int Tryd.underlying3 wz0) (trodAll_cons_mk (Below.trod laidOut (by kernel_rfl) (of_decide_eq_true (by kernel_rfl)) k1 bel lt1) trodAll_mk0)), rfl, bel.frame _, fun h => by cases h⟩

theorem vaultRuns_holds : Rows.VaultRunsSaid :=
  OpenClaim.holds_of_wide 3 Tryd.f3 rfl rfl rfl rfl rfl rfl rfl ⟨rfl, rfl, rfl, rfl, rfl⟩ rfl rfl rfl rfl rfl (by kernel_rfl) Tryd.func3 (by kernel_rfl)
    (of_decide_eq_true (by kernel_rfl)) (by unfold Func.isWrapper; first | (rw [if_pos (by decide +kernel)]; kernel_rfl) | (rw [if_neg (by decide +kernel)]; exact ⟨rfl, rfl⟩))
    (fun os started H enc _ => vaultRuns_lifted os started H enc)

theorem vaultRuns_card : Rows.VaultRunsCardSaid :=
  Claim7.holds_tied_plain_at .later [] [.data] true Rows.vaultRunsCard.stood.harness false
    vaultRuns_holds (fun _ h => by cases h) (by kernel_rfl) (fun _ h => by cases h) vaultRuns_row_tie rfl ⟨rfl, rfl⟩ (by kernel_rfl) rfl
    (fun f fn hf hfn => by
      obtain rfl : f = 3 := Option.some.inj (hf.symm.trans (show _ = some 3 by kernel_rfl))
      obtain rfl : fn = Tryd.f3 := (Option.some.inj (Tryd.func3.symm.trans hfn)).symm
      exact ⟨by kernel_rfl, fun j t ht => by
        rw [Tryd.params3] at ht
        have hm : t ∈ [3, 22] := by simpa using Array.mem_of_getElem? ht
        have hall : ([3, 22].all fun u => !Tryd.prog.wantsStandIn u) = true := by kernel_rfl
        exact (show Tryd.prog.wantsStandIn t = false by simpa using List.all_eq_true.1 hall t hm)⟩)
    (by kernel_rfl)
#print axioms vaultRuns_card
end Go.Proofs.YtoidjapenompiaaDoor
