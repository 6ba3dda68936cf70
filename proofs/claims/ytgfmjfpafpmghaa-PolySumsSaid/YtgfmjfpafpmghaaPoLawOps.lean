/-
  The contracts of the statements' own half, with and sum.
-/
import Derived.Test.YtgfmjfpafpmghaaPoWorks
namespace Go.Proofs.Ytgfmjfpafpmghaa
open Go.RowKit Go.Proofs.ShaWords
/-- A copy of bytes into a block, from any place on. -/
theorem wpList_copy_at {w : World} {ops : Array Oper} {rest : List Oper} {o : Oper} {a : Act} {Q : Exit → Act → World → Prop} (hgd : o.guard = none) (d s : Operand)
    (ho : o.op = .call { callee := .builtin .copy, args := #[d, s], argTypes := #[24, 24] }) (g off n cap : Nat) (t : TypeId) (blk bs : List (BitVec 8)) (b off2 m c : Nat)
    (hd : a.eval d = .slice (some ⟨g, off, none⟩) n cap) (hs : a.eval s = .slice (some ⟨b, off2, none⟩) m c) (hg : BytesAt w g t blk) (hr : w.rangeAt b off2 (bytesV bs)) (hm : bs.length = m) (hle : m ≤ n) (hfit : off + m ≤ blk.length)
    (h : ∀ w', BytesAt w' g t (splice blk off bs) → w.grownBy w' (some g) → wpList Try.prog ops Q rest (a.put o.dst (goInt m)) w') : wpList Try.prog ops Q (o :: rest) a w := by
  have i5 : (Try.prog.info? 5).map (·.size) = some 1 := by kernel_rfl
  have hl : (bytesV bs).length = m := by rw [bytesV_length, hm]
  refine wpList_copy_own hgd d s 24 24 ho 5 Try.underlying24 i5 g off n cap ⟨b, off2, none⟩ m c hd hs (bytesV blk).toArray t hg (bytesV bs) (by rw [hl]; exact (Nat.min_eq_left hle).symm)
    (fun j v hv => by rw [Addr.add_mid]; exact hr j v hv) (by rw [hl, bytesV_size _ _ rfl]; exact hfit) (fun v hv => bytesV_mem hv) ?_
  rw [hl]
  refine h _ ?_ (grown_setRow _ _ _)
  show _ = _
  rw [setRow_heap _ _ _ _ _ _ hg]
  congr 2
  rw [← hl]
  simp [splice, bytesV]
theorem splice_full {α : Type} (L r : List α) (h : L.length = r.length) : splice L 0 r = r := by
  unfold splice
  rw [List.take_zero, List.nil_append, List.drop_of_length_le (by omega), List.append_nil]
theorem splice_two {α : Type} (L x y : List α) (n : Nat) (hx : x.length = n) (hy : y.length = n) (h : L.length = n + n) : splice (splice L 0 x) n y = x ++ y := by
  unfold splice
  rw [List.take_zero, List.nil_append, hx, Nat.zero_add, List.take_append_of_le_length (by omega), List.take_of_length_le (by omega), List.drop_of_length_le (by simp; omega), List.append_nil]

/-- The key's block, the result's, the half's. -/
structure HalfW (w : World) (key t : List (BitVec 8)) (wr : World) : Prop where
  key : BytesAt wr w.heap.size 23 key
  res : BytesAt wr (w.heap.size + 1) 28 zeros16
  t : BytesAt wr (w.heap.size + 1 + 1) 28 t
  below : Below w.heap.size w wr
attribute [local irreducible] zeros16
set_option maxRecDepth 100000 in
set_option maxHeartbeats 1000000 in
theorem half_any (key : List (BitVec 8)) (k : Nat) (w : World) (hk : key.length = 32) (hle : k + 16 ≤ 32) :
    Calls Try.prog 13 #[.agg (bytesV key).toArray, .int .i64 (k : Int)] w fun e w' => e = .returned (.agg (bytesV ((key.drop k).take 16)).toArray) ∧ Below w.heap.size w w' := by
  have HKL := Lib.hid hk; clear hk
  have hl : ((key.drop k).take 16).length = 16 := by rw [List.length_take, List.length_drop, HKL.out]; omega
  have HLL := Lib.hid hl; clear hl
  have HZ : Hid (zeros16.length = 16) := show _ = _ by unfold zeros16; rfl
  go_enter Try.func13, Try.ntmps13
  go_upto_region 2 with (fail)
  refine wp_gen (HalfW w key zeros16) ?_ ?_
  · refine ⟨alloc3_1 w _ _ _, ?_, ?_, alloc3_below w _ _ _⟩
    · show _ = some (Obj.cells (bytesV zeros16).toArray _ _); rw [zeros16_eq]; exact alloc3_2 w _ _ _
    · show _ = some (Obj.cells (bytesV zeros16).toArray _ _); rw [zeros16_eq]; exact alloc3_3 w _ _ _
  intro w0 hw0
  have HW0 := Lib.hid hw0; clear hw0
  have p0 : 0 ≤ (k : Int) := by omega
  obtain ⟨e, he⟩ : ∃ e, e = k + 16 := ⟨_, rfl⟩
  have p1 : IntKind.i64.wrap ((k : Int) + 16) = (e : Int) := by rw [IntWalk.i64_in _ (by omega)]; omega
  have p2 : (e : Int) ≤ 32 := by omega
  have p3 : 0 ≤ (e : Int) := by omega
  have p4 : (k : Int) ≤ (e : Int) := by omega
  have p5 : (e : Int).toNat = e := by omega
  have p6 : (k : Int).toNat = k := by omega
  have p7 : ¬ 32 = k := by omega
  have p8 : ¬ 32 - k = 0 := by omega
  have p9 : e - k = 16 := by omega
  clear he
  have HD := Lib.hid HW0.out.t
  have HR : Hid (w0.drew.rangeAt w.heap.size k (bytesV ((key.drop k).take 16))) := show World.rangeAt _ _ _ _ by
    have h := range_drop (k := k) HW0.out.key.range
    rw [Nat.zero_add] at h
    intro j v hv
    refine h j v ?_
    rw [bytesV_take, List.getElem?_take] at hv
    split at hv
    · exact hv
    · cases hv
  go_still_tail 5, (by kernel_rfl)
  change wpList _ _ _ _ _ w0.drew
  go_upto_region 3 with (refine wpList_copy_at rfl (.tmp 6) (.tmp 10) rfl (w.heap.size + 1 + 1) 0 16 16 28 zeros16 ((key.drop k).take 16) w.heap.size k 16 _ rfl rfl HD.out HR.out HLL.out (by omega) (by rw [HZ.out]; omega) ?_; intro w1 h1 g1; have H1 := Lib.hid h1; have G1 := Lib.hid g1; clear h1 g1)
  clear HD HR p0 p1 p2 p3 p4 p5 p6 p7 p8 p9
  have hb1 : Below w.heap.size w w1 := HW0.out.below.trans (((Below.refl _ w0).drew.mono HW0.out.below.size).grown (G1.out) (by have := HW0.out.below.size; show _ ≤ w0.heap.size; exact this) (fun k hk => by cases hk; omega))
  have HB1 := Lib.hid hb1
  have HRES := Lib.hid (HW0.out.res.past (w := w0.drew) G1.out (by omega))
  clear hb1
  rw [splice_full _ _ (HZ.out.trans HLL.out.symm)] at H1
  have HI := Lib.hid (infoTag _ HLL.out)
  have HOLD := Lib.hid (show (bytesV zeros16).toArray.size = (bytesV ((key.drop k).take 16)).toArray.size by rw [bytesV_size _ 16 HLL.out, bytesV_size _ 16 HZ.out])
  have HONE := Lib.hid (bytesV_one ((key.drop k).take 16))
  have HROW2 : Hid (w1.heap[w.heap.size + 1 + 1]? = some (.cells (bytesV ((key.drop k).take 16)).toArray 28 (0, 0))) := show _ = _ from H1.out
  clear H1 G1 HW0 HLL
  generalize hfe : (bytesV ((key.drop k).take 16)).toArray = full at HI HOLD HONE HROW2 ⊢
  have HFE := Lib.hid hfe; clear hfe
  go_wp2_with (first
    | (refine wpList_load_row rfl 28 (.tmp 5) rfl (w.heap.size + 1 + 1) rfl 28 full (0, 0) _ HROW2.out Try.underlying28 rfl HI.out ?_)
    | (refine wpList_store_row rfl 28 (.tmp 4) (.tmp 12) rfl (w.heap.size + 1) full rfl rfl 28 _ HRES.out HI.out HOLD.out HONE.out ?_))
  have hrow := setRow_heap w1 (w.heap.size + 1) _ full 28 _ HRES.out
  have hbel := below_setRow HB1.out (show w.heap.size ≤ w.heap.size + 1 by omega) full
  generalize w1.setRow (w.heap.size + 1) full = wz at hrow hbel ⊢
  have hres : ∀ tmps : Array Value, tmps.getD 4 undef = .pointer (some ⟨w.heap.size + 1, 0, none⟩) → Sem.run Try.prog (results Try.f13 tmps) wz = .ok (.agg full) wz := fun tmps h =>
    results_cell_row (P := Try.prog) (p := 4) (ty := 28) Try.results13 tmps wz (w.heap.size + 1) 28 full (0, 0) _ h hrow Try.underlying28 rfl HI.out
  exact bodyPost_ret (v := .agg full) (hres _ rfl) rfl ⟨by rw [HFE.out], hbel⟩

/-- Two tags' blocks, the result's, the key's. -/
structure WithW (w : World) (r s key : List (BitVec 8)) (wr : World) : Prop where
  r : BytesAt wr w.heap.size 28 r
  s : BytesAt wr (w.heap.size + 1) 28 s
  res : BytesAt wr (w.heap.size + 1 + 1) 23 zeros32
  key : BytesAt wr (w.heap.size + 1 + 1 + 1) 23 key
  below : Below w.heap.size w wr
theorem WithW.past {w wr w' : World} {r s key key' : List (BitVec 8)} (h : WithW w r s key wr) (hg : wr.grownBy w' (some (w.heap.size + 1 + 1 + 1))) (hk : BytesAt w' (w.heap.size + 1 + 1 + 1) 23 key') : WithW w r s key' w' :=
  ⟨h.r.past hg (by omega), h.s.past hg (by omega), h.res.past hg (by omega), hk, h.below.grown hg h.below.size (fun k hk => by cases hk; omega)⟩
theorem WithW.drew {w wr : World} {r s key : List (BitVec 8)} (h : WithW w r s key wr) : WithW w r s key wr.drew := ⟨h.r, h.s, h.res, h.key, h.below.trans (((Below.refl _ _).drew).mono h.below.size)⟩
attribute [local irreducible] zeros32
set_option maxRecDepth 100000 in
set_option maxHeartbeats 1000000 in
theorem with_any (r s : List (BitVec 8)) (w : World) (hr : r.length = 16) (hs : s.length = 16) :
    Calls Try.prog 14 #[.agg (bytesV r).toArray, .agg (bytesV s).toArray] w fun e w' => e = .returned (.agg (bytesV (r ++ s)).toArray) ∧ Below w.heap.size w w' := by
  have HRL := Lib.hid hr; clear hr
  have HSL := Lib.hid hs; clear hs
  have HZ : Hid (zeros32.length = 32) := show _ = _ by unfold zeros32; rfl
  have HLL : Hid ((r ++ s).length = 32) := show _ = _ by rw [List.length_append, HRL.out, HSL.out]
  go_enter Try.func14, Try.ntmps14
  go_upto_region 2 with (fail)
  refine wp_gen (WithW w r s zeros32) ?_ ?_
  · refine ⟨(show BytesAt _ _ _ _ from alloc3_1 w _ _ _).keep ((Below.refl _ _).alloc (Nat.le_refl _) _), (show BytesAt _ _ _ _ from alloc3_2 w _ _ _).keep ((Below.refl _ _).alloc (Nat.le_refl _) _), ?_, ?_, (alloc3_below w _ _ _).alloc (by simp; omega) _⟩
    · refine BytesAt.keep (w := ((w.alloc _).alloc _).alloc _) ?_ ((Below.refl _ _).alloc (Nat.le_refl _) _)
      show _ = some (Obj.cells (bytesV zeros32).toArray _ _); rw [zeros32_eq]; exact alloc3_3 w _ _ _
    · show _ = some (Obj.cells (bytesV zeros32).toArray _ _); rw [zeros32_eq]; exact heap_new_at (by simp)
  intro w0 hw0
  have HW0 := Lib.hid hw0.drew; clear hw0
  have HK0 := Lib.hid HW0.out.key
  have HR0 := Lib.hid HW0.out.r.range
  go_still_tail 2, (by kernel_rfl)
  change wpList _ _ _ _ _ w0.drew
  go_upto_region 3 with (refine wpList_copy_at rfl (.tmp 6) (.tmp 7) rfl (w.heap.size + 1 + 1 + 1) 0 16 _ 23 zeros32 r w.heap.size 0 16 _ rfl rfl HK0.out HR0.out HRL.out (by omega) (by rw [HZ.out]; omega) ?_; intro w1 h1 g1; have HW1 := Lib.hid (HW0.out.past g1 h1).drew; clear h1 g1)
  clear HW0 HK0 HR0
  have HK1 := Lib.hid HW1.out.key
  have HR1 := Lib.hid HW1.out.s.range
  go_still_tail 2, (by kernel_rfl)
  change wpList _ _ _ _ _ w1.drew
  go_upto_region 4 with (refine wpList_copy_at rfl (.tmp 9) (.tmp 10) rfl (w.heap.size + 1 + 1 + 1) 16 16 _ 23 (splice zeros32 0 r) s (w.heap.size + 1) 0 16 _ rfl rfl HK1.out HR1.out HSL.out (by omega) (by rw [length_splice _ _ _ (by rw [HZ.out, HRL.out]; omega), HZ.out]; omega) ?_; intro w2 h2 g2; have HW2 := Lib.hid (HW1.out.past g2 h2); clear h2 g2)
  clear HW1 HK1 HR1
  have HE := Lib.hid (splice_two zeros32 r s 16 HRL.out HSL.out HZ.out)
  have HROW := Lib.hid HW2.out.key
  rw [HE.out] at HROW
  have HRES := Lib.hid HW2.out.res
  have HB2 := Lib.hid HW2.out.below
  clear HW2 HE
  have HI := Lib.hid (infoKey _ HLL.out)
  have HOLD := Lib.hid (show (bytesV zeros32).toArray.size = (bytesV (r ++ s)).toArray.size by rw [bytesV_size _ 32 HLL.out, bytesV_size _ 32 HZ.out])
  have HONE := Lib.hid (bytesV_one (r ++ s))
  generalize hfe : (bytesV (r ++ s)).toArray = full at HI HOLD HONE ⊢
  have HFE := Lib.hid hfe; clear hfe
  have HROW2 : Hid (w2.heap[w.heap.size + 1 + 1 + 1]? = some (.cells full 23 (0, 0))) := show _ = _ by rw [← HFE.out]; exact HROW.out
  go_wp2_with (first
    | (refine wpList_load_row rfl 23 (.tmp 5) rfl (w.heap.size + 1 + 1 + 1) rfl 23 full (0, 0) _ HROW2.out Try.underlying23 rfl HI.out ?_)
    | (refine wpList_store_row rfl 23 (.tmp 4) (.tmp 12) rfl (w.heap.size + 1 + 1) full rfl rfl 23 _ HRES.out HI.out HOLD.out HONE.out ?_))
  have hrow := setRow_heap w2 (w.heap.size + 1 + 1) _ full 23 _ HRES.out
  have hbel := below_setRow HB2.out (show w.heap.size ≤ w.heap.size + 1 + 1 by omega) full
  generalize w2.setRow (w.heap.size + 1 + 1) full = wz at hrow hbel ⊢
  have hres : ∀ tmps : Array Value, tmps.getD 4 undef = .pointer (some ⟨w.heap.size + 1 + 1, 0, none⟩) → Sem.run Try.prog (results Try.f14 tmps) wz = .ok (.agg full) wz := fun tmps h =>
    results_cell_row (P := Try.prog) (p := 4) (ty := 23) Try.results14 tmps wz (w.heap.size + 1 + 1) 23 full (0, 0) _ h hrow Try.underlying23 rfl HI.out
  exact bodyPost_ret (v := .agg full) (hres _ rfl) rfl ⟨by rw [HFE.out], hbel⟩
end Go.Proofs.Ytgfmjfpafpmghaa
