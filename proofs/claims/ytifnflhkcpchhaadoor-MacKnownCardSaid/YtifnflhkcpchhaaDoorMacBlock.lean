/-
  The contract of mac.blockOf: a key's block; nothing that was there changes.
-/
import Derived.Test.YtifnflhkcpchhaaDoorMacPadded
import Derived.Laws.CopyOwn
namespace Go.Proofs.YtifnflhkcpchhaaDoor
open Go.RowKit Go.Proofs.ShaWords

/-- A key's block. -/
def keyOf (key : List (BitVec 8)) : List (BitVec 8) := if key.length ≤ 64 then key else shaOf key
def blockK (key : List (BitVec 8)) : List (BitVec 8) := splice (noughts 64) 0 (keyOf key)
theorem keyOf_length (key : List (BitVec 8)) : (keyOf key).length ≤ 64 := by
  unfold keyOf; split
  · assumption
  · rw [shaOf_length]; omega
theorem blockK_length (key : List (BitVec 8)) : (blockK key).length = 64 := by
  have := keyOf_length key
  unfold blockK
  rw [length_splice _ _ _ (by rw [noughts_length]; omega), noughts_length]
theorem splice_noughts (n : Nat) (l : List (BitVec 8)) : splice (List.replicate n 0#8) 0 l = l ++ List.replicate (n - l.length) 0#8 := by simp [splice]
theorem blockK_eq (key : List (BitVec 8)) : blockK key = keyOf key ++ noughts (64 - (keyOf key).length) := by
  unfold blockK noughts; exact splice_noughts 64 _
/-- A copy of bytes into a block of the call's own, from the block's start. -/
theorem run_copy_bytes (w : World) (ty : TypeId) (g n cap : Nat) (t : TypeId) (blk bs : List (BitVec 8)) (p : Option Addr) (m c : Nat) (hg : BytesAt w g t blk) (hn : blk.length = n) (hL : Lies w p bs) (hm : bs.length = m) (hle : m ≤ n) :
    ∃ w', (Builtin.copy_ #[26, 26] ty #[.slice (some ⟨g, 0, none⟩) n cap, .slice p m c]).run Tryd.prog w = .ok (goInt m) w' ∧ BytesAt w' g t (splice blk 0 bs) ∧ w.grownBy w' (some g) := by
  have hmin : Nat.min m n = m := Nat.min_eq_left hle
  have i5 : (Tryd.prog.info? 5).map (·.size) = some 1 := by kernel_rfl
  by_cases h0 : m = 0
  · subst h0
    have hb : bs = [] := List.length_eq_zero_iff.1 hm
    subst hb
    refine ⟨w, run_copy_none (P := Tryd.prog) w 26 26 ty 5 _ p n cap 0 c Tryd.underlying26 i5 (by simp), ?_, World.grownBy.refl _ _⟩
    rw [splice_nil]; exact hg
  · rcases hL with hb | ⟨b, off, rfl, hr⟩
    · subst hb; exact absurd hm.symm h0
    · have hl : (bytesV bs).length = m := by rw [bytesV_length, hm]
      have hrun := run_copy_row (P := Tryd.prog) w 26 26 ty 5 g 0 n cap ⟨b, off, none⟩ m c (bytesV blk).toArray t (bytesV bs) Tryd.underlying26 i5 hg (by rw [hl, hmin])
        (fun j v hv => by rw [Addr.add_mid]; exact hr j v hv) (by rw [hl, bytesV_size _ n hn]; omega) (fun v hv => bytesV_mem hv)
      rw [hl] at hrun
      refine ⟨_, hrun, ?_, grown_setRow _ _ _⟩
      show _ = _
      rw [setRow_heap _ _ _ _ _ _ hg]
      congr 2
      rw [← hl]
      simp [splice, bytesV]
theorem wpList_copy_bytes {w : World} {ops : Array Oper} {rest : List Oper} {o : Oper} {a : Act} {Q : Exit → Act → World → Prop} (hgd : o.guard = none) (d s : Operand)
    (ho : o.op = .call { callee := .builtin .copy, args := #[d, s], argTypes := #[26, 26] }) (g n cap : Nat) (t : TypeId) (blk bs : List (BitVec 8)) (p : Option Addr) (m c : Nat)
    (hd : a.eval d = .slice (some ⟨g, 0, none⟩) n cap) (hs : a.eval s = .slice p m c) (hg : BytesAt w g t blk) (hn : blk.length = n) (hL : Lies w p bs) (hm : bs.length = m) (hle : m ≤ n)
    (h : ∀ w', BytesAt w' g t (splice blk 0 bs) → w.grownBy w' (some g) → wpList Tryd.prog ops Q rest (a.put o.dst (goInt m)) w') : wpList Tryd.prog ops Q (o :: rest) a w := by
  refine wpList_plain hgd fun K hK => ?_
  obtain ⟨w', hrun, h1, h2⟩ := run_copy_bytes w o.type g n cap t blk bs p m c hg hn hL hm hle
  unfold Oper.wp
  simp [execOp, ho, resolve, invoke, builtin, hd, hs, hrun, Result.andThen]
  exact hK _ _ (h w' h1 h2)
theorem run_copy_op {ρ : Operand → Value} {o : Oper} {x y : Operand} {w w' : World} {v u r : Value} (ho : o.op = .call { callee := .builtin .copy, args := #[x, y], argTypes := #[26, 26] }) (hx : ρ x = v) (hy : ρ y = u)
    (hr : (Builtin.copy_ #[26, 26] o.type #[v, u]).run Tryd.prog w = .ok r w') : (execOp ρ o).run Tryd.prog w = .ok (.value r) w' := by
  simp [execOp, ho, resolve, invoke, builtin, hx, hy, hr, Result.andThen]
/-- A slice over a whole array. -/
theorem run_slice64 {ρ : Operand → Value} {o : Oper} {x : Operand} {g : Nat} (ho : o.op = .slice 52 x none none none) (hx : ρ x = .pointer (some ⟨g, 0, none⟩)) (w : World) :
    (execOp ρ o).run Tryd.prog w = .ok (.value (.slice (some ⟨g, 0, none⟩) 64 64)) w := by
  obtain ⟨dst, op, ty', pos, after, guard⟩ := o
  simp only at ho
  subst ho
  go_simp
theorem run_slice32 {ρ : Operand → Value} {o : Oper} {x : Operand} {g : Nat} (ho : o.op = .slice 31 x none none none) (hx : ρ x = .pointer (some ⟨g, 0, none⟩)) (w : World) :
    (execOp ρ o).run Tryd.prog w = .ok (.value (.slice (some ⟨g, 0, none⟩) 32 32)) w := by
  obtain ⟨dst, op, ty', pos, after, guard⟩ := o
  simp only at ho
  subst ho
  go_simp
/-- A region that draws its order, with any thing that is kept. -/
theorem region_schedS {P : Program} {id : Nat} {ops : Array Oper} {Q : Exit → Act → World → Prop} {a : Act} {w : World} (S : World → Prop) (hS : S w.drew) (r : List (Nat × Bool)) (hm : P.follows .mixedOrders = true) (hs : Region.noSelect ops = true)
    (hl : r.length = ops.size) (hc : schedOk ops r (Array.replicate ops.size false) = true)
    (h : ∀ ops', ops' = ops → ∀ A, A = a → wpS P ops' (NoPanic Q) S r A w.drew) : (Code.region id ops true).wp P Q a w := by
  refine wp_region_noPanic (wp_region_held (S := S) hm ?_)
  rw [← hl]
  exact wpAnyH_sched hs (fun c a w h => h) r _ a w.drew (hl ▸ hc) hS (h ops rfl a rfl)

theorem two_blocks (w : World) (A : Array Value) (hA : A = (bytesV (noughts 64)).toArray) :
    BytesAt ((w.alloc (.cells A 52)).alloc (.cells A 52)) w.heap.size 52 (noughts 64) ∧ BytesAt ((w.alloc (.cells A 52)).alloc (.cells A 52)) (w.heap.size + 1) 52 (noughts 64) ∧
      Below w.heap.size w ((w.alloc (.cells A 52)).alloc (.cells A 52)) := by
  subst hA
  exact ⟨BytesAt.keep (w := w.alloc _) (heap_alloc_new w _) ((Below.refl _ _).alloc (Nat.le_refl _) _), heap_new_at (size_alloc _ _), ((Below.refl _ _).alloc (Nat.le_refl _) _).alloc (by rw [size_alloc]; omega) _⟩
/-- The end: the block is loaded and stored into the result. -/
theorem blockK_short (key : List (BitVec 8)) (h : key.length ≤ 64) : splice (noughts 64) 0 key = blockK key := by unfold blockK keyOf; rw [if_pos h]
theorem blockK_long (key : List (BitVec 8)) (h : 64 < key.length) : splice (noughts 64) 0 (shaOf key) = blockK key := by unfold blockK keyOf; rw [if_neg (by omega)]
attribute [local irreducible] shaOf blockK
set_option maxRecDepth 100000 in
set_option maxHeartbeats 1000000 in
theorem blockOf_any (key : List (BitVec 8)) (p : Option Addr) (cap : Nat) (w : World) (hr : Lies w p key) (hcap : key.length ≤ cap) (hcm : cap ≤ 9223372036854775807) (hn : key.length < 549755813000) (hk : Consts w) (hs : Starts w) :
    Calls Tryd.prog 43 #[.slice p key.length cap] w fun e w' => e = .returned (.agg (bytesV (blockK key)).toArray) ∧ Below w.heap.size w w' := by
  have hs1 := hk.size
  have HK := Lib.hid hk; clear hk
  have HS := Lib.hid hs; clear hs
  have HR := Lib.hid hr; clear hr
  by_cases hlong : 64 < key.length
  · go_enter Tryd.func43, Tryd.ntmps43
    go_wp2_with fail
    refine calls_gen (fun w0 => BytesAt w0 w.heap.size 52 (noughts 64) ∧ BytesAt w0 (w.heap.size + 1) 52 (noughts 64) ∧ Below w.heap.size w w0) (two_blocks w _ rfl) ?_
    rintro w0 ⟨hz0, hb0, bel0⟩
    have sz0 := hb0.size
    refine (shaSum_cap key p cap w0 (HR.out.below bel0) hcap hcm (by omega) (HK.out.below bel0 hs1) (HS.out.below bel0 (by omega))).mono ?_
    rintro e w1 ⟨rfl, hb1⟩
    have HB1 := Lib.hid (bel0.trans (hb1.mono (by omega)))
    have HZ1 := Lib.hid (hz0.keep hb1)
    have HC1 := Lib.hid (hb0.keep hb1)
    have sz1 := HC1.out.size
    clear hb0 hz0 bel0 hb1
    have HSL := Lib.hid (shaOf_length key)
    have HSI := Lib.hid (info32 _ HSL.out)
    have HSO := Lib.hid (show (bytesV (noughts 32)).toArray.size = (bytesV (shaOf key)).toArray.size by rw [bytesV_size _ 32 HSL.out, bytesV_size _ 32 (noughts_length 32)])
    have HS1 := Lib.hid (bytesV_one (shaOf key))
    go_wp2_with (refine wpList_store_new rfl 31 (.tmp 4) (.tmp 9) rfl w1.heap.size rfl (bytesV (shaOf key)).toArray rfl rfl HSI.out (by rw [← noughts32]; exact HSO.out) HS1.out ?_; intro w2 h2 b2; have HD2 := Lib.hid h2; have HC2 := Lib.hid (HC1.out.keep b2); have HZ2 := Lib.hid (HZ1.out.keep b2); have HB2 := Lib.hid (HB1.out.trans (b2.mono (by omega))); have sz2 := (Array.getElem?_eq_some_iff.1 h2).1; clear h2 b2)
    generalize w1.heap.size = D at HD2 sz1 sz2 ⊢
    clear HB1 HZ1 HC1 HSI HSO HS1
    refine region_schedS (fun _ => True) trivial [(0, true), (1, true), (2, false)] (by kernel_rfl) (by kernel_rfl) (by kernel_rfl) (by kernel_rfl) (fun ops hops A hA => ?_)
    have hsz : A.tmps.size = 17 := by rw [hA]; rfl
    have base3 : A.eval (.tmp 3) = .pointer (some ⟨w.heap.size + 1, 0, none⟩) := by rw [hA]; rfl
    have base4 : A.eval (.tmp 4) = .pointer (some ⟨D, 0, none⟩) := by rw [hA]; rfl
    have HAA := Lib.hid hA; clear hA
    obtain ⟨o0, po0, q0, d0, gd0⟩ : ∃ o, ops[0]? = some o ∧ o.op = .slice 52 (.tmp 3) none none none ∧ o.dst = some 10 ∧ o.guard = none := ⟨_, by rw [hops]; rfl, rfl, rfl, rfl⟩
    obtain ⟨o1, po1, q1, d1, gd1⟩ : ∃ o, ops[1]? = some o ∧ o.op = .slice 31 (.tmp 4) none none none ∧ o.dst = some 11 ∧ o.guard = none := ⟨_, by rw [hops]; rfl, rfl, rfl, rfl⟩
    obtain ⟨o2, po2, q2, d2, gd2⟩ : ∃ o, ops[2]? = some o ∧ o.op = .call { callee := .builtin .copy, args := #[.tmp 10, .tmp 11], argTypes := #[26, 26] } ∧ o.dst = some 12 ∧ o.guard = none := ⟨_, by rw [hops]; rfl, rfl, rfl, rfl⟩
    clear hops
    obtain ⟨w3, hrun, hc3, hg3⟩ := run_copy_bytes w2.drew o2.type (w.heap.size + 1) 64 64 52 (noughts 64) (shaOf key) (some ⟨D, 0, none⟩) 32 32 HC2.out (noughts_length 64) (Or.inr ⟨D, 0, rfl, range_bytesV (w := w2.drew) HD2.out⟩) HSL.out (by omega)
    refine step_pure po0 d0 (wanted_of gd0) (fun w' _ => run_slice64 q0 base3 w') ?_
    refine step_pure po1 d1 (wanted_of gd1) (fun w' _ => run_slice32 q1 ((eval_other _ 10 4 _ (by decide)).trans base4) w') ?_
    refine step_op po2 d2 (wanted_of gd2) (run_copy_op q2 ((eval_other _ 11 10 _ (by decide)).trans (eval_same _ _ _ (by rw [hsz]; decide))) (eval_same _ _ _ (by simp only [put_size, hsz]; decide)) hrun) trivial ?_
    rw [blockK_long key hlong] at hc3
    have HC := Lib.hid hc3
    have HZ3 := Lib.hid (BytesAt.past (w := w2.drew) HZ2.out hg3 (by omega))
    have HB3 := Lib.hid (HB2.out.drew.grown hg3 (by show w.heap.size ≤ w2.heap.size; omega) (fun k hk => by have := Option.some.inj hk; omega))
    clear hc3 hg3 hrun
    show NoPanic _ .normal _ _
    refine NoPanic.normal ?_
    rw [HAA.out]
    go_frame
    have HBK := Lib.hid (blockK_length key)
    have HI := Lib.hid (info64 _ HBK.out)
    have HOLD := Lib.hid (show (bytesV (noughts 64)).toArray.size = (bytesV (blockK key)).toArray.size by rw [bytesV_size _ 64 HBK.out, bytesV_size _ 64 (noughts_length 64)])
    have HONE := Lib.hid (bytesV_one (blockK key))
    have HC3 : Hid (w3.heap[w.heap.size + 1]? = some (.cells (bytesV (blockK key)).toArray 52 (0, 0))) := HC.out
    clear HC
    generalize hfe : (bytesV (blockK key)).toArray = full at HI HOLD HONE HC3 ⊢
    have HFE := Lib.hid hfe; clear hfe
    go_wp2_with (first
      | (refine wpList_load_row rfl 52 (.tmp 3) rfl (w.heap.size + 1) rfl 52 full (0, 0) _ HC3.out Tryd.underlying52 rfl HI.out ?_)
      | (refine wpList_store_row rfl 52 (.tmp 2) (.tmp 16) rfl w.heap.size full rfl rfl 52 _ HZ3.out HI.out HOLD.out HONE.out ?_))
    have hrow := setRow_heap w3 w.heap.size _ full 52 _ HZ3.out
    have hbel := below_setRow HB3.out (Nat.le_refl w.heap.size) full
    generalize w3.setRow w.heap.size full = wz at hrow hbel ⊢
    have hres : ∀ tmps : Array Value, tmps.getD 2 undef = .pointer (some ⟨w.heap.size, 0, none⟩) → Sem.run Tryd.prog (results Tryd.f43 tmps) wz = .ok (.agg full) wz := fun tmps h =>
      results_cell_row (P := Tryd.prog) (p := 2) (ty := 52) Tryd.results43 tmps wz w.heap.size 52 full (0, 0) (TypeDesc.array 64 5) h hrow Tryd.underlying52 rfl HI.out
    exact bodyPost_ret (v := .agg full) (hres _ rfl) rfl ⟨by rw [HFE.out], hbel⟩
  · have hlong2 : ¬ (64 : Int) < (key.length : Int) := by omega
    have h64 : key.length ≤ 64 := by omega
    have HBK := Lib.hid (blockK_length key)
    have HI := Lib.hid (info64 _ HBK.out)
    have HOLD := Lib.hid (show (bytesV (noughts 64)).toArray.size = (bytesV (blockK key)).toArray.size by rw [bytesV_size _ 64 HBK.out, bytesV_size _ 64 (noughts_length 64)])
    have HONE := Lib.hid (bytesV_one (blockK key))
    obtain ⟨full, hfe⟩ : ∃ full, full = (bytesV (blockK key)).toArray := ⟨_, rfl⟩
    rw [← hfe] at HI HOLD HONE
    have HFE := Lib.hid hfe; clear hfe
    have HFC : Hid (∀ w3 : World, BytesAt w3 (w.heap.size + 1) 52 (splice (noughts 64) 0 key) → w3.heap[w.heap.size + 1]? = some (.cells full 52 (0, 0))) := fun w3 h3 => by
      rw [blockK_short key h64] at h3; rw [HFE.out]; exact h3
    go_enter Tryd.func43, Tryd.ntmps43
    go_wp2_with (first
      | (refine wpList_copy_bytes rfl (.tmp 13) (.tmp 14) rfl (w.heap.size + 1) 64 64 52 (noughts 64) key p key.length cap rfl rfl (two_blocks w _ rfl).2.1 (noughts_length 64) (HR.out.below (two_blocks w _ rfl).2.2) rfl h64 ?_; intro w3 hc3 hg3; have HC3 := Lib.hid (HFC.out w3 hc3); have HZ3 := Lib.hid ((two_blocks w _ rfl).1.past hg3 (by omega)); have HB3 := Lib.hid ((two_blocks w _ rfl).2.2.grown hg3 (by rw [size_alloc, size_alloc]; omega) (fun k hk => by have := Option.some.inj hk; omega)); clear hc3 hg3)
      | (refine wpList_load_row rfl 52 (.tmp 3) rfl (w.heap.size + 1) rfl 52 full (0, 0) _ HC3.out Tryd.underlying52 rfl HI.out ?_)
      | (refine wpList_store_row rfl 52 (.tmp 2) (.tmp 16) rfl w.heap.size full rfl rfl 52 _ HZ3.out HI.out HOLD.out HONE.out ?_))
    have hrow := setRow_heap w3 w.heap.size _ full 52 _ HZ3.out
    have hbel := below_setRow HB3.out (Nat.le_refl w.heap.size) full
    generalize w3.setRow w.heap.size full = wz at hrow hbel ⊢
    have hres : ∀ tmps : Array Value, tmps.getD 2 undef = .pointer (some ⟨w.heap.size, 0, none⟩) → Sem.run Tryd.prog (results Tryd.f43 tmps) wz = .ok (.agg full) wz := fun tmps h =>
      results_cell_row (P := Tryd.prog) (p := 2) (ty := 52) Tryd.results43 tmps wz w.heap.size 52 full (0, 0) (TypeDesc.array 64 5) h hrow Tryd.underlying52 rfl HI.out
    exact bodyPost_ret (v := .agg full) (hres _ rfl) rfl ⟨by rw [HFE.out], hbel⟩
end Go.Proofs.YtifnflhkcpchhaaDoor
