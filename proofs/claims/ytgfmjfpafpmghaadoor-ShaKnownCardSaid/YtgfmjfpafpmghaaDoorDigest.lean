/-
  The contracts of sha.Sum and of the law's own sum; two digests of the same bytes compare as equal; the published digest of abc by the kernel's own reckoning.
-/
import Derived.Test.YtgfmjfpafpmghaaDoorSum
namespace Go.Proofs.YtgfmjfpafpmghaaDoor
open Go.RowKit Go.Proofs.ShaWords
attribute [local go_sem] and32 or32 xor32 add32 shl32 shr32 wrap32_n8 wrap8_n32 shl32_8 shl32_16 shl32_24 shr32_3 shr32_8 shr32_10 shr32_16 shr32_24

theorem Starts.below {w w' : World} {B : Nat} (h : Starts w) (hb : Below B w w') (hB : 0 < B) : Starts w' := fun j v hv => (hb.cell (p := ⟨0, 0 + j, none⟩) hB).trans (h j v hv)
theorem Starts.grown {w w' : World} {g : Nat} (h : Starts w) (hb : w.grownBy w' (some g)) (hg : g ≠ 0) : Starts w' := fun j v hv =>
  (World.cell?_of_block (a := ⟨0, 0 + j, none⟩) (hb.block 0 (World.block_lt_of_cell? w _ (h j v hv)) (fun e => hg (Option.some.inj e).symm))).trans (h j v hv)

/-- The digest of bytes. -/
def shaOf (bs : List (BitVec 8)) : List (BitVec 8) := sumOf (writeOf newHS bs)

set_option maxRecDepth 100000 in
set_option maxHeartbeats 1000000 in
theorem shaSum_any (bs : List (BitVec 8)) (p : Option Addr) (cap : Nat) (w : World) (hr : Lies w p bs) (hcap : bs.length ≤ cap) (hcm : cap ≤ 140737488351232) (hn : bs.length < 549755813888) (hk : Consts w) (hs : Starts w) :
    Calls Tryd.prog 13 #[.slice p bs.length cap] w fun e w' => e = .returned (.agg (bytesV (shaOf bs)).toArray) ∧ Below w.heap.size w w' := by
  have hs1 := hk.size
  have HK := Lib.hid hk; clear hk
  have HS := Lib.hid hs; clear hs
  have HR := Lib.hid hr; clear hr
  go_enter Tryd.func13, Tryd.ntmps13
  go_wp2_with fail
  have z0 := heap_new_at (w := w) (o := Obj.cells (bytesV (List.replicate 32 0#8)).toArray 33) rfl
  have b0 := (Below.refl w.heap.size w).alloc (Nat.le_refl _) (Obj.cells (bytesV (List.replicate 32 0#8)).toArray 33)
  have s0 := size_alloc w (Obj.cells (bytesV (List.replicate 32 0#8)).toArray 33)
  rw [noughts32] at z0 b0 s0
  generalize w.alloc (Obj.cells #[Value.int IntKind.u8 0, Value.int IntKind.u8 0, Value.int IntKind.u8 0, Value.int IntKind.u8 0, Value.int IntKind.u8 0, Value.int IntKind.u8 0, Value.int IntKind.u8 0, Value.int IntKind.u8 0, Value.int IntKind.u8 0, Value.int IntKind.u8 0, Value.int IntKind.u8 0, Value.int IntKind.u8 0, Value.int IntKind.u8 0, Value.int IntKind.u8 0, Value.int IntKind.u8 0, Value.int IntKind.u8 0, Value.int IntKind.u8 0, Value.int IntKind.u8 0, Value.int IntKind.u8 0, Value.int IntKind.u8 0, Value.int IntKind.u8 0, Value.int IntKind.u8 0, Value.int IntKind.u8 0, Value.int IntKind.u8 0, Value.int IntKind.u8 0, Value.int IntKind.u8 0, Value.int IntKind.u8 0, Value.int IntKind.u8 0, Value.int IntKind.u8 0, Value.int IntKind.u8 0, Value.int IntKind.u8 0, Value.int IntKind.u8 0] 33) = w0 at z0 b0 s0 ⊢
  rw [← noughts32] at z0
  refine (new_any w0 (HS.out.below b0 (by omega))).mono ?_
  rintro e w1 ⟨rfl, ha1, hb1⟩
  have B1 := Lib.hid (b0.trans (hb1.mono (by omega)))
  have Z1 := Lib.hid ((hb1.block w.heap.size (by omega)).trans z0)
  have HA1 := Lib.hid ha1
  have S1 := Lib.hid s0
  clear z0 hb1 ha1 b0
  generalize hg0 : w0.heap.size = g0 at HA1 S1 ⊢
  clear hg0 s0
  have hg0 : w.heap.size < g0 := by have := S1.out; omega
  clear S1
  go_wp2_with fail
  refine (write_any g0 newHS bs p cap w1 HA1.out (HR.out.reads B1.out g0 (by omega)) hcap hcm (by show 0 + bs.length < _; omega) (HK.out.below B1.out hs1) (by omega)).mono ?_
  rintro e w2 ⟨rfl, ha2, hg2⟩
  have hs2 := HA1.out.size
  have HA2 := Lib.hid ha2
  have B2 := Lib.hid (B1.out.grown hg2 (by omega) (fun k hk => by have := Option.some.inj hk; omega))
  have Z2 := Lib.hid ((hg2.block w.heap.size (by omega) (fun e => by have := Option.some.inj e; omega)).trans Z1.out)
  clear ha2 hg2 HA1 B1 Z1
  go_wp2_with fail
  refine (sum_any g0 (writeOf newHS bs) w2 HA2.out (HK.out.below B2.out hs1) (by rw [writeOf_n]; show 0 + bs.length < _; omega)).mono ?_
  rintro e w3 ⟨rfl, hb3⟩
  have s2 := HA2.out.size
  have B3 := Lib.hid (B2.out.trans (hb3.mono (by omega)))
  have Z3 := Lib.hid ((hb3.block w.heap.size (by omega)).trans Z2.out)
  have hdl : (shaOf bs).length = 32 := by rw [shaOf, sumOf, ← digTo_full, digTo_length _ 8 (by omega)]
  have HI := Lib.hid ((show (Tryd.prog.info? 33).map (·.size) = some 32 by kernel_rfl).trans (congrArg some (bytesV_size _ 32 hdl).symm))
  have HOLD := Lib.hid (show (bytesV (List.replicate 32 0#8)).toArray.size = (bytesV (shaOf bs)).toArray.size by rw [bytesV_size _ 32 hdl]; rfl)
  have HONE := Lib.hid (bytesV_one (shaOf bs))
  clear hb3 B2 Z2 HA2 hdl
  rw [show sumOf (writeOf newHS bs) = shaOf bs from rfl]
  generalize hfe : (bytesV (shaOf bs)).toArray = full at HI HOLD HONE ⊢
  have HFE := Lib.hid hfe; clear hfe
  go_wp2_with (refine wpList_store_row rfl 33 (.tmp 2) (.tmp 9) rfl w.heap.size full rfl rfl 33 _ Z3.out HI.out HOLD.out HONE.out ?_)
  have hrow := setRow_heap w3 w.heap.size _ full 33 _ Z3.out
  have hbel := below_setRow B3.out (Nat.le_refl w.heap.size) full
  generalize w3.setRow w.heap.size full = wz at hrow hbel ⊢
  have hres : ∀ tmps : Array Value, tmps.getD 2 undef = .pointer (some ⟨w.heap.size, 0, none⟩) → Sem.run Tryd.prog (results Tryd.f13 tmps) wz = .ok (.agg full) wz := fun tmps h =>
    results_cell_row (P := Tryd.prog) (p := 2) (ty := 33) Tryd.results13 tmps wz w.heap.size 33 _ (0, 0) (TypeDesc.array 32 5) h hrow Tryd.underlying33 rfl HI.out
  exact bodyPost_ret (v := .agg full) (hres _ rfl) rfl ⟨by rw [HFE.out], hbel⟩

theorem flat_get (l : List (BitVec 32)) (i : Nat) (hi : i < 4 * l.length) : (l.flatMap wbytes).getD i 0#8 = lo8 (l.getD (i / 4) 0#32 >>> (24 - 8 * (i % 4))) := by
  induction l generalizing i with
  | nil => simp at hi
  | cons a r ih =>
    rw [List.flatMap_cons]
    by_cases h4 : i < 4
    · have e : i / 4 = 0 := by omega
      rw [e, show i % 4 = i by omega]
      rcases i with _ | _ | _ | _ | i
      · rfl
      · rfl
      · rfl
      · simp [wbytes]
      · omega
    · obtain ⟨j, rfl⟩ : ∃ j, i = j + 4 := ⟨i - 4, by omega⟩
      have hj := ih j (by simp at hi; omega)
      rw [show (j + 4) / 4 = j / 4 + 1 by omega, show (j + 4) % 4 = j % 4 by omega]
      simp only [List.getD_cons_succ]
      rw [← hj]
      simp [List.getD, wbytes]
theorem digest_get (s : St) (i : Nat) (hi : i < 32) : (digestOf s).getD i 0#8 = lo8 (s.list.getD (i / 4) 0#32 >>> (24 - 8 * (i % 4))) :=
  flat_get s.list i (by simp [St.list]; omega)
theorem digestOf_length (s : St) : (digestOf s).length = 32 := by rw [← digTo_full, digTo_length _ 8 (by omega)]

set_option maxRecDepth 100000 in
set_option maxHeartbeats 400000 in
/-- The law's own reading of eight words. -/
theorem lawSum_any (s : St) (w : World) :
    Calls Tryd.prog 12 #[.agg (wordsV s.list).toArray] w fun e w' => e = .returned (.agg (bytesV (digestOf s)).toArray) ∧ Below w.heap.size w w' := by
  go_enter Tryd.func12, Tryd.ntmps12
  go_wp2_with fail
  refine wp_gen (fun w2 => w2.heap[w.heap.size]? = some (.cells (wordsV s.list).toArray 35 (0, 0)) ∧ SumW w (w.heap.size + 1) (w.heap.size + 1 + 1) (List.replicate 32 0#8) w2) ?_ ?_
  · rw [← noughts32]
    exact ⟨alloc3_1 _ _ _ _, by unfold SumW; exact ⟨alloc3_2 _ _ _ _, alloc3_3 _ _ _ _, alloc3_below _ _ _ _⟩⟩
  intro w2 hw2
  have HW2 := Lib.hid hw2; clear hw2
  have hdl := digestOf_length s
  have HDL := Lib.hid hdl; clear hdl
  go_loopw [4] (fun i wr => ∃ k : Nat, k ≤ 32 ∧ i = .int .i64 k ∧ wr.heap[w.heap.size]? = some (.cells (wordsV s.list).toArray 35 (0, 0)) ∧ SumW w (w.heap.size + 1) (w.heap.size + 1 + 1) ((digestOf s).take k ++ List.replicate (32 - k) 0#8) wr) (fun i _ => 32 - (intOf i).toNat)
  case atStart => exact ⟨0, by omega, rfl, HW2.out.1, HW2.out.2⟩
  case round =>
    clear HW2
    obtain ⟨k, hk, rfl, hc, hw⟩ := hrel
    have hlen : ((digestOf s).take k ++ List.replicate (32 - k) 0#8).length = 32 := by rw [List.length_append, List.length_take, HDL.out]; simp; omega
    by_cases hlt : k < 32
    · have HDG := Lib.hid (digest_get s k hlt)
      have HTS := Lib.hid (take_set_fill (digestOf s) 32 k HDL.out hlt)
      have cs := cell_wordsV hc (j := k / 4) (by simp [St.list]; omega)
      rw [show s.list[k / 4]'(by simp [St.list]; omega) = s.list.getD (k / 4) 0#32 by simp [List.getD, St.list, show k / 4 < 8 by omega]] at cs
      obtain ⟨c0, e0⟩ : ∃ v, wr.cell? ⟨w.heap.size + 1 + 1, k, none⟩ = some v := ⟨_, cell_bytesV hw.2.1 (j := k) (by omega)⟩
      have f0 := frozen_of_row _ _ k _ _ hw.2.1
      generalize s.list.getD (k / 4) 0#32 = x at cs HDG
      have HW := Lib.hid hw; clear hw hlen
      have HC := Lib.hid hc; clear hc
      go_wp2_with fail
      go_roundw
      case rel =>
        refine ⟨k + 1, by omega, by go_num, ?_, ?_⟩
        · rw [heap_setCell_other _ _ _ _ (by show w.heap.size ≠ w.heap.size + 1 + 1; omega)]; exact HC.out
        · rw [← HTS.out, HDG.out]
          have h := HW.out.set (by omega) (by omega) k (lo8 (x >>> (24 - 8 * (k % 4))))

          exact h
      case measure => simp [intOf]; omega
    · have HFULL : Hid (wr.heap[w.heap.size + 1 + 1]? = some (.cells (bytesV (digestOf s)).toArray 33 (0, 0))) := by
        have h1 := hw.2.1
        rw [show k = 32 by omega, List.take_of_length_le (by rw [HDL.out]; omega), show 32 - 32 = 0 by omega, List.replicate_zero, List.append_nil] at h1
        exact h1
      have HI := Lib.hid ((show (Tryd.prog.info? 33).map (·.size) = some 32 by kernel_rfl).trans (congrArg some (bytesV_size _ 32 HDL.out).symm))
      have HOLD := Lib.hid (show (bytesV (List.replicate 32 0#8)).toArray.size = (bytesV (digestOf s)).toArray.size by rw [bytesV_size _ 32 HDL.out]; rfl)
      have HONE := Lib.hid (bytesV_one (digestOf s))
      have HZ := Lib.hid hw.1
      have HB := Lib.hid hw.2.2
      clear hw hlen hc
      generalize hfe : (bytesV (digestOf s)).toArray = full at HFULL HI HOLD HONE
      have HFE := Lib.hid hfe; clear hfe
      go_wp2_with (first
        | (refine wpList_load_row rfl 33 (.tmp 3) rfl (w.heap.size + 1 + 1) rfl 33 full (0, 0) _ HFULL.out Tryd.underlying33 rfl HI.out ?_)
        | (refine wpList_store_row rfl 33 (.tmp 2) (.tmp 22) rfl (w.heap.size + 1) full rfl rfl 33 _ HZ.out HI.out HOLD.out HONE.out ?_))
      have hrow := setRow_heap wr (w.heap.size + 1) _ full 33 _ HZ.out
      have hbel := below_setRow HB.out (show w.heap.size ≤ w.heap.size + 1 by omega) full
      generalize wr.setRow (w.heap.size + 1) full = wz at hrow hbel ⊢
      have hres : ∀ tmps : Array Value, tmps.getD 2 undef = .pointer (some ⟨w.heap.size + 1, 0, none⟩) → Sem.run Tryd.prog (results Tryd.f12 tmps) wz = .ok (.agg full) wz := fun tmps h =>
        results_cell_row (P := Tryd.prog) (p := 2) (ty := 33) Tryd.results12 tmps wz (w.heap.size + 1) 33 _ (0, 0) (TypeDesc.array 32 5) h hrow Tryd.underlying33 rfl HI.out
      exact bodyPost_ret (v := .agg full) (hres _ rfl) rfl ⟨by rw [HFE.out], hbel⟩

theorem equal32 (d : Nat) (l : List (BitVec 8)) (hl : l.length = 32) (w : World) : (Op.equalIn (d + 1 + 1) 33 (.agg (bytesV l).toArray) (.agg (bytesV l).toArray)).run Tryd.prog w = .ok true w := by
  have hsz : (sizeOf 5).run Tryd.prog w = .ok 1 w := by kernel_rfl
  rw [Op.equalIn]
  simp only [Sem.run_bind, run_underlying Tryd.underlying33, Result.andThen_ok, hsz]
  rw [Std.Legacy.Range.forIn_eq_forIn_range']
  rw [forIn_yield]
  · simp
  · intro i hi
    have hi32 : i < l.length := by
      rw [List.mem_range'] at hi
      obtain ⟨j, hj, rfl⟩ := hi
      rw [hl]
      simp [Std.Legacy.Range.size] at hj ⊢
      omega
    rw [Sem.run_bind, part5 l i hi32]
    simp only [Result.andThen_ok]
    rw [Sem.run_bind, part5 l i hi32]
    simp only [Result.andThen_ok]
    rw [Sem.run_bind, run_equalIn_int w d 5 .u8 .u8 _ _ Tryd.underlying5]
    simp
theorem eql26 (l : List (BitVec 8)) (hl : l.length = 32) (w : World) : (binOp .eql 33 (.agg (bytesV l).toArray) (.agg (bytesV l).toArray)).run Tryd.prog w = .ok (.bool true) w := by
  rw [run_eql_struct, equal32 9998 l hl]; rfl

theorem equal26 (l : List (BitVec 8)) (hl : l.length = 32) (w : World) : (Op.equalIn 10000 33 (.agg (bytesV l).toArray) (.agg (bytesV l).toArray)).run Tryd.prog w = .ok true w := equal32 9998 l hl w
def abcSt : St := ⟨0xBA7816BF#32, 0x8F01CFEA#32, 0x414140DE#32, 0x5DAE2223#32, 0xB00361A3#32, 0x96177A9C#32, 0xB410FF61#32, 0xF20015AD#32⟩
theorem abc_sum : shaOf [97#8, 98#8, 99#8] = digestOf abcSt := by decide +kernel
theorem abc_vals : (wordsV abcSt.list).toArray = #[.int .u32 3128432319, .int .u32 2399260650, .int .u32 1094795486, .int .u32 1571693091, .int .u32 2953011619, .int .u32 2518121116, .int .u32 3021012833, .int .u32 4060091821] := by kernel_rfl
end Go.Proofs.YtgfmjfpafpmghaaDoor
