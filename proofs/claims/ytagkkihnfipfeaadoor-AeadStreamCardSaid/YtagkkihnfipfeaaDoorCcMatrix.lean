/-
  The contract of chacha.matrix: the sixteen words of a key, a counter and a nonce; nothing that was there changes.
-/
import Derived.Test.YtagkkihnfipfeaaDoorCcFill
import Derived.Deep.CutRange
namespace Go.Proofs.YtagkkihnfipfeaaDoor
open Go.RowKit Go.Proofs.ShaWords

/-- The text "expand 32-byte k". -/
def labelB : List (BitVec 8) := [101#8, 120#8, 112#8, 97#8, 110#8, 100#8, 32#8, 51#8, 50#8, 45#8, 98#8, 121#8, 116#8, 101#8, 32#8, 107#8]
def squareOf (key : List (BitVec 8)) (c : BitVec 32) (nonce : List (BitVec 8)) : List (BitVec 32) := leWords labelB 4 ++ (leWords key 8 ++ (c :: leWords nonce 3))
theorem squareOf_length (key : List (BitVec 8)) (c : BitVec 32) (nonce : List (BitVec 8)) : (squareOf key c nonce).length = 16 := by simp [squareOf, leWords_length]
theorem square_laid (A B C : List (BitVec 32)) (c : BitVec 32) (hA : A.length = 4) (hB : B.length = 8) (hC : C.length = 3) :
    splice ((splice (splice (List.replicate 16 0#32) 0 A) 4 B).set 12 c) 13 C = A ++ (B ++ (c :: C)) := by
  obtain ⟨a0, a1, a2, a3, rfl⟩ : ∃ a0 a1 a2 a3, A = [a0, a1, a2, a3] := by
    match A, hA with
    | [a0, a1, a2, a3], _ => exact ⟨_, _, _, _, rfl⟩
  obtain ⟨b0, b1, b2, b3, b4, b5, b6, b7, rfl⟩ : ∃ b0 b1 b2 b3 b4 b5 b6 b7, B = [b0, b1, b2, b3, b4, b5, b6, b7] := by
    match B, hB with
    | [b0, b1, b2, b3, b4, b5, b6, b7], _ => exact ⟨_, _, _, _, _, _, _, _, rfl⟩
  obtain ⟨c0, c1, c2, rfl⟩ : ∃ c0 c1 c2, C = [c0, c1, c2] := by
    match C, hC with
    | [c0, c1, c2], _ => exact ⟨_, _, _, rfl⟩
  rfl
theorem zero16 : (wordsV (List.replicate 16 0#32)).toArray = #[Value.int IntKind.u32 0, Value.int IntKind.u32 0, Value.int IntKind.u32 0, Value.int IntKind.u32 0, Value.int IntKind.u32 0, Value.int IntKind.u32 0, Value.int IntKind.u32 0, Value.int IntKind.u32 0, Value.int IntKind.u32 0, Value.int IntKind.u32 0, Value.int IntKind.u32 0, Value.int IntKind.u32 0, Value.int IntKind.u32 0, Value.int IntKind.u32 0, Value.int IntKind.u32 0, Value.int IntKind.u32 0] := by rfl
theorem info16 (l : List (BitVec 32)) (h : l.length = 16) : (Tryd.prog.info? 88).map (·.size) = some (wordsV l).toArray.size :=
  (show (Tryd.prog.info? 88).map (·.size) = some 16 by kernel_rfl).trans (congrArg some (wordsV_size _ 16 h).symm)
/-- What chacha.matrix has in memory: the key, the nonce, the result's row, the row. -/
structure MatW (w : World) (key nonce : List (BitVec 8)) (L : List (BitVec 32)) (wr : World) : Prop where
  key : BytesAt wr w.heap.size 23 key
  nonce : BytesAt wr (w.heap.size + 1) 25 nonce
  res : WordsAt wr (w.heap.size + 1 + 1) 88 (List.replicate 16 0#32)
  row : WordsAt wr (w.heap.size + 1 + 1 + 1) 88 L
  below : Below w.heap.size w wr
theorem MatW.past {w wr w' : World} {key nonce : List (BitVec 8)} {L L' : List (BitVec 32)} (h : MatW w key nonce L wr) (hg : wr.grownBy w' (some (w.heap.size + 1 + 1 + 1))) (hr : WordsAt w' (w.heap.size + 1 + 1 + 1) 88 L') : MatW w key nonce L' w' :=
  ⟨h.key.past hg (by omega), h.nonce.past hg (by omega), h.res.past hg (by omega), hr, h.below.grown hg (by have := h.row.size; omega) (fun k hk => by have := Option.some.inj hk; omega)⟩
theorem MatW.on {w wr w' : World} {key nonce : List (BitVec 8)} {L : List (BitVec 32)} (h : MatW w key nonce L wr) (hb : Below wr.heap.size wr w') : MatW w key nonce L w' :=
  ⟨h.key.keep hb, h.nonce.keep hb, h.res.keep hb, h.row.keep hb, h.below.trans (hb.mono h.below.size)⟩

attribute [local irreducible] leWords labelB
set_option maxRecDepth 100000 in
set_option maxHeartbeats 1000000 in
theorem matrix_any (key nonce : List (BitVec 8)) (c : BitVec 32) (w : World) (hk : key.length = 32) (hn : nonce.length = 12) :
    Calls Tryd.prog 55 #[.agg (bytesV key).toArray, .int .u32 (n32 c), .agg (bytesV nonce).toArray] w
      fun e w' => e = .returned (.agg (wordsV (squareOf key c nonce)).toArray) ∧ Below w.heap.size w w' := by
  have HKL := Lib.hid hk; clear hk
  have HNL := Lib.hid hn; clear hn
  have HSQ := Lib.hid (square_laid (leWords labelB 4) (leWords key 8) (leWords nonce 3) c (leWords_length _ _) (leWords_length _ _) (leWords_length _ _))
  have HSE : Hid (squareOf key c nonce = leWords labelB 4 ++ (leWords key 8 ++ (c :: leWords nonce 3))) := show _ = _ from rfl
  have kc := fun (w : World) (C : Array Value) (n c : Nat) => Lib.run_convert_bytes_const (P := Tryd.prog) w 26 5 C n c Tryd.underlying26 Tryd.underlying5
  have HLB : Hid (labelB.length = 16 ∧ (bytesV labelB).toArray = #[.int .u8 101, .int .u8 120, .int .u8 112, .int .u8 97, .int .u8 110, .int .u8 100, .int .u8 32, .int .u8 51, .int .u8 50, .int .u8 45, .int .u8 98, .int .u8 121, .int .u8 116, .int .u8 101, .int .u8 32, .int .u8 107]) := show _ ∧ _ by unfold labelB; exact ⟨rfl, rfl⟩
  go_enter Tryd.func55, Tryd.ntmps55
  go_upto_region 2 with (fail)
  refine wp_gen (MatW w key nonce (List.replicate 16 0#32)) ?_ ?_
  · refine ⟨?_, ?_, ?_, ?_, ?_⟩
    · exact BytesAt.keep (w := w.alloc _) (heap_alloc_new w _) ((((Below.refl _ _).alloc (Nat.le_refl _) _).alloc (by simp) _).alloc (by simp) _)
    · exact BytesAt.keep (w := (w.alloc _).alloc _) (heap_new_at (size_alloc _ _)) (((Below.refl _ _).alloc (Nat.le_refl _) _).alloc (by simp) _)
    · exact WordsAt.keep (w := ((w.alloc _).alloc _).alloc _) (by show _ = some (Obj.cells (wordsV (List.replicate 16 0#32)).toArray _ _); rw [zero16]; exact heap_new_at (by simp)) ((Below.refl _ _).alloc (Nat.le_refl _) _)
    · show _ = some (Obj.cells (wordsV (List.replicate 16 0#32)).toArray _ _)
      rw [zero16]; exact heap_new_at (by simp)
    · exact ((((Below.refl _ _).alloc (Nat.le_refl _) _).alloc (by simp) _).alloc (by simp; omega) _).alloc (by simp; omega) _
  intro w0 hw0
  have sz0 := hw0.row.size
  have HW0 := Lib.hid hw0; clear hw0
  go_wp2_with fail
  refine calls_gen (fun w1 => MatW w key nonce (List.replicate 16 0#32) w1 ∧ w1.rangeAt w0.heap.size 0 (bytesV labelB)) ⟨HW0.out.on ((Below.refl _ _).alloc (Nat.le_refl _) _), fun j v hv => by
    rw [Nat.zero_add, cell_of_row _ _ j _ _ _ (heap_new_at rfl), ← HLB.out.2]; simpa using hv⟩ ?_
  rintro w1 ⟨hw1, hr1⟩
  refine (fill_any (List.replicate 16 0#32) labelB _ 0 4 _ _ 0 16 _ _ w1 hw1.row hr1 (by omega) HLB.out.1 rfl (by simp) (by omega)).mono ?_
  rintro e w2 ⟨rfl, hr2, hg2⟩
  have HW2 := Lib.hid (hw1.past hg2 hr2)
  clear hw1 hr1 hr2 hg2 HW0
  go_wp2_with fail
  go_still_tail 2, (by kernel_rfl)
  change wpList _ _ _ _ _ w2.drew
  go_wp2_with fail
  have hw2 := HW2.out.on ((Below.refl _ _).drew)
  refine (fill_any _ key _ 4 8 _ _ 0 32 _ _ w2.drew hw2.row hw2.key.range (by omega) HKL.out rfl (by rw [length_splice _ _ _ (by rw [leWords_length]; simp)]; simp) (by omega)).mono ?_
  rintro e w3 ⟨rfl, hr3, hg3⟩
  have hw3 := hw2.past hg3 hr3
  have hl3 : (splice (splice (List.replicate 16 0#32) 0 (leWords labelB 4)) 4 (leWords key 8)).length = 16 := by
    rw [length_splice _ _ _ (by rw [length_splice _ _ _ (by rw [leWords_length]; simp), leWords_length]; simp), length_splice _ _ _ (by rw [leWords_length]; simp)]; simp
  obtain ⟨v, cv⟩ : ∃ v, w3.cell? ⟨w.heap.size + 1 + 1 + 1, 12, none⟩ = some v := ⟨_, hw3.row.cell 12 (by rw [hl3]; omega)⟩
  have cf := hw3.row.frozen 12
  have HW3 := Lib.hid hw3; clear hw3 hw2 hr3 hg3 HW2 hl3
  go_upto_region 5 with (fail)
  refine wp_gen (MatW w key nonce ((splice (splice (List.replicate 16 0#32) 0 (leWords labelB 4)) 4 (leWords key 8)).set 12 c)) (HW3.out.past (grown_setCell _ _ _ _) (HW3.out.row.set _ _)) ?_
  clear cv cf
  intro w4 hw4
  have HW4 := Lib.hid hw4; clear hw4 HW3
  go_still_tail 2, (by kernel_rfl)
  change wpList _ _ _ _ _ w4.drew
  go_wp2_with fail
  have hw4 := HW4.out.on ((Below.refl _ _).drew)
  refine (fill_any _ nonce _ 13 3 _ _ 0 12 _ _ w4.drew hw4.row hw4.nonce.range (by omega) HNL.out rfl (by rw [List.length_set, length_splice _ _ _ (by rw [length_splice _ _ _ (by rw [leWords_length]; simp), leWords_length]; simp), length_splice _ _ _ (by rw [leWords_length]; simp)]; simp) (by omega)).mono ?_
  rintro e w5 ⟨rfl, hr5, hg5⟩
  rw [HSQ.out, ← HSE.out] at hr5
  have hw5 := hw4.past hg5 hr5
  have HI := Lib.hid (info16 _ (squareOf_length key c nonce))
  have HOLD := Lib.hid (show (wordsV (List.replicate 16 0#32)).toArray.size = (wordsV (squareOf key c nonce)).toArray.size by rw [wordsV_size _ 16 (squareOf_length key c nonce)]; rfl)
  have HONE := Lib.hid (wordsV_one (squareOf key c nonce))
  have HROW := Lib.hid hw5.row
  have HRES := Lib.hid hw5.res
  have HB5 := Lib.hid hw5.below
  clear hw5 hw4 hr5 hg5 HW4 HSQ HSE
  generalize hfe : (wordsV (squareOf key c nonce)).toArray = full at HI HOLD HONE ⊢
  have HFE := Lib.hid hfe; clear hfe
  have HROW2 : Hid (w5.heap[w.heap.size + 1 + 1 + 1]? = some (.cells full 88 (0, 0))) := show _ = _ by rw [← HFE.out]; exact HROW.out
  go_wp2_with (first
    | (refine wpList_load_row rfl 88 (.tmp 7) rfl (w.heap.size + 1 + 1 + 1) rfl 88 full (0, 0) _ HROW2.out Tryd.underlying88 rfl HI.out ?_)
    | (refine wpList_store_row rfl 88 (.tmp 6) (.tmp 20) rfl (w.heap.size + 1 + 1) full rfl rfl 88 _ HRES.out HI.out HOLD.out HONE.out ?_))
  have hrow := setRow_heap w5 (w.heap.size + 1 + 1) _ full 88 _ HRES.out
  have hbel := below_setRow HB5.out (show w.heap.size ≤ w.heap.size + 1 + 1 by omega) full
  generalize w5.setRow (w.heap.size + 1 + 1) full = wz at hrow hbel ⊢
  have hres : ∀ tmps : Array Value, tmps.getD 6 undef = .pointer (some ⟨w.heap.size + 1 + 1, 0, none⟩) → Sem.run Tryd.prog (results Tryd.f55 tmps) wz = .ok (.agg full) wz := fun tmps h =>
    results_cell_row (P := Tryd.prog) (p := 6) (ty := 88) Tryd.results55 tmps wz (w.heap.size + 1 + 1) 88 full (0, 0) (TypeDesc.array 16 49) h hrow Tryd.underlying88 rfl HI.out
  exact bodyPost_ret (v := .agg full) (hres _ rfl) rfl ⟨by rw [HFE.out], hbel⟩
end Go.Proofs.YtagkkihnfipfeaaDoor
