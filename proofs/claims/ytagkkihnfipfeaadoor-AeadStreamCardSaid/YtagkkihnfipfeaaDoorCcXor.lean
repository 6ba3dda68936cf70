/-
  The contract of chacha.Xor: where the package's table holds its numbers, it returns each byte combined with the keystream's at its index, in new memory; nothing that was there changes.
-/
import Derived.Test.YtagkkihnfipfeaaDoorCcStream
import Derived.Test.YtagkkihnfipfeaaDoorBytes
import Derived.Test.YtagkkihnfipfeaaDoorRound
import Derived.Test.YtagkkihnfipfeaaDoorByteOps
import Derived.Shelf.Abstract
import Derived.Shelf.RegionOpen
namespace Go.Proofs.YtagkkihnfipfeaaDoor
open Go.RowKit Go.Shelf Go.Proofs.ShaWords

attribute [local go_sem] xor8 Oper.semAt_some
/-- The bytes combined with the keystream. -/
def xorKs (key : List (BitVec 8)) (c : BitVec 32) (nonce bs : List (BitVec 8)) : List (BitVec 8) := (List.range bs.length).map fun k => bs.getD k 0#8 ^^^ ksAt key c nonce k
theorem xorKs_length (key : List (BitVec 8)) (c : BitVec 32) (nonce bs : List (BitVec 8)) : (xorKs key c nonce bs).length = bs.length := by simp [xorKs]
theorem xorKs_get (key : List (BitVec 8)) (c : BitVec 32) (nonce bs : List (BitVec 8)) (k : Nat) (hk : k < bs.length) : (xorKs key c nonce bs).getD k 0#8 = bs.getD k 0#8 ^^^ ksAt key c nonce k := by
  simp [xorKs, List.getD, hk]
set_option maxRecDepth 100000 in
set_option maxHeartbeats 1000000 in
theorem keystream_any (key nonce : List (BitVec 8)) (c : BitVec 32) (n : Nat) (w : World) (hq : Quads w) :
    Calls Tryd.prog 29 #[.agg (bytesV key).toArray, .int .u32 (n32 c), .agg (bytesV nonce).toArray, .int .i64 (n : Int)] w fun e w' =>
      e = .returned (.func (.func 38) #[] #[.pointer (some ⟨w.heap.size + 1 + 1 + 1, 0, none⟩), .pointer (some ⟨w.heap.size, 0, none⟩), .pointer (some ⟨w.heap.size + 1, 0, none⟩), .pointer (some ⟨w.heap.size + 1 + 1, 0, none⟩)]) ∧
      KsBoxes key c nonce n (w.heap.size + 1 + 1 + 1) w.heap.size (w.heap.size + 1) (w.heap.size + 1 + 1) w' ∧ Below w.heap.size w w' := by
  have hqs := hq.size
  have HQ := Lib.hid hq; clear hq
  go_enter Tryd.func29, Tryd.ntmps29
  go_wp2_with fail
  go_ret
  have b0 : Below w.heap.size w ((((w.alloc (.cells (bytesV key).toArray 23)).alloc (.cells #[.int .u32 (n32 c)] 49)).alloc (.cells (bytesV nonce).toArray 25)).alloc (.cells #[.int .i64 (n : Int)] 3)) :=
    ((((Below.refl _ _).alloc (Nat.le_refl _) _).alloc (by simp) _).alloc (by simp; omega) _).alloc (by simp; omega) _
  refine ⟨rfl, ⟨heap_new_at (by simp), ?_, ?_, ?_, HQ.out.below b0 hqs⟩, b0⟩
  · exact BytesAt.keep (w := w.alloc _) (heap_alloc_new w _) ((((Below.refl _ _).alloc (Nat.le_refl _) _).alloc (by simp) _).alloc (by simp) _)
  · exact (((((Below.refl _ _).alloc (Nat.le_refl _) _).alloc (by simp) _).block _ (by simp)).trans (heap_new_at (by simp)))
  · exact BytesAt.keep (w := ((w.alloc _).alloc _).alloc _) (heap_new_at (by simp)) ((Below.refl _ _).alloc (Nat.le_refl _) _)

/-- What chacha.Xor has boxed. -/
structure BoxW (w : World) (key nonce : List (BitVec 8)) (v : Value) (wr : World) : Prop where
  key : BytesAt wr w.heap.size 23 key
  nonce : BytesAt wr (w.heap.size + 1) 25 nonce
  src : wr.heap[w.heap.size + 1 + 1]? = some (.cells #[v] 26 (0, 0))
  below : Below w.heap.size w wr
theorem BoxW.on {w wr w' : World} {key nonce : List (BitVec 8)} {v : Value} (h : BoxW w key nonce v wr) (hb : Below wr.heap.size wr w') : BoxW w key nonce v w' :=
  ⟨h.key.keep hb, h.nonce.keep hb, (hb.block _ (Array.getElem?_eq_some_iff.1 h.src).1).trans h.src, h.below.trans (hb.mono h.below.size)⟩
/-- What chacha.Xor has in memory in its loop: the bytes' slice and the new slice in boxes, the new bytes. -/
structure XorW (w : World) (p : Option Addr) (n cap X D : Nat) (l : List (BitVec 8)) (wr : World) : Prop where
  src : wr.heap[w.heap.size + 1 + 1]? = some (.cells #[.slice p n cap] 26 (0, 0))
  dst : wr.heap[D]? = some (.cells #[.slice (some ⟨X, 0, none⟩) n n] 26 (0, 0))
  row : BytesAt wr X 5 l
  below : Below w.heap.size w wr
theorem XorW.on {w wr w' : World} {p : Option Addr} {n cap X D B : Nat} {l : List (BitVec 8)} (h : XorW w p n cap X D l wr) (hb : Below B wr w') (h1 : w.heap.size + 1 + 1 < B) (h2 : D < B) (h3 : X < B) : XorW w p n cap X D l w' :=
  ⟨(hb.block _ h1).trans h.src, (hb.block _ h2).trans h.dst, (hb.block _ h3).trans h.row, h.below.trans (hb.mono (by omega))⟩
theorem XorW.put {w wr : World} {p : Option Addr} {n cap X D : Nat} {l : List (BitVec 8)} (h : XorW w p n cap X D l wr) (h1 : w.heap.size + 1 + 1 < X) (h2 : D ≠ X) (k : Nat) (x : BitVec 8) : XorW w p n cap X D (l.set k x) (wr.setCell ⟨X, k, none⟩ (.int .u8 (n8 x))) :=
  ⟨by rw [heap_setCell_other _ _ _ _ (by show w.heap.size + 1 + 1 ≠ X; omega)]; exact h.src, by rw [heap_setCell_other _ _ _ _ h2]; exact h.dst, h.row.put k x, h.below.setCell (by show w.heap.size ≤ X; omega) _⟩
theorem XorW.drew {w wr : World} {p : Option Addr} {n cap X D : Nat} {l : List (BitVec 8)} (h : XorW w p n cap X D l wr) : XorW w p n cap X D l wr.drew := ⟨h.src, h.dst, h.row, h.below.drew⟩
/-- The first k bytes combined, noughts behind them. -/
def xorTo' (Z : List (BitVec 8)) (k : Nat) : List (BitVec 8) := Z.take k ++ noughts (Z.length - k)
theorem xorTo'_length (Z : List (BitVec 8)) (k : Nat) (hk : k ≤ Z.length) : (xorTo' Z k).length = Z.length := by simp [xorTo', noughts]; omega
theorem xorTo'_zero (Z : List (BitVec 8)) : xorTo' Z 0 = noughts Z.length := by simp [xorTo']
theorem xorTo'_full (Z : List (BitVec 8)) : xorTo' Z Z.length = Z := by simp [xorTo', noughts]
theorem xorTo'_set (Z : List (BitVec 8)) (k : Nat) (hk : k < Z.length) : (xorTo' Z k).set k (Z.getD k 0#8) = xorTo' Z (k + 1) := by
  unfold xorTo' noughts
  exact take_set_fill Z Z.length k rfl hk
theorem own_of_block {w : World} {B X : Nat} {l : List (BitVec 8)} (h : BytesAt w X 5 l) (hB : B ≤ X) (hl : l.length ≤ maxLen) : Own B w l (.slice (some ⟨X, 0, none⟩) l.length l.length) := by
  refine ⟨by rw [bytesV_length, Nat.mul_one], .inr ⟨X, l.length, _, rfl, hB, h, Nat.le_refl _, hl, by rw [bytesV_size _ _ rfl, Nat.mul_one], ?_⟩⟩
  rw [Nat.mul_one, List.toList_toArray, List.take_of_length_le (by rw [bytesV_length]; exact Nat.le_refl _)]
attribute [local irreducible] ksAt
set_option maxRecDepth 100000 in
set_option maxHeartbeats 4000000 in
theorem ccXor_any (key nonce bs : List (BitVec 8)) (c : BitVec 32) (p : Option Addr) (cap : Nat) (w : World) (hk : key.length = 32) (hn : nonce.length = 12) (hl : bs.length ≤ 1000000) (hL : Lies w p bs) (hq : Quads w) :
    Calls Tryd.prog 21 #[.agg (bytesV key).toArray, .int .u32 (n32 c), .agg (bytesV nonce).toArray, .slice p bs.length cap] w
      fun e w' => ∃ v, e = .returned v ∧ Own w.heap.size w' (xorKs key c nonce bs) v ∧ Below w.heap.size w w' := by
  have hqs := hq.size
  have HQ := Lib.hid hq; clear hq
  have HKL := Lib.hid hk; clear hk
  have HNL := Lib.hid hn; clear hn
  have HL := Lib.hid hL; clear hL
  have HIK := Lib.hid (infoKey key HKL.out)
  have HIN := Lib.hid (infoNonce nonce HNL.out)
  obtain ⟨i5, hi5, hz5, hs5, hb5⟩ := info_parts info5
  have HI5 := Lib.hid hi5; have HZ5 := Lib.hid hz5; have HS5 := Lib.hid hs5; have HB5 := Lib.hid hb5
  clear hi5 hz5 hs5 hb5
  refine callsIn_wide.1 (callsIn_of_wp_marks (n := 3) Tryd.func21 rfl trivial (wpIn_wide.2 ?_))
  simp only [Tryd.ntmps21, List.size_toArray, List.length_cons, List.length_nil, Nat.reduceAdd, Nat.reduceSub, Array.replicate_succ, Array.replicate_zero, List.push_toArray, List.append_toArray, List.nil_append, List.cons_append]
  go_upto_region 1 with (fail)
  refine wp_gen (BoxW w key nonce (.slice p bs.length cap)) ⟨alloc3_1 _ _ _ _, alloc3_2 _ _ _ _, alloc3_3 _ _ _ _, alloc3_below _ _ _ _⟩ ?_
  intro w0 hw0
  have HW0 := Lib.hid hw0
  have hsrc := one_cell hw0.src
  clear hw0
  go_upto_region 2 with (refine wpList_make_any rfl (.tmp 13) (.tmp 13) 26 rfl 5 i5 (.int .u8 0) Tryd.underlying26 HI5.out HZ5.out HS5.out HB5.out .i64 .i64 (bs.length : Int) (bs.length : Int) bs.length bs.length rfl rfl rfl rfl (Nat.le_refl _) (by omega) _ (made_noughts bs.length) ?_; intro w1 h1 b1; have HR1 := Lib.hid (show BytesAt w1 w0.heap.size 5 (noughts bs.length) from h1); have HW1 := Lib.hid (HW0.out.on b1); clear h1 b1)
  have hx0 : w.heap.size + 1 + 1 < w0.heap.size := (Array.getElem?_eq_some_iff.1 HW0.out.src).1
  clear hsrc HW0
  have hd1 : w0.heap.size < w1.heap.size := HR1.out.size
  refine wp_gen (fun w2 => XorW w p bs.length cap w0.heap.size w1.heap.size (noughts bs.length) w2 ∧ BoxW w key nonce (.slice p bs.length cap) w2 ∧ w1.heap.size < w2.heap.size) ⟨⟨(HW1.out.on ((Below.refl _ _).alloc (Nat.le_refl _) _)).src, heap_new_at rfl, HR1.out.keep ((Below.refl _ _).alloc (Nat.le_refl _) _), (HW1.out.on ((Below.refl _ _).alloc (Nat.le_refl _) _)).below⟩, HW1.out.on ((Below.refl _ _).alloc (Nat.le_refl _) _), by rw [size_alloc]; omega⟩ ?_
  rintro w2 ⟨hx2, hw2, hd2⟩
  clear HR1 HW1
  generalize w0.heap.size = X at hx2 hx0 hd1 ⊢
  generalize w1.heap.size = D at hx2 hd1 hd2 ⊢
  have HX2 := Lib.hid hx2
  have HW2 := Lib.hid hw2
  have hsrc := one_cell hw2.src
  clear hx2 hw2
  go_wp2_with (first
    | (refine wpList_load_row rfl 23 (.tmp 4) rfl w.heap.size rfl 23 (bytesV key).toArray (0, 0) _ HW2.out.key Tryd.underlying23 rfl HIK.out ?_)
    | (refine wpList_load_row rfl 25 (.tmp 6) rfl (w.heap.size + 1) rfl 25 (bytesV nonce).toArray (0, 0) _ HW2.out.nonce Tryd.underlying25 rfl HIN.out ?_)
    | (go_at_call 29; refine (keystream_any key nonce c bs.length _ (HQ.out.below HW2.out.below hqs)).mono ?_; rintro e w3 ⟨rfl, hk3, hb3⟩; have HK3 := Lib.hid hk3; have HX3 := Lib.hid (HX2.out.on hb3 (by omega) (by omega) (by omega)); have sz3 := hb3.size; clear hk3 hb3))
  have HZL := Lib.hid (xorKs_length key c nonce bs)
  have HZG := Lib.hid (xorKs_get key c nonce bs)
  have hX0 : XorW w p bs.length cap X D (xorTo' (xorKs key c nonce bs) 0) w3 := by rw [xorTo'_zero, HZL.out]; exact HX3.out
  have HX0 := Lib.hid hX0; clear hX0 HX3
  have hd3 : D < w3.heap.size := by omega
  refine (wpIn_wide (n := 3)).1 (wpIn_rangeCells (m := 3) (gf := 38) (N := bs.length) (T := fun b => b = X) rfl (enters_of Tryd.func38 (by kernel_rfl) rfl) (fun b h => by omega)
    (stream_gives key nonce c bs.length _ _ _ _ 3 _ w3 HKL.out HNL.out (by omega) (fun b h => by omega) HK3.out (by omega) (by omega) (by omega) (by omega) (by omega)) (fun _ => rfl)
    (fun k W => XorW w p bs.length cap X D (xorTo' (xorKs key c nonce bs) k) W) (fun k A A' h hb => h.on hb (by omega) hd3 (by omega)) HX0.out
    (fun k => { tmps := #[.agg (bytesV key).toArray, .int .u32 (n32 c), .agg (bytesV nonce).toArray, .slice p bs.length cap, .pointer (some ⟨w.heap.size, 0, none⟩), undef, .pointer (some ⟨w.heap.size + 1, 0, none⟩), .pointer (some ⟨w.heap.size + 1 + 1, 0, none⟩), .slice none 0 0,
      .pointer (some ⟨D, 0, none⟩), .int .i64 (k : Int), .int .u8 (n8 (ksAt key c nonce k)), .slice p bs.length cap, .int .i64 (bs.length : Int), .slice (some ⟨X, 0, none⟩) bs.length bs.length, .agg (bytesV key).toArray, .int .u32 (n32 c), .agg (bytesV nonce).toArray, .slice p bs.length cap, .int .i64 (bs.length : Int),
      .func (.func 38) #[] #[.pointer (some ⟨w2.heap.size + 1 + 1 + 1, 0, none⟩), .pointer (some ⟨w2.heap.size, 0, none⟩), .pointer (some ⟨w2.heap.size + 1, 0, none⟩), .pointer (some ⟨w2.heap.size + 1 + 1, 0, none⟩)],
      .int .i64 (k : Int), .int .u8 (n8 (ksAt key c nonce k)), undef, undef, undef, undef, undef, undef, undef, undef, undef, undef], defers := [] }) ?assign ?body ?done)
  case assign =>
    intro l k W K hK
    unfold ksEncs
    gi_wp2
    exact hK
  case body =>
    intro l k W hI hk
    have hdst := one_cell hI.dst
    have hsrc := one_cell hI.src
    have hZ := HZG.out k hk
    have hset := xorTo'_set (xorKs key c nonce bs) k (by rw [HZL.out]; exact hk)
    have hcx := hI.row.cell k (by rw [xorTo'_length _ _ (by rw [HZL.out]; omega), HZL.out]; exact hk)
    have hfx := hI.row.frozenAt k
    obtain ⟨b, off, rfl, hbw, hcb⟩ : ∃ b off, p = some ⟨b, off, none⟩ ∧ b < w.heap.size ∧ W.cell? ⟨b, off + k, none⟩ = some (.int .u8 (n8 (bs.getD k 0#8))) := by
      rcases HL.out with h0 | ⟨b, off, rfl, hr⟩
      · rw [h0] at hk; simp at hk
      · have hb := World.block_lt_of_cell? w _ (range_cell hr k hk)
        exact ⟨b, off, rfl, hb, (hI.below.cell (p := ⟨b, off + k, none⟩) hb).trans (range_cell hr k hk)⟩
    have HLB := Lib.hid hbw; clear hbw
    rw [hZ] at hset
    have HI := Lib.hid hI; clear hI
    have HSET := Lib.hid hset; clear hset hZ
    have q0 : (k : Int) < (bs.length : Int) := by omega
    have HN := Lib.hid (show XorW w _ bs.length cap X D _ _ from (HI.out.drew.put hx0 (by omega) k (bs.getD k 0#8 ^^^ ksAt key c nonce k)))
    rw [HSET.out] at HN
    have hbw : b < w.heap.size := HLB.out
    refine wpIn_block ?_
    refine region_round (fun w1 => w1.cell? ⟨D, 0, none⟩ = some (.slice (some ⟨X, 0, none⟩) bs.length bs.length) ∧ w1.cell? ⟨w.heap.size + 1 + 1, 0, none⟩ = some (.slice (some ⟨b, off, none⟩) bs.length cap) ∧ w1.cell? ⟨b, off + k, none⟩ = some (.int .u8 (n8 (bs.getD k 0#8)))) (fun _ => True) 9 ⟨hdst, hsrc, hcb⟩ trivial [(0, .free), (1, .free), (2, .free), (3, .free), (4, .free), (5, .free), (6, .free), (7, .free), (8, .free), (9, .behind)] (by kernel_rfl) (by kernel_rfl) (by kernel_rfl) (by kernel_rfl) (by kernel_rfl) (fun ⟨_, _, h, _⟩ => by cases h) (fun _ _ _ h => by cases h.1) (fun ops hops A hA => ?_)
    have hsz : A.tmps.size = 33 := by rw [hA]; rfl
    have base7 : A.eval (.tmp 7) = .pointer (some ⟨w.heap.size + 1 + 1, 0, none⟩) := by rw [hA]; rfl
    have base9 : A.eval (.tmp 9) = .pointer (some ⟨D, 0, none⟩) := by rw [hA]; rfl
    have base10 : A.eval (.tmp 10) = .int .i64 (k : Int) := by rw [hA]; rfl
    have base11 : A.eval (.tmp 11) = .int .u8 (n8 (ksAt key c nonce k)) := by rw [hA]; rfl
    have HAA := Lib.hid hA; clear hA
    obtain ⟨o0, po0, q0, d0, gd0⟩ : ∃ o, ops[0]? = some o ∧ o.op = .load 26 (.tmp 9) ∧ o.dst = some 23 ∧ o.guard = none := ⟨_, by rw [hops]; rfl, rfl, rfl, rfl⟩
    obtain ⟨o1, po1, q1, d1, gd1⟩ : ∃ o, ops[1]? = some o ∧ o.op = .move (.tmp 10) ∧ o.dst = some 24 ∧ o.guard = none := ⟨_, by rw [hops]; rfl, rfl, rfl, rfl⟩
    obtain ⟨o2, po2, q2, d2, gd2⟩ : ∃ o, ops[2]? = some o ∧ o.op = .load 26 (.tmp 7) ∧ o.dst = some 25 ∧ o.guard = none := ⟨_, by rw [hops]; rfl, rfl, rfl, rfl⟩
    obtain ⟨o3, po3, q3, d3, gd3⟩ : ∃ o, ops[3]? = some o ∧ o.op = .move (.tmp 10) ∧ o.dst = some 26 ∧ o.guard = none := ⟨_, by rw [hops]; rfl, rfl, rfl, rfl⟩
    obtain ⟨o4, po4, q4, d4, gd4⟩ : ∃ o, ops[4]? = some o ∧ o.op = .indexAddr 26 (.tmp 25) (.tmp 26) ∧ o.dst = some 27 ∧ o.guard = none := ⟨_, by rw [hops]; rfl, rfl, rfl, rfl⟩
    obtain ⟨o5, po5, q5, d5, gd5⟩ : ∃ o, ops[5]? = some o ∧ o.op = .load 5 (.tmp 27) ∧ o.dst = some 28 ∧ o.guard = none := ⟨_, by rw [hops]; rfl, rfl, rfl, rfl⟩
    obtain ⟨o6, po6, q6, d6, gd6⟩ : ∃ o, ops[6]? = some o ∧ o.op = .move (.tmp 11) ∧ o.dst = some 29 ∧ o.guard = none := ⟨_, by rw [hops]; rfl, rfl, rfl, rfl⟩
    obtain ⟨o7, po7, q7, d7, gd7⟩ : ∃ o, ops[7]? = some o ∧ o.op = .binOp .xor 5 (.tmp 28) (.tmp 29) 5 ∧ o.dst = some 30 ∧ o.guard = none := ⟨_, by rw [hops]; rfl, rfl, rfl, rfl⟩
    obtain ⟨o8, po8, q8, d8, gd8⟩ : ∃ o, ops[8]? = some o ∧ o.op = .indexAddr 26 (.tmp 23) (.tmp 24) ∧ o.dst = some 31 ∧ o.guard = none := ⟨_, by rw [hops]; rfl, rfl, rfl, rfl⟩
    obtain ⟨o9, po9, q9, d9, gd9⟩ : ∃ o, ops[9]? = some o ∧ o.op = .store 5 (.tmp 31) (.tmp 30) ∧ o.dst = none ∧ o.guard = none := ⟨_, by rw [hops]; rfl, rfl, rfl, rfl⟩
    clear hops
    refine met_free po0 d0 (wanted_of gd0) (fun w' h' => run_loadSlice q0 base9 h'.1) ?_
    refine met_free po1 d1 (wanted_of gd1) (fun w' _ => run_move q1 ((eval_other _ 23 10 _ (by decide)).trans base10) w') ?_
    refine met_free po2 d2 (wanted_of gd2) (fun w' h' => run_loadSlice q2 ((eval_other _ 24 7 _ (by decide)).trans ((eval_other _ 23 7 _ (by decide)).trans base7)) h'.2.1) ?_
    refine met_free po3 d3 (wanted_of gd3) (fun w' _ => run_move q3 ((eval_other _ 25 10 _ (by decide)).trans ((eval_other _ 24 10 _ (by decide)).trans ((eval_other _ 23 10 _ (by decide)).trans base10))) w') ?_
    refine met_free po4 d4 (wanted_of gd4) (fun w' _ => run_ixSlice q4 ((eval_other _ 26 25 _ (by decide)).trans (eval_same _ _ _ (by simp only [put_size, hsz]; decide))) (eval_same _ _ _ (by simp only [put_size, hsz]; decide)) hk w') ?_
    refine met_free po5 d5 (wanted_of gd5) (fun w' h' => run_load8 q5 (eval_same _ _ _ (by simp only [put_size, hsz]; decide)) h'.2.2) ?_
    refine met_free po6 d6 (wanted_of gd6) (fun w' _ => run_move q6 ((eval_other _ 28 11 _ (by decide)).trans ((eval_other _ 27 11 _ (by decide)).trans ((eval_other _ 26 11 _ (by decide)).trans ((eval_other _ 25 11 _ (by decide)).trans ((eval_other _ 24 11 _ (by decide)).trans ((eval_other _ 23 11 _ (by decide)).trans base11)))))) w') ?_
    refine met_free po7 d7 (wanted_of gd7) (fun w' _ => run_xor8 q7 ((eval_other _ 29 28 _ (by decide)).trans (eval_same _ _ _ (by simp only [put_size, hsz]; decide))) (eval_same _ _ _ (by simp only [put_size, hsz]; decide)) w') ?_
    refine met_free po8 d8 (wanted_of gd8) (fun w' _ => run_ixSlice0 q8 ((eval_other _ 30 23 _ (by decide)).trans ((eval_other _ 29 23 _ (by decide)).trans ((eval_other _ 28 23 _ (by decide)).trans ((eval_other _ 27 23 _ (by decide)).trans ((eval_other _ 26 23 _ (by decide)).trans ((eval_other _ 25 23 _ (by decide)).trans ((eval_other _ 24 23 _ (by decide)).trans (eval_same _ _ _ (by rw [hsz]; decide))))))))) ((eval_other _ 30 24 _ (by decide)).trans ((eval_other _ 29 24 _ (by decide)).trans ((eval_other _ 28 24 _ (by decide)).trans ((eval_other _ 27 24 _ (by decide)).trans ((eval_other _ 26 24 _ (by decide)).trans ((eval_other _ 25 24 _ (by decide)).trans (eval_same _ _ _ (by simp only [put_size, hsz]; decide)))))))) hk w') ?_
    refine met_skip po9 d9 (wanted_of gd9) (run_store8 q9 (eval_same _ _ _ (by simp only [put_size, hsz]; decide)) ((eval_other _ 31 30 _ (by decide)).trans (eval_same _ _ _ (by simp only [put_size, hsz]; decide))) hcx hfx) ⟨?_, ?_, ?_⟩ ?_
    · rw [World.cell?_setCell_far _ _ _ _ (by show X ≠ D; omega)]; exact hdst
    · rw [World.cell?_setCell_far _ _ _ _ (by show X ≠ w.heap.size + 1 + 1; omega)]; exact hsrc
    · rw [World.cell?_setCell_far _ _ _ _ (by show X ≠ b; omega)]; exact hcb
    · exact ⟨rfl, HN.out, Spares.grown (grown_trans (grown_drew W (some X)) (grown_setCell W.drew X k _)) rfl⟩
  case done =>
    intro Dd W hDd hI hsp hdef
    have HI := Lib.hid (hI.on (below_putObj W Dd (.deferred none) (Nat.le_refl Dd)) (by omega) (by omega) (by omega)); 
    have hdst := one_cell hI.dst
    clear hI hsp
    rw [← HZL.out, xorTo'_full] at HI
    go_frame
    go_wp2_with fail
    refine ⟨by simp, .inl ⟨_, _, rfl, run_takeDeferred hdef, ?_⟩⟩
    exact ⟨_, results_tmp rfl _ _ _, _, rfl, by rw [← HZL.out]; exact own_of_block HI.out.row (by omega) (by rw [HZL.out]; unfold maxLen; omega), HI.out.below⟩
end Go.Proofs.YtagkkihnfipfeaaDoor
