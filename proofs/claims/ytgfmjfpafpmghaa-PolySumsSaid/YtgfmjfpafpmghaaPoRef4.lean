/-
  The reference's times.
-/
import Derived.Test.YtgfmjfpafpmghaaPoRef3
namespace Go.Proofs.Ytgfmjfpafpmghaa
open Go.RowKit Go.Proofs.ShaWords
theorem wpList_make_nums {ops : Array Oper} {rest : List Oper} {o : Oper} {a : Act} {w : World} {Q : Exit → Act → World → Prop} (hg : o.guard = none) (l c : Operand) (hop : o.op = Op.makeSlice 47 l c) (n : Nat) (L : Int)
    (hl : a.eval l = .int .i64 L) (hc : a.eval c = .int .i64 L) (hL : L = (n : Int)) (b2 : n ≤ 1000000)
    (hK : ∀ w', w'.heap[w.heap.size]? = some (.cells (numsV (List.replicate n 0)).toArray 3 (0, 0)) → Below w.heap.size w w' → wpList Try.prog ops Q rest (a.put o.dst (.slice (some ⟨w.heap.size, 0, none⟩) n n)) w') : wpList Try.prog ops Q (o :: rest) a w := by
  obtain ⟨i, hi, hz, hsz, hby⟩ := info_parts info3
  refine wpList_plain hg fun K hK' => ?_
  subst hL
  have hrun := run_make (P := Try.prog) w 47 3 i (.int .i64 0) Try.underlying47 hi hz .i64 .i64 (n : Int) (n : Int) (by omega) (by omega) (by rw [hby]; omega) (by omega)
  rw [hsz, Nat.mul_one] at hrun
  simp only [Int.toNat_natCast] at hrun
  have hX : madeCells (Value.int .i64 0).cells n = (numsV (List.replicate n 0)).toArray := by
    apply Array.ext'
    show (madeCells #[Value.int .i64 0] n).toList = _
    rw [toList_madeCells_one]
    simp only [numsV, List.map_replicate]
    rfl
  rw [hX] at hrun
  unfold Oper.wp
  simp [execOp, hop, hl, hc, hrun, Result.andThen]
  exact hK' _ _ (hK _ (heap_new_at rfl) ((Below.refl _ _).alloc (Nat.le_refl _) _))
/-- A block that holds numbers. -/
def NumsAt (w : World) (g : Nat) (l : List Nat) : Prop := w.heap[g]? = some (.cells (numsV l).toArray 3 (0, 0))
theorem NumsAt.cell {w : World} {g : Nat} {l : List Nat} (h : NumsAt w g l) (k : Nat) (hk : k < l.length) : w.cell? ⟨g, k, none⟩ = some (.int .i64 (l.getD k 0 : Nat)) := by
  rw [cell_of_row w g k _ 3 _ h]; simp [numsV, List.getD, hk]
theorem NumsAt.frozen {w : World} {g : Nat} {l : List Nat} (h : NumsAt w g l) (k : Nat) : w.frozen? ⟨g, k, none⟩ = false := frozen_of_row _ _ _ _ _ h
theorem NumsAt.set {w : World} {g : Nat} {l : List Nat} (h : NumsAt w g l) (k : Nat) (x : Nat) : NumsAt (w.setCell ⟨g, k, none⟩ (.int .i64 (x : Int))) g (l.set k x) := by
  show _ = _
  rw [heap_setCell_same _ _ _ _ _ _ h, List.setIfInBounds_toArray]
  simp [numsV, List.map_set]
theorem NumsAt.range {w : World} {g : Nat} {l : List Nat} (h : NumsAt w g l) : w.rangeAt g 0 (numsV l) := fun j v hv => by
  rw [Nat.zero_add, cell_of_row w g j _ 3 _ h]; simpa using hv
theorem d4_set (l : List Nat) (j x : Nat) (hj : j < l.length) : d4 (l.set j x) + 4 ^ j * l.getD j 0 = d4 l + 4 ^ j * x := by
  induction l generalizing j with
  | nil => simp at hj
  | cons y r ih =>
    cases j with
    | zero => simp [d4]; omega
    | succ j =>
      have h := ih j (by simpa using hj)
      rw [List.set_cons_succ, List.getD_cons_succ, d4, d4, Nat.pow_succ, Nat.mul_comm (4 ^ j) 4, Nat.mul_assoc, Nat.mul_assoc]
      omega
theorem d4_zeros (n : Nat) : d4 (List.replicate n 0) = 0 := by
  induction n with
  | zero => rfl
  | succ n ih => rw [List.replicate_succ, d4, ih]
theorem getD_setN (l : List Nat) (j i x : Nat) (hj : j < l.length) : (l.set j x).getD i 0 = if i = j then x else l.getD i 0 := by
  by_cases h : i = j
  · subst h; rw [if_pos rfl]; simp [List.getD, hj]
  · rw [if_neg h]; simp [List.getD, List.getElem?_set_ne (fun e => h e.symm)]
/-- What times has, at the places i and k. -/
structure TimR (w : World) (g la lb : Nat) (a b : List Nat) (i k : Nat) (L : List Nat) (wr : World) : Prop where
  row : NumsAt wr g L
  below : Below w.heap.size w wr
  len : L.length = la + lb
  ent : ∀ j, L.getD j 0 ≤ 9 * (i * lb + k)
  val : d4 L = d4 (a.take i) * d4 b + 4 ^ i * a.getD i 0 * d4 (b.take k)
theorem TimR.next {w : World} {g la lb : Nat} {a b : List Nat} {i k : Nat} {L : List Nat} {wr : World} (h : TimR w g la lb a b i k L wr) (hi : i < la) (hk : k < lb) (ha : a.getD i 0 < 4) (hb : b.getD k 0 < 4) (hg : w.heap.size ≤ g) :
    TimR w g la lb a b i (k + 1) (L.set (i + k) (L.getD (i + k) 0 + a.getD i 0 * b.getD k 0)) (wr.setCell ⟨g, i + k, none⟩ (.int .i64 ((L.getD (i + k) 0 + a.getD i 0 * b.getD k 0 : Nat) : Int))) := by
  have hx : a.getD i 0 * b.getD k 0 ≤ 3 * 3 := Nat.mul_le_mul (by omega) (by omega)
  have hL := h.len
  refine ⟨h.row.set _ _, h.below.setCell hg _, by rw [List.length_set, hL], fun j => ?_, ?_⟩
  · have h1 := h.ent j
    have h2 := h.ent (i + k)
    rw [getD_setN _ _ _ _ (by omega)]
    split
    · omega
    · omega
  · have e := d4_set L (i + k) (L.getD (i + k) 0 + a.getD i 0 * b.getD k 0) (by omega)
    rw [Nat.mul_add] at e
    have e2 : d4 (L.set (i + k) (L.getD (i + k) 0 + a.getD i 0 * b.getD k 0)) = d4 L + 4 ^ (i + k) * (a.getD i 0 * b.getD k 0) := by omega
    rw [e2, h.val, d4_take_succ, Nat.mul_add, Nat.pow_add]
    have e3 : 4 ^ i * 4 ^ k * (a.getD i 0 * b.getD k 0) = 4 ^ i * a.getD i 0 * (4 ^ k * b.getD k 0) := Nat.mul_mul_mul_comm _ _ _ _
    rw [e3]; omega
theorem TimR.row_end {w : World} {g la lb : Nat} {a b : List Nat} {i : Nat} {L : List Nat} {wr : World} (h : TimR w g la lb a b i lb L wr) (hb : b.length = lb) : TimR w g la lb a b (i + 1) 0 L wr := by
  refine ⟨h.row, h.below, h.len, fun j => ?_, ?_⟩
  · have h1 := h.ent j
    have e : (i + 1) * lb = i * lb + lb := Nat.succ_mul i lb
    rw [e]; omega
  · rw [h.val, (List.take_of_length_le (show b.length ≤ lb by omega) : b.take lb = b), d4_take_succ, Nat.add_mul]
    simp [d4]
set_option maxRecDepth 100000 in
set_option maxHeartbeats 4000000 in
theorem times_any (a b : List Nat) (la lb : Nat) (pa pb : Option Addr) (ca cb : Nat) (w : World) (hla : a.length = la) (hlb : b.length = lb) (hsa : la ≤ 200) (hsb : lb ≤ 200) (ha : ∀ i, a.getD i 0 < 4) (hb : ∀ i, b.getD i 0 < 4) (hLa : LiesI w pa a) (hLb : LiesI w pb b) :
    Calls Try.prog 28 #[.slice pa la ca, .slice pb lb cb] w fun e w' => ∃ L v, e = .returned v ∧ DigW w.heap.size (d4 a * d4 b) (la + lb + 26) L v w' ∧ Below w.heap.size w w' := by
  have HLA := Lib.hid hla; clear hla
  have HLB := Lib.hid hlb; clear hlb
  have HA := Lib.hid ha; clear ha
  have HB := Lib.hid hb; clear hb
  have HPA := Lib.hid hLa; clear hLa
  have HPB := Lib.hid hLb; clear hLb
  go_enter Try.func28, Try.ntmps28
  have s0 : IntKind.i64.wrap ((la : Int) + (lb : Int)) = (la : Int) + (lb : Int) := IntWalk.i64_in _ (by omega)
  go_wp2_with (at_make; refine wpList_make_nums rfl _ _ rfl (la + lb) _ rfl rfl (by omega) (by omega) ?_; intro w1 h1 b1; have HF : Hid (TimR w w.heap.size la lb a b 0 0 (List.replicate (la + lb) 0) w1) := ⟨h1, b1, List.length_replicate, fun j => by simp [List.getD, List.getElem?_replicate]; split <;> simp, by rw [d4_zeros]; simp [d4]⟩; clear h1 b1)
  clear s0
  go_loopw [6, 7] (fun iv _ wr => ∃ (i : Nat) (L : List Nat), i ≤ la ∧ iv = .int .i64 (i : Int) ∧ TimR w w.heap.size la lb a b i 0 L wr) (fun iv _ _ => la - (intOf iv).toNat)
  case atStart => exact ⟨0, _, Nat.zero_le _, rfl, HF.out⟩
  case round =>
    clear HF
    obtain ⟨i, L0, hi, rfl, hr⟩ := hrel
    have HR := Lib.hid hr; clear hr
    by_cases hlt : i < la
    · have q0 : (i : Int) < (la : Int) := by omega
      go_wp2_with fail
      go_loopw [7] (fun kv wr => ∃ (k : Nat) (L : List Nat), k ≤ lb ∧ kv = .int .i64 (k : Int) ∧ TimR w w.heap.size la lb a b i k L wr) (fun kv _ => lb - (intOf kv).toNat)
      case atStart => exact ⟨0, _, Nat.zero_le _, rfl, HR.out⟩
      case round =>
        clear HR
        obtain ⟨k, L, hk, rfl, hr⟩ := hrel
        have HR := Lib.hid hr; clear hr
        by_cases hlk : k < lb
        · obtain ⟨ba, oa, hpa, hra⟩ : ∃ b0 off, pa = some ⟨b0, off, none⟩ ∧ w.rangeAt b0 off (numsV a) := by
            rcases HPA.out with h | h
            · have := HLA.out; rw [h] at this; simp at this; omega
            · exact h
          obtain ⟨bb, ob, hpb, hrb⟩ : ∃ b0 off, pb = some ⟨b0, off, none⟩ ∧ w.rangeAt b0 off (numsV b) := by
            rcases HPB.out with h | h
            · have := HLB.out; rw [h] at this; simp at this; omega
            · exact h
          subst hpa; subst hpb
          have c1 := rangeI_cell (range_keep hra HR.out.below) i (by rw [HLA.out]; exact hlt)
          have c2 := rangeI_cell (range_keep hrb HR.out.below) k (by rw [HLB.out]; exact hlk)
          clear hra hrb
          have c0 := HR.out.row.cell (i + k) (by rw [HR.out.len]; omega)
          have cf := HR.out.row.frozen (i + k)
          have hx4 := HA.out i
          have hy4 := HB.out k
          have hz4 := HR.out.ent (i + k)
          have hil : i * lb ≤ 200 * 200 := Nat.mul_le_mul (by omega) (by omega)
          have HX := Lib.hid (HR.out.next hlt hlk hx4 hy4 (Nat.le_refl _))
          generalize a.getD i 0 = x at c1 hx4 HX
          generalize b.getD k 0 = y at c2 hy4 HX
          generalize L.getD (i + k) 0 = z at c0 hz4 HX
          have hxy : x * y ≤ 3 * 3 := Nat.mul_le_mul (by omega) (by omega)
          have mm : IntKind.i64.wrap ((x : Int) * (y : Int)) = ((x * y : Nat) : Int) := by rw [← Int.natCast_mul]; exact IntWalk.i64_in _ (by omega)
          have mm2 : (x : Int) * (y : Int) = ((x * y : Nat) : Int) := by rw [Int.natCast_mul]
          generalize x * y = t at mm mm2 hxy HX
          obtain ⟨s, hs⟩ : ∃ s, s = z + t := ⟨_, rfl⟩
          rw [← hs] at HX
          have m0 : IntKind.i64.wrap ((z : Int) + (t : Int)) = (s : Int) := by rw [IntWalk.i64_in _ (by omega)]; omega
          have m1 : (z : Int) + (t : Int) = (s : Int) := by omega
          obtain ⟨j, hj⟩ : ∃ j, j = i + k := ⟨_, rfl⟩
          rw [← hj] at c0 cf HX
          have j0 : IntKind.i64.wrap ((i : Int) + (k : Int)) = (j : Int) := by rw [IntWalk.i64_in _ (by omega)]; omega
          have j1 : (i : Int) + (k : Int) = (j : Int) := by omega
          have jw : IntKind.i64.wrap (j : Int) = (j : Int) := IntWalk.i64_in _ (by omega)
          have sw : IntKind.i64.wrap (s : Int) = (s : Int) := IntWalk.i64_in _ (by omega)
          have tw : IntKind.i64.wrap (t : Int) = (t : Int) := IntWalk.i64_in _ (by omega)
          have j2 : (j : Int) < ((la + lb : Nat) : Int) := by omega
          have j3 : (j : Int) < (la : Int) + (lb : Int) := by omega
          have j4 : 0 ≤ (j : Int) := by omega
          have j5 : (j : Int).toNat = j := by omega
          have i0 : 0 ≤ (i : Int) := by omega
          have i1 : (i : Int).toNat = i := by omega
          have k0 : 0 ≤ (k : Int) := by omega
          have k1 : (k : Int).toNat = k := by omega
          have k2 : (k : Int) < (lb : Int) := by omega
          clear hs hj hz4 hil hxy
          go_wp2_with fail
          go_still_tail 21, (by kernel_rfl)
          change wpList _ _ _ _ _ wr.drew
          go_wp2_with fail
          go_roundw
          case rel => exact ⟨k + 1, _, by omega, by go_num, ⟨HX.out.row, HX.out.below.trans (((Below.refl _ _).drew).mono HX.out.below.size), HX.out.len, HX.out.ent, HX.out.val⟩⟩
          case measure => simp [intOf]; omega
        · obtain rfl : k = lb := by omega
          go_wp2_with fail
          go_roundw
          case rel => exact ⟨i + 1, L, by omega, by go_num, HR.out.row_end HLB.out⟩
          case measure => simp [intOf]; omega
    · obtain rfl : i = la := by omega
      have hil : i * lb ≤ 200 * 200 := Nat.mul_le_mul hsa hsb
      have hent : ∀ j, L0.getD j 0 ≤ 360000 := fun j => by have := HR.out.ent j; omega
      have HV : Hid (d4 L0 = d4 a * d4 b) := show _ = _ by
        rw [HR.out.val, List.take_of_length_le (by rw [HLA.out]; omega)]
        simp [d4]
      have hsz := HR.out.below.size
      go_wp2_with fail
      refine (carried_any L0 (i + lb) 360000 _ _ wr HR.out.len (by omega) hent (by omega) (Or.inr ⟨_, _, rfl, HR.out.row.range⟩)).mono ?_
      rintro e w2 ⟨L2, v2, rfl, hd, hb2⟩
      have HD := Lib.hid hd
      have HB2 := Lib.hid (HR.out.below.trans (hb2.mono hsz))
      clear hd hb2
      go_wp2_with fail
      go_ret
      exact ⟨L2, v2, rfl, ⟨HD.out.own.base hsz, HD.out.dig, HD.out.val.trans HV.out, HD.out.len⟩, HB2.out⟩
end Go.Proofs.Ytgfmjfpafpmghaa
