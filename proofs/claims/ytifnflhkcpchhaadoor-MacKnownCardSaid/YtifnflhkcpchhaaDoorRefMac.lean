/-
  The document's answer for layer 2: a key's block turned by a byte, and bytes behind it; the code; a code behind a code.
-/
import Derived.Test.YtifnflhkcpchhaaDoorMacOf
import Derived.Test.YtifnflhkcpchhaaDoorRefSum
import Derived.Test.YtifnflhkcpchhaaDoorPiecesMem
import Derived.Deep.OwnRows
namespace Go.Proofs.YtifnflhkcpchhaaDoor
open Go.RowKit Go.Proofs.ShaWords

/-- The first k bytes of a list, noughts behind them up to 64. -/
def fillTo (l : List (BitVec 8)) (k : Nat) : List (BitVec 8) := l.take k ++ noughts (64 - k)
theorem fillTo_zero (l : List (BitVec 8)) : fillTo l 0 = noughts 64 := by simp [fillTo]
theorem fillTo_length (l : List (BitVec 8)) (k : Nat) (h : k ≤ l.length) (h2 : l.length ≤ 64) : (fillTo l k).length = 64 := by
  unfold fillTo; rw [List.length_append, List.length_take, noughts_length]; omega
theorem fillTo_succ (l : List (BitVec 8)) (k : Nat) (h : k < l.length) (h2 : l.length ≤ 64) : (fillTo l k).set k (l.getD k 0#8) = fillTo l (k + 1) := by
  unfold fillTo
  obtain ⟨m, hm⟩ : ∃ m, 64 - k = m + 1 := ⟨63 - k, by omega⟩
  rw [List.set_append_right _ _ (by rw [List.length_take]; omega), hm, show 64 - (k + 1) = m by omega, List.take_succ_eq_append_getElem h, List.length_take, Nat.min_eq_left (by omega), Nat.sub_self, List.append_assoc]
  simp [noughts, List.replicate_succ, List.getD, h]
theorem fillTo_full (key : List (BitVec 8)) : fillTo (keyOf key) (keyOf key).length = blockK key := by
  rw [blockK_eq]; unfold fillTo; rw [List.take_length]
theorem setCell_at {w : World} {g : Nat} {t : TypeId} {l : List (BitVec 8)} (h : BytesAt w g t l) (k : Nat) (x : BitVec 8) : BytesAt (w.setCell ⟨g, k, none⟩ (.int .u8 (n8 x))) g t (l.set k x) := setCell_bytes h x
theorem cell_at {w : World} {g : Nat} {t : TypeId} {l : List (BitVec 8)} (h : BytesAt w g t l) (k : Nat) (hk : k < l.length) : w.cell? ⟨g, k, none⟩ = some (.int .u8 (n8 (l.getD k 0#8))) := by
  have := h.range k (.int .u8 (n8 (l.getD k 0#8))) (by simp [bytesV, List.getD, hk])
  rwa [Nat.zero_add] at this
theorem frozen_at {w : World} {g : Nat} {t : TypeId} {l : List (BitVec 8)} (h : BytesAt w g t l) (k : Nat) : w.frozen? ⟨g, k, none⟩ = false := frozen_of_row _ _ _ _ _ h
theorem BytesAt.own {w : World} {g B n : Nat} {l : List (BitVec 8)} (h : BytesAt w g 5 l) (hB : B ≤ g) (hl : l.length = n) (hn : n ≤ maxLen) : Own B w l (.slice (some ⟨g, 0, none⟩) n n) := by
  subst hl
  exact ⟨by rw [bytesV_length, Nat.mul_one], .inr ⟨g, l.length, _, rfl, hB, h, Nat.le_refl _, hn, by rw [bytesV_size _ _ rfl, Nat.mul_one], by
    rw [Nat.mul_one]; exact List.take_of_length_le (by simp [bytesV])⟩⟩
theorem xorTo_getD (blk : List (BitVec 8)) (p : BitVec 8) (k : Nat) (hk : k < blk.length) : (xorTo blk p k).getD k 0#8 = blk.getD k 0#8 := by
  rw [List.getD, xorTo_get _ _ _ hk]; rfl

theorem wpList_make_bytes {ops : Array Oper} {rest : List Oper} {o : Oper} {a : Act} {w : World} {Q : Exit → Act → World → Prop} (hg : o.guard = none) (l c : Operand) (hop : o.op = Op.makeSlice 26 l c) (n : Nat) (L : Int)
    (hl : a.eval l = .int .i64 L) (hc : a.eval c = .int .i64 L) (hL : L = (n : Int)) (b2 : n ≤ 281474976710656)
    (hK : ∀ w', BytesAt w' w.heap.size 5 (noughts n) → Below w.heap.size w w' → wpList Tryd.prog ops Q rest (a.put o.dst (.slice (some ⟨w.heap.size, 0, none⟩) n n)) w') : wpList Tryd.prog ops Q (o :: rest) a w := by
  obtain ⟨i, hi, hz, hsz, hby⟩ := info5'
  exact wpList_make_any hg l c 26 hop 5 i (.int .u8 0) Tryd.underlying26 hi hz hsz hby .i64 .i64 L L n n hl hc hL hL (Nat.le_refl _) b2 _ (made_noughts n) hK
attribute [local irreducible] shaOf blockK xorAll xorTo fillTo keyOf
set_option maxRecDepth 100000 in
set_option maxHeartbeats 2000000 in
theorem turned_ref (key bs : List (BitVec 8)) (pd : BitVec 8) (p q : Option Addr) (ck cb : Nat) (w : World) (hrk : Lies w p key) (hrb : Lies w q bs) (hnk : key.length < 100000) (hnb : bs.length < 100000) :
    Calls Tryd.prog 45 #[.slice p key.length ck, .int .u8 (n8 pd), .slice q bs.length cb] w fun e w' => ∃ v, e = .returned v ∧ Own w.heap.size w' (xorAll (blockK key) pd ++ bs) v ∧ Below w.heap.size w w' := by
  have HRK := Lib.hid hrk; clear hrk
  have HRB := Lib.hid hrb; clear hrb
  have HKL := Lib.hid (keyOf_length key)
  have HFF := Lib.hid (fillTo_full key)
  have HBK := Lib.hid (blockK_length key)
  by_cases hlong : key.length ≤ 64
  · have HKE : Hid (keyOf key = key) := show _ = _ by unfold keyOf; rw [if_pos hlong]
    have hd64 : decide ((key.length : Int) ≤ 64) = true := decide_eq_true (by omega)
    go_enter Tryd.func45, Tryd.ntmps45
    go_wp2_with (at_make; refine wpList_make_bytes rfl _ _ rfl 64 _ rfl rfl rfl (by omega) ?_; intro w1 h1 b1; have HF := Lib.hid (show BytesAt w1 w.heap.size 5 (fillTo (keyOf key) 0) by rw [fillTo_zero]; exact h1); have HBF := Lib.hid b1; clear h1 b1)
    rw [HKE.out] at HF HFF
    go_loopw [8] (fun i wr => ∃ k : Nat, k ≤ key.length ∧ i = .int .i64 (k : Int) ∧ BytesAt wr w.heap.size 5 (fillTo key k) ∧ Below w.heap.size w wr) (fun i _ => key.length - (intOf i).toNat)
    case atStart => exact ⟨0, by omega, rfl, HF.out, HBF.out⟩
    case round =>
      clear HF HBF
      obtain ⟨k, hk, rfl, hat, hb⟩ := hrel
      by_cases hlt : k < key.length
      · have hc0 := cell_at hat k (by rw [fillTo_length _ _ hk hlong]; omega)
        have hf := frozen_at hat k
        rcases HRK.out with h0 | ⟨b, off, rfl, hr⟩
        · exfalso; rw [h0] at hlt; simp at hlt
        have hv : (bytesV key)[k]? = some (.int .u8 (n8 (key.getD k 0#8))) := by simp [bytesV, List.getD, hlt]
        have hc := (hb.cell (p := ⟨b, off + k, none⟩) (World.block_lt_of_cell? w _ (hr k _ hv))).trans (hr k _ hv)
        have HST := Lib.hid (setCell_at hat k (key.getD k 0#8))
        rw [fillTo_succ _ _ hlt hlong] at HST
        clear hv hr
        generalize key.getD k 0#8 = x at hc HST
        generalize (fillTo key k).getD k 0#8 = y at hc0
        have HBB := Lib.hid (hb.setCell (Nat.le_refl _) (p := ⟨w.heap.size, k, none⟩) (.int .u8 (n8 x)))
        clear hat hb
        have k0 : (0 : Int) ≤ (k : Int) := by omega
        have k1 : (k : Int) < (key.length : Int) := by omega
        have k2 : (k : Int) < 64 := by omega
        go_wp2_with fail
        go_roundw
        case rel => exact ⟨k + 1, by omega, by go_num, HST.out, HBB.out⟩
        case measure => simp [intOf]; omega
      · have HF : Hid (BytesAt wr w.heap.size 5 (blockK key)) := by
          show BytesAt _ _ _ _
          rw [← HFF.out, ← show k = key.length by omega]; exact hat
        have HBF := Lib.hid hb
        clear hat hb
        go_wp2_with fail
        go_loopw [11] (fun i wr => ∃ k : Nat, k ≤ 64 ∧ i = .int .i64 (k : Int) ∧ BytesAt wr w.heap.size 5 (xorTo (blockK key) pd k) ∧ Below w.heap.size w wr) (fun i _ => 64 - (intOf i).toNat)
        case atStart => exact ⟨0, by omega, rfl, by rw [xorTo_zero]; exact HF.out, HBF.out⟩
        case round =>
          clear HF HBF
          obtain ⟨k, hk, rfl, hat, hb⟩ := hrel
          by_cases hlt : k < 64
          · have hkl : k < (blockK key).length := by rw [HBK.out]; exact hlt
            have hc := cell_at hat k (by rw [xorTo_length _ _ _ (by omega)]; exact hkl)
            rw [xorTo_getD _ _ _ hkl] at hc
            have hf := frozen_at hat k
            have HST := Lib.hid (setCell_at hat k ((blockK key).getD k 0#8 ^^^ pd))
            rw [xorTo_succ _ _ _ hkl] at HST
            generalize (blockK key).getD k 0#8 = x at hc HST
            have HBB := Lib.hid (hb.setCell (Nat.le_refl _) (p := ⟨w.heap.size, k, none⟩) (.int .u8 (n8 (x ^^^ pd))))
            clear hat hb hkl
            have hx1 := xor8 x pd
            have k0 : (0 : Int) ≤ (k : Int) := by omega
            have k1 : (k : Int) < 64 := by omega
            go_wp2_with fail
            go_roundw
            case rel => exact ⟨k + 1, by omega, by go_num, HST.out, HBB.out⟩
            case measure => simp [intOf]; omega
          · have HK64 : Hid (k = 64) := show k = 64 by omega
            rw [HK64.out, xorTo_full _ _ _ HBK.out] at hat
            have hxl : (xorAll (blockK key) pd).length = 64 := by rw [xorAll_length, HBK.out]
            have HOW := Lib.hid (hat.own (Nat.le_refl _) hxl (by unfold maxLen; omega))
            have HBB := Lib.hid hb
            have HXL := Lib.hid hxl
            clear hat hb hxl
            generalize hX : xorAll (blockK key) pd = X at HOW HXL ⊢
            have HX := Lib.hid hX; clear hX
            go_wp2_with fail
            go_loopw [7, 12] (fun v i wr => ∃ k : Nat, k ≤ bs.length ∧ i = .int .i64 (k : Int) ∧ Own w.heap.size wr (X ++ bs.take k) v ∧ Below w.heap.size w wr) (fun _ i _ => bs.length - (intOf i).toNat)
            case atStart => exact ⟨0, Nat.zero_le _, rfl, by rw [List.take_zero, List.append_nil]; exact HOW.out, HBB.out⟩
            case round =>
              clear HOW HBB
              obtain ⟨k, hk, rfl, ho, hb⟩ := hrel
              have sz := hb.size
              by_cases hlt : k < bs.length
              · rcases HRB.out with h0 | ⟨b, off, rfl, hr⟩
                · exfalso; rw [h0] at hlt; simp at hlt
                have hv : (bytesV bs)[k]? = some (.int .u8 (n8 bs[k])) := by simp [bytesV, hlt]
                have hbl := World.block_lt_of_cell? w _ (hr k _ hv)
                have hc := (hb.cell (p := ⟨b, off + k, none⟩) hbl).trans (hr k _ hv)
                clear hv
                have HTK : Hid (X ++ bs.take (k + 1) = (X ++ bs.take k) ++ [bs[k]]) := show _ = _ by rw [List.take_succ_eq_append_getElem hlt, List.append_assoc]
                have HK1 : Hid ((X ++ bs.take k).length < 1099511627776) := show _ < _ by rw [List.length_append, HXL.out, List.length_take]; omega
                generalize bs[k] = x at hc HTK
                generalize X ++ bs.take k = Y at ho HTK HK1 ⊢
                have HO := Lib.hid ho; clear ho
                have HB := Lib.hid hb; clear hb hr hbl
                go_wp2_with (at_builtin; refine wpList_append_byte rfl (.tmp 61) (.tmp 66) rfl w.heap.size _ Y x rfl HO.out rfl HK1.out (by omega) ?_; intro v' w' ho' hb'; rw [← HTK.out] at ho'; have HO' := Lib.hid ho'; have HB' := Lib.hid (HB.out.trans hb'); clear ho' hb')
                go_roundw
                case rel => exact ⟨k + 1, by omega, by go_num, HO'.out, HB'.out⟩
                case measure => simp [intOf]; omega
              · have HO := Lib.hid ho; clear ho
                have HB := Lib.hid hb; clear hb
                go_wp2_with fail
                go_ret
                refine ⟨_, rfl, ?_, HB.out⟩
                have h1 := HO.out
                rw [List.take_of_length_le (by omega)] at h1
                rw [HX.out]
                exact h1
  · have HKE : Hid (keyOf key = shaOf key) := show _ = _ by unfold keyOf; rw [if_neg hlong]
    have hlong2 : ¬ (key.length : Int) ≤ 64 := by omega
    go_enter Tryd.func45, Tryd.ntmps45
    go_wp2_with (at_make; refine wpList_make_bytes rfl _ _ rfl 64 _ rfl rfl rfl (by omega) ?_; intro w1 h1 b1; have HF := Lib.hid (show BytesAt w1 w.heap.size 5 (fillTo (keyOf key) 0) by rw [fillTo_zero]; exact h1); have HBF := Lib.hid b1; clear h1 b1)
    have sz1 := HF.out.size
    refine (refSum_any key p ck w1 (by omega) (HRK.out.below HBF.out)).mono ?_
    rintro e w2 ⟨rfl, hb2⟩
    have HF2 := Lib.hid (HF.out.keep hb2)
    have HB2 := Lib.hid (HBF.out.trans (hb2.mono (by omega)))
    have sz2 := HF2.out.size
    clear hb2 HF HBF
    have HSL := Lib.hid (shaOf_length key)
    have HSI := Lib.hid (info32 _ HSL.out)
    have HSO := Lib.hid (show (bytesV (noughts 32)).toArray.size = (bytesV (shaOf key)).toArray.size by rw [bytesV_size _ 32 HSL.out, bytesV_size _ 32 (noughts_length 32)])
    have HS1 := Lib.hid (bytesV_one (shaOf key))
    go_wp2_with (refine wpList_store_new rfl 31 (.tmp 9) (.tmp 31) rfl w2.heap.size rfl (bytesV (shaOf key)).toArray rfl rfl HSI.out (by rw [← noughts32]; exact HSO.out) HS1.out ?_; intro w3 h3 b3; have HD3 := Lib.hid (show BytesAt w3 w2.heap.size 31 (shaOf key) from h3); have HF3 := Lib.hid (HF2.out.keep b3); have HB3 := Lib.hid (HB2.out.trans (b3.mono (by omega))); clear h3 b3)
    generalize w2.heap.size = D at HD3 sz2 ⊢
    clear HF2 HB2 HSI HSO HS1
    rw [HKE.out] at HF3 HFF
    generalize shaOf key = S at HD3 HF3 HFF HSL
    have hs64 : S.length ≤ 64 := by rw [HSL.out]; omega
    go_loopw [10] (fun i wr => ∃ k : Nat, k ≤ 32 ∧ i = .int .i64 (k : Int) ∧ BytesAt wr w.heap.size 5 (fillTo S k) ∧ BytesAt wr D 31 S ∧ Below w.heap.size w wr) (fun i _ => 32 - (intOf i).toNat)
    case atStart => exact ⟨0, by omega, rfl, HF3.out, HD3.out, HB3.out⟩
    case round =>
      clear HF3 HD3 HB3
      obtain ⟨k, hk, rfl, hat, hd, hb⟩ := hrel
      by_cases hlt : k < 32
      · have hkl : k < S.length := by rw [HSL.out]; exact hlt
        have hc0 := cell_at hat k (by rw [fillTo_length _ _ (by omega) hs64]; omega)
        have hf := frozen_at hat k
        have hc := cell_at hd k hkl
        have HST := Lib.hid (setCell_at hat k (S.getD k 0#8))
        rw [fillTo_succ _ _ hkl hs64] at HST
        have HDD := Lib.hid (show BytesAt (wr.setCell ⟨w.heap.size, k, none⟩ (.int .u8 (n8 (S.getD k 0#8)))) D 31 S from (heap_setCell_other _ _ _ _ (fun e => by have : D = w.heap.size := e; omega)).trans hd)
        generalize S.getD k 0#8 = x at hc HST HDD
        generalize (fillTo S k).getD k 0#8 = y at hc0
        have HBB := Lib.hid (hb.setCell (Nat.le_refl _) (p := ⟨w.heap.size, k, none⟩) (.int .u8 (n8 x)))
        clear hat hb hd hkl
        have k0 : (0 : Int) ≤ (k : Int) := by omega
        have k1 : (k : Int) < 32 := by omega
        have k2 : (k : Int) < 64 := by omega
        go_wp2_with fail
        go_roundw
        case rel => exact ⟨k + 1, by omega, by go_num, HST.out, HDD.out, HBB.out⟩
        case measure => simp [intOf]; omega
      · have HF : Hid (BytesAt wr w.heap.size 5 (blockK key)) := by
          show BytesAt _ _ _ _
          rw [← HFF.out, ← show k = S.length by rw [HSL.out]; omega]; exact hat
        have HBF := Lib.hid hb
        clear hat hb hd
        go_wp2_with fail
        go_loopw [11] (fun i wr => ∃ k : Nat, k ≤ 64 ∧ i = .int .i64 (k : Int) ∧ BytesAt wr w.heap.size 5 (xorTo (blockK key) pd k) ∧ Below w.heap.size w wr) (fun i _ => 64 - (intOf i).toNat)
        case atStart => exact ⟨0, by omega, rfl, by rw [xorTo_zero]; exact HF.out, HBF.out⟩
        case round =>
          clear HF HBF
          obtain ⟨k, hk, rfl, hat, hb⟩ := hrel
          by_cases hlt : k < 64
          · have hkl : k < (blockK key).length := by rw [HBK.out]; exact hlt
            have hc := cell_at hat k (by rw [xorTo_length _ _ _ (by omega)]; exact hkl)
            rw [xorTo_getD _ _ _ hkl] at hc
            have hf := frozen_at hat k
            have HST := Lib.hid (setCell_at hat k ((blockK key).getD k 0#8 ^^^ pd))
            rw [xorTo_succ _ _ _ hkl] at HST
            generalize (blockK key).getD k 0#8 = x at hc HST
            have HBB := Lib.hid (hb.setCell (Nat.le_refl _) (p := ⟨w.heap.size, k, none⟩) (.int .u8 (n8 (x ^^^ pd))))
            clear hat hb hkl
            have hx1 := xor8 x pd
            have k0 : (0 : Int) ≤ (k : Int) := by omega
            have k1 : (k : Int) < 64 := by omega
            go_wp2_with fail
            go_roundw
            case rel => exact ⟨k + 1, by omega, by go_num, HST.out, HBB.out⟩
            case measure => simp [intOf]; omega
          · have HK64 : Hid (k = 64) := show k = 64 by omega
            rw [HK64.out, xorTo_full _ _ _ HBK.out] at hat
            have hxl : (xorAll (blockK key) pd).length = 64 := by rw [xorAll_length, HBK.out]
            have HOW := Lib.hid (hat.own (Nat.le_refl _) hxl (by unfold maxLen; omega))
            have HBB := Lib.hid hb
            have HXL := Lib.hid hxl
            clear hat hb hxl
            generalize hX : xorAll (blockK key) pd = X at HOW HXL ⊢
            have HX := Lib.hid hX; clear hX
            go_wp2_with fail
            go_loopw [7, 12] (fun v i wr => ∃ k : Nat, k ≤ bs.length ∧ i = .int .i64 (k : Int) ∧ Own w.heap.size wr (X ++ bs.take k) v ∧ Below w.heap.size w wr) (fun _ i _ => bs.length - (intOf i).toNat)
            case atStart => exact ⟨0, Nat.zero_le _, rfl, by rw [List.take_zero, List.append_nil]; exact HOW.out, HBB.out⟩
            case round =>
              clear HOW HBB
              obtain ⟨k, hk, rfl, ho, hb⟩ := hrel
              have sz := hb.size
              by_cases hlt : k < bs.length
              · rcases HRB.out with h0 | ⟨b, off, rfl, hr⟩
                · exfalso; rw [h0] at hlt; simp at hlt
                have hv : (bytesV bs)[k]? = some (.int .u8 (n8 bs[k])) := by simp [bytesV, hlt]
                have hbl := World.block_lt_of_cell? w _ (hr k _ hv)
                have hc := (hb.cell (p := ⟨b, off + k, none⟩) hbl).trans (hr k _ hv)
                clear hv
                have HTK : Hid (X ++ bs.take (k + 1) = (X ++ bs.take k) ++ [bs[k]]) := show _ = _ by rw [List.take_succ_eq_append_getElem hlt, List.append_assoc]
                have HK1 : Hid ((X ++ bs.take k).length < 1099511627776) := show _ < _ by rw [List.length_append, HXL.out, List.length_take]; omega
                generalize bs[k] = x at hc HTK
                generalize X ++ bs.take k = Y at ho HTK HK1 ⊢
                have HO := Lib.hid ho; clear ho
                have HB := Lib.hid hb; clear hb hr hbl
                go_wp2_with (at_builtin; refine wpList_append_byte rfl (.tmp 61) (.tmp 66) rfl w.heap.size _ Y x rfl HO.out rfl HK1.out (by omega) ?_; intro v' w' ho' hb'; rw [← HTK.out] at ho'; have HO' := Lib.hid ho'; have HB' := Lib.hid (HB.out.trans hb'); clear ho' hb')
                go_roundw
                case rel => exact ⟨k + 1, by omega, by go_num, HO'.out, HB'.out⟩
                case measure => simp [intOf]; omega
              · have HO := Lib.hid ho; clear ho
                have HB := Lib.hid hb; clear hb
                go_wp2_with fail
                go_ret
                refine ⟨_, rfl, ?_, HB.out⟩
                have h1 := HO.out
                rw [List.take_of_length_le (by omega)] at h1
                rw [HX.out]
                exact h1
end Go.Proofs.YtifnflhkcpchhaaDoor
