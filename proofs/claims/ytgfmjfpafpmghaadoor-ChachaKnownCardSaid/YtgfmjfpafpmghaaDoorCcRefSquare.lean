/-
  The document's square: the sixteen words of a key, a counter and a nonce, in new memory.
-/
import Derived.Test.YtgfmjfpafpmghaaDoorCcRefWord
import Derived.Test.YtgfmjfpafpmghaaDoorCcBackBase
import Derived.Test.YtgfmjfpafpmghaaDoorCcPlaces
namespace Go.Proofs.YtgfmjfpafpmghaaDoor
open Go.RowKit Go.Proofs.ShaWords
attribute [local go_sem] and32 or32 xor32 add32 shl32 shr32 wrap32_n8 wrap8_n32

theorem rem256 (x : BitVec 32) : IntKind.u8.wrap ((n32 x).tmod 256) = n8 (lo8 x) := by
  unfold n8 n32
  rw [Int.tmod_eq_emod_of_nonneg (by omega), IntKind.wrap_u8', lo8_nat]; omega
theorem quo256 (x : BitVec 32) : IntKind.u32.wrap ((n32 x).tdiv 256) = n32 (x >>> 8) := by
  unfold n32
  rw [Int.tdiv_eq_ediv_of_nonneg (by omega), IntKind.wrap_u32', BitVec.toNat_ushiftRight, Nat.shiftRight_eq_div_pow]; have := x.isLt; omega
theorem take_le_succ (c : BitVec 32) (k : Nat) (hk : k < 4) : (leBytes c).take (k + 1) = (leBytes c).take k ++ [lo8 (c >>> (8 * k))] := by
  rcases k with _ | _ | _ | _ | k
  · rfl
  · rfl
  · rfl
  · rfl
  · omega
theorem take_getD8 (l : List (BitVec 8)) (k : Nat) (hk : k < l.length) : l.take (k + 1) = l.take k ++ [l.getD k 0#8] := by
  rw [List.take_succ_eq_append_getElem hk]; simp [List.getD, hk]
theorem OwnW.base {B B' : Nat} {w : World} {l : List (BitVec 32)} {v : Value} (h : OwnW B w l v) (hb : B' ≤ B) : OwnW B' w l v :=
  ⟨h.1, h.2.imp id (fun ⟨g, cap, cur, a, b, r⟩ => ⟨g, cap, cur, a, Nat.le_trans hb b, r⟩)⟩
theorem strCells_label : Go.Lib.strCells { data := #[101, 120, 112, 97, 110, 100, 32, 51, 50, 45, 98, 121, 116, 101, 32, 107] } = bytesV labelB := by unfold labelB; rfl
/-- Where the square stands: its boxes, the bytes so far. -/
structure SqW (w : World) (key nonce : List (BitVec 8)) (B : Nat) (l : List (BitVec 8)) (v : Value) (wr : World) : Prop where
  two : TwoW w key nonce wr
  own : Own B wr l v
  le : B ≤ wr.heap.size
  hB : w.heap.size + 1 < B
theorem SqW.on {w wr w' : World} {key nonce : List (BitVec 8)} {B : Nat} {l l' : List (BitVec 8)} {v v' : Value} (h : SqW w key nonce B l v wr) (ho : Own B w' l' v') (hb : Below B wr w') : SqW w key nonce B l' v' w' :=
  ⟨⟨(hb.block _ (by have := h.hB; omega)).trans h.two.key, (hb.block _ h.hB).trans h.two.nonce, h.two.below.trans (hb.mono (by have := h.hB; omega))⟩, ho, Nat.le_trans h.le hb.size, h.hB⟩
attribute [local irreducible] labelB leBytes leWords
set_option maxRecDepth 100000 in
set_option maxHeartbeats 2000000 in
theorem refSquare_any (key nonce : List (BitVec 8)) (c : BitVec 32) (w : World) (hk : key.length = 32) (hn : nonce.length = 12) :
    Calls Tryd.prog 52 #[.agg (bytesV key).toArray, .int .u32 (n32 c), .agg (bytesV nonce).toArray] w
      fun e w' => ∃ v, e = .returned v ∧ OwnW w.heap.size w' (squareOf key c nonce) v ∧ Below w.heap.size w w' := by
  have HKL := Lib.hid hk; clear hk
  have HNL := Lib.hid hn; clear hn
  have HLL : Hid (labelB.length = 16) := show _ = _ by unfold labelB; rfl
  have HCL : Hid ((leBytes c).length = 4) := show _ = _ by unfold leBytes; rfl
  have HSQ := Lib.hid (square_all key nonce c HKL.out)
  obtain ⟨i5, hi5, hz5, hs5, hb5⟩ := info5'
  have HI5 := Lib.hid hi5; have HZ5 := Lib.hid hz5; have HS5 := Lib.hid hs5; have HB5 := Lib.hid hb5
  clear hi5 hz5 hs5 hb5
  go_enter Tryd.func52, Tryd.ntmps52
  go_upto_region 2 with (fail)
  refine wp_gen (TwoW w key nonce) (two_start w key nonce) ?_
  intro w0 hw0
  have HW0 := Lib.hid hw0; clear hw0
  have hB0 : w.heap.size + 1 < w0.heap.size := HW0.out.nonce.size
  go_upto_region 4 with (at_builtin; refine Go.Lib.wpList_append_own_string (P := Tryd.prog) w0 rfl (.tmp 14) _ 26 9 rfl w0.heap.size 5 i5 Tryd.underlying26 Tryd.underlying9 HI5.out HZ5.out HS5.out HB5.out (.slice none 0 0) 0 [] rfl (World.ownsRow_nil w0 w0.heap.size 5 1) _ rfl (by decide) (by decide) (Nat.le_refl _) ?_; intro v1 w1 ho1 hg1 hx1; clear hx1; have HO1 : Hid (Own w0.heap.size w1 labelB v1) := (show World.ownsRow _ _ _ _ _ _ _ by rw [strCells_label, List.nil_append] at ho1; rw [HLL.out]; exact ho1); have HB1 : Hid (Below w0.heap.size w0 w1) := (Below.refl w0.heap.size w0).grown hg1 (Nat.le_refl _) (fun k hk => by cases hk); clear ho1 hg1)
  have HQ1 : Hid (SqW w key nonce w0.heap.size labelB v1 w1) := show SqW _ _ _ _ _ _ _ from ⟨HW0.out.on HB1.out, HO1.out, HB1.out.size, hB0⟩
  clear HO1 HB1 HW0 HI5 HZ5 HS5 HB5
  generalize w0.heap.size = B at HQ1 hB0
  go_loopw [7, 8] (fun v i wr => ∃ k : Nat, k ≤ 32 ∧ i = .int .i64 k ∧ SqW w key nonce B (labelB ++ key.take k) v wr) (fun _ i _ => 32 - (intOf i).toNat)
  case atStart => exact ⟨0, by omega, rfl, by rw [List.take_zero, List.append_nil]; exact HQ1.out⟩
  case round =>
    clear HQ1
    obtain ⟨k, hk, rfl, hq⟩ := hrel
    by_cases hlt : k < 32
    · have hc := hq.two.key.cell k (by rw [HKL.out]; exact hlt)
      have HTK := Lib.hid (take_getD8 key k (by rw [HKL.out]; exact hlt))
      have HL : Hid ((labelB ++ key.take k).length < 1099511627776) := show _ < _ by rw [List.length_append, List.length_take, HLL.out]; omega
      generalize key.getD k 0#8 = x at hc HTK
      have HQ := Lib.hid hq; clear hq
      have hlB := HQ.out.le
      have p0 : (k : Int) < 32 := by omega
      go_wp2_with (at_builtin; refine wpList_append_byte rfl (.tmp 20) (.tmp 24) rfl B _ (labelB ++ key.take k) x rfl HQ.out.own rfl HL.out hlB ?_; intro v' w' ho' hb'; rw [List.append_assoc, ← HTK.out] at ho'; have HO' := Lib.hid ho'; have HB' := Lib.hid hb'; clear ho' hb')
      go_roundw
      case rel => exact ⟨k + 1, by omega, by go_num, HQ.out.on HO'.out HB'.out⟩
      case measure => simp [intOf]; omega
    · have HQ2 : Hid (SqW w key nonce B (labelB ++ key) u7 wr) := show SqW _ _ _ _ _ _ _ by
        rw [List.take_of_length_le (by rw [HKL.out]; omega)] at hq; exact hq
      have p0 : ¬ (k : Int) < 32 := by omega
      clear hq
      go_wp2_with fail
      clear p0 hlt hk hB0
      rename World => w2
      have hs0 : c >>> (8 * 0) = c := by simp
      go_loopw [7, 9, 10] (fun v x i wr => ∃ k : Nat, k ≤ 4 ∧ i = .int .i64 k ∧ x = .int .u32 (n32 (c >>> (8 * k))) ∧ SqW w key nonce B (labelB ++ key ++ (leBytes c).take k) v wr) (fun _ _ i _ => 4 - (intOf i).toNat)
      case atStart => exact ⟨0, by omega, rfl, by rw [hs0], by rw [List.take_zero, List.append_nil]; exact HQ2.out⟩
      case round =>
        clear HQ2 hs0
        obtain ⟨k, hk, rfl, rfl, hq⟩ := hrel
        have hlB := hq.le
        have HQ := Lib.hid hq; clear hq
        by_cases hlt : k < 4
        · have p0 : (k : Int) < 4 := by omega
          have HTK := Lib.hid (take_le_succ c k hlt)
          have HSH : Hid (c >>> (8 * (k + 1)) = (c >>> (8 * k)) >>> 8) := show _ = _ by rw [← BitVec.shiftRight_add]; rfl
          have HL : Hid ((labelB ++ key ++ (leBytes c).take k).length < 1099511627776) := show _ < _ by rw [List.length_append, List.length_append, List.length_take, HLL.out, HKL.out]; omega
          generalize c >>> (8 * k) = y at HTK HSH ⊢
          have r1 := rem256 y
          have r2 := quo256 y
          go_wp2_with (at_builtin; refine wpList_append_byte rfl (.tmp 31) (.tmp 35) rfl B _ (labelB ++ key ++ (leBytes c).take k) (lo8 y) rfl HQ.out.own rfl HL.out hlB ?_; intro v' w' ho' hb'; rw [List.append_assoc, ← HTK.out] at ho'; have HO' := Lib.hid ho'; have HB' := Lib.hid hb'; clear ho' hb')
          go_roundw
          case rel => exact ⟨k + 1, by omega, by go_num, by rw [HSH.out], HQ.out.on HO'.out HB'.out⟩
          case measure => simp [intOf]; omega
        · have HQ3 : Hid (SqW w key nonce B (labelB ++ key ++ leBytes c) u7 wr) := show SqW _ _ _ _ _ _ _ by
            have hq := HQ.out
            rw [List.take_of_length_le (by rw [HCL.out]; omega)] at hq; exact hq
          have p0 : ¬ (k : Int) < 4 := by omega
          clear HQ hlB
          generalize c >>> (8 * k) = y
          go_wp2_with fail
          clear p0 hlt hk
          have HLA : Hid ((labelB ++ key ++ leBytes c).length = 52) := show _ = _ by rw [List.length_append, List.length_append, HLL.out, HKL.out, HCL.out]
          generalize labelB ++ key ++ leBytes c = A at HQ3 HLA HSQ
          rename World => w3
          go_loopw [7, 11] (fun v i wr => ∃ k : Nat, k ≤ 12 ∧ i = .int .i64 k ∧ SqW w key nonce B (A ++ nonce.take k) v wr) (fun _ i _ => 12 - (intOf i).toNat)
          case atStart => exact ⟨0, by omega, rfl, by rw [List.take_zero, List.append_nil]; exact HQ3.out⟩
          case round =>
            clear HQ3
            obtain ⟨k, hk, rfl, hq⟩ := hrel
            by_cases hlt : k < 12
            · have hc := hq.two.nonce.cell k (by rw [HNL.out]; exact hlt)
              have HTK := Lib.hid (take_getD8 nonce k (by rw [HNL.out]; exact hlt))
              have HL : Hid ((A ++ nonce.take k).length < 1099511627776) := show _ < _ by rw [List.length_append, List.length_take, HLA.out]; omega
              generalize nonce.getD k 0#8 = x at hc HTK
              have HQ := Lib.hid hq; clear hq
              have hlB := HQ.out.le
              have p0 : (k : Int) < 12 := by omega
              go_wp2_with (at_builtin; refine wpList_append_byte rfl (.tmp 43) (.tmp 47) rfl B _ (A ++ nonce.take k) x rfl HQ.out.own rfl HL.out hlB ?_; intro v' w' ho' hb'; rw [List.append_assoc, ← HTK.out] at ho'; have HO' := Lib.hid ho'; have HB' := Lib.hid hb'; clear ho' hb')
              go_roundw
              case rel => exact ⟨k + 1, by omega, by go_num, HQ.out.on HO'.out HB'.out⟩
              case measure => simp [intOf]; omega
            · have hq4 : SqW w key nonce B (A ++ nonce) u7 wr := by
                rw [List.take_of_length_le (by rw [HNL.out]; omega)] at hq; exact hq
              have p0 : ¬ (k : Int) < 12 := by omega
              clear hq
              have HLT : Hid ((A ++ nonce).length = 64) := show _ = _ by rw [List.length_append, HLA.out, HNL.out]
              generalize A ++ nonce = T at hq4 HLT HSQ
              obtain ⟨G, cp, rfl, hBG, hGs, hcp, -, hcell, -⟩ := hq4.own.form8 (by rw [HLT.out]; omega)
              rw [HLT.out] at hcp hcell ⊢
              have HB4 := Lib.hid hq4.two.below
              have hsz4 := hq4.two.below.size
              clear hq4
              go_wp2_with fail
              clear p0 hlt hk
              rename World => w4
              have HCE := Lib.hid hcell; clear hcell
              go_loopw [12, 13] (fun v i wr => ∃ k : Nat, k ≤ 16 ∧ i = .int .i64 (4 * (k : Int)) ∧ OwnW w4.heap.size wr (leWords T k) v ∧ Below w4.heap.size w4 wr) (fun _ i _ => 64 - (intOf i).toNat)
              case atStart => exact ⟨0, by omega, rfl, by (unfold leWords; exact OwnW.nil _ _), Below.refl _ _⟩
              case round =>
                obtain ⟨k, hk, rfl, ho, hb⟩ := hrel
                have sz := hb.size
                by_cases hlt : k < 16
                · have c0 := (hb.cell (p := ⟨G, 4 * k, none⟩) hGs).trans (HCE.out (4 * k) (by omega))
                  have c1 := (hb.cell (p := ⟨G, 4 * k + 1, none⟩) hGs).trans (HCE.out (4 * k + 1) (by omega))
                  have c2 := (hb.cell (p := ⟨G, 4 * k + 2, none⟩) hGs).trans (HCE.out (4 * k + 2) (by omega))
                  have c3 := (hb.cell (p := ⟨G, 4 * k + 3, none⟩) hGs).trans (HCE.out (4 * k + 3) (by omega))
                  have HS := Lib.hid (leWords_succ T k)
                  rw [leWord_eq] at HS
                  have HLK : Hid ((leWords T k).length < 1099511627776) := show _ < _ by rw [leWords_length]; omega
                  have HO := Lib.hid ho; clear ho
                  have HB := Lib.hid hb; clear hb
                  generalize T.getD (4 * k) 0#8 = b0 at c0 HS
                  generalize T.getD (4 * k + 1) 0#8 = b1 at c1 HS
                  generalize T.getD (4 * k + 2) 0#8 = b2 at c2 HS
                  generalize T.getD (4 * k + 3) 0#8 = b3 at c3 HS
                  have l0 : 4 * (k : Int) < 64 := by omega
                  have m0 : IntKind.i64.wrap (4 * (k : Int) + 4) = 4 * (k : Int) + 4 := IntWalk.i64_in _ (by omega)
                  have p0 : (0 : Int) ≤ 4 * (k : Int) := by omega
                  have p1 : (0 : Int) ≤ 4 * (k : Int) + 4 := by omega
                  have p2 : 4 * (k : Int) + 4 ≤ (cp : Int) := by omega
                  have n0 : (4 * (k : Int)).toNat = 4 * k := by omega
                  have n1 : (4 * (k : Int) + 4).toNat = 4 * k + 4 := by omega
                  go_wp2_with fail
                  refine (word3_any b0 b1 b2 b3 G (4 * k) _ wr c0 c1 c2 c3).mono ?_
                  rintro e w5 ⟨rfl, hb5⟩
                  have HO5 := Lib.hid (HO.out.below hb5)
                  have HB5 := Lib.hid (HB.out.trans (hb5.mono sz))
                  have sz5 := HB5.out.size
                  clear hb5 HO HB c0 c1 c2 c3
                  generalize ext b0 ||| ext b1 <<< 8 ||| ext b2 <<< 16 ||| ext b3 <<< 24 = x at HS ⊢
                  go_wp2_with (at_builtin; refine append_word_step rfl (.tmp 55) (.tmp 62) rfl w4.heap.size _ (leWords T k) x rfl HO5.out rfl HLK.out sz5 ?_; intro v' w' ho' hb'; rw [← HS.out] at ho'; have HO' := Lib.hid ho'; have HB' := Lib.hid (HB5.out.trans hb'); clear ho' hb')
                  go_roundw
                  case rel => exact ⟨k + 1, by omega, by go_num, HO'.out, HB'.out⟩
                  case measure => simp [intOf]; omega
                · have HO : Hid (OwnW w4.heap.size wr (squareOf key c nonce) u12) := show OwnW _ _ _ _ by
                    rw [← HSQ.out, show 16 = k by omega]; exact ho
                  have HB := Lib.hid hb; clear hb ho
                  have p0 : ¬ 4 * (k : Int) < 64 := by omega
                  go_wp2_with fail
                  go_ret
                  exact ⟨_, rfl, HO.out.base hsz4, HB4.out.trans (HB.out.mono hsz4)⟩
end Go.Proofs.YtgfmjfpafpmghaaDoor
