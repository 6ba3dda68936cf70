/- The document's answer: the padded row of bytes (function 25). -/
import Derived.Test.YtgfmjfpafpmghaaDoorBytes
import Derived.Test.YtgfmjfpafpmghaaDoorWorks
namespace Go.Proofs.YtgfmjfpafpmghaaDoor
open Go.RowKit Go.Proofs.ShaWords
attribute [local irreducible] lenByte padTo
/-- The length of a slice, as a measure reads it. -/
def lenOf : Value → Nat
  | .slice _ n _ => n
  | _ => 0
theorem padTo_zero (n : Nat) : padTo n 0 0 = [128#8] := by unfold padTo; rfl
theorem padTo_nought (n z : Nat) : padTo n (z + 1) 0 = padTo n z 0 ++ [0#8] := by unfold padTo; simp [List.replicate_succ']
theorem Own.shape {B : Nat} {w : World} {l : List (BitVec 8)} {v : Value} (h : Own B w l v) : ∃ p cap, v = .slice p l.length cap := by
  rcases h.2 with ⟨rfl, h0⟩ | ⟨g, cap, cur, rfl, _⟩
  · exact ⟨none, 0, by rw [h0]⟩
  · exact ⟨_, cap, rfl⟩
theorem zc_end (n z : Nat) (h : z ≤ zc n) : (n + 1 + z) % 64 = 56 ↔ z = zc n := by unfold zc at *; omega
set_option maxRecDepth 100000 in
set_option maxHeartbeats 1000000 in
theorem row_any (l : List (BitVec 8)) (p : Option Addr) (cap : Nat) (w : World) (hl : l.length < 1000000) (hL : Lies w p l) :
    Calls Tryd.prog 46 #[.slice p l.length cap] w fun e w' => ∃ v, e = .returned v ∧ Own w.heap.size w' (l ++ padOf l.length) v ∧ Below w.heap.size w w' := by
  have HL := Lib.hid hL; clear hL
  go_enter Tryd.func46, Tryd.ntmps46
  go_wp2_with fail
  go_loopw [3, 4] (fun v i wr => ∃ k : Nat, k ≤ l.length ∧ i = .int .i64 k ∧ Own w.heap.size wr (l.take k) v ∧ Below w.heap.size w wr) (fun _ i _ => l.length - (intOf i).toNat)
  case atStart => exact ⟨0, Nat.zero_le _, rfl, Own.nil _ _, Below.refl _ _⟩
  case round =>
    obtain ⟨k, hk, rfl, ho, hb⟩ := hrel
    have sz := hb.size
    by_cases hlt : k < l.length
    · rcases HL.out with h0 | ⟨b, off, rfl, hr⟩
      · exfalso; rw [h0] at hlt; simp at hlt
      · have hv : (bytesV l)[k]? = some (.int .u8 (n8 l[k])) := by simp [bytesV, hlt]
        have hbl := World.block_lt_of_cell? w _ (hr k _ hv)
        have hc := (hb.cell (p := ⟨b, off + k, none⟩) hbl).trans (hr k _ hv)
        clear hv
        have HTK := Lib.hid (List.take_succ_eq_append_getElem hlt)
        generalize l[k] = x at hc HTK
        have hk1 : (l.take k).length < 1099511627776 := by rw [List.length_take]; omega
        have HO := Lib.hid ho; clear ho
        have HB := Lib.hid hb; clear hb hr hbl
        have HK1 := Lib.hid hk1; clear hk1
        go_wp2_with (at_builtin; refine wpList_append_byte rfl (.tmp 15) (.tmp 20) rfl w.heap.size _ (l.take k) x rfl HO.out rfl HK1.out (by omega) ?_; intro v' w' ho' hb'; rw [← HTK.out] at ho'; have HO' := Lib.hid ho'; have HB' := Lib.hid (HB.out.trans hb'); clear ho' hb')
        go_roundw
        case rel => exact ⟨k + 1, by omega, by go_num, HO'.out, HB'.out⟩
        case measure => simp [intOf]; omega
    · have ho2 : Own w.heap.size wr l u3 := by
        rw [List.take_of_length_le (by omega)] at ho
        exact ho
      have HO := Lib.hid ho2; clear ho ho2
      have HB := Lib.hid hb; clear hb
      clear HL
      have HK1 : Hid (l.length < 1099511627776) := show l.length < 1099511627776 by omega
      go_wp2_with (at_builtin; refine wpList_append_byte rfl (.tmp 22) (.tmp 23) rfl w.heap.size _ l 128#8 rfl HO.out rfl HK1.out (by omega) ?_; intro v' w' ho' hb'; rw [← padTo_zero l.length] at ho'; have HO' := Lib.hid ho'; have HB' := Lib.hid (HB.out.trans hb'); clear ho' hb')
      clear HO HB HK1
      go_loopw [3] (fun v wr => ∃ z : Nat, z ≤ zc l.length ∧ Own w.heap.size wr (l ++ padTo l.length z 0) v ∧ Below w.heap.size w wr) (fun v _ => zc l.length + l.length + 1 - lenOf v)
      case atStart => exact ⟨0, Nat.zero_le _, HO'.out, HB'.out⟩
      case round =>
        clear HO' HB'
        obtain ⟨z, hz, ho, hb⟩ := hrel
        have hzc := zc_le l.length
        have sz2 := hb.size
        have hend := zc_end l.length z hz
        have hlen : (l ++ padTo l.length z 0).length = l.length + 1 + z := by rw [List.length_append, padTo_length]; omega
        obtain ⟨pp, cc, rfl⟩ := ho.shape
        have HK1 : Hid ((l ++ padTo l.length z 0).length < 1099511627776) := show _ < _ by rw [hlen]; omega
        rw [hlen] at ho
        rw [hlen]
        have hrem : ((l.length : Int) + 1 + z).tmod 64 = (((l.length + 1 + z) % 64 : Nat) : Int) := by
          rw [Int.tmod_eq_emod_of_nonneg (by omega)]; omega
        have HO := Lib.hid ho; clear ho
        have HB := Lib.hid hb; clear hb
        by_cases hlt2 : z = zc l.length
        · have HZ : Hid (z = zc l.length) := hlt2
          go_wp2_with fail
          all_goals first | (exfalso; have h1 := hend.2 hlt2; simp at *; omega) | skip
          have HO2 : Hid (Own w.heap.size wr (l ++ padTo l.length (zc l.length) 0) (.slice pp (l.length + 1 + z) cc)) := by rw [← HZ.out]; exact HO.out
          clear HO
          rename World => w5
          go_loopw [3, 6, 7, 8] (fun v kk _ _ wr => ∃ j : Nat, j ≤ 8 ∧ kk = .int .i64 (7 - (j : Int)) ∧ Own w.heap.size wr (l ++ padTo l.length (zc l.length) j) v ∧ Below w.heap.size w wr) (fun _ kk _ _ _ => (intOf kk + 1).toNat)
          case atStart => exact ⟨0, by omega, rfl, HO2.out, HB.out⟩
          case round =>
            obtain ⟨j, hj, rfl, ho, hb⟩ := hrel
            by_cases hj8 : j < 8
            · have sz3 := hb.size
              have HO3 := Lib.hid ho; clear ho
              have HB3 := Lib.hid hb; clear hb
              have hlen3 : (l ++ padTo l.length (zc l.length) j).length < 1099511627776 := by rw [List.length_append, padTo_length]; omega
              have HK3 := Lib.hid hlen3; clear hlen3
              clear HO2 HB HK1 hend hrem hlen
              go_wp2_with fail
              rename World => w6
              go_loopw [7, 8] (fun x i wr => ∃ m q : Nat, m ≤ 7 - j ∧ i = .int .i64 (m : Int) ∧ x = .int .u64 (q : Int) ∧ q = 8 * l.length / 256 ^ m ∧ q < 8000000 ∧ wr = w6) (fun _ i _ => 7 - j - (intOf i).toNat)
              case atStart => exact ⟨0, 8 * l.length, by omega, rfl, by rw [Int.natCast_mul, Int.mul_comm]; rfl, by simp, by omega, rfl⟩
              case round =>
                obtain ⟨m, q, hm, rfl, rfl, hq, hq1, rfl⟩ := hrel
                have HQ := Lib.hid hq; clear hq
                by_cases hm7 : m < 7 - j
                · have hlt7 : (m : Int) < 7 - (j : Int) := by omega
                  have hd : (q : Int).tdiv 256 = ((q / 256 : Nat) : Int) := by rw [Int.tdiv_eq_ediv_of_nonneg (by omega)]; rfl
                  have hd2 : q / 256 < 8000000 := by omega
                  have HQ2 : Hid (q / 256 = 8 * l.length / 256 ^ (m + 1)) := by
                    show _ = _
                    rw [HQ.out, Nat.div_div_eq_div_mul, Nat.pow_succ]
                  generalize q / 256 = q2 at hd hd2 HQ2
                  go_wp2_with fail
                  go_roundw
                  case rel => exact ⟨m + 1, q2, by omega, by go_num, by go_num, HQ2.out, hd2, by first | rfl | trivial⟩
                  case measure => simp [intOf]; omega
                · have HM : Hid (m = 7 - j) := show m = 7 - j by omega
                  have hlt7 : ¬ (m : Int) < 7 - (j : Int) := by omega
                  have HPS : Hid (padTo l.length (zc l.length) (j + 1) = padTo l.length (zc l.length) j ++ [lenByte l.length j]) := padTo_succ _ _ _
                  have hlb : (q : Int) % 256 = n8 (lenByte l.length j) := by
                    rw [← lenByte_eq, HQ.out, HM.out, show 256 ^ (7 - j) = 2 ^ (56 - 8 * j) by rw [show 256 = 2 ^ 8 from rfl, ← Nat.pow_mul]; congr 1; omega, Int.natCast_ediv, Int.natCast_pow, Int.natCast_mul]
                    rfl
                  generalize lenByte l.length j = x at hlb HPS
                  clear HQ
                  go_wp2_with (at_builtin; refine wpList_append_byte rfl (.tmp 48) (.tmp 52) rfl w.heap.size _ (l ++ padTo l.length (zc l.length) j) x rfl HO3.out rfl HK3.out (by omega) ?_; intro v' w' ho' hb'; rw [List.append_assoc, ← HPS.out] at ho'; have HO' := Lib.hid ho'; have HB' := Lib.hid (HB3.out.trans hb'); clear ho' hb')
                  go_roundw
                  case rel => exact ⟨j + 1, by omega, by go_num, HO'.out, HB'.out⟩
                  case measure => simp [intOf]; omega
            · have HJ : Hid (j = 8) := show j = 8 by omega
              go_wp2_with fail
              go_ret
              refine ⟨_, rfl, ?_, hb⟩
              rw [HJ.out] at ho
              exact ho
        · have HE : Hid (¬ (l.length + 1 + z) % 64 = 56) := fun h => hlt2 (hend.1 h)
          go_wp2_with (at_builtin; refine wpList_append_byte rfl (.tmp 29) (.tmp 30) rfl w.heap.size _ (l ++ padTo l.length z 0) 0#8 rfl HO.out rfl HK1.out (by omega) ?_; intro v' w' ho' hb'; rw [List.append_assoc, ← padTo_nought l.length z] at ho'; have HO' := Lib.hid ho'; have HB' := Lib.hid (HB.out.trans hb'); clear ho' hb')
          all_goals first | (exfalso; have h1 := HE.out; simp at *; omega) | skip
          obtain ⟨p2, c2, rfl⟩ := HO'.out.shape
          go_roundw
          case rel => exact ⟨z + 1, by omega, HO'.out, HB'.out⟩
          case measure => simp only [lenOf, List.length_append, padTo_length]; simp; omega
end Go.Proofs.YtgfmjfpafpmghaaDoor
