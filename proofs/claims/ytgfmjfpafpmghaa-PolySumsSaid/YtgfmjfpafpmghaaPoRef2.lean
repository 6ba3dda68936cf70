/-
  The reference's plus and trimmed.
-/
import Derived.Test.YtgfmjfpafpmghaaPoRef1
namespace Go.Proofs.Ytgfmjfpafpmghaa
open Go.RowKit Go.Proofs.ShaWords
theorem run_max {ρ : Operand → Value} {o : Oper} {x y : Operand} {n m k : Nat} (ho : o.op = .call { callee := .builtin .max, args := #[x, y], argTypes := #[3, 3] }) (hx : ρ x = .int .i64 (n : Int)) (hy : ρ y = .int .i64 (m : Int)) (hk : k = max n m) (w : World) :
    (execOp ρ o).run Try.prog w = .ok (.value (.int .i64 (k : Int))) w := by
  obtain ⟨dst, op, ty', pos, after, guard⟩ := o
  simp only at ho
  subst ho
  by_cases h : n < m
  · have q : (n : Int) < (m : Int) := by omega
    have q2 : ¬ (m : Int) < (n : Int) := by omega
    have q3 : (n : Int) ≤ (m : Int) := by omega
    obtain rfl : k = m := by omega
    clear hk h
    go_simp
  · by_cases h2 : m < n
    · have q : ¬ (n : Int) < (m : Int) := by omega
      have q2 : (m : Int) < (n : Int) := by omega
      have q3 : (m : Int) ≤ (n : Int) := by omega
      obtain rfl : k = n := by omega
      clear hk h h2
      go_simp
    · obtain rfl : n = m := by omega
      obtain rfl : k = n := by omega
      clear hk h h2
      go_simp
theorem wpList_max {ops : Array Oper} {rest : List Oper} {o : Oper} {a : Act} {w : World} {Q : Exit → Act → World → Prop} (hg : o.guard = none) (x y : Operand) (ho : o.op = .call { callee := .builtin .max, args := #[x, y], argTypes := #[3, 3] }) (n m k : Nat)
    (hx : a.eval x = .int .i64 (n : Int)) (hy : a.eval y = .int .i64 (m : Int)) (hk : k = max n m) (h : wpList Try.prog ops Q rest (a.put o.dst (.int .i64 (k : Int))) w) : wpList Try.prog ops Q (o :: rest) a w := by
  refine wpList_plain hg fun K hK => ?_
  unfold Oper.wp
  rw [run_max ho hx hy hk w, Oper.upon_value]
  exact hK _ _ h
theorem OwnI.base {B B' : Nat} {w : World} {l : List Nat} {v : Value} (h : OwnI B w l v) (hb : B' ≤ B) : OwnI B' w l v := by
  rcases h.2 with h0 | ⟨g, cap, cur, he, hg, hr⟩
  · exact ⟨h.1, .inl h0⟩
  · exact ⟨h.1, .inr ⟨g, cap, cur, he, Nat.le_trans hb hg, hr⟩⟩
/-- Two rows of digits, added place by place. -/
structure AddR (B E : Nat) (a b : List Nat) (k : Nat) (L : List Nat) (v : Value) (w : World) : Prop where
  own : OwnI B w L v
  len : L.length = k
  ent : ∀ i, L.getD i 0 ≤ E
  val : d4 L = d4 (a.take k) + d4 (b.take k)
theorem AddR.next {B E : Nat} {a b : List Nat} {k : Nat} {L : List Nat} {v v' : Value} {w w' : World} (h : AddR B E a b k L v w) (hE : a.getD k 0 + b.getD k 0 ≤ E) (ho : OwnI B w' (L ++ [a.getD k 0 + b.getD k 0]) v') : AddR B E a b (k + 1) (L ++ [a.getD k 0 + b.getD k 0]) v' w' := by
  refine ⟨ho, by rw [List.length_append, h.len]; rfl, fun i => ?_, ?_⟩
  · rw [getD_snoc]
    split
    · exact hE
    · exact h.ent i
  · rw [d4_append, h.len, h.val, d4_take_succ, d4_take_succ]
    show _ + 4 ^ k * (_ + 4 * 0) = _
    rw [Nat.mul_zero, Nat.add_zero, Nat.mul_add]; omega
set_option maxRecDepth 100000 in
set_option maxHeartbeats 4000000 in
theorem rplus_any (a b : List Nat) (la lb : Nat) (pa pb : Option Addr) (ca cb : Nat) (w : World) (hla : a.length = la) (hlb : b.length = lb) (hsa : la ≤ 400) (hsb : lb ≤ 400) (ha : ∀ i, a.getD i 0 < 4) (hb : ∀ i, b.getD i 0 < 4) (hLa : LiesI w pa a) (hLb : LiesI w pb b) :
    Calls Try.prog 29 #[.slice pa la ca, .slice pb lb cb] w fun e w' => ∃ L v, e = .returned v ∧ DigW w.heap.size (d4 a + d4 b) (max la lb + 26) L v w' ∧ Below w.heap.size w w' := by
  have HLA := Lib.hid hla; clear hla
  have HLB := Lib.hid hlb; clear hlb
  have HA := Lib.hid ha; clear ha
  have HB := Lib.hid hb; clear hb
  have HPA := Lib.hid hLa; clear hLa
  have HPB := Lib.hid hLb; clear hLb
  obtain ⟨M, hM⟩ : ∃ M, M = max la lb := ⟨_, rfl⟩
  have HM := Lib.hid hM
  rw [← hM]
  have hM4 : M ≤ 400 := by omega
  clear hM
  go_enter Try.func29, Try.ntmps29
  go_wp2_with fail
  go_loopw [5, 6] (fun v i wr => ∃ (k : Nat) (L : List Nat), k ≤ M ∧ i = .int .i64 (k : Int) ∧ AddR w.heap.size 6 a b k L v wr ∧ Below w.heap.size w wr) (fun _ i _ => M - (intOf i).toNat)
  case atStart => exact ⟨0, [], Nat.zero_le _, rfl, ⟨OwnI.nil _ _, rfl, fun i => by simp, by simp [d4]⟩, Below.refl _ _⟩
  case round =>
    obtain ⟨k, L, hk, rfl, hr, hb⟩ := hrel
    by_cases hlt : k < M
    · have HD1 := Lib.hid (digit_any a la k pa ca wr HLA.out (by omega) (by omega) (HPA.out.below hb))
      have HD2 := Lib.hid (digit_any b lb k pb cb wr HLB.out (by omega) (by omega) (HPB.out.below hb))
      have ha4 := HA.out k
      have hb4 := HB.out k
      have HX := Lib.hid (fun (v' : Value) (w' : World) => hr.next (v' := v') (w' := w') (by omega))
      have HLN := Lib.hid hr.len
      have HO := Lib.hid hr.own
      have HBE := Lib.hid hb
      clear hr hb
      generalize a.getD k 0 = x at HD1 HX ha4
      generalize b.getD k 0 = y at HD2 HX hb4
      obtain ⟨s, hs⟩ : ∃ s, s = x + y := ⟨_, rfl⟩
      rw [← hs] at HX
      have m0 : IntKind.i64.wrap ((x : Int) + (y : Int)) = (s : Int) := by rw [IntWalk.i64_in _ (by omega)]; omega
      have m1 : (x : Int) + (y : Int) = (s : Int) := by omega
      clear hs
      have q0 : (k : Int) < (M : Int) := by omega
      go_wp2_with (refine wpList_max rfl (.tmp 9) (.tmp 11) rfl la lb M rfl rfl HM.out ?_)
      refine HD1.out.mono ?_
      rintro e w' ⟨rfl, rfl⟩
      go_wp2_with fail
      refine HD2.out.mono ?_
      rintro e w' ⟨rfl, rfl⟩
      go_wp2_with (at_builtin; refine wpList_append_num rfl (.tmp 16) (.tmp 24) rfl w.heap.size _ L s rfl HO.out rfl (by rw [HLN.out]; omega) HBE.out.size ?_; intro v' w' ho' hb'; have HX2 := Lib.hid (HX.out v' w' ho'); have HB2 := Lib.hid (HBE.out.trans hb'); clear ho' hb')
      go_roundw
      case rel => exact ⟨k + 1, L ++ [s], by omega, by go_num, HX2.out, HB2.out⟩
      case measure => simp [intOf]; omega
    · obtain rfl : k = M := by omega
      have HBE := Lib.hid hb
      obtain ⟨p5, c5, hv5, hc5, hl5⟩ := hr.own.lies
      rw [hr.len] at hv5 hc5
      subst hv5
      have HR := Lib.hid hr
      have HL5 := Lib.hid hl5
      have HV : Hid (d4 L = d4 a + d4 b) := show _ = _ by rw [hr.val, List.take_of_length_le (by rw [HLA.out, HM.out]; omega), List.take_of_length_le (by rw [HLB.out, HM.out]; omega)]
      clear hb hr hl5
      go_wp2_with (refine wpList_max rfl (.tmp 9) (.tmp 11) rfl la lb k rfl rfl HM.out ?_)
      refine (carried_any L k 6 p5 c5 wr HR.out.len (by omega) HR.out.ent (by omega) HL5.out).mono ?_
      rintro e w2 ⟨L2, v2, rfl, hd, hb2⟩
      have HD := Lib.hid hd
      have HB2 := Lib.hid (HBE.out.trans (hb2.mono HBE.out.size))
      have hsz := HBE.out.size
      clear hd hb2
      go_wp2_with fail
      go_ret
      refine ⟨L2, v2, rfl, ⟨HD.out.own.base hsz, HD.out.dig, HD.out.val.trans HV.out, HD.out.len⟩, HB2.out⟩
end Go.Proofs.Ytgfmjfpafpmghaa
