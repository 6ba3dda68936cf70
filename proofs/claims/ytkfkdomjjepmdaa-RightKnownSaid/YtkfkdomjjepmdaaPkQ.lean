/-
  What other texts lean on: RtAddedLaw.
-/
import Derived.Test.YtkfkdomjjepmdaaPkA
import Derived.Test.YtkfkdomjjepmdaaPkM
import Derived.Test.YtkfkdomjjepmdaaPkN
import Derived.Test.YtkfkdomjjepmdaaPkO
/-
  RightAdded's walk (gen_rtadded.py).
-/
namespace Go.Proofs.Ytkfkdomjjepmdaa
open Go.RowKit Go.Proofs.ShaWords
theorem bestM_app (a b : List RuleM) (s : ByteArray) : bestM (a ++ b) s = b.foldl (stepM s) (bestM a s) := by simp [bestM]
theorem stepM_le (s : ByteArray) (x : Int × Int) (r : RuleM) : x.2 ≤ (stepM s x r).2 := by
  unfold stepM
  split
  · rename_i h; show x.2 ≤ (r.pre.size : Int); omega
  · exact Int.le_refl _
theorem fold_le (s : ByteArray) : ∀ (l : List RuleM) (x : Int × Int), x.2 ≤ (l.foldl (stepM s) x).2
  | [], _ => Int.le_refl _
  | r :: l, x => Int.le_trans (stepM_le s x r) (fold_le s l _)
theorem stepM_ge (s : ByteArray) (x : Int × Int) (r : RuleM) (h : begS s r.pre = true) : (r.pre.size : Int) ≤ (stepM s x r).2 := by
  unfold stepM
  split
  · exact Int.le_refl _
  · rename_i hn
    have : ¬ (r.pre.size : Int) > x.2 := fun e => hn ⟨e, h⟩
    omega
theorem fold_ge (s : ByteArray) : ∀ (l : List RuleM) (x : Int × Int) (r : RuleM), r ∈ l → begS s r.pre = true → (r.pre.size : Int) ≤ (l.foldl (stepM s) x).2
  | y :: l, x, r, hr, h => by
    rcases List.mem_cons.1 hr with rfl | hr
    · exact Int.le_trans (stepM_ge s x r h) (fold_le s l _)
    · exact fold_ge s l _ r hr h
/-- What the stream does not begin with changes nothing. -/
theorem allowed_skip (a b : List RuleM) (r : RuleM) (s : ByteArray) (bits : Int) (h : begS s r.pre = false) : allowedM (a ++ [r] ++ b) bits s = allowedM (a ++ b) bits s := by
  unfold allowedM
  rw [List.append_assoc, bestM_app, bestM_app, List.singleton_append, List.foldl_cons]
  have : stepM s (bestM a s) r = bestM a s := by unfold stepM; rw [if_neg (by rw [h]; simp)]
  rw [this]
def sameB (l : List RuleM) (p : ByteArray) : Bool := l.any fun x => decide (x.pre = p)
/-- Nor does one behind a rule of the same prefix. -/
theorem allowed_same (l : List RuleM) (r : RuleM) (s : ByteArray) (bits : Int) (h : sameB l r.pre = true) : allowedM (l ++ [r]) bits s = allowedM l bits s := by
  unfold allowedM
  rw [bestM_snoc]
  have : stepM s (bestM l s) r = bestM l s := by
    unfold stepM
    refine if_neg ?_
    rintro ⟨h1, h2⟩
    obtain ⟨x, hx, he⟩ := List.any_eq_true.1 h
    have he := of_decide_eq_true he
    have := fold_ge s l (-1, -1) x hx (by rw [he]; exact h2)
    rw [he] at this
    unfold bestM at h1
    omega
  rw [this]
theorem stepM_lt (s : ByteArray) (x : Int × Int) (r : RuleM) (hx : x.2 < (s.size : Int)) (h : ¬ r.pre = s) : (stepM s x r).2 < (s.size : Int) := by
  unfold stepM
  split
  · rename_i hc
    show (r.pre.size : Int) < _
    have h1 := begS_iff.1 hc.2
    have h2 := h1.length_le
    rw [size_list, size_list] at h2
    have : r.pre.size ≠ s.size := fun e => h (bytes_ext (h1.eq_of_length (by rw [size_list, size_list]; exact e)))
    omega
  · exact hx
theorem fold_lt (s : ByteArray) : ∀ (l : List RuleM) (x : Int × Int), x.2 < (s.size : Int) → (∀ r ∈ l, ¬ r.pre = s) → (l.foldl (stepM s) x).2 < (s.size : Int)
  | [], _, h, _ => h
  | r :: l, x, h, hl => fold_lt s l _ (stepM_lt s x r h (hl r List.mem_cons_self)) (fun y hy => hl y (List.mem_cons_of_mem _ hy))
theorem fold_stay (s : ByteArray) : ∀ (l : List RuleM) (x : Int × Int), x.2 = (s.size : Int) → l.foldl (stepM s) x = x
  | [], _, _ => rfl
  | r :: l, x, h => by
    have : stepM s x r = x := by
      unfold stepM
      refine if_neg ?_
      rintro ⟨h1, h2⟩
      have h3 := (begS_iff.1 h2).length_le
      rw [size_list, size_list] at h3
      omega
    rw [List.foldl_cons, this]
    exact fold_stay s l x h
theorem not_same {l : List RuleM} {p : ByteArray} (h : sameB l p = false) : ∀ x ∈ l, ¬ x.pre = p := fun x hx e => by
  have := List.any_eq_false.1 h x hx
  exact this (decide_eq_true e)
/-- One whose prefix is the stream, and that no other has, decides. -/
theorem allowed_new (l : List RuleM) (j : Nat) (r : RuleM) (s : ByteArray) (bits : Int) (h : sameB l r.pre = false) (hp : r.pre = s) : allowedM (l.take j ++ [r] ++ l.drop j) bits s = hasZ r.rights bits := by
  unfold allowedM
  rw [List.append_assoc, bestM_app, List.singleton_append, List.foldl_cons]
  have hn := not_same h
  rw [hp] at hn
  have h1 : (bestM (l.take j) s).2 < (s.size : Int) := fold_lt s _ _ (by show (-1 : Int) < _; omega) (fun x hx => hn x (List.mem_of_mem_take hx))
  have h2 : stepM s (bestM (l.take j) s) r = (r.rights, (s.size : Int)) := by
    unfold stepM
    rw [hp, if_pos ⟨h1, begS_refl s⟩]
  rw [h2, fold_stay s _ _ rfl]
theorem sameB_take {l : List RuleM} {k : Nat} (p : ByteArray) (h : k < l.length) : sameB (l.take (k + 1)) p = (sameB (l.take k) p || decide (l[k].pre = p)) := by
  unfold sameB
  rw [List.take_succ_eq_append_getElem h, List.any_append]
  simp only [List.any_cons, List.any_nil, Bool.or_false]
theorem eq_toList (a b : ByteArray) : (a.toList == b.toList) = (false || decide (a = b)) := by
  apply Bool.eq_iff_iff.2
  simp [toList_eq]
theorem begS_cut {s p : ByteArray} (h : p.size ≤ s.size) : ((s.extract 0 p.size).toList == p.toList) = begS s p := by
  have h1 := Lib.hasPrefix_raw s p
  rw [decide_eq_true h, Bool.true_and] at h1
  exact h1
/-- What the law has at hand: the rule in a block, the rules that came in, those with one more. -/
structure AdS (B0 : Nat) (r : RuleM) (p q : Option Addr) (l m : List RuleM) (W w : World) : Prop where
  box : w.heap[B0]? = some (.cells r.cells.toArray 34 (0, 0))
  came : RulesAt w p l
  more : RulesAt w q m
  below : Below W.heap.size W w
theorem AdS.step {B0 : Nat} {r : RuleM} {p q : Option Addr} {l m : List RuleM} {W w w' : World} (h : AdS B0 r p q l m W w) (hb : Below w.heap.size w w') : AdS B0 r p q l m W w' :=
  ⟨(hb.block B0 (Array.getElem?_eq_some_iff.1 h.box).1).trans h.box, h.came.below hb, h.more.below hb, h.below.trans (hb.mono h.below.size)⟩
theorem AdS.c0 {B0 : Nat} {p q : Option Addr} {l m : List RuleM} {W w : World} {rp : ByteArray} {rr : Int} (h : AdS B0 ⟨rp, rr⟩ p q l m W w) : w.cell? ⟨B0, 0, none⟩ = some (.string rp) ∧ w.cell? ⟨B0, 1, none⟩ = some (.int .i64 rr) := by
  have hc : ∀ k, w.cell? ⟨B0, k, none⟩ = (RuleM.cells ⟨rp, rr⟩)[k]? := fun k => by rw [cell_of_row w B0 k _ _ _ h.box]; simp
  exact ⟨hc 0, hc 1⟩
theorem oneAt {b o : Nat} {xp : ByteArray} {xr : Int} {w : World} (h : RulesAt w (some ⟨b, o, none⟩) [⟨xp, xr⟩]) : w.cell? ⟨b, o, none⟩ = some (.string xp) ∧ w.cell? ⟨b, o + 1, none⟩ = some (.int .i64 xr) := by
  rcases h.at' with h0 | ⟨b', o', e, hr⟩
  · cases h0
  · cases e
    have := hr 0 (by simp)
    exact rule_cells (by simpa [RuleM.cells] using this)
theorem size_rule (r : RuleM) : (Try.prog.info? 34).map (·.size) = some r.cells.toArray.size := show _ = some 2 by kernel_rfl
section
variable {ρ : Operand → Value} {o : Oper} {x y : Operand}
theorem r_eqS {a b : ByteArray} {v : Bool} {ty : TypeId} (hv : (a.toList == b.toList) = v) (ho : o.op = .binOp .eql 9 x y ty) (hx : ρ x = .string a) (hy : ρ y = .string b) (w : World) : (execOp ρ o).run Try.prog w = .ok (.value (.bool v)) w := by
  obtain ⟨dst, op, ty', pos, after, guard⟩ := o
  simp only at ho
  subst ho
  subst hv
  go_simp
theorem r_leqV {a b : Int} {v : Bool} {ty : TypeId} (hv : decide (a ≤ b) = v) (ho : o.op = .binOp .leq 3 x y ty) (hx : ρ x = .int .i64 a) (hy : ρ y = .int .i64 b) (w : World) : (execOp ρ o).run Try.prog w = .ok (.value (.bool v)) w := by
  obtain ⟨dst, op, ty', pos, after, guard⟩ := o
  simp only at ho
  subst ho
  subst hv
  go_simp
theorem r_and {a b : Int} {ty : TypeId} (ho : o.op = .binOp .and 3 x y ty) (hx : ρ x = .int .i64 a) (hy : ρ y = .int .i64 b) (w : World) : (execOp ρ o).run Try.prog w = .ok (.value (.int .i64 (bits BinOp.and IntKind.i64 a b))) w := by
  obtain ⟨dst, op, ty', pos, after, guard⟩ := o
  simp only at ho
  subst ho
  go_simp
theorem r_eqI {a b : Int} {v : Bool} {ty : TypeId} (hv : (a == b) = v) (ho : o.op = .binOp .eql 3 x y ty) (hx : ρ x = .int .i64 a) (hy : ρ y = .int .i64 b) (w : World) : (execOp ρ o).run Try.prog w = .ok (.value (.bool v)) w := by
  obtain ⟨dst, op, ty', pos, after, guard⟩ := o
  simp only at ho
  subst ho
  subst hv
  go_simp
end
set_option maxRecDepth 100000 in
set_option maxHeartbeats 16000000 in
theorem rightAdded_any (l : List RuleM) (n cap : Nat) (p : Option Addr) (r : RuleM) (z bs : Int) (s : ByteArray) (w : World) (hln : l.length = n) (hcap : n ≤ cap) (hL : RulesAt w p l) (hok : ∀ x ∈ l, x.Ok) (hp0 : p = none → cap = 0) (hro : r.Ok) (hbs : wrap64 bs = bs) :
    Calls Try.prog 7 #[.slice p n cap, .agg r.cells.toArray, .int .i64 z, .int .i64 bs, .string s] w fun e w' => e = .returned (.bool true) ∧ Below w.heap.size w w' := by
  have HKN := Lib.hid works13_any
  have HN := Lib.hid hln
  have HCP := Lib.hid hcap
  have HOK := Lib.hid hok
  have HP0 := Lib.hid hp0
  have HRO := Lib.hid hro
  have HBS := Lib.hid hbs
  have HLL := Lib.hid hL
  clear hln hok hp0 hro hbs hL hcap
  obtain ⟨rp, rr⟩ := r
  obtain ⟨M, hM⟩ : ∃ M, M = max rp.size s.size := ⟨_, rfl⟩
  have HM := Lib.hid hM
  clear hM
  generalize hcr : (RuleM.cells ⟨rp, rr⟩).toArray = cr
  have HCR := Lib.hid hcr
  clear hcr
  go_enter Try.func7, Try.ntmps7
  go_upto_region 1 with (fail)
  refine wp_gen (fun wr => AdS w.heap.size ⟨rp, rr⟩ p none l [] w wr) ⟨by rw [HCR.out]; exact heap_alloc_new _ _, HLL.out.below (boxBelow _ _), ⟨.inl rfl⟩, boxBelow _ _⟩ (fun w1 hg => ?_)
  have c1 := hg.c0.1
  have HG1 := Lib.hid hg
  clear hg
  have hbig : (n > 200) ∨ (¬ n > 200 ∧ M > 4096) ∨ (¬ n > 200 ∧ ¬ M > 4096) := by omega
  rcases hbig with q | ⟨q, q2⟩ | ⟨q, q2⟩
  · have q1 : (n : Int) > 200 := by omega
    go_wp2_with (show wpList _ _ _ (⟨_, .call { callee := .builtin .max, args := _, argTypes := _ }, _, _, _, _⟩ :: _) _ _; refine wpList_run (by rfl) (run_max2 rfl rfl rfl HM.out _) ?_)
    refine (HKN.out _).mono ?_
    rintro e w9 ⟨rfl, hb⟩
    have HB9 := Lib.hid (HG1.out.below.trans (hb.mono HG1.out.below.size))
    clear hb
    go_wp2_with fail
    go_ret
    exact ⟨rfl, HB9.out⟩
  · have q1 : ¬ (n : Int) > 200 := by omega
    have q3 : (M : Int) > 4096 := by omega
    go_wp2_with (show wpList _ _ _ (⟨_, .call { callee := .builtin .max, args := _, argTypes := _ }, _, _, _, _⟩ :: _) _ _; refine wpList_run (by rfl) (run_max2 rfl rfl rfl HM.out _) ?_)
    refine (HKN.out _).mono ?_
    rintro e w9 ⟨rfl, hb⟩
    have HB9 := Lib.hid (HG1.out.below.trans (hb.mono HG1.out.below.size))
    clear hb
    go_wp2_with fail
    go_ret
    exact ⟨rfl, HB9.out⟩
  have q1 : ¬ (n : Int) > 200 := by omega
  have q3 : ¬ (M : Int) > 4096 := by omega
  have hn200 : n ≤ 200 := by omega
  have HMS : Hid (rp.size ≤ 4096 ∧ s.size ≤ 4096) := show _ ∧ _ from by have := HM.out; omega
  go_wp2_with (show wpList _ _ _ (⟨_, .call { callee := .builtin .max, args := _, argTypes := _ }, _, _, _, _⟩ :: _) _ _; refine wpList_run (by rfl) (run_max2 rfl rfl rfl HM.out _) ?_)
  clear q q2 q1 q3 c1
  go_loopw [11, 12] (fun sv i wr => ∃ k : Nat, k ≤ n ∧ i = .int .i64 k ∧ sv = .bool (sameB (l.take k) rp) ∧ AdS w.heap.size ⟨rp, rr⟩ p none l [] w wr) (fun _ i _ => n - (intOf i).toNat)
  case atStart => exact ⟨0, Nat.zero_le _, rfl, rfl, HG1.out⟩
  case round =>
    clear HG1
    obtain ⟨k, hk, rfl, rfl, hg⟩ := hrel
    have HG := Lib.hid hg
    clear hg
    by_cases hlt : k < n
    · have hlt' : k < l.length := by rw [HN.out]; exact hlt
      have hat := HG.out.came.at'
      rcases hat with h0 | ⟨b, off, rfl, hrr⟩
      · exfalso; rw [h0] at hlt'; simp at hlt'
      have hrk := hrr k hlt'
      have HST := Lib.hid (sameB_take rp hlt')
      generalize l[k] = x at hrk HST
      obtain ⟨xp, xr⟩ := x
      simp only [RuleM.cells] at hrk
      have HRK := Lib.hid hrk
      obtain ⟨c0, c1⟩ := rule_cells hrk
      clear hrk hrr hlt'
      have HKL := Lib.hid hlt
      by_cases hg : xp.size > 4096
      · have q3 : (xp.size : Int) > 4096 := by omega
        go_wp2_with (show wpList _ _ _ (⟨_, .indexAddr _ _ _, _, _, _, _⟩ :: _) _ _; refine wpList_run (by rfl) (ruleT.run_ix rfl rfl rfl HKL.out _) ?_)
        refine (HKN.out _).mono ?_
        rintro e w9 ⟨rfl, hb⟩
        have HB9 := Lib.hid (HG.out.below.trans (hb.mono HG.out.below.size))
        clear hb
        go_wp2_with fail
        go_ret
        exact ⟨rfl, HB9.out⟩
      · have q3 : ¬ (xp.size : Int) > 4096 := by omega
        have HAR : Hid (AdS w.heap.size ⟨rp, rr⟩ (some ⟨b, off, none⟩) (some ⟨b, off + k * 2, none⟩) l [⟨xp, xr⟩] w wr) := show AdS _ _ _ _ _ _ _ _ from ⟨HG.out.box, HG.out.came, ⟨.inr ⟨b, off + k * 2, rfl, fun i hi => by
          obtain rfl : i = 0 := by simpa using hi
          simpa [RuleM.cells] using HRK.out⟩⟩, HG.out.below⟩
        cases hsb : sameB (l.take k) rp
        · have HSB := Lib.hid hsb
          clear hsb
          go_upto_region 9 with (show wpList _ _ _ (⟨_, .indexAddr _ _ _, _, _, _, _⟩ :: _) _ _; refine wpList_run (by rfl) (ruleT.run_ix rfl rfl rfl HKL.out _) ?_)
          clear c0 c1 q3
          refine region_phase (fun wr => AdS w.heap.size ⟨rp, rr⟩ (some ⟨b, off, none⟩) (some ⟨b, off + k * 2, none⟩) l [⟨xp, xr⟩] w wr) (fun _ => True) 99 (HAR.out.step (Below.refl _ _).drew) trivial [(0, .free), (1, .free), (2, .free), (3, .free), (4, .free), (5, .free), (6, .free), (7, .free), (8, .free), (9, .free), (10, .free), (11, .free)] (by kernel_rfl) (by kernel_rfl) (by kernel_rfl) (by kernel_rfl) (fun ops hops A hA => ?_)
          have hsz : A.tmps.size = 137 := by rw [hA]; rfl
          have base0 : A.eval (.tmp 0) = .slice (some ⟨b, off, none⟩) n cap := by rw [hA]; rfl
          have base6 : A.eval (.tmp 6) = .pointer (some ⟨w.heap.size, 0, none⟩) := by rw [hA]; rfl
          have base11 : A.eval (.tmp 11) = .bool false := by rw [hA]; rfl
          have base12 : A.eval (.tmp 12) = .int .i64 (k : Int) := by rw [hA]; rfl
          have HAA := Lib.hid hA; clear hA
          obtain ⟨o0, po0, q0, d0, gd0⟩ : ∃ o, ops[0]? = some o ∧ o.op = .move (.tmp 11) ∧ o.dst = some 43 ∧ o.guard = none := ⟨_, by rw [hops]; rfl, rfl, rfl, rfl⟩
          obtain ⟨o1, po1, q1, d1, gd1⟩ : ∃ o, ops[1]? = some o ∧ o.op = .move (.tmp 43) ∧ o.dst = some 44 ∧ o.guard = none := ⟨_, by rw [hops]; rfl, rfl, rfl, rfl⟩
          obtain ⟨o2, po2, q2, d2, gd2⟩ : ∃ o, ops[2]? = some o ∧ o.op = .move (.tmp 0) ∧ o.dst = some 45 ∧ o.guard = some (1, false) := ⟨_, by rw [hops]; rfl, rfl, rfl, rfl⟩
          obtain ⟨o3, po3, q3, d3, gd3⟩ : ∃ o, ops[3]? = some o ∧ o.op = .move (.tmp 12) ∧ o.dst = some 46 ∧ o.guard = some (1, false) := ⟨_, by rw [hops]; rfl, rfl, rfl, rfl⟩
          obtain ⟨o4, po4, q4, d4, gd4⟩ : ∃ o, ops[4]? = some o ∧ o.op = .indexAddr 32 (.tmp 45) (.tmp 46) ∧ o.dst = some 47 ∧ o.guard = some (1, false) := ⟨_, by rw [hops]; rfl, rfl, rfl, rfl⟩
          obtain ⟨o5, po5, q5, d5, gd5⟩ : ∃ o, ops[5]? = some o ∧ o.op = .fieldAddr 34 (.tmp 47) 0 ∧ o.dst = some 48 ∧ o.guard = some (1, false) := ⟨_, by rw [hops]; rfl, rfl, rfl, rfl⟩
          obtain ⟨o6, po6, q6, d6, gd6⟩ : ∃ o, ops[6]? = some o ∧ o.op = .load 9 (.tmp 48) ∧ o.dst = some 49 ∧ o.guard = some (1, false) := ⟨_, by rw [hops]; rfl, rfl, rfl, rfl⟩
          obtain ⟨o7, po7, q7, d7, gd7⟩ : ∃ o, ops[7]? = some o ∧ o.op = .fieldAddr 34 (.tmp 6) 0 ∧ o.dst = some 50 ∧ o.guard = some (1, false) := ⟨_, by rw [hops]; rfl, rfl, rfl, rfl⟩
          obtain ⟨o8, po8, q8, d8, gd8⟩ : ∃ o, ops[8]? = some o ∧ o.op = .load 9 (.tmp 50) ∧ o.dst = some 51 ∧ o.guard = some (1, false) := ⟨_, by rw [hops]; rfl, rfl, rfl, rfl⟩
          obtain ⟨o9, po9, q9, d9, gd9⟩ : ∃ o, ops[9]? = some o ∧ o.op = .binOp .eql 9 (.tmp 49) (.tmp 51) 9 ∧ o.dst = some 52 ∧ o.guard = some (1, false) := ⟨_, by rw [hops]; rfl, rfl, rfl, rfl⟩
          obtain ⟨o10, po10, q10, d10, gd10⟩ : ∃ o, ops[10]? = some o ∧ o.op = .pick (.tmp 44) (.const (.bool true)) (.tmp 52) ∧ o.dst = some 53 ∧ o.guard = none := ⟨_, by rw [hops]; rfl, rfl, rfl, rfl⟩
          obtain ⟨o11, po11, q11, d11, gd11⟩ : ∃ o, ops[11]? = some o ∧ o.op = .assign (.tmp 53) ∧ o.dst = some 11 ∧ o.guard = none := ⟨_, by rw [hops]; rfl, rfl, rfl, rfl⟩
          clear hops
          refine met_free po0 d0 (wanted_of gd0) (fun w' h' => run_move q0 base11 w') ?_
          refine met_free po1 d1 (wanted_of gd1) (fun w' h' => run_move q1 (eval_same _ _ _ (by rw [hsz]; decide)) w') ?_
          refine met_free po2 d2 (w_false gd2 po1 d1 (eval_same _ _ _ (by simp only [put_size, hsz]; decide))) (fun w' h' => run_move q2 ((eval_other _ 44 0 _ (by decide)).trans ((eval_other _ 43 0 _ (by decide)).trans base0)) w') ?_
          refine met_free po3 d3 (w_false gd3 po1 d1 ((eval_other _ 45 44 _ (by decide)).trans (eval_same _ _ _ (by simp only [put_size, hsz]; decide)))) (fun w' h' => run_move q3 ((eval_other _ 45 12 _ (by decide)).trans ((eval_other _ 44 12 _ (by decide)).trans ((eval_other _ 43 12 _ (by decide)).trans base12))) w') ?_
          refine met_free po4 d4 (w_false gd4 po1 d1 ((eval_other _ 46 44 _ (by decide)).trans ((eval_other _ 45 44 _ (by decide)).trans (eval_same _ _ _ (by simp only [put_size, hsz]; decide))))) (fun w' h' => ruleT.run_ix q4 ((eval_other _ 46 45 _ (by decide)).trans (eval_same _ _ _ (by simp only [put_size, hsz]; decide))) (eval_same _ _ _ (by simp only [put_size, hsz]; decide)) HKL.out w') ?_
          refine met_free po5 d5 (w_false gd5 po1 d1 ((eval_other _ 47 44 _ (by decide)).trans ((eval_other _ 46 44 _ (by decide)).trans ((eval_other _ 45 44 _ (by decide)).trans (eval_same _ _ _ (by simp only [put_size, hsz]; decide)))))) (fun w' h' => run_fieldR (by decide) q5 (eval_same _ _ _ (by simp only [put_size, hsz]; decide)) w') ?_
          refine met_free po6 d6 (w_false gd6 po1 d1 ((eval_other _ 48 44 _ (by decide)).trans ((eval_other _ 47 44 _ (by decide)).trans ((eval_other _ 46 44 _ (by decide)).trans ((eval_other _ 45 44 _ (by decide)).trans (eval_same _ _ _ (by simp only [put_size, hsz]; decide))))))) (fun w' h' => run_loadStr q6 (eval_same _ _ _ (by simp only [put_size, hsz]; decide)) (oneAt h'.more).1) ?_
          refine met_free po7 d7 (w_false gd7 po1 d1 ((eval_other _ 49 44 _ (by decide)).trans ((eval_other _ 48 44 _ (by decide)).trans ((eval_other _ 47 44 _ (by decide)).trans ((eval_other _ 46 44 _ (by decide)).trans ((eval_other _ 45 44 _ (by decide)).trans (eval_same _ _ _ (by simp only [put_size, hsz]; decide)))))))) (fun w' h' => run_fieldR (by decide) q7 ((eval_other _ 49 6 _ (by decide)).trans ((eval_other _ 48 6 _ (by decide)).trans ((eval_other _ 47 6 _ (by decide)).trans ((eval_other _ 46 6 _ (by decide)).trans ((eval_other _ 45 6 _ (by decide)).trans ((eval_other _ 44 6 _ (by decide)).trans ((eval_other _ 43 6 _ (by decide)).trans base6))))))) w') ?_
          refine met_free po8 d8 (w_false gd8 po1 d1 ((eval_other _ 50 44 _ (by decide)).trans ((eval_other _ 49 44 _ (by decide)).trans ((eval_other _ 48 44 _ (by decide)).trans ((eval_other _ 47 44 _ (by decide)).trans ((eval_other _ 46 44 _ (by decide)).trans ((eval_other _ 45 44 _ (by decide)).trans (eval_same _ _ _ (by simp only [put_size, hsz]; decide))))))))) (fun w' h' => run_loadStr q8 (eval_same _ _ _ (by simp only [put_size, hsz]; decide)) h'.c0.1) ?_
          refine met_free po9 d9 (w_false gd9 po1 d1 ((eval_other _ 51 44 _ (by decide)).trans ((eval_other _ 50 44 _ (by decide)).trans ((eval_other _ 49 44 _ (by decide)).trans ((eval_other _ 48 44 _ (by decide)).trans ((eval_other _ 47 44 _ (by decide)).trans ((eval_other _ 46 44 _ (by decide)).trans ((eval_other _ 45 44 _ (by decide)).trans (eval_same _ _ _ (by simp only [put_size, hsz]; decide)))))))))) (fun w' h' => r_eqS rfl q9 ((eval_other _ 51 49 _ (by decide)).trans ((eval_other _ 50 49 _ (by decide)).trans (eval_same _ _ _ (by simp only [put_size, hsz]; decide)))) (eval_same _ _ _ (by simp only [put_size, hsz]; decide)) w') ?_
          refine met_free po10 d10 (wanted_of gd10) (fun w' h' => r_pickF q10 ((eval_other _ 52 44 _ (by decide)).trans ((eval_other _ 51 44 _ (by decide)).trans ((eval_other _ 50 44 _ (by decide)).trans ((eval_other _ 49 44 _ (by decide)).trans ((eval_other _ 48 44 _ (by decide)).trans ((eval_other _ 47 44 _ (by decide)).trans ((eval_other _ 46 44 _ (by decide)).trans ((eval_other _ 45 44 _ (by decide)).trans (eval_same _ _ _ (by simp only [put_size, hsz]; decide)))))))))) (eval_same _ _ _ (by simp only [put_size, hsz]; decide)) w') ?_
          refine met_free po11 d11 (wanted_of gd11) (fun w' h' => run_assign q11 (eval_same _ _ _ (by simp only [put_size, hsz]; decide)) w') ?_
          show NoPanic _ .normal _ _
          refine NoPanic.normal ?_
          rw [HAA.out]
          go_frame
          clear HAA
          clear po0 q0 d0 gd0 po1 q1 d1 gd1 po2 q2 d2 gd2 po3 q3 d3 gd3 po4 q4 d4 gd4 po5 q5 d5 gd5 po6 q6 d6 gd6 po7 q7 d7 gd7 po8 q8 d8 gd8 po9 q9 d9 gd9 po10 q10 d10 gd10 po11 q11 d11 gd11
          clear base0 base6 base11 base12 hsz
          go_wp2_with fail
          go_roundw
          case rel => exact ⟨k + 1, by omega, by go_num, by rw [HST.out, HSB.out]; exact congrArg Value.bool (eq_toList _ _), ⟨(HAR.out.step (Below.refl _ _).drew).box, (HAR.out.step (Below.refl _ _).drew).came, ⟨.inl rfl⟩, (HAR.out.step (Below.refl _ _).drew).below⟩⟩
          case measure => simp [intOf]; omega
        · have HSB := Lib.hid hsb
          clear hsb
          go_upto_region 9 with (show wpList _ _ _ (⟨_, .indexAddr _ _ _, _, _, _, _⟩ :: _) _ _; refine wpList_run (by rfl) (ruleT.run_ix rfl rfl rfl HKL.out _) ?_)
          clear c0 c1 q3
          refine region_phase (fun wr => AdS w.heap.size ⟨rp, rr⟩ (some ⟨b, off, none⟩) (some ⟨b, off + k * 2, none⟩) l [⟨xp, xr⟩] w wr) (fun _ => True) 99 (HAR.out.step (Below.refl _ _).drew) trivial [(0, .free), (1, .free), (2, .free), (3, .free), (4, .free), (5, .free), (6, .free), (7, .free), (8, .free), (9, .free), (10, .free), (11, .free)] (by kernel_rfl) (by kernel_rfl) (by kernel_rfl) (by kernel_rfl) (fun ops hops A hA => ?_)
          have hsz : A.tmps.size = 137 := by rw [hA]; rfl
          have base0 : A.eval (.tmp 0) = .slice (some ⟨b, off, none⟩) n cap := by rw [hA]; rfl
          have base6 : A.eval (.tmp 6) = .pointer (some ⟨w.heap.size, 0, none⟩) := by rw [hA]; rfl
          have base11 : A.eval (.tmp 11) = .bool true := by rw [hA]; rfl
          have base12 : A.eval (.tmp 12) = .int .i64 (k : Int) := by rw [hA]; rfl
          have HAA := Lib.hid hA; clear hA
          obtain ⟨o0, po0, q0, d0, gd0⟩ : ∃ o, ops[0]? = some o ∧ o.op = .move (.tmp 11) ∧ o.dst = some 43 ∧ o.guard = none := ⟨_, by rw [hops]; rfl, rfl, rfl, rfl⟩
          obtain ⟨o1, po1, q1, d1, gd1⟩ : ∃ o, ops[1]? = some o ∧ o.op = .move (.tmp 43) ∧ o.dst = some 44 ∧ o.guard = none := ⟨_, by rw [hops]; rfl, rfl, rfl, rfl⟩
          obtain ⟨o2, po2, q2, d2, gd2⟩ : ∃ o, ops[2]? = some o ∧ o.op = .move (.tmp 0) ∧ o.dst = some 45 ∧ o.guard = some (1, false) := ⟨_, by rw [hops]; rfl, rfl, rfl, rfl⟩
          obtain ⟨o3, po3, q3, d3, gd3⟩ : ∃ o, ops[3]? = some o ∧ o.op = .move (.tmp 12) ∧ o.dst = some 46 ∧ o.guard = some (1, false) := ⟨_, by rw [hops]; rfl, rfl, rfl, rfl⟩
          obtain ⟨o4, po4, q4, d4, gd4⟩ : ∃ o, ops[4]? = some o ∧ o.op = .indexAddr 32 (.tmp 45) (.tmp 46) ∧ o.dst = some 47 ∧ o.guard = some (1, false) := ⟨_, by rw [hops]; rfl, rfl, rfl, rfl⟩
          obtain ⟨o5, po5, q5, d5, gd5⟩ : ∃ o, ops[5]? = some o ∧ o.op = .fieldAddr 34 (.tmp 47) 0 ∧ o.dst = some 48 ∧ o.guard = some (1, false) := ⟨_, by rw [hops]; rfl, rfl, rfl, rfl⟩
          obtain ⟨o6, po6, q6, d6, gd6⟩ : ∃ o, ops[6]? = some o ∧ o.op = .load 9 (.tmp 48) ∧ o.dst = some 49 ∧ o.guard = some (1, false) := ⟨_, by rw [hops]; rfl, rfl, rfl, rfl⟩
          obtain ⟨o7, po7, q7, d7, gd7⟩ : ∃ o, ops[7]? = some o ∧ o.op = .fieldAddr 34 (.tmp 6) 0 ∧ o.dst = some 50 ∧ o.guard = some (1, false) := ⟨_, by rw [hops]; rfl, rfl, rfl, rfl⟩
          obtain ⟨o8, po8, q8, d8, gd8⟩ : ∃ o, ops[8]? = some o ∧ o.op = .load 9 (.tmp 50) ∧ o.dst = some 51 ∧ o.guard = some (1, false) := ⟨_, by rw [hops]; rfl, rfl, rfl, rfl⟩
          obtain ⟨o9, po9, q9, d9, gd9⟩ : ∃ o, ops[9]? = some o ∧ o.op = .binOp .eql 9 (.tmp 49) (.tmp 51) 9 ∧ o.dst = some 52 ∧ o.guard = some (1, false) := ⟨_, by rw [hops]; rfl, rfl, rfl, rfl⟩
          obtain ⟨o10, po10, q10, d10, gd10⟩ : ∃ o, ops[10]? = some o ∧ o.op = .pick (.tmp 44) (.const (.bool true)) (.tmp 52) ∧ o.dst = some 53 ∧ o.guard = none := ⟨_, by rw [hops]; rfl, rfl, rfl, rfl⟩
          obtain ⟨o11, po11, q11, d11, gd11⟩ : ∃ o, ops[11]? = some o ∧ o.op = .assign (.tmp 53) ∧ o.dst = some 11 ∧ o.guard = none := ⟨_, by rw [hops]; rfl, rfl, rfl, rfl⟩
          clear hops
          refine met_free po0 d0 (wanted_of gd0) (fun w' h' => run_move q0 base11 w') ?_
          refine met_free po1 d1 (wanted_of gd1) (fun w' h' => run_move q1 (eval_same _ _ _ (by rw [hsz]; decide)) w') ?_
          refine m_unwanted po2 d2 (w_notFG gd2 po1 d1 (eval_same _ _ _ (by simp only [put_size, hsz]; decide))) ?_
          refine m_unwanted po3 d3 (w_notFG gd3 po1 d1 ((eval_other _ 45 44 _ (by decide)).trans (eval_same _ _ _ (by simp only [put_size, hsz]; decide)))) ?_
          refine m_unwanted po4 d4 (w_notFG gd4 po1 d1 ((eval_other _ 46 44 _ (by decide)).trans ((eval_other _ 45 44 _ (by decide)).trans (eval_same _ _ _ (by simp only [put_size, hsz]; decide))))) ?_
          refine m_unwanted po5 d5 (w_notFG gd5 po1 d1 ((eval_other _ 47 44 _ (by decide)).trans ((eval_other _ 46 44 _ (by decide)).trans ((eval_other _ 45 44 _ (by decide)).trans (eval_same _ _ _ (by simp only [put_size, hsz]; decide)))))) ?_
          refine m_unwanted po6 d6 (w_notFG gd6 po1 d1 ((eval_other _ 48 44 _ (by decide)).trans ((eval_other _ 47 44 _ (by decide)).trans ((eval_other _ 46 44 _ (by decide)).trans ((eval_other _ 45 44 _ (by decide)).trans (eval_same _ _ _ (by simp only [put_size, hsz]; decide))))))) ?_
          refine m_unwanted po7 d7 (w_notFG gd7 po1 d1 ((eval_other _ 49 44 _ (by decide)).trans ((eval_other _ 48 44 _ (by decide)).trans ((eval_other _ 47 44 _ (by decide)).trans ((eval_other _ 46 44 _ (by decide)).trans ((eval_other _ 45 44 _ (by decide)).trans (eval_same _ _ _ (by simp only [put_size, hsz]; decide)))))))) ?_
          refine m_unwanted po8 d8 (w_notFG gd8 po1 d1 ((eval_other _ 50 44 _ (by decide)).trans ((eval_other _ 49 44 _ (by decide)).trans ((eval_other _ 48 44 _ (by decide)).trans ((eval_other _ 47 44 _ (by decide)).trans ((eval_other _ 46 44 _ (by decide)).trans ((eval_other _ 45 44 _ (by decide)).trans (eval_same _ _ _ (by simp only [put_size, hsz]; decide))))))))) ?_
          refine m_unwanted po9 d9 (w_notFG gd9 po1 d1 ((eval_other _ 51 44 _ (by decide)).trans ((eval_other _ 50 44 _ (by decide)).trans ((eval_other _ 49 44 _ (by decide)).trans ((eval_other _ 48 44 _ (by decide)).trans ((eval_other _ 47 44 _ (by decide)).trans ((eval_other _ 46 44 _ (by decide)).trans ((eval_other _ 45 44 _ (by decide)).trans (eval_same _ _ _ (by simp only [put_size, hsz]; decide)))))))))) ?_
          refine met_free po10 d10 (wanted_of gd10) (fun w' h' => run_pick_true q10 ((eval_other _ 52 44 _ (by decide)).trans ((eval_other _ 51 44 _ (by decide)).trans ((eval_other _ 50 44 _ (by decide)).trans ((eval_other _ 49 44 _ (by decide)).trans ((eval_other _ 48 44 _ (by decide)).trans ((eval_other _ 47 44 _ (by decide)).trans ((eval_other _ 46 44 _ (by decide)).trans ((eval_other _ 45 44 _ (by decide)).trans (eval_same _ _ _ (by simp only [put_size, hsz]; decide)))))))))) rfl w') ?_
          refine met_free po11 d11 (wanted_of gd11) (fun w' h' => run_assign q11 (eval_same _ _ _ (by simp only [put_size, hsz]; decide)) w') ?_
          show NoPanic _ .normal _ _
          refine NoPanic.normal ?_
          rw [HAA.out]
          go_frame
          clear HAA
          clear po0 q0 d0 gd0 po1 q1 d1 gd1 po2 q2 d2 gd2 po3 q3 d3 gd3 po4 q4 d4 gd4 po5 q5 d5 gd5 po6 q6 d6 gd6 po7 q7 d7 gd7 po8 q8 d8 gd8 po9 q9 d9 gd9 po10 q10 d10 gd10 po11 q11 d11 gd11
          clear base0 base6 base11 base12 hsz
          go_wp2_with fail
          go_roundw
          case rel => exact ⟨k + 1, by omega, by go_num, by rw [HST.out, HSB.out]; rfl, ⟨(HAR.out.step (Below.refl _ _).drew).box, (HAR.out.step (Below.refl _ _).drew).came, ⟨.inl rfl⟩, (HAR.out.step (Below.refl _ _).drew).below⟩⟩
          case measure => simp [intOf]; omega
    · have HTA : Hid (l.take k = l) := show _ = _ from List.take_of_length_le (by rw [HN.out]; omega)
      obtain rfl : k = n := by omega
      rw [HTA.out]
      obtain ⟨sm, hsm⟩ : ∃ sm, sameB l rp = sm := ⟨_, rfl⟩
      rw [hsm]
      have HSMV := Lib.hid hsm
      clear hsm
      go_wp2_with fail
      refine (pick_any z ((k : Int) + 1) wr (by omega) (by omega)).mono ?_
      rintro e w' ⟨j, hj, rfl, rfl⟩
      have hjn : j ≤ k := by omega
      have HJ := Lib.hid hjn
      have q4 : (j : Int) ≤ (cap : Int) := by have := HCP.out; omega
      clear hj
      go_wp2_with fail
      refine (copyRules_any (l.take j) j p cap wr (by rw [List.length_take, HN.out]; have := HJ.out; omega) (by omega) (HG.out.came.take j)).mono ?_
      rintro e w2 ⟨v, rfl, ho, hb⟩
      have HG2 := Lib.hid (HG.out.step hb)
      have HO2 := Lib.hid ho
      have HB2 := Lib.hid hb
      have HTJ : Hid ((l.take j).length ≤ 1000000) := show _ ≤ _ from by rw [List.length_take]; omega
      clear hb ho
      have hlen2 := RuleM.len ⟨rp, rr⟩
      have hgz := HB2.out.size
      go_upto_region 13 with (first
        | (show wpList _ _ _ (⟨_, .load 34 (.tmp 6), _, _, _, _⟩ :: _) _ _; refine wpList_run (by rfl) (run_loadBlk rfl rfl HG2.out.box (by kernel_rfl) (size_rule _)) ?_)
        | (at_builtin; refine ruleT.wpList_grow (e := ⟨rp, rr⟩) RuleM.len (by rfl) rfl rfl (HO2.out.below (boxBelow _ _)) rfl (heap_new_at rfl) (RuleM.ones _) HTJ.out (by simp; omega) ?_; intro v3 w3 ho3 hb3 _ _; have HO3 := Lib.hid ho3; have HB3 := Lib.hid ((HB2.out.trans ((boxBelow w2 _).mono hgz)).trans hb3); clear ho3 hb3))
      clear hlen2
      obtain ⟨p2, hp2⟩ : ∃ p2, fromP 2 p cap j = p2 := ⟨_, rfl⟩
      have HSRC : Hid (RulesAt w3 p2 (l.drop j)) := show RowOf _ _ _ _ _ from by
        rw [← hp2]
        exact RowOf.from (HG.out.came.below HB3.out) HN.out HJ.out HCP.out
      have HDL : Hid ((l.drop j).length = k - j) := show _ = _ from by rw [List.length_drop, HN.out]
      have HFL : Hid ((l.take j ++ [(⟨rp, rr⟩ : RuleM)]).length + (k - j) ≤ 1000000) := show _ ≤ _ from by rw [List.length_append, List.length_take]; simp; omega
      have hsz3 := HB3.out.size
      have HFR : Hid (∀ (ρ : Operand → Value) (o : Oper) (x y : Operand), o.op = .slice 32 x (some y) none none → ρ x = .slice p k cap → ρ y = .int .i64 (j : Int) → ∀ w, (execOp ρ o).run Try.prog w = .ok (.value (.slice p2 (k - j) (cap - j))) w) := show ∀ _ _ _ _, _ from fun _ _ _ _ ho hx hy w => by
        rw [← hp2]
        exact ruleT.run_from ho HP0.out HJ.out HCP.out hx hy w
      clear hp2
      go_upto_region 14 with (first
        | (show wpList _ _ _ (⟨_, .slice _ _ (some _) none none, _, _, _, _⟩ :: _) _ _; refine wpList_run (by rfl) (HFR.out _ _ _ _ rfl rfl rfl _) ?_)
        | (at_builtin; refine ruleT.wpList_growMany RuleM.len RuleM.ones (by rfl) rfl rfl rfl HO3.out HDL.out HSRC.out HFL.out hsz3 ?_; intro v4 w4 ho4 hb4; have HO4 := Lib.hid ho4; have HB4 := Lib.hid (HB3.out.trans hb4); clear ho4 hb4))
      obtain ⟨q, c4, rfl, hc4, -, hq4, -⟩ := HO4.out.lies RuleM.len
      have HMR : Hid (l.take j ++ [(⟨rp, rr⟩ : RuleM)] ++ l.drop j = l.take j ++ [(⟨rp, rr⟩ : RuleM)] ++ l.drop j) := show _ = _ from rfl
      have HSKIP : Hid (begS s rp = false → allowedM (l.take j ++ [(⟨rp, rr⟩ : RuleM)] ++ l.drop j) bs s = allowedM l bs s) := show _ → _ from fun h => by
        have h2 := allowed_skip (l.take j) (l.drop j) ⟨rp, rr⟩ s bs h
        rwa [List.take_append_drop] at h2
      have HNEW : Hid (sameB l rp = false → rp = s → allowedM (l.take j ++ [(⟨rp, rr⟩ : RuleM)] ++ l.drop j) bs s = hasZ rr bs) := show _ → _ → _ from fun h h2 => allowed_new l j ⟨rp, rr⟩ s bs h h2
      have HMOK : Hid (∀ x ∈ l.take j ++ [(⟨rp, rr⟩ : RuleM)] ++ l.drop j, x.Ok) := show ∀ _ _, _ from fun x hx => by
        rcases List.mem_append.1 hx with hx | hx
        · rcases List.mem_append.1 hx with hx | hx
          · exact HOK.out x (List.mem_of_mem_take hx)
          · rw [List.mem_singleton.1 hx]; exact HRO.out
        · exact HOK.out x (List.mem_of_mem_drop hx)
      have HML : Hid ((l.take j ++ [(⟨rp, rr⟩ : RuleM)] ++ l.drop j).length = k + 1) := show _ = _ from by rw [List.length_append, List.length_append, HDL.out, List.length_take, HN.out]; simp; omega
      rw [HML.out]
      have HG4 : Hid (AdS w.heap.size ⟨rp, rr⟩ p q l (l.take j ++ [(⟨rp, rr⟩ : RuleM)] ++ l.drop j) w w4) := show AdS _ _ _ _ _ _ _ _ from by
        have h := HG.out.step HB4.out
        exact ⟨h.box, h.came, hq4, h.below⟩
      generalize l.take j ++ [(⟨rp, rr⟩ : RuleM)] ++ l.drop j = more at HSKIP HNEW HMOK HML HG4
      clear HMR HO4 hc4 hq4 HO3 HSRC HDL HFL HFR HO2 HB2 hsz3 hgz HB3 HB4 HG2 HG HTJ HTA hlt
      clear q4
      have HAL : Hid (∀ w', AdS w.heap.size ⟨rp, rr⟩ p q l more w w' → Calls Try.prog 24 #[.slice p k cap, .int .i64 bs, .string s] w' (ReturnsG (allowedM l bs s) w')) := show ∀ _, _ → _ from fun w' h => allowed_any l k p cap bs s w' HN.out (by omega) h.came HOK.out HBS.out
      have HAM : Hid (∀ w', AdS w.heap.size ⟨rp, rr⟩ p q l more w w' → Calls Try.prog 24 #[.slice q (k + 1) c4, .int .i64 bs, .string s] w' (ReturnsG (allowedM more bs s) w')) := show ∀ _, _ → _ from fun w' h => allowed_any more (k + 1) q c4 bs s w' HML.out (by omega) h.more HMOK.out HBS.out
      go_wp2_with fail
      refine (HAL.out _ HG4.out).mono ?_
      rintro e w5 ⟨rfl, hb⟩
      have HG5 := Lib.hid (HG4.out.step hb)
      clear hb
      obtain ⟨al, hal⟩ : ∃ al, allowedM l bs s = al := ⟨_, rfl⟩
      rw [hal]
      rw [hal] at HSKIP HAL
      have HSM : Hid (sameB l rp = true → allowedM (l ++ [(⟨rp, rr⟩ : RuleM)]) bs s = al) := show _ → _ from fun h => (allowed_same l ⟨rp, rr⟩ s bs h).trans hal
      have HMAX := Lib.hid (And.intro hn200 HMS.out)
      clear hal
      go_upto_region 15 with (fail)
      go_cut [15] from 76 to 92 (fun s15 wx => s15 = .bool (begS s rp) ∧ AdS w.heap.size ⟨rp, rr⟩ p q l more w wx)
      case first =>
        by_cases hle : rp.size ≤ s.size
        · have HCUT := Lib.hid (begS_cut hle)
          have HLE : Hid (decide ((rp.size : Int) ≤ (s.size : Int)) = true) := show _ = _ from decide_eq_true (by omega)
          have HLN := Lib.hid hle
          clear hle
          refine region_phase (fun wr => AdS w.heap.size ⟨rp, rr⟩ p q l more w wr) (fun _ => True) 99 (HG5.out.step (Below.refl _ _).drew) trivial [(0, .free), (1, .free), (2, .free), (3, .free), (4, .free), (5, .free), (6, .free), (7, .free), (8, .free), (9, .free), (10, .free), (11, .free), (12, .free), (13, .free), (14, .free), (15, .free), (16, .free)] (by kernel_rfl) (by kernel_rfl) (by kernel_rfl) (by kernel_rfl) (fun ops hops A hA => ?_)
          have hsz : A.tmps.size = 137 := by rw [hA]; rfl
          have base4 : A.eval (.tmp 4) = .string s := by rw [hA]; rfl
          have base6 : A.eval (.tmp 6) = .pointer (some ⟨w.heap.size, 0, none⟩) := by rw [hA]; rfl
          have HAA := Lib.hid hA; clear hA
          obtain ⟨o0, po0, q0, d0, gd0⟩ : ∃ o, ops[0]? = some o ∧ o.op = .fieldAddr 34 (.tmp 6) 0 ∧ o.dst = some 76 ∧ o.guard = none := ⟨_, by rw [hops]; rfl, rfl, rfl, rfl⟩
          obtain ⟨o1, po1, q1, d1, gd1⟩ : ∃ o, ops[1]? = some o ∧ o.op = .load 9 (.tmp 76) ∧ o.dst = some 77 ∧ o.guard = none := ⟨_, by rw [hops]; rfl, rfl, rfl, rfl⟩
          obtain ⟨o2, po2, q2, d2, gd2⟩ : ∃ o, ops[2]? = some o ∧ o.op = .call { callee := .builtin .len, args := #[.tmp 77], argTypes := #[9] } ∧ o.dst = some 78 ∧ o.guard = none := ⟨_, by rw [hops]; rfl, rfl, rfl, rfl⟩
          obtain ⟨o3, po3, q3, d3, gd3⟩ : ∃ o, ops[3]? = some o ∧ o.op = .move (.tmp 4) ∧ o.dst = some 79 ∧ o.guard = none := ⟨_, by rw [hops]; rfl, rfl, rfl, rfl⟩
          obtain ⟨o4, po4, q4, d4, gd4⟩ : ∃ o, ops[4]? = some o ∧ o.op = .call { callee := .builtin .len, args := #[.tmp 79], argTypes := #[9] } ∧ o.dst = some 80 ∧ o.guard = none := ⟨_, by rw [hops]; rfl, rfl, rfl, rfl⟩
          obtain ⟨o5, po5, q5, d5, gd5⟩ : ∃ o, ops[5]? = some o ∧ o.op = .binOp .leq 3 (.tmp 78) (.tmp 80) 3 ∧ o.dst = some 81 ∧ o.guard = none := ⟨_, by rw [hops]; rfl, rfl, rfl, rfl⟩
          obtain ⟨o6, po6, q6, d6, gd6⟩ : ∃ o, ops[6]? = some o ∧ o.op = .move (.tmp 81) ∧ o.dst = some 82 ∧ o.guard = none := ⟨_, by rw [hops]; rfl, rfl, rfl, rfl⟩
          obtain ⟨o7, po7, q7, d7, gd7⟩ : ∃ o, ops[7]? = some o ∧ o.op = .move (.tmp 4) ∧ o.dst = some 83 ∧ o.guard = some (6, true) := ⟨_, by rw [hops]; rfl, rfl, rfl, rfl⟩
          obtain ⟨o8, po8, q8, d8, gd8⟩ : ∃ o, ops[8]? = some o ∧ o.op = .fieldAddr 34 (.tmp 6) 0 ∧ o.dst = some 84 ∧ o.guard = some (6, true) := ⟨_, by rw [hops]; rfl, rfl, rfl, rfl⟩
          obtain ⟨o9, po9, q9, d9, gd9⟩ : ∃ o, ops[9]? = some o ∧ o.op = .load 9 (.tmp 84) ∧ o.dst = some 85 ∧ o.guard = some (6, true) := ⟨_, by rw [hops]; rfl, rfl, rfl, rfl⟩
          obtain ⟨o10, po10, q10, d10, gd10⟩ : ∃ o, ops[10]? = some o ∧ o.op = .call { callee := .builtin .len, args := #[.tmp 85], argTypes := #[9] } ∧ o.dst = some 86 ∧ o.guard = some (6, true) := ⟨_, by rw [hops]; rfl, rfl, rfl, rfl⟩
          obtain ⟨o11, po11, q11, d11, gd11⟩ : ∃ o, ops[11]? = some o ∧ o.op = .slice 9 (.tmp 83) none (some (.tmp 86)) none ∧ o.dst = some 87 ∧ o.guard = some (6, true) := ⟨_, by rw [hops]; rfl, rfl, rfl, rfl⟩
          obtain ⟨o12, po12, q12, d12, gd12⟩ : ∃ o, ops[12]? = some o ∧ o.op = .fieldAddr 34 (.tmp 6) 0 ∧ o.dst = some 88 ∧ o.guard = some (6, true) := ⟨_, by rw [hops]; rfl, rfl, rfl, rfl⟩
          obtain ⟨o13, po13, q13, d13, gd13⟩ : ∃ o, ops[13]? = some o ∧ o.op = .load 9 (.tmp 88) ∧ o.dst = some 89 ∧ o.guard = some (6, true) := ⟨_, by rw [hops]; rfl, rfl, rfl, rfl⟩
          obtain ⟨o14, po14, q14, d14, gd14⟩ : ∃ o, ops[14]? = some o ∧ o.op = .binOp .eql 9 (.tmp 87) (.tmp 89) 9 ∧ o.dst = some 90 ∧ o.guard = some (6, true) := ⟨_, by rw [hops]; rfl, rfl, rfl, rfl⟩
          obtain ⟨o15, po15, q15, d15, gd15⟩ : ∃ o, ops[15]? = some o ∧ o.op = .pick (.tmp 82) (.tmp 90) (.const (.bool false)) ∧ o.dst = some 91 ∧ o.guard = none := ⟨_, by rw [hops]; rfl, rfl, rfl, rfl⟩
          obtain ⟨o16, po16, q16, d16, gd16⟩ : ∃ o, ops[16]? = some o ∧ o.op = .assign (.tmp 91) ∧ o.dst = some 15 ∧ o.guard = none := ⟨_, by rw [hops]; rfl, rfl, rfl, rfl⟩
          clear hops
          refine met_free po0 d0 (wanted_of gd0) (fun w' h' => run_fieldR (by decide) q0 base6 w') ?_
          refine met_free po1 d1 (wanted_of gd1) (fun w' h' => run_loadStr q1 (eval_same _ _ _ (by rw [hsz]; decide)) h'.c0.1) ?_
          refine met_free po2 d2 (wanted_of gd2) (fun w' h' => run_lenS q2 (eval_same _ _ _ (by simp only [put_size, hsz]; decide)) w') ?_
          refine met_free po3 d3 (wanted_of gd3) (fun w' h' => run_move q3 ((eval_other _ 78 4 _ (by decide)).trans ((eval_other _ 77 4 _ (by decide)).trans ((eval_other _ 76 4 _ (by decide)).trans base4))) w') ?_
          refine met_free po4 d4 (wanted_of gd4) (fun w' h' => run_lenS q4 (eval_same _ _ _ (by simp only [put_size, hsz]; decide)) w') ?_
          refine met_free po5 d5 (wanted_of gd5) (fun w' h' => r_leqV HLE.out q5 ((eval_other _ 80 78 _ (by decide)).trans ((eval_other _ 79 78 _ (by decide)).trans (eval_same _ _ _ (by simp only [put_size, hsz]; decide)))) (eval_same _ _ _ (by simp only [put_size, hsz]; decide)) w') ?_
          refine met_free po6 d6 (wanted_of gd6) (fun w' h' => run_move q6 (eval_same _ _ _ (by simp only [put_size, hsz]; decide)) w') ?_
          refine met_free po7 d7 (wanted_guard gd7 po6 d6 (eval_same _ _ _ (by simp only [put_size, hsz]; decide))) (fun w' h' => run_move q7 ((eval_other _ 82 4 _ (by decide)).trans ((eval_other _ 81 4 _ (by decide)).trans ((eval_other _ 80 4 _ (by decide)).trans ((eval_other _ 79 4 _ (by decide)).trans ((eval_other _ 78 4 _ (by decide)).trans ((eval_other _ 77 4 _ (by decide)).trans ((eval_other _ 76 4 _ (by decide)).trans base4))))))) w') ?_
          refine met_free po8 d8 (wanted_guard gd8 po6 d6 ((eval_other _ 83 82 _ (by decide)).trans (eval_same _ _ _ (by simp only [put_size, hsz]; decide)))) (fun w' h' => run_fieldR (by decide) q8 ((eval_other _ 83 6 _ (by decide)).trans ((eval_other _ 82 6 _ (by decide)).trans ((eval_other _ 81 6 _ (by decide)).trans ((eval_other _ 80 6 _ (by decide)).trans ((eval_other _ 79 6 _ (by decide)).trans ((eval_other _ 78 6 _ (by decide)).trans ((eval_other _ 77 6 _ (by decide)).trans ((eval_other _ 76 6 _ (by decide)).trans base6)))))))) w') ?_
          refine met_free po9 d9 (wanted_guard gd9 po6 d6 ((eval_other _ 84 82 _ (by decide)).trans ((eval_other _ 83 82 _ (by decide)).trans (eval_same _ _ _ (by simp only [put_size, hsz]; decide))))) (fun w' h' => run_loadStr q9 (eval_same _ _ _ (by simp only [put_size, hsz]; decide)) h'.c0.1) ?_
          refine met_free po10 d10 (wanted_guard gd10 po6 d6 ((eval_other _ 85 82 _ (by decide)).trans ((eval_other _ 84 82 _ (by decide)).trans ((eval_other _ 83 82 _ (by decide)).trans (eval_same _ _ _ (by simp only [put_size, hsz]; decide)))))) (fun w' h' => run_lenS q10 (eval_same _ _ _ (by simp only [put_size, hsz]; decide)) w') ?_
          refine met_free po11 d11 (wanted_guard gd11 po6 d6 ((eval_other _ 86 82 _ (by decide)).trans ((eval_other _ 85 82 _ (by decide)).trans ((eval_other _ 84 82 _ (by decide)).trans ((eval_other _ 83 82 _ (by decide)).trans (eval_same _ _ _ (by simp only [put_size, hsz]; decide))))))) (fun w' h' => run_cutTo HLN.out q11 ((eval_other _ 86 83 _ (by decide)).trans ((eval_other _ 85 83 _ (by decide)).trans ((eval_other _ 84 83 _ (by decide)).trans (eval_same _ _ _ (by simp only [put_size, hsz]; decide))))) (eval_same _ _ _ (by simp only [put_size, hsz]; decide)) w') ?_
          refine met_free po12 d12 (wanted_guard gd12 po6 d6 ((eval_other _ 87 82 _ (by decide)).trans ((eval_other _ 86 82 _ (by decide)).trans ((eval_other _ 85 82 _ (by decide)).trans ((eval_other _ 84 82 _ (by decide)).trans ((eval_other _ 83 82 _ (by decide)).trans (eval_same _ _ _ (by simp only [put_size, hsz]; decide)))))))) (fun w' h' => run_fieldR (by decide) q12 ((eval_other _ 87 6 _ (by decide)).trans ((eval_other _ 86 6 _ (by decide)).trans ((eval_other _ 85 6 _ (by decide)).trans ((eval_other _ 84 6 _ (by decide)).trans ((eval_other _ 83 6 _ (by decide)).trans ((eval_other _ 82 6 _ (by decide)).trans ((eval_other _ 81 6 _ (by decide)).trans ((eval_other _ 80 6 _ (by decide)).trans ((eval_other _ 79 6 _ (by decide)).trans ((eval_other _ 78 6 _ (by decide)).trans ((eval_other _ 77 6 _ (by decide)).trans ((eval_other _ 76 6 _ (by decide)).trans base6)))))))))))) w') ?_
          refine met_free po13 d13 (wanted_guard gd13 po6 d6 ((eval_other _ 88 82 _ (by decide)).trans ((eval_other _ 87 82 _ (by decide)).trans ((eval_other _ 86 82 _ (by decide)).trans ((eval_other _ 85 82 _ (by decide)).trans ((eval_other _ 84 82 _ (by decide)).trans ((eval_other _ 83 82 _ (by decide)).trans (eval_same _ _ _ (by simp only [put_size, hsz]; decide))))))))) (fun w' h' => run_loadStr q13 (eval_same _ _ _ (by simp only [put_size, hsz]; decide)) h'.c0.1) ?_
          refine met_free po14 d14 (wanted_guard gd14 po6 d6 ((eval_other _ 89 82 _ (by decide)).trans ((eval_other _ 88 82 _ (by decide)).trans ((eval_other _ 87 82 _ (by decide)).trans ((eval_other _ 86 82 _ (by decide)).trans ((eval_other _ 85 82 _ (by decide)).trans ((eval_other _ 84 82 _ (by decide)).trans ((eval_other _ 83 82 _ (by decide)).trans (eval_same _ _ _ (by simp only [put_size, hsz]; decide)))))))))) (fun w' h' => r_eqS HCUT.out q14 ((eval_other _ 89 87 _ (by decide)).trans ((eval_other _ 88 87 _ (by decide)).trans (eval_same _ _ _ (by simp only [put_size, hsz]; decide)))) (eval_same _ _ _ (by simp only [put_size, hsz]; decide)) w') ?_
          refine met_free po15 d15 (wanted_of gd15) (fun w' h' => run_pick_true q15 ((eval_other _ 90 82 _ (by decide)).trans ((eval_other _ 89 82 _ (by decide)).trans ((eval_other _ 88 82 _ (by decide)).trans ((eval_other _ 87 82 _ (by decide)).trans ((eval_other _ 86 82 _ (by decide)).trans ((eval_other _ 85 82 _ (by decide)).trans ((eval_other _ 84 82 _ (by decide)).trans ((eval_other _ 83 82 _ (by decide)).trans (eval_same _ _ _ (by simp only [put_size, hsz]; decide)))))))))) (eval_same _ _ _ (by simp only [put_size, hsz]; decide)) w') ?_
          refine met_free po16 d16 (wanted_of gd16) (fun w' h' => run_assign q16 (eval_same _ _ _ (by simp only [put_size, hsz]; decide)) w') ?_
          show NoPanic _ .normal _ _
          refine NoPanic.normal ?_
          rw [HAA.out]
          go_frame
          clear HAA
          clear po0 q0 d0 gd0 po1 q1 d1 gd1 po2 q2 d2 gd2 po3 q3 d3 gd3 po4 q4 d4 gd4 po5 q5 d5 gd5 po6 q6 d6 gd6 po7 q7 d7 gd7 po8 q8 d8 gd8 po9 q9 d9 gd9 po10 q10 d10 gd10 po11 q11 d11 gd11 po12 q12 d12 gd12 po13 q13 d13 gd13 po14 q14 d14 gd14 po15 q15 d15 gd15 po16 q16 d16 gd16
          clear base4 base6 hsz
          go_wp2_with fail
          go_meet
          exact ⟨rfl, (HG5.out.step (Below.refl _ _).drew)⟩
        · have HLE : Hid (decide ((rp.size : Int) ≤ (s.size : Int)) = false) := show _ = _ from decide_eq_false (by omega)
          have HBF := Lib.hid (begS_long (s := s) (p := rp) (by omega))
          clear hle
          refine region_phase (fun wr => AdS w.heap.size ⟨rp, rr⟩ p q l more w wr) (fun _ => True) 99 (HG5.out.step (Below.refl _ _).drew) trivial [(0, .free), (1, .free), (2, .free), (3, .free), (4, .free), (5, .free), (6, .free), (7, .free), (8, .free), (9, .free), (10, .free), (11, .free), (12, .free), (13, .free), (14, .free), (15, .free), (16, .free)] (by kernel_rfl) (by kernel_rfl) (by kernel_rfl) (by kernel_rfl) (fun ops hops A hA => ?_)
          have hsz : A.tmps.size = 137 := by rw [hA]; rfl
          have base4 : A.eval (.tmp 4) = .string s := by rw [hA]; rfl
          have base6 : A.eval (.tmp 6) = .pointer (some ⟨w.heap.size, 0, none⟩) := by rw [hA]; rfl
          have HAA := Lib.hid hA; clear hA
          obtain ⟨o0, po0, q0, d0, gd0⟩ : ∃ o, ops[0]? = some o ∧ o.op = .fieldAddr 34 (.tmp 6) 0 ∧ o.dst = some 76 ∧ o.guard = none := ⟨_, by rw [hops]; rfl, rfl, rfl, rfl⟩
          obtain ⟨o1, po1, q1, d1, gd1⟩ : ∃ o, ops[1]? = some o ∧ o.op = .load 9 (.tmp 76) ∧ o.dst = some 77 ∧ o.guard = none := ⟨_, by rw [hops]; rfl, rfl, rfl, rfl⟩
          obtain ⟨o2, po2, q2, d2, gd2⟩ : ∃ o, ops[2]? = some o ∧ o.op = .call { callee := .builtin .len, args := #[.tmp 77], argTypes := #[9] } ∧ o.dst = some 78 ∧ o.guard = none := ⟨_, by rw [hops]; rfl, rfl, rfl, rfl⟩
          obtain ⟨o3, po3, q3, d3, gd3⟩ : ∃ o, ops[3]? = some o ∧ o.op = .move (.tmp 4) ∧ o.dst = some 79 ∧ o.guard = none := ⟨_, by rw [hops]; rfl, rfl, rfl, rfl⟩
          obtain ⟨o4, po4, q4, d4, gd4⟩ : ∃ o, ops[4]? = some o ∧ o.op = .call { callee := .builtin .len, args := #[.tmp 79], argTypes := #[9] } ∧ o.dst = some 80 ∧ o.guard = none := ⟨_, by rw [hops]; rfl, rfl, rfl, rfl⟩
          obtain ⟨o5, po5, q5, d5, gd5⟩ : ∃ o, ops[5]? = some o ∧ o.op = .binOp .leq 3 (.tmp 78) (.tmp 80) 3 ∧ o.dst = some 81 ∧ o.guard = none := ⟨_, by rw [hops]; rfl, rfl, rfl, rfl⟩
          obtain ⟨o6, po6, q6, d6, gd6⟩ : ∃ o, ops[6]? = some o ∧ o.op = .move (.tmp 81) ∧ o.dst = some 82 ∧ o.guard = none := ⟨_, by rw [hops]; rfl, rfl, rfl, rfl⟩
          obtain ⟨o7, po7, q7, d7, gd7⟩ : ∃ o, ops[7]? = some o ∧ o.op = .move (.tmp 4) ∧ o.dst = some 83 ∧ o.guard = some (6, true) := ⟨_, by rw [hops]; rfl, rfl, rfl, rfl⟩
          obtain ⟨o8, po8, q8, d8, gd8⟩ : ∃ o, ops[8]? = some o ∧ o.op = .fieldAddr 34 (.tmp 6) 0 ∧ o.dst = some 84 ∧ o.guard = some (6, true) := ⟨_, by rw [hops]; rfl, rfl, rfl, rfl⟩
          obtain ⟨o9, po9, q9, d9, gd9⟩ : ∃ o, ops[9]? = some o ∧ o.op = .load 9 (.tmp 84) ∧ o.dst = some 85 ∧ o.guard = some (6, true) := ⟨_, by rw [hops]; rfl, rfl, rfl, rfl⟩
          obtain ⟨o10, po10, q10, d10, gd10⟩ : ∃ o, ops[10]? = some o ∧ o.op = .call { callee := .builtin .len, args := #[.tmp 85], argTypes := #[9] } ∧ o.dst = some 86 ∧ o.guard = some (6, true) := ⟨_, by rw [hops]; rfl, rfl, rfl, rfl⟩
          obtain ⟨o11, po11, q11, d11, gd11⟩ : ∃ o, ops[11]? = some o ∧ o.op = .slice 9 (.tmp 83) none (some (.tmp 86)) none ∧ o.dst = some 87 ∧ o.guard = some (6, true) := ⟨_, by rw [hops]; rfl, rfl, rfl, rfl⟩
          obtain ⟨o12, po12, q12, d12, gd12⟩ : ∃ o, ops[12]? = some o ∧ o.op = .fieldAddr 34 (.tmp 6) 0 ∧ o.dst = some 88 ∧ o.guard = some (6, true) := ⟨_, by rw [hops]; rfl, rfl, rfl, rfl⟩
          obtain ⟨o13, po13, q13, d13, gd13⟩ : ∃ o, ops[13]? = some o ∧ o.op = .load 9 (.tmp 88) ∧ o.dst = some 89 ∧ o.guard = some (6, true) := ⟨_, by rw [hops]; rfl, rfl, rfl, rfl⟩
          obtain ⟨o14, po14, q14, d14, gd14⟩ : ∃ o, ops[14]? = some o ∧ o.op = .binOp .eql 9 (.tmp 87) (.tmp 89) 9 ∧ o.dst = some 90 ∧ o.guard = some (6, true) := ⟨_, by rw [hops]; rfl, rfl, rfl, rfl⟩
          obtain ⟨o15, po15, q15, d15, gd15⟩ : ∃ o, ops[15]? = some o ∧ o.op = .pick (.tmp 82) (.tmp 90) (.const (.bool false)) ∧ o.dst = some 91 ∧ o.guard = none := ⟨_, by rw [hops]; rfl, rfl, rfl, rfl⟩
          obtain ⟨o16, po16, q16, d16, gd16⟩ : ∃ o, ops[16]? = some o ∧ o.op = .assign (.tmp 91) ∧ o.dst = some 15 ∧ o.guard = none := ⟨_, by rw [hops]; rfl, rfl, rfl, rfl⟩
          clear hops
          refine met_free po0 d0 (wanted_of gd0) (fun w' h' => run_fieldR (by decide) q0 base6 w') ?_
          refine met_free po1 d1 (wanted_of gd1) (fun w' h' => run_loadStr q1 (eval_same _ _ _ (by rw [hsz]; decide)) h'.c0.1) ?_
          refine met_free po2 d2 (wanted_of gd2) (fun w' h' => run_lenS q2 (eval_same _ _ _ (by simp only [put_size, hsz]; decide)) w') ?_
          refine met_free po3 d3 (wanted_of gd3) (fun w' h' => run_move q3 ((eval_other _ 78 4 _ (by decide)).trans ((eval_other _ 77 4 _ (by decide)).trans ((eval_other _ 76 4 _ (by decide)).trans base4))) w') ?_
          refine met_free po4 d4 (wanted_of gd4) (fun w' h' => run_lenS q4 (eval_same _ _ _ (by simp only [put_size, hsz]; decide)) w') ?_
          refine met_free po5 d5 (wanted_of gd5) (fun w' h' => r_leqV HLE.out q5 ((eval_other _ 80 78 _ (by decide)).trans ((eval_other _ 79 78 _ (by decide)).trans (eval_same _ _ _ (by simp only [put_size, hsz]; decide)))) (eval_same _ _ _ (by simp only [put_size, hsz]; decide)) w') ?_
          refine met_free po6 d6 (wanted_of gd6) (fun w' h' => run_move q6 (eval_same _ _ _ (by simp only [put_size, hsz]; decide)) w') ?_
          refine m_unwanted po7 d7 (w_not gd7 po6 d6 (eval_same _ _ _ (by simp only [put_size, hsz]; decide))) ?_
          refine m_unwanted po8 d8 (w_not gd8 po6 d6 ((eval_other _ 83 82 _ (by decide)).trans (eval_same _ _ _ (by simp only [put_size, hsz]; decide)))) ?_
          refine m_unwanted po9 d9 (w_not gd9 po6 d6 ((eval_other _ 84 82 _ (by decide)).trans ((eval_other _ 83 82 _ (by decide)).trans (eval_same _ _ _ (by simp only [put_size, hsz]; decide))))) ?_
          refine m_unwanted po10 d10 (w_not gd10 po6 d6 ((eval_other _ 85 82 _ (by decide)).trans ((eval_other _ 84 82 _ (by decide)).trans ((eval_other _ 83 82 _ (by decide)).trans (eval_same _ _ _ (by simp only [put_size, hsz]; decide)))))) ?_
          refine m_unwanted po11 d11 (w_not gd11 po6 d6 ((eval_other _ 86 82 _ (by decide)).trans ((eval_other _ 85 82 _ (by decide)).trans ((eval_other _ 84 82 _ (by decide)).trans ((eval_other _ 83 82 _ (by decide)).trans (eval_same _ _ _ (by simp only [put_size, hsz]; decide))))))) ?_
          refine m_unwanted po12 d12 (w_not gd12 po6 d6 ((eval_other _ 87 82 _ (by decide)).trans ((eval_other _ 86 82 _ (by decide)).trans ((eval_other _ 85 82 _ (by decide)).trans ((eval_other _ 84 82 _ (by decide)).trans ((eval_other _ 83 82 _ (by decide)).trans (eval_same _ _ _ (by simp only [put_size, hsz]; decide)))))))) ?_
          refine m_unwanted po13 d13 (w_not gd13 po6 d6 ((eval_other _ 88 82 _ (by decide)).trans ((eval_other _ 87 82 _ (by decide)).trans ((eval_other _ 86 82 _ (by decide)).trans ((eval_other _ 85 82 _ (by decide)).trans ((eval_other _ 84 82 _ (by decide)).trans ((eval_other _ 83 82 _ (by decide)).trans (eval_same _ _ _ (by simp only [put_size, hsz]; decide))))))))) ?_
          refine m_unwanted po14 d14 (w_not gd14 po6 d6 ((eval_other _ 89 82 _ (by decide)).trans ((eval_other _ 88 82 _ (by decide)).trans ((eval_other _ 87 82 _ (by decide)).trans ((eval_other _ 86 82 _ (by decide)).trans ((eval_other _ 85 82 _ (by decide)).trans ((eval_other _ 84 82 _ (by decide)).trans ((eval_other _ 83 82 _ (by decide)).trans (eval_same _ _ _ (by simp only [put_size, hsz]; decide)))))))))) ?_
          refine met_free po15 d15 (wanted_of gd15) (fun w' h' => r_pickF q15 ((eval_other _ 90 82 _ (by decide)).trans ((eval_other _ 89 82 _ (by decide)).trans ((eval_other _ 88 82 _ (by decide)).trans ((eval_other _ 87 82 _ (by decide)).trans ((eval_other _ 86 82 _ (by decide)).trans ((eval_other _ 85 82 _ (by decide)).trans ((eval_other _ 84 82 _ (by decide)).trans ((eval_other _ 83 82 _ (by decide)).trans (eval_same _ _ _ (by simp only [put_size, hsz]; decide)))))))))) rfl w') ?_
          refine met_free po16 d16 (wanted_of gd16) (fun w' h' => run_assign q16 (eval_same _ _ _ (by simp only [put_size, hsz]; decide)) w') ?_
          show NoPanic _ .normal _ _
          refine NoPanic.normal ?_
          rw [HAA.out]
          go_frame
          clear HAA
          clear po0 q0 d0 gd0 po1 q1 d1 gd1 po2 q2 d2 gd2 po3 q3 d3 gd3 po4 q4 d4 gd4 po5 q5 d5 gd5 po6 q6 d6 gd6 po7 q7 d7 gd7 po8 q8 d8 gd8 po9 q9 d9 gd9 po10 q10 d10 gd10 po11 q11 d11 gd11 po12 q12 d12 gd12 po13 q13 d13 gd13 po14 q14 d14 gd14 po15 q15 d15 gd15 po16 q16 d16 gd16
          clear base4 base6 hsz
          go_wp2_with fail
          go_meet
          exact ⟨by rw [HBF.out]; rfl, (HG5.out.step (Below.refl _ _).drew)⟩
      case rest =>
      obtain ⟨rfl, hg6⟩ := hcut
      have HG6 := Lib.hid hg6
      clear hg6 HG5 HG4
      obtain ⟨bg, hbg⟩ : ∃ bg, begS s rp = bg := ⟨_, rfl⟩
      rw [hbg]
      have HBGV := Lib.hid hbg
      clear hbg
      go_upto_region 16 with (fail)
      go_cut [101] from 92 to 102 (fun s101 wx => s101 = .bool false ∧ AdS w.heap.size ⟨rp, rr⟩ p q l more w wx)
      case first =>
        cases bg
        · have HAL2 := Lib.hid (HSKIP.out HBGV.out)
          go_wp2_with fail
          refine (HAM.out _ HG6.out).mono ?_
          rw [HAL2.out]
          rintro e w7 ⟨rfl, hb⟩
          have HG7 := Lib.hid (HG6.out.step hb)
          clear hb
          go_wp2_with fail
          go_meet
          exact ⟨rfl, HG7.out⟩
        · go_wp2_with fail
          go_meet
          exact ⟨rfl, HG6.out⟩
      case rest =>
      obtain ⟨rfl, hg8⟩ := hcut
      have HG8 := Lib.hid hg8
      clear hg8 HG6
      go_upto_region 18 with (fail)
      go_cut [114] from 102 to 115 (fun s114 wx => s114 = .bool false ∧ AdS w.heap.size ⟨rp, rr⟩ p q l more w wx)
      case first =>
        cases sm
        · skip
          refine region_tree (fun wr => AdS w.heap.size ⟨rp, rr⟩ p q l more w wr) (HG8.out.step (Below.refl _ _).drew) (.pure 0 (.pure 1 (.pure 2 (.pure 4 (.pure 7 (.pure 8 (.pure 10 (.two 3 5 (.one 5 (.one 6 (.one 9 (.pure 11 (.pure 12 .nil))))) (.one 3 (.one 6 (.one 9 (.pure 11 (.pure 12 .nil))))))))))))) (by kernel_rfl) (by kernel_rfl) (by kernel_rfl) (fun ops hops A hA => ?_)
          have hsz : A.tmps.size = 137 := by rw [hA]; rfl
          have base0 : A.eval (.tmp 0) = .slice p k cap := by rw [hA]; rfl
          have base3 : A.eval (.tmp 3) = .int .i64 bs := by rw [hA]; rfl
          have base4 : A.eval (.tmp 4) = .string s := by rw [hA]; rfl
          have base6 : A.eval (.tmp 6) = .pointer (some ⟨w.heap.size, 0, none⟩) := by rw [hA]; rfl
          have base13 : A.eval (.tmp 13) = .slice q (k + 1) c4 := by rw [hA]; rfl
          have base14 : A.eval (.tmp 14) = .bool al := by rw [hA]; rfl
          have base11 : A.eval (.tmp 11) = .bool false := by rw [hA]; rfl
          have HAA := Lib.hid hA; clear hA
          obtain ⟨o0, po0, q0, d0, gd0⟩ : ∃ o, ops[0]? = some o ∧ o.op = .move (.tmp 11) ∧ o.dst = some 102 ∧ o.guard = none := ⟨_, by rw [hops]; rfl, rfl, rfl, rfl⟩
          obtain ⟨o1, po1, q1, d1, gd1⟩ : ∃ o, ops[1]? = some o ∧ o.op = .move (.tmp 102) ∧ o.dst = some 103 ∧ o.guard = none := ⟨_, by rw [hops]; rfl, rfl, rfl, rfl⟩
          obtain ⟨o2, po2, q2, d2, gd2⟩ : ∃ o, ops[2]? = some o ∧ o.op = .move (.tmp 0) ∧ o.dst = some 104 ∧ o.guard = some (1, true) := ⟨_, by rw [hops]; rfl, rfl, rfl, rfl⟩
          obtain ⟨o3, po3, q3, d3, gd3⟩ : ∃ o, ops[3]? = some o ∧ o.op = .call { callee := .value (.func 29), args := #[.tmp 104], argTypes := #[32] } ∧ o.dst = some 105 ∧ o.guard = some (1, true) := ⟨_, by rw [hops]; rfl, rfl, rfl, rfl⟩
          obtain ⟨o4, po4, q4, d4, gd4⟩ : ∃ o, ops[4]? = some o ∧ o.op = .load 34 (.tmp 6) ∧ o.dst = some 106 ∧ o.guard = some (1, true) := ⟨_, by rw [hops]; rfl, rfl, rfl, rfl⟩
          obtain ⟨o5, po5, q5, d5, gd5⟩ : ∃ o, ops[5]? = some o ∧ o.op = .buildSlice 32 1 #[(0, (.tmp 106))] ∧ o.dst = some 107 ∧ o.guard = some (1, true) := ⟨_, by rw [hops]; rfl, rfl, rfl, rfl⟩
          obtain ⟨o6, po6, q6, d6, gd6⟩ : ∃ o, ops[6]? = some o ∧ o.op = .call { callee := .builtin .append, args := #[.tmp 105, .tmp 107], argTypes := #[32, 32] } ∧ o.dst = some 108 ∧ o.guard = some (1, true) := ⟨_, by rw [hops]; rfl, rfl, rfl, rfl⟩
          obtain ⟨o7, po7, q7, d7, gd7⟩ : ∃ o, ops[7]? = some o ∧ o.op = .move (.tmp 3) ∧ o.dst = some 109 ∧ o.guard = some (1, true) := ⟨_, by rw [hops]; rfl, rfl, rfl, rfl⟩
          obtain ⟨o8, po8, q8, d8, gd8⟩ : ∃ o, ops[8]? = some o ∧ o.op = .move (.tmp 4) ∧ o.dst = some 110 ∧ o.guard = some (1, true) := ⟨_, by rw [hops]; rfl, rfl, rfl, rfl⟩
          obtain ⟨o9, po9, q9, d9, gd9⟩ : ∃ o, ops[9]? = some o ∧ o.op = .call { callee := .value (.func 24), args := #[.tmp 108, .tmp 109, .tmp 110], argTypes := #[32, 3, 9] } ∧ o.dst = some 111 ∧ o.guard = some (1, true) := ⟨_, by rw [hops]; rfl, rfl, rfl, rfl⟩
          obtain ⟨o10, po10, q10, d10, gd10⟩ : ∃ o, ops[10]? = some o ∧ o.op = .move (.tmp 14) ∧ o.dst = some 112 ∧ o.guard = some (1, true) := ⟨_, by rw [hops]; rfl, rfl, rfl, rfl⟩
          obtain ⟨o11, po11, q11, d11, gd11⟩ : ∃ o, ops[11]? = some o ∧ o.op = .binOp .neq 4 (.tmp 111) (.tmp 112) 4 ∧ o.dst = some 113 ∧ o.guard = some (1, true) := ⟨_, by rw [hops]; rfl, rfl, rfl, rfl⟩
          obtain ⟨o12, po12, q12, d12, gd12⟩ : ∃ o, ops[12]? = some o ∧ o.op = .pick (.tmp 103) (.tmp 113) (.const (.bool false)) ∧ o.dst = some 114 ∧ o.guard = none := ⟨_, by rw [hops]; rfl, rfl, rfl, rfl⟩
          clear hops
          refine Tr.takes po0 d0 (wanted_of gd0) (fun w' h' => run_move q0 base11 w') ?_
          refine Tr.takes po1 d1 (wanted_of gd1) (fun w' h' => run_move q1 (eval_same _ _ _ (by rw [hsz]; decide)) w') ?_
          refine Tr.unw po2 d2 (w_not gd2 po1 d1 (eval_same _ _ _ (by simp only [put_size, hsz]; decide))) ?_
          refine Tr.unw po4 d4 (w_not gd4 po1 d1 ((eval_other _ 104 103 _ (by decide)).trans (eval_same _ _ _ (by simp only [put_size, hsz]; decide)))) ?_
          refine Tr.unw po7 d7 (w_not gd7 po1 d1 ((eval_other _ 106 103 _ (by decide)).trans ((eval_other _ 104 103 _ (by decide)).trans (eval_same _ _ _ (by simp only [put_size, hsz]; decide))))) ?_
          refine Tr.unw po8 d8 (w_not gd8 po1 d1 ((eval_other _ 109 103 _ (by decide)).trans ((eval_other _ 106 103 _ (by decide)).trans ((eval_other _ 104 103 _ (by decide)).trans (eval_same _ _ _ (by simp only [put_size, hsz]; decide)))))) ?_
          refine Tr.unw po10 d10 (w_not gd10 po1 d1 ((eval_other _ 110 103 _ (by decide)).trans ((eval_other _ 109 103 _ (by decide)).trans ((eval_other _ 106 103 _ (by decide)).trans ((eval_other _ 104 103 _ (by decide)).trans (eval_same _ _ _ (by simp only [put_size, hsz]; decide))))))) ?_
          refine ⟨?_, ?_⟩
          · skip
            refine at_unw po3 d3 (w_not gd3 po1 d1 ((eval_other _ 112 103 _ (by decide)).trans ((eval_other _ 110 103 _ (by decide)).trans ((eval_other _ 109 103 _ (by decide)).trans ((eval_other _ 106 103 _ (by decide)).trans ((eval_other _ 104 103 _ (by decide)).trans (eval_same _ _ _ (by simp only [put_size, hsz]; decide)))))))) ⟨HG8.out.step (Below.refl _ _).drew, ?_⟩
            refine at_unw po5 d5 (w_not gd5 po1 d1 ((eval_other _ 105 103 _ (by decide)).trans ((eval_other _ 112 103 _ (by decide)).trans ((eval_other _ 110 103 _ (by decide)).trans ((eval_other _ 109 103 _ (by decide)).trans ((eval_other _ 106 103 _ (by decide)).trans ((eval_other _ 104 103 _ (by decide)).trans (eval_same _ _ _ (by simp only [put_size, hsz]; decide))))))))) ⟨HG8.out.step (Below.refl _ _).drew, ?_⟩
            refine at_unw po6 d6 (w_not gd6 po1 d1 ((eval_other _ 107 103 _ (by decide)).trans ((eval_other _ 105 103 _ (by decide)).trans ((eval_other _ 112 103 _ (by decide)).trans ((eval_other _ 110 103 _ (by decide)).trans ((eval_other _ 109 103 _ (by decide)).trans ((eval_other _ 106 103 _ (by decide)).trans ((eval_other _ 104 103 _ (by decide)).trans (eval_same _ _ _ (by simp only [put_size, hsz]; decide)))))))))) ⟨HG8.out.step (Below.refl _ _).drew, ?_⟩
            refine at_unw po9 d9 (w_not gd9 po1 d1 ((eval_other _ 108 103 _ (by decide)).trans ((eval_other _ 107 103 _ (by decide)).trans ((eval_other _ 105 103 _ (by decide)).trans ((eval_other _ 112 103 _ (by decide)).trans ((eval_other _ 110 103 _ (by decide)).trans ((eval_other _ 109 103 _ (by decide)).trans ((eval_other _ 106 103 _ (by decide)).trans ((eval_other _ 104 103 _ (by decide)).trans (eval_same _ _ _ (by simp only [put_size, hsz]; decide))))))))))) ⟨HG8.out.step (Below.refl _ _).drew, ?_⟩
            refine Tr.unw po11 d11 (w_not gd11 po1 d1 ((eval_other _ 111 103 _ (by decide)).trans ((eval_other _ 108 103 _ (by decide)).trans ((eval_other _ 107 103 _ (by decide)).trans ((eval_other _ 105 103 _ (by decide)).trans ((eval_other _ 112 103 _ (by decide)).trans ((eval_other _ 110 103 _ (by decide)).trans ((eval_other _ 109 103 _ (by decide)).trans ((eval_other _ 106 103 _ (by decide)).trans ((eval_other _ 104 103 _ (by decide)).trans (eval_same _ _ _ (by simp only [put_size, hsz]; decide)))))))))))) ?_
            refine Tr.takes po12 d12 (wanted_of gd12) (fun w' h' => r_pickF q12 ((eval_other _ 113 103 _ (by decide)).trans ((eval_other _ 111 103 _ (by decide)).trans ((eval_other _ 108 103 _ (by decide)).trans ((eval_other _ 107 103 _ (by decide)).trans ((eval_other _ 105 103 _ (by decide)).trans ((eval_other _ 112 103 _ (by decide)).trans ((eval_other _ 110 103 _ (by decide)).trans ((eval_other _ 109 103 _ (by decide)).trans ((eval_other _ 106 103 _ (by decide)).trans ((eval_other _ 104 103 _ (by decide)).trans (eval_same _ _ _ (by simp only [put_size, hsz]; decide)))))))))))) rfl w') ?_
            show NoPanic _ .normal _ _
            refine NoPanic.normal ?_
            rw [HAA.out]
            go_frame
            clear HAA
            clear po0 q0 d0 gd0 po1 q1 d1 gd1 po2 q2 d2 gd2 po3 q3 d3 gd3 po4 q4 d4 gd4 po5 q5 d5 gd5 po6 q6 d6 gd6 po7 q7 d7 gd7 po8 q8 d8 gd8 po9 q9 d9 gd9 po10 q10 d10 gd10 po11 q11 d11 gd11 po12 q12 d12 gd12
            clear base0 base3 base4 base6 base13 base14 base11 hsz
            go_wp2_with fail
            go_meet
            exact ⟨rfl, (HG8.out.step (Below.refl _ _).drew)⟩
          · skip
            refine at_unw po5 d5 (w_not gd5 po1 d1 ((eval_other _ 112 103 _ (by decide)).trans ((eval_other _ 110 103 _ (by decide)).trans ((eval_other _ 109 103 _ (by decide)).trans ((eval_other _ 106 103 _ (by decide)).trans ((eval_other _ 104 103 _ (by decide)).trans (eval_same _ _ _ (by simp only [put_size, hsz]; decide)))))))) ⟨HG8.out.step (Below.refl _ _).drew, ?_⟩
            refine at_unw po3 d3 (w_not gd3 po1 d1 ((eval_other _ 107 103 _ (by decide)).trans ((eval_other _ 112 103 _ (by decide)).trans ((eval_other _ 110 103 _ (by decide)).trans ((eval_other _ 109 103 _ (by decide)).trans ((eval_other _ 106 103 _ (by decide)).trans ((eval_other _ 104 103 _ (by decide)).trans (eval_same _ _ _ (by simp only [put_size, hsz]; decide))))))))) ⟨HG8.out.step (Below.refl _ _).drew, ?_⟩
            refine at_unw po6 d6 (w_not gd6 po1 d1 ((eval_other _ 105 103 _ (by decide)).trans ((eval_other _ 107 103 _ (by decide)).trans ((eval_other _ 112 103 _ (by decide)).trans ((eval_other _ 110 103 _ (by decide)).trans ((eval_other _ 109 103 _ (by decide)).trans ((eval_other _ 106 103 _ (by decide)).trans ((eval_other _ 104 103 _ (by decide)).trans (eval_same _ _ _ (by simp only [put_size, hsz]; decide)))))))))) ⟨HG8.out.step (Below.refl _ _).drew, ?_⟩
            refine at_unw po9 d9 (w_not gd9 po1 d1 ((eval_other _ 108 103 _ (by decide)).trans ((eval_other _ 105 103 _ (by decide)).trans ((eval_other _ 107 103 _ (by decide)).trans ((eval_other _ 112 103 _ (by decide)).trans ((eval_other _ 110 103 _ (by decide)).trans ((eval_other _ 109 103 _ (by decide)).trans ((eval_other _ 106 103 _ (by decide)).trans ((eval_other _ 104 103 _ (by decide)).trans (eval_same _ _ _ (by simp only [put_size, hsz]; decide))))))))))) ⟨HG8.out.step (Below.refl _ _).drew, ?_⟩
            refine Tr.unw po11 d11 (w_not gd11 po1 d1 ((eval_other _ 111 103 _ (by decide)).trans ((eval_other _ 108 103 _ (by decide)).trans ((eval_other _ 105 103 _ (by decide)).trans ((eval_other _ 107 103 _ (by decide)).trans ((eval_other _ 112 103 _ (by decide)).trans ((eval_other _ 110 103 _ (by decide)).trans ((eval_other _ 109 103 _ (by decide)).trans ((eval_other _ 106 103 _ (by decide)).trans ((eval_other _ 104 103 _ (by decide)).trans (eval_same _ _ _ (by simp only [put_size, hsz]; decide)))))))))))) ?_
            refine Tr.takes po12 d12 (wanted_of gd12) (fun w' h' => r_pickF q12 ((eval_other _ 113 103 _ (by decide)).trans ((eval_other _ 111 103 _ (by decide)).trans ((eval_other _ 108 103 _ (by decide)).trans ((eval_other _ 105 103 _ (by decide)).trans ((eval_other _ 107 103 _ (by decide)).trans ((eval_other _ 112 103 _ (by decide)).trans ((eval_other _ 110 103 _ (by decide)).trans ((eval_other _ 109 103 _ (by decide)).trans ((eval_other _ 106 103 _ (by decide)).trans ((eval_other _ 104 103 _ (by decide)).trans (eval_same _ _ _ (by simp only [put_size, hsz]; decide)))))))))))) rfl w') ?_
            show NoPanic _ .normal _ _
            refine NoPanic.normal ?_
            rw [HAA.out]
            go_frame
            clear HAA
            clear po0 q0 d0 gd0 po1 q1 d1 gd1 po2 q2 d2 gd2 po3 q3 d3 gd3 po4 q4 d4 gd4 po5 q5 d5 gd5 po6 q6 d6 gd6 po7 q7 d7 gd7 po8 q8 d8 gd8 po9 q9 d9 gd9 po10 q10 d10 gd10 po11 q11 d11 gd11 po12 q12 d12 gd12
            clear base0 base3 base4 base6 base13 base14 base11 hsz
            go_wp2_with fail
            go_meet
            exact ⟨rfl, (HG8.out.step (Below.refl _ _).drew)⟩
        · have HSV := Lib.hid (HSM.out HSMV.out)
          refine region_tree (fun wr => AdS w.heap.size ⟨rp, rr⟩ p q l more w wr) (HG8.out.step (Below.refl _ _).drew) (.pure 0 (.pure 1 (.pure 2 (.pure 4 (.pure 7 (.pure 8 (.pure 10 (.two 3 5 (.one 5 (.one 6 (.one 9 (.pure 11 (.pure 12 .nil))))) (.one 3 (.one 6 (.one 9 (.pure 11 (.pure 12 .nil))))))))))))) (by kernel_rfl) (by kernel_rfl) (by kernel_rfl) (fun ops hops A hA => ?_)
          have hsz : A.tmps.size = 137 := by rw [hA]; rfl
          have base0 : A.eval (.tmp 0) = .slice p k cap := by rw [hA]; rfl
          have base3 : A.eval (.tmp 3) = .int .i64 bs := by rw [hA]; rfl
          have base4 : A.eval (.tmp 4) = .string s := by rw [hA]; rfl
          have base6 : A.eval (.tmp 6) = .pointer (some ⟨w.heap.size, 0, none⟩) := by rw [hA]; rfl
          have base13 : A.eval (.tmp 13) = .slice q (k + 1) c4 := by rw [hA]; rfl
          have base14 : A.eval (.tmp 14) = .bool al := by rw [hA]; rfl
          have base11 : A.eval (.tmp 11) = .bool true := by rw [hA]; rfl
          have HAA := Lib.hid hA; clear hA
          obtain ⟨o0, po0, q0, d0, gd0⟩ : ∃ o, ops[0]? = some o ∧ o.op = .move (.tmp 11) ∧ o.dst = some 102 ∧ o.guard = none := ⟨_, by rw [hops]; rfl, rfl, rfl, rfl⟩
          obtain ⟨o1, po1, q1, d1, gd1⟩ : ∃ o, ops[1]? = some o ∧ o.op = .move (.tmp 102) ∧ o.dst = some 103 ∧ o.guard = none := ⟨_, by rw [hops]; rfl, rfl, rfl, rfl⟩
          obtain ⟨o2, po2, q2, d2, gd2⟩ : ∃ o, ops[2]? = some o ∧ o.op = .move (.tmp 0) ∧ o.dst = some 104 ∧ o.guard = some (1, true) := ⟨_, by rw [hops]; rfl, rfl, rfl, rfl⟩
          obtain ⟨o3, po3, q3, d3, gd3⟩ : ∃ o, ops[3]? = some o ∧ o.op = .call { callee := .value (.func 29), args := #[.tmp 104], argTypes := #[32] } ∧ o.dst = some 105 ∧ o.guard = some (1, true) := ⟨_, by rw [hops]; rfl, rfl, rfl, rfl⟩
          obtain ⟨o4, po4, q4, d4, gd4⟩ : ∃ o, ops[4]? = some o ∧ o.op = .load 34 (.tmp 6) ∧ o.dst = some 106 ∧ o.guard = some (1, true) := ⟨_, by rw [hops]; rfl, rfl, rfl, rfl⟩
          obtain ⟨o5, po5, q5, d5, gd5⟩ : ∃ o, ops[5]? = some o ∧ o.op = .buildSlice 32 1 #[(0, (.tmp 106))] ∧ o.dst = some 107 ∧ o.guard = some (1, true) := ⟨_, by rw [hops]; rfl, rfl, rfl, rfl⟩
          obtain ⟨o6, po6, q6, d6, gd6⟩ : ∃ o, ops[6]? = some o ∧ o.op = .call { callee := .builtin .append, args := #[.tmp 105, .tmp 107], argTypes := #[32, 32] } ∧ o.dst = some 108 ∧ o.guard = some (1, true) := ⟨_, by rw [hops]; rfl, rfl, rfl, rfl⟩
          obtain ⟨o7, po7, q7, d7, gd7⟩ : ∃ o, ops[7]? = some o ∧ o.op = .move (.tmp 3) ∧ o.dst = some 109 ∧ o.guard = some (1, true) := ⟨_, by rw [hops]; rfl, rfl, rfl, rfl⟩
          obtain ⟨o8, po8, q8, d8, gd8⟩ : ∃ o, ops[8]? = some o ∧ o.op = .move (.tmp 4) ∧ o.dst = some 110 ∧ o.guard = some (1, true) := ⟨_, by rw [hops]; rfl, rfl, rfl, rfl⟩
          obtain ⟨o9, po9, q9, d9, gd9⟩ : ∃ o, ops[9]? = some o ∧ o.op = .call { callee := .value (.func 24), args := #[.tmp 108, .tmp 109, .tmp 110], argTypes := #[32, 3, 9] } ∧ o.dst = some 111 ∧ o.guard = some (1, true) := ⟨_, by rw [hops]; rfl, rfl, rfl, rfl⟩
          obtain ⟨o10, po10, q10, d10, gd10⟩ : ∃ o, ops[10]? = some o ∧ o.op = .move (.tmp 14) ∧ o.dst = some 112 ∧ o.guard = some (1, true) := ⟨_, by rw [hops]; rfl, rfl, rfl, rfl⟩
          obtain ⟨o11, po11, q11, d11, gd11⟩ : ∃ o, ops[11]? = some o ∧ o.op = .binOp .neq 4 (.tmp 111) (.tmp 112) 4 ∧ o.dst = some 113 ∧ o.guard = some (1, true) := ⟨_, by rw [hops]; rfl, rfl, rfl, rfl⟩
          obtain ⟨o12, po12, q12, d12, gd12⟩ : ∃ o, ops[12]? = some o ∧ o.op = .pick (.tmp 103) (.tmp 113) (.const (.bool false)) ∧ o.dst = some 114 ∧ o.guard = none := ⟨_, by rw [hops]; rfl, rfl, rfl, rfl⟩
          clear hops
          refine Tr.takes po0 d0 (wanted_of gd0) (fun w' h' => run_move q0 base11 w') ?_
          refine Tr.takes po1 d1 (wanted_of gd1) (fun w' h' => run_move q1 (eval_same _ _ _ (by rw [hsz]; decide)) w') ?_
          refine Tr.takes po2 d2 (wanted_guard gd2 po1 d1 (eval_same _ _ _ (by simp only [put_size, hsz]; decide))) (fun w' h' => run_move q2 ((eval_other _ 103 0 _ (by decide)).trans ((eval_other _ 102 0 _ (by decide)).trans base0)) w') ?_
          refine Tr.takes po4 d4 (wanted_guard gd4 po1 d1 ((eval_other _ 104 103 _ (by decide)).trans (eval_same _ _ _ (by simp only [put_size, hsz]; decide)))) (fun w' h' => run_loadBlk q4 ((eval_other _ 104 6 _ (by decide)).trans ((eval_other _ 103 6 _ (by decide)).trans ((eval_other _ 102 6 _ (by decide)).trans base6))) h'.box (by kernel_rfl) (size_rule _)) ?_
          refine Tr.takes po7 d7 (wanted_guard gd7 po1 d1 ((eval_other _ 106 103 _ (by decide)).trans ((eval_other _ 104 103 _ (by decide)).trans (eval_same _ _ _ (by simp only [put_size, hsz]; decide))))) (fun w' h' => run_move q7 ((eval_other _ 106 3 _ (by decide)).trans ((eval_other _ 104 3 _ (by decide)).trans ((eval_other _ 103 3 _ (by decide)).trans ((eval_other _ 102 3 _ (by decide)).trans base3)))) w') ?_
          refine Tr.takes po8 d8 (wanted_guard gd8 po1 d1 ((eval_other _ 109 103 _ (by decide)).trans ((eval_other _ 106 103 _ (by decide)).trans ((eval_other _ 104 103 _ (by decide)).trans (eval_same _ _ _ (by simp only [put_size, hsz]; decide)))))) (fun w' h' => run_move q8 ((eval_other _ 109 4 _ (by decide)).trans ((eval_other _ 106 4 _ (by decide)).trans ((eval_other _ 104 4 _ (by decide)).trans ((eval_other _ 103 4 _ (by decide)).trans ((eval_other _ 102 4 _ (by decide)).trans base4))))) w') ?_
          refine Tr.takes po10 d10 (wanted_guard gd10 po1 d1 ((eval_other _ 110 103 _ (by decide)).trans ((eval_other _ 109 103 _ (by decide)).trans ((eval_other _ 106 103 _ (by decide)).trans ((eval_other _ 104 103 _ (by decide)).trans (eval_same _ _ _ (by simp only [put_size, hsz]; decide))))))) (fun w' h' => run_move q10 ((eval_other _ 110 14 _ (by decide)).trans ((eval_other _ 109 14 _ (by decide)).trans ((eval_other _ 106 14 _ (by decide)).trans ((eval_other _ 104 14 _ (by decide)).trans ((eval_other _ 103 14 _ (by decide)).trans ((eval_other _ 102 14 _ (by decide)).trans base14)))))) w') ?_
          refine ⟨?_, ?_⟩
          · skip
            refine at_enterT po3 d3 (wanted_guard gd3 po1 d1 ((eval_other _ 112 103 _ (by decide)).trans ((eval_other _ 110 103 _ (by decide)).trans ((eval_other _ 109 103 _ (by decide)).trans ((eval_other _ 106 103 _ (by decide)).trans ((eval_other _ 104 103 _ (by decide)).trans (eval_same _ _ _ (by simp only [put_size, hsz]; decide)))))))) (run_callf1 q3 rfl ((eval_other _ 112 104 _ (by decide)).trans ((eval_other _ 110 104 _ (by decide)).trans ((eval_other _ 109 104 _ (by decide)).trans ((eval_other _ 106 104 _ (by decide)).trans (eval_same _ _ _ (by simp only [put_size, hsz]; decide)))))) Try.func29 (by kernel_rfl) _) (copyRules_any l k p cap _ HN.out (by have := HMAX.out.1; omega) (HG8.out.step (Below.refl _ _).drew).came) ?_
            rintro e w7 ⟨v7, rfl, ho, hb⟩
            have HG7 := Lib.hid ((HG8.out.step (Below.refl _ _).drew).step hb)
            have HO7 := Lib.hid ho
            have HZ7 := Lib.hid hb
            clear ho hb
            refine ⟨_, rfl, HG7.out, ?_⟩
            refine at_op po5 d5 (wanted_guard gd5 po1 d1 ((eval_other _ 105 103 _ (by decide)).trans ((eval_other _ 112 103 _ (by decide)).trans ((eval_other _ 110 103 _ (by decide)).trans ((eval_other _ 109 103 _ (by decide)).trans ((eval_other _ 106 103 _ (by decide)).trans ((eval_other _ 104 103 _ (by decide)).trans (eval_same _ _ _ (by simp only [put_size, hsz]; decide))))))))) (ruleT.run_one q5 ((eval_other _ 105 106 _ (by decide)).trans ((eval_other _ 112 106 _ (by decide)).trans ((eval_other _ 110 106 _ (by decide)).trans ((eval_other _ 109 106 _ (by decide)).trans (eval_same _ _ _ (by simp only [put_size, hsz]; decide)))))) rfl _) ?_
            obtain ⟨wn, hwn⟩ : ∃ wn, wn = w7.heap.size := ⟨_, rfl⟩
            have HN7 : Hid ((w7.alloc (.cells (RuleM.cells ⟨rp, rr⟩).toArray 34)).heap[wn]? = some (.cells (RuleM.cells ⟨rp, rr⟩).toArray 34 (0, 0))) := show _ = _ from heap_new_at hwn.symm
            have HGN := Lib.hid ((HG7.out).step (boxBelow w7 (.cells (RuleM.cells ⟨rp, rr⟩).toArray 34)))
            have HO7b := Lib.hid (HO7.out.below (boxBelow w7 (.cells (RuleM.cells ⟨rp, rr⟩).toArray 34)))
            have HZB := Lib.hid (HZ7.out.trans ((boxBelow w7 (.cells (RuleM.cells ⟨rp, rr⟩).toArray 34)).mono HZ7.out.size))
            rw [← hwn]
            clear hwn
            generalize w7.alloc (.cells (RuleM.cells ⟨rp, rr⟩).toArray 34) = wb at HN7 HGN HO7b HZB ⊢
            refine ⟨HGN.out, ?_⟩
            refine ruleT.at_grow (e := ⟨rp, rr⟩) RuleM.len po6 d6 (wanted_guard gd6 po1 d1 ((eval_other _ 107 103 _ (by decide)).trans ((eval_other _ 105 103 _ (by decide)).trans ((eval_other _ 112 103 _ (by decide)).trans ((eval_other _ 110 103 _ (by decide)).trans ((eval_other _ 109 103 _ (by decide)).trans ((eval_other _ 106 103 _ (by decide)).trans ((eval_other _ 104 103 _ (by decide)).trans (eval_same _ _ _ (by simp only [put_size, hsz]; decide)))))))))) q6 ((eval_other _ 107 105 _ (by decide)).trans (eval_same _ _ _ (by simp only [put_size, hsz]; decide))) (eval_same _ _ _ (by simp only [put_size, hsz]; decide)) HO7b.out HN7.out (RuleM.ones _) (by rw [HN.out]; have := HMAX.out.1; omega) HZB.out.size (fun v8 w8 ho8 hb8 => ?_)
            have HG8b := Lib.hid ((HG8.out.step (Below.refl _ _).drew).step (HZB.out.trans hb8))
            obtain ⟨qy, cy, rfl, -, -, hqy, -⟩ := ho8.lies RuleM.len
            have HL8 : Hid ((l ++ [(⟨rp, rr⟩ : RuleM)]).length = k + 1) := show _ = _ from by rw [List.length_append, HN.out]; rfl
            rw [HL8.out]
            have HQ8 := Lib.hid hqy
            refine ⟨HG8b.out, ?_⟩
            refine at_enterT po9 d9 (wanted_guard gd9 po1 d1 ((eval_other _ 108 103 _ (by decide)).trans ((eval_other _ 107 103 _ (by decide)).trans ((eval_other _ 105 103 _ (by decide)).trans ((eval_other _ 112 103 _ (by decide)).trans ((eval_other _ 110 103 _ (by decide)).trans ((eval_other _ 109 103 _ (by decide)).trans ((eval_other _ 106 103 _ (by decide)).trans ((eval_other _ 104 103 _ (by decide)).trans (eval_same _ _ _ (by simp only [put_size, hsz]; decide))))))))))) (run_callf3 q9 rfl (eval_same _ _ _ (by simp only [put_size, hsz]; decide)) ((eval_other _ 108 109 _ (by decide)).trans ((eval_other _ 107 109 _ (by decide)).trans ((eval_other _ 105 109 _ (by decide)).trans ((eval_other _ 112 109 _ (by decide)).trans ((eval_other _ 110 109 _ (by decide)).trans (eval_same _ _ _ (by simp only [put_size, hsz]; decide))))))) ((eval_other _ 108 110 _ (by decide)).trans ((eval_other _ 107 110 _ (by decide)).trans ((eval_other _ 105 110 _ (by decide)).trans ((eval_other _ 112 110 _ (by decide)).trans (eval_same _ _ _ (by simp only [put_size, hsz]; decide)))))) Try.func24 (by kernel_rfl) _) ((HSV.out ▸ allowed_any (l ++ [(⟨rp, rr⟩ : RuleM)]) (k + 1) qy cy bs s _ HL8.out (by have := HMAX.out.1; omega) HQ8.out (fun x hx => by rcases List.mem_append.1 hx with hx | hx; exact HOK.out x hx; rw [List.mem_singleton.1 hx]; exact HRO.out) HBS.out : Calls _ _ _ _ (ReturnsG al _))) ?_
            rintro e w18_1 ⟨rfl, hb⟩
            have HSw18_1 := Lib.hid ((HG8b.out).step hb)
            clear hb
            refine ⟨_, rfl, HSw18_1.out, ?_⟩
            refine Tr.takes po11 d11 (wanted_guard gd11 po1 d1 ((eval_other _ 111 103 _ (by decide)).trans ((eval_other _ 108 103 _ (by decide)).trans ((eval_other _ 107 103 _ (by decide)).trans ((eval_other _ 105 103 _ (by decide)).trans ((eval_other _ 112 103 _ (by decide)).trans ((eval_other _ 110 103 _ (by decide)).trans ((eval_other _ 109 103 _ (by decide)).trans ((eval_other _ 106 103 _ (by decide)).trans ((eval_other _ 104 103 _ (by decide)).trans (eval_same _ _ _ (by simp only [put_size, hsz]; decide)))))))))))) (fun w' h' => r_neB q11 (eval_same _ _ _ (by simp only [put_size, hsz]; decide)) ((eval_other _ 111 112 _ (by decide)).trans ((eval_other _ 108 112 _ (by decide)).trans ((eval_other _ 107 112 _ (by decide)).trans ((eval_other _ 105 112 _ (by decide)).trans (eval_same _ _ _ (by simp only [put_size, hsz]; decide)))))) w') ?_
            refine Tr.takes po12 d12 (wanted_of gd12) (fun w' h' => run_pick_true q12 ((eval_other _ 113 103 _ (by decide)).trans ((eval_other _ 111 103 _ (by decide)).trans ((eval_other _ 108 103 _ (by decide)).trans ((eval_other _ 107 103 _ (by decide)).trans ((eval_other _ 105 103 _ (by decide)).trans ((eval_other _ 112 103 _ (by decide)).trans ((eval_other _ 110 103 _ (by decide)).trans ((eval_other _ 109 103 _ (by decide)).trans ((eval_other _ 106 103 _ (by decide)).trans ((eval_other _ 104 103 _ (by decide)).trans (eval_same _ _ _ (by simp only [put_size, hsz]; decide)))))))))))) (eval_same _ _ _ (by simp only [put_size, hsz]; decide)) w') ?_
            show NoPanic _ .normal _ _
            refine NoPanic.normal ?_
            rw [HAA.out]
            go_frame
            clear HAA
            clear po0 q0 d0 gd0 po1 q1 d1 gd1 po2 q2 d2 gd2 po3 q3 d3 gd3 po4 q4 d4 gd4 po5 q5 d5 gd5 po6 q6 d6 gd6 po7 q7 d7 gd7 po8 q8 d8 gd8 po9 q9 d9 gd9 po10 q10 d10 gd10 po11 q11 d11 gd11 po12 q12 d12 gd12
            clear base0 base3 base4 base6 base13 base14 base11 hsz
            go_wp2_with fail
            go_meet
            exact ⟨rfl, HSw18_1.out⟩
          · skip
            refine at_op po5 d5 (wanted_guard gd5 po1 d1 ((eval_other _ 112 103 _ (by decide)).trans ((eval_other _ 110 103 _ (by decide)).trans ((eval_other _ 109 103 _ (by decide)).trans ((eval_other _ 106 103 _ (by decide)).trans ((eval_other _ 104 103 _ (by decide)).trans (eval_same _ _ _ (by simp only [put_size, hsz]; decide)))))))) (ruleT.run_one q5 ((eval_other _ 112 106 _ (by decide)).trans ((eval_other _ 110 106 _ (by decide)).trans ((eval_other _ 109 106 _ (by decide)).trans (eval_same _ _ _ (by simp only [put_size, hsz]; decide))))) rfl _) ?_
            obtain ⟨wn, hwn⟩ : ∃ wn, wn = wc.drew.heap.size := ⟨_, rfl⟩
            have HN7 : Hid ((wc.drew.alloc (.cells (RuleM.cells ⟨rp, rr⟩).toArray 34)).heap[wn]? = some (.cells (RuleM.cells ⟨rp, rr⟩).toArray 34 (0, 0))) := show _ = _ from heap_new_at hwn.symm
            have HGN := Lib.hid ((HG8.out.step (Below.refl _ _).drew).step (boxBelow wc.drew (.cells (RuleM.cells ⟨rp, rr⟩).toArray 34)))
            rw [← hwn]
            clear hwn
            generalize wc.drew.alloc (.cells (RuleM.cells ⟨rp, rr⟩).toArray 34) = wb at HN7 HGN ⊢
            refine ⟨HGN.out, ?_⟩
            refine at_enterT po3 d3 (wanted_guard gd3 po1 d1 ((eval_other _ 107 103 _ (by decide)).trans ((eval_other _ 112 103 _ (by decide)).trans ((eval_other _ 110 103 _ (by decide)).trans ((eval_other _ 109 103 _ (by decide)).trans ((eval_other _ 106 103 _ (by decide)).trans ((eval_other _ 104 103 _ (by decide)).trans (eval_same _ _ _ (by simp only [put_size, hsz]; decide))))))))) (run_callf1 q3 rfl ((eval_other _ 107 104 _ (by decide)).trans ((eval_other _ 112 104 _ (by decide)).trans ((eval_other _ 110 104 _ (by decide)).trans ((eval_other _ 109 104 _ (by decide)).trans ((eval_other _ 106 104 _ (by decide)).trans (eval_same _ _ _ (by simp only [put_size, hsz]; decide))))))) Try.func29 (by kernel_rfl) _) (copyRules_any l k p cap _ HN.out (by have := HMAX.out.1; omega) (HGN.out).came) ?_
            rintro e w7 ⟨v7, rfl, ho, hb⟩
            have HG7 := Lib.hid ((HGN.out).step hb)
            have HO7 := Lib.hid ho
            have HZ7 := Lib.hid hb
            have HN7b : Hid (w7.heap[wn]? = some (.cells (RuleM.cells ⟨rp, rr⟩).toArray 34 (0, 0))) := show _ = _ from (hb.block wn (Array.getElem?_eq_some_iff.1 HN7.out).1).trans HN7.out
            clear ho hb
            refine ⟨_, rfl, HG7.out, ?_⟩
            refine ruleT.at_grow (e := ⟨rp, rr⟩) RuleM.len po6 d6 (wanted_guard gd6 po1 d1 ((eval_other _ 105 103 _ (by decide)).trans ((eval_other _ 107 103 _ (by decide)).trans ((eval_other _ 112 103 _ (by decide)).trans ((eval_other _ 110 103 _ (by decide)).trans ((eval_other _ 109 103 _ (by decide)).trans ((eval_other _ 106 103 _ (by decide)).trans ((eval_other _ 104 103 _ (by decide)).trans (eval_same _ _ _ (by simp only [put_size, hsz]; decide)))))))))) q6 (eval_same _ _ _ (by simp only [put_size, hsz]; decide)) ((eval_other _ 105 107 _ (by decide)).trans (eval_same _ _ _ (by simp only [put_size, hsz]; decide))) HO7.out HN7b.out (RuleM.ones _) (by rw [HN.out]; have := HMAX.out.1; omega) HZ7.out.size (fun v8 w8 ho8 hb8 => ?_)
            have HG8b := Lib.hid (HGN.out.step (HZ7.out.trans hb8))
            obtain ⟨qy, cy, rfl, -, -, hqy, -⟩ := ho8.lies RuleM.len
            have HL8 : Hid ((l ++ [(⟨rp, rr⟩ : RuleM)]).length = k + 1) := show _ = _ from by rw [List.length_append, HN.out]; rfl
            rw [HL8.out]
            have HQ8 := Lib.hid hqy
            refine ⟨HG8b.out, ?_⟩
            refine at_enterT po9 d9 (wanted_guard gd9 po1 d1 ((eval_other _ 108 103 _ (by decide)).trans ((eval_other _ 105 103 _ (by decide)).trans ((eval_other _ 107 103 _ (by decide)).trans ((eval_other _ 112 103 _ (by decide)).trans ((eval_other _ 110 103 _ (by decide)).trans ((eval_other _ 109 103 _ (by decide)).trans ((eval_other _ 106 103 _ (by decide)).trans ((eval_other _ 104 103 _ (by decide)).trans (eval_same _ _ _ (by simp only [put_size, hsz]; decide))))))))))) (run_callf3 q9 rfl (eval_same _ _ _ (by simp only [put_size, hsz]; decide)) ((eval_other _ 108 109 _ (by decide)).trans ((eval_other _ 105 109 _ (by decide)).trans ((eval_other _ 107 109 _ (by decide)).trans ((eval_other _ 112 109 _ (by decide)).trans ((eval_other _ 110 109 _ (by decide)).trans (eval_same _ _ _ (by simp only [put_size, hsz]; decide))))))) ((eval_other _ 108 110 _ (by decide)).trans ((eval_other _ 105 110 _ (by decide)).trans ((eval_other _ 107 110 _ (by decide)).trans ((eval_other _ 112 110 _ (by decide)).trans (eval_same _ _ _ (by simp only [put_size, hsz]; decide)))))) Try.func24 (by kernel_rfl) _) ((HSV.out ▸ allowed_any (l ++ [(⟨rp, rr⟩ : RuleM)]) (k + 1) qy cy bs s _ HL8.out (by have := HMAX.out.1; omega) HQ8.out (fun x hx => by rcases List.mem_append.1 hx with hx | hx; exact HOK.out x hx; rw [List.mem_singleton.1 hx]; exact HRO.out) HBS.out : Calls _ _ _ _ (ReturnsG al _))) ?_
            rintro e w18_2 ⟨rfl, hb⟩
            have HSw18_2 := Lib.hid ((HG8b.out).step hb)
            clear hb
            refine ⟨_, rfl, HSw18_2.out, ?_⟩
            refine Tr.takes po11 d11 (wanted_guard gd11 po1 d1 ((eval_other _ 111 103 _ (by decide)).trans ((eval_other _ 108 103 _ (by decide)).trans ((eval_other _ 105 103 _ (by decide)).trans ((eval_other _ 107 103 _ (by decide)).trans ((eval_other _ 112 103 _ (by decide)).trans ((eval_other _ 110 103 _ (by decide)).trans ((eval_other _ 109 103 _ (by decide)).trans ((eval_other _ 106 103 _ (by decide)).trans ((eval_other _ 104 103 _ (by decide)).trans (eval_same _ _ _ (by simp only [put_size, hsz]; decide)))))))))))) (fun w' h' => r_neB q11 (eval_same _ _ _ (by simp only [put_size, hsz]; decide)) ((eval_other _ 111 112 _ (by decide)).trans ((eval_other _ 108 112 _ (by decide)).trans ((eval_other _ 105 112 _ (by decide)).trans ((eval_other _ 107 112 _ (by decide)).trans (eval_same _ _ _ (by simp only [put_size, hsz]; decide)))))) w') ?_
            refine Tr.takes po12 d12 (wanted_of gd12) (fun w' h' => run_pick_true q12 ((eval_other _ 113 103 _ (by decide)).trans ((eval_other _ 111 103 _ (by decide)).trans ((eval_other _ 108 103 _ (by decide)).trans ((eval_other _ 105 103 _ (by decide)).trans ((eval_other _ 107 103 _ (by decide)).trans ((eval_other _ 112 103 _ (by decide)).trans ((eval_other _ 110 103 _ (by decide)).trans ((eval_other _ 109 103 _ (by decide)).trans ((eval_other _ 106 103 _ (by decide)).trans ((eval_other _ 104 103 _ (by decide)).trans (eval_same _ _ _ (by simp only [put_size, hsz]; decide)))))))))))) (eval_same _ _ _ (by simp only [put_size, hsz]; decide)) w') ?_
            show NoPanic _ .normal _ _
            refine NoPanic.normal ?_
            rw [HAA.out]
            go_frame
            clear HAA
            clear po0 q0 d0 gd0 po1 q1 d1 gd1 po2 q2 d2 gd2 po3 q3 d3 gd3 po4 q4 d4 gd4 po5 q5 d5 gd5 po6 q6 d6 gd6 po7 q7 d7 gd7 po8 q8 d8 gd8 po9 q9 d9 gd9 po10 q10 d10 gd10 po11 q11 d11 gd11 po12 q12 d12 gd12
            clear base0 base3 base4 base6 base13 base14 base11 hsz
            go_wp2_with fail
            go_meet
            exact ⟨rfl, HSw18_2.out⟩
      case rest =>
      obtain ⟨rfl, hg9⟩ := hcut
      have HG9 := Lib.hid hg9
      clear hg9 HG8
      go_upto_region 20 with (fail)
      go_cut [135] from 115 to 136 (fun s135 wx => s135 = .bool false ∧ AdS w.heap.size ⟨rp, rr⟩ p q l more w wx)
      case first =>
        cases sm
        · by_cases hps : rp = s
          · have HV := Lib.hid (HNEW.out HSMV.out hps)
            have HEQ : Hid ((rp.toList == s.toList) = true) := show _ = _ from by rw [hps]; simp
            have HBT : Hid ((bits BinOp.and IntKind.i64 rr bs == bs) = hasZ rr bs) := show _ = _ from bits_and HBS.out
            clear hps
            refine region_phase (fun wr => AdS w.heap.size ⟨rp, rr⟩ p q l more w wr) (fun _ => True) 99 (HG9.out.step (Below.refl _ _).drew) trivial [(0, .free), (1, .free), (2, .free), (3, .free), (4, .free), (5, .free), (6, .free), (7, .free), (8, .free), (9, .free), (10, .free), (11, .free), (13, .free), (14, .free), (15, .free), (16, .free), (17, .free), (18, .free), (12, .behind), (19, .free), (20, .free)] (by kernel_rfl) (by kernel_rfl) (by kernel_rfl) (by kernel_rfl) (fun ops hops A hA => ?_)
            have hsz : A.tmps.size = 137 := by rw [hA]; rfl
            have base0 : A.eval (.tmp 0) = .slice p k cap := by rw [hA]; rfl
            have base3 : A.eval (.tmp 3) = .int .i64 bs := by rw [hA]; rfl
            have base4 : A.eval (.tmp 4) = .string s := by rw [hA]; rfl
            have base6 : A.eval (.tmp 6) = .pointer (some ⟨w.heap.size, 0, none⟩) := by rw [hA]; rfl
            have base13 : A.eval (.tmp 13) = .slice q (k + 1) c4 := by rw [hA]; rfl
            have base14 : A.eval (.tmp 14) = .bool al := by rw [hA]; rfl
            have base11 : A.eval (.tmp 11) = .bool false := by rw [hA]; rfl
            have HAA := Lib.hid hA; clear hA
            obtain ⟨o0, po0, q0, d0, gd0⟩ : ∃ o, ops[0]? = some o ∧ o.op = .move (.tmp 11) ∧ o.dst = some 115 ∧ o.guard = none := ⟨_, by rw [hops]; rfl, rfl, rfl, rfl⟩
            obtain ⟨o1, po1, q1, d1, gd1⟩ : ∃ o, ops[1]? = some o ∧ o.op = .unOp .not 4 (.tmp 115) ∧ o.dst = some 116 ∧ o.guard = none := ⟨_, by rw [hops]; rfl, rfl, rfl, rfl⟩
            obtain ⟨o2, po2, q2, d2, gd2⟩ : ∃ o, ops[2]? = some o ∧ o.op = .move (.tmp 116) ∧ o.dst = some 117 ∧ o.guard = none := ⟨_, by rw [hops]; rfl, rfl, rfl, rfl⟩
            obtain ⟨o3, po3, q3, d3, gd3⟩ : ∃ o, ops[3]? = some o ∧ o.op = .fieldAddr 34 (.tmp 6) 0 ∧ o.dst = some 118 ∧ o.guard = some (2, true) := ⟨_, by rw [hops]; rfl, rfl, rfl, rfl⟩
            obtain ⟨o4, po4, q4, d4, gd4⟩ : ∃ o, ops[4]? = some o ∧ o.op = .load 9 (.tmp 118) ∧ o.dst = some 119 ∧ o.guard = some (2, true) := ⟨_, by rw [hops]; rfl, rfl, rfl, rfl⟩
            obtain ⟨o5, po5, q5, d5, gd5⟩ : ∃ o, ops[5]? = some o ∧ o.op = .move (.tmp 4) ∧ o.dst = some 120 ∧ o.guard = some (2, true) := ⟨_, by rw [hops]; rfl, rfl, rfl, rfl⟩
            obtain ⟨o6, po6, q6, d6, gd6⟩ : ∃ o, ops[6]? = some o ∧ o.op = .binOp .eql 9 (.tmp 119) (.tmp 120) 9 ∧ o.dst = some 121 ∧ o.guard = some (2, true) := ⟨_, by rw [hops]; rfl, rfl, rfl, rfl⟩
            obtain ⟨o7, po7, q7, d7, gd7⟩ : ∃ o, ops[7]? = some o ∧ o.op = .pick (.tmp 117) (.tmp 121) (.const (.bool false)) ∧ o.dst = some 122 ∧ o.guard = none := ⟨_, by rw [hops]; rfl, rfl, rfl, rfl⟩
            obtain ⟨o8, po8, q8, d8, gd8⟩ : ∃ o, ops[8]? = some o ∧ o.op = .move (.tmp 122) ∧ o.dst = some 123 ∧ o.guard = none := ⟨_, by rw [hops]; rfl, rfl, rfl, rfl⟩
            obtain ⟨o9, po9, q9, d9, gd9⟩ : ∃ o, ops[9]? = some o ∧ o.op = .move (.tmp 13) ∧ o.dst = some 124 ∧ o.guard = some (8, true) := ⟨_, by rw [hops]; rfl, rfl, rfl, rfl⟩
            obtain ⟨o10, po10, q10, d10, gd10⟩ : ∃ o, ops[10]? = some o ∧ o.op = .move (.tmp 3) ∧ o.dst = some 125 ∧ o.guard = some (8, true) := ⟨_, by rw [hops]; rfl, rfl, rfl, rfl⟩
            obtain ⟨o11, po11, q11, d11, gd11⟩ : ∃ o, ops[11]? = some o ∧ o.op = .move (.tmp 4) ∧ o.dst = some 126 ∧ o.guard = some (8, true) := ⟨_, by rw [hops]; rfl, rfl, rfl, rfl⟩
            obtain ⟨o12, po12, q12, d12, gd12⟩ : ∃ o, ops[12]? = some o ∧ o.op = .call { callee := .value (.func 24), args := #[.tmp 124, .tmp 125, .tmp 126], argTypes := #[32, 3, 9] } ∧ o.dst = some 127 ∧ o.guard = some (8, true) := ⟨_, by rw [hops]; rfl, rfl, rfl, rfl⟩
            obtain ⟨o13, po13, q13, d13, gd13⟩ : ∃ o, ops[13]? = some o ∧ o.op = .fieldAddr 34 (.tmp 6) 1 ∧ o.dst = some 128 ∧ o.guard = some (8, true) := ⟨_, by rw [hops]; rfl, rfl, rfl, rfl⟩
            obtain ⟨o14, po14, q14, d14, gd14⟩ : ∃ o, ops[14]? = some o ∧ o.op = .load 3 (.tmp 128) ∧ o.dst = some 129 ∧ o.guard = some (8, true) := ⟨_, by rw [hops]; rfl, rfl, rfl, rfl⟩
            obtain ⟨o15, po15, q15, d15, gd15⟩ : ∃ o, ops[15]? = some o ∧ o.op = .move (.tmp 3) ∧ o.dst = some 130 ∧ o.guard = some (8, true) := ⟨_, by rw [hops]; rfl, rfl, rfl, rfl⟩
            obtain ⟨o16, po16, q16, d16, gd16⟩ : ∃ o, ops[16]? = some o ∧ o.op = .binOp .and 3 (.tmp 129) (.tmp 130) 3 ∧ o.dst = some 131 ∧ o.guard = some (8, true) := ⟨_, by rw [hops]; rfl, rfl, rfl, rfl⟩
            obtain ⟨o17, po17, q17, d17, gd17⟩ : ∃ o, ops[17]? = some o ∧ o.op = .move (.tmp 3) ∧ o.dst = some 132 ∧ o.guard = some (8, true) := ⟨_, by rw [hops]; rfl, rfl, rfl, rfl⟩
            obtain ⟨o18, po18, q18, d18, gd18⟩ : ∃ o, ops[18]? = some o ∧ o.op = .binOp .eql 3 (.tmp 131) (.tmp 132) 3 ∧ o.dst = some 133 ∧ o.guard = some (8, true) := ⟨_, by rw [hops]; rfl, rfl, rfl, rfl⟩
            obtain ⟨o19, po19, q19, d19, gd19⟩ : ∃ o, ops[19]? = some o ∧ o.op = .binOp .neq 4 (.tmp 127) (.tmp 133) 4 ∧ o.dst = some 134 ∧ o.guard = some (8, true) := ⟨_, by rw [hops]; rfl, rfl, rfl, rfl⟩
            obtain ⟨o20, po20, q20, d20, gd20⟩ : ∃ o, ops[20]? = some o ∧ o.op = .pick (.tmp 123) (.tmp 134) (.const (.bool false)) ∧ o.dst = some 135 ∧ o.guard = none := ⟨_, by rw [hops]; rfl, rfl, rfl, rfl⟩
            clear hops
            refine met_free po0 d0 (wanted_of gd0) (fun w' h' => run_move q0 base11 w') ?_
            refine met_free po1 d1 (wanted_of gd1) (fun w' h' => r_notF q1 (eval_same _ _ _ (by rw [hsz]; decide)) w') ?_
            refine met_free po2 d2 (wanted_of gd2) (fun w' h' => run_move q2 (eval_same _ _ _ (by simp only [put_size, hsz]; decide)) w') ?_
            refine met_free po3 d3 (wanted_guard gd3 po2 d2 (eval_same _ _ _ (by simp only [put_size, hsz]; decide))) (fun w' h' => run_fieldR (by decide) q3 ((eval_other _ 117 6 _ (by decide)).trans ((eval_other _ 116 6 _ (by decide)).trans ((eval_other _ 115 6 _ (by decide)).trans base6))) w') ?_
            refine met_free po4 d4 (wanted_guard gd4 po2 d2 ((eval_other _ 118 117 _ (by decide)).trans (eval_same _ _ _ (by simp only [put_size, hsz]; decide)))) (fun w' h' => run_loadStr q4 (eval_same _ _ _ (by simp only [put_size, hsz]; decide)) h'.c0.1) ?_
            refine met_free po5 d5 (wanted_guard gd5 po2 d2 ((eval_other _ 119 117 _ (by decide)).trans ((eval_other _ 118 117 _ (by decide)).trans (eval_same _ _ _ (by simp only [put_size, hsz]; decide))))) (fun w' h' => run_move q5 ((eval_other _ 119 4 _ (by decide)).trans ((eval_other _ 118 4 _ (by decide)).trans ((eval_other _ 117 4 _ (by decide)).trans ((eval_other _ 116 4 _ (by decide)).trans ((eval_other _ 115 4 _ (by decide)).trans base4))))) w') ?_
            refine met_free po6 d6 (wanted_guard gd6 po2 d2 ((eval_other _ 120 117 _ (by decide)).trans ((eval_other _ 119 117 _ (by decide)).trans ((eval_other _ 118 117 _ (by decide)).trans (eval_same _ _ _ (by simp only [put_size, hsz]; decide)))))) (fun w' h' => r_eqS HEQ.out q6 ((eval_other _ 120 119 _ (by decide)).trans (eval_same _ _ _ (by simp only [put_size, hsz]; decide))) (eval_same _ _ _ (by simp only [put_size, hsz]; decide)) w') ?_
            refine met_free po7 d7 (wanted_of gd7) (fun w' h' => run_pick_true q7 ((eval_other _ 121 117 _ (by decide)).trans ((eval_other _ 120 117 _ (by decide)).trans ((eval_other _ 119 117 _ (by decide)).trans ((eval_other _ 118 117 _ (by decide)).trans (eval_same _ _ _ (by simp only [put_size, hsz]; decide)))))) (eval_same _ _ _ (by simp only [put_size, hsz]; decide)) w') ?_
            refine met_free po8 d8 (wanted_of gd8) (fun w' h' => run_move q8 (eval_same _ _ _ (by simp only [put_size, hsz]; decide)) w') ?_
            refine met_free po9 d9 (wanted_guard gd9 po8 d8 (eval_same _ _ _ (by simp only [put_size, hsz]; decide))) (fun w' h' => run_move q9 ((eval_other _ 123 13 _ (by decide)).trans ((eval_other _ 122 13 _ (by decide)).trans ((eval_other _ 121 13 _ (by decide)).trans ((eval_other _ 120 13 _ (by decide)).trans ((eval_other _ 119 13 _ (by decide)).trans ((eval_other _ 118 13 _ (by decide)).trans ((eval_other _ 117 13 _ (by decide)).trans ((eval_other _ 116 13 _ (by decide)).trans ((eval_other _ 115 13 _ (by decide)).trans base13))))))))) w') ?_
            refine met_free po10 d10 (wanted_guard gd10 po8 d8 ((eval_other _ 124 123 _ (by decide)).trans (eval_same _ _ _ (by simp only [put_size, hsz]; decide)))) (fun w' h' => run_move q10 ((eval_other _ 124 3 _ (by decide)).trans ((eval_other _ 123 3 _ (by decide)).trans ((eval_other _ 122 3 _ (by decide)).trans ((eval_other _ 121 3 _ (by decide)).trans ((eval_other _ 120 3 _ (by decide)).trans ((eval_other _ 119 3 _ (by decide)).trans ((eval_other _ 118 3 _ (by decide)).trans ((eval_other _ 117 3 _ (by decide)).trans ((eval_other _ 116 3 _ (by decide)).trans ((eval_other _ 115 3 _ (by decide)).trans base3)))))))))) w') ?_
            refine met_free po11 d11 (wanted_guard gd11 po8 d8 ((eval_other _ 125 123 _ (by decide)).trans ((eval_other _ 124 123 _ (by decide)).trans (eval_same _ _ _ (by simp only [put_size, hsz]; decide))))) (fun w' h' => run_move q11 ((eval_other _ 125 4 _ (by decide)).trans ((eval_other _ 124 4 _ (by decide)).trans ((eval_other _ 123 4 _ (by decide)).trans ((eval_other _ 122 4 _ (by decide)).trans ((eval_other _ 121 4 _ (by decide)).trans ((eval_other _ 120 4 _ (by decide)).trans ((eval_other _ 119 4 _ (by decide)).trans ((eval_other _ 118 4 _ (by decide)).trans ((eval_other _ 117 4 _ (by decide)).trans ((eval_other _ 116 4 _ (by decide)).trans ((eval_other _ 115 4 _ (by decide)).trans base4))))))))))) w') ?_
            refine met_free po13 d13 (wanted_guard gd13 po8 d8 ((eval_other _ 126 123 _ (by decide)).trans ((eval_other _ 125 123 _ (by decide)).trans ((eval_other _ 124 123 _ (by decide)).trans (eval_same _ _ _ (by simp only [put_size, hsz]; decide)))))) (fun w' h' => run_fieldR (by decide) q13 ((eval_other _ 126 6 _ (by decide)).trans ((eval_other _ 125 6 _ (by decide)).trans ((eval_other _ 124 6 _ (by decide)).trans ((eval_other _ 123 6 _ (by decide)).trans ((eval_other _ 122 6 _ (by decide)).trans ((eval_other _ 121 6 _ (by decide)).trans ((eval_other _ 120 6 _ (by decide)).trans ((eval_other _ 119 6 _ (by decide)).trans ((eval_other _ 118 6 _ (by decide)).trans ((eval_other _ 117 6 _ (by decide)).trans ((eval_other _ 116 6 _ (by decide)).trans ((eval_other _ 115 6 _ (by decide)).trans base6)))))))))))) w') ?_
            refine met_free po14 d14 (wanted_guard gd14 po8 d8 ((eval_other _ 128 123 _ (by decide)).trans ((eval_other _ 126 123 _ (by decide)).trans ((eval_other _ 125 123 _ (by decide)).trans ((eval_other _ 124 123 _ (by decide)).trans (eval_same _ _ _ (by simp only [put_size, hsz]; decide))))))) (fun w' h' => run_loadInt q14 (eval_same _ _ _ (by simp only [put_size, hsz]; decide)) h'.c0.2) ?_
            refine met_free po15 d15 (wanted_guard gd15 po8 d8 ((eval_other _ 129 123 _ (by decide)).trans ((eval_other _ 128 123 _ (by decide)).trans ((eval_other _ 126 123 _ (by decide)).trans ((eval_other _ 125 123 _ (by decide)).trans ((eval_other _ 124 123 _ (by decide)).trans (eval_same _ _ _ (by simp only [put_size, hsz]; decide)))))))) (fun w' h' => run_move q15 ((eval_other _ 129 3 _ (by decide)).trans ((eval_other _ 128 3 _ (by decide)).trans ((eval_other _ 126 3 _ (by decide)).trans ((eval_other _ 125 3 _ (by decide)).trans ((eval_other _ 124 3 _ (by decide)).trans ((eval_other _ 123 3 _ (by decide)).trans ((eval_other _ 122 3 _ (by decide)).trans ((eval_other _ 121 3 _ (by decide)).trans ((eval_other _ 120 3 _ (by decide)).trans ((eval_other _ 119 3 _ (by decide)).trans ((eval_other _ 118 3 _ (by decide)).trans ((eval_other _ 117 3 _ (by decide)).trans ((eval_other _ 116 3 _ (by decide)).trans ((eval_other _ 115 3 _ (by decide)).trans base3)))))))))))))) w') ?_
            refine met_free po16 d16 (wanted_guard gd16 po8 d8 ((eval_other _ 130 123 _ (by decide)).trans ((eval_other _ 129 123 _ (by decide)).trans ((eval_other _ 128 123 _ (by decide)).trans ((eval_other _ 126 123 _ (by decide)).trans ((eval_other _ 125 123 _ (by decide)).trans ((eval_other _ 124 123 _ (by decide)).trans (eval_same _ _ _ (by simp only [put_size, hsz]; decide))))))))) (fun w' h' => r_and q16 ((eval_other _ 130 129 _ (by decide)).trans (eval_same _ _ _ (by simp only [put_size, hsz]; decide))) (eval_same _ _ _ (by simp only [put_size, hsz]; decide)) w') ?_
            refine met_free po17 d17 (wanted_guard gd17 po8 d8 ((eval_other _ 131 123 _ (by decide)).trans ((eval_other _ 130 123 _ (by decide)).trans ((eval_other _ 129 123 _ (by decide)).trans ((eval_other _ 128 123 _ (by decide)).trans ((eval_other _ 126 123 _ (by decide)).trans ((eval_other _ 125 123 _ (by decide)).trans ((eval_other _ 124 123 _ (by decide)).trans (eval_same _ _ _ (by simp only [put_size, hsz]; decide)))))))))) (fun w' h' => run_move q17 ((eval_other _ 131 3 _ (by decide)).trans ((eval_other _ 130 3 _ (by decide)).trans ((eval_other _ 129 3 _ (by decide)).trans ((eval_other _ 128 3 _ (by decide)).trans ((eval_other _ 126 3 _ (by decide)).trans ((eval_other _ 125 3 _ (by decide)).trans ((eval_other _ 124 3 _ (by decide)).trans ((eval_other _ 123 3 _ (by decide)).trans ((eval_other _ 122 3 _ (by decide)).trans ((eval_other _ 121 3 _ (by decide)).trans ((eval_other _ 120 3 _ (by decide)).trans ((eval_other _ 119 3 _ (by decide)).trans ((eval_other _ 118 3 _ (by decide)).trans ((eval_other _ 117 3 _ (by decide)).trans ((eval_other _ 116 3 _ (by decide)).trans ((eval_other _ 115 3 _ (by decide)).trans base3)))))))))))))))) w') ?_
            refine met_free po18 d18 (wanted_guard gd18 po8 d8 ((eval_other _ 132 123 _ (by decide)).trans ((eval_other _ 131 123 _ (by decide)).trans ((eval_other _ 130 123 _ (by decide)).trans ((eval_other _ 129 123 _ (by decide)).trans ((eval_other _ 128 123 _ (by decide)).trans ((eval_other _ 126 123 _ (by decide)).trans ((eval_other _ 125 123 _ (by decide)).trans ((eval_other _ 124 123 _ (by decide)).trans (eval_same _ _ _ (by simp only [put_size, hsz]; decide))))))))))) (fun w' h' => r_eqI HBT.out q18 ((eval_other _ 132 131 _ (by decide)).trans (eval_same _ _ _ (by simp only [put_size, hsz]; decide))) (eval_same _ _ _ (by simp only [put_size, hsz]; decide)) w') ?_
            refine m_enter po12 d12 (wanted_guard gd12 po8 d8 ((eval_other _ 133 123 _ (by decide)).trans ((eval_other _ 132 123 _ (by decide)).trans ((eval_other _ 131 123 _ (by decide)).trans ((eval_other _ 130 123 _ (by decide)).trans ((eval_other _ 129 123 _ (by decide)).trans ((eval_other _ 128 123 _ (by decide)).trans ((eval_other _ 126 123 _ (by decide)).trans ((eval_other _ 125 123 _ (by decide)).trans ((eval_other _ 124 123 _ (by decide)).trans (eval_same _ _ _ (by simp only [put_size, hsz]; decide)))))))))))) (run_callf3 q12 rfl ((eval_other _ 133 124 _ (by decide)).trans ((eval_other _ 132 124 _ (by decide)).trans ((eval_other _ 131 124 _ (by decide)).trans ((eval_other _ 130 124 _ (by decide)).trans ((eval_other _ 129 124 _ (by decide)).trans ((eval_other _ 128 124 _ (by decide)).trans ((eval_other _ 126 124 _ (by decide)).trans ((eval_other _ 125 124 _ (by decide)).trans (eval_same _ _ _ (by simp only [put_size, hsz]; decide)))))))))) ((eval_other _ 133 125 _ (by decide)).trans ((eval_other _ 132 125 _ (by decide)).trans ((eval_other _ 131 125 _ (by decide)).trans ((eval_other _ 130 125 _ (by decide)).trans ((eval_other _ 129 125 _ (by decide)).trans ((eval_other _ 128 125 _ (by decide)).trans ((eval_other _ 126 125 _ (by decide)).trans (eval_same _ _ _ (by simp only [put_size, hsz]; decide))))))))) ((eval_other _ 133 126 _ (by decide)).trans ((eval_other _ 132 126 _ (by decide)).trans ((eval_other _ 131 126 _ (by decide)).trans ((eval_other _ 130 126 _ (by decide)).trans ((eval_other _ 129 126 _ (by decide)).trans ((eval_other _ 128 126 _ (by decide)).trans (eval_same _ _ _ (by simp only [put_size, hsz]; decide)))))))) Try.func24 (by kernel_rfl) _) ((HV.out ▸ HAM.out _ ((HG9.out.step (Below.refl _ _).drew)) : Calls _ _ _ _ (ReturnsG (hasZ rr bs) _))) ?_
            rintro e w20_1 ⟨rfl, hb⟩
            have HSw20_1 := Lib.hid ((HG9.out.step (Below.refl _ _).drew).step hb)
            clear hb
            refine ⟨_, rfl, HSw20_1.out, ?_⟩
            refine met_free po19 d19 (wanted_guard gd19 po8 d8 ((eval_other _ 127 123 _ (by decide)).trans ((eval_other _ 133 123 _ (by decide)).trans ((eval_other _ 132 123 _ (by decide)).trans ((eval_other _ 131 123 _ (by decide)).trans ((eval_other _ 130 123 _ (by decide)).trans ((eval_other _ 129 123 _ (by decide)).trans ((eval_other _ 128 123 _ (by decide)).trans ((eval_other _ 126 123 _ (by decide)).trans ((eval_other _ 125 123 _ (by decide)).trans ((eval_other _ 124 123 _ (by decide)).trans (eval_same _ _ _ (by simp only [put_size, hsz]; decide))))))))))))) (fun w' h' => r_neB q19 (eval_same _ _ _ (by simp only [put_size, hsz]; decide)) ((eval_other _ 127 133 _ (by decide)).trans (eval_same _ _ _ (by simp only [put_size, hsz]; decide))) w') ?_
            refine met_free po20 d20 (wanted_of gd20) (fun w' h' => run_pick_true q20 ((eval_other _ 134 123 _ (by decide)).trans ((eval_other _ 127 123 _ (by decide)).trans ((eval_other _ 133 123 _ (by decide)).trans ((eval_other _ 132 123 _ (by decide)).trans ((eval_other _ 131 123 _ (by decide)).trans ((eval_other _ 130 123 _ (by decide)).trans ((eval_other _ 129 123 _ (by decide)).trans ((eval_other _ 128 123 _ (by decide)).trans ((eval_other _ 126 123 _ (by decide)).trans ((eval_other _ 125 123 _ (by decide)).trans ((eval_other _ 124 123 _ (by decide)).trans (eval_same _ _ _ (by simp only [put_size, hsz]; decide))))))))))))) (eval_same _ _ _ (by simp only [put_size, hsz]; decide)) w') ?_
            show NoPanic _ .normal _ _
            refine NoPanic.normal ?_
            rw [HAA.out]
            go_frame
            clear HAA
            clear po0 q0 d0 gd0 po1 q1 d1 gd1 po2 q2 d2 gd2 po3 q3 d3 gd3 po4 q4 d4 gd4 po5 q5 d5 gd5 po6 q6 d6 gd6 po7 q7 d7 gd7 po8 q8 d8 gd8 po9 q9 d9 gd9 po10 q10 d10 gd10 po11 q11 d11 gd11 po12 q12 d12 gd12 po13 q13 d13 gd13 po14 q14 d14 gd14 po15 q15 d15 gd15 po16 q16 d16 gd16 po17 q17 d17 gd17 po18 q18 d18 gd18 po19 q19 d19 gd19 po20 q20 d20 gd20
            clear base0 base3 base4 base6 base13 base14 base11 hsz
            go_wp2_with fail
            go_meet
            exact ⟨rfl, HSw20_1.out⟩
          · have HEQ : Hid ((rp.toList == s.toList) = false) := show _ = _ from (ne_strs (fun e => hps e.symm)).2
            clear hps
            refine region_phase (fun wr => AdS w.heap.size ⟨rp, rr⟩ p q l more w wr) (fun _ => True) 99 (HG9.out.step (Below.refl _ _).drew) trivial [(0, .free), (1, .free), (2, .free), (3, .free), (4, .free), (5, .free), (6, .free), (7, .free), (8, .free), (9, .free), (10, .free), (11, .free), (13, .free), (14, .free), (15, .free), (16, .free), (17, .free), (18, .free), (12, .behind), (19, .free), (20, .free)] (by kernel_rfl) (by kernel_rfl) (by kernel_rfl) (by kernel_rfl) (fun ops hops A hA => ?_)
            have hsz : A.tmps.size = 137 := by rw [hA]; rfl
            have base0 : A.eval (.tmp 0) = .slice p k cap := by rw [hA]; rfl
            have base3 : A.eval (.tmp 3) = .int .i64 bs := by rw [hA]; rfl
            have base4 : A.eval (.tmp 4) = .string s := by rw [hA]; rfl
            have base6 : A.eval (.tmp 6) = .pointer (some ⟨w.heap.size, 0, none⟩) := by rw [hA]; rfl
            have base13 : A.eval (.tmp 13) = .slice q (k + 1) c4 := by rw [hA]; rfl
            have base14 : A.eval (.tmp 14) = .bool al := by rw [hA]; rfl
            have base11 : A.eval (.tmp 11) = .bool false := by rw [hA]; rfl
            have HAA := Lib.hid hA; clear hA
            obtain ⟨o0, po0, q0, d0, gd0⟩ : ∃ o, ops[0]? = some o ∧ o.op = .move (.tmp 11) ∧ o.dst = some 115 ∧ o.guard = none := ⟨_, by rw [hops]; rfl, rfl, rfl, rfl⟩
            obtain ⟨o1, po1, q1, d1, gd1⟩ : ∃ o, ops[1]? = some o ∧ o.op = .unOp .not 4 (.tmp 115) ∧ o.dst = some 116 ∧ o.guard = none := ⟨_, by rw [hops]; rfl, rfl, rfl, rfl⟩
            obtain ⟨o2, po2, q2, d2, gd2⟩ : ∃ o, ops[2]? = some o ∧ o.op = .move (.tmp 116) ∧ o.dst = some 117 ∧ o.guard = none := ⟨_, by rw [hops]; rfl, rfl, rfl, rfl⟩
            obtain ⟨o3, po3, q3, d3, gd3⟩ : ∃ o, ops[3]? = some o ∧ o.op = .fieldAddr 34 (.tmp 6) 0 ∧ o.dst = some 118 ∧ o.guard = some (2, true) := ⟨_, by rw [hops]; rfl, rfl, rfl, rfl⟩
            obtain ⟨o4, po4, q4, d4, gd4⟩ : ∃ o, ops[4]? = some o ∧ o.op = .load 9 (.tmp 118) ∧ o.dst = some 119 ∧ o.guard = some (2, true) := ⟨_, by rw [hops]; rfl, rfl, rfl, rfl⟩
            obtain ⟨o5, po5, q5, d5, gd5⟩ : ∃ o, ops[5]? = some o ∧ o.op = .move (.tmp 4) ∧ o.dst = some 120 ∧ o.guard = some (2, true) := ⟨_, by rw [hops]; rfl, rfl, rfl, rfl⟩
            obtain ⟨o6, po6, q6, d6, gd6⟩ : ∃ o, ops[6]? = some o ∧ o.op = .binOp .eql 9 (.tmp 119) (.tmp 120) 9 ∧ o.dst = some 121 ∧ o.guard = some (2, true) := ⟨_, by rw [hops]; rfl, rfl, rfl, rfl⟩
            obtain ⟨o7, po7, q7, d7, gd7⟩ : ∃ o, ops[7]? = some o ∧ o.op = .pick (.tmp 117) (.tmp 121) (.const (.bool false)) ∧ o.dst = some 122 ∧ o.guard = none := ⟨_, by rw [hops]; rfl, rfl, rfl, rfl⟩
            obtain ⟨o8, po8, q8, d8, gd8⟩ : ∃ o, ops[8]? = some o ∧ o.op = .move (.tmp 122) ∧ o.dst = some 123 ∧ o.guard = none := ⟨_, by rw [hops]; rfl, rfl, rfl, rfl⟩
            obtain ⟨o9, po9, q9, d9, gd9⟩ : ∃ o, ops[9]? = some o ∧ o.op = .move (.tmp 13) ∧ o.dst = some 124 ∧ o.guard = some (8, true) := ⟨_, by rw [hops]; rfl, rfl, rfl, rfl⟩
            obtain ⟨o10, po10, q10, d10, gd10⟩ : ∃ o, ops[10]? = some o ∧ o.op = .move (.tmp 3) ∧ o.dst = some 125 ∧ o.guard = some (8, true) := ⟨_, by rw [hops]; rfl, rfl, rfl, rfl⟩
            obtain ⟨o11, po11, q11, d11, gd11⟩ : ∃ o, ops[11]? = some o ∧ o.op = .move (.tmp 4) ∧ o.dst = some 126 ∧ o.guard = some (8, true) := ⟨_, by rw [hops]; rfl, rfl, rfl, rfl⟩
            obtain ⟨o12, po12, q12, d12, gd12⟩ : ∃ o, ops[12]? = some o ∧ o.op = .call { callee := .value (.func 24), args := #[.tmp 124, .tmp 125, .tmp 126], argTypes := #[32, 3, 9] } ∧ o.dst = some 127 ∧ o.guard = some (8, true) := ⟨_, by rw [hops]; rfl, rfl, rfl, rfl⟩
            obtain ⟨o13, po13, q13, d13, gd13⟩ : ∃ o, ops[13]? = some o ∧ o.op = .fieldAddr 34 (.tmp 6) 1 ∧ o.dst = some 128 ∧ o.guard = some (8, true) := ⟨_, by rw [hops]; rfl, rfl, rfl, rfl⟩
            obtain ⟨o14, po14, q14, d14, gd14⟩ : ∃ o, ops[14]? = some o ∧ o.op = .load 3 (.tmp 128) ∧ o.dst = some 129 ∧ o.guard = some (8, true) := ⟨_, by rw [hops]; rfl, rfl, rfl, rfl⟩
            obtain ⟨o15, po15, q15, d15, gd15⟩ : ∃ o, ops[15]? = some o ∧ o.op = .move (.tmp 3) ∧ o.dst = some 130 ∧ o.guard = some (8, true) := ⟨_, by rw [hops]; rfl, rfl, rfl, rfl⟩
            obtain ⟨o16, po16, q16, d16, gd16⟩ : ∃ o, ops[16]? = some o ∧ o.op = .binOp .and 3 (.tmp 129) (.tmp 130) 3 ∧ o.dst = some 131 ∧ o.guard = some (8, true) := ⟨_, by rw [hops]; rfl, rfl, rfl, rfl⟩
            obtain ⟨o17, po17, q17, d17, gd17⟩ : ∃ o, ops[17]? = some o ∧ o.op = .move (.tmp 3) ∧ o.dst = some 132 ∧ o.guard = some (8, true) := ⟨_, by rw [hops]; rfl, rfl, rfl, rfl⟩
            obtain ⟨o18, po18, q18, d18, gd18⟩ : ∃ o, ops[18]? = some o ∧ o.op = .binOp .eql 3 (.tmp 131) (.tmp 132) 3 ∧ o.dst = some 133 ∧ o.guard = some (8, true) := ⟨_, by rw [hops]; rfl, rfl, rfl, rfl⟩
            obtain ⟨o19, po19, q19, d19, gd19⟩ : ∃ o, ops[19]? = some o ∧ o.op = .binOp .neq 4 (.tmp 127) (.tmp 133) 4 ∧ o.dst = some 134 ∧ o.guard = some (8, true) := ⟨_, by rw [hops]; rfl, rfl, rfl, rfl⟩
            obtain ⟨o20, po20, q20, d20, gd20⟩ : ∃ o, ops[20]? = some o ∧ o.op = .pick (.tmp 123) (.tmp 134) (.const (.bool false)) ∧ o.dst = some 135 ∧ o.guard = none := ⟨_, by rw [hops]; rfl, rfl, rfl, rfl⟩
            clear hops
            refine met_free po0 d0 (wanted_of gd0) (fun w' h' => run_move q0 base11 w') ?_
            refine met_free po1 d1 (wanted_of gd1) (fun w' h' => r_notF q1 (eval_same _ _ _ (by rw [hsz]; decide)) w') ?_
            refine met_free po2 d2 (wanted_of gd2) (fun w' h' => run_move q2 (eval_same _ _ _ (by simp only [put_size, hsz]; decide)) w') ?_
            refine met_free po3 d3 (wanted_guard gd3 po2 d2 (eval_same _ _ _ (by simp only [put_size, hsz]; decide))) (fun w' h' => run_fieldR (by decide) q3 ((eval_other _ 117 6 _ (by decide)).trans ((eval_other _ 116 6 _ (by decide)).trans ((eval_other _ 115 6 _ (by decide)).trans base6))) w') ?_
            refine met_free po4 d4 (wanted_guard gd4 po2 d2 ((eval_other _ 118 117 _ (by decide)).trans (eval_same _ _ _ (by simp only [put_size, hsz]; decide)))) (fun w' h' => run_loadStr q4 (eval_same _ _ _ (by simp only [put_size, hsz]; decide)) h'.c0.1) ?_
            refine met_free po5 d5 (wanted_guard gd5 po2 d2 ((eval_other _ 119 117 _ (by decide)).trans ((eval_other _ 118 117 _ (by decide)).trans (eval_same _ _ _ (by simp only [put_size, hsz]; decide))))) (fun w' h' => run_move q5 ((eval_other _ 119 4 _ (by decide)).trans ((eval_other _ 118 4 _ (by decide)).trans ((eval_other _ 117 4 _ (by decide)).trans ((eval_other _ 116 4 _ (by decide)).trans ((eval_other _ 115 4 _ (by decide)).trans base4))))) w') ?_
            refine met_free po6 d6 (wanted_guard gd6 po2 d2 ((eval_other _ 120 117 _ (by decide)).trans ((eval_other _ 119 117 _ (by decide)).trans ((eval_other _ 118 117 _ (by decide)).trans (eval_same _ _ _ (by simp only [put_size, hsz]; decide)))))) (fun w' h' => r_eqS HEQ.out q6 ((eval_other _ 120 119 _ (by decide)).trans (eval_same _ _ _ (by simp only [put_size, hsz]; decide))) (eval_same _ _ _ (by simp only [put_size, hsz]; decide)) w') ?_
            refine met_free po7 d7 (wanted_of gd7) (fun w' h' => run_pick_true q7 ((eval_other _ 121 117 _ (by decide)).trans ((eval_other _ 120 117 _ (by decide)).trans ((eval_other _ 119 117 _ (by decide)).trans ((eval_other _ 118 117 _ (by decide)).trans (eval_same _ _ _ (by simp only [put_size, hsz]; decide)))))) (eval_same _ _ _ (by simp only [put_size, hsz]; decide)) w') ?_
            refine met_free po8 d8 (wanted_of gd8) (fun w' h' => run_move q8 (eval_same _ _ _ (by simp only [put_size, hsz]; decide)) w') ?_
            refine m_unwanted po9 d9 (w_not gd9 po8 d8 (eval_same _ _ _ (by simp only [put_size, hsz]; decide))) ?_
            refine m_unwanted po10 d10 (w_not gd10 po8 d8 ((eval_other _ 124 123 _ (by decide)).trans (eval_same _ _ _ (by simp only [put_size, hsz]; decide)))) ?_
            refine m_unwanted po11 d11 (w_not gd11 po8 d8 ((eval_other _ 125 123 _ (by decide)).trans ((eval_other _ 124 123 _ (by decide)).trans (eval_same _ _ _ (by simp only [put_size, hsz]; decide))))) ?_
            refine m_unwanted po13 d13 (w_not gd13 po8 d8 ((eval_other _ 126 123 _ (by decide)).trans ((eval_other _ 125 123 _ (by decide)).trans ((eval_other _ 124 123 _ (by decide)).trans (eval_same _ _ _ (by simp only [put_size, hsz]; decide)))))) ?_
            refine m_unwanted po14 d14 (w_not gd14 po8 d8 ((eval_other _ 128 123 _ (by decide)).trans ((eval_other _ 126 123 _ (by decide)).trans ((eval_other _ 125 123 _ (by decide)).trans ((eval_other _ 124 123 _ (by decide)).trans (eval_same _ _ _ (by simp only [put_size, hsz]; decide))))))) ?_
            refine m_unwanted po15 d15 (w_not gd15 po8 d8 ((eval_other _ 129 123 _ (by decide)).trans ((eval_other _ 128 123 _ (by decide)).trans ((eval_other _ 126 123 _ (by decide)).trans ((eval_other _ 125 123 _ (by decide)).trans ((eval_other _ 124 123 _ (by decide)).trans (eval_same _ _ _ (by simp only [put_size, hsz]; decide)))))))) ?_
            refine m_unwanted po16 d16 (w_not gd16 po8 d8 ((eval_other _ 130 123 _ (by decide)).trans ((eval_other _ 129 123 _ (by decide)).trans ((eval_other _ 128 123 _ (by decide)).trans ((eval_other _ 126 123 _ (by decide)).trans ((eval_other _ 125 123 _ (by decide)).trans ((eval_other _ 124 123 _ (by decide)).trans (eval_same _ _ _ (by simp only [put_size, hsz]; decide))))))))) ?_
            refine m_unwanted po17 d17 (w_not gd17 po8 d8 ((eval_other _ 131 123 _ (by decide)).trans ((eval_other _ 130 123 _ (by decide)).trans ((eval_other _ 129 123 _ (by decide)).trans ((eval_other _ 128 123 _ (by decide)).trans ((eval_other _ 126 123 _ (by decide)).trans ((eval_other _ 125 123 _ (by decide)).trans ((eval_other _ 124 123 _ (by decide)).trans (eval_same _ _ _ (by simp only [put_size, hsz]; decide)))))))))) ?_
            refine m_unwanted po18 d18 (w_not gd18 po8 d8 ((eval_other _ 132 123 _ (by decide)).trans ((eval_other _ 131 123 _ (by decide)).trans ((eval_other _ 130 123 _ (by decide)).trans ((eval_other _ 129 123 _ (by decide)).trans ((eval_other _ 128 123 _ (by decide)).trans ((eval_other _ 126 123 _ (by decide)).trans ((eval_other _ 125 123 _ (by decide)).trans ((eval_other _ 124 123 _ (by decide)).trans (eval_same _ _ _ (by simp only [put_size, hsz]; decide))))))))))) ?_
            refine m_skipped po12 d12 (w_not gd12 po8 d8 ((eval_other _ 133 123 _ (by decide)).trans ((eval_other _ 132 123 _ (by decide)).trans ((eval_other _ 131 123 _ (by decide)).trans ((eval_other _ 130 123 _ (by decide)).trans ((eval_other _ 129 123 _ (by decide)).trans ((eval_other _ 128 123 _ (by decide)).trans ((eval_other _ 126 123 _ (by decide)).trans ((eval_other _ 125 123 _ (by decide)).trans ((eval_other _ 124 123 _ (by decide)).trans (eval_same _ _ _ (by simp only [put_size, hsz]; decide)))))))))))) ⟨HG9.out.step (Below.refl _ _).drew, ?_⟩
            refine m_unwanted po19 d19 (w_not gd19 po8 d8 ((eval_other _ 127 123 _ (by decide)).trans ((eval_other _ 133 123 _ (by decide)).trans ((eval_other _ 132 123 _ (by decide)).trans ((eval_other _ 131 123 _ (by decide)).trans ((eval_other _ 130 123 _ (by decide)).trans ((eval_other _ 129 123 _ (by decide)).trans ((eval_other _ 128 123 _ (by decide)).trans ((eval_other _ 126 123 _ (by decide)).trans ((eval_other _ 125 123 _ (by decide)).trans ((eval_other _ 124 123 _ (by decide)).trans (eval_same _ _ _ (by simp only [put_size, hsz]; decide))))))))))))) ?_
            refine met_free po20 d20 (wanted_of gd20) (fun w' h' => r_pickF q20 ((eval_other _ 134 123 _ (by decide)).trans ((eval_other _ 127 123 _ (by decide)).trans ((eval_other _ 133 123 _ (by decide)).trans ((eval_other _ 132 123 _ (by decide)).trans ((eval_other _ 131 123 _ (by decide)).trans ((eval_other _ 130 123 _ (by decide)).trans ((eval_other _ 129 123 _ (by decide)).trans ((eval_other _ 128 123 _ (by decide)).trans ((eval_other _ 126 123 _ (by decide)).trans ((eval_other _ 125 123 _ (by decide)).trans ((eval_other _ 124 123 _ (by decide)).trans (eval_same _ _ _ (by simp only [put_size, hsz]; decide))))))))))))) rfl w') ?_
            show NoPanic _ .normal _ _
            refine NoPanic.normal ?_
            rw [HAA.out]
            go_frame
            clear HAA
            clear po0 q0 d0 gd0 po1 q1 d1 gd1 po2 q2 d2 gd2 po3 q3 d3 gd3 po4 q4 d4 gd4 po5 q5 d5 gd5 po6 q6 d6 gd6 po7 q7 d7 gd7 po8 q8 d8 gd8 po9 q9 d9 gd9 po10 q10 d10 gd10 po11 q11 d11 gd11 po12 q12 d12 gd12 po13 q13 d13 gd13 po14 q14 d14 gd14 po15 q15 d15 gd15 po16 q16 d16 gd16 po17 q17 d17 gd17 po18 q18 d18 gd18 po19 q19 d19 gd19 po20 q20 d20 gd20
            clear base0 base3 base4 base6 base13 base14 base11 hsz
            go_wp2_with fail
            go_meet
            exact ⟨rfl, (HG9.out.step (Below.refl _ _).drew)⟩
        · skip
          refine region_phase (fun wr => AdS w.heap.size ⟨rp, rr⟩ p q l more w wr) (fun _ => True) 99 (HG9.out.step (Below.refl _ _).drew) trivial [(0, .free), (1, .free), (2, .free), (3, .free), (4, .free), (5, .free), (6, .free), (7, .free), (8, .free), (9, .free), (10, .free), (11, .free), (13, .free), (14, .free), (15, .free), (16, .free), (17, .free), (18, .free), (12, .behind), (19, .free), (20, .free)] (by kernel_rfl) (by kernel_rfl) (by kernel_rfl) (by kernel_rfl) (fun ops hops A hA => ?_)
          have hsz : A.tmps.size = 137 := by rw [hA]; rfl
          have base0 : A.eval (.tmp 0) = .slice p k cap := by rw [hA]; rfl
          have base3 : A.eval (.tmp 3) = .int .i64 bs := by rw [hA]; rfl
          have base4 : A.eval (.tmp 4) = .string s := by rw [hA]; rfl
          have base6 : A.eval (.tmp 6) = .pointer (some ⟨w.heap.size, 0, none⟩) := by rw [hA]; rfl
          have base13 : A.eval (.tmp 13) = .slice q (k + 1) c4 := by rw [hA]; rfl
          have base14 : A.eval (.tmp 14) = .bool al := by rw [hA]; rfl
          have base11 : A.eval (.tmp 11) = .bool true := by rw [hA]; rfl
          have HAA := Lib.hid hA; clear hA
          obtain ⟨o0, po0, q0, d0, gd0⟩ : ∃ o, ops[0]? = some o ∧ o.op = .move (.tmp 11) ∧ o.dst = some 115 ∧ o.guard = none := ⟨_, by rw [hops]; rfl, rfl, rfl, rfl⟩
          obtain ⟨o1, po1, q1, d1, gd1⟩ : ∃ o, ops[1]? = some o ∧ o.op = .unOp .not 4 (.tmp 115) ∧ o.dst = some 116 ∧ o.guard = none := ⟨_, by rw [hops]; rfl, rfl, rfl, rfl⟩
          obtain ⟨o2, po2, q2, d2, gd2⟩ : ∃ o, ops[2]? = some o ∧ o.op = .move (.tmp 116) ∧ o.dst = some 117 ∧ o.guard = none := ⟨_, by rw [hops]; rfl, rfl, rfl, rfl⟩
          obtain ⟨o3, po3, q3, d3, gd3⟩ : ∃ o, ops[3]? = some o ∧ o.op = .fieldAddr 34 (.tmp 6) 0 ∧ o.dst = some 118 ∧ o.guard = some (2, true) := ⟨_, by rw [hops]; rfl, rfl, rfl, rfl⟩
          obtain ⟨o4, po4, q4, d4, gd4⟩ : ∃ o, ops[4]? = some o ∧ o.op = .load 9 (.tmp 118) ∧ o.dst = some 119 ∧ o.guard = some (2, true) := ⟨_, by rw [hops]; rfl, rfl, rfl, rfl⟩
          obtain ⟨o5, po5, q5, d5, gd5⟩ : ∃ o, ops[5]? = some o ∧ o.op = .move (.tmp 4) ∧ o.dst = some 120 ∧ o.guard = some (2, true) := ⟨_, by rw [hops]; rfl, rfl, rfl, rfl⟩
          obtain ⟨o6, po6, q6, d6, gd6⟩ : ∃ o, ops[6]? = some o ∧ o.op = .binOp .eql 9 (.tmp 119) (.tmp 120) 9 ∧ o.dst = some 121 ∧ o.guard = some (2, true) := ⟨_, by rw [hops]; rfl, rfl, rfl, rfl⟩
          obtain ⟨o7, po7, q7, d7, gd7⟩ : ∃ o, ops[7]? = some o ∧ o.op = .pick (.tmp 117) (.tmp 121) (.const (.bool false)) ∧ o.dst = some 122 ∧ o.guard = none := ⟨_, by rw [hops]; rfl, rfl, rfl, rfl⟩
          obtain ⟨o8, po8, q8, d8, gd8⟩ : ∃ o, ops[8]? = some o ∧ o.op = .move (.tmp 122) ∧ o.dst = some 123 ∧ o.guard = none := ⟨_, by rw [hops]; rfl, rfl, rfl, rfl⟩
          obtain ⟨o9, po9, q9, d9, gd9⟩ : ∃ o, ops[9]? = some o ∧ o.op = .move (.tmp 13) ∧ o.dst = some 124 ∧ o.guard = some (8, true) := ⟨_, by rw [hops]; rfl, rfl, rfl, rfl⟩
          obtain ⟨o10, po10, q10, d10, gd10⟩ : ∃ o, ops[10]? = some o ∧ o.op = .move (.tmp 3) ∧ o.dst = some 125 ∧ o.guard = some (8, true) := ⟨_, by rw [hops]; rfl, rfl, rfl, rfl⟩
          obtain ⟨o11, po11, q11, d11, gd11⟩ : ∃ o, ops[11]? = some o ∧ o.op = .move (.tmp 4) ∧ o.dst = some 126 ∧ o.guard = some (8, true) := ⟨_, by rw [hops]; rfl, rfl, rfl, rfl⟩
          obtain ⟨o12, po12, q12, d12, gd12⟩ : ∃ o, ops[12]? = some o ∧ o.op = .call { callee := .value (.func 24), args := #[.tmp 124, .tmp 125, .tmp 126], argTypes := #[32, 3, 9] } ∧ o.dst = some 127 ∧ o.guard = some (8, true) := ⟨_, by rw [hops]; rfl, rfl, rfl, rfl⟩
          obtain ⟨o13, po13, q13, d13, gd13⟩ : ∃ o, ops[13]? = some o ∧ o.op = .fieldAddr 34 (.tmp 6) 1 ∧ o.dst = some 128 ∧ o.guard = some (8, true) := ⟨_, by rw [hops]; rfl, rfl, rfl, rfl⟩
          obtain ⟨o14, po14, q14, d14, gd14⟩ : ∃ o, ops[14]? = some o ∧ o.op = .load 3 (.tmp 128) ∧ o.dst = some 129 ∧ o.guard = some (8, true) := ⟨_, by rw [hops]; rfl, rfl, rfl, rfl⟩
          obtain ⟨o15, po15, q15, d15, gd15⟩ : ∃ o, ops[15]? = some o ∧ o.op = .move (.tmp 3) ∧ o.dst = some 130 ∧ o.guard = some (8, true) := ⟨_, by rw [hops]; rfl, rfl, rfl, rfl⟩
          obtain ⟨o16, po16, q16, d16, gd16⟩ : ∃ o, ops[16]? = some o ∧ o.op = .binOp .and 3 (.tmp 129) (.tmp 130) 3 ∧ o.dst = some 131 ∧ o.guard = some (8, true) := ⟨_, by rw [hops]; rfl, rfl, rfl, rfl⟩
          obtain ⟨o17, po17, q17, d17, gd17⟩ : ∃ o, ops[17]? = some o ∧ o.op = .move (.tmp 3) ∧ o.dst = some 132 ∧ o.guard = some (8, true) := ⟨_, by rw [hops]; rfl, rfl, rfl, rfl⟩
          obtain ⟨o18, po18, q18, d18, gd18⟩ : ∃ o, ops[18]? = some o ∧ o.op = .binOp .eql 3 (.tmp 131) (.tmp 132) 3 ∧ o.dst = some 133 ∧ o.guard = some (8, true) := ⟨_, by rw [hops]; rfl, rfl, rfl, rfl⟩
          obtain ⟨o19, po19, q19, d19, gd19⟩ : ∃ o, ops[19]? = some o ∧ o.op = .binOp .neq 4 (.tmp 127) (.tmp 133) 4 ∧ o.dst = some 134 ∧ o.guard = some (8, true) := ⟨_, by rw [hops]; rfl, rfl, rfl, rfl⟩
          obtain ⟨o20, po20, q20, d20, gd20⟩ : ∃ o, ops[20]? = some o ∧ o.op = .pick (.tmp 123) (.tmp 134) (.const (.bool false)) ∧ o.dst = some 135 ∧ o.guard = none := ⟨_, by rw [hops]; rfl, rfl, rfl, rfl⟩
          clear hops
          refine met_free po0 d0 (wanted_of gd0) (fun w' h' => run_move q0 base11 w') ?_
          refine met_free po1 d1 (wanted_of gd1) (fun w' h' => r_notT q1 (eval_same _ _ _ (by rw [hsz]; decide)) w') ?_
          refine met_free po2 d2 (wanted_of gd2) (fun w' h' => run_move q2 (eval_same _ _ _ (by simp only [put_size, hsz]; decide)) w') ?_
          refine m_unwanted po3 d3 (w_not gd3 po2 d2 (eval_same _ _ _ (by simp only [put_size, hsz]; decide))) ?_
          refine m_unwanted po4 d4 (w_not gd4 po2 d2 ((eval_other _ 118 117 _ (by decide)).trans (eval_same _ _ _ (by simp only [put_size, hsz]; decide)))) ?_
          refine m_unwanted po5 d5 (w_not gd5 po2 d2 ((eval_other _ 119 117 _ (by decide)).trans ((eval_other _ 118 117 _ (by decide)).trans (eval_same _ _ _ (by simp only [put_size, hsz]; decide))))) ?_
          refine m_unwanted po6 d6 (w_not gd6 po2 d2 ((eval_other _ 120 117 _ (by decide)).trans ((eval_other _ 119 117 _ (by decide)).trans ((eval_other _ 118 117 _ (by decide)).trans (eval_same _ _ _ (by simp only [put_size, hsz]; decide)))))) ?_
          refine met_free po7 d7 (wanted_of gd7) (fun w' h' => r_pickF q7 ((eval_other _ 121 117 _ (by decide)).trans ((eval_other _ 120 117 _ (by decide)).trans ((eval_other _ 119 117 _ (by decide)).trans ((eval_other _ 118 117 _ (by decide)).trans (eval_same _ _ _ (by simp only [put_size, hsz]; decide)))))) rfl w') ?_
          refine met_free po8 d8 (wanted_of gd8) (fun w' h' => run_move q8 (eval_same _ _ _ (by simp only [put_size, hsz]; decide)) w') ?_
          refine m_unwanted po9 d9 (w_not gd9 po8 d8 (eval_same _ _ _ (by simp only [put_size, hsz]; decide))) ?_
          refine m_unwanted po10 d10 (w_not gd10 po8 d8 ((eval_other _ 124 123 _ (by decide)).trans (eval_same _ _ _ (by simp only [put_size, hsz]; decide)))) ?_
          refine m_unwanted po11 d11 (w_not gd11 po8 d8 ((eval_other _ 125 123 _ (by decide)).trans ((eval_other _ 124 123 _ (by decide)).trans (eval_same _ _ _ (by simp only [put_size, hsz]; decide))))) ?_
          refine m_unwanted po13 d13 (w_not gd13 po8 d8 ((eval_other _ 126 123 _ (by decide)).trans ((eval_other _ 125 123 _ (by decide)).trans ((eval_other _ 124 123 _ (by decide)).trans (eval_same _ _ _ (by simp only [put_size, hsz]; decide)))))) ?_
          refine m_unwanted po14 d14 (w_not gd14 po8 d8 ((eval_other _ 128 123 _ (by decide)).trans ((eval_other _ 126 123 _ (by decide)).trans ((eval_other _ 125 123 _ (by decide)).trans ((eval_other _ 124 123 _ (by decide)).trans (eval_same _ _ _ (by simp only [put_size, hsz]; decide))))))) ?_
          refine m_unwanted po15 d15 (w_not gd15 po8 d8 ((eval_other _ 129 123 _ (by decide)).trans ((eval_other _ 128 123 _ (by decide)).trans ((eval_other _ 126 123 _ (by decide)).trans ((eval_other _ 125 123 _ (by decide)).trans ((eval_other _ 124 123 _ (by decide)).trans (eval_same _ _ _ (by simp only [put_size, hsz]; decide)))))))) ?_
          refine m_unwanted po16 d16 (w_not gd16 po8 d8 ((eval_other _ 130 123 _ (by decide)).trans ((eval_other _ 129 123 _ (by decide)).trans ((eval_other _ 128 123 _ (by decide)).trans ((eval_other _ 126 123 _ (by decide)).trans ((eval_other _ 125 123 _ (by decide)).trans ((eval_other _ 124 123 _ (by decide)).trans (eval_same _ _ _ (by simp only [put_size, hsz]; decide))))))))) ?_
          refine m_unwanted po17 d17 (w_not gd17 po8 d8 ((eval_other _ 131 123 _ (by decide)).trans ((eval_other _ 130 123 _ (by decide)).trans ((eval_other _ 129 123 _ (by decide)).trans ((eval_other _ 128 123 _ (by decide)).trans ((eval_other _ 126 123 _ (by decide)).trans ((eval_other _ 125 123 _ (by decide)).trans ((eval_other _ 124 123 _ (by decide)).trans (eval_same _ _ _ (by simp only [put_size, hsz]; decide)))))))))) ?_
          refine m_unwanted po18 d18 (w_not gd18 po8 d8 ((eval_other _ 132 123 _ (by decide)).trans ((eval_other _ 131 123 _ (by decide)).trans ((eval_other _ 130 123 _ (by decide)).trans ((eval_other _ 129 123 _ (by decide)).trans ((eval_other _ 128 123 _ (by decide)).trans ((eval_other _ 126 123 _ (by decide)).trans ((eval_other _ 125 123 _ (by decide)).trans ((eval_other _ 124 123 _ (by decide)).trans (eval_same _ _ _ (by simp only [put_size, hsz]; decide))))))))))) ?_
          refine m_skipped po12 d12 (w_not gd12 po8 d8 ((eval_other _ 133 123 _ (by decide)).trans ((eval_other _ 132 123 _ (by decide)).trans ((eval_other _ 131 123 _ (by decide)).trans ((eval_other _ 130 123 _ (by decide)).trans ((eval_other _ 129 123 _ (by decide)).trans ((eval_other _ 128 123 _ (by decide)).trans ((eval_other _ 126 123 _ (by decide)).trans ((eval_other _ 125 123 _ (by decide)).trans ((eval_other _ 124 123 _ (by decide)).trans (eval_same _ _ _ (by simp only [put_size, hsz]; decide)))))))))))) ⟨HG9.out.step (Below.refl _ _).drew, ?_⟩
          refine m_unwanted po19 d19 (w_not gd19 po8 d8 ((eval_other _ 127 123 _ (by decide)).trans ((eval_other _ 133 123 _ (by decide)).trans ((eval_other _ 132 123 _ (by decide)).trans ((eval_other _ 131 123 _ (by decide)).trans ((eval_other _ 130 123 _ (by decide)).trans ((eval_other _ 129 123 _ (by decide)).trans ((eval_other _ 128 123 _ (by decide)).trans ((eval_other _ 126 123 _ (by decide)).trans ((eval_other _ 125 123 _ (by decide)).trans ((eval_other _ 124 123 _ (by decide)).trans (eval_same _ _ _ (by simp only [put_size, hsz]; decide))))))))))))) ?_
          refine met_free po20 d20 (wanted_of gd20) (fun w' h' => r_pickF q20 ((eval_other _ 134 123 _ (by decide)).trans ((eval_other _ 127 123 _ (by decide)).trans ((eval_other _ 133 123 _ (by decide)).trans ((eval_other _ 132 123 _ (by decide)).trans ((eval_other _ 131 123 _ (by decide)).trans ((eval_other _ 130 123 _ (by decide)).trans ((eval_other _ 129 123 _ (by decide)).trans ((eval_other _ 128 123 _ (by decide)).trans ((eval_other _ 126 123 _ (by decide)).trans ((eval_other _ 125 123 _ (by decide)).trans ((eval_other _ 124 123 _ (by decide)).trans (eval_same _ _ _ (by simp only [put_size, hsz]; decide))))))))))))) rfl w') ?_
          show NoPanic _ .normal _ _
          refine NoPanic.normal ?_
          rw [HAA.out]
          go_frame
          clear HAA
          clear po0 q0 d0 gd0 po1 q1 d1 gd1 po2 q2 d2 gd2 po3 q3 d3 gd3 po4 q4 d4 gd4 po5 q5 d5 gd5 po6 q6 d6 gd6 po7 q7 d7 gd7 po8 q8 d8 gd8 po9 q9 d9 gd9 po10 q10 d10 gd10 po11 q11 d11 gd11 po12 q12 d12 gd12 po13 q13 d13 gd13 po14 q14 d14 gd14 po15 q15 d15 gd15 po16 q16 d16 gd16 po17 q17 d17 gd17 po18 q18 d18 gd18 po19 q19 d19 gd19 po20 q20 d20 gd20
          clear base0 base3 base4 base6 base13 base14 base11 hsz
          go_wp2_with fail
          go_meet
          exact ⟨rfl, (HG9.out.step (Below.refl _ _).drew)⟩
      case rest =>
      obtain ⟨rfl, hg10⟩ := hcut
      have HG10 := Lib.hid hg10
      clear hg10 HG9
      go_wp2_with fail
      refine (HKN.out _).mono ?_
      rintro e w9 ⟨rfl, hb⟩
      have HB9 := Lib.hid (HG10.out.below.trans (hb.mono HG10.out.below.size))
      clear hb
      go_wp2_with fail
      go_ret
      exact ⟨rfl, HB9.out⟩
end Go.Proofs.Ytkfkdomjjepmdaa
