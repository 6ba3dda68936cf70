/-
  The document's constants out of the roots of primes: Roots.
-/
import Derived.Test.YtgfmjfpafpmghaaDoorPrimes
namespace Go.Proofs.YtgfmjfpafpmghaaDoor
open Go.RowKit Go.Proofs.ShaWords

theorem info32b : (Tryd.prog.info? 25).map (fun i => (i.zero, i.size, i.bytes)) = some (some (.int .u32 0), 1, 4) := by kernel_rfl
theorem info32b' : ∃ i : TypeInfo, Tryd.prog.info? 25 = some i ∧ i.zero = some (.int .u32 0) ∧ i.size = 1 ∧ i.bytes = 4 := info_parts info32b
theorem wpList_append_word {ops : Array Oper} {rest : List Oper} {o : Oper} {a : Act} {w : World} {Q : Exit → Act → World → Prop} (hgd : o.guard = none) (s x : Operand)
    (ho : o.op = .call { callee := .builtin .append, args := #[s, x], argTypes := #[22, 22] }) (B : Nat) (v : Value) (l : List (BitVec 32)) (b : BitVec 32) (hs : a.eval s = v) (hown : OwnW B w l v) (hx : a.eval x = .slice (some ⟨w.heap.size, 0, none⟩) 1 1)
    (hl : l.length < 1000000) (hB : B ≤ w.heap.size)
    (h : ∀ v' w', OwnW B w' (l ++ [b]) v' → Below B w w' → wpList Tryd.prog ops Q rest (a.put o.dst v') w') : wpList Tryd.prog ops Q (o :: rest) a (w.alloc (.cells #[.int .u32 (n32 b)] 25)) := by
  obtain ⟨i, hi, hz, hsz, hby⟩ := info32b'
  refine wpList_append_own (w := w.alloc (.cells #[.int .u32 (n32 b)] 25)) hgd s x 22 ho B 25 i (.int .u32 0) 1 4 Tryd.underlying22 hi hz hsz hby rfl (by decide) v l.length (wordsV l) hs (World.ownsRow.alloc hown _) ⟨w.heap.size, 0, none⟩ 1 1 [.int .u32 (n32 b)] hx rfl ?_ ?_ (by unfold maxLen; omega) (by omega) (by rw [size_alloc]; omega) ?_
  · intro j u hu
    have hj : j = 0 := by have := (List.getElem?_eq_some_iff.1 hu).1; simp at this; exact this
    subst hj
    rw [Addr.add_mid, cell_of_row _ _ _ _ _ _ (heap_new_at rfl)]
    simpa using hu
  · intro u hu
    rw [List.mem_singleton.1 hu]; rfl
  · intro v' w' ho' hg _
    refine h v' w' ?_ ?_
    · unfold OwnW
      rw [List.length_append, wordsV_append]; exact ho'
    · refine ((Below.refl B w).alloc hB _).grown hg (by rw [size_alloc]; omega) (fun k hk => ?_)
      exact (World.ownsRow.lt hown k hk).1
/-- The word that is found for a prime. -/
def rootW (le : Nat → Nat → Bool) (p : Nat) : BitVec 32 := BitVec.ofNat 32 (rootTo (fun c => le c p) 35)
theorem rootW_val (le : Nat → Nat → Bool) (p : Nat) : ((rootTo (fun c => le c p) 35 % 4294967296 : Nat) : Int) = n32 (rootW le p) := by
  unfold n32 rootW; rw [BitVec.toNat_ofNat]
theorem OwnL.range {B : Nat} {w : World} {l : List Nat} {v : Value} (h : OwnL B w l v) (hne : l ≠ []) : ∃ g c, v = .slice (some ⟨g, 0, none⟩) l.length c ∧ w.rangeAt g 0 (longsV l) := by
  rcases h.2 with ⟨_, h0⟩ | ⟨g, cap, cur, rfl, hg, hh, hc, hm, hs, ht⟩
  · exact absurd (List.length_eq_zero_iff.1 h0) hne
  · refine ⟨g, cap, rfl, fun j v hv => ?_⟩
    rw [Nat.zero_add, cell_of_row w g j cur 58 (0, 0) hh]
    rw [← ht, Nat.mul_one, List.getElem?_take] at hv
    split at hv
    · rw [← hv]; simp
    · cases hv
theorem cubesW : primes64.map (rootW cbLe) = kTable := cubes
theorem squaresW : (primes64.take 8).map (rootW sqLe) = iv.list := squares
attribute [local irreducible] rootW primesTo
set_option maxRecDepth 100000 in
set_option maxHeartbeats 1000000 in
theorem roots_any (le : Nat → Nat → Bool) (power : Int) (n X : Nat) (ps : List Nat) (w : World) (hX2 : 2 ≤ X) (hX : X ≤ 400) (hps : primesTo X = ps) (hn : ps.length = n) (hn0 : 0 < n) (hn4 : n ≤ 400)
    (hr : ∀ p ∈ ps, ∀ w, Calls Tryd.prog 29 #[.int .u64 (p : Nat), .int .i64 power] w fun e w' => e = .returned (.int .u32 (n32 (rootW le p))) ∧ w = w') :
    Calls Tryd.prog 6 #[.int .i64 (n : Int), .int .i64 power] w fun e w' => ∃ v, e = .returned v ∧ OwnW w.heap.size w' (ps.map (rootW le)) v ∧ Below w.heap.size w w' := by
  have HR := Lib.hid hr; clear hr
  have HN := Lib.hid hn
  have HPS := Lib.hid hps
  have hne : ps ≠ [] := fun h => by rw [h] at hn; simp at hn; omega
  clear hn hps
  go_enter Tryd.func6, Tryd.ntmps6
  go_wp2_with fail
  refine (primes_any n X w hX2 hX (by rw [HPS.out, HN.out]) hn4).mono ?_
  rintro e w1 ⟨v, rfl, ho, hb⟩
  rw [HPS.out] at ho
  obtain ⟨g, c, rfl, hrg⟩ := ho.range hne
  have HRG := Lib.hid hrg; have HB := Lib.hid hb
  rw [HN.out]
  clear ho hrg hb hne
  go_wp2_with fail
  go_loopw [6, 7] (fun v i wr => ∃ k : Nat, k ≤ n ∧ i = .int .i64 (k : Int) ∧ OwnW w1.heap.size wr ((ps.take k).map (rootW le)) v ∧ Below w1.heap.size w1 wr) (fun _ i _ => n - (intOf i).toNat)
  case atStart => exact ⟨0, by omega, rfl, by rw [List.take_zero, List.map_nil]; exact World.ownsRow_nil _ _ _ _, Below.refl _ _⟩
  case round =>
    obtain ⟨k, hk, rfl, ho, hb⟩ := hrel
    have sz := hb.size
    by_cases hlt : k < n
    · have hkl : k < ps.length := by rw [HN.out]; exact hlt
      have hc := range_keep HRG.out hb k (.int .u64 ((ps[k] : Nat) : Int)) (by simp [longsV, hkl])
      rw [Nat.zero_add] at hc
      have HTK : Hid ((ps.take (k + 1)).map (rootW le) = (ps.take k).map (rootW le) ++ [rootW le ps[k]]) := show _ = _ by rw [List.take_succ_eq_append_getElem hkl, List.map_append]; rfl
      have HCR := Lib.hid (HR.out ps[k] (List.getElem_mem hkl))
      have HK1 : Hid (((ps.take k).map (rootW le)).length < 1000000) := show _ < _ by rw [List.length_map, List.length_take]; omega
      generalize ps[k] = q at hc HTK HCR
      generalize (ps.take k).map (rootW le) = Y at ho HTK HK1
      generalize rootW le q = x at HTK HCR
      have HO := Lib.hid ho; clear ho
      have HBB := Lib.hid hb; clear hb hkl
      have k0 : (0 : Int) ≤ (k : Int) := by omega
      have k1 : (k : Int) < (n : Int) := by omega
      go_wp2_with (first
        | (go_at_call 29; refine (HCR.out _).mono ?_; rintro e w' ⟨rfl, rfl⟩)
        | (at_builtin; refine wpList_append_word rfl (.tmp 15) (.tmp 22) rfl w1.heap.size _ Y x rfl HO.out rfl HK1.out (by omega) ?_; intro v' w' ho' hb'; rw [← HTK.out] at ho'; have HO' := Lib.hid ho'; have HB' := Lib.hid (HBB.out.trans hb'); clear ho' hb'))
      go_roundw
      case rel => exact ⟨k + 1, by omega, by go_num, HO'.out, HB'.out⟩
      case measure => simp [intOf]; omega
    · have HK : Hid (k = n) := show k = n by omega
      have HO := Lib.hid ho; clear ho
      have HBB := Lib.hid (HB.out.trans (hb.mono HB.out.size)); clear hb
      go_wp2_with fail
      go_ret
      refine ⟨_, rfl, ?_, HBB.out⟩
      have h1 := HO.out
      rw [HK.out, ← HN.out, List.take_length] at h1
      refine ⟨h1.1, ?_⟩
      rcases h1.2 with h | ⟨g, cap, cur, h0, hg, h⟩
      · exact .inl h
      · exact .inr ⟨g, cap, cur, h0, Nat.le_trans HB.out.size hg, h⟩
theorem roots64_any (w : World) : Calls Tryd.prog 6 #[.int .i64 64, .int .i64 3] w fun e w' => ∃ v, e = .returned v ∧ OwnW w.heap.size w' kTable v ∧ Below w.heap.size w w' := by
  have h := roots_any cbLe 3 64 312 primes64 w (by omega) (by omega) primes312 rfl (by omega) (by omega) (fun p hp w => by
    have h := root3_any p w (primes_small p hp)
    rw [rootW_val cbLe p] at h; exact h)
  rw [cubesW] at h; exact h
theorem roots8_any (w : World) : Calls Tryd.prog 6 #[.int .i64 8, .int .i64 2] w fun e w' => ∃ v, e = .returned v ∧ OwnW w.heap.size w' iv.list v ∧ Below w.heap.size w w' := by
  have h := roots_any sqLe 2 8 20 (primes64.take 8) w (by omega) (by omega) primes20 rfl (by omega) (by omega) (fun p _ w => by
    have h := root2_any p w
    rw [rootW_val sqLe p] at h; exact h)
  rw [squaresW] at h; exact h
end Go.Proofs.YtgfmjfpafpmghaaDoor
