/-
  The document's first primes (Primes), for 8 and for 64 of them.
-/
import Derived.Test.YtgfmjfpafpmghaaDoorRootTab
namespace Go.Proofs.YtgfmjfpafpmghaaDoor
open Go.RowKit Go.Proofs.ShaWords

def longsV (l : List Nat) : List Value := l.map fun x : Nat => .int .u64 (x : Int)
/-- A slice of 64-bit words of the call's own. -/
def OwnL (B : Nat) (w : World) (l : List Nat) (v : Value) : Prop := w.ownsRow B 58 1 v l.length (longsV l)
theorem longsV_append (a b : List Nat) : longsV (a ++ b) = longsV a ++ longsV b := List.map_append
theorem longsV_length (a : List Nat) : (longsV a).length = a.length := by simp [longsV]
theorem info64b : (Tryd.prog.info? 58).map (fun i => (i.zero, i.size, i.bytes)) = some (some (.int .u64 0), 1, 8) := by kernel_rfl
theorem info64b' : ∃ i : TypeInfo, Tryd.prog.info? 58 = some i ∧ i.zero = some (.int .u64 0) ∧ i.size = 1 ∧ i.bytes = 8 := info_parts info64b
theorem wpList_append_long {ops : Array Oper} {rest : List Oper} {o : Oper} {a : Act} {w : World} {Q : Exit → Act → World → Prop} (hgd : o.guard = none) (s x : Operand)
    (ho : o.op = .call { callee := .builtin .append, args := #[s, x], argTypes := #[55, 55] }) (B : Nat) (v : Value) (l : List Nat) (b : Nat) (hs : a.eval s = v) (hown : OwnL B w l v) (hx : a.eval x = .slice (some ⟨w.heap.size, 0, none⟩) 1 1)
    (hl : l.length < 1000000) (hB : B ≤ w.heap.size)
    (h : ∀ v' w', OwnL B w' (l ++ [b]) v' → Below B w w' → wpList Tryd.prog ops Q rest (a.put o.dst v') w') : wpList Tryd.prog ops Q (o :: rest) a (w.alloc (.cells #[.int .u64 (b : Int)] 58)) := by
  obtain ⟨i, hi, hz, hsz, hby⟩ := info64b'
  refine wpList_append_own (w := w.alloc (.cells #[.int .u64 (b : Int)] 58)) hgd s x 55 ho B 58 i (.int .u64 0) 1 8 Tryd.underlying55 hi hz hsz hby rfl (by decide) v l.length (longsV l) hs (World.ownsRow.alloc hown _) ⟨w.heap.size, 0, none⟩ 1 1 [.int .u64 (b : Int)] hx rfl ?_ ?_ (by unfold maxLen; omega) (by omega) (by rw [size_alloc]; omega) ?_
  · intro j u hu
    have hj : j = 0 := by have := (List.getElem?_eq_some_iff.1 hu).1; simp at this; exact this
    subst hj
    rw [Addr.add_mid, cell_of_row _ _ _ _ _ _ (heap_new_at rfl)]
    simpa using hu
  · intro u hu
    rw [List.mem_singleton.1 hu]; rfl
  · intro v' w' ho' hg _
    refine h v' w' ?_ ?_
    · unfold OwnL
      rw [List.length_append, longsV_append]; exact ho'
    · refine ((Below.refl B w).alloc hB _).grown hg (by rw [size_alloc]; omega) (fun k hk => ?_)
      exact (World.ownsRow.lt hown k hk).1

/-- Does a number from 2 to d - 1 divide x? -/
def partTo (x d : Nat) : Bool := (List.range d).any fun e => decide (2 ≤ e) && ((x : Int) % (e : Int) == 0)
def primeB (x : Nat) : Bool := !((List.range x).any fun e => decide (2 ≤ e) && decide (e * e ≤ x) && ((x : Int) % (e : Int) == 0))
theorem partTo_two (x : Nat) : partTo x 2 = false := by simp [partTo, List.range_succ]
theorem partTo_succ (x d : Nat) (hd : 2 ≤ d) : partTo x (d + 1) = (partTo x d || ((x : Int) % (d : Int) == 0)) := by simp [partTo, List.range_succ, hd]
theorem partTo_end (x d : Nat) (hlt : x < d * d) (hle : ∀ e, 2 ≤ e → e < d → e * e ≤ x) : partTo x d = !primeB x := by
  unfold primeB partTo
  rw [Bool.not_not, Bool.eq_iff_iff, List.any_eq_true, List.any_eq_true]
  constructor
  · rintro ⟨e, he, h⟩
    simp only [Bool.and_eq_true, decide_eq_true_eq] at h
    have he' := List.mem_range.1 he
    have h3 := hle e h.1 he'
    have h4 : 2 * e ≤ e * e := Nat.mul_le_mul_right e h.1
    exact ⟨e, List.mem_range.2 (by omega), by simp [h.1, h3]; simpa using h.2⟩
  · rintro ⟨e, _, h⟩
    simp only [Bool.and_eq_true, decide_eq_true_eq] at h
    refine ⟨e, List.mem_range.2 ?_, by simp [h.1.1]; simpa using h.2⟩
    rcases Nat.lt_or_ge e d with h1 | h1
    · exact h1
    · have := Nat.mul_le_mul h1 h1; omega
/-- The primes below x. -/
def primesTo (x : Nat) : List Nat := (List.range x).filter fun y => decide (2 ≤ y) && primeB y
theorem primesTo_two : primesTo 2 = [] := by decide
theorem primesTo_succ (x : Nat) (h : 2 ≤ x) : primesTo (x + 1) = primesTo x ++ (if primeB x then [x] else []) := by
  unfold primesTo
  rw [List.range_succ, List.filter_append]
  cases hp : primeB x <;> simp [hp, h]
theorem primesTo_mono (x y : Nat) (h : x ≤ y) : ∃ r, primesTo y = primesTo x ++ r := by
  obtain ⟨d, rfl⟩ := Nat.exists_eq_add_of_le h
  unfold primesTo
  rw [List.range_add, List.filter_append]
  exact ⟨_, rfl⟩
theorem primes312 : primesTo 312 = primes64 := by decide +kernel
theorem primes20 : primesTo 20 = primes64.take 8 := by decide +kernel
attribute [local irreducible] partTo primeB primesTo
set_option maxRecDepth 100000 in
set_option maxHeartbeats 1000000 in
theorem primes_any (n X : Nat) (w : World) (hX2 : 2 ≤ X) (hX : X ≤ 400) (hn : (primesTo X).length = n) (hn4 : n ≤ 400) :
    Calls Tryd.prog 28 #[.int .i64 (n : Int)] w fun e w' => ∃ v, e = .returned v ∧ OwnL w.heap.size w' (primesTo X) v ∧ Below w.heap.size w w' := by
  have HN := Lib.hid hn; clear hn
  have HP2 := Lib.hid primesTo_two
  go_enter Tryd.func28, Tryd.ntmps28
  go_wp2_with fail
  go_loopw [3, 4, 5, 6] (fun v x _ _ wr => ∃ k : Nat, 2 ≤ k ∧ k ≤ X ∧ x = .int .u64 (k : Int) ∧ OwnL w.heap.size wr (primesTo k) v ∧ Below w.heap.size w wr) (fun _ x _ _ _ => 400 - (intOf x).toNat)
  case atStart => exact ⟨2, by omega, hX2, rfl, by rw [HP2.out]; exact World.ownsRow_nil _ _ _ _, Below.refl _ _⟩
  case round =>
    clear HP2
    obtain ⟨k, hk2, hkX, rfl, ho, hb⟩ := hrel
    have sz := hb.size
    obtain ⟨r, hr⟩ := primesTo_mono k X hkX
    obtain ⟨p, cap, hv, hlen⟩ : ∃ p cap, u3 = .slice p (primesTo k).length cap ∧ True := by
      rcases ho.2 with ⟨h0, h1⟩ | ⟨g, cap, cur, h0, _⟩
      · exact ⟨none, 0, by rw [h0, h1], trivial⟩
      · exact ⟨_, cap, h0, trivial⟩
    clear hlen
    subst hv
    have hll : (primesTo X).length = (primesTo k).length + r.length := by rw [hr, List.length_append]
    rw [HN.out] at hll
    have hkx : (primesTo k).length < n → k < X := fun h => by
      rcases Nat.lt_or_ge k X with h1 | h1
      · exact h1
      · exfalso
        have h2 : k = X := by omega
        rw [h2, HN.out] at h; omega
    have HR := Lib.hid hr; clear hr
    have HPS := Lib.hid (primesTo_succ k hk2)
    have HO := Lib.hid ho; clear ho
    have HB := Lib.hid hb; clear hb
    generalize primesTo k = l at HR HPS HO hll hkx ⊢
    by_cases hlt : l.length < n
    · have hkX2 := hkx hlt
      clear hkx HR hll
      have hlt2 : (l.length : Int) < (n : Int) := by omega
      have HPT := Lib.hid (partTo_two k)
      go_wp2_with fail
      go_loopw [5, 6] (fun pt d wx => ∃ e : Nat, 2 ≤ e ∧ e ≤ k + 1 ∧ d = .int .u64 (e : Int) ∧ pt = .bool (partTo k e) ∧ (∀ c, 2 ≤ c → c < e → c * c ≤ k) ∧ wx = wr) (fun _ d _ => 500 - (intOf d).toNat)
      case atStart => exact ⟨2, by omega, by omega, rfl, by rw [HPT.out], fun c h1 h2 => by omega, rfl⟩
      case round =>
        clear HPT
        obtain ⟨e, he2, hek, rfl, rfl, hcs, rfl⟩ := hrel
        have HCS := Lib.hid hcs; clear hcs
        have hee : e * e ≤ 401 * 401 := Nat.mul_le_mul (by omega) (by omega)
        have e1 : IntKind.u64.wrap ((e : Int) * (e : Int)) = ((e * e : Nat) : Int) := by rw [← Int.natCast_mul, IntKind.wrap_u64]; omega
        have HTS := Lib.hid (partTo_succ k e he2)
        by_cases hsq : e * e ≤ k
        · have hsi : ((e * e : Nat) : Int) ≤ (k : Int) := by omega
          have hke : e ≤ k := Nat.le_trans (Nat.le_mul_of_pos_left e (by omega)) hsq
          have HCS2 : Hid (∀ c, 2 ≤ c → c < e + 1 → c * c ≤ k) := fun c h1 h2 => by
            by_cases hce : c = e
            · rw [hce]; exact hsq
            · exact HCS.out c h1 (by omega)
          generalize e * e = ee at e1 hsi hee hsq
          generalize partTo k e = b at HTS ⊢
          cases b
          · go_wp2_with fail
            exact ⟨⟨e + 1, by omega, by omega, by go_num, by rw [HTS.out]; rfl, HCS2.out, trivial⟩, by simp [intOf]; omega⟩
          · go_wp2_with fail
            exact ⟨⟨e + 1, by omega, by omega, by go_num, by rw [HTS.out]; rfl, HCS2.out, trivial⟩, by simp [intOf]; omega⟩
        · have hsi : ¬ ((e * e : Nat) : Int) ≤ (k : Int) := by omega
          have HPE := Lib.hid (partTo_end k e (by omega) HCS.out)
          clear HTS
          generalize e * e = ee at e1 hsi hee hsq
          generalize partTo k e = b at HPE ⊢
          generalize primeB k = pb at HPE HPS
          cases pb
          · obtain rfl : b = true := HPE.out
            go_wp2_with fail
            have HPS' : Hid (primesTo (k + 1) = l) := show _ = _ by rw [HPS.out]; simp
            go_roundw
            case rel => exact ⟨k + 1, by omega, by omega, by go_num, by rw [HPS'.out]; exact HO.out, HB.out⟩
            case measure => simp [intOf]; omega
          · obtain rfl : b = false := HPE.out
            have HPS' : Hid (primesTo (k + 1) = l ++ [k]) := show _ = _ by rw [HPS.out]; simp
            go_wp2_with (at_builtin; refine wpList_append_long rfl (.tmp 29) (.tmp 31) rfl w.heap.size _ l k rfl HO.out rfl (by omega) (by omega) ?_; intro v' w' ho' hb'; rw [← HPS'.out] at ho'; have HO' := Lib.hid ho'; have HB' := Lib.hid (HB.out.trans hb'); clear ho' hb')
            go_roundw
            case rel => exact ⟨k + 1, by omega, by omega, by go_num, HO'.out, HB'.out⟩
            case measure => simp [intOf]; omega
    · have hr0 : r = [] := List.length_eq_zero_iff.1 (by omega)
      have HE : Hid (primesTo X = l) := show _ = _ by rw [HR.out, hr0, List.append_nil]
      have hlt2 : ¬ (l.length : Int) < (n : Int) := by omega
      clear hll hr0 HR hkx
      go_wp2_with fail
      go_ret
      exact ⟨_, rfl, by rw [HE.out]; exact HO.out, HB.out⟩
end Go.Proofs.YtgfmjfpafpmghaaDoor
