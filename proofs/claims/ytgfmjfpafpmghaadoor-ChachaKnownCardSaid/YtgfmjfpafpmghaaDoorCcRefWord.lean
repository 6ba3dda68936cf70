/-
  The document's word of four bytes; a word appended; words of bytes one behind the other.
-/
import Derived.Test.YtgfmjfpafpmghaaDoorCcRefQuarter
import Derived.Test.YtgfmjfpafpmghaaDoorCcBlock
import Derived.Shelf.RegionOpen
import Derived.BigQuiet
namespace Go.Proofs.YtgfmjfpafpmghaaDoor
open Go.RowKit Go.Proofs.ShaWords
attribute [local go_sem] and32 or32 xor32 add32 shl32 shr32 wrap32_n8 wrap8_n32 shl32_8 shl32_16 shl32_24

theorem four_or (x y z t : BitVec 32) (h : t + z + y + x = (t ||| z ||| y ||| x)) : x + y + z + t = x ||| y ||| z ||| t := by
  rw [show x + y + z + t = t + z + y + x by ac_rfl, h]; ac_rfl
theorem le_sum (a b c d : BitVec 8) : ext a + ext b <<< 8 + ext c <<< 16 + ext d <<< 24 = ext a ||| ext b <<< 8 ||| ext c <<< 16 ||| ext d <<< 24 := four_or _ _ _ _ (word_sum d c b a)
theorem ext_nat (x : BitVec 8) : (ext x).toNat = x.toNat := by
  unfold ext; rw [BitVec.toNat_setWidth]; have := x.isLt; omega
theorem lo8_nat (x : BitVec 32) : (lo8 x).toNat = x.toNat % 256 := by unfold lo8; rw [BitVec.toNat_setWidth]
theorem ext_shl_nat (x : BitVec 8) (k : Nat) (hk : k ≤ 24) : (ext x <<< k).toNat = x.toNat * 2 ^ k := by
  rw [BitVec.toNat_shiftLeft, ext_nat, Nat.shiftLeft_eq]
  have h1 : x.toNat * 2 ^ k < 2 ^ 32 := by
    have h2 : 2 ^ k ≤ 2 ^ 24 := Nat.pow_le_pow_right (by omega) hk
    have h3 := x.isLt
    calc x.toNat * 2 ^ k ≤ 255 * 2 ^ 24 := Nat.mul_le_mul (by omega) h2
      _ < 2 ^ 32 := by decide
  exact Nat.mod_eq_of_lt h1
theorem leWord_bytes (c : BitVec 32) : leWord (leBytes c) 0 = c := by
  show (ext (lo8 c) ||| ext (lo8 (c >>> 8)) <<< 8 ||| ext (lo8 (c >>> 16)) <<< 16 ||| ext (lo8 (c >>> 24)) <<< 24) = c
  rw [← le_sum]
  apply BitVec.eq_of_toNat_eq
  rw [BitVec.toNat_add, BitVec.toNat_add, BitVec.toNat_add, ext_shl_nat _ 8 (by omega), ext_shl_nat _ 16 (by omega), ext_shl_nat _ 24 (by omega), ext_nat, lo8_nat, lo8_nat, lo8_nat, lo8_nat, BitVec.toNat_ushiftRight, BitVec.toNat_ushiftRight, BitVec.toNat_ushiftRight,
    Nat.shiftRight_eq_div_pow, Nat.shiftRight_eq_div_pow, Nat.shiftRight_eq_div_pow]
  have := c.isLt
  omega
theorem getD_append_left8 (A B : List (BitVec 8)) (i : Nat) (h : i < A.length) : (A ++ B).getD i 0#8 = A.getD i 0#8 := by simp [List.getD, List.getElem?_append_left h]
theorem getD_append_right8 (A B : List (BitVec 8)) (i : Nat) : (A ++ B).getD (A.length + i) 0#8 = B.getD i 0#8 := by
  unfold List.getD
  rw [List.getElem?_append_right (by omega), Nat.add_sub_cancel_left]
theorem leWord_left (A B : List (BitVec 8)) (t : Nat) (h : 4 * t + 3 < A.length) : leWord (A ++ B) t = leWord A t := by
  rw [leWord_eq, leWord_eq, getD_append_left8 _ _ _ (by omega), getD_append_left8 _ _ _ (by omega), getD_append_left8 _ _ _ (by omega), getD_append_left8 _ _ _ h]
theorem leWord_right (A B : List (BitVec 8)) (m t : Nat) (h : A.length = 4 * m) : leWord (A ++ B) (m + t) = leWord B t := by
  rw [leWord_eq, leWord_eq, show 4 * (m + t) = A.length + 4 * t by omega, Nat.add_assoc A.length, Nat.add_assoc A.length, Nat.add_assoc A.length, getD_append_right8, getD_append_right8, getD_append_right8, getD_append_right8]
theorem leWords_append (A B : List (BitVec 8)) (m n : Nat) (h : A.length = 4 * m) : leWords (A ++ B) (m + n) = leWords A m ++ leWords B n := by
  unfold leWords
  rw [List.range_add, List.map_append, List.map_map]
  congr 1
  · apply List.map_congr_left
    intro t ht
    exact leWord_left _ _ _ (by have := List.mem_range.1 ht; omega)
  · apply List.map_congr_left
    intro t _
    exact leWord_right _ _ _ _ h
/-- The words of the whole row of bytes are the square. -/
theorem square_all (key nonce : List (BitVec 8)) (c : BitVec 32) (hk : key.length = 32) : leWords (labelB ++ key ++ leBytes c ++ nonce) 16 = squareOf key c nonce := by
  rw [List.append_assoc, List.append_assoc, show 16 = 4 + (8 + (1 + 3)) from rfl, leWords_append labelB _ 4 _ rfl, leWords_append key _ 8 _ hk, leWords_append (leBytes c) _ 1 _ rfl]
  unfold squareOf
  rw [show leWords (leBytes c) 1 = [c] by unfold leWords; simp [List.range_succ, leWord_bytes]]
  rfl
set_option maxRecDepth 100000 in
set_option maxHeartbeats 1000000 in
theorem word3_any (b0 b1 b2 b3 : BitVec 8) (b off cp : Nat) (w : World) (c0 : w.cell? ⟨b, off, none⟩ = some (.int .u8 (n8 b0))) (c1 : w.cell? ⟨b, off + 1, none⟩ = some (.int .u8 (n8 b1))) (c2 : w.cell? ⟨b, off + 2, none⟩ = some (.int .u8 (n8 b2))) (c3 : w.cell? ⟨b, off + 3, none⟩ = some (.int .u8 (n8 b3))) :
    Calls Tryd.prog 61 #[.slice (some ⟨b, off, none⟩) 4 cp] w fun e w' => e = .returned (.int .u32 (n32 (ext b0 ||| ext b1 <<< 8 ||| ext b2 <<< 16 ||| ext b3 <<< 24))) ∧ Below w.heap.size w w' := by
  go_enter Tryd.func61, Tryd.ntmps61
  go_wp2_with fail
  go_quiet (fail)
  go_wp2_with fail
  go_ret
  refine ⟨?_, ⟨rfl, rfl, rfl, Nat.le_refl _, fun _ _ => rfl⟩⟩
  rw [← le_sum]
  rfl
/-- One word more, behind a slice of words of the call's own. -/
theorem append_word_step {ops : Array Oper} {rest : List Oper} {o : Oper} {a : Act} {w : World} {Q : Exit → Act → World → Prop} (hgd : o.guard = none) (s x : Operand)
    (ho : o.op = .call { callee := .builtin .append, args := #[s, x], argTypes := #[22, 22] }) (B : Nat) (v : Value) (l : List (BitVec 32)) (b : BitVec 32) (hs : a.eval s = v) (hown : OwnW B w l v) (hx : a.eval x = .slice (some ⟨w.heap.size, 0, none⟩) 1 1)
    (hl : l.length < 1099511627776) (hB : B ≤ w.heap.size)
    (h : ∀ v' w', OwnW B w' (l ++ [b]) v' → Below B w w' → wpList Tryd.prog ops Q rest (a.put o.dst v') w') : wpList Tryd.prog ops Q (o :: rest) a (w.alloc (.cells #[.int .u32 (n32 b)] 25)) := by
  obtain ⟨i, hi, hz, hsz, hby⟩ := info_parts info41
  refine wpList_append_own (w := w.alloc (.cells #[.int .u32 (n32 b)] 25)) hgd s x 22 ho B 25 i (.int .u32 0) 1 4 Tryd.underlying22 hi hz hsz hby rfl (by decide) v l.length (wordsV l) hs (World.ownsRow.alloc hown _) ⟨w.heap.size, 0, none⟩ 1 1 [.int .u32 (n32 b)] hx rfl ?_ ?_ (by unfold maxLen; omega) (by omega) (by rw [size_alloc]; omega) ?_
  · intro j u hu
    have hj : j = 0 := by have := (List.getElem?_eq_some_iff.1 hu).1; simp at this; exact this
    subst hj
    rw [Addr.add_mid, cell_of_row _ _ _ _ _ _ (heap_new_at rfl)]
    simpa using hu
  · intro u hu
    rw [List.mem_singleton.1 hu]; rfl
  · intro v' w' ho' hg _
    refine h v' w' ?_ ?_
    · unfold OwnW
      rw [List.length_append, wordsV_append]; exact ho'
    · refine ((Below.refl B w).alloc hB _).grown hg (by rw [size_alloc]; omega) (fun k hk => ?_)
      exact (World.ownsRow.lt hown k hk).1
end Go.Proofs.YtgfmjfpafpmghaaDoor
