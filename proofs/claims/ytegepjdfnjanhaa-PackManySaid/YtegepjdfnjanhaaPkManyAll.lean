/-
  PackMany, for any two numbers and any bytes: the law returns true, and what came in reads afterwards as it read before. Without any condition.
-/
import Derived.Test.YtegepjdfnjanhaaPkA
import Derived.Test.YtegepjdfnjanhaaPkW
/-
  PackMany's walk.
-/
namespace Go.Proofs.Ytegepjdfnjanhaa
open Go.RowKit Go.Proofs.ShaWords
/-- A reader whose bytes lie between lo and its own block. -/
def RdIn (lo : Nat) (w : World) (g : Nat) (s : RS) : Prop := lo ≤ g ∧ RdAt (fun k => lo ≤ k ∧ k < g) w g s
theorem RdIn.below {lo : Nat} {w w' : World} {g : Nat} {s : RS} (h : RdIn lo w g s) (hb : Below w.heap.size w w') : RdIn lo w' g s := ⟨h.1, h.2.below hb⟩
theorem RdIn.past {lo : Nat} {w w' : World} {g k : Nat} {s : RS} (h : RdIn lo w g s) (hk : Stays (fun x => x = k) w w') (h1 : k < lo ∨ g < k) : RdIn lo w' g s := ⟨h.1, h.2.past hk (by have := h.1; omega) (fun d => by have := d.1; have := d.2; omega)⟩
theorem RdIn.lt {lo : Nat} {w : World} {g : Nat} {s : RS} (h : RdIn lo w g s) : g < w.heap.size := h.2.lt
/-- A reader's block holds no byte. -/
theorem RdAt.noByte {D : Nat → Prop} {w : World} {g : Nat} {s : RS} (h : RdAt D w g s) (off : Nat) (x : BitVec 8) : w.cell? ⟨g, off, none⟩ ≠ some (.int .u8 (n8 x)) := by
  obtain ⟨q, c, h1, -⟩ := h.cell0
  rw [cell_of_row w g off _ _ _ h1]
  match off with
  | 0 => simp
  | 1 => simp
  | k + 2 => simp
theorem readIn (l : List (BitVec 8)) (n : Nat) (p : Option Addr) (c : Nat) (w : World) (hn : l.length = n) (hl : n < 140737488355328) (hp : Lies w p l) :
    Calls Try.prog 23 #[.slice p n c] w fun e w' => ∃ g, e = .returned (.pointer (some ⟨g, 0, none⟩)) ∧ RdIn w.heap.size w' g ⟨l, 0⟩ ∧ Below w.heap.size w w' :=
  (read_any l n p c w hn hl hp).mono fun _ _ ⟨g, h1, h2, h3, h4⟩ => ⟨g, h1, ⟨h2, h3⟩, h4⟩
/-- Bytes that begin with a number. -/
theorem many_next (n : Int) (m : List (BitVec 8)) : (⟨be8 n ++ m, 0⟩ : RS).next 8 = ⟨m, 0⟩ := by
  unfold RS.next
  rw [if_neg (by simp [be8_length])]
  simp [be8_length]
theorem many_got (n : Int) (m : List (BitVec 8)) : (⟨be8 n ++ m, 0⟩ : RS).got 8 = be8 n := by
  unfold RS.got
  rw [if_neg (by simp [be8_length])]
  simp [be8_length]
theorem many_int (n : Int) (m : List (BitVec 8)) (h : -9223372036854775808 ≤ n ∧ n < 9223372036854775808) : (⟨be8 n ++ m, 0⟩ : RS).intV = n := by
  unfold RS.intV
  rw [many_got, int8_be8 n h]
theorem many_over (n room : Int) (m : List (BitVec 8)) (h : -9223372036854775808 ≤ n ∧ n < 9223372036854775808) (ho : n < 0 ∨ room < n) :
    (⟨be8 n ++ m, 0⟩ : RS).countS room = ⟨[], 3⟩ ∧ (⟨be8 n ++ m, 0⟩ : RS).countV room = 0 ∧ (⟨be8 n ++ m, 0⟩ : RS).blobS room = ⟨[], 3⟩ ∧ (⟨be8 n ++ m, 0⟩ : RS).blobV room = [] := by
  have h0 : (⟨be8 n ++ m, 0⟩ : RS).over room = true := by
    unfold RS.over
    rw [many_int n m h]
    simpa using ho
  have h1 : (⟨be8 n ++ m, 0⟩ : RS).countS room = ⟨[], 3⟩ := by
    unfold RS.countS
    rw [if_pos h0, many_next]
    rfl
  have h2 : (⟨be8 n ++ m, 0⟩ : RS).countV room = 0 := if_pos h0
  refine ⟨h1, h2, ?_, ?_⟩
  · unfold RS.blobS
    rw [h1, h2]; rfl
  · unfold RS.blobV
    rw [h1, h2]; rfl
theorem many_fine (n room : Int) (m : List (BitVec 8)) (h : -9223372036854775808 ≤ n ∧ n < 9223372036854775808) (h1 : ¬ n < 0) (h2 : ¬ room < n) :
    (⟨be8 n ++ m, 0⟩ : RS).countS room = ⟨m, 0⟩ ∧ (⟨be8 n ++ m, 0⟩ : RS).countV room = n.toNat ∧ (⟨be8 n ++ m, 0⟩ : RS).blobS room = (⟨m, 0⟩ : RS).next n.toNat ∧ (⟨be8 n ++ m, 0⟩ : RS).blobV room = (⟨m, 0⟩ : RS).got n.toNat := by
  have h0 : ¬ (⟨be8 n ++ m, 0⟩ : RS).over room = true := by
    unfold RS.over
    rw [many_int n m h]
    simp
    omega
  have h3 : (⟨be8 n ++ m, 0⟩ : RS).countS room = ⟨m, 0⟩ := by
    unfold RS.countS
    rw [if_neg h0, many_next]
  have h4 : (⟨be8 n ++ m, 0⟩ : RS).countV room = n.toNat := by
    unfold RS.countV
    rw [if_neg h0, many_int n m h]
  refine ⟨h3, h4, ?_, ?_⟩
  · unfold RS.blobS
    rw [h3, h4]
  · unfold RS.blobV
    rw [h3, h4]
/-- What PackMany has before it compares. -/
structure ManyW (W : World) (sC sB : RS) (bv : List (BitVec 8)) (g1 g2 g3 : Nat) (q : Option Addr) (w : World) : Prop where
  below : Below W.heap.size W w
  one : ∃ D, RdAt D w g1 sC
  two : ∃ D, RdAt D w g2 sB
  three : ∃ D, RdAt D w g3 sB
  lies : Lies w q bv
theorem ManyW.on {W : World} {sC sB : RS} {bv : List (BitVec 8)} {g1 g2 g3 : Nat} {q : Option Addr} {w w' : World} (h : ManyW W sC sB bv g1 g2 g3 q w) (hb : Below w.heap.size w w') : ManyW W sC sB bv g1 g2 g3 q w' := by
  obtain ⟨h1, ⟨D1, h2⟩, ⟨D2, h3⟩, ⟨D3, h4⟩, h5⟩ := h
  exact ⟨h1.trans (hb.mono h1.size), ⟨D1, h2.below hb⟩, ⟨D2, h3.below hb⟩, ⟨D3, h4.below hb⟩, h5.below hb⟩
set_option maxRecDepth 100000 in
set_option maxHeartbeats 2000000 in
theorem packMany_any (n room : Int) (xs : List (BitVec 8)) (len cap : Nat) (a : Option Addr) (W : World) (hn : -9223372036854775808 ≤ n ∧ n < 9223372036854775808) (hx : xs.length = len) (hlc : len ≤ cap) (hL : Lies W a xs) :
    Calls Try.prog 8 #[.int .i64 n, .int .i64 room, .slice a len cap] W fun e W' => e = .returned (.bool true) ∧ Below W.heap.size W W' := by
  have HL := Lib.hid hL; clear hL
  have HX := Lib.hid hx; clear hx
  go_enter Try.func8, Try.ntmps8
  by_cases hbig : len > 512
  · have q0 : (len : Int) > 512 := by omega
    go_wp2_with (go_at_call 10; refine (works7_any W).mono ?_; rintro e w1 ⟨rfl, hb⟩; have HB := Lib.hid hb; clear hb)
    go_ret
    exact ⟨rfl, HB.out⟩
  have q0 : ¬ (len : Int) > 512 := by omega
  have HI := Lib.hid (intP_any n [] 0 none 0 W rfl (by omega) (Or.inl rfl))
  have HLN : Hid ((([] : List (BitVec 8)) ++ be8 n).length + xs.length < 140737488355328) := show _ < _ by rw [List.length_append, be8_length, HX.out]; simp; omega
  have HLM : Hid ((([] : List (BitVec 8)) ++ be8 n ++ xs).length = len + 8) := show _ = _ by rw [List.length_append, List.length_append, be8_length, HX.out]; simp; omega
  go_upto_region 4 with (first
    | (go_at_call 12; refine HI.out.mono ?_; rintro e w1 ⟨r, rfl, ho, hb⟩; have HO := Lib.hid ho; have HB := Lib.hid hb; clear ho hb)
    | (at_builtin; refine wpList_append_listB rfl (.tmp 19) (.tmp 20) rfl W.heap.size _ _ xs a cap rfl HO.out (by rw [HX.out]; rfl) (HL.out.below HB.out) HLN.out HB.out.size ?_; intro v2 w2 ho2 hb2; have hl2 := ho2.sl HLM.out; obtain ⟨q2, c2, rfl, -, -, hl2⟩ := hl2; have HL2 := Lib.hid hl2; have HB2 := Lib.hid (HB.out.trans hb2); clear ho2 hb2 hl2))
  rename World => w2
  clear HI HO HB
  have HC0 : Hid (Below w2.heap.size w2 w2) := show Below _ _ _ from Below.refl _ _
  go_upto_region 5 with (go_at_call 23; refine (readIn _ (len + 8) q2 c2 _ HLM.out (by omega) (HL2.out.below HC0.out)).mono ?_; rintro e w3 ⟨g1, rfl, hr, hb⟩; have HR11 := Lib.hid hr; have HC1 := Lib.hid (HC0.out.trans (hb.mono HC0.out.size)); have hl1 := hr.1; have hk1 := hr.lt; have hs1 := hb.size; clear hr hb)
  clear HC0
  go_upto_region 6 with (go_at_call 23; refine (readIn _ (len + 8) q2 c2 _ HLM.out (by omega) (HL2.out.below HC1.out)).mono ?_; rintro e w4 ⟨g2, rfl, hr, hb⟩; have HR22 := Lib.hid hr; have HR12 := Lib.hid (HR11.out.below hb); have HC2 := Lib.hid (HC1.out.trans (hb.mono HC1.out.size)); have hl2 := hr.1; have hk2 := hr.lt; have hs2 := hb.size; clear hr hb)
  clear HC1 HR11
  go_upto_region 7 with (go_at_call 23; refine (readIn _ (len + 8) q2 c2 _ HLM.out (by omega) (HL2.out.below HC2.out)).mono ?_; rintro e w5 ⟨g3, rfl, hr, hb⟩; have HR33 := Lib.hid hr; have HR13 := Lib.hid (HR12.out.below hb); have HR23 := Lib.hid (HR22.out.below hb); have HC3 := Lib.hid (HC2.out.trans (hb.mono HC2.out.size)); have hl3 := hr.1; have hk3 := hr.lt; have hs3 := hb.size; clear hr hb)
  clear HC2 HR12 HR22
  have hs0 : (⟨([] : List (BitVec 8)) ++ be8 n ++ xs, 0⟩ : RS) = ⟨be8 n ++ xs, 0⟩ := by rw [List.nil_append]
  rw [hs0] at HR13 HR23 HR33
  have HSH : Hid ((⟨be8 n ++ xs, 0⟩ : RS).Short) := show _ < _ by show (be8 n ++ xs).length < _; rw [List.length_append, be8_length, HX.out]; omega
  have HC1 := Lib.hid (count_any _ g1 ⟨be8 n ++ xs, 0⟩ room w5 HR13.out.2)
  go_upto_region 8 with (go_at_call 38; refine HC1.out.mono ?_; rintro e w6 ⟨rfl, hr, hst⟩; have HR14 := Lib.hid hr; have HR24 := Lib.hid (HR23.out.past hst (by omega)); have HR34 := Lib.hid (HR33.out.past hst (by omega)); have HB6 := Lib.hid ((HB2.out.trans (HC3.out.mono HB2.out.size)).trans (Stays.below hst (B := W.heap.size) (fun k e => by have := HB2.out.size; omega) (Nat.le_trans HB2.out.size HC3.out.size))); have hs6 := hst.size; clear hr hst)
  clear HC1 HR13 HR23 HR33
  have HC1 := Lib.hid (blob_any _ g2 ⟨be8 n ++ xs, 0⟩ room w6 HR24.out.2 HSH.out)
  go_upto_region 9 with (go_at_call 39; refine HC1.out.mono ?_; rintro e w7 ⟨v7, rfl, ho, hr, hst⟩; obtain ⟨q7, c7, rfl, -, -, hl7⟩ := ho.sl rfl; have HL7 := Lib.hid hl7; have HR15 := Lib.hid (HR14.out.past hst (by omega) (fun d => by have := d.1; have := d.2; omega)); have HR25 := Lib.hid hr; have HR35 := Lib.hid (HR34.out.past hst (by omega)); have HB7 := Lib.hid (HB6.out.trans (Stays.below hst (B := W.heap.size) (fun k e => by have := HB2.out.size; omega) HB6.out.size)); have hs7 := hst.size; have hn7 := ho.lt; clear hr hst ho hl7)
  clear HC1 HR14 HR24 HR34
  have HC1 := Lib.hid (text_any _ g3 ⟨be8 n ++ xs, 0⟩ room w7 HR35.out.2)
  go_upto_region 10 with (go_at_call 40; refine HC1.out.mono ?_; rintro e w8 ⟨rfl, hr, hst⟩; have HL8 := Lib.hid (HL7.out.stay hst (fun off x => HR35.out.2.noByte off x)); have HR16 := Lib.hid (HR15.out.past hst (by omega) (fun d => by have := d.1; have := d.2; omega)); have HR26 := Lib.hid (HR25.out.past hst (by omega) (fun d => by have := d.1; have := d.2; omega)); have HR36 := Lib.hid hr; have HB8 := Lib.hid (HB7.out.trans (Stays.below hst (B := W.heap.size) (fun k e => by have := HB2.out.size; omega) HB7.out.size)); clear hr hst)
  clear HC1 HR15 HR25 HR35
  have HM : Hid (ManyW W ((⟨be8 n ++ xs, 0⟩ : RS).countS room) ((⟨be8 n ++ xs, 0⟩ : RS).blobS room) ((⟨be8 n ++ xs, 0⟩ : RS).blobV room) g1 g2 g3 q7 w8) := show ManyW _ _ _ _ _ _ _ _ _ from ⟨HB8.out, ⟨_, HR16.out⟩, ⟨_, HR26.out⟩, ⟨_, HR36.out⟩, HL8.out⟩
  clear HR16 HR26 HR36 HB8 HB7 HB6 HL8 HL7 HB2 HL2 HC3 HLM HLN hs6 hs7 hl1 hl2 hl3 hk1 hk2 hk3 hs1 hs2 hs3 hs0 HSH
  have HWK : Hid (∀ w' : World, Below W.heap.size W w' → Calls Try.prog 10 #[] w' fun e w'' => e = .returned (.bool true) ∧ Below W.heap.size W w'') := show ∀ _, _ from fun w' h => (works7_any w').mono fun e w'' ⟨h1, h2⟩ => ⟨h1, h.trans (h2.mono h.size)⟩
  by_cases hov : n < 0 ∨ room < n
  · obtain ⟨h1, h2, h3, h4⟩ := many_over n room xs hn hov
    rw [h1, h3, h4] at HM
    rw [h2, h4]
    have HE : Hid (∀ (D : Nat → Prop) (g : Nat), RdAt D w8 g ⟨[], 3⟩ → Calls Try.prog 27 #[.pointer (some ⟨g, 0, none⟩)] w8 fun e w'' => e = .returned (.int .i64 3) ∧ w8 = w'') := show ∀ _ _, _ from fun D g h => end_any D g ⟨[], 3⟩ w8 h
    have hS : strB [] = ⟨#[]⟩ := rfl
    rw [hS]
    obtain ⟨D1, hD1⟩ := HM.out.one
    obtain ⟨D2, hD2⟩ := HM.out.two
    obtain ⟨D3, hD3⟩ := HM.out.three
    have HE1 := Lib.hid (HE.out D1 g1 hD1); have HE2 := Lib.hid (HE.out D2 g2 hD2); have HE3 := Lib.hid (HE.out D3 g3 hD3)
    have HWW := Lib.hid (HWK.out w8 HM.out.below)
    clear HE hD1 hD2 hD3 HM HWK h1 h2 h3 h4 hS HL HX
    by_cases hn0 : n < 0
    · go_wp2_with fail
      refine HE1.out.mono ?_
      rintro e w9 ⟨rfl, rfl⟩
      go_wp2_with fail
      refine HE2.out.mono ?_
      rintro e w9 ⟨rfl, rfl⟩
      go_wp2_with fail
      refine HE3.out.mono ?_
      rintro e w9 ⟨rfl, rfl⟩
      go_wp2_with fail
      refine HWW.out.mono ?_
      rintro e w9 ⟨rfl, hb⟩
      have HB := Lib.hid hb; clear hb
      go_wp2_with fail
      go_ret
      exact ⟨rfl, HB.out⟩
    · have q1 : n > room := by omega
      go_wp2_with fail
      refine HE1.out.mono ?_
      rintro e w9 ⟨rfl, rfl⟩
      go_wp2_with fail
      refine HE2.out.mono ?_
      rintro e w9 ⟨rfl, rfl⟩
      go_wp2_with fail
      refine HE3.out.mono ?_
      rintro e w9 ⟨rfl, rfl⟩
      go_wp2_with fail
      refine HWW.out.mono ?_
      rintro e w9 ⟨rfl, hb⟩
      have HB := Lib.hid hb; clear hb
      go_wp2_with fail
      go_ret
      exact ⟨rfl, HB.out⟩
  · have hn0 : ¬ n < 0 := fun h => hov (.inl h)
    have hn1 : ¬ room < n := fun h => hov (.inr h)
    obtain ⟨h1, h2, h3, h4⟩ := many_fine n room xs hn hn0 hn1
    obtain ⟨N, rfl⟩ : ∃ N : Nat, n = (N : Int) := ⟨n.toNat, by omega⟩
    rw [Int.toNat_natCast] at h2 h3 h4
    rw [h1, h3, h4] at HM
    rw [h2, h4]
    obtain ⟨D1, hD1⟩ := HM.out.one
    obtain ⟨D2, hD2⟩ := HM.out.two
    obtain ⟨D3, hD3⟩ := HM.out.three
    have hlf1 := left_any D1 g1 ⟨xs, 0⟩ w8 hD1
    rw [show (⟨xs, 0⟩ : RS).bs.length = len from HX.out] at hlf1
    have HLF1 := Lib.hid hlf1
    have hen2 := end_any D2 g2 _ w8 hD2
    have hen3 := end_any D3 g3 _ w8 hD3
    have hcv := run_strB HM.out.lies _ c7 rfl
    have q1 : ¬ (N : Int) > room := hn1
    have HWW := Lib.hid (HWK.out w8 HM.out.below)
    have HLA := Lib.hid (HL.out.below (HM.out.below))
    by_cases hb : len < N
    · have e1 : (⟨xs, 0⟩ : RS).got N = [] := if_pos (show xs.length < N by rw [HX.out]; exact hb)
      have e2 : (⟨xs, 0⟩ : RS).next N = ⟨[], 4⟩ := if_pos (show xs.length < N by rw [HX.out]; exact hb)
      rw [e1] at hcv
      rw [e1]
      rw [e2] at hen2 hen3
      have HE2 : Hid (Calls Try.prog 27 #[.pointer (some ⟨g2, 0, none⟩)] w8 fun e w'' => e = .returned (.int .i64 4) ∧ w8 = w'') := show Calls _ _ _ _ _ from hen2
      have HE3 : Hid (Calls Try.prog 27 #[.pointer (some ⟨g3, 0, none⟩)] w8 fun e w'' => e = .returned (.int .i64 4) ∧ w8 = w'') := show Calls _ _ _ _ _ from hen3
      clear hen2 hen3 hlf1 hD1 hD2 hD3 h1 h2 h3 h4 e1 e2 HM HWK HL HX HLA
      rw [List.length_nil] at hcv
      rw [List.length_nil]
      generalize strB [] = S at *
      have q2 : (N : Int) > (len : Int) := by omega
      go_wp2_with fail
      refine HLF1.out.mono ?_
      rintro e w9 ⟨rfl, rfl⟩
      go_wp2_with fail
      refine HE2.out.mono ?_
      rintro e w9 ⟨rfl, rfl⟩
      go_wp2_with fail
      refine HE3.out.mono ?_
      rintro e w9 ⟨rfl, rfl⟩
      go_wp2_with fail
      refine HE2.out.mono ?_
      rintro e w9 ⟨rfl, rfl⟩
      go_wp2_with fail
      refine HWW.out.mono ?_
      rintro e w9 ⟨rfl, hb⟩
      have HB := Lib.hid hb; clear hb
      go_wp2_with fail
      go_ret
      exact ⟨rfl, HB.out⟩
    · have e1 : (⟨xs, 0⟩ : RS).got N = xs.take N := if_neg (show ¬ xs.length < N by rw [HX.out]; exact hb)
      have e2 : (⟨xs, 0⟩ : RS).next N = ⟨xs.drop N, 0⟩ := if_neg (show ¬ xs.length < N by rw [HX.out]; exact hb)
      have hbl : (xs.take N).length = N := by rw [List.length_take, HX.out]; omega
      have hHM := HM.out.lies
      rw [e1] at hcv hHM
      rw [e1]
      rw [e2] at hen2 hen3 hD2
      obtain ⟨E, hE⟩ : ∃ E, (⟨xs.drop N, 0⟩ : RS).endV = E := ⟨_, rfl⟩
      rw [hE] at hen2 hen3
      have HE2 := Lib.hid hen2
      have HE3 := Lib.hid hen3
      rw [hbl] at hcv
      rw [hbl]
      have HSM := Lib.hid (same_any (xs.take N) N q7 a c7 cap w8 hbl (by omega) hHM (lies_takeB HLA.out N))
      have HLF2 : Hid (∀ w9, Below w8.heap.size w8 w9 → Calls Try.prog 25 #[.pointer (some ⟨g2, 0, none⟩)] w9 fun e w'' => e = .returned (.int .i64 ((len - N : Nat) : Int)) ∧ w9 = w'') := show ∀ _, _ from fun w9 h => by
        have h9 := left_any D2 g2 ⟨xs.drop N, 0⟩ w9 (hD2.below h)
        rw [show (⟨xs.drop N, 0⟩ : RS).bs.length = len - N by rw [← HX.out]; exact List.length_drop] at h9
        exact h9
      have HWB := Lib.hid HM.out.below
      clear hen2 hen3 hlf1 hD1 hD2 hD3 h1 h2 h3 h4 e1 e2 HM HL HX HLA hHM HWW hE
      generalize strB (xs.take N) = S at *
      have q2 : ¬ (N : Int) > (len : Int) := by omega
      have q3 : (N : Int) ≤ (cap : Int) := by omega
      have q4 : (len : Int) - (N : Int) = ((len - N : Nat) : Int) := by omega
      generalize hM : len - N = M at *
      go_wp2_with fail
      refine HLF1.out.mono ?_
      rintro e w9 ⟨rfl, rfl⟩
      go_wp2_with fail
      refine HE2.out.mono ?_
      rintro e w9 ⟨rfl, rfl⟩
      go_wp2_with fail
      refine HE3.out.mono ?_
      rintro e w9 ⟨rfl, rfl⟩
      go_wp2_with fail
      all_goals
        refine HSM.out.mono ?_
        rintro e w9 ⟨rfl, hb9⟩
        have HL9 := Lib.hid (HLF2.out w9 hb9)
        have HW9 := Lib.hid (HWK.out w9 (HWB.out.trans (hb9.mono HWB.out.size)))
        clear hb9
        go_wp2_with fail
        refine HL9.out.mono ?_
        rintro e w10 ⟨rfl, rfl⟩
        go_wp2_with fail
        refine HW9.out.mono ?_
        rintro e w10 ⟨rfl, hb⟩
        have HB := Lib.hid hb; clear hb
        go_wp2_with fail
        go_ret
        exact ⟨rfl, HB.out⟩
end Go.Proofs.Ytegepjdfnjanhaa

/-
  PackMany, for any two numbers and any bytes: the law returns true, and what came in reads afterwards as it read before. Without any condition.
-/
namespace Go.Proofs.Ytegepjdfnjanhaa
open Go.ChangeShapes Go.WideShapes Go.ChangeAt Go.RowKit Go.Proofs.ShaWords

set_option maxRecDepth 100000 in
theorem packMany_lifted (os : Os) (started : os.Started) (H : Type) (enc : TypeId × Value → H) :
    ReturnsInHanded {} Try.checked os 8 .any (Rows.packManySpec.pre6 enc Try.prog Try.f8 Rows.packManyRow.domain false)
      (Rows.packManySpec.post enc Try.prog Try.f8 false true false false) := by
  refine returnsInHanded_of_change_sized (C := Try.checked) own started (by kernel_rfl) Try.func8
    (ChangeSpec.witness6 (enc := enc) (C := Try.checked) false ⟨#[], #[.int .i64 0, .int .i64 0, .slice none 0 0], []⟩ 8 (by kernel_rfl) (by kernel_rfl) (by kernel_rfl) (by kernel_rfl)) ?_
  intro W base args ds gs before hval0 hW _ hsz _
  have hW' := hW
  obtain ⟨p, q, hA0, hV, rfl, hfz, hnd⟩ := hW
  have hA : DataW.TrodAll enc Try.prog W 0 (fun _ => true) true Try.f8.params.toList args.toList ds p := hA0
  have hval : ∀ (j : Nat) t v, Try.f8.params[j]? = some t → args[j]? = some v → Value.okWide Try.prog W .any base t v := hval0
  have hsz2 : (DataW.weightsEach Try.prog (Try.f8.params.toList ++ Rows.packManySpec.plain.varTypes Try.prog) (ds ++ gs)).all (· ≤ reachBytes) = true := hsz
  rw [Try.params8] at hA hval hsz2
  obtain ⟨v0, vs0, d0, ds0, p0, q0, hargs, rfl, rfl, h0, r0⟩ := trodAll_cons hA
  obtain ⟨v1, vs1, d1, ds1, p1, q1, rfl, rfl, rfl, h1, r1⟩ := trodAll_cons r0
  obtain ⟨v2, vs2, d2, ds2, p2, q2, rfl, rfl, rfl, h2, r2⟩ := trodAll_cons r1
  obtain ⟨rfl, rfl, rfl⟩ := trodAll_nil r2
  obtain rfl : args = #[v0, v1, v2] := by cases args; simp_all
  obtain ⟨rfl, rfl⟩ := trodVars_none hV
  have hb5 : Try.prog.bytesOf 5 = 1 := by kernel_rfl
  obtain ⟨z0, rfl, rfl, rfl, wz0⟩ := open_int Try.underlying3 (hval 0 3 v0 rfl rfl) h0
  obtain ⟨z1, rfl, rfl, rfl, wz1⟩ := open_int Try.underlying3 (hval 1 3 v1 rfl rfl) h1
  obtain ⟨a2, len2, cap2, rfl⟩ := okWide_slice Try.underlying22 (hval 2 22 v2 rfl rfl)
  have k2 := h2
  have lt2 : ∀ x ∈ p2, x.block < W.heap.size := by obtain ⟨m, hm⟩ := k2; exact DataW.trod_lt m _ _ _ hm
  obtain ⟨f2, hf2⟩ := h2
  obtain ⟨xs2, hx2a, hx2b, hx2c, hx2d⟩ := open_bytes hf2
  have hc2 : cap2 ≤ 140737488351232 := by
    rcases hx2d with ⟨_, h⟩ | ⟨e, sp, he, hl⟩
    · omega
    · have h := sized_slice hsz2 (j := 2) (t := 22) (elems := e) (spare := sp) rfl (by rw [← he]; rfl) Try.underlying22
      rw [hb5] at h; unfold reachBytes at h; omega
  clear hA0 hval0
  refine (packMany_any z0 z1 xs2 len2 cap2 a2 W (wf64 wz0) hx2a (by omega) hx2c).mono fun e W' ⟨he, bel⟩ => ?_
  subst he
  exact ⟨_, rfl, _, _, _, [], _, [], hW', trodAll_mk1 (shut_bool Try.underlying4 _), (trodAll_cons_mk (shut_int Try.underlying3 wz0) (trodAll_cons_mk (shut_int Try.underlying3 wz1) (trodAll_cons_mk (Below.trod laidOut (by kernel_rfl) (of_decide_eq_true (by kernel_rfl)) k2 bel lt2) trodAll_mk0))), rfl, bel.frame _, fun h => by cases h⟩

theorem packMany_holds : Rows.PackManySaid :=
  OpenClaim.holds_of_wide 8 Try.f8 rfl rfl rfl rfl rfl rfl rfl ⟨rfl, rfl, rfl, rfl, rfl⟩ rfl rfl rfl rfl rfl (by kernel_rfl) Try.func8 (by kernel_rfl)
    (of_decide_eq_true (by kernel_rfl)) (by unfold Func.isWrapper; first | (rw [if_pos (by decide +kernel)]; kernel_rfl) | (rw [if_neg (by decide +kernel)]; exact ⟨rfl, rfl⟩))
    (fun os started H enc _ => packMany_lifted os started H enc)

#print axioms packMany_holds
end Go.Proofs.Ytegepjdfnjanhaa
