/-
  PackReads, for any bytes and anything that is asked: the law returns true, and what came in reads afterwards as it read before. Without any condition.
-/
import Derived.Test.YtegepjdfnjanhaaPkA
import Derived.Test.YtegepjdfnjanhaaPkW
import Derived.Stop.BytesEq
import Derived.Deep.CutRange
/-
  PackMany's walk.
-/
namespace Go.Proofs.Ytegepjdfnjanhaa
open Go.RowKit Go.Proofs.ShaWords
/-- A reader whose bytes lie between lo and its own block. -/
def RdIn (lo : Nat) (w : World) (g : Nat) (s : RS) : Prop := lo ≤ g ∧ RdAt (fun k => lo ≤ k ∧ k < g) w g s
theorem RdIn.below {lo : Nat} {w w' : World} {g : Nat} {s : RS} (h : RdIn lo w g s) (hb : Below w.heap.size w w') : RdIn lo w' g s := ⟨h.1, h.2.below hb⟩
theorem RdIn.past {lo : Nat} {w w' : World} {g k : Nat} {s : RS} (h : RdIn lo w g s) (hk : Stays (fun x => x = k) w w') (h1 : k < lo ∨ g < k) : RdIn lo w' g s := ⟨h.1, h.2.past hk (by have := h.1; omega) (fun d => by have := d.1; have := d.2; omega)⟩
theorem RdIn.lt {lo : Nat} {w : World} {g : Nat} {s : RS} (h : RdIn lo w g s) : g < w.heap.size := h.2.lt
/-- A reader's block holds no byte. -/
theorem RdAt.noByte {D : Nat → Prop} {w : World} {g : Nat} {s : RS} (h : RdAt D w g s) (off : Nat) (x : BitVec 8) : w.cell? ⟨g, off, none⟩ ≠ some (.int .u8 (n8 x)) := by
  obtain ⟨q, c, h1, -⟩ := h.cell0
  rw [cell_of_row w g off _ _ _ h1]
  match off with
  | 0 => simp
  | 1 => simp
  | k + 2 => simp
theorem readIn (l : List (BitVec 8)) (n : Nat) (p : Option Addr) (c : Nat) (w : World) (hn : l.length = n) (hl : n < 140737488355328) (hp : Lies w p l) :
    Calls Try.prog 23 #[.slice p n c] w fun e w' => ∃ g, e = .returned (.pointer (some ⟨g, 0, none⟩)) ∧ RdIn w.heap.size w' g ⟨l, 0⟩ ∧ Below w.heap.size w w' :=
  (read_any l n p c w hn hl hp).mono fun _ _ ⟨g, h1, h2, h3, h4⟩ => ⟨g, h1, ⟨h2, h3⟩, h4⟩
/-- Bytes that begin with a number. -/
theorem many_next (n : Int) (m : List (BitVec 8)) : (⟨be8 n ++ m, 0⟩ : RS).next 8 = ⟨m, 0⟩ := by
  unfold RS.next
  rw [if_neg (by simp [be8_length])]
  simp [be8_length]
theorem many_got (n : Int) (m : List (BitVec 8)) : (⟨be8 n ++ m, 0⟩ : RS).got 8 = be8 n := by
  unfold RS.got
  rw [if_neg (by simp [be8_length])]
  simp [be8_length]
theorem many_int (n : Int) (m : List (BitVec 8)) (h : -9223372036854775808 ≤ n ∧ n < 9223372036854775808) : (⟨be8 n ++ m, 0⟩ : RS).intV = n := by
  unfold RS.intV
  rw [many_got, int8_be8 n h]
theorem many_over (n room : Int) (m : List (BitVec 8)) (h : -9223372036854775808 ≤ n ∧ n < 9223372036854775808) (ho : n < 0 ∨ room < n) :
    (⟨be8 n ++ m, 0⟩ : RS).countS room = ⟨[], 3⟩ ∧ (⟨be8 n ++ m, 0⟩ : RS).countV room = 0 ∧ (⟨be8 n ++ m, 0⟩ : RS).blobS room = ⟨[], 3⟩ ∧ (⟨be8 n ++ m, 0⟩ : RS).blobV room = [] := by
  have h0 : (⟨be8 n ++ m, 0⟩ : RS).over room = true := by
    unfold RS.over
    rw [many_int n m h]
    simpa using ho
  have h1 : (⟨be8 n ++ m, 0⟩ : RS).countS room = ⟨[], 3⟩ := by
    unfold RS.countS
    rw [if_pos h0, many_next]
    rfl
  have h2 : (⟨be8 n ++ m, 0⟩ : RS).countV room = 0 := if_pos h0
  refine ⟨h1, h2, ?_, ?_⟩
  · unfold RS.blobS
    rw [h1, h2]; rfl
  · unfold RS.blobV
    rw [h1, h2]; rfl
theorem many_fine (n room : Int) (m : List (BitVec 8)) (h : -9223372036854775808 ≤ n ∧ n < 9223372036854775808) (h1 : ¬ n < 0) (h2 : ¬ room < n) :
    (⟨be8 n ++ m, 0⟩ : RS).countS room = ⟨m, 0⟩ ∧ (⟨be8 n ++ m, 0⟩ : RS).countV room = n.toNat ∧ (⟨be8 n ++ m, 0⟩ : RS).blobS room = (⟨m, 0⟩ : RS).next n.toNat ∧ (⟨be8 n ++ m, 0⟩ : RS).blobV room = (⟨m, 0⟩ : RS).got n.toNat := by
  have h0 : ¬ (⟨be8 n ++ m, 0⟩ : RS).over room = true := by
    unfold RS.over
    rw [many_int n m h]
    simp
    omega
  have h3 : (⟨be8 n ++ m, 0⟩ : RS).countS room = ⟨m, 0⟩ := by
    unfold RS.countS
    rw [if_neg h0, many_next]
  have h4 : (⟨be8 n ++ m, 0⟩ : RS).countV room = n.toNat := by
    unfold RS.countV
    rw [if_neg h0, many_int n m h]
  refine ⟨h3, h4, ?_, ?_⟩
  · unfold RS.blobS
    rw [h3, h4]
  · unfold RS.blobV
    rw [h3, h4]
/-- What PackMany has before it compares. -/
structure ManyW (W : World) (sC sB : RS) (bv : List (BitVec 8)) (g1 g2 g3 : Nat) (q : Option Addr) (w : World) : Prop where
  below : Below W.heap.size W w
  one : ∃ D, RdAt D w g1 sC
  two : ∃ D, RdAt D w g2 sB
  three : ∃ D, RdAt D w g3 sB
  lies : Lies w q bv
theorem ManyW.on {W : World} {sC sB : RS} {bv : List (BitVec 8)} {g1 g2 g3 : Nat} {q : Option Addr} {w w' : World} (h : ManyW W sC sB bv g1 g2 g3 q w) (hb : Below w.heap.size w w') : ManyW W sC sB bv g1 g2 g3 q w' := by
  obtain ⟨h1, ⟨D1, h2⟩, ⟨D2, h3⟩, ⟨D3, h4⟩, h5⟩ := h
  exact ⟨h1.trans (hb.mono h1.size), ⟨D1, h2.below hb⟩, ⟨D2, h3.below hb⟩, ⟨D3, h4.below hb⟩, h5.below hb⟩
set_option maxRecDepth 100000 in
set_option maxHeartbeats 2000000 in
theorem packMany_any (n room : Int) (xs : List (BitVec 8)) (len cap : Nat) (a : Option Addr) (W : World) (hn : -9223372036854775808 ≤ n ∧ n < 9223372036854775808) (hx : xs.length = len) (hlc : len ≤ cap) (hL : Lies W a xs) :
    Calls Try.prog 8 #[.int .i64 n, .int .i64 room, .slice a len cap] W fun e W' => e = .returned (.bool true) ∧ Below W.heap.size W W' := by
  have HL := Lib.hid hL; clear hL
  have HX := Lib.hid hx; clear hx
  go_enter Try.func8, Try.ntmps8
  by_cases hbig : len > 512
  · have q0 : (len : Int) > 512 := by omega
    go_wp2_with (go_at_call 10; refine (works7_any W).mono ?_; rintro e w1 ⟨rfl, hb⟩; have HB := Lib.hid hb; clear hb)
    go_ret
    exact ⟨rfl, HB.out⟩
  have q0 : ¬ (len : Int) > 512 := by omega
  have HI := Lib.hid (intP_any n [] 0 none 0 W rfl (by omega) (Or.inl rfl))
  have HLN : Hid ((([] : List (BitVec 8)) ++ be8 n).length + xs.length < 140737488355328) := show _ < _ by rw [List.length_append, be8_length, HX.out]; simp; omega
  have HLM : Hid ((([] : List (BitVec 8)) ++ be8 n ++ xs).length = len + 8) := show _ = _ by rw [List.length_append, List.length_append, be8_length, HX.out]; simp; omega
  go_upto_region 4 with (first
    | (go_at_call 12; refine HI.out.mono ?_; rintro e w1 ⟨r, rfl, ho, hb⟩; have HO := Lib.hid ho; have HB := Lib.hid hb; clear ho hb)
    | (at_builtin; refine wpList_append_listB rfl (.tmp 19) (.tmp 20) rfl W.heap.size _ _ xs a cap rfl HO.out (by rw [HX.out]; rfl) (HL.out.below HB.out) HLN.out HB.out.size ?_; intro v2 w2 ho2 hb2; have hl2 := ho2.sl HLM.out; obtain ⟨q2, c2, rfl, -, -, hl2⟩ := hl2; have HL2 := Lib.hid hl2; have HB2 := Lib.hid (HB.out.trans hb2); clear ho2 hb2 hl2))
  rename World => w2
  clear HI HO HB
  have HC0 : Hid (Below w2.heap.size w2 w2) := show Below _ _ _ from Below.refl _ _
  go_upto_region 5 with (go_at_call 23; refine (readIn _ (len + 8) q2 c2 _ HLM.out (by omega) (HL2.out.below HC0.out)).mono ?_; rintro e w3 ⟨g1, rfl, hr, hb⟩; have HR11 := Lib.hid hr; have HC1 := Lib.hid (HC0.out.trans (hb.mono HC0.out.size)); have hl1 := hr.1; have hk1 := hr.lt; have hs1 := hb.size; clear hr hb)
  clear HC0
  go_upto_region 6 with (go_at_call 23; refine (readIn _ (len + 8) q2 c2 _ HLM.out (by omega) (HL2.out.below HC1.out)).mono ?_; rintro e w4 ⟨g2, rfl, hr, hb⟩; have HR22 := Lib.hid hr; have HR12 := Lib.hid (HR11.out.below hb); have HC2 := Lib.hid (HC1.out.trans (hb.mono HC1.out.size)); have hl2 := hr.1; have hk2 := hr.lt; have hs2 := hb.size; clear hr hb)
  clear HC1 HR11
  go_upto_region 7 with (go_at_call 23; refine (readIn _ (len + 8) q2 c2 _ HLM.out (by omega) (HL2.out.below HC2.out)).mono ?_; rintro e w5 ⟨g3, rfl, hr, hb⟩; have HR33 := Lib.hid hr; have HR13 := Lib.hid (HR12.out.below hb); have HR23 := Lib.hid (HR22.out.below hb); have HC3 := Lib.hid (HC2.out.trans (hb.mono HC2.out.size)); have hl3 := hr.1; have hk3 := hr.lt; have hs3 := hb.size; clear hr hb)
  clear HC2 HR12 HR22
  have hs0 : (⟨([] : List (BitVec 8)) ++ be8 n ++ xs, 0⟩ : RS) = ⟨be8 n ++ xs, 0⟩ := by rw [List.nil_append]
  rw [hs0] at HR13 HR23 HR33
  have HSH : Hid ((⟨be8 n ++ xs, 0⟩ : RS).Short) := show _ < _ by show (be8 n ++ xs).length < _; rw [List.length_append, be8_length, HX.out]; omega
  have HC1 := Lib.hid (count_any _ g1 ⟨be8 n ++ xs, 0⟩ room w5 HR13.out.2)
  go_upto_region 8 with (go_at_call 38; refine HC1.out.mono ?_; rintro e w6 ⟨rfl, hr, hst⟩; have HR14 := Lib.hid hr; have HR24 := Lib.hid (HR23.out.past hst (by omega)); have HR34 := Lib.hid (HR33.out.past hst (by omega)); have HB6 := Lib.hid ((HB2.out.trans (HC3.out.mono HB2.out.size)).trans (Stays.below hst (B := W.heap.size) (fun k e => by have := HB2.out.size; omega) (Nat.le_trans HB2.out.size HC3.out.size))); have hs6 := hst.size; clear hr hst)
  clear HC1 HR13 HR23 HR33
  have HC1 := Lib.hid (blob_any _ g2 ⟨be8 n ++ xs, 0⟩ room w6 HR24.out.2 HSH.out)
  go_upto_region 9 with (go_at_call 39; refine HC1.out.mono ?_; rintro e w7 ⟨v7, rfl, ho, hr, hst⟩; obtain ⟨q7, c7, rfl, -, -, hl7⟩ := ho.sl rfl; have HL7 := Lib.hid hl7; have HR15 := Lib.hid (HR14.out.past hst (by omega) (fun d => by have := d.1; have := d.2; omega)); have HR25 := Lib.hid hr; have HR35 := Lib.hid (HR34.out.past hst (by omega)); have HB7 := Lib.hid (HB6.out.trans (Stays.below hst (B := W.heap.size) (fun k e => by have := HB2.out.size; omega) HB6.out.size)); have hs7 := hst.size; have hn7 := ho.lt; clear hr hst ho hl7)
  clear HC1 HR14 HR24 HR34
  have HC1 := Lib.hid (text_any _ g3 ⟨be8 n ++ xs, 0⟩ room w7 HR35.out.2)
  go_upto_region 10 with (go_at_call 40; refine HC1.out.mono ?_; rintro e w8 ⟨rfl, hr, hst⟩; have HL8 := Lib.hid (HL7.out.stay hst (fun off x => HR35.out.2.noByte off x)); have HR16 := Lib.hid (HR15.out.past hst (by omega) (fun d => by have := d.1; have := d.2; omega)); have HR26 := Lib.hid (HR25.out.past hst (by omega) (fun d => by have := d.1; have := d.2; omega)); have HR36 := Lib.hid hr; have HB8 := Lib.hid (HB7.out.trans (Stays.below hst (B := W.heap.size) (fun k e => by have := HB2.out.size; omega) HB7.out.size)); clear hr hst)
  clear HC1 HR15 HR25 HR35
  have HM : Hid (ManyW W ((⟨be8 n ++ xs, 0⟩ : RS).countS room) ((⟨be8 n ++ xs, 0⟩ : RS).blobS room) ((⟨be8 n ++ xs, 0⟩ : RS).blobV room) g1 g2 g3 q7 w8) := show ManyW _ _ _ _ _ _ _ _ _ from ⟨HB8.out, ⟨_, HR16.out⟩, ⟨_, HR26.out⟩, ⟨_, HR36.out⟩, HL8.out⟩
  clear HR16 HR26 HR36 HB8 HB7 HB6 HL8 HL7 HB2 HL2 HC3 HLM HLN hs6 hs7 hl1 hl2 hl3 hk1 hk2 hk3 hs1 hs2 hs3 hs0 HSH
  have HWK : Hid (∀ w' : World, Below W.heap.size W w' → Calls Try.prog 10 #[] w' fun e w'' => e = .returned (.bool true) ∧ Below W.heap.size W w'') := show ∀ _, _ from fun w' h => (works7_any w').mono fun e w'' ⟨h1, h2⟩ => ⟨h1, h.trans (h2.mono h.size)⟩
  by_cases hov : n < 0 ∨ room < n
  · obtain ⟨h1, h2, h3, h4⟩ := many_over n room xs hn hov
    rw [h1, h3, h4] at HM
    rw [h2, h4]
    have HE : Hid (∀ (D : Nat → Prop) (g : Nat), RdAt D w8 g ⟨[], 3⟩ → Calls Try.prog 27 #[.pointer (some ⟨g, 0, none⟩)] w8 fun e w'' => e = .returned (.int .i64 3) ∧ w8 = w'') := show ∀ _ _, _ from fun D g h => end_any D g ⟨[], 3⟩ w8 h
    have hS : strB [] = ⟨#[]⟩ := rfl
    rw [hS]
    obtain ⟨D1, hD1⟩ := HM.out.one
    obtain ⟨D2, hD2⟩ := HM.out.two
    obtain ⟨D3, hD3⟩ := HM.out.three
    have HE1 := Lib.hid (HE.out D1 g1 hD1); have HE2 := Lib.hid (HE.out D2 g2 hD2); have HE3 := Lib.hid (HE.out D3 g3 hD3)
    have HWW := Lib.hid (HWK.out w8 HM.out.below)
    clear HE hD1 hD2 hD3 HM HWK h1 h2 h3 h4 hS HL HX
    by_cases hn0 : n < 0
    · go_wp2_with fail
      refine HE1.out.mono ?_
      rintro e w9 ⟨rfl, rfl⟩
      go_wp2_with fail
      refine HE2.out.mono ?_
      rintro e w9 ⟨rfl, rfl⟩
      go_wp2_with fail
      refine HE3.out.mono ?_
      rintro e w9 ⟨rfl, rfl⟩
      go_wp2_with fail
      refine HWW.out.mono ?_
      rintro e w9 ⟨rfl, hb⟩
      have HB := Lib.hid hb; clear hb
      go_wp2_with fail
      go_ret
      exact ⟨rfl, HB.out⟩
    · have q1 : n > room := by omega
      go_wp2_with fail
      refine HE1.out.mono ?_
      rintro e w9 ⟨rfl, rfl⟩
      go_wp2_with fail
      refine HE2.out.mono ?_
      rintro e w9 ⟨rfl, rfl⟩
      go_wp2_with fail
      refine HE3.out.mono ?_
      rintro e w9 ⟨rfl, rfl⟩
      go_wp2_with fail
      refine HWW.out.mono ?_
      rintro e w9 ⟨rfl, hb⟩
      have HB := Lib.hid hb; clear hb
      go_wp2_with fail
      go_ret
      exact ⟨rfl, HB.out⟩
  · have hn0 : ¬ n < 0 := fun h => hov (.inl h)
    have hn1 : ¬ room < n := fun h => hov (.inr h)
    obtain ⟨h1, h2, h3, h4⟩ := many_fine n room xs hn hn0 hn1
    obtain ⟨N, rfl⟩ : ∃ N : Nat, n = (N : Int) := ⟨n.toNat, by omega⟩
    rw [Int.toNat_natCast] at h2 h3 h4
    rw [h1, h3, h4] at HM
    rw [h2, h4]
    obtain ⟨D1, hD1⟩ := HM.out.one
    obtain ⟨D2, hD2⟩ := HM.out.two
    obtain ⟨D3, hD3⟩ := HM.out.three
    have hlf1 := left_any D1 g1 ⟨xs, 0⟩ w8 hD1
    rw [show (⟨xs, 0⟩ : RS).bs.length = len from HX.out] at hlf1
    have HLF1 := Lib.hid hlf1
    have hen2 := end_any D2 g2 _ w8 hD2
    have hen3 := end_any D3 g3 _ w8 hD3
    have hcv := run_strB HM.out.lies _ c7 rfl
    have q1 : ¬ (N : Int) > room := hn1
    have HWW := Lib.hid (HWK.out w8 HM.out.below)
    have HLA := Lib.hid (HL.out.below (HM.out.below))
    by_cases hb : len < N
    · have e1 : (⟨xs, 0⟩ : RS).got N = [] := if_pos (show xs.length < N by rw [HX.out]; exact hb)
      have e2 : (⟨xs, 0⟩ : RS).next N = ⟨[], 4⟩ := if_pos (show xs.length < N by rw [HX.out]; exact hb)
      rw [e1] at hcv
      rw [e1]
      rw [e2] at hen2 hen3
      have HE2 : Hid (Calls Try.prog 27 #[.pointer (some ⟨g2, 0, none⟩)] w8 fun e w'' => e = .returned (.int .i64 4) ∧ w8 = w'') := show Calls _ _ _ _ _ from hen2
      have HE3 : Hid (Calls Try.prog 27 #[.pointer (some ⟨g3, 0, none⟩)] w8 fun e w'' => e = .returned (.int .i64 4) ∧ w8 = w'') := show Calls _ _ _ _ _ from hen3
      clear hen2 hen3 hlf1 hD1 hD2 hD3 h1 h2 h3 h4 e1 e2 HM HWK HL HX HLA
      rw [List.length_nil] at hcv
      rw [List.length_nil]
      generalize strB [] = S at *
      have q2 : (N : Int) > (len : Int) := by omega
      go_wp2_with fail
      refine HLF1.out.mono ?_
      rintro e w9 ⟨rfl, rfl⟩
      go_wp2_with fail
      refine HE2.out.mono ?_
      rintro e w9 ⟨rfl, rfl⟩
      go_wp2_with fail
      refine HE3.out.mono ?_
      rintro e w9 ⟨rfl, rfl⟩
      go_wp2_with fail
      refine HE2.out.mono ?_
      rintro e w9 ⟨rfl, rfl⟩
      go_wp2_with fail
      refine HWW.out.mono ?_
      rintro e w9 ⟨rfl, hb⟩
      have HB := Lib.hid hb; clear hb
      go_wp2_with fail
      go_ret
      exact ⟨rfl, HB.out⟩
    · have e1 : (⟨xs, 0⟩ : RS).got N = xs.take N := if_neg (show ¬ xs.length < N by rw [HX.out]; exact hb)
      have e2 : (⟨xs, 0⟩ : RS).next N = ⟨xs.drop N, 0⟩ := if_neg (show ¬ xs.length < N by rw [HX.out]; exact hb)
      have hbl : (xs.take N).length = N := by rw [List.length_take, HX.out]; omega
      have hHM := HM.out.lies
      rw [e1] at hcv hHM
      rw [e1]
      rw [e2] at hen2 hen3 hD2
      obtain ⟨E, hE⟩ : ∃ E, (⟨xs.drop N, 0⟩ : RS).endV = E := ⟨_, rfl⟩
      rw [hE] at hen2 hen3
      have HE2 := Lib.hid hen2
      have HE3 := Lib.hid hen3
      rw [hbl] at hcv
      rw [hbl]
      have HSM := Lib.hid (same_any (xs.take N) N q7 a c7 cap w8 hbl (by omega) hHM (lies_takeB HLA.out N))
      have HLF2 : Hid (∀ w9, Below w8.heap.size w8 w9 → Calls Try.prog 25 #[.pointer (some ⟨g2, 0, none⟩)] w9 fun e w'' => e = .returned (.int .i64 ((len - N : Nat) : Int)) ∧ w9 = w'') := show ∀ _, _ from fun w9 h => by
        have h9 := left_any D2 g2 ⟨xs.drop N, 0⟩ w9 (hD2.below h)
        rw [show (⟨xs.drop N, 0⟩ : RS).bs.length = len - N by rw [← HX.out]; exact List.length_drop] at h9
        exact h9
      have HWB := Lib.hid HM.out.below
      clear hen2 hen3 hlf1 hD1 hD2 hD3 h1 h2 h3 h4 e1 e2 HM HL HX HLA hHM HWW hE
      generalize strB (xs.take N) = S at *
      have q2 : ¬ (N : Int) > (len : Int) := by omega
      have q3 : (N : Int) ≤ (cap : Int) := by omega
      have q4 : (len : Int) - (N : Int) = ((len - N : Nat) : Int) := by omega
      generalize hM : len - N = M at *
      go_wp2_with fail
      refine HLF1.out.mono ?_
      rintro e w9 ⟨rfl, rfl⟩
      go_wp2_with fail
      refine HE2.out.mono ?_
      rintro e w9 ⟨rfl, rfl⟩
      go_wp2_with fail
      refine HE3.out.mono ?_
      rintro e w9 ⟨rfl, rfl⟩
      go_wp2_with fail
      all_goals
        refine HSM.out.mono ?_
        rintro e w9 ⟨rfl, hb9⟩
        have HL9 := Lib.hid (HLF2.out w9 hb9)
        have HW9 := Lib.hid (HWK.out w9 (HWB.out.trans (hb9.mono HWB.out.size)))
        clear hb9
        go_wp2_with fail
        refine HL9.out.mono ?_
        rintro e w10 ⟨rfl, rfl⟩
        go_wp2_with fail
        refine HW9.out.mono ?_
        rintro e w10 ⟨rfl, hb⟩
        have HB := Lib.hid hb; clear hb
        go_wp2_with fail
        go_ret
        exact ⟨rfl, HB.out⟩
end Go.Proofs.Ytegepjdfnjanhaa

/-
  Two arrays of bytes compared; a step of a region by what it yields.
-/
namespace Go.Proofs.Ytegepjdfnjanhaa
open Go.RowKit Go.Proofs.ShaWords
theorem wpList_run {P : Program} {ops : Array Oper} {rest : List Oper} {o : Oper} {a : Act} {w : World} {Q : Exit → Act → World → Prop} {v : Value} (hw : Region.wanted o (yielded ops a.tmps) = true) (hr : (execOp a.eval o).run P w = .ok (.value v) w)
    (h : wpList P ops Q rest (a.put o.dst v) w) : wpList P ops Q (o :: rest) a w := by
  unfold wpList
  rw [if_pos hw]
  refine .inl ?_
  unfold Oper.wp
  rw [hr, Oper.upon_value]
  exact h
theorem bytesV_cell (l : List (BitVec 8)) : bytesV l = (l.map UInt8.ofBitVec).map Go.Extern.Stop.cell := by
  simp [bytesV, Go.Extern.Stop.cell, n8, UInt8.toNat]
theorem run_eqArr {ρ : Operand → Value} {o : Oper} {x y : Operand} {T ty : TypeId} {N : Nat} {l m : List (BitVec 8)} (ho : o.op = .binOp .eql T x y ty) (hT : Try.prog.underlying T = some (.array N 5)) (hg : Try.prog.eqGuardType Try.prog.depth T = false)
    (hl : l.length = N) (hm : m.length = N) (hx : ρ x = .agg (bytesV l).toArray) (hy : ρ y = .agg (bytesV m).toArray) (w : World) :
    (execOp ρ o).run Try.prog w = .ok (.value (.bool (decide (l = m)))) w := by
  have h := run_eql_bytes (P := Try.prog) w T 5 N hT Try.underlying5 (fun w => by kernel_rfl) (l.map UInt8.ofBitVec) (m.map UInt8.ofBitVec) (by simpa using hl) (by simpa using hm)
  rw [← bytesV_cell, ← bytesV_cell] at h
  have e : (l.map UInt8.ofBitVec == m.map UInt8.ofBitVec) = decide (l = m) := by
    rw [Bool.eq_iff_iff]
    simp only [beq_iff_eq, decide_eq_true_eq]
    exact List.map_inj_right (fun a b e => by simpa using congrArg UInt8.toBitVec e)
  rw [e] at h
  unfold execOp
  simp only [ho, hx, hy, Sem.run_bind, run_eqGuard_agg w .eql T x y _ _ hg, Result.andThen_ok, h, Sem.run_pure]
theorem run_loadArr {ρ : Operand → Value} {o : Oper} {x : Operand} {w : World} {T : TypeId} {N b off : Nat} {l : List (BitVec 8)} (ho : o.op = .load T x) (hx : ρ x = .pointer (some ⟨b, off, none⟩)) (hT : Try.prog.underlying T = some (.array N 5)) (hi : (Try.prog.info? T).map (·.size) = some (bytesV l).length) (hr : w.rangeAt b off (bytesV l)) :
    (execOp ρ o).run Try.prog w = .ok (.value (.agg (bytesV l).toArray)) w := by
  have h := run_loadAt_mid (P := Try.prog) w b off T (bytesV l) _ hr hT rfl hi
  unfold execOp
  simp only [ho, hx, Sem.run_bind, h, Result.andThen_ok, Sem.run_pure]
end Go.Proofs.Ytegepjdfnjanhaa

/-
  Steps of region_phase ahead of the store that ends what is read early.
-/
namespace Go.Proofs.Ytegepjdfnjanhaa
open Go.RowKit Go.Proofs.ShaWords
section
variable {P : Program} {ops : Array Oper} {Q : Exit → Act → World → Prop} {S E : World → Prop} {r : List (Nat × Met)} {i : Nat} {o : Oper} {d : Option Tmp} {v : Value} {a : Act} {w w' : World}
theorem mb_before (ho : ops[i]? = some o) (hw : Region.wanted o (yielded ops a.tmps) = true)
    (h : o.wp P a w (fun a' w' => (S w' ∧ E w') ∧ wpE P ops Q S E r a' w') Q) : wpE P ops Q S E ((i, .before) :: r) a w := by
  show wpOp P ops Q i _ a w
  unfold wpOp
  rw [ho]
  show if Region.wanted o (yielded ops a.tmps) = true then _ else _
  rw [if_pos hw]
  exact .inl h
theorem mb_value (ho : ops[i]? = some o) (hd : o.dst = d) (hw : Region.wanted o (yielded ops a.tmps) = true) (hr : (execOp a.eval o).run P w = .ok (.value v) w')
    (h : (S w' ∧ E w') ∧ wpE P ops Q S E r (a.put d v) w') : wpE P ops Q S E ((i, .before) :: r) a w := by
  refine mb_before ho hw ?_
  unfold Oper.wp
  rw [hr, Oper.upon_value, hd]
  exact h
theorem mb_enter {f : FuncId} {args : Array Value} {R : Ending → World → Prop} (ho : ops[i]? = some o) (hd : o.dst = d) (hw : Region.wanted o (yielded ops a.tmps) = true) (hr : (execOp a.eval o).run P w = .ok (.enter f args) w) (hc : Calls P f args w R)
    (h : ∀ e w', R e w' → ∃ v, e = .returned v ∧ (S w' ∧ E w') ∧ wpE P ops Q S E r (a.put d v) w') : wpE P ops Q S E ((i, .before) :: r) a w := by
  refine mb_before ho hw ?_
  unfold Oper.wp
  rw [hr, Oper.upon_enter]
  refine hc.mono ?_
  rintro e w' hR
  obtain ⟨v, rfl, hS, h⟩ := h e w' hR
  rw [hd]
  exact ⟨hS, h⟩
end
section
variable {ρ : Operand → Value} {o : Oper} {x y : Operand} {w : World}
theorem run_fieldT {T : TypeId} {f off b : Nat} (ho : o.op = .fieldAddr T x f) (hf : ∀ w, (Instr.fieldAt T (.pointer (some ⟨b, 0, none⟩)) f).run Try.prog w = .ok (.pointer (some ⟨b, off, none⟩)) w) (h : ρ x = .pointer (some ⟨b, 0, none⟩)) (w : World) :
    (execOp ρ o).run Try.prog w = .ok (.value (.pointer (some ⟨b, off, none⟩))) w := by
  unfold execOp; simp only [ho, h, Sem.run_bind, hf, Result.andThen_ok, Sem.run_pure]
end
end Go.Proofs.Ytegepjdfnjanhaa

/-
  Both readers are asked the same.
-/
namespace Go.Proofs.Ytegepjdfnjanhaa
open Go.RowKit Go.Proofs.ShaWords
def MdIn (lo : Nat) (w : World) (g : Nat) (s : RS) : Prop := lo ≤ g ∧ MdAt (fun k => lo ≤ k ∧ k < g) w g s
/-- The program's reader and the document's. -/
structure Two (lo1 lo2 g g2 : Nat) (s t : RS) (w : World) : Prop where
  r : RdIn lo1 w g s
  m : MdIn lo2 w g2 t
  lt : g < lo2
theorem Two.below {lo1 lo2 g g2 : Nat} {s t : RS} {w w' : World} (h : Two lo1 lo2 g g2 s t w) (hb : Below w.heap.size w w') : Two lo1 lo2 g g2 s t w' := ⟨h.r.below hb, ⟨h.m.1, h.m.2.below hb⟩, h.lt⟩
theorem Two.stepR {lo1 lo2 g g2 : Nat} {s t s' : RS} {w w' : World} (h : Two lo1 lo2 g g2 s t w) (hr : RdAt (fun k => lo1 ≤ k ∧ k < g) w' g s') (hst : Stays (fun x => x = g) w w') : Two lo1 lo2 g g2 s' t w' :=
  ⟨⟨h.r.1, hr⟩, ⟨h.m.1, h.m.2.past hst (by have := h.m.1; have := h.lt; omega) (fun d => by have := d.1; have := h.lt; omega)⟩, h.lt⟩
theorem Two.stepM {lo1 lo2 g g2 : Nat} {s t t' : RS} {w w' : World} (h : Two lo1 lo2 g g2 s t w) (hr : MdAt (fun k => lo2 ≤ k ∧ k < g2) w' g2 t') (hst : Stays (fun x => x = g2) w w') : Two lo1 lo2 g g2 s t' w' :=
  ⟨⟨h.r.1, h.r.2.past hst (by have := h.m.1; have := h.lt; omega) (fun d => by have := d.2; have := h.m.1; have := h.lt; omega)⟩, ⟨h.m.1, hr⟩, h.lt⟩
theorem Two.other {lo1 lo2 g g2 : Nat} {s t : RS} {w w' : World} {F : Nat → Prop} (h : Two lo1 lo2 g g2 s t w) (hst : Stays F w w') (hF : ∀ k, F k → g2 < k) : Two lo1 lo2 g g2 s t w' :=
  ⟨⟨h.r.1, h.r.2.keep hst (fun k f => by have := hF k f; have := h.m.1; have := h.lt; exact ⟨by omega, fun d => by have := d.2; omega⟩)⟩, ⟨h.m.1, h.m.2.keep hst (fun k f => by have := hF k f; exact ⟨by omega, fun d => by have := d.2; omega⟩)⟩, h.lt⟩
def StaysTwo (g g2 : Nat) (w w' : World) : Prop := Stays (fun k => k = g ∨ k = g2) w w'
theorem StaysTwo.refl (g g2 : Nat) (w : World) : StaysTwo g g2 w w := Stays.refl _ _
theorem StaysTwo.r {g g2 : Nat} {w w1 w2 : World} (h : StaysTwo g g2 w w1) (h2 : Stays (fun x => x = g) w1 w2) : StaysTwo g g2 w w2 := Stays.trans h h2 (fun _ e _ => Or.inl e)
theorem StaysTwo.m {g g2 : Nat} {w w1 w2 : World} (h : StaysTwo g g2 w w1) (h2 : Stays (fun x => x = g2) w1 w2) : StaysTwo g g2 w w2 := Stays.trans h h2 (fun _ e _ => Or.inr e)
theorem StaysTwo.b {g g2 : Nat} {w w1 w2 : World} (h : StaysTwo g g2 w w1) (h2 : Below w.heap.size w1 w2) : StaysTwo g g2 w w2 := Stays.trans h (Below.staysB h2) (fun k e hk => by omega)
theorem run_loadI {ρ : Operand → Value} {o : Oper} {x : Operand} {w : World} {a : Addr} {n : Int} (ho : o.op = .load 3 x) (hx : ρ x = .pointer (some a)) (hc : w.cell? a = some (.int .i64 n)) : (execOp ρ o).run Try.prog w = .ok (.value (.int .i64 n)) w := by
  obtain ⟨dst, op, ty', pos, after, guard⟩ := o
  simp only at ho
  subst ho
  go_simp
theorem run_eqlI {ρ : Operand → Value} {o : Oper} {x y : Operand} {n : Int} {T ty : TypeId} (ho : o.op = .binOp .eql T x y ty) (hx : ρ x = .int .i64 n) (hy : ρ y = .int .i64 n) (w : World) : (execOp ρ o).run Try.prog w = .ok (.value (.bool true)) w := by
  obtain ⟨dst, op, ty', pos, after, guard⟩ := o
  simp only at ho
  subst ho
  go_simp
theorem run_eqlS {ρ : Operand → Value} {o : Oper} {x y : Operand} {b : ByteArray} {ty : TypeId} (ho : o.op = .binOp .eql 9 x y ty) (hx : ρ x = .string b) (hy : ρ y = .string b) (w : World) : (execOp ρ o).run Try.prog w = .ok (.value (.bool true)) w := by
  obtain ⟨dst, op, ty', pos, after, guard⟩ := o
  simp only at ho
  subst ho
  go_simp
/-- A digest is the same as itself. -/
theorem eql_sum (l : List (BitVec 8)) (h : l.length = 32) (w : World) : (binOp .eql 24 (.agg (bytesV l).toArray) (.agg (bytesV l).toArray)).run Try.prog w = .ok (.bool true) w := by
  have h1 := run_eql_bytes (P := Try.prog) w 24 5 32 Try.underlying24 Try.underlying5 (fun w => by kernel_rfl) (l.map UInt8.ofBitVec) (l.map UInt8.ofBitVec) (by simpa using h) (by simpa using h)
  rw [← bytesV_cell] at h1
  simpa using h1
theorem blobV_short {s : RS} (h : s.Short) (most : Int) : (s.blobV most).length < 140737488355328 := Nat.lt_of_le_of_lt RS.got_le (RS.countS_short h most)
theorem Own.slLies {B n c : Nat} {w : World} {l : List (BitVec 8)} {q : Option Addr} (h : Own B w l (.slice q n c)) (hn : l.length = n) : Lies w q l := by
  obtain ⟨q', c', he, -, -, hl⟩ := h.sl hn
  cases he
  exact hl
/-- What came in, and the block that holds what is asked. -/
structure BothW (w0 : World) (kind most : Int) (lo1 lo2 g g2 : Nat) (s t : RS) (w : World) : Prop where
  two : Two lo1 lo2 g g2 s t w
  stays : StaysTwo g g2 w0 w
  blk : w.heap[w0.heap.size]? = some (.cells #[.int .i64 kind, .int .i64 most] 47 (0, 0))
theorem BothW.below {w0 : World} {kind most : Int} {lo1 lo2 g g2 : Nat} {s t : RS} {w w' : World} (h : BothW w0 kind most lo1 lo2 g g2 s t w) (hb : Below w.heap.size w w') : BothW w0 kind most lo1 lo2 g g2 s t w' :=
  ⟨h.two.below hb, h.stays.b (hb.mono h.stays.size), (hb.block _ (Array.getElem?_eq_some_iff.1 h.blk).1).trans h.blk⟩
theorem BothW.stepR {w0 : World} {kind most : Int} {lo1 lo2 g g2 : Nat} {s t s' : RS} {w w' : World} (h : BothW w0 kind most lo1 lo2 g g2 s t w) (hg : g < w0.heap.size) (hr : RdAt (fun k => lo1 ≤ k ∧ k < g) w' g s') (hst : Stays (fun x => x = g) w w') : BothW w0 kind most lo1 lo2 g g2 s' t w' :=
  ⟨h.two.stepR hr hst, h.stays.r hst, (hst.block _ (Array.getElem?_eq_some_iff.1 h.blk).1 (by omega)).trans h.blk⟩
theorem BothW.stepM {w0 : World} {kind most : Int} {lo1 lo2 g g2 : Nat} {s t t' : RS} {w w' : World} (h : BothW w0 kind most lo1 lo2 g g2 s t w) (hg : g2 < w0.heap.size) (hr : MdAt (fun k => lo2 ≤ k ∧ k < g2) w' g2 t') (hst : Stays (fun x => x = g2) w w') : BothW w0 kind most lo1 lo2 g g2 s t' w' :=
  ⟨h.two.stepM hr hst, h.stays.m hst, (hst.block _ (Array.getElem?_eq_some_iff.1 h.blk).1 (by omega)).trans h.blk⟩
theorem BothW.cell1 {w0 : World} {kind most : Int} {lo1 lo2 g g2 : Nat} {s t : RS} {w : World} (h : BothW w0 kind most lo1 lo2 g g2 s t w) : w.cell? ⟨w0.heap.size, 1, none⟩ = some (.int .i64 most) := by
  rw [cell_of_row w _ _ _ _ _ h.blk]; rfl
theorem BothW.cell0 {w0 : World} {kind most : Int} {lo1 lo2 g g2 : Nat} {s t : RS} {w : World} (h : BothW w0 kind most lo1 lo2 g g2 s t w) : w.cell? ⟨w0.heap.size, 0, none⟩ = some (.int .i64 kind) := by
  rw [cell_of_row w _ _ _ _ _ h.blk]; rfl
set_option maxRecDepth 100000 in
set_option maxHeartbeats 2000000 in
theorem both_any (lo1 lo2 g g2 : Nat) (s : RS) (kind most : Int) (w : World) (h : Two lo1 lo2 g g2 s s w) (hs : s.Short) :
    Calls Try.prog 29 #[.pointer (some ⟨g, 0, none⟩), .pointer (some ⟨g2, 0, none⟩), .agg #[.int .i64 kind, .int .i64 most]] w fun e w' => e = .returned (.bool true) ∧ ∃ s', Two lo1 lo2 g g2 s' s' w' ∧ s'.Short ∧ StaysTwo g g2 w w' := by
  have hg1 := h.r.lt
  have hg2 := h.m.2.lt
  have HS := Lib.hid hs
  have HW0 : Hid (BothW w kind most lo1 lo2 g g2 s s (w.alloc (.cells #[.int .i64 kind, .int .i64 most] 47))) := show BothW _ _ _ _ _ _ _ _ _ _ from
    ⟨h.below ((Below.refl _ _).alloc (Nat.le_refl _) _), (StaysTwo.refl _ _ _).b ((Below.refl _ _).alloc (Nat.le_refl _) _), heap_new_at rfl⟩
  clear h hs
  go_enter Try.func29, Try.ntmps29
  go_upto_region 1 with fail
  refine wp_gen (BothW w kind most lo1 lo2 g g2 s s) HW0.out ?_
  clear HW0
  intro w1 hw1
  have HW1 := Lib.hid hw1
  have c0 := hw1.cell0
  have c1 := hw1.cell1
  clear hw1
  go_upto_region 2 with (go_at_call 33; refine (pick_any kind 5 w1 (by omega) (by omega)).mono ?_; rintro e w2 ⟨r, hr, rfl, rfl⟩)
  obtain rfl | rfl | rfl | rfl | rfl : r = 0 ∨ r = 1 ∨ r = 2 ∨ r = 3 ∨ r = 4 := by omega
  · go_wp2_with (first
      | (go_at_call 36; refine (int_any _ g s w1 HW1.out.two.r.2).mono ?_; rintro e w3 ⟨rfl, hr, hst⟩; have HW3 := Lib.hid (HW1.out.stepR hg1 hr hst); clear hr hst)
      | (go_at_call 48; refine (intRR_any _ g2 s _ HW3.out.two.m.2 HS.out).mono ?_; rintro e w4 ⟨rfl, hr, hst⟩; have HW4 := Lib.hid (HW3.out.stepM hg2 hr hst); clear hr hst))
    go_ret
    exact ⟨rfl, _, HW4.out.two, RS.next_short HS.out 8, HW4.out.stays⟩
  · have heq := fun w' => eql_sum s.sumV (sumV_length s) w'
    generalize hX : (bytesV s.sumV).toArray = X at heq
    have HX := Lib.hid hX; clear hX
    go_wp2_with (first
      | (go_at_call 37; refine (sum_any _ g s w1 HW1.out.two.r.2).mono ?_; rintro e w3 ⟨rfl, hr, hst⟩; rw [HX.out]; have HW3 := Lib.hid (HW1.out.stepR hg1 hr hst); clear hr hst)
      | (go_at_call 49; refine (sumRR_any _ g2 s _ HW3.out.two.m.2 HS.out).mono ?_; rintro e w4 ⟨rfl, hr, hst⟩; rw [HX.out]; have HW4 := Lib.hid (HW3.out.stepM hg2 hr hst); clear hr hst))
    go_ret
    exact ⟨rfl, _, HW4.out.two, RS.next_short HS.out 32, HW4.out.stays⟩
  · go_upto_region 7 with fail
    have HR1 := Lib.hid (HW1.out.below (Below.drew0 w1))
    refine region_phase (fun w' => w'.cell? ⟨w.heap.size, 1, none⟩ = some (.int .i64 most)) (fun _ => True) 3 (HR1.out.cell1) trivial [(0, .free), (1, .free), (2, .free), (4, .free), (5, .free), (6, .free), (3, .behind), (7, .behind), (8, .free), (9, .free)] (by kernel_rfl) (by kernel_rfl) (by kernel_rfl) (by kernel_rfl) (fun ops hops A hA => ?_)
    have hsz : A.tmps.size = 61 := by rw [hA]; rfl
    have base0 : A.eval (.tmp 0) = .pointer (some ⟨g, 0, none⟩) := by rw [hA]; rfl
    have base1 : A.eval (.tmp 1) = .pointer (some ⟨g2, 0, none⟩) := by rw [hA]; rfl
    have base5 : A.eval (.tmp 5) = .pointer (some ⟨w.heap.size, 0, none⟩) := by rw [hA]; rfl
    have HAA := Lib.hid hA; clear hA
    obtain ⟨o0, po0, q0, d0, gd0⟩ : ∃ o, ops[0]? = some o ∧ o.op = .move (.tmp 0) ∧ o.dst = some 28 ∧ o.guard = none := ⟨_, by rw [hops]; rfl, rfl, rfl, rfl⟩
    obtain ⟨o1, po1, q1, d1, gd1⟩ : ∃ o, ops[1]? = some o ∧ o.op = .fieldAddr 47 (.tmp 5) 1 ∧ o.dst = some 29 ∧ o.guard = none := ⟨_, by rw [hops]; rfl, rfl, rfl, rfl⟩
    obtain ⟨o2, po2, q2, d2, gd2⟩ : ∃ o, ops[2]? = some o ∧ o.op = .load 3 (.tmp 29) ∧ o.dst = some 30 ∧ o.guard = none := ⟨_, by rw [hops]; rfl, rfl, rfl, rfl⟩
    obtain ⟨o3, po3, q3, d3, gd3⟩ : ∃ o, ops[3]? = some o ∧ o.op = .call { callee := .value (.func 38), args := #[.tmp 28, .tmp 30], argTypes := #[38, 3] } ∧ o.dst = some 31 ∧ o.guard = none := ⟨_, by rw [hops]; rfl, rfl, rfl, rfl⟩
    obtain ⟨o4, po4, q4, d4, gd4⟩ : ∃ o, ops[4]? = some o ∧ o.op = .move (.tmp 1) ∧ o.dst = some 32 ∧ o.guard = none := ⟨_, by rw [hops]; rfl, rfl, rfl, rfl⟩
    obtain ⟨o5, po5, q5, d5, gd5⟩ : ∃ o, ops[5]? = some o ∧ o.op = .fieldAddr 47 (.tmp 5) 1 ∧ o.dst = some 33 ∧ o.guard = none := ⟨_, by rw [hops]; rfl, rfl, rfl, rfl⟩
    obtain ⟨o6, po6, q6, d6, gd6⟩ : ∃ o, ops[6]? = some o ∧ o.op = .load 3 (.tmp 33) ∧ o.dst = some 34 ∧ o.guard = none := ⟨_, by rw [hops]; rfl, rfl, rfl, rfl⟩
    obtain ⟨o7, po7, q7, d7, gd7⟩ : ∃ o, ops[7]? = some o ∧ o.op = .call { callee := .value (.func 50), args := #[.tmp 32, .tmp 34], argTypes := #[40, 3] } ∧ o.dst = some 35 ∧ o.guard = none := ⟨_, by rw [hops]; rfl, rfl, rfl, rfl⟩
    obtain ⟨o8, po8, q8, d8, gd8⟩ : ∃ o, ops[8]? = some o ∧ o.op = .binOp .eql 3 (.tmp 31) (.tmp 35) 3 ∧ o.dst = some 36 ∧ o.guard = none := ⟨_, by rw [hops]; rfl, rfl, rfl, rfl⟩
    obtain ⟨o9, po9, q9, d9, gd9⟩ : ∃ o, ops[9]? = some o ∧ o.op = .assign (.tmp 36) ∧ o.dst = some 6 ∧ o.guard = none := ⟨_, by rw [hops]; rfl, rfl, rfl, rfl⟩
    clear hops
    refine met_free po0 d0 (wanted_of gd0) (fun w' h' => run_move q0 base0 w') ?_
    refine met_free po1 d1 (wanted_of gd1) (fun w' h' => run_fieldT (off := 1) q1 (fun _ => by kernel_rfl) ((eval_other _ 28 5 _ (by decide)).trans base5) w') ?_
    refine met_free po2 d2 (wanted_of gd2) (fun w' h' => run_loadI q2 (eval_same _ _ _ (by simp only [put_size, hsz]; decide)) h') ?_
    refine met_free po4 d4 (wanted_of gd4) (fun w' h' => run_move q4 ((eval_other _ 30 1 _ (by decide)).trans ((eval_other _ 29 1 _ (by decide)).trans ((eval_other _ 28 1 _ (by decide)).trans base1))) w') ?_
    refine met_free po5 d5 (wanted_of gd5) (fun w' h' => run_fieldT (off := 1) q5 (fun _ => by kernel_rfl) ((eval_other _ 32 5 _ (by decide)).trans ((eval_other _ 30 5 _ (by decide)).trans ((eval_other _ 29 5 _ (by decide)).trans ((eval_other _ 28 5 _ (by decide)).trans base5)))) w') ?_
    refine met_free po6 d6 (wanted_of gd6) (fun w' h' => run_loadI q6 (eval_same _ _ _ (by simp only [put_size, hsz]; decide)) h') ?_
    refine m_enter po3 d3 (wanted_of gd3) (run_callf2 q3 rfl ((eval_other _ 34 28 _ (by decide)).trans ((eval_other _ 33 28 _ (by decide)).trans ((eval_other _ 32 28 _ (by decide)).trans ((eval_other _ 30 28 _ (by decide)).trans ((eval_other _ 29 28 _ (by decide)).trans (eval_same _ _ _ (by rw [hsz]; decide))))))) ((eval_other _ 34 30 _ (by decide)).trans ((eval_other _ 33 30 _ (by decide)).trans ((eval_other _ 32 30 _ (by decide)).trans (eval_same _ _ _ (by simp only [put_size, hsz]; decide))))) Try.func38 (by kernel_rfl) _) (count_any _ g s most _ HR1.out.two.r.2) ?_
    rintro e w3 ⟨rfl, hr, hst⟩
    have HW3 := Lib.hid (HR1.out.stepR hg1 hr hst); clear hr hst
    refine ⟨_, rfl, HW3.out.cell1, ?_⟩
    refine m_enter po7 d7 (wanted_of gd7) (run_callf2 q7 rfl ((eval_other _ 31 32 _ (by decide)).trans ((eval_other _ 34 32 _ (by decide)).trans ((eval_other _ 33 32 _ (by decide)).trans (eval_same _ _ _ (by simp only [put_size, hsz]; decide))))) ((eval_other _ 31 34 _ (by decide)).trans (eval_same _ _ _ (by simp only [put_size, hsz]; decide))) Try.func50 (by kernel_rfl) _) (countRR_any _ g2 s most _ HW3.out.two.m.2 HS.out) ?_
    rintro e w4 ⟨rfl, hr, hst⟩
    have HW4 := Lib.hid (HW3.out.stepM hg2 hr hst); clear hr hst
    refine ⟨_, rfl, HW4.out.cell1, ?_⟩
    refine met_free po8 d8 (wanted_of gd8) (fun w' h' => run_eqlI q8 ((eval_other _ 35 31 _ (by decide)).trans (eval_same _ _ _ (by simp only [put_size, hsz]; decide))) (eval_same _ _ _ (by simp only [put_size, hsz]; decide)) w') ?_
    refine met_free po9 d9 (wanted_of gd9) (fun w' h' => run_assign q9 (eval_same _ _ _ (by simp only [put_size, hsz]; decide)) w') ?_
    show NoPanic _ .normal _ _
    refine NoPanic.normal ?_
    rw [HAA.out]
    go_frame
    clear HAA
    go_wp2_with fail
    go_ret
    exact ⟨rfl, _, HW4.out.two, RS.countS_short HS.out most, HW4.out.stays⟩
  · have HLN : Hid ((s.blobV most).length < 140737488355328) := show _ < _ from blobV_short HS.out most
    obtain ⟨n, hn⟩ : ∃ n, (s.blobV most).length = n := ⟨_, rfl⟩
    have hlt := HLN.out
    rw [hn] at hlt
    have HN := Lib.hid hn; clear hn
    go_upto_region 10 with (go_at_call 39; refine (blob_any _ g s most w1 HW1.out.two.r.2 HS.out).mono ?_; rintro e w3 ⟨v3, rfl, ho, hr, hst⟩; obtain ⟨q3, k3, rfl, -, -, hl3⟩ := ho.sl HN.out; have HO3 := Lib.hid ho; have HL3 := Lib.hid hl3; have HW3 := Lib.hid (HW1.out.stepR hg1 hr hst); have hs3 := HW1.out.stays.size; clear hr hst ho hl3)
    have d1 := HW3.out.cell1
    go_upto_region 11 with (first
      | (go_at_call 51; refine (blobRR_any _ g2 s most _ HW3.out.two.m.2 HS.out).mono ?_; rintro e w4 ⟨v4, rfl, ho, hr, hst⟩; obtain ⟨q4, k4, rfl, -, -, hl4⟩ := ho.sl HN.out; have HL4 := Lib.hid hl4; have HO4 := Lib.hid (ownsRow_stays HO3.out hst (fun k hk e => by have := (HO3.out.lt k hk).1; omega)); have HW4 := Lib.hid (HW3.out.stepM hg2 hr hst); clear hr hst ho hl4)
      | (go_at_call 20; refine (same_big (s.blobV most) n q3 q4 k3 k4 _ HN.out hlt (Own.slLies HO4.out HN.out) HL4.out).mono ?_; rintro e w5 ⟨rfl, hb⟩; have HW5 := Lib.hid (HW4.out.below hb); have HO5 := Lib.hid (Own.below HO4.out hb); clear hb))
    go_wp2_with (go_at_call 21; refine (spoil_big (s.blobV most) _ n k3 q3 _ HN.out (by omega) HO5.out).mono ?_; rintro e w6 ⟨rfl, hgr⟩; have HT6 := Lib.hid (HW5.out.two.other (grown_stays (F := fun k => w1.heap.size ≤ k) hgr (fun k e => (HO5.out.lt k e).1)) (fun k f => by omega)); have HS6 := Lib.hid (HW5.out.stays.b ((Below.refl _ _).grown hgr HW5.out.stays.size (fun k e => by have := (HO5.out.lt k e).1; omega))); clear hgr)
    go_ret
    exact ⟨rfl, _, HT6.out, RS.blobS_short HS.out most, HS6.out⟩
  · go_upto_region 13 with fail
    have HR1 := Lib.hid (HW1.out.below (Below.drew0 w1))
    refine region_phase (fun w' => w'.cell? ⟨w.heap.size, 1, none⟩ = some (.int .i64 most)) (fun _ => True) 3 (HR1.out.cell1) trivial [(0, .free), (1, .free), (2, .free), (4, .free), (5, .free), (6, .free), (3, .behind), (7, .behind), (8, .free), (9, .free)] (by kernel_rfl) (by kernel_rfl) (by kernel_rfl) (by kernel_rfl) (fun ops hops A hA => ?_)
    have hsz : A.tmps.size = 61 := by rw [hA]; rfl
    have base0 : A.eval (.tmp 0) = .pointer (some ⟨g, 0, none⟩) := by rw [hA]; rfl
    have base1 : A.eval (.tmp 1) = .pointer (some ⟨g2, 0, none⟩) := by rw [hA]; rfl
    have base5 : A.eval (.tmp 5) = .pointer (some ⟨w.heap.size, 0, none⟩) := by rw [hA]; rfl
    have HAA := Lib.hid hA; clear hA
    obtain ⟨o0, po0, q0, d0, gd0⟩ : ∃ o, ops[0]? = some o ∧ o.op = .move (.tmp 0) ∧ o.dst = some 52 ∧ o.guard = none := ⟨_, by rw [hops]; rfl, rfl, rfl, rfl⟩
    obtain ⟨o1, po1, q1, d1, gd1⟩ : ∃ o, ops[1]? = some o ∧ o.op = .fieldAddr 47 (.tmp 5) 1 ∧ o.dst = some 53 ∧ o.guard = none := ⟨_, by rw [hops]; rfl, rfl, rfl, rfl⟩
    obtain ⟨o2, po2, q2, d2, gd2⟩ : ∃ o, ops[2]? = some o ∧ o.op = .load 3 (.tmp 53) ∧ o.dst = some 54 ∧ o.guard = none := ⟨_, by rw [hops]; rfl, rfl, rfl, rfl⟩
    obtain ⟨o3, po3, q3, d3, gd3⟩ : ∃ o, ops[3]? = some o ∧ o.op = .call { callee := .value (.func 40), args := #[.tmp 52, .tmp 54], argTypes := #[38, 3] } ∧ o.dst = some 55 ∧ o.guard = none := ⟨_, by rw [hops]; rfl, rfl, rfl, rfl⟩
    obtain ⟨o4, po4, q4, d4, gd4⟩ : ∃ o, ops[4]? = some o ∧ o.op = .move (.tmp 1) ∧ o.dst = some 56 ∧ o.guard = none := ⟨_, by rw [hops]; rfl, rfl, rfl, rfl⟩
    obtain ⟨o5, po5, q5, d5, gd5⟩ : ∃ o, ops[5]? = some o ∧ o.op = .fieldAddr 47 (.tmp 5) 1 ∧ o.dst = some 57 ∧ o.guard = none := ⟨_, by rw [hops]; rfl, rfl, rfl, rfl⟩
    obtain ⟨o6, po6, q6, d6, gd6⟩ : ∃ o, ops[6]? = some o ∧ o.op = .load 3 (.tmp 57) ∧ o.dst = some 58 ∧ o.guard = none := ⟨_, by rw [hops]; rfl, rfl, rfl, rfl⟩
    obtain ⟨o7, po7, q7, d7, gd7⟩ : ∃ o, ops[7]? = some o ∧ o.op = .call { callee := .value (.func 52), args := #[.tmp 56, .tmp 58], argTypes := #[40, 3] } ∧ o.dst = some 59 ∧ o.guard = none := ⟨_, by rw [hops]; rfl, rfl, rfl, rfl⟩
    obtain ⟨o8, po8, q8, d8, gd8⟩ : ∃ o, ops[8]? = some o ∧ o.op = .binOp .eql 9 (.tmp 55) (.tmp 59) 9 ∧ o.dst = some 60 ∧ o.guard = none := ⟨_, by rw [hops]; rfl, rfl, rfl, rfl⟩
    obtain ⟨o9, po9, q9, d9, gd9⟩ : ∃ o, ops[9]? = some o ∧ o.op = .assign (.tmp 60) ∧ o.dst = some 6 ∧ o.guard = none := ⟨_, by rw [hops]; rfl, rfl, rfl, rfl⟩
    clear hops
    refine met_free po0 d0 (wanted_of gd0) (fun w' h' => run_move q0 base0 w') ?_
    refine met_free po1 d1 (wanted_of gd1) (fun w' h' => run_fieldT (off := 1) q1 (fun _ => by kernel_rfl) ((eval_other _ 52 5 _ (by decide)).trans base5) w') ?_
    refine met_free po2 d2 (wanted_of gd2) (fun w' h' => run_loadI q2 (eval_same _ _ _ (by simp only [put_size, hsz]; decide)) h') ?_
    refine met_free po4 d4 (wanted_of gd4) (fun w' h' => run_move q4 ((eval_other _ 54 1 _ (by decide)).trans ((eval_other _ 53 1 _ (by decide)).trans ((eval_other _ 52 1 _ (by decide)).trans base1))) w') ?_
    refine met_free po5 d5 (wanted_of gd5) (fun w' h' => run_fieldT (off := 1) q5 (fun _ => by kernel_rfl) ((eval_other _ 56 5 _ (by decide)).trans ((eval_other _ 54 5 _ (by decide)).trans ((eval_other _ 53 5 _ (by decide)).trans ((eval_other _ 52 5 _ (by decide)).trans base5)))) w') ?_
    refine met_free po6 d6 (wanted_of gd6) (fun w' h' => run_loadI q6 (eval_same _ _ _ (by simp only [put_size, hsz]; decide)) h') ?_
    refine m_enter po3 d3 (wanted_of gd3) (run_callf2 q3 rfl ((eval_other _ 58 52 _ (by decide)).trans ((eval_other _ 57 52 _ (by decide)).trans ((eval_other _ 56 52 _ (by decide)).trans ((eval_other _ 54 52 _ (by decide)).trans ((eval_other _ 53 52 _ (by decide)).trans (eval_same _ _ _ (by rw [hsz]; decide))))))) ((eval_other _ 58 54 _ (by decide)).trans ((eval_other _ 57 54 _ (by decide)).trans ((eval_other _ 56 54 _ (by decide)).trans (eval_same _ _ _ (by simp only [put_size, hsz]; decide))))) Try.func40 (by kernel_rfl) _) (text_any _ g s most _ HR1.out.two.r.2) ?_
    rintro e w3 ⟨rfl, hr, hst⟩
    have HW3 := Lib.hid (HR1.out.stepR hg1 hr hst); clear hr hst
    refine ⟨_, rfl, HW3.out.cell1, ?_⟩
    refine m_enter po7 d7 (wanted_of gd7) (run_callf2 q7 rfl ((eval_other _ 55 56 _ (by decide)).trans ((eval_other _ 58 56 _ (by decide)).trans ((eval_other _ 57 56 _ (by decide)).trans (eval_same _ _ _ (by simp only [put_size, hsz]; decide))))) ((eval_other _ 55 58 _ (by decide)).trans (eval_same _ _ _ (by simp only [put_size, hsz]; decide))) Try.func52 (by kernel_rfl) _) (textRR_any _ g2 s most _ HW3.out.two.m.2 HS.out) ?_
    rintro e w4 ⟨rfl, hr, hst⟩
    have HW4 := Lib.hid (HW3.out.stepM hg2 hr hst); clear hr hst
    refine ⟨_, rfl, HW4.out.cell1, ?_⟩
    refine met_free po8 d8 (wanted_of gd8) (fun w' h' => run_eqlS q8 ((eval_other _ 59 55 _ (by decide)).trans (eval_same _ _ _ (by simp only [put_size, hsz]; decide))) (eval_same _ _ _ (by simp only [put_size, hsz]; decide)) w') ?_
    refine met_free po9 d9 (wanted_of gd9) (fun w' h' => run_assign q9 (eval_same _ _ _ (by simp only [put_size, hsz]; decide)) w') ?_
    show NoPanic _ .normal _ _
    refine NoPanic.normal ?_
    rw [HAA.out]
    go_frame
    clear HAA
    go_wp2_with fail
    go_ret
    exact ⟨rfl, _, HW4.out.two, RS.blobS_short HS.out most, HW4.out.stays⟩
end Go.Proofs.Ytegepjdfnjanhaa

/-
  PackReads' walk.
-/
namespace Go.Proofs.Ytegepjdfnjanhaa
open Go.RowKit Go.Proofs.ShaWords
theorem run_loadAsk {ρ : Operand → Value} {o : Oper} {x : Operand} {w : World} {b off : Nat} {k m : Int} (ho : o.op = .load 47 x) (hx : ρ x = .pointer (some ⟨b, off, none⟩)) (hr : w.rangeAt b off [.int .i64 k, .int .i64 m]) :
    (execOp ρ o).run Try.prog w = .ok (.value (.agg #[.int .i64 k, .int .i64 m])) w := by
  have h := run_loadAt_mid (P := Try.prog) w b off 47 [.int .i64 k, .int .i64 m] _ hr Try.underlying47 rfl (by kernel_rfl)
  unfold execOp
  simp only [ho, hx, Sem.run_bind, h, Result.andThen_ok, Sem.run_pure]
theorem Two.low {lo1 lo2 g g2 : Nat} {s t : RS} {w w' : World} {F : Nat → Prop} (h : Two lo1 lo2 g g2 s t w) (hst : Stays F w w') (hF : ∀ k, F k → k < lo1) : Two lo1 lo2 g g2 s t w' :=
  ⟨⟨h.r.1, h.r.2.keep hst (fun k f => by have := hF k f; have := h.r.1; exact ⟨by omega, fun d => by have := d.1; omega⟩)⟩, ⟨h.m.1, h.m.2.keep hst (fun k f => by have := hF k f; have := h.r.1; have := h.lt; have := h.m.1; exact ⟨by omega, fun d => by have := d.1; omega⟩)⟩, h.lt⟩
/-- What the loop of PackReads goes on with. -/
structure ReadsW (W : World) (lo1 lo2 g g2 : Nat) (wr : World) : Prop where
  below : Below W.heap.size W wr
  two : ∃ s : RS, Two lo1 lo2 g g2 s s wr ∧ s.Short
  base : W.heap.size ≤ lo1
/-- Things of so many cells, one behind the other. -/
theorem kept_range {W w : World} {b off : Nat} {cs : List Value} (h : W.rangeAt b off cs) (hb : Below W.heap.size W w) : w.rangeAt b off cs := range_keep h hb
set_option maxRecDepth 100000 in
set_option maxHeartbeats 2000000 in
theorem packReads_any (xs : List (BitVec 8)) (os : List AskM) (len0 len1 cap0 cap1 : Nat) (a0 a1 : Option Addr) (W : World) (hx : xs.length = len0) (_hc0 : len0 ≤ cap0) (hL : Lies W a0 xs) (ho : os.length = len1)
    (hO : os = [] ∨ ∃ b off, a1 = some ⟨b, off, none⟩ ∧ ∀ k (h : k < os.length), W.rangeAt b (off + k * 2) os[k].cells) :
    Calls Try.prog 4 #[.slice a0 len0 cap0, .slice a1 len1 cap1] W fun e W' => e = .returned (.bool true) ∧ Below W.heap.size W W' := by
  have HL := Lib.hid hL; clear hL
  have HX := Lib.hid hx; clear hx
  have HO := Lib.hid hO; clear hO
  have HON := Lib.hid ho; clear ho
  go_enter Try.func4, Try.ntmps4
  by_cases hbig : len0 > 4096
  · have q0 : (len0 : Int) > 4096 := by omega
    go_wp2_with (go_at_call 10; refine (works7_any W).mono ?_; rintro e w1 ⟨rfl, hb⟩; have HB := Lib.hid hb; clear hb)
    go_ret
    exact ⟨rfl, HB.out⟩
  have q0 : ¬ (len0 : Int) > 4096 := by omega
  have HXM : Hid ((xs ++ marks 5).length = len0 + 5) := show _ = _ by rw [List.length_append, marks_length, HX.out]
  have HC1 := Lib.hid (lent_bigL xs len0 a0 cap0 W HX.out (by omega) HL.out)
  go_upto_region 4 with (go_at_call 11; refine HC1.out.mono ?_; rintro e w1 ⟨v1, rfl, ho, hb⟩; obtain ⟨q1, k1, rfl, hk1, -, hl⟩ := ho.sl HXM.out; have HO1 := Lib.hid ho; have HL1 := Lib.hid hl; have HB1 := Lib.hid hb; clear ho hl hb)
  clear HC1
  have z1 : (len0 : Int) ≤ (k1 : Int) := by omega
  have HLF : Hid (Lies w1 q1 xs) := show Lies _ _ _ by
    have h := lies_takeB HL1.out len0
    rwa [List.take_append_of_le_length (by rw [HX.out]; omega), List.take_of_length_le (by rw [HX.out]; omega)] at h
  have HC1 := Lib.hid (readIn xs len0 q1 k1 w1 HX.out (by omega) HLF.out)
  go_upto_region 5 with (go_at_call 23; refine HC1.out.mono ?_; rintro e w2 ⟨g, rfl, hr, hb⟩; have HR2 := Lib.hid hr; have HB2 := Lib.hid hb; clear hr hb)
  clear HC1
  have hg2 := HR2.out.lt
  have HC1 := Lib.hid (readR_any xs len0 a0 cap0 w2 HX.out (by omega) ((HL.out.below HB1.out).below (HB2.out.mono (Nat.le_refl _))))
  go_upto_region 6 with (go_at_call 24; refine HC1.out.mono ?_; rintro e w3 ⟨g2, rfl, hlo, hm, hb⟩; have HM3 := Lib.hid hm; have hlo2 := hlo; have HB3 := Lib.hid hb; clear hlo hm hb)
  clear HC1
  have HT3 : Hid (Two w1.heap.size w2.heap.size g g2 ⟨xs, 0⟩ ⟨xs, 0⟩ w3) := show Two _ _ _ _ _ _ _ from ⟨HR2.out.below HB3.out, ⟨hlo2, HM3.out⟩, hg2⟩
  have HB13 : Hid (Below w1.heap.size w1 w3) := show Below _ _ _ from HB2.out.trans (HB3.out.mono HB2.out.size)
  have HO3 := Lib.hid (Own.below HO1.out HB13.out)
  have HK := Lib.hid (kept_big xs len0 (len0 + 5) q1 a0 k1 cap0 w3 HX.out (by omega) (by omega) (by omega) hk1 (HL1.out.below HB13.out) ((HL.out.below HB1.out).below HB13.out))
  have HB03 : Hid (Below W.heap.size W w3) := show Below _ _ _ from HB1.out.trans (HB13.out.mono HB1.out.size)
  have hw01 := HB1.out.size
  have HLT : Hid (∀ k, (Value.slice q1 (len0 + 5) k1).ownBlock = some k → W.heap.size ≤ k ∧ k < w1.heap.size) := show ∀ k, _ → _ from fun k hk => HO1.out.lt k hk
  clear HR2 HM3 HB2 HB3 HO1 HL1 HLF HB13 hlo2 hg2 z1 HL
  go_upto_region 9 with (first
    | (go_at_call 22; refine HK.out.mono ?_; rintro e w4 ⟨rfl, hb⟩; have HT4 := Lib.hid (HT3.out.below hb); have HO4 := Lib.hid (Own.below HO3.out hb); have HB4 := Lib.hid (HB03.out.trans (hb.mono HB03.out.size)); clear hb)
    | (go_at_call 21; refine (spoil_big (xs ++ marks 5) _ (len0 + 5) k1 q1 _ HXM.out (by omega) HO4.out).mono ?_; rintro e w5 ⟨rfl, hgr⟩; have HG5 := Lib.hid hgr; clear hgr))
  have hT5 : ReadsW W w1.heap.size w2.heap.size g g2 w5 :=
    ⟨HB4.out.grown HG5.out (HB4.out.size) (fun k hk => (HLT.out k hk).1), ⟨_, HT4.out.low (F := fun k => k < w1.heap.size) (grown_stays HG5.out (fun k hk => (HLT.out k hk).2)) (fun k f => f), show xs.length < _ by rw [HX.out]; omega⟩, hw01⟩
  have HT5 := Lib.hid hT5
  clear hT5 HT3 HO3 HK HB03 HT4 HO4 HB4 HG5 HLT hw01 hk1 HX HXM HB1
  generalize w1.heap.size = lo1 at *
  generalize w2.heap.size = lo2 at *
  have HWK : Hid (∀ w' : World, Below W.heap.size W w' → Calls Try.prog 10 #[] w' fun e w'' => e = .returned (.bool true) ∧ Below W.heap.size W w'') := show ∀ _, _ from fun w' h => (works7_any w').mono fun e w'' ⟨h1, h2⟩ => ⟨h1, h.trans (h2.mono h.size)⟩
  go_wp2_with fail
  go_loopw [8] (fun i wr => ∃ k : Nat, k ≤ len1 ∧ k ≤ 80 ∧ i = .int .i64 (k : Int) ∧ ReadsW W lo1 lo2 g g2 wr) (fun i _ => len1 - (intOf i).toNat)
  case atStart => exact ⟨0, by omega, by omega, rfl, HT5.out⟩
  case round =>
    clear HT5
    obtain ⟨k, hk1, hk2, rfl, hw⟩ := hrel
    obtain ⟨hb, ⟨s, ht, hsh⟩, hbase⟩ := hw
    by_cases hlt : k < len1 ∧ k < 80
    · obtain ⟨hl1, hl2⟩ := hlt
      have q1 : (k : Int) < (len1 : Int) := by omega
      have q2 : (k : Int) < 80 := by omega
      have hko : k < os.length := by rw [HON.out]; exact hl1
      rcases HO.out with h0 | ⟨b, off, rfl, hr⟩
      · exfalso; rw [h0] at hko; simp at hko
      have hrk := hr k hko
      clear hr
      obtain ⟨kd, ms, he⟩ : ∃ kd ms, os[k].cells = [.int .i64 kd, .int .i64 ms] := ⟨_, _, rfl⟩
      rw [he] at hrk
      have hrW := hrk
      clear hrk he
      have HRW := Lib.hid hrW; clear hrW
      have HB := Lib.hid hb; clear hb
      have HSH := Lib.hid hsh; clear hsh
      have HT := Lib.hid ht; clear ht
      have HL1 := Lib.hid (left_any _ g s wr HT.out.r.2)
      have HL2 := Lib.hid (leftR_any _ g2 s wr HT.out.m.2)
      generalize hn : s.bs.length = n at HL1 HL2
      clear hn
      go_wp2_with fail
      refine HL1.out.mono ?_
      rintro e w6 ⟨rfl, rfl⟩
      go_wp2_with fail
      refine HL2.out.mono ?_
      rintro e w7 ⟨rfl, hb⟩
      have HT7 := Lib.hid (HT.out.below hb)
      have HB7 := Lib.hid (HB.out.trans (hb.mono HB.out.size))
      clear hb HL1 HL2 HT HB
      have HL1 := Lib.hid (end_any _ g s w7 HT7.out.r.2)
      have HL2 := Lib.hid (endR_any _ g2 s w7 HT7.out.m.2)
      generalize hn : s.endV = n2 at HL1 HL2
      clear hn
      go_wp2_with fail
      refine HL1.out.mono ?_
      rintro e w8 ⟨rfl, rfl⟩
      go_wp2_with fail
      refine HL2.out.mono ?_
      rintro e w9 ⟨rfl, hb⟩
      have HT9 := Lib.hid (HT7.out.below hb)
      have HB9 := Lib.hid (HB7.out.trans (hb.mono HB7.out.size))
      clear hb HL1 HL2 HT7 HB7
      have HR9 := Lib.hid (range_keep HRW.out HB9.out)
      go_wp2_with (refine wpList_run (by rfl) (run_loadAsk rfl rfl HR9.out) ?_)
      refine (both_any lo1 lo2 g g2 s kd ms w9 HT9.out HSH.out).mono ?_
      rintro e w10 ⟨rfl, s', ht, hsh, hst⟩
      have HTA := Lib.hid ht
      have HSA := Lib.hid hsh
      have HBA := Lib.hid (HB9.out.trans (Stays.below hst (B := W.heap.size) (fun x e => by have := HT9.out.r.1; have := HT9.out.lt; have := HT9.out.m.1; omega) HB9.out.size))
      clear ht hsh hst HR9 HT9 HB9
      have HL1 := Lib.hid (bad_any _ g s' w10 HTA.out.r.2)
      have HL2 := Lib.hid (badR_any _ g2 s' w10 HTA.out.m.2)
      generalize decide (s'.e ≠ 0) = bd at HL1 HL2
      go_wp2_with fail
      refine HL1.out.mono ?_
      rintro e w11 ⟨rfl, rfl⟩
      go_wp2_with fail
      refine HL2.out.mono ?_
      rintro e w12 ⟨rfl, rfl⟩
      go_wp2_with fail
      go_roundw
      case rel => exact ⟨k + 1, by omega, by omega, by go_num, ⟨HBA.out, ⟨s', HTA.out, HSA.out⟩, hbase⟩⟩
      case measure => simp [intOf]; omega
    · have HB := Lib.hid hb; clear hb
      have HT := Lib.hid ht; clear ht
      have HL1 := Lib.hid (left_any _ g s wr HT.out.r.2)
      have HL2 := Lib.hid (leftR_any _ g2 s wr HT.out.m.2)
      generalize hn : s.bs.length = n at HL1 HL2
      clear hn hsh
      have HNN : Hid (k = len1 ∨ k = 80) := show _ ∨ _ by omega
      have q2 : ¬ ((k : Int) < (len1 : Int) ∧ (k : Int) < 80) := by omega
      by_cases hk : (k : Int) < (len1 : Int)
      · have q3 : ¬ (k : Int) < 80 := fun h => q2 ⟨hk, h⟩
        go_wp2_with fail
        refine HL1.out.mono ?_
        rintro e w6 ⟨rfl, rfl⟩
        go_wp2_with fail
        refine HL2.out.mono ?_
        rintro e w7 ⟨rfl, hb⟩
        have HT7 := Lib.hid (HT.out.below hb)
        have HB7 := Lib.hid (HB.out.trans (hb.mono HB.out.size))
        clear hb HL1 HL2 HT HB
        have HL1 := Lib.hid (end_any _ g s w7 HT7.out.r.2)
        have HL2 := Lib.hid (endR_any _ g2 s w7 HT7.out.m.2)
        generalize hn : s.endV = n2 at HL1 HL2
        clear hn
        go_wp2_with fail
        refine HL1.out.mono ?_
        rintro e w8 ⟨rfl, rfl⟩
        go_wp2_with fail
        refine HL2.out.mono ?_
        rintro e w9 ⟨rfl, hb⟩
        have HB9 := Lib.hid (HB7.out.trans (hb.mono HB7.out.size))
        clear hb HL1 HL2 HT7 HB7
        go_wp2_with fail
        refine (HWK.out w9 HB9.out).mono ?_
        rintro e w10 ⟨rfl, hb⟩
        have HBZ := Lib.hid hb
        clear hb
        go_wp2_with fail
        go_ret
        exact ⟨rfl, HBZ.out⟩
      · have q3 : ¬ (k : Int) < (len1 : Int) := hk
        go_wp2_with fail
        refine HL1.out.mono ?_
        rintro e w6 ⟨rfl, rfl⟩
        go_wp2_with fail
        refine HL2.out.mono ?_
        rintro e w7 ⟨rfl, hb⟩
        have HT7 := Lib.hid (HT.out.below hb)
        have HB7 := Lib.hid (HB.out.trans (hb.mono HB.out.size))
        clear hb HL1 HL2 HT HB
        have HL1 := Lib.hid (end_any _ g s w7 HT7.out.r.2)
        have HL2 := Lib.hid (endR_any _ g2 s w7 HT7.out.m.2)
        generalize hn : s.endV = n2 at HL1 HL2
        clear hn
        go_wp2_with fail
        refine HL1.out.mono ?_
        rintro e w8 ⟨rfl, rfl⟩
        go_wp2_with fail
        refine HL2.out.mono ?_
        rintro e w9 ⟨rfl, hb⟩
        have HB9 := Lib.hid (HB7.out.trans (hb.mono HB7.out.size))
        clear hb HL1 HL2 HT7 HB7
        go_wp2_with fail
        refine (HWK.out w9 HB9.out).mono ?_
        rintro e w10 ⟨rfl, hb⟩
        have HBZ := Lib.hid hb
        clear hb
        go_wp2_with fail
        go_ret
        exact ⟨rfl, HBZ.out⟩
end Go.Proofs.Ytegepjdfnjanhaa

/-
  PackReads, for any bytes and anything that is asked: the law returns true, and what came in reads afterwards as it read before. Without any condition.
-/
namespace Go.Proofs.Ytegepjdfnjanhaa
open Go.ChangeShapes Go.WideShapes Go.ChangeAt Go.RowKit Go.Proofs.ShaWords

set_option maxRecDepth 100000 in
theorem packReads_lifted (os : Os) (started : os.Started) (H : Type) (enc : TypeId × Value → H) :
    ReturnsInHanded {} Try.checked os 4 .any (Rows.packReadsSpec.pre6 enc Try.prog Try.f4 Rows.packReadsRow.domain false)
      (Rows.packReadsSpec.post enc Try.prog Try.f4 false true false false) := by
  refine returnsInHanded_of_change_sized (C := Try.checked) own started (by kernel_rfl) Try.func4
    (ChangeSpec.witness6 (enc := enc) (C := Try.checked) false ⟨#[], #[.slice none 0 0, .slice none 0 0], []⟩ 8 (by kernel_rfl) (by kernel_rfl) (by kernel_rfl) (by kernel_rfl)) ?_
  intro W base args ds gs before hval0 hW _ hsz _
  have hW' := hW
  obtain ⟨p, q, hA0, hV, rfl, hfz, hnd⟩ := hW
  have hA : DataW.TrodAll enc Try.prog W 0 (fun _ => true) true Try.f4.params.toList args.toList ds p := hA0
  have hval : ∀ (j : Nat) t v, Try.f4.params[j]? = some t → args[j]? = some v → Value.okWide Try.prog W .any base t v := hval0
  have hsz2 : (DataW.weightsEach Try.prog (Try.f4.params.toList ++ Rows.packReadsSpec.plain.varTypes Try.prog) (ds ++ gs)).all (· ≤ reachBytes) = true := hsz
  rw [Try.params4] at hA hval hsz2
  obtain ⟨v0, vs0, d0, ds0, p0, q0, hargs, rfl, rfl, h0, r0⟩ := trodAll_cons hA
  obtain ⟨v1, vs1, d1, ds1, p1, q1, rfl, rfl, rfl, h1, r1⟩ := trodAll_cons r0
  obtain ⟨rfl, rfl, rfl⟩ := trodAll_nil r1
  obtain rfl : args = #[v0, v1] := by cases args; simp_all
  obtain ⟨rfl, rfl⟩ := trodVars_none hV
  have hb5 : Try.prog.bytesOf 5 = 1 := by kernel_rfl
  obtain ⟨a0, len0, cap0, rfl⟩ := okWide_slice Try.underlying22 (hval 0 22 v0 rfl rfl)
  have k0 := h0
  have lt0 : ∀ x ∈ p0, x.block < W.heap.size := by obtain ⟨m, hm⟩ := k0; exact DataW.trod_lt m _ _ _ hm
  obtain ⟨f0, hf0⟩ := h0
  obtain ⟨xs0, hx0a, hx0b, hx0c, hx0d⟩ := open_bytes hf0
  have hc0 : cap0 ≤ 140737488351232 := by
    rcases hx0d with ⟨_, h⟩ | ⟨e, sp, he, hl⟩
    · omega
    · have h := sized_slice hsz2 (j := 0) (t := 22) (elems := e) (spare := sp) rfl (by rw [← he]; rfl) Try.underlying22
      rw [hb5] at h; unfold reachBytes at h; omega
  obtain ⟨a1, len1, cap1, rfl⟩ := okWide_slice Try.underlying37 (hval 1 37 v1 rfl rfl)
  have k1 := h1
  have lt1 : ∀ x ∈ p1, x.block < W.heap.size := by obtain ⟨m, hm⟩ := k1; exact DataW.trod_lt m _ _ _ hm
  obtain ⟨f1, hf1⟩ := h1
  obtain ⟨ps1, hx1a, hx1b, hx1c, hx1d⟩ := open_asks hf1
  clear hA0 hval0
  refine (packReads_any xs0 ps1 len0 len1 cap0 cap1 a0 a1 W hx0a (by omega) hx0c hx1a hx1c).mono fun e W' ⟨he, bel⟩ => ?_
  subst he
  exact ⟨_, rfl, _, _, _, [], _, [], hW', trodAll_mk1 (shut_bool Try.underlying4 _), (trodAll_cons_mk (Below.trod laidOut (by kernel_rfl) (of_decide_eq_true (by kernel_rfl)) k0 bel lt0) (trodAll_cons_mk (Below.trod laidOut (by kernel_rfl) (of_decide_eq_true (by kernel_rfl)) k1 bel lt1) trodAll_mk0)), rfl, bel.frame _, fun h => by cases h⟩

theorem packReads_holds : Rows.PackReadsSaid :=
  OpenClaim.holds_of_wide 4 Try.f4 rfl rfl rfl rfl rfl rfl rfl ⟨rfl, rfl, rfl, rfl, rfl⟩ rfl rfl rfl rfl rfl (by kernel_rfl) Try.func4 (by kernel_rfl)
    (of_decide_eq_true (by kernel_rfl)) (by unfold Func.isWrapper; first | (rw [if_pos (by decide +kernel)]; kernel_rfl) | (rw [if_neg (by decide +kernel)]; exact ⟨rfl, rfl⟩))
    (fun os started H enc _ => packReads_lifted os started H enc)

#print axioms packReads_holds
end Go.Proofs.Ytegepjdfnjanhaa
