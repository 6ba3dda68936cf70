/-
  What other texts lean on: PkMany, PkBoth, PkReads, PkLaid, PkRead, PkReadPure, PkBack, PkCut.
-/
import Derived.Test.YtadlpidhemjkgaaPkA
import Derived.Test.YtadlpidhemjkgaaPkW
import Derived.Deep.CutRange
/-
  PackMany's walk.
-/
namespace Go.Proofs.Ytadlpidhemjkgaa
open Go.RowKit Go.Proofs.ShaWords
/-- A reader whose bytes lie between lo and its own block. -/
def RdIn (lo : Nat) (w : World) (g : Nat) (s : RS) : Prop := lo ≤ g ∧ RdAt (fun k => lo ≤ k ∧ k < g) w g s
theorem RdIn.below {lo : Nat} {w w' : World} {g : Nat} {s : RS} (h : RdIn lo w g s) (hb : Below w.heap.size w w') : RdIn lo w' g s := ⟨h.1, h.2.below hb⟩
theorem RdIn.past {lo : Nat} {w w' : World} {g k : Nat} {s : RS} (h : RdIn lo w g s) (hk : Stays (fun x => x = k) w w') (h1 : k < lo ∨ g < k) : RdIn lo w' g s := ⟨h.1, h.2.past hk (by have := h.1; omega) (fun d => by have := d.1; have := d.2; omega)⟩
theorem RdIn.lt {lo : Nat} {w : World} {g : Nat} {s : RS} (h : RdIn lo w g s) : g < w.heap.size := h.2.lt
/-- A reader's block holds no byte. -/
theorem RdAt.noByte {D : Nat → Prop} {w : World} {g : Nat} {s : RS} (h : RdAt D w g s) (off : Nat) (x : BitVec 8) : w.cell? ⟨g, off, none⟩ ≠ some (.int .u8 (n8 x)) := by
  obtain ⟨q, c, h1, -⟩ := h.cell0
  rw [cell_of_row w g off _ _ _ h1]
  match off with
  | 0 => simp
  | 1 => simp
  | k + 2 => simp
theorem readIn (l : List (BitVec 8)) (n : Nat) (p : Option Addr) (c : Nat) (w : World) (hn : l.length = n) (hl : n < 140737488355328) (hp : Lies w p l) :
    Calls Try.prog 16 #[.slice p n c] w fun e w' => ∃ g, e = .returned (.pointer (some ⟨g, 0, none⟩)) ∧ RdIn w.heap.size w' g ⟨l, 0⟩ ∧ Below w.heap.size w w' :=
  (read_any l n p c w hn hl hp).mono fun _ _ ⟨g, h1, h2, h3, h4⟩ => ⟨g, h1, ⟨h2, h3⟩, h4⟩
/-- Bytes that begin with a number. -/
theorem many_next (n : Int) (m : List (BitVec 8)) : (⟨be8 n ++ m, 0⟩ : RS).next 8 = ⟨m, 0⟩ := by
  unfold RS.next
  rw [if_neg (by simp [be8_length])]
  simp [be8_length]
theorem many_got (n : Int) (m : List (BitVec 8)) : (⟨be8 n ++ m, 0⟩ : RS).got 8 = be8 n := by
  unfold RS.got
  rw [if_neg (by simp [be8_length])]
  simp [be8_length]
theorem many_int (n : Int) (m : List (BitVec 8)) (h : -9223372036854775808 ≤ n ∧ n < 9223372036854775808) : (⟨be8 n ++ m, 0⟩ : RS).intV = n := by
  unfold RS.intV
  rw [many_got, int8_be8 n h]
theorem many_over (n room : Int) (m : List (BitVec 8)) (h : -9223372036854775808 ≤ n ∧ n < 9223372036854775808) (ho : n < 0 ∨ room < n) :
    (⟨be8 n ++ m, 0⟩ : RS).countS room = ⟨[], 3⟩ ∧ (⟨be8 n ++ m, 0⟩ : RS).countV room = 0 ∧ (⟨be8 n ++ m, 0⟩ : RS).blobS room = ⟨[], 3⟩ ∧ (⟨be8 n ++ m, 0⟩ : RS).blobV room = [] := by
  have h0 : (⟨be8 n ++ m, 0⟩ : RS).over room = true := by
    unfold RS.over
    rw [many_int n m h]
    simpa using ho
  have h1 : (⟨be8 n ++ m, 0⟩ : RS).countS room = ⟨[], 3⟩ := by
    unfold RS.countS
    rw [if_pos h0, many_next]
    rfl
  have h2 : (⟨be8 n ++ m, 0⟩ : RS).countV room = 0 := if_pos h0
  refine ⟨h1, h2, ?_, ?_⟩
  · unfold RS.blobS
    rw [h1, h2]; rfl
  · unfold RS.blobV
    rw [h1, h2]; rfl
theorem many_fine (n room : Int) (m : List (BitVec 8)) (h : -9223372036854775808 ≤ n ∧ n < 9223372036854775808) (h1 : ¬ n < 0) (h2 : ¬ room < n) :
    (⟨be8 n ++ m, 0⟩ : RS).countS room = ⟨m, 0⟩ ∧ (⟨be8 n ++ m, 0⟩ : RS).countV room = n.toNat ∧ (⟨be8 n ++ m, 0⟩ : RS).blobS room = (⟨m, 0⟩ : RS).next n.toNat ∧ (⟨be8 n ++ m, 0⟩ : RS).blobV room = (⟨m, 0⟩ : RS).got n.toNat := by
  have h0 : ¬ (⟨be8 n ++ m, 0⟩ : RS).over room = true := by
    unfold RS.over
    rw [many_int n m h]
    simp
    omega
  have h3 : (⟨be8 n ++ m, 0⟩ : RS).countS room = ⟨m, 0⟩ := by
    unfold RS.countS
    rw [if_neg h0, many_next]
  have h4 : (⟨be8 n ++ m, 0⟩ : RS).countV room = n.toNat := by
    unfold RS.countV
    rw [if_neg h0, many_int n m h]
  refine ⟨h3, h4, ?_, ?_⟩
  · unfold RS.blobS
    rw [h3, h4]
  · unfold RS.blobV
    rw [h3, h4]
/-- What PackMany has before it compares. -/
structure ManyW (W : World) (sC sB : RS) (bv : List (BitVec 8)) (g1 g2 g3 : Nat) (q : Option Addr) (w : World) : Prop where
  below : Below W.heap.size W w
  one : ∃ D, RdAt D w g1 sC
  two : ∃ D, RdAt D w g2 sB
  three : ∃ D, RdAt D w g3 sB
  lies : Lies w q bv
theorem ManyW.on {W : World} {sC sB : RS} {bv : List (BitVec 8)} {g1 g2 g3 : Nat} {q : Option Addr} {w w' : World} (h : ManyW W sC sB bv g1 g2 g3 q w) (hb : Below w.heap.size w w') : ManyW W sC sB bv g1 g2 g3 q w' := by
  obtain ⟨h1, ⟨D1, h2⟩, ⟨D2, h3⟩, ⟨D3, h4⟩, h5⟩ := h
  exact ⟨h1.trans (hb.mono h1.size), ⟨D1, h2.below hb⟩, ⟨D2, h3.below hb⟩, ⟨D3, h4.below hb⟩, h5.below hb⟩
set_option maxRecDepth 100000 in
set_option maxHeartbeats 2000000 in
theorem packMany_any (n room : Int) (xs : List (BitVec 8)) (len cap : Nat) (a : Option Addr) (W : World) (hn : -9223372036854775808 ≤ n ∧ n < 9223372036854775808) (hx : xs.length = len) (hlc : len ≤ cap) (hL : Lies W a xs) :
    Calls Try.prog 11 #[.int .i64 n, .int .i64 room, .slice a len cap] W fun e W' => e = .returned (.bool true) ∧ Below W.heap.size W W' := by
  have HL := Lib.hid hL; clear hL
  have HX := Lib.hid hx; clear hx
  go_enter Try.func11, Try.ntmps11
  by_cases hbig : len > 512
  · have q0 : (len : Int) > 512 := by omega
    go_wp2_with (go_at_call 21; refine (works7_any W).mono ?_; rintro e w1 ⟨rfl, hb⟩; have HB := Lib.hid hb; clear hb)
    go_ret
    exact ⟨rfl, HB.out⟩
  have q0 : ¬ (len : Int) > 512 := by omega
  have HI := Lib.hid (intP_any n [] 0 none 0 W rfl (by omega) (Or.inl rfl))
  have HLN : Hid ((([] : List (BitVec 8)) ++ be8 n).length + xs.length < 140737488355328) := show _ < _ by rw [List.length_append, be8_length, HX.out]; simp; omega
  have HLM : Hid ((([] : List (BitVec 8)) ++ be8 n ++ xs).length = len + 8) := show _ = _ by rw [List.length_append, List.length_append, be8_length, HX.out]; simp; omega
  go_upto_region 4 with (first
    | (go_at_call 13; refine HI.out.mono ?_; rintro e w1 ⟨r, rfl, ho, hb⟩; have HO := Lib.hid ho; have HB := Lib.hid hb; clear ho hb)
    | (at_builtin; refine wpList_append_listB rfl (.tmp 19) (.tmp 20) rfl W.heap.size _ _ xs a cap rfl HO.out (by rw [HX.out]; rfl) (HL.out.below HB.out) HLN.out HB.out.size ?_; intro v2 w2 ho2 hb2; have hl2 := ho2.sl HLM.out; obtain ⟨q2, c2, rfl, -, -, hl2⟩ := hl2; have HL2 := Lib.hid hl2; have HB2 := Lib.hid (HB.out.trans hb2); clear ho2 hb2 hl2))
  rename World => w2
  clear HI HO HB
  have HC0 : Hid (Below w2.heap.size w2 w2) := show Below _ _ _ from Below.refl _ _
  go_upto_region 5 with (go_at_call 16; refine (readIn _ (len + 8) q2 c2 _ HLM.out (by omega) (HL2.out.below HC0.out)).mono ?_; rintro e w3 ⟨g1, rfl, hr, hb⟩; have HR11 := Lib.hid hr; have HC1 := Lib.hid (HC0.out.trans (hb.mono HC0.out.size)); have hl1 := hr.1; have hk1 := hr.lt; have hs1 := hb.size; clear hr hb)
  clear HC0
  go_upto_region 6 with (go_at_call 16; refine (readIn _ (len + 8) q2 c2 _ HLM.out (by omega) (HL2.out.below HC1.out)).mono ?_; rintro e w4 ⟨g2, rfl, hr, hb⟩; have HR22 := Lib.hid hr; have HR12 := Lib.hid (HR11.out.below hb); have HC2 := Lib.hid (HC1.out.trans (hb.mono HC1.out.size)); have hl2 := hr.1; have hk2 := hr.lt; have hs2 := hb.size; clear hr hb)
  clear HC1 HR11
  go_upto_region 7 with (go_at_call 16; refine (readIn _ (len + 8) q2 c2 _ HLM.out (by omega) (HL2.out.below HC2.out)).mono ?_; rintro e w5 ⟨g3, rfl, hr, hb⟩; have HR33 := Lib.hid hr; have HR13 := Lib.hid (HR12.out.below hb); have HR23 := Lib.hid (HR22.out.below hb); have HC3 := Lib.hid (HC2.out.trans (hb.mono HC2.out.size)); have hl3 := hr.1; have hk3 := hr.lt; have hs3 := hb.size; clear hr hb)
  clear HC2 HR12 HR22
  have hs0 : (⟨([] : List (BitVec 8)) ++ be8 n ++ xs, 0⟩ : RS) = ⟨be8 n ++ xs, 0⟩ := by rw [List.nil_append]
  rw [hs0] at HR13 HR23 HR33
  have HSH : Hid ((⟨be8 n ++ xs, 0⟩ : RS).Short) := show _ < _ by show (be8 n ++ xs).length < _; rw [List.length_append, be8_length, HX.out]; omega
  have HC1 := Lib.hid (count_any _ g1 ⟨be8 n ++ xs, 0⟩ room w5 HR13.out.2)
  go_upto_region 8 with (go_at_call 51; refine HC1.out.mono ?_; rintro e w6 ⟨rfl, hr, hst⟩; have HR14 := Lib.hid hr; have HR24 := Lib.hid (HR23.out.past hst (by omega)); have HR34 := Lib.hid (HR33.out.past hst (by omega)); have HB6 := Lib.hid ((HB2.out.trans (HC3.out.mono HB2.out.size)).trans (Stays.below hst (B := W.heap.size) (fun k e => by have := HB2.out.size; omega) (Nat.le_trans HB2.out.size HC3.out.size))); have hs6 := hst.size; clear hr hst)
  clear HC1 HR13 HR23 HR33
  have HC1 := Lib.hid (blob_any _ g2 ⟨be8 n ++ xs, 0⟩ room w6 HR24.out.2 HSH.out)
  go_upto_region 9 with (go_at_call 52; refine HC1.out.mono ?_; rintro e w7 ⟨v7, rfl, ho, hr, hst⟩; obtain ⟨q7, c7, rfl, -, -, hl7⟩ := ho.sl rfl; have HL7 := Lib.hid hl7; have HR15 := Lib.hid (HR14.out.past hst (by omega) (fun d => by have := d.1; have := d.2; omega)); have HR25 := Lib.hid hr; have HR35 := Lib.hid (HR34.out.past hst (by omega)); have HB7 := Lib.hid (HB6.out.trans (Stays.below hst (B := W.heap.size) (fun k e => by have := HB2.out.size; omega) HB6.out.size)); have hs7 := hst.size; have hn7 := ho.lt; clear hr hst ho hl7)
  clear HC1 HR14 HR24 HR34
  have HC1 := Lib.hid (text_any _ g3 ⟨be8 n ++ xs, 0⟩ room w7 HR35.out.2)
  go_upto_region 10 with (go_at_call 53; refine HC1.out.mono ?_; rintro e w8 ⟨rfl, hr, hst⟩; have HL8 := Lib.hid (HL7.out.stay hst (fun off x => HR35.out.2.noByte off x)); have HR16 := Lib.hid (HR15.out.past hst (by omega) (fun d => by have := d.1; have := d.2; omega)); have HR26 := Lib.hid (HR25.out.past hst (by omega) (fun d => by have := d.1; have := d.2; omega)); have HR36 := Lib.hid hr; have HB8 := Lib.hid (HB7.out.trans (Stays.below hst (B := W.heap.size) (fun k e => by have := HB2.out.size; omega) HB7.out.size)); clear hr hst)
  clear HC1 HR15 HR25 HR35
  have HM : Hid (ManyW W ((⟨be8 n ++ xs, 0⟩ : RS).countS room) ((⟨be8 n ++ xs, 0⟩ : RS).blobS room) ((⟨be8 n ++ xs, 0⟩ : RS).blobV room) g1 g2 g3 q7 w8) := show ManyW _ _ _ _ _ _ _ _ _ from ⟨HB8.out, ⟨_, HR16.out⟩, ⟨_, HR26.out⟩, ⟨_, HR36.out⟩, HL8.out⟩
  clear HR16 HR26 HR36 HB8 HB7 HB6 HL8 HL7 HB2 HL2 HC3 HLM HLN hs6 hs7 hl1 hl2 hl3 hk1 hk2 hk3 hs1 hs2 hs3 hs0 HSH
  have HWK : Hid (∀ w' : World, Below W.heap.size W w' → Calls Try.prog 21 #[] w' fun e w'' => e = .returned (.bool true) ∧ Below W.heap.size W w'') := show ∀ _, _ from fun w' h => (works7_any w').mono fun e w'' ⟨h1, h2⟩ => ⟨h1, h.trans (h2.mono h.size)⟩
  by_cases hov : n < 0 ∨ room < n
  · obtain ⟨h1, h2, h3, h4⟩ := many_over n room xs hn hov
    rw [h1, h3, h4] at HM
    rw [h2, h4]
    have HE : Hid (∀ (D : Nat → Prop) (g : Nat), RdAt D w8 g ⟨[], 3⟩ → Calls Try.prog 17 #[.pointer (some ⟨g, 0, none⟩)] w8 fun e w'' => e = .returned (.int .i64 3) ∧ w8 = w'') := show ∀ _ _, _ from fun D g h => end_any D g ⟨[], 3⟩ w8 h
    have hS : strB [] = ⟨#[]⟩ := rfl
    rw [hS]
    obtain ⟨D1, hD1⟩ := HM.out.one
    obtain ⟨D2, hD2⟩ := HM.out.two
    obtain ⟨D3, hD3⟩ := HM.out.three
    have HE1 := Lib.hid (HE.out D1 g1 hD1); have HE2 := Lib.hid (HE.out D2 g2 hD2); have HE3 := Lib.hid (HE.out D3 g3 hD3)
    have HWW := Lib.hid (HWK.out w8 HM.out.below)
    clear HE hD1 hD2 hD3 HM HWK h1 h2 h3 h4 hS HL HX
    by_cases hn0 : n < 0
    · go_wp2_with fail
      refine HE1.out.mono ?_
      rintro e w9 ⟨rfl, rfl⟩
      go_wp2_with fail
      refine HE2.out.mono ?_
      rintro e w9 ⟨rfl, rfl⟩
      go_wp2_with fail
      refine HE3.out.mono ?_
      rintro e w9 ⟨rfl, rfl⟩
      go_wp2_with fail
      refine HWW.out.mono ?_
      rintro e w9 ⟨rfl, hb⟩
      have HB := Lib.hid hb; clear hb
      go_wp2_with fail
      go_ret
      exact ⟨rfl, HB.out⟩
    · have q1 : n > room := by omega
      go_wp2_with fail
      refine HE1.out.mono ?_
      rintro e w9 ⟨rfl, rfl⟩
      go_wp2_with fail
      refine HE2.out.mono ?_
      rintro e w9 ⟨rfl, rfl⟩
      go_wp2_with fail
      refine HE3.out.mono ?_
      rintro e w9 ⟨rfl, rfl⟩
      go_wp2_with fail
      refine HWW.out.mono ?_
      rintro e w9 ⟨rfl, hb⟩
      have HB := Lib.hid hb; clear hb
      go_wp2_with fail
      go_ret
      exact ⟨rfl, HB.out⟩
  · have hn0 : ¬ n < 0 := fun h => hov (.inl h)
    have hn1 : ¬ room < n := fun h => hov (.inr h)
    obtain ⟨h1, h2, h3, h4⟩ := many_fine n room xs hn hn0 hn1
    obtain ⟨N, rfl⟩ : ∃ N : Nat, n = (N : Int) := ⟨n.toNat, by omega⟩
    rw [Int.toNat_natCast] at h2 h3 h4
    rw [h1, h3, h4] at HM
    rw [h2, h4]
    obtain ⟨D1, hD1⟩ := HM.out.one
    obtain ⟨D2, hD2⟩ := HM.out.two
    obtain ⟨D3, hD3⟩ := HM.out.three
    have hlf1 := left_any D1 g1 ⟨xs, 0⟩ w8 hD1
    rw [show (⟨xs, 0⟩ : RS).bs.length = len from HX.out] at hlf1
    have HLF1 := Lib.hid hlf1
    have hen2 := end_any D2 g2 _ w8 hD2
    have hen3 := end_any D3 g3 _ w8 hD3
    have hcv := run_strB HM.out.lies _ c7 rfl
    have q1 : ¬ (N : Int) > room := hn1
    have HWW := Lib.hid (HWK.out w8 HM.out.below)
    have HLA := Lib.hid (HL.out.below (HM.out.below))
    by_cases hb : len < N
    · have e1 : (⟨xs, 0⟩ : RS).got N = [] := if_pos (show xs.length < N by rw [HX.out]; exact hb)
      have e2 : (⟨xs, 0⟩ : RS).next N = ⟨[], 4⟩ := if_pos (show xs.length < N by rw [HX.out]; exact hb)
      rw [e1] at hcv
      rw [e1]
      rw [e2] at hen2 hen3
      have HE2 : Hid (Calls Try.prog 17 #[.pointer (some ⟨g2, 0, none⟩)] w8 fun e w'' => e = .returned (.int .i64 4) ∧ w8 = w'') := show Calls _ _ _ _ _ from hen2
      have HE3 : Hid (Calls Try.prog 17 #[.pointer (some ⟨g3, 0, none⟩)] w8 fun e w'' => e = .returned (.int .i64 4) ∧ w8 = w'') := show Calls _ _ _ _ _ from hen3
      clear hen2 hen3 hlf1 hD1 hD2 hD3 h1 h2 h3 h4 e1 e2 HM HWK HL HX HLA
      rw [List.length_nil] at hcv
      rw [List.length_nil]
      generalize strB [] = S at *
      have q2 : (N : Int) > (len : Int) := by omega
      go_wp2_with fail
      refine HLF1.out.mono ?_
      rintro e w9 ⟨rfl, rfl⟩
      go_wp2_with fail
      refine HE2.out.mono ?_
      rintro e w9 ⟨rfl, rfl⟩
      go_wp2_with fail
      refine HE3.out.mono ?_
      rintro e w9 ⟨rfl, rfl⟩
      go_wp2_with fail
      refine HE2.out.mono ?_
      rintro e w9 ⟨rfl, rfl⟩
      go_wp2_with fail
      refine HWW.out.mono ?_
      rintro e w9 ⟨rfl, hb⟩
      have HB := Lib.hid hb; clear hb
      go_wp2_with fail
      go_ret
      exact ⟨rfl, HB.out⟩
    · have e1 : (⟨xs, 0⟩ : RS).got N = xs.take N := if_neg (show ¬ xs.length < N by rw [HX.out]; exact hb)
      have e2 : (⟨xs, 0⟩ : RS).next N = ⟨xs.drop N, 0⟩ := if_neg (show ¬ xs.length < N by rw [HX.out]; exact hb)
      have hbl : (xs.take N).length = N := by rw [List.length_take, HX.out]; omega
      have hHM := HM.out.lies
      rw [e1] at hcv hHM
      rw [e1]
      rw [e2] at hen2 hen3 hD2
      obtain ⟨E, hE⟩ : ∃ E, (⟨xs.drop N, 0⟩ : RS).endV = E := ⟨_, rfl⟩
      rw [hE] at hen2 hen3
      have HE2 := Lib.hid hen2
      have HE3 := Lib.hid hen3
      rw [hbl] at hcv
      rw [hbl]
      have HSM := Lib.hid (same_any (xs.take N) N q7 a c7 cap w8 hbl (by omega) hHM (lies_takeB HLA.out N))
      have HLF2 : Hid (∀ w9, Below w8.heap.size w8 w9 → Calls Try.prog 54 #[.pointer (some ⟨g2, 0, none⟩)] w9 fun e w'' => e = .returned (.int .i64 ((len - N : Nat) : Int)) ∧ w9 = w'') := show ∀ _, _ from fun w9 h => by
        have h9 := left_any D2 g2 ⟨xs.drop N, 0⟩ w9 (hD2.below h)
        rw [show (⟨xs.drop N, 0⟩ : RS).bs.length = len - N by rw [← HX.out]; exact List.length_drop] at h9
        exact h9
      have HWB := Lib.hid HM.out.below
      clear hen2 hen3 hlf1 hD1 hD2 hD3 h1 h2 h3 h4 e1 e2 HM HL HX HLA hHM HWW hE
      generalize strB (xs.take N) = S at *
      have q2 : ¬ (N : Int) > (len : Int) := by omega
      have q3 : (N : Int) ≤ (cap : Int) := by omega
      have q4 : (len : Int) - (N : Int) = ((len - N : Nat) : Int) := by omega
      generalize hM : len - N = M at *
      go_wp2_with fail
      refine HLF1.out.mono ?_
      rintro e w9 ⟨rfl, rfl⟩
      go_wp2_with fail
      refine HE2.out.mono ?_
      rintro e w9 ⟨rfl, rfl⟩
      go_wp2_with fail
      refine HE3.out.mono ?_
      rintro e w9 ⟨rfl, rfl⟩
      go_wp2_with fail
      all_goals
        refine HSM.out.mono ?_
        rintro e w9 ⟨rfl, hb9⟩
        have HL9 := Lib.hid (HLF2.out w9 hb9)
        have HW9 := Lib.hid (HWK.out w9 (HWB.out.trans (hb9.mono HWB.out.size)))
        clear hb9
        go_wp2_with fail
        refine HL9.out.mono ?_
        rintro e w10 ⟨rfl, rfl⟩
        go_wp2_with fail
        refine HW9.out.mono ?_
        rintro e w10 ⟨rfl, hb⟩
        have HB := Lib.hid hb; clear hb
        go_wp2_with fail
        go_ret
        exact ⟨rfl, HB.out⟩
end Go.Proofs.Ytadlpidhemjkgaa

/-
  Both readers are asked the same.
-/
namespace Go.Proofs.Ytadlpidhemjkgaa
open Go.RowKit Go.Proofs.ShaWords
def MdIn (lo : Nat) (w : World) (g : Nat) (s : RS) : Prop := lo ≤ g ∧ MdAt (fun k => lo ≤ k ∧ k < g) w g s
/-- The program's reader and the document's. -/
structure Two (lo1 lo2 g g2 : Nat) (s t : RS) (w : World) : Prop where
  r : RdIn lo1 w g s
  m : MdIn lo2 w g2 t
  lt : g < lo2
theorem Two.below {lo1 lo2 g g2 : Nat} {s t : RS} {w w' : World} (h : Two lo1 lo2 g g2 s t w) (hb : Below w.heap.size w w') : Two lo1 lo2 g g2 s t w' := ⟨h.r.below hb, ⟨h.m.1, h.m.2.below hb⟩, h.lt⟩
theorem Two.stepR {lo1 lo2 g g2 : Nat} {s t s' : RS} {w w' : World} (h : Two lo1 lo2 g g2 s t w) (hr : RdAt (fun k => lo1 ≤ k ∧ k < g) w' g s') (hst : Stays (fun x => x = g) w w') : Two lo1 lo2 g g2 s' t w' :=
  ⟨⟨h.r.1, hr⟩, ⟨h.m.1, h.m.2.past hst (by have := h.m.1; have := h.lt; omega) (fun d => by have := d.1; have := h.lt; omega)⟩, h.lt⟩
theorem Two.stepM {lo1 lo2 g g2 : Nat} {s t t' : RS} {w w' : World} (h : Two lo1 lo2 g g2 s t w) (hr : MdAt (fun k => lo2 ≤ k ∧ k < g2) w' g2 t') (hst : Stays (fun x => x = g2) w w') : Two lo1 lo2 g g2 s t' w' :=
  ⟨⟨h.r.1, h.r.2.past hst (by have := h.m.1; have := h.lt; omega) (fun d => by have := d.2; have := h.m.1; have := h.lt; omega)⟩, ⟨h.m.1, hr⟩, h.lt⟩
theorem Two.other {lo1 lo2 g g2 : Nat} {s t : RS} {w w' : World} {F : Nat → Prop} (h : Two lo1 lo2 g g2 s t w) (hst : Stays F w w') (hF : ∀ k, F k → g2 < k) : Two lo1 lo2 g g2 s t w' :=
  ⟨⟨h.r.1, h.r.2.keep hst (fun k f => by have := hF k f; have := h.m.1; have := h.lt; exact ⟨by omega, fun d => by have := d.2; omega⟩)⟩, ⟨h.m.1, h.m.2.keep hst (fun k f => by have := hF k f; exact ⟨by omega, fun d => by have := d.2; omega⟩)⟩, h.lt⟩
def StaysTwo (g g2 : Nat) (w w' : World) : Prop := Stays (fun k => k = g ∨ k = g2) w w'
theorem StaysTwo.refl (g g2 : Nat) (w : World) : StaysTwo g g2 w w := Stays.refl _ _
theorem StaysTwo.r {g g2 : Nat} {w w1 w2 : World} (h : StaysTwo g g2 w w1) (h2 : Stays (fun x => x = g) w1 w2) : StaysTwo g g2 w w2 := Stays.trans h h2 (fun _ e _ => Or.inl e)
theorem StaysTwo.m {g g2 : Nat} {w w1 w2 : World} (h : StaysTwo g g2 w w1) (h2 : Stays (fun x => x = g2) w1 w2) : StaysTwo g g2 w w2 := Stays.trans h h2 (fun _ e _ => Or.inr e)
theorem StaysTwo.b {g g2 : Nat} {w w1 w2 : World} (h : StaysTwo g g2 w w1) (h2 : Below w.heap.size w1 w2) : StaysTwo g g2 w w2 := Stays.trans h (Below.staysB h2) (fun k e hk => by omega)
theorem run_loadI {ρ : Operand → Value} {o : Oper} {x : Operand} {w : World} {a : Addr} {n : Int} (ho : o.op = .load 3 x) (hx : ρ x = .pointer (some a)) (hc : w.cell? a = some (.int .i64 n)) : (execOp ρ o).run Try.prog w = .ok (.value (.int .i64 n)) w := by
  obtain ⟨dst, op, ty', pos, after, guard⟩ := o
  simp only at ho
  subst ho
  go_simp
theorem run_eqlI {ρ : Operand → Value} {o : Oper} {x y : Operand} {n : Int} {T ty : TypeId} (ho : o.op = .binOp .eql T x y ty) (hx : ρ x = .int .i64 n) (hy : ρ y = .int .i64 n) (w : World) : (execOp ρ o).run Try.prog w = .ok (.value (.bool true)) w := by
  obtain ⟨dst, op, ty', pos, after, guard⟩ := o
  simp only at ho
  subst ho
  go_simp
theorem run_eqlS {ρ : Operand → Value} {o : Oper} {x y : Operand} {b : ByteArray} {ty : TypeId} (ho : o.op = .binOp .eql 9 x y ty) (hx : ρ x = .string b) (hy : ρ y = .string b) (w : World) : (execOp ρ o).run Try.prog w = .ok (.value (.bool true)) w := by
  obtain ⟨dst, op, ty', pos, after, guard⟩ := o
  simp only at ho
  subst ho
  go_simp
/-- A digest is the same as itself. -/
theorem eql_sum (l : List (BitVec 8)) (h : l.length = 32) (w : World) : (binOp .eql 26 (.agg (bytesV l).toArray) (.agg (bytesV l).toArray)).run Try.prog w = .ok (.bool true) w := by
  have h1 := run_eql_bytes (P := Try.prog) w 26 5 32 Try.underlying26 Try.underlying5 (fun w => by kernel_rfl) (l.map UInt8.ofBitVec) (l.map UInt8.ofBitVec) (by simpa using h) (by simpa using h)
  rw [← bytesV_cell] at h1
  simpa using h1
theorem blobV_short {s : RS} (h : s.Short) (most : Int) : (s.blobV most).length < 140737488355328 := Nat.lt_of_le_of_lt RS.got_le (RS.countS_short h most)
theorem Own.slLies {B n c : Nat} {w : World} {l : List (BitVec 8)} {q : Option Addr} (h : Own B w l (.slice q n c)) (hn : l.length = n) : Lies w q l := by
  obtain ⟨q', c', he, -, -, hl⟩ := h.sl hn
  cases he
  exact hl
/-- What came in, and the block that holds what is asked. -/
structure BothW (w0 : World) (kind most : Int) (lo1 lo2 g g2 : Nat) (s t : RS) (w : World) : Prop where
  two : Two lo1 lo2 g g2 s t w
  stays : StaysTwo g g2 w0 w
  blk : w.heap[w0.heap.size]? = some (.cells #[.int .i64 kind, .int .i64 most] 34 (0, 0))
theorem BothW.below {w0 : World} {kind most : Int} {lo1 lo2 g g2 : Nat} {s t : RS} {w w' : World} (h : BothW w0 kind most lo1 lo2 g g2 s t w) (hb : Below w.heap.size w w') : BothW w0 kind most lo1 lo2 g g2 s t w' :=
  ⟨h.two.below hb, h.stays.b (hb.mono h.stays.size), (hb.block _ (Array.getElem?_eq_some_iff.1 h.blk).1).trans h.blk⟩
theorem BothW.stepR {w0 : World} {kind most : Int} {lo1 lo2 g g2 : Nat} {s t s' : RS} {w w' : World} (h : BothW w0 kind most lo1 lo2 g g2 s t w) (hg : g < w0.heap.size) (hr : RdAt (fun k => lo1 ≤ k ∧ k < g) w' g s') (hst : Stays (fun x => x = g) w w') : BothW w0 kind most lo1 lo2 g g2 s' t w' :=
  ⟨h.two.stepR hr hst, h.stays.r hst, (hst.block _ (Array.getElem?_eq_some_iff.1 h.blk).1 (by omega)).trans h.blk⟩
theorem BothW.stepM {w0 : World} {kind most : Int} {lo1 lo2 g g2 : Nat} {s t t' : RS} {w w' : World} (h : BothW w0 kind most lo1 lo2 g g2 s t w) (hg : g2 < w0.heap.size) (hr : MdAt (fun k => lo2 ≤ k ∧ k < g2) w' g2 t') (hst : Stays (fun x => x = g2) w w') : BothW w0 kind most lo1 lo2 g g2 s t' w' :=
  ⟨h.two.stepM hr hst, h.stays.m hst, (hst.block _ (Array.getElem?_eq_some_iff.1 h.blk).1 (by omega)).trans h.blk⟩
theorem BothW.cell1 {w0 : World} {kind most : Int} {lo1 lo2 g g2 : Nat} {s t : RS} {w : World} (h : BothW w0 kind most lo1 lo2 g g2 s t w) : w.cell? ⟨w0.heap.size, 1, none⟩ = some (.int .i64 most) := by
  rw [cell_of_row w _ _ _ _ _ h.blk]; rfl
theorem BothW.cell0 {w0 : World} {kind most : Int} {lo1 lo2 g g2 : Nat} {s t : RS} {w : World} (h : BothW w0 kind most lo1 lo2 g g2 s t w) : w.cell? ⟨w0.heap.size, 0, none⟩ = some (.int .i64 kind) := by
  rw [cell_of_row w _ _ _ _ _ h.blk]; rfl
set_option maxRecDepth 100000 in
set_option maxHeartbeats 2000000 in
theorem both_any (lo1 lo2 g g2 : Nat) (s : RS) (kind most : Int) (w : World) (h : Two lo1 lo2 g g2 s s w) (hs : s.Short) :
    Calls Try.prog 58 #[.pointer (some ⟨g, 0, none⟩), .pointer (some ⟨g2, 0, none⟩), .agg #[.int .i64 kind, .int .i64 most]] w fun e w' => e = .returned (.bool true) ∧ ∃ s', Two lo1 lo2 g g2 s' s' w' ∧ s'.Short ∧ StaysTwo g g2 w w' := by
  have hg1 := h.r.lt
  have hg2 := h.m.2.lt
  have HS := Lib.hid hs
  have HW0 : Hid (BothW w kind most lo1 lo2 g g2 s s (w.alloc (.cells #[.int .i64 kind, .int .i64 most] 34))) := show BothW _ _ _ _ _ _ _ _ _ _ from
    ⟨h.below ((Below.refl _ _).alloc (Nat.le_refl _) _), (StaysTwo.refl _ _ _).b ((Below.refl _ _).alloc (Nat.le_refl _) _), heap_new_at rfl⟩
  clear h hs
  go_enter Try.func58, Try.ntmps58
  go_upto_region 1 with fail
  refine wp_gen (BothW w kind most lo1 lo2 g g2 s s) HW0.out ?_
  clear HW0
  intro w1 hw1
  have HW1 := Lib.hid hw1
  have c0 := hw1.cell0
  have c1 := hw1.cell1
  clear hw1
  go_upto_region 2 with (go_at_call 27; refine (pick_any kind 5 w1 (by omega) (by omega)).mono ?_; rintro e w2 ⟨r, hr, rfl, rfl⟩)
  obtain rfl | rfl | rfl | rfl | rfl : r = 0 ∨ r = 1 ∨ r = 2 ∨ r = 3 ∨ r = 4 := by omega
  · go_wp2_with (first
      | (go_at_call 18; refine (int_any _ g s w1 HW1.out.two.r.2).mono ?_; rintro e w3 ⟨rfl, hr, hst⟩; have HW3 := Lib.hid (HW1.out.stepR hg1 hr hst); clear hr hst)
      | (go_at_call 95; refine (intRR_any _ g2 s _ HW3.out.two.m.2 HS.out).mono ?_; rintro e w4 ⟨rfl, hr, hst⟩; have HW4 := Lib.hid (HW3.out.stepM hg2 hr hst); clear hr hst))
    go_ret
    exact ⟨rfl, _, HW4.out.two, RS.next_short HS.out 8, HW4.out.stays⟩
  · have heq := fun w' => eql_sum s.sumV (sumV_length s) w'
    generalize hX : (bytesV s.sumV).toArray = X at heq
    have HX := Lib.hid hX; clear hX
    go_wp2_with (first
      | (go_at_call 65; refine (sum_any _ g s w1 HW1.out.two.r.2).mono ?_; rintro e w3 ⟨rfl, hr, hst⟩; rw [HX.out]; have HW3 := Lib.hid (HW1.out.stepR hg1 hr hst); clear hr hst)
      | (go_at_call 96; refine (sumRR_any _ g2 s _ HW3.out.two.m.2 HS.out).mono ?_; rintro e w4 ⟨rfl, hr, hst⟩; rw [HX.out]; have HW4 := Lib.hid (HW3.out.stepM hg2 hr hst); clear hr hst))
    go_ret
    exact ⟨rfl, _, HW4.out.two, RS.next_short HS.out 32, HW4.out.stays⟩
  · go_upto_region 7 with fail
    have HR1 := Lib.hid (HW1.out.below (Below.drew0 w1))
    refine region_phase (fun w' => w'.cell? ⟨w.heap.size, 1, none⟩ = some (.int .i64 most)) (fun _ => True) 3 (HR1.out.cell1) trivial [(0, .free), (1, .free), (2, .free), (4, .free), (5, .free), (6, .free), (3, .behind), (7, .behind), (8, .free), (9, .free)] (by kernel_rfl) (by kernel_rfl) (by kernel_rfl) (by kernel_rfl) (fun ops hops A hA => ?_)
    have hsz : A.tmps.size = 61 := by rw [hA]; rfl
    have base0 : A.eval (.tmp 0) = .pointer (some ⟨g, 0, none⟩) := by rw [hA]; rfl
    have base1 : A.eval (.tmp 1) = .pointer (some ⟨g2, 0, none⟩) := by rw [hA]; rfl
    have base5 : A.eval (.tmp 5) = .pointer (some ⟨w.heap.size, 0, none⟩) := by rw [hA]; rfl
    have HAA := Lib.hid hA; clear hA
    obtain ⟨o0, po0, q0, d0, gd0⟩ : ∃ o, ops[0]? = some o ∧ o.op = .move (.tmp 0) ∧ o.dst = some 28 ∧ o.guard = none := ⟨_, by rw [hops]; rfl, rfl, rfl, rfl⟩
    obtain ⟨o1, po1, q1, d1, gd1⟩ : ∃ o, ops[1]? = some o ∧ o.op = .fieldAddr 34 (.tmp 5) 1 ∧ o.dst = some 29 ∧ o.guard = none := ⟨_, by rw [hops]; rfl, rfl, rfl, rfl⟩
    obtain ⟨o2, po2, q2, d2, gd2⟩ : ∃ o, ops[2]? = some o ∧ o.op = .load 3 (.tmp 29) ∧ o.dst = some 30 ∧ o.guard = none := ⟨_, by rw [hops]; rfl, rfl, rfl, rfl⟩
    obtain ⟨o3, po3, q3, d3, gd3⟩ : ∃ o, ops[3]? = some o ∧ o.op = .call { callee := .value (.func 51), args := #[.tmp 28, .tmp 30], argTypes := #[39, 3] } ∧ o.dst = some 31 ∧ o.guard = none := ⟨_, by rw [hops]; rfl, rfl, rfl, rfl⟩
    obtain ⟨o4, po4, q4, d4, gd4⟩ : ∃ o, ops[4]? = some o ∧ o.op = .move (.tmp 1) ∧ o.dst = some 32 ∧ o.guard = none := ⟨_, by rw [hops]; rfl, rfl, rfl, rfl⟩
    obtain ⟨o5, po5, q5, d5, gd5⟩ : ∃ o, ops[5]? = some o ∧ o.op = .fieldAddr 34 (.tmp 5) 1 ∧ o.dst = some 33 ∧ o.guard = none := ⟨_, by rw [hops]; rfl, rfl, rfl, rfl⟩
    obtain ⟨o6, po6, q6, d6, gd6⟩ : ∃ o, ops[6]? = some o ∧ o.op = .load 3 (.tmp 33) ∧ o.dst = some 34 ∧ o.guard = none := ⟨_, by rw [hops]; rfl, rfl, rfl, rfl⟩
    obtain ⟨o7, po7, q7, d7, gd7⟩ : ∃ o, ops[7]? = some o ∧ o.op = .call { callee := .value (.func 97), args := #[.tmp 32, .tmp 34], argTypes := #[81, 3] } ∧ o.dst = some 35 ∧ o.guard = none := ⟨_, by rw [hops]; rfl, rfl, rfl, rfl⟩
    obtain ⟨o8, po8, q8, d8, gd8⟩ : ∃ o, ops[8]? = some o ∧ o.op = .binOp .eql 3 (.tmp 31) (.tmp 35) 3 ∧ o.dst = some 36 ∧ o.guard = none := ⟨_, by rw [hops]; rfl, rfl, rfl, rfl⟩
    obtain ⟨o9, po9, q9, d9, gd9⟩ : ∃ o, ops[9]? = some o ∧ o.op = .assign (.tmp 36) ∧ o.dst = some 6 ∧ o.guard = none := ⟨_, by rw [hops]; rfl, rfl, rfl, rfl⟩
    clear hops
    refine met_free po0 d0 (wanted_of gd0) (fun w' h' => run_move q0 base0 w') ?_
    refine met_free po1 d1 (wanted_of gd1) (fun w' h' => run_fieldT (off := 1) q1 (fun _ => by kernel_rfl) ((eval_other _ 28 5 _ (by decide)).trans base5) w') ?_
    refine met_free po2 d2 (wanted_of gd2) (fun w' h' => run_loadI q2 (eval_same _ _ _ (by simp only [put_size, hsz]; decide)) h') ?_
    refine met_free po4 d4 (wanted_of gd4) (fun w' h' => run_move q4 ((eval_other _ 30 1 _ (by decide)).trans ((eval_other _ 29 1 _ (by decide)).trans ((eval_other _ 28 1 _ (by decide)).trans base1))) w') ?_
    refine met_free po5 d5 (wanted_of gd5) (fun w' h' => run_fieldT (off := 1) q5 (fun _ => by kernel_rfl) ((eval_other _ 32 5 _ (by decide)).trans ((eval_other _ 30 5 _ (by decide)).trans ((eval_other _ 29 5 _ (by decide)).trans ((eval_other _ 28 5 _ (by decide)).trans base5)))) w') ?_
    refine met_free po6 d6 (wanted_of gd6) (fun w' h' => run_loadI q6 (eval_same _ _ _ (by simp only [put_size, hsz]; decide)) h') ?_
    refine m_enter po3 d3 (wanted_of gd3) (run_callf2 q3 rfl ((eval_other _ 34 28 _ (by decide)).trans ((eval_other _ 33 28 _ (by decide)).trans ((eval_other _ 32 28 _ (by decide)).trans ((eval_other _ 30 28 _ (by decide)).trans ((eval_other _ 29 28 _ (by decide)).trans (eval_same _ _ _ (by rw [hsz]; decide))))))) ((eval_other _ 34 30 _ (by decide)).trans ((eval_other _ 33 30 _ (by decide)).trans ((eval_other _ 32 30 _ (by decide)).trans (eval_same _ _ _ (by simp only [put_size, hsz]; decide))))) Try.func51 (by kernel_rfl) _) (count_any _ g s most _ HR1.out.two.r.2) ?_
    rintro e w3 ⟨rfl, hr, hst⟩
    have HW3 := Lib.hid (HR1.out.stepR hg1 hr hst); clear hr hst
    refine ⟨_, rfl, HW3.out.cell1, ?_⟩
    refine m_enter po7 d7 (wanted_of gd7) (run_callf2 q7 rfl ((eval_other _ 31 32 _ (by decide)).trans ((eval_other _ 34 32 _ (by decide)).trans ((eval_other _ 33 32 _ (by decide)).trans (eval_same _ _ _ (by simp only [put_size, hsz]; decide))))) ((eval_other _ 31 34 _ (by decide)).trans (eval_same _ _ _ (by simp only [put_size, hsz]; decide))) Try.func97 (by kernel_rfl) _) (countRR_any _ g2 s most _ HW3.out.two.m.2 HS.out) ?_
    rintro e w4 ⟨rfl, hr, hst⟩
    have HW4 := Lib.hid (HW3.out.stepM hg2 hr hst); clear hr hst
    refine ⟨_, rfl, HW4.out.cell1, ?_⟩
    refine met_free po8 d8 (wanted_of gd8) (fun w' h' => run_eqlI q8 ((eval_other _ 35 31 _ (by decide)).trans (eval_same _ _ _ (by simp only [put_size, hsz]; decide))) (eval_same _ _ _ (by simp only [put_size, hsz]; decide)) w') ?_
    refine met_free po9 d9 (wanted_of gd9) (fun w' h' => run_assign q9 (eval_same _ _ _ (by simp only [put_size, hsz]; decide)) w') ?_
    show NoPanic _ .normal _ _
    refine NoPanic.normal ?_
    rw [HAA.out]
    go_frame
    clear HAA
    go_wp2_with fail
    go_ret
    exact ⟨rfl, _, HW4.out.two, RS.countS_short HS.out most, HW4.out.stays⟩
  · have HLN : Hid ((s.blobV most).length < 140737488355328) := show _ < _ from blobV_short HS.out most
    obtain ⟨n, hn⟩ : ∃ n, (s.blobV most).length = n := ⟨_, rfl⟩
    have hlt := HLN.out
    rw [hn] at hlt
    have HN := Lib.hid hn; clear hn
    go_upto_region 10 with (go_at_call 52; refine (blob_any _ g s most w1 HW1.out.two.r.2 HS.out).mono ?_; rintro e w3 ⟨v3, rfl, ho, hr, hst⟩; obtain ⟨q3, k3, rfl, -, -, hl3⟩ := ho.sl HN.out; have HO3 := Lib.hid ho; have HL3 := Lib.hid hl3; have HW3 := Lib.hid (HW1.out.stepR hg1 hr hst); have hs3 := HW1.out.stays.size; clear hr hst ho hl3)
    have d1 := HW3.out.cell1
    go_upto_region 11 with (first
      | (go_at_call 98; refine (blobRR_any _ g2 s most _ HW3.out.two.m.2 HS.out).mono ?_; rintro e w4 ⟨v4, rfl, ho, hr, hst⟩; obtain ⟨q4, k4, rfl, -, -, hl4⟩ := ho.sl HN.out; have HL4 := Lib.hid hl4; have HO4 := Lib.hid (ownsRow_stays HO3.out hst (fun k hk e => by have := (HO3.out.lt k hk).1; omega)); have HW4 := Lib.hid (HW3.out.stepM hg2 hr hst); clear hr hst ho hl4)
      | (go_at_call 19; refine (same_big (s.blobV most) n q3 q4 k3 k4 _ HN.out hlt (Own.slLies HO4.out HN.out) HL4.out).mono ?_; rintro e w5 ⟨rfl, hb⟩; have HW5 := Lib.hid (HW4.out.below hb); have HO5 := Lib.hid (Own.below HO4.out hb); clear hb))
    go_wp2_with (go_at_call 49; refine (spoil_big (s.blobV most) _ n k3 q3 _ HN.out (by omega) HO5.out).mono ?_; rintro e w6 ⟨rfl, hgr⟩; have HT6 := Lib.hid (HW5.out.two.other (grown_stays (F := fun k => w1.heap.size ≤ k) hgr (fun k e => (HO5.out.lt k e).1)) (fun k f => by omega)); have HS6 := Lib.hid (HW5.out.stays.b ((Below.refl _ _).grown hgr HW5.out.stays.size (fun k e => by have := (HO5.out.lt k e).1; omega))); clear hgr)
    go_ret
    exact ⟨rfl, _, HT6.out, RS.blobS_short HS.out most, HS6.out⟩
  · go_upto_region 13 with fail
    have HR1 := Lib.hid (HW1.out.below (Below.drew0 w1))
    refine region_phase (fun w' => w'.cell? ⟨w.heap.size, 1, none⟩ = some (.int .i64 most)) (fun _ => True) 3 (HR1.out.cell1) trivial [(0, .free), (1, .free), (2, .free), (4, .free), (5, .free), (6, .free), (3, .behind), (7, .behind), (8, .free), (9, .free)] (by kernel_rfl) (by kernel_rfl) (by kernel_rfl) (by kernel_rfl) (fun ops hops A hA => ?_)
    have hsz : A.tmps.size = 61 := by rw [hA]; rfl
    have base0 : A.eval (.tmp 0) = .pointer (some ⟨g, 0, none⟩) := by rw [hA]; rfl
    have base1 : A.eval (.tmp 1) = .pointer (some ⟨g2, 0, none⟩) := by rw [hA]; rfl
    have base5 : A.eval (.tmp 5) = .pointer (some ⟨w.heap.size, 0, none⟩) := by rw [hA]; rfl
    have HAA := Lib.hid hA; clear hA
    obtain ⟨o0, po0, q0, d0, gd0⟩ : ∃ o, ops[0]? = some o ∧ o.op = .move (.tmp 0) ∧ o.dst = some 52 ∧ o.guard = none := ⟨_, by rw [hops]; rfl, rfl, rfl, rfl⟩
    obtain ⟨o1, po1, q1, d1, gd1⟩ : ∃ o, ops[1]? = some o ∧ o.op = .fieldAddr 34 (.tmp 5) 1 ∧ o.dst = some 53 ∧ o.guard = none := ⟨_, by rw [hops]; rfl, rfl, rfl, rfl⟩
    obtain ⟨o2, po2, q2, d2, gd2⟩ : ∃ o, ops[2]? = some o ∧ o.op = .load 3 (.tmp 53) ∧ o.dst = some 54 ∧ o.guard = none := ⟨_, by rw [hops]; rfl, rfl, rfl, rfl⟩
    obtain ⟨o3, po3, q3, d3, gd3⟩ : ∃ o, ops[3]? = some o ∧ o.op = .call { callee := .value (.func 53), args := #[.tmp 52, .tmp 54], argTypes := #[39, 3] } ∧ o.dst = some 55 ∧ o.guard = none := ⟨_, by rw [hops]; rfl, rfl, rfl, rfl⟩
    obtain ⟨o4, po4, q4, d4, gd4⟩ : ∃ o, ops[4]? = some o ∧ o.op = .move (.tmp 1) ∧ o.dst = some 56 ∧ o.guard = none := ⟨_, by rw [hops]; rfl, rfl, rfl, rfl⟩
    obtain ⟨o5, po5, q5, d5, gd5⟩ : ∃ o, ops[5]? = some o ∧ o.op = .fieldAddr 34 (.tmp 5) 1 ∧ o.dst = some 57 ∧ o.guard = none := ⟨_, by rw [hops]; rfl, rfl, rfl, rfl⟩
    obtain ⟨o6, po6, q6, d6, gd6⟩ : ∃ o, ops[6]? = some o ∧ o.op = .load 3 (.tmp 57) ∧ o.dst = some 58 ∧ o.guard = none := ⟨_, by rw [hops]; rfl, rfl, rfl, rfl⟩
    obtain ⟨o7, po7, q7, d7, gd7⟩ : ∃ o, ops[7]? = some o ∧ o.op = .call { callee := .value (.func 99), args := #[.tmp 56, .tmp 58], argTypes := #[81, 3] } ∧ o.dst = some 59 ∧ o.guard = none := ⟨_, by rw [hops]; rfl, rfl, rfl, rfl⟩
    obtain ⟨o8, po8, q8, d8, gd8⟩ : ∃ o, ops[8]? = some o ∧ o.op = .binOp .eql 9 (.tmp 55) (.tmp 59) 9 ∧ o.dst = some 60 ∧ o.guard = none := ⟨_, by rw [hops]; rfl, rfl, rfl, rfl⟩
    obtain ⟨o9, po9, q9, d9, gd9⟩ : ∃ o, ops[9]? = some o ∧ o.op = .assign (.tmp 60) ∧ o.dst = some 6 ∧ o.guard = none := ⟨_, by rw [hops]; rfl, rfl, rfl, rfl⟩
    clear hops
    refine met_free po0 d0 (wanted_of gd0) (fun w' h' => run_move q0 base0 w') ?_
    refine met_free po1 d1 (wanted_of gd1) (fun w' h' => run_fieldT (off := 1) q1 (fun _ => by kernel_rfl) ((eval_other _ 52 5 _ (by decide)).trans base5) w') ?_
    refine met_free po2 d2 (wanted_of gd2) (fun w' h' => run_loadI q2 (eval_same _ _ _ (by simp only [put_size, hsz]; decide)) h') ?_
    refine met_free po4 d4 (wanted_of gd4) (fun w' h' => run_move q4 ((eval_other _ 54 1 _ (by decide)).trans ((eval_other _ 53 1 _ (by decide)).trans ((eval_other _ 52 1 _ (by decide)).trans base1))) w') ?_
    refine met_free po5 d5 (wanted_of gd5) (fun w' h' => run_fieldT (off := 1) q5 (fun _ => by kernel_rfl) ((eval_other _ 56 5 _ (by decide)).trans ((eval_other _ 54 5 _ (by decide)).trans ((eval_other _ 53 5 _ (by decide)).trans ((eval_other _ 52 5 _ (by decide)).trans base5)))) w') ?_
    refine met_free po6 d6 (wanted_of gd6) (fun w' h' => run_loadI q6 (eval_same _ _ _ (by simp only [put_size, hsz]; decide)) h') ?_
    refine m_enter po3 d3 (wanted_of gd3) (run_callf2 q3 rfl ((eval_other _ 58 52 _ (by decide)).trans ((eval_other _ 57 52 _ (by decide)).trans ((eval_other _ 56 52 _ (by decide)).trans ((eval_other _ 54 52 _ (by decide)).trans ((eval_other _ 53 52 _ (by decide)).trans (eval_same _ _ _ (by rw [hsz]; decide))))))) ((eval_other _ 58 54 _ (by decide)).trans ((eval_other _ 57 54 _ (by decide)).trans ((eval_other _ 56 54 _ (by decide)).trans (eval_same _ _ _ (by simp only [put_size, hsz]; decide))))) Try.func53 (by kernel_rfl) _) (text_any _ g s most _ HR1.out.two.r.2) ?_
    rintro e w3 ⟨rfl, hr, hst⟩
    have HW3 := Lib.hid (HR1.out.stepR hg1 hr hst); clear hr hst
    refine ⟨_, rfl, HW3.out.cell1, ?_⟩
    refine m_enter po7 d7 (wanted_of gd7) (run_callf2 q7 rfl ((eval_other _ 55 56 _ (by decide)).trans ((eval_other _ 58 56 _ (by decide)).trans ((eval_other _ 57 56 _ (by decide)).trans (eval_same _ _ _ (by simp only [put_size, hsz]; decide))))) ((eval_other _ 55 58 _ (by decide)).trans (eval_same _ _ _ (by simp only [put_size, hsz]; decide))) Try.func99 (by kernel_rfl) _) (textRR_any _ g2 s most _ HW3.out.two.m.2 HS.out) ?_
    rintro e w4 ⟨rfl, hr, hst⟩
    have HW4 := Lib.hid (HW3.out.stepM hg2 hr hst); clear hr hst
    refine ⟨_, rfl, HW4.out.cell1, ?_⟩
    refine met_free po8 d8 (wanted_of gd8) (fun w' h' => run_eqlS q8 ((eval_other _ 59 55 _ (by decide)).trans (eval_same _ _ _ (by simp only [put_size, hsz]; decide))) (eval_same _ _ _ (by simp only [put_size, hsz]; decide)) w') ?_
    refine met_free po9 d9 (wanted_of gd9) (fun w' h' => run_assign q9 (eval_same _ _ _ (by simp only [put_size, hsz]; decide)) w') ?_
    show NoPanic _ .normal _ _
    refine NoPanic.normal ?_
    rw [HAA.out]
    go_frame
    clear HAA
    go_wp2_with fail
    go_ret
    exact ⟨rfl, _, HW4.out.two, RS.blobS_short HS.out most, HW4.out.stays⟩
end Go.Proofs.Ytadlpidhemjkgaa

/-
  PackReads' walk.
-/
namespace Go.Proofs.Ytadlpidhemjkgaa
open Go.RowKit Go.Proofs.ShaWords
theorem run_loadAsk {ρ : Operand → Value} {o : Oper} {x : Operand} {w : World} {b off : Nat} {k m : Int} (ho : o.op = .load 34 x) (hx : ρ x = .pointer (some ⟨b, off, none⟩)) (hr : w.rangeAt b off [.int .i64 k, .int .i64 m]) :
    (execOp ρ o).run Try.prog w = .ok (.value (.agg #[.int .i64 k, .int .i64 m])) w := by
  have h := run_loadAt_mid (P := Try.prog) w b off 34 [.int .i64 k, .int .i64 m] _ hr Try.underlying34 rfl (by kernel_rfl)
  unfold execOp
  simp only [ho, hx, Sem.run_bind, h, Result.andThen_ok, Sem.run_pure]
theorem Two.low {lo1 lo2 g g2 : Nat} {s t : RS} {w w' : World} {F : Nat → Prop} (h : Two lo1 lo2 g g2 s t w) (hst : Stays F w w') (hF : ∀ k, F k → k < lo1) : Two lo1 lo2 g g2 s t w' :=
  ⟨⟨h.r.1, h.r.2.keep hst (fun k f => by have := hF k f; have := h.r.1; exact ⟨by omega, fun d => by have := d.1; omega⟩)⟩, ⟨h.m.1, h.m.2.keep hst (fun k f => by have := hF k f; have := h.r.1; have := h.lt; have := h.m.1; exact ⟨by omega, fun d => by have := d.1; omega⟩)⟩, h.lt⟩
/-- What the loop of PackReads goes on with. -/
structure ReadsW (W : World) (lo1 lo2 g g2 : Nat) (wr : World) : Prop where
  below : Below W.heap.size W wr
  two : ∃ s : RS, Two lo1 lo2 g g2 s s wr ∧ s.Short
  base : W.heap.size ≤ lo1
/-- Things of so many cells, one behind the other. -/
theorem kept_range {W w : World} {b off : Nat} {cs : List Value} (h : W.rangeAt b off cs) (hb : Below W.heap.size W w) : w.rangeAt b off cs := range_keep h hb
set_option maxRecDepth 100000 in
set_option maxHeartbeats 2000000 in
theorem packReads_any (xs : List (BitVec 8)) (os : List AskM) (len0 len1 cap0 cap1 : Nat) (a0 a1 : Option Addr) (W : World) (hx : xs.length = len0) (_hc0 : len0 ≤ cap0) (hL : Lies W a0 xs) (ho : os.length = len1)
    (hO : os = [] ∨ ∃ b off, a1 = some ⟨b, off, none⟩ ∧ ∀ k (h : k < os.length), W.rangeAt b (off + k * 2) os[k].cells) :
    Calls Try.prog 12 #[.slice a0 len0 cap0, .slice a1 len1 cap1] W fun e W' => e = .returned (.bool true) ∧ Below W.heap.size W W' := by
  have HL := Lib.hid hL; clear hL
  have HX := Lib.hid hx; clear hx
  have HO := Lib.hid hO; clear hO
  have HON := Lib.hid ho; clear ho
  go_enter Try.func12, Try.ntmps12
  by_cases hbig : len0 > 4096
  · have q0 : (len0 : Int) > 4096 := by omega
    go_wp2_with (go_at_call 21; refine (works7_any W).mono ?_; rintro e w1 ⟨rfl, hb⟩; have HB := Lib.hid hb; clear hb)
    go_ret
    exact ⟨rfl, HB.out⟩
  have q0 : ¬ (len0 : Int) > 4096 := by omega
  have HXM : Hid ((xs ++ marks 5).length = len0 + 5) := show _ = _ by rw [List.length_append, marks_length, HX.out]
  have HC1 := Lib.hid (lent_bigL xs len0 a0 cap0 W HX.out (by omega) HL.out)
  go_upto_region 4 with (go_at_call 42; refine HC1.out.mono ?_; rintro e w1 ⟨v1, rfl, ho, hb⟩; obtain ⟨q1, k1, rfl, hk1, -, hl⟩ := ho.sl HXM.out; have HO1 := Lib.hid ho; have HL1 := Lib.hid hl; have HB1 := Lib.hid hb; clear ho hl hb)
  clear HC1
  have z1 : (len0 : Int) ≤ (k1 : Int) := by omega
  have HLF : Hid (Lies w1 q1 xs) := show Lies _ _ _ by
    have h := lies_takeB HL1.out len0
    rwa [List.take_append_of_le_length (by rw [HX.out]; omega), List.take_of_length_le (by rw [HX.out]; omega)] at h
  have HC1 := Lib.hid (readIn xs len0 q1 k1 w1 HX.out (by omega) HLF.out)
  go_upto_region 5 with (go_at_call 16; refine HC1.out.mono ?_; rintro e w2 ⟨g, rfl, hr, hb⟩; have HR2 := Lib.hid hr; have HB2 := Lib.hid hb; clear hr hb)
  clear HC1
  have hg2 := HR2.out.lt
  have HC1 := Lib.hid (readR_any xs len0 a0 cap0 w2 HX.out (by omega) ((HL.out.below HB1.out).below (HB2.out.mono (Nat.le_refl _))))
  go_upto_region 6 with (go_at_call 55; refine HC1.out.mono ?_; rintro e w3 ⟨g2, rfl, hlo, hm, hb⟩; have HM3 := Lib.hid hm; have hlo2 := hlo; have HB3 := Lib.hid hb; clear hlo hm hb)
  clear HC1
  have HT3 : Hid (Two w1.heap.size w2.heap.size g g2 ⟨xs, 0⟩ ⟨xs, 0⟩ w3) := show Two _ _ _ _ _ _ _ from ⟨HR2.out.below HB3.out, ⟨hlo2, HM3.out⟩, hg2⟩
  have HB13 : Hid (Below w1.heap.size w1 w3) := show Below _ _ _ from HB2.out.trans (HB3.out.mono HB2.out.size)
  have HO3 := Lib.hid (Own.below HO1.out HB13.out)
  have HK := Lib.hid (kept_big xs len0 (len0 + 5) q1 a0 k1 cap0 w3 HX.out (by omega) (by omega) (by omega) hk1 (HL1.out.below HB13.out) ((HL.out.below HB1.out).below HB13.out))
  have HB03 : Hid (Below W.heap.size W w3) := show Below _ _ _ from HB1.out.trans (HB13.out.mono HB1.out.size)
  have hw01 := HB1.out.size
  have HLT : Hid (∀ k, (Value.slice q1 (len0 + 5) k1).ownBlock = some k → W.heap.size ≤ k ∧ k < w1.heap.size) := show ∀ k, _ → _ from fun k hk => HO1.out.lt k hk
  clear HR2 HM3 HB2 HB3 HO1 HL1 HLF HB13 hlo2 hg2 z1 HL
  go_upto_region 9 with (first
    | (go_at_call 50; refine HK.out.mono ?_; rintro e w4 ⟨rfl, hb⟩; have HT4 := Lib.hid (HT3.out.below hb); have HO4 := Lib.hid (Own.below HO3.out hb); have HB4 := Lib.hid (HB03.out.trans (hb.mono HB03.out.size)); clear hb)
    | (go_at_call 49; refine (spoil_big (xs ++ marks 5) _ (len0 + 5) k1 q1 _ HXM.out (by omega) HO4.out).mono ?_; rintro e w5 ⟨rfl, hgr⟩; have HG5 := Lib.hid hgr; clear hgr))
  have hT5 : ReadsW W w1.heap.size w2.heap.size g g2 w5 :=
    ⟨HB4.out.grown HG5.out (HB4.out.size) (fun k hk => (HLT.out k hk).1), ⟨_, HT4.out.low (F := fun k => k < w1.heap.size) (grown_stays HG5.out (fun k hk => (HLT.out k hk).2)) (fun k f => f), show xs.length < _ by rw [HX.out]; omega⟩, hw01⟩
  have HT5 := Lib.hid hT5
  clear hT5 HT3 HO3 HK HB03 HT4 HO4 HB4 HG5 HLT hw01 hk1 HX HXM HB1
  generalize w1.heap.size = lo1 at *
  generalize w2.heap.size = lo2 at *
  have HWK : Hid (∀ w' : World, Below W.heap.size W w' → Calls Try.prog 21 #[] w' fun e w'' => e = .returned (.bool true) ∧ Below W.heap.size W w'') := show ∀ _, _ from fun w' h => (works7_any w').mono fun e w'' ⟨h1, h2⟩ => ⟨h1, h.trans (h2.mono h.size)⟩
  go_wp2_with fail
  go_loopw [8] (fun i wr => ∃ k : Nat, k ≤ len1 ∧ k ≤ 80 ∧ i = .int .i64 (k : Int) ∧ ReadsW W lo1 lo2 g g2 wr) (fun i _ => len1 - (intOf i).toNat)
  case atStart => exact ⟨0, by omega, by omega, rfl, HT5.out⟩
  case round =>
    clear HT5
    obtain ⟨k, hk1, hk2, rfl, hw⟩ := hrel
    obtain ⟨hb, ⟨s, ht, hsh⟩, hbase⟩ := hw
    by_cases hlt : k < len1 ∧ k < 80
    · obtain ⟨hl1, hl2⟩ := hlt
      have q1 : (k : Int) < (len1 : Int) := by omega
      have q2 : (k : Int) < 80 := by omega
      have hko : k < os.length := by rw [HON.out]; exact hl1
      rcases HO.out with h0 | ⟨b, off, rfl, hr⟩
      · exfalso; rw [h0] at hko; simp at hko
      have hrk := hr k hko
      clear hr
      obtain ⟨kd, ms, he⟩ : ∃ kd ms, os[k].cells = [.int .i64 kd, .int .i64 ms] := ⟨_, _, rfl⟩
      rw [he] at hrk
      have hrW := hrk
      clear hrk he
      have HRW := Lib.hid hrW; clear hrW
      have HB := Lib.hid hb; clear hb
      have HSH := Lib.hid hsh; clear hsh
      have HT := Lib.hid ht; clear ht
      have HL1 := Lib.hid (left_any _ g s wr HT.out.r.2)
      have HL2 := Lib.hid (leftR_any _ g2 s wr HT.out.m.2)
      generalize hn : s.bs.length = n at HL1 HL2
      clear hn
      go_wp2_with fail
      refine HL1.out.mono ?_
      rintro e w6 ⟨rfl, rfl⟩
      go_wp2_with fail
      refine HL2.out.mono ?_
      rintro e w7 ⟨rfl, hb⟩
      have HT7 := Lib.hid (HT.out.below hb)
      have HB7 := Lib.hid (HB.out.trans (hb.mono HB.out.size))
      clear hb HL1 HL2 HT HB
      have HL1 := Lib.hid (end_any _ g s w7 HT7.out.r.2)
      have HL2 := Lib.hid (endR_any _ g2 s w7 HT7.out.m.2)
      generalize hn : s.endV = n2 at HL1 HL2
      clear hn
      go_wp2_with fail
      refine HL1.out.mono ?_
      rintro e w8 ⟨rfl, rfl⟩
      go_wp2_with fail
      refine HL2.out.mono ?_
      rintro e w9 ⟨rfl, hb⟩
      have HT9 := Lib.hid (HT7.out.below hb)
      have HB9 := Lib.hid (HB7.out.trans (hb.mono HB7.out.size))
      clear hb HL1 HL2 HT7 HB7
      have HR9 := Lib.hid (range_keep HRW.out HB9.out)
      go_wp2_with (refine wpList_run (by rfl) (run_loadAsk rfl rfl HR9.out) ?_)
      refine (both_any lo1 lo2 g g2 s kd ms w9 HT9.out HSH.out).mono ?_
      rintro e w10 ⟨rfl, s', ht, hsh, hst⟩
      have HTA := Lib.hid ht
      have HSA := Lib.hid hsh
      have HBA := Lib.hid (HB9.out.trans (Stays.below hst (B := W.heap.size) (fun x e => by have := HT9.out.r.1; have := HT9.out.lt; have := HT9.out.m.1; omega) HB9.out.size))
      clear ht hsh hst HR9 HT9 HB9
      have HL1 := Lib.hid (bad_any _ g s' w10 HTA.out.r.2)
      have HL2 := Lib.hid (badR_any _ g2 s' w10 HTA.out.m.2)
      generalize decide (s'.e ≠ 0) = bd at HL1 HL2
      go_wp2_with fail
      refine HL1.out.mono ?_
      rintro e w11 ⟨rfl, rfl⟩
      go_wp2_with fail
      refine HL2.out.mono ?_
      rintro e w12 ⟨rfl, rfl⟩
      go_wp2_with fail
      go_roundw
      case rel => exact ⟨k + 1, by omega, by omega, by go_num, ⟨HBA.out, ⟨s', HTA.out, HSA.out⟩, hbase⟩⟩
      case measure => simp [intOf]; omega
    · have HB := Lib.hid hb; clear hb
      have HT := Lib.hid ht; clear ht
      have HL1 := Lib.hid (left_any _ g s wr HT.out.r.2)
      have HL2 := Lib.hid (leftR_any _ g2 s wr HT.out.m.2)
      generalize hn : s.bs.length = n at HL1 HL2
      clear hn hsh
      have HNN : Hid (k = len1 ∨ k = 80) := show _ ∨ _ by omega
      have q2 : ¬ ((k : Int) < (len1 : Int) ∧ (k : Int) < 80) := by omega
      by_cases hk : (k : Int) < (len1 : Int)
      · have q3 : ¬ (k : Int) < 80 := fun h => q2 ⟨hk, h⟩
        go_wp2_with fail
        refine HL1.out.mono ?_
        rintro e w6 ⟨rfl, rfl⟩
        go_wp2_with fail
        refine HL2.out.mono ?_
        rintro e w7 ⟨rfl, hb⟩
        have HT7 := Lib.hid (HT.out.below hb)
        have HB7 := Lib.hid (HB.out.trans (hb.mono HB.out.size))
        clear hb HL1 HL2 HT HB
        have HL1 := Lib.hid (end_any _ g s w7 HT7.out.r.2)
        have HL2 := Lib.hid (endR_any _ g2 s w7 HT7.out.m.2)
        generalize hn : s.endV = n2 at HL1 HL2
        clear hn
        go_wp2_with fail
        refine HL1.out.mono ?_
        rintro e w8 ⟨rfl, rfl⟩
        go_wp2_with fail
        refine HL2.out.mono ?_
        rintro e w9 ⟨rfl, hb⟩
        have HB9 := Lib.hid (HB7.out.trans (hb.mono HB7.out.size))
        clear hb HL1 HL2 HT7 HB7
        go_wp2_with fail
        refine (HWK.out w9 HB9.out).mono ?_
        rintro e w10 ⟨rfl, hb⟩
        have HBZ := Lib.hid hb
        clear hb
        go_wp2_with fail
        go_ret
        exact ⟨rfl, HBZ.out⟩
      · have q3 : ¬ (k : Int) < (len1 : Int) := hk
        go_wp2_with fail
        refine HL1.out.mono ?_
        rintro e w6 ⟨rfl, rfl⟩
        go_wp2_with fail
        refine HL2.out.mono ?_
        rintro e w7 ⟨rfl, hb⟩
        have HT7 := Lib.hid (HT.out.below hb)
        have HB7 := Lib.hid (HB.out.trans (hb.mono HB.out.size))
        clear hb HL1 HL2 HT HB
        have HL1 := Lib.hid (end_any _ g s w7 HT7.out.r.2)
        have HL2 := Lib.hid (endR_any _ g2 s w7 HT7.out.m.2)
        generalize hn : s.endV = n2 at HL1 HL2
        clear hn
        go_wp2_with fail
        refine HL1.out.mono ?_
        rintro e w8 ⟨rfl, rfl⟩
        go_wp2_with fail
        refine HL2.out.mono ?_
        rintro e w9 ⟨rfl, hb⟩
        have HB9 := Lib.hid (HB7.out.trans (hb.mono HB7.out.size))
        clear hb HL1 HL2 HT7 HB7
        go_wp2_with fail
        refine (HWK.out w9 HB9.out).mono ?_
        rintro e w10 ⟨rfl, hb⟩
        have HBZ := Lib.hid hb
        clear hb
        go_wp2_with fail
        go_ret
        exact ⟨rfl, HBZ.out⟩
end Go.Proofs.Ytadlpidhemjkgaa

/-
  The statements' laid: things, one behind the other.
-/
namespace Go.Proofs.Ytadlpidhemjkgaa
open Go.RowKit Go.Proofs.ShaWords
/-- A thing's bytes. -/
def Thing7.enc (t : Thing7) : List (BitVec 8) := if t.kind = 1 ∨ t.kind = 2 then be8 (t.b.length : Int) ++ t.b else if t.kind = 3 then t.s else be8 t.n
def encAll (ts : List Thing7) : List (BitVec 8) := ts.flatMap Thing7.enc
theorem encAll_take_succ (ts : List Thing7) (k : Nat) (h : k < ts.length) : encAll (ts.take (k + 1)) = encAll (ts.take k) ++ ts[k].enc := by
  unfold encAll
  rw [List.take_succ_eq_append_getElem h, List.flatMap_append]
  simp
theorem encAll_le (ts : List Thing7) (k : Nat) : (encAll (ts.take k)).length ≤ (encAll ts).length := by
  have h : encAll ts = encAll (ts.take k) ++ encAll (ts.drop k) := by
    unfold encAll
    rw [← List.flatMap_append, List.take_append_drop]
  rw [h, List.length_append]
  omega
/-- Things that lie one behind the other. -/
structure ThingsIn (w : World) (a : Option Addr) (ts : List Thing7) : Prop where
  at' : ts = [] ∨ ∃ b off, a = some ⟨b, off, none⟩ ∧ ∀ k (h : k < ts.length), w.rangeAt b (off + k * 35) ts[k].cells
  ok : ∀ t ∈ ts, t.Ok w
theorem Thing7.Ok.below {w w' : World} {t : Thing7} (h : t.Ok w) (hb : Below w.heap.size w w') : t.Ok w' := ⟨h.kindw, h.nw, h.lies.below hb, h.cap, h.sum⟩
theorem ThingsIn.below {w w' : World} {a : Option Addr} {ts : List Thing7} (h : ThingsIn w a ts) (hb : Below w.heap.size w w') : ThingsIn w' a ts := by
  refine ⟨?_, fun t ht => (h.ok t ht).below hb⟩
  rcases h.at' with h0 | ⟨b, off, h1, h2⟩
  · exact Or.inl h0
  · exact Or.inr ⟨b, off, h1, fun k hk => range_keep (h2 k hk) hb⟩
theorem ThingsIn.take {w : World} {a : Option Addr} {ts : List Thing7} (h : ThingsIn w a ts) (n : Nat) : ThingsIn w a (ts.take n) := by
  refine ⟨?_, fun t ht => h.ok t (List.mem_of_mem_take ht)⟩
  rcases h.at' with h0 | ⟨b, off, h1, h2⟩
  · exact Or.inl (by rw [h0]; simp)
  · exact Or.inr ⟨b, off, h1, fun k hk => by
      have hk' : k < ts.length := by rw [List.length_take] at hk; omega
      have := h2 k hk'
      rwa [List.getElem_take]⟩
theorem Thing7.one (t : Thing7) : t.cells.toArray.all (·.oneCell') = true :=
  Array.all_eq_true_iff_forall_mem.2 fun v hv => by
    simp only [Thing7.cells, List.mem_toArray, List.mem_append, List.mem_cons, List.not_mem_nil, or_false] at hv
    rcases hv with (rfl | rfl | rfl) | hv
    · rfl
    · rfl
    · rfl
    · exact bytesV_mem hv
theorem run_loadThing {ρ : Operand → Value} {o : Oper} {x : Operand} {w : World} {b off : Nat} {C : Array Value} (ho : o.op = .load 28 x) (hx : ρ x = .pointer (some ⟨b, off, none⟩)) (hr : w.rangeAt b off C.toList) (hC : C.size = 35) :
    (execOp ρ o).run Try.prog w = .ok (.value (.agg C)) w := by
  have h := run_loadAt_mid (P := Try.prog) w b off 28 C.toList _ hr Try.underlying28 rfl (by rw [Array.length_toList, hC]; kernel_rfl)
  unfold execOp
  simp only [ho, hx, Sem.run_bind, h, Result.andThen_ok, Sem.run_pure]
theorem size35 (C : Array Value) (h : C.size = 35) : (Try.prog.info? 28).map (·.size) = some C.size := by
  rw [h]; kernel_rfl
/-- A block that holds a thing. -/
structure BoxedAt (w : World) (g : Nat) (t : Thing7) : Prop where
  blk : w.heap[g]? = some (.cells t.cells.toArray 28 (0, 0))
  ok : t.Ok w
theorem BoxedAt.lt {w : World} {g : Nat} {t : Thing7} (h : BoxedAt w g t) : g < w.heap.size := (Array.getElem?_eq_some_iff.1 h.blk).1
theorem BoxedAt.below {w w' : World} {g : Nat} {t : Thing7} (h : BoxedAt w g t) (hb : Below w.heap.size w w') : BoxedAt w' g t := ⟨(hb.block g h.lt).trans h.blk, h.ok.below hb⟩
theorem BoxedAt.c0 {w : World} {g : Nat} {t : Thing7} (h : BoxedAt w g t) : w.cell? ⟨g, 0, none⟩ = some (.int .i64 t.kind) := by rw [cell_of_row w g _ _ _ _ h.blk]; rfl
theorem BoxedAt.c1 {w : World} {g : Nat} {t : Thing7} (h : BoxedAt w g t) : w.cell? ⟨g, 1, none⟩ = some (.int .i64 t.n) := by rw [cell_of_row w g _ _ _ _ h.blk]; rfl
theorem BoxedAt.c2 {w : World} {g : Nat} {t : Thing7} (h : BoxedAt w g t) : w.cell? ⟨g, 2, none⟩ = some (.slice t.p t.b.length t.c) := by rw [cell_of_row w g _ _ _ _ h.blk]; rfl
theorem BoxedAt.c3 {w : World} {g : Nat} {t : Thing7} (h : BoxedAt w g t) : w.rangeAt g 3 (bytesV t.s) := fun j v hv => by
  rw [cell_of_row w g _ _ _ _ h.blk]
  simp only [Thing7.cells, List.getElem?_toArray]
  rw [List.getElem?_append_right (by simp)]
  simpa using hv
theorem infoSumL (l : List (BitVec 8)) (h : l.length = 32) : (Try.prog.info? 26).map (·.size) = some (bytesV l).length := by
  rw [bytesV_length, h]; kernel_rfl
set_option maxRecDepth 100000 in
set_option maxHeartbeats 2000000 in
theorem laid_any (B : Nat) (l0 : List (BitVec 8)) (v0 : Value) (ts : List Thing7) (len cap : Nat) (a : Option Addr) (w : World) (hB : B ≤ w.heap.size) (h0 : Own B w l0 v0) (hlen : ts.length = len) (hl6 : len ≤ 1000000) (hT : ThingsIn w a ts) (hM : l0.length + (encAll ts).length < 1000000) :
    Calls Try.prog 63 #[v0, .slice a len cap] w fun e w' => ∃ r, e = .returned r ∧ Own B w' (l0 ++ encAll ts) r ∧ Below w.heap.size w w' := by
  have HT := Lib.hid hT; clear hT
  have HN := Lib.hid hlen; clear hlen
  have HO0 := Lib.hid h0; clear h0
  go_enter Try.func63, Try.ntmps63
  go_wp2_with fail
  go_loopw [0, 5] (fun v i wr => ∃ k : Nat, k ≤ len ∧ i = .int .i64 (k : Int) ∧ Own B wr (l0 ++ encAll (ts.take k)) v ∧ Below w.heap.size w wr) (fun _ i _ => len - (intOf i).toNat)
  case atStart => exact ⟨0, by omega, rfl, by simpa [encAll] using HO0.out, Below.refl _ _⟩
  case round =>
    clear HO0
    obtain ⟨k, hk, rfl, ho, hb⟩ := hrel
    have HB := Lib.hid hb
    have sz := hb.size
    clear hb
    by_cases hlt : k < len
    · have q0 : (k : Int) < (len : Int) := by omega
      have hkt : k < ts.length := by rw [HN.out]; exact hlt
      have HTW := Lib.hid (HT.out.below HB.out)
      have HTK := Lib.hid (encAll_take_succ ts k hkt)
      have hle := encAll_le ts (k + 1)
      rw [HTK.out, List.length_append] at hle
      have hok := HTW.out.ok ts[k] (List.getElem_mem hkt)
      rcases HTW.out.at' with h0 | ⟨b, off, rfl, hr⟩
      · exfalso; rw [h0] at hkt; simp at hkt
      have hrk := hr k hkt
      clear hr
      generalize ts[k] = t at *
      obtain ⟨q, n, c, rfl, hnl, -, -, hlv⟩ : ∃ q n c, u0 = .slice q n c ∧ (l0 ++ encAll (ts.take k)).length = n ∧ n ≤ c ∧ c ≤ maxLen ∧ Lies wr q (l0 ++ encAll (ts.take k)) := by
        obtain ⟨q, c, h1, h2, h3, h4⟩ := ho.lies
        exact ⟨q, _, c, h1, rfl, h2, h3, h4⟩
      have HCS : Hid (t.cells.toArray.size = 35) := show _ = _ by rw [List.size_toArray]; exact Thing7.cells_length hok.sum
      have HC1 : Hid (t.cells.toArray.all (·.oneCell') = true) := show _ = _ from t.one
      have HRK : Hid (wr.rangeAt b (off + k * 35) t.cells.toArray.toList) := show wr.rangeAt _ _ _ from hrk
      generalize hC : t.cells.toArray = C at HCS HC1 HRK
      have HC := Lib.hid hC; clear hC hrk
      go_upto_region 5 with (first
        | (refine wpList_run (by rfl) (run_loadThing rfl rfl HRK.out HCS.out) ?_)
        | (refine wpList_store_new rfl 28 (.tmp 6) (.tmp 16) rfl _ rfl C rfl rfl (size35 C HCS.out) (by rw [HCS.out]; rfl) HC1.out ?_; intro w2 h2 b2; have HX2 : Hid (BoxedAt w2 wr.heap.size t) := (show BoxedAt _ _ _ from ⟨by rw [HC.out]; exact h2, hok.below b2⟩); have HB2 := Lib.hid b2; clear h2 b2))
      rename World => w2
      have HO2 := Lib.hid (ho.below HB2.out)
      have HL2 := Lib.hid (hlv.below HB2.out)
      have c0 := HX2.out.c0
      have c1 := HX2.out.c1
      have c2 := HX2.out.c2
      have sz2 := HB2.out.size
      have HBA := Lib.hid (HB.out.trans (HB2.out.mono sz))
      clear ho hlv HRK HC HC1 HCS HB HB2 HTW
      obtain ⟨m, hm⟩ : ∃ m, t.b.length = m := ⟨_, rfl⟩
      rw [hm] at c2
      have HM := Lib.hid hm; clear hm
      have HNL := Lib.hid hnl
      have hnM : n + t.enc.length < 1000000 := by rw [List.length_append] at hnl; omega
      obtain ⟨kd, hkd⟩ : ∃ kd, t.kind = kd := ⟨_, rfl⟩
      have HKD := Lib.hid hkd
      rw [hkd] at c0
      clear hkd hle hnl
      by_cases h1 : kd = 1
      · subst h1
        have HE : Hid (t.enc = be8 (m : Int) ++ t.b) := show _ = _ by unfold Thing7.enc; rw [if_pos (Or.inl HKD.out), HM.out]
        have hmM : n + m < 1000000 := by have := congrArg List.length HE.out; rw [List.length_append, be8_length, HM.out] at this; omega
        have HP := Lib.hid (blobP_any _ t.b n m q t.p c t.c w2 HNL.out HM.out (by omega) HL2.out HX2.out.ok.lies)
        go_wp2_with (go_at_call 43; refine HP.out.mono ?_; rintro e w3 ⟨r, rfl, ho, hb⟩; rw [List.append_assoc, ← HE.out, List.append_assoc, ← HTK.out] at ho; have HO3 := Lib.hid (ho.lower (Nat.le_trans hB (Nat.le_trans sz sz2))); have HB3 := Lib.hid (HBA.out.trans (hb.mono (Nat.le_trans sz sz2))); clear ho hb)
        go_roundw
        case rel => exact ⟨k + 1, by omega, by go_num, HO3.out, HB3.out⟩
        case measure => simp [intOf]; omega
      by_cases h2 : kd = 2
      · subst h2
        have HE : Hid (t.enc = be8 (m : Int) ++ t.b) := show _ = _ by unfold Thing7.enc; rw [if_pos (Or.inr HKD.out), HM.out]
        have hmM : n + m < 1000000 := by have := congrArg List.length HE.out; rw [List.length_append, be8_length, HM.out] at this; omega
        have HP := Lib.hid (textP_any _ t.b n m q c w2 HNL.out HM.out (by omega) HL2.out)
        have hcv := run_strB HX2.out.ok.lies m t.c HM.out
        generalize strB t.b = S at HP hcv
        go_wp2_with (go_at_call 20; refine HP.out.mono ?_; rintro e w3 ⟨r, rfl, ho, hb⟩; rw [List.append_assoc, ← HE.out, List.append_assoc, ← HTK.out] at ho; have HO3 := Lib.hid (ho.lower (Nat.le_trans hB (Nat.le_trans sz sz2))); have HB3 := Lib.hid (HBA.out.trans (hb.mono (Nat.le_trans sz sz2))); clear ho hb)
        go_roundw
        case rel => exact ⟨k + 1, by omega, by go_num, HO3.out, HB3.out⟩
        case measure => simp [intOf]; omega
      by_cases h3 : kd = 3
      · subst h3
        have HE : Hid (t.enc = t.s) := show _ = _ by unfold Thing7.enc; rw [HKD.out]; simp
        have HP := Lib.hid (sumP_any _ t.s n q c w2 HNL.out HX2.out.ok.sum (by omega) HL2.out)
        have HR3 := Lib.hid HX2.out.c3
        go_wp2_with (first
          | (refine wpList_run (by rfl) (run_loadArr rfl rfl Try.underlying26 (infoSumL t.s HX2.out.ok.sum) HR3.out) ?_)
          | (go_at_call 44; refine HP.out.mono ?_; rintro e w3 ⟨r, rfl, ho, hb⟩; rw [← HE.out, List.append_assoc, ← HTK.out] at ho; have HO3 := Lib.hid (ho.lower (Nat.le_trans hB (Nat.le_trans sz sz2))); have HB3 := Lib.hid (HBA.out.trans (hb.mono (Nat.le_trans sz sz2))); clear ho hb))
        go_roundw
        case rel => exact ⟨k + 1, by omega, by go_num, HO3.out, HB3.out⟩
        case measure => simp [intOf]; omega
      · have HE : Hid (t.enc = be8 t.n) := show _ = _ by unfold Thing7.enc; rw [HKD.out, if_neg (by omega), if_neg h3]
        have HP := Lib.hid (intP_any t.n _ n q c w2 HNL.out (by omega) HL2.out)
        go_wp2_with (go_at_call 13; refine HP.out.mono ?_; rintro e w3 ⟨r, rfl, ho, hb⟩; rw [← HE.out, List.append_assoc, ← HTK.out] at ho; have HO3 := Lib.hid (ho.lower (Nat.le_trans hB (Nat.le_trans sz sz2))); have HB3 := Lib.hid (HBA.out.trans (hb.mono (Nat.le_trans sz sz2))); clear ho hb)
        go_roundw
        case rel => exact ⟨k + 1, by omega, by go_num, HO3.out, HB3.out⟩
        case measure => simp [intOf]; omega
    · have q0 : ¬ (k : Int) < (len : Int) := by omega
      have HTK : Hid (ts.take k = ts) := show _ = _ from List.take_of_length_le (by rw [HN.out]; omega)
      have HO := Lib.hid ho; clear ho
      go_wp2_with fail
      go_ret
      exact ⟨_, rfl, by have h := HO.out; rw [HTK.out] at h; exact h, HB.out⟩
end Go.Proofs.Ytadlpidhemjkgaa

/-
  The statements' read: a thing is asked of a reader.
-/
namespace Go.Proofs.Ytadlpidhemjkgaa
open Go.RowKit Go.Proofs.ShaWords
section
variable {ρ : Operand → Value} {o : Oper} {x y : Operand} {w : World}
theorem run_loadB {a : Addr} {p : Option Addr} {n c : Nat} (ho : o.op = .load 23 x) (hx : ρ x = .pointer (some a)) (hc : w.cell? a = some (.slice p n c)) : (execOp ρ o).run Try.prog w = .ok (.value (.slice p n c)) w := by
  obtain ⟨dst, op, ty', pos, after, guard⟩ := o
  simp only at ho
  subst ho
  go_simp
theorem run_addN {n m : Nat} {ty : TypeId} (ho : o.op = .binOp .add 3 x y ty) (hx : ρ x = .int .i64 (n : Int)) (hy : ρ y = .int .i64 (m : Int)) (hb : n + m < 9223372036854775808) (w : World) : (execOp ρ o).run Try.prog w = .ok (.value (.int .i64 ((n : Int) + (m : Int)))) w := by
  obtain ⟨dst, op, ty', pos, after, guard⟩ := o
  simp only at ho
  subst ho
  have h1 : IntKind.i64.wrap ((n : Int) + (m : Int)) = (n : Int) + (m : Int) := IntWalk.i64_in _ (by omega)
  go_simp
theorem run_addW {n m : Int} {ty : TypeId} (ho : o.op = .binOp .add 3 x y ty) (hx : ρ x = .int .i64 n) (hy : ρ y = .int .i64 m) (w : World) : (execOp ρ o).run Try.prog w = .ok (.value (.int .i64 (IntKind.i64.wrap (n + m)))) w := by
  obtain ⟨dst, op, ty', pos, after, guard⟩ := o
  simp only at ho
  subst ho
  go_simp
theorem run_maxI {n m : Int} (ho : o.op = .call { callee := .builtin .max, args := #[x, y], argTypes := #[3, 3] }) (hx : ρ x = .int .i64 n) (hy : ρ y = .int .i64 m) (w : World) : (execOp ρ o).run Try.prog w = .ok (.value (.int .i64 (if n < m then m else n))) w := by
  obtain ⟨dst, op, ty', pos, after, guard⟩ := o
  simp only at ho
  subst ho
  by_cases h : n < m
  · rw [if_pos h]
    go_simp
  · rw [if_neg h]
    go_simp
theorem run_eqI {n m : Int} {ty : TypeId} (ho : o.op = .binOp .eql 3 x y ty) (hx : ρ x = .int .i64 n) (hy : ρ y = .int .i64 m) (w : World) : (execOp ρ o).run Try.prog w = .ok (.value (.bool (decide (n = m)))) w := by
  obtain ⟨dst, op, ty', pos, after, guard⟩ := o
  simp only at ho
  subst ho
  by_cases h : n = m
  · subst h; go_simp
  · go_simp
theorem run_eqS {l m : List (BitVec 8)} {ty : TypeId} (ho : o.op = .binOp .eql 9 x y ty) (hx : ρ x = .string (strB l)) (hy : ρ y = .string (strB m)) (w : World) : (execOp ρ o).run Try.prog w = .ok (.value (.bool (decide (l = m)))) w := by
  have h := strB_eq l m
  obtain ⟨dst, op, ty', pos, after, guard⟩ := o
  simp only at ho
  subst ho
  generalize strB l = L at *
  generalize strB m = M at *
  generalize decide (l = m) = bb at *
  go_simp
theorem run_convS {p : Option Addr} {n c : Nat} {l : List (BitVec 8)} (ho : o.op = .convert 23 9 x) (hx : ρ x = .slice p n c) (h : Lies w p l) (hn : l.length = n) : (execOp ρ o).run Try.prog w = .ok (.value (.string (strB l))) w := by
  have h1 := run_strB h n c hn
  unfold execOp
  simp only [ho, hx, Sem.run_bind, h1, Result.andThen_ok, Sem.run_pure]
end
theorem BoxedAt.stay {D : Nat → Prop} {w w' : World} {b g : Nat} {t : Thing7} {s : RS} (h : BoxedAt w b t) (hr : RdAt D w g s) (hst : Stays (fun x => x = g) w w') (hb : b ≠ g) : BoxedAt w' b t :=
  ⟨(hst.block b h.lt hb).trans h.blk, h.ok.kindw, h.ok.nw, h.ok.lies.stay hst (fun off x => hr.noByte off x), h.ok.cap, h.ok.sum⟩
theorem BoxedAt.c2m {w : World} {g m : Nat} {t : Thing7} (h : BoxedAt w g t) (hm : t.b.length = m) : w.cell? ⟨g, 2, none⟩ = some (.slice t.p m t.c) := by rw [← hm]; exact h.c2
/-- How much may be counted. -/
def Thing7.most (t : Thing7) (room : Nat) : Int := if t.n < IntKind.i64.wrap (t.n + (room : Int)) then IntKind.i64.wrap (t.n + (room : Int)) else t.n
theorem run_maxT {ρ : Operand → Value} {o : Oper} {x y : Operand} {t : Thing7} {room : Nat} (ho : o.op = .call { callee := .builtin .max, args := #[x, y], argTypes := #[3, 3] }) (hx : ρ x = .int .i64 t.n) (hy : ρ y = .int .i64 (IntKind.i64.wrap (t.n + (room : Int)))) (w : World) :
    (execOp ρ o).run Try.prog w = .ok (.value (.int .i64 (t.most room))) w := run_maxI ho hx hy w
/-- The reader behind it. -/
def Thing7.readS (t : Thing7) (room : Nat) (s : RS) : RS := if t.kind = 1 ∨ t.kind = 2 then s.blobS ((t.b.length : Int) + (room : Int)) else if t.kind = 3 then s.next 32 else if t.kind = 4 ∧ 0 ≤ t.n then s.countS (t.most room) else s.next 8
/-- Is it read as it is? -/
def Thing7.readV (t : Thing7) (room : Nat) (s : RS) : Bool := if t.kind = 1 ∨ t.kind = 2 then decide (s.blobV ((t.b.length : Int) + (room : Int)) = t.b) else if t.kind = 3 then decide (s.sumV = t.s) else if t.kind = 4 ∧ 0 ≤ t.n then decide ((s.countV (t.most room) : Int) = t.n) else decide (s.intV = t.n)
/-- What read has in memory. -/
structure ReadW (D : Nat → Prop) (w0 : World) (g : Nat) (t : Thing7) (s : RS) (w : World) : Prop where
  rd : RdAt D w g s
  box : BoxedAt w w0.heap.size t
  stays : Stays (fun x => x = g) w0 w
theorem ReadW.below {D : Nat → Prop} {w0 w w' : World} {g : Nat} {t : Thing7} {s : RS} (h : ReadW D w0 g t s w) (hb : Below w.heap.size w w') : ReadW D w0 g t s w' :=
  ⟨h.rd.below hb, h.box.below hb, h.stays.trans (Below.stays hb (F := fun _ => False)) (fun _ h => h.elim)⟩
theorem ReadW.step {D : Nat → Prop} {w0 w w' : World} {g : Nat} {t : Thing7} {s s' : RS} (h : ReadW D w0 g t s w) (hg : g < w0.heap.size) (hr : RdAt D w' g s') (hst : Stays (fun x => x = g) w w') : ReadW D w0 g t s' w' :=
  ⟨hr, h.box.stay h.rd hst (by omega), h.stays.trans hst (fun _ e _ => e)⟩
attribute [local irreducible] Thing7.most
set_option maxRecDepth 100000 in
set_option maxHeartbeats 2000000 in
theorem pkRead_any (D : Nat → Prop) (g : Nat) (s : RS) (t : Thing7) (room : Nat) (w : World) (h : RdAt D w g s) (hs : s.bs.length < 1000000) (ht : t.Ok w) (htl : t.b.length < 1000000) (hroom : room ≤ 1000000) :
    Calls Try.prog 64 #[.pointer (some ⟨g, 0, none⟩), .agg t.cells.toArray, .int .i64 (room : Int)] w fun e w' => e = .returned (.bool (t.readV room s)) ∧ RdAt D w' g (t.readS room s) ∧ Stays (fun x => x = g) w w' := by
  have hg := h.lt
  have HSH : Hid (s.Short) := show s.bs.length < _ by omega
  have HS6 := Lib.hid hs
  have HTL := Lib.hid htl
  have HBS : Hid (∀ most, (s.blobV most).length < 1000000) := show ∀ _, _ from fun most => Nat.lt_of_le_of_lt RS.got_le (by
    refine Nat.lt_of_le_of_lt ?_ hs
    unfold RS.countS RS.next RS.fail
    split <;> split <;> simp)
  have HCS : Hid (t.cells.toArray.size = 35) := show _ = _ by rw [List.size_toArray]; exact Thing7.cells_length ht.sum
  have HW0 : Hid (ReadW D w g t s (w.alloc (.cells t.cells.toArray 28))) := show ReadW _ _ _ _ _ _ from
    ⟨h.below ((Below.refl _ _).alloc (Nat.le_refl _) _), ⟨heap_new_at rfl, ht.below ((Below.refl _ _).alloc (Nat.le_refl _) _)⟩, Below.stays ((Below.refl _ _).alloc (Nat.le_refl _) _)⟩
  clear h hs ht htl
  generalize hV : t.readV room s = V
  generalize hS2 : t.readS room s = S2
  have HV := Lib.hid hV
  have HS2 := Lib.hid hS2
  clear hV hS2
  generalize hC : t.cells.toArray = C at HCS HW0 ⊢
  clear hC
  go_enter Try.func64, Try.ntmps64
  go_upto_region 1 with fail
  refine wp_gen (ReadW D w g t s) HW0.out ?_
  clear HW0
  intro w1 hw1
  have HW1 := Lib.hid hw1
  have c0 := hw1.box.c0
  have c1 := hw1.box.c1
  clear hw1
  obtain ⟨kd, hkd⟩ : ∃ kd, t.kind = kd := ⟨_, rfl⟩
  rw [hkd] at c0
  have HKD := Lib.hid hkd
  clear hkd
  obtain ⟨m, hm⟩ : ∃ m, t.b.length = m := ⟨_, rfl⟩
  have htl := HTL.out
  rw [hm] at htl
  have HM := Lib.hid hm; clear hm
  by_cases h1 : kd = 1
  · subst h1
    have HVV : Hid (V = decide (s.blobV ((m : Int) + (room : Int)) = t.b)) := show _ = _ by rw [← HV.out, ← HM.out]; unfold Thing7.readV; rw [if_pos (Or.inl HKD.out)]
    have HSS : Hid (S2 = s.blobS ((m : Int) + (room : Int))) := show _ = _ by rw [← HS2.out, ← HM.out]; unfold Thing7.readS; rw [if_pos (Or.inl HKD.out)]
    go_upto_region 3 with fail
    have HR1 := Lib.hid (HW1.out.below (Below.drew0 w1))
    refine region_phase (fun w' => BoxedAt w' w.heap.size t) (fun _ => True) 6 (HR1.out.box) trivial [(0, .free), (1, .free), (2, .free), (3, .free), (4, .free), (5, .free), (7, .free), (8, .free), (6, .behind), (9, .behind), (10, .free)] (by kernel_rfl) (by kernel_rfl) (by kernel_rfl) (by kernel_rfl) (fun ops hops A hA => ?_)
    have hsz : A.tmps.size = 63 := by rw [hA]; rfl
    have base0 : A.eval (.tmp 0) = .pointer (some ⟨g, 0, none⟩) := by rw [hA]; rfl
    have base4 : A.eval (.tmp 4) = .pointer (some ⟨w.heap.size, 0, none⟩) := by rw [hA]; rfl
    have base2 : A.eval (.tmp 2) = .int .i64 (room : Int) := by rw [hA]; rfl
    have HAA := Lib.hid hA; clear hA
    obtain ⟨o0, po0, q0, d0, gd0⟩ : ∃ o, ops[0]? = some o ∧ o.op = .move (.tmp 0) ∧ o.dst = some 11 ∧ o.guard = none := ⟨_, by rw [hops]; rfl, rfl, rfl, rfl⟩
    obtain ⟨o1, po1, q1, d1, gd1⟩ : ∃ o, ops[1]? = some o ∧ o.op = .fieldAddr 28 (.tmp 4) 2 ∧ o.dst = some 12 ∧ o.guard = none := ⟨_, by rw [hops]; rfl, rfl, rfl, rfl⟩
    obtain ⟨o2, po2, q2, d2, gd2⟩ : ∃ o, ops[2]? = some o ∧ o.op = .load 23 (.tmp 12) ∧ o.dst = some 13 ∧ o.guard = none := ⟨_, by rw [hops]; rfl, rfl, rfl, rfl⟩
    obtain ⟨o3, po3, q3, d3, gd3⟩ : ∃ o, ops[3]? = some o ∧ o.op = .call { callee := .builtin .len, args := #[.tmp 13], argTypes := #[23] } ∧ o.dst = some 14 ∧ o.guard = none := ⟨_, by rw [hops]; rfl, rfl, rfl, rfl⟩
    obtain ⟨o4, po4, q4, d4, gd4⟩ : ∃ o, ops[4]? = some o ∧ o.op = .move (.tmp 2) ∧ o.dst = some 15 ∧ o.guard = none := ⟨_, by rw [hops]; rfl, rfl, rfl, rfl⟩
    obtain ⟨o5, po5, q5, d5, gd5⟩ : ∃ o, ops[5]? = some o ∧ o.op = .binOp .add 3 (.tmp 14) (.tmp 15) 3 ∧ o.dst = some 16 ∧ o.guard = none := ⟨_, by rw [hops]; rfl, rfl, rfl, rfl⟩
    obtain ⟨o6, po6, q6, d6, gd6⟩ : ∃ o, ops[6]? = some o ∧ o.op = .call { callee := .value (.func 52), args := #[.tmp 11, .tmp 16], argTypes := #[39, 3] } ∧ o.dst = some 17 ∧ o.guard = none := ⟨_, by rw [hops]; rfl, rfl, rfl, rfl⟩
    obtain ⟨o7, po7, q7, d7, gd7⟩ : ∃ o, ops[7]? = some o ∧ o.op = .fieldAddr 28 (.tmp 4) 2 ∧ o.dst = some 18 ∧ o.guard = none := ⟨_, by rw [hops]; rfl, rfl, rfl, rfl⟩
    obtain ⟨o8, po8, q8, d8, gd8⟩ : ∃ o, ops[8]? = some o ∧ o.op = .load 23 (.tmp 18) ∧ o.dst = some 19 ∧ o.guard = none := ⟨_, by rw [hops]; rfl, rfl, rfl, rfl⟩
    obtain ⟨o9, po9, q9, d9, gd9⟩ : ∃ o, ops[9]? = some o ∧ o.op = .call { callee := .value (.func 19), args := #[.tmp 17, .tmp 19], argTypes := #[23, 23] } ∧ o.dst = some 20 ∧ o.guard = none := ⟨_, by rw [hops]; rfl, rfl, rfl, rfl⟩
    obtain ⟨o10, po10, q10, d10, gd10⟩ : ∃ o, ops[10]? = some o ∧ o.op = .assign (.tmp 20) ∧ o.dst = some 6 ∧ o.guard = none := ⟨_, by rw [hops]; rfl, rfl, rfl, rfl⟩
    clear hops
    refine met_free po0 d0 (wanted_of gd0) (fun w' h' => run_move q0 base0 w') ?_
    refine met_free po1 d1 (wanted_of gd1) (fun w' h' => run_fieldT (off := 2) q1 (fun _ => by kernel_rfl) ((eval_other _ 11 4 _ (by decide)).trans base4) w') ?_
    refine met_free po2 d2 (wanted_of gd2) (fun w' h' => run_loadB q2 (eval_same _ _ _ (by simp only [put_size, hsz]; decide)) (h'.c2m HM.out)) ?_
    refine met_free po3 d3 (wanted_of gd3) (fun w' h' => run_len26 q3 (eval_same _ _ _ (by simp only [put_size, hsz]; decide)) w') ?_
    refine met_free po4 d4 (wanted_of gd4) (fun w' h' => run_move q4 ((eval_other _ 14 2 _ (by decide)).trans ((eval_other _ 13 2 _ (by decide)).trans ((eval_other _ 12 2 _ (by decide)).trans ((eval_other _ 11 2 _ (by decide)).trans base2)))) w') ?_
    refine met_free po5 d5 (wanted_of gd5) (fun w' h' => run_addN q5 ((eval_other _ 15 14 _ (by decide)).trans (eval_same _ _ _ (by simp only [put_size, hsz]; decide))) (eval_same _ _ _ (by simp only [put_size, hsz]; decide)) (by omega) w') ?_
    refine met_free po7 d7 (wanted_of gd7) (fun w' h' => run_fieldT (off := 2) q7 (fun _ => by kernel_rfl) ((eval_other _ 16 4 _ (by decide)).trans ((eval_other _ 15 4 _ (by decide)).trans ((eval_other _ 14 4 _ (by decide)).trans ((eval_other _ 13 4 _ (by decide)).trans ((eval_other _ 12 4 _ (by decide)).trans ((eval_other _ 11 4 _ (by decide)).trans base4)))))) w') ?_
    refine met_free po8 d8 (wanted_of gd8) (fun w' h' => run_loadB q8 (eval_same _ _ _ (by simp only [put_size, hsz]; decide)) (h'.c2m HM.out)) ?_
    refine m_enter po6 d6 (wanted_of gd6) (run_callf2 q6 rfl ((eval_other _ 19 11 _ (by decide)).trans ((eval_other _ 18 11 _ (by decide)).trans ((eval_other _ 16 11 _ (by decide)).trans ((eval_other _ 15 11 _ (by decide)).trans ((eval_other _ 14 11 _ (by decide)).trans ((eval_other _ 13 11 _ (by decide)).trans ((eval_other _ 12 11 _ (by decide)).trans (eval_same _ _ _ (by rw [hsz]; decide))))))))) ((eval_other _ 19 16 _ (by decide)).trans ((eval_other _ 18 16 _ (by decide)).trans (eval_same _ _ _ (by simp only [put_size, hsz]; decide)))) Try.func52 (by kernel_rfl) _) (blob_any D g s ((m : Int) + (room : Int)) _ HR1.out.rd HSH.out) ?_
    rintro e w3 ⟨v3, rfl, ho, hr, hst⟩
    have HW3 := Lib.hid (HR1.out.step hg hr hst)
    obtain ⟨q3, c3, rfl, -, -, hl3⟩ := ho.sl rfl
    have HL3 := Lib.hid hl3
    clear ho hr hst hl3
    refine ⟨_, rfl, HW3.out.box, ?_⟩
    refine m_enter po9 d9 (wanted_of gd9) (run_callf2 q9 rfl (eval_same _ _ _ (by simp only [put_size, hsz]; decide)) ((eval_other _ 17 19 _ (by decide)).trans (eval_same _ _ _ (by simp only [put_size, hsz]; decide))) Try.func19 (by kernel_rfl) _) (sameBytes_any (s.blobV ((m : Int) + (room : Int))) t.b _ m q3 t.p c3 t.c _ rfl HM.out (HBS.out _) (by omega) HL3.out HW3.out.box.ok.lies) ?_
    rintro e w4 ⟨rfl, hb⟩
    have HW4 := Lib.hid (HW3.out.below hb)
    clear hb
    refine ⟨_, rfl, HW4.out.box, ?_⟩
    refine met_free po10 d10 (wanted_of gd10) (fun w' h' => run_assign q10 (eval_same _ _ _ (by simp only [put_size, hsz]; decide)) w') ?_
    show NoPanic _ .normal _ _
    refine NoPanic.normal ?_
    rw [HAA.out]
    go_frame
    clear HAA
    go_wp2_with fail
    go_ret
    exact ⟨by rw [HVV.out]; rfl, by rw [HSS.out]; exact HW4.out.rd, HW4.out.stays⟩
  by_cases h2 : kd = 2
  · subst h2
    have HVV : Hid (V = decide (s.blobV ((m : Int) + (room : Int)) = t.b)) := show _ = _ by rw [← HV.out, ← HM.out]; unfold Thing7.readV; rw [if_pos (Or.inr HKD.out)]
    have HSS : Hid (S2 = s.blobS ((m : Int) + (room : Int))) := show _ = _ by rw [← HS2.out, ← HM.out]; unfold Thing7.readS; rw [if_pos (Or.inr HKD.out)]
    go_upto_region 5 with fail
    have HR1 := Lib.hid (HW1.out.below (Below.drew0 w1))
    refine region_phase (fun w' => BoxedAt w' w.heap.size t) (fun _ => True) 6 (HR1.out.box) trivial [(0, .free), (1, .free), (2, .free), (3, .free), (4, .free), (5, .free), (7, .free), (8, .free), (9, .free), (6, .behind), (10, .free), (11, .free)] (by kernel_rfl) (by kernel_rfl) (by kernel_rfl) (by kernel_rfl) (fun ops hops A hA => ?_)
    have hsz : A.tmps.size = 63 := by rw [hA]; rfl
    have base0 : A.eval (.tmp 0) = .pointer (some ⟨g, 0, none⟩) := by rw [hA]; rfl
    have base4 : A.eval (.tmp 4) = .pointer (some ⟨w.heap.size, 0, none⟩) := by rw [hA]; rfl
    have base2 : A.eval (.tmp 2) = .int .i64 (room : Int) := by rw [hA]; rfl
    have HAA := Lib.hid hA; clear hA
    obtain ⟨o0, po0, q0, d0, gd0⟩ : ∃ o, ops[0]? = some o ∧ o.op = .move (.tmp 0) ∧ o.dst = some 23 ∧ o.guard = none := ⟨_, by rw [hops]; rfl, rfl, rfl, rfl⟩
    obtain ⟨o1, po1, q1, d1, gd1⟩ : ∃ o, ops[1]? = some o ∧ o.op = .fieldAddr 28 (.tmp 4) 2 ∧ o.dst = some 24 ∧ o.guard = none := ⟨_, by rw [hops]; rfl, rfl, rfl, rfl⟩
    obtain ⟨o2, po2, q2, d2, gd2⟩ : ∃ o, ops[2]? = some o ∧ o.op = .load 23 (.tmp 24) ∧ o.dst = some 25 ∧ o.guard = none := ⟨_, by rw [hops]; rfl, rfl, rfl, rfl⟩
    obtain ⟨o3, po3, q3, d3, gd3⟩ : ∃ o, ops[3]? = some o ∧ o.op = .call { callee := .builtin .len, args := #[.tmp 25], argTypes := #[23] } ∧ o.dst = some 26 ∧ o.guard = none := ⟨_, by rw [hops]; rfl, rfl, rfl, rfl⟩
    obtain ⟨o4, po4, q4, d4, gd4⟩ : ∃ o, ops[4]? = some o ∧ o.op = .move (.tmp 2) ∧ o.dst = some 27 ∧ o.guard = none := ⟨_, by rw [hops]; rfl, rfl, rfl, rfl⟩
    obtain ⟨o5, po5, q5, d5, gd5⟩ : ∃ o, ops[5]? = some o ∧ o.op = .binOp .add 3 (.tmp 26) (.tmp 27) 3 ∧ o.dst = some 28 ∧ o.guard = none := ⟨_, by rw [hops]; rfl, rfl, rfl, rfl⟩
    obtain ⟨o6, po6, q6, d6, gd6⟩ : ∃ o, ops[6]? = some o ∧ o.op = .call { callee := .value (.func 53), args := #[.tmp 23, .tmp 28], argTypes := #[39, 3] } ∧ o.dst = some 29 ∧ o.guard = none := ⟨_, by rw [hops]; rfl, rfl, rfl, rfl⟩
    obtain ⟨o7, po7, q7, d7, gd7⟩ : ∃ o, ops[7]? = some o ∧ o.op = .fieldAddr 28 (.tmp 4) 2 ∧ o.dst = some 30 ∧ o.guard = none := ⟨_, by rw [hops]; rfl, rfl, rfl, rfl⟩
    obtain ⟨o8, po8, q8, d8, gd8⟩ : ∃ o, ops[8]? = some o ∧ o.op = .load 23 (.tmp 30) ∧ o.dst = some 31 ∧ o.guard = none := ⟨_, by rw [hops]; rfl, rfl, rfl, rfl⟩
    obtain ⟨o9, po9, q9, d9, gd9⟩ : ∃ o, ops[9]? = some o ∧ o.op = .convert 23 9 (.tmp 31) ∧ o.dst = some 32 ∧ o.guard = none := ⟨_, by rw [hops]; rfl, rfl, rfl, rfl⟩
    obtain ⟨o10, po10, q10, d10, gd10⟩ : ∃ o, ops[10]? = some o ∧ o.op = .binOp .eql 9 (.tmp 29) (.tmp 32) 9 ∧ o.dst = some 33 ∧ o.guard = none := ⟨_, by rw [hops]; rfl, rfl, rfl, rfl⟩
    obtain ⟨o11, po11, q11, d11, gd11⟩ : ∃ o, ops[11]? = some o ∧ o.op = .assign (.tmp 33) ∧ o.dst = some 6 ∧ o.guard = none := ⟨_, by rw [hops]; rfl, rfl, rfl, rfl⟩
    clear hops
    refine met_free po0 d0 (wanted_of gd0) (fun w' h' => run_move q0 base0 w') ?_
    refine met_free po1 d1 (wanted_of gd1) (fun w' h' => run_fieldT (off := 2) q1 (fun _ => by kernel_rfl) ((eval_other _ 23 4 _ (by decide)).trans base4) w') ?_
    refine met_free po2 d2 (wanted_of gd2) (fun w' h' => run_loadB q2 (eval_same _ _ _ (by simp only [put_size, hsz]; decide)) (h'.c2m HM.out)) ?_
    refine met_free po3 d3 (wanted_of gd3) (fun w' h' => run_len26 q3 (eval_same _ _ _ (by simp only [put_size, hsz]; decide)) w') ?_
    refine met_free po4 d4 (wanted_of gd4) (fun w' h' => run_move q4 ((eval_other _ 26 2 _ (by decide)).trans ((eval_other _ 25 2 _ (by decide)).trans ((eval_other _ 24 2 _ (by decide)).trans ((eval_other _ 23 2 _ (by decide)).trans base2)))) w') ?_
    refine met_free po5 d5 (wanted_of gd5) (fun w' h' => run_addN q5 ((eval_other _ 27 26 _ (by decide)).trans (eval_same _ _ _ (by simp only [put_size, hsz]; decide))) (eval_same _ _ _ (by simp only [put_size, hsz]; decide)) (by omega) w') ?_
    refine met_free po7 d7 (wanted_of gd7) (fun w' h' => run_fieldT (off := 2) q7 (fun _ => by kernel_rfl) ((eval_other _ 28 4 _ (by decide)).trans ((eval_other _ 27 4 _ (by decide)).trans ((eval_other _ 26 4 _ (by decide)).trans ((eval_other _ 25 4 _ (by decide)).trans ((eval_other _ 24 4 _ (by decide)).trans ((eval_other _ 23 4 _ (by decide)).trans base4)))))) w') ?_
    refine met_free po8 d8 (wanted_of gd8) (fun w' h' => run_loadB q8 (eval_same _ _ _ (by simp only [put_size, hsz]; decide)) (h'.c2m HM.out)) ?_
    refine met_free po9 d9 (wanted_of gd9) (fun w' h' => run_convS q9 (eval_same _ _ _ (by simp only [put_size, hsz]; decide)) h'.ok.lies HM.out) ?_
    refine m_enter po6 d6 (wanted_of gd6) (run_callf2 q6 rfl ((eval_other _ 32 23 _ (by decide)).trans ((eval_other _ 31 23 _ (by decide)).trans ((eval_other _ 30 23 _ (by decide)).trans ((eval_other _ 28 23 _ (by decide)).trans ((eval_other _ 27 23 _ (by decide)).trans ((eval_other _ 26 23 _ (by decide)).trans ((eval_other _ 25 23 _ (by decide)).trans ((eval_other _ 24 23 _ (by decide)).trans (eval_same _ _ _ (by rw [hsz]; decide)))))))))) ((eval_other _ 32 28 _ (by decide)).trans ((eval_other _ 31 28 _ (by decide)).trans ((eval_other _ 30 28 _ (by decide)).trans (eval_same _ _ _ (by simp only [put_size, hsz]; decide))))) Try.func53 (by kernel_rfl) _) (text_any D g s ((m : Int) + (room : Int)) _ HR1.out.rd) ?_
    rintro e w3 ⟨rfl, hr, hst⟩
    have HW3 := Lib.hid (HR1.out.step hg hr hst)
    clear hr hst
    refine ⟨_, rfl, HW3.out.box, ?_⟩
    refine met_free po10 d10 (wanted_of gd10) (fun w' h' => run_eqS q10 (eval_same _ _ _ (by simp only [put_size, hsz]; decide)) ((eval_other _ 29 32 _ (by decide)).trans (eval_same _ _ _ (by simp only [put_size, hsz]; decide))) w') ?_
    refine met_free po11 d11 (wanted_of gd11) (fun w' h' => run_assign q11 (eval_same _ _ _ (by simp only [put_size, hsz]; decide)) w') ?_
    show NoPanic _ .normal _ _
    refine NoPanic.normal ?_
    rw [HAA.out]
    go_frame
    clear HAA
    go_wp2_with fail
    go_ret
    exact ⟨by rw [HVV.out]; rfl, by rw [HSS.out]; exact HW3.out.rd, HW3.out.stays⟩
  have HN12 : Hid (¬ (t.kind = 1 ∨ t.kind = 2)) := show ¬ _ by rw [HKD.out]; omega
  by_cases h3 : kd = 3
  · subst h3
    have HVV : Hid (V = decide (s.sumV = t.s)) := show _ = _ by rw [← HV.out]; unfold Thing7.readV; rw [if_neg HN12.out, if_pos HKD.out]
    have HSS : Hid (S2 = s.next 32) := show _ = _ by rw [← HS2.out]; unfold Thing7.readS; rw [if_neg HN12.out, if_pos HKD.out]
    go_upto_region 7 with fail
    have HR1 := Lib.hid (HW1.out.below (Below.drew0 w1))
    refine region_phase (fun w' => BoxedAt w' w.heap.size t) (fun _ => True) 1 (HR1.out.box) trivial [(0, .free), (2, .free), (3, .free), (1, .behind), (4, .free), (5, .free)] (by kernel_rfl) (by kernel_rfl) (by kernel_rfl) (by kernel_rfl) (fun ops hops A hA => ?_)
    have hsz : A.tmps.size = 63 := by rw [hA]; rfl
    have base0 : A.eval (.tmp 0) = .pointer (some ⟨g, 0, none⟩) := by rw [hA]; rfl
    have base4 : A.eval (.tmp 4) = .pointer (some ⟨w.heap.size, 0, none⟩) := by rw [hA]; rfl
    have base2 : A.eval (.tmp 2) = .int .i64 (room : Int) := by rw [hA]; rfl
    have HAA := Lib.hid hA; clear hA
    obtain ⟨o0, po0, q0, d0, gd0⟩ : ∃ o, ops[0]? = some o ∧ o.op = .move (.tmp 0) ∧ o.dst = some 36 ∧ o.guard = none := ⟨_, by rw [hops]; rfl, rfl, rfl, rfl⟩
    obtain ⟨o1, po1, q1, d1, gd1⟩ : ∃ o, ops[1]? = some o ∧ o.op = .call { callee := .value (.func 65), args := #[.tmp 36], argTypes := #[39] } ∧ o.dst = some 37 ∧ o.guard = none := ⟨_, by rw [hops]; rfl, rfl, rfl, rfl⟩
    obtain ⟨o2, po2, q2, d2, gd2⟩ : ∃ o, ops[2]? = some o ∧ o.op = .fieldAddr 28 (.tmp 4) 3 ∧ o.dst = some 38 ∧ o.guard = none := ⟨_, by rw [hops]; rfl, rfl, rfl, rfl⟩
    obtain ⟨o3, po3, q3, d3, gd3⟩ : ∃ o, ops[3]? = some o ∧ o.op = .load 26 (.tmp 38) ∧ o.dst = some 39 ∧ o.guard = none := ⟨_, by rw [hops]; rfl, rfl, rfl, rfl⟩
    obtain ⟨o4, po4, q4, d4, gd4⟩ : ∃ o, ops[4]? = some o ∧ o.op = .binOp .eql 26 (.tmp 37) (.tmp 39) 26 ∧ o.dst = some 40 ∧ o.guard = none := ⟨_, by rw [hops]; rfl, rfl, rfl, rfl⟩
    obtain ⟨o5, po5, q5, d5, gd5⟩ : ∃ o, ops[5]? = some o ∧ o.op = .assign (.tmp 40) ∧ o.dst = some 6 ∧ o.guard = none := ⟨_, by rw [hops]; rfl, rfl, rfl, rfl⟩
    clear hops
    refine met_free po0 d0 (wanted_of gd0) (fun w' h' => run_move q0 base0 w') ?_
    refine met_free po2 d2 (wanted_of gd2) (fun w' h' => run_fieldT (off := 3) q2 (fun _ => by kernel_rfl) ((eval_other _ 36 4 _ (by decide)).trans base4) w') ?_
    refine met_free po3 d3 (wanted_of gd3) (fun w' h' => run_loadArr q3 (eval_same _ _ _ (by simp only [put_size, hsz]; decide)) Try.underlying26 (infoSumL t.s h'.ok.sum) h'.c3) ?_
    refine m_enter po1 d1 (wanted_of gd1) (run_callf1 q1 rfl ((eval_other _ 39 36 _ (by decide)).trans ((eval_other _ 38 36 _ (by decide)).trans (eval_same _ _ _ (by rw [hsz]; decide)))) Try.func65 (by kernel_rfl) _) (sum_any D g s _ HR1.out.rd) ?_
    rintro e w3 ⟨rfl, hr, hst⟩
    have HW3 := Lib.hid (HR1.out.step hg hr hst)
    clear hr hst
    refine ⟨_, rfl, HW3.out.box, ?_⟩
    have HEG : Hid (Try.prog.eqGuardType Try.prog.depth 26 = false) := show _ = _ by kernel_rfl
    refine met_free po4 d4 (wanted_of gd4) (fun w' h' => run_eqArr q4 Try.underlying26 HEG.out (sumV_length s) HW1.out.box.ok.sum (eval_same _ _ _ (by simp only [put_size, hsz]; decide)) ((eval_other _ 37 39 _ (by decide)).trans (eval_same _ _ _ (by simp only [put_size, hsz]; decide))) w') ?_
    refine met_free po5 d5 (wanted_of gd5) (fun w' h' => run_assign q5 (eval_same _ _ _ (by simp only [put_size, hsz]; decide)) w') ?_
    show NoPanic _ .normal _ _
    refine NoPanic.normal ?_
    rw [HAA.out]
    go_frame
    clear HAA
    go_wp2_with fail
    go_ret
    exact ⟨by rw [HVV.out]; rfl, by rw [HSS.out]; exact HW3.out.rd, HW3.out.stays⟩
  have HN3 : Hid (¬ t.kind = 3) := show ¬ _ by rw [HKD.out]; exact h3
  by_cases h4 : kd = 4 ∧ 0 ≤ t.n
  · obtain ⟨rfl, hn0⟩ := h4
    have HVV : Hid (V = decide ((s.countV (t.most room) : Int) = t.n)) := show _ = _ by rw [← HV.out]; unfold Thing7.readV; rw [if_neg HN12.out, if_neg HN3.out, if_pos ⟨HKD.out, hn0⟩]
    have HSS : Hid (S2 = s.countS (t.most room)) := show _ = _ by rw [← HS2.out]; unfold Thing7.readS; rw [if_neg HN12.out, if_neg HN3.out, if_pos ⟨HKD.out, hn0⟩]
    have q0 : t.n ≥ 0 := hn0
    go_upto_region 10 with fail
    have HR1 := Lib.hid (HW1.out.below (Below.drew0 w1))
    refine region_phase (fun w' => BoxedAt w' w.heap.size t) (fun _ => True) 8 (HR1.out.box) trivial [(0, .free), (1, .free), (2, .free), (3, .free), (4, .free), (5, .free), (6, .free), (7, .free), (9, .free), (10, .free), (8, .behind), (11, .free), (12, .free)] (by kernel_rfl) (by kernel_rfl) (by kernel_rfl) (by kernel_rfl) (fun ops hops A hA => ?_)
    have hsz : A.tmps.size = 63 := by rw [hA]; rfl
    have base0 : A.eval (.tmp 0) = .pointer (some ⟨g, 0, none⟩) := by rw [hA]; rfl
    have base4 : A.eval (.tmp 4) = .pointer (some ⟨w.heap.size, 0, none⟩) := by rw [hA]; rfl
    have base2 : A.eval (.tmp 2) = .int .i64 (room : Int) := by rw [hA]; rfl
    have HAA := Lib.hid hA; clear hA
    obtain ⟨o0, po0, q0, d0, gd0⟩ : ∃ o, ops[0]? = some o ∧ o.op = .move (.tmp 0) ∧ o.dst = some 46 ∧ o.guard = none := ⟨_, by rw [hops]; rfl, rfl, rfl, rfl⟩
    obtain ⟨o1, po1, q1, d1, gd1⟩ : ∃ o, ops[1]? = some o ∧ o.op = .fieldAddr 28 (.tmp 4) 1 ∧ o.dst = some 47 ∧ o.guard = none := ⟨_, by rw [hops]; rfl, rfl, rfl, rfl⟩
    obtain ⟨o2, po2, q2, d2, gd2⟩ : ∃ o, ops[2]? = some o ∧ o.op = .load 3 (.tmp 47) ∧ o.dst = some 48 ∧ o.guard = none := ⟨_, by rw [hops]; rfl, rfl, rfl, rfl⟩
    obtain ⟨o3, po3, q3, d3, gd3⟩ : ∃ o, ops[3]? = some o ∧ o.op = .fieldAddr 28 (.tmp 4) 1 ∧ o.dst = some 49 ∧ o.guard = none := ⟨_, by rw [hops]; rfl, rfl, rfl, rfl⟩
    obtain ⟨o4, po4, q4, d4, gd4⟩ : ∃ o, ops[4]? = some o ∧ o.op = .load 3 (.tmp 49) ∧ o.dst = some 50 ∧ o.guard = none := ⟨_, by rw [hops]; rfl, rfl, rfl, rfl⟩
    obtain ⟨o5, po5, q5, d5, gd5⟩ : ∃ o, ops[5]? = some o ∧ o.op = .move (.tmp 2) ∧ o.dst = some 51 ∧ o.guard = none := ⟨_, by rw [hops]; rfl, rfl, rfl, rfl⟩
    obtain ⟨o6, po6, q6, d6, gd6⟩ : ∃ o, ops[6]? = some o ∧ o.op = .binOp .add 3 (.tmp 50) (.tmp 51) 3 ∧ o.dst = some 52 ∧ o.guard = none := ⟨_, by rw [hops]; rfl, rfl, rfl, rfl⟩
    obtain ⟨o7, po7, q7, d7, gd7⟩ : ∃ o, ops[7]? = some o ∧ o.op = .call { callee := .builtin .max, args := #[.tmp 48, .tmp 52], argTypes := #[3, 3] } ∧ o.dst = some 53 ∧ o.guard = none := ⟨_, by rw [hops]; rfl, rfl, rfl, rfl⟩
    obtain ⟨o8, po8, q8, d8, gd8⟩ : ∃ o, ops[8]? = some o ∧ o.op = .call { callee := .value (.func 51), args := #[.tmp 46, .tmp 53], argTypes := #[39, 3] } ∧ o.dst = some 54 ∧ o.guard = none := ⟨_, by rw [hops]; rfl, rfl, rfl, rfl⟩
    obtain ⟨o9, po9, q9, d9, gd9⟩ : ∃ o, ops[9]? = some o ∧ o.op = .fieldAddr 28 (.tmp 4) 1 ∧ o.dst = some 55 ∧ o.guard = none := ⟨_, by rw [hops]; rfl, rfl, rfl, rfl⟩
    obtain ⟨o10, po10, q10, d10, gd10⟩ : ∃ o, ops[10]? = some o ∧ o.op = .load 3 (.tmp 55) ∧ o.dst = some 56 ∧ o.guard = none := ⟨_, by rw [hops]; rfl, rfl, rfl, rfl⟩
    obtain ⟨o11, po11, q11, d11, gd11⟩ : ∃ o, ops[11]? = some o ∧ o.op = .binOp .eql 3 (.tmp 54) (.tmp 56) 3 ∧ o.dst = some 57 ∧ o.guard = none := ⟨_, by rw [hops]; rfl, rfl, rfl, rfl⟩
    obtain ⟨o12, po12, q12, d12, gd12⟩ : ∃ o, ops[12]? = some o ∧ o.op = .assign (.tmp 57) ∧ o.dst = some 6 ∧ o.guard = none := ⟨_, by rw [hops]; rfl, rfl, rfl, rfl⟩
    clear hops
    refine met_free po0 d0 (wanted_of gd0) (fun w' h' => run_move q0 base0 w') ?_
    refine met_free po1 d1 (wanted_of gd1) (fun w' h' => run_fieldT (off := 1) q1 (fun _ => by kernel_rfl) ((eval_other _ 46 4 _ (by decide)).trans base4) w') ?_
    refine met_free po2 d2 (wanted_of gd2) (fun w' h' => run_loadI q2 (eval_same _ _ _ (by simp only [put_size, hsz]; decide)) h'.c1) ?_
    refine met_free po3 d3 (wanted_of gd3) (fun w' h' => run_fieldT (off := 1) q3 (fun _ => by kernel_rfl) ((eval_other _ 48 4 _ (by decide)).trans ((eval_other _ 47 4 _ (by decide)).trans ((eval_other _ 46 4 _ (by decide)).trans base4))) w') ?_
    refine met_free po4 d4 (wanted_of gd4) (fun w' h' => run_loadI q4 (eval_same _ _ _ (by simp only [put_size, hsz]; decide)) h'.c1) ?_
    refine met_free po5 d5 (wanted_of gd5) (fun w' h' => run_move q5 ((eval_other _ 50 2 _ (by decide)).trans ((eval_other _ 49 2 _ (by decide)).trans ((eval_other _ 48 2 _ (by decide)).trans ((eval_other _ 47 2 _ (by decide)).trans ((eval_other _ 46 2 _ (by decide)).trans base2))))) w') ?_
    refine met_free po6 d6 (wanted_of gd6) (fun w' h' => run_addW q6 ((eval_other _ 51 50 _ (by decide)).trans (eval_same _ _ _ (by simp only [put_size, hsz]; decide))) (eval_same _ _ _ (by simp only [put_size, hsz]; decide)) w') ?_
    refine met_free po7 d7 (wanted_of gd7) (fun w' h' => run_maxT q7 ((eval_other _ 52 48 _ (by decide)).trans ((eval_other _ 51 48 _ (by decide)).trans ((eval_other _ 50 48 _ (by decide)).trans ((eval_other _ 49 48 _ (by decide)).trans (eval_same _ _ _ (by simp only [put_size, hsz]; decide)))))) (eval_same _ _ _ (by simp only [put_size, hsz]; decide)) w') ?_
    refine met_free po9 d9 (wanted_of gd9) (fun w' h' => run_fieldT (off := 1) q9 (fun _ => by kernel_rfl) ((eval_other _ 53 4 _ (by decide)).trans ((eval_other _ 52 4 _ (by decide)).trans ((eval_other _ 51 4 _ (by decide)).trans ((eval_other _ 50 4 _ (by decide)).trans ((eval_other _ 49 4 _ (by decide)).trans ((eval_other _ 48 4 _ (by decide)).trans ((eval_other _ 47 4 _ (by decide)).trans ((eval_other _ 46 4 _ (by decide)).trans base4)))))))) w') ?_
    refine met_free po10 d10 (wanted_of gd10) (fun w' h' => run_loadI q10 (eval_same _ _ _ (by simp only [put_size, hsz]; decide)) h'.c1) ?_
    refine m_enter po8 d8 (wanted_of gd8) (run_callf2 q8 rfl ((eval_other _ 56 46 _ (by decide)).trans ((eval_other _ 55 46 _ (by decide)).trans ((eval_other _ 53 46 _ (by decide)).trans ((eval_other _ 52 46 _ (by decide)).trans ((eval_other _ 51 46 _ (by decide)).trans ((eval_other _ 50 46 _ (by decide)).trans ((eval_other _ 49 46 _ (by decide)).trans ((eval_other _ 48 46 _ (by decide)).trans ((eval_other _ 47 46 _ (by decide)).trans (eval_same _ _ _ (by rw [hsz]; decide))))))))))) ((eval_other _ 56 53 _ (by decide)).trans ((eval_other _ 55 53 _ (by decide)).trans (eval_same _ _ _ (by simp only [put_size, hsz]; decide)))) Try.func51 (by kernel_rfl) _) (count_any D g s (t.most room) _ HR1.out.rd) ?_
    rintro e w3 ⟨rfl, hr, hst⟩
    have HW3 := Lib.hid (HR1.out.step hg hr hst)
    clear hr hst
    refine ⟨_, rfl, HW3.out.box, ?_⟩
    refine met_free po11 d11 (wanted_of gd11) (fun w' h' => run_eqI q11 (eval_same _ _ _ (by simp only [put_size, hsz]; decide)) ((eval_other _ 54 56 _ (by decide)).trans (eval_same _ _ _ (by simp only [put_size, hsz]; decide))) w') ?_
    refine met_free po12 d12 (wanted_of gd12) (fun w' h' => run_assign q12 (eval_same _ _ _ (by simp only [put_size, hsz]; decide)) w') ?_
    show NoPanic _ .normal _ _
    refine NoPanic.normal ?_
    rw [HAA.out]
    go_frame
    clear HAA
    go_wp2_with fail
    go_ret
    exact ⟨by rw [HVV.out]; rfl, by rw [HSS.out]; exact HW3.out.rd, HW3.out.stays⟩
  · have HVV : Hid (V = decide (s.intV = t.n)) := show _ = _ by rw [← HV.out]; unfold Thing7.readV; rw [if_neg HN12.out, if_neg HN3.out, if_neg (by rw [HKD.out]; exact h4)]
    have HSS : Hid (S2 = s.next 8) := show _ = _ by rw [← HS2.out]; unfold Thing7.readS; rw [if_neg HN12.out, if_neg HN3.out, if_neg (by rw [HKD.out]; exact h4)]
    by_cases h5 : kd = 4
    · subst h5
      have hn0 : ¬ t.n ≥ 0 := fun h => h4 ⟨rfl, h⟩
      go_upto_region 11 with fail
      have HR1 := Lib.hid (HW1.out.below (Below.drew0 w1))
      refine region_phase (fun w' => BoxedAt w' w.heap.size t) (fun _ => True) 1 (HR1.out.box) trivial [(0, .free), (2, .free), (3, .free), (1, .behind), (4, .free), (5, .free)] (by kernel_rfl) (by kernel_rfl) (by kernel_rfl) (by kernel_rfl) (fun ops hops A hA => ?_)
      have hsz : A.tmps.size = 63 := by rw [hA]; rfl
      have base0 : A.eval (.tmp 0) = .pointer (some ⟨g, 0, none⟩) := by rw [hA]; rfl
      have base4 : A.eval (.tmp 4) = .pointer (some ⟨w.heap.size, 0, none⟩) := by rw [hA]; rfl
      have base2 : A.eval (.tmp 2) = .int .i64 (room : Int) := by rw [hA]; rfl
      have HAA := Lib.hid hA; clear hA
      obtain ⟨o0, po0, q0, d0, gd0⟩ : ∃ o, ops[0]? = some o ∧ o.op = .move (.tmp 0) ∧ o.dst = some 58 ∧ o.guard = none := ⟨_, by rw [hops]; rfl, rfl, rfl, rfl⟩
      obtain ⟨o1, po1, q1, d1, gd1⟩ : ∃ o, ops[1]? = some o ∧ o.op = .call { callee := .value (.func 18), args := #[.tmp 58], argTypes := #[39] } ∧ o.dst = some 59 ∧ o.guard = none := ⟨_, by rw [hops]; rfl, rfl, rfl, rfl⟩
      obtain ⟨o2, po2, q2, d2, gd2⟩ : ∃ o, ops[2]? = some o ∧ o.op = .fieldAddr 28 (.tmp 4) 1 ∧ o.dst = some 60 ∧ o.guard = none := ⟨_, by rw [hops]; rfl, rfl, rfl, rfl⟩
      obtain ⟨o3, po3, q3, d3, gd3⟩ : ∃ o, ops[3]? = some o ∧ o.op = .load 3 (.tmp 60) ∧ o.dst = some 61 ∧ o.guard = none := ⟨_, by rw [hops]; rfl, rfl, rfl, rfl⟩
      obtain ⟨o4, po4, q4, d4, gd4⟩ : ∃ o, ops[4]? = some o ∧ o.op = .binOp .eql 3 (.tmp 59) (.tmp 61) 3 ∧ o.dst = some 62 ∧ o.guard = none := ⟨_, by rw [hops]; rfl, rfl, rfl, rfl⟩
      obtain ⟨o5, po5, q5, d5, gd5⟩ : ∃ o, ops[5]? = some o ∧ o.op = .assign (.tmp 62) ∧ o.dst = some 6 ∧ o.guard = none := ⟨_, by rw [hops]; rfl, rfl, rfl, rfl⟩
      clear hops
      refine met_free po0 d0 (wanted_of gd0) (fun w' h' => run_move q0 base0 w') ?_
      refine met_free po2 d2 (wanted_of gd2) (fun w' h' => run_fieldT (off := 1) q2 (fun _ => by kernel_rfl) ((eval_other _ 58 4 _ (by decide)).trans base4) w') ?_
      refine met_free po3 d3 (wanted_of gd3) (fun w' h' => run_loadI q3 (eval_same _ _ _ (by simp only [put_size, hsz]; decide)) h'.c1) ?_
      refine m_enter po1 d1 (wanted_of gd1) (run_callf1 q1 rfl ((eval_other _ 61 58 _ (by decide)).trans ((eval_other _ 60 58 _ (by decide)).trans (eval_same _ _ _ (by rw [hsz]; decide)))) Try.func18 (by kernel_rfl) _) (int_any D g s _ HR1.out.rd) ?_
      rintro e w3 ⟨rfl, hr, hst⟩
      have HW3 := Lib.hid (HR1.out.step hg hr hst)
      clear hr hst
      refine ⟨_, rfl, HW3.out.box, ?_⟩
      refine met_free po4 d4 (wanted_of gd4) (fun w' h' => run_eqI q4 (eval_same _ _ _ (by simp only [put_size, hsz]; decide)) ((eval_other _ 59 61 _ (by decide)).trans (eval_same _ _ _ (by simp only [put_size, hsz]; decide))) w') ?_
      refine met_free po5 d5 (wanted_of gd5) (fun w' h' => run_assign q5 (eval_same _ _ _ (by simp only [put_size, hsz]; decide)) w') ?_
      show NoPanic _ .normal _ _
      refine NoPanic.normal ?_
      rw [HAA.out]
      go_frame
      clear HAA
      go_wp2_with fail
      go_ret
      exact ⟨by rw [HVV.out]; rfl, by rw [HSS.out]; exact HW3.out.rd, HW3.out.stays⟩
    · go_upto_region 11 with fail
      have HR1 := Lib.hid (HW1.out.below (Below.drew0 w1))
      refine region_phase (fun w' => BoxedAt w' w.heap.size t) (fun _ => True) 1 (HR1.out.box) trivial [(0, .free), (2, .free), (3, .free), (1, .behind), (4, .free), (5, .free)] (by kernel_rfl) (by kernel_rfl) (by kernel_rfl) (by kernel_rfl) (fun ops hops A hA => ?_)
      have hsz : A.tmps.size = 63 := by rw [hA]; rfl
      have base0 : A.eval (.tmp 0) = .pointer (some ⟨g, 0, none⟩) := by rw [hA]; rfl
      have base4 : A.eval (.tmp 4) = .pointer (some ⟨w.heap.size, 0, none⟩) := by rw [hA]; rfl
      have base2 : A.eval (.tmp 2) = .int .i64 (room : Int) := by rw [hA]; rfl
      have HAA := Lib.hid hA; clear hA
      obtain ⟨o0, po0, q0, d0, gd0⟩ : ∃ o, ops[0]? = some o ∧ o.op = .move (.tmp 0) ∧ o.dst = some 58 ∧ o.guard = none := ⟨_, by rw [hops]; rfl, rfl, rfl, rfl⟩
      obtain ⟨o1, po1, q1, d1, gd1⟩ : ∃ o, ops[1]? = some o ∧ o.op = .call { callee := .value (.func 18), args := #[.tmp 58], argTypes := #[39] } ∧ o.dst = some 59 ∧ o.guard = none := ⟨_, by rw [hops]; rfl, rfl, rfl, rfl⟩
      obtain ⟨o2, po2, q2, d2, gd2⟩ : ∃ o, ops[2]? = some o ∧ o.op = .fieldAddr 28 (.tmp 4) 1 ∧ o.dst = some 60 ∧ o.guard = none := ⟨_, by rw [hops]; rfl, rfl, rfl, rfl⟩
      obtain ⟨o3, po3, q3, d3, gd3⟩ : ∃ o, ops[3]? = some o ∧ o.op = .load 3 (.tmp 60) ∧ o.dst = some 61 ∧ o.guard = none := ⟨_, by rw [hops]; rfl, rfl, rfl, rfl⟩
      obtain ⟨o4, po4, q4, d4, gd4⟩ : ∃ o, ops[4]? = some o ∧ o.op = .binOp .eql 3 (.tmp 59) (.tmp 61) 3 ∧ o.dst = some 62 ∧ o.guard = none := ⟨_, by rw [hops]; rfl, rfl, rfl, rfl⟩
      obtain ⟨o5, po5, q5, d5, gd5⟩ : ∃ o, ops[5]? = some o ∧ o.op = .assign (.tmp 62) ∧ o.dst = some 6 ∧ o.guard = none := ⟨_, by rw [hops]; rfl, rfl, rfl, rfl⟩
      clear hops
      refine met_free po0 d0 (wanted_of gd0) (fun w' h' => run_move q0 base0 w') ?_
      refine met_free po2 d2 (wanted_of gd2) (fun w' h' => run_fieldT (off := 1) q2 (fun _ => by kernel_rfl) ((eval_other _ 58 4 _ (by decide)).trans base4) w') ?_
      refine met_free po3 d3 (wanted_of gd3) (fun w' h' => run_loadI q3 (eval_same _ _ _ (by simp only [put_size, hsz]; decide)) h'.c1) ?_
      refine m_enter po1 d1 (wanted_of gd1) (run_callf1 q1 rfl ((eval_other _ 61 58 _ (by decide)).trans ((eval_other _ 60 58 _ (by decide)).trans (eval_same _ _ _ (by rw [hsz]; decide)))) Try.func18 (by kernel_rfl) _) (int_any D g s _ HR1.out.rd) ?_
      rintro e w3 ⟨rfl, hr, hst⟩
      have HW3 := Lib.hid (HR1.out.step hg hr hst)
      clear hr hst
      refine ⟨_, rfl, HW3.out.box, ?_⟩
      refine met_free po4 d4 (wanted_of gd4) (fun w' h' => run_eqI q4 (eval_same _ _ _ (by simp only [put_size, hsz]; decide)) ((eval_other _ 59 61 _ (by decide)).trans (eval_same _ _ _ (by simp only [put_size, hsz]; decide))) w') ?_
      refine met_free po5 d5 (wanted_of gd5) (fun w' h' => run_assign q5 (eval_same _ _ _ (by simp only [put_size, hsz]; decide)) w') ?_
      show NoPanic _ .normal _ _
      refine NoPanic.normal ?_
      rw [HAA.out]
      go_frame
      clear HAA
      go_wp2_with fail
      go_ret
      exact ⟨by rw [HVV.out]; rfl, by rw [HSS.out]; exact HW3.out.rd, HW3.out.stays⟩
end Go.Proofs.Ytadlpidhemjkgaa

/-
  What read does to a reader that stands in front of a thing, whole or cut short.
-/
namespace Go.Proofs.Ytadlpidhemjkgaa
open Go.RowKit Go.Proofs.ShaWords
theorem Thing7.most_ge (t : Thing7) (room : Nat) : t.n ≤ t.most room := by
  unfold Thing7.most
  split <;> omega
theorem Thing7.enc12 {t : Thing7} (h : t.kind = 1 ∨ t.kind = 2) : t.enc = be8 (t.b.length : Int) ++ t.b := if_pos h
theorem Thing7.enc3 {t : Thing7} (h : t.kind = 3) : t.enc = t.s := by
  unfold Thing7.enc
  rw [if_neg (by omega), if_pos h]
theorem Thing7.encN {t : Thing7} (h : ¬ (t.kind = 1 ∨ t.kind = 2)) (h3 : ¬ t.kind = 3) : t.enc = be8 t.n := by
  unfold Thing7.enc
  rw [if_neg h, if_neg h3]
theorem got_front (l r : List (BitVec 8)) (e : Nat) : (⟨l ++ r, e⟩ : RS).got l.length = l ∧ (⟨l ++ r, e⟩ : RS).next l.length = ⟨r, e⟩ := by
  unfold RS.got RS.next
  rw [if_neg (by simp), if_neg (by simp)]
  simp
theorem next_short (l : List (BitVec 8)) (n : Nat) (h : l.length < n) : (⟨l, 0⟩ : RS).next n = ⟨[], 4⟩ ∧ (⟨l, 0⟩ : RS).got n = [] := by
  unfold RS.got RS.next
  rw [if_pos h, if_pos h]
  exact ⟨rfl, rfl⟩
theorem Thing7.read_whole (t : Thing7) (room : Nat) (rest : List (BitVec 8)) {w : World} (h : t.Ok w) (hb : t.b.length < 1000000) : t.readV room ⟨t.enc ++ rest, 0⟩ = true ∧ t.readS room ⟨t.enc ++ rest, 0⟩ = ⟨rest, 0⟩ := by
  have hn := wf64 h.nw
  by_cases h12 : t.kind = 1 ∨ t.kind = 2
  · have hl : -9223372036854775808 ≤ (t.b.length : Int) ∧ (t.b.length : Int) < 9223372036854775808 := by omega
    obtain ⟨-, -, h3, h4⟩ := many_fine (t.b.length : Int) ((t.b.length : Int) + (room : Int)) (t.b ++ rest) hl (by omega) (by omega)
    have hg := got_front t.b rest 0
    rw [Int.toNat_natCast] at h3 h4
    unfold Thing7.readV Thing7.readS
    rw [if_pos h12, if_pos h12, Thing7.enc12 h12, List.append_assoc, h3, h4, hg.1, hg.2]
    simp
  by_cases h3 : t.kind = 3
  · have hg := got_front t.s rest 0
    rw [h.sum] at hg
    unfold Thing7.readV Thing7.readS
    rw [if_neg h12, if_neg h12, if_pos h3, if_pos h3, Thing7.enc3 h3, hg.2]
    refine ⟨?_, rfl⟩
    have h32 : ¬ (t.s ++ rest).length < 32 := by rw [List.length_append, h.sum]; omega
    unfold RS.sumV
    rw [if_neg h32]
    simp [h.sum]
  have he := Thing7.encN h12 h3
  by_cases h4 : t.kind = 4 ∧ 0 ≤ t.n
  · have hm := t.most_ge room
    obtain ⟨f1, f2, -, -⟩ := many_fine t.n (t.most room) rest hn (by omega) (by omega)
    unfold Thing7.readV Thing7.readS
    rw [if_neg h12, if_neg h12, if_neg h3, if_neg h3, if_pos h4, if_pos h4, he, f1, f2]
    refine ⟨?_, rfl⟩
    have : ((t.n.toNat : Nat) : Int) = t.n := by omega
    simp [this]
  · unfold Thing7.readV Thing7.readS
    rw [if_neg h12, if_neg h12, if_neg h3, if_neg h3, if_neg h4, if_neg h4, he, many_next, many_int t.n rest hn]
    simp
theorem Thing7.enc_length {w : World} {t : Thing7} (h : t.Ok w) : t.enc.length ≤ t.b.length + 32 := by
  unfold Thing7.enc
  split
  · rw [List.length_append, be8_length]; omega
  · split
    · rw [h.sum]; omega
    · rw [be8_length]; omega
theorem int_short (l : List (BitVec 8)) (h : l.length < 8) : (⟨l, 0⟩ : RS).intV = 0 := by
  unfold RS.intV
  rw [(next_short l 8 h).2, int8_nil]
theorem count_short (l : List (BitVec 8)) (most : Int) (h : l.length < 8) (hm : 0 ≤ most) : (⟨l, 0⟩ : RS).countS most = ⟨[], 4⟩ ∧ (⟨l, 0⟩ : RS).countV most = 0 := by
  have ho : ¬ (⟨l, 0⟩ : RS).over most = true := by
    unfold RS.over
    rw [int_short l h]
    simp
    omega
  unfold RS.countS RS.countV
  rw [if_neg ho, if_neg ho, (next_short l 8 h).1, int_short l h]
  exact ⟨rfl, rfl⟩
theorem Thing7.read_cut (t : Thing7) (room j : Nat) {w : World} (h : t.Ok w) (hb : t.b.length < 1000000) (hj : j < t.enc.length) : t.readS room ⟨t.enc.take j, 0⟩ = ⟨[], 4⟩ := by
  have hl : (t.enc.take j).length = j := by rw [List.length_take]; omega
  by_cases h12 : t.kind = 1 ∨ t.kind = 2
  · unfold Thing7.readS
    rw [if_pos h12]
    rw [Thing7.enc12 h12] at hl hj ⊢
    rw [List.length_append, be8_length] at hj
    unfold RS.blobS
    by_cases h8 : j < 8
    · obtain ⟨c1, c2⟩ := count_short ((be8 (t.b.length : Int) ++ t.b).take j) ((t.b.length : Int) + (room : Int)) (by omega) (by omega)
      rw [c1, c2]
      rfl
    · have ht : (be8 (t.b.length : Int) ++ t.b).take j = be8 (t.b.length : Int) ++ t.b.take (j - 8) := by
        rw [List.take_append, be8_length, List.take_of_length_le (by rw [be8_length]; omega)]
      have hw : -9223372036854775808 ≤ (t.b.length : Int) ∧ (t.b.length : Int) < 9223372036854775808 := by omega
      obtain ⟨f1, f2, -, -⟩ := many_fine (t.b.length : Int) ((t.b.length : Int) + (room : Int)) (t.b.take (j - 8)) hw (by omega) (by omega)
      rw [ht, f1, f2, Int.toNat_natCast]
      exact (next_short _ _ (by rw [List.length_take]; omega)).1
  by_cases h3 : t.kind = 3
  · unfold Thing7.readS
    rw [if_neg h12, if_pos h3]
    rw [Thing7.enc3 h3, h.sum] at hj
    exact (next_short _ _ (by omega)).1
  have he := Thing7.encN h12 h3
  rw [he, be8_length] at hj
  by_cases h4 : t.kind = 4 ∧ 0 ≤ t.n
  · have hm := t.most_ge room
    unfold Thing7.readS
    rw [if_neg h12, if_neg h3, if_pos h4]
    exact (count_short _ _ (by omega) (by omega)).1
  · unfold Thing7.readS
    rw [if_neg h12, if_neg h3, if_neg h4]
    exact (next_short _ _ (by omega)).1
/-- Few things, short ones. -/
def Few (ts : List Thing7) : Prop := ts.length ≤ 40 ∧ ∀ t ∈ ts, t.b.length ≤ 512
theorem enc_sum (ts : List Thing7) {w : World} (h : ∀ t ∈ ts, t.Ok w) (hb : ∀ t ∈ ts, t.b.length ≤ 512) : (encAll ts).length ≤ 544 * ts.length := by
  induction ts with
  | nil => simp [encAll]
  | cons t ts ih =>
    have h1 := ih (fun x hx => h x (List.mem_cons_of_mem _ hx)) (fun x hx => hb x (List.mem_cons_of_mem _ hx))
    have h2 := Thing7.enc_length (h t List.mem_cons_self)
    have h3 := hb t List.mem_cons_self
    unfold encAll at h1 ⊢
    rw [List.flatMap_cons, List.length_append, List.length_cons]
    omega
theorem few_enc {ts : List Thing7} {w : World} (hf : Few ts) (h : ∀ t ∈ ts, t.Ok w) : (encAll ts).length ≤ 21760 := by
  have := enc_sum ts h hf.2
  have := hf.1
  omega
end Go.Proofs.Ytadlpidhemjkgaa

/-
  PackBack's walk.
-/
namespace Go.Proofs.Ytadlpidhemjkgaa
open Go.RowKit Go.Proofs.ShaWords
set_option maxRecDepth 100000 in
set_option maxHeartbeats 1000000 in
theorem big_any (ts : List Thing7) (len cap : Nat) (a : Option Addr) (w : World) (hlen : ts.length = len) (hT : ThingsIn w a ts) :
    Calls Try.prog 62 #[.slice a len cap] w fun e w' => ∃ b, e = .returned (.bool b) ∧ (b = false → Few ts) ∧ w = w' := by
  have HT := Lib.hid hT; clear hT
  have HN := Lib.hid hlen; clear hlen
  go_enter Try.func62, Try.ntmps62
  by_cases h40 : len > 40
  · have q0 : (len : Int) > 40 := by omega
    go_wp2_with fail
    go_ret
    exact ⟨true, rfl, by simp, rfl⟩
  have q0 : ¬ (len : Int) > 40 := by omega
  go_wp2_with fail
  go_loopw [3] (fun i wr => w = wr ∧ ∃ k : Nat, k ≤ len ∧ i = .int .i64 (k : Int) ∧ ∀ j (h : j < ts.length), j < k → ts[j].b.length ≤ 512) (fun i _ => len - (intOf i).toNat)
  case atStart => exact ⟨rfl, 0, by omega, rfl, fun j h h0 => absurd h0 (by omega)⟩
  case round =>
    obtain ⟨rfl, k, hk, rfl, hall⟩ := hrel
    have HALL := Lib.hid hall; clear hall
    by_cases hlt : k < len
    · have q1 : (k : Int) < (len : Int) := by omega
      have hkt : k < ts.length := by rw [HN.out]; exact hlt
      rcases HT.out.at' with h0 | ⟨b, off, rfl, hr⟩
      · exfalso; rw [h0] at hkt; simp at hkt
      have hc : w.cell? ⟨b, off + k * 35 + 2, none⟩ = some (.slice ts[k].p ts[k].b.length ts[k].c) := hr k hkt 2 _ rfl
      clear hr
      have HK : Hid (∀ m, ts[k].b.length = m → m ≤ 512 → ∀ j (h : j < ts.length), j < k + 1 → ts[j].b.length ≤ 512) := show ∀ _, _ → _ → _ from fun m e1 e2 j h hj => by
        by_cases hjk : j < k
        · exact HALL.out j h hjk
        · obtain rfl : j = k := by omega
          omega
      obtain ⟨m, hm⟩ : ∃ m, ts[k].b.length = m := ⟨_, rfl⟩
      rw [hm] at hc
      have HM := Lib.hid hm; clear hm
      by_cases h512 : m > 512
      · have q2 : (m : Int) > 512 := by omega
        go_wp2_with fail
        go_ret
        exact ⟨true, rfl, by simp, rfl⟩
      · have q2 : ¬ (m : Int) > 512 := by omega
        go_wp2_with fail
        go_roundw
        case rel => exact ⟨trivial, k + 1, by omega, by go_num, HK.out m HM.out (by omega)⟩
        case measure => simp [intOf]; omega
    · have q1 : ¬ (k : Int) < (len : Int) := by omega
      go_wp2_with fail
      go_ret
      refine .inl ⟨rfl, ⟨by rw [HN.out]; omega, fun t ht => ?_⟩, rfl⟩
      obtain ⟨j, hj, rfl⟩ := List.getElem_of_mem ht
      exact HALL.out j hj (by rw [HN.out] at hj; omega)
theorem drop_enc (ts : List Thing7) (k : Nat) (h : k < ts.length) : encAll (ts.drop k) = ts[k].enc ++ encAll (ts.drop (k + 1)) := by
  unfold encAll
  rw [List.drop_eq_getElem_cons h, List.flatMap_cons]
set_option maxRecDepth 100000 in
set_option maxHeartbeats 2000000 in
theorem packBack_any (ts : List Thing7) (xs : List (BitVec 8)) (room : Int) (len0 len1 cap0 cap1 : Nat) (a0 a1 : Option Addr) (W : World) (hlen : ts.length = len0) (hT : ThingsIn W a0 ts) (hx : xs.length = len1) (hL : Lies W a1 xs) :
    Calls Try.prog 14 #[.slice a0 len0 cap0, .slice a1 len1 cap1, .int .i64 room] W fun e W' => e = .returned (.bool true) ∧ Below W.heap.size W W' := by
  have HT := Lib.hid hT; clear hT
  have HN := Lib.hid hlen; clear hlen
  have HX := Lib.hid hx; clear hx
  have HL := Lib.hid hL; clear hL
  go_enter Try.func14, Try.ntmps14
  have HBG := Lib.hid (big_any ts len0 cap0 a0 W HN.out HT.out)
  go_wp2_with fail
  refine HBG.out.mono ?_
  rintro e w1 ⟨bg, rfl, hfew, rfl⟩
  have HF := Lib.hid hfew
  clear hfew HBG
  by_cases hsk : bg = true ∨ len1 > 4096
  · have HWW := Lib.hid (works7_any W)
    cases bg with
    | true =>
      go_wp2_with fail
      refine HWW.out.mono ?_
      rintro e w2 ⟨rfl, hb⟩
      have HB := Lib.hid hb; clear hb
      go_wp2_with fail
      go_ret
      exact ⟨rfl, HB.out⟩
    | false =>
      have q0 : (len1 : Int) > 4096 := by
        have h : len1 > 4096 := by simpa using hsk
        omega
      go_wp2_with fail
      refine HWW.out.mono ?_
      rintro e w2 ⟨rfl, hb⟩
      have HB := Lib.hid hb; clear hb
      go_wp2_with fail
      go_ret
      exact ⟨rfl, HB.out⟩
  have hbf : bg = false := by cases bg <;> simp_all
  have hl1 : ¬ len1 > 4096 := fun h => hsk (.inr h)
  have q0 : ¬ (len1 : Int) > 4096 := by omega
  subst hbf
  have few := HF.out rfl
  have hE := few_enc few HT.out.ok
  have h40 := few.1
  rw [HN.out] at h40
  have HFEW := Lib.hid few.2
  clear few HF hsk
  obtain ⟨E, hEn⟩ : ∃ E, (encAll ts).length = E := ⟨_, rfl⟩
  rw [hEn] at hE
  have HEN := Lib.hid hEn; clear hEn
  have HLM : Hid ((encAll ts ++ xs).length = E + len1) := show _ = _ by rw [List.length_append, HEN.out, HX.out]
  have HLD := Lib.hid (laid_any W.heap.size [] (.slice none 0 0) ts len0 cap0 a0 W (Nat.le_refl _) (Own.nil _ _) HN.out (by omega) HT.out (by rw [HEN.out]; simp; omega))
  go_upto_region 4 with (go_at_call 27; refine (pick_any room 1000 W (by omega) (by omega)).mono ?_; rintro e w2 ⟨r, hr, rfl, rfl⟩)
  go_upto_region 5 with (first
    | (go_at_call 63; refine HLD.out.mono ?_; rintro e w2 ⟨v2, rfl, ho, hb⟩; rw [List.nil_append] at ho; have HO2 := Lib.hid ho; have HB2 := Lib.hid hb; clear ho hb)
    | (at_builtin; refine wpList_append_listB rfl (.tmp 20) (.tmp 21) rfl W.heap.size _ (encAll ts) xs a1 cap1 rfl HO2.out (by rw [HX.out]; rfl) (HL.out.below HB2.out) (by rw [HEN.out, HX.out]; omega) HB2.out.size ?_; intro v3 w3 ho3 hb3; obtain ⟨q3, c3, rfl, -, -, hl3⟩ := ho3.sl HLM.out; have HL3 := Lib.hid hl3; have HB3 := Lib.hid (HB2.out.trans hb3); clear ho3 hb3 hl3)
    | (go_at_call 16; refine (readIn _ (E + len1) q3 c3 _ HLM.out (by omega) HL3.out).mono ?_; rintro e w4 ⟨g, rfl, hr4, hb4⟩; have HR4 := Lib.hid hr4; have hs3 := HB3.out.size; have HB4 := Lib.hid (HB3.out.trans (hb4.mono HB3.out.size)); clear hr4 hb4))
  rename World => w4
  clear HLD HO2 HB2 HB3 HL3
  have HST : Hid (∃ D, RdAt D w4 g ⟨encAll (ts.drop 0) ++ xs, 0⟩) := show ∃ _, _ from ⟨_, HR4.out.2⟩
  have hgW : W.heap.size ≤ g := Nat.le_trans hs3 HR4.out.1
  have hrm : r ≤ 1000000 := by omega
  clear HR4 HLM
  have HWK : Hid (∀ w' : World, Below W.heap.size W w' → Calls Try.prog 21 #[] w' fun e w'' => e = .returned (.bool true) ∧ Below W.heap.size W w'') := show ∀ _, _ from fun w' h => (works7_any w').mono fun e w'' ⟨h1, h2⟩ => ⟨h1, h.trans (h2.mono h.size)⟩
  go_wp2_with fail
  go_loopw [8] (fun i wr => ∃ k : Nat, k ≤ len0 ∧ i = .int .i64 (k : Int) ∧ (∃ D, RdAt D wr g ⟨encAll (ts.drop k) ++ xs, 0⟩) ∧ Below W.heap.size W wr) (fun i _ => len0 - (intOf i).toNat)
  case atStart => exact ⟨0, by omega, rfl, HST.out, HB4.out⟩
  case round =>
    clear HST HB4
    obtain ⟨k, hk, rfl, ⟨D, hrd⟩, hb⟩ := hrel
    have HB := Lib.hid hb; clear hb
    by_cases hlt : k < len0
    · have q1 : (k : Int) < (len0 : Int) := by omega
      have hkt : k < ts.length := by rw [HN.out]; exact hlt
      have HTW := Lib.hid (HT.out.below HB.out)
      have hde := drop_enc ts k hkt
      have hok := HTW.out.ok ts[k] (List.getElem_mem hkt)
      have hbl := HFEW.out ts[k] (List.getElem_mem hkt)
      have hel := encAll_le ts k
      have hesz : (encAll (ts.drop k)).length ≤ E := by
        have h : encAll ts = encAll (ts.take k) ++ encAll (ts.drop k) := by
          unfold encAll
          rw [← List.flatMap_append, List.take_append_drop]
        have := congrArg List.length h
        rw [List.length_append, HEN.out] at this
        omega
      rcases HTW.out.at' with h0 | ⟨b, off, rfl, hr'⟩
      · exfalso; rw [h0] at hkt; simp at hkt
      have hrk := hr' k hkt
      clear hr'
      have hs6 : (encAll (ts.drop k) ++ xs).length < 1000000 := by rw [List.length_append, HX.out]; omega
      generalize ts[k] = t at *
      have hwh := t.read_whole r (encAll (ts.drop (k + 1)) ++ xs) hok (by omega)
      rw [← List.append_assoc, ← hde] at hwh
      have hpr := pkRead_any D g ⟨encAll (ts.drop k) ++ xs, 0⟩ t r wr hrd hs6 hok (by omega) hrm
      rw [hwh.1, hwh.2] at hpr
      have HCS : Hid (t.cells.toArray.size = 35) := show _ = _ by rw [List.size_toArray]; exact Thing7.cells_length hok.sum
      have HRK : Hid (wr.rangeAt b (off + k * 35) t.cells.toArray.toList) := show wr.rangeAt _ _ _ from hrk
      generalize hC : t.cells.toArray = C at HCS HRK hpr
      have HPR := Lib.hid hpr
      clear hpr hC hrk hwh hok hbl hde hel hesz hs6 hrd
      go_wp2_with (refine wpList_run (by rfl) (run_loadThing rfl rfl HRK.out HCS.out) ?_)
      refine HPR.out.mono ?_
      rintro e w6 ⟨rfl, hr6, hst⟩
      have HR6 := Lib.hid hr6
      have HB6 := Lib.hid (HB.out.trans (Stays.below hst (B := W.heap.size) (fun x e => by omega) HB.out.size))
      clear hr6 hst HB HRK HCS HTW HPR
      have HBD := Lib.hid (bad_any D g _ w6 HR6.out)
      go_wp2_with fail
      refine HBD.out.mono ?_
      rintro e w7 ⟨rfl, rfl⟩
      go_wp2_with fail
      go_roundw
      case rel => exact ⟨k + 1, by omega, by go_num, ⟨D, HR6.out⟩, HB6.out⟩
      case measure => simp [intOf]; omega
    · have q1 : ¬ (k : Int) < (len0 : Int) := by omega
      have hdr : ts.drop k = [] := List.drop_of_length_le (by rw [HN.out]; omega)
      have hst : (⟨encAll (ts.drop k) ++ xs, 0⟩ : RS) = ⟨xs, 0⟩ := by rw [hdr]; rfl
      rw [hst] at hrd
      have hlf := left_any D g ⟨xs, 0⟩ wr hrd
      rw [show (⟨xs, 0⟩ : RS).bs.length = len1 from HX.out] at hlf
      have HLF := Lib.hid hlf
      have hen := end_any D g ⟨xs, 0⟩ wr hrd
      have HW := Lib.hid (HWK.out wr HB.out)
      clear hlf hrd hdr hst HL HT HEN HFEW
      by_cases hz : len1 = 0
      · have he : (⟨xs, 0⟩ : RS).endV = 0 := by
          unfold RS.endV
          rw [if_neg (fun h => by have h2 := h.2; have : xs.length = 0 := HX.out.trans hz; rw [show (⟨xs, 0⟩ : RS).bs = xs from rfl, this] at h2; exact absurd h2 (by decide))]
        rw [he] at hen
        have HEN2 : Hid (Calls Try.prog 17 #[.pointer (some ⟨g, 0, none⟩)] wr fun e w' => e = .returned (.int .i64 0) ∧ wr = w') := show Calls _ _ _ _ _ from hen
        clear hen he
        have q2 : (len1 : Int) = 0 := by omega
        go_wp2_with fail
        refine HLF.out.mono ?_
        rintro e w6 ⟨rfl, rfl⟩
        go_wp2_with fail
        refine HEN2.out.mono ?_
        rintro e w6 ⟨rfl, rfl⟩
        go_wp2_with fail
        refine HW.out.mono ?_
        rintro e w6 ⟨rfl, hb⟩
        have HBZ := Lib.hid hb; clear hb
        go_wp2_with fail
        go_ret
        exact ⟨rfl, HBZ.out⟩
      · have he : (⟨xs, 0⟩ : RS).endV = 5 := by
          unfold RS.endV
          rw [if_pos ⟨rfl, by show 0 < xs.length; rw [HX.out]; omega⟩]
        rw [he] at hen
        have HEN2 : Hid (Calls Try.prog 17 #[.pointer (some ⟨g, 0, none⟩)] wr fun e w' => e = .returned (.int .i64 5) ∧ wr = w') := show Calls _ _ _ _ _ from hen
        clear hen he
        have q2 : ¬ (len1 : Int) = 0 := by omega
        have q3 : ((len1 : Int) == 0) = false := beq_eq_false_iff_ne.2 q2
        go_wp2_with fail
        refine HLF.out.mono ?_
        rintro e w6 ⟨rfl, rfl⟩
        go_wp2_with fail
        refine HEN2.out.mono ?_
        rintro e w6 ⟨rfl, rfl⟩
        go_wp2_with fail
        refine HW.out.mono ?_
        rintro e w6 ⟨rfl, hb⟩
        have HBZ := Lib.hid hb; clear hb
        go_wp2_with fail
        go_ret
        exact ⟨rfl, HBZ.out⟩
end Go.Proofs.Ytadlpidhemjkgaa

/-
  PackCut's walk.
-/
namespace Go.Proofs.Ytadlpidhemjkgaa
open Go.RowKit Go.Proofs.ShaWords
set_option maxHeartbeats 400000 in
/-- A place within so many, or nought. -/
theorem pickE_any (v : Int) (n : Nat) (w : World) (h2 : n ≤ 1000000) : Calls Try.prog 27 #[.int .i64 v, .int .i64 (n : Int)] w fun e w' => ∃ r : Nat, r ≤ n ∧ (0 < n → r < n) ∧ e = .returned (.int .i64 (r : Int)) ∧ w = w' := by
  by_cases h0 : n = 0
  · subst h0
    go_enter Try.func27, Try.ntmps27
    go_wp2_with fail
    go_ret
    exact ⟨0, by omega, by omega, rfl, rfl⟩
  · refine (pick_any v (n : Int) w (by omega) (by omega)).mono ?_
    rintro e w' ⟨r, hr, rfl, rfl⟩
    exact ⟨r, by omega, fun _ => by omega, rfl, rfl⟩
theorem run_min2 {ρ : Operand → Value} {o : Oper} {x y : Operand} {n m : Nat} (ho : o.op = .call { callee := .builtin .min, args := #[x, y], argTypes := #[3, 3] }) (hx : ρ x = .int .i64 (n : Int)) (hy : ρ y = .int .i64 (m : Int)) (h : n ≤ m) (w : World) :
    (execOp ρ o).run Try.prog w = .ok (.value (.int .i64 (n : Int))) w := by
  obtain ⟨dst, op, ty', pos, after, guard⟩ := o
  simp only at ho
  subst ho
  by_cases h2 : n < m
  · have q : (n : Int) < (m : Int) := by omega
    have q2 : ¬ (m : Int) < (n : Int) := by omega
    go_simp
  · obtain rfl : n = m := by omega
    go_simp
/-- A reader that is in front of nothing, with ErrShort. -/
def RS.dead : RS := ⟨[], 4⟩
theorem dead_int : RS.dead.intV = 0 := by decide +kernel
theorem dead_next (n : Nat) : RS.dead.next n = RS.dead := by
  unfold RS.next RS.dead RS.fail
  split <;> simp
theorem dead_countS : RS.dead.countS 9 = RS.dead := by
  unfold RS.countS
  rw [if_neg (by unfold RS.over; rw [dead_int]; decide), dead_next]
theorem dead_countV : RS.dead.countV 9 = 0 := by
  unfold RS.countV
  rw [if_neg (by unfold RS.over; rw [dead_int]; decide), dead_int]
  rfl
theorem dead_blobS : RS.dead.blobS 9 = RS.dead := by
  unfold RS.blobS
  rw [dead_countS, dead_countV, dead_next]
theorem dead_blobV : RS.dead.blobV 9 = [] := by
  unfold RS.blobV
  rw [dead_countS, dead_countV]
  rfl
theorem dead_sum : RS.dead.sumV = noughts 32 := rfl
theorem dead_bad (D : Nat → Prop) (g : Nat) (w : World) (h : RdAt D w g RS.dead) : Calls Try.prog 59 #[.pointer (some ⟨g, 0, none⟩)] w fun e w' => e = .returned (.bool true) ∧ w = w' := bad_any D g RS.dead w h
theorem dead_end (D : Nat → Prop) (g : Nat) (w : World) (h : RdAt D w g RS.dead) : Calls Try.prog 17 #[.pointer (some ⟨g, 0, none⟩)] w fun e w' => e = .returned (.int .i64 4) ∧ w = w' := end_any D g RS.dead w h
theorem dead_left (D : Nat → Prop) (g : Nat) (w : World) (h : RdAt D w g RS.dead) : Calls Try.prog 54 #[.pointer (some ⟨g, 0, none⟩)] w fun e w' => e = .returned (.int .i64 0) ∧ w = w' := left_any D g RS.dead w h
theorem dead_intc (D : Nat → Prop) (g : Nat) (w : World) (h : RdAt D w g RS.dead) : Calls Try.prog 18 #[.pointer (some ⟨g, 0, none⟩)] w fun e w' => e = .returned (.int .i64 0) ∧ RdAt D w' g RS.dead ∧ Stays (fun x => x = g) w w' := by
  have h1 := int_any D g RS.dead w h
  rw [dead_int, dead_next] at h1
  exact h1
theorem dead_sumc (D : Nat → Prop) (g : Nat) (w : World) (h : RdAt D w g RS.dead) : Calls Try.prog 65 #[.pointer (some ⟨g, 0, none⟩)] w fun e w' => e = .returned (.agg (bytesV (noughts 32)).toArray) ∧ RdAt D w' g RS.dead ∧ Stays (fun x => x = g) w w' := by
  have h1 := sum_any D g RS.dead w h
  rw [dead_sum, dead_next] at h1
  exact h1
theorem dead_countc (D : Nat → Prop) (g : Nat) (w : World) (h : RdAt D w g RS.dead) : Calls Try.prog 51 #[.pointer (some ⟨g, 0, none⟩), .int .i64 9] w fun e w' => e = .returned (.int .i64 0) ∧ RdAt D w' g RS.dead ∧ Stays (fun x => x = g) w w' := by
  have h1 := count_any D g RS.dead 9 w h
  rw [dead_countV, dead_countS] at h1
  exact h1
theorem dead_blobc (D : Nat → Prop) (g : Nat) (w : World) (h : RdAt D w g RS.dead) : Calls Try.prog 52 #[.pointer (some ⟨g, 0, none⟩), .int .i64 9] w fun e w' => ∃ v, e = .returned v ∧ (∃ q c, v = .slice q 0 c) ∧ RdAt D w' g RS.dead ∧ Stays (fun x => x = g) w w' := by
  have h1 := blob_any D g RS.dead 9 w h (show (0 : Nat) < _ by decide)
  rw [dead_blobV, dead_blobS] at h1
  refine h1.mono ?_
  rintro e w' ⟨v, he, ho, hr, hst⟩
  obtain ⟨q, c, h2, -⟩ := ho.sl rfl
  exact ⟨v, he, ⟨q, c, h2⟩, hr, hst⟩
theorem dead_textc (D : Nat → Prop) (g : Nat) (w : World) (h : RdAt D w g RS.dead) : Calls Try.prog 53 #[.pointer (some ⟨g, 0, none⟩), .int .i64 9] w fun e w' => e = .returned (.string ⟨#[]⟩) ∧ RdAt D w' g RS.dead ∧ Stays (fun x => x = g) w w' := by
  have h1 := text_any D g RS.dead 9 w h
  rw [dead_blobV, dead_blobS] at h1
  exact h1
theorem run_eqZ {ρ : Operand → Value} {o : Oper} {x y : Operand} {ty : TypeId} (ho : o.op = .binOp .eql 26 x y ty) (hx : ρ x = .agg (bytesV (noughts 32)).toArray) (hy : ρ y = .agg (bytesV (noughts 32)).toArray) (w : World) :
    (execOp ρ o).run Try.prog w = .ok (.value (.bool true)) w := by
  have h := run_eqArr (l := noughts 32) (m := noughts 32) ho Try.underlying26 (by kernel_rfl) (noughts_length 32) (noughts_length 32) hx hy w
  rw [h]
  simp
/-- How much of the things is ahead of the k-th. -/
def ahead (ts : List Thing7) (k : Nat) : Nat := (encAll (ts.take k)).length
theorem cut_round (ts : List Thing7) (k ct : Nat) (h : k < ts.length) (hc : ahead ts (k + 1) ≤ ct) : (encAll (ts.drop k)).take (ct - ahead ts k) = ts[k].enc ++ (encAll (ts.drop (k + 1))).take (ct - ahead ts (k + 1)) := by
  have h1 : ahead ts (k + 1) = ahead ts k + ts[k].enc.length := by unfold ahead; rw [encAll_take_succ ts k h, List.length_append]
  rw [drop_enc ts k h, List.take_append, List.take_of_length_le (by omega), show ct - ahead ts k - ts[k].enc.length = ct - ahead ts (k + 1) by omega]
theorem cut_end (ts : List Thing7) (k ct : Nat) (h : k < ts.length) (hc : ct < ahead ts (k + 1)) : (encAll (ts.drop k)).take (ct - ahead ts k) = ts[k].enc.take (ct - ahead ts k) ∧ ct - ahead ts k < ts[k].enc.length ∨ ct < ahead ts k := by
  have h1 : ahead ts (k + 1) = ahead ts k + ts[k].enc.length := by unfold ahead; rw [encAll_take_succ ts k h, List.length_append]
  by_cases h2 : ct < ahead ts k
  · exact Or.inr h2
  · left
    refine ⟨?_, by omega⟩
    rw [drop_enc ts k h, List.take_append_of_le_length (by omega)]
set_option maxRecDepth 100000 in
set_option maxHeartbeats 2000000 in
theorem packCut_any (ts : List Thing7) (cut room : Int) (len0 cap0 : Nat) (a0 : Option Addr) (W : World) (hlen : ts.length = len0) (hcp : len0 ≤ cap0) (hT : ThingsIn W a0 ts) :
    Calls Try.prog 15 #[.slice a0 len0 cap0, .int .i64 cut, .int .i64 room] W fun e W' => e = .returned (.bool true) ∧ Below W.heap.size W W' := by
  have HT := Lib.hid hT; clear hT
  have HN := Lib.hid hlen; clear hlen
  go_enter Try.func15, Try.ntmps15
  have HBG := Lib.hid (big_any ts len0 cap0 a0 W HN.out HT.out)
  go_wp2_with fail
  refine HBG.out.mono ?_
  rintro e w1 ⟨bg, rfl, hfew, rfl⟩
  have HF := Lib.hid hfew
  clear hfew HBG
  cases bg with
  | true =>
    have HWW := Lib.hid (works7_any W)
    go_wp2_with fail
    refine HWW.out.mono ?_
    rintro e w2 ⟨rfl, hb⟩
    have HB := Lib.hid hb; clear hb
    go_wp2_with fail
    go_ret
    exact ⟨rfl, HB.out⟩
  | false =>
  have few := HF.out rfl
  have hE := few_enc few HT.out.ok
  have h40 := few.1
  rw [HN.out] at h40
  have HFEW := Lib.hid few.2
  clear few HF
  obtain ⟨E, hEn⟩ : ∃ E, (encAll ts).length = E := ⟨_, rfl⟩
  rw [hEn] at hE
  have HEN := Lib.hid hEn; clear hEn
  have HLD := Lib.hid (laid_any W.heap.size [] (.slice none 0 0) ts len0 cap0 a0 W (Nat.le_refl _) (Own.nil _ _) HN.out (by omega) HT.out (by rw [HEN.out]; simp; omega))
  go_upto_region 4 with (go_at_call 27; refine (pick_any room 1000 W (by omega) (by omega)).mono ?_; rintro e w2 ⟨r, hr, rfl, rfl⟩)
  go_upto_region 5 with (go_at_call 63; refine HLD.out.mono ?_; rintro e w2 ⟨v2, rfl, ho, hb⟩; rw [List.nil_append] at ho; obtain ⟨q2, c2, rfl, hc2, -, hl2⟩ := ho.sl HEN.out; have HL2 := Lib.hid hl2; have HB2 := Lib.hid hb; clear ho hb hl2)
  rename World => w2
  clear HLD
  go_upto_region 6 with (go_at_call 27; refine (pickE_any cut E _ (by omega)).mono ?_; rintro e w3 ⟨ct, hct, hct2, rfl, rfl⟩)
  have HLT : Hid (((encAll ts).take ct).length = ct) := show _ = _ by rw [List.length_take, HEN.out]; omega
  have z1 : (ct : Int) ≤ (c2 : Int) := by omega
  go_upto_region 7 with (first
    | (refine wpList_run (by rfl) (run_min2 rfl rfl rfl hct _) ?_)
    | (go_at_call 16; refine (readIn ((encAll ts).take ct) ct q2 c2 _ HLT.out (by omega) (lies_takeB HL2.out ct)).mono ?_; rintro e w4 ⟨g, rfl, hr4, hb4⟩; have HR4 := Lib.hid hr4; have hs2 := HB2.out.size; have HB4 := Lib.hid (HB2.out.trans (hb4.mono HB2.out.size)); clear hr4 hb4))
  have hrm : r ≤ 1000000 := by omega
  have hst0 : (⟨(encAll ts).take ct, 0⟩ : RS) = ⟨(encAll (ts.drop 0)).take (ct - ahead ts 0), 0⟩ := rfl
  have HST : Hid (∃ D, RdAt D w4 g ⟨(encAll (ts.drop 0)).take (ct - ahead ts 0), 0⟩) := show ∃ _, _ from ⟨_, hst0 ▸ HR4.out.2⟩
  have hgW : W.heap.size ≤ g := Nat.le_trans hs2 HR4.out.1
  clear HR4 hst0 HLT HL2 HB2 z1
  have HWK : Hid (∀ w' : World, Below W.heap.size W w' → Calls Try.prog 21 #[] w' fun e w'' => e = .returned (.bool true) ∧ Below W.heap.size W w'') := show ∀ _, _ from fun w' h => (works7_any w').mono fun e w'' ⟨h1, h2⟩ => ⟨h1, h.trans (h2.mono h.size)⟩
  go_wp2_with fail
  go_loopw [9] (fun i wr => ∃ k : Nat, k ≤ len0 ∧ i = .int .i64 (k : Int) ∧ ahead ts k ≤ ct ∧ (∃ D, RdAt D wr g ⟨(encAll (ts.drop k)).take (ct - ahead ts k), 0⟩) ∧ Below W.heap.size W wr) (fun i _ => len0 - (intOf i).toNat)
  case atStart => exact ⟨0, by omega, rfl, Nat.zero_le _, HST.out, HB4.out⟩
  case round =>
    clear HST HB4
    obtain ⟨k, hk, rfl, hak, ⟨D, hrd⟩, hb⟩ := hrel
    have HB := Lib.hid hb; clear hb
    by_cases hlt : k < len0
    · have q1 : (k : Int) < (len0 : Int) := by omega
      have hkt : k < ts.length := by rw [HN.out]; exact hlt
      have HTW := Lib.hid (HT.out.below HB.out)
      have HL1 : Hid ((ts.take (k + 1)).length = k + 1) := show _ = _ by rw [List.length_take, HN.out]; omega
      have q2 : ((k : Int) + 1) ≤ (cap0 : Int) := by omega
      have HLD := Lib.hid (laid_any wr.heap.size [] (.slice none 0 0) (ts.take (k + 1)) (k + 1) cap0 a0 wr (Nat.le_refl _) (Own.nil _ _) HL1.out (by omega) (HTW.out.take (k + 1)) (by have := encAll_le ts (k + 1); rw [HEN.out] at this; simp; omega))
      obtain ⟨L, hL⟩ : ∃ L, ahead ts (k + 1) = L := ⟨_, rfl⟩
      go_wp2_with fail
      refine HLD.out.mono ?_
      rintro e w5 ⟨v5, rfl, ho, hb⟩
      rw [List.nil_append] at ho
      obtain ⟨q5, c5, rfl, -, -, -⟩ := ho.sl hL
      have HB5 := Lib.hid (HB.out.trans (hb.mono HB.out.size))
      have HR5 := Lib.hid (hrd.below hb)
      have HTX := Lib.hid (HTW.out.below hb)
      clear ho hb hrd HB HTW HLD HL1
      have hok := HTX.out.ok ts[k] (List.getElem_mem hkt)
      have hbl := HFEW.out ts[k] (List.getElem_mem hkt)
      rcases HTX.out.at' with h0 | ⟨b, off, rfl, hr'⟩
      · exfalso; rw [h0] at hkt; simp at hkt
      have hrk := hr' k hkt
      clear hr'
      have hs6 : ((encAll (ts.drop k)).take (ct - ahead ts k)).length < 1000000 := by rw [List.length_take]; omega
      have hpr := pkRead_any D g ⟨(encAll (ts.drop k)).take (ct - ahead ts k), 0⟩ ts[k] r w5 HR5.out hs6 hok (by omega) hrm
      have HCS : Hid (ts[k].cells.toArray.size = 35) := show _ = _ by rw [List.size_toArray]; exact Thing7.cells_length hok.sum
      have HRK : Hid (w5.rangeAt b (off + k * 35) ts[k].cells.toArray.toList) := show w5.rangeAt _ _ _ from hrk
      by_cases hLc : L ≤ ct
      · have q3 : (L : Int) ≤ (ct : Int) := by omega
        have hwh := ts[k].read_whole r ((encAll (ts.drop (k + 1))).take (ct - ahead ts (k + 1))) hok (by omega)
        rw [← cut_round ts k ct hkt (by omega)] at hwh
        rw [hwh.1, hwh.2] at hpr
        generalize ts[k].cells.toArray = C at HCS HRK hpr
        have HPR := Lib.hid hpr
        have HAK : Hid (ahead ts (k + 1) ≤ ct) := show _ ≤ _ by omega
        clear hpr hrk hwh hok hbl hs6 hL hak
        go_wp2_with (refine wpList_run (by rfl) (run_loadThing rfl rfl HRK.out HCS.out) ?_)
        refine HPR.out.mono ?_
        rintro e w6 ⟨rfl, hr6, hst⟩
        have HR6 := Lib.hid hr6
        have HB6 := Lib.hid (HB5.out.trans (Stays.below hst (B := W.heap.size) (fun x e => by omega) HB5.out.size))
        clear hr6 hst HB5 HRK HCS HTX HPR HR5
        have HBD := Lib.hid (bad_any D g _ w6 HR6.out)
        go_wp2_with fail
        refine HBD.out.mono ?_
        rintro e w7 ⟨rfl, rfl⟩
        go_wp2_with fail
        go_roundw
        case rel => exact ⟨k + 1, by omega, by go_num, HAK.out, ⟨D, HR6.out⟩, HB6.out⟩
        case measure => simp [intOf]; omega
      · have q3 : ¬ (L : Int) ≤ (ct : Int) := by omega
        have q4 : ¬ (k : Int) = (len0 : Int) := by omega
        have hce := cut_end ts k ct hkt (by omega)
        have hrc : ts[k].readS r ⟨(encAll (ts.drop k)).take (ct - ahead ts k), 0⟩ = RS.dead := by
          rcases hce with ⟨e1, e2⟩ | e3
          · rw [e1]; exact ts[k].read_cut r _ hok (by omega) e2
          · omega
        rw [hrc] at hpr
        generalize ts[k].readV r ⟨(encAll (ts.drop k)).take (ct - ahead ts k), 0⟩ = rv at hpr
        generalize ts[k].cells.toArray = C at HCS HRK hpr
        have HPR := Lib.hid hpr
        clear hpr hrk hrc hce hok hbl hs6 hL hak
        have q5 : ((k : Int) == (len0 : Int)) = false := beq_eq_false_iff_ne.2 q4
        go_upto_region 15 with (first
          | (refine wpList_run (by rfl) (run_loadThing rfl rfl HRK.out HCS.out) ?_)
          | (go_at_call 64; refine HPR.out.mono ?_; rintro e w6 ⟨rfl, hr6, hst⟩; have HR6 := Lib.hid hr6; have HB6 := Lib.hid (HB5.out.trans (Stays.below hst (B := W.heap.size) (fun x e => by omega) HB5.out.size)); clear hr6 hst))
        rename World => w6
        clear HPR HRK HCS HTX HR5 HB5
        have HBD := Lib.hid (fun w' h => dead_bad D g w' h)
        have HEN := Lib.hid (fun w' h => dead_end D g w' h)
        have hbelow : ∀ (x y : World), Below W.heap.size W x → Stays (fun k => k = g) x y → Below W.heap.size W y := fun x y h h2 => h.trans (Stays.below h2 (fun k e => by omega) h.size)
        have HBL := Lib.hid hbelow
        clear hbelow
        go_wp2_with fail
        refine (HBD.out w6 HR6.out).mono ?_
        rintro e w7 ⟨rfl, rfl⟩
        go_wp2_with fail
        refine (HEN.out w6 HR6.out).mono ?_
        rintro e w7 ⟨rfl, rfl⟩
        go_wp2_with fail
        refine (dead_left D g w6 HR6.out).mono ?_
        rintro e w7 ⟨rfl, rfl⟩
        go_wp2_with fail
        refine (dead_intc D g w6 HR6.out).mono ?_
        rintro e w7 ⟨rfl, hr7, hst⟩
        have HR7 := Lib.hid hr7; have HB7 := Lib.hid (HBL.out _ _ HB6.out hst); clear hr7 hst HR6 HB6
        go_wp2_with fail
        refine (dead_sumc D g w7 HR7.out).mono ?_
        rintro e w8 ⟨rfl, hr8, hst⟩
        have HR8 := Lib.hid hr8; have HB8 := Lib.hid (HBL.out _ _ HB7.out hst); clear hr8 hst HR7 HB7
        go_wp2_with (refine wpList_run (by rfl) (run_eqZ rfl rfl rfl _) ?_)
        refine (dead_countc D g w8 HR8.out).mono ?_
        rintro e w9 ⟨rfl, hr9, hst⟩
        have HR9 := Lib.hid hr9; have HB9 := Lib.hid (HBL.out _ _ HB8.out hst); clear hr9 hst HR8 HB8
        go_wp2_with fail
        refine (dead_blobc D g w9 HR9.out).mono ?_
        rintro e w10 ⟨v, rfl, ⟨qv, cv, rfl⟩, hr10, hst⟩
        have HRA := Lib.hid hr10; have HBA := Lib.hid (HBL.out _ _ HB9.out hst); clear hr10 hst HR9 HB9
        go_wp2_with fail
        refine (dead_textc D g w10 HRA.out).mono ?_
        rintro e w11 ⟨rfl, hr11, hst⟩
        have HRB := Lib.hid hr11; have HBB := Lib.hid (HBL.out _ _ HBA.out hst); clear hr11 hst HRA HBA
        go_wp2_with fail
        refine (HEN.out w11 HRB.out).mono ?_
        rintro e w12 ⟨rfl, rfl⟩
        go_wp2_with fail
        refine (HWK.out w11 HBB.out).mono ?_
        rintro e w12 ⟨rfl, hb⟩
        have HBZ := Lib.hid hb; clear hb
        go_wp2_with fail
        go_ret
        exact ⟨rfl, HBZ.out⟩
    · have q1 : ¬ (k : Int) < (len0 : Int) := by omega
      obtain rfl : k = len0 := by omega
      have hdr : ts.drop k = [] := List.drop_of_length_le (by rw [HN.out]; exact Nat.le_refl _)
      have hst : (⟨(encAll (ts.drop k)).take (ct - ahead ts k), 0⟩ : RS) = ⟨[], 0⟩ := by rw [hdr]; simp [encAll]
      rw [hst] at hrd
      have hen : Calls Try.prog 17 #[.pointer (some ⟨g, 0, none⟩)] wr fun e w' => e = .returned (.int .i64 0) ∧ wr = w' := end_any D g ⟨[], 0⟩ wr hrd
      have HEN := Lib.hid hen
      have HW := Lib.hid (HWK.out wr HB.out)
      clear hen hrd hst hdr HT HFEW hak
      go_wp2_with fail
      refine HEN.out.mono ?_
      rintro e w6 ⟨rfl, rfl⟩
      go_wp2_with fail
      refine HW.out.mono ?_
      rintro e w6 ⟨rfl, hb⟩
      have HBZ := Lib.hid hb; clear hb
      go_wp2_with fail
      go_ret
      exact ⟨rfl, HBZ.out⟩
end Go.Proofs.Ytadlpidhemjkgaa
