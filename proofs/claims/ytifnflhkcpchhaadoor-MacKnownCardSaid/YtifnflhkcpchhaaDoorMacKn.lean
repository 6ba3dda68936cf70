/-
  The contract of the law's own known: a published code; it returns true, and nothing that was there changes.
-/
import Derived.Test.YtifnflhkcpchhaaDoorMacBegins
namespace Go.Proofs.YtifnflhkcpchhaaDoor
open Go.RowKit Go.Proofs.ShaWords
/-- A whole array loaded, guarded or not. -/
theorem wpList_load_g {P : Program} {ops : Array Oper} {rest : List Oper} {o : Oper} {a : Act} {w : World} {Q : Exit → Act → World → Prop} (hw : Region.wanted o (yielded ops a.tmps) = true) (ty : TypeId) (x : Operand) (ho : o.op = .load ty x)
    (g : Nat) (hx : a.eval x = .pointer (some ⟨g, 0, none⟩)) (t : TypeId) (cs : Array Value) (fr : Nat × Nat) (d : TypeDesc) (hg : w.heap[g]? = some (.cells cs t fr))
    (hu : P.underlying ty = some d) (hd : (match d with | .struct _ | .array _ _ => true | _ => false) = true) (hi : (P.info? ty).map (·.size) = some cs.size)
    (h : wpList P ops Q rest (a.put o.dst (.agg cs)) w) : wpList P ops Q (o :: rest) a w := by
  unfold wpList; rw [if_pos hw]; exact .inl (wp_load_row ty x ho g hx t cs fr d hg hu hd hi h)
theorem macSame_at (a b : List (BitVec 8)) (B : Array Value) (w : World) (ha : a.length = 32) (hb : b.length = 32) (hB : B = (bytesV b).toArray) :
    Calls Tryd.prog 32 #[.agg (bytesV a).toArray, .agg B] w fun e w' => e = .returned (.bool (sameB a b)) ∧ Below w.heap.size w w' := by
  subst hB; exact macSame_any a b w ha hb
attribute [local irreducible] macOf
set_option maxRecDepth 100000 in
set_option maxHeartbeats 1000000 in
theorem known_any (w : World) (hk : Consts w) (hs : Starts w) :
    Calls Tryd.prog 25 #[] w fun e w' => e = .returned (.bool true) ∧ Below w.heap.size w w' := by
  have hs1 := hk.size
  have HK := Lib.hid hk; clear hk
  have HS := Lib.hid hs; clear hs
  have kc := fun (w : World) (C : Array Value) (n c : Nat) => Lib.run_convert_bytes_const (P := Tryd.prog) w 26 5 C n c Tryd.underlying26 Tryd.underlying5
  have kc2 : ∀ (w : World) (A : Obj) (C : Array Value) (n c : Nat), Sem.run Tryd.prog (convert 26 26 (.slice (some ⟨w.heap.size + 1, 0, none⟩) n c)) ((w.alloc A).alloc (.cells C 5)) = .ok (.slice (some ⟨w.heap.size + 1, 0, none⟩) n c) ((w.alloc A).alloc (.cells C 5 (C.size, C.size + 1))) := fun w A C n c => by
    have h := Lib.run_convert_bytes_const (P := Tryd.prog) (w.alloc A) 26 5 C n c Tryd.underlying26 Tryd.underlying5
    rw [size_alloc] at h; exact h
  have HJ := Lib.hid jefe_code
  have HJ1 : Hid (n32 (word4 (macOf jefe jefeText) 0) = 1541194054 ∧ n32 (word4 (macOf jefe jefeText) 28) = 1693202499 ∧ sameB (macOf jefe jefeText) (noughts 32) = false) := by
    show _ ∧ _ ∧ _
    rw [jefe_code]; exact ⟨rfl, rfl, rfl⟩
  have HJL := Lib.hid (macOf_length jefe jefeText)
  have HI := Lib.hid (info32 _ HJL.out)
  have HOLD := Lib.hid (show (bytesV (noughts 32)).toArray.size = (bytesV (macOf jefe jefeText)).toArray.size by rw [bytesV_size _ 32 HJL.out, bytesV_size _ 32 (noughts_length 32)])
  have HONE := Lib.hid (bytesV_one (macOf jefe jefeText))
  go_enter Tryd.func25, Tryd.ntmps25
  go_wp2_with fail
  refine calls_gen (fun w0 => w0.rangeAt w.heap.size 0 (bytesV jefe) ∧ w0.rangeAt (w.heap.size + 1) 0 (bytesV jefeText) ∧ Below w.heap.size w w0 ∧ w.heap.size + 1 < w0.heap.size) ⟨?_, ?_, ((Below.refl _ _).alloc (Nat.le_refl _) _).alloc (by rw [size_alloc]; omega) _, by rw [size_alloc, size_alloc]; omega⟩ ?_
  · exact range_keep (range_bytesV (l := jefe) (heap_alloc_new w _)) ((Below.refl _ _).alloc (Nat.le_refl _) _)
  · exact range_bytesV (l := jefeText) (heap_new_at (size_alloc _ _))
  rintro w0 ⟨r1, r2, bel0, sz0⟩
  refine (of_len 4 28 jefe jefeText _ _ 4 28 w0 rfl rfl (Or.inr ⟨_, _, rfl, r1⟩) (Or.inr ⟨_, _, rfl, r2⟩) (by omega) (by omega) (by omega) (by omega) (by omega) (by omega) (HK.out.below bel0 hs1) (HS.out.below bel0 (by omega))).mono ?_
  rintro e w1 ⟨rfl, hb1⟩
  have HB1 := Lib.hid (bel0.trans (hb1.mono (by omega)))
  have sz1 := hb1.size
  clear r1 r2 bel0 hb1 kc kc2
  generalize macOf jefe jefeText = S at HJ HJ1 HJL HI HOLD HONE ⊢
  go_wp2_with (first
    | (refine wpList_store_new rfl 31 (.tmp 1) (.tmp 6) rfl w1.heap.size rfl (bytesV S).toArray rfl rfl HI.out (by rw [← noughts32]; exact HOLD.out) HONE.out ?_; intro w2 h2 b2; have HC2 := Lib.hid (show BytesAt w2 w1.heap.size 31 S from h2); have HB2 := Lib.hid (HB1.out.trans (b2.mono (by omega))); clear h2 b2)
    | (refine wpList_load_row rfl 31 (.tmp 1) rfl w1.heap.size rfl 31 (bytesV S).toArray (0, 0) _ HC2.out Tryd.underlying31 rfl HI.out ?_))
  refine (begins_yes S _ _ w2 HJL.out HJ1.out.1 HJ1.out.2.1).mono ?_
  rintro e w3 ⟨rfl, hb3⟩
  have sz2 := HC2.out.size
  have HC3 := Lib.hid (HC2.out.keep hb3)
  have HB3 := Lib.hid (HB2.out.trans (hb3.mono (by omega)))
  have sz3 := HC3.out.size
  clear hb3 HB2 HC2 HB1
  generalize w1.heap.size = C at HC3 sz1 sz2 sz3 ⊢
  go_wp2_with (refine wpList_load_g (by rfl) 31 (.tmp 1) rfl C rfl 31 (bytesV S).toArray (0, 0) _ HC3.out Tryd.underlying31 rfl HI.out ?_)
  refine (macSame_at S S _ w3 HJL.out HJL.out rfl).mono ?_
  rintro e w4 ⟨rfl, hb4⟩
  rw [sameB_self]
  have HC4 := Lib.hid (HC3.out.keep hb4)
  have HB4 := Lib.hid (HB3.out.trans (hb4.mono (by omega)))
  have sz4 := HC4.out.size
  clear hb4 HB3 HC3
  go_wp2_with (refine wpList_load_g (by rfl) 31 (.tmp 1) rfl C rfl 31 (bytesV S).toArray (0, 0) _ HC4.out Tryd.underlying31 rfl HI.out ?_)
  refine (macSame_at S (noughts 32) _ w4 HJL.out (noughts_length 32) rfl).mono ?_
  rintro e w5 ⟨rfl, hb5⟩
  rw [HJ1.out.2.2]
  have HB5 := Lib.hid (HB4.out.trans (hb5.mono (by omega)))
  clear hb5 HB4 HC4
  go_wp2_with fail
  go_ret
  exact ⟨rfl, HB5.out⟩
end Go.Proofs.YtifnflhkcpchhaaDoor
