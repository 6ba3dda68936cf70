/-
  The statements' own published and known: the published key; known returns true, and nothing that was there changes. Two tags that are the same compare so.
-/
import Derived.Test.YtgfmjfpafpmghaaPoSum
import Derived.Test.YtgfmjfpafpmghaaPhase
import Derived.Lib.SlBytesConst
namespace Go.Proofs.Ytgfmjfpafpmghaa
open Go.RowKit Go.Proofs.ShaWords

theorem equal16 (d : Nat) (l : List (BitVec 8)) (hl : l.length = 16) (w : World) : (Op.equalIn (d + 1 + 1) 28 (.agg (bytesV l).toArray) (.agg (bytesV l).toArray)).run Try.prog w = .ok true w := by
  have hsz : (sizeOf 5).run Try.prog w = .ok 1 w := by kernel_rfl
  rw [Op.equalIn]
  simp only [Sem.run_bind, run_underlying Try.underlying28, Result.andThen_ok, hsz]
  rw [Std.Legacy.Range.forIn_eq_forIn_range']
  rw [forIn_yield]
  · simp
  · intro i hi
    have hi32 : i < l.length := by
      rw [List.mem_range'] at hi
      obtain ⟨j, hj, rfl⟩ := hi
      rw [hl]
      simp [Std.Legacy.Range.size] at hj ⊢
      omega
    rw [Sem.run_bind, part5 l i hi32]
    simp only [Result.andThen_ok]
    rw [Sem.run_bind, part5 l i hi32]
    simp only [Result.andThen_ok]
    rw [Sem.run_bind, run_equalIn_int w d 5 .u8 .u8 _ _ Try.underlying5]
    simp
theorem eql16 (l : List (BitVec 8)) (hl : l.length = 16) (w : World) : (binOp .eql 28 (.agg (bytesV l).toArray) (.agg (bytesV l).toArray)).run Try.prog w = .ok (.bool true) w := by
  rw [run_eql_struct, equal16 9998 l hl]; rfl
theorem run_eql_tag {ρ : Operand → Value} {o : Oper} {x y : Operand} {l : List (BitVec 8)} {ty : TypeId} (ho : o.op = .binOp .eql 28 x y ty) (hl : l.length = 16) (hx : ρ x = .agg (bytesV l).toArray) (hy : ρ y = .agg (bytesV l).toArray) (w : World) :
    (execOp ρ o).run Try.prog w = .ok (.value (.bool true)) w := by
  have hg : Try.prog.eqGuardType Try.prog.depth 28 = false := by kernel_rfl
  unfold execOp
  simp only [ho, hx, hy, Sem.run_bind, run_eqGuard_agg w .eql 28 x y _ _ hg, Result.andThen_ok, eql16 l hl, Sem.run_pure]
theorem wpList_eql_tag {ops : Array Oper} {rest : List Oper} {o : Oper} {a : Act} {w : World} {Q : Exit → Act → World → Prop} (hg : o.guard = none) (x y : Operand) (ty : TypeId) (ho : o.op = .binOp .eql 28 x y ty) (l : List (BitVec 8)) (hl : l.length = 16)
    (hx : a.eval x = .agg (bytesV l).toArray) (hy : a.eval y = .agg (bytesV l).toArray) (h : wpList Try.prog ops Q rest (a.put o.dst (.bool true)) w) : wpList Try.prog ops Q (o :: rest) a w := by
  refine wpList_plain hg fun K hK => ?_
  unfold Oper.wp
  rw [run_eql_tag ho hl hx hy w, Oper.upon_value]
  exact hK _ _ h

/-- The published key, text and tag. -/
def pubK : List (BitVec 8) := [0x85#8, 0xD6#8, 0xBE#8, 0x78#8, 0x57#8, 0x55#8, 0x6D#8, 0x33#8, 0x7F#8, 0x44#8, 0x52#8, 0xFE#8, 0x42#8, 0xD5#8, 0x06#8, 0xA8#8, 0x01#8, 0x03#8, 0x80#8, 0x8A#8, 0xFB#8, 0x0D#8, 0xB2#8, 0xFD#8, 0x4A#8, 0xBF#8, 0xF6#8, 0xAF#8, 0x41#8, 0x49#8, 0xF5#8, 0x1B#8]
def pubT : List (BitVec 8) := [67#8, 114#8, 121#8, 112#8, 116#8, 111#8, 103#8, 114#8, 97#8, 112#8, 104#8, 105#8, 99#8, 32#8, 70#8, 111#8, 114#8, 117#8, 109#8, 32#8, 82#8, 101#8, 115#8, 101#8, 97#8, 114#8, 99#8, 104#8, 32#8, 71#8, 114#8, 111#8, 117#8, 112#8]
def pubTag : List (BitVec 8) := [0xA8#8, 0x06#8, 0x1D#8, 0xC1#8, 0x30#8, 0x51#8, 0x36#8, 0xC6#8, 0xC2#8, 0x2B#8, 0x8B#8, 0xAF#8, 0x0C#8, 0x01#8, 0x27#8, 0xA9#8]
theorem pub_tag : polyTag pubK pubT = pubTag := by decide +kernel
theorem pubK_vals : (bytesV pubK).toArray = #[.int .u8 133, .int .u8 214, .int .u8 190, .int .u8 120, .int .u8 87, .int .u8 85, .int .u8 109, .int .u8 51, .int .u8 127, .int .u8 68, .int .u8 82, .int .u8 254, .int .u8 66, .int .u8 213, .int .u8 6, .int .u8 168, .int .u8 1, .int .u8 3, .int .u8 128, .int .u8 138, .int .u8 251, .int .u8 13, .int .u8 178, .int .u8 253, .int .u8 74, .int .u8 191, .int .u8 246, .int .u8 175, .int .u8 65, .int .u8 73, .int .u8 245, .int .u8 27] := by kernel_rfl
theorem pubT_vals : (bytesV pubT).toArray = #[.int .u8 67, .int .u8 114, .int .u8 121, .int .u8 112, .int .u8 116, .int .u8 111, .int .u8 103, .int .u8 114, .int .u8 97, .int .u8 112, .int .u8 104, .int .u8 105, .int .u8 99, .int .u8 32, .int .u8 70, .int .u8 111, .int .u8 114, .int .u8 117, .int .u8 109, .int .u8 32, .int .u8 82, .int .u8 101, .int .u8 115, .int .u8 101, .int .u8 97, .int .u8 114, .int .u8 99, .int .u8 104, .int .u8 32, .int .u8 71, .int .u8 114, .int .u8 111, .int .u8 117, .int .u8 112] := by kernel_rfl
theorem pubTag_vals : (bytesV pubTag).toArray = #[.int .u8 168, .int .u8 6, .int .u8 29, .int .u8 193, .int .u8 48, .int .u8 81, .int .u8 54, .int .u8 198, .int .u8 194, .int .u8 43, .int .u8 139, .int .u8 175, .int .u8 12, .int .u8 1, .int .u8 39, .int .u8 169] := by kernel_rfl
def zeros32 : List (BitVec 8) := List.replicate 32 0#8
theorem zeros32_eq : (bytesV zeros32).toArray = #[Value.int IntKind.u8 0, Value.int IntKind.u8 0, Value.int IntKind.u8 0, Value.int IntKind.u8 0, Value.int IntKind.u8 0, Value.int IntKind.u8 0, Value.int IntKind.u8 0, Value.int IntKind.u8 0, Value.int IntKind.u8 0, Value.int IntKind.u8 0, Value.int IntKind.u8 0, Value.int IntKind.u8 0, Value.int IntKind.u8 0, Value.int IntKind.u8 0, Value.int IntKind.u8 0, Value.int IntKind.u8 0, Value.int IntKind.u8 0, Value.int IntKind.u8 0, Value.int IntKind.u8 0, Value.int IntKind.u8 0, Value.int IntKind.u8 0, Value.int IntKind.u8 0, Value.int IntKind.u8 0, Value.int IntKind.u8 0, Value.int IntKind.u8 0, Value.int IntKind.u8 0, Value.int IntKind.u8 0, Value.int IntKind.u8 0, Value.int IntKind.u8 0, Value.int IntKind.u8 0, Value.int IntKind.u8 0, Value.int IntKind.u8 0] := rfl

set_option maxRecDepth 100000 in
set_option maxHeartbeats 1000000 in
theorem published_any (w : World) : Calls Try.prog 17 #[] w fun e w' => e = .returned (.agg (bytesV pubK).toArray) ∧ Below w.heap.size w w' := by
  have HI := Lib.hid (infoKey pubK rfl)
  have HONE := Lib.hid (bytesV_one pubK)
  rw [pubK_vals] at *
  go_enter Try.func17, Try.ntmps17
  go_wp2_with (refine wpList_store_new rfl 23 (.tmp 0) (.tmp 1) rfl w.heap.size rfl _ rfl rfl HI.out rfl HONE.out ?_; intro wz hrow hbel)
  generalize (#[.int .u8 133, .int .u8 214, .int .u8 190, .int .u8 120, .int .u8 87, .int .u8 85, .int .u8 109, .int .u8 51, .int .u8 127, .int .u8 68, .int .u8 82, .int .u8 254, .int .u8 66, .int .u8 213, .int .u8 6, .int .u8 168, .int .u8 1, .int .u8 3, .int .u8 128, .int .u8 138, .int .u8 251, .int .u8 13, .int .u8 178, .int .u8 253, .int .u8 74, .int .u8 191, .int .u8 246, .int .u8 175, .int .u8 65, .int .u8 73, .int .u8 245, .int .u8 27] : Array Value) = full at HI hrow ⊢
  have hres : ∀ tmps : Array Value, tmps.getD 0 undef = .pointer (some ⟨w.heap.size, 0, none⟩) → Sem.run Try.prog (results Try.f17 tmps) wz = .ok (.agg full) wz := fun tmps h =>
    results_cell_row (P := Try.prog) (p := 0) (ty := 23) Try.results17 tmps wz w.heap.size 23 full (0, 0) _ h hrow Try.underlying23 rfl HI.out
  exact bodyPost_ret (v := .agg full) (hres _ rfl) rfl ⟨rfl, hbel⟩

attribute [local irreducible] polyTag
set_option maxRecDepth 100000 in
set_option maxHeartbeats 1000000 in
theorem known_any (w : World) : Calls Try.prog 8 #[] w fun e w' => e = .returned (.bool true) ∧ Below w.heap.size w w' := by
  have HPT := Lib.hid pub_tag
  have kc := fun (w : World) (C : Array Value) (n c : Nat) => Lib.run_convert_bytes_const (P := Try.prog) w 24 5 C n c Try.underlying24 Try.underlying5
  go_enter Try.func8, Try.ntmps8
  go_wp2_with fail
  refine (published_any w).mono ?_
  rintro e w1 ⟨rfl, hb1⟩
  have HB1 := Lib.hid hb1; clear hb1
  go_wp2_with fail
  refine calls_gen (fun w2 => Below w.heap.size w w2 ∧ w2.rangeAt w1.heap.size 0 (bytesV pubT)) ⟨HB1.out.alloc HB1.out.size _, fun j v hv => by
    rw [Nat.zero_add, cell_of_row _ _ j _ _ _ (heap_new_at rfl), ← pubT_vals]; simpa using hv⟩ ?_
  rintro w2 ⟨hb2, hr2⟩
  have HB2 := Lib.hid hb2; clear hb2 HB1
  refine (polySum_any pubK pubT 34 _ 34 w2 rfl rfl (by omega) (by omega) (Or.inr ⟨w1.heap.size, 0, rfl, hr2⟩)).mono ?_
  rintro e w3 ⟨rfl, hb3⟩
  have HB3 := Lib.hid (HB2.out.trans (hb3.mono HB2.out.size)); clear hb3 HB2 hr2
  rw [HPT.out]
  go_wp2_with (refine wpList_eql_tag rfl (.tmp 4) (.tmp 5) 28 rfl pubTag rfl rfl (by rw [pubTag_vals]; rfl) ?_)
  go_ret
  exact ⟨rfl, HB3.out⟩
end Go.Proofs.Ytgfmjfpafpmghaa
