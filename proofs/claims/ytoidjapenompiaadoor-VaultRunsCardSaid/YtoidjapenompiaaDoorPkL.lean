/-
  What other texts lean on: VtOpenOps.
-/
import Derived.Test.YtoidjapenompiaaDoorPkZ
import Derived.Test.YtoidjapenompiaaDoorPkJ
import Derived.Test.YtoidjapenompiaaDoorPkK
/-
  The operations of VaultRuns that came in.
-/
namespace Go.Proofs.YtoidjapenompiaaDoor
open Go.ChangeShapes Go.WideShapes Go.ChangeAt Go.RowKit Go.Proofs.ShaWords Go.Deep
instance : Inhabited Op11 := ⟨⟨0, 0, 0, [], [], none, 0⟩⟩
theorem wrap_wf {n : Int} (h : (Lit.int .i64 n).wf = true) : wrap64 n = n := by
  have h1 := wf64k h
  unfold wrap64
  omega
set_option maxRecDepth 100000 in
theorem open_op11 {H : Type} {enc : TypeId × Value → H} {W : World} (fuel : Nat) (cs : List Value) (x : DataW H × List MemPlace) (h : DataW.trod enc Tryd.prog W 0 (fun _ => true) true fuel 39 cs = some x)
    (hsz : ∀ k ∈ x.1.weights Tryd.prog 39, k ≤ reachBytes) :
    ∃ o : Op11, cs = o.cells ∧ o.Ok W ∧ o.b.length < 2 ^ 47 := by
  obtain ⟨xs, n, _, hxx, hl, hlen, hf⟩ := DataW.trod_struct Tryd.underlying39 h
  have c36 : Tryd.prog.cellsOf 39 = 36 := by kernel_rfl
  have cb : Tryd.prog.cellsOf 37 = 1 := by kernel_rfl
  have ck : Tryd.prog.cellsOf 36 = 32 := by kernel_rfl
  have ci : Tryd.prog.cellsOf 3 = 1 := by kernel_rfl
  rw [c36] at hl
  obtain ⟨y0, y1, y2, y3, y4, rfl⟩ : ∃ y0 y1 y2 y3 y4, xs = [y0, y1, y2, y3, y4] := by
    match xs, hlen with
    | [a, b, c, d, e], _ => exact ⟨a, b, c, d, e, rfl⟩
  have h0 : DataW.trod enc Tryd.prog W 0 (fun _ => true) true n 3 ((cs.drop 0).take (Tryd.prog.cellsOf 3)) = some y0 := hf 0 _ rfl
  have h1 : DataW.trod enc Tryd.prog W 0 (fun _ => true) true n 3 ((cs.drop 1).take (Tryd.prog.cellsOf 3)) = some y1 := hf 1 _ rfl
  have h2 : DataW.trod enc Tryd.prog W 0 (fun _ => true) true n 3 ((cs.drop 2).take (Tryd.prog.cellsOf 3)) = some y2 := hf 2 _ rfl
  have h3 : DataW.trod enc Tryd.prog W 0 (fun _ => true) true n 36 ((cs.drop 3).take (Tryd.prog.cellsOf 36)) = some y3 := hf 3 _ rfl
  have h4 : DataW.trod enc Tryd.prog W 0 (fun _ => true) true n 37 ((cs.drop 35).take (Tryd.prog.cellsOf 37)) = some y4 := hf 4 _ rfl
  rw [ci] at h0 h1 h2
  rw [cb] at h4
  rw [ck] at h3
  have hs4 : ∀ k ∈ y4.1.weights Tryd.prog 37, k ≤ reachBytes := fun k hk => hsz k (by
    rw [hxx]
    simp only [DataW.weights, Tryd.underlying39, List.map_cons, List.map_nil, DataW.weightsEach, List.mem_append]
    exact .inr (.inr (.inr (.inr (.inl hk)))))
  obtain ⟨z0, e0, -, w0⟩ := DataW.trod_int Tryd.underlying3 h0
  obtain ⟨z1, e1, -, w1⟩ := DataW.trod_int Tryd.underlying3 h1
  obtain ⟨z2, e2, -, w2⟩ := DataW.trod_int Tryd.underlying3 h2
  obtain ⟨key, kl, e3⟩ := open_key h3
  obtain ⟨a4, k4, b4, e4, l4, L4, s4⟩ := open_bytesFW h4 hs4
  have hcs : cs = (cs.drop 0).take 1 ++ ((cs.drop 1).take 1 ++ ((cs.drop 2).take 1 ++ ((cs.drop 3).take 32 ++ (cs.drop 35).take 1))) := by
    have t5 : (cs.drop 35).take 1 = cs.drop 35 := List.take_of_length_le (by simp [hl])
    have t4 : (cs.drop 3).take 32 ++ cs.drop 35 = cs.drop 3 := by rw [show cs.drop 35 = (cs.drop 3).drop 32 by rw [List.drop_drop]]; exact List.take_append_drop _ _
    have t3 : (cs.drop 2).take 1 ++ cs.drop 3 = cs.drop 2 := by rw [show cs.drop 3 = (cs.drop 2).drop 1 by rw [List.drop_drop]]; exact List.take_append_drop _ _
    have t2 : (cs.drop 1).take 1 ++ cs.drop 2 = cs.drop 1 := by rw [show cs.drop 2 = (cs.drop 1).drop 1 by rw [List.drop_drop]]; exact List.take_append_drop _ _
    have t1 : (cs.drop 0).take 1 ++ cs.drop 1 = cs := by rw [List.drop_zero]; exact List.take_append_drop _ _
    rw [t5, t4, t3, t2, t1]
  rw [e0, e1, e2, e3, e4] at hcs
  exact ⟨⟨z0, z1, z2, key, b4, a4, k4⟩, hcs, ⟨wrap_wf w1, wrap_wf w2, kl, l4, L4⟩, Nat.lt_of_le_of_lt s4 (by decide)⟩
set_option maxRecDepth 100000 in
theorem open_ops11 {H : Type} {enc : TypeId × Value → H} {W : World} {fuel : Nat} {a : Option Addr} {len cap : Nat} {x : DataW H × List MemPlace} (h : DataW.trod enc Tryd.prog W 0 (fun _ => true) true fuel 22 (Value.cells (.slice a len cap)).toList = some x)
    (hsz : ∀ n ∈ x.1.weights Tryd.prog 22, n ≤ reachBytes) :
    ∃ os : List Op11, os.length = len ∧ len ≤ cap ∧ len < 2 ^ 47 ∧ RowOf 36 Op11.cells W a os ∧ ∀ o ∈ os, o.Ok W ∧ o.b.length < 2 ^ 47 := by
  obtain ⟨os, h1, h2, h3, h4, h5⟩ := open_structsW Op11.cells (fun o => o.Ok W ∧ o.b.length < 2 ^ 47) Tryd.underlying22 (N := 36) (by kernel_rfl) (by omega) (by decide +kernel) (fun o ho => (o.at ho.1.key).1) (fun n cs y hy hz => open_op11 n cs y hy hz) hsz h
  exact ⟨os, h1, h2, Nat.lt_of_le_of_lt h3 (by decide), h4, h5⟩
end Go.Proofs.YtoidjapenompiaaDoor
