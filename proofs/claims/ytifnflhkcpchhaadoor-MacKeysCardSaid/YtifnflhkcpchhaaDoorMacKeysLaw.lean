/-
  The walk of the law MacKeys: for any key, any bytes and any number it returns true, and nothing that was there changes.
-/
import Derived.Test.YtifnflhkcpchhaaDoorMacKeysMem
import Derived.BigQuiet
import Derived.Deep.QuietTactic
namespace Go.Proofs.YtifnflhkcpchhaaDoor
open Go.RowKit Go.Proofs.ShaWords

set_option maxRecDepth 100000 in
set_option maxHeartbeats 400000 in
theorem keys_long (la lb : Nat) (pa pb : Option Addr) (ca cb : Nat) (more : Int) (w : World) (h : 64 < la ∨ 4096 < lb) (hla : la ≤ 140737488351232) (hlb : lb ≤ 140737488351232) (hk : Consts w) (hs : Starts w) :
    Calls Tryd.prog 6 #[.slice pa la ca, .slice pb lb cb, .int .i64 more] w fun e w' => e = .returned (.bool true) ∧ Below w.heap.size w w' := by
  have HK := Lib.hid hk; clear hk
  have HS := Lib.hid hs; clear hs
  by_cases h1 : 64 < la
  · clear h
    go_enter Tryd.func6, Tryd.ntmps6
    go_wp2_with fail
    refine (known_any w HK.out HS.out).mono ?_
    rintro e w' ⟨rfl, hb⟩
    have HB := Lib.hid hb; clear hb
    go_wp2_with fail
    go_ret
    exact ⟨rfl, HB.out⟩
  · have h2 : 4096 < lb := by omega
    clear h
    go_enter Tryd.func6, Tryd.ntmps6
    go_wp2_with fail
    refine (known_any w HK.out HS.out).mono ?_
    rintro e w' ⟨rfl, hb⟩
    have HB := Lib.hid hb; clear hb
    go_wp2_with fail
    go_ret
    exact ⟨rfl, HB.out⟩

structure MK (w : World) (G8 G9 B : Nat) (X Z L : List (BitVec 8)) (v : Value) (wr : World) : Prop where
  x : BytesAt wr G8 31 X
  s : BytesAt wr G9 31 Z
  own : Own B wr L v
  below : Below w.heap.size w wr
theorem MK.on {w wr w' : World} {G8 G9 B : Nat} {X Z L : List (BitVec 8)} {v : Value} (h : MK w G8 G9 B X Z L v wr) (hb : Below wr.heap.size wr w') : MK w G8 G9 B X Z L v w' :=
  ⟨h.x.keep hb, h.s.keep hb, h.own.below hb, h.below.trans (hb.mono h.below.size)⟩
theorem MK.drewOn {w wr : World} {G8 G9 B : Nat} {X Z L : List (BitVec 8)} {v : Value} (h : MK w G8 G9 B X Z L v wr) : MK w G8 G9 B X Z L v wr.drew := h.on ((Below.refl _ _).drew)
theorem MK.drewN {w wr : World} {G8 G9 B : Nat} {X Z L : List (BitVec 8)} {v : Value} (h : MK w G8 G9 B X Z L v wr) (n : Nat) : MK w G8 G9 B X Z L v (wr.drewN n) := h.on ⟨rfl, rfl, rfl, Nat.le_refl _, fun _ _ => rfl⟩
theorem Own.liesOf {B : Nat} {w : World} {l : List (BitVec 8)} {p : Option Addr} {n c : Nat} (h : Own B w l (.slice p n c)) : Lies w p l := by
  obtain ⟨p', c', h1, -, -, h2⟩ := h.lies
  cases h1; exact h2
theorem noughts32_size (l : List (BitVec 8)) (h : l.length = 32) : (#[Value.int IntKind.u8 0, Value.int IntKind.u8 0, Value.int IntKind.u8 0, Value.int IntKind.u8 0, Value.int IntKind.u8 0, Value.int IntKind.u8 0, Value.int IntKind.u8 0, Value.int IntKind.u8 0, Value.int IntKind.u8 0, Value.int IntKind.u8 0, Value.int IntKind.u8 0, Value.int IntKind.u8 0, Value.int IntKind.u8 0, Value.int IntKind.u8 0, Value.int IntKind.u8 0, Value.int IntKind.u8 0, Value.int IntKind.u8 0, Value.int IntKind.u8 0, Value.int IntKind.u8 0, Value.int IntKind.u8 0, Value.int IntKind.u8 0, Value.int IntKind.u8 0, Value.int IntKind.u8 0, Value.int IntKind.u8 0, Value.int IntKind.u8 0, Value.int IntKind.u8 0, Value.int IntKind.u8 0, Value.int IntKind.u8 0, Value.int IntKind.u8 0, Value.int IntKind.u8 0, Value.int IntKind.u8 0, Value.int IntKind.u8 0] : Array Value).size = (bytesV l).toArray.size := by
  rw [bytesV_size _ 32 h]; rfl
attribute [local irreducible] macOf
set_option maxRecDepth 100000 in
set_option maxHeartbeats 2000000 in
theorem keys_main (key bs : List (BitVec 8)) (p q : Option Addr) (ck cb : Nat) (more : Int) (w : World) (hlk : key.length ≤ 64) (hlb : bs.length ≤ 4096) (hrk : Lies w p key) (hrb : Lies w q bs)
    (hck : key.length ≤ ck) (hckm : ck ≤ 140737488351232) (hcb : bs.length ≤ cb) (hcbm : cb ≤ 140737488351232) (hk : Consts w) (hs : Starts w) :
    Calls Tryd.prog 6 #[.slice p key.length ck, .slice q bs.length cb, .int .i64 more] w fun e w' => e = .returned (.bool true) ∧ Below w.heap.size w w' := by
  have hs1 := hk.size
  have HK := Lib.hid hk; clear hk
  have HS := Lib.hid hs; clear hs
  have HRK := Lib.hid hrk; clear hrk
  have HRB := Lib.hid hrb; clear hrb
  go_enter Tryd.func6, Tryd.ntmps6
  go_wp2_with fail
  refine (pick_any _ _ _ (by omega) (by omega)).mono ?_
  rintro e w' ⟨r, hr, rfl, rfl⟩
  have hr64 : key.length + r ≤ 64 := by omega
  have HPAD := Lib.hid (macOf_pad key bs r hr64)
  go_wp2_with fail
  refine (copy_any key p ck w (by omega) HRK.out).mono ?_
  rintro e w1 ⟨v, rfl, ho1, hb1⟩
  have HO1 := Lib.hid ho1
  have HB1 := Lib.hid hb1
  have sz1 := hb1.size
  clear ho1 hb1
  go_wp2_with (at_builtin; refine wpList_append_zeros rfl (.tmp 25) (.tmp 26) rfl w.heap.size _ key r rfl HO1.out rfl (by omega) sz1 ?_; intro v2 w2 ho2 hb2; have HO2 := Lib.hid ho2; have HB2 := Lib.hid (HB1.out.trans hb2); clear ho2 hb2)
  have sz2 := HB2.out.size
  clear HO1 HB1
  refine (of_eq (macOf key bs) key.length bs.length key bs p q ck cb w2 rfl rfl rfl (HRK.out.below HB2.out) (HRB.out.below HB2.out) hck (by omega) (by omega) hcb (by omega) (by omega) (HK.out.below HB2.out hs1) (HS.out.below HB2.out (by omega))).mono ?_
  rintro e w3 ⟨rfl, hb3⟩
  have HB3 := Lib.hid (HB2.out.trans (hb3.mono sz2))
  have HO3 := Lib.hid (HO2.out.below hb3)
  have sz3 := HB3.out.size
  clear hb3 HB2 HO2
  have HXL := Lib.hid (macOf_length key bs)
  have HI := Lib.hid (info32 _ HXL.out)
  have HOLD := Lib.hid (noughts32_size _ HXL.out)
  have HONE := Lib.hid (bytesV_one (macOf key bs))
  have HX := Lib.hid (show macOf key bs = macOf key bs from rfl)
  generalize hXe : macOf key bs = X at HPAD HXL HI HOLD HONE ⊢
  have HXE := Lib.hid hXe; clear hXe HX
  go_wp2_with (first
    | (refine wpList_store_new rfl 31 (.tmp 8) (.tmp 30) rfl w3.heap.size rfl (bytesV X).toArray rfl rfl HI.out HOLD.out HONE.out ?_; intro w4 h4 b4; have HX4 := Lib.hid (show BytesAt w4 w3.heap.size 31 X from h4); have HO4 := Lib.hid (HO3.out.below b4); have HB4 := Lib.hid (HB3.out.trans (b4.mono sz3)); clear h4 b4)
    | (refine wpList_copy_any rfl (.tmp 31) (.tmp 32) rfl w4.heap.size 32 32 31 (noughts 32) key p key.length ck rfl rfl (by show _ = some (Obj.cells (bytesV (List.replicate 32 0#8)).toArray _ _); rw [noughts32]; exact heap_alloc_new w4 _) (noughts_length 32) (HRK.out.below (HB4.out.alloc (HB4.out.size) _)) rfl ?_; intro kk w5 Z hz hzl hze hg5; have HMK : Hid (MK w w3.heap.size w4.heap.size w.heap.size X Z (key ++ noughts r) v2 w5) := ⟨BytesAt.past (w := w4.alloc _) (HX4.out.keep ((Below.refl _ _).alloc (Nat.le_refl _) _)) hg5 (by have := HX4.out.size; omega), hz, World.ownsRow.kept (HO4.out.below ((Below.refl _ _).alloc (Nat.le_refl _) _)) hg5 (own_beside HO4.out), (HB4.out.alloc (HB4.out.size) _).grown hg5 (by rw [size_alloc]; have := HB4.out.size; omega) (fun k hk => by have := Option.some.inj hk; have := HB4.out.size; omega)⟩; have HZL := Lib.hid hzl; have HZE := Lib.hid hze; clear hz hzl hze hg5))
  generalize w3.heap.size = G8 at HMK ⊢
  generalize w4.heap.size = G9 at HMK ⊢
  clear HX4 HO4 HB4 HO3 HB3 HI HOLD HONE sz3
  have HLL : Hid ((key ++ noughts r).length < 549755813000) := show _ < _ by rw [List.length_append, noughts_length]; omega
  generalize key ++ noughts r = L at HMK HPAD HLL
  obtain ⟨p7, c7, hv7, hc7, hm7, -⟩ := HMK.out.own.lies
  subst hv7
  unfold maxLen at hm7
  have hw0 := HMK.out.below.size
  by_cases h32 : key.length ≤ 32
  · have HZX : Hid (macOf Z bs = X) := show _ = _ by rw [HZE.out h32, macOf_splice _ _ h32]; exact HXE.out
    refine region_sched [(0, true), (1, true), (2, true), (3, true), (4, true), (5, true), (7, true), (6, false), (8, true), (9, true)] (by kernel_rfl) (by kernel_rfl) (by kernel_rfl) (by kernel_rfl) (fun ops hops A hA => ?_)
    have hsz : A.tmps.size = 61 := by rw [hA]; rfl
    have base0 : A.eval (.tmp 0) = .slice p key.length ck := by rw [hA]; rfl
    have base1 : A.eval (.tmp 1) = .slice q bs.length cb := by rw [hA]; rfl
    have base8 : A.eval (.tmp 8) = .pointer (some ⟨G8, 0, none⟩) := by rw [hA]; rfl
    have base9 : A.eval (.tmp 9) = .pointer (some ⟨G9, 0, none⟩) := by rw [hA]; rfl
    have HAA := Lib.hid hA; clear hA
    obtain ⟨o0, po0, q0, d0, gd0⟩ : ∃ o, ops[0]? = some o ∧ o.op = .move (.tmp 0) ∧ o.dst = some 34 ∧ o.guard = none := ⟨_, by rw [hops]; rfl, rfl, rfl, rfl⟩
    obtain ⟨o1, po1, q1, d1, gd1⟩ : ∃ o, ops[1]? = some o ∧ o.op = .call { callee := .builtin .len, args := #[.tmp 34], argTypes := #[26] } ∧ o.dst = some 35 ∧ o.guard = none := ⟨_, by rw [hops]; rfl, rfl, rfl, rfl⟩
    obtain ⟨o2, po2, q2, d2, gd2⟩ : ∃ o, ops[2]? = some o ∧ o.op = .binOp .leq 3 (.tmp 35) (.const (.int .i64 32)) 3 ∧ o.dst = some 36 ∧ o.guard = none := ⟨_, by rw [hops]; rfl, rfl, rfl, rfl⟩
    obtain ⟨o3, po3, q3, d3, gd3⟩ : ∃ o, ops[3]? = some o ∧ o.op = .move (.tmp 36) ∧ o.dst = some 37 ∧ o.guard = none := ⟨_, by rw [hops]; rfl, rfl, rfl, rfl⟩
    obtain ⟨o4, po4, q4, d4, gd4⟩ : ∃ o, ops[4]? = some o ∧ o.op = .load 31 (.tmp 9) ∧ o.dst = some 38 ∧ o.guard = some (3, true) := ⟨_, by rw [hops]; rfl, rfl, rfl, rfl⟩
    obtain ⟨o5, po5, q5, d5, gd5⟩ : ∃ o, ops[5]? = some o ∧ o.op = .move (.tmp 1) ∧ o.dst = some 39 ∧ o.guard = some (3, true) := ⟨_, by rw [hops]; rfl, rfl, rfl, rfl⟩
    obtain ⟨o6, po6, q6, d6, gd6⟩ : ∃ o, ops[6]? = some o ∧ o.op = .call { callee := .value (.func 27), args := #[.tmp 38, .tmp 39], argTypes := #[31, 26] } ∧ o.dst = some 40 ∧ o.guard = some (3, true) := ⟨_, by rw [hops]; rfl, rfl, rfl, rfl⟩
    obtain ⟨o7, po7, q7, d7, gd7⟩ : ∃ o, ops[7]? = some o ∧ o.op = .load 31 (.tmp 8) ∧ o.dst = some 41 ∧ o.guard = some (3, true) := ⟨_, by rw [hops]; rfl, rfl, rfl, rfl⟩
    obtain ⟨o8, po8, q8, d8, gd8⟩ : ∃ o, ops[8]? = some o ∧ o.op = .binOp .neq 31 (.tmp 40) (.tmp 41) 31 ∧ o.dst = some 42 ∧ o.guard = some (3, true) := ⟨_, by rw [hops]; rfl, rfl, rfl, rfl⟩
    obtain ⟨o9, po9, q9, d9, gd9⟩ : ∃ o, ops[9]? = some o ∧ o.op = .pick (.tmp 37) (.tmp 42) (.const (.bool false)) ∧ o.dst = some 43 ∧ o.guard = none := ⟨_, by rw [hops]; rfl, rfl, rfl, rfl⟩
    clear hops
    refine step_pure po0 d0 (wanted_of gd0) (fun w' _ => run_move q0 base0 w') ?_
    refine step_pure po1 d1 (wanted_of gd1) (fun w' _ => run_len26 q1 (eval_same _ _ _ (by rw [hsz]; decide)) w') ?_
    refine step_pure po2 d2 (wanted_of gd2) (fun w' _ => run_leq32 q2 h32 (eval_same _ _ _ (by simp only [put_size, hsz]; decide)) (fun _ => rfl) w') ?_
    refine step_pure po3 d3 (wanted_of gd3) (fun w' _ => run_move q3 (eval_same _ _ _ (by simp only [put_size, hsz]; decide)) w') ?_
    refine step_pure po4 d4 (wanted_guard gd4 po3 d3 (eval_same _ _ _ (by simp only [put_size, hsz]; decide))) (fun w' hw' => run_load_sum q4 ((eval_other _ 37 9 _ (by decide)).trans ((eval_other _ 36 9 _ (by decide)).trans ((eval_other _ 35 9 _ (by decide)).trans ((eval_other _ 34 9 _ (by decide)).trans base9)))) HZL.out (range_keep (w := w5.drew) (HMK.out.drewOn).s.range hw')) ?_
    refine step_pure po5 d5 (wanted_guard gd5 po3 d3 ((eval_other _ 38 37 _ (by decide)).trans (eval_same _ _ _ (by simp only [put_size, hsz]; decide)))) (fun w' _ => run_move q5 ((eval_other _ 38 1 _ (by decide)).trans ((eval_other _ 37 1 _ (by decide)).trans ((eval_other _ 36 1 _ (by decide)).trans ((eval_other _ 35 1 _ (by decide)).trans ((eval_other _ 34 1 _ (by decide)).trans base1))))) w') ?_
    refine step_pure po7 d7 (wanted_guard gd7 po3 d3 ((eval_other _ 39 37 _ (by decide)).trans ((eval_other _ 38 37 _ (by decide)).trans (eval_same _ _ _ (by simp only [put_size, hsz]; decide))))) (fun w' hw' => run_load_sum q7 ((eval_other _ 39 8 _ (by decide)).trans ((eval_other _ 38 8 _ (by decide)).trans ((eval_other _ 37 8 _ (by decide)).trans ((eval_other _ 36 8 _ (by decide)).trans ((eval_other _ 35 8 _ (by decide)).trans ((eval_other _ 34 8 _ (by decide)).trans base8)))))) HXL.out (range_keep (w := w5.drew) (HMK.out.drewOn).x.range hw')) ?_
    refine step_call po6 d6 (wanted_guard gd6 po3 d3 ((eval_other _ 41 37 _ (by decide)).trans ((eval_other _ 39 37 _ (by decide)).trans ((eval_other _ 38 37 _ (by decide)).trans (eval_same _ _ _ (by simp only [put_size, hsz]; decide)))))) (run_callf2 q6 rfl ((eval_other _ 41 38 _ (by decide)).trans ((eval_other _ 39 38 _ (by decide)).trans (eval_same _ _ _ (by simp only [put_size, hsz]; decide)))) ((eval_other _ 41 39 _ (by decide)).trans (eval_same _ _ _ (by simp only [put_size, hsz]; decide))) Tryd.func27 (by kernel_rfl) _) (chain_eq X bs.length Z bs q cb w5.drew HZX.out HZL.out rfl (HRB.out.below (HMK.out.drewOn).below) hcb (by omega) (by omega) (HK.out.below (HMK.out.drewOn).below hs1) (HS.out.below (HMK.out.drewOn).below (by omega))) (fun w' hR => hR) ?_
    intro wy1 hy1
    refine step_pure po8 d8 (wanted_guard gd8 po3 d3 ((eval_other _ 40 37 _ (by decide)).trans ((eval_other _ 41 37 _ (by decide)).trans ((eval_other _ 39 37 _ (by decide)).trans ((eval_other _ 38 37 _ (by decide)).trans (eval_same _ _ _ (by simp only [put_size, hsz]; decide))))))) (fun w' _ => run_neq_sum q8 HXL.out (eval_same _ _ _ (by simp only [put_size, hsz]; decide)) ((eval_other _ 40 41 _ (by decide)).trans (eval_same _ _ _ (by simp only [put_size, hsz]; decide))) w') ?_
    refine step_pure po9 d9 (wanted_of gd9) (fun w' _ => run_pick_true q9 ((eval_other _ 42 37 _ (by decide)).trans ((eval_other _ 40 37 _ (by decide)).trans ((eval_other _ 41 37 _ (by decide)).trans ((eval_other _ 39 37 _ (by decide)).trans ((eval_other _ 38 37 _ (by decide)).trans (eval_same _ _ _ (by simp only [put_size, hsz]; decide))))))) (eval_same _ _ _ (by simp only [put_size, hsz]; decide)) w') ?_
    have HM6 := Lib.hid (HMK.out.drewOn.on hy1)
    show NoPanic _ .normal _ _
    refine NoPanic.normal ?_
    rw [HAA.out]
    clear HAA po0 po1 po2 po3 po4 po5 po6 po7 po8 po9 q0 q1 q2 q3 q4 q5 q6 q7 q8 q9 base0 base1 base8 base9 hy1 hsz
    go_frame
    go_wp2_with fail
    refine region_sched [(0, true), (1, true), (3, true), (2, false), (4, true), (5, true), (6, true), (7, true), (9, true), (10, true), (8, false), (11, false), (12, true), (13, true), (14, true), (15, false), (16, true), (17, true)] (by kernel_rfl) (by kernel_rfl) (by kernel_rfl) (by kernel_rfl) (fun ops hops A hA => ?_)
    have hsz : A.tmps.size = 61 := by rw [hA]; rfl
    have base1 : A.eval (.tmp 1) = .slice q bs.length cb := by rw [hA]; rfl
    have base7 : A.eval (.tmp 7) = .slice p7 L.length c7 := by rw [hA]; rfl
    have base8 : A.eval (.tmp 8) = .pointer (some ⟨G8, 0, none⟩) := by rw [hA]; rfl
    have HAA := Lib.hid hA; clear hA
    obtain ⟨o0, po0, q0, d0, gd0⟩ : ∃ o, ops[0]? = some o ∧ o.op = .move (.tmp 7) ∧ o.dst = some 44 ∧ o.guard = none := ⟨_, by rw [hops]; rfl, rfl, rfl, rfl⟩
    obtain ⟨o1, po1, q1, d1, gd1⟩ : ∃ o, ops[1]? = some o ∧ o.op = .move (.tmp 1) ∧ o.dst = some 45 ∧ o.guard = none := ⟨_, by rw [hops]; rfl, rfl, rfl, rfl⟩
    obtain ⟨o2, po2, q2, d2, gd2⟩ : ∃ o, ops[2]? = some o ∧ o.op = .call { callee := .value (.func 26), args := #[.tmp 44, .tmp 45], argTypes := #[26, 26] } ∧ o.dst = some 46 ∧ o.guard = none := ⟨_, by rw [hops]; rfl, rfl, rfl, rfl⟩
    obtain ⟨o3, po3, q3, d3, gd3⟩ : ∃ o, ops[3]? = some o ∧ o.op = .load 31 (.tmp 8) ∧ o.dst = some 47 ∧ o.guard = none := ⟨_, by rw [hops]; rfl, rfl, rfl, rfl⟩
    obtain ⟨o4, po4, q4, d4, gd4⟩ : ∃ o, ops[4]? = some o ∧ o.op = .binOp .eql 31 (.tmp 46) (.tmp 47) 31 ∧ o.dst = some 48 ∧ o.guard = none := ⟨_, by rw [hops]; rfl, rfl, rfl, rfl⟩
    obtain ⟨o5, po5, q5, d5, gd5⟩ : ∃ o, ops[5]? = some o ∧ o.op = .move (.tmp 48) ∧ o.dst = some 49 ∧ o.guard = none := ⟨_, by rw [hops]; rfl, rfl, rfl, rfl⟩
    obtain ⟨o6, po6, q6, d6, gd6⟩ : ∃ o, ops[6]? = some o ∧ o.op = .load 31 (.tmp 8) ∧ o.dst = some 50 ∧ o.guard = some (5, true) := ⟨_, by rw [hops]; rfl, rfl, rfl, rfl⟩
    obtain ⟨o7, po7, q7, d7, gd7⟩ : ∃ o, ops[7]? = some o ∧ o.op = .move (.tmp 1) ∧ o.dst = some 51 ∧ o.guard = some (5, true) := ⟨_, by rw [hops]; rfl, rfl, rfl, rfl⟩
    obtain ⟨o8, po8, q8, d8, gd8⟩ : ∃ o, ops[8]? = some o ∧ o.op = .call { callee := .value (.func 27), args := #[.tmp 50, .tmp 51], argTypes := #[31, 26] } ∧ o.dst = some 52 ∧ o.guard = some (5, true) := ⟨_, by rw [hops]; rfl, rfl, rfl, rfl⟩
    obtain ⟨o9, po9, q9, d9, gd9⟩ : ∃ o, ops[9]? = some o ∧ o.op = .slice 31 (.tmp 8) none none none ∧ o.dst = some 53 ∧ o.guard = some (5, true) := ⟨_, by rw [hops]; rfl, rfl, rfl, rfl⟩
    obtain ⟨o10, po10, q10, d10, gd10⟩ : ∃ o, ops[10]? = some o ∧ o.op = .move (.tmp 1) ∧ o.dst = some 54 ∧ o.guard = some (5, true) := ⟨_, by rw [hops]; rfl, rfl, rfl, rfl⟩
    obtain ⟨o11, po11, q11, d11, gd11⟩ : ∃ o, ops[11]? = some o ∧ o.op = .call { callee := .value (.func 26), args := #[.tmp 53, .tmp 54], argTypes := #[26, 26] } ∧ o.dst = some 55 ∧ o.guard = some (5, true) := ⟨_, by rw [hops]; rfl, rfl, rfl, rfl⟩
    obtain ⟨o12, po12, q12, d12, gd12⟩ : ∃ o, ops[12]? = some o ∧ o.op = .binOp .eql 31 (.tmp 52) (.tmp 55) 31 ∧ o.dst = some 56 ∧ o.guard = some (5, true) := ⟨_, by rw [hops]; rfl, rfl, rfl, rfl⟩
    obtain ⟨o13, po13, q13, d13, gd13⟩ : ∃ o, ops[13]? = some o ∧ o.op = .pick (.tmp 49) (.tmp 56) (.const (.bool false)) ∧ o.dst = some 57 ∧ o.guard = none := ⟨_, by rw [hops]; rfl, rfl, rfl, rfl⟩
    obtain ⟨o14, po14, q14, d14, gd14⟩ : ∃ o, ops[14]? = some o ∧ o.op = .move (.tmp 57) ∧ o.dst = some 58 ∧ o.guard = none := ⟨_, by rw [hops]; rfl, rfl, rfl, rfl⟩
    obtain ⟨o15, po15, q15, d15, gd15⟩ : ∃ o, ops[15]? = some o ∧ o.op = .call { callee := .value (.func 25), args := #[], argTypes := #[] } ∧ o.dst = some 59 ∧ o.guard = some (14, true) := ⟨_, by rw [hops]; rfl, rfl, rfl, rfl⟩
    obtain ⟨o16, po16, q16, d16, gd16⟩ : ∃ o, ops[16]? = some o ∧ o.op = .pick (.tmp 58) (.tmp 59) (.const (.bool false)) ∧ o.dst = some 60 ∧ o.guard = none := ⟨_, by rw [hops]; rfl, rfl, rfl, rfl⟩
    obtain ⟨o17, po17, q17, d17, gd17⟩ : ∃ o, ops[17]? = some o ∧ o.op = .assign (.tmp 60) ∧ o.dst = some 6 ∧ o.guard = none := ⟨_, by rw [hops]; rfl, rfl, rfl, rfl⟩
    clear hops
    refine step_pure po0 d0 (wanted_of gd0) (fun w' _ => run_move q0 base7 w') ?_
    refine step_pure po1 d1 (wanted_of gd1) (fun w' _ => run_move q1 ((eval_other _ 44 1 _ (by decide)).trans base1) w') ?_
    refine step_pure po3 d3 (wanted_of gd3) (fun w' hw' => run_load_sum q3 ((eval_other _ 45 8 _ (by decide)).trans ((eval_other _ 44 8 _ (by decide)).trans base8)) HXL.out (range_keep (w := wy1.drew) (HM6.out.drewOn).x.range hw')) ?_
    refine step_call po2 d2 (wanted_of gd2) (run_callf2 q2 rfl ((eval_other _ 47 44 _ (by decide)).trans ((eval_other _ 45 44 _ (by decide)).trans (eval_same _ _ _ (by rw [hsz]; decide)))) ((eval_other _ 47 45 _ (by decide)).trans (eval_same _ _ _ (by simp only [put_size, hsz]; decide))) Tryd.func26 (by kernel_rfl) _) (of_eq X _ bs.length L bs p7 q c7 cb wy1.drew HPAD.out rfl rfl (HM6.out.drewOn).own.liesOf (HRB.out.below (HM6.out.drewOn).below) hc7 hm7 HLL.out hcb (by omega) (by omega) (HK.out.below (HM6.out.drewOn).below hs1) (HS.out.below (HM6.out.drewOn).below (by omega))) (fun w' hR => hR) ?_
    intro wz1 hz1
    refine step_pure po4 d4 (wanted_of gd4) (fun w' _ => run_eql_sum q4 HXL.out (eval_same _ _ _ (by simp only [put_size, hsz]; decide)) ((eval_other _ 46 47 _ (by decide)).trans (eval_same _ _ _ (by simp only [put_size, hsz]; decide))) w') ?_
    refine step_pure po5 d5 (wanted_of gd5) (fun w' _ => run_move q5 (eval_same _ _ _ (by simp only [put_size, hsz]; decide)) w') ?_
    refine step_pure po6 d6 (wanted_guard gd6 po5 d5 (eval_same _ _ _ (by simp only [put_size, hsz]; decide))) (fun w' hw' => run_load_sum q6 ((eval_other _ 49 8 _ (by decide)).trans ((eval_other _ 48 8 _ (by decide)).trans ((eval_other _ 46 8 _ (by decide)).trans ((eval_other _ 47 8 _ (by decide)).trans ((eval_other _ 45 8 _ (by decide)).trans ((eval_other _ 44 8 _ (by decide)).trans base8)))))) HXL.out (range_keep (w := wy1.drew) (HM6.out.drewOn).x.range hw')) ?_
    refine step_pure po7 d7 (wanted_guard gd7 po5 d5 ((eval_other _ 50 49 _ (by decide)).trans (eval_same _ _ _ (by simp only [put_size, hsz]; decide)))) (fun w' _ => run_move q7 ((eval_other _ 50 1 _ (by decide)).trans ((eval_other _ 49 1 _ (by decide)).trans ((eval_other _ 48 1 _ (by decide)).trans ((eval_other _ 46 1 _ (by decide)).trans ((eval_other _ 47 1 _ (by decide)).trans ((eval_other _ 45 1 _ (by decide)).trans ((eval_other _ 44 1 _ (by decide)).trans base1))))))) w') ?_
    refine step_pure po9 d9 (wanted_guard gd9 po5 d5 ((eval_other _ 51 49 _ (by decide)).trans ((eval_other _ 50 49 _ (by decide)).trans (eval_same _ _ _ (by simp only [put_size, hsz]; decide))))) (fun w' _ => run_slice32 q9 ((eval_other _ 51 8 _ (by decide)).trans ((eval_other _ 50 8 _ (by decide)).trans ((eval_other _ 49 8 _ (by decide)).trans ((eval_other _ 48 8 _ (by decide)).trans ((eval_other _ 46 8 _ (by decide)).trans ((eval_other _ 47 8 _ (by decide)).trans ((eval_other _ 45 8 _ (by decide)).trans ((eval_other _ 44 8 _ (by decide)).trans base8)))))))) w') ?_
    refine step_pure po10 d10 (wanted_guard gd10 po5 d5 ((eval_other _ 53 49 _ (by decide)).trans ((eval_other _ 51 49 _ (by decide)).trans ((eval_other _ 50 49 _ (by decide)).trans (eval_same _ _ _ (by simp only [put_size, hsz]; decide)))))) (fun w' _ => run_move q10 ((eval_other _ 53 1 _ (by decide)).trans ((eval_other _ 51 1 _ (by decide)).trans ((eval_other _ 50 1 _ (by decide)).trans ((eval_other _ 49 1 _ (by decide)).trans ((eval_other _ 48 1 _ (by decide)).trans ((eval_other _ 46 1 _ (by decide)).trans ((eval_other _ 47 1 _ (by decide)).trans ((eval_other _ 45 1 _ (by decide)).trans ((eval_other _ 44 1 _ (by decide)).trans base1))))))))) w') ?_
    refine step_call po8 d8 (wanted_guard gd8 po5 d5 ((eval_other _ 54 49 _ (by decide)).trans ((eval_other _ 53 49 _ (by decide)).trans ((eval_other _ 51 49 _ (by decide)).trans ((eval_other _ 50 49 _ (by decide)).trans (eval_same _ _ _ (by simp only [put_size, hsz]; decide))))))) (run_callf2 q8 rfl ((eval_other _ 54 50 _ (by decide)).trans ((eval_other _ 53 50 _ (by decide)).trans ((eval_other _ 51 50 _ (by decide)).trans (eval_same _ _ _ (by simp only [put_size, hsz]; decide))))) ((eval_other _ 54 51 _ (by decide)).trans ((eval_other _ 53 51 _ (by decide)).trans (eval_same _ _ _ (by simp only [put_size, hsz]; decide)))) Tryd.func27 (by kernel_rfl) _) (chain_eq (macOf X bs) bs.length X bs q cb wz1 rfl HXL.out rfl (HRB.out.below (HM6.out.drewOn.on hz1).below) hcb (by omega) (by omega) (HK.out.below (HM6.out.drewOn.on hz1).below hs1) (HS.out.below (HM6.out.drewOn.on hz1).below (by omega))) (fun w' hR => hz1.trans (hR.mono hz1.size)) ?_
    intro wz2 hz2
    replace hz2 := hz1.trans (hz2.mono hz1.size)
    refine step_call po11 d11 (wanted_guard gd11 po5 d5 ((eval_other _ 52 49 _ (by decide)).trans ((eval_other _ 54 49 _ (by decide)).trans ((eval_other _ 53 49 _ (by decide)).trans ((eval_other _ 51 49 _ (by decide)).trans ((eval_other _ 50 49 _ (by decide)).trans (eval_same _ _ _ (by simp only [put_size, hsz]; decide)))))))) (run_callf2 q11 rfl ((eval_other _ 52 53 _ (by decide)).trans ((eval_other _ 54 53 _ (by decide)).trans (eval_same _ _ _ (by simp only [put_size, hsz]; decide)))) ((eval_other _ 52 54 _ (by decide)).trans (eval_same _ _ _ (by simp only [put_size, hsz]; decide))) Tryd.func26 (by kernel_rfl) _) (of_eq (macOf X bs) 32 bs.length X bs _ q 32 cb wz2 rfl HXL.out rfl (Or.inr ⟨G8, 0, rfl, (HM6.out.drewOn.on hz2).x.range⟩) (HRB.out.below (HM6.out.drewOn.on hz2).below) (by omega) (by omega) (by omega) hcb (by omega) (by omega) (HK.out.below (HM6.out.drewOn.on hz2).below hs1) (HS.out.below (HM6.out.drewOn.on hz2).below (by omega))) (fun w' hR => hz2.trans (hR.mono hz2.size)) ?_
    intro wz3 hz3
    replace hz3 := hz2.trans (hz3.mono hz2.size)
    refine step_pure po12 d12 (wanted_guard gd12 po5 d5 ((eval_other _ 55 49 _ (by decide)).trans ((eval_other _ 52 49 _ (by decide)).trans ((eval_other _ 54 49 _ (by decide)).trans ((eval_other _ 53 49 _ (by decide)).trans ((eval_other _ 51 49 _ (by decide)).trans ((eval_other _ 50 49 _ (by decide)).trans (eval_same _ _ _ (by simp only [put_size, hsz]; decide))))))))) (fun w' _ => run_eql_sum q12 (macOf_length X bs) ((eval_other _ 55 52 _ (by decide)).trans (eval_same _ _ _ (by simp only [put_size, hsz]; decide))) (eval_same _ _ _ (by simp only [put_size, hsz]; decide)) w') ?_
    refine step_pure po13 d13 (wanted_of gd13) (fun w' _ => run_pick_true q13 ((eval_other _ 56 49 _ (by decide)).trans ((eval_other _ 55 49 _ (by decide)).trans ((eval_other _ 52 49 _ (by decide)).trans ((eval_other _ 54 49 _ (by decide)).trans ((eval_other _ 53 49 _ (by decide)).trans ((eval_other _ 51 49 _ (by decide)).trans ((eval_other _ 50 49 _ (by decide)).trans (eval_same _ _ _ (by simp only [put_size, hsz]; decide))))))))) (eval_same _ _ _ (by simp only [put_size, hsz]; decide)) w') ?_
    refine step_pure po14 d14 (wanted_of gd14) (fun w' _ => run_move q14 (eval_same _ _ _ (by simp only [put_size, hsz]; decide)) w') ?_
    refine step_call po15 d15 (wanted_guard gd15 po14 d14 (eval_same _ _ _ (by simp only [put_size, hsz]; decide))) (run_callf0 q15 rfl Tryd.func25 (by kernel_rfl) _) (known_any wz3 (HK.out.below (HM6.out.drewOn.on hz3).below hs1) (HS.out.below (HM6.out.drewOn.on hz3).below (by omega))) (fun w' hR => hz3.trans (hR.mono hz3.size)) ?_
    intro wz4 hz4
    replace hz4 := hz3.trans (hz4.mono hz3.size)
    refine step_pure po16 d16 (wanted_of gd16) (fun w' _ => run_pick_true q16 ((eval_other _ 59 58 _ (by decide)).trans (eval_same _ _ _ (by simp only [put_size, hsz]; decide))) (eval_same _ _ _ (by simp only [put_size, hsz]; decide)) w') ?_
    refine step_pure po17 d17 (wanted_of gd17) (fun w' _ => run_assign q17 (eval_same _ _ _ (by simp only [put_size, hsz]; decide)) w') ?_
    have HFIN := Lib.hid ((HM6.out.drewOn.on hz4).below)
    show NoPanic _ .normal _ _
    refine NoPanic.normal ?_
    rw [HAA.out]
    go_frame
    go_wp2_with fail
    go_ret
    exact ⟨rfl, HFIN.out⟩
  · have h32' : ¬ (key.length : Int) ≤ 32 := by omega
    have hd : decide ((key.length : Int) ≤ 32) = false := by simpa using h32'
    go_quiet (fail)
    have HM6 := Lib.hid (HMK.out.drewN nq)
    generalize w5.drewN nq = w6 at HM6 ⊢
    go_wp2_with fail
    refine region_sched [(0, true), (1, true), (3, true), (2, false), (4, true), (5, true), (6, true), (7, true), (9, true), (10, true), (8, false), (11, false), (12, true), (13, true), (14, true), (15, false), (16, true), (17, true)] (by kernel_rfl) (by kernel_rfl) (by kernel_rfl) (by kernel_rfl) (fun ops hops A hA => ?_)
    have hsz : A.tmps.size = 61 := by rw [hA]; rfl
    have base1 : A.eval (.tmp 1) = .slice q bs.length cb := by rw [hA]; rfl
    have base7 : A.eval (.tmp 7) = .slice p7 L.length c7 := by rw [hA]; rfl
    have base8 : A.eval (.tmp 8) = .pointer (some ⟨G8, 0, none⟩) := by rw [hA]; rfl
    have HAA := Lib.hid hA; clear hA
    obtain ⟨o0, po0, q0, d0, gd0⟩ : ∃ o, ops[0]? = some o ∧ o.op = .move (.tmp 7) ∧ o.dst = some 44 ∧ o.guard = none := ⟨_, by rw [hops]; rfl, rfl, rfl, rfl⟩
    obtain ⟨o1, po1, q1, d1, gd1⟩ : ∃ o, ops[1]? = some o ∧ o.op = .move (.tmp 1) ∧ o.dst = some 45 ∧ o.guard = none := ⟨_, by rw [hops]; rfl, rfl, rfl, rfl⟩
    obtain ⟨o2, po2, q2, d2, gd2⟩ : ∃ o, ops[2]? = some o ∧ o.op = .call { callee := .value (.func 26), args := #[.tmp 44, .tmp 45], argTypes := #[26, 26] } ∧ o.dst = some 46 ∧ o.guard = none := ⟨_, by rw [hops]; rfl, rfl, rfl, rfl⟩
    obtain ⟨o3, po3, q3, d3, gd3⟩ : ∃ o, ops[3]? = some o ∧ o.op = .load 31 (.tmp 8) ∧ o.dst = some 47 ∧ o.guard = none := ⟨_, by rw [hops]; rfl, rfl, rfl, rfl⟩
    obtain ⟨o4, po4, q4, d4, gd4⟩ : ∃ o, ops[4]? = some o ∧ o.op = .binOp .eql 31 (.tmp 46) (.tmp 47) 31 ∧ o.dst = some 48 ∧ o.guard = none := ⟨_, by rw [hops]; rfl, rfl, rfl, rfl⟩
    obtain ⟨o5, po5, q5, d5, gd5⟩ : ∃ o, ops[5]? = some o ∧ o.op = .move (.tmp 48) ∧ o.dst = some 49 ∧ o.guard = none := ⟨_, by rw [hops]; rfl, rfl, rfl, rfl⟩
    obtain ⟨o6, po6, q6, d6, gd6⟩ : ∃ o, ops[6]? = some o ∧ o.op = .load 31 (.tmp 8) ∧ o.dst = some 50 ∧ o.guard = some (5, true) := ⟨_, by rw [hops]; rfl, rfl, rfl, rfl⟩
    obtain ⟨o7, po7, q7, d7, gd7⟩ : ∃ o, ops[7]? = some o ∧ o.op = .move (.tmp 1) ∧ o.dst = some 51 ∧ o.guard = some (5, true) := ⟨_, by rw [hops]; rfl, rfl, rfl, rfl⟩
    obtain ⟨o8, po8, q8, d8, gd8⟩ : ∃ o, ops[8]? = some o ∧ o.op = .call { callee := .value (.func 27), args := #[.tmp 50, .tmp 51], argTypes := #[31, 26] } ∧ o.dst = some 52 ∧ o.guard = some (5, true) := ⟨_, by rw [hops]; rfl, rfl, rfl, rfl⟩
    obtain ⟨o9, po9, q9, d9, gd9⟩ : ∃ o, ops[9]? = some o ∧ o.op = .slice 31 (.tmp 8) none none none ∧ o.dst = some 53 ∧ o.guard = some (5, true) := ⟨_, by rw [hops]; rfl, rfl, rfl, rfl⟩
    obtain ⟨o10, po10, q10, d10, gd10⟩ : ∃ o, ops[10]? = some o ∧ o.op = .move (.tmp 1) ∧ o.dst = some 54 ∧ o.guard = some (5, true) := ⟨_, by rw [hops]; rfl, rfl, rfl, rfl⟩
    obtain ⟨o11, po11, q11, d11, gd11⟩ : ∃ o, ops[11]? = some o ∧ o.op = .call { callee := .value (.func 26), args := #[.tmp 53, .tmp 54], argTypes := #[26, 26] } ∧ o.dst = some 55 ∧ o.guard = some (5, true) := ⟨_, by rw [hops]; rfl, rfl, rfl, rfl⟩
    obtain ⟨o12, po12, q12, d12, gd12⟩ : ∃ o, ops[12]? = some o ∧ o.op = .binOp .eql 31 (.tmp 52) (.tmp 55) 31 ∧ o.dst = some 56 ∧ o.guard = some (5, true) := ⟨_, by rw [hops]; rfl, rfl, rfl, rfl⟩
    obtain ⟨o13, po13, q13, d13, gd13⟩ : ∃ o, ops[13]? = some o ∧ o.op = .pick (.tmp 49) (.tmp 56) (.const (.bool false)) ∧ o.dst = some 57 ∧ o.guard = none := ⟨_, by rw [hops]; rfl, rfl, rfl, rfl⟩
    obtain ⟨o14, po14, q14, d14, gd14⟩ : ∃ o, ops[14]? = some o ∧ o.op = .move (.tmp 57) ∧ o.dst = some 58 ∧ o.guard = none := ⟨_, by rw [hops]; rfl, rfl, rfl, rfl⟩
    obtain ⟨o15, po15, q15, d15, gd15⟩ : ∃ o, ops[15]? = some o ∧ o.op = .call { callee := .value (.func 25), args := #[], argTypes := #[] } ∧ o.dst = some 59 ∧ o.guard = some (14, true) := ⟨_, by rw [hops]; rfl, rfl, rfl, rfl⟩
    obtain ⟨o16, po16, q16, d16, gd16⟩ : ∃ o, ops[16]? = some o ∧ o.op = .pick (.tmp 58) (.tmp 59) (.const (.bool false)) ∧ o.dst = some 60 ∧ o.guard = none := ⟨_, by rw [hops]; rfl, rfl, rfl, rfl⟩
    obtain ⟨o17, po17, q17, d17, gd17⟩ : ∃ o, ops[17]? = some o ∧ o.op = .assign (.tmp 60) ∧ o.dst = some 6 ∧ o.guard = none := ⟨_, by rw [hops]; rfl, rfl, rfl, rfl⟩
    clear hops
    refine step_pure po0 d0 (wanted_of gd0) (fun w' _ => run_move q0 base7 w') ?_
    refine step_pure po1 d1 (wanted_of gd1) (fun w' _ => run_move q1 ((eval_other _ 44 1 _ (by decide)).trans base1) w') ?_
    refine step_pure po3 d3 (wanted_of gd3) (fun w' hw' => run_load_sum q3 ((eval_other _ 45 8 _ (by decide)).trans ((eval_other _ 44 8 _ (by decide)).trans base8)) HXL.out (range_keep (w := w6.drew) (HM6.out.drewOn).x.range hw')) ?_
    refine step_call po2 d2 (wanted_of gd2) (run_callf2 q2 rfl ((eval_other _ 47 44 _ (by decide)).trans ((eval_other _ 45 44 _ (by decide)).trans (eval_same _ _ _ (by rw [hsz]; decide)))) ((eval_other _ 47 45 _ (by decide)).trans (eval_same _ _ _ (by simp only [put_size, hsz]; decide))) Tryd.func26 (by kernel_rfl) _) (of_eq X _ bs.length L bs p7 q c7 cb w6.drew HPAD.out rfl rfl (HM6.out.drewOn).own.liesOf (HRB.out.below (HM6.out.drewOn).below) hc7 hm7 HLL.out hcb (by omega) (by omega) (HK.out.below (HM6.out.drewOn).below hs1) (HS.out.below (HM6.out.drewOn).below (by omega))) (fun w' hR => hR) ?_
    intro wz1 hz1
    refine step_pure po4 d4 (wanted_of gd4) (fun w' _ => run_eql_sum q4 HXL.out (eval_same _ _ _ (by simp only [put_size, hsz]; decide)) ((eval_other _ 46 47 _ (by decide)).trans (eval_same _ _ _ (by simp only [put_size, hsz]; decide))) w') ?_
    refine step_pure po5 d5 (wanted_of gd5) (fun w' _ => run_move q5 (eval_same _ _ _ (by simp only [put_size, hsz]; decide)) w') ?_
    refine step_pure po6 d6 (wanted_guard gd6 po5 d5 (eval_same _ _ _ (by simp only [put_size, hsz]; decide))) (fun w' hw' => run_load_sum q6 ((eval_other _ 49 8 _ (by decide)).trans ((eval_other _ 48 8 _ (by decide)).trans ((eval_other _ 46 8 _ (by decide)).trans ((eval_other _ 47 8 _ (by decide)).trans ((eval_other _ 45 8 _ (by decide)).trans ((eval_other _ 44 8 _ (by decide)).trans base8)))))) HXL.out (range_keep (w := w6.drew) (HM6.out.drewOn).x.range hw')) ?_
    refine step_pure po7 d7 (wanted_guard gd7 po5 d5 ((eval_other _ 50 49 _ (by decide)).trans (eval_same _ _ _ (by simp only [put_size, hsz]; decide)))) (fun w' _ => run_move q7 ((eval_other _ 50 1 _ (by decide)).trans ((eval_other _ 49 1 _ (by decide)).trans ((eval_other _ 48 1 _ (by decide)).trans ((eval_other _ 46 1 _ (by decide)).trans ((eval_other _ 47 1 _ (by decide)).trans ((eval_other _ 45 1 _ (by decide)).trans ((eval_other _ 44 1 _ (by decide)).trans base1))))))) w') ?_
    refine step_pure po9 d9 (wanted_guard gd9 po5 d5 ((eval_other _ 51 49 _ (by decide)).trans ((eval_other _ 50 49 _ (by decide)).trans (eval_same _ _ _ (by simp only [put_size, hsz]; decide))))) (fun w' _ => run_slice32 q9 ((eval_other _ 51 8 _ (by decide)).trans ((eval_other _ 50 8 _ (by decide)).trans ((eval_other _ 49 8 _ (by decide)).trans ((eval_other _ 48 8 _ (by decide)).trans ((eval_other _ 46 8 _ (by decide)).trans ((eval_other _ 47 8 _ (by decide)).trans ((eval_other _ 45 8 _ (by decide)).trans ((eval_other _ 44 8 _ (by decide)).trans base8)))))))) w') ?_
    refine step_pure po10 d10 (wanted_guard gd10 po5 d5 ((eval_other _ 53 49 _ (by decide)).trans ((eval_other _ 51 49 _ (by decide)).trans ((eval_other _ 50 49 _ (by decide)).trans (eval_same _ _ _ (by simp only [put_size, hsz]; decide)))))) (fun w' _ => run_move q10 ((eval_other _ 53 1 _ (by decide)).trans ((eval_other _ 51 1 _ (by decide)).trans ((eval_other _ 50 1 _ (by decide)).trans ((eval_other _ 49 1 _ (by decide)).trans ((eval_other _ 48 1 _ (by decide)).trans ((eval_other _ 46 1 _ (by decide)).trans ((eval_other _ 47 1 _ (by decide)).trans ((eval_other _ 45 1 _ (by decide)).trans ((eval_other _ 44 1 _ (by decide)).trans base1))))))))) w') ?_
    refine step_call po8 d8 (wanted_guard gd8 po5 d5 ((eval_other _ 54 49 _ (by decide)).trans ((eval_other _ 53 49 _ (by decide)).trans ((eval_other _ 51 49 _ (by decide)).trans ((eval_other _ 50 49 _ (by decide)).trans (eval_same _ _ _ (by simp only [put_size, hsz]; decide))))))) (run_callf2 q8 rfl ((eval_other _ 54 50 _ (by decide)).trans ((eval_other _ 53 50 _ (by decide)).trans ((eval_other _ 51 50 _ (by decide)).trans (eval_same _ _ _ (by simp only [put_size, hsz]; decide))))) ((eval_other _ 54 51 _ (by decide)).trans ((eval_other _ 53 51 _ (by decide)).trans (eval_same _ _ _ (by simp only [put_size, hsz]; decide)))) Tryd.func27 (by kernel_rfl) _) (chain_eq (macOf X bs) bs.length X bs q cb wz1 rfl HXL.out rfl (HRB.out.below (HM6.out.drewOn.on hz1).below) hcb (by omega) (by omega) (HK.out.below (HM6.out.drewOn.on hz1).below hs1) (HS.out.below (HM6.out.drewOn.on hz1).below (by omega))) (fun w' hR => hz1.trans (hR.mono hz1.size)) ?_
    intro wz2 hz2
    replace hz2 := hz1.trans (hz2.mono hz1.size)
    refine step_call po11 d11 (wanted_guard gd11 po5 d5 ((eval_other _ 52 49 _ (by decide)).trans ((eval_other _ 54 49 _ (by decide)).trans ((eval_other _ 53 49 _ (by decide)).trans ((eval_other _ 51 49 _ (by decide)).trans ((eval_other _ 50 49 _ (by decide)).trans (eval_same _ _ _ (by simp only [put_size, hsz]; decide)))))))) (run_callf2 q11 rfl ((eval_other _ 52 53 _ (by decide)).trans ((eval_other _ 54 53 _ (by decide)).trans (eval_same _ _ _ (by simp only [put_size, hsz]; decide)))) ((eval_other _ 52 54 _ (by decide)).trans (eval_same _ _ _ (by simp only [put_size, hsz]; decide))) Tryd.func26 (by kernel_rfl) _) (of_eq (macOf X bs) 32 bs.length X bs _ q 32 cb wz2 rfl HXL.out rfl (Or.inr ⟨G8, 0, rfl, (HM6.out.drewOn.on hz2).x.range⟩) (HRB.out.below (HM6.out.drewOn.on hz2).below) (by omega) (by omega) (by omega) hcb (by omega) (by omega) (HK.out.below (HM6.out.drewOn.on hz2).below hs1) (HS.out.below (HM6.out.drewOn.on hz2).below (by omega))) (fun w' hR => hz2.trans (hR.mono hz2.size)) ?_
    intro wz3 hz3
    replace hz3 := hz2.trans (hz3.mono hz2.size)
    refine step_pure po12 d12 (wanted_guard gd12 po5 d5 ((eval_other _ 55 49 _ (by decide)).trans ((eval_other _ 52 49 _ (by decide)).trans ((eval_other _ 54 49 _ (by decide)).trans ((eval_other _ 53 49 _ (by decide)).trans ((eval_other _ 51 49 _ (by decide)).trans ((eval_other _ 50 49 _ (by decide)).trans (eval_same _ _ _ (by simp only [put_size, hsz]; decide))))))))) (fun w' _ => run_eql_sum q12 (macOf_length X bs) ((eval_other _ 55 52 _ (by decide)).trans (eval_same _ _ _ (by simp only [put_size, hsz]; decide))) (eval_same _ _ _ (by simp only [put_size, hsz]; decide)) w') ?_
    refine step_pure po13 d13 (wanted_of gd13) (fun w' _ => run_pick_true q13 ((eval_other _ 56 49 _ (by decide)).trans ((eval_other _ 55 49 _ (by decide)).trans ((eval_other _ 52 49 _ (by decide)).trans ((eval_other _ 54 49 _ (by decide)).trans ((eval_other _ 53 49 _ (by decide)).trans ((eval_other _ 51 49 _ (by decide)).trans ((eval_other _ 50 49 _ (by decide)).trans (eval_same _ _ _ (by simp only [put_size, hsz]; decide))))))))) (eval_same _ _ _ (by simp only [put_size, hsz]; decide)) w') ?_
    refine step_pure po14 d14 (wanted_of gd14) (fun w' _ => run_move q14 (eval_same _ _ _ (by simp only [put_size, hsz]; decide)) w') ?_
    refine step_call po15 d15 (wanted_guard gd15 po14 d14 (eval_same _ _ _ (by simp only [put_size, hsz]; decide))) (run_callf0 q15 rfl Tryd.func25 (by kernel_rfl) _) (known_any wz3 (HK.out.below (HM6.out.drewOn.on hz3).below hs1) (HS.out.below (HM6.out.drewOn.on hz3).below (by omega))) (fun w' hR => hz3.trans (hR.mono hz3.size)) ?_
    intro wz4 hz4
    replace hz4 := hz3.trans (hz4.mono hz3.size)
    refine step_pure po16 d16 (wanted_of gd16) (fun w' _ => run_pick_true q16 ((eval_other _ 59 58 _ (by decide)).trans (eval_same _ _ _ (by simp only [put_size, hsz]; decide))) (eval_same _ _ _ (by simp only [put_size, hsz]; decide)) w') ?_
    refine step_pure po17 d17 (wanted_of gd17) (fun w' _ => run_assign q17 (eval_same _ _ _ (by simp only [put_size, hsz]; decide)) w') ?_
    have HFIN := Lib.hid ((HM6.out.drewOn.on hz4).below)
    show NoPanic _ .normal _ _
    refine NoPanic.normal ?_
    rw [HAA.out]
    go_frame
    go_wp2_with fail
    go_ret
    exact ⟨rfl, HFIN.out⟩
theorem keys_any (key bs : List (BitVec 8)) (lk lb : Nat) (p q : Option Addr) (ck cb : Nat) (more : Int) (w : World) (hk1 : key.length = lk) (hb1 : bs.length = lb) (hrk : Lies w p key) (hrb : Lies w q bs)
    (hck : lk ≤ ck) (hckm : ck ≤ 140737488351232) (hcb : lb ≤ cb) (hcbm : cb ≤ 140737488351232) (hk : Consts w) (hs : Starts w) :
    Calls Tryd.prog 6 #[.slice p lk ck, .slice q lb cb, .int .i64 more] w fun e w' => e = .returned (.bool true) ∧ Below w.heap.size w w' := by
  subst hk1; subst hb1
  by_cases h : 64 < key.length ∨ 4096 < bs.length
  · exact keys_long key.length bs.length p q ck cb more w h (by omega) (by omega) hk hs
  · exact keys_main key bs p q ck cb more w (by omega) (by omega) hrk hrb hck hckm hcb hcbm hk hs
end Go.Proofs.YtifnflhkcpchhaaDoor
