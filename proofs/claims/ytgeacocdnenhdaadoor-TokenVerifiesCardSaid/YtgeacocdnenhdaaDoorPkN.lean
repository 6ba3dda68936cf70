/-
  What other texts lean on: RtModel, RtName, RtScope, RtOps, RtRef, RtCheck, RtNarrow, RtRefN, RtOpen.
-/
import Derived.Test.YtgeacocdnenhdaaDoorPkA
import Derived.Test.YtgeacocdnenhdaaDoorPkZ
import Derived.Lib.Strings
import Derived.LoopTactic
import Derived.Shelf.Strings.Prefix
import Derived.IntWalk
import Derived.Deep.Cut
import Derived.Deep.QuietTactic
import Derived.BigQuiet
/-
  Names, rights, grants and rules as plain data.
-/
namespace Go.Proofs.YtgeacocdnenhdaaDoor
open Go.RowKit
/-- A number has the rights of another one. -/
def hasZ (a b : Int) : Bool := decide (BitVec.ofInt 64 a &&& BitVec.ofInt 64 b = BitVec.ofInt 64 b)
theorem ofInt_inj64 {a b : Int} (ha : wrap64 a = a) (hb : wrap64 b = b) (h : BitVec.ofInt 64 a = BitVec.ofInt 64 b) : a = b := by
  have h1 := congrArg BitVec.toNat h
  rw [BitVec.toNat_ofInt, BitVec.toNat_ofInt] at h1
  unfold wrap64 at ha hb
  omega
theorem wrap_of_toNat (v : BitVec 64) : BitVec.ofInt 64 (wrap64 (v.toNat : Int)) = v := by
  apply BitVec.eq_of_toNat_eq
  rw [BitVec.toNat_ofInt]
  have := v.isLt
  unfold wrap64
  omega
theorem wrap_wrap (z : Int) : wrap64 (wrap64 z) = wrap64 z := by
  unfold wrap64
  omega
/-- The program's test: a & b == b. -/
theorem has_and {a b : Int} (hb : wrap64 b = b) : decide (wrap64 ((BitVec.ofInt 64 a &&& BitVec.ofInt 64 b).toNat : Int) = b) = hasZ a b := by
  unfold hasZ
  apply decide_eq_decide.2
  refine ⟨fun h => ?_, fun h => ?_⟩
  · have h1 := congrArg (BitVec.ofInt 64) h
    rw [wrap_of_toNat] at h1
    exact h1
  · rw [h]
    exact ofInt_inj64 (wrap_wrap _) hb (wrap_of_toNat _)
theorem and_or {x y : BitVec 64} : (x &&& y = y) ↔ (x ||| y = x) := by
  refine ⟨fun h => ?_, fun h => ?_⟩
  · rw [← h]
    apply BitVec.eq_of_getElem_eq
    intro i hi
    rw [BitVec.getElem_or, BitVec.getElem_and]
    cases x[i] <;> simp
  · rw [← h]
    apply BitVec.eq_of_getElem_eq
    intro i hi
    rw [BitVec.getElem_and, BitVec.getElem_or]
    cases y[i] <;> simp
/-- The document's test: a | b == a. -/
theorem has_or {a b : Int} (ha : wrap64 a = a) : decide (wrap64 ((BitVec.ofInt 64 a ||| BitVec.ofInt 64 b).toNat : Int) = a) = hasZ a b := by
  unfold hasZ
  apply decide_eq_decide.2
  rw [and_or]
  refine ⟨fun h => ?_, fun h => ?_⟩
  · have h1 := congrArg (BitVec.ofInt 64) h
    rw [wrap_of_toNat] at h1
    exact h1
  · rw [h]
    exact ofInt_inj64 (wrap_wrap _) ha (wrap_of_toNat _)
/-- Bytes of a name. -/
def smallC (c : UInt8) : Bool := decide (97 ≤ (c.toNat : Int) ∧ (c.toNat : Int) ≤ 122)
def nameC (c : UInt8) : Bool := smallC c || (decide (48 ≤ (c.toNat : Int) ∧ (c.toNat : Int) ≤ 57) || (decide ((c.toNat : Int) = 45) || decide ((c.toNat : Int) = 46)))
def headC (l : List UInt8) : Bool := match l with | [] => false | c :: _ => smallC c
def nameL (l : List UInt8) : Bool := headC l && (l.all nameC && decide (l.length ≤ 24))
def nameS (s : ByteArray) : Bool := nameL s.data.toList
/-- A text begins with another one. -/
def begS (s p : ByteArray) : Bool := Lib.hasPrefix s.data.toList p.data.toList
theorem begS_iff {s p : ByteArray} : begS s p = true ↔ p.data.toList <+: s.data.toList := by
  unfold begS Lib.hasPrefix
  exact List.isPrefixOf_iff_prefix
theorem begS_refl (a : ByteArray) : begS a a = true := begS_iff.2 (List.prefix_refl _)
theorem bytes_ext {a b : ByteArray} (h : a.data.toList = b.data.toList) : a = b := by
  cases a; cases b; simp at h; rw [h]
/-- A grant. -/
structure GrantM where
  rights : Int
  pre : ByteArray
  exact : Bool
  till : Int
instance : Inhabited GrantM := ⟨⟨0, ⟨#[]⟩, false, 0⟩⟩
def GrantM.cells (g : GrantM) : List Value := [.int .i64 g.rights, .string g.pre, .bool g.exact, .int .i64 g.till]
structure GrantM.Ok (g : GrantM) : Prop where
  rw : wrap64 g.rights = g.rights
  tw : wrap64 g.till = g.till
  ps : g.pre.size ≤ 140737488351232
/-- A scope holds another one. -/
def scopeM (p : ByteArray) (e : Bool) (q : ByteArray) (f : Bool) : Bool := if e = true then decide (q = p) && f else begS q p
def tillM (a b : Int) : Bool := decide (a = 0) || (decide (1 ≤ b) && decide (b ≤ a))
def narrowM (a b : GrantM) : Bool := hasZ a.rights b.rights && (scopeM a.pre a.exact b.pre b.exact && tillM a.till b.till)
def preOk (s : ByteArray) : Bool := decide (s = ⟨#[]⟩) || nameS s
def checkM (g : GrantM) : Int :=
  if g.rights < 1 ∨ g.rights > 127 ∨ g.till < 0 ∨ g.till > 1099511627776 ∨ (g.exact = true ∧ g.pre = ⟨#[]⟩) then 1
  else if preOk g.pre = true then 0 else 10
/-- A rule. -/
structure RuleM where
  pre : ByteArray
  rights : Int
instance : Inhabited RuleM := ⟨⟨⟨#[]⟩, 0⟩⟩
def RuleM.cells (r : RuleM) : List Value := [.string r.pre, .int .i64 r.rights]
structure RuleM.Ok (r : RuleM) : Prop where
  rw : wrap64 r.rights = r.rights
  ps : r.pre.size ≤ 140737488351232
/- What is within gives less. -/
end Go.Proofs.YtgeacocdnenhdaaDoor

/-
  Names: the program's and the document's.
-/
namespace Go.Proofs.YtgeacocdnenhdaaDoor
open Go.RowKit
theorem nameS_long {s : ByteArray} (h : 24 < s.size) : nameS s = false := by
  have h2 : ¬ s.data.toList.length ≤ 24 := by simpa using (show ¬ s.size ≤ 24 by omega)
  unfold nameS nameL
  rw [decide_eq_false h2]
  simp
theorem size_list (s : ByteArray) : s.data.toList.length = s.size := Array.length_toList
theorem get_list (s : ByteArray) (k : Nat) (h : k < s.size) : s.data.toList[k]'(by rw [size_list]; exact h) = s[k] := rfl
theorem headC_get (l : List UInt8) (h : 0 < l.length) : headC l = smallC l[0] := by
  cases l with
  | nil => simp at h
  | cons c l => rfl
theorem nameS_head {s : ByteArray} (h : 0 < s.size) (hc : smallC s[0] = false) : nameS s = false := by
  unfold nameS nameL
  rw [headC_get _ (by rw [size_list]; exact h), get_list s 0 h, hc]
  simp
theorem nameS_at {s : ByteArray} {k : Nat} (h : k < s.size) (hc : nameC s[k] = false) : nameS s = false := by
  unfold nameS nameL
  have h1 := get_list s k h
  have h2 : s.data.toList.all nameC = false := by
    rw [List.all_eq_false]
    exact ⟨s[k], by rw [← h1]; exact List.getElem_mem _, by rw [hc]; simp⟩
  rw [h2]; simp
theorem nameS_all {s : ByteArray} (h : 0 < s.size) (h2 : s.size ≤ 24) (hh : smallC s[0] = true) (hc : ∀ k (h : k < s.size), nameC s[k] = true) : nameS s = true := by
  unfold nameS nameL
  have e1 : headC s.data.toList = true := by
    rw [headC_get _ (by rw [size_list]; exact h), get_list s 0 h]
    exact hh
  have e2 : s.data.toList.all nameC = true := by
    rw [List.all_eq_true]
    intro x hx
    obtain ⟨k, hk, rfl⟩ := List.getElem_of_mem hx
    have := hc k (by rw [← size_list]; exact hk)
    rw [← get_list] at this
    exact this
  rw [e1, e2, size_list]
  simp [h2]
def ReturnsB (b : Bool) (w : World) (e : Ending) (w' : World) : Prop := e = .returned (.bool b) ∧ w = w'
theorem rtLetter_any (c : UInt8) (w : World) : Calls Tryd.prog 133 #[.int .u8 (c.toNat : Int)] w (ReturnsB (smallC c) w) := by
  by_cases h1 : 97 ≤ (c.toNat : Int) <;> by_cases h2 : (c.toNat : Int) ≤ 122
  all_goals
    go_enter Tryd.func133, Tryd.ntmps133
    go_wp2_with fail
    go_ret
    exact ⟨by simp [smallC, h1, h2], rfl⟩
theorem refLetter_any (c : UInt8) (w : World) : Calls Tryd.prog 161 #[.int .u8 (c.toNat : Int)] w (ReturnsB (smallC c) w) := by
  by_cases h1 : 97 ≤ (c.toNat : Int) <;> by_cases h2 : (c.toNat : Int) ≤ 122
  all_goals
    go_enter Tryd.func161, Tryd.ntmps161
    go_wp2_with fail
    go_ret
    exact ⟨by simp [smallC, h1, h2], rfl⟩
theorem rtInName_any (c : UInt8) (w : World) : Calls Tryd.prog 134 #[.int .u8 (c.toNat : Int)] w (ReturnsB (nameC c) w) := by
  by_cases h1 : 48 ≤ (c.toNat : Int) <;> cases hs : smallC c
  all_goals
    go_enter Tryd.func134, Tryd.ntmps134
    go_wp2_with fail
    refine (rtLetter_any c w).mono ?_
    rw [hs]
    rintro e w' ⟨rfl, rfl⟩
    go_wp2_with fail
    all_goals
      go_ret
      refine ⟨congrArg (fun b => Ending.returned (.bool b)) ?_, rfl⟩
      apply Bool.eq_iff_iff.2
      simp [nameC, hs]
      try omega
theorem list_ne {s : ByteArray} (hpos : 0 < s.size) : (s.toList == []) = false := by
  rw [Lib.toList_data, beq_eq_false_iff_ne]
  intro h
  have := size_list s
  rw [h] at this
  simp at this
  omega
theorem rtName_any (s : ByteArray) (w : World) (hlim : s.size ≤ 140737488351232) : Calls Tryd.prog 59 #[.string s] w (ReturnsB (nameS s) w) := by
  by_cases h0 : s.size = 0
  · obtain rfl : s = ⟨#[]⟩ := bytes_ext (List.length_eq_zero_iff.1 (by rw [size_list]; exact h0))
    go_enter Tryd.func59, Tryd.ntmps59
    go_wp2_with fail
    go_ret
    exact ⟨rfl, rfl⟩
  have hpos : 0 < s.size := by omega
  have hne2 := list_ne hpos
  have hne3 : ¬ s.toList = [] := by simpa using hne2
  by_cases hlong : 24 < s.size
  · have HB := Lib.hid (nameS_long hlong)
    go_enter Tryd.func59, Tryd.ntmps59
    go_wp2_with fail
    go_ret
    refine ⟨?_, rfl⟩
    rw [HB.out]
    rfl
  have hshort : s.size ≤ 24 := by omega
  cases hh : smallC s[0]
  · have HB := Lib.hid (nameS_head hpos hh)
    have HH := Lib.hid hh
    go_enter Tryd.func59, Tryd.ntmps59
    go_wp2_with fail
    refine (rtLetter_any s[0] w).mono ?_
    rw [HH.out]
    rintro e w' ⟨rfl, rfl⟩
    go_wp2_with fail
    go_ret
    refine ⟨?_, rfl⟩
    rw [HB.out]
    rfl
  have HH := Lib.hid hh
  go_enter Tryd.func59, Tryd.ntmps59
  go_wp2_with fail
  refine (rtLetter_any s[0] w).mono ?_
  rw [HH.out]
  rintro e w' ⟨rfl, rfl⟩
  go_wp2_with fail
  go_loop [19] (fun i => ∃ k : Nat, k ≤ s.size ∧ i = .int .i64 k ∧ ∀ j (h : j < s.size), j < k → nameC s[j] = true) (fun i => s.size - (intOf i).toNat)
  case atStart => exact ⟨0, Nat.zero_le _, rfl, fun j _ h => by omega⟩
  case round =>
    obtain ⟨k, hk, rfl, hall⟩ := hrel
    have HALL := Lib.hid hall
    clear hall
    by_cases hlt : k < s.size
    · cases hc : nameC s[k]
      · have HB := Lib.hid (nameS_at hlt hc)
        have HC := Lib.hid hc
        go_wp2_with fail
        refine (rtInName_any s[k] w).mono ?_
        rw [HC.out]
        rintro e w' ⟨rfl, rfl⟩
        go_wp2_with fail
        go_ret
        refine ⟨?_, rfl⟩
        rw [HB.out]
        rfl
      · have HC := Lib.hid hc
        go_wp2_with fail
        refine (rtInName_any s[k] w).mono ?_
        rw [HC.out]
        rintro e w' ⟨rfl, rfl⟩
        go_wp2_with fail
        go_round
        case rel => exact ⟨k + 1, by omega, by go_num, fun j h hj => by
          by_cases e : j = k
          · subst e; exact HC.out
          · exact HALL.out j h (by omega)⟩
        case measure => simp [intOf]; omega
    · have HB := Lib.hid (nameS_all hpos hshort HH.out (fun j h => HALL.out j h (by omega)))
      go_wp2_with fail
      go_ret
      refine ⟨?_, rfl⟩
      rw [HB.out]
      rfl
set_option maxHeartbeats 2000000 in
theorem refName_any (s : ByteArray) (w : World) (hlim : s.size ≤ 140737488351232) : Calls Tryd.prog 99 #[.string s] w (ReturnsB (nameS s) w) := by
  by_cases h0 : s.size < 1
  · obtain rfl : s = ⟨#[]⟩ := bytes_ext (List.length_eq_zero_iff.1 (by rw [size_list]; omega))
    go_enter Tryd.func99, Tryd.ntmps99
    go_wp2_with fail
    go_ret
    exact ⟨rfl, rfl⟩
  have hpos : 0 < s.size := by omega
  by_cases hlong : 24 < s.size
  · have HB := Lib.hid (nameS_long hlong)
    go_enter Tryd.func99, Tryd.ntmps99
    go_wp2_with fail
    go_ret
    refine ⟨?_, rfl⟩
    rw [HB.out]
    rfl
  have hshort : s.size ≤ 24 := by omega
  cases hh : smallC s[0]
  · have HB := Lib.hid (nameS_head hpos hh)
    have HH := Lib.hid hh
    go_enter Tryd.func99, Tryd.ntmps99
    go_wp2_with fail
    refine (refLetter_any s[0] w).mono ?_
    rw [HH.out]
    rintro e w' ⟨rfl, rfl⟩
    go_wp2_with fail
    go_ret
    refine ⟨?_, rfl⟩
    rw [HB.out]
    rfl
  have HH := Lib.hid hh
  go_enter Tryd.func99, Tryd.ntmps99
  go_wp2_with fail
  refine (refLetter_any s[0] w).mono ?_
  rw [HH.out]
  rintro e w' ⟨rfl, rfl⟩
  go_wp2_with fail
  go_loop [3] (fun i => ∃ k : Nat, k ≤ s.size ∧ i = .int .i64 k ∧ ∀ j (h : j < s.size), j < k → nameC s[j] = true) (fun i => s.size - (intOf i).toNat)
  case atStart => exact ⟨0, Nat.zero_le _, rfl, fun j _ h => by omega⟩
  case round =>
    obtain ⟨k, hk, rfl, hall⟩ := hrel
    have HALL := Lib.hid hall
    clear hall
    by_cases hlt : k < s.size
    · have HC := Lib.hid (show nameC s[k] = nameC s[k] from rfl)
      cases hc : smallC s[k]
      · have HF := Lib.hid (show nameC s[k] = (decide (48 ≤ (s[k].toNat : Int) ∧ (s[k].toNat : Int) ≤ 57) || (decide ((s[k].toNat : Int) = 45) || decide ((s[k].toNat : Int) = 46))) by unfold nameC; rw [hc]; rfl)
        have HS := Lib.hid hc
        have HN := Lib.hid (fun h => nameS_at hlt h)
        have hcs : (((s[k].toNat : Int) = 45 ∧ ((s[k].toNat : Int) != 45) = false) ∨ (((s[k].toNat : Int) = 46 ∧ ¬ (s[k].toNat : Int) = 45) ∧ ((s[k].toNat : Int) != 46) = false ∧ ((s[k].toNat : Int) != 45) = true)) ∨ (¬ (s[k].toNat : Int) < 48 ∧ ¬ (s[k].toNat : Int) > 57) ∨ ((s[k].toNat : Int) < 48 ∧ ((s[k].toNat : Int) != 45) = true ∧ ((s[k].toNat : Int) != 46) = true) ∨ (¬ (s[k].toNat : Int) < 48 ∧ (s[k].toNat : Int) > 57 ∧ ((s[k].toNat : Int) != 45) = true ∧ ((s[k].toNat : Int) != 46) = true) := by
          simp only [bne_iff_ne, ne_eq, bne_eq_false_iff_eq]
          omega
        have HQ : Hid (((s[k].toNat : Int) = 45) ∨ (s[k].toNat : Int) = 46 ∨ (¬ (s[k].toNat : Int) < 48 ∧ ¬ (s[k].toNat : Int) > 57) ∨ True) := show _ ∨ _ from .inr (.inr (.inr trivial))
        clear HC hc HQ
        rcases hcs with (⟨h1, h2⟩ | ⟨⟨h1, h4⟩, h2, h3⟩) | ⟨h1, h2⟩ | ⟨h1, h2, h3⟩ | ⟨h1, h2, h3, h4⟩
        case inr.inr.inl =>
          have HB : Hid (nameC s[k] = false) := show _ = _ from by rw [HF.out]; simp at h2 h3 ⊢; omega
          go_wp2_with fail
          refine (refLetter_any s[k] w).mono ?_
          rw [HS.out]
          rintro e w' ⟨rfl, rfl⟩
          go_wp2_with fail
          go_ret
          refine ⟨?_, rfl⟩
          rw [HN.out HB.out]
          rfl
        case inr.inr.inr =>
          have HB : Hid (nameC s[k] = false) := show _ = _ from by rw [HF.out]; simp at h3 h4 ⊢; omega
          go_wp2_with fail
          refine (refLetter_any s[k] w).mono ?_
          rw [HS.out]
          rintro e w' ⟨rfl, rfl⟩
          go_wp2_with fail
          go_ret
          refine ⟨?_, rfl⟩
          rw [HN.out HB.out]
          rfl
        case inl.inl | inl.inr =>
          have HB : Hid (nameC s[k] = true) := show _ = _ from by rw [HF.out]; simp; omega
          have HREL : Hid (∀ j (h : j < s.size), j < k + 1 → nameC s[j] = true) := show ∀ _ _, _ → _ from fun j h hj => by
            by_cases e : j = k
            · subst e; exact HB.out
            · exact HALL.out j h (by omega)
          clear h1
          try clear h4
          go_wp2_with fail
          refine (refLetter_any s[k] w).mono ?_
          rw [HS.out]
          rintro e w' ⟨rfl, rfl⟩
          go_wp2_with fail
          all_goals
            go_round
            case rel => exact ⟨k + 1, by omega, by go_num, HREL.out⟩
            case measure => simp [intOf]; omega
        case inr.inl =>
          have HB : Hid (nameC s[k] = true) := show _ = _ from by rw [HF.out]; simp; omega
          have HREL : Hid (∀ j (h : j < s.size), j < k + 1 → nameC s[j] = true) := show ∀ _ _, _ → _ from fun j h hj => by
            by_cases e : j = k
            · subst e; exact HB.out
            · exact HALL.out j h (by omega)
          go_wp2_with fail
          refine (refLetter_any s[k] w).mono ?_
          rw [HS.out]
          rintro e w' ⟨rfl, rfl⟩
          go_wp2_with fail
          go_round
          case rel => exact ⟨k + 1, by omega, by go_num, HREL.out⟩
          case measure => simp [intOf]; omega
      · have HS := Lib.hid hc
        have HF := Lib.hid (show nameC s[k] = true by unfold nameC; rw [hc]; rfl)
        go_wp2_with fail
        refine (refLetter_any s[k] w).mono ?_
        rw [HS.out]
        rintro e w' ⟨rfl, rfl⟩
        go_wp2_with fail
        go_round
        case rel => exact ⟨k + 1, by omega, by go_num, fun j h hj => by
          by_cases e : j = k
          · subst e; exact HF.out
          · exact HALL.out j h (by omega)⟩
        case measure => simp [intOf]; omega
    · have HB := Lib.hid (nameS_all hpos hshort HH.out (fun j h => HALL.out j h (by omega)))
      go_wp2_with fail
      go_ret
      refine ⟨?_, rfl⟩
      rw [HB.out]
      rfl
theorem preOk_ne {s : ByteArray} (h : 0 < s.size) : preOk s = nameS s := by
  unfold preOk
  rw [decide_eq_false (fun e => by rw [e] at h; exact absurd h (by decide))]
  rfl
theorem rtPre_any (s : ByteArray) (w : World) (hlim : s.size ≤ 140737488351232) : Calls Tryd.prog 135 #[.string s] w (ReturnsB (preOk s) w) := by
  by_cases h0 : s.size = 0
  · obtain rfl : s = ⟨#[]⟩ := bytes_ext (List.length_eq_zero_iff.1 (by rw [size_list]; exact h0))
    go_enter Tryd.func135, Tryd.ntmps135
    go_wp2_with fail
    go_ret
    exact ⟨rfl, rfl⟩
  have hpos : 0 < s.size := by omega
  have HB := Lib.hid (preOk_ne hpos)
  have hne2 := list_ne hpos
  have hne3 : ¬ s.toList = [] := by simpa using hne2
  go_enter Tryd.func135, Tryd.ntmps135
  go_wp2_with fail
  refine (rtName_any s w hlim).mono ?_
  rintro e w' ⟨rfl, rfl⟩
  go_wp2_with fail
  go_ret
  refine ⟨?_, rfl⟩
  rw [HB.out]
  rfl
theorem refPre_any (s : ByteArray) (w : World) (hlim : s.size ≤ 140737488351232) : Calls Tryd.prog 162 #[.string s] w (ReturnsB (preOk s) w) := by
  by_cases h0 : s.size = 0
  · obtain rfl : s = ⟨#[]⟩ := bytes_ext (List.length_eq_zero_iff.1 (by rw [size_list]; exact h0))
    go_enter Tryd.func162, Tryd.ntmps162
    go_wp2_with fail
    go_ret
    exact ⟨rfl, rfl⟩
  have hpos : 0 < s.size := by omega
  have HB := Lib.hid (preOk_ne hpos)
  have hne2 := list_ne hpos
  have hne3 : ¬ s.toList = [] := by simpa using hne2
  go_enter Tryd.func162, Tryd.ntmps162
  go_wp2_with fail
  refine (refName_any s w hlim).mono ?_
  rintro e w' ⟨rfl, rfl⟩
  go_wp2_with fail
  go_ret
  refine ⟨?_, rfl⟩
  rw [HB.out]
  rfl
end Go.Proofs.YtgeacocdnenhdaaDoor

/-
  Rights, scopes and times: the program's.
-/
namespace Go.Proofs.YtgeacocdnenhdaaDoor
open Go.RowKit Go.Shelf
def ReturnsG (b : Bool) (w : World) (e : Ending) (w' : World) : Prop := e = .returned (.bool b) ∧ Below w.heap.size w w'
def prefixRen : Ren := ⟨fun n => if n = 206 then 195 else 174, fun t => t, fun g => g⟩
theorem prefix_lays : Lays.n99 Tryd.prog prefixRen := by
  constructor
  all_goals first | kernel_rfl | (intro w; kernel_rfl)
theorem hasPrefix_any (s p : ByteArray) (w : World) : Calls Tryd.prog 174 #[.string s, .string p] w (ReturnsB (begS s p) w) :=
  (Any.strings_HasPrefix prefix_lays s p w).mono fun _ _ ⟨h1, h2⟩ => ⟨h1, h2.symm⟩
theorem bits_and {a b : Int} (hb : wrap64 b = b) : (bits BinOp.and IntKind.i64 a b == b) = hasZ a b := by
  rw [← has_and hb]
  show (IntKind.i64.wrap ((BitVec.ofInt 64 a &&& BitVec.ofInt 64 b).toNat : Int) == b) = _
  rw [IntWalk.i64_left]
  generalize wrap64 _ = z
  apply Bool.eq_iff_iff.2
  simp
theorem bits_or {a b : Int} (ha : wrap64 a = a) : (bits BinOp.or IntKind.i64 a b == a) = hasZ a b := by
  rw [← has_or ha]
  show (IntKind.i64.wrap ((BitVec.ofInt 64 a ||| BitVec.ofInt 64 b).toNat : Int) == a) = _
  rw [IntWalk.i64_left]
  generalize wrap64 _ = z
  apply Bool.eq_iff_iff.2
  simp
theorem has_any (a b : Int) (w : World) (hb : wrap64 b = b) : Calls Tryd.prog 126 #[.int .i64 a, .int .i64 b] w (ReturnsB (hasZ a b) w) := by
  have HB := Lib.hid (bits_and (a := a) hb)
  clear hb
  go_enter Tryd.func126, Tryd.ntmps126
  go_wp2_with fail
  rw [HB.out]
  go_ret
  exact ⟨rfl, rfl⟩
theorem refHas_any (a b : Int) (w : World) (ha : wrap64 a = a) : Calls Tryd.prog 164 #[.int .i64 a, .int .i64 b] w (ReturnsB (hasZ a b) w) := by
  have HB := Lib.hid (bits_or (b := b) ha)
  clear ha
  go_enter Tryd.func164, Tryd.ntmps164
  go_wp2_with fail
  rw [HB.out]
  go_ret
  exact ⟨rfl, rfl⟩
theorem boxBelow (w : World) (o : Obj) : Below w.heap.size w (w.alloc o) := (Below.refl _ _).alloc (Nat.le_refl _) _
theorem toList_nil {p : ByteArray} : (p.toList = []) ↔ p = ⟨#[]⟩ := by
  rw [Lib.toList_data]
  exact ⟨fun h => bytes_ext (b := ⟨#[]⟩) (show _ = _ from h), fun h => by rw [h]⟩
theorem two_boxes (w : World) (o u : Obj) : Below w.heap.size w ((w.alloc o).alloc u) := ((Below.refl _ _).alloc (Nat.le_refl _) _).alloc (by simp) _
theorem scopeOf_any (g : GrantM) (w : World) : Calls Tryd.prog 127 #[.agg g.cells.toArray] w fun e w' => e = .returned (.agg #[.string g.pre, .bool g.exact]) ∧ Below w.heap.size w w' := by
  obtain ⟨r, p, x, t⟩ := g
  simp only [GrantM.cells]
  go_enter Tryd.func127, Tryd.ntmps127
  go_wp2_with fail
  exact bodyPost_ret (v := .agg #[.string p, .bool x]) (by simp [results, Tryd.results127, go_sem]) rfl ⟨rfl, two_boxes _ _ _⟩
theorem toList_eq {p q : ByteArray} : (q.toList = p.toList) ↔ q = p := by
  rw [Lib.toList_data, Lib.toList_data]
  exact ⟨bytes_ext, fun h => by rw [h]⟩
theorem contains_any (p : ByteArray) (x : Bool) (q : ByteArray) (y : Bool) (w : World) : Calls Tryd.prog 128 #[.agg #[.string p, .bool x], .agg #[.string q, .bool y]] w (ReturnsG (scopeM p x q y) w) := by
  cases x
  · go_enter Tryd.func128, Tryd.ntmps128
    go_wp2_with fail
    refine (hasPrefix_any q p _).mono ?_
    rintro e w' ⟨rfl, rfl⟩
    go_wp2_with fail
    go_ret
    exact ⟨rfl, two_boxes _ _ _⟩
  · go_enter Tryd.func128, Tryd.ntmps128
    go_wp2_with fail
    all_goals
      go_ret
      refine ⟨congrArg (fun b => Ending.returned (.bool b)) ?_, two_boxes _ _ _⟩
      apply Bool.eq_iff_iff.2
      simp_all [scopeM, toList_eq]
theorem ends_any (a b : Int) (w : World) : Calls Tryd.prog 136 #[.int .i64 a, .int .i64 b] w (ReturnsB (tillM a b) w) := by
  by_cases h1 : a = 0
  · subst h1
    go_enter Tryd.func136, Tryd.ntmps136
    go_wp2_with fail
    go_ret
    exact ⟨rfl, rfl⟩
  · by_cases h2 : 1 ≤ b <;> by_cases h3 : b ≤ a
    all_goals
      go_enter Tryd.func136, Tryd.ntmps136
      go_wp2_with fail
      go_ret
      refine ⟨congrArg (fun b => Ending.returned (.bool b)) ?_, rfl⟩
      apply Bool.eq_iff_iff.2
      simp [tillM]
      try omega
end Go.Proofs.YtgeacocdnenhdaaDoor

/-
  Steps of a region over a grant that lies in a block of its own: loads, comparisons, what is not wanted.
-/
namespace Go.Proofs.YtgeacocdnenhdaaDoor
open Go.RowKit
theorem quietG {f : FuncId} {args : Array Value} {b : Bool} {w : World} (h : Calls Tryd.prog f args w (ReturnsB b w)) : Calls Tryd.prog f args w (ReturnsG b w) :=
  h.mono fun _ _ ⟨h1, h2⟩ => ⟨h1, h2 ▸ Below.refl _ _⟩
section
variable {ops : Array Oper} {ρ : Operand → Value} {o : Oper} {x y : Operand} {w : World} {a : Act}
theorem w_notFG {j : Nat} {dj : Tmp} {oj : Oper} (hg : o.guard = some (j, false)) (hj : ops[j]? = some oj) (hd : oj.dst = some dj) (he : a.eval (.tmp dj) = .bool true) : Region.wanted o (yielded ops a.tmps) = false := by
  have h2 := tmp_at he
  unfold Region.wanted
  rw [hg]
  simp only [yielded, hj, Option.bind_some, hd, h2]
  rfl
theorem w_undef {j : Nat} {dj : Tmp} {oj : Oper} {want : Bool} (hg : o.guard = some (j, want)) (hj : ops[j]? = some oj) (hd : oj.dst = some dj) (he : a.eval (.tmp dj) = undef) : Region.wanted o (yielded ops a.tmps) = false := by
  have h3 : a.tmps.getD dj undef = undef := he
  have h2 : yielded ops a.tmps j = none := by
    unfold yielded
    rw [hj, Option.bind_some, hd, Option.bind_some]
    rw [Array.getD_eq_getD_getElem?] at h3
    cases h4 : a.tmps[dj]? with
    | none => rfl
    | some u => rw [h4] at h3; simp at h3; rw [h3]; rfl
  unfold Region.wanted
  rw [hg]
  simp only [h2]
  cases want <;> rfl
theorem run_loadBlk {T : Nat} {ty tb : TypeId} {C : Array Value} (ho : o.op = .load ty x) (hx : ρ x = .pointer (some ⟨T, 0, none⟩)) (hg : w.heap[T]? = some (.cells C tb (0, 0))) (hu : (match Tryd.prog.underlying ty with | some (.array _ _) | some (.struct _) => true | _ => false) = true) (hi : (Tryd.prog.info? ty).map (·.size) = some C.size) :
    (execOp ρ o).run Tryd.prog w = .ok (.value (.agg C)) w := by
  cases hd : Tryd.prog.underlying ty with
  | none => rw [hd] at hu; cases hu
  | some d =>
    have h := run_loadAt_mid (P := Tryd.prog) w T 0 ty C.toList d (fun j v hv => by rw [Nat.zero_add, cell_of_row w T j _ _ _ hg]; simpa using hv) hd (by rw [hd] at hu; cases d <;> first | rfl | cases hu) (by rw [Array.length_toList]; exact hi)
    rw [Array.toArray_toList] at h
    unfold execOp
    simp only [ho, hx, Sem.run_bind, h, Result.andThen_ok, Sem.run_pure]
theorem run_loadStr {T k : Nat} {s : ByteArray} (ho : o.op = .load 9 x) (hx : ρ x = .pointer (some ⟨T, k, none⟩)) (hc : w.cell? ⟨T, k, none⟩ = some (.string s)) : (execOp ρ o).run Tryd.prog w = .ok (.value (.string s)) w := by
  obtain ⟨dst, op, ty', pos, after, guard⟩ := o
  simp only at ho
  subst ho
  go_simp
theorem run_loadInt {T k : Nat} {z : Int} (ho : o.op = .load 3 x) (hx : ρ x = .pointer (some ⟨T, k, none⟩)) (hc : w.cell? ⟨T, k, none⟩ = some (.int .i64 z)) : (execOp ρ o).run Tryd.prog w = .ok (.value (.int .i64 z)) w := by
  obtain ⟨dst, op, ty', pos, after, guard⟩ := o
  simp only at ho
  subst ho
  go_simp
theorem r_notT {ty : TypeId} (ho : o.op = .unOp .not ty x) (hx : ρ x = .bool true) (w : World) : (execOp ρ o).run Tryd.prog w = .ok (.value (.bool false)) w := r_not ho hx w
theorem r_notF {ty : TypeId} (ho : o.op = .unOp .not ty x) (hx : ρ x = .bool false) (w : World) : (execOp ρ o).run Tryd.prog w = .ok (.value (.bool true)) w := r_not ho hx w
end
theorem size_grant (g : GrantM) : (Tryd.prog.info? 54).map (·.size) = some g.cells.toArray.size := show _ = some 4 by kernel_rfl
/-- A grant in a block. -/
def GrantAt (w : World) (T : Nat) (g : GrantM) : Prop := w.heap[T]? = some (.cells g.cells.toArray 54 (0, 0))
theorem GrantAt.cell {w : World} {T : Nat} {g : GrantM} (h : GrantAt w T g) (k : Nat) : w.cell? ⟨T, k, none⟩ = g.cells[k]? := by
  rw [cell_of_row w T k _ _ _ h]; simp
theorem GrantAt.c0 {w : World} {T : Nat} {g : GrantM} (h : GrantAt w T g) : w.cell? ⟨T, 0, none⟩ = some (.int .i64 g.rights) := h.cell 0
theorem GrantAt.c1 {w : World} {T : Nat} {g : GrantM} (h : GrantAt w T g) : w.cell? ⟨T, 1, none⟩ = some (.string g.pre) := h.cell 1
theorem GrantAt.c2 {w : World} {T : Nat} {g : GrantM} (h : GrantAt w T g) : w.cell? ⟨T, 2, none⟩ = some (.bool g.exact) := h.cell 2
theorem GrantAt.c3 {w : World} {T : Nat} {g : GrantM} (h : GrantAt w T g) : w.cell? ⟨T, 3, none⟩ = some (.int .i64 g.till) := h.cell 3
theorem GrantAt.below {w w' : World} {T B : Nat} {g : GrantM} (h : GrantAt w T g) (hb : Below B w w') (hT : T < B) : GrantAt w' T g := (hb.block T hT).trans h
/-- Two grants in blocks. -/
structure Gr2 (A B : Nat) (a b : GrantM) (W w : World) : Prop where
  one : GrantAt w A a
  two : GrantAt w B b
  below : Below W.heap.size W w
theorem Gr2.boxes {a b : GrantM} {ca cb : Array Value} (w : World) (ha : a.cells.toArray = ca) (hb : b.cells.toArray = cb) : Gr2 w.heap.size (w.heap.size + 1) a b w ((w.alloc (.cells ca 54)).alloc (.cells cb 54)) := by
  subst ha hb
  refine ⟨?_, ?_, two_boxes _ _ _⟩
  · unfold GrantAt
    rw [(MapKept.heap_alloc _ _).2 _ (by simp)]
    exact heap_alloc_new _ _
  · have := heap_alloc_new (w.alloc (.cells a.cells.toArray 54)) (.cells b.cells.toArray 54)
    unfold GrantAt
    simpa using this
theorem Gr2.step {A B : Nat} {a b : GrantM} {W w w' : World} (h : Gr2 A B a b W w) (hb : Below w.heap.size w w') : Gr2 A B a b W w' :=
  ⟨h.one.below hb (Array.getElem?_eq_some_iff.1 h.one).1, h.two.below hb (Array.getElem?_eq_some_iff.1 h.two).1, h.below.trans (hb.mono h.below.size)⟩
end Go.Proofs.YtgeacocdnenhdaaDoor

/-
  The document's grants, and the program's Check.
-/
namespace Go.Proofs.YtgeacocdnenhdaaDoor
open Go.RowKit
theorem begS_long {s p : ByteArray} (h : s.size < p.size) : begS s p = false := by
  cases e : begS s p with
  | false => rfl
  | true =>
    have := (begS_iff.1 e).length_le
    rw [size_list, size_list] at this
    omega
theorem begS_at {s p : ByteArray} {k : Nat} (h : k < p.size) (h2 : k < s.size) (hne : s[k] ≠ p[k]) : begS s p = false := by
  cases e : begS s p with
  | false => rfl
  | true =>
    exfalso
    obtain ⟨t, ht⟩ := begS_iff.1 e
    apply hne
    rw [← get_list s k h2, ← get_list p k h]
    simp only [← ht]
    rw [List.getElem_append_left]
theorem begS_all {s p : ByteArray} (hl : p.size ≤ s.size) (h : ∀ k (h1 : k < p.size) (h2 : k < s.size), s[k] = p[k]) : begS s p = true := by
  refine begS_iff.2 (List.prefix_iff_eq_take.2 ?_)
  apply List.ext_getElem
  · rw [List.length_take, size_list, size_list]; omega
  · intro k h1 h2
    rw [List.getElem_take]
    have h3 : k < p.size := by rw [size_list] at h1; exact h1
    rw [get_list p k h3, get_list s k (by omega)]
    exact (h k h3 (by omega)).symm
theorem u8_ne {a b : UInt8} : (((a.toNat : Int) != (b.toNat : Int)) = false) ↔ a = b := by
  rw [bne_eq_false_iff_eq]
  refine ⟨fun h => UInt8.toNat_inj.1 (by omega), fun h => by rw [h]⟩
set_option maxHeartbeats 2000000 in
theorem refBegins_any (s p : ByteArray) (w : World) (hs : s.size ≤ 140737488351232) : Calls Tryd.prog 165 #[.string s, .string p] w fun e w' => e = .returned (.bool (begS s p)) ∧ Below w.heap.size w w' := by
  by_cases hl : s.size < p.size
  · have HB := Lib.hid (begS_long hl)
    go_enter Tryd.func165, Tryd.ntmps165
    go_wp2_with fail
    go_ret
    refine ⟨?_, Below.refl _ _⟩
    rw [HB.out]
    rfl
  have hle : p.size ≤ s.size := by omega
  go_enter Tryd.func165, Tryd.ntmps165
  go_wp2_with fail
  go_loopw [5] (fun i wr => ∃ k : Nat, k ≤ p.size ∧ i = .int .i64 k ∧ (∀ j (h1 : j < p.size) (h2 : j < s.size), j < k → s[j] = p[j]) ∧ Below w.heap.size w wr) (fun i _ => p.size - (intOf i).toNat)
  case atStart => exact ⟨0, Nat.zero_le _, rfl, fun j _ _ h => by omega, Below.refl _ _⟩
  case round =>
    obtain ⟨k, hk, rfl, hall, hb⟩ := hrel
    have HALL := Lib.hid hall
    have HB := Lib.hid hb
    clear hall hb
    by_cases hlt : k < p.size
    · have hlt2 : k < s.size := by omega
      by_cases hc : s[k] = p[k]
      · have HC := Lib.hid hc
        have hbn := u8_ne.2 hc
        clear hc
        go_wp2_with fail
        go_quiet (fail)
        go_wp2_with fail
        have HREL : Hid (∀ j (h1 : j < p.size) (h2 : j < s.size), j < k + 1 → s[j] = p[j]) := show ∀ _ _ _, _ → _ from fun j h1 h2 hj => by
          by_cases e : j = k
          · subst e; exact HC.out
          · exact HALL.out j h1 h2 (by omega)
        go_roundw
        case rel => exact ⟨k + 1, by omega, by go_num, HREL.out, HB.out.trans ⟨rfl, rfl, rfl, Nat.le_refl _, fun _ _ => rfl⟩⟩
        case measure => simp [intOf]; omega
      · have HR := Lib.hid (begS_at hlt hlt2 hc)
        have hbn : ((s[k].toNat : Int) != (p[k].toNat : Int)) = true := by
          cases e : ((s[k].toNat : Int) != (p[k].toNat : Int)) with
          | true => rfl
          | false => exact absurd (u8_ne.1 e) hc
        clear hc
        go_wp2_with fail
        go_quiet (fail)
        go_wp2_with fail
        go_ret
        refine ⟨?_, HB.out.trans ⟨rfl, rfl, rfl, Nat.le_refl _, fun _ _ => rfl⟩⟩
        rw [HR.out]
        rfl
    · have HR := Lib.hid (begS_all hle (fun j h1 h2 => HALL.out j h1 h2 (by omega)))
      go_wp2_with fail
      go_ret
      refine ⟨?_, HB.out⟩
      rw [HR.out]
      rfl
end Go.Proofs.YtgeacocdnenhdaaDoor

/-
  Whether a grant may be, and a rule: the program's and the document's.
-/
namespace Go.Proofs.YtgeacocdnenhdaaDoor
open Go.RowKit
def ReturnsZ (z : Int) (w : World) (e : Ending) (w' : World) : Prop := e = .returned (.int .i64 z) ∧ Below w.heap.size w w'
theorem checkM_bad {g : GrantM} (h : g.rights < 1 ∨ g.rights > 127 ∨ g.till < 0 ∨ g.till > 1099511627776 ∨ (g.exact = true ∧ g.pre = ⟨#[]⟩)) : checkM g = 1 := by unfold checkM; rw [if_pos h]
theorem checkM_name {g : GrantM} (h : ¬ (g.rights < 1 ∨ g.rights > 127 ∨ g.till < 0 ∨ g.till > 1099511627776 ∨ (g.exact = true ∧ g.pre = ⟨#[]⟩))) : checkM g = if preOk g.pre = true then 0 else 10 := by unfold checkM; rw [if_neg h]
theorem pre_empty {p : ByteArray} (h : p = ⟨#[]⟩) : p.toList = [] ∧ (p.toList == []) = true := by subst h; exact ⟨toList_nil.2 rfl, by rw [toList_nil.2 rfl]; rfl⟩
theorem pre_full {p : ByteArray} (h : ¬ p = ⟨#[]⟩) : (¬ p.toList = []) ∧ (p.toList == []) = false := by
  have h1 : ¬ p.toList = [] := fun e => h (toList_nil.1 e)
  exact ⟨h1, by simpa using h1⟩
set_option maxRecDepth 100000 in
set_option maxHeartbeats 4000000 in
theorem check_any (g : GrantM) (w : World) (hs : g.pre.size ≤ 140737488351232) : Calls Tryd.prog 62 #[.agg g.cells.toArray] w (ReturnsZ (checkM g) w) := by
  have HBAD := Lib.hid (checkM_bad (g := g))
  have HNAME := Lib.hid (checkM_name (g := g))
  have HS := Lib.hid hs
  clear hs
  obtain ⟨r, p, x, t⟩ := g
  simp only [GrantM.cells] at HBAD HNAME HS ⊢
  have HPRE : Hid (∀ w, Calls Tryd.prog 135 #[.string p] w (ReturnsB (preOk p) w)) := show ∀ _, _ from fun w => rtPre_any p w HS.out
  have HEM : Hid (∀ (_ : r < 1 ∨ r > 127 ∨ t < 0 ∨ t > 1099511627776 ∨ (x = true ∧ p = ⟨#[]⟩)), checkM ⟨r, p, x, t⟩ = 1) := show _ → _ from fun h => HBAD.out h
  clear HBAD
  by_cases h1 : r < 1
  · have HC : Hid (checkM ⟨r, p, x, t⟩ = 1) := show _ = _ from HEM.out (by omega)
    go_enter Tryd.func62, Tryd.ntmps62
    go_wp2_with fail
    go_ret
    refine ⟨?_, boxBelow _ _⟩
    rw [HC.out]
    rfl
  by_cases h2 : r > 127
  · have HC : Hid (checkM ⟨r, p, x, t⟩ = 1) := show _ = _ from HEM.out (by omega)
    go_enter Tryd.func62, Tryd.ntmps62
    go_wp2_with fail
    go_ret
    refine ⟨?_, boxBelow _ _⟩
    rw [HC.out]
    rfl
  by_cases h3 : t < 0
  · have HC : Hid (checkM ⟨r, p, x, t⟩ = 1) := show _ = _ from HEM.out (by omega)
    go_enter Tryd.func62, Tryd.ntmps62
    go_wp2_with fail
    go_ret
    refine ⟨?_, boxBelow _ _⟩
    rw [HC.out]
    rfl
  by_cases h4 : t > 1099511627776
  · have HC : Hid (checkM ⟨r, p, x, t⟩ = 1) := show _ = _ from HEM.out (by omega)
    go_enter Tryd.func62, Tryd.ntmps62
    go_wp2_with fail
    go_ret
    refine ⟨?_, boxBelow _ _⟩
    rw [HC.out]
    rfl
  by_cases h5 : x = true ∧ p = ⟨#[]⟩
  · obtain ⟨rfl, h6⟩ := h5
    obtain ⟨e1, e2⟩ := pre_empty h6
    have HC : Hid (checkM ⟨r, p, true, t⟩ = 1) := show _ = _ from HEM.out (by simp [h6])
    clear h6
    go_enter Tryd.func62, Tryd.ntmps62
    go_wp2_with fail
    go_ret
    refine ⟨?_, boxBelow _ _⟩
    rw [HC.out]
    rfl
  have HN : Hid (checkM ⟨r, p, x, t⟩ = if preOk p = true then 0 else 10) := show _ = _ from HNAME.out (by rintro (h | h | h | h | h) <;> first | exact h5 h | omega)
  clear HNAME HEM
  have hx : x = false ∨ (x = true ∧ ¬ p = ⟨#[]⟩) := by
    cases x
    · exact .inl rfl
    · exact .inr ⟨rfl, fun h => h5 ⟨rfl, h⟩⟩
  clear h5
  cases hp : preOk p
  all_goals
    have HQ := Lib.hid hp
    clear hp
    rcases hx with rfl | ⟨rfl, h6⟩
  case false.inr | true.inr =>
    obtain ⟨e1, e2⟩ := pre_full h6
    clear h6
    go_enter Tryd.func62, Tryd.ntmps62
    go_wp2_with fail
    refine (HPRE.out _).mono ?_
    rw [HQ.out]
    rintro e w' ⟨rfl, rfl⟩
    go_wp2_with fail
    go_ret
    refine ⟨?_, boxBelow _ _⟩
    rw [HN.out, HQ.out]
    rfl
  all_goals
    go_enter Tryd.func62, Tryd.ntmps62
    go_wp2_with fail
    refine (HPRE.out _).mono ?_
    rw [HQ.out]
    rintro e w' ⟨rfl, rfl⟩
    go_wp2_with fail
    go_ret
    refine ⟨?_, boxBelow _ _⟩
    rw [HN.out, HQ.out]
    rfl
set_option maxRecDepth 100000 in
set_option maxHeartbeats 4000000 in
theorem refCheck_any (g : GrantM) (w : World) (hs : g.pre.size ≤ 140737488351232) : Calls Tryd.prog 100 #[.agg g.cells.toArray] w (ReturnsZ (checkM g) w) := by
  have HBAD := Lib.hid (checkM_bad (g := g))
  have HNAME := Lib.hid (checkM_name (g := g))
  have HS := Lib.hid hs
  clear hs
  obtain ⟨r, p, x, t⟩ := g
  simp only [GrantM.cells] at HBAD HNAME HS ⊢
  have HPRE : Hid (∀ w, Calls Tryd.prog 162 #[.string p] w (ReturnsB (preOk p) w)) := show ∀ _, _ from fun w => refPre_any p w HS.out
  have HEM : Hid (∀ (_ : r < 1 ∨ r > 127 ∨ t < 0 ∨ t > 1099511627776 ∨ (x = true ∧ p = ⟨#[]⟩)), checkM ⟨r, p, x, t⟩ = 1) := show _ → _ from fun h => HBAD.out h
  clear HBAD
  by_cases h1 : r < 1
  · have HC : Hid (checkM ⟨r, p, x, t⟩ = 1) := show _ = _ from HEM.out (by omega)
    go_enter Tryd.func100, Tryd.ntmps100
    go_wp2_with fail
    go_ret
    refine ⟨?_, boxBelow _ _⟩
    rw [HC.out]
    rfl
  by_cases h2 : r > 127
  · have HC : Hid (checkM ⟨r, p, x, t⟩ = 1) := show _ = _ from HEM.out (by omega)
    go_enter Tryd.func100, Tryd.ntmps100
    go_wp2_with fail
    go_ret
    refine ⟨?_, boxBelow _ _⟩
    rw [HC.out]
    rfl
  by_cases h3 : t < 0
  · have HC : Hid (checkM ⟨r, p, x, t⟩ = 1) := show _ = _ from HEM.out (by omega)
    go_enter Tryd.func100, Tryd.ntmps100
    go_wp2_with fail
    go_ret
    refine ⟨?_, boxBelow _ _⟩
    rw [HC.out]
    rfl
  by_cases h4 : t > 1099511627776
  · have HC : Hid (checkM ⟨r, p, x, t⟩ = 1) := show _ = _ from HEM.out (by omega)
    go_enter Tryd.func100, Tryd.ntmps100
    go_wp2_with fail
    go_ret
    refine ⟨?_, boxBelow _ _⟩
    rw [HC.out]
    rfl
  by_cases h5 : x = true ∧ p = ⟨#[]⟩
  · obtain ⟨rfl, h6⟩ := h5
    obtain ⟨e1, e2⟩ := pre_empty h6
    have HC : Hid (checkM ⟨r, p, true, t⟩ = 1) := show _ = _ from HEM.out (by simp [h6])
    clear h6
    go_enter Tryd.func100, Tryd.ntmps100
    go_wp2_with fail
    go_ret
    refine ⟨?_, boxBelow _ _⟩
    rw [HC.out]
    rfl
  have HN : Hid (checkM ⟨r, p, x, t⟩ = if preOk p = true then 0 else 10) := show _ = _ from HNAME.out (by rintro (h | h | h | h | h) <;> first | exact h5 h | omega)
  clear HNAME HEM
  have hx : x = false ∨ (x = true ∧ ¬ p = ⟨#[]⟩) := by
    cases x
    · exact .inl rfl
    · exact .inr ⟨rfl, fun h => h5 ⟨rfl, h⟩⟩
  clear h5
  cases hp : preOk p
  all_goals
    have HQ := Lib.hid hp
    clear hp
    rcases hx with rfl | ⟨rfl, h6⟩
  case false.inr | true.inr =>
    obtain ⟨e1, e2⟩ := pre_full h6
    clear h6
    go_enter Tryd.func100, Tryd.ntmps100
    go_wp2_with fail
    refine (HPRE.out _).mono ?_
    rw [HQ.out]
    rintro e w' ⟨rfl, rfl⟩
    go_wp2_with fail
    go_ret
    refine ⟨?_, boxBelow _ _⟩
    rw [HN.out, HQ.out]
    rfl
  all_goals
    go_enter Tryd.func100, Tryd.ntmps100
    go_wp2_with fail
    refine (HPRE.out _).mono ?_
    rw [HQ.out]
    rintro e w' ⟨rfl, rfl⟩
    go_wp2_with fail
    go_ret
    refine ⟨?_, boxBelow _ _⟩
    rw [HN.out, HQ.out]
    rfl
end Go.Proofs.YtgeacocdnenhdaaDoor

/-
  Narrow: the program's.
-/
namespace Go.Proofs.YtgeacocdnenhdaaDoor
open Go.RowKit
set_option maxRecDepth 100000 in
set_option maxHeartbeats 2000000 in
theorem narrow_any (a b : GrantM) (w : World) (hb : wrap64 b.rights = b.rights) : Calls Tryd.prog 63 #[.agg a.cells.toArray, .agg b.cells.toArray] w (ReturnsG (narrowM a b) w) := by
  have HR := Lib.hid hb
  have HP := Lib.hid (show narrowM a b = (hasZ a.rights b.rights && (scopeM a.pre a.exact b.pre b.exact && tillM a.till b.till)) from rfl)
  have HSA : Hid (∀ w, Calls Tryd.prog 127 #[.agg a.cells.toArray] w fun e w' => e = .returned (.agg #[.string a.pre, .bool a.exact]) ∧ Below w.heap.size w w') := show ∀ _, _ from fun w => scopeOf_any a w
  have HSB : Hid (∀ w, Calls Tryd.prog 127 #[.agg b.cells.toArray] w fun e w' => e = .returned (.agg #[.string b.pre, .bool b.exact]) ∧ Below w.heap.size w w') := show ∀ _, _ from fun w => scopeOf_any b w
  clear hb
  generalize hca : a.cells.toArray = ca
  generalize hcb : b.cells.toArray = cb
  have HCA := Lib.hid hca
  have HCB := Lib.hid hcb
  clear hca hcb
  go_enter Tryd.func63, Tryd.ntmps63
  go_upto_region 1 with (fail)
  refine wp_gen (fun wr => Gr2 w.heap.size (w.heap.size + 1) a b w wr) (Gr2.boxes w HCA.out HCB.out) (fun w1 hg => ?_)
  have HG := Lib.hid hg
  clear hg
  cases hz : hasZ a.rights b.rights
  · have HZ := Lib.hid hz
    clear hz
    refine region_phase (fun wr => Gr2 w.heap.size (w.heap.size + 1) a b w wr) (fun _ => True) 99 (HG.out.step (Below.refl _ _).drew) trivial [(0, .free), (1, .free), (2, .free), (3, .free), (4, .behind), (5, .free), (6, .free), (8, .free), (7, .behind), (9, .behind), (10, .behind), (11, .free), (12, .free), (13, .free), (14, .free), (15, .free), (16, .free), (17, .behind), (18, .free), (19, .free)] (by kernel_rfl) (by kernel_rfl) (by kernel_rfl) (by kernel_rfl) (fun ops hops A hA => ?_)
    have hsz : A.tmps.size = 24 := by rw [hA]; rfl
    have base2 : A.eval (.tmp 2) = .pointer (some ⟨w.heap.size, 0, none⟩) := by rw [hA]; rfl
    have base3 : A.eval (.tmp 3) = .pointer (some ⟨w.heap.size + 1, 0, none⟩) := by rw [hA]; rfl
    have HAA := Lib.hid hA; clear hA
    obtain ⟨o0, po0, q0, d0, gd0⟩ : ∃ o, ops[0]? = some o ∧ o.op = .fieldAddr 54 (.tmp 2) 0 ∧ o.dst = some 5 ∧ o.guard = none := ⟨_, by rw [hops]; rfl, rfl, rfl, rfl⟩
    obtain ⟨o1, po1, q1, d1, gd1⟩ : ∃ o, ops[1]? = some o ∧ o.op = .load 3 (.tmp 5) ∧ o.dst = some 6 ∧ o.guard = none := ⟨_, by rw [hops]; rfl, rfl, rfl, rfl⟩
    obtain ⟨o2, po2, q2, d2, gd2⟩ : ∃ o, ops[2]? = some o ∧ o.op = .fieldAddr 54 (.tmp 3) 0 ∧ o.dst = some 7 ∧ o.guard = none := ⟨_, by rw [hops]; rfl, rfl, rfl, rfl⟩
    obtain ⟨o3, po3, q3, d3, gd3⟩ : ∃ o, ops[3]? = some o ∧ o.op = .load 3 (.tmp 7) ∧ o.dst = some 8 ∧ o.guard = none := ⟨_, by rw [hops]; rfl, rfl, rfl, rfl⟩
    obtain ⟨o4, po4, q4, d4, gd4⟩ : ∃ o, ops[4]? = some o ∧ o.op = .call { callee := .value (.func 126), args := #[.tmp 6, .tmp 8], argTypes := #[3, 3] } ∧ o.dst = some 9 ∧ o.guard = none := ⟨_, by rw [hops]; rfl, rfl, rfl, rfl⟩
    obtain ⟨o5, po5, q5, d5, gd5⟩ : ∃ o, ops[5]? = some o ∧ o.op = .move (.tmp 9) ∧ o.dst = some 10 ∧ o.guard = none := ⟨_, by rw [hops]; rfl, rfl, rfl, rfl⟩
    obtain ⟨o6, po6, q6, d6, gd6⟩ : ∃ o, ops[6]? = some o ∧ o.op = .load 54 (.tmp 2) ∧ o.dst = some 11 ∧ o.guard = some (5, true) := ⟨_, by rw [hops]; rfl, rfl, rfl, rfl⟩
    obtain ⟨o7, po7, q7, d7, gd7⟩ : ∃ o, ops[7]? = some o ∧ o.op = .call { callee := .value (.func 127), args := #[.tmp 11], argTypes := #[54] } ∧ o.dst = some 12 ∧ o.guard = some (5, true) := ⟨_, by rw [hops]; rfl, rfl, rfl, rfl⟩
    obtain ⟨o8, po8, q8, d8, gd8⟩ : ∃ o, ops[8]? = some o ∧ o.op = .load 54 (.tmp 3) ∧ o.dst = some 13 ∧ o.guard = some (5, true) := ⟨_, by rw [hops]; rfl, rfl, rfl, rfl⟩
    obtain ⟨o9, po9, q9, d9, gd9⟩ : ∃ o, ops[9]? = some o ∧ o.op = .call { callee := .value (.func 127), args := #[.tmp 13], argTypes := #[54] } ∧ o.dst = some 14 ∧ o.guard = some (5, true) := ⟨_, by rw [hops]; rfl, rfl, rfl, rfl⟩
    obtain ⟨o10, po10, q10, d10, gd10⟩ : ∃ o, ops[10]? = some o ∧ o.op = .call { callee := .value (.func 128), args := #[.tmp 12, .tmp 14], argTypes := #[150, 150] } ∧ o.dst = some 15 ∧ o.guard = some (5, true) := ⟨_, by rw [hops]; rfl, rfl, rfl, rfl⟩
    obtain ⟨o11, po11, q11, d11, gd11⟩ : ∃ o, ops[11]? = some o ∧ o.op = .pick (.tmp 10) (.tmp 15) (.const (.bool false)) ∧ o.dst = some 16 ∧ o.guard = none := ⟨_, by rw [hops]; rfl, rfl, rfl, rfl⟩
    obtain ⟨o12, po12, q12, d12, gd12⟩ : ∃ o, ops[12]? = some o ∧ o.op = .move (.tmp 16) ∧ o.dst = some 17 ∧ o.guard = none := ⟨_, by rw [hops]; rfl, rfl, rfl, rfl⟩
    obtain ⟨o13, po13, q13, d13, gd13⟩ : ∃ o, ops[13]? = some o ∧ o.op = .fieldAddr 54 (.tmp 2) 3 ∧ o.dst = some 18 ∧ o.guard = some (12, true) := ⟨_, by rw [hops]; rfl, rfl, rfl, rfl⟩
    obtain ⟨o14, po14, q14, d14, gd14⟩ : ∃ o, ops[14]? = some o ∧ o.op = .load 3 (.tmp 18) ∧ o.dst = some 19 ∧ o.guard = some (12, true) := ⟨_, by rw [hops]; rfl, rfl, rfl, rfl⟩
    obtain ⟨o15, po15, q15, d15, gd15⟩ : ∃ o, ops[15]? = some o ∧ o.op = .fieldAddr 54 (.tmp 3) 3 ∧ o.dst = some 20 ∧ o.guard = some (12, true) := ⟨_, by rw [hops]; rfl, rfl, rfl, rfl⟩
    obtain ⟨o16, po16, q16, d16, gd16⟩ : ∃ o, ops[16]? = some o ∧ o.op = .load 3 (.tmp 20) ∧ o.dst = some 21 ∧ o.guard = some (12, true) := ⟨_, by rw [hops]; rfl, rfl, rfl, rfl⟩
    obtain ⟨o17, po17, q17, d17, gd17⟩ : ∃ o, ops[17]? = some o ∧ o.op = .call { callee := .value (.func 136), args := #[.tmp 19, .tmp 21], argTypes := #[3, 3] } ∧ o.dst = some 22 ∧ o.guard = some (12, true) := ⟨_, by rw [hops]; rfl, rfl, rfl, rfl⟩
    obtain ⟨o18, po18, q18, d18, gd18⟩ : ∃ o, ops[18]? = some o ∧ o.op = .pick (.tmp 17) (.tmp 22) (.const (.bool false)) ∧ o.dst = some 23 ∧ o.guard = none := ⟨_, by rw [hops]; rfl, rfl, rfl, rfl⟩
    obtain ⟨o19, po19, q19, d19, gd19⟩ : ∃ o, ops[19]? = some o ∧ o.op = .assign (.tmp 23) ∧ o.dst = some 4 ∧ o.guard = none := ⟨_, by rw [hops]; rfl, rfl, rfl, rfl⟩
    clear hops
    refine met_free po0 d0 (wanted_of gd0) (fun w' h' => run_fieldT (off := 0) q0 (fun _ => by kernel_rfl) base2 w') ?_
    refine met_free po1 d1 (wanted_of gd1) (fun w' h' => run_loadInt q1 (eval_same _ _ _ (by rw [hsz]; decide)) h'.one.c0) ?_
    refine met_free po2 d2 (wanted_of gd2) (fun w' h' => run_fieldT (off := 0) q2 (fun _ => by kernel_rfl) ((eval_other _ 6 3 _ (by decide)).trans ((eval_other _ 5 3 _ (by decide)).trans base3)) w') ?_
    refine met_free po3 d3 (wanted_of gd3) (fun w' h' => run_loadInt q3 (eval_same _ _ _ (by simp only [put_size, hsz]; decide)) h'.two.c0) ?_
    refine m_enter po4 d4 (wanted_of gd4) (run_callf2 q4 rfl ((eval_other _ 8 6 _ (by decide)).trans ((eval_other _ 7 6 _ (by decide)).trans (eval_same _ _ _ (by simp only [put_size, hsz]; decide)))) (eval_same _ _ _ (by simp only [put_size, hsz]; decide)) Tryd.func126 (by kernel_rfl) _) ((HZ.out ▸ quietG (has_any a.rights b.rights _ HR.out) : Calls _ _ _ _ (ReturnsG false _))) ?_
    rintro e w1_1 ⟨rfl, hb⟩
    have HSw1_1 := Lib.hid ((HG.out.step (Below.refl _ _).drew).step hb)
    clear hb
    refine ⟨_, rfl, HSw1_1.out, ?_⟩
    refine met_free po5 d5 (wanted_of gd5) (fun w' h' => run_move q5 (eval_same _ _ _ (by simp only [put_size, hsz]; decide)) w') ?_
    refine m_unwanted po6 d6 (w_not gd6 po5 d5 (eval_same _ _ _ (by simp only [put_size, hsz]; decide))) ?_
    refine m_unwanted po8 d8 (w_not gd8 po5 d5 ((eval_other _ 11 10 _ (by decide)).trans (eval_same _ _ _ (by simp only [put_size, hsz]; decide)))) ?_
    refine m_skipped po7 d7 (w_not gd7 po5 d5 ((eval_other _ 13 10 _ (by decide)).trans ((eval_other _ 11 10 _ (by decide)).trans (eval_same _ _ _ (by simp only [put_size, hsz]; decide))))) ⟨HSw1_1.out, ?_⟩
    refine m_skipped po9 d9 (w_not gd9 po5 d5 ((eval_other _ 12 10 _ (by decide)).trans ((eval_other _ 13 10 _ (by decide)).trans ((eval_other _ 11 10 _ (by decide)).trans (eval_same _ _ _ (by simp only [put_size, hsz]; decide)))))) ⟨HSw1_1.out, ?_⟩
    refine m_skipped po10 d10 (w_not gd10 po5 d5 ((eval_other _ 14 10 _ (by decide)).trans ((eval_other _ 12 10 _ (by decide)).trans ((eval_other _ 13 10 _ (by decide)).trans ((eval_other _ 11 10 _ (by decide)).trans (eval_same _ _ _ (by simp only [put_size, hsz]; decide))))))) ⟨HSw1_1.out, ?_⟩
    refine met_free po11 d11 (wanted_of gd11) (fun w' h' => r_pickF q11 ((eval_other _ 15 10 _ (by decide)).trans ((eval_other _ 14 10 _ (by decide)).trans ((eval_other _ 12 10 _ (by decide)).trans ((eval_other _ 13 10 _ (by decide)).trans ((eval_other _ 11 10 _ (by decide)).trans (eval_same _ _ _ (by simp only [put_size, hsz]; decide))))))) rfl w') ?_
    refine met_free po12 d12 (wanted_of gd12) (fun w' h' => run_move q12 (eval_same _ _ _ (by simp only [put_size, hsz]; decide)) w') ?_
    refine m_unwanted po13 d13 (w_not gd13 po12 d12 (eval_same _ _ _ (by simp only [put_size, hsz]; decide))) ?_
    refine m_unwanted po14 d14 (w_not gd14 po12 d12 ((eval_other _ 18 17 _ (by decide)).trans (eval_same _ _ _ (by simp only [put_size, hsz]; decide)))) ?_
    refine m_unwanted po15 d15 (w_not gd15 po12 d12 ((eval_other _ 19 17 _ (by decide)).trans ((eval_other _ 18 17 _ (by decide)).trans (eval_same _ _ _ (by simp only [put_size, hsz]; decide))))) ?_
    refine m_unwanted po16 d16 (w_not gd16 po12 d12 ((eval_other _ 20 17 _ (by decide)).trans ((eval_other _ 19 17 _ (by decide)).trans ((eval_other _ 18 17 _ (by decide)).trans (eval_same _ _ _ (by simp only [put_size, hsz]; decide)))))) ?_
    refine m_skipped po17 d17 (w_not gd17 po12 d12 ((eval_other _ 21 17 _ (by decide)).trans ((eval_other _ 20 17 _ (by decide)).trans ((eval_other _ 19 17 _ (by decide)).trans ((eval_other _ 18 17 _ (by decide)).trans (eval_same _ _ _ (by simp only [put_size, hsz]; decide))))))) ⟨HSw1_1.out, ?_⟩
    refine met_free po18 d18 (wanted_of gd18) (fun w' h' => r_pickF q18 ((eval_other _ 22 17 _ (by decide)).trans ((eval_other _ 21 17 _ (by decide)).trans ((eval_other _ 20 17 _ (by decide)).trans ((eval_other _ 19 17 _ (by decide)).trans ((eval_other _ 18 17 _ (by decide)).trans (eval_same _ _ _ (by simp only [put_size, hsz]; decide))))))) rfl w') ?_
    refine met_free po19 d19 (wanted_of gd19) (fun w' h' => run_assign q19 (eval_same _ _ _ (by simp only [put_size, hsz]; decide)) w') ?_
    show NoPanic _ .normal _ _
    refine NoPanic.normal ?_
    rw [HAA.out]
    go_frame
    clear HAA
    clear po0 q0 d0 gd0 po1 q1 d1 gd1 po2 q2 d2 gd2 po3 q3 d3 gd3 po4 q4 d4 gd4 po5 q5 d5 gd5 po6 q6 d6 gd6 po7 q7 d7 gd7 po8 q8 d8 gd8 po9 q9 d9 gd9 po10 q10 d10 gd10 po11 q11 d11 gd11 po12 q12 d12 gd12 po13 q13 d13 gd13 po14 q14 d14 gd14 po15 q15 d15 gd15 po16 q16 d16 gd16 po17 q17 d17 gd17 po18 q18 d18 gd18 po19 q19 d19 gd19
    clear base2 base3 hsz
    go_wp2_with fail
    go_ret
    refine ⟨?_, HSw1_1.out.below⟩
    rw [HP.out, HZ.out]
    rfl
  · have HZ := Lib.hid hz
    clear hz
    cases hs : scopeM a.pre a.exact b.pre b.exact
    · have HX := Lib.hid hs
      clear hs
      refine region_phase (fun wr => Gr2 w.heap.size (w.heap.size + 1) a b w wr) (fun _ => True) 99 (HG.out.step (Below.refl _ _).drew) trivial [(0, .free), (1, .free), (2, .free), (3, .free), (4, .behind), (5, .free), (6, .free), (8, .free), (7, .behind), (9, .behind), (10, .behind), (11, .free), (12, .free), (13, .free), (14, .free), (15, .free), (16, .free), (17, .behind), (18, .free), (19, .free)] (by kernel_rfl) (by kernel_rfl) (by kernel_rfl) (by kernel_rfl) (fun ops hops A hA => ?_)
      have hsz : A.tmps.size = 24 := by rw [hA]; rfl
      have base2 : A.eval (.tmp 2) = .pointer (some ⟨w.heap.size, 0, none⟩) := by rw [hA]; rfl
      have base3 : A.eval (.tmp 3) = .pointer (some ⟨w.heap.size + 1, 0, none⟩) := by rw [hA]; rfl
      have HAA := Lib.hid hA; clear hA
      obtain ⟨o0, po0, q0, d0, gd0⟩ : ∃ o, ops[0]? = some o ∧ o.op = .fieldAddr 54 (.tmp 2) 0 ∧ o.dst = some 5 ∧ o.guard = none := ⟨_, by rw [hops]; rfl, rfl, rfl, rfl⟩
      obtain ⟨o1, po1, q1, d1, gd1⟩ : ∃ o, ops[1]? = some o ∧ o.op = .load 3 (.tmp 5) ∧ o.dst = some 6 ∧ o.guard = none := ⟨_, by rw [hops]; rfl, rfl, rfl, rfl⟩
      obtain ⟨o2, po2, q2, d2, gd2⟩ : ∃ o, ops[2]? = some o ∧ o.op = .fieldAddr 54 (.tmp 3) 0 ∧ o.dst = some 7 ∧ o.guard = none := ⟨_, by rw [hops]; rfl, rfl, rfl, rfl⟩
      obtain ⟨o3, po3, q3, d3, gd3⟩ : ∃ o, ops[3]? = some o ∧ o.op = .load 3 (.tmp 7) ∧ o.dst = some 8 ∧ o.guard = none := ⟨_, by rw [hops]; rfl, rfl, rfl, rfl⟩
      obtain ⟨o4, po4, q4, d4, gd4⟩ : ∃ o, ops[4]? = some o ∧ o.op = .call { callee := .value (.func 126), args := #[.tmp 6, .tmp 8], argTypes := #[3, 3] } ∧ o.dst = some 9 ∧ o.guard = none := ⟨_, by rw [hops]; rfl, rfl, rfl, rfl⟩
      obtain ⟨o5, po5, q5, d5, gd5⟩ : ∃ o, ops[5]? = some o ∧ o.op = .move (.tmp 9) ∧ o.dst = some 10 ∧ o.guard = none := ⟨_, by rw [hops]; rfl, rfl, rfl, rfl⟩
      obtain ⟨o6, po6, q6, d6, gd6⟩ : ∃ o, ops[6]? = some o ∧ o.op = .load 54 (.tmp 2) ∧ o.dst = some 11 ∧ o.guard = some (5, true) := ⟨_, by rw [hops]; rfl, rfl, rfl, rfl⟩
      obtain ⟨o7, po7, q7, d7, gd7⟩ : ∃ o, ops[7]? = some o ∧ o.op = .call { callee := .value (.func 127), args := #[.tmp 11], argTypes := #[54] } ∧ o.dst = some 12 ∧ o.guard = some (5, true) := ⟨_, by rw [hops]; rfl, rfl, rfl, rfl⟩
      obtain ⟨o8, po8, q8, d8, gd8⟩ : ∃ o, ops[8]? = some o ∧ o.op = .load 54 (.tmp 3) ∧ o.dst = some 13 ∧ o.guard = some (5, true) := ⟨_, by rw [hops]; rfl, rfl, rfl, rfl⟩
      obtain ⟨o9, po9, q9, d9, gd9⟩ : ∃ o, ops[9]? = some o ∧ o.op = .call { callee := .value (.func 127), args := #[.tmp 13], argTypes := #[54] } ∧ o.dst = some 14 ∧ o.guard = some (5, true) := ⟨_, by rw [hops]; rfl, rfl, rfl, rfl⟩
      obtain ⟨o10, po10, q10, d10, gd10⟩ : ∃ o, ops[10]? = some o ∧ o.op = .call { callee := .value (.func 128), args := #[.tmp 12, .tmp 14], argTypes := #[150, 150] } ∧ o.dst = some 15 ∧ o.guard = some (5, true) := ⟨_, by rw [hops]; rfl, rfl, rfl, rfl⟩
      obtain ⟨o11, po11, q11, d11, gd11⟩ : ∃ o, ops[11]? = some o ∧ o.op = .pick (.tmp 10) (.tmp 15) (.const (.bool false)) ∧ o.dst = some 16 ∧ o.guard = none := ⟨_, by rw [hops]; rfl, rfl, rfl, rfl⟩
      obtain ⟨o12, po12, q12, d12, gd12⟩ : ∃ o, ops[12]? = some o ∧ o.op = .move (.tmp 16) ∧ o.dst = some 17 ∧ o.guard = none := ⟨_, by rw [hops]; rfl, rfl, rfl, rfl⟩
      obtain ⟨o13, po13, q13, d13, gd13⟩ : ∃ o, ops[13]? = some o ∧ o.op = .fieldAddr 54 (.tmp 2) 3 ∧ o.dst = some 18 ∧ o.guard = some (12, true) := ⟨_, by rw [hops]; rfl, rfl, rfl, rfl⟩
      obtain ⟨o14, po14, q14, d14, gd14⟩ : ∃ o, ops[14]? = some o ∧ o.op = .load 3 (.tmp 18) ∧ o.dst = some 19 ∧ o.guard = some (12, true) := ⟨_, by rw [hops]; rfl, rfl, rfl, rfl⟩
      obtain ⟨o15, po15, q15, d15, gd15⟩ : ∃ o, ops[15]? = some o ∧ o.op = .fieldAddr 54 (.tmp 3) 3 ∧ o.dst = some 20 ∧ o.guard = some (12, true) := ⟨_, by rw [hops]; rfl, rfl, rfl, rfl⟩
      obtain ⟨o16, po16, q16, d16, gd16⟩ : ∃ o, ops[16]? = some o ∧ o.op = .load 3 (.tmp 20) ∧ o.dst = some 21 ∧ o.guard = some (12, true) := ⟨_, by rw [hops]; rfl, rfl, rfl, rfl⟩
      obtain ⟨o17, po17, q17, d17, gd17⟩ : ∃ o, ops[17]? = some o ∧ o.op = .call { callee := .value (.func 136), args := #[.tmp 19, .tmp 21], argTypes := #[3, 3] } ∧ o.dst = some 22 ∧ o.guard = some (12, true) := ⟨_, by rw [hops]; rfl, rfl, rfl, rfl⟩
      obtain ⟨o18, po18, q18, d18, gd18⟩ : ∃ o, ops[18]? = some o ∧ o.op = .pick (.tmp 17) (.tmp 22) (.const (.bool false)) ∧ o.dst = some 23 ∧ o.guard = none := ⟨_, by rw [hops]; rfl, rfl, rfl, rfl⟩
      obtain ⟨o19, po19, q19, d19, gd19⟩ : ∃ o, ops[19]? = some o ∧ o.op = .assign (.tmp 23) ∧ o.dst = some 4 ∧ o.guard = none := ⟨_, by rw [hops]; rfl, rfl, rfl, rfl⟩
      clear hops
      refine met_free po0 d0 (wanted_of gd0) (fun w' h' => run_fieldT (off := 0) q0 (fun _ => by kernel_rfl) base2 w') ?_
      refine met_free po1 d1 (wanted_of gd1) (fun w' h' => run_loadInt q1 (eval_same _ _ _ (by rw [hsz]; decide)) h'.one.c0) ?_
      refine met_free po2 d2 (wanted_of gd2) (fun w' h' => run_fieldT (off := 0) q2 (fun _ => by kernel_rfl) ((eval_other _ 6 3 _ (by decide)).trans ((eval_other _ 5 3 _ (by decide)).trans base3)) w') ?_
      refine met_free po3 d3 (wanted_of gd3) (fun w' h' => run_loadInt q3 (eval_same _ _ _ (by simp only [put_size, hsz]; decide)) h'.two.c0) ?_
      refine m_enter po4 d4 (wanted_of gd4) (run_callf2 q4 rfl ((eval_other _ 8 6 _ (by decide)).trans ((eval_other _ 7 6 _ (by decide)).trans (eval_same _ _ _ (by simp only [put_size, hsz]; decide)))) (eval_same _ _ _ (by simp only [put_size, hsz]; decide)) Tryd.func126 (by kernel_rfl) _) ((HZ.out ▸ quietG (has_any a.rights b.rights _ HR.out) : Calls _ _ _ _ (ReturnsG true _))) ?_
      rintro e w1_1 ⟨rfl, hb⟩
      have HSw1_1 := Lib.hid ((HG.out.step (Below.refl _ _).drew).step hb)
      clear hb
      refine ⟨_, rfl, HSw1_1.out, ?_⟩
      refine met_free po5 d5 (wanted_of gd5) (fun w' h' => run_move q5 (eval_same _ _ _ (by simp only [put_size, hsz]; decide)) w') ?_
      refine met_free po6 d6 (wanted_guard gd6 po5 d5 (eval_same _ _ _ (by simp only [put_size, hsz]; decide))) (fun w' h' => run_loadBlk q6 ((eval_other _ 10 2 _ (by decide)).trans ((eval_other _ 9 2 _ (by decide)).trans ((eval_other _ 8 2 _ (by decide)).trans ((eval_other _ 7 2 _ (by decide)).trans ((eval_other _ 6 2 _ (by decide)).trans ((eval_other _ 5 2 _ (by decide)).trans base2)))))) h'.one (by kernel_rfl) (size_grant _)) ?_
      refine met_free po8 d8 (wanted_guard gd8 po5 d5 ((eval_other _ 11 10 _ (by decide)).trans (eval_same _ _ _ (by simp only [put_size, hsz]; decide)))) (fun w' h' => run_loadBlk q8 ((eval_other _ 11 3 _ (by decide)).trans ((eval_other _ 10 3 _ (by decide)).trans ((eval_other _ 9 3 _ (by decide)).trans ((eval_other _ 8 3 _ (by decide)).trans ((eval_other _ 7 3 _ (by decide)).trans ((eval_other _ 6 3 _ (by decide)).trans ((eval_other _ 5 3 _ (by decide)).trans base3))))))) h'.two (by kernel_rfl) (size_grant _)) ?_
      refine m_enter po7 d7 (wanted_guard gd7 po5 d5 ((eval_other _ 13 10 _ (by decide)).trans ((eval_other _ 11 10 _ (by decide)).trans (eval_same _ _ _ (by simp only [put_size, hsz]; decide))))) (run_callf1 q7 rfl ((eval_other _ 13 11 _ (by decide)).trans (eval_same _ _ _ (by simp only [put_size, hsz]; decide))) Tryd.func127 (by kernel_rfl) _) (HSA.out _) ?_
      rintro e w1_2 ⟨rfl, hb⟩
      have HSw1_2 := Lib.hid (HSw1_1.out.step hb)
      clear hb
      refine ⟨_, rfl, HSw1_2.out, ?_⟩
      refine m_enter po9 d9 (wanted_guard gd9 po5 d5 ((eval_other _ 12 10 _ (by decide)).trans ((eval_other _ 13 10 _ (by decide)).trans ((eval_other _ 11 10 _ (by decide)).trans (eval_same _ _ _ (by simp only [put_size, hsz]; decide)))))) (run_callf1 q9 rfl ((eval_other _ 12 13 _ (by decide)).trans (eval_same _ _ _ (by simp only [put_size, hsz]; decide))) Tryd.func127 (by kernel_rfl) _) (HSB.out _) ?_
      rintro e w1_3 ⟨rfl, hb⟩
      have HSw1_3 := Lib.hid (HSw1_2.out.step hb)
      clear hb
      refine ⟨_, rfl, HSw1_3.out, ?_⟩
      refine m_enter po10 d10 (wanted_guard gd10 po5 d5 ((eval_other _ 14 10 _ (by decide)).trans ((eval_other _ 12 10 _ (by decide)).trans ((eval_other _ 13 10 _ (by decide)).trans ((eval_other _ 11 10 _ (by decide)).trans (eval_same _ _ _ (by simp only [put_size, hsz]; decide))))))) (run_callf2 q10 rfl ((eval_other _ 14 12 _ (by decide)).trans (eval_same _ _ _ (by simp only [put_size, hsz]; decide))) (eval_same _ _ _ (by simp only [put_size, hsz]; decide)) Tryd.func128 (by kernel_rfl) _) ((HX.out ▸ contains_any a.pre a.exact b.pre b.exact _ : Calls _ _ _ _ (ReturnsG false _))) ?_
      rintro e w1_4 ⟨rfl, hb⟩
      have HSw1_4 := Lib.hid (HSw1_3.out.step hb)
      clear hb
      refine ⟨_, rfl, HSw1_4.out, ?_⟩
      refine met_free po11 d11 (wanted_of gd11) (fun w' h' => run_pick_true q11 ((eval_other _ 15 10 _ (by decide)).trans ((eval_other _ 14 10 _ (by decide)).trans ((eval_other _ 12 10 _ (by decide)).trans ((eval_other _ 13 10 _ (by decide)).trans ((eval_other _ 11 10 _ (by decide)).trans (eval_same _ _ _ (by simp only [put_size, hsz]; decide))))))) (eval_same _ _ _ (by simp only [put_size, hsz]; decide)) w') ?_
      refine met_free po12 d12 (wanted_of gd12) (fun w' h' => run_move q12 (eval_same _ _ _ (by simp only [put_size, hsz]; decide)) w') ?_
      refine m_unwanted po13 d13 (w_not gd13 po12 d12 (eval_same _ _ _ (by simp only [put_size, hsz]; decide))) ?_
      refine m_unwanted po14 d14 (w_not gd14 po12 d12 ((eval_other _ 18 17 _ (by decide)).trans (eval_same _ _ _ (by simp only [put_size, hsz]; decide)))) ?_
      refine m_unwanted po15 d15 (w_not gd15 po12 d12 ((eval_other _ 19 17 _ (by decide)).trans ((eval_other _ 18 17 _ (by decide)).trans (eval_same _ _ _ (by simp only [put_size, hsz]; decide))))) ?_
      refine m_unwanted po16 d16 (w_not gd16 po12 d12 ((eval_other _ 20 17 _ (by decide)).trans ((eval_other _ 19 17 _ (by decide)).trans ((eval_other _ 18 17 _ (by decide)).trans (eval_same _ _ _ (by simp only [put_size, hsz]; decide)))))) ?_
      refine m_skipped po17 d17 (w_not gd17 po12 d12 ((eval_other _ 21 17 _ (by decide)).trans ((eval_other _ 20 17 _ (by decide)).trans ((eval_other _ 19 17 _ (by decide)).trans ((eval_other _ 18 17 _ (by decide)).trans (eval_same _ _ _ (by simp only [put_size, hsz]; decide))))))) ⟨HSw1_4.out, ?_⟩
      refine met_free po18 d18 (wanted_of gd18) (fun w' h' => r_pickF q18 ((eval_other _ 22 17 _ (by decide)).trans ((eval_other _ 21 17 _ (by decide)).trans ((eval_other _ 20 17 _ (by decide)).trans ((eval_other _ 19 17 _ (by decide)).trans ((eval_other _ 18 17 _ (by decide)).trans (eval_same _ _ _ (by simp only [put_size, hsz]; decide))))))) rfl w') ?_
      refine met_free po19 d19 (wanted_of gd19) (fun w' h' => run_assign q19 (eval_same _ _ _ (by simp only [put_size, hsz]; decide)) w') ?_
      show NoPanic _ .normal _ _
      refine NoPanic.normal ?_
      rw [HAA.out]
      go_frame
      clear HAA
      clear po0 q0 d0 gd0 po1 q1 d1 gd1 po2 q2 d2 gd2 po3 q3 d3 gd3 po4 q4 d4 gd4 po5 q5 d5 gd5 po6 q6 d6 gd6 po7 q7 d7 gd7 po8 q8 d8 gd8 po9 q9 d9 gd9 po10 q10 d10 gd10 po11 q11 d11 gd11 po12 q12 d12 gd12 po13 q13 d13 gd13 po14 q14 d14 gd14 po15 q15 d15 gd15 po16 q16 d16 gd16 po17 q17 d17 gd17 po18 q18 d18 gd18 po19 q19 d19 gd19
      clear base2 base3 hsz
      go_wp2_with fail
      go_ret
      refine ⟨?_, HSw1_4.out.below⟩
      rw [HP.out, HZ.out, HX.out]
      rfl
    · have HX := Lib.hid hs
      clear hs
      refine region_phase (fun wr => Gr2 w.heap.size (w.heap.size + 1) a b w wr) (fun _ => True) 99 (HG.out.step (Below.refl _ _).drew) trivial [(0, .free), (1, .free), (2, .free), (3, .free), (4, .behind), (5, .free), (6, .free), (8, .free), (7, .behind), (9, .behind), (10, .behind), (11, .free), (12, .free), (13, .free), (14, .free), (15, .free), (16, .free), (17, .behind), (18, .free), (19, .free)] (by kernel_rfl) (by kernel_rfl) (by kernel_rfl) (by kernel_rfl) (fun ops hops A hA => ?_)
      have hsz : A.tmps.size = 24 := by rw [hA]; rfl
      have base2 : A.eval (.tmp 2) = .pointer (some ⟨w.heap.size, 0, none⟩) := by rw [hA]; rfl
      have base3 : A.eval (.tmp 3) = .pointer (some ⟨w.heap.size + 1, 0, none⟩) := by rw [hA]; rfl
      have HAA := Lib.hid hA; clear hA
      obtain ⟨o0, po0, q0, d0, gd0⟩ : ∃ o, ops[0]? = some o ∧ o.op = .fieldAddr 54 (.tmp 2) 0 ∧ o.dst = some 5 ∧ o.guard = none := ⟨_, by rw [hops]; rfl, rfl, rfl, rfl⟩
      obtain ⟨o1, po1, q1, d1, gd1⟩ : ∃ o, ops[1]? = some o ∧ o.op = .load 3 (.tmp 5) ∧ o.dst = some 6 ∧ o.guard = none := ⟨_, by rw [hops]; rfl, rfl, rfl, rfl⟩
      obtain ⟨o2, po2, q2, d2, gd2⟩ : ∃ o, ops[2]? = some o ∧ o.op = .fieldAddr 54 (.tmp 3) 0 ∧ o.dst = some 7 ∧ o.guard = none := ⟨_, by rw [hops]; rfl, rfl, rfl, rfl⟩
      obtain ⟨o3, po3, q3, d3, gd3⟩ : ∃ o, ops[3]? = some o ∧ o.op = .load 3 (.tmp 7) ∧ o.dst = some 8 ∧ o.guard = none := ⟨_, by rw [hops]; rfl, rfl, rfl, rfl⟩
      obtain ⟨o4, po4, q4, d4, gd4⟩ : ∃ o, ops[4]? = some o ∧ o.op = .call { callee := .value (.func 126), args := #[.tmp 6, .tmp 8], argTypes := #[3, 3] } ∧ o.dst = some 9 ∧ o.guard = none := ⟨_, by rw [hops]; rfl, rfl, rfl, rfl⟩
      obtain ⟨o5, po5, q5, d5, gd5⟩ : ∃ o, ops[5]? = some o ∧ o.op = .move (.tmp 9) ∧ o.dst = some 10 ∧ o.guard = none := ⟨_, by rw [hops]; rfl, rfl, rfl, rfl⟩
      obtain ⟨o6, po6, q6, d6, gd6⟩ : ∃ o, ops[6]? = some o ∧ o.op = .load 54 (.tmp 2) ∧ o.dst = some 11 ∧ o.guard = some (5, true) := ⟨_, by rw [hops]; rfl, rfl, rfl, rfl⟩
      obtain ⟨o7, po7, q7, d7, gd7⟩ : ∃ o, ops[7]? = some o ∧ o.op = .call { callee := .value (.func 127), args := #[.tmp 11], argTypes := #[54] } ∧ o.dst = some 12 ∧ o.guard = some (5, true) := ⟨_, by rw [hops]; rfl, rfl, rfl, rfl⟩
      obtain ⟨o8, po8, q8, d8, gd8⟩ : ∃ o, ops[8]? = some o ∧ o.op = .load 54 (.tmp 3) ∧ o.dst = some 13 ∧ o.guard = some (5, true) := ⟨_, by rw [hops]; rfl, rfl, rfl, rfl⟩
      obtain ⟨o9, po9, q9, d9, gd9⟩ : ∃ o, ops[9]? = some o ∧ o.op = .call { callee := .value (.func 127), args := #[.tmp 13], argTypes := #[54] } ∧ o.dst = some 14 ∧ o.guard = some (5, true) := ⟨_, by rw [hops]; rfl, rfl, rfl, rfl⟩
      obtain ⟨o10, po10, q10, d10, gd10⟩ : ∃ o, ops[10]? = some o ∧ o.op = .call { callee := .value (.func 128), args := #[.tmp 12, .tmp 14], argTypes := #[150, 150] } ∧ o.dst = some 15 ∧ o.guard = some (5, true) := ⟨_, by rw [hops]; rfl, rfl, rfl, rfl⟩
      obtain ⟨o11, po11, q11, d11, gd11⟩ : ∃ o, ops[11]? = some o ∧ o.op = .pick (.tmp 10) (.tmp 15) (.const (.bool false)) ∧ o.dst = some 16 ∧ o.guard = none := ⟨_, by rw [hops]; rfl, rfl, rfl, rfl⟩
      obtain ⟨o12, po12, q12, d12, gd12⟩ : ∃ o, ops[12]? = some o ∧ o.op = .move (.tmp 16) ∧ o.dst = some 17 ∧ o.guard = none := ⟨_, by rw [hops]; rfl, rfl, rfl, rfl⟩
      obtain ⟨o13, po13, q13, d13, gd13⟩ : ∃ o, ops[13]? = some o ∧ o.op = .fieldAddr 54 (.tmp 2) 3 ∧ o.dst = some 18 ∧ o.guard = some (12, true) := ⟨_, by rw [hops]; rfl, rfl, rfl, rfl⟩
      obtain ⟨o14, po14, q14, d14, gd14⟩ : ∃ o, ops[14]? = some o ∧ o.op = .load 3 (.tmp 18) ∧ o.dst = some 19 ∧ o.guard = some (12, true) := ⟨_, by rw [hops]; rfl, rfl, rfl, rfl⟩
      obtain ⟨o15, po15, q15, d15, gd15⟩ : ∃ o, ops[15]? = some o ∧ o.op = .fieldAddr 54 (.tmp 3) 3 ∧ o.dst = some 20 ∧ o.guard = some (12, true) := ⟨_, by rw [hops]; rfl, rfl, rfl, rfl⟩
      obtain ⟨o16, po16, q16, d16, gd16⟩ : ∃ o, ops[16]? = some o ∧ o.op = .load 3 (.tmp 20) ∧ o.dst = some 21 ∧ o.guard = some (12, true) := ⟨_, by rw [hops]; rfl, rfl, rfl, rfl⟩
      obtain ⟨o17, po17, q17, d17, gd17⟩ : ∃ o, ops[17]? = some o ∧ o.op = .call { callee := .value (.func 136), args := #[.tmp 19, .tmp 21], argTypes := #[3, 3] } ∧ o.dst = some 22 ∧ o.guard = some (12, true) := ⟨_, by rw [hops]; rfl, rfl, rfl, rfl⟩
      obtain ⟨o18, po18, q18, d18, gd18⟩ : ∃ o, ops[18]? = some o ∧ o.op = .pick (.tmp 17) (.tmp 22) (.const (.bool false)) ∧ o.dst = some 23 ∧ o.guard = none := ⟨_, by rw [hops]; rfl, rfl, rfl, rfl⟩
      obtain ⟨o19, po19, q19, d19, gd19⟩ : ∃ o, ops[19]? = some o ∧ o.op = .assign (.tmp 23) ∧ o.dst = some 4 ∧ o.guard = none := ⟨_, by rw [hops]; rfl, rfl, rfl, rfl⟩
      clear hops
      refine met_free po0 d0 (wanted_of gd0) (fun w' h' => run_fieldT (off := 0) q0 (fun _ => by kernel_rfl) base2 w') ?_
      refine met_free po1 d1 (wanted_of gd1) (fun w' h' => run_loadInt q1 (eval_same _ _ _ (by rw [hsz]; decide)) h'.one.c0) ?_
      refine met_free po2 d2 (wanted_of gd2) (fun w' h' => run_fieldT (off := 0) q2 (fun _ => by kernel_rfl) ((eval_other _ 6 3 _ (by decide)).trans ((eval_other _ 5 3 _ (by decide)).trans base3)) w') ?_
      refine met_free po3 d3 (wanted_of gd3) (fun w' h' => run_loadInt q3 (eval_same _ _ _ (by simp only [put_size, hsz]; decide)) h'.two.c0) ?_
      refine m_enter po4 d4 (wanted_of gd4) (run_callf2 q4 rfl ((eval_other _ 8 6 _ (by decide)).trans ((eval_other _ 7 6 _ (by decide)).trans (eval_same _ _ _ (by simp only [put_size, hsz]; decide)))) (eval_same _ _ _ (by simp only [put_size, hsz]; decide)) Tryd.func126 (by kernel_rfl) _) ((HZ.out ▸ quietG (has_any a.rights b.rights _ HR.out) : Calls _ _ _ _ (ReturnsG true _))) ?_
      rintro e w1_1 ⟨rfl, hb⟩
      have HSw1_1 := Lib.hid ((HG.out.step (Below.refl _ _).drew).step hb)
      clear hb
      refine ⟨_, rfl, HSw1_1.out, ?_⟩
      refine met_free po5 d5 (wanted_of gd5) (fun w' h' => run_move q5 (eval_same _ _ _ (by simp only [put_size, hsz]; decide)) w') ?_
      refine met_free po6 d6 (wanted_guard gd6 po5 d5 (eval_same _ _ _ (by simp only [put_size, hsz]; decide))) (fun w' h' => run_loadBlk q6 ((eval_other _ 10 2 _ (by decide)).trans ((eval_other _ 9 2 _ (by decide)).trans ((eval_other _ 8 2 _ (by decide)).trans ((eval_other _ 7 2 _ (by decide)).trans ((eval_other _ 6 2 _ (by decide)).trans ((eval_other _ 5 2 _ (by decide)).trans base2)))))) h'.one (by kernel_rfl) (size_grant _)) ?_
      refine met_free po8 d8 (wanted_guard gd8 po5 d5 ((eval_other _ 11 10 _ (by decide)).trans (eval_same _ _ _ (by simp only [put_size, hsz]; decide)))) (fun w' h' => run_loadBlk q8 ((eval_other _ 11 3 _ (by decide)).trans ((eval_other _ 10 3 _ (by decide)).trans ((eval_other _ 9 3 _ (by decide)).trans ((eval_other _ 8 3 _ (by decide)).trans ((eval_other _ 7 3 _ (by decide)).trans ((eval_other _ 6 3 _ (by decide)).trans ((eval_other _ 5 3 _ (by decide)).trans base3))))))) h'.two (by kernel_rfl) (size_grant _)) ?_
      refine m_enter po7 d7 (wanted_guard gd7 po5 d5 ((eval_other _ 13 10 _ (by decide)).trans ((eval_other _ 11 10 _ (by decide)).trans (eval_same _ _ _ (by simp only [put_size, hsz]; decide))))) (run_callf1 q7 rfl ((eval_other _ 13 11 _ (by decide)).trans (eval_same _ _ _ (by simp only [put_size, hsz]; decide))) Tryd.func127 (by kernel_rfl) _) (HSA.out _) ?_
      rintro e w1_2 ⟨rfl, hb⟩
      have HSw1_2 := Lib.hid (HSw1_1.out.step hb)
      clear hb
      refine ⟨_, rfl, HSw1_2.out, ?_⟩
      refine m_enter po9 d9 (wanted_guard gd9 po5 d5 ((eval_other _ 12 10 _ (by decide)).trans ((eval_other _ 13 10 _ (by decide)).trans ((eval_other _ 11 10 _ (by decide)).trans (eval_same _ _ _ (by simp only [put_size, hsz]; decide)))))) (run_callf1 q9 rfl ((eval_other _ 12 13 _ (by decide)).trans (eval_same _ _ _ (by simp only [put_size, hsz]; decide))) Tryd.func127 (by kernel_rfl) _) (HSB.out _) ?_
      rintro e w1_3 ⟨rfl, hb⟩
      have HSw1_3 := Lib.hid (HSw1_2.out.step hb)
      clear hb
      refine ⟨_, rfl, HSw1_3.out, ?_⟩
      refine m_enter po10 d10 (wanted_guard gd10 po5 d5 ((eval_other _ 14 10 _ (by decide)).trans ((eval_other _ 12 10 _ (by decide)).trans ((eval_other _ 13 10 _ (by decide)).trans ((eval_other _ 11 10 _ (by decide)).trans (eval_same _ _ _ (by simp only [put_size, hsz]; decide))))))) (run_callf2 q10 rfl ((eval_other _ 14 12 _ (by decide)).trans (eval_same _ _ _ (by simp only [put_size, hsz]; decide))) (eval_same _ _ _ (by simp only [put_size, hsz]; decide)) Tryd.func128 (by kernel_rfl) _) ((HX.out ▸ contains_any a.pre a.exact b.pre b.exact _ : Calls _ _ _ _ (ReturnsG true _))) ?_
      rintro e w1_4 ⟨rfl, hb⟩
      have HSw1_4 := Lib.hid (HSw1_3.out.step hb)
      clear hb
      refine ⟨_, rfl, HSw1_4.out, ?_⟩
      refine met_free po11 d11 (wanted_of gd11) (fun w' h' => run_pick_true q11 ((eval_other _ 15 10 _ (by decide)).trans ((eval_other _ 14 10 _ (by decide)).trans ((eval_other _ 12 10 _ (by decide)).trans ((eval_other _ 13 10 _ (by decide)).trans ((eval_other _ 11 10 _ (by decide)).trans (eval_same _ _ _ (by simp only [put_size, hsz]; decide))))))) (eval_same _ _ _ (by simp only [put_size, hsz]; decide)) w') ?_
      refine met_free po12 d12 (wanted_of gd12) (fun w' h' => run_move q12 (eval_same _ _ _ (by simp only [put_size, hsz]; decide)) w') ?_
      refine met_free po13 d13 (wanted_guard gd13 po12 d12 (eval_same _ _ _ (by simp only [put_size, hsz]; decide))) (fun w' h' => run_fieldT (off := 3) q13 (fun _ => by kernel_rfl) ((eval_other _ 17 2 _ (by decide)).trans ((eval_other _ 16 2 _ (by decide)).trans ((eval_other _ 15 2 _ (by decide)).trans ((eval_other _ 14 2 _ (by decide)).trans ((eval_other _ 12 2 _ (by decide)).trans ((eval_other _ 13 2 _ (by decide)).trans ((eval_other _ 11 2 _ (by decide)).trans ((eval_other _ 10 2 _ (by decide)).trans ((eval_other _ 9 2 _ (by decide)).trans ((eval_other _ 8 2 _ (by decide)).trans ((eval_other _ 7 2 _ (by decide)).trans ((eval_other _ 6 2 _ (by decide)).trans ((eval_other _ 5 2 _ (by decide)).trans base2))))))))))))) w') ?_
      refine met_free po14 d14 (wanted_guard gd14 po12 d12 ((eval_other _ 18 17 _ (by decide)).trans (eval_same _ _ _ (by simp only [put_size, hsz]; decide)))) (fun w' h' => run_loadInt q14 (eval_same _ _ _ (by simp only [put_size, hsz]; decide)) h'.one.c3) ?_
      refine met_free po15 d15 (wanted_guard gd15 po12 d12 ((eval_other _ 19 17 _ (by decide)).trans ((eval_other _ 18 17 _ (by decide)).trans (eval_same _ _ _ (by simp only [put_size, hsz]; decide))))) (fun w' h' => run_fieldT (off := 3) q15 (fun _ => by kernel_rfl) ((eval_other _ 19 3 _ (by decide)).trans ((eval_other _ 18 3 _ (by decide)).trans ((eval_other _ 17 3 _ (by decide)).trans ((eval_other _ 16 3 _ (by decide)).trans ((eval_other _ 15 3 _ (by decide)).trans ((eval_other _ 14 3 _ (by decide)).trans ((eval_other _ 12 3 _ (by decide)).trans ((eval_other _ 13 3 _ (by decide)).trans ((eval_other _ 11 3 _ (by decide)).trans ((eval_other _ 10 3 _ (by decide)).trans ((eval_other _ 9 3 _ (by decide)).trans ((eval_other _ 8 3 _ (by decide)).trans ((eval_other _ 7 3 _ (by decide)).trans ((eval_other _ 6 3 _ (by decide)).trans ((eval_other _ 5 3 _ (by decide)).trans base3))))))))))))))) w') ?_
      refine met_free po16 d16 (wanted_guard gd16 po12 d12 ((eval_other _ 20 17 _ (by decide)).trans ((eval_other _ 19 17 _ (by decide)).trans ((eval_other _ 18 17 _ (by decide)).trans (eval_same _ _ _ (by simp only [put_size, hsz]; decide)))))) (fun w' h' => run_loadInt q16 (eval_same _ _ _ (by simp only [put_size, hsz]; decide)) h'.two.c3) ?_
      refine m_enter po17 d17 (wanted_guard gd17 po12 d12 ((eval_other _ 21 17 _ (by decide)).trans ((eval_other _ 20 17 _ (by decide)).trans ((eval_other _ 19 17 _ (by decide)).trans ((eval_other _ 18 17 _ (by decide)).trans (eval_same _ _ _ (by simp only [put_size, hsz]; decide))))))) (run_callf2 q17 rfl ((eval_other _ 21 19 _ (by decide)).trans ((eval_other _ 20 19 _ (by decide)).trans (eval_same _ _ _ (by simp only [put_size, hsz]; decide)))) (eval_same _ _ _ (by simp only [put_size, hsz]; decide)) Tryd.func136 (by kernel_rfl) _) (quietG (ends_any a.till b.till _)) ?_
      rintro e w1_5 ⟨rfl, hb⟩
      have HSw1_5 := Lib.hid (HSw1_4.out.step hb)
      clear hb
      refine ⟨_, rfl, HSw1_5.out, ?_⟩
      refine met_free po18 d18 (wanted_of gd18) (fun w' h' => run_pick_true q18 ((eval_other _ 22 17 _ (by decide)).trans ((eval_other _ 21 17 _ (by decide)).trans ((eval_other _ 20 17 _ (by decide)).trans ((eval_other _ 19 17 _ (by decide)).trans ((eval_other _ 18 17 _ (by decide)).trans (eval_same _ _ _ (by simp only [put_size, hsz]; decide))))))) (eval_same _ _ _ (by simp only [put_size, hsz]; decide)) w') ?_
      refine met_free po19 d19 (wanted_of gd19) (fun w' h' => run_assign q19 (eval_same _ _ _ (by simp only [put_size, hsz]; decide)) w') ?_
      show NoPanic _ .normal _ _
      refine NoPanic.normal ?_
      rw [HAA.out]
      go_frame
      clear HAA
      clear po0 q0 d0 gd0 po1 q1 d1 gd1 po2 q2 d2 gd2 po3 q3 d3 gd3 po4 q4 d4 gd4 po5 q5 d5 gd5 po6 q6 d6 gd6 po7 q7 d7 gd7 po8 q8 d8 gd8 po9 q9 d9 gd9 po10 q10 d10 gd10 po11 q11 d11 gd11 po12 q12 d12 gd12 po13 q13 d13 gd13 po14 q14 d14 gd14 po15 q15 d15 gd15 po16 q16 d16 gd16 po17 q17 d17 gd17 po18 q18 d18 gd18 po19 q19 d19 gd19
      clear base2 base3 hsz
      go_wp2_with fail
      go_ret
      refine ⟨?_, HSw1_5.out.below⟩
      rw [HP.out, HZ.out, HX.out]
      rfl
end Go.Proofs.YtgeacocdnenhdaaDoor

/-
  Which grant is within which: the document's.
-/
namespace Go.Proofs.YtgeacocdnenhdaaDoor
open Go.RowKit
theorem ne_strs {p q : ByteArray} (h : ¬ q = p) : (¬ p.toList = q.toList) ∧ (p.toList == q.toList) = false := by
  have h1 : ¬ p.toList = q.toList := fun e => h (toList_eq.1 e.symm)
  exact ⟨h1, by simpa using h1⟩
theorem twoB {w w' : World} {o u : Obj} (h : Below ((w.alloc o).alloc u).heap.size ((w.alloc o).alloc u) w') : Below w.heap.size w w' := (two_boxes w o u).trans (h.mono (two_boxes w o u).size)
set_option maxRecDepth 100000 in
set_option maxHeartbeats 4000000 in
theorem refNarrow_any (a b : GrantM) (w : World) (ha : wrap64 a.rights = a.rights) (hs : b.pre.size ≤ 140737488351232) : Calls Tryd.prog 104 #[.agg a.cells.toArray, .agg b.cells.toArray] w (ReturnsG (narrowM a b) w) := by
  have HP := Lib.hid (show narrowM a b = (hasZ a.rights b.rights && (scopeM a.pre a.exact b.pre b.exact && tillM a.till b.till)) from rfl)
  have HX := Lib.hid (show scopeM a.pre a.exact b.pre b.exact = (if a.exact = true then decide (b.pre = a.pre) && b.exact else begS b.pre a.pre) from rfl)
  have HR := Lib.hid ha
  have HS := Lib.hid hs
  clear ha hs
  obtain ⟨r, p, x, t⟩ := a
  obtain ⟨r2, q, y, u⟩ := b
  simp only [GrantM.cells] at HP HR HX HS ⊢
  have HH : Hid (∀ w, Calls Tryd.prog 164 #[.int .i64 r, .int .i64 r2] w (ReturnsB (hasZ r r2) w)) := show ∀ _, _ from fun w => refHas_any r r2 w HR.out
  have HBG : Hid (∀ w, Calls Tryd.prog 165 #[.string q, .string p] w fun e w' => e = .returned (.bool (begS q p)) ∧ Below w.heap.size w w') := show ∀ _, _ from fun w => refBegins_any q p w HS.out
  cases hz : hasZ r r2
  · have HZ := Lib.hid hz
    clear hz
    go_enter Tryd.func104, Tryd.ntmps104
    go_wp2_with fail
    refine (HH.out _).mono ?_
    rw [HZ.out]
    rintro e w' ⟨rfl, rfl⟩
    go_wp2_with fail
    go_ret
    refine ⟨?_, two_boxes _ _ _⟩
    rw [HP.out, HZ.out]
    rfl
  have HZ := Lib.hid hz
  clear hz
  by_cases hno : x = true ∧ (y = false ∨ ¬ q = p)
  · obtain ⟨rfl, hno⟩ := hno
    have HF : Hid (scopeM p true q y = false) := show _ = _ from by
      rw [HX.out]
      rcases hno with h | h <;> simp [h]
    rcases hno with rfl | hno
    · go_enter Tryd.func104, Tryd.ntmps104
      go_wp2_with fail
      refine (HH.out _).mono ?_
      rw [HZ.out]
      rintro e w' ⟨rfl, rfl⟩
      go_wp2_with fail
      go_ret
      refine ⟨?_, two_boxes _ _ _⟩
      rw [HP.out, HZ.out, HF.out]
      rfl
    · obtain ⟨n1, n2⟩ := ne_strs hno
      clear hno
      cases y
      all_goals
        go_enter Tryd.func104, Tryd.ntmps104
        go_wp2_with fail
        refine (HH.out _).mono ?_
        rw [HZ.out]
        rintro e w' ⟨rfl, rfl⟩
        go_wp2_with fail
        go_ret
        refine ⟨?_, two_boxes _ _ _⟩
        rw [HP.out, HZ.out, HF.out]
        rfl
  have HXE : Hid (scopeM p x q y = begS q p ∧ (x = false ∨ (x = true ∧ y = true ∧ q = p))) := show _ ∧ _ from by
    rw [HX.out]
    cases x
    · exact ⟨rfl, .inl rfl⟩
    · simp only [true_and, not_or, Bool.not_eq_false, Decidable.not_not] at hno
      obtain ⟨rfl, rfl⟩ := hno
      refine ⟨?_, .inr ⟨rfl, rfl, rfl⟩⟩
      simp [begS_refl]
  clear hno HX
  cases hbg : begS q p
  · have HB := Lib.hid hbg
    clear hbg
    have hx : x = false := by
      rcases HXE.out.2 with h | ⟨_, _, h⟩
      · exact h
      · have := HB.out; rw [h, begS_refl] at this; cases this
    subst hx
    go_enter Tryd.func104, Tryd.ntmps104
    go_wp2_with fail
    refine (HH.out _).mono ?_
    rw [HZ.out]
    rintro e w' ⟨rfl, rfl⟩
    go_wp2_with fail
    refine (HBG.out _).mono ?_
    rw [HB.out]
    rintro e w' ⟨rfl, hb⟩
    have HBB := Lib.hid (twoB hb)
    clear hb
    go_wp2_with fail
    go_ret
    refine ⟨?_, HBB.out⟩
    rw [HP.out, HZ.out, HXE.out.1, HB.out]
    rfl
  · have HB := Lib.hid hbg
    clear hbg
    have HT : Hid (narrowM ⟨r, p, x, t⟩ ⟨r2, q, y, u⟩ = tillM t u) := show _ = _ from by rw [HP.out, HZ.out, HXE.out.1, HB.out]; simp
    clear HP
    have HG2 := fun {w'} (hb) => (Gr2.boxes (a := ⟨r, p, x, t⟩) (b := ⟨r2, q, y, u⟩) w rfl rfl).step (w' := w') hb
    simp only [GrantM.cells] at HG2
    have hx := HXE.out.2
    clear HXE
    by_cases ht : t = 0
    · subst ht
      rcases hx with rfl | ⟨rfl, rfl, rfl⟩
      all_goals
        go_enter Tryd.func104, Tryd.ntmps104
        go_wp2_with fail
        refine (HH.out _).mono ?_
        rw [HZ.out]
        rintro e w' ⟨rfl, rfl⟩
        go_wp2_with fail
        refine (HBG.out _).mono ?_
        rw [HB.out]
        rintro e w' ⟨rfl, hb⟩
        have hg := @HG2 w' hb
        have HBB := Lib.hid hg.below
        have c1 := hg.one.c3
        have c2 := hg.two.c3
        simp only at c1 c2
        clear hg hb
        go_wp2_with fail
        all_goals
          go_ret
          refine ⟨congrArg (fun b => Ending.returned (.bool b)) ?_, HBB.out⟩
          rw [HT.out]
          apply Bool.eq_iff_iff.2
          simp [tillM]
          try omega
    · by_cases h1 : 1 ≤ u <;> rcases hx with rfl | ⟨rfl, rfl, rfl⟩
      all_goals
        go_enter Tryd.func104, Tryd.ntmps104
        go_wp2_with fail
        refine (HH.out _).mono ?_
        rw [HZ.out]
        rintro e w' ⟨rfl, rfl⟩
        go_wp2_with fail
        refine (HBG.out _).mono ?_
        rw [HB.out]
        rintro e w' ⟨rfl, hb⟩
        have hg := @HG2 w' hb
        have HBB := Lib.hid hg.below
        have c1 := hg.one.c3
        have c2 := hg.two.c3
        simp only at c1 c2
        clear hg hb
        go_wp2_with fail
        all_goals
          go_ret
          refine ⟨congrArg (fun b => Ending.returned (.bool b)) ?_, HBB.out⟩
          rw [HT.out]
          apply Bool.eq_iff_iff.2
          simp [tillM]
          try omega
end Go.Proofs.YtgeacocdnenhdaaDoor

/-
  What comes in at layer 13, opened: grants, rules.
-/
namespace Go.Proofs.YtgeacocdnenhdaaDoor
open Go.ChangeShapes Go.WideShapes Go.ChangeAt Go.RowKit Go.Proofs.ShaWords Go.Deep
set_option maxRecDepth 100000 in
theorem open_grant {H : Type} {enc : TypeId × Value → H} {W : World} {fuel : Nat} {cs : List Value} {x : DataW H × List MemPlace} (h : DataW.trod enc Tryd.prog W 0 (fun _ => true) true fuel 54 cs = some x)
    (hsz : ∀ k ∈ x.1.weights Tryd.prog 54, k ≤ reachBytes) :
    ∃ g : GrantM, cs = g.cells ∧ g.Ok := by
  obtain ⟨xs, n, _, hxx, hl, hlen, hf⟩ := DataW.trod_struct Tryd.underlying54 h
  have c4 : Tryd.prog.cellsOf 54 = 4 := by kernel_rfl
  have cs1 : Tryd.prog.cellsOf 9 = 1 := by kernel_rfl
  have ci : Tryd.prog.cellsOf 3 = 1 := by kernel_rfl
  have cb : Tryd.prog.cellsOf 4 = 1 := by kernel_rfl
  rw [c4] at hl
  obtain ⟨y0, y1, y2, y3, rfl⟩ : ∃ y0 y1 y2 y3, xs = [y0, y1, y2, y3] := by
    match xs, hlen with
    | [a, b, c, d], _ => exact ⟨a, b, c, d, rfl⟩
  match cs, hl with
  | [v0, v1, v2, v3], _ =>
    have h0 : DataW.trod enc Tryd.prog W 0 (fun _ => true) true n 3 (([v0, v1, v2, v3].drop 0).take (Tryd.prog.cellsOf 3)) = some y0 := hf 0 _ rfl
    have h1 : DataW.trod enc Tryd.prog W 0 (fun _ => true) true n 9 (([v0, v1, v2, v3].drop 1).take (Tryd.prog.cellsOf 9)) = some y1 := hf 1 _ rfl
    have h2 : DataW.trod enc Tryd.prog W 0 (fun _ => true) true n 4 (([v0, v1, v2, v3].drop 2).take (Tryd.prog.cellsOf 4)) = some y2 := hf 2 _ rfl
    have h3 : DataW.trod enc Tryd.prog W 0 (fun _ => true) true n 3 (([v0, v1, v2, v3].drop 3).take (Tryd.prog.cellsOf 3)) = some y3 := hf 3 _ rfl
    rw [ci] at h0 h3
    rw [cs1] at h1
    rw [cb] at h2
    have hw : ∀ k, (k ∈ y1.1.weights Tryd.prog 9) → k ≤ reachBytes := fun k hk => hsz k (by
      rw [hxx]
      simp only [DataW.weights, Tryd.underlying54, List.map_cons, List.map_nil, DataW.weightsEach, List.mem_append]
      exact .inr (.inl hk))
    obtain ⟨z0, e0, -, w0⟩ := DataW.trod_int Tryd.underlying3 h0
    obtain ⟨s1, e1, l1⟩ := open_strF h1 (fun k hk => hw k hk)
    obtain ⟨b2, e2, -⟩ := DataW.trod_bool Tryd.underlying4 h2
    obtain ⟨z3, e3, -, w3⟩ := DataW.trod_int Tryd.underlying3 h3
    simp at e0 e1 e2 e3
    subst e0 e1 e2 e3
    exact ⟨⟨z0, s1, b2, z3⟩, rfl, ⟨wrap_wfK w0, wrap_wfK w3, l1⟩⟩
end Go.Proofs.YtgeacocdnenhdaaDoor
