/-
  What other texts lean on: RtModel, RtName, RtScope, RtOps, KitRules, RtRef, RtCheck, RtRules, RtAllowed, RtNarrow, RtRefN, RtWorks, RtOpen.
-/
import Derived.Test.YtkfkdomjjepmdaaPkA
import Derived.Test.YtkfkdomjjepmdaaPkZ
import Derived.Test.YtkfkdomjjepmdaaPkM
import Derived.Lib.Strings
import Derived.LoopTactic
import Derived.Shelf.Strings.Prefix
import Derived.IntWalk
import Derived.Deep.Cut
import Derived.BigQuiet
import Derived.Deep.QuietTactic
/-
  Names, rights, grants and rules as plain data.
-/
namespace Go.Proofs.Ytkfkdomjjepmdaa
open Go.RowKit
/-- A number has the rights of another one. -/
def hasZ (a b : Int) : Bool := decide (BitVec.ofInt 64 a &&& BitVec.ofInt 64 b = BitVec.ofInt 64 b)
theorem ofInt_inj64 {a b : Int} (ha : wrap64 a = a) (hb : wrap64 b = b) (h : BitVec.ofInt 64 a = BitVec.ofInt 64 b) : a = b := by
  have h1 := congrArg BitVec.toNat h
  rw [BitVec.toNat_ofInt, BitVec.toNat_ofInt] at h1
  unfold wrap64 at ha hb
  omega
theorem wrap_of_toNat (v : BitVec 64) : BitVec.ofInt 64 (wrap64 (v.toNat : Int)) = v := by
  apply BitVec.eq_of_toNat_eq
  rw [BitVec.toNat_ofInt]
  have := v.isLt
  unfold wrap64
  omega
theorem wrap_wrap (z : Int) : wrap64 (wrap64 z) = wrap64 z := by
  unfold wrap64
  omega
/-- The program's test: a & b == b. -/
theorem has_and {a b : Int} (hb : wrap64 b = b) : decide (wrap64 ((BitVec.ofInt 64 a &&& BitVec.ofInt 64 b).toNat : Int) = b) = hasZ a b := by
  unfold hasZ
  apply decide_eq_decide.2
  refine ⟨fun h => ?_, fun h => ?_⟩
  · have h1 := congrArg (BitVec.ofInt 64) h
    rw [wrap_of_toNat] at h1
    exact h1
  · rw [h]
    exact ofInt_inj64 (wrap_wrap _) hb (wrap_of_toNat _)
theorem and_or {x y : BitVec 64} : (x &&& y = y) ↔ (x ||| y = x) := by
  refine ⟨fun h => ?_, fun h => ?_⟩
  · rw [← h]
    apply BitVec.eq_of_getElem_eq
    intro i hi
    rw [BitVec.getElem_or, BitVec.getElem_and]
    cases x[i] <;> simp
  · rw [← h]
    apply BitVec.eq_of_getElem_eq
    intro i hi
    rw [BitVec.getElem_and, BitVec.getElem_or]
    cases y[i] <;> simp
/-- The document's test: a | b == a. -/
theorem has_or {a b : Int} (ha : wrap64 a = a) : decide (wrap64 ((BitVec.ofInt 64 a ||| BitVec.ofInt 64 b).toNat : Int) = a) = hasZ a b := by
  unfold hasZ
  apply decide_eq_decide.2
  rw [and_or]
  refine ⟨fun h => ?_, fun h => ?_⟩
  · have h1 := congrArg (BitVec.ofInt 64) h
    rw [wrap_of_toNat] at h1
    exact h1
  · rw [h]
    exact ofInt_inj64 (wrap_wrap _) ha (wrap_of_toNat _)
theorem and_and {x y z : BitVec 64} (h1 : x &&& y = y) (h2 : y &&& z = z) : x &&& z = z := by
  rw [← h2, ← BitVec.and_assoc, h1]
theorem hasZ_trans {a b c : Int} (h1 : hasZ a b = true) (h2 : hasZ b c = true) : hasZ a c = true := by
  unfold hasZ at *
  simp only [decide_eq_true_eq] at *
  exact and_and h1 h2
theorem hasZ_refl (a : Int) : hasZ a a = true := by unfold hasZ; simp
/-- Bytes of a name. -/
def smallC (c : UInt8) : Bool := decide (97 ≤ (c.toNat : Int) ∧ (c.toNat : Int) ≤ 122)
def nameC (c : UInt8) : Bool := smallC c || (decide (48 ≤ (c.toNat : Int) ∧ (c.toNat : Int) ≤ 57) || (decide ((c.toNat : Int) = 45) || decide ((c.toNat : Int) = 46)))
def headC (l : List UInt8) : Bool := match l with | [] => false | c :: _ => smallC c
def nameL (l : List UInt8) : Bool := headC l && (l.all nameC && decide (l.length ≤ 24))
def nameS (s : ByteArray) : Bool := nameL s.data.toList
/-- A text begins with another one. -/
def begS (s p : ByteArray) : Bool := Lib.hasPrefix s.data.toList p.data.toList
theorem begS_iff {s p : ByteArray} : begS s p = true ↔ p.data.toList <+: s.data.toList := by
  unfold begS Lib.hasPrefix
  exact List.isPrefixOf_iff_prefix
theorem begS_trans {a b c : ByteArray} (h1 : begS a b = true) (h2 : begS b c = true) : begS a c = true :=
  begS_iff.2 ((begS_iff.1 h2).trans (begS_iff.1 h1))
theorem begS_refl (a : ByteArray) : begS a a = true := begS_iff.2 (List.prefix_refl _)
theorem bytes_ext {a b : ByteArray} (h : a.data.toList = b.data.toList) : a = b := by
  cases a; cases b; simp at h; rw [h]
theorem begS_antisymm {a b : ByteArray} (h1 : begS a b = true) (h2 : begS b a = true) : a = b := by
  have e1 := begS_iff.1 h1
  have e2 := begS_iff.1 h2
  exact bytes_ext (e2.eq_of_length_le e1.length_le)
theorem begS_empty (a : ByteArray) : begS a ⟨#[]⟩ = true := begS_iff.2 (List.nil_prefix)
theorem begS_of_empty {a : ByteArray} (h : begS ⟨#[]⟩ a = true) : a = ⟨#[]⟩ := begS_antisymm (begS_empty _) h
/-- A grant. -/
structure GrantM where
  rights : Int
  pre : ByteArray
  exact : Bool
  till : Int
instance : Inhabited GrantM := ⟨⟨0, ⟨#[]⟩, false, 0⟩⟩
def GrantM.cells (g : GrantM) : List Value := [.int .i64 g.rights, .string g.pre, .bool g.exact, .int .i64 g.till]
structure GrantM.Ok (g : GrantM) : Prop where
  rw : wrap64 g.rights = g.rights
  tw : wrap64 g.till = g.till
  ps : g.pre.size ≤ 140737488351232
/-- A scope holds another one. -/
def scopeM (p : ByteArray) (e : Bool) (q : ByteArray) (f : Bool) : Bool := if e = true then decide (q = p) && f else begS q p
def coversM (g : GrantM) (r : Int) (s : ByteArray) : Bool := hasZ g.rights r && scopeM g.pre g.exact s true
def wholeM (g : GrantM) : Bool := decide (g.pre = ⟨#[]⟩) && !g.exact
def tillM (a b : Int) : Bool := decide (a = 0) || (decide (1 ≤ b) && decide (b ≤ a))
def narrowM (a b : GrantM) : Bool := hasZ a.rights b.rights && (scopeM a.pre a.exact b.pre b.exact && tillM a.till b.till)
def preOk (s : ByteArray) : Bool := decide (s = ⟨#[]⟩) || nameS s
def checkM (g : GrantM) : Int :=
  if g.rights < 1 ∨ g.rights > 127 ∨ g.till < 0 ∨ g.till > 1099511627776 ∨ (g.exact = true ∧ g.pre = ⟨#[]⟩) then 1
  else if preOk g.pre = true then 0 else 10
/-- A rule. -/
structure RuleM where
  pre : ByteArray
  rights : Int
instance : Inhabited RuleM := ⟨⟨⟨#[]⟩, 0⟩⟩
def RuleM.cells (r : RuleM) : List Value := [.string r.pre, .int .i64 r.rights]
structure RuleM.Ok (r : RuleM) : Prop where
  rw : wrap64 r.rights = r.rights
  ps : r.pre.size ≤ 140737488351232
def checkRuleM (r : RuleM) : Int := if preOk r.pre = false then 10 else if r.rights < 0 ∨ r.rights > 127 then 1 else 0
def firstErr : List RuleM → Int
  | [] => 0
  | r :: l => if checkRuleM r = 0 then firstErr l else checkRuleM r
def checkRulesM (l : List RuleM) : Int := if l.length > 8 then 3 else firstErr l
/-- The rule that decides: the first of the longest ones with which the stream begins; its rights and its prefix' length (-1: none). -/
def stepM (s : ByteArray) (x : Int × Int) (r : RuleM) : Int × Int := if (r.pre.size : Int) > x.2 ∧ begS s r.pre = true then (r.rights, r.pre.size) else x
def bestM (l : List RuleM) (s : ByteArray) : Int × Int := l.foldl (stepM s) (-1, -1)
def allowedM (l : List RuleM) (r : Int) (s : ByteArray) : Bool := hasZ (bestM l s).1 r
theorem bestM_snoc (l : List RuleM) (r : RuleM) (s : ByteArray) : bestM (l ++ [r]) s = stepM s (bestM l s) r := by simp [bestM]
/- What is within gives less. -/
theorem scopeM_stream {p q s : ByteArray} {e f : Bool} (h : scopeM p e q f = true) (hs : scopeM q f s true = true) : scopeM p e s true = true := by
  unfold scopeM at *
  cases e <;> cases f <;> simp at h hs ⊢
  · exact begS_trans hs h
  · subst hs; exact h
  · subst hs; exact h
theorem scopeM_trans {p q s : ByteArray} {e f g : Bool} (h : scopeM p e q f = true) (hs : scopeM q f s g = true) : scopeM p e s g = true := by
  unfold scopeM at *
  cases e <;> cases f <;> simp at h hs ⊢
  · exact begS_trans hs h
  · rw [hs.1]; exact h
  · rw [hs.1]; exact ⟨h, hs.2⟩
theorem scopeM_refl (p : ByteArray) (e : Bool) : scopeM p e p e = true := by
  unfold scopeM
  cases e <;> simp [begS_refl]
theorem narrow_covers {a b : GrantM} (h : narrowM a b = true) (r : Int) (s : ByteArray) (hc : coversM b r s = true) : coversM a r s = true := by
  unfold narrowM at h
  unfold coversM at *
  simp only [Bool.and_eq_true] at *
  exact ⟨hasZ_trans h.1 hc.1, scopeM_stream h.2.1 hc.2⟩
theorem narrow_whole {a b : GrantM} (h : narrowM a b = true) (hw : wholeM b = true) : wholeM a = true := by
  unfold narrowM scopeM at h
  unfold wholeM at *
  simp only [Bool.and_eq_true, decide_eq_true_eq, Bool.not_eq_true'] at *
  obtain ⟨-, h, -⟩ := h
  obtain ⟨h1, h2⟩ := hw
  rw [h1, h2] at h
  cases he : a.exact
  · rw [he] at h
    simp at h
    exact ⟨begS_of_empty h, rfl⟩
  · rw [he] at h; simp at h
def lastsM (g : GrantM) (c : Int) : Bool := decide (g.till = 0) || decide (g.till ≥ c)
theorem narrow_lasts {a b : GrantM} (h : narrowM a b = true) (c : Int) (hl : lastsM b c = true) : lastsM a c = true := by
  unfold narrowM tillM at h
  unfold lastsM at *
  simp only [Bool.and_eq_true, Bool.or_eq_true, decide_eq_true_eq] at *
  omega
theorem narrow_trans {a b c : GrantM} (h1 : narrowM a b = true) (h2 : narrowM b c = true) : narrowM a c = true := by
  unfold narrowM at *
  simp only [Bool.and_eq_true] at *
  refine ⟨hasZ_trans h1.1 h2.1, scopeM_trans h1.2.1 h2.2.1, ?_⟩
  have e1 := h1.2.2
  have e2 := h2.2.2
  unfold tillM at *
  simp only [Bool.and_eq_true, Bool.or_eq_true, decide_eq_true_eq] at *
  omega
theorem narrow_self {a : GrantM} (h : checkM a = 0) : narrowM a a = true := by
  unfold narrowM
  rw [hasZ_refl, scopeM_refl]
  unfold checkM at h
  split at h
  · cases h
  · rename_i hn
    unfold tillM
    simp only [Bool.true_and, Bool.or_eq_true, Bool.and_eq_true, decide_eq_true_eq]
    omega
theorem narrow_both {a b : GrantM} (h1 : narrowM a b = true) (h2 : narrowM b a = true) (r : Int) (s : ByteArray) : coversM a r s = coversM b r s := by
  apply Bool.eq_iff_iff.2
  exact ⟨narrow_covers h2 r s, narrow_covers h1 r s⟩
end Go.Proofs.Ytkfkdomjjepmdaa

/-
  Names: the program's and the document's.
-/
namespace Go.Proofs.Ytkfkdomjjepmdaa
open Go.RowKit
theorem nameS_long {s : ByteArray} (h : 24 < s.size) : nameS s = false := by
  have h2 : ¬ s.data.toList.length ≤ 24 := by simpa using (show ¬ s.size ≤ 24 by omega)
  unfold nameS nameL
  rw [decide_eq_false h2]
  simp
theorem size_list (s : ByteArray) : s.data.toList.length = s.size := Array.length_toList
theorem get_list (s : ByteArray) (k : Nat) (h : k < s.size) : s.data.toList[k]'(by rw [size_list]; exact h) = s[k] := rfl
theorem headC_get (l : List UInt8) (h : 0 < l.length) : headC l = smallC l[0] := by
  cases l with
  | nil => simp at h
  | cons c l => rfl
theorem nameS_head {s : ByteArray} (h : 0 < s.size) (hc : smallC s[0] = false) : nameS s = false := by
  unfold nameS nameL
  rw [headC_get _ (by rw [size_list]; exact h), get_list s 0 h, hc]
  simp
theorem nameS_at {s : ByteArray} {k : Nat} (h : k < s.size) (hc : nameC s[k] = false) : nameS s = false := by
  unfold nameS nameL
  have h1 := get_list s k h
  have h2 : s.data.toList.all nameC = false := by
    rw [List.all_eq_false]
    exact ⟨s[k], by rw [← h1]; exact List.getElem_mem _, by rw [hc]; simp⟩
  rw [h2]; simp
theorem nameS_all {s : ByteArray} (h : 0 < s.size) (h2 : s.size ≤ 24) (hh : smallC s[0] = true) (hc : ∀ k (h : k < s.size), nameC s[k] = true) : nameS s = true := by
  unfold nameS nameL
  have e1 : headC s.data.toList = true := by
    rw [headC_get _ (by rw [size_list]; exact h), get_list s 0 h]
    exact hh
  have e2 : s.data.toList.all nameC = true := by
    rw [List.all_eq_true]
    intro x hx
    obtain ⟨k, hk, rfl⟩ := List.getElem_of_mem hx
    have := hc k (by rw [← size_list]; exact hk)
    rw [← get_list] at this
    exact this
  rw [e1, e2, size_list]
  simp [h2]
def ReturnsB (b : Bool) (w : World) (e : Ending) (w' : World) : Prop := e = .returned (.bool b) ∧ w = w'
theorem rtLetter_any (c : UInt8) (w : World) : Calls Try.prog 31 #[.int .u8 (c.toNat : Int)] w (ReturnsB (smallC c) w) := by
  by_cases h1 : 97 ≤ (c.toNat : Int) <;> by_cases h2 : (c.toNat : Int) ≤ 122
  all_goals
    go_enter Try.func31, Try.ntmps31
    go_wp2_with fail
    go_ret
    exact ⟨by simp [smallC, h1, h2], rfl⟩
theorem refLetter_any (c : UInt8) (w : World) : Calls Try.prog 33 #[.int .u8 (c.toNat : Int)] w (ReturnsB (smallC c) w) := by
  by_cases h1 : 97 ≤ (c.toNat : Int) <;> by_cases h2 : (c.toNat : Int) ≤ 122
  all_goals
    go_enter Try.func33, Try.ntmps33
    go_wp2_with fail
    go_ret
    exact ⟨by simp [smallC, h1, h2], rfl⟩
theorem rtInName_any (c : UInt8) (w : World) : Calls Try.prog 32 #[.int .u8 (c.toNat : Int)] w (ReturnsB (nameC c) w) := by
  by_cases h1 : 48 ≤ (c.toNat : Int) <;> cases hs : smallC c
  all_goals
    go_enter Try.func32, Try.ntmps32
    go_wp2_with fail
    refine (rtLetter_any c w).mono ?_
    rw [hs]
    rintro e w' ⟨rfl, rfl⟩
    go_wp2_with fail
    all_goals
      go_ret
      refine ⟨congrArg (fun b => Ending.returned (.bool b)) ?_, rfl⟩
      apply Bool.eq_iff_iff.2
      simp [nameC, hs]
      try omega
theorem list_ne {s : ByteArray} (hpos : 0 < s.size) : (s.toList == []) = false := by
  rw [Lib.toList_data, beq_eq_false_iff_ne]
  intro h
  have := size_list s
  rw [h] at this
  simp at this
  omega
theorem rtName_any (s : ByteArray) (w : World) (hlim : s.size ≤ 140737488351232) : Calls Try.prog 11 #[.string s] w (ReturnsB (nameS s) w) := by
  by_cases h0 : s.size = 0
  · obtain rfl : s = ⟨#[]⟩ := bytes_ext (List.length_eq_zero_iff.1 (by rw [size_list]; exact h0))
    go_enter Try.func11, Try.ntmps11
    go_wp2_with fail
    go_ret
    exact ⟨rfl, rfl⟩
  have hpos : 0 < s.size := by omega
  have hne2 := list_ne hpos
  have hne3 : ¬ s.toList = [] := by simpa using hne2
  by_cases hlong : 24 < s.size
  · have HB := Lib.hid (nameS_long hlong)
    go_enter Try.func11, Try.ntmps11
    go_wp2_with fail
    go_ret
    refine ⟨?_, rfl⟩
    rw [HB.out]
    rfl
  have hshort : s.size ≤ 24 := by omega
  cases hh : smallC s[0]
  · have HB := Lib.hid (nameS_head hpos hh)
    have HH := Lib.hid hh
    go_enter Try.func11, Try.ntmps11
    go_wp2_with fail
    refine (rtLetter_any s[0] w).mono ?_
    rw [HH.out]
    rintro e w' ⟨rfl, rfl⟩
    go_wp2_with fail
    go_ret
    refine ⟨?_, rfl⟩
    rw [HB.out]
    rfl
  have HH := Lib.hid hh
  go_enter Try.func11, Try.ntmps11
  go_wp2_with fail
  refine (rtLetter_any s[0] w).mono ?_
  rw [HH.out]
  rintro e w' ⟨rfl, rfl⟩
  go_wp2_with fail
  go_loop [19] (fun i => ∃ k : Nat, k ≤ s.size ∧ i = .int .i64 k ∧ ∀ j (h : j < s.size), j < k → nameC s[j] = true) (fun i => s.size - (intOf i).toNat)
  case atStart => exact ⟨0, Nat.zero_le _, rfl, fun j _ h => by omega⟩
  case round =>
    obtain ⟨k, hk, rfl, hall⟩ := hrel
    have HALL := Lib.hid hall
    clear hall
    by_cases hlt : k < s.size
    · cases hc : nameC s[k]
      · have HB := Lib.hid (nameS_at hlt hc)
        have HC := Lib.hid hc
        go_wp2_with fail
        refine (rtInName_any s[k] w).mono ?_
        rw [HC.out]
        rintro e w' ⟨rfl, rfl⟩
        go_wp2_with fail
        go_ret
        refine ⟨?_, rfl⟩
        rw [HB.out]
        rfl
      · have HC := Lib.hid hc
        go_wp2_with fail
        refine (rtInName_any s[k] w).mono ?_
        rw [HC.out]
        rintro e w' ⟨rfl, rfl⟩
        go_wp2_with fail
        go_round
        case rel => exact ⟨k + 1, by omega, by go_num, fun j h hj => by
          by_cases e : j = k
          · subst e; exact HC.out
          · exact HALL.out j h (by omega)⟩
        case measure => simp [intOf]; omega
    · have HB := Lib.hid (nameS_all hpos hshort HH.out (fun j h => HALL.out j h (by omega)))
      go_wp2_with fail
      go_ret
      refine ⟨?_, rfl⟩
      rw [HB.out]
      rfl
set_option maxHeartbeats 2000000 in
theorem refName_any (s : ByteArray) (w : World) (hlim : s.size ≤ 140737488351232) : Calls Try.prog 12 #[.string s] w (ReturnsB (nameS s) w) := by
  by_cases h0 : s.size < 1
  · obtain rfl : s = ⟨#[]⟩ := bytes_ext (List.length_eq_zero_iff.1 (by rw [size_list]; omega))
    go_enter Try.func12, Try.ntmps12
    go_wp2_with fail
    go_ret
    exact ⟨rfl, rfl⟩
  have hpos : 0 < s.size := by omega
  by_cases hlong : 24 < s.size
  · have HB := Lib.hid (nameS_long hlong)
    go_enter Try.func12, Try.ntmps12
    go_wp2_with fail
    go_ret
    refine ⟨?_, rfl⟩
    rw [HB.out]
    rfl
  have hshort : s.size ≤ 24 := by omega
  cases hh : smallC s[0]
  · have HB := Lib.hid (nameS_head hpos hh)
    have HH := Lib.hid hh
    go_enter Try.func12, Try.ntmps12
    go_wp2_with fail
    refine (refLetter_any s[0] w).mono ?_
    rw [HH.out]
    rintro e w' ⟨rfl, rfl⟩
    go_wp2_with fail
    go_ret
    refine ⟨?_, rfl⟩
    rw [HB.out]
    rfl
  have HH := Lib.hid hh
  go_enter Try.func12, Try.ntmps12
  go_wp2_with fail
  refine (refLetter_any s[0] w).mono ?_
  rw [HH.out]
  rintro e w' ⟨rfl, rfl⟩
  go_wp2_with fail
  go_loop [3] (fun i => ∃ k : Nat, k ≤ s.size ∧ i = .int .i64 k ∧ ∀ j (h : j < s.size), j < k → nameC s[j] = true) (fun i => s.size - (intOf i).toNat)
  case atStart => exact ⟨0, Nat.zero_le _, rfl, fun j _ h => by omega⟩
  case round =>
    obtain ⟨k, hk, rfl, hall⟩ := hrel
    have HALL := Lib.hid hall
    clear hall
    by_cases hlt : k < s.size
    · have HC := Lib.hid (show nameC s[k] = nameC s[k] from rfl)
      cases hc : smallC s[k]
      · have HF := Lib.hid (show nameC s[k] = (decide (48 ≤ (s[k].toNat : Int) ∧ (s[k].toNat : Int) ≤ 57) || (decide ((s[k].toNat : Int) = 45) || decide ((s[k].toNat : Int) = 46))) by unfold nameC; rw [hc]; rfl)
        have HS := Lib.hid hc
        have HN := Lib.hid (fun h => nameS_at hlt h)
        have hcs : (((s[k].toNat : Int) = 45 ∧ ((s[k].toNat : Int) != 45) = false) ∨ (((s[k].toNat : Int) = 46 ∧ ¬ (s[k].toNat : Int) = 45) ∧ ((s[k].toNat : Int) != 46) = false ∧ ((s[k].toNat : Int) != 45) = true)) ∨ (¬ (s[k].toNat : Int) < 48 ∧ ¬ (s[k].toNat : Int) > 57) ∨ ((s[k].toNat : Int) < 48 ∧ ((s[k].toNat : Int) != 45) = true ∧ ((s[k].toNat : Int) != 46) = true) ∨ (¬ (s[k].toNat : Int) < 48 ∧ (s[k].toNat : Int) > 57 ∧ ((s[k].toNat : Int) != 45) = true ∧ ((s[k].toNat : Int) != 46) = true) := by
          simp only [bne_iff_ne, ne_eq, bne_eq_false_iff_eq]
          omega
        have HQ : Hid (((s[k].toNat : Int) = 45) ∨ (s[k].toNat : Int) = 46 ∨ (¬ (s[k].toNat : Int) < 48 ∧ ¬ (s[k].toNat : Int) > 57) ∨ True) := show _ ∨ _ from .inr (.inr (.inr trivial))
        clear HC hc HQ
        rcases hcs with (⟨h1, h2⟩ | ⟨⟨h1, h4⟩, h2, h3⟩) | ⟨h1, h2⟩ | ⟨h1, h2, h3⟩ | ⟨h1, h2, h3, h4⟩
        case inr.inr.inl =>
          have HB : Hid (nameC s[k] = false) := show _ = _ from by rw [HF.out]; simp at h2 h3 ⊢; omega
          go_wp2_with fail
          refine (refLetter_any s[k] w).mono ?_
          rw [HS.out]
          rintro e w' ⟨rfl, rfl⟩
          go_wp2_with fail
          go_ret
          refine ⟨?_, rfl⟩
          rw [HN.out HB.out]
          rfl
        case inr.inr.inr =>
          have HB : Hid (nameC s[k] = false) := show _ = _ from by rw [HF.out]; simp at h3 h4 ⊢; omega
          go_wp2_with fail
          refine (refLetter_any s[k] w).mono ?_
          rw [HS.out]
          rintro e w' ⟨rfl, rfl⟩
          go_wp2_with fail
          go_ret
          refine ⟨?_, rfl⟩
          rw [HN.out HB.out]
          rfl
        case inl.inl | inl.inr =>
          have HB : Hid (nameC s[k] = true) := show _ = _ from by rw [HF.out]; simp; omega
          have HREL : Hid (∀ j (h : j < s.size), j < k + 1 → nameC s[j] = true) := show ∀ _ _, _ → _ from fun j h hj => by
            by_cases e : j = k
            · subst e; exact HB.out
            · exact HALL.out j h (by omega)
          clear h1
          try clear h4
          go_wp2_with fail
          refine (refLetter_any s[k] w).mono ?_
          rw [HS.out]
          rintro e w' ⟨rfl, rfl⟩
          go_wp2_with fail
          all_goals
            go_round
            case rel => exact ⟨k + 1, by omega, by go_num, HREL.out⟩
            case measure => simp [intOf]; omega
        case inr.inl =>
          have HB : Hid (nameC s[k] = true) := show _ = _ from by rw [HF.out]; simp; omega
          have HREL : Hid (∀ j (h : j < s.size), j < k + 1 → nameC s[j] = true) := show ∀ _ _, _ → _ from fun j h hj => by
            by_cases e : j = k
            · subst e; exact HB.out
            · exact HALL.out j h (by omega)
          go_wp2_with fail
          refine (refLetter_any s[k] w).mono ?_
          rw [HS.out]
          rintro e w' ⟨rfl, rfl⟩
          go_wp2_with fail
          go_round
          case rel => exact ⟨k + 1, by omega, by go_num, HREL.out⟩
          case measure => simp [intOf]; omega
      · have HS := Lib.hid hc
        have HF := Lib.hid (show nameC s[k] = true by unfold nameC; rw [hc]; rfl)
        go_wp2_with fail
        refine (refLetter_any s[k] w).mono ?_
        rw [HS.out]
        rintro e w' ⟨rfl, rfl⟩
        go_wp2_with fail
        go_round
        case rel => exact ⟨k + 1, by omega, by go_num, fun j h hj => by
          by_cases e : j = k
          · subst e; exact HF.out
          · exact HALL.out j h (by omega)⟩
        case measure => simp [intOf]; omega
    · have HB := Lib.hid (nameS_all hpos hshort HH.out (fun j h => HALL.out j h (by omega)))
      go_wp2_with fail
      go_ret
      refine ⟨?_, rfl⟩
      rw [HB.out]
      rfl
theorem preOk_ne {s : ByteArray} (h : 0 < s.size) : preOk s = nameS s := by
  unfold preOk
  rw [decide_eq_false (fun e => by rw [e] at h; exact absurd h (by decide))]
  rfl
theorem rtPre_any (s : ByteArray) (w : World) (hlim : s.size ≤ 140737488351232) : Calls Try.prog 34 #[.string s] w (ReturnsB (preOk s) w) := by
  by_cases h0 : s.size = 0
  · obtain rfl : s = ⟨#[]⟩ := bytes_ext (List.length_eq_zero_iff.1 (by rw [size_list]; exact h0))
    go_enter Try.func34, Try.ntmps34
    go_wp2_with fail
    go_ret
    exact ⟨rfl, rfl⟩
  have hpos : 0 < s.size := by omega
  have HB := Lib.hid (preOk_ne hpos)
  have hne2 := list_ne hpos
  have hne3 : ¬ s.toList = [] := by simpa using hne2
  go_enter Try.func34, Try.ntmps34
  go_wp2_with fail
  refine (rtName_any s w hlim).mono ?_
  rintro e w' ⟨rfl, rfl⟩
  go_wp2_with fail
  go_ret
  refine ⟨?_, rfl⟩
  rw [HB.out]
  rfl
theorem refPre_any (s : ByteArray) (w : World) (hlim : s.size ≤ 140737488351232) : Calls Try.prog 35 #[.string s] w (ReturnsB (preOk s) w) := by
  by_cases h0 : s.size = 0
  · obtain rfl : s = ⟨#[]⟩ := bytes_ext (List.length_eq_zero_iff.1 (by rw [size_list]; exact h0))
    go_enter Try.func35, Try.ntmps35
    go_wp2_with fail
    go_ret
    exact ⟨rfl, rfl⟩
  have hpos : 0 < s.size := by omega
  have HB := Lib.hid (preOk_ne hpos)
  have hne2 := list_ne hpos
  have hne3 : ¬ s.toList = [] := by simpa using hne2
  go_enter Try.func35, Try.ntmps35
  go_wp2_with fail
  refine (refName_any s w hlim).mono ?_
  rintro e w' ⟨rfl, rfl⟩
  go_wp2_with fail
  go_ret
  refine ⟨?_, rfl⟩
  rw [HB.out]
  rfl
end Go.Proofs.Ytkfkdomjjepmdaa

/-
  Rights, scopes and times: the program's.
-/
namespace Go.Proofs.Ytkfkdomjjepmdaa
open Go.RowKit Go.Shelf
def ReturnsG (b : Bool) (w : World) (e : Ending) (w' : World) : Prop := e = .returned (.bool b) ∧ Below w.heap.size w w'
def prefixRen : Ren := ⟨fun n => if n = 206 then 46 else 44, fun t => t, fun g => g⟩
theorem prefix_lays : Lays.n99 Try.prog prefixRen := by
  constructor
  all_goals first | kernel_rfl | (intro w; kernel_rfl)
theorem hasPrefix_any (s p : ByteArray) (w : World) : Calls Try.prog 44 #[.string s, .string p] w (ReturnsB (begS s p) w) :=
  (Any.strings_HasPrefix prefix_lays s p w).mono fun _ _ ⟨h1, h2⟩ => ⟨h1, h2.symm⟩
theorem bits_and {a b : Int} (hb : wrap64 b = b) : (bits BinOp.and IntKind.i64 a b == b) = hasZ a b := by
  rw [← has_and hb]
  show (IntKind.i64.wrap ((BitVec.ofInt 64 a &&& BitVec.ofInt 64 b).toNat : Int) == b) = _
  rw [IntWalk.i64_left]
  generalize wrap64 _ = z
  apply Bool.eq_iff_iff.2
  simp
theorem bits_or {a b : Int} (ha : wrap64 a = a) : (bits BinOp.or IntKind.i64 a b == a) = hasZ a b := by
  rw [← has_or ha]
  show (IntKind.i64.wrap ((BitVec.ofInt 64 a ||| BitVec.ofInt 64 b).toNat : Int) == a) = _
  rw [IntWalk.i64_left]
  generalize wrap64 _ = z
  apply Bool.eq_iff_iff.2
  simp
theorem has_any (a b : Int) (w : World) (hb : wrap64 b = b) : Calls Try.prog 36 #[.int .i64 a, .int .i64 b] w (ReturnsB (hasZ a b) w) := by
  have HB := Lib.hid (bits_and (a := a) hb)
  clear hb
  go_enter Try.func36, Try.ntmps36
  go_wp2_with fail
  rw [HB.out]
  go_ret
  exact ⟨rfl, rfl⟩
theorem refHas_any (a b : Int) (w : World) (ha : wrap64 a = a) : Calls Try.prog 39 #[.int .i64 a, .int .i64 b] w (ReturnsB (hasZ a b) w) := by
  have HB := Lib.hid (bits_or (b := b) ha)
  clear ha
  go_enter Try.func39, Try.ntmps39
  go_wp2_with fail
  rw [HB.out]
  go_ret
  exact ⟨rfl, rfl⟩
theorem boxBelow (w : World) (o : Obj) : Below w.heap.size w (w.alloc o) := (Below.refl _ _).alloc (Nat.le_refl _) _
theorem toList_nil {p : ByteArray} : (p.toList = []) ↔ p = ⟨#[]⟩ := by
  rw [Lib.toList_data]
  exact ⟨fun h => bytes_ext (b := ⟨#[]⟩) (show _ = _ from h), fun h => by rw [h]⟩
theorem two_boxes (w : World) (o u : Obj) : Below w.heap.size w ((w.alloc o).alloc u) := ((Below.refl _ _).alloc (Nat.le_refl _) _).alloc (by simp) _
theorem scopeOf_any (g : GrantM) (w : World) : Calls Try.prog 37 #[.agg g.cells.toArray] w fun e w' => e = .returned (.agg #[.string g.pre, .bool g.exact]) ∧ Below w.heap.size w w' := by
  obtain ⟨r, p, x, t⟩ := g
  simp only [GrantM.cells]
  go_enter Try.func37, Try.ntmps37
  go_wp2_with fail
  exact bodyPost_ret (v := .agg #[.string p, .bool x]) (by simp [results, Try.results37, go_sem]) rfl ⟨rfl, two_boxes _ _ _⟩
theorem toList_eq {p q : ByteArray} : (q.toList = p.toList) ↔ q = p := by
  rw [Lib.toList_data, Lib.toList_data]
  exact ⟨bytes_ext, fun h => by rw [h]⟩
theorem contains_any (p : ByteArray) (x : Bool) (q : ByteArray) (y : Bool) (w : World) : Calls Try.prog 38 #[.agg #[.string p, .bool x], .agg #[.string q, .bool y]] w (ReturnsG (scopeM p x q y) w) := by
  cases x
  · go_enter Try.func38, Try.ntmps38
    go_wp2_with fail
    refine (hasPrefix_any q p _).mono ?_
    rintro e w' ⟨rfl, rfl⟩
    go_wp2_with fail
    go_ret
    exact ⟨rfl, two_boxes _ _ _⟩
  · go_enter Try.func38, Try.ntmps38
    go_wp2_with fail
    all_goals
      go_ret
      refine ⟨congrArg (fun b => Ending.returned (.bool b)) ?_, two_boxes _ _ _⟩
      apply Bool.eq_iff_iff.2
      simp_all [scopeM, toList_eq]
theorem ends_any (a b : Int) (w : World) : Calls Try.prog 41 #[.int .i64 a, .int .i64 b] w (ReturnsB (tillM a b) w) := by
  by_cases h1 : a = 0
  · subst h1
    go_enter Try.func41, Try.ntmps41
    go_wp2_with fail
    go_ret
    exact ⟨rfl, rfl⟩
  · by_cases h2 : 1 ≤ b <;> by_cases h3 : b ≤ a
    all_goals
      go_enter Try.func41, Try.ntmps41
      go_wp2_with fail
      go_ret
      refine ⟨congrArg (fun b => Ending.returned (.bool b)) ?_, rfl⟩
      apply Bool.eq_iff_iff.2
      simp [tillM]
      try omega
theorem covers_any (g : GrantM) (r : Int) (s : ByteArray) (w : World) (hr : wrap64 r = r) : Calls Try.prog 15 #[.agg g.cells.toArray, .int .i64 r, .string s] w (ReturnsG (coversM g r s) w) := by
  have HS : Hid (∀ w', Below w.heap.size w w' → Calls Try.prog 37 #[.agg g.cells.toArray] w' fun e w'' => e = .returned (.agg #[.string g.pre, .bool g.exact]) ∧ Below w.heap.size w w'') := show ∀ _, _ → _ from fun w' hb => (scopeOf_any g w').mono fun _ _ ⟨h1, h2⟩ => ⟨h1, hb.trans (h2.mono hb.size)⟩
  have HP := Lib.hid (show coversM g r s = (hasZ g.rights r && scopeM g.pre g.exact s true) from rfl)
  obtain ⟨a, p, x, t⟩ := g
  simp only [GrantM.cells] at HS HP ⊢
  have HR := Lib.hid hr
  clear hr
  cases hz : hasZ a r
  · have HZ := Lib.hid hz
    go_enter Try.func15, Try.ntmps15
    go_wp2_with fail
    refine (has_any a r _ HR.out).mono ?_
    rw [HZ.out]
    rintro e w' ⟨rfl, rfl⟩
    go_wp2_with fail
    go_ret
    refine ⟨?_, boxBelow _ _⟩
    rw [HP.out, HZ.out]
    rfl
  · have HZ := Lib.hid hz
    go_enter Try.func15, Try.ntmps15
    go_wp2_with fail
    refine (has_any a r _ HR.out).mono ?_
    rw [HZ.out]
    rintro e w' ⟨rfl, rfl⟩
    go_wp2_with fail
    refine (HS.out _ (boxBelow _ _)).mono ?_
    rintro e w1 ⟨rfl, hb1⟩
    have HB1 := Lib.hid hb1
    clear hb1
    go_wp2_with fail
    refine (contains_any p x s true w1).mono ?_
    rintro e w2 ⟨rfl, hb2⟩
    have HB2 := Lib.hid (HB1.out.trans (hb2.mono HB1.out.size))
    clear hb2
    go_wp2_with fail
    go_ret
    refine ⟨?_, HB2.out⟩
    rw [HP.out, HZ.out]
    rfl
theorem whole_any (g : GrantM) (w : World) : Calls Try.prog 17 #[.agg g.cells.toArray] w (ReturnsG (wholeM g) w) := by
  have HS : Hid (∀ w', Below w.heap.size w w' → Calls Try.prog 37 #[.agg g.cells.toArray] w' fun e w'' => e = .returned (.agg #[.string g.pre, .bool g.exact]) ∧ Below w.heap.size w w'') := show ∀ _, _ → _ from fun w' hb => (scopeOf_any g w').mono fun _ _ ⟨h1, h2⟩ => ⟨h1, hb.trans (h2.mono hb.size)⟩
  obtain ⟨a, p, x, t⟩ := g
  simp only [GrantM.cells] at HS ⊢
  go_enter Try.func17, Try.ntmps17
  go_wp2_with fail
  refine (HS.out _ (boxBelow _ _)).mono ?_
  rintro e w1 ⟨rfl, hb1⟩
  have HB1 := Lib.hid hb1
  clear hb1
  go_wp2_with fail
  all_goals
    go_ret
    refine ⟨congrArg (fun b => Ending.returned (.bool b)) ?_, HB1.out⟩
    apply Bool.eq_iff_iff.2
    simp_all [wholeM, toList_nil]
end Go.Proofs.Ytkfkdomjjepmdaa

/-
  Steps of a region over a grant that lies in a block of its own: loads, comparisons, what is not wanted.
-/
namespace Go.Proofs.Ytkfkdomjjepmdaa
open Go.RowKit
theorem quietG {f : FuncId} {args : Array Value} {b : Bool} {w : World} (h : Calls Try.prog f args w (ReturnsB b w)) : Calls Try.prog f args w (ReturnsG b w) :=
  h.mono fun _ _ ⟨h1, h2⟩ => ⟨h1, h2 ▸ Below.refl _ _⟩
section
variable {ops : Array Oper} {ρ : Operand → Value} {o : Oper} {x y : Operand} {w : World} {a : Act}
theorem w_notFG {j : Nat} {dj : Tmp} {oj : Oper} (hg : o.guard = some (j, false)) (hj : ops[j]? = some oj) (hd : oj.dst = some dj) (he : a.eval (.tmp dj) = .bool true) : Region.wanted o (yielded ops a.tmps) = false := by
  have h2 := tmp_at he
  unfold Region.wanted
  rw [hg]
  simp only [yielded, hj, Option.bind_some, hd, h2]
  rfl
theorem w_undef {j : Nat} {dj : Tmp} {oj : Oper} {want : Bool} (hg : o.guard = some (j, want)) (hj : ops[j]? = some oj) (hd : oj.dst = some dj) (he : a.eval (.tmp dj) = undef) : Region.wanted o (yielded ops a.tmps) = false := by
  have h3 : a.tmps.getD dj undef = undef := he
  have h2 : yielded ops a.tmps j = none := by
    unfold yielded
    rw [hj, Option.bind_some, hd, Option.bind_some]
    rw [Array.getD_eq_getD_getElem?] at h3
    cases h4 : a.tmps[dj]? with
    | none => rfl
    | some u => rw [h4] at h3; simp at h3; rw [h3]; rfl
  unfold Region.wanted
  rw [hg]
  simp only [h2]
  cases want <;> rfl
theorem run_loadBlk {T : Nat} {ty tb : TypeId} {C : Array Value} (ho : o.op = .load ty x) (hx : ρ x = .pointer (some ⟨T, 0, none⟩)) (hg : w.heap[T]? = some (.cells C tb (0, 0))) (hu : (match Try.prog.underlying ty with | some (.array _ _) | some (.struct _) => true | _ => false) = true) (hi : (Try.prog.info? ty).map (·.size) = some C.size) :
    (execOp ρ o).run Try.prog w = .ok (.value (.agg C)) w := by
  cases hd : Try.prog.underlying ty with
  | none => rw [hd] at hu; cases hu
  | some d =>
    have h := run_loadAt_mid (P := Try.prog) w T 0 ty C.toList d (fun j v hv => by rw [Nat.zero_add, cell_of_row w T j _ _ _ hg]; simpa using hv) hd (by rw [hd] at hu; cases d <;> first | rfl | cases hu) (by rw [Array.length_toList]; exact hi)
    rw [Array.toArray_toList] at h
    unfold execOp
    simp only [ho, hx, Sem.run_bind, h, Result.andThen_ok, Sem.run_pure]
theorem run_loadStr {T k : Nat} {s : ByteArray} (ho : o.op = .load 9 x) (hx : ρ x = .pointer (some ⟨T, k, none⟩)) (hc : w.cell? ⟨T, k, none⟩ = some (.string s)) : (execOp ρ o).run Try.prog w = .ok (.value (.string s)) w := by
  obtain ⟨dst, op, ty', pos, after, guard⟩ := o
  simp only at ho
  subst ho
  go_simp
theorem run_loadInt {T k : Nat} {z : Int} (ho : o.op = .load 3 x) (hx : ρ x = .pointer (some ⟨T, k, none⟩)) (hc : w.cell? ⟨T, k, none⟩ = some (.int .i64 z)) : (execOp ρ o).run Try.prog w = .ok (.value (.int .i64 z)) w := by
  obtain ⟨dst, op, ty', pos, after, guard⟩ := o
  simp only at ho
  subst ho
  go_simp
theorem r_neB {b : Bool} {ty : TypeId} (ho : o.op = .binOp .neq 4 x y ty) (hx : ρ x = .bool b) (hy : ρ y = .bool b) (w : World) : (execOp ρ o).run Try.prog w = .ok (.value (.bool false)) w := by
  obtain ⟨dst, op, ty', pos, after, guard⟩ := o
  simp only at ho
  subst ho
  cases b <;> go_simp <;> rfl
theorem r_eqB {b : Bool} {ty : TypeId} (ho : o.op = .binOp .eql 4 x y ty) (hx : ρ x = .bool b) (hy : ρ y = .bool b) (w : World) : (execOp ρ o).run Try.prog w = .ok (.value (.bool true)) w := by
  obtain ⟨dst, op, ty', pos, after, guard⟩ := o
  simp only at ho
  subst ho
  cases b <;> go_simp <;> rfl
theorem r_neE {n : Int} {ty : TypeId} (ho : o.op = .binOp .neq 26 x y ty) (hx : ρ x = .int .i64 n) (hy : ρ y = .int .i64 n) (w : World) : (execOp ρ o).run Try.prog w = .ok (.value (.bool false)) w := by
  obtain ⟨dst, op, ty', pos, after, guard⟩ := o
  simp only at ho
  subst ho
  go_simp
theorem r_notT {ty : TypeId} (ho : o.op = .unOp .not ty x) (hx : ρ x = .bool true) (w : World) : (execOp ρ o).run Try.prog w = .ok (.value (.bool false)) w := r_not ho hx w
theorem r_notF {ty : TypeId} (ho : o.op = .unOp .not ty x) (hx : ρ x = .bool false) (w : World) : (execOp ρ o).run Try.prog w = .ok (.value (.bool true)) w := r_not ho hx w
end
theorem size_grant (g : GrantM) : (Try.prog.info? 23).map (·.size) = some g.cells.toArray.size := show _ = some 4 by kernel_rfl
/-- A grant in a block. -/
def GrantAt (w : World) (T : Nat) (g : GrantM) : Prop := w.heap[T]? = some (.cells g.cells.toArray 23 (0, 0))
theorem GrantAt.cell {w : World} {T : Nat} {g : GrantM} (h : GrantAt w T g) (k : Nat) : w.cell? ⟨T, k, none⟩ = g.cells[k]? := by
  rw [cell_of_row w T k _ _ _ h]; simp
theorem GrantAt.c0 {w : World} {T : Nat} {g : GrantM} (h : GrantAt w T g) : w.cell? ⟨T, 0, none⟩ = some (.int .i64 g.rights) := h.cell 0
theorem GrantAt.c1 {w : World} {T : Nat} {g : GrantM} (h : GrantAt w T g) : w.cell? ⟨T, 1, none⟩ = some (.string g.pre) := h.cell 1
theorem GrantAt.c2 {w : World} {T : Nat} {g : GrantM} (h : GrantAt w T g) : w.cell? ⟨T, 2, none⟩ = some (.bool g.exact) := h.cell 2
theorem GrantAt.c3 {w : World} {T : Nat} {g : GrantM} (h : GrantAt w T g) : w.cell? ⟨T, 3, none⟩ = some (.int .i64 g.till) := h.cell 3
theorem GrantAt.below {w w' : World} {T B : Nat} {g : GrantM} (h : GrantAt w T g) (hb : Below B w w') (hT : T < B) : GrantAt w' T g := (hb.block T hT).trans h
/-- Two grants in blocks. -/
structure Gr2 (A B : Nat) (a b : GrantM) (W w : World) : Prop where
  one : GrantAt w A a
  two : GrantAt w B b
  below : Below W.heap.size W w
theorem Gr2.boxes {a b : GrantM} {ca cb : Array Value} (w : World) (ha : a.cells.toArray = ca) (hb : b.cells.toArray = cb) : Gr2 w.heap.size (w.heap.size + 1) a b w ((w.alloc (.cells ca 23)).alloc (.cells cb 23)) := by
  subst ha hb
  refine ⟨?_, ?_, two_boxes _ _ _⟩
  · unfold GrantAt
    rw [(MapKept.heap_alloc _ _).2 _ (by simp)]
    exact heap_alloc_new _ _
  · have := heap_alloc_new (w.alloc (.cells a.cells.toArray 23)) (.cells b.cells.toArray 23)
    unfold GrantAt
    simpa using this
theorem Gr2.step {A B : Nat} {a b : GrantM} {W w w' : World} (h : Gr2 A B a b W w) (hb : Below w.heap.size w w') : Gr2 A B a b W w' :=
  ⟨h.one.below hb (Array.getElem?_eq_some_iff.1 h.one).1, h.two.below hb (Array.getElem?_eq_some_iff.1 h.two).1, h.below.trans (hb.mono h.below.size)⟩
end Go.Proofs.Ytkfkdomjjepmdaa

/-
  The kit's functions on lists of rules: copied, lent with marks behind, compared, kept (gen_kitrows.py).
-/
namespace Go.Proofs.Ytkfkdomjjepmdaa
open Go.RowKit Go.Proofs.ShaWords
theorem ruleT : ElemT 34 32 2 24 where
  sl := Try.underlying32
  info := elemInfo (by kernel_rfl) (by kernel_rfl)
  pos := by decide
  few := by decide
theorem RuleM.len (x : RuleM) : x.cells.length = 2 := rfl
theorem RuleM.ones (x : RuleM) : ∀ u ∈ x.cells, u.oneCell' = true := by
  intro u hu
  simp only [RuleM.cells, List.mem_cons, List.not_mem_nil, or_false] at hu
  rcases hu with rfl | rfl <;> rfl
abbrev OwnRules (B : Nat) (w : World) (l : List RuleM) (v : Value) : Prop := OwnR 34 2 RuleM.cells B w l v
abbrev RulesAt (w : World) (a : Option Addr) (l : List RuleM) : Prop := RowOf 2 RuleM.cells w a l

set_option maxHeartbeats 1000000 in
theorem copyRules_any (l : List RuleM) (n : Nat) (p : Option Addr) (cap : Nat) (w : World) (hln : l.length = n) (hl : n < 1000000) (hL : RulesAt w p l) :
    Calls Try.prog 29 #[.slice p n cap] w fun e w' => ∃ v, e = .returned v ∧ OwnRules w.heap.size w' l v ∧ Below w.heap.size w w' := by
  have HL := Lib.hid hL; clear hL
  have HN := Lib.hid hln; clear hln
  go_enter Try.func29, Try.ntmps29
  go_wp2_with fail
  go_loopw [3, 4] (fun v i wr => ∃ k : Nat, k ≤ n ∧ i = .int .i64 k ∧ OwnRules w.heap.size wr (l.take k) v ∧ Below w.heap.size w wr) (fun _ i _ => n - (intOf i).toNat)
  case atStart => exact ⟨0, Nat.zero_le _, rfl, OwnR.nil _ _ _ _ _, Below.refl _ _⟩
  case round =>
    obtain ⟨k, hk, rfl, ho, hb⟩ := hrel
    have sz := hb.size
    by_cases hlt : k < n
    · have hlt' : k < l.length := by rw [HN.out]; exact hlt
      rcases HL.out.at' with h0 | ⟨b, off, rfl, hr⟩
      · exfalso; rw [h0] at hlt'; simp at hlt'
      · have hrk := range_keep (hr k hlt') hb
        have HTK := Lib.hid (List.take_succ_eq_append_getElem hlt')
        generalize l[k] = x at hrk HTK
        have hk1 : (l.take k).length ≤ 1000000 := by rw [List.length_take]; omega
        have HO := Lib.hid ho; clear ho
        have HB := Lib.hid hb; clear hb hr hlt'
        have HK1 := Lib.hid hk1; clear hk1
        have HR := Lib.hid hrk; clear hrk
        have HKL := Lib.hid hlt
        have hlen2 := RuleM.len x
        go_wp2_with (first
          | (show wpList _ _ _ (⟨_, .indexAddr _ _ _, _, _, _, _⟩ :: _) _ _; refine wpList_run (by rfl) (ruleT.run_ix rfl rfl rfl HKL.out _) ?_)
          | (show wpList _ _ _ (⟨_, .load 34 _, _, _, _, _⟩ :: _) _ _; refine wpList_run (by rfl) (ruleT.run_ld Try.underlying34 rfl (RuleM.len x) rfl rfl HR.out) ?_)
          | (at_builtin; refine ruleT.wpList_grow RuleM.len (by rfl) rfl rfl (HO.out.below (boxBelow _ _)) rfl (heap_new_at rfl) x.ones HK1.out (by simp; omega) ?_; intro v' w' ho' hb' _ _; rw [← HTK.out] at ho'; have HO' := Lib.hid ho'; have HB' := Lib.hid ((HB.out.trans ((boxBelow wr _).mono sz)).trans hb'); clear ho' hb'))
        go_roundw
        case rel => exact ⟨k + 1, by omega, by go_num, HO'.out, HB'.out⟩
        case measure => simp [intOf]; omega
    · have HO := Lib.hid ho; clear ho
      have HB := Lib.hid hb; clear hb
      go_wp2_with fail
      go_ret
      refine ⟨_, rfl, ?_, HB.out⟩
      have h1 := HO.out
      rw [List.take_of_length_le (by rw [HN.out]; omega)] at h1
      exact h1

/-- The kit's marks. -/
def markRules (i : Nat) : RuleM := ⟨⟨#[]⟩, -9 - (i : Int)⟩
def marksRules (k : Nat) : List RuleM := (List.range k).map markRules
theorem marksRules_succ (k : Nat) : marksRules (k + 1) = marksRules k ++ [markRules k] := by simp [marksRules, List.range_succ]
theorem marksRules_length (k : Nat) : (marksRules k).length = k := by simp [marksRules]
theorem markRules_any (i : Nat) (w : World) (h : i ≤ 1000000) : Calls Try.prog 42 #[.int .i64 (i : Int)] w fun e w' => e = .returned (.agg (markRules i).cells.toArray) ∧ Below w.heap.size w w' := by
  go_enter Try.func42, Try.ntmps42
  go_wp2_with fail
  exact bodyPost_ret (v := .agg (markRules i).cells.toArray) (by simp [results, Try.results42, go_sem, markRules, RuleM.cells]) rfl ⟨rfl, boxBelow _ _⟩

set_option maxHeartbeats 1000000 in
theorem lentRules_any (l : List RuleM) (n : Nat) (p : Option Addr) (cap : Nat) (w : World) (hln : l.length = n) (hl : n < 900000) (hL : RulesAt w p l) :
    Calls Try.prog 21 #[.slice p n cap] w fun e w' => ∃ v, e = .returned v ∧ OwnRules w.heap.size w' (l ++ marksRules 5) v ∧ Below w.heap.size w w' := by
  have HL := Lib.hid hL; clear hL
  have HN := Lib.hid hln; clear hln
  go_enter Try.func21, Try.ntmps21
  go_wp2_with fail
  refine (copyRules_any l n p cap w HN.out (by omega) HL.out).mono ?_
  rintro e w1 ⟨v, rfl, ho, hb⟩
  have HO := Lib.hid ho; clear ho
  have HB := Lib.hid hb; clear hb
  go_wp2_with fail
  go_loopw [3, 4] (fun v i wr => ∃ k : Nat, k ≤ 5 ∧ i = .int .i64 k ∧ OwnRules w.heap.size wr (l ++ marksRules k) v ∧ Below w.heap.size w wr) (fun _ i _ => 5 - (intOf i).toNat)
  case atStart => exact ⟨0, Nat.zero_le _, rfl, by have h := HO.out; simpa [marksRules] using h, HB.out⟩
  case round =>
    clear HO HB
    obtain ⟨k, hk, rfl, ho, hb⟩ := hrel
    have sz := hb.size
    by_cases hlt : k < 5
    · have HTK : Hid (l ++ marksRules (k + 1) = (l ++ marksRules k) ++ [markRules k]) := by
        show _ = _
        rw [marksRules_succ, List.append_assoc]
      have HK1 : Hid ((l ++ marksRules k).length ≤ 1000000) := by
        show _ ≤ _
        rw [List.length_append, marksRules_length, HN.out]; omega
      have HO := Lib.hid ho; clear ho
      have HB := Lib.hid hb; clear hb
      go_wp2_with fail
      refine (markRules_any k _ (by omega)).mono ?_
      rintro e w2 ⟨rfl, hb2⟩
      have HO2 := Lib.hid (HO.out.below hb2)
      have HB2 := Lib.hid (HB.out.trans (hb2.mono sz))
      clear hb2 HO HB
      have HM : Hid ((markRules k).cells.length = 2) := show _ = _ from rfl
      have hlen2 := HM.out
      have HONES := Lib.hid (markRules k).ones
      generalize markRules k = x at HTK HM hlen2 HONES ⊢
      have sz2 := HB2.out.size
      go_wp2_with (at_builtin; refine ruleT.wpList_grow RuleM.len (by rfl) rfl rfl (HO2.out.below (boxBelow _ _)) rfl (heap_new_at rfl) HONES.out HK1.out (by simp; omega) ?_; intro v' w' ho' hb' _ _; rw [← HTK.out] at ho'; have HO' := Lib.hid ho'; have HB' := Lib.hid ((HB2.out.trans ((boxBelow w2 _).mono sz2)).trans hb'); clear ho' hb')
      go_roundw
      case rel => exact ⟨k + 1, by omega, by go_num, HO'.out, HB'.out⟩
      case measure => simp [intOf]; omega
    · have HO := Lib.hid ho; clear ho
      have HB := Lib.hid hb; clear hb
      have HK5 : Hid (k = 5) := show k = 5 by omega
      go_wp2_with fail
      go_ret
      refine ⟨_, rfl, ?_, HB.out⟩
      have h1 := HO.out
      rw [HK5.out] at h1
      exact h1

theorem run_eqRules {ρ : Operand → Value} {o : Oper} {x y : Operand} {r : RuleM} {ty : TypeId} (ho : o.op = .binOp .eql 34 x y ty) (hx : ρ x = .agg r.cells.toArray) (hy : ρ y = .agg r.cells.toArray) (w : World) : (execOp ρ o).run Try.prog w = .ok (.value (.bool true)) w := by
  obtain ⟨dst, op, ty', pos, after, guard⟩ := o
  simp only at ho
  subst ho
  cases r
  simp only [RuleM.cells] at hx hy
  go_simp
structure BothRules (b off b2 off2 : Nat) (cs : List Value) (W w : World) : Prop where
  one : w.rangeAt b off cs
  two : w.rangeAt b2 off2 cs
  below : Below W.heap.size W w
set_option maxRecDepth 100000 in
set_option maxHeartbeats 1000000 in
theorem sameRules_any (l : List RuleM) (n : Nat) (p q : Option Addr) (c1 c2 : Nat) (w : World) (hln : l.length = n) (hl : n < 1000000) (hp : RulesAt w p l) (hq : RulesAt w q l) :
    Calls Try.prog 45 #[.slice p n c1, .slice q n c2] w fun e w' => e = .returned (.bool true) ∧ Below w.heap.size w w' := by
  have HP := Lib.hid hp; clear hp
  have HQ := Lib.hid hq; clear hq
  have HN := Lib.hid hln; clear hln
  go_enter Try.func45, Try.ntmps45
  go_wp2_with fail
  go_loopw [5] (fun i wr => ∃ k : Nat, k ≤ n ∧ i = .int .i64 k ∧ Below w.heap.size w wr) (fun i _ => n - (intOf i).toNat)
  case atStart => exact ⟨0, Nat.zero_le _, rfl, Below.refl _ _⟩
  case round =>
    obtain ⟨k, hk, rfl, hb⟩ := hrel
    by_cases hlt : k < n
    · have hlt' : k < l.length := by rw [HN.out]; exact hlt
      rcases HP.out.at' with h0 | ⟨b, off, rfl, hr⟩
      · exfalso; rw [h0] at hlt'; simp at hlt'
      rcases HQ.out.at' with h0 | ⟨b2, off2, rfl, hr2⟩
      · exfalso; rw [h0] at hlt'; simp at hlt'
      have hc := range_keep (hr k hlt') hb
      have hc2 := range_keep (hr2 k hlt') hb
      generalize l[k] = x at hc hc2
      have HBT : Hid (BothRules b (off + k * 2) b2 (off2 + k * 2) x.cells w wr) := show BothRules _ _ _ _ _ _ _ from ⟨hc, hc2, hb⟩
      have HKL := Lib.hid hlt
      clear hb hr hr2 hc hc2 hlt'
      have q0 : (k : Int) < (n : Int) := by omega
      go_upto_region 6 with (fail)
      refine region_phase (fun wr => BothRules b (off + k * 2) b2 (off2 + k * 2) x.cells w wr) (fun _ => True) 99 (⟨HBT.out.one, HBT.out.two, HBT.out.below.drew⟩) trivial [(0, .free), (1, .free), (2, .free), (3, .free), (4, .free), (5, .free), (6, .free), (7, .free), (8, .free), (9, .free)] (by kernel_rfl) (by kernel_rfl) (by kernel_rfl) (by kernel_rfl) (fun ops hops A hA => ?_)
      have hsz : A.tmps.size = 27 := by rw [hA]; rfl
      have base0 : A.eval (.tmp 0) = .slice (some ⟨b, off, none⟩) n c1 := by rw [hA]; rfl
      have base1 : A.eval (.tmp 1) = .slice (some ⟨b2, off2, none⟩) n c2 := by rw [hA]; rfl
      have base5 : A.eval (.tmp 5) = .int .i64 (k : Int) := by rw [hA]; rfl
      have HAA := Lib.hid hA; clear hA
      obtain ⟨o0, po0, q0, d0, gd0⟩ : ∃ o, ops[0]? = some o ∧ o.op = .move (.tmp 0) ∧ o.dst = some 17 ∧ o.guard = none := ⟨_, by rw [hops]; rfl, rfl, rfl, rfl⟩
      obtain ⟨o1, po1, q1, d1, gd1⟩ : ∃ o, ops[1]? = some o ∧ o.op = .move (.tmp 5) ∧ o.dst = some 18 ∧ o.guard = none := ⟨_, by rw [hops]; rfl, rfl, rfl, rfl⟩
      obtain ⟨o2, po2, q2, d2, gd2⟩ : ∃ o, ops[2]? = some o ∧ o.op = .indexAddr 32 (.tmp 17) (.tmp 18) ∧ o.dst = some 19 ∧ o.guard = none := ⟨_, by rw [hops]; rfl, rfl, rfl, rfl⟩
      obtain ⟨o3, po3, q3, d3, gd3⟩ : ∃ o, ops[3]? = some o ∧ o.op = .load 34 (.tmp 19) ∧ o.dst = some 20 ∧ o.guard = none := ⟨_, by rw [hops]; rfl, rfl, rfl, rfl⟩
      obtain ⟨o4, po4, q4, d4, gd4⟩ : ∃ o, ops[4]? = some o ∧ o.op = .move (.tmp 1) ∧ o.dst = some 21 ∧ o.guard = none := ⟨_, by rw [hops]; rfl, rfl, rfl, rfl⟩
      obtain ⟨o5, po5, q5, d5, gd5⟩ : ∃ o, ops[5]? = some o ∧ o.op = .move (.tmp 5) ∧ o.dst = some 22 ∧ o.guard = none := ⟨_, by rw [hops]; rfl, rfl, rfl, rfl⟩
      obtain ⟨o6, po6, q6, d6, gd6⟩ : ∃ o, ops[6]? = some o ∧ o.op = .indexAddr 32 (.tmp 21) (.tmp 22) ∧ o.dst = some 23 ∧ o.guard = none := ⟨_, by rw [hops]; rfl, rfl, rfl, rfl⟩
      obtain ⟨o7, po7, q7, d7, gd7⟩ : ∃ o, ops[7]? = some o ∧ o.op = .load 34 (.tmp 23) ∧ o.dst = some 24 ∧ o.guard = none := ⟨_, by rw [hops]; rfl, rfl, rfl, rfl⟩
      obtain ⟨o8, po8, q8, d8, gd8⟩ : ∃ o, ops[8]? = some o ∧ o.op = .binOp .eql 34 (.tmp 20) (.tmp 24) 34 ∧ o.dst = some 25 ∧ o.guard = none := ⟨_, by rw [hops]; rfl, rfl, rfl, rfl⟩
      obtain ⟨o9, po9, q9, d9, gd9⟩ : ∃ o, ops[9]? = some o ∧ o.op = .unOp .not 4 (.tmp 25) ∧ o.dst = some 26 ∧ o.guard = none := ⟨_, by rw [hops]; rfl, rfl, rfl, rfl⟩
      clear hops
      refine met_free po0 d0 (wanted_of gd0) (fun w' h' => run_move q0 base0 w') ?_
      refine met_free po1 d1 (wanted_of gd1) (fun w' h' => run_move q1 ((eval_other _ 17 5 _ (by decide)).trans base5) w') ?_
      refine met_free po2 d2 (wanted_of gd2) (fun w' h' => ruleT.run_ix q2 ((eval_other _ 18 17 _ (by decide)).trans (eval_same _ _ _ (by rw [hsz]; decide))) (eval_same _ _ _ (by simp only [put_size, hsz]; decide)) HKL.out w') ?_
      refine met_free po3 d3 (wanted_of gd3) (fun w' h' => ruleT.run_ld Try.underlying34 rfl (RuleM.len x) q3 (eval_same _ _ _ (by simp only [put_size, hsz]; decide)) h'.one) ?_
      refine met_free po4 d4 (wanted_of gd4) (fun w' h' => run_move q4 ((eval_other _ 20 1 _ (by decide)).trans ((eval_other _ 19 1 _ (by decide)).trans ((eval_other _ 18 1 _ (by decide)).trans ((eval_other _ 17 1 _ (by decide)).trans base1)))) w') ?_
      refine met_free po5 d5 (wanted_of gd5) (fun w' h' => run_move q5 ((eval_other _ 21 5 _ (by decide)).trans ((eval_other _ 20 5 _ (by decide)).trans ((eval_other _ 19 5 _ (by decide)).trans ((eval_other _ 18 5 _ (by decide)).trans ((eval_other _ 17 5 _ (by decide)).trans base5))))) w') ?_
      refine met_free po6 d6 (wanted_of gd6) (fun w' h' => ruleT.run_ix q6 ((eval_other _ 22 21 _ (by decide)).trans (eval_same _ _ _ (by simp only [put_size, hsz]; decide))) (eval_same _ _ _ (by simp only [put_size, hsz]; decide)) HKL.out w') ?_
      refine met_free po7 d7 (wanted_of gd7) (fun w' h' => ruleT.run_ld Try.underlying34 rfl (RuleM.len x) q7 (eval_same _ _ _ (by simp only [put_size, hsz]; decide)) h'.two) ?_
      refine met_free po8 d8 (wanted_of gd8) (fun w' h' => run_eqRules q8 ((eval_other _ 24 20 _ (by decide)).trans ((eval_other _ 23 20 _ (by decide)).trans ((eval_other _ 22 20 _ (by decide)).trans ((eval_other _ 21 20 _ (by decide)).trans (eval_same _ _ _ (by simp only [put_size, hsz]; decide)))))) (eval_same _ _ _ (by simp only [put_size, hsz]; decide)) w') ?_
      refine met_free po9 d9 (wanted_of gd9) (fun w' h' => r_notT q9 (eval_same _ _ _ (by simp only [put_size, hsz]; decide)) w') ?_
      show NoPanic _ .normal _ _
      refine NoPanic.normal ?_
      rw [HAA.out]
      go_frame
      clear HAA
      clear po0 q0 d0 gd0 po1 q1 d1 gd1 po2 q2 d2 gd2 po3 q3 d3 gd3 po4 q4 d4 gd4 po5 q5 d5 gd5 po6 q6 d6 gd6 po7 q7 d7 gd7 po8 q8 d8 gd8 po9 q9 d9 gd9
      clear base0 base1 base5 hsz
      go_wp2_with fail
      go_roundw
      case rel => exact ⟨k + 1, by omega, by go_num, HBT.out.below.drew⟩
      case measure => simp [intOf]; omega
    · have HB := Lib.hid hb; clear hb
      go_wp2_with fail
      go_ret
      exact ⟨rfl, HB.out⟩

set_option maxHeartbeats 2000000 in
theorem keptRules_any (l : List RuleM) (n m : Nat) (pa pb : Option Addr) (ca cb : Nat) (w : World) (hn : l.length = n) (hm1 : m ≤ n + 5) (hm2 : n + 5 ≤ m) (hl : n < 900000) (hca : m ≤ ca) (hA : RulesAt w pa (l ++ marksRules 5)) (hB : RulesAt w pb l) :
    Calls Try.prog 26 #[.slice pa m ca, .slice pb n cb] w fun e w' => e = .returned (.bool true) ∧ Below w.heap.size w w' := by
  have HN := Lib.hid hn; clear hn
  have HB := Lib.hid hB; clear hB
  rcases hA.at' with h0 | ⟨g, off, rfl, hr⟩
  · exfalso
    have := congrArg List.length h0
    rw [List.length_append, marksRules_length] at this
    simp at this
  have HF : Hid (RulesAt w (some ⟨g, off, none⟩) l) := show RowOf _ _ _ _ _ from by
    have h := hA.take l.length
    rwa [List.take_left] at h
  have HD : Hid (RulesAt w (some ⟨g, off + n * 2, none⟩) (marksRules 5)) := show RowOf _ _ _ _ _ from by
    have h := RowOf.drop hr l.length
    rw [List.drop_left, HN.out] at h
    exact h
  clear hA hr
  have hck : ¬ ca = n := by omega
  have hcn : (n : Int) ≤ (ca : Int) := by omega
  have hcn2 : (n : Int) ≤ (m : Int) := by omega
  go_enter Try.func26, Try.ntmps26
  go_wp2_with fail
  refine (sameRules_any l n _ _ _ _ w HN.out (by omega) HF.out HB.out).mono ?_
  rintro e w1 ⟨rfl, hb1⟩
  have HB1 := Lib.hid hb1; clear hb1
  go_wp2_with fail
  go_loopw [5, 6] (fun v i wr => ∃ k : Nat, k ≤ 5 ∧ i = .int .i64 k ∧ OwnRules w.heap.size wr (marksRules k) v ∧ Below w.heap.size w wr) (fun _ i _ => 5 - (intOf i).toNat)
  case atStart => exact ⟨0, Nat.zero_le _, rfl, OwnR.nil _ _ _ _ _, HB1.out⟩
  case round =>
    clear HB1
    obtain ⟨k, hk, rfl, ho, hb⟩ := hrel
    have sz := hb.size
    by_cases hlt : k < 5
    · have HTK := Lib.hid (marksRules_succ k)
      have HK1 : Hid ((marksRules k).length ≤ 1000000) := by
        show _ ≤ _
        rw [marksRules_length]; omega
      have HO := Lib.hid ho; clear ho
      have HB2 := Lib.hid hb; clear hb
      go_wp2_with fail
      refine (markRules_any k _ (by omega)).mono ?_
      rintro e w2 ⟨rfl, hb2⟩
      have HO2 := Lib.hid (HO.out.below hb2)
      have HB3 := Lib.hid (HB2.out.trans (hb2.mono sz))
      clear hb2 HO HB2
      have HM : Hid ((markRules k).cells.length = 2) := show _ = _ from rfl
      have hlen2 := HM.out
      have HONES := Lib.hid (markRules k).ones
      generalize markRules k = x at HTK HM hlen2 HONES ⊢
      have sz2 := HB3.out.size
      go_wp2_with (at_builtin; refine ruleT.wpList_grow RuleM.len (by rfl) rfl rfl (HO2.out.below (boxBelow _ _)) rfl (heap_new_at rfl) HONES.out HK1.out (by simp; omega) ?_; intro v' w' ho' hb' _ _; rw [← HTK.out] at ho'; have HO' := Lib.hid ho'; have HB' := Lib.hid ((HB3.out.trans ((boxBelow w2 _).mono sz2)).trans hb'); clear ho' hb')
      go_roundw
      case rel => exact ⟨k + 1, by omega, by go_num, HO'.out, HB'.out⟩
      case measure => simp [intOf]; omega
    · have HK5 : Hid (k = 5) := show k = 5 by omega
      rw [HK5.out] at ho
      obtain ⟨q, c, rfl, _, _, hq, _⟩ := ho.lies RuleM.len
      have HQ := Lib.hid hq; clear hq ho
      have HB2 := Lib.hid hb; clear hb
      rw [show (marksRules 5).length = 5 from rfl]
      go_wp2_with fail
      rw [show m - n = 5 by omega]
      refine (sameRules_any (marksRules 5) 5 _ _ _ _ wr rfl (by omega) (HD.out.below HB2.out) HQ.out).mono ?_
      rintro e w9 ⟨rfl, hb9⟩
      have HB9 := Lib.hid (HB2.out.trans (hb9.mono (by omega))); clear hb9
      go_wp2_with fail
      go_ret
      exact ⟨rfl, HB9.out⟩
end Go.Proofs.Ytkfkdomjjepmdaa

/-
  The document's grants, and the program's Check.
-/
namespace Go.Proofs.Ytkfkdomjjepmdaa
open Go.RowKit
theorem begS_long {s p : ByteArray} (h : s.size < p.size) : begS s p = false := by
  cases e : begS s p with
  | false => rfl
  | true =>
    have := (begS_iff.1 e).length_le
    rw [size_list, size_list] at this
    omega
theorem begS_at {s p : ByteArray} {k : Nat} (h : k < p.size) (h2 : k < s.size) (hne : s[k] ≠ p[k]) : begS s p = false := by
  cases e : begS s p with
  | false => rfl
  | true =>
    exfalso
    obtain ⟨t, ht⟩ := begS_iff.1 e
    apply hne
    rw [← get_list s k h2, ← get_list p k h]
    simp only [← ht]
    rw [List.getElem_append_left]
theorem begS_all {s p : ByteArray} (hl : p.size ≤ s.size) (h : ∀ k (h1 : k < p.size) (h2 : k < s.size), s[k] = p[k]) : begS s p = true := by
  refine begS_iff.2 (List.prefix_iff_eq_take.2 ?_)
  apply List.ext_getElem
  · rw [List.length_take, size_list, size_list]; omega
  · intro k h1 h2
    rw [List.getElem_take]
    have h3 : k < p.size := by rw [size_list] at h1; exact h1
    rw [get_list p k h3, get_list s k (by omega)]
    exact (h k h3 (by omega)).symm
theorem u8_ne {a b : UInt8} : (((a.toNat : Int) != (b.toNat : Int)) = false) ↔ a = b := by
  rw [bne_eq_false_iff_eq]
  refine ⟨fun h => UInt8.toNat_inj.1 (by omega), fun h => by rw [h]⟩
set_option maxHeartbeats 2000000 in
theorem refBegins_any (s p : ByteArray) (w : World) (hs : s.size ≤ 140737488351232) : Calls Try.prog 40 #[.string s, .string p] w fun e w' => e = .returned (.bool (begS s p)) ∧ Below w.heap.size w w' := by
  by_cases hl : s.size < p.size
  · have HB := Lib.hid (begS_long hl)
    go_enter Try.func40, Try.ntmps40
    go_wp2_with fail
    go_ret
    refine ⟨?_, Below.refl _ _⟩
    rw [HB.out]
    rfl
  have hle : p.size ≤ s.size := by omega
  go_enter Try.func40, Try.ntmps40
  go_wp2_with fail
  go_loopw [5] (fun i wr => ∃ k : Nat, k ≤ p.size ∧ i = .int .i64 k ∧ (∀ j (h1 : j < p.size) (h2 : j < s.size), j < k → s[j] = p[j]) ∧ Below w.heap.size w wr) (fun i _ => p.size - (intOf i).toNat)
  case atStart => exact ⟨0, Nat.zero_le _, rfl, fun j _ _ h => by omega, Below.refl _ _⟩
  case round =>
    obtain ⟨k, hk, rfl, hall, hb⟩ := hrel
    have HALL := Lib.hid hall
    have HB := Lib.hid hb
    clear hall hb
    by_cases hlt : k < p.size
    · have hlt2 : k < s.size := by omega
      by_cases hc : s[k] = p[k]
      · have HC := Lib.hid hc
        have hbn := u8_ne.2 hc
        clear hc
        go_wp2_with fail
        go_quiet (fail)
        go_wp2_with fail
        have HREL : Hid (∀ j (h1 : j < p.size) (h2 : j < s.size), j < k + 1 → s[j] = p[j]) := show ∀ _ _ _, _ → _ from fun j h1 h2 hj => by
          by_cases e : j = k
          · subst e; exact HC.out
          · exact HALL.out j h1 h2 (by omega)
        go_roundw
        case rel => exact ⟨k + 1, by omega, by go_num, HREL.out, HB.out.trans ⟨rfl, rfl, rfl, Nat.le_refl _, fun _ _ => rfl⟩⟩
        case measure => simp [intOf]; omega
      · have HR := Lib.hid (begS_at hlt hlt2 hc)
        have hbn : ((s[k].toNat : Int) != (p[k].toNat : Int)) = true := by
          cases e : ((s[k].toNat : Int) != (p[k].toNat : Int)) with
          | true => rfl
          | false => exact absurd (u8_ne.1 e) hc
        clear hc
        go_wp2_with fail
        go_quiet (fail)
        go_wp2_with fail
        go_ret
        refine ⟨?_, HB.out.trans ⟨rfl, rfl, rfl, Nat.le_refl _, fun _ _ => rfl⟩⟩
        rw [HR.out]
        rfl
    · have HR := Lib.hid (begS_all hle (fun j h1 h2 => HALL.out j h1 h2 (by omega)))
      go_wp2_with fail
      go_ret
      refine ⟨?_, HB.out⟩
      rw [HR.out]
      rfl
theorem boxOne (w : World) (o : Obj) {w' : World} (h : Below (w.alloc o).heap.size (w.alloc o) w') : Below w.heap.size w w' := (boxBelow w o).trans (h.mono (boxBelow w o).size)
set_option maxHeartbeats 1000000 in
theorem refCovers_any (g : GrantM) (r : Int) (s : ByteArray) (w : World) (hr : wrap64 g.rights = g.rights) (hs : s.size ≤ 140737488351232) : Calls Try.prog 16 #[.agg g.cells.toArray, .int .i64 r, .string s] w (ReturnsG (coversM g r s) w) := by
  have HP := Lib.hid (show coversM g r s = (hasZ g.rights r && scopeM g.pre g.exact s true) from rfl)
  have HX := Lib.hid (show scopeM g.pre g.exact s true = (if g.exact = true then decide (s = g.pre) && true else begS s g.pre) from rfl)
  have HR := Lib.hid hr
  have HS := Lib.hid hs
  clear hr hs
  obtain ⟨a, p, x, t⟩ := g
  simp only [GrantM.cells] at HP HR HX ⊢
  have HH : Hid (∀ w, Calls Try.prog 39 #[.int .i64 a, .int .i64 r] w (ReturnsB (hasZ a r) w)) := show ∀ _, _ from fun w => refHas_any a r w HR.out
  cases hz : hasZ a r <;> cases x
  all_goals
    have HZ := Lib.hid hz
    clear hz
    go_enter Try.func16, Try.ntmps16
    go_wp2_with fail
    refine (HH.out _).mono ?_
    rw [HZ.out]
    rintro e w' ⟨rfl, rfl⟩
    go_wp2_with fail
  · go_ret
    refine ⟨?_, boxBelow _ _⟩
    rw [HP.out, HZ.out]
    rfl
  · go_ret
    refine ⟨?_, boxBelow _ _⟩
    rw [HP.out, HZ.out]
    rfl
  · refine (refBegins_any s p _ HS.out).mono ?_
    rintro e w' ⟨rfl, hb⟩
    have HB := Lib.hid (boxOne _ _ hb)
    clear hb
    go_wp2_with fail
    go_ret
    refine ⟨?_, HB.out⟩
    rw [HP.out, HZ.out, HX.out]
    rfl
  · all_goals
      go_ret
      refine ⟨congrArg (fun b => Ending.returned (.bool b)) ?_, boxBelow _ _⟩
      rw [HP.out, HZ.out, HX.out]
      apply Bool.eq_iff_iff.2
      simp_all [toList_eq]
theorem refWhole_any (g : GrantM) (w : World) : Calls Try.prog 18 #[.agg g.cells.toArray] w (ReturnsG (wholeM g) w) := by
  obtain ⟨a, p, x, t⟩ := g
  simp only [GrantM.cells]
  cases x
  · go_enter Try.func18, Try.ntmps18
    go_wp2_with fail
    go_ret
    refine ⟨congrArg (fun b => Ending.returned (.bool b)) ?_, boxBelow _ _⟩
    apply Bool.eq_iff_iff.2
    simp [wholeM, toList_nil]
  · go_enter Try.func18, Try.ntmps18
    go_wp2_with fail
    go_ret
    refine ⟨congrArg (fun b => Ending.returned (.bool b)) ?_, boxBelow _ _⟩
    simp [wholeM]
end Go.Proofs.Ytkfkdomjjepmdaa

/-
  Whether a grant may be, and a rule: the program's and the document's.
-/
namespace Go.Proofs.Ytkfkdomjjepmdaa
open Go.RowKit
def ReturnsZ (z : Int) (w : World) (e : Ending) (w' : World) : Prop := e = .returned (.int .i64 z) ∧ Below w.heap.size w w'
theorem checkM_bad {g : GrantM} (h : g.rights < 1 ∨ g.rights > 127 ∨ g.till < 0 ∨ g.till > 1099511627776 ∨ (g.exact = true ∧ g.pre = ⟨#[]⟩)) : checkM g = 1 := by unfold checkM; rw [if_pos h]
theorem checkM_name {g : GrantM} (h : ¬ (g.rights < 1 ∨ g.rights > 127 ∨ g.till < 0 ∨ g.till > 1099511627776 ∨ (g.exact = true ∧ g.pre = ⟨#[]⟩))) : checkM g = if preOk g.pre = true then 0 else 10 := by unfold checkM; rw [if_neg h]
theorem pre_empty {p : ByteArray} (h : p = ⟨#[]⟩) : p.toList = [] ∧ (p.toList == []) = true := by subst h; exact ⟨toList_nil.2 rfl, by rw [toList_nil.2 rfl]; rfl⟩
theorem pre_full {p : ByteArray} (h : ¬ p = ⟨#[]⟩) : (¬ p.toList = []) ∧ (p.toList == []) = false := by
  have h1 : ¬ p.toList = [] := fun e => h (toList_nil.1 e)
  exact ⟨h1, by simpa using h1⟩
set_option maxRecDepth 100000 in
set_option maxHeartbeats 4000000 in
theorem check_any (g : GrantM) (w : World) (hs : g.pre.size ≤ 140737488351232) : Calls Try.prog 13 #[.agg g.cells.toArray] w (ReturnsZ (checkM g) w) := by
  have HBAD := Lib.hid (checkM_bad (g := g))
  have HNAME := Lib.hid (checkM_name (g := g))
  have HS := Lib.hid hs
  clear hs
  obtain ⟨r, p, x, t⟩ := g
  simp only [GrantM.cells] at HBAD HNAME HS ⊢
  have HPRE : Hid (∀ w, Calls Try.prog 34 #[.string p] w (ReturnsB (preOk p) w)) := show ∀ _, _ from fun w => rtPre_any p w HS.out
  have HEM : Hid (∀ (_ : r < 1 ∨ r > 127 ∨ t < 0 ∨ t > 1099511627776 ∨ (x = true ∧ p = ⟨#[]⟩)), checkM ⟨r, p, x, t⟩ = 1) := show _ → _ from fun h => HBAD.out h
  clear HBAD
  by_cases h1 : r < 1
  · have HC : Hid (checkM ⟨r, p, x, t⟩ = 1) := show _ = _ from HEM.out (by omega)
    go_enter Try.func13, Try.ntmps13
    go_wp2_with fail
    go_ret
    refine ⟨?_, boxBelow _ _⟩
    rw [HC.out]
    rfl
  by_cases h2 : r > 127
  · have HC : Hid (checkM ⟨r, p, x, t⟩ = 1) := show _ = _ from HEM.out (by omega)
    go_enter Try.func13, Try.ntmps13
    go_wp2_with fail
    go_ret
    refine ⟨?_, boxBelow _ _⟩
    rw [HC.out]
    rfl
  by_cases h3 : t < 0
  · have HC : Hid (checkM ⟨r, p, x, t⟩ = 1) := show _ = _ from HEM.out (by omega)
    go_enter Try.func13, Try.ntmps13
    go_wp2_with fail
    go_ret
    refine ⟨?_, boxBelow _ _⟩
    rw [HC.out]
    rfl
  by_cases h4 : t > 1099511627776
  · have HC : Hid (checkM ⟨r, p, x, t⟩ = 1) := show _ = _ from HEM.out (by omega)
    go_enter Try.func13, Try.ntmps13
    go_wp2_with fail
    go_ret
    refine ⟨?_, boxBelow _ _⟩
    rw [HC.out]
    rfl
  by_cases h5 : x = true ∧ p = ⟨#[]⟩
  · obtain ⟨rfl, h6⟩ := h5
    obtain ⟨e1, e2⟩ := pre_empty h6
    have HC : Hid (checkM ⟨r, p, true, t⟩ = 1) := show _ = _ from HEM.out (by simp [h6])
    clear h6
    go_enter Try.func13, Try.ntmps13
    go_wp2_with fail
    go_ret
    refine ⟨?_, boxBelow _ _⟩
    rw [HC.out]
    rfl
  have HN : Hid (checkM ⟨r, p, x, t⟩ = if preOk p = true then 0 else 10) := show _ = _ from HNAME.out (by rintro (h | h | h | h | h) <;> first | exact h5 h | omega)
  clear HNAME HEM
  have hx : x = false ∨ (x = true ∧ ¬ p = ⟨#[]⟩) := by
    cases x
    · exact .inl rfl
    · exact .inr ⟨rfl, fun h => h5 ⟨rfl, h⟩⟩
  clear h5
  cases hp : preOk p
  all_goals
    have HQ := Lib.hid hp
    clear hp
    rcases hx with rfl | ⟨rfl, h6⟩
  case false.inr | true.inr =>
    obtain ⟨e1, e2⟩ := pre_full h6
    clear h6
    go_enter Try.func13, Try.ntmps13
    go_wp2_with fail
    refine (HPRE.out _).mono ?_
    rw [HQ.out]
    rintro e w' ⟨rfl, rfl⟩
    go_wp2_with fail
    go_ret
    refine ⟨?_, boxBelow _ _⟩
    rw [HN.out, HQ.out]
    rfl
  all_goals
    go_enter Try.func13, Try.ntmps13
    go_wp2_with fail
    refine (HPRE.out _).mono ?_
    rw [HQ.out]
    rintro e w' ⟨rfl, rfl⟩
    go_wp2_with fail
    go_ret
    refine ⟨?_, boxBelow _ _⟩
    rw [HN.out, HQ.out]
    rfl
set_option maxRecDepth 100000 in
set_option maxHeartbeats 4000000 in
theorem refCheck_any (g : GrantM) (w : World) (hs : g.pre.size ≤ 140737488351232) : Calls Try.prog 14 #[.agg g.cells.toArray] w (ReturnsZ (checkM g) w) := by
  have HBAD := Lib.hid (checkM_bad (g := g))
  have HNAME := Lib.hid (checkM_name (g := g))
  have HS := Lib.hid hs
  clear hs
  obtain ⟨r, p, x, t⟩ := g
  simp only [GrantM.cells] at HBAD HNAME HS ⊢
  have HPRE : Hid (∀ w, Calls Try.prog 35 #[.string p] w (ReturnsB (preOk p) w)) := show ∀ _, _ from fun w => refPre_any p w HS.out
  have HEM : Hid (∀ (_ : r < 1 ∨ r > 127 ∨ t < 0 ∨ t > 1099511627776 ∨ (x = true ∧ p = ⟨#[]⟩)), checkM ⟨r, p, x, t⟩ = 1) := show _ → _ from fun h => HBAD.out h
  clear HBAD
  by_cases h1 : r < 1
  · have HC : Hid (checkM ⟨r, p, x, t⟩ = 1) := show _ = _ from HEM.out (by omega)
    go_enter Try.func14, Try.ntmps14
    go_wp2_with fail
    go_ret
    refine ⟨?_, boxBelow _ _⟩
    rw [HC.out]
    rfl
  by_cases h2 : r > 127
  · have HC : Hid (checkM ⟨r, p, x, t⟩ = 1) := show _ = _ from HEM.out (by omega)
    go_enter Try.func14, Try.ntmps14
    go_wp2_with fail
    go_ret
    refine ⟨?_, boxBelow _ _⟩
    rw [HC.out]
    rfl
  by_cases h3 : t < 0
  · have HC : Hid (checkM ⟨r, p, x, t⟩ = 1) := show _ = _ from HEM.out (by omega)
    go_enter Try.func14, Try.ntmps14
    go_wp2_with fail
    go_ret
    refine ⟨?_, boxBelow _ _⟩
    rw [HC.out]
    rfl
  by_cases h4 : t > 1099511627776
  · have HC : Hid (checkM ⟨r, p, x, t⟩ = 1) := show _ = _ from HEM.out (by omega)
    go_enter Try.func14, Try.ntmps14
    go_wp2_with fail
    go_ret
    refine ⟨?_, boxBelow _ _⟩
    rw [HC.out]
    rfl
  by_cases h5 : x = true ∧ p = ⟨#[]⟩
  · obtain ⟨rfl, h6⟩ := h5
    obtain ⟨e1, e2⟩ := pre_empty h6
    have HC : Hid (checkM ⟨r, p, true, t⟩ = 1) := show _ = _ from HEM.out (by simp [h6])
    clear h6
    go_enter Try.func14, Try.ntmps14
    go_wp2_with fail
    go_ret
    refine ⟨?_, boxBelow _ _⟩
    rw [HC.out]
    rfl
  have HN : Hid (checkM ⟨r, p, x, t⟩ = if preOk p = true then 0 else 10) := show _ = _ from HNAME.out (by rintro (h | h | h | h | h) <;> first | exact h5 h | omega)
  clear HNAME HEM
  have hx : x = false ∨ (x = true ∧ ¬ p = ⟨#[]⟩) := by
    cases x
    · exact .inl rfl
    · exact .inr ⟨rfl, fun h => h5 ⟨rfl, h⟩⟩
  clear h5
  cases hp : preOk p
  all_goals
    have HQ := Lib.hid hp
    clear hp
    rcases hx with rfl | ⟨rfl, h6⟩
  case false.inr | true.inr =>
    obtain ⟨e1, e2⟩ := pre_full h6
    clear h6
    go_enter Try.func14, Try.ntmps14
    go_wp2_with fail
    refine (HPRE.out _).mono ?_
    rw [HQ.out]
    rintro e w' ⟨rfl, rfl⟩
    go_wp2_with fail
    go_ret
    refine ⟨?_, boxBelow _ _⟩
    rw [HN.out, HQ.out]
    rfl
  all_goals
    go_enter Try.func14, Try.ntmps14
    go_wp2_with fail
    refine (HPRE.out _).mono ?_
    rw [HQ.out]
    rintro e w' ⟨rfl, rfl⟩
    go_wp2_with fail
    go_ret
    refine ⟨?_, boxBelow _ _⟩
    rw [HN.out, HQ.out]
    rfl
end Go.Proofs.Ytkfkdomjjepmdaa

/-
  Rules: the program's and the document's.
-/
namespace Go.Proofs.Ytkfkdomjjepmdaa
open Go.RowKit Go.Proofs.ShaWords
set_option maxRecDepth 100000 in
set_option maxHeartbeats 2000000 in
theorem checkRule_any (r : RuleM) (w : World) (hs : r.pre.size ≤ 140737488351232) : Calls Try.prog 43 #[.agg r.cells.toArray] w (ReturnsZ (checkRuleM r) w) := by
  have HC := Lib.hid (show checkRuleM r = (if preOk r.pre = false then 10 else if r.rights < 0 ∨ r.rights > 127 then 1 else 0) from rfl)
  have HS := Lib.hid hs
  clear hs
  obtain ⟨p, a⟩ := r
  simp only [RuleM.cells] at HC HS ⊢
  have HPRE : Hid (∀ w, Calls Try.prog 34 #[.string p] w (ReturnsB (preOk p) w)) := show ∀ _, _ from fun w => rtPre_any p w HS.out
  cases hp : preOk p
  · have HQ := Lib.hid hp
    clear hp
    go_enter Try.func43, Try.ntmps43
    go_wp2_with fail
    refine (HPRE.out _).mono ?_
    rw [HQ.out]
    rintro e w' ⟨rfl, rfl⟩
    go_wp2_with fail
    go_ret
    refine ⟨?_, boxBelow _ _⟩
    rw [HC.out, HQ.out]
    rfl
  · have HQ := Lib.hid hp
    clear hp
    have hcs : (a < 0) ∨ (¬ a < 0 ∧ a > 127) ∨ (¬ a < 0 ∧ ¬ a > 127) := by omega
    rcases hcs with h1 | ⟨h1, h2⟩ | ⟨h1, h2⟩
    · have HV : Hid ((if a < 0 ∨ a > 127 then (1 : Int) else 0) = 1) := show _ = _ from if_pos (.inl h1)
      go_enter Try.func43, Try.ntmps43
      go_wp2_with fail
      refine (HPRE.out _).mono ?_
      rw [HQ.out]
      rintro e w' ⟨rfl, rfl⟩
      go_wp2_with fail
      go_ret
      refine ⟨?_, boxBelow _ _⟩
      rw [HC.out, HQ.out, HV.out]
      rfl
    · have HV : Hid ((if a < 0 ∨ a > 127 then (1 : Int) else 0) = 1) := show _ = _ from if_pos (.inr h2)
      go_enter Try.func43, Try.ntmps43
      go_wp2_with fail
      refine (HPRE.out _).mono ?_
      rw [HQ.out]
      rintro e w' ⟨rfl, rfl⟩
      go_wp2_with fail
      go_ret
      refine ⟨?_, boxBelow _ _⟩
      rw [HC.out, HQ.out, HV.out]
      rfl
    · have HV : Hid ((if a < 0 ∨ a > 127 then (1 : Int) else 0) = 0) := show _ = _ from if_neg (by omega)
      go_enter Try.func43, Try.ntmps43
      go_wp2_with fail
      refine (HPRE.out _).mono ?_
      rw [HQ.out]
      rintro e w' ⟨rfl, rfl⟩
      go_wp2_with fail
      go_ret
      refine ⟨?_, boxBelow _ _⟩
      rw [HC.out, HQ.out, HV.out]
      rfl
theorem firstErr_cons (r : RuleM) (l : List RuleM) : firstErr (r :: l) = if checkRuleM r = 0 then firstErr l else checkRuleM r := rfl
theorem drop_at {α : Type} {l : List α} {k : Nat} (h : k < l.length) : l.drop k = l[k] :: l.drop (k + 1) := List.drop_eq_getElem_cons h
set_option maxRecDepth 100000 in
set_option maxHeartbeats 2000000 in
theorem checkRules_any (l : List RuleM) (n : Nat) (p : Option Addr) (cap : Nat) (w : World) (hln : l.length = n) (hl : n < 1000000) (hL : RulesAt w p l) (hok : ∀ r ∈ l, r.Ok) :
    Calls Try.prog 22 #[.slice p n cap] w (ReturnsZ (checkRulesM l) w) := by
  have HL := Lib.hid hL; clear hL
  have HN := Lib.hid hln
  have HOK := Lib.hid hok; clear hok
  by_cases h8 : n > 8
  · have HC : Hid (checkRulesM l = 3) := show _ = _ from by unfold checkRulesM; rw [hln, if_pos h8]
    clear hln
    have q : (n : Int) > 8 := by omega
    go_enter Try.func22, Try.ntmps22
    go_wp2_with fail
    go_ret
    refine ⟨?_, Below.refl _ _⟩
    rw [HC.out]
    rfl
  have HC : Hid (checkRulesM l = firstErr (l.drop 0)) := show _ = _ from by unfold checkRulesM; rw [hln, if_neg h8]; rfl
  clear hln
  have q : ¬ (n : Int) > 8 := by omega
  go_enter Try.func22, Try.ntmps22
  go_wp2_with fail
  go_loopw [11] (fun i wr => ∃ k : Nat, k ≤ n ∧ i = .int .i64 k ∧ checkRulesM l = firstErr (l.drop k) ∧ Below w.heap.size w wr) (fun i _ => n - (intOf i).toNat)
  case atStart => exact ⟨0, Nat.zero_le _, rfl, HC.out, Below.refl _ _⟩
  case round =>
    clear HC
    obtain ⟨k, hk, rfl, hc, hb⟩ := hrel
    have HC := Lib.hid hc; clear hc
    by_cases hlt : k < n
    · have hlt' : k < l.length := by rw [HN.out]; exact hlt
      rcases HL.out.at' with h0 | ⟨b, off, rfl, hr⟩
      · exfalso; rw [h0] at hlt'; simp at hlt'
      have hrk := range_keep (hr k hlt') hb
      have HD := Lib.hid (drop_at hlt')
      have HXO := Lib.hid (HOK.out l[k] (List.getElem_mem hlt')).ps
      generalize l[k] = x at hrk HD HXO
      have HR := Lib.hid hrk; clear hrk hr hlt'
      have HKL := Lib.hid hlt
      have HB := Lib.hid hb; clear hb
      have HCH : Hid (∀ w, Calls Try.prog 43 #[.agg x.cells.toArray] w (ReturnsZ (checkRuleM x) w)) := show ∀ _, _ from fun w => checkRule_any x w HXO.out
      have HE : Hid (checkRuleM x = checkRuleM x) := show _ = _ from rfl
      obtain ⟨z, hz⟩ : ∃ z, checkRuleM x = z := ⟨_, rfl⟩
      rw [hz] at HCH
      have HZ := Lib.hid hz
      clear hz HE
      obtain ⟨xp, xr⟩ := x
      simp only [RuleM.cells] at HR HCH
      by_cases hz0 : z = 0
      · subst hz0
        have HF : Hid (checkRulesM l = firstErr (l.drop (k + 1))) := show _ = _ from by rw [HC.out, HD.out, firstErr_cons, if_pos HZ.out]
        clear HC HD
        go_wp2_with (first
          | (show wpList _ _ _ (⟨_, .indexAddr _ _ _, _, _, _, _⟩ :: _) _ _; refine wpList_run (by rfl) (ruleT.run_ix rfl rfl rfl HKL.out _) ?_)
          | (show wpList _ _ _ (⟨_, .load 34 (.tmp 13), _, _, _, _⟩ :: _) _ _; refine wpList_run (by rfl) (ruleT.run_ld Try.underlying34 rfl rfl rfl rfl HR.out) ?_))
        refine (HCH.out _).mono ?_
        rintro e w1 ⟨rfl, hb1⟩
        have HB1 := Lib.hid (HB.out.trans (((boxBelow wr _).trans (hb1.mono (boxBelow wr _).size)).mono HB.out.size))
        clear hb1
        go_wp2_with fail
        go_roundw
        case rel => exact ⟨k + 1, by omega, by go_num, HF.out, HB1.out⟩
        case measure => simp [intOf]; omega
      · have HF : Hid (checkRulesM l = z) := show _ = _ from by rw [HC.out, HD.out, firstErr_cons, if_neg (by rw [HZ.out]; exact hz0), HZ.out]
        clear HC HD HZ
        go_wp2_with (first
          | (show wpList _ _ _ (⟨_, .indexAddr _ _ _, _, _, _, _⟩ :: _) _ _; refine wpList_run (by rfl) (ruleT.run_ix rfl rfl rfl HKL.out _) ?_)
          | (show wpList _ _ _ (⟨_, .load 34 (.tmp 13), _, _, _, _⟩ :: _) _ _; refine wpList_run (by rfl) (ruleT.run_ld Try.underlying34 rfl rfl rfl rfl HR.out) ?_))
        refine (HCH.out _).mono ?_
        rintro e w1 ⟨rfl, hb1⟩
        have HB1 := Lib.hid (HB.out.trans (((boxBelow wr _).trans (hb1.mono (boxBelow wr _).size)).mono HB.out.size))
        clear hb1
        go_wp2_with fail
        go_ret
        refine ⟨?_, HB1.out⟩
        rw [HF.out]
        rfl
    · have HF : Hid (checkRulesM l = 0) := show _ = _ from by rw [HC.out, List.drop_of_length_le (by rw [HN.out]; omega)]; rfl
      have HB := Lib.hid hb; clear hb
      go_wp2_with fail
      go_ret
      refine ⟨?_, HB.out⟩
      rw [HF.out]
      rfl
theorem checkRule_10 {p : ByteArray} {r : Int} (h : preOk p = false) : checkRuleM ⟨p, r⟩ = 10 := by unfold checkRuleM; rw [if_pos h]
theorem checkRule_1 {p : ByteArray} {r : Int} (h : preOk p = true) (h2 : r < 0 ∨ r > 127) : checkRuleM ⟨p, r⟩ = 1 := by unfold checkRuleM; rw [if_neg (by rw [h]; decide), if_pos h2]
theorem checkRule_0 {p : ByteArray} {r : Int} (h : preOk p = true) (h2 : ¬ (r < 0 ∨ r > 127)) : checkRuleM ⟨p, r⟩ = 0 := by unfold checkRuleM; rw [if_neg (by rw [h]; decide), if_neg h2]
theorem rule_cells {w : World} {b o : Nat} {p : ByteArray} {r : Int} (h : w.rangeAt b o [.string p, .int .i64 r]) : w.cell? ⟨b, o, none⟩ = some (.string p) ∧ w.cell? ⟨b, o + 1, none⟩ = some (.int .i64 r) := ⟨h 0 _ rfl, h 1 _ rfl⟩
set_option maxRecDepth 100000 in
set_option maxHeartbeats 4000000 in
theorem refCheckRules_any (l : List RuleM) (n : Nat) (p : Option Addr) (cap : Nat) (w : World) (hln : l.length = n) (hl : n < 1000000) (hL : RulesAt w p l) (hok : ∀ r ∈ l, r.Ok) :
    Calls Try.prog 23 #[.slice p n cap] w (ReturnsZ (checkRulesM l) w) := by
  have HL := Lib.hid hL; clear hL
  have HN := Lib.hid hln
  have HOK := Lib.hid hok; clear hok
  by_cases h8 : n > 8
  · have HC : Hid (checkRulesM l = 3) := show _ = _ from by unfold checkRulesM; rw [hln, if_pos h8]
    clear hln
    have q : (n : Int) > 8 := by omega
    go_enter Try.func23, Try.ntmps23
    go_wp2_with fail
    go_ret
    refine ⟨?_, Below.refl _ _⟩
    rw [HC.out]
    rfl
  have HC : Hid (checkRulesM l = firstErr (l.drop 0)) := show _ = _ from by unfold checkRulesM; rw [hln, if_neg h8]; rfl
  clear hln
  have q : ¬ (n : Int) > 8 := by omega
  go_enter Try.func23, Try.ntmps23
  go_wp2_with fail
  go_loopw [3] (fun i wr => ∃ k : Nat, k ≤ n ∧ i = .int .i64 k ∧ checkRulesM l = firstErr (l.drop k) ∧ Below w.heap.size w wr) (fun i _ => n - (intOf i).toNat)
  case atStart => exact ⟨0, Nat.zero_le _, rfl, HC.out, Below.refl _ _⟩
  case round =>
    clear HC
    obtain ⟨k, hk, rfl, hc, hb⟩ := hrel
    have HC := Lib.hid hc; clear hc
    by_cases hlt : k < n
    · have hlt' : k < l.length := by rw [HN.out]; exact hlt
      rcases HL.out.at' with h0 | ⟨b, off, rfl, hr⟩
      · exfalso; rw [h0] at hlt'; simp at hlt'
      have hrk := range_keep (hr k hlt') hb
      have HD := Lib.hid (drop_at hlt')
      have HXO := Lib.hid (HOK.out l[k] (List.getElem_mem hlt')).ps
      generalize l[k] = x at hrk HD HXO
      obtain ⟨xp, xr⟩ := x
      simp only [RuleM.cells] at hrk HXO
      obtain ⟨c0, c1⟩ := rule_cells hrk
      clear hrk hr hlt'
      have HKL := Lib.hid hlt
      have HB := Lib.hid hb; clear hb
      have HPRE : Hid (∀ w, Calls Try.prog 35 #[.string xp] w (ReturnsB (preOk xp) w)) := show ∀ _, _ from fun w => refPre_any xp w HXO.out
      cases hp : preOk xp
      · have HQ := Lib.hid hp
        have HF : Hid (checkRulesM l = 10) := show _ = _ from by rw [HC.out, HD.out, firstErr_cons, checkRule_10 hp]; rfl
        clear hp HC HD
        go_wp2_with (show wpList _ _ _ (⟨_, .indexAddr _ _ _, _, _, _, _⟩ :: _) _ _; refine wpList_run (by rfl) (ruleT.run_ix rfl rfl rfl HKL.out _) ?_)
        refine (HPRE.out _).mono ?_
        rw [HQ.out]
        rintro e w' ⟨rfl, rfl⟩
        go_wp2_with fail
        go_ret
        refine ⟨?_, HB.out⟩
        rw [HF.out]
        rfl
      · have HQ := Lib.hid hp
        by_cases hbad : xr < 0 ∨ xr > 127
        · have HF : Hid (checkRulesM l = 1) := show _ = _ from by rw [HC.out, HD.out, firstErr_cons, checkRule_1 hp hbad]; rfl
          clear hp HC HD
          have hbad2 : xr < 0 ∨ (¬ xr < 0 ∧ xr > 127) := by omega
          clear hbad
          rcases hbad2 with h1 | ⟨h1, h2⟩
          all_goals
            go_wp2_with (show wpList _ _ _ (⟨_, .indexAddr _ _ _, _, _, _, _⟩ :: _) _ _; refine wpList_run (by rfl) (ruleT.run_ix rfl rfl rfl HKL.out _) ?_)
            refine (HPRE.out _).mono ?_
            rw [HQ.out]
            rintro e w' ⟨rfl, rfl⟩
            go_wp2_with (show wpList _ _ _ (⟨_, .indexAddr _ _ _, _, _, _, _⟩ :: _) _ _; refine wpList_run (by rfl) (ruleT.run_ix rfl rfl rfl HKL.out _) ?_)
            go_ret
            refine ⟨?_, HB.out⟩
            rw [HF.out]
            rfl
        · have HF : Hid (checkRulesM l = firstErr (l.drop (k + 1))) := show _ = _ from by rw [HC.out, HD.out, firstErr_cons, checkRule_0 hp hbad, if_pos rfl]
          clear hp HC HD
          have h1 : ¬ xr < 0 := by omega
          have h2 : ¬ xr > 127 := by omega
          clear hbad
          go_wp2_with (show wpList _ _ _ (⟨_, .indexAddr _ _ _, _, _, _, _⟩ :: _) _ _; refine wpList_run (by rfl) (ruleT.run_ix rfl rfl rfl HKL.out _) ?_)
          refine (HPRE.out _).mono ?_
          rw [HQ.out]
          rintro e w' ⟨rfl, rfl⟩
          go_wp2_with (show wpList _ _ _ (⟨_, .indexAddr _ _ _, _, _, _, _⟩ :: _) _ _; refine wpList_run (by rfl) (ruleT.run_ix rfl rfl rfl HKL.out _) ?_)
          go_roundw
          case rel => exact ⟨k + 1, by omega, by go_num, HF.out, HB.out⟩
          case measure => simp [intOf]; omega
    · have HF : Hid (checkRulesM l = 0) := show _ = _ from by rw [HC.out, List.drop_of_length_le (by rw [HN.out]; omega)]; rfl
      have HB := Lib.hid hb; clear hb
      go_wp2_with fail
      go_ret
      refine ⟨?_, HB.out⟩
      rw [HF.out]
      rfl
end Go.Proofs.Ytkfkdomjjepmdaa

/-
  What rules leave: the program's and the document's (gen_rtallowed.py).
-/
namespace Go.Proofs.Ytkfkdomjjepmdaa
open Go.RowKit Go.Proofs.ShaWords
section
variable {ρ : Operand → Value} {o : Oper} {x y : Operand}
theorem run_fieldR {b off f : Nat} (hf : f < 2) (ho : o.op = .fieldAddr 34 x f) (hx : ρ x = .pointer (some ⟨b, off, none⟩)) (w : World) : (execOp ρ o).run Try.prog w = .ok (.value (.pointer (some ⟨b, off + f, none⟩))) w := by
  obtain ⟨dst, op, ty', pos, after, guard⟩ := o
  simp only at ho
  subst ho
  obtain rfl | rfl : f = 0 ∨ f = 1 := by omega
  all_goals go_simp
theorem run_lenS {s : ByteArray} (ho : o.op = .call { callee := .builtin .len, args := #[x], argTypes := #[9] }) (hx : ρ x = .string s) (w : World) : (execOp ρ o).run Try.prog w = .ok (.value (.int .i64 (s.size : Int))) w := by
  obtain ⟨dst, op, ty', pos, after, guard⟩ := o
  simp only at ho
  subst ho
  go_simp
theorem r_lssV {a b : Int} {v : Bool} {ty : TypeId} (hv : decide (a < b) = v) (ho : o.op = .binOp .lss 3 x y ty) (hx : ρ x = .int .i64 a) (hy : ρ y = .int .i64 b) (w : World) : (execOp ρ o).run Try.prog w = .ok (.value (.bool v)) w := by
  obtain ⟨dst, op, ty', pos, after, guard⟩ := o
  simp only at ho
  subst ho
  subst hv
  go_simp
theorem r_gtrV {a b : Int} {v : Bool} {ty : TypeId} (hv : decide (a > b) = v) (ho : o.op = .binOp .gtr 3 x y ty) (hx : ρ x = .int .i64 a) (hy : ρ y = .int .i64 b) (w : World) : (execOp ρ o).run Try.prog w = .ok (.value (.bool v)) w := by
  obtain ⟨dst, op, ty', pos, after, guard⟩ := o
  simp only at ho
  subst ho
  subst hv
  go_simp
end
theorem stepM_no {s : ByteArray} {x : Int × Int} {p : ByteArray} {r : Int} (h : ¬ ((p.size : Int) > x.2 ∧ begS s p = true)) : stepM s x ⟨p, r⟩ = x := by unfold stepM; rw [if_neg h]
theorem stepM_yes {s : ByteArray} {x : Int × Int} {p : ByteArray} {r : Int} (h : (p.size : Int) > x.2) (h2 : begS s p = true) : stepM s x ⟨p, r⟩ = (r, (p.size : Int)) := by unfold stepM; rw [if_pos ⟨h, h2⟩]
theorem bestM_take {l : List RuleM} {k : Nat} (s : ByteArray) (h : k < l.length) : bestM (l.take (k + 1)) s = stepM s (bestM (l.take k) s) l[k] := by rw [List.take_succ_eq_append_getElem h, bestM_snoc]
theorem hasZ_all (r : Int) : hasZ (-1) r = true := by
  unfold hasZ
  have h : BitVec.ofInt 64 (-1) = BitVec.allOnes 64 := by decide +kernel
  rw [h, BitVec.allOnes_and]
  exact decide_eq_true rfl
structure AtK (l : List RuleM) (s : ByteArray) (n k : Nat) (B : Int × Int) (W w : World) : Prop where
  le : k ≤ n
  is : bestM (l.take k) s = B
  low : -1 ≤ B.2 ∧ B.2 ≤ 140737488351232
  below : Below W.heap.size W w
set_option maxRecDepth 100000 in
set_option maxHeartbeats 4000000 in
theorem allowed_any (l : List RuleM) (n : Nat) (p : Option Addr) (cap : Nat) (r : Int) (s : ByteArray) (w : World) (hln : l.length = n) (hl : n < 1000000) (hL : RulesAt w p l) (hok : ∀ r ∈ l, r.Ok) (hr : wrap64 r = r) :
    Calls Try.prog 24 #[.slice p n cap, .int .i64 r, .string s] w (ReturnsG (allowedM l r s) w) := by
  have HL := Lib.hid hL; clear hL
  have HN := Lib.hid hln; clear hln
  have HOK := Lib.hid hok; clear hok
  have HRW := Lib.hid hr; clear hr
  go_enter Try.func24, Try.ntmps24
  go_wp2_with fail
  go_loopw [7, 8, 13] (fun x y i wr => ∃ (k : Nat) (B : Int × Int), i = .int .i64 k ∧ x = .int .i64 B.1 ∧ y = .int .i64 B.2 ∧ AtK l s n k B w wr) (fun _ _ i _ => n - (intOf i).toNat)
  case atStart => exact ⟨0, (-1, -1), rfl, rfl, rfl, ⟨Nat.zero_le _, rfl, by omega, Below.refl _ _⟩⟩
  case round =>
    obtain ⟨k, ⟨R, L⟩, rfl, rfl, rfl, hat⟩ := hrel
    have hkn := hat.le
    have hL1 := hat.low.1
    have hL2 := hat.low.2
    simp only at hL1 hL2 ⊢
    have HA := Lib.hid hat
    clear hat
    by_cases hlt : k < n
    · have hlt' : k < l.length := by rw [HN.out]; exact hlt
      rcases HL.out.at' with h0 | ⟨b, off, rfl, hrr⟩
      · exfalso; rw [h0] at hlt'; simp at hlt'
      have hrk := range_keep (hrr k hlt') HA.out.below
      have HBT := Lib.hid (bestM_take s hlt')
      have HXO := Lib.hid (HOK.out l[k] (List.getElem_mem hlt')).ps
      generalize l[k] = x at hrk HBT HXO
      obtain ⟨xp, xr⟩ := x
      simp only [RuleM.cells] at hrk HXO
      have HR := Lib.hid hrk; clear hrk hrr hlt'
      have HKL := Lib.hid hlt
      have hxs := HXO.out
      have hx0 : 0 ≤ (xp.size : Int) := by omega
      by_cases hgt : (xp.size : Int) > L
      · cases hbg : begS s xp
        · have HQ := Lib.hid hbg
          have HF : Hid (AtK l s n (k + 1) (R, L) w wr) := show AtK _ _ _ _ _ _ _ from ⟨by omega, by rw [HBT.out, HA.out.is, stepM_no (by rw [hbg]; simp)], ⟨hL1, hL2⟩, HA.out.below⟩
          clear hbg HBT HA
          go_wp2_with (first
            | (show wpList _ _ _ (⟨_, .indexAddr _ _ _, _, _, _, _⟩ :: _) _ _; refine wpList_run (by rfl) (ruleT.run_ix rfl rfl rfl HKL.out _) ?_)
            | (show wpList _ _ _ (⟨_, .load 34 (.tmp 15), _, _, _, _⟩ :: _) _ _; refine wpList_run (by rfl) (ruleT.run_ld Try.underlying34 rfl rfl rfl rfl HR.out) ?_))
          refine (hasPrefix_any s xp _).mono ?_
          rw [HQ.out]
          rintro e w1 ⟨rfl, rfl⟩
          have HB1 := Lib.hid (HF.out.below.trans ((boxBelow wr (.cells #[.string xp, .int .i64 xr] 34)).mono HF.out.below.size))
          go_wp2_with fail
          go_roundw
          case rel => exact ⟨k + 1, (R, L), by go_num, rfl, rfl, ⟨HF.out.le, HF.out.is, HF.out.low, HB1.out⟩⟩
          case measure => simp [intOf]; omega
        · have HQ := Lib.hid hbg
          have HF : Hid (AtK l s n (k + 1) (xr, (xp.size : Int)) w wr) := show AtK _ _ _ _ _ _ _ from ⟨by omega, by rw [HBT.out, HA.out.is, stepM_yes hgt hbg], ⟨by show _ ≤ (xp.size : Int); omega, by show (xp.size : Int) ≤ _; omega⟩, HA.out.below⟩
          clear hbg HBT HA
          go_wp2_with (first
            | (show wpList _ _ _ (⟨_, .indexAddr _ _ _, _, _, _, _⟩ :: _) _ _; refine wpList_run (by rfl) (ruleT.run_ix rfl rfl rfl HKL.out _) ?_)
            | (show wpList _ _ _ (⟨_, .load 34 (.tmp 15), _, _, _, _⟩ :: _) _ _; refine wpList_run (by rfl) (ruleT.run_ld Try.underlying34 rfl rfl rfl rfl HR.out) ?_))
          refine (hasPrefix_any s xp _).mono ?_
          rw [HQ.out]
          rintro e w1 ⟨rfl, rfl⟩
          have HB1 := Lib.hid (HF.out.below.trans ((boxBelow wr (.cells #[.string xp, .int .i64 xr] 34)).mono HF.out.below.size))
          go_wp2_with fail
          go_quiet (fail)
          go_wp2_with fail
          go_roundw
          case rel => exact ⟨k + 1, (xr, (xp.size : Int)), by go_num, rfl, rfl, ⟨HF.out.le, HF.out.is, HF.out.low, HB1.out.trans ⟨rfl, rfl, rfl, Nat.le_refl _, fun _ _ => rfl⟩⟩⟩
          case measure => simp [intOf]; omega
      · have HF : Hid (AtK l s n (k + 1) (R, L) w wr) := show AtK _ _ _ _ _ _ _ from ⟨by omega, by rw [HBT.out, HA.out.is, stepM_no (fun h => hgt h.1)], ⟨hL1, hL2⟩, HA.out.below⟩
        clear HBT HA
        go_wp2_with (first
          | (show wpList _ _ _ (⟨_, .indexAddr _ _ _, _, _, _, _⟩ :: _) _ _; refine wpList_run (by rfl) (ruleT.run_ix rfl rfl rfl HKL.out _) ?_)
          | (show wpList _ _ _ (⟨_, .load 34 (.tmp 15), _, _, _, _⟩ :: _) _ _; refine wpList_run (by rfl) (ruleT.run_ld Try.underlying34 rfl rfl rfl rfl HR.out) ?_))
        have HB1 := Lib.hid (HF.out.below.trans ((boxBelow wr (.cells #[.string xp, .int .i64 xr] 34)).mono HF.out.below.size))
        go_roundw
        case rel => exact ⟨k + 1, (R, L), by go_num, rfl, rfl, ⟨HF.out.le, HF.out.is, HF.out.low, HB1.out⟩⟩
        case measure => simp [intOf]; omega
    · have HF : Hid (allowedM l r s = hasZ R r) := show _ = _ from by unfold allowedM; have h := HA.out.is; rw [List.take_of_length_le (by rw [HN.out]; omega)] at h; rw [h]
      go_wp2_with fail
      refine (has_any R r _ HRW.out).mono ?_
      rintro e w' ⟨rfl, rfl⟩
      go_wp2_with fail
      go_ret
      refine ⟨?_, HA.out.below⟩
      rw [HF.out]
      rfl

/-- Which rule is the best so far: none, or the one at a place. -/
inductive RefBest (l : List RuleM) (s : ByteArray) (k : Nat) : Int → Prop
  | none (h : bestM (l.take k) s = (-1, -1)) : RefBest l s k (-1)
  | at (j : Nat) (hj : j < l.length) (h : bestM (l.take k) s = (l[j].rights, (l[j].pre.size : Int))) : RefBest l s k (j : Int)
structure ReadR (b o b2 o2 : Nat) (cs cs2 : List Value) (W w : World) : Prop where
  one : w.rangeAt b o cs
  two : w.rangeAt b2 o2 cs2
  below : Below W.heap.size W w
theorem ReadR.step {b o b2 o2 : Nat} {cs cs2 : List Value} {W w w' : World} (h : ReadR b o b2 o2 cs cs2 W w) (hb : Below w.heap.size w w') : ReadR b o b2 o2 cs cs2 W w' :=
  ⟨range_keep h.one hb, range_keep h.two hb, h.below.trans (hb.mono h.below.size)⟩
set_option maxRecDepth 100000 in
set_option maxHeartbeats 8000000 in
theorem refAllowed_any (l : List RuleM) (n : Nat) (p : Option Addr) (cap : Nat) (r : Int) (s : ByteArray) (w : World) (hln : l.length = n) (hl : n < 1000000) (hL : RulesAt w p l) (hok : ∀ r ∈ l, r.Ok) (hs : s.size ≤ 140737488351232) :
    Calls Try.prog 25 #[.slice p n cap, .int .i64 r, .string s] w (ReturnsG (allowedM l r s) w) := by
  have HL := Lib.hid hL; clear hL
  have HN := Lib.hid hln; clear hln
  have HOK := Lib.hid hok; clear hok
  have HS := Lib.hid hs; clear hs
  go_enter Try.func25, Try.ntmps25
  go_wp2_with fail
  go_loopw [7, 8] (fun x i wr => ∃ (k : Nat) (B : Int), k ≤ n ∧ i = .int .i64 k ∧ x = .int .i64 B ∧ RefBest l s k B ∧ Below w.heap.size w wr) (fun _ i _ => n - (intOf i).toNat)
  case atStart => exact ⟨0, -1, Nat.zero_le _, rfl, rfl, .none rfl, Below.refl _ _⟩
  case round =>
    obtain ⟨k, B, hk, rfl, rfl, hrb, hb⟩ := hrel
    have HRB := Lib.hid hrb
    have HB := Lib.hid hb
    clear hrb hb
    by_cases hlt : k < n
    · have hlt' : k < l.length := by rw [HN.out]; exact hlt
      have HKL := Lib.hid hlt
      rcases HL.out.at' with h0 | ⟨b, off, rfl, hrr⟩
      · exfalso; rw [h0] at hlt'; simp at hlt'
      have HRR := Lib.hid hrr
      have hrk := range_keep (hrr k hlt') HB.out
      have HBT := Lib.hid (bestM_take s hlt')
      have hxo := HOK.out l[k] (List.getElem_mem hlt')
      generalize hx : l[k] = x at hrk HBT hxo
      have HXE := Lib.hid hx
      clear hx
      obtain ⟨xp, xr⟩ := x
      simp only [RuleM.cells] at hrk
      have HXO := Lib.hid hxo
      clear hxo hrr
      have HBG : Hid (∀ w, Calls Try.prog 40 #[.string s, .string xp] w fun e w' => e = .returned (.bool (begS s xp)) ∧ Below w.heap.size w w') := show ∀ _, _ from fun w => refBegins_any s xp w HS.out
      cases hbg : begS s xp
      · have HQ := Lib.hid hbg
        rw [hbg] at HBG
        have HF : Hid (RefBest l s (k + 1) B) := show RefBest _ _ _ _ from by
          have hst := HBT.out
          rw [stepM_no (by rw [hbg]; simp)] at hst
          cases HRB.out with
          | none h => exact .none (by rw [hst, h])
          | «at» j hj h => exact .at j hj (by rw [hst, h])
        have HRD : Hid (ReadR b (off + k * 2) b (off + k * 2) [.string xp, .int .i64 xr] [.string xp, .int .i64 xr] w wr) := show ReadR _ _ _ _ _ _ _ _ from ⟨hrk, hrk, HB.out⟩
        clear hbg hrk HXE hlt' HBT HRB
        go_upto_region 5 with (fail)
        refine region_phase (fun wr => ReadR b (off + k * 2) b (off + k * 2) [.string xp, .int .i64 xr] [.string xp, .int .i64 xr] w wr) (fun _ => True) 99 (HRD.out.step (Below.refl _ _).drew) trivial [(0, .free), (1, .free), (2, .free), (3, .free), (4, .free), (5, .free), (6, .behind), (7, .free), (8, .free), (9, .free), (10, .free), (11, .free), (12, .free), (13, .free), (14, .free), (15, .free), (16, .free), (17, .free), (18, .free), (19, .free), (20, .free), (21, .free), (22, .free), (23, .free), (24, .free), (25, .free)] (by kernel_rfl) (by kernel_rfl) (by kernel_rfl) (by kernel_rfl) (fun ops hops A hA => ?_)
        have hsz : A.tmps.size = 53 := by rw [hA]; rfl
        have base0 : A.eval (.tmp 0) = .slice (some ⟨b, off, none⟩) n cap := by rw [hA]; rfl
        have base2 : A.eval (.tmp 2) = .string s := by rw [hA]; rfl
        have base7 : A.eval (.tmp 7) = .int .i64 B := by rw [hA]; rfl
        have base8 : A.eval (.tmp 8) = .int .i64 (k : Int) := by rw [hA]; rfl
        have HAA := Lib.hid hA; clear hA
        obtain ⟨o0, po0, q0, d0, gd0⟩ : ∃ o, ops[0]? = some o ∧ o.op = .move (.tmp 2) ∧ o.dst = some 15 ∧ o.guard = none := ⟨_, by rw [hops]; rfl, rfl, rfl, rfl⟩
        obtain ⟨o1, po1, q1, d1, gd1⟩ : ∃ o, ops[1]? = some o ∧ o.op = .move (.tmp 0) ∧ o.dst = some 16 ∧ o.guard = none := ⟨_, by rw [hops]; rfl, rfl, rfl, rfl⟩
        obtain ⟨o2, po2, q2, d2, gd2⟩ : ∃ o, ops[2]? = some o ∧ o.op = .move (.tmp 8) ∧ o.dst = some 17 ∧ o.guard = none := ⟨_, by rw [hops]; rfl, rfl, rfl, rfl⟩
        obtain ⟨o3, po3, q3, d3, gd3⟩ : ∃ o, ops[3]? = some o ∧ o.op = .indexAddr 32 (.tmp 16) (.tmp 17) ∧ o.dst = some 18 ∧ o.guard = none := ⟨_, by rw [hops]; rfl, rfl, rfl, rfl⟩
        obtain ⟨o4, po4, q4, d4, gd4⟩ : ∃ o, ops[4]? = some o ∧ o.op = .fieldAddr 34 (.tmp 18) 0 ∧ o.dst = some 19 ∧ o.guard = none := ⟨_, by rw [hops]; rfl, rfl, rfl, rfl⟩
        obtain ⟨o5, po5, q5, d5, gd5⟩ : ∃ o, ops[5]? = some o ∧ o.op = .load 9 (.tmp 19) ∧ o.dst = some 20 ∧ o.guard = none := ⟨_, by rw [hops]; rfl, rfl, rfl, rfl⟩
        obtain ⟨o6, po6, q6, d6, gd6⟩ : ∃ o, ops[6]? = some o ∧ o.op = .call { callee := .value (.func 40), args := #[.tmp 15, .tmp 20], argTypes := #[9, 9] } ∧ o.dst = some 21 ∧ o.guard = none := ⟨_, by rw [hops]; rfl, rfl, rfl, rfl⟩
        obtain ⟨o7, po7, q7, d7, gd7⟩ : ∃ o, ops[7]? = some o ∧ o.op = .move (.tmp 21) ∧ o.dst = some 22 ∧ o.guard = none := ⟨_, by rw [hops]; rfl, rfl, rfl, rfl⟩
        obtain ⟨o8, po8, q8, d8, gd8⟩ : ∃ o, ops[8]? = some o ∧ o.op = .move (.tmp 7) ∧ o.dst = some 23 ∧ o.guard = some (7, true) := ⟨_, by rw [hops]; rfl, rfl, rfl, rfl⟩
        obtain ⟨o9, po9, q9, d9, gd9⟩ : ∃ o, ops[9]? = some o ∧ o.op = .binOp .lss 3 (.tmp 23) (.const (.int .i64 0)) 3 ∧ o.dst = some 24 ∧ o.guard = some (7, true) := ⟨_, by rw [hops]; rfl, rfl, rfl, rfl⟩
        obtain ⟨o10, po10, q10, d10, gd10⟩ : ∃ o, ops[10]? = some o ∧ o.op = .move (.tmp 24) ∧ o.dst = some 25 ∧ o.guard = some (7, true) := ⟨_, by rw [hops]; rfl, rfl, rfl, rfl⟩
        obtain ⟨o11, po11, q11, d11, gd11⟩ : ∃ o, ops[11]? = some o ∧ o.op = .move (.tmp 0) ∧ o.dst = some 26 ∧ o.guard = some (10, false) := ⟨_, by rw [hops]; rfl, rfl, rfl, rfl⟩
        obtain ⟨o12, po12, q12, d12, gd12⟩ : ∃ o, ops[12]? = some o ∧ o.op = .move (.tmp 8) ∧ o.dst = some 27 ∧ o.guard = some (10, false) := ⟨_, by rw [hops]; rfl, rfl, rfl, rfl⟩
        obtain ⟨o13, po13, q13, d13, gd13⟩ : ∃ o, ops[13]? = some o ∧ o.op = .indexAddr 32 (.tmp 26) (.tmp 27) ∧ o.dst = some 28 ∧ o.guard = some (10, false) := ⟨_, by rw [hops]; rfl, rfl, rfl, rfl⟩
        obtain ⟨o14, po14, q14, d14, gd14⟩ : ∃ o, ops[14]? = some o ∧ o.op = .fieldAddr 34 (.tmp 28) 0 ∧ o.dst = some 29 ∧ o.guard = some (10, false) := ⟨_, by rw [hops]; rfl, rfl, rfl, rfl⟩
        obtain ⟨o15, po15, q15, d15, gd15⟩ : ∃ o, ops[15]? = some o ∧ o.op = .load 9 (.tmp 29) ∧ o.dst = some 30 ∧ o.guard = some (10, false) := ⟨_, by rw [hops]; rfl, rfl, rfl, rfl⟩
        obtain ⟨o16, po16, q16, d16, gd16⟩ : ∃ o, ops[16]? = some o ∧ o.op = .call { callee := .builtin .len, args := #[.tmp 30], argTypes := #[9] } ∧ o.dst = some 31 ∧ o.guard = some (10, false) := ⟨_, by rw [hops]; rfl, rfl, rfl, rfl⟩
        obtain ⟨o17, po17, q17, d17, gd17⟩ : ∃ o, ops[17]? = some o ∧ o.op = .move (.tmp 0) ∧ o.dst = some 32 ∧ o.guard = some (10, false) := ⟨_, by rw [hops]; rfl, rfl, rfl, rfl⟩
        obtain ⟨o18, po18, q18, d18, gd18⟩ : ∃ o, ops[18]? = some o ∧ o.op = .move (.tmp 7) ∧ o.dst = some 33 ∧ o.guard = some (10, false) := ⟨_, by rw [hops]; rfl, rfl, rfl, rfl⟩
        obtain ⟨o19, po19, q19, d19, gd19⟩ : ∃ o, ops[19]? = some o ∧ o.op = .indexAddr 32 (.tmp 32) (.tmp 33) ∧ o.dst = some 34 ∧ o.guard = some (10, false) := ⟨_, by rw [hops]; rfl, rfl, rfl, rfl⟩
        obtain ⟨o20, po20, q20, d20, gd20⟩ : ∃ o, ops[20]? = some o ∧ o.op = .fieldAddr 34 (.tmp 34) 0 ∧ o.dst = some 35 ∧ o.guard = some (10, false) := ⟨_, by rw [hops]; rfl, rfl, rfl, rfl⟩
        obtain ⟨o21, po21, q21, d21, gd21⟩ : ∃ o, ops[21]? = some o ∧ o.op = .load 9 (.tmp 35) ∧ o.dst = some 36 ∧ o.guard = some (10, false) := ⟨_, by rw [hops]; rfl, rfl, rfl, rfl⟩
        obtain ⟨o22, po22, q22, d22, gd22⟩ : ∃ o, ops[22]? = some o ∧ o.op = .call { callee := .builtin .len, args := #[.tmp 36], argTypes := #[9] } ∧ o.dst = some 37 ∧ o.guard = some (10, false) := ⟨_, by rw [hops]; rfl, rfl, rfl, rfl⟩
        obtain ⟨o23, po23, q23, d23, gd23⟩ : ∃ o, ops[23]? = some o ∧ o.op = .binOp .gtr 3 (.tmp 31) (.tmp 37) 3 ∧ o.dst = some 38 ∧ o.guard = some (10, false) := ⟨_, by rw [hops]; rfl, rfl, rfl, rfl⟩
        obtain ⟨o24, po24, q24, d24, gd24⟩ : ∃ o, ops[24]? = some o ∧ o.op = .pick (.tmp 25) (.const (.bool true)) (.tmp 38) ∧ o.dst = some 39 ∧ o.guard = some (7, true) := ⟨_, by rw [hops]; rfl, rfl, rfl, rfl⟩
        obtain ⟨o25, po25, q25, d25, gd25⟩ : ∃ o, ops[25]? = some o ∧ o.op = .pick (.tmp 22) (.tmp 39) (.const (.bool false)) ∧ o.dst = some 40 ∧ o.guard = none := ⟨_, by rw [hops]; rfl, rfl, rfl, rfl⟩
        clear hops
        refine met_free po0 d0 (wanted_of gd0) (fun w' h' => run_move q0 base2 w') ?_
        refine met_free po1 d1 (wanted_of gd1) (fun w' h' => run_move q1 ((eval_other _ 15 0 _ (by decide)).trans base0) w') ?_
        refine met_free po2 d2 (wanted_of gd2) (fun w' h' => run_move q2 ((eval_other _ 16 8 _ (by decide)).trans ((eval_other _ 15 8 _ (by decide)).trans base8)) w') ?_
        refine met_free po3 d3 (wanted_of gd3) (fun w' h' => ruleT.run_ix q3 ((eval_other _ 17 16 _ (by decide)).trans (eval_same _ _ _ (by simp only [put_size, hsz]; decide))) (eval_same _ _ _ (by simp only [put_size, hsz]; decide)) HKL.out w') ?_
        refine met_free po4 d4 (wanted_of gd4) (fun w' h' => run_fieldR (by decide) q4 (eval_same _ _ _ (by simp only [put_size, hsz]; decide)) w') ?_
        refine met_free po5 d5 (wanted_of gd5) (fun w' h' => run_loadStr q5 (eval_same _ _ _ (by simp only [put_size, hsz]; decide)) (rule_cells h'.one).1) ?_
        refine m_enter po6 d6 (wanted_of gd6) (run_callf2 q6 rfl ((eval_other _ 20 15 _ (by decide)).trans ((eval_other _ 19 15 _ (by decide)).trans ((eval_other _ 18 15 _ (by decide)).trans ((eval_other _ 17 15 _ (by decide)).trans ((eval_other _ 16 15 _ (by decide)).trans (eval_same _ _ _ (by rw [hsz]; decide))))))) (eval_same _ _ _ (by simp only [put_size, hsz]; decide)) Try.func40 (by kernel_rfl) _) (HBG.out _) ?_
        rintro e w5_1 ⟨rfl, hb⟩
        have HSw5_1 := Lib.hid ((HRD.out.step (Below.refl _ _).drew).step hb)
        clear hb
        refine ⟨_, rfl, HSw5_1.out, ?_⟩
        refine met_free po7 d7 (wanted_of gd7) (fun w' h' => run_move q7 (eval_same _ _ _ (by simp only [put_size, hsz]; decide)) w') ?_
        refine m_unwanted po8 d8 (w_not gd8 po7 d7 (eval_same _ _ _ (by simp only [put_size, hsz]; decide))) ?_
        refine m_unwanted po9 d9 (w_not gd9 po7 d7 ((eval_other _ 23 22 _ (by decide)).trans (eval_same _ _ _ (by simp only [put_size, hsz]; decide)))) ?_
        refine m_unwanted po10 d10 (w_not gd10 po7 d7 ((eval_other _ 24 22 _ (by decide)).trans ((eval_other _ 23 22 _ (by decide)).trans (eval_same _ _ _ (by simp only [put_size, hsz]; decide))))) ?_
        refine m_unwanted po11 d11 (w_undef gd11 po10 d10 (eval_same _ _ _ (by simp only [put_size, hsz]; decide))) ?_
        refine m_unwanted po12 d12 (w_undef gd12 po10 d10 ((eval_other _ 26 25 _ (by decide)).trans (eval_same _ _ _ (by simp only [put_size, hsz]; decide)))) ?_
        refine m_unwanted po13 d13 (w_undef gd13 po10 d10 ((eval_other _ 27 25 _ (by decide)).trans ((eval_other _ 26 25 _ (by decide)).trans (eval_same _ _ _ (by simp only [put_size, hsz]; decide))))) ?_
        refine m_unwanted po14 d14 (w_undef gd14 po10 d10 ((eval_other _ 28 25 _ (by decide)).trans ((eval_other _ 27 25 _ (by decide)).trans ((eval_other _ 26 25 _ (by decide)).trans (eval_same _ _ _ (by simp only [put_size, hsz]; decide)))))) ?_
        refine m_unwanted po15 d15 (w_undef gd15 po10 d10 ((eval_other _ 29 25 _ (by decide)).trans ((eval_other _ 28 25 _ (by decide)).trans ((eval_other _ 27 25 _ (by decide)).trans ((eval_other _ 26 25 _ (by decide)).trans (eval_same _ _ _ (by simp only [put_size, hsz]; decide))))))) ?_
        refine m_unwanted po16 d16 (w_undef gd16 po10 d10 ((eval_other _ 30 25 _ (by decide)).trans ((eval_other _ 29 25 _ (by decide)).trans ((eval_other _ 28 25 _ (by decide)).trans ((eval_other _ 27 25 _ (by decide)).trans ((eval_other _ 26 25 _ (by decide)).trans (eval_same _ _ _ (by simp only [put_size, hsz]; decide)))))))) ?_
        refine m_unwanted po17 d17 (w_undef gd17 po10 d10 ((eval_other _ 31 25 _ (by decide)).trans ((eval_other _ 30 25 _ (by decide)).trans ((eval_other _ 29 25 _ (by decide)).trans ((eval_other _ 28 25 _ (by decide)).trans ((eval_other _ 27 25 _ (by decide)).trans ((eval_other _ 26 25 _ (by decide)).trans (eval_same _ _ _ (by simp only [put_size, hsz]; decide))))))))) ?_
        refine m_unwanted po18 d18 (w_undef gd18 po10 d10 ((eval_other _ 32 25 _ (by decide)).trans ((eval_other _ 31 25 _ (by decide)).trans ((eval_other _ 30 25 _ (by decide)).trans ((eval_other _ 29 25 _ (by decide)).trans ((eval_other _ 28 25 _ (by decide)).trans ((eval_other _ 27 25 _ (by decide)).trans ((eval_other _ 26 25 _ (by decide)).trans (eval_same _ _ _ (by simp only [put_size, hsz]; decide)))))))))) ?_
        refine m_unwanted po19 d19 (w_undef gd19 po10 d10 ((eval_other _ 33 25 _ (by decide)).trans ((eval_other _ 32 25 _ (by decide)).trans ((eval_other _ 31 25 _ (by decide)).trans ((eval_other _ 30 25 _ (by decide)).trans ((eval_other _ 29 25 _ (by decide)).trans ((eval_other _ 28 25 _ (by decide)).trans ((eval_other _ 27 25 _ (by decide)).trans ((eval_other _ 26 25 _ (by decide)).trans (eval_same _ _ _ (by simp only [put_size, hsz]; decide))))))))))) ?_
        refine m_unwanted po20 d20 (w_undef gd20 po10 d10 ((eval_other _ 34 25 _ (by decide)).trans ((eval_other _ 33 25 _ (by decide)).trans ((eval_other _ 32 25 _ (by decide)).trans ((eval_other _ 31 25 _ (by decide)).trans ((eval_other _ 30 25 _ (by decide)).trans ((eval_other _ 29 25 _ (by decide)).trans ((eval_other _ 28 25 _ (by decide)).trans ((eval_other _ 27 25 _ (by decide)).trans ((eval_other _ 26 25 _ (by decide)).trans (eval_same _ _ _ (by simp only [put_size, hsz]; decide)))))))))))) ?_
        refine m_unwanted po21 d21 (w_undef gd21 po10 d10 ((eval_other _ 35 25 _ (by decide)).trans ((eval_other _ 34 25 _ (by decide)).trans ((eval_other _ 33 25 _ (by decide)).trans ((eval_other _ 32 25 _ (by decide)).trans ((eval_other _ 31 25 _ (by decide)).trans ((eval_other _ 30 25 _ (by decide)).trans ((eval_other _ 29 25 _ (by decide)).trans ((eval_other _ 28 25 _ (by decide)).trans ((eval_other _ 27 25 _ (by decide)).trans ((eval_other _ 26 25 _ (by decide)).trans (eval_same _ _ _ (by simp only [put_size, hsz]; decide))))))))))))) ?_
        refine m_unwanted po22 d22 (w_undef gd22 po10 d10 ((eval_other _ 36 25 _ (by decide)).trans ((eval_other _ 35 25 _ (by decide)).trans ((eval_other _ 34 25 _ (by decide)).trans ((eval_other _ 33 25 _ (by decide)).trans ((eval_other _ 32 25 _ (by decide)).trans ((eval_other _ 31 25 _ (by decide)).trans ((eval_other _ 30 25 _ (by decide)).trans ((eval_other _ 29 25 _ (by decide)).trans ((eval_other _ 28 25 _ (by decide)).trans ((eval_other _ 27 25 _ (by decide)).trans ((eval_other _ 26 25 _ (by decide)).trans (eval_same _ _ _ (by simp only [put_size, hsz]; decide)))))))))))))) ?_
        refine m_unwanted po23 d23 (w_undef gd23 po10 d10 ((eval_other _ 37 25 _ (by decide)).trans ((eval_other _ 36 25 _ (by decide)).trans ((eval_other _ 35 25 _ (by decide)).trans ((eval_other _ 34 25 _ (by decide)).trans ((eval_other _ 33 25 _ (by decide)).trans ((eval_other _ 32 25 _ (by decide)).trans ((eval_other _ 31 25 _ (by decide)).trans ((eval_other _ 30 25 _ (by decide)).trans ((eval_other _ 29 25 _ (by decide)).trans ((eval_other _ 28 25 _ (by decide)).trans ((eval_other _ 27 25 _ (by decide)).trans ((eval_other _ 26 25 _ (by decide)).trans (eval_same _ _ _ (by simp only [put_size, hsz]; decide))))))))))))))) ?_
        refine m_unwanted po24 d24 (w_not gd24 po7 d7 ((eval_other _ 38 22 _ (by decide)).trans ((eval_other _ 37 22 _ (by decide)).trans ((eval_other _ 36 22 _ (by decide)).trans ((eval_other _ 35 22 _ (by decide)).trans ((eval_other _ 34 22 _ (by decide)).trans ((eval_other _ 33 22 _ (by decide)).trans ((eval_other _ 32 22 _ (by decide)).trans ((eval_other _ 31 22 _ (by decide)).trans ((eval_other _ 30 22 _ (by decide)).trans ((eval_other _ 29 22 _ (by decide)).trans ((eval_other _ 28 22 _ (by decide)).trans ((eval_other _ 27 22 _ (by decide)).trans ((eval_other _ 26 22 _ (by decide)).trans ((eval_other _ 25 22 _ (by decide)).trans ((eval_other _ 24 22 _ (by decide)).trans ((eval_other _ 23 22 _ (by decide)).trans (eval_same _ _ _ (by simp only [put_size, hsz]; decide))))))))))))))))))) ?_
        refine met_free po25 d25 (wanted_of gd25) (fun w' h' => r_pickF q25 ((eval_other _ 39 22 _ (by decide)).trans ((eval_other _ 38 22 _ (by decide)).trans ((eval_other _ 37 22 _ (by decide)).trans ((eval_other _ 36 22 _ (by decide)).trans ((eval_other _ 35 22 _ (by decide)).trans ((eval_other _ 34 22 _ (by decide)).trans ((eval_other _ 33 22 _ (by decide)).trans ((eval_other _ 32 22 _ (by decide)).trans ((eval_other _ 31 22 _ (by decide)).trans ((eval_other _ 30 22 _ (by decide)).trans ((eval_other _ 29 22 _ (by decide)).trans ((eval_other _ 28 22 _ (by decide)).trans ((eval_other _ 27 22 _ (by decide)).trans ((eval_other _ 26 22 _ (by decide)).trans ((eval_other _ 25 22 _ (by decide)).trans ((eval_other _ 24 22 _ (by decide)).trans ((eval_other _ 23 22 _ (by decide)).trans (eval_same _ _ _ (by simp only [put_size, hsz]; decide))))))))))))))))))) rfl w') ?_
        show NoPanic _ .normal _ _
        refine NoPanic.normal ?_
        rw [HAA.out]
        go_frame
        clear HAA
        clear po0 q0 d0 gd0 po1 q1 d1 gd1 po2 q2 d2 gd2 po3 q3 d3 gd3 po4 q4 d4 gd4 po5 q5 d5 gd5 po6 q6 d6 gd6 po7 q7 d7 gd7 po8 q8 d8 gd8 po9 q9 d9 gd9 po10 q10 d10 gd10 po11 q11 d11 gd11 po12 q12 d12 gd12 po13 q13 d13 gd13 po14 q14 d14 gd14 po15 q15 d15 gd15 po16 q16 d16 gd16 po17 q17 d17 gd17 po18 q18 d18 gd18 po19 q19 d19 gd19 po20 q20 d20 gd20 po21 q21 d21 gd21 po22 q22 d22 gd22 po23 q23 d23 gd23 po24 q24 d24 gd24 po25 q25 d25 gd25
        clear base0 base2 base7 base8 hsz
        go_wp2_with fail
        go_roundw
        case rel => exact ⟨k + 1, B, by omega, by go_num, rfl, HF.out, HSw5_1.out.below⟩
        case measure => simp [intOf]; omega
      · have HQ := Lib.hid hbg
        rw [hbg] at HBG
        have hst := HBT.out
        cases HRB.out with
        | none hbm =>
          have HF : Hid (RefBest l s (k + 1) (k : Int)) := show RefBest _ _ _ _ from .at k hlt' (by rw [hst, hbm, stepM_yes (by show (xp.size : Int) > -1; omega) hbg, HXE.out])
          have HRD : Hid (ReadR b (off + k * 2) b (off + k * 2) [.string xp, .int .i64 xr] [.string xp, .int .i64 xr] w wr) := show ReadR _ _ _ _ _ _ _ _ from ⟨hrk, hrk, HB.out⟩
          clear hbg hrk HXE hlt' HBT HRB hst hbm
          go_upto_region 5 with (fail)
          refine region_phase (fun wr => ReadR b (off + k * 2) b (off + k * 2) [.string xp, .int .i64 xr] [.string xp, .int .i64 xr] w wr) (fun _ => True) 99 (HRD.out.step (Below.refl _ _).drew) trivial [(0, .free), (1, .free), (2, .free), (3, .free), (4, .free), (5, .free), (6, .behind), (7, .free), (8, .free), (9, .free), (10, .free), (11, .free), (12, .free), (13, .free), (14, .free), (15, .free), (16, .free), (17, .free), (18, .free), (19, .free), (20, .free), (21, .free), (22, .free), (23, .free), (24, .free), (25, .free)] (by kernel_rfl) (by kernel_rfl) (by kernel_rfl) (by kernel_rfl) (fun ops hops A hA => ?_)
          have hsz : A.tmps.size = 53 := by rw [hA]; rfl
          have base0 : A.eval (.tmp 0) = .slice (some ⟨b, off, none⟩) n cap := by rw [hA]; rfl
          have base2 : A.eval (.tmp 2) = .string s := by rw [hA]; rfl
          have base7 : A.eval (.tmp 7) = .int .i64 (-1) := by rw [hA]; rfl
          have base8 : A.eval (.tmp 8) = .int .i64 (k : Int) := by rw [hA]; rfl
          have HAA := Lib.hid hA; clear hA
          obtain ⟨o0, po0, q0, d0, gd0⟩ : ∃ o, ops[0]? = some o ∧ o.op = .move (.tmp 2) ∧ o.dst = some 15 ∧ o.guard = none := ⟨_, by rw [hops]; rfl, rfl, rfl, rfl⟩
          obtain ⟨o1, po1, q1, d1, gd1⟩ : ∃ o, ops[1]? = some o ∧ o.op = .move (.tmp 0) ∧ o.dst = some 16 ∧ o.guard = none := ⟨_, by rw [hops]; rfl, rfl, rfl, rfl⟩
          obtain ⟨o2, po2, q2, d2, gd2⟩ : ∃ o, ops[2]? = some o ∧ o.op = .move (.tmp 8) ∧ o.dst = some 17 ∧ o.guard = none := ⟨_, by rw [hops]; rfl, rfl, rfl, rfl⟩
          obtain ⟨o3, po3, q3, d3, gd3⟩ : ∃ o, ops[3]? = some o ∧ o.op = .indexAddr 32 (.tmp 16) (.tmp 17) ∧ o.dst = some 18 ∧ o.guard = none := ⟨_, by rw [hops]; rfl, rfl, rfl, rfl⟩
          obtain ⟨o4, po4, q4, d4, gd4⟩ : ∃ o, ops[4]? = some o ∧ o.op = .fieldAddr 34 (.tmp 18) 0 ∧ o.dst = some 19 ∧ o.guard = none := ⟨_, by rw [hops]; rfl, rfl, rfl, rfl⟩
          obtain ⟨o5, po5, q5, d5, gd5⟩ : ∃ o, ops[5]? = some o ∧ o.op = .load 9 (.tmp 19) ∧ o.dst = some 20 ∧ o.guard = none := ⟨_, by rw [hops]; rfl, rfl, rfl, rfl⟩
          obtain ⟨o6, po6, q6, d6, gd6⟩ : ∃ o, ops[6]? = some o ∧ o.op = .call { callee := .value (.func 40), args := #[.tmp 15, .tmp 20], argTypes := #[9, 9] } ∧ o.dst = some 21 ∧ o.guard = none := ⟨_, by rw [hops]; rfl, rfl, rfl, rfl⟩
          obtain ⟨o7, po7, q7, d7, gd7⟩ : ∃ o, ops[7]? = some o ∧ o.op = .move (.tmp 21) ∧ o.dst = some 22 ∧ o.guard = none := ⟨_, by rw [hops]; rfl, rfl, rfl, rfl⟩
          obtain ⟨o8, po8, q8, d8, gd8⟩ : ∃ o, ops[8]? = some o ∧ o.op = .move (.tmp 7) ∧ o.dst = some 23 ∧ o.guard = some (7, true) := ⟨_, by rw [hops]; rfl, rfl, rfl, rfl⟩
          obtain ⟨o9, po9, q9, d9, gd9⟩ : ∃ o, ops[9]? = some o ∧ o.op = .binOp .lss 3 (.tmp 23) (.const (.int .i64 0)) 3 ∧ o.dst = some 24 ∧ o.guard = some (7, true) := ⟨_, by rw [hops]; rfl, rfl, rfl, rfl⟩
          obtain ⟨o10, po10, q10, d10, gd10⟩ : ∃ o, ops[10]? = some o ∧ o.op = .move (.tmp 24) ∧ o.dst = some 25 ∧ o.guard = some (7, true) := ⟨_, by rw [hops]; rfl, rfl, rfl, rfl⟩
          obtain ⟨o11, po11, q11, d11, gd11⟩ : ∃ o, ops[11]? = some o ∧ o.op = .move (.tmp 0) ∧ o.dst = some 26 ∧ o.guard = some (10, false) := ⟨_, by rw [hops]; rfl, rfl, rfl, rfl⟩
          obtain ⟨o12, po12, q12, d12, gd12⟩ : ∃ o, ops[12]? = some o ∧ o.op = .move (.tmp 8) ∧ o.dst = some 27 ∧ o.guard = some (10, false) := ⟨_, by rw [hops]; rfl, rfl, rfl, rfl⟩
          obtain ⟨o13, po13, q13, d13, gd13⟩ : ∃ o, ops[13]? = some o ∧ o.op = .indexAddr 32 (.tmp 26) (.tmp 27) ∧ o.dst = some 28 ∧ o.guard = some (10, false) := ⟨_, by rw [hops]; rfl, rfl, rfl, rfl⟩
          obtain ⟨o14, po14, q14, d14, gd14⟩ : ∃ o, ops[14]? = some o ∧ o.op = .fieldAddr 34 (.tmp 28) 0 ∧ o.dst = some 29 ∧ o.guard = some (10, false) := ⟨_, by rw [hops]; rfl, rfl, rfl, rfl⟩
          obtain ⟨o15, po15, q15, d15, gd15⟩ : ∃ o, ops[15]? = some o ∧ o.op = .load 9 (.tmp 29) ∧ o.dst = some 30 ∧ o.guard = some (10, false) := ⟨_, by rw [hops]; rfl, rfl, rfl, rfl⟩
          obtain ⟨o16, po16, q16, d16, gd16⟩ : ∃ o, ops[16]? = some o ∧ o.op = .call { callee := .builtin .len, args := #[.tmp 30], argTypes := #[9] } ∧ o.dst = some 31 ∧ o.guard = some (10, false) := ⟨_, by rw [hops]; rfl, rfl, rfl, rfl⟩
          obtain ⟨o17, po17, q17, d17, gd17⟩ : ∃ o, ops[17]? = some o ∧ o.op = .move (.tmp 0) ∧ o.dst = some 32 ∧ o.guard = some (10, false) := ⟨_, by rw [hops]; rfl, rfl, rfl, rfl⟩
          obtain ⟨o18, po18, q18, d18, gd18⟩ : ∃ o, ops[18]? = some o ∧ o.op = .move (.tmp 7) ∧ o.dst = some 33 ∧ o.guard = some (10, false) := ⟨_, by rw [hops]; rfl, rfl, rfl, rfl⟩
          obtain ⟨o19, po19, q19, d19, gd19⟩ : ∃ o, ops[19]? = some o ∧ o.op = .indexAddr 32 (.tmp 32) (.tmp 33) ∧ o.dst = some 34 ∧ o.guard = some (10, false) := ⟨_, by rw [hops]; rfl, rfl, rfl, rfl⟩
          obtain ⟨o20, po20, q20, d20, gd20⟩ : ∃ o, ops[20]? = some o ∧ o.op = .fieldAddr 34 (.tmp 34) 0 ∧ o.dst = some 35 ∧ o.guard = some (10, false) := ⟨_, by rw [hops]; rfl, rfl, rfl, rfl⟩
          obtain ⟨o21, po21, q21, d21, gd21⟩ : ∃ o, ops[21]? = some o ∧ o.op = .load 9 (.tmp 35) ∧ o.dst = some 36 ∧ o.guard = some (10, false) := ⟨_, by rw [hops]; rfl, rfl, rfl, rfl⟩
          obtain ⟨o22, po22, q22, d22, gd22⟩ : ∃ o, ops[22]? = some o ∧ o.op = .call { callee := .builtin .len, args := #[.tmp 36], argTypes := #[9] } ∧ o.dst = some 37 ∧ o.guard = some (10, false) := ⟨_, by rw [hops]; rfl, rfl, rfl, rfl⟩
          obtain ⟨o23, po23, q23, d23, gd23⟩ : ∃ o, ops[23]? = some o ∧ o.op = .binOp .gtr 3 (.tmp 31) (.tmp 37) 3 ∧ o.dst = some 38 ∧ o.guard = some (10, false) := ⟨_, by rw [hops]; rfl, rfl, rfl, rfl⟩
          obtain ⟨o24, po24, q24, d24, gd24⟩ : ∃ o, ops[24]? = some o ∧ o.op = .pick (.tmp 25) (.const (.bool true)) (.tmp 38) ∧ o.dst = some 39 ∧ o.guard = some (7, true) := ⟨_, by rw [hops]; rfl, rfl, rfl, rfl⟩
          obtain ⟨o25, po25, q25, d25, gd25⟩ : ∃ o, ops[25]? = some o ∧ o.op = .pick (.tmp 22) (.tmp 39) (.const (.bool false)) ∧ o.dst = some 40 ∧ o.guard = none := ⟨_, by rw [hops]; rfl, rfl, rfl, rfl⟩
          clear hops
          refine met_free po0 d0 (wanted_of gd0) (fun w' h' => run_move q0 base2 w') ?_
          refine met_free po1 d1 (wanted_of gd1) (fun w' h' => run_move q1 ((eval_other _ 15 0 _ (by decide)).trans base0) w') ?_
          refine met_free po2 d2 (wanted_of gd2) (fun w' h' => run_move q2 ((eval_other _ 16 8 _ (by decide)).trans ((eval_other _ 15 8 _ (by decide)).trans base8)) w') ?_
          refine met_free po3 d3 (wanted_of gd3) (fun w' h' => ruleT.run_ix q3 ((eval_other _ 17 16 _ (by decide)).trans (eval_same _ _ _ (by simp only [put_size, hsz]; decide))) (eval_same _ _ _ (by simp only [put_size, hsz]; decide)) HKL.out w') ?_
          refine met_free po4 d4 (wanted_of gd4) (fun w' h' => run_fieldR (by decide) q4 (eval_same _ _ _ (by simp only [put_size, hsz]; decide)) w') ?_
          refine met_free po5 d5 (wanted_of gd5) (fun w' h' => run_loadStr q5 (eval_same _ _ _ (by simp only [put_size, hsz]; decide)) (rule_cells h'.one).1) ?_
          refine m_enter po6 d6 (wanted_of gd6) (run_callf2 q6 rfl ((eval_other _ 20 15 _ (by decide)).trans ((eval_other _ 19 15 _ (by decide)).trans ((eval_other _ 18 15 _ (by decide)).trans ((eval_other _ 17 15 _ (by decide)).trans ((eval_other _ 16 15 _ (by decide)).trans (eval_same _ _ _ (by rw [hsz]; decide))))))) (eval_same _ _ _ (by simp only [put_size, hsz]; decide)) Try.func40 (by kernel_rfl) _) (HBG.out _) ?_
          rintro e w5_1 ⟨rfl, hb⟩
          have HSw5_1 := Lib.hid ((HRD.out.step (Below.refl _ _).drew).step hb)
          clear hb
          refine ⟨_, rfl, HSw5_1.out, ?_⟩
          refine met_free po7 d7 (wanted_of gd7) (fun w' h' => run_move q7 (eval_same _ _ _ (by simp only [put_size, hsz]; decide)) w') ?_
          refine met_free po8 d8 (wanted_guard gd8 po7 d7 (eval_same _ _ _ (by simp only [put_size, hsz]; decide))) (fun w' h' => run_move q8 ((eval_other _ 22 7 _ (by decide)).trans ((eval_other _ 21 7 _ (by decide)).trans ((eval_other _ 20 7 _ (by decide)).trans ((eval_other _ 19 7 _ (by decide)).trans ((eval_other _ 18 7 _ (by decide)).trans ((eval_other _ 17 7 _ (by decide)).trans ((eval_other _ 16 7 _ (by decide)).trans ((eval_other _ 15 7 _ (by decide)).trans base7)))))))) w') ?_
          refine met_free po9 d9 (wanted_guard gd9 po7 d7 ((eval_other _ 23 22 _ (by decide)).trans (eval_same _ _ _ (by simp only [put_size, hsz]; decide)))) (fun w' h' => r_lssV (v := true) (by decide) q9 (eval_same _ _ _ (by simp only [put_size, hsz]; decide)) rfl w') ?_
          refine met_free po10 d10 (wanted_guard gd10 po7 d7 ((eval_other _ 24 22 _ (by decide)).trans ((eval_other _ 23 22 _ (by decide)).trans (eval_same _ _ _ (by simp only [put_size, hsz]; decide))))) (fun w' h' => run_move q10 (eval_same _ _ _ (by simp only [put_size, hsz]; decide)) w') ?_
          refine m_unwanted po11 d11 (w_notFG gd11 po10 d10 (eval_same _ _ _ (by simp only [put_size, hsz]; decide))) ?_
          refine m_unwanted po12 d12 (w_notFG gd12 po10 d10 ((eval_other _ 26 25 _ (by decide)).trans (eval_same _ _ _ (by simp only [put_size, hsz]; decide)))) ?_
          refine m_unwanted po13 d13 (w_notFG gd13 po10 d10 ((eval_other _ 27 25 _ (by decide)).trans ((eval_other _ 26 25 _ (by decide)).trans (eval_same _ _ _ (by simp only [put_size, hsz]; decide))))) ?_
          refine m_unwanted po14 d14 (w_notFG gd14 po10 d10 ((eval_other _ 28 25 _ (by decide)).trans ((eval_other _ 27 25 _ (by decide)).trans ((eval_other _ 26 25 _ (by decide)).trans (eval_same _ _ _ (by simp only [put_size, hsz]; decide)))))) ?_
          refine m_unwanted po15 d15 (w_notFG gd15 po10 d10 ((eval_other _ 29 25 _ (by decide)).trans ((eval_other _ 28 25 _ (by decide)).trans ((eval_other _ 27 25 _ (by decide)).trans ((eval_other _ 26 25 _ (by decide)).trans (eval_same _ _ _ (by simp only [put_size, hsz]; decide))))))) ?_
          refine m_unwanted po16 d16 (w_notFG gd16 po10 d10 ((eval_other _ 30 25 _ (by decide)).trans ((eval_other _ 29 25 _ (by decide)).trans ((eval_other _ 28 25 _ (by decide)).trans ((eval_other _ 27 25 _ (by decide)).trans ((eval_other _ 26 25 _ (by decide)).trans (eval_same _ _ _ (by simp only [put_size, hsz]; decide)))))))) ?_
          refine m_unwanted po17 d17 (w_notFG gd17 po10 d10 ((eval_other _ 31 25 _ (by decide)).trans ((eval_other _ 30 25 _ (by decide)).trans ((eval_other _ 29 25 _ (by decide)).trans ((eval_other _ 28 25 _ (by decide)).trans ((eval_other _ 27 25 _ (by decide)).trans ((eval_other _ 26 25 _ (by decide)).trans (eval_same _ _ _ (by simp only [put_size, hsz]; decide))))))))) ?_
          refine m_unwanted po18 d18 (w_notFG gd18 po10 d10 ((eval_other _ 32 25 _ (by decide)).trans ((eval_other _ 31 25 _ (by decide)).trans ((eval_other _ 30 25 _ (by decide)).trans ((eval_other _ 29 25 _ (by decide)).trans ((eval_other _ 28 25 _ (by decide)).trans ((eval_other _ 27 25 _ (by decide)).trans ((eval_other _ 26 25 _ (by decide)).trans (eval_same _ _ _ (by simp only [put_size, hsz]; decide)))))))))) ?_
          refine m_unwanted po19 d19 (w_notFG gd19 po10 d10 ((eval_other _ 33 25 _ (by decide)).trans ((eval_other _ 32 25 _ (by decide)).trans ((eval_other _ 31 25 _ (by decide)).trans ((eval_other _ 30 25 _ (by decide)).trans ((eval_other _ 29 25 _ (by decide)).trans ((eval_other _ 28 25 _ (by decide)).trans ((eval_other _ 27 25 _ (by decide)).trans ((eval_other _ 26 25 _ (by decide)).trans (eval_same _ _ _ (by simp only [put_size, hsz]; decide))))))))))) ?_
          refine m_unwanted po20 d20 (w_notFG gd20 po10 d10 ((eval_other _ 34 25 _ (by decide)).trans ((eval_other _ 33 25 _ (by decide)).trans ((eval_other _ 32 25 _ (by decide)).trans ((eval_other _ 31 25 _ (by decide)).trans ((eval_other _ 30 25 _ (by decide)).trans ((eval_other _ 29 25 _ (by decide)).trans ((eval_other _ 28 25 _ (by decide)).trans ((eval_other _ 27 25 _ (by decide)).trans ((eval_other _ 26 25 _ (by decide)).trans (eval_same _ _ _ (by simp only [put_size, hsz]; decide)))))))))))) ?_
          refine m_unwanted po21 d21 (w_notFG gd21 po10 d10 ((eval_other _ 35 25 _ (by decide)).trans ((eval_other _ 34 25 _ (by decide)).trans ((eval_other _ 33 25 _ (by decide)).trans ((eval_other _ 32 25 _ (by decide)).trans ((eval_other _ 31 25 _ (by decide)).trans ((eval_other _ 30 25 _ (by decide)).trans ((eval_other _ 29 25 _ (by decide)).trans ((eval_other _ 28 25 _ (by decide)).trans ((eval_other _ 27 25 _ (by decide)).trans ((eval_other _ 26 25 _ (by decide)).trans (eval_same _ _ _ (by simp only [put_size, hsz]; decide))))))))))))) ?_
          refine m_unwanted po22 d22 (w_notFG gd22 po10 d10 ((eval_other _ 36 25 _ (by decide)).trans ((eval_other _ 35 25 _ (by decide)).trans ((eval_other _ 34 25 _ (by decide)).trans ((eval_other _ 33 25 _ (by decide)).trans ((eval_other _ 32 25 _ (by decide)).trans ((eval_other _ 31 25 _ (by decide)).trans ((eval_other _ 30 25 _ (by decide)).trans ((eval_other _ 29 25 _ (by decide)).trans ((eval_other _ 28 25 _ (by decide)).trans ((eval_other _ 27 25 _ (by decide)).trans ((eval_other _ 26 25 _ (by decide)).trans (eval_same _ _ _ (by simp only [put_size, hsz]; decide)))))))))))))) ?_
          refine m_unwanted po23 d23 (w_notFG gd23 po10 d10 ((eval_other _ 37 25 _ (by decide)).trans ((eval_other _ 36 25 _ (by decide)).trans ((eval_other _ 35 25 _ (by decide)).trans ((eval_other _ 34 25 _ (by decide)).trans ((eval_other _ 33 25 _ (by decide)).trans ((eval_other _ 32 25 _ (by decide)).trans ((eval_other _ 31 25 _ (by decide)).trans ((eval_other _ 30 25 _ (by decide)).trans ((eval_other _ 29 25 _ (by decide)).trans ((eval_other _ 28 25 _ (by decide)).trans ((eval_other _ 27 25 _ (by decide)).trans ((eval_other _ 26 25 _ (by decide)).trans (eval_same _ _ _ (by simp only [put_size, hsz]; decide))))))))))))))) ?_
          refine met_free po24 d24 (wanted_guard gd24 po7 d7 ((eval_other _ 38 22 _ (by decide)).trans ((eval_other _ 37 22 _ (by decide)).trans ((eval_other _ 36 22 _ (by decide)).trans ((eval_other _ 35 22 _ (by decide)).trans ((eval_other _ 34 22 _ (by decide)).trans ((eval_other _ 33 22 _ (by decide)).trans ((eval_other _ 32 22 _ (by decide)).trans ((eval_other _ 31 22 _ (by decide)).trans ((eval_other _ 30 22 _ (by decide)).trans ((eval_other _ 29 22 _ (by decide)).trans ((eval_other _ 28 22 _ (by decide)).trans ((eval_other _ 27 22 _ (by decide)).trans ((eval_other _ 26 22 _ (by decide)).trans ((eval_other _ 25 22 _ (by decide)).trans ((eval_other _ 24 22 _ (by decide)).trans ((eval_other _ 23 22 _ (by decide)).trans (eval_same _ _ _ (by simp only [put_size, hsz]; decide))))))))))))))))))) (fun w' h' => run_pick_true q24 ((eval_other _ 38 25 _ (by decide)).trans ((eval_other _ 37 25 _ (by decide)).trans ((eval_other _ 36 25 _ (by decide)).trans ((eval_other _ 35 25 _ (by decide)).trans ((eval_other _ 34 25 _ (by decide)).trans ((eval_other _ 33 25 _ (by decide)).trans ((eval_other _ 32 25 _ (by decide)).trans ((eval_other _ 31 25 _ (by decide)).trans ((eval_other _ 30 25 _ (by decide)).trans ((eval_other _ 29 25 _ (by decide)).trans ((eval_other _ 28 25 _ (by decide)).trans ((eval_other _ 27 25 _ (by decide)).trans ((eval_other _ 26 25 _ (by decide)).trans (eval_same _ _ _ (by simp only [put_size, hsz]; decide))))))))))))))) rfl w') ?_
          refine met_free po25 d25 (wanted_of gd25) (fun w' h' => run_pick_true q25 ((eval_other _ 39 22 _ (by decide)).trans ((eval_other _ 38 22 _ (by decide)).trans ((eval_other _ 37 22 _ (by decide)).trans ((eval_other _ 36 22 _ (by decide)).trans ((eval_other _ 35 22 _ (by decide)).trans ((eval_other _ 34 22 _ (by decide)).trans ((eval_other _ 33 22 _ (by decide)).trans ((eval_other _ 32 22 _ (by decide)).trans ((eval_other _ 31 22 _ (by decide)).trans ((eval_other _ 30 22 _ (by decide)).trans ((eval_other _ 29 22 _ (by decide)).trans ((eval_other _ 28 22 _ (by decide)).trans ((eval_other _ 27 22 _ (by decide)).trans ((eval_other _ 26 22 _ (by decide)).trans ((eval_other _ 25 22 _ (by decide)).trans ((eval_other _ 24 22 _ (by decide)).trans ((eval_other _ 23 22 _ (by decide)).trans (eval_same _ _ _ (by simp only [put_size, hsz]; decide))))))))))))))))))) (eval_same _ _ _ (by simp only [put_size, hsz]; decide)) w') ?_
          show NoPanic _ .normal _ _
          refine NoPanic.normal ?_
          rw [HAA.out]
          go_frame
          clear HAA
          clear po0 q0 d0 gd0 po1 q1 d1 gd1 po2 q2 d2 gd2 po3 q3 d3 gd3 po4 q4 d4 gd4 po5 q5 d5 gd5 po6 q6 d6 gd6 po7 q7 d7 gd7 po8 q8 d8 gd8 po9 q9 d9 gd9 po10 q10 d10 gd10 po11 q11 d11 gd11 po12 q12 d12 gd12 po13 q13 d13 gd13 po14 q14 d14 gd14 po15 q15 d15 gd15 po16 q16 d16 gd16 po17 q17 d17 gd17 po18 q18 d18 gd18 po19 q19 d19 gd19 po20 q20 d20 gd20 po21 q21 d21 gd21 po22 q22 d22 gd22 po23 q23 d23 gd23 po24 q24 d24 gd24 po25 q25 d25 gd25
          clear base0 base2 base7 base8 hsz
          go_wp2_with fail
          go_roundw
          case rel => exact ⟨k + 1, (k : Int), by omega, by go_num, rfl, HF.out, HSw5_1.out.below⟩
          case measure => simp [intOf]; omega
        | «at» j hj hbm =>
          have hrj := range_keep (HRR.out j hj) HB.out
          have HJN : Hid (j < n) := show _ < _ from by rw [← HN.out]; exact hj
          have hjl := HJN.out
          obtain ⟨yp, yr, hy⟩ : ∃ yp yr, l[j] = ⟨yp, yr⟩ := ⟨_, _, rfl⟩
          rw [hy] at hbm hrj
          simp only [RuleM.cells] at hbm hrj
          by_cases hgt : (xp.size : Int) > (yp.size : Int)
          · have HF : Hid (RefBest l s (k + 1) (k : Int)) := show RefBest _ _ _ _ from .at k hlt' (by rw [hst, hbm, stepM_yes hgt hbg, HXE.out])
            have HRD : Hid (ReadR b (off + k * 2) b (off + j * 2) [.string xp, .int .i64 xr] [.string yp, .int .i64 yr] w wr) := show ReadR _ _ _ _ _ _ _ _ from ⟨hrk, hrj, HB.out⟩
            have HGT := Lib.hid (decide_eq_true hgt)
            clear hbg hrk HXE hlt' HBT HRB hst hbm hgt hrj hy hj
            go_upto_region 5 with (fail)
            refine region_phase (fun wr => ReadR b (off + k * 2) b (off + j * 2) [.string xp, .int .i64 xr] [.string yp, .int .i64 yr] w wr) (fun _ => True) 99 (HRD.out.step (Below.refl _ _).drew) trivial [(0, .free), (1, .free), (2, .free), (3, .free), (4, .free), (5, .free), (6, .behind), (7, .free), (8, .free), (9, .free), (10, .free), (11, .free), (12, .free), (13, .free), (14, .free), (15, .free), (16, .free), (17, .free), (18, .free), (19, .free), (20, .free), (21, .free), (22, .free), (23, .free), (24, .free), (25, .free)] (by kernel_rfl) (by kernel_rfl) (by kernel_rfl) (by kernel_rfl) (fun ops hops A hA => ?_)
            have hsz : A.tmps.size = 53 := by rw [hA]; rfl
            have base0 : A.eval (.tmp 0) = .slice (some ⟨b, off, none⟩) n cap := by rw [hA]; rfl
            have base2 : A.eval (.tmp 2) = .string s := by rw [hA]; rfl
            have base7 : A.eval (.tmp 7) = .int .i64 (j : Int) := by rw [hA]; rfl
            have base8 : A.eval (.tmp 8) = .int .i64 (k : Int) := by rw [hA]; rfl
            have HAA := Lib.hid hA; clear hA
            obtain ⟨o0, po0, q0, d0, gd0⟩ : ∃ o, ops[0]? = some o ∧ o.op = .move (.tmp 2) ∧ o.dst = some 15 ∧ o.guard = none := ⟨_, by rw [hops]; rfl, rfl, rfl, rfl⟩
            obtain ⟨o1, po1, q1, d1, gd1⟩ : ∃ o, ops[1]? = some o ∧ o.op = .move (.tmp 0) ∧ o.dst = some 16 ∧ o.guard = none := ⟨_, by rw [hops]; rfl, rfl, rfl, rfl⟩
            obtain ⟨o2, po2, q2, d2, gd2⟩ : ∃ o, ops[2]? = some o ∧ o.op = .move (.tmp 8) ∧ o.dst = some 17 ∧ o.guard = none := ⟨_, by rw [hops]; rfl, rfl, rfl, rfl⟩
            obtain ⟨o3, po3, q3, d3, gd3⟩ : ∃ o, ops[3]? = some o ∧ o.op = .indexAddr 32 (.tmp 16) (.tmp 17) ∧ o.dst = some 18 ∧ o.guard = none := ⟨_, by rw [hops]; rfl, rfl, rfl, rfl⟩
            obtain ⟨o4, po4, q4, d4, gd4⟩ : ∃ o, ops[4]? = some o ∧ o.op = .fieldAddr 34 (.tmp 18) 0 ∧ o.dst = some 19 ∧ o.guard = none := ⟨_, by rw [hops]; rfl, rfl, rfl, rfl⟩
            obtain ⟨o5, po5, q5, d5, gd5⟩ : ∃ o, ops[5]? = some o ∧ o.op = .load 9 (.tmp 19) ∧ o.dst = some 20 ∧ o.guard = none := ⟨_, by rw [hops]; rfl, rfl, rfl, rfl⟩
            obtain ⟨o6, po6, q6, d6, gd6⟩ : ∃ o, ops[6]? = some o ∧ o.op = .call { callee := .value (.func 40), args := #[.tmp 15, .tmp 20], argTypes := #[9, 9] } ∧ o.dst = some 21 ∧ o.guard = none := ⟨_, by rw [hops]; rfl, rfl, rfl, rfl⟩
            obtain ⟨o7, po7, q7, d7, gd7⟩ : ∃ o, ops[7]? = some o ∧ o.op = .move (.tmp 21) ∧ o.dst = some 22 ∧ o.guard = none := ⟨_, by rw [hops]; rfl, rfl, rfl, rfl⟩
            obtain ⟨o8, po8, q8, d8, gd8⟩ : ∃ o, ops[8]? = some o ∧ o.op = .move (.tmp 7) ∧ o.dst = some 23 ∧ o.guard = some (7, true) := ⟨_, by rw [hops]; rfl, rfl, rfl, rfl⟩
            obtain ⟨o9, po9, q9, d9, gd9⟩ : ∃ o, ops[9]? = some o ∧ o.op = .binOp .lss 3 (.tmp 23) (.const (.int .i64 0)) 3 ∧ o.dst = some 24 ∧ o.guard = some (7, true) := ⟨_, by rw [hops]; rfl, rfl, rfl, rfl⟩
            obtain ⟨o10, po10, q10, d10, gd10⟩ : ∃ o, ops[10]? = some o ∧ o.op = .move (.tmp 24) ∧ o.dst = some 25 ∧ o.guard = some (7, true) := ⟨_, by rw [hops]; rfl, rfl, rfl, rfl⟩
            obtain ⟨o11, po11, q11, d11, gd11⟩ : ∃ o, ops[11]? = some o ∧ o.op = .move (.tmp 0) ∧ o.dst = some 26 ∧ o.guard = some (10, false) := ⟨_, by rw [hops]; rfl, rfl, rfl, rfl⟩
            obtain ⟨o12, po12, q12, d12, gd12⟩ : ∃ o, ops[12]? = some o ∧ o.op = .move (.tmp 8) ∧ o.dst = some 27 ∧ o.guard = some (10, false) := ⟨_, by rw [hops]; rfl, rfl, rfl, rfl⟩
            obtain ⟨o13, po13, q13, d13, gd13⟩ : ∃ o, ops[13]? = some o ∧ o.op = .indexAddr 32 (.tmp 26) (.tmp 27) ∧ o.dst = some 28 ∧ o.guard = some (10, false) := ⟨_, by rw [hops]; rfl, rfl, rfl, rfl⟩
            obtain ⟨o14, po14, q14, d14, gd14⟩ : ∃ o, ops[14]? = some o ∧ o.op = .fieldAddr 34 (.tmp 28) 0 ∧ o.dst = some 29 ∧ o.guard = some (10, false) := ⟨_, by rw [hops]; rfl, rfl, rfl, rfl⟩
            obtain ⟨o15, po15, q15, d15, gd15⟩ : ∃ o, ops[15]? = some o ∧ o.op = .load 9 (.tmp 29) ∧ o.dst = some 30 ∧ o.guard = some (10, false) := ⟨_, by rw [hops]; rfl, rfl, rfl, rfl⟩
            obtain ⟨o16, po16, q16, d16, gd16⟩ : ∃ o, ops[16]? = some o ∧ o.op = .call { callee := .builtin .len, args := #[.tmp 30], argTypes := #[9] } ∧ o.dst = some 31 ∧ o.guard = some (10, false) := ⟨_, by rw [hops]; rfl, rfl, rfl, rfl⟩
            obtain ⟨o17, po17, q17, d17, gd17⟩ : ∃ o, ops[17]? = some o ∧ o.op = .move (.tmp 0) ∧ o.dst = some 32 ∧ o.guard = some (10, false) := ⟨_, by rw [hops]; rfl, rfl, rfl, rfl⟩
            obtain ⟨o18, po18, q18, d18, gd18⟩ : ∃ o, ops[18]? = some o ∧ o.op = .move (.tmp 7) ∧ o.dst = some 33 ∧ o.guard = some (10, false) := ⟨_, by rw [hops]; rfl, rfl, rfl, rfl⟩
            obtain ⟨o19, po19, q19, d19, gd19⟩ : ∃ o, ops[19]? = some o ∧ o.op = .indexAddr 32 (.tmp 32) (.tmp 33) ∧ o.dst = some 34 ∧ o.guard = some (10, false) := ⟨_, by rw [hops]; rfl, rfl, rfl, rfl⟩
            obtain ⟨o20, po20, q20, d20, gd20⟩ : ∃ o, ops[20]? = some o ∧ o.op = .fieldAddr 34 (.tmp 34) 0 ∧ o.dst = some 35 ∧ o.guard = some (10, false) := ⟨_, by rw [hops]; rfl, rfl, rfl, rfl⟩
            obtain ⟨o21, po21, q21, d21, gd21⟩ : ∃ o, ops[21]? = some o ∧ o.op = .load 9 (.tmp 35) ∧ o.dst = some 36 ∧ o.guard = some (10, false) := ⟨_, by rw [hops]; rfl, rfl, rfl, rfl⟩
            obtain ⟨o22, po22, q22, d22, gd22⟩ : ∃ o, ops[22]? = some o ∧ o.op = .call { callee := .builtin .len, args := #[.tmp 36], argTypes := #[9] } ∧ o.dst = some 37 ∧ o.guard = some (10, false) := ⟨_, by rw [hops]; rfl, rfl, rfl, rfl⟩
            obtain ⟨o23, po23, q23, d23, gd23⟩ : ∃ o, ops[23]? = some o ∧ o.op = .binOp .gtr 3 (.tmp 31) (.tmp 37) 3 ∧ o.dst = some 38 ∧ o.guard = some (10, false) := ⟨_, by rw [hops]; rfl, rfl, rfl, rfl⟩
            obtain ⟨o24, po24, q24, d24, gd24⟩ : ∃ o, ops[24]? = some o ∧ o.op = .pick (.tmp 25) (.const (.bool true)) (.tmp 38) ∧ o.dst = some 39 ∧ o.guard = some (7, true) := ⟨_, by rw [hops]; rfl, rfl, rfl, rfl⟩
            obtain ⟨o25, po25, q25, d25, gd25⟩ : ∃ o, ops[25]? = some o ∧ o.op = .pick (.tmp 22) (.tmp 39) (.const (.bool false)) ∧ o.dst = some 40 ∧ o.guard = none := ⟨_, by rw [hops]; rfl, rfl, rfl, rfl⟩
            clear hops
            refine met_free po0 d0 (wanted_of gd0) (fun w' h' => run_move q0 base2 w') ?_
            refine met_free po1 d1 (wanted_of gd1) (fun w' h' => run_move q1 ((eval_other _ 15 0 _ (by decide)).trans base0) w') ?_
            refine met_free po2 d2 (wanted_of gd2) (fun w' h' => run_move q2 ((eval_other _ 16 8 _ (by decide)).trans ((eval_other _ 15 8 _ (by decide)).trans base8)) w') ?_
            refine met_free po3 d3 (wanted_of gd3) (fun w' h' => ruleT.run_ix q3 ((eval_other _ 17 16 _ (by decide)).trans (eval_same _ _ _ (by simp only [put_size, hsz]; decide))) (eval_same _ _ _ (by simp only [put_size, hsz]; decide)) HKL.out w') ?_
            refine met_free po4 d4 (wanted_of gd4) (fun w' h' => run_fieldR (by decide) q4 (eval_same _ _ _ (by simp only [put_size, hsz]; decide)) w') ?_
            refine met_free po5 d5 (wanted_of gd5) (fun w' h' => run_loadStr q5 (eval_same _ _ _ (by simp only [put_size, hsz]; decide)) (rule_cells h'.one).1) ?_
            refine m_enter po6 d6 (wanted_of gd6) (run_callf2 q6 rfl ((eval_other _ 20 15 _ (by decide)).trans ((eval_other _ 19 15 _ (by decide)).trans ((eval_other _ 18 15 _ (by decide)).trans ((eval_other _ 17 15 _ (by decide)).trans ((eval_other _ 16 15 _ (by decide)).trans (eval_same _ _ _ (by rw [hsz]; decide))))))) (eval_same _ _ _ (by simp only [put_size, hsz]; decide)) Try.func40 (by kernel_rfl) _) (HBG.out _) ?_
            rintro e w5_1 ⟨rfl, hb⟩
            have HSw5_1 := Lib.hid ((HRD.out.step (Below.refl _ _).drew).step hb)
            clear hb
            refine ⟨_, rfl, HSw5_1.out, ?_⟩
            refine met_free po7 d7 (wanted_of gd7) (fun w' h' => run_move q7 (eval_same _ _ _ (by simp only [put_size, hsz]; decide)) w') ?_
            refine met_free po8 d8 (wanted_guard gd8 po7 d7 (eval_same _ _ _ (by simp only [put_size, hsz]; decide))) (fun w' h' => run_move q8 ((eval_other _ 22 7 _ (by decide)).trans ((eval_other _ 21 7 _ (by decide)).trans ((eval_other _ 20 7 _ (by decide)).trans ((eval_other _ 19 7 _ (by decide)).trans ((eval_other _ 18 7 _ (by decide)).trans ((eval_other _ 17 7 _ (by decide)).trans ((eval_other _ 16 7 _ (by decide)).trans ((eval_other _ 15 7 _ (by decide)).trans base7)))))))) w') ?_
            refine met_free po9 d9 (wanted_guard gd9 po7 d7 ((eval_other _ 23 22 _ (by decide)).trans (eval_same _ _ _ (by simp only [put_size, hsz]; decide)))) (fun w' h' => r_lssV (v := false) (decide_eq_false (by omega)) q9 (eval_same _ _ _ (by simp only [put_size, hsz]; decide)) rfl w') ?_
            refine met_free po10 d10 (wanted_guard gd10 po7 d7 ((eval_other _ 24 22 _ (by decide)).trans ((eval_other _ 23 22 _ (by decide)).trans (eval_same _ _ _ (by simp only [put_size, hsz]; decide))))) (fun w' h' => run_move q10 (eval_same _ _ _ (by simp only [put_size, hsz]; decide)) w') ?_
            refine met_free po11 d11 (w_false gd11 po10 d10 (eval_same _ _ _ (by simp only [put_size, hsz]; decide))) (fun w' h' => run_move q11 ((eval_other _ 25 0 _ (by decide)).trans ((eval_other _ 24 0 _ (by decide)).trans ((eval_other _ 23 0 _ (by decide)).trans ((eval_other _ 22 0 _ (by decide)).trans ((eval_other _ 21 0 _ (by decide)).trans ((eval_other _ 20 0 _ (by decide)).trans ((eval_other _ 19 0 _ (by decide)).trans ((eval_other _ 18 0 _ (by decide)).trans ((eval_other _ 17 0 _ (by decide)).trans ((eval_other _ 16 0 _ (by decide)).trans ((eval_other _ 15 0 _ (by decide)).trans base0))))))))))) w') ?_
            refine met_free po12 d12 (w_false gd12 po10 d10 ((eval_other _ 26 25 _ (by decide)).trans (eval_same _ _ _ (by simp only [put_size, hsz]; decide)))) (fun w' h' => run_move q12 ((eval_other _ 26 8 _ (by decide)).trans ((eval_other _ 25 8 _ (by decide)).trans ((eval_other _ 24 8 _ (by decide)).trans ((eval_other _ 23 8 _ (by decide)).trans ((eval_other _ 22 8 _ (by decide)).trans ((eval_other _ 21 8 _ (by decide)).trans ((eval_other _ 20 8 _ (by decide)).trans ((eval_other _ 19 8 _ (by decide)).trans ((eval_other _ 18 8 _ (by decide)).trans ((eval_other _ 17 8 _ (by decide)).trans ((eval_other _ 16 8 _ (by decide)).trans ((eval_other _ 15 8 _ (by decide)).trans base8)))))))))))) w') ?_
            refine met_free po13 d13 (w_false gd13 po10 d10 ((eval_other _ 27 25 _ (by decide)).trans ((eval_other _ 26 25 _ (by decide)).trans (eval_same _ _ _ (by simp only [put_size, hsz]; decide))))) (fun w' h' => ruleT.run_ix q13 ((eval_other _ 27 26 _ (by decide)).trans (eval_same _ _ _ (by simp only [put_size, hsz]; decide))) (eval_same _ _ _ (by simp only [put_size, hsz]; decide)) HKL.out w') ?_
            refine met_free po14 d14 (w_false gd14 po10 d10 ((eval_other _ 28 25 _ (by decide)).trans ((eval_other _ 27 25 _ (by decide)).trans ((eval_other _ 26 25 _ (by decide)).trans (eval_same _ _ _ (by simp only [put_size, hsz]; decide)))))) (fun w' h' => run_fieldR (by decide) q14 (eval_same _ _ _ (by simp only [put_size, hsz]; decide)) w') ?_
            refine met_free po15 d15 (w_false gd15 po10 d10 ((eval_other _ 29 25 _ (by decide)).trans ((eval_other _ 28 25 _ (by decide)).trans ((eval_other _ 27 25 _ (by decide)).trans ((eval_other _ 26 25 _ (by decide)).trans (eval_same _ _ _ (by simp only [put_size, hsz]; decide))))))) (fun w' h' => run_loadStr q15 (eval_same _ _ _ (by simp only [put_size, hsz]; decide)) (rule_cells h'.one).1) ?_
            refine met_free po16 d16 (w_false gd16 po10 d10 ((eval_other _ 30 25 _ (by decide)).trans ((eval_other _ 29 25 _ (by decide)).trans ((eval_other _ 28 25 _ (by decide)).trans ((eval_other _ 27 25 _ (by decide)).trans ((eval_other _ 26 25 _ (by decide)).trans (eval_same _ _ _ (by simp only [put_size, hsz]; decide)))))))) (fun w' h' => run_lenS q16 (eval_same _ _ _ (by simp only [put_size, hsz]; decide)) w') ?_
            refine met_free po17 d17 (w_false gd17 po10 d10 ((eval_other _ 31 25 _ (by decide)).trans ((eval_other _ 30 25 _ (by decide)).trans ((eval_other _ 29 25 _ (by decide)).trans ((eval_other _ 28 25 _ (by decide)).trans ((eval_other _ 27 25 _ (by decide)).trans ((eval_other _ 26 25 _ (by decide)).trans (eval_same _ _ _ (by simp only [put_size, hsz]; decide))))))))) (fun w' h' => run_move q17 ((eval_other _ 31 0 _ (by decide)).trans ((eval_other _ 30 0 _ (by decide)).trans ((eval_other _ 29 0 _ (by decide)).trans ((eval_other _ 28 0 _ (by decide)).trans ((eval_other _ 27 0 _ (by decide)).trans ((eval_other _ 26 0 _ (by decide)).trans ((eval_other _ 25 0 _ (by decide)).trans ((eval_other _ 24 0 _ (by decide)).trans ((eval_other _ 23 0 _ (by decide)).trans ((eval_other _ 22 0 _ (by decide)).trans ((eval_other _ 21 0 _ (by decide)).trans ((eval_other _ 20 0 _ (by decide)).trans ((eval_other _ 19 0 _ (by decide)).trans ((eval_other _ 18 0 _ (by decide)).trans ((eval_other _ 17 0 _ (by decide)).trans ((eval_other _ 16 0 _ (by decide)).trans ((eval_other _ 15 0 _ (by decide)).trans base0))))))))))))))))) w') ?_
            refine met_free po18 d18 (w_false gd18 po10 d10 ((eval_other _ 32 25 _ (by decide)).trans ((eval_other _ 31 25 _ (by decide)).trans ((eval_other _ 30 25 _ (by decide)).trans ((eval_other _ 29 25 _ (by decide)).trans ((eval_other _ 28 25 _ (by decide)).trans ((eval_other _ 27 25 _ (by decide)).trans ((eval_other _ 26 25 _ (by decide)).trans (eval_same _ _ _ (by simp only [put_size, hsz]; decide)))))))))) (fun w' h' => run_move q18 ((eval_other _ 32 7 _ (by decide)).trans ((eval_other _ 31 7 _ (by decide)).trans ((eval_other _ 30 7 _ (by decide)).trans ((eval_other _ 29 7 _ (by decide)).trans ((eval_other _ 28 7 _ (by decide)).trans ((eval_other _ 27 7 _ (by decide)).trans ((eval_other _ 26 7 _ (by decide)).trans ((eval_other _ 25 7 _ (by decide)).trans ((eval_other _ 24 7 _ (by decide)).trans ((eval_other _ 23 7 _ (by decide)).trans ((eval_other _ 22 7 _ (by decide)).trans ((eval_other _ 21 7 _ (by decide)).trans ((eval_other _ 20 7 _ (by decide)).trans ((eval_other _ 19 7 _ (by decide)).trans ((eval_other _ 18 7 _ (by decide)).trans ((eval_other _ 17 7 _ (by decide)).trans ((eval_other _ 16 7 _ (by decide)).trans ((eval_other _ 15 7 _ (by decide)).trans base7)))))))))))))))))) w') ?_
            refine met_free po19 d19 (w_false gd19 po10 d10 ((eval_other _ 33 25 _ (by decide)).trans ((eval_other _ 32 25 _ (by decide)).trans ((eval_other _ 31 25 _ (by decide)).trans ((eval_other _ 30 25 _ (by decide)).trans ((eval_other _ 29 25 _ (by decide)).trans ((eval_other _ 28 25 _ (by decide)).trans ((eval_other _ 27 25 _ (by decide)).trans ((eval_other _ 26 25 _ (by decide)).trans (eval_same _ _ _ (by simp only [put_size, hsz]; decide))))))))))) (fun w' h' => ruleT.run_ix q19 ((eval_other _ 33 32 _ (by decide)).trans (eval_same _ _ _ (by simp only [put_size, hsz]; decide))) (eval_same _ _ _ (by simp only [put_size, hsz]; decide)) HJN.out w') ?_
            refine met_free po20 d20 (w_false gd20 po10 d10 ((eval_other _ 34 25 _ (by decide)).trans ((eval_other _ 33 25 _ (by decide)).trans ((eval_other _ 32 25 _ (by decide)).trans ((eval_other _ 31 25 _ (by decide)).trans ((eval_other _ 30 25 _ (by decide)).trans ((eval_other _ 29 25 _ (by decide)).trans ((eval_other _ 28 25 _ (by decide)).trans ((eval_other _ 27 25 _ (by decide)).trans ((eval_other _ 26 25 _ (by decide)).trans (eval_same _ _ _ (by simp only [put_size, hsz]; decide)))))))))))) (fun w' h' => run_fieldR (by decide) q20 (eval_same _ _ _ (by simp only [put_size, hsz]; decide)) w') ?_
            refine met_free po21 d21 (w_false gd21 po10 d10 ((eval_other _ 35 25 _ (by decide)).trans ((eval_other _ 34 25 _ (by decide)).trans ((eval_other _ 33 25 _ (by decide)).trans ((eval_other _ 32 25 _ (by decide)).trans ((eval_other _ 31 25 _ (by decide)).trans ((eval_other _ 30 25 _ (by decide)).trans ((eval_other _ 29 25 _ (by decide)).trans ((eval_other _ 28 25 _ (by decide)).trans ((eval_other _ 27 25 _ (by decide)).trans ((eval_other _ 26 25 _ (by decide)).trans (eval_same _ _ _ (by simp only [put_size, hsz]; decide))))))))))))) (fun w' h' => run_loadStr q21 (eval_same _ _ _ (by simp only [put_size, hsz]; decide)) (rule_cells h'.two).1) ?_
            refine met_free po22 d22 (w_false gd22 po10 d10 ((eval_other _ 36 25 _ (by decide)).trans ((eval_other _ 35 25 _ (by decide)).trans ((eval_other _ 34 25 _ (by decide)).trans ((eval_other _ 33 25 _ (by decide)).trans ((eval_other _ 32 25 _ (by decide)).trans ((eval_other _ 31 25 _ (by decide)).trans ((eval_other _ 30 25 _ (by decide)).trans ((eval_other _ 29 25 _ (by decide)).trans ((eval_other _ 28 25 _ (by decide)).trans ((eval_other _ 27 25 _ (by decide)).trans ((eval_other _ 26 25 _ (by decide)).trans (eval_same _ _ _ (by simp only [put_size, hsz]; decide)))))))))))))) (fun w' h' => run_lenS q22 (eval_same _ _ _ (by simp only [put_size, hsz]; decide)) w') ?_
            refine met_free po23 d23 (w_false gd23 po10 d10 ((eval_other _ 37 25 _ (by decide)).trans ((eval_other _ 36 25 _ (by decide)).trans ((eval_other _ 35 25 _ (by decide)).trans ((eval_other _ 34 25 _ (by decide)).trans ((eval_other _ 33 25 _ (by decide)).trans ((eval_other _ 32 25 _ (by decide)).trans ((eval_other _ 31 25 _ (by decide)).trans ((eval_other _ 30 25 _ (by decide)).trans ((eval_other _ 29 25 _ (by decide)).trans ((eval_other _ 28 25 _ (by decide)).trans ((eval_other _ 27 25 _ (by decide)).trans ((eval_other _ 26 25 _ (by decide)).trans (eval_same _ _ _ (by simp only [put_size, hsz]; decide))))))))))))))) (fun w' h' => r_gtrV (v := true) HGT.out q23 ((eval_other _ 37 31 _ (by decide)).trans ((eval_other _ 36 31 _ (by decide)).trans ((eval_other _ 35 31 _ (by decide)).trans ((eval_other _ 34 31 _ (by decide)).trans ((eval_other _ 33 31 _ (by decide)).trans ((eval_other _ 32 31 _ (by decide)).trans (eval_same _ _ _ (by simp only [put_size, hsz]; decide)))))))) (eval_same _ _ _ (by simp only [put_size, hsz]; decide)) w') ?_
            refine met_free po24 d24 (wanted_guard gd24 po7 d7 ((eval_other _ 38 22 _ (by decide)).trans ((eval_other _ 37 22 _ (by decide)).trans ((eval_other _ 36 22 _ (by decide)).trans ((eval_other _ 35 22 _ (by decide)).trans ((eval_other _ 34 22 _ (by decide)).trans ((eval_other _ 33 22 _ (by decide)).trans ((eval_other _ 32 22 _ (by decide)).trans ((eval_other _ 31 22 _ (by decide)).trans ((eval_other _ 30 22 _ (by decide)).trans ((eval_other _ 29 22 _ (by decide)).trans ((eval_other _ 28 22 _ (by decide)).trans ((eval_other _ 27 22 _ (by decide)).trans ((eval_other _ 26 22 _ (by decide)).trans ((eval_other _ 25 22 _ (by decide)).trans ((eval_other _ 24 22 _ (by decide)).trans ((eval_other _ 23 22 _ (by decide)).trans (eval_same _ _ _ (by simp only [put_size, hsz]; decide))))))))))))))))))) (fun w' h' => r_pickF q24 ((eval_other _ 38 25 _ (by decide)).trans ((eval_other _ 37 25 _ (by decide)).trans ((eval_other _ 36 25 _ (by decide)).trans ((eval_other _ 35 25 _ (by decide)).trans ((eval_other _ 34 25 _ (by decide)).trans ((eval_other _ 33 25 _ (by decide)).trans ((eval_other _ 32 25 _ (by decide)).trans ((eval_other _ 31 25 _ (by decide)).trans ((eval_other _ 30 25 _ (by decide)).trans ((eval_other _ 29 25 _ (by decide)).trans ((eval_other _ 28 25 _ (by decide)).trans ((eval_other _ 27 25 _ (by decide)).trans ((eval_other _ 26 25 _ (by decide)).trans (eval_same _ _ _ (by simp only [put_size, hsz]; decide))))))))))))))) (eval_same _ _ _ (by simp only [put_size, hsz]; decide)) w') ?_
            refine met_free po25 d25 (wanted_of gd25) (fun w' h' => run_pick_true q25 ((eval_other _ 39 22 _ (by decide)).trans ((eval_other _ 38 22 _ (by decide)).trans ((eval_other _ 37 22 _ (by decide)).trans ((eval_other _ 36 22 _ (by decide)).trans ((eval_other _ 35 22 _ (by decide)).trans ((eval_other _ 34 22 _ (by decide)).trans ((eval_other _ 33 22 _ (by decide)).trans ((eval_other _ 32 22 _ (by decide)).trans ((eval_other _ 31 22 _ (by decide)).trans ((eval_other _ 30 22 _ (by decide)).trans ((eval_other _ 29 22 _ (by decide)).trans ((eval_other _ 28 22 _ (by decide)).trans ((eval_other _ 27 22 _ (by decide)).trans ((eval_other _ 26 22 _ (by decide)).trans ((eval_other _ 25 22 _ (by decide)).trans ((eval_other _ 24 22 _ (by decide)).trans ((eval_other _ 23 22 _ (by decide)).trans (eval_same _ _ _ (by simp only [put_size, hsz]; decide))))))))))))))))))) (eval_same _ _ _ (by simp only [put_size, hsz]; decide)) w') ?_
            show NoPanic _ .normal _ _
            refine NoPanic.normal ?_
            rw [HAA.out]
            go_frame
            clear HAA
            clear po0 q0 d0 gd0 po1 q1 d1 gd1 po2 q2 d2 gd2 po3 q3 d3 gd3 po4 q4 d4 gd4 po5 q5 d5 gd5 po6 q6 d6 gd6 po7 q7 d7 gd7 po8 q8 d8 gd8 po9 q9 d9 gd9 po10 q10 d10 gd10 po11 q11 d11 gd11 po12 q12 d12 gd12 po13 q13 d13 gd13 po14 q14 d14 gd14 po15 q15 d15 gd15 po16 q16 d16 gd16 po17 q17 d17 gd17 po18 q18 d18 gd18 po19 q19 d19 gd19 po20 q20 d20 gd20 po21 q21 d21 gd21 po22 q22 d22 gd22 po23 q23 d23 gd23 po24 q24 d24 gd24 po25 q25 d25 gd25
            clear base0 base2 base7 base8 hsz
            go_wp2_with fail
            go_roundw
            case rel => exact ⟨k + 1, (k : Int), by omega, by go_num, rfl, HF.out, HSw5_1.out.below⟩
            case measure => simp [intOf]; omega
          · have HF : Hid (RefBest l s (k + 1) (j : Int)) := show RefBest _ _ _ _ from .at j hj (by rw [hst, hbm, hy, stepM_no (fun h => hgt h.1)])
            have HRD : Hid (ReadR b (off + k * 2) b (off + j * 2) [.string xp, .int .i64 xr] [.string yp, .int .i64 yr] w wr) := show ReadR _ _ _ _ _ _ _ _ from ⟨hrk, hrj, HB.out⟩
            have HGT := Lib.hid (decide_eq_false hgt)
            clear hbg hrk HXE hlt' HBT HRB hst hbm hgt hrj hy hj
            go_upto_region 5 with (fail)
            refine region_phase (fun wr => ReadR b (off + k * 2) b (off + j * 2) [.string xp, .int .i64 xr] [.string yp, .int .i64 yr] w wr) (fun _ => True) 99 (HRD.out.step (Below.refl _ _).drew) trivial [(0, .free), (1, .free), (2, .free), (3, .free), (4, .free), (5, .free), (6, .behind), (7, .free), (8, .free), (9, .free), (10, .free), (11, .free), (12, .free), (13, .free), (14, .free), (15, .free), (16, .free), (17, .free), (18, .free), (19, .free), (20, .free), (21, .free), (22, .free), (23, .free), (24, .free), (25, .free)] (by kernel_rfl) (by kernel_rfl) (by kernel_rfl) (by kernel_rfl) (fun ops hops A hA => ?_)
            have hsz : A.tmps.size = 53 := by rw [hA]; rfl
            have base0 : A.eval (.tmp 0) = .slice (some ⟨b, off, none⟩) n cap := by rw [hA]; rfl
            have base2 : A.eval (.tmp 2) = .string s := by rw [hA]; rfl
            have base7 : A.eval (.tmp 7) = .int .i64 (j : Int) := by rw [hA]; rfl
            have base8 : A.eval (.tmp 8) = .int .i64 (k : Int) := by rw [hA]; rfl
            have HAA := Lib.hid hA; clear hA
            obtain ⟨o0, po0, q0, d0, gd0⟩ : ∃ o, ops[0]? = some o ∧ o.op = .move (.tmp 2) ∧ o.dst = some 15 ∧ o.guard = none := ⟨_, by rw [hops]; rfl, rfl, rfl, rfl⟩
            obtain ⟨o1, po1, q1, d1, gd1⟩ : ∃ o, ops[1]? = some o ∧ o.op = .move (.tmp 0) ∧ o.dst = some 16 ∧ o.guard = none := ⟨_, by rw [hops]; rfl, rfl, rfl, rfl⟩
            obtain ⟨o2, po2, q2, d2, gd2⟩ : ∃ o, ops[2]? = some o ∧ o.op = .move (.tmp 8) ∧ o.dst = some 17 ∧ o.guard = none := ⟨_, by rw [hops]; rfl, rfl, rfl, rfl⟩
            obtain ⟨o3, po3, q3, d3, gd3⟩ : ∃ o, ops[3]? = some o ∧ o.op = .indexAddr 32 (.tmp 16) (.tmp 17) ∧ o.dst = some 18 ∧ o.guard = none := ⟨_, by rw [hops]; rfl, rfl, rfl, rfl⟩
            obtain ⟨o4, po4, q4, d4, gd4⟩ : ∃ o, ops[4]? = some o ∧ o.op = .fieldAddr 34 (.tmp 18) 0 ∧ o.dst = some 19 ∧ o.guard = none := ⟨_, by rw [hops]; rfl, rfl, rfl, rfl⟩
            obtain ⟨o5, po5, q5, d5, gd5⟩ : ∃ o, ops[5]? = some o ∧ o.op = .load 9 (.tmp 19) ∧ o.dst = some 20 ∧ o.guard = none := ⟨_, by rw [hops]; rfl, rfl, rfl, rfl⟩
            obtain ⟨o6, po6, q6, d6, gd6⟩ : ∃ o, ops[6]? = some o ∧ o.op = .call { callee := .value (.func 40), args := #[.tmp 15, .tmp 20], argTypes := #[9, 9] } ∧ o.dst = some 21 ∧ o.guard = none := ⟨_, by rw [hops]; rfl, rfl, rfl, rfl⟩
            obtain ⟨o7, po7, q7, d7, gd7⟩ : ∃ o, ops[7]? = some o ∧ o.op = .move (.tmp 21) ∧ o.dst = some 22 ∧ o.guard = none := ⟨_, by rw [hops]; rfl, rfl, rfl, rfl⟩
            obtain ⟨o8, po8, q8, d8, gd8⟩ : ∃ o, ops[8]? = some o ∧ o.op = .move (.tmp 7) ∧ o.dst = some 23 ∧ o.guard = some (7, true) := ⟨_, by rw [hops]; rfl, rfl, rfl, rfl⟩
            obtain ⟨o9, po9, q9, d9, gd9⟩ : ∃ o, ops[9]? = some o ∧ o.op = .binOp .lss 3 (.tmp 23) (.const (.int .i64 0)) 3 ∧ o.dst = some 24 ∧ o.guard = some (7, true) := ⟨_, by rw [hops]; rfl, rfl, rfl, rfl⟩
            obtain ⟨o10, po10, q10, d10, gd10⟩ : ∃ o, ops[10]? = some o ∧ o.op = .move (.tmp 24) ∧ o.dst = some 25 ∧ o.guard = some (7, true) := ⟨_, by rw [hops]; rfl, rfl, rfl, rfl⟩
            obtain ⟨o11, po11, q11, d11, gd11⟩ : ∃ o, ops[11]? = some o ∧ o.op = .move (.tmp 0) ∧ o.dst = some 26 ∧ o.guard = some (10, false) := ⟨_, by rw [hops]; rfl, rfl, rfl, rfl⟩
            obtain ⟨o12, po12, q12, d12, gd12⟩ : ∃ o, ops[12]? = some o ∧ o.op = .move (.tmp 8) ∧ o.dst = some 27 ∧ o.guard = some (10, false) := ⟨_, by rw [hops]; rfl, rfl, rfl, rfl⟩
            obtain ⟨o13, po13, q13, d13, gd13⟩ : ∃ o, ops[13]? = some o ∧ o.op = .indexAddr 32 (.tmp 26) (.tmp 27) ∧ o.dst = some 28 ∧ o.guard = some (10, false) := ⟨_, by rw [hops]; rfl, rfl, rfl, rfl⟩
            obtain ⟨o14, po14, q14, d14, gd14⟩ : ∃ o, ops[14]? = some o ∧ o.op = .fieldAddr 34 (.tmp 28) 0 ∧ o.dst = some 29 ∧ o.guard = some (10, false) := ⟨_, by rw [hops]; rfl, rfl, rfl, rfl⟩
            obtain ⟨o15, po15, q15, d15, gd15⟩ : ∃ o, ops[15]? = some o ∧ o.op = .load 9 (.tmp 29) ∧ o.dst = some 30 ∧ o.guard = some (10, false) := ⟨_, by rw [hops]; rfl, rfl, rfl, rfl⟩
            obtain ⟨o16, po16, q16, d16, gd16⟩ : ∃ o, ops[16]? = some o ∧ o.op = .call { callee := .builtin .len, args := #[.tmp 30], argTypes := #[9] } ∧ o.dst = some 31 ∧ o.guard = some (10, false) := ⟨_, by rw [hops]; rfl, rfl, rfl, rfl⟩
            obtain ⟨o17, po17, q17, d17, gd17⟩ : ∃ o, ops[17]? = some o ∧ o.op = .move (.tmp 0) ∧ o.dst = some 32 ∧ o.guard = some (10, false) := ⟨_, by rw [hops]; rfl, rfl, rfl, rfl⟩
            obtain ⟨o18, po18, q18, d18, gd18⟩ : ∃ o, ops[18]? = some o ∧ o.op = .move (.tmp 7) ∧ o.dst = some 33 ∧ o.guard = some (10, false) := ⟨_, by rw [hops]; rfl, rfl, rfl, rfl⟩
            obtain ⟨o19, po19, q19, d19, gd19⟩ : ∃ o, ops[19]? = some o ∧ o.op = .indexAddr 32 (.tmp 32) (.tmp 33) ∧ o.dst = some 34 ∧ o.guard = some (10, false) := ⟨_, by rw [hops]; rfl, rfl, rfl, rfl⟩
            obtain ⟨o20, po20, q20, d20, gd20⟩ : ∃ o, ops[20]? = some o ∧ o.op = .fieldAddr 34 (.tmp 34) 0 ∧ o.dst = some 35 ∧ o.guard = some (10, false) := ⟨_, by rw [hops]; rfl, rfl, rfl, rfl⟩
            obtain ⟨o21, po21, q21, d21, gd21⟩ : ∃ o, ops[21]? = some o ∧ o.op = .load 9 (.tmp 35) ∧ o.dst = some 36 ∧ o.guard = some (10, false) := ⟨_, by rw [hops]; rfl, rfl, rfl, rfl⟩
            obtain ⟨o22, po22, q22, d22, gd22⟩ : ∃ o, ops[22]? = some o ∧ o.op = .call { callee := .builtin .len, args := #[.tmp 36], argTypes := #[9] } ∧ o.dst = some 37 ∧ o.guard = some (10, false) := ⟨_, by rw [hops]; rfl, rfl, rfl, rfl⟩
            obtain ⟨o23, po23, q23, d23, gd23⟩ : ∃ o, ops[23]? = some o ∧ o.op = .binOp .gtr 3 (.tmp 31) (.tmp 37) 3 ∧ o.dst = some 38 ∧ o.guard = some (10, false) := ⟨_, by rw [hops]; rfl, rfl, rfl, rfl⟩
            obtain ⟨o24, po24, q24, d24, gd24⟩ : ∃ o, ops[24]? = some o ∧ o.op = .pick (.tmp 25) (.const (.bool true)) (.tmp 38) ∧ o.dst = some 39 ∧ o.guard = some (7, true) := ⟨_, by rw [hops]; rfl, rfl, rfl, rfl⟩
            obtain ⟨o25, po25, q25, d25, gd25⟩ : ∃ o, ops[25]? = some o ∧ o.op = .pick (.tmp 22) (.tmp 39) (.const (.bool false)) ∧ o.dst = some 40 ∧ o.guard = none := ⟨_, by rw [hops]; rfl, rfl, rfl, rfl⟩
            clear hops
            refine met_free po0 d0 (wanted_of gd0) (fun w' h' => run_move q0 base2 w') ?_
            refine met_free po1 d1 (wanted_of gd1) (fun w' h' => run_move q1 ((eval_other _ 15 0 _ (by decide)).trans base0) w') ?_
            refine met_free po2 d2 (wanted_of gd2) (fun w' h' => run_move q2 ((eval_other _ 16 8 _ (by decide)).trans ((eval_other _ 15 8 _ (by decide)).trans base8)) w') ?_
            refine met_free po3 d3 (wanted_of gd3) (fun w' h' => ruleT.run_ix q3 ((eval_other _ 17 16 _ (by decide)).trans (eval_same _ _ _ (by simp only [put_size, hsz]; decide))) (eval_same _ _ _ (by simp only [put_size, hsz]; decide)) HKL.out w') ?_
            refine met_free po4 d4 (wanted_of gd4) (fun w' h' => run_fieldR (by decide) q4 (eval_same _ _ _ (by simp only [put_size, hsz]; decide)) w') ?_
            refine met_free po5 d5 (wanted_of gd5) (fun w' h' => run_loadStr q5 (eval_same _ _ _ (by simp only [put_size, hsz]; decide)) (rule_cells h'.one).1) ?_
            refine m_enter po6 d6 (wanted_of gd6) (run_callf2 q6 rfl ((eval_other _ 20 15 _ (by decide)).trans ((eval_other _ 19 15 _ (by decide)).trans ((eval_other _ 18 15 _ (by decide)).trans ((eval_other _ 17 15 _ (by decide)).trans ((eval_other _ 16 15 _ (by decide)).trans (eval_same _ _ _ (by rw [hsz]; decide))))))) (eval_same _ _ _ (by simp only [put_size, hsz]; decide)) Try.func40 (by kernel_rfl) _) (HBG.out _) ?_
            rintro e w5_1 ⟨rfl, hb⟩
            have HSw5_1 := Lib.hid ((HRD.out.step (Below.refl _ _).drew).step hb)
            clear hb
            refine ⟨_, rfl, HSw5_1.out, ?_⟩
            refine met_free po7 d7 (wanted_of gd7) (fun w' h' => run_move q7 (eval_same _ _ _ (by simp only [put_size, hsz]; decide)) w') ?_
            refine met_free po8 d8 (wanted_guard gd8 po7 d7 (eval_same _ _ _ (by simp only [put_size, hsz]; decide))) (fun w' h' => run_move q8 ((eval_other _ 22 7 _ (by decide)).trans ((eval_other _ 21 7 _ (by decide)).trans ((eval_other _ 20 7 _ (by decide)).trans ((eval_other _ 19 7 _ (by decide)).trans ((eval_other _ 18 7 _ (by decide)).trans ((eval_other _ 17 7 _ (by decide)).trans ((eval_other _ 16 7 _ (by decide)).trans ((eval_other _ 15 7 _ (by decide)).trans base7)))))))) w') ?_
            refine met_free po9 d9 (wanted_guard gd9 po7 d7 ((eval_other _ 23 22 _ (by decide)).trans (eval_same _ _ _ (by simp only [put_size, hsz]; decide)))) (fun w' h' => r_lssV (v := false) (decide_eq_false (by omega)) q9 (eval_same _ _ _ (by simp only [put_size, hsz]; decide)) rfl w') ?_
            refine met_free po10 d10 (wanted_guard gd10 po7 d7 ((eval_other _ 24 22 _ (by decide)).trans ((eval_other _ 23 22 _ (by decide)).trans (eval_same _ _ _ (by simp only [put_size, hsz]; decide))))) (fun w' h' => run_move q10 (eval_same _ _ _ (by simp only [put_size, hsz]; decide)) w') ?_
            refine met_free po11 d11 (w_false gd11 po10 d10 (eval_same _ _ _ (by simp only [put_size, hsz]; decide))) (fun w' h' => run_move q11 ((eval_other _ 25 0 _ (by decide)).trans ((eval_other _ 24 0 _ (by decide)).trans ((eval_other _ 23 0 _ (by decide)).trans ((eval_other _ 22 0 _ (by decide)).trans ((eval_other _ 21 0 _ (by decide)).trans ((eval_other _ 20 0 _ (by decide)).trans ((eval_other _ 19 0 _ (by decide)).trans ((eval_other _ 18 0 _ (by decide)).trans ((eval_other _ 17 0 _ (by decide)).trans ((eval_other _ 16 0 _ (by decide)).trans ((eval_other _ 15 0 _ (by decide)).trans base0))))))))))) w') ?_
            refine met_free po12 d12 (w_false gd12 po10 d10 ((eval_other _ 26 25 _ (by decide)).trans (eval_same _ _ _ (by simp only [put_size, hsz]; decide)))) (fun w' h' => run_move q12 ((eval_other _ 26 8 _ (by decide)).trans ((eval_other _ 25 8 _ (by decide)).trans ((eval_other _ 24 8 _ (by decide)).trans ((eval_other _ 23 8 _ (by decide)).trans ((eval_other _ 22 8 _ (by decide)).trans ((eval_other _ 21 8 _ (by decide)).trans ((eval_other _ 20 8 _ (by decide)).trans ((eval_other _ 19 8 _ (by decide)).trans ((eval_other _ 18 8 _ (by decide)).trans ((eval_other _ 17 8 _ (by decide)).trans ((eval_other _ 16 8 _ (by decide)).trans ((eval_other _ 15 8 _ (by decide)).trans base8)))))))))))) w') ?_
            refine met_free po13 d13 (w_false gd13 po10 d10 ((eval_other _ 27 25 _ (by decide)).trans ((eval_other _ 26 25 _ (by decide)).trans (eval_same _ _ _ (by simp only [put_size, hsz]; decide))))) (fun w' h' => ruleT.run_ix q13 ((eval_other _ 27 26 _ (by decide)).trans (eval_same _ _ _ (by simp only [put_size, hsz]; decide))) (eval_same _ _ _ (by simp only [put_size, hsz]; decide)) HKL.out w') ?_
            refine met_free po14 d14 (w_false gd14 po10 d10 ((eval_other _ 28 25 _ (by decide)).trans ((eval_other _ 27 25 _ (by decide)).trans ((eval_other _ 26 25 _ (by decide)).trans (eval_same _ _ _ (by simp only [put_size, hsz]; decide)))))) (fun w' h' => run_fieldR (by decide) q14 (eval_same _ _ _ (by simp only [put_size, hsz]; decide)) w') ?_
            refine met_free po15 d15 (w_false gd15 po10 d10 ((eval_other _ 29 25 _ (by decide)).trans ((eval_other _ 28 25 _ (by decide)).trans ((eval_other _ 27 25 _ (by decide)).trans ((eval_other _ 26 25 _ (by decide)).trans (eval_same _ _ _ (by simp only [put_size, hsz]; decide))))))) (fun w' h' => run_loadStr q15 (eval_same _ _ _ (by simp only [put_size, hsz]; decide)) (rule_cells h'.one).1) ?_
            refine met_free po16 d16 (w_false gd16 po10 d10 ((eval_other _ 30 25 _ (by decide)).trans ((eval_other _ 29 25 _ (by decide)).trans ((eval_other _ 28 25 _ (by decide)).trans ((eval_other _ 27 25 _ (by decide)).trans ((eval_other _ 26 25 _ (by decide)).trans (eval_same _ _ _ (by simp only [put_size, hsz]; decide)))))))) (fun w' h' => run_lenS q16 (eval_same _ _ _ (by simp only [put_size, hsz]; decide)) w') ?_
            refine met_free po17 d17 (w_false gd17 po10 d10 ((eval_other _ 31 25 _ (by decide)).trans ((eval_other _ 30 25 _ (by decide)).trans ((eval_other _ 29 25 _ (by decide)).trans ((eval_other _ 28 25 _ (by decide)).trans ((eval_other _ 27 25 _ (by decide)).trans ((eval_other _ 26 25 _ (by decide)).trans (eval_same _ _ _ (by simp only [put_size, hsz]; decide))))))))) (fun w' h' => run_move q17 ((eval_other _ 31 0 _ (by decide)).trans ((eval_other _ 30 0 _ (by decide)).trans ((eval_other _ 29 0 _ (by decide)).trans ((eval_other _ 28 0 _ (by decide)).trans ((eval_other _ 27 0 _ (by decide)).trans ((eval_other _ 26 0 _ (by decide)).trans ((eval_other _ 25 0 _ (by decide)).trans ((eval_other _ 24 0 _ (by decide)).trans ((eval_other _ 23 0 _ (by decide)).trans ((eval_other _ 22 0 _ (by decide)).trans ((eval_other _ 21 0 _ (by decide)).trans ((eval_other _ 20 0 _ (by decide)).trans ((eval_other _ 19 0 _ (by decide)).trans ((eval_other _ 18 0 _ (by decide)).trans ((eval_other _ 17 0 _ (by decide)).trans ((eval_other _ 16 0 _ (by decide)).trans ((eval_other _ 15 0 _ (by decide)).trans base0))))))))))))))))) w') ?_
            refine met_free po18 d18 (w_false gd18 po10 d10 ((eval_other _ 32 25 _ (by decide)).trans ((eval_other _ 31 25 _ (by decide)).trans ((eval_other _ 30 25 _ (by decide)).trans ((eval_other _ 29 25 _ (by decide)).trans ((eval_other _ 28 25 _ (by decide)).trans ((eval_other _ 27 25 _ (by decide)).trans ((eval_other _ 26 25 _ (by decide)).trans (eval_same _ _ _ (by simp only [put_size, hsz]; decide)))))))))) (fun w' h' => run_move q18 ((eval_other _ 32 7 _ (by decide)).trans ((eval_other _ 31 7 _ (by decide)).trans ((eval_other _ 30 7 _ (by decide)).trans ((eval_other _ 29 7 _ (by decide)).trans ((eval_other _ 28 7 _ (by decide)).trans ((eval_other _ 27 7 _ (by decide)).trans ((eval_other _ 26 7 _ (by decide)).trans ((eval_other _ 25 7 _ (by decide)).trans ((eval_other _ 24 7 _ (by decide)).trans ((eval_other _ 23 7 _ (by decide)).trans ((eval_other _ 22 7 _ (by decide)).trans ((eval_other _ 21 7 _ (by decide)).trans ((eval_other _ 20 7 _ (by decide)).trans ((eval_other _ 19 7 _ (by decide)).trans ((eval_other _ 18 7 _ (by decide)).trans ((eval_other _ 17 7 _ (by decide)).trans ((eval_other _ 16 7 _ (by decide)).trans ((eval_other _ 15 7 _ (by decide)).trans base7)))))))))))))))))) w') ?_
            refine met_free po19 d19 (w_false gd19 po10 d10 ((eval_other _ 33 25 _ (by decide)).trans ((eval_other _ 32 25 _ (by decide)).trans ((eval_other _ 31 25 _ (by decide)).trans ((eval_other _ 30 25 _ (by decide)).trans ((eval_other _ 29 25 _ (by decide)).trans ((eval_other _ 28 25 _ (by decide)).trans ((eval_other _ 27 25 _ (by decide)).trans ((eval_other _ 26 25 _ (by decide)).trans (eval_same _ _ _ (by simp only [put_size, hsz]; decide))))))))))) (fun w' h' => ruleT.run_ix q19 ((eval_other _ 33 32 _ (by decide)).trans (eval_same _ _ _ (by simp only [put_size, hsz]; decide))) (eval_same _ _ _ (by simp only [put_size, hsz]; decide)) HJN.out w') ?_
            refine met_free po20 d20 (w_false gd20 po10 d10 ((eval_other _ 34 25 _ (by decide)).trans ((eval_other _ 33 25 _ (by decide)).trans ((eval_other _ 32 25 _ (by decide)).trans ((eval_other _ 31 25 _ (by decide)).trans ((eval_other _ 30 25 _ (by decide)).trans ((eval_other _ 29 25 _ (by decide)).trans ((eval_other _ 28 25 _ (by decide)).trans ((eval_other _ 27 25 _ (by decide)).trans ((eval_other _ 26 25 _ (by decide)).trans (eval_same _ _ _ (by simp only [put_size, hsz]; decide)))))))))))) (fun w' h' => run_fieldR (by decide) q20 (eval_same _ _ _ (by simp only [put_size, hsz]; decide)) w') ?_
            refine met_free po21 d21 (w_false gd21 po10 d10 ((eval_other _ 35 25 _ (by decide)).trans ((eval_other _ 34 25 _ (by decide)).trans ((eval_other _ 33 25 _ (by decide)).trans ((eval_other _ 32 25 _ (by decide)).trans ((eval_other _ 31 25 _ (by decide)).trans ((eval_other _ 30 25 _ (by decide)).trans ((eval_other _ 29 25 _ (by decide)).trans ((eval_other _ 28 25 _ (by decide)).trans ((eval_other _ 27 25 _ (by decide)).trans ((eval_other _ 26 25 _ (by decide)).trans (eval_same _ _ _ (by simp only [put_size, hsz]; decide))))))))))))) (fun w' h' => run_loadStr q21 (eval_same _ _ _ (by simp only [put_size, hsz]; decide)) (rule_cells h'.two).1) ?_
            refine met_free po22 d22 (w_false gd22 po10 d10 ((eval_other _ 36 25 _ (by decide)).trans ((eval_other _ 35 25 _ (by decide)).trans ((eval_other _ 34 25 _ (by decide)).trans ((eval_other _ 33 25 _ (by decide)).trans ((eval_other _ 32 25 _ (by decide)).trans ((eval_other _ 31 25 _ (by decide)).trans ((eval_other _ 30 25 _ (by decide)).trans ((eval_other _ 29 25 _ (by decide)).trans ((eval_other _ 28 25 _ (by decide)).trans ((eval_other _ 27 25 _ (by decide)).trans ((eval_other _ 26 25 _ (by decide)).trans (eval_same _ _ _ (by simp only [put_size, hsz]; decide)))))))))))))) (fun w' h' => run_lenS q22 (eval_same _ _ _ (by simp only [put_size, hsz]; decide)) w') ?_
            refine met_free po23 d23 (w_false gd23 po10 d10 ((eval_other _ 37 25 _ (by decide)).trans ((eval_other _ 36 25 _ (by decide)).trans ((eval_other _ 35 25 _ (by decide)).trans ((eval_other _ 34 25 _ (by decide)).trans ((eval_other _ 33 25 _ (by decide)).trans ((eval_other _ 32 25 _ (by decide)).trans ((eval_other _ 31 25 _ (by decide)).trans ((eval_other _ 30 25 _ (by decide)).trans ((eval_other _ 29 25 _ (by decide)).trans ((eval_other _ 28 25 _ (by decide)).trans ((eval_other _ 27 25 _ (by decide)).trans ((eval_other _ 26 25 _ (by decide)).trans (eval_same _ _ _ (by simp only [put_size, hsz]; decide))))))))))))))) (fun w' h' => r_gtrV (v := false) HGT.out q23 ((eval_other _ 37 31 _ (by decide)).trans ((eval_other _ 36 31 _ (by decide)).trans ((eval_other _ 35 31 _ (by decide)).trans ((eval_other _ 34 31 _ (by decide)).trans ((eval_other _ 33 31 _ (by decide)).trans ((eval_other _ 32 31 _ (by decide)).trans (eval_same _ _ _ (by simp only [put_size, hsz]; decide)))))))) (eval_same _ _ _ (by simp only [put_size, hsz]; decide)) w') ?_
            refine met_free po24 d24 (wanted_guard gd24 po7 d7 ((eval_other _ 38 22 _ (by decide)).trans ((eval_other _ 37 22 _ (by decide)).trans ((eval_other _ 36 22 _ (by decide)).trans ((eval_other _ 35 22 _ (by decide)).trans ((eval_other _ 34 22 _ (by decide)).trans ((eval_other _ 33 22 _ (by decide)).trans ((eval_other _ 32 22 _ (by decide)).trans ((eval_other _ 31 22 _ (by decide)).trans ((eval_other _ 30 22 _ (by decide)).trans ((eval_other _ 29 22 _ (by decide)).trans ((eval_other _ 28 22 _ (by decide)).trans ((eval_other _ 27 22 _ (by decide)).trans ((eval_other _ 26 22 _ (by decide)).trans ((eval_other _ 25 22 _ (by decide)).trans ((eval_other _ 24 22 _ (by decide)).trans ((eval_other _ 23 22 _ (by decide)).trans (eval_same _ _ _ (by simp only [put_size, hsz]; decide))))))))))))))))))) (fun w' h' => r_pickF q24 ((eval_other _ 38 25 _ (by decide)).trans ((eval_other _ 37 25 _ (by decide)).trans ((eval_other _ 36 25 _ (by decide)).trans ((eval_other _ 35 25 _ (by decide)).trans ((eval_other _ 34 25 _ (by decide)).trans ((eval_other _ 33 25 _ (by decide)).trans ((eval_other _ 32 25 _ (by decide)).trans ((eval_other _ 31 25 _ (by decide)).trans ((eval_other _ 30 25 _ (by decide)).trans ((eval_other _ 29 25 _ (by decide)).trans ((eval_other _ 28 25 _ (by decide)).trans ((eval_other _ 27 25 _ (by decide)).trans ((eval_other _ 26 25 _ (by decide)).trans (eval_same _ _ _ (by simp only [put_size, hsz]; decide))))))))))))))) (eval_same _ _ _ (by simp only [put_size, hsz]; decide)) w') ?_
            refine met_free po25 d25 (wanted_of gd25) (fun w' h' => run_pick_true q25 ((eval_other _ 39 22 _ (by decide)).trans ((eval_other _ 38 22 _ (by decide)).trans ((eval_other _ 37 22 _ (by decide)).trans ((eval_other _ 36 22 _ (by decide)).trans ((eval_other _ 35 22 _ (by decide)).trans ((eval_other _ 34 22 _ (by decide)).trans ((eval_other _ 33 22 _ (by decide)).trans ((eval_other _ 32 22 _ (by decide)).trans ((eval_other _ 31 22 _ (by decide)).trans ((eval_other _ 30 22 _ (by decide)).trans ((eval_other _ 29 22 _ (by decide)).trans ((eval_other _ 28 22 _ (by decide)).trans ((eval_other _ 27 22 _ (by decide)).trans ((eval_other _ 26 22 _ (by decide)).trans ((eval_other _ 25 22 _ (by decide)).trans ((eval_other _ 24 22 _ (by decide)).trans ((eval_other _ 23 22 _ (by decide)).trans (eval_same _ _ _ (by simp only [put_size, hsz]; decide))))))))))))))))))) (eval_same _ _ _ (by simp only [put_size, hsz]; decide)) w') ?_
            show NoPanic _ .normal _ _
            refine NoPanic.normal ?_
            rw [HAA.out]
            go_frame
            clear HAA
            clear po0 q0 d0 gd0 po1 q1 d1 gd1 po2 q2 d2 gd2 po3 q3 d3 gd3 po4 q4 d4 gd4 po5 q5 d5 gd5 po6 q6 d6 gd6 po7 q7 d7 gd7 po8 q8 d8 gd8 po9 q9 d9 gd9 po10 q10 d10 gd10 po11 q11 d11 gd11 po12 q12 d12 gd12 po13 q13 d13 gd13 po14 q14 d14 gd14 po15 q15 d15 gd15 po16 q16 d16 gd16 po17 q17 d17 gd17 po18 q18 d18 gd18 po19 q19 d19 gd19 po20 q20 d20 gd20 po21 q21 d21 gd21 po22 q22 d22 gd22 po23 q23 d23 gd23 po24 q24 d24 gd24 po25 q25 d25 gd25
            clear base0 base2 base7 base8 hsz
            go_wp2_with fail
            go_roundw
            case rel => exact ⟨k + 1, (j : Int), by omega, by go_num, rfl, HF.out, HSw5_1.out.below⟩
            case measure => simp [intOf]; omega
    · have HTA : Hid (l.take k = l) := show _ = _ from List.take_of_length_le (by rw [HN.out]; omega)
      cases HRB.out with
      | none hbm =>
        have HF : Hid (allowedM l r s = true) := show _ = _ from by rw [HTA.out] at hbm; unfold allowedM; rw [hbm]; exact hasZ_all r
        clear hbm HRB
        go_wp2_with fail
        go_ret
        refine ⟨?_, HB.out⟩
        rw [HF.out]
        rfl
      | «at» j hj hbm =>
        have hjn : j < n := by rw [← HN.out]; exact hj
        have HJN := Lib.hid hjn
        rcases HL.out.at' with h0 | ⟨b, off, rfl, hrr⟩
        · exfalso; rw [h0] at hj; simp at hj
        have hrj := range_keep (hrr j hj) HB.out
        have hok := HOK.out l[j] (List.getElem_mem hj)
        obtain ⟨yp, yr, hy⟩ : ∃ yp yr, l[j] = ⟨yp, yr⟩ := ⟨_, _, rfl⟩
        rw [hy] at hbm hrj hok
        simp only [RuleM.cells] at hrj
        have HF : Hid (allowedM l r s = hasZ yr r) := show _ = _ from by rw [HTA.out] at hbm; unfold allowedM; rw [hbm]
        have HW : Hid (wrap64 yr = yr) := show _ = _ from hok.rw
        obtain ⟨c0, c1⟩ := rule_cells hrj
        clear hbm HRB hrj hok hy hrr hj
        go_wp2_with (first
          | (show wpList _ _ _ (⟨_, .indexAddr _ _ _, _, _, _, _⟩ :: _) _ _; refine wpList_run (by rfl) (ruleT.run_ix rfl rfl rfl HJN.out _) ?_))
        refine (refHas_any yr r _ HW.out).mono ?_
        rintro e w' ⟨rfl, rfl⟩
        go_wp2_with fail
        go_ret
        refine ⟨?_, HB.out⟩
        rw [HF.out]
        rfl
end Go.Proofs.Ytkfkdomjjepmdaa

/-
  Narrow: the program's.
-/
namespace Go.Proofs.Ytkfkdomjjepmdaa
open Go.RowKit
set_option maxRecDepth 100000 in
set_option maxHeartbeats 2000000 in
theorem narrow_any (a b : GrantM) (w : World) (hb : wrap64 b.rights = b.rights) : Calls Try.prog 19 #[.agg a.cells.toArray, .agg b.cells.toArray] w (ReturnsG (narrowM a b) w) := by
  have HR := Lib.hid hb
  have HP := Lib.hid (show narrowM a b = (hasZ a.rights b.rights && (scopeM a.pre a.exact b.pre b.exact && tillM a.till b.till)) from rfl)
  have HSA : Hid (∀ w, Calls Try.prog 37 #[.agg a.cells.toArray] w fun e w' => e = .returned (.agg #[.string a.pre, .bool a.exact]) ∧ Below w.heap.size w w') := show ∀ _, _ from fun w => scopeOf_any a w
  have HSB : Hid (∀ w, Calls Try.prog 37 #[.agg b.cells.toArray] w fun e w' => e = .returned (.agg #[.string b.pre, .bool b.exact]) ∧ Below w.heap.size w w') := show ∀ _, _ from fun w => scopeOf_any b w
  clear hb
  generalize hca : a.cells.toArray = ca
  generalize hcb : b.cells.toArray = cb
  have HCA := Lib.hid hca
  have HCB := Lib.hid hcb
  clear hca hcb
  go_enter Try.func19, Try.ntmps19
  go_upto_region 1 with (fail)
  refine wp_gen (fun wr => Gr2 w.heap.size (w.heap.size + 1) a b w wr) (Gr2.boxes w HCA.out HCB.out) (fun w1 hg => ?_)
  have HG := Lib.hid hg
  clear hg
  cases hz : hasZ a.rights b.rights
  · have HZ := Lib.hid hz
    clear hz
    refine region_phase (fun wr => Gr2 w.heap.size (w.heap.size + 1) a b w wr) (fun _ => True) 99 (HG.out.step (Below.refl _ _).drew) trivial [(0, .free), (1, .free), (2, .free), (3, .free), (4, .behind), (5, .free), (6, .free), (8, .free), (7, .behind), (9, .behind), (10, .behind), (11, .free), (12, .free), (13, .free), (14, .free), (15, .free), (16, .free), (17, .behind), (18, .free), (19, .free)] (by kernel_rfl) (by kernel_rfl) (by kernel_rfl) (by kernel_rfl) (fun ops hops A hA => ?_)
    have hsz : A.tmps.size = 24 := by rw [hA]; rfl
    have base2 : A.eval (.tmp 2) = .pointer (some ⟨w.heap.size, 0, none⟩) := by rw [hA]; rfl
    have base3 : A.eval (.tmp 3) = .pointer (some ⟨w.heap.size + 1, 0, none⟩) := by rw [hA]; rfl
    have HAA := Lib.hid hA; clear hA
    obtain ⟨o0, po0, q0, d0, gd0⟩ : ∃ o, ops[0]? = some o ∧ o.op = .fieldAddr 23 (.tmp 2) 0 ∧ o.dst = some 5 ∧ o.guard = none := ⟨_, by rw [hops]; rfl, rfl, rfl, rfl⟩
    obtain ⟨o1, po1, q1, d1, gd1⟩ : ∃ o, ops[1]? = some o ∧ o.op = .load 3 (.tmp 5) ∧ o.dst = some 6 ∧ o.guard = none := ⟨_, by rw [hops]; rfl, rfl, rfl, rfl⟩
    obtain ⟨o2, po2, q2, d2, gd2⟩ : ∃ o, ops[2]? = some o ∧ o.op = .fieldAddr 23 (.tmp 3) 0 ∧ o.dst = some 7 ∧ o.guard = none := ⟨_, by rw [hops]; rfl, rfl, rfl, rfl⟩
    obtain ⟨o3, po3, q3, d3, gd3⟩ : ∃ o, ops[3]? = some o ∧ o.op = .load 3 (.tmp 7) ∧ o.dst = some 8 ∧ o.guard = none := ⟨_, by rw [hops]; rfl, rfl, rfl, rfl⟩
    obtain ⟨o4, po4, q4, d4, gd4⟩ : ∃ o, ops[4]? = some o ∧ o.op = .call { callee := .value (.func 36), args := #[.tmp 6, .tmp 8], argTypes := #[3, 3] } ∧ o.dst = some 9 ∧ o.guard = none := ⟨_, by rw [hops]; rfl, rfl, rfl, rfl⟩
    obtain ⟨o5, po5, q5, d5, gd5⟩ : ∃ o, ops[5]? = some o ∧ o.op = .move (.tmp 9) ∧ o.dst = some 10 ∧ o.guard = none := ⟨_, by rw [hops]; rfl, rfl, rfl, rfl⟩
    obtain ⟨o6, po6, q6, d6, gd6⟩ : ∃ o, ops[6]? = some o ∧ o.op = .load 23 (.tmp 2) ∧ o.dst = some 11 ∧ o.guard = some (5, true) := ⟨_, by rw [hops]; rfl, rfl, rfl, rfl⟩
    obtain ⟨o7, po7, q7, d7, gd7⟩ : ∃ o, ops[7]? = some o ∧ o.op = .call { callee := .value (.func 37), args := #[.tmp 11], argTypes := #[23] } ∧ o.dst = some 12 ∧ o.guard = some (5, true) := ⟨_, by rw [hops]; rfl, rfl, rfl, rfl⟩
    obtain ⟨o8, po8, q8, d8, gd8⟩ : ∃ o, ops[8]? = some o ∧ o.op = .load 23 (.tmp 3) ∧ o.dst = some 13 ∧ o.guard = some (5, true) := ⟨_, by rw [hops]; rfl, rfl, rfl, rfl⟩
    obtain ⟨o9, po9, q9, d9, gd9⟩ : ∃ o, ops[9]? = some o ∧ o.op = .call { callee := .value (.func 37), args := #[.tmp 13], argTypes := #[23] } ∧ o.dst = some 14 ∧ o.guard = some (5, true) := ⟨_, by rw [hops]; rfl, rfl, rfl, rfl⟩
    obtain ⟨o10, po10, q10, d10, gd10⟩ : ∃ o, ops[10]? = some o ∧ o.op = .call { callee := .value (.func 38), args := #[.tmp 12, .tmp 14], argTypes := #[52, 52] } ∧ o.dst = some 15 ∧ o.guard = some (5, true) := ⟨_, by rw [hops]; rfl, rfl, rfl, rfl⟩
    obtain ⟨o11, po11, q11, d11, gd11⟩ : ∃ o, ops[11]? = some o ∧ o.op = .pick (.tmp 10) (.tmp 15) (.const (.bool false)) ∧ o.dst = some 16 ∧ o.guard = none := ⟨_, by rw [hops]; rfl, rfl, rfl, rfl⟩
    obtain ⟨o12, po12, q12, d12, gd12⟩ : ∃ o, ops[12]? = some o ∧ o.op = .move (.tmp 16) ∧ o.dst = some 17 ∧ o.guard = none := ⟨_, by rw [hops]; rfl, rfl, rfl, rfl⟩
    obtain ⟨o13, po13, q13, d13, gd13⟩ : ∃ o, ops[13]? = some o ∧ o.op = .fieldAddr 23 (.tmp 2) 3 ∧ o.dst = some 18 ∧ o.guard = some (12, true) := ⟨_, by rw [hops]; rfl, rfl, rfl, rfl⟩
    obtain ⟨o14, po14, q14, d14, gd14⟩ : ∃ o, ops[14]? = some o ∧ o.op = .load 3 (.tmp 18) ∧ o.dst = some 19 ∧ o.guard = some (12, true) := ⟨_, by rw [hops]; rfl, rfl, rfl, rfl⟩
    obtain ⟨o15, po15, q15, d15, gd15⟩ : ∃ o, ops[15]? = some o ∧ o.op = .fieldAddr 23 (.tmp 3) 3 ∧ o.dst = some 20 ∧ o.guard = some (12, true) := ⟨_, by rw [hops]; rfl, rfl, rfl, rfl⟩
    obtain ⟨o16, po16, q16, d16, gd16⟩ : ∃ o, ops[16]? = some o ∧ o.op = .load 3 (.tmp 20) ∧ o.dst = some 21 ∧ o.guard = some (12, true) := ⟨_, by rw [hops]; rfl, rfl, rfl, rfl⟩
    obtain ⟨o17, po17, q17, d17, gd17⟩ : ∃ o, ops[17]? = some o ∧ o.op = .call { callee := .value (.func 41), args := #[.tmp 19, .tmp 21], argTypes := #[3, 3] } ∧ o.dst = some 22 ∧ o.guard = some (12, true) := ⟨_, by rw [hops]; rfl, rfl, rfl, rfl⟩
    obtain ⟨o18, po18, q18, d18, gd18⟩ : ∃ o, ops[18]? = some o ∧ o.op = .pick (.tmp 17) (.tmp 22) (.const (.bool false)) ∧ o.dst = some 23 ∧ o.guard = none := ⟨_, by rw [hops]; rfl, rfl, rfl, rfl⟩
    obtain ⟨o19, po19, q19, d19, gd19⟩ : ∃ o, ops[19]? = some o ∧ o.op = .assign (.tmp 23) ∧ o.dst = some 4 ∧ o.guard = none := ⟨_, by rw [hops]; rfl, rfl, rfl, rfl⟩
    clear hops
    refine met_free po0 d0 (wanted_of gd0) (fun w' h' => run_fieldT (off := 0) q0 (fun _ => by kernel_rfl) base2 w') ?_
    refine met_free po1 d1 (wanted_of gd1) (fun w' h' => run_loadInt q1 (eval_same _ _ _ (by rw [hsz]; decide)) h'.one.c0) ?_
    refine met_free po2 d2 (wanted_of gd2) (fun w' h' => run_fieldT (off := 0) q2 (fun _ => by kernel_rfl) ((eval_other _ 6 3 _ (by decide)).trans ((eval_other _ 5 3 _ (by decide)).trans base3)) w') ?_
    refine met_free po3 d3 (wanted_of gd3) (fun w' h' => run_loadInt q3 (eval_same _ _ _ (by simp only [put_size, hsz]; decide)) h'.two.c0) ?_
    refine m_enter po4 d4 (wanted_of gd4) (run_callf2 q4 rfl ((eval_other _ 8 6 _ (by decide)).trans ((eval_other _ 7 6 _ (by decide)).trans (eval_same _ _ _ (by simp only [put_size, hsz]; decide)))) (eval_same _ _ _ (by simp only [put_size, hsz]; decide)) Try.func36 (by kernel_rfl) _) ((HZ.out ▸ quietG (has_any a.rights b.rights _ HR.out) : Calls _ _ _ _ (ReturnsG false _))) ?_
    rintro e w1_1 ⟨rfl, hb⟩
    have HSw1_1 := Lib.hid ((HG.out.step (Below.refl _ _).drew).step hb)
    clear hb
    refine ⟨_, rfl, HSw1_1.out, ?_⟩
    refine met_free po5 d5 (wanted_of gd5) (fun w' h' => run_move q5 (eval_same _ _ _ (by simp only [put_size, hsz]; decide)) w') ?_
    refine m_unwanted po6 d6 (w_not gd6 po5 d5 (eval_same _ _ _ (by simp only [put_size, hsz]; decide))) ?_
    refine m_unwanted po8 d8 (w_not gd8 po5 d5 ((eval_other _ 11 10 _ (by decide)).trans (eval_same _ _ _ (by simp only [put_size, hsz]; decide)))) ?_
    refine m_skipped po7 d7 (w_not gd7 po5 d5 ((eval_other _ 13 10 _ (by decide)).trans ((eval_other _ 11 10 _ (by decide)).trans (eval_same _ _ _ (by simp only [put_size, hsz]; decide))))) ⟨HSw1_1.out, ?_⟩
    refine m_skipped po9 d9 (w_not gd9 po5 d5 ((eval_other _ 12 10 _ (by decide)).trans ((eval_other _ 13 10 _ (by decide)).trans ((eval_other _ 11 10 _ (by decide)).trans (eval_same _ _ _ (by simp only [put_size, hsz]; decide)))))) ⟨HSw1_1.out, ?_⟩
    refine m_skipped po10 d10 (w_not gd10 po5 d5 ((eval_other _ 14 10 _ (by decide)).trans ((eval_other _ 12 10 _ (by decide)).trans ((eval_other _ 13 10 _ (by decide)).trans ((eval_other _ 11 10 _ (by decide)).trans (eval_same _ _ _ (by simp only [put_size, hsz]; decide))))))) ⟨HSw1_1.out, ?_⟩
    refine met_free po11 d11 (wanted_of gd11) (fun w' h' => r_pickF q11 ((eval_other _ 15 10 _ (by decide)).trans ((eval_other _ 14 10 _ (by decide)).trans ((eval_other _ 12 10 _ (by decide)).trans ((eval_other _ 13 10 _ (by decide)).trans ((eval_other _ 11 10 _ (by decide)).trans (eval_same _ _ _ (by simp only [put_size, hsz]; decide))))))) rfl w') ?_
    refine met_free po12 d12 (wanted_of gd12) (fun w' h' => run_move q12 (eval_same _ _ _ (by simp only [put_size, hsz]; decide)) w') ?_
    refine m_unwanted po13 d13 (w_not gd13 po12 d12 (eval_same _ _ _ (by simp only [put_size, hsz]; decide))) ?_
    refine m_unwanted po14 d14 (w_not gd14 po12 d12 ((eval_other _ 18 17 _ (by decide)).trans (eval_same _ _ _ (by simp only [put_size, hsz]; decide)))) ?_
    refine m_unwanted po15 d15 (w_not gd15 po12 d12 ((eval_other _ 19 17 _ (by decide)).trans ((eval_other _ 18 17 _ (by decide)).trans (eval_same _ _ _ (by simp only [put_size, hsz]; decide))))) ?_
    refine m_unwanted po16 d16 (w_not gd16 po12 d12 ((eval_other _ 20 17 _ (by decide)).trans ((eval_other _ 19 17 _ (by decide)).trans ((eval_other _ 18 17 _ (by decide)).trans (eval_same _ _ _ (by simp only [put_size, hsz]; decide)))))) ?_
    refine m_skipped po17 d17 (w_not gd17 po12 d12 ((eval_other _ 21 17 _ (by decide)).trans ((eval_other _ 20 17 _ (by decide)).trans ((eval_other _ 19 17 _ (by decide)).trans ((eval_other _ 18 17 _ (by decide)).trans (eval_same _ _ _ (by simp only [put_size, hsz]; decide))))))) ⟨HSw1_1.out, ?_⟩
    refine met_free po18 d18 (wanted_of gd18) (fun w' h' => r_pickF q18 ((eval_other _ 22 17 _ (by decide)).trans ((eval_other _ 21 17 _ (by decide)).trans ((eval_other _ 20 17 _ (by decide)).trans ((eval_other _ 19 17 _ (by decide)).trans ((eval_other _ 18 17 _ (by decide)).trans (eval_same _ _ _ (by simp only [put_size, hsz]; decide))))))) rfl w') ?_
    refine met_free po19 d19 (wanted_of gd19) (fun w' h' => run_assign q19 (eval_same _ _ _ (by simp only [put_size, hsz]; decide)) w') ?_
    show NoPanic _ .normal _ _
    refine NoPanic.normal ?_
    rw [HAA.out]
    go_frame
    clear HAA
    clear po0 q0 d0 gd0 po1 q1 d1 gd1 po2 q2 d2 gd2 po3 q3 d3 gd3 po4 q4 d4 gd4 po5 q5 d5 gd5 po6 q6 d6 gd6 po7 q7 d7 gd7 po8 q8 d8 gd8 po9 q9 d9 gd9 po10 q10 d10 gd10 po11 q11 d11 gd11 po12 q12 d12 gd12 po13 q13 d13 gd13 po14 q14 d14 gd14 po15 q15 d15 gd15 po16 q16 d16 gd16 po17 q17 d17 gd17 po18 q18 d18 gd18 po19 q19 d19 gd19
    clear base2 base3 hsz
    go_wp2_with fail
    go_ret
    refine ⟨?_, HSw1_1.out.below⟩
    rw [HP.out, HZ.out]
    rfl
  · have HZ := Lib.hid hz
    clear hz
    cases hs : scopeM a.pre a.exact b.pre b.exact
    · have HX := Lib.hid hs
      clear hs
      refine region_phase (fun wr => Gr2 w.heap.size (w.heap.size + 1) a b w wr) (fun _ => True) 99 (HG.out.step (Below.refl _ _).drew) trivial [(0, .free), (1, .free), (2, .free), (3, .free), (4, .behind), (5, .free), (6, .free), (8, .free), (7, .behind), (9, .behind), (10, .behind), (11, .free), (12, .free), (13, .free), (14, .free), (15, .free), (16, .free), (17, .behind), (18, .free), (19, .free)] (by kernel_rfl) (by kernel_rfl) (by kernel_rfl) (by kernel_rfl) (fun ops hops A hA => ?_)
      have hsz : A.tmps.size = 24 := by rw [hA]; rfl
      have base2 : A.eval (.tmp 2) = .pointer (some ⟨w.heap.size, 0, none⟩) := by rw [hA]; rfl
      have base3 : A.eval (.tmp 3) = .pointer (some ⟨w.heap.size + 1, 0, none⟩) := by rw [hA]; rfl
      have HAA := Lib.hid hA; clear hA
      obtain ⟨o0, po0, q0, d0, gd0⟩ : ∃ o, ops[0]? = some o ∧ o.op = .fieldAddr 23 (.tmp 2) 0 ∧ o.dst = some 5 ∧ o.guard = none := ⟨_, by rw [hops]; rfl, rfl, rfl, rfl⟩
      obtain ⟨o1, po1, q1, d1, gd1⟩ : ∃ o, ops[1]? = some o ∧ o.op = .load 3 (.tmp 5) ∧ o.dst = some 6 ∧ o.guard = none := ⟨_, by rw [hops]; rfl, rfl, rfl, rfl⟩
      obtain ⟨o2, po2, q2, d2, gd2⟩ : ∃ o, ops[2]? = some o ∧ o.op = .fieldAddr 23 (.tmp 3) 0 ∧ o.dst = some 7 ∧ o.guard = none := ⟨_, by rw [hops]; rfl, rfl, rfl, rfl⟩
      obtain ⟨o3, po3, q3, d3, gd3⟩ : ∃ o, ops[3]? = some o ∧ o.op = .load 3 (.tmp 7) ∧ o.dst = some 8 ∧ o.guard = none := ⟨_, by rw [hops]; rfl, rfl, rfl, rfl⟩
      obtain ⟨o4, po4, q4, d4, gd4⟩ : ∃ o, ops[4]? = some o ∧ o.op = .call { callee := .value (.func 36), args := #[.tmp 6, .tmp 8], argTypes := #[3, 3] } ∧ o.dst = some 9 ∧ o.guard = none := ⟨_, by rw [hops]; rfl, rfl, rfl, rfl⟩
      obtain ⟨o5, po5, q5, d5, gd5⟩ : ∃ o, ops[5]? = some o ∧ o.op = .move (.tmp 9) ∧ o.dst = some 10 ∧ o.guard = none := ⟨_, by rw [hops]; rfl, rfl, rfl, rfl⟩
      obtain ⟨o6, po6, q6, d6, gd6⟩ : ∃ o, ops[6]? = some o ∧ o.op = .load 23 (.tmp 2) ∧ o.dst = some 11 ∧ o.guard = some (5, true) := ⟨_, by rw [hops]; rfl, rfl, rfl, rfl⟩
      obtain ⟨o7, po7, q7, d7, gd7⟩ : ∃ o, ops[7]? = some o ∧ o.op = .call { callee := .value (.func 37), args := #[.tmp 11], argTypes := #[23] } ∧ o.dst = some 12 ∧ o.guard = some (5, true) := ⟨_, by rw [hops]; rfl, rfl, rfl, rfl⟩
      obtain ⟨o8, po8, q8, d8, gd8⟩ : ∃ o, ops[8]? = some o ∧ o.op = .load 23 (.tmp 3) ∧ o.dst = some 13 ∧ o.guard = some (5, true) := ⟨_, by rw [hops]; rfl, rfl, rfl, rfl⟩
      obtain ⟨o9, po9, q9, d9, gd9⟩ : ∃ o, ops[9]? = some o ∧ o.op = .call { callee := .value (.func 37), args := #[.tmp 13], argTypes := #[23] } ∧ o.dst = some 14 ∧ o.guard = some (5, true) := ⟨_, by rw [hops]; rfl, rfl, rfl, rfl⟩
      obtain ⟨o10, po10, q10, d10, gd10⟩ : ∃ o, ops[10]? = some o ∧ o.op = .call { callee := .value (.func 38), args := #[.tmp 12, .tmp 14], argTypes := #[52, 52] } ∧ o.dst = some 15 ∧ o.guard = some (5, true) := ⟨_, by rw [hops]; rfl, rfl, rfl, rfl⟩
      obtain ⟨o11, po11, q11, d11, gd11⟩ : ∃ o, ops[11]? = some o ∧ o.op = .pick (.tmp 10) (.tmp 15) (.const (.bool false)) ∧ o.dst = some 16 ∧ o.guard = none := ⟨_, by rw [hops]; rfl, rfl, rfl, rfl⟩
      obtain ⟨o12, po12, q12, d12, gd12⟩ : ∃ o, ops[12]? = some o ∧ o.op = .move (.tmp 16) ∧ o.dst = some 17 ∧ o.guard = none := ⟨_, by rw [hops]; rfl, rfl, rfl, rfl⟩
      obtain ⟨o13, po13, q13, d13, gd13⟩ : ∃ o, ops[13]? = some o ∧ o.op = .fieldAddr 23 (.tmp 2) 3 ∧ o.dst = some 18 ∧ o.guard = some (12, true) := ⟨_, by rw [hops]; rfl, rfl, rfl, rfl⟩
      obtain ⟨o14, po14, q14, d14, gd14⟩ : ∃ o, ops[14]? = some o ∧ o.op = .load 3 (.tmp 18) ∧ o.dst = some 19 ∧ o.guard = some (12, true) := ⟨_, by rw [hops]; rfl, rfl, rfl, rfl⟩
      obtain ⟨o15, po15, q15, d15, gd15⟩ : ∃ o, ops[15]? = some o ∧ o.op = .fieldAddr 23 (.tmp 3) 3 ∧ o.dst = some 20 ∧ o.guard = some (12, true) := ⟨_, by rw [hops]; rfl, rfl, rfl, rfl⟩
      obtain ⟨o16, po16, q16, d16, gd16⟩ : ∃ o, ops[16]? = some o ∧ o.op = .load 3 (.tmp 20) ∧ o.dst = some 21 ∧ o.guard = some (12, true) := ⟨_, by rw [hops]; rfl, rfl, rfl, rfl⟩
      obtain ⟨o17, po17, q17, d17, gd17⟩ : ∃ o, ops[17]? = some o ∧ o.op = .call { callee := .value (.func 41), args := #[.tmp 19, .tmp 21], argTypes := #[3, 3] } ∧ o.dst = some 22 ∧ o.guard = some (12, true) := ⟨_, by rw [hops]; rfl, rfl, rfl, rfl⟩
      obtain ⟨o18, po18, q18, d18, gd18⟩ : ∃ o, ops[18]? = some o ∧ o.op = .pick (.tmp 17) (.tmp 22) (.const (.bool false)) ∧ o.dst = some 23 ∧ o.guard = none := ⟨_, by rw [hops]; rfl, rfl, rfl, rfl⟩
      obtain ⟨o19, po19, q19, d19, gd19⟩ : ∃ o, ops[19]? = some o ∧ o.op = .assign (.tmp 23) ∧ o.dst = some 4 ∧ o.guard = none := ⟨_, by rw [hops]; rfl, rfl, rfl, rfl⟩
      clear hops
      refine met_free po0 d0 (wanted_of gd0) (fun w' h' => run_fieldT (off := 0) q0 (fun _ => by kernel_rfl) base2 w') ?_
      refine met_free po1 d1 (wanted_of gd1) (fun w' h' => run_loadInt q1 (eval_same _ _ _ (by rw [hsz]; decide)) h'.one.c0) ?_
      refine met_free po2 d2 (wanted_of gd2) (fun w' h' => run_fieldT (off := 0) q2 (fun _ => by kernel_rfl) ((eval_other _ 6 3 _ (by decide)).trans ((eval_other _ 5 3 _ (by decide)).trans base3)) w') ?_
      refine met_free po3 d3 (wanted_of gd3) (fun w' h' => run_loadInt q3 (eval_same _ _ _ (by simp only [put_size, hsz]; decide)) h'.two.c0) ?_
      refine m_enter po4 d4 (wanted_of gd4) (run_callf2 q4 rfl ((eval_other _ 8 6 _ (by decide)).trans ((eval_other _ 7 6 _ (by decide)).trans (eval_same _ _ _ (by simp only [put_size, hsz]; decide)))) (eval_same _ _ _ (by simp only [put_size, hsz]; decide)) Try.func36 (by kernel_rfl) _) ((HZ.out ▸ quietG (has_any a.rights b.rights _ HR.out) : Calls _ _ _ _ (ReturnsG true _))) ?_
      rintro e w1_1 ⟨rfl, hb⟩
      have HSw1_1 := Lib.hid ((HG.out.step (Below.refl _ _).drew).step hb)
      clear hb
      refine ⟨_, rfl, HSw1_1.out, ?_⟩
      refine met_free po5 d5 (wanted_of gd5) (fun w' h' => run_move q5 (eval_same _ _ _ (by simp only [put_size, hsz]; decide)) w') ?_
      refine met_free po6 d6 (wanted_guard gd6 po5 d5 (eval_same _ _ _ (by simp only [put_size, hsz]; decide))) (fun w' h' => run_loadBlk q6 ((eval_other _ 10 2 _ (by decide)).trans ((eval_other _ 9 2 _ (by decide)).trans ((eval_other _ 8 2 _ (by decide)).trans ((eval_other _ 7 2 _ (by decide)).trans ((eval_other _ 6 2 _ (by decide)).trans ((eval_other _ 5 2 _ (by decide)).trans base2)))))) h'.one (by kernel_rfl) (size_grant _)) ?_
      refine met_free po8 d8 (wanted_guard gd8 po5 d5 ((eval_other _ 11 10 _ (by decide)).trans (eval_same _ _ _ (by simp only [put_size, hsz]; decide)))) (fun w' h' => run_loadBlk q8 ((eval_other _ 11 3 _ (by decide)).trans ((eval_other _ 10 3 _ (by decide)).trans ((eval_other _ 9 3 _ (by decide)).trans ((eval_other _ 8 3 _ (by decide)).trans ((eval_other _ 7 3 _ (by decide)).trans ((eval_other _ 6 3 _ (by decide)).trans ((eval_other _ 5 3 _ (by decide)).trans base3))))))) h'.two (by kernel_rfl) (size_grant _)) ?_
      refine m_enter po7 d7 (wanted_guard gd7 po5 d5 ((eval_other _ 13 10 _ (by decide)).trans ((eval_other _ 11 10 _ (by decide)).trans (eval_same _ _ _ (by simp only [put_size, hsz]; decide))))) (run_callf1 q7 rfl ((eval_other _ 13 11 _ (by decide)).trans (eval_same _ _ _ (by simp only [put_size, hsz]; decide))) Try.func37 (by kernel_rfl) _) (HSA.out _) ?_
      rintro e w1_2 ⟨rfl, hb⟩
      have HSw1_2 := Lib.hid (HSw1_1.out.step hb)
      clear hb
      refine ⟨_, rfl, HSw1_2.out, ?_⟩
      refine m_enter po9 d9 (wanted_guard gd9 po5 d5 ((eval_other _ 12 10 _ (by decide)).trans ((eval_other _ 13 10 _ (by decide)).trans ((eval_other _ 11 10 _ (by decide)).trans (eval_same _ _ _ (by simp only [put_size, hsz]; decide)))))) (run_callf1 q9 rfl ((eval_other _ 12 13 _ (by decide)).trans (eval_same _ _ _ (by simp only [put_size, hsz]; decide))) Try.func37 (by kernel_rfl) _) (HSB.out _) ?_
      rintro e w1_3 ⟨rfl, hb⟩
      have HSw1_3 := Lib.hid (HSw1_2.out.step hb)
      clear hb
      refine ⟨_, rfl, HSw1_3.out, ?_⟩
      refine m_enter po10 d10 (wanted_guard gd10 po5 d5 ((eval_other _ 14 10 _ (by decide)).trans ((eval_other _ 12 10 _ (by decide)).trans ((eval_other _ 13 10 _ (by decide)).trans ((eval_other _ 11 10 _ (by decide)).trans (eval_same _ _ _ (by simp only [put_size, hsz]; decide))))))) (run_callf2 q10 rfl ((eval_other _ 14 12 _ (by decide)).trans (eval_same _ _ _ (by simp only [put_size, hsz]; decide))) (eval_same _ _ _ (by simp only [put_size, hsz]; decide)) Try.func38 (by kernel_rfl) _) ((HX.out ▸ contains_any a.pre a.exact b.pre b.exact _ : Calls _ _ _ _ (ReturnsG false _))) ?_
      rintro e w1_4 ⟨rfl, hb⟩
      have HSw1_4 := Lib.hid (HSw1_3.out.step hb)
      clear hb
      refine ⟨_, rfl, HSw1_4.out, ?_⟩
      refine met_free po11 d11 (wanted_of gd11) (fun w' h' => run_pick_true q11 ((eval_other _ 15 10 _ (by decide)).trans ((eval_other _ 14 10 _ (by decide)).trans ((eval_other _ 12 10 _ (by decide)).trans ((eval_other _ 13 10 _ (by decide)).trans ((eval_other _ 11 10 _ (by decide)).trans (eval_same _ _ _ (by simp only [put_size, hsz]; decide))))))) (eval_same _ _ _ (by simp only [put_size, hsz]; decide)) w') ?_
      refine met_free po12 d12 (wanted_of gd12) (fun w' h' => run_move q12 (eval_same _ _ _ (by simp only [put_size, hsz]; decide)) w') ?_
      refine m_unwanted po13 d13 (w_not gd13 po12 d12 (eval_same _ _ _ (by simp only [put_size, hsz]; decide))) ?_
      refine m_unwanted po14 d14 (w_not gd14 po12 d12 ((eval_other _ 18 17 _ (by decide)).trans (eval_same _ _ _ (by simp only [put_size, hsz]; decide)))) ?_
      refine m_unwanted po15 d15 (w_not gd15 po12 d12 ((eval_other _ 19 17 _ (by decide)).trans ((eval_other _ 18 17 _ (by decide)).trans (eval_same _ _ _ (by simp only [put_size, hsz]; decide))))) ?_
      refine m_unwanted po16 d16 (w_not gd16 po12 d12 ((eval_other _ 20 17 _ (by decide)).trans ((eval_other _ 19 17 _ (by decide)).trans ((eval_other _ 18 17 _ (by decide)).trans (eval_same _ _ _ (by simp only [put_size, hsz]; decide)))))) ?_
      refine m_skipped po17 d17 (w_not gd17 po12 d12 ((eval_other _ 21 17 _ (by decide)).trans ((eval_other _ 20 17 _ (by decide)).trans ((eval_other _ 19 17 _ (by decide)).trans ((eval_other _ 18 17 _ (by decide)).trans (eval_same _ _ _ (by simp only [put_size, hsz]; decide))))))) ⟨HSw1_4.out, ?_⟩
      refine met_free po18 d18 (wanted_of gd18) (fun w' h' => r_pickF q18 ((eval_other _ 22 17 _ (by decide)).trans ((eval_other _ 21 17 _ (by decide)).trans ((eval_other _ 20 17 _ (by decide)).trans ((eval_other _ 19 17 _ (by decide)).trans ((eval_other _ 18 17 _ (by decide)).trans (eval_same _ _ _ (by simp only [put_size, hsz]; decide))))))) rfl w') ?_
      refine met_free po19 d19 (wanted_of gd19) (fun w' h' => run_assign q19 (eval_same _ _ _ (by simp only [put_size, hsz]; decide)) w') ?_
      show NoPanic _ .normal _ _
      refine NoPanic.normal ?_
      rw [HAA.out]
      go_frame
      clear HAA
      clear po0 q0 d0 gd0 po1 q1 d1 gd1 po2 q2 d2 gd2 po3 q3 d3 gd3 po4 q4 d4 gd4 po5 q5 d5 gd5 po6 q6 d6 gd6 po7 q7 d7 gd7 po8 q8 d8 gd8 po9 q9 d9 gd9 po10 q10 d10 gd10 po11 q11 d11 gd11 po12 q12 d12 gd12 po13 q13 d13 gd13 po14 q14 d14 gd14 po15 q15 d15 gd15 po16 q16 d16 gd16 po17 q17 d17 gd17 po18 q18 d18 gd18 po19 q19 d19 gd19
      clear base2 base3 hsz
      go_wp2_with fail
      go_ret
      refine ⟨?_, HSw1_4.out.below⟩
      rw [HP.out, HZ.out, HX.out]
      rfl
    · have HX := Lib.hid hs
      clear hs
      refine region_phase (fun wr => Gr2 w.heap.size (w.heap.size + 1) a b w wr) (fun _ => True) 99 (HG.out.step (Below.refl _ _).drew) trivial [(0, .free), (1, .free), (2, .free), (3, .free), (4, .behind), (5, .free), (6, .free), (8, .free), (7, .behind), (9, .behind), (10, .behind), (11, .free), (12, .free), (13, .free), (14, .free), (15, .free), (16, .free), (17, .behind), (18, .free), (19, .free)] (by kernel_rfl) (by kernel_rfl) (by kernel_rfl) (by kernel_rfl) (fun ops hops A hA => ?_)
      have hsz : A.tmps.size = 24 := by rw [hA]; rfl
      have base2 : A.eval (.tmp 2) = .pointer (some ⟨w.heap.size, 0, none⟩) := by rw [hA]; rfl
      have base3 : A.eval (.tmp 3) = .pointer (some ⟨w.heap.size + 1, 0, none⟩) := by rw [hA]; rfl
      have HAA := Lib.hid hA; clear hA
      obtain ⟨o0, po0, q0, d0, gd0⟩ : ∃ o, ops[0]? = some o ∧ o.op = .fieldAddr 23 (.tmp 2) 0 ∧ o.dst = some 5 ∧ o.guard = none := ⟨_, by rw [hops]; rfl, rfl, rfl, rfl⟩
      obtain ⟨o1, po1, q1, d1, gd1⟩ : ∃ o, ops[1]? = some o ∧ o.op = .load 3 (.tmp 5) ∧ o.dst = some 6 ∧ o.guard = none := ⟨_, by rw [hops]; rfl, rfl, rfl, rfl⟩
      obtain ⟨o2, po2, q2, d2, gd2⟩ : ∃ o, ops[2]? = some o ∧ o.op = .fieldAddr 23 (.tmp 3) 0 ∧ o.dst = some 7 ∧ o.guard = none := ⟨_, by rw [hops]; rfl, rfl, rfl, rfl⟩
      obtain ⟨o3, po3, q3, d3, gd3⟩ : ∃ o, ops[3]? = some o ∧ o.op = .load 3 (.tmp 7) ∧ o.dst = some 8 ∧ o.guard = none := ⟨_, by rw [hops]; rfl, rfl, rfl, rfl⟩
      obtain ⟨o4, po4, q4, d4, gd4⟩ : ∃ o, ops[4]? = some o ∧ o.op = .call { callee := .value (.func 36), args := #[.tmp 6, .tmp 8], argTypes := #[3, 3] } ∧ o.dst = some 9 ∧ o.guard = none := ⟨_, by rw [hops]; rfl, rfl, rfl, rfl⟩
      obtain ⟨o5, po5, q5, d5, gd5⟩ : ∃ o, ops[5]? = some o ∧ o.op = .move (.tmp 9) ∧ o.dst = some 10 ∧ o.guard = none := ⟨_, by rw [hops]; rfl, rfl, rfl, rfl⟩
      obtain ⟨o6, po6, q6, d6, gd6⟩ : ∃ o, ops[6]? = some o ∧ o.op = .load 23 (.tmp 2) ∧ o.dst = some 11 ∧ o.guard = some (5, true) := ⟨_, by rw [hops]; rfl, rfl, rfl, rfl⟩
      obtain ⟨o7, po7, q7, d7, gd7⟩ : ∃ o, ops[7]? = some o ∧ o.op = .call { callee := .value (.func 37), args := #[.tmp 11], argTypes := #[23] } ∧ o.dst = some 12 ∧ o.guard = some (5, true) := ⟨_, by rw [hops]; rfl, rfl, rfl, rfl⟩
      obtain ⟨o8, po8, q8, d8, gd8⟩ : ∃ o, ops[8]? = some o ∧ o.op = .load 23 (.tmp 3) ∧ o.dst = some 13 ∧ o.guard = some (5, true) := ⟨_, by rw [hops]; rfl, rfl, rfl, rfl⟩
      obtain ⟨o9, po9, q9, d9, gd9⟩ : ∃ o, ops[9]? = some o ∧ o.op = .call { callee := .value (.func 37), args := #[.tmp 13], argTypes := #[23] } ∧ o.dst = some 14 ∧ o.guard = some (5, true) := ⟨_, by rw [hops]; rfl, rfl, rfl, rfl⟩
      obtain ⟨o10, po10, q10, d10, gd10⟩ : ∃ o, ops[10]? = some o ∧ o.op = .call { callee := .value (.func 38), args := #[.tmp 12, .tmp 14], argTypes := #[52, 52] } ∧ o.dst = some 15 ∧ o.guard = some (5, true) := ⟨_, by rw [hops]; rfl, rfl, rfl, rfl⟩
      obtain ⟨o11, po11, q11, d11, gd11⟩ : ∃ o, ops[11]? = some o ∧ o.op = .pick (.tmp 10) (.tmp 15) (.const (.bool false)) ∧ o.dst = some 16 ∧ o.guard = none := ⟨_, by rw [hops]; rfl, rfl, rfl, rfl⟩
      obtain ⟨o12, po12, q12, d12, gd12⟩ : ∃ o, ops[12]? = some o ∧ o.op = .move (.tmp 16) ∧ o.dst = some 17 ∧ o.guard = none := ⟨_, by rw [hops]; rfl, rfl, rfl, rfl⟩
      obtain ⟨o13, po13, q13, d13, gd13⟩ : ∃ o, ops[13]? = some o ∧ o.op = .fieldAddr 23 (.tmp 2) 3 ∧ o.dst = some 18 ∧ o.guard = some (12, true) := ⟨_, by rw [hops]; rfl, rfl, rfl, rfl⟩
      obtain ⟨o14, po14, q14, d14, gd14⟩ : ∃ o, ops[14]? = some o ∧ o.op = .load 3 (.tmp 18) ∧ o.dst = some 19 ∧ o.guard = some (12, true) := ⟨_, by rw [hops]; rfl, rfl, rfl, rfl⟩
      obtain ⟨o15, po15, q15, d15, gd15⟩ : ∃ o, ops[15]? = some o ∧ o.op = .fieldAddr 23 (.tmp 3) 3 ∧ o.dst = some 20 ∧ o.guard = some (12, true) := ⟨_, by rw [hops]; rfl, rfl, rfl, rfl⟩
      obtain ⟨o16, po16, q16, d16, gd16⟩ : ∃ o, ops[16]? = some o ∧ o.op = .load 3 (.tmp 20) ∧ o.dst = some 21 ∧ o.guard = some (12, true) := ⟨_, by rw [hops]; rfl, rfl, rfl, rfl⟩
      obtain ⟨o17, po17, q17, d17, gd17⟩ : ∃ o, ops[17]? = some o ∧ o.op = .call { callee := .value (.func 41), args := #[.tmp 19, .tmp 21], argTypes := #[3, 3] } ∧ o.dst = some 22 ∧ o.guard = some (12, true) := ⟨_, by rw [hops]; rfl, rfl, rfl, rfl⟩
      obtain ⟨o18, po18, q18, d18, gd18⟩ : ∃ o, ops[18]? = some o ∧ o.op = .pick (.tmp 17) (.tmp 22) (.const (.bool false)) ∧ o.dst = some 23 ∧ o.guard = none := ⟨_, by rw [hops]; rfl, rfl, rfl, rfl⟩
      obtain ⟨o19, po19, q19, d19, gd19⟩ : ∃ o, ops[19]? = some o ∧ o.op = .assign (.tmp 23) ∧ o.dst = some 4 ∧ o.guard = none := ⟨_, by rw [hops]; rfl, rfl, rfl, rfl⟩
      clear hops
      refine met_free po0 d0 (wanted_of gd0) (fun w' h' => run_fieldT (off := 0) q0 (fun _ => by kernel_rfl) base2 w') ?_
      refine met_free po1 d1 (wanted_of gd1) (fun w' h' => run_loadInt q1 (eval_same _ _ _ (by rw [hsz]; decide)) h'.one.c0) ?_
      refine met_free po2 d2 (wanted_of gd2) (fun w' h' => run_fieldT (off := 0) q2 (fun _ => by kernel_rfl) ((eval_other _ 6 3 _ (by decide)).trans ((eval_other _ 5 3 _ (by decide)).trans base3)) w') ?_
      refine met_free po3 d3 (wanted_of gd3) (fun w' h' => run_loadInt q3 (eval_same _ _ _ (by simp only [put_size, hsz]; decide)) h'.two.c0) ?_
      refine m_enter po4 d4 (wanted_of gd4) (run_callf2 q4 rfl ((eval_other _ 8 6 _ (by decide)).trans ((eval_other _ 7 6 _ (by decide)).trans (eval_same _ _ _ (by simp only [put_size, hsz]; decide)))) (eval_same _ _ _ (by simp only [put_size, hsz]; decide)) Try.func36 (by kernel_rfl) _) ((HZ.out ▸ quietG (has_any a.rights b.rights _ HR.out) : Calls _ _ _ _ (ReturnsG true _))) ?_
      rintro e w1_1 ⟨rfl, hb⟩
      have HSw1_1 := Lib.hid ((HG.out.step (Below.refl _ _).drew).step hb)
      clear hb
      refine ⟨_, rfl, HSw1_1.out, ?_⟩
      refine met_free po5 d5 (wanted_of gd5) (fun w' h' => run_move q5 (eval_same _ _ _ (by simp only [put_size, hsz]; decide)) w') ?_
      refine met_free po6 d6 (wanted_guard gd6 po5 d5 (eval_same _ _ _ (by simp only [put_size, hsz]; decide))) (fun w' h' => run_loadBlk q6 ((eval_other _ 10 2 _ (by decide)).trans ((eval_other _ 9 2 _ (by decide)).trans ((eval_other _ 8 2 _ (by decide)).trans ((eval_other _ 7 2 _ (by decide)).trans ((eval_other _ 6 2 _ (by decide)).trans ((eval_other _ 5 2 _ (by decide)).trans base2)))))) h'.one (by kernel_rfl) (size_grant _)) ?_
      refine met_free po8 d8 (wanted_guard gd8 po5 d5 ((eval_other _ 11 10 _ (by decide)).trans (eval_same _ _ _ (by simp only [put_size, hsz]; decide)))) (fun w' h' => run_loadBlk q8 ((eval_other _ 11 3 _ (by decide)).trans ((eval_other _ 10 3 _ (by decide)).trans ((eval_other _ 9 3 _ (by decide)).trans ((eval_other _ 8 3 _ (by decide)).trans ((eval_other _ 7 3 _ (by decide)).trans ((eval_other _ 6 3 _ (by decide)).trans ((eval_other _ 5 3 _ (by decide)).trans base3))))))) h'.two (by kernel_rfl) (size_grant _)) ?_
      refine m_enter po7 d7 (wanted_guard gd7 po5 d5 ((eval_other _ 13 10 _ (by decide)).trans ((eval_other _ 11 10 _ (by decide)).trans (eval_same _ _ _ (by simp only [put_size, hsz]; decide))))) (run_callf1 q7 rfl ((eval_other _ 13 11 _ (by decide)).trans (eval_same _ _ _ (by simp only [put_size, hsz]; decide))) Try.func37 (by kernel_rfl) _) (HSA.out _) ?_
      rintro e w1_2 ⟨rfl, hb⟩
      have HSw1_2 := Lib.hid (HSw1_1.out.step hb)
      clear hb
      refine ⟨_, rfl, HSw1_2.out, ?_⟩
      refine m_enter po9 d9 (wanted_guard gd9 po5 d5 ((eval_other _ 12 10 _ (by decide)).trans ((eval_other _ 13 10 _ (by decide)).trans ((eval_other _ 11 10 _ (by decide)).trans (eval_same _ _ _ (by simp only [put_size, hsz]; decide)))))) (run_callf1 q9 rfl ((eval_other _ 12 13 _ (by decide)).trans (eval_same _ _ _ (by simp only [put_size, hsz]; decide))) Try.func37 (by kernel_rfl) _) (HSB.out _) ?_
      rintro e w1_3 ⟨rfl, hb⟩
      have HSw1_3 := Lib.hid (HSw1_2.out.step hb)
      clear hb
      refine ⟨_, rfl, HSw1_3.out, ?_⟩
      refine m_enter po10 d10 (wanted_guard gd10 po5 d5 ((eval_other _ 14 10 _ (by decide)).trans ((eval_other _ 12 10 _ (by decide)).trans ((eval_other _ 13 10 _ (by decide)).trans ((eval_other _ 11 10 _ (by decide)).trans (eval_same _ _ _ (by simp only [put_size, hsz]; decide))))))) (run_callf2 q10 rfl ((eval_other _ 14 12 _ (by decide)).trans (eval_same _ _ _ (by simp only [put_size, hsz]; decide))) (eval_same _ _ _ (by simp only [put_size, hsz]; decide)) Try.func38 (by kernel_rfl) _) ((HX.out ▸ contains_any a.pre a.exact b.pre b.exact _ : Calls _ _ _ _ (ReturnsG true _))) ?_
      rintro e w1_4 ⟨rfl, hb⟩
      have HSw1_4 := Lib.hid (HSw1_3.out.step hb)
      clear hb
      refine ⟨_, rfl, HSw1_4.out, ?_⟩
      refine met_free po11 d11 (wanted_of gd11) (fun w' h' => run_pick_true q11 ((eval_other _ 15 10 _ (by decide)).trans ((eval_other _ 14 10 _ (by decide)).trans ((eval_other _ 12 10 _ (by decide)).trans ((eval_other _ 13 10 _ (by decide)).trans ((eval_other _ 11 10 _ (by decide)).trans (eval_same _ _ _ (by simp only [put_size, hsz]; decide))))))) (eval_same _ _ _ (by simp only [put_size, hsz]; decide)) w') ?_
      refine met_free po12 d12 (wanted_of gd12) (fun w' h' => run_move q12 (eval_same _ _ _ (by simp only [put_size, hsz]; decide)) w') ?_
      refine met_free po13 d13 (wanted_guard gd13 po12 d12 (eval_same _ _ _ (by simp only [put_size, hsz]; decide))) (fun w' h' => run_fieldT (off := 3) q13 (fun _ => by kernel_rfl) ((eval_other _ 17 2 _ (by decide)).trans ((eval_other _ 16 2 _ (by decide)).trans ((eval_other _ 15 2 _ (by decide)).trans ((eval_other _ 14 2 _ (by decide)).trans ((eval_other _ 12 2 _ (by decide)).trans ((eval_other _ 13 2 _ (by decide)).trans ((eval_other _ 11 2 _ (by decide)).trans ((eval_other _ 10 2 _ (by decide)).trans ((eval_other _ 9 2 _ (by decide)).trans ((eval_other _ 8 2 _ (by decide)).trans ((eval_other _ 7 2 _ (by decide)).trans ((eval_other _ 6 2 _ (by decide)).trans ((eval_other _ 5 2 _ (by decide)).trans base2))))))))))))) w') ?_
      refine met_free po14 d14 (wanted_guard gd14 po12 d12 ((eval_other _ 18 17 _ (by decide)).trans (eval_same _ _ _ (by simp only [put_size, hsz]; decide)))) (fun w' h' => run_loadInt q14 (eval_same _ _ _ (by simp only [put_size, hsz]; decide)) h'.one.c3) ?_
      refine met_free po15 d15 (wanted_guard gd15 po12 d12 ((eval_other _ 19 17 _ (by decide)).trans ((eval_other _ 18 17 _ (by decide)).trans (eval_same _ _ _ (by simp only [put_size, hsz]; decide))))) (fun w' h' => run_fieldT (off := 3) q15 (fun _ => by kernel_rfl) ((eval_other _ 19 3 _ (by decide)).trans ((eval_other _ 18 3 _ (by decide)).trans ((eval_other _ 17 3 _ (by decide)).trans ((eval_other _ 16 3 _ (by decide)).trans ((eval_other _ 15 3 _ (by decide)).trans ((eval_other _ 14 3 _ (by decide)).trans ((eval_other _ 12 3 _ (by decide)).trans ((eval_other _ 13 3 _ (by decide)).trans ((eval_other _ 11 3 _ (by decide)).trans ((eval_other _ 10 3 _ (by decide)).trans ((eval_other _ 9 3 _ (by decide)).trans ((eval_other _ 8 3 _ (by decide)).trans ((eval_other _ 7 3 _ (by decide)).trans ((eval_other _ 6 3 _ (by decide)).trans ((eval_other _ 5 3 _ (by decide)).trans base3))))))))))))))) w') ?_
      refine met_free po16 d16 (wanted_guard gd16 po12 d12 ((eval_other _ 20 17 _ (by decide)).trans ((eval_other _ 19 17 _ (by decide)).trans ((eval_other _ 18 17 _ (by decide)).trans (eval_same _ _ _ (by simp only [put_size, hsz]; decide)))))) (fun w' h' => run_loadInt q16 (eval_same _ _ _ (by simp only [put_size, hsz]; decide)) h'.two.c3) ?_
      refine m_enter po17 d17 (wanted_guard gd17 po12 d12 ((eval_other _ 21 17 _ (by decide)).trans ((eval_other _ 20 17 _ (by decide)).trans ((eval_other _ 19 17 _ (by decide)).trans ((eval_other _ 18 17 _ (by decide)).trans (eval_same _ _ _ (by simp only [put_size, hsz]; decide))))))) (run_callf2 q17 rfl ((eval_other _ 21 19 _ (by decide)).trans ((eval_other _ 20 19 _ (by decide)).trans (eval_same _ _ _ (by simp only [put_size, hsz]; decide)))) (eval_same _ _ _ (by simp only [put_size, hsz]; decide)) Try.func41 (by kernel_rfl) _) (quietG (ends_any a.till b.till _)) ?_
      rintro e w1_5 ⟨rfl, hb⟩
      have HSw1_5 := Lib.hid (HSw1_4.out.step hb)
      clear hb
      refine ⟨_, rfl, HSw1_5.out, ?_⟩
      refine met_free po18 d18 (wanted_of gd18) (fun w' h' => run_pick_true q18 ((eval_other _ 22 17 _ (by decide)).trans ((eval_other _ 21 17 _ (by decide)).trans ((eval_other _ 20 17 _ (by decide)).trans ((eval_other _ 19 17 _ (by decide)).trans ((eval_other _ 18 17 _ (by decide)).trans (eval_same _ _ _ (by simp only [put_size, hsz]; decide))))))) (eval_same _ _ _ (by simp only [put_size, hsz]; decide)) w') ?_
      refine met_free po19 d19 (wanted_of gd19) (fun w' h' => run_assign q19 (eval_same _ _ _ (by simp only [put_size, hsz]; decide)) w') ?_
      show NoPanic _ .normal _ _
      refine NoPanic.normal ?_
      rw [HAA.out]
      go_frame
      clear HAA
      clear po0 q0 d0 gd0 po1 q1 d1 gd1 po2 q2 d2 gd2 po3 q3 d3 gd3 po4 q4 d4 gd4 po5 q5 d5 gd5 po6 q6 d6 gd6 po7 q7 d7 gd7 po8 q8 d8 gd8 po9 q9 d9 gd9 po10 q10 d10 gd10 po11 q11 d11 gd11 po12 q12 d12 gd12 po13 q13 d13 gd13 po14 q14 d14 gd14 po15 q15 d15 gd15 po16 q16 d16 gd16 po17 q17 d17 gd17 po18 q18 d18 gd18 po19 q19 d19 gd19
      clear base2 base3 hsz
      go_wp2_with fail
      go_ret
      refine ⟨?_, HSw1_5.out.below⟩
      rw [HP.out, HZ.out, HX.out]
      rfl
end Go.Proofs.Ytkfkdomjjepmdaa

/-
  Which grant is within which: the document's.
-/
namespace Go.Proofs.Ytkfkdomjjepmdaa
open Go.RowKit
theorem ne_strs {p q : ByteArray} (h : ¬ q = p) : (¬ p.toList = q.toList) ∧ (p.toList == q.toList) = false := by
  have h1 : ¬ p.toList = q.toList := fun e => h (toList_eq.1 e.symm)
  exact ⟨h1, by simpa using h1⟩
theorem twoB {w w' : World} {o u : Obj} (h : Below ((w.alloc o).alloc u).heap.size ((w.alloc o).alloc u) w') : Below w.heap.size w w' := (two_boxes w o u).trans (h.mono (two_boxes w o u).size)
set_option maxRecDepth 100000 in
set_option maxHeartbeats 4000000 in
theorem refNarrow_any (a b : GrantM) (w : World) (ha : wrap64 a.rights = a.rights) (hs : b.pre.size ≤ 140737488351232) : Calls Try.prog 20 #[.agg a.cells.toArray, .agg b.cells.toArray] w (ReturnsG (narrowM a b) w) := by
  have HP := Lib.hid (show narrowM a b = (hasZ a.rights b.rights && (scopeM a.pre a.exact b.pre b.exact && tillM a.till b.till)) from rfl)
  have HX := Lib.hid (show scopeM a.pre a.exact b.pre b.exact = (if a.exact = true then decide (b.pre = a.pre) && b.exact else begS b.pre a.pre) from rfl)
  have HR := Lib.hid ha
  have HS := Lib.hid hs
  clear ha hs
  obtain ⟨r, p, x, t⟩ := a
  obtain ⟨r2, q, y, u⟩ := b
  simp only [GrantM.cells] at HP HR HX HS ⊢
  have HH : Hid (∀ w, Calls Try.prog 39 #[.int .i64 r, .int .i64 r2] w (ReturnsB (hasZ r r2) w)) := show ∀ _, _ from fun w => refHas_any r r2 w HR.out
  have HBG : Hid (∀ w, Calls Try.prog 40 #[.string q, .string p] w fun e w' => e = .returned (.bool (begS q p)) ∧ Below w.heap.size w w') := show ∀ _, _ from fun w => refBegins_any q p w HS.out
  cases hz : hasZ r r2
  · have HZ := Lib.hid hz
    clear hz
    go_enter Try.func20, Try.ntmps20
    go_wp2_with fail
    refine (HH.out _).mono ?_
    rw [HZ.out]
    rintro e w' ⟨rfl, rfl⟩
    go_wp2_with fail
    go_ret
    refine ⟨?_, two_boxes _ _ _⟩
    rw [HP.out, HZ.out]
    rfl
  have HZ := Lib.hid hz
  clear hz
  by_cases hno : x = true ∧ (y = false ∨ ¬ q = p)
  · obtain ⟨rfl, hno⟩ := hno
    have HF : Hid (scopeM p true q y = false) := show _ = _ from by
      rw [HX.out]
      rcases hno with h | h <;> simp [h]
    rcases hno with rfl | hno
    · go_enter Try.func20, Try.ntmps20
      go_wp2_with fail
      refine (HH.out _).mono ?_
      rw [HZ.out]
      rintro e w' ⟨rfl, rfl⟩
      go_wp2_with fail
      go_ret
      refine ⟨?_, two_boxes _ _ _⟩
      rw [HP.out, HZ.out, HF.out]
      rfl
    · obtain ⟨n1, n2⟩ := ne_strs hno
      clear hno
      cases y
      all_goals
        go_enter Try.func20, Try.ntmps20
        go_wp2_with fail
        refine (HH.out _).mono ?_
        rw [HZ.out]
        rintro e w' ⟨rfl, rfl⟩
        go_wp2_with fail
        go_ret
        refine ⟨?_, two_boxes _ _ _⟩
        rw [HP.out, HZ.out, HF.out]
        rfl
  have HXE : Hid (scopeM p x q y = begS q p ∧ (x = false ∨ (x = true ∧ y = true ∧ q = p))) := show _ ∧ _ from by
    rw [HX.out]
    cases x
    · exact ⟨rfl, .inl rfl⟩
    · simp only [true_and, not_or, Bool.not_eq_false, Decidable.not_not] at hno
      obtain ⟨rfl, rfl⟩ := hno
      refine ⟨?_, .inr ⟨rfl, rfl, rfl⟩⟩
      simp [begS_refl]
  clear hno HX
  cases hbg : begS q p
  · have HB := Lib.hid hbg
    clear hbg
    have hx : x = false := by
      rcases HXE.out.2 with h | ⟨_, _, h⟩
      · exact h
      · have := HB.out; rw [h, begS_refl] at this; cases this
    subst hx
    go_enter Try.func20, Try.ntmps20
    go_wp2_with fail
    refine (HH.out _).mono ?_
    rw [HZ.out]
    rintro e w' ⟨rfl, rfl⟩
    go_wp2_with fail
    refine (HBG.out _).mono ?_
    rw [HB.out]
    rintro e w' ⟨rfl, hb⟩
    have HBB := Lib.hid (twoB hb)
    clear hb
    go_wp2_with fail
    go_ret
    refine ⟨?_, HBB.out⟩
    rw [HP.out, HZ.out, HXE.out.1, HB.out]
    rfl
  · have HB := Lib.hid hbg
    clear hbg
    have HT : Hid (narrowM ⟨r, p, x, t⟩ ⟨r2, q, y, u⟩ = tillM t u) := show _ = _ from by rw [HP.out, HZ.out, HXE.out.1, HB.out]; simp
    clear HP
    have HG2 := fun {w'} (hb) => (Gr2.boxes (a := ⟨r, p, x, t⟩) (b := ⟨r2, q, y, u⟩) w rfl rfl).step (w' := w') hb
    simp only [GrantM.cells] at HG2
    have hx := HXE.out.2
    clear HXE
    by_cases ht : t = 0
    · subst ht
      rcases hx with rfl | ⟨rfl, rfl, rfl⟩
      all_goals
        go_enter Try.func20, Try.ntmps20
        go_wp2_with fail
        refine (HH.out _).mono ?_
        rw [HZ.out]
        rintro e w' ⟨rfl, rfl⟩
        go_wp2_with fail
        refine (HBG.out _).mono ?_
        rw [HB.out]
        rintro e w' ⟨rfl, hb⟩
        have hg := @HG2 w' hb
        have HBB := Lib.hid hg.below
        have c1 := hg.one.c3
        have c2 := hg.two.c3
        simp only at c1 c2
        clear hg hb
        go_wp2_with fail
        all_goals
          go_ret
          refine ⟨congrArg (fun b => Ending.returned (.bool b)) ?_, HBB.out⟩
          rw [HT.out]
          apply Bool.eq_iff_iff.2
          simp [tillM]
          try omega
    · by_cases h1 : 1 ≤ u <;> rcases hx with rfl | ⟨rfl, rfl, rfl⟩
      all_goals
        go_enter Try.func20, Try.ntmps20
        go_wp2_with fail
        refine (HH.out _).mono ?_
        rw [HZ.out]
        rintro e w' ⟨rfl, rfl⟩
        go_wp2_with fail
        refine (HBG.out _).mono ?_
        rw [HB.out]
        rintro e w' ⟨rfl, hb⟩
        have hg := @HG2 w' hb
        have HBB := Lib.hid hg.below
        have c1 := hg.one.c3
        have c2 := hg.two.c3
        simp only at c1 c2
        clear hg hb
        go_wp2_with fail
        all_goals
          go_ret
          refine ⟨congrArg (fun b => Ending.returned (.bool b)) ?_, HBB.out⟩
          rw [HT.out]
          apply Bool.eq_iff_iff.2
          simp [tillM]
          try omega
end Go.Proofs.Ytkfkdomjjepmdaa

/-
  The statements' example: a grant covers what begins so; a narrower one is within it (gen_rtworks.py).
-/
namespace Go.Proofs.Ytkfkdomjjepmdaa
open Go.RowKit
abbrev openB : ByteArray := ⟨#[111, 112, 101, 110]⟩
abbrev logB : ByteArray := ⟨#[111, 112, 101, 110, 46, 108, 111, 103]⟩
abbrev log2B : ByteArray := ⟨#[111, 112, 101, 110, 46, 108, 111, 103, 45, 50]⟩
abbrev twoaB : ByteArray := ⟨#[50, 97]⟩
abbrev opeB : ByteArray := ⟨#[111, 112, 101]⟩
abbrev logxB : ByteArray := ⟨#[111, 112, 101, 110, 46, 108, 111, 103, 46, 120]⟩
def grO : GrantM := ⟨2, openB, false, 9⟩
def grH : GrantM := ⟨2, logB, true, 5⟩
theorem open_any (w : World) : Calls Try.prog 30 #[] w fun e w' => e = .returned (.agg grO.cells.toArray) ∧ Below w.heap.size w w' := by
  go_enter Try.func30, Try.ntmps30
  go_wp2_with fail
  exact bodyPost_ret (v := .agg grO.cells.toArray) (by simp [results, Try.results30, go_sem, grO, GrantM.cells]) rfl ⟨rfl, boxBelow _ _⟩
set_option maxRecDepth 100000 in
theorem lasts_any (g : GrantM) (c : Int) (w : World) : Calls Try.prog 27 #[.agg g.cells.toArray, .int .i64 c] w (ReturnsG (lastsM g c) w) := by
  obtain ⟨r, p, x, t⟩ := g
  simp only [GrantM.cells]
  by_cases h1 : t = 0
  · subst h1
    go_enter Try.func27, Try.ntmps27
    go_wp2_with fail
    go_ret
    exact ⟨rfl, boxBelow _ _⟩
  · go_enter Try.func27, Try.ntmps27
    go_wp2_with fail
    all_goals
      go_ret
      refine ⟨congrArg (fun b => Ending.returned (.bool b)) ?_, boxBelow _ _⟩
      apply Bool.eq_iff_iff.2
      simp [lastsM, h1]
set_option maxRecDepth 100000 in
set_option maxHeartbeats 4000000 in
theorem works13_any (w : World) : Calls Try.prog 10 #[] w (ReturnsG true w) := by
  have w2_ : wrap64 2 = 2 := by unfold wrap64; decide
  have N1 : Hid (∀ w, Calls Try.prog 11 #[.string log2B] w (ReturnsB true w)) := show ∀ _, _ from fun w => by
    have h := rtName_any log2B w (by decide)
    rw [show nameS log2B = true from by decide +kernel] at h
    exact h
  have N2 : Hid (∀ w, Calls Try.prog 11 #[.string twoaB] w (ReturnsB false w)) := show ∀ _, _ from fun w => by
    have h := rtName_any twoaB w (by decide)
    rw [show nameS twoaB = false from by decide +kernel] at h
    exact h
  have Z1 : Hid (∀ w, Calls Try.prog 13 #[.agg #[.int .i64 2, .string openB, .bool false, .int .i64 9]] w (ReturnsZ 0 w)) := show ∀ _, _ from fun w => by
    have h := check_any grO w (by decide)
    rw [show checkM grO = 0 from by decide +kernel] at h
    exact h
  have C1 : Hid (∀ w, Calls Try.prog 15 #[.agg #[.int .i64 2, .string openB, .bool false, .int .i64 9], .int .i64 2, .string logB] w (ReturnsG true w)) := show ∀ _, _ from fun w => by
    have h := covers_any grO 2 logB w w2_
    rw [show coversM grO 2 logB = true from by decide +kernel] at h
    exact h
  have C2 : Hid (∀ w, Calls Try.prog 15 #[.agg #[.int .i64 2, .string openB, .bool false, .int .i64 9], .int .i64 2, .string opeB] w (ReturnsG false w)) := show ∀ _, _ from fun w => by
    have h := covers_any grO 2 opeB w w2_
    rw [show coversM grO 2 opeB = false from by decide +kernel] at h
    exact h
  have C3 : Hid (∀ w, Calls Try.prog 15 #[.agg #[.int .i64 2, .string openB, .bool false, .int .i64 9], .int .i64 1, .string openB] w (ReturnsG false w)) := show ∀ _, _ from fun w => by
    have h := covers_any grO 1 openB w (by unfold wrap64; decide)
    rw [show coversM grO 1 openB = false from by decide +kernel] at h
    exact h
  have W1 : Hid (∀ w, Calls Try.prog 19 #[.agg #[.int .i64 2, .string openB, .bool false, .int .i64 9], .agg #[.int .i64 2, .string logB, .bool true, .int .i64 5]] w (ReturnsG true w)) := show ∀ _, _ from fun w => by
    have h := narrow_any grO grH w w2_
    rw [show narrowM grO grH = true from by decide +kernel] at h
    exact h
  have W2 : Hid (∀ w, Calls Try.prog 19 #[.agg #[.int .i64 2, .string logB, .bool true, .int .i64 5], .agg #[.int .i64 2, .string openB, .bool false, .int .i64 9]] w (ReturnsG false w)) := show ∀ _, _ from fun w => by
    have h := narrow_any grH grO w w2_
    rw [show narrowM grH grO = false from by decide +kernel] at h
    exact h
  have C4 : Hid (∀ w, Calls Try.prog 15 #[.agg #[.int .i64 2, .string logB, .bool true, .int .i64 5], .int .i64 2, .string logxB] w (ReturnsG false w)) := show ∀ _, _ from fun w => by
    have h := covers_any grH 2 logxB w w2_
    rw [show coversM grH 2 logxB = false from by decide +kernel] at h
    exact h
  go_enter Try.func10, Try.ntmps10
  go_wp2_with fail
  refine (open_any w).mono ?_
  rintro e w0 ⟨rfl, hb0⟩
  simp only [grO, GrantM.cells]
  have HB0 := Lib.hid hb0
  clear hb0
  clear w2_
  go_upto_region 3 with (fail)
  refine wp_gen (fun wr => Gr2 w0.heap.size (w0.heap.size + 1) grO grH w0 wr) (Gr2.boxes w0 rfl rfl) (fun w1 hg => ?_)
  have HG1 := Lib.hid hg
  clear hg
  go_wp2_with fail
  refine (N1.out _).mono ?_
  rintro e w' ⟨rfl, rfl⟩
  go_wp2_with fail
  refine (N2.out _).mono ?_
  rintro e w' ⟨rfl, rfl⟩
  go_wp2_with (first | (show wpList _ _ _ (⟨_, .load 23 (.tmp 1), _, _, _, _⟩ :: _) _ _; refine wpList_run (by rfl) (run_loadBlk rfl rfl HG1.out.one (by kernel_rfl) (size_grant _)) ?_))
  refine (Z1.out _).mono ?_
  rintro e w2 ⟨rfl, hb⟩
  have HG2 := Lib.hid (HG1.out.step hb)
  clear hb
  go_wp2_with (first | (show wpList _ _ _ (⟨_, .load 23 (.tmp 1), _, _, _, _⟩ :: _) _ _; refine wpList_run (by rfl) (run_loadBlk rfl rfl HG2.out.one (by kernel_rfl) (size_grant _)) ?_))
  refine (C1.out _).mono ?_
  rintro e w3 ⟨rfl, hb⟩
  have HG3 := Lib.hid (HG2.out.step hb)
  clear hb
  go_wp2_with (first | (show wpList _ _ _ (⟨_, .load 23 (.tmp 1), _, _, _, _⟩ :: _) _ _; refine wpList_run (by rfl) (run_loadBlk rfl rfl HG3.out.one (by kernel_rfl) (size_grant _)) ?_))
  refine (C2.out _).mono ?_
  rintro e w4 ⟨rfl, hb⟩
  have HG4 := Lib.hid (HG3.out.step hb)
  clear hb
  go_wp2_with (first | (show wpList _ _ _ (⟨_, .load 23 (.tmp 1), _, _, _, _⟩ :: _) _ _; refine wpList_run (by rfl) (run_loadBlk rfl rfl HG4.out.one (by kernel_rfl) (size_grant _)) ?_))
  refine (C3.out _).mono ?_
  rintro e w5 ⟨rfl, hb⟩
  have HG5 := Lib.hid (HG4.out.step hb)
  clear hb
  go_wp2_with (first | (show wpList _ _ _ (⟨_, .load 23 (.tmp 1), _, _, _, _⟩ :: _) _ _; refine wpList_run (by rfl) (run_loadBlk rfl rfl HG5.out.one (by kernel_rfl) (size_grant _)) ?_) | (show wpList _ _ _ (⟨_, .load 23 (.tmp 2), _, _, _, _⟩ :: _) _ _; refine wpList_run (by rfl) (run_loadBlk rfl rfl HG5.out.two (by kernel_rfl) (size_grant _)) ?_))
  refine (W1.out _).mono ?_
  rintro e w6 ⟨rfl, hb⟩
  have HG6 := Lib.hid (HG5.out.step hb)
  clear hb
  go_wp2_with (first | (show wpList _ _ _ (⟨_, .load 23 (.tmp 1), _, _, _, _⟩ :: _) _ _; refine wpList_run (by rfl) (run_loadBlk rfl rfl HG6.out.one (by kernel_rfl) (size_grant _)) ?_) | (show wpList _ _ _ (⟨_, .load 23 (.tmp 2), _, _, _, _⟩ :: _) _ _; refine wpList_run (by rfl) (run_loadBlk rfl rfl HG6.out.two (by kernel_rfl) (size_grant _)) ?_))
  refine (W2.out _).mono ?_
  rintro e w7 ⟨rfl, hb⟩
  have HG7 := Lib.hid (HG6.out.step hb)
  clear hb
  go_wp2_with (first | (show wpList _ _ _ (⟨_, .load 23 (.tmp 2), _, _, _, _⟩ :: _) _ _; refine wpList_run (by rfl) (run_loadBlk rfl rfl HG7.out.two (by kernel_rfl) (size_grant _)) ?_))
  refine (C4.out _).mono ?_
  rintro e w8 ⟨rfl, hb⟩
  have HG8 := Lib.hid (HG7.out.step hb)
  clear hb
  go_wp2_with fail
  go_ret
  exact ⟨rfl, HB0.out.trans (HG8.out.below.mono HB0.out.size)⟩
end Go.Proofs.Ytkfkdomjjepmdaa

/-
  What comes in at layer 13, opened: grants, rules.
-/
namespace Go.Proofs.Ytkfkdomjjepmdaa
open Go.ChangeShapes Go.WideShapes Go.ChangeAt Go.RowKit Go.Proofs.ShaWords Go.Deep
end Go.Proofs.Ytkfkdomjjepmdaa
