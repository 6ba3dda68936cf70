/-
  What other texts lean on: TkModel, GrowReg, TkNums, KitGrants, GrowReg0, TkOpen, TkBase.
-/
import Derived.Test.YtgeacocdnenhdaaDoorPkA
import Derived.Test.YtgeacocdnenhdaaDoorPkW
import Derived.Test.YtgeacocdnenhdaaDoorPkZ
import Derived.Test.YtgeacocdnenhdaaDoorPkD
import Derived.Test.YtgeacocdnenhdaaDoorPkM
import Derived.Test.YtgeacocdnenhdaaDoorPkN
import Derived.LoopTactic
import Derived.Deep.Cut
import Derived.BigQuiet
import Derived.WalkKit
import Derived.ProofKit
import Derived.OpenShut
import Derived.ShutString
import Derived.ChangeOld
import Derived.Below
import Derived.LaidMore
import Derived.Lib.LaidTab
import Derived.Stop.Joined
/-
  Tokens as plain data: a grant's bytes, a token's chain, its bytes; who is well made; what Mint and Attenuate answer.
-/
namespace Go.Proofs.YtgeacocdnenhdaaDoor
open Go.RowKit Go.Proofs.ShaWords
/-- A text's bytes. -/
def bitsS (s : ByteArray) : List (BitVec 8) := s.data.toList.map UInt8.toBitVec
theorem bitsS_length (s : ByteArray) : (bitsS s).length = s.size := by simp [bitsS]
theorem strB_bits (s : ByteArray) : strB (bitsS s) = s := by
  apply bytes_ext
  have h := strB_list (bitsS s)
  have h2 : (strB (bitsS s)).data.toList = (strB (bitsS s)).toList := (Lib.toList_data _).symm
  rw [h2, h, bitsS, List.map_map, show (UInt8.ofBitVec ∘ UInt8.toBitVec) = id from rfl, List.map_id]
/-- A text with its length. -/
def textB (s : ByteArray) : List (BitVec 8) := be8 ((bitsS s).length : Int) ++ bitsS s
theorem textB_length (s : ByteArray) : (textB s).length = s.size + 8 := by unfold textB; rw [List.length_append, be8_length, bitsS_length]; omega
def exactZ (b : Bool) : Int := if b = true then 1 else 0
/-- Numbers, one behind the other. -/
def numsB (l : List Int) : List (BitVec 8) := l.flatMap be8
theorem numsB_length (l : List Int) : (numsB l).length = 8 * l.length := by
  induction l with
  | nil => rfl
  | cons a l ih => show (be8 a ++ numsB l).length = _; rw [List.length_append, be8_length, ih, List.length_cons]; omega
theorem numsB_take {l : List Int} {k : Nat} (h : k < l.length) : numsB (l.take (k + 1)) = numsB (l.take k) ++ be8 l[k] := by
  unfold numsB; rw [List.take_succ_eq_append_getElem h, List.flatMap_append]; simp only [List.flatMap_cons, List.flatMap_nil, List.append_nil]
/-- A grant's bytes. -/
def encG (g : GrantM) : List (BitVec 8) := be8 g.rights ++ textB g.pre ++ numsB [exactZ g.exact, g.till]
theorem encG_length (g : GrantM) : (encG g).length = g.pre.size + 32 := by
  unfold encG
  rw [List.length_append, List.length_append, be8_length, textB_length, numsB_length]
  simp; omega
/-- A token. -/
structure TokM where
  ten : ByteArray
  id : Int
  gs : List GrantM
  mac : List (BitVec 8)
def zeroTok : TokM := ⟨⟨#[]⟩, 0, [], List.replicate 32 0#8⟩
instance : Inhabited TokM := ⟨zeroTok⟩
def TokM.cells (t : TokM) (q : Value) : List Value := [.string t.ten, .int .i64 t.id, q] ++ bytesV t.mac
def headT (ten : ByteArray) (id : Int) : List (BitVec 8) := textB ten ++ be8 id
def chainS (s : List (BitVec 8)) (gs : List GrantM) : List (BitVec 8) := gs.foldl (fun s g => macOf s (encG g)) s
def chainT (root : List (BitVec 8)) (ten : ByteArray) (id : Int) (gs : List GrantM) : List (BitVec 8) := chainS (macOf root (headT ten id)) gs
theorem chainS_snoc (s : List (BitVec 8)) (gs : List GrantM) (g : GrantM) : chainS s (gs ++ [g]) = macOf (chainS s gs) (encG g) := by simp [chainS]
theorem chainS_take (s : List (BitVec 8)) {gs : List GrantM} {k : Nat} (h : k < gs.length) : chainS s (gs.take (k + 1)) = macOf (chainS s (gs.take k)) (encG gs[k]) := by
  rw [List.take_succ_eq_append_getElem h, chainS_snoc]
theorem chainS_length (s : List (BitVec 8)) (gs : List GrantM) (h : s.length = 32) : (chainS s gs).length = 32 := by
  induction gs generalizing s with
  | nil => exact h
  | cons g gs ih => exact ih _ (macOf_length _ _)
theorem chainT_length (root : List (BitVec 8)) (ten : ByteArray) (id : Int) (gs : List GrantM) : (chainT root ten id gs).length = 32 := chainS_length _ _ (macOf_length _ _)
theorem chainT_snoc (root : List (BitVec 8)) (ten : ByteArray) (id : Int) (gs : List GrantM) (g : GrantM) : chainT root ten id (gs ++ [g]) = macOf (chainT root ten id gs) (encG g) := chainS_snoc _ _ _
def idOk (z : Int) : Bool := decide (1 ≤ z) && decide (z ≤ 1099511627776)
def gz : GrantM := ⟨0, ⟨#[]⟩, false, 0⟩
/-- Check accepts a grant, and it is within the one ahead, if there is one. -/
def okAt (gs : List GrantM) (k : Nat) : Bool := decide (checkM (gs.getD k gz) = 0) && (decide (k = 0) || narrowM (gs.getD (k - 1) gz) (gs.getD k gz))
def narrowsL (gs : List GrantM) : Bool := decide (1 ≤ gs.length) && (decide (gs.length ≤ 6) && (List.range gs.length).all (okAt gs))
theorem narrows_yes {gs : List GrantM} (h1 : 1 ≤ gs.length) (h2 : gs.length ≤ 6) (h : ∀ k, k < gs.length → okAt gs k = true) : narrowsL gs = true := by
  unfold narrowsL
  rw [decide_eq_true h1, decide_eq_true h2, Bool.true_and, Bool.true_and, List.all_eq_true]
  exact fun k hk => h k (List.mem_range.1 hk)
theorem narrows_no {gs : List GrantM} {k : Nat} (hk : k < gs.length) (h : okAt gs k = false) : narrowsL gs = false := by
  unfold narrowsL
  have : (List.range gs.length).all (okAt gs) = false := by
    rw [Bool.eq_false_iff]
    intro h2
    have := List.all_eq_true.1 h2 k (List.mem_range.2 hk)
    rw [h] at this; cases this
  rw [this]; simp
theorem narrows_len {gs : List GrantM} (h : gs.length = 0 ∨ 6 < gs.length) : narrowsL gs = false := by
  unfold narrowsL
  rcases h with h | h
  · rw [decide_eq_false (show ¬ 1 ≤ gs.length by omega)]; rfl
  · rw [decide_eq_false (show ¬ gs.length ≤ 6 by omega)]; simp
def madeM (t : TokM) : Bool := nameS t.ten && (idOk t.id && narrowsL t.gs)
def lastG (gs : List GrantM) : GrantM := gs.getLast?.getD gz
def mintE (ten : ByteArray) (id : Int) (g : GrantM) : Int := if nameS ten = false then 10 else if idOk id = false then 1 else checkM g
def mintM (root : List (BitVec 8)) (ten : ByteArray) (id : Int) (g : GrantM) : TokM := if mintE ten id g = 0 then ⟨ten, id, [g], chainT root ten id [g]⟩ else zeroTok
def attE (gs : List GrantM) (g : GrantM) : Int := if gs.length = 0 then 1 else if 6 ≤ gs.length then 3 else if checkM g ≠ 0 then checkM g else if narrowM (lastG gs) g = true then 0 else 25
def attM (t : TokM) (g : GrantM) : TokM := if attE t.gs g = 0 then ⟨t.ten, t.id, t.gs ++ [g], macOf t.mac (encG g)⟩ else zeroTok
def verE (root : List (BitVec 8)) (t : TokM) : Int := if (madeM t && decide (t.mac = chainT root t.ten t.id t.gs)) = true then 0 else 19
end Go.Proofs.YtgeacocdnenhdaaDoor

/-
  A region that draws its order, whose operations read or make memory, but for the last, which waits for all: each operation's fact lasts while memory grows, whatever the order.
-/
namespace Go.Proofs.YtgeacocdnenhdaaDoor
open Go.RowKit Go.Proofs.ShaWords
/-- Each operation's slot lies in the frame and is no other one's. -/
def growOk (ops : Array Oper) (N : Nat) : Bool := (List.range ops.size).all fun i => match ops[i]? with
  | some o => (match o.dst with
    | some d => decide (d < N) && (List.range ops.size).all (fun j => decide (i = j) || (match ops[j]? with | some p => decide (p.dst ≠ some d) | none => true))
    | none => true)
  | none => true
theorem growOk_lt {ops : Array Oper} {N i d : Nat} {o : Oper} (h : growOk ops N = true) (ho : ops[i]? = some o) (hd : o.dst = some d) : d < N := by
  have h1 := List.all_eq_true.1 h i (List.mem_range.2 (Array.getElem?_eq_some_iff.1 ho).1)
  rw [ho] at h1
  simp only [hd, Bool.and_eq_true, decide_eq_true_eq] at h1
  exact h1.1
theorem growOk_ne {ops : Array Oper} {N i j d : Nat} {o p : Oper} (h : growOk ops N = true) (ho : ops[i]? = some o) (hp : ops[j]? = some p) (hd : o.dst = some d) (hij : i ≠ j) : p.dst ≠ some d := by
  have h1 := List.all_eq_true.1 h i (List.mem_range.2 (Array.getElem?_eq_some_iff.1 ho).1)
  rw [ho] at h1
  simp only [hd, Bool.and_eq_true, decide_eq_true_eq] at h1
  have h2 := List.all_eq_true.1 h1.2 j (List.mem_range.2 (Array.getElem?_eq_some_iff.1 hp).1)
  rw [hp] at h2
  simpa [hij] using h2
/-- An operation waits for another one, by way of others too. -/
def reachB (ops : Array Oper) : Nat → Nat → Nat → Bool
  | 0, _, _ => false
  | n + 1, i, j => match ops[i]? with
    | some o => o.after.any fun e => Region.binds .any e && (decide (e.on = j) || reachB ops n e.on j)
    | none => false
theorem reach_spec {ops : Array Oper} {L : Array Bool} (hcl : ∀ (i : Nat) (o : Oper), ops[i]? = some o → L.getD i false = true → ∀ e ∈ o.after, Region.binds .any e = true → L.getD e.on false = true) :
    ∀ (n i j : Nat) (o : Oper), ops[i]? = some o → (∀ e ∈ o.after, Region.binds .any e = true → L.getD e.on false = true) → reachB ops n i j = true → L.getD j false = true
  | 0, _, _, _, _, _, h => by cases h
  | n + 1, i, j, o, ho, hd, h => by
    unfold reachB at h
    rw [ho] at h
    simp only [Array.any_eq_true', Bool.and_eq_true, Bool.or_eq_true, decide_eq_true_eq] at h
    obtain ⟨e, he, hb, h1⟩ := h
    have hl := hd e he hb
    rcases h1 with h1 | h1
    · rw [← h1]; exact hl
    · cases hp : ops[e.on]? with
      | none =>
        exfalso
        cases n with
        | zero => cases h1
        | succ n => unfold reachB at h1; rw [hp] at h1; cases h1
      | some p => exact reach_spec hcl n e.on j p hp (hcl e.on p hp hl) h1
def lastOk (ops : Array Oper) : Bool := (List.range (ops.size - 1)).all fun j => reachB ops ops.size (ops.size - 1) j
structure InvG (ops : Array Oper) (a0 : Act) (S : Array Bool → World → Prop) (F : Nat → Value → World → Prop) (L : Array Bool) (a : Act) (w : World) : Prop where
  world : S L w
  defers : a.defers = a0.defers
  size : a.tmps.size = a0.tmps.size
  slot : ∀ t, (∀ (i : Nat) (o : Oper), ops[i]? = some o → o.dst ≠ some t) → a.tmps.getD t undef = a0.tmps.getD t undef
  fact : ∀ (i : Nat) (o : Oper) (d : Tmp), ops[i]? = some o → o.dst = some d → L.getD i false = true → F i (a.tmps.getD d undef) w
  closed : ∀ (i : Nat) (o : Oper), ops[i]? = some o → L.getD i false = true → ∀ e ∈ o.after, Region.binds .any e = true → L.getD e.on false = true
theorem getD_set_mono {L : Array Bool} {i j : Nat} (hj : L.getD j false = true) : (L.setIfInBounds i true).getD j false = true := by
  by_cases hij : i = j
  · subst hij
    have hlt : i < L.size := by
      rcases Nat.lt_or_ge i L.size with h' | h'
      · exact h'
      · simp [Array.getElem?_eq_none h'] at hj
    simp [hlt]
  · rw [getD_set_ne false hij]; exact hj
/-- An operation waits for another one at once. -/
def waitsOn (ops : Array Oper) (i j : Nat) : Bool := match ops[i]? with
  | some o => o.after.any fun e => Region.binds .any e && decide (e.on = j)
  | none => false
theorem region_growR {P : Program} {ops0 : Array Oper} {Q : Exit → Act → World → Prop} {id : Nat} {a0 : Act} {w : World} (S : Array Bool → World → Prop) (R : Nat → World → World → Prop) (F : Nat → Value → World → Prop) (hm : P.follows .mixedOrders = true)
    (hback : backward ops0 = true) (hok : growOk ops0 a0.tmps.size = true) (hlo : lastOk ops0 = true) (hn : 0 < ops0.size) (hS : S (Array.replicate ops0.size false) w.drew)
    (hF : ∀ i j v w w', i ≠ j → waitsOn ops0 i j = false → R j w w' → F i v w → F i v w')
    (h : ∀ ops, ops = ops0 → (∀ A W L, S L W → (∀ t, (∀ (i : Nat) (o : Oper), ops[i]? = some o → o.dst ≠ some t) → A.tmps.getD t undef = a0.tmps.getD t undef) → A.tmps.size = a0.tmps.size →
      ∀ (i : Nat) (o : Oper), i + 1 < ops.size → L.getD i true = false → ops[i]? = some o → (∀ (j : Nat) (p : Oper) (d : Tmp), (o.after.any fun e => Region.binds .any e && decide (e.on = j)) = true → ops[j]? = some p → p.dst = some d → F j (A.eval (.tmp d)) W) →
        wpOp P ops (NoPanic Q) i (fun a' w' => ∃ v, a' = A.put o.dst v ∧ S (L.setIfInBounds i true) w' ∧ R i W w' ∧ F i v w') A W) ∧
     (∀ A W L, S L W → A.defers = a0.defers → A.tmps.size = a0.tmps.size → (∀ t, (∀ (i : Nat) (o : Oper), ops[i]? = some o → o.dst ≠ some t) → A.tmps.getD t undef = a0.tmps.getD t undef) →
      (∀ (i : Nat) (o : Oper) (d : Tmp), i + 1 < ops.size → ops[i]? = some o → o.dst = some d → F i (A.eval (.tmp d)) W) → wpOp P ops (NoPanic Q) (ops.size - 1) (fun a' w' => Q .normal a' w') A W)) :
    (Code.region id ops0 true).wp P Q a0 w := by
  obtain ⟨hop, hlast⟩ := h ops0 rfl
  refine wp_region_noPanic (wp_region_any hm ?_)
  refine wpAny_inv (fun L a w => (L.getD (ops0.size - 1) false = true → (∀ i, i < ops0.size → L.getD i false = true) ∧ Q .normal a w) ∧ (L.getD (ops0.size - 1) false = false → InvG ops0 a0 S F L a w)) hback ?_ ?_ ops0.size _ a0 w.drew (by simp) (by simp [leftOf]) ⟨fun hl => ?_, fun _ => ⟨hS, rfl, rfl, fun _ _ => rfl, fun i o d ho _ hl => ?_, fun i o ho hl => ?_⟩⟩
  · intro i o L a w1 ho hl hdep hI
    have hi := (Array.getElem?_eq_some_iff.1 ho).1
    have hlf : L.getD i false = false := getD_both hl
    have hLi : i < L.size := by
      rcases Nat.lt_or_ge i L.size with h' | h'
      · exact h'
      · simp [Array.getElem?_eq_none h'] at hl
    cases hz : L.getD (ops0.size - 1) false with
    | true =>
      have := (hI.1 hz).1 i hi
      rw [hlf] at this; cases this
    | false =>
      have hI := hI.2 hz
      by_cases hil : i = ops0.size - 1
      · have hall : ∀ j, j + 1 < ops0.size → L.getD j false = true := fun j hj => by
          refine reach_spec hI.closed ops0.size i j o ho hdep ?_
          rw [hil]
          exact List.all_eq_true.1 hlo j (List.mem_range.2 (by omega))
        have h1 := hlast a w1 L hI.world hI.defers hI.size hI.slot (fun j p d hj hp hd => hI.fact j p d hp hd (hall j hj))
        rw [← hil] at h1
        refine wpOp_mono (fun a' w' hq => And.intro (fun _ => And.intro (fun j hj => ?_) hq) (fun hf => ?_)) h1
        · by_cases hji : j = i
          · subst hji; simp [hLi]
          · exact getD_set_mono (hall j (by omega))
        · rw [← hil] at hf
          simp [hLi] at hf
      · refine wpOp_mono ?_ (hop a w1 L hI.world hI.slot hI.size i o (by omega) hl ho (fun j p d ha hp hd => by
          simp only [Array.any_eq_true', Bool.and_eq_true, decide_eq_true_eq] at ha
          obtain ⟨e, he, hbd, rfl⟩ := ha
          exact hI.fact e.on p d hp hd (hdep e he hbd)))
        rintro a' w' ⟨v, ha', hS', hB', hFi⟩
        subst ha'
        have hz2 : (L.setIfInBounds i true).getD (ops0.size - 1) false = false := by rw [getD_set_ne false hil]; exact hz
        refine ⟨fun ht => (by rw [hz2] at ht; cases ht), fun _ => ⟨hS', ?_, ?_, ?_, ?_, ?_⟩⟩
        · cases o.dst <;> exact hI.defers
        · rw [← hI.size]; cases o.dst <;> simp [Act.put]
        · intro t ht
          rw [← hI.slot t ht]
          cases hd : o.dst with
          | none => rfl
          | some d =>
            have hne : d ≠ t := fun e => ht i o ho (by rw [hd, e])
            simp [Act.put, Array.getElem?_setIfInBounds_ne hne]
        · intro j p d hp hd hlj
          by_cases hij : i = j
          · subst hij
            rw [ho] at hp; cases hp
            have hdl : d < a.tmps.size := by rw [hI.size]; exact growOk_lt hok ho hd
            have e : (a.put o.dst v).tmps.getD d undef = v := by rw [hd]; simp [Act.put, hdl]
            rw [e]; exact hFi
          · have hlj' : L.getD j false = true := by rw [getD_set_ne false hij] at hlj; exact hlj
            have e : (a.put o.dst v).tmps.getD d undef = a.tmps.getD d undef := by
              cases hd' : o.dst with
              | none => rfl
              | some d' =>
                have hne : d' ≠ d := fun e => growOk_ne hok hp ho hd (Ne.symm hij) (by rw [hd', e])
                simp [Act.put, Array.getElem?_setIfInBounds_ne hne]
            rw [e]
            refine hF j i _ w1 w' (Ne.symm hij) ?_ hB' (hI.fact j p d hp hd hlj')
            rw [Bool.eq_false_iff]
            intro hwt
            unfold waitsOn at hwt
            rw [hp] at hwt
            simp only [Array.any_eq_true', Bool.and_eq_true, decide_eq_true_eq] at hwt
            obtain ⟨e2, he2, hb2, hon2⟩ := hwt
            have h2 := hI.closed j p hp hlj' e2 he2 hb2
            rw [hon2, hlf] at h2
            cases h2
        · intro j p hp hlj e he hbd
          by_cases hij : i = j
          · subst hij
            rw [ho] at hp; cases hp
            exact getD_set_mono (hdep e he hbd)
          · have hlj' : L.getD j false = true := by rw [getD_set_ne false hij] at hlj; exact hlj
            exact getD_set_mono (hI.closed j p hp hlj' e he hbd)
  · intro L a w1 hall hI
    exact (hI.1 (hall _ (by omega))).2
  · exfalso
    have hz : ops0.size - 1 < ops0.size := by omega
    simp [hz] at hl
  · exfalso
    have hi := (Array.getElem?_eq_some_iff.1 ho).1
    simp [hi] at hl
  · exfalso
    have hi := (Array.getElem?_eq_some_iff.1 ho).1
    simp [hi] at hl
theorem region_grow {P : Program} {ops0 : Array Oper} {Q : Exit → Act → World → Prop} {id : Nat} {a0 : Act} {w : World} (S : World → Prop) (F : Nat → Value → World → Prop) (hm : P.follows .mixedOrders = true)
    (hback : backward ops0 = true) (hok : growOk ops0 a0.tmps.size = true) (hlo : lastOk ops0 = true) (hn : 0 < ops0.size) (hS : S w.drew)
    (hF : ∀ i v w w', Below w.heap.size w w' → F i v w → F i v w')
    (h : ∀ ops, ops = ops0 → (∀ A W, S W → (∀ t, (∀ (i : Nat) (o : Oper), ops[i]? = some o → o.dst ≠ some t) → A.tmps.getD t undef = a0.tmps.getD t undef) → A.tmps.size = a0.tmps.size →
      ∀ (i : Nat) (o : Oper), i + 1 < ops.size → ops[i]? = some o → (∀ (j : Nat) (p : Oper) (d : Tmp), (o.after.any fun e => Region.binds .any e && decide (e.on = j)) = true → ops[j]? = some p → p.dst = some d → F j (A.eval (.tmp d)) W) →
        wpOp P ops (NoPanic Q) i (fun a' w' => ∃ v, a' = A.put o.dst v ∧ S w' ∧ Below W.heap.size W w' ∧ F i v w') A W) ∧
     (∀ A W, S W → A.defers = a0.defers → A.tmps.size = a0.tmps.size → (∀ t, (∀ (i : Nat) (o : Oper), ops[i]? = some o → o.dst ≠ some t) → A.tmps.getD t undef = a0.tmps.getD t undef) →
      (∀ (i : Nat) (o : Oper) (d : Tmp), i + 1 < ops.size → ops[i]? = some o → o.dst = some d → F i (A.eval (.tmp d)) W) → wpOp P ops (NoPanic Q) (ops.size - 1) (fun a' w' => Q .normal a' w') A W)) :
    (Code.region id ops0 true).wp P Q a0 w :=
  region_growR (fun _ => S) (fun _ W w' => Below W.heap.size W w') F hm hback hok hlo hn hS (fun i _ v w w' _ _ hb hf => hF i v w w' hb hf) (fun ops e => ⟨fun A W _ h1 h2 h3 i o h4 _ h5 h6 => (h ops e).1 A W h1 h2 h3 i o h4 h5 h6, fun A W _ h1 h2 h3 h4 h5 => (h ops e).2 A W h1 h2 h3 h4 h5⟩)
theorem at_skip {P : Program} {ops : Array Oper} {Q : Exit → Act → World → Prop} {i : Nat} {o : Oper} {d : Option Tmp} {a : Act} {w w' : World} {K : Act → World → Prop} (ho : ops[i]? = some o) (hd : o.dst = d) (hw : Region.wanted o (yielded ops a.tmps) = true) (hr : (execOp a.eval o).run P w = .ok .skip w') (h : K (a.put d undef) w') : wpOp P ops Q i K a w := by
  unfold wpOp
  rw [ho]
  show if Region.wanted o (yielded ops a.tmps) = true then _ else _
  rw [if_pos hw]
  refine .inl ?_
  unfold Oper.wp
  rw [hr, Oper.upon_skip, hd]
  exact h
end Go.Proofs.YtgeacocdnenhdaaDoor

/-
  The program's small functions of tokens: validId, own, numbers; a literal slice of one number, of two.
-/
namespace Go.Proofs.YtgeacocdnenhdaaDoor
open Go.RowKit Go.Proofs.ShaWords
theorem validId_any (z : Int) (w : World) : Calls Tryd.prog 95 #[.int .i64 z] w (ReturnsB (idOk z) w) := by
  by_cases h1 : 1 ≤ z <;> by_cases h2 : z ≤ 1099511627776
  all_goals
    go_enter Tryd.func95, Tryd.ntmps95
    go_wp2_with fail
    go_ret
    exact ⟨by simp [idOk, h1, h2], rfl⟩
theorem grant_ones2 (g : GrantM) : g.cells.toArray.all (·.oneCell') = true := by cases g; simp [GrantM.cells, Value.oneCell']
theorem grant_under : (match Tryd.prog.underlying 54 with | some (.array _ _) | some (.struct _) => true | _ => false) = true := by kernel_rfl
set_option maxRecDepth 100000 in
theorem ownG_any (g : GrantM) (w : World) (hs : g.pre.size ≤ 140737488351232) : Calls Tryd.prog 97 #[.agg g.cells.toArray] w fun e w' => e = .returned (.agg g.cells.toArray) ∧ Below w.heap.size w w' := by
  have HS := Lib.hid hs; clear hs
  have HSZ := Lib.hid (size_grant g)
  have HON := Lib.hid (grant_ones2 g)
  have HZS : Hid ((gz.cells.toArray).size = g.cells.toArray.size) := show _ = _ from rfl
  obtain ⟨r, p, x, t⟩ := g
  go_enter Tryd.func97, Tryd.ntmps97
  simp only [GrantM.cells] at HS ⊢
  go_wp2_with fail
  refine calls_gen (fun w0 => GrantAt w0 w.heap.size ⟨r, p, x, t⟩ ∧ GrantAt w0 (w.heap.size + 1) gz ∧ Below w.heap.size w w0) ⟨?_, heap_new_at (size_alloc _ _), ((Below.refl _ _).alloc (Nat.le_refl _) _).alloc (by rw [size_alloc]; omega) _⟩ ?_
  · unfold GrantAt; rw [Below.heap_alloc _ _ _ (by rw [size_alloc]; omega)]; exact heap_new_at rfl
  rintro w0 ⟨h1, h2, hb0⟩
  have sz0 : w.heap.size + 1 < w0.heap.size := (Array.getElem?_eq_some_iff.1 h2).1
  refine (clone_str p w0 (by have := HS.out; omega)).mono ?_
  rintro e w1 ⟨rfl, hb⟩
  have k1 := h1.below hb (by omega)
  have k2 := h2.below hb (by omega)
  have HB := Lib.hid (hb0.trans (hb.mono (by omega)))
  have fz := frozen_of_row w1 w.heap.size 1 _ _ k1
  have c1 := k1.c1
  have k3 := heap_setCell_same w1 w.heap.size 1 _ _ (.string p) k1
  have hset : Hid (GrantAt (w1.setCell ⟨w.heap.size, 1, none⟩ (.string p)) w.heap.size ⟨r, p, x, t⟩) := show GrantAt _ _ _ from k3
  have hz3 : Hid (GrantAt (w1.setCell ⟨w.heap.size, 1, none⟩ (.string p)) (w.heap.size + 1) gz) := show GrantAt _ _ _ from (heap_setCell_other _ _ _ _ (by show w.heap.size + 1 ≠ w.heap.size; omega)).trans k2
  have HB3 := Lib.hid (HB.out.setCell (Nat.le_refl _) (p := ⟨w.heap.size, 1, none⟩) (.string p))
  clear k1 k2 k3 h1 h2 hb0 hb HB
  generalize hG : (GrantM.mk r p x t) = g at *
  go_upto_region 2 with (fail)

  refine wp_gen (fun A => GrantAt A w.heap.size g ∧ GrantAt A (w.heap.size + 1) gz ∧ Below w.heap.size w A) ⟨hset.out, hz3.out, HB3.out⟩ ?_
  rintro A ⟨a1, a2, a3⟩
  have hrow := setRow_heap A (w.heap.size + 1) _ g.cells.toArray 54 _ a2
  have hbel := below_setRow a3 (show w.heap.size ≤ w.heap.size + 1 by omega) g.cells.toArray
  refine wp_region_lit ?_
  refine wpList_run (by rfl) (run_loadBlk rfl rfl a1 grant_under HSZ.out) ?_
  refine wpList_store_row rfl 54 (.tmp 2) (.tmp 7) rfl (w.heap.size + 1) g.cells.toArray rfl rfl 54 _ a2 HSZ.out HZS.out HON.out ?_
  go_wp2_with fail
  have hres : ∀ tmps : Array Value, tmps.getD 2 undef = .pointer (some ⟨w.heap.size + 1, 0, none⟩) → Sem.run Tryd.prog (results Tryd.f97 tmps) (A.setRow (w.heap.size + 1) g.cells.toArray) = .ok (.agg g.cells.toArray) (A.setRow (w.heap.size + 1) g.cells.toArray) := fun tmps h =>
    results_cell_row (P := Tryd.prog) (p := 2) (ty := 54) Tryd.results97 tmps _ (w.heap.size + 1) 54 g.cells.toArray (0, 0) _ h hrow Tryd.underlying54 rfl HSZ.out
  exact bodyPost_ret (v := .agg g.cells.toArray) (hres _ rfl) rfl ⟨by rw [← hG]; rfl, hbel⟩
set_option maxRecDepth 100000 in
theorem numbers_any (l : List (BitVec 8)) (zs : List Int) (n m : Nat) (p q : Option Addr) (c d : Nat) (w : World) (hn : l.length = n) (hm : zs.length = m) (hb : n + 8 * m < 140737488355000) (hp : Lies w p l) (hq : LiesZ w q zs) (h0 : 0 < m) :
    Calls Tryd.prog 114 #[.slice p n c, .slice q m d] w fun e w' => ∃ v, e = .returned v ∧ Own w.heap.size w' (l ++ numsB zs) v ∧ Below w.heap.size w w' := by
  have HP := Lib.hid hp; clear hp
  have HQ := Lib.hid hq; clear hq
  have HN := Lib.hid hn; clear hn
  have HM := Lib.hid hm; clear hm
  go_enter Tryd.func114, Tryd.ntmps114
  go_wp2_with fail
  go_loopw [0, 9] (fun v i wr => ∃ (k : Nat) (q' : Option Addr) (c' : Nat), k ≤ m ∧ i = .int .i64 (k : Int) ∧ v = .slice q' (n + 8 * k) c' ∧ Lies wr q' (l ++ numsB (zs.take k)) ∧ (1 ≤ k → Own w.heap.size wr (l ++ numsB (zs.take k)) v) ∧ Below w.heap.size w wr) (fun _ i _ => m - (intOf i).toNat)
  case atStart => exact ⟨0, p, c, Nat.zero_le _, rfl, rfl, by simpa [numsB] using HP.out, fun h => by omega, Below.refl _ _⟩
  case round =>
    obtain ⟨k, q', c', hk, rfl, rfl, hl, ho, hbw⟩ := hrel
    by_cases hlt : k < m
    · have hlt' : k < zs.length := by rw [HM.out]; exact hlt
      rcases HQ.out.below (hbw.mono (Nat.le_refl _)) with h1 | ⟨b, off, rfl, hr⟩
      · exfalso; rw [h1] at hlt'; simp at hlt'
      have hc := hr k (.int .i64 zs[k]) (by simp [intsV, hlt'])
      have HTK := Lib.hid (numsB_take hlt')
      have HLL : Hid ((l ++ numsB (zs.take k)).length = n + 8 * k) := show _ = _ by rw [List.length_append, numsB_length, HN.out, List.length_take]; omega
      generalize zs[k] = z at hc HTK
      have HI := Lib.hid (intP_any z (l ++ numsB (zs.take k)) (n + 8 * k) q' c' wr HLL.out (by omega) hl)
      have HB := Lib.hid hbw
      clear hl ho hbw hr hlt'
      have q0 : (k : Int) < (m : Int) := by omega
      go_wp2_with (go_at_call 57; refine HI.out.mono ?_; rintro e w2 ⟨v, rfl, ho, hb⟩; rw [List.append_assoc, ← HTK.out] at ho; have HO := Lib.hid (ho.lower HB.out.size); have HB2 := Lib.hid (HB.out.trans (hb.mono HB.out.size)); clear ho hb)
      go_roundw
      case rel =>
        have h1 := HO.out
        obtain ⟨q2, c2, rfl, -, -, h2⟩ := h1.lies
        refine ⟨k + 1, q2, c2, by omega, by go_num, ?_, h2, fun _ => h1, HB2.out⟩
        rw [List.length_append, numsB_length, HN.out, List.length_take, HM.out, Nat.min_eq_left (by omega)]
      case measure => simp [intOf]; omega
    · obtain rfl : k = m := by omega
      have HO := Lib.hid (ho (by omega))
      have HB := Lib.hid hbw
      clear hl ho hbw
      go_wp2_with fail
      go_ret
      refine ⟨_, rfl, ?_, HB.out⟩
      have h1 := HO.out
      rw [List.take_of_length_le (by rw [HM.out]; omega)] at h1
      exact h1
end Go.Proofs.YtgeacocdnenhdaaDoor

/-
  The kit's functions on lists of grants: copied, lent with marks behind, compared, kept (gen_kitrows.py).
-/
namespace Go.Proofs.YtgeacocdnenhdaaDoor
open Go.RowKit Go.Proofs.ShaWords
theorem grantT : ElemT 54 44 4 40 where
  sl := Tryd.underlying44
  info := elemInfo (by kernel_rfl) (by kernel_rfl)
  pos := by decide
  few := by decide
theorem GrantM.len (x : GrantM) : x.cells.length = 4 := rfl
theorem GrantM.ones (x : GrantM) : ∀ u ∈ x.cells, u.oneCell' = true := by
  intro u hu
  simp only [GrantM.cells, List.mem_cons, List.not_mem_nil, or_false] at hu
  rcases hu with rfl | rfl | rfl | rfl <;> rfl
abbrev OwnGrants (B : Nat) (w : World) (l : List GrantM) (v : Value) : Prop := OwnR 54 4 GrantM.cells B w l v
abbrev GrantsAt (w : World) (a : Option Addr) (l : List GrantM) : Prop := RowOf 4 GrantM.cells w a l

set_option maxHeartbeats 1000000 in
theorem copyGrants_any (l : List GrantM) (n : Nat) (p : Option Addr) (cap : Nat) (w : World) (hln : l.length = n) (hl : n < 1000000) (hL : GrantsAt w p l) :
    Calls Tryd.prog 101 #[.slice p n cap] w fun e w' => ∃ v, e = .returned v ∧ OwnGrants w.heap.size w' l v ∧ Below w.heap.size w w' := by
  have HL := Lib.hid hL; clear hL
  have HN := Lib.hid hln; clear hln
  go_enter Tryd.func101, Tryd.ntmps101
  go_wp2_with fail
  go_loopw [3, 4] (fun v i wr => ∃ k : Nat, k ≤ n ∧ i = .int .i64 k ∧ OwnGrants w.heap.size wr (l.take k) v ∧ Below w.heap.size w wr) (fun _ i _ => n - (intOf i).toNat)
  case atStart => exact ⟨0, Nat.zero_le _, rfl, OwnR.nil _ _ _ _ _, Below.refl _ _⟩
  case round =>
    obtain ⟨k, hk, rfl, ho, hb⟩ := hrel
    have sz := hb.size
    by_cases hlt : k < n
    · have hlt' : k < l.length := by rw [HN.out]; exact hlt
      rcases HL.out.at' with h0 | ⟨b, off, rfl, hr⟩
      · exfalso; rw [h0] at hlt'; simp at hlt'
      · have hrk := range_keep (hr k hlt') hb
        have HTK := Lib.hid (List.take_succ_eq_append_getElem hlt')
        generalize l[k] = x at hrk HTK
        have hk1 : (l.take k).length ≤ 1000000 := by rw [List.length_take]; omega
        have HO := Lib.hid ho; clear ho
        have HB := Lib.hid hb; clear hb hr hlt'
        have HK1 := Lib.hid hk1; clear hk1
        have HR := Lib.hid hrk; clear hrk
        have HKL := Lib.hid hlt
        have hlen2 := GrantM.len x
        go_wp2_with (first
          | (show wpList _ _ _ (⟨_, .indexAddr _ _ _, _, _, _, _⟩ :: _) _ _; refine wpList_run (by rfl) (grantT.run_ix rfl rfl rfl HKL.out _) ?_)
          | (show wpList _ _ _ (⟨_, .load 54 _, _, _, _, _⟩ :: _) _ _; refine wpList_run (by rfl) (grantT.run_ld Tryd.underlying54 rfl (GrantM.len x) rfl rfl HR.out) ?_)
          | (at_builtin; refine grantT.wpList_grow GrantM.len (by rfl) rfl rfl (HO.out.below (boxBelow _ _)) rfl (heap_new_at rfl) x.ones HK1.out (by simp; omega) ?_; intro v' w' ho' hb' _ _; rw [← HTK.out] at ho'; have HO' := Lib.hid ho'; have HB' := Lib.hid ((HB.out.trans ((boxBelow wr _).mono sz)).trans hb'); clear ho' hb'))
        go_roundw
        case rel => exact ⟨k + 1, by omega, by go_num, HO'.out, HB'.out⟩
        case measure => simp [intOf]; omega
    · have HO := Lib.hid ho; clear ho
      have HB := Lib.hid hb; clear hb
      go_wp2_with fail
      go_ret
      refine ⟨_, rfl, ?_, HB.out⟩
      have h1 := HO.out
      rw [List.take_of_length_le (by rw [HN.out]; omega)] at h1
      exact h1

theorem run_eqGrants {ρ : Operand → Value} {o : Oper} {x y : Operand} {r : GrantM} {ty : TypeId} (ho : o.op = .binOp .eql 54 x y ty) (hx : ρ x = .agg r.cells.toArray) (hy : ρ y = .agg r.cells.toArray) (w : World) : (execOp ρ o).run Tryd.prog w = .ok (.value (.bool true)) w := by
  obtain ⟨dst, op, ty', pos, after, guard⟩ := o
  simp only at ho
  subst ho
  cases r
  simp only [GrantM.cells] at hx hy
  go_simp
structure BothGrants (b off b2 off2 : Nat) (cs : List Value) (W w : World) : Prop where
  one : w.rangeAt b off cs
  two : w.rangeAt b2 off2 cs
  below : Below W.heap.size W w
set_option maxRecDepth 100000 in
set_option maxHeartbeats 1000000 in
theorem sameGrants_any (l : List GrantM) (n : Nat) (p q : Option Addr) (c1 c2 : Nat) (w : World) (hln : l.length = n) (hl : n < 1000000) (hp : GrantsAt w p l) (hq : GrantsAt w q l) :
    Calls Tryd.prog 54 #[.slice p n c1, .slice q n c2] w fun e w' => e = .returned (.bool true) ∧ Below w.heap.size w w' := by
  have HP := Lib.hid hp; clear hp
  have HQ := Lib.hid hq; clear hq
  have HN := Lib.hid hln; clear hln
  go_enter Tryd.func54, Tryd.ntmps54
  go_wp2_with fail
  go_loopw [5] (fun i wr => ∃ k : Nat, k ≤ n ∧ i = .int .i64 k ∧ Below w.heap.size w wr) (fun i _ => n - (intOf i).toNat)
  case atStart => exact ⟨0, Nat.zero_le _, rfl, Below.refl _ _⟩
  case round =>
    obtain ⟨k, hk, rfl, hb⟩ := hrel
    by_cases hlt : k < n
    · have hlt' : k < l.length := by rw [HN.out]; exact hlt
      rcases HP.out.at' with h0 | ⟨b, off, rfl, hr⟩
      · exfalso; rw [h0] at hlt'; simp at hlt'
      rcases HQ.out.at' with h0 | ⟨b2, off2, rfl, hr2⟩
      · exfalso; rw [h0] at hlt'; simp at hlt'
      have hc := range_keep (hr k hlt') hb
      have hc2 := range_keep (hr2 k hlt') hb
      generalize l[k] = x at hc hc2
      have HBT : Hid (BothGrants b (off + k * 4) b2 (off2 + k * 4) x.cells w wr) := show BothGrants _ _ _ _ _ _ _ from ⟨hc, hc2, hb⟩
      have HKL := Lib.hid hlt
      clear hb hr hr2 hc hc2 hlt'
      have q0 : (k : Int) < (n : Int) := by omega
      go_upto_region 6 with (fail)
      refine region_phase (fun wr => BothGrants b (off + k * 4) b2 (off2 + k * 4) x.cells w wr) (fun _ => True) 99 (⟨HBT.out.one, HBT.out.two, HBT.out.below.drew⟩) trivial [(0, .free), (1, .free), (2, .free), (3, .free), (4, .free), (5, .free), (6, .free), (7, .free), (8, .free), (9, .free)] (by kernel_rfl) (by kernel_rfl) (by kernel_rfl) (by kernel_rfl) (fun ops hops A hA => ?_)
      have hsz : A.tmps.size = 27 := by rw [hA]; rfl
      have base0 : A.eval (.tmp 0) = .slice (some ⟨b, off, none⟩) n c1 := by rw [hA]; rfl
      have base1 : A.eval (.tmp 1) = .slice (some ⟨b2, off2, none⟩) n c2 := by rw [hA]; rfl
      have base5 : A.eval (.tmp 5) = .int .i64 (k : Int) := by rw [hA]; rfl
      have HAA := Lib.hid hA; clear hA
      obtain ⟨o0, po0, q0, d0, gd0⟩ : ∃ o, ops[0]? = some o ∧ o.op = .move (.tmp 0) ∧ o.dst = some 17 ∧ o.guard = none := ⟨_, by rw [hops]; rfl, rfl, rfl, rfl⟩
      obtain ⟨o1, po1, q1, d1, gd1⟩ : ∃ o, ops[1]? = some o ∧ o.op = .move (.tmp 5) ∧ o.dst = some 18 ∧ o.guard = none := ⟨_, by rw [hops]; rfl, rfl, rfl, rfl⟩
      obtain ⟨o2, po2, q2, d2, gd2⟩ : ∃ o, ops[2]? = some o ∧ o.op = .indexAddr 44 (.tmp 17) (.tmp 18) ∧ o.dst = some 19 ∧ o.guard = none := ⟨_, by rw [hops]; rfl, rfl, rfl, rfl⟩
      obtain ⟨o3, po3, q3, d3, gd3⟩ : ∃ o, ops[3]? = some o ∧ o.op = .load 54 (.tmp 19) ∧ o.dst = some 20 ∧ o.guard = none := ⟨_, by rw [hops]; rfl, rfl, rfl, rfl⟩
      obtain ⟨o4, po4, q4, d4, gd4⟩ : ∃ o, ops[4]? = some o ∧ o.op = .move (.tmp 1) ∧ o.dst = some 21 ∧ o.guard = none := ⟨_, by rw [hops]; rfl, rfl, rfl, rfl⟩
      obtain ⟨o5, po5, q5, d5, gd5⟩ : ∃ o, ops[5]? = some o ∧ o.op = .move (.tmp 5) ∧ o.dst = some 22 ∧ o.guard = none := ⟨_, by rw [hops]; rfl, rfl, rfl, rfl⟩
      obtain ⟨o6, po6, q6, d6, gd6⟩ : ∃ o, ops[6]? = some o ∧ o.op = .indexAddr 44 (.tmp 21) (.tmp 22) ∧ o.dst = some 23 ∧ o.guard = none := ⟨_, by rw [hops]; rfl, rfl, rfl, rfl⟩
      obtain ⟨o7, po7, q7, d7, gd7⟩ : ∃ o, ops[7]? = some o ∧ o.op = .load 54 (.tmp 23) ∧ o.dst = some 24 ∧ o.guard = none := ⟨_, by rw [hops]; rfl, rfl, rfl, rfl⟩
      obtain ⟨o8, po8, q8, d8, gd8⟩ : ∃ o, ops[8]? = some o ∧ o.op = .binOp .eql 54 (.tmp 20) (.tmp 24) 54 ∧ o.dst = some 25 ∧ o.guard = none := ⟨_, by rw [hops]; rfl, rfl, rfl, rfl⟩
      obtain ⟨o9, po9, q9, d9, gd9⟩ : ∃ o, ops[9]? = some o ∧ o.op = .unOp .not 4 (.tmp 25) ∧ o.dst = some 26 ∧ o.guard = none := ⟨_, by rw [hops]; rfl, rfl, rfl, rfl⟩
      clear hops
      refine met_free po0 d0 (wanted_of gd0) (fun w' h' => run_move q0 base0 w') ?_
      refine met_free po1 d1 (wanted_of gd1) (fun w' h' => run_move q1 ((eval_other _ 17 5 _ (by decide)).trans base5) w') ?_
      refine met_free po2 d2 (wanted_of gd2) (fun w' h' => grantT.run_ix q2 ((eval_other _ 18 17 _ (by decide)).trans (eval_same _ _ _ (by rw [hsz]; decide))) (eval_same _ _ _ (by simp only [put_size, hsz]; decide)) HKL.out w') ?_
      refine met_free po3 d3 (wanted_of gd3) (fun w' h' => grantT.run_ld Tryd.underlying54 rfl (GrantM.len x) q3 (eval_same _ _ _ (by simp only [put_size, hsz]; decide)) h'.one) ?_
      refine met_free po4 d4 (wanted_of gd4) (fun w' h' => run_move q4 ((eval_other _ 20 1 _ (by decide)).trans ((eval_other _ 19 1 _ (by decide)).trans ((eval_other _ 18 1 _ (by decide)).trans ((eval_other _ 17 1 _ (by decide)).trans base1)))) w') ?_
      refine met_free po5 d5 (wanted_of gd5) (fun w' h' => run_move q5 ((eval_other _ 21 5 _ (by decide)).trans ((eval_other _ 20 5 _ (by decide)).trans ((eval_other _ 19 5 _ (by decide)).trans ((eval_other _ 18 5 _ (by decide)).trans ((eval_other _ 17 5 _ (by decide)).trans base5))))) w') ?_
      refine met_free po6 d6 (wanted_of gd6) (fun w' h' => grantT.run_ix q6 ((eval_other _ 22 21 _ (by decide)).trans (eval_same _ _ _ (by simp only [put_size, hsz]; decide))) (eval_same _ _ _ (by simp only [put_size, hsz]; decide)) HKL.out w') ?_
      refine met_free po7 d7 (wanted_of gd7) (fun w' h' => grantT.run_ld Tryd.underlying54 rfl (GrantM.len x) q7 (eval_same _ _ _ (by simp only [put_size, hsz]; decide)) h'.two) ?_
      refine met_free po8 d8 (wanted_of gd8) (fun w' h' => run_eqGrants q8 ((eval_other _ 24 20 _ (by decide)).trans ((eval_other _ 23 20 _ (by decide)).trans ((eval_other _ 22 20 _ (by decide)).trans ((eval_other _ 21 20 _ (by decide)).trans (eval_same _ _ _ (by simp only [put_size, hsz]; decide)))))) (eval_same _ _ _ (by simp only [put_size, hsz]; decide)) w') ?_
      refine met_free po9 d9 (wanted_of gd9) (fun w' h' => r_notT q9 (eval_same _ _ _ (by simp only [put_size, hsz]; decide)) w') ?_
      show NoPanic _ .normal _ _
      refine NoPanic.normal ?_
      rw [HAA.out]
      go_frame
      clear HAA
      clear po0 q0 d0 gd0 po1 q1 d1 gd1 po2 q2 d2 gd2 po3 q3 d3 gd3 po4 q4 d4 gd4 po5 q5 d5 gd5 po6 q6 d6 gd6 po7 q7 d7 gd7 po8 q8 d8 gd8 po9 q9 d9 gd9
      clear base0 base1 base5 hsz
      go_wp2_with fail
      go_roundw
      case rel => exact ⟨k + 1, by omega, by go_num, HBT.out.below.drew⟩
      case measure => simp [intOf]; omega
    · have HB := Lib.hid hb; clear hb
      go_wp2_with fail
      go_ret
      exact ⟨rfl, HB.out⟩

end Go.Proofs.YtgeacocdnenhdaaDoor

/-
  As GrowReg; the last operation may write a slot that others read.
-/
namespace Go.Proofs.YtgeacocdnenhdaaDoor
open Go.RowKit Go.Proofs.ShaWords
theorem slot_free0 {ops : Array Oper} {t : Nat} (h : ((List.range (ops.size - 1)).all fun i => match ops[i]? with | some o => decide (o.dst ≠ some t) | none => true) = true) (i : Nat) (o : Oper) (hi : i + 1 < ops.size) (ho : ops[i]? = some o) : o.dst ≠ some t := by
  have h1 := List.all_eq_true.1 h i (List.mem_range.2 (by omega))
  rw [ho] at h1
  simpa using h1
theorem slots_free0 {ops : Array Oper} {ts : List Nat} (h : ((List.range (ops.size - 1)).all fun i => match ops[i]? with | some o => (match o.dst with | some d => ts.contains d | none => true) | none => true) = true) (t : Nat) (ht : t ∉ ts) (i : Nat) (o : Oper) (hi : i + 1 < ops.size) (ho : ops[i]? = some o) : o.dst ≠ some t := fun hd => by
  have h1 := List.all_eq_true.1 h i (List.mem_range.2 (by omega))
  rw [ho] at h1
  simp only [hd] at h1
  exact ht (by simpa using h1)
structure InvG0 (ops : Array Oper) (a0 : Act) (S : Array Bool → World → Prop) (F : Nat → Value → World → Prop) (L : Array Bool) (a : Act) (w : World) : Prop where
  world : S L w
  defers : a.defers = a0.defers
  size : a.tmps.size = a0.tmps.size
  slot : ∀ t, (∀ (i : Nat) (o : Oper), i + 1 < ops.size → ops[i]? = some o → o.dst ≠ some t) → a.tmps.getD t undef = a0.tmps.getD t undef
  fact : ∀ (i : Nat) (o : Oper) (d : Tmp), ops[i]? = some o → o.dst = some d → L.getD i false = true → F i (a.tmps.getD d undef) w
  closed : ∀ (i : Nat) (o : Oper), ops[i]? = some o → L.getD i false = true → ∀ e ∈ o.after, Region.binds .any e = true → L.getD e.on false = true
theorem region_growR0 {P : Program} {ops0 : Array Oper} {Q : Exit → Act → World → Prop} {id : Nat} {a0 : Act} {w : World} (S : Array Bool → World → Prop) (R : Nat → World → World → Prop) (F : Nat → Value → World → Prop) (hm : P.follows .mixedOrders = true)
    (hback : backward ops0 = true) (hok : growOk ops0 a0.tmps.size = true) (hlo : lastOk ops0 = true) (hn : 0 < ops0.size) (hS : S (Array.replicate ops0.size false) w.drew)
    (hF : ∀ i j v w w', i ≠ j → waitsOn ops0 i j = false → R j w w' → F i v w → F i v w')
    (h : ∀ ops, ops = ops0 → (∀ A W L, S L W → (∀ t, (∀ (i : Nat) (o : Oper), i + 1 < ops.size → ops[i]? = some o → o.dst ≠ some t) → A.tmps.getD t undef = a0.tmps.getD t undef) → A.tmps.size = a0.tmps.size →
      ∀ (i : Nat) (o : Oper), i + 1 < ops.size → L.getD i true = false → ops[i]? = some o → (∀ (j : Nat) (p : Oper) (d : Tmp), (o.after.any fun e => Region.binds .any e && decide (e.on = j)) = true → ops[j]? = some p → p.dst = some d → F j (A.eval (.tmp d)) W) →
        wpOp P ops (NoPanic Q) i (fun a' w' => ∃ v, a' = A.put o.dst v ∧ S (L.setIfInBounds i true) w' ∧ R i W w' ∧ F i v w') A W) ∧
     (∀ A W L, S L W → A.defers = a0.defers → A.tmps.size = a0.tmps.size → (∀ t, (∀ (i : Nat) (o : Oper), i + 1 < ops.size → ops[i]? = some o → o.dst ≠ some t) → A.tmps.getD t undef = a0.tmps.getD t undef) →
      (∀ (i : Nat) (o : Oper) (d : Tmp), i + 1 < ops.size → ops[i]? = some o → o.dst = some d → F i (A.eval (.tmp d)) W) → wpOp P ops (NoPanic Q) (ops.size - 1) (fun a' w' => Q .normal a' w') A W)) :
    (Code.region id ops0 true).wp P Q a0 w := by
  obtain ⟨hop, hlast⟩ := h ops0 rfl
  refine wp_region_noPanic (wp_region_any hm ?_)
  refine wpAny_inv (fun L a w => (L.getD (ops0.size - 1) false = true → (∀ i, i < ops0.size → L.getD i false = true) ∧ Q .normal a w) ∧ (L.getD (ops0.size - 1) false = false → InvG0 ops0 a0 S F L a w)) hback ?_ ?_ ops0.size _ a0 w.drew (by simp) (by simp [leftOf]) ⟨fun hl => ?_, fun _ => ⟨hS, rfl, rfl, fun _ _ => rfl, fun i o d ho _ hl => ?_, fun i o ho hl => ?_⟩⟩
  · intro i o L a w1 ho hl hdep hI
    have hi := (Array.getElem?_eq_some_iff.1 ho).1
    have hlf : L.getD i false = false := getD_both hl
    have hLi : i < L.size := by
      rcases Nat.lt_or_ge i L.size with h' | h'
      · exact h'
      · simp [Array.getElem?_eq_none h'] at hl
    cases hz : L.getD (ops0.size - 1) false with
    | true =>
      have := (hI.1 hz).1 i hi
      rw [hlf] at this; cases this
    | false =>
      have hI := hI.2 hz
      by_cases hil : i = ops0.size - 1
      · have hall : ∀ j, j + 1 < ops0.size → L.getD j false = true := fun j hj => by
          refine reach_spec hI.closed ops0.size i j o ho hdep ?_
          rw [hil]
          exact List.all_eq_true.1 hlo j (List.mem_range.2 (by omega))
        have h1 := hlast a w1 L hI.world hI.defers hI.size hI.slot (fun j p d hj hp hd => hI.fact j p d hp hd (hall j hj))
        rw [← hil] at h1
        refine wpOp_mono (fun a' w' hq => And.intro (fun _ => And.intro (fun j hj => ?_) hq) (fun hf => ?_)) h1
        · by_cases hji : j = i
          · subst hji; simp [hLi]
          · exact getD_set_mono (hall j (by omega))
        · rw [← hil] at hf
          simp [hLi] at hf
      · refine wpOp_mono ?_ (hop a w1 L hI.world hI.slot hI.size i o (by omega) hl ho (fun j p d ha hp hd => by
          simp only [Array.any_eq_true', Bool.and_eq_true, decide_eq_true_eq] at ha
          obtain ⟨e, he, hbd, rfl⟩ := ha
          exact hI.fact e.on p d hp hd (hdep e he hbd)))
        rintro a' w' ⟨v, ha', hS', hB', hFi⟩
        subst ha'
        have hz2 : (L.setIfInBounds i true).getD (ops0.size - 1) false = false := by rw [getD_set_ne false hil]; exact hz
        refine ⟨fun ht => (by rw [hz2] at ht; cases ht), fun _ => ⟨hS', ?_, ?_, ?_, ?_, ?_⟩⟩
        · cases o.dst <;> exact hI.defers
        · rw [← hI.size]; cases o.dst <;> simp [Act.put]
        · intro t ht
          rw [← hI.slot t ht]
          cases hd : o.dst with
          | none => rfl
          | some d =>
            have hne : d ≠ t := fun e => ht i o (by omega) ho (by rw [hd, e])
            simp [Act.put, Array.getElem?_setIfInBounds_ne hne]
        · intro j p d hp hd hlj
          by_cases hij : i = j
          · subst hij
            rw [ho] at hp; cases hp
            have hdl : d < a.tmps.size := by rw [hI.size]; exact growOk_lt hok ho hd
            have e : (a.put o.dst v).tmps.getD d undef = v := by rw [hd]; simp [Act.put, hdl]
            rw [e]; exact hFi
          · have hlj' : L.getD j false = true := by rw [getD_set_ne false hij] at hlj; exact hlj
            have e : (a.put o.dst v).tmps.getD d undef = a.tmps.getD d undef := by
              cases hd' : o.dst with
              | none => rfl
              | some d' =>
                have hne : d' ≠ d := fun e => growOk_ne hok hp ho hd (Ne.symm hij) (by rw [hd', e])
                simp [Act.put, Array.getElem?_setIfInBounds_ne hne]
            rw [e]
            refine hF j i _ w1 w' (Ne.symm hij) ?_ hB' (hI.fact j p d hp hd hlj')
            rw [Bool.eq_false_iff]
            intro hwt
            unfold waitsOn at hwt
            rw [hp] at hwt
            simp only [Array.any_eq_true', Bool.and_eq_true, decide_eq_true_eq] at hwt
            obtain ⟨e2, he2, hb2, hon2⟩ := hwt
            have h2 := hI.closed j p hp hlj' e2 he2 hb2
            rw [hon2, hlf] at h2
            cases h2
        · intro j p hp hlj e he hbd
          by_cases hij : i = j
          · subst hij
            rw [ho] at hp; cases hp
            exact getD_set_mono (hdep e he hbd)
          · have hlj' : L.getD j false = true := by rw [getD_set_ne false hij] at hlj; exact hlj
            exact getD_set_mono (hI.closed j p hp hlj' e he hbd)
  · intro L a w1 hall hI
    exact (hI.1 (hall _ (by omega))).2
  · exfalso
    have hz : ops0.size - 1 < ops0.size := by omega
    simp [hz] at hl
  · exfalso
    have hi := (Array.getElem?_eq_some_iff.1 ho).1
    simp [hi] at hl
  · exfalso
    have hi := (Array.getElem?_eq_some_iff.1 ho).1
    simp [hi] at hl
theorem region_grow0 {P : Program} {ops0 : Array Oper} {Q : Exit → Act → World → Prop} {id : Nat} {a0 : Act} {w : World} (S : World → Prop) (F : Nat → Value → World → Prop) (hm : P.follows .mixedOrders = true)
    (hback : backward ops0 = true) (hok : growOk ops0 a0.tmps.size = true) (hlo : lastOk ops0 = true) (hn : 0 < ops0.size) (hS : S w.drew)
    (hF : ∀ i v w w', Below w.heap.size w w' → F i v w → F i v w')
    (h : ∀ ops, ops = ops0 → (∀ A W, S W → (∀ t, (∀ (i : Nat) (o : Oper), i + 1 < ops.size → ops[i]? = some o → o.dst ≠ some t) → A.tmps.getD t undef = a0.tmps.getD t undef) → A.tmps.size = a0.tmps.size →
      ∀ (i : Nat) (o : Oper), i + 1 < ops.size → ops[i]? = some o → (∀ (j : Nat) (p : Oper) (d : Tmp), (o.after.any fun e => Region.binds .any e && decide (e.on = j)) = true → ops[j]? = some p → p.dst = some d → F j (A.eval (.tmp d)) W) →
        wpOp P ops (NoPanic Q) i (fun a' w' => ∃ v, a' = A.put o.dst v ∧ S w' ∧ Below W.heap.size W w' ∧ F i v w') A W) ∧
     (∀ A W, S W → A.defers = a0.defers → A.tmps.size = a0.tmps.size → (∀ t, (∀ (i : Nat) (o : Oper), i + 1 < ops.size → ops[i]? = some o → o.dst ≠ some t) → A.tmps.getD t undef = a0.tmps.getD t undef) →
      (∀ (i : Nat) (o : Oper) (d : Tmp), i + 1 < ops.size → ops[i]? = some o → o.dst = some d → F i (A.eval (.tmp d)) W) → wpOp P ops (NoPanic Q) (ops.size - 1) (fun a' w' => Q .normal a' w') A W)) :
    (Code.region id ops0 true).wp P Q a0 w :=
  region_growR0 (fun _ => S) (fun _ W w' => Below W.heap.size W w') F hm hback hok hlo hn hS (fun i _ v w w' _ _ hb hf => hF i v w w' hb hf) (fun ops e => ⟨fun A W _ h1 h2 h3 i o h4 _ h5 h6 => (h ops e).1 A W h1 h2 h3 i o h4 h5 h6, fun A W _ h1 h2 h3 h4 h5 => (h ops e).2 A W h1 h2 h3 h4 h5⟩)
end Go.Proofs.YtgeacocdnenhdaaDoor

/-
  What comes in at layer 14, opened: grants, tokens.
-/
namespace Go.Proofs.YtgeacocdnenhdaaDoor
open Go.ChangeShapes Go.WideShapes Go.ChangeAt Go.RowKit Go.Proofs.ShaWords Go.Deep
set_option maxRecDepth 100000 in
theorem open_mac {H : Type} {enc : TypeId × Value → H} {W : World} {fuel : Nat} {cs : List Value} {x : DataW H × List MemPlace}
    (h : DataW.trod enc Tryd.prog W 0 (fun _ => true) true fuel 48 cs = some x) : ∃ bs : List (BitVec 8), bs.length = 32 ∧ cs = bytesV bs := by
  obtain ⟨xs, m, rfl, rfl, hl, hxl, hf⟩ := DataW.trod_array Tryd.underlying48 h
  have hc5 : Tryd.prog.cellsOf 5 = 1 := by kernel_rfl
  have hcs : Tryd.prog.cellsOf 48 = 32 := by kernel_rfl
  rw [hcs] at hl
  have each : ∀ i, i < 32 → ∃ z : Int, cs[i]? = some (.int .u8 z) ∧ (Lit.int .u8 z).wf = true := fun i hi => by
    have h1 := hf i hi
    obtain ⟨b, hb⟩ : ∃ b, xs[i]? = some b := ⟨xs[i]'(by omega), List.getElem?_eq_getElem (by omega)⟩
    rw [hc5, Nat.mul_one, hb] at h1
    obtain ⟨z, hz, _, hw⟩ := DataW.trod_int Tryd.underlying5 h1
    refine ⟨z, ?_, hw⟩
    have := congrArg (·[0]?) hz
    simpa [List.getElem?_take, List.getElem?_drop] using this
  obtain ⟨Z, hZ⟩ := choose_lt (α := Int) each
  refine ⟨(List.range 32).map fun i => BitVec.ofInt 8 (Z i), by simp, ?_⟩
  apply List.ext_getElem?
  intro i
  by_cases hi : i < 32
  · rw [(hZ i hi).1]
    simp [bytesV, hi, n8_ofInt _ (hZ i hi).2]
  · rw [List.getElem?_eq_none (by omega), List.getElem?_eq_none (by simp [bytesV]; omega)]
set_option maxRecDepth 100000 in
theorem open_grants {H : Type} {enc : TypeId × Value → H} {W : World} {fuel : Nat} {a : Option Addr} {len cap : Nat} {x : DataW H × List MemPlace} (h : DataW.trod enc Tryd.prog W 0 (fun _ => true) true fuel 44 (Value.cells (.slice a len cap)).toList = some x)
    (hsz : ∀ n ∈ x.1.weights Tryd.prog 44, n ≤ reachBytes) :
    ∃ os : List GrantM, os.length = len ∧ len ≤ cap ∧ len ≤ 140737488351232 ∧ RowOf 4 GrantM.cells W a os ∧ ∀ o ∈ os, o.Ok :=
  open_structsW GrantM.cells GrantM.Ok Tryd.underlying44 (N := 4) (by kernel_rfl) (by omega) (by decide +kernel) (fun _ _ => rfl) (fun n cs y hy hz => open_grant hy hz) hsz h
set_option maxRecDepth 100000 in
theorem open_token {H : Type} {enc : TypeId × Value → H} {W : World} {fuel : Nat} {cs : List Value} {x : DataW H × List MemPlace} (h : DataW.trod enc Tryd.prog W 0 (fun _ => true) true fuel 50 cs = some x)
    (hsz : ∀ k ∈ x.1.weights Tryd.prog 50, k ≤ reachBytes) :
    ∃ (t : TokM) (p : Option Addr) (n c : Nat), cs = t.cells (.slice p n c) ∧ t.mac.length = 32 ∧ t.gs.length = n ∧ (∀ y ∈ t.gs, y.Ok) ∧ wrap64 t.id = t.id ∧ t.ten.size ≤ 140737488351232 ∧ GrantsAt W p t.gs := by
  obtain ⟨xs, n, _, hxx, hl, hlen, hf⟩ := DataW.trod_struct Tryd.underlying50 h
  have c35 : Tryd.prog.cellsOf 50 = 35 := by kernel_rfl
  have cs1 : Tryd.prog.cellsOf 9 = 1 := by kernel_rfl
  have ci : Tryd.prog.cellsOf 3 = 1 := by kernel_rfl
  have cg : Tryd.prog.cellsOf 44 = 1 := by kernel_rfl
  have cm : Tryd.prog.cellsOf 48 = 32 := by kernel_rfl
  rw [c35] at hl
  obtain ⟨y0, y1, y2, y3, rfl⟩ : ∃ y0 y1 y2 y3, xs = [y0, y1, y2, y3] := by
    match xs, hlen with
    | [a, b, c, d], _ => exact ⟨a, b, c, d, rfl⟩
  have h0 : DataW.trod enc Tryd.prog W 0 (fun _ => true) true n 9 ((cs.drop 0).take (Tryd.prog.cellsOf 9)) = some y0 := hf 0 _ rfl
  have h1 : DataW.trod enc Tryd.prog W 0 (fun _ => true) true n 3 ((cs.drop 1).take (Tryd.prog.cellsOf 3)) = some y1 := hf 1 _ rfl
  have h2 : DataW.trod enc Tryd.prog W 0 (fun _ => true) true n 44 ((cs.drop 2).take (Tryd.prog.cellsOf 44)) = some y2 := hf 2 _ rfl
  have h3 : DataW.trod enc Tryd.prog W 0 (fun _ => true) true n 48 ((cs.drop 3).take (Tryd.prog.cellsOf 48)) = some y3 := hf 3 _ rfl
  rw [cs1] at h0
  rw [ci] at h1
  rw [cg] at h2
  rw [cm] at h3
  have hs0 : ∀ k, (k ∈ y0.1.weights Tryd.prog 9) → k ≤ reachBytes := fun k hk => hsz k (by
    rw [hxx]
    simp only [DataW.weights, Tryd.underlying50, List.map_cons, List.map_nil, DataW.weightsEach, List.mem_append]
    exact .inl hk)
  have hs2 : ∀ k, (k ∈ y2.1.weights Tryd.prog 44) → k ≤ reachBytes := fun k hk => hsz k (by
    rw [hxx]
    simp only [DataW.weights, Tryd.underlying50, List.map_cons, List.map_nil, DataW.weightsEach, List.mem_append]
    exact .inr (.inr (.inl hk)))
  obtain ⟨s0, e0, l0⟩ := open_strF h0 (fun k hk => hs0 k hk)
  obtain ⟨z1, e1, -, w1⟩ := DataW.trod_int Tryd.underlying3 h1
  obtain ⟨a2, n2, c2, e2⟩ : ∃ a len cap, (cs.drop 2).take 1 = [.slice a len cap] := by
    rcases open_slice Tryd.underlying44 h2 with ⟨hcs, _⟩ | ⟨y, l, c, _, _, _, _, hcs, _⟩
    · exact ⟨_, _, _, hcs⟩
    · exact ⟨_, _, _, hcs⟩
  rw [e2] at h2
  obtain ⟨gs, g1, g2, g3, g4, g5⟩ := open_grants (a := a2) (len := n2) (cap := c2) h2 hs2
  obtain ⟨mac, ml, e3⟩ := open_mac h3
  have hcs : cs = (cs.drop 0).take 1 ++ ((cs.drop 1).take 1 ++ ((cs.drop 2).take 1 ++ (cs.drop 3).take 32)) := by
    have t4 : (cs.drop 3).take 32 = cs.drop 3 := List.take_of_length_le (by simp [hl])
    have t3 : (cs.drop 2).take 1 ++ cs.drop 3 = cs.drop 2 := by rw [show cs.drop 3 = (cs.drop 2).drop 1 by rw [List.drop_drop]]; exact List.take_append_drop _ _
    have t2 : (cs.drop 1).take 1 ++ cs.drop 2 = cs.drop 1 := by rw [show cs.drop 2 = (cs.drop 1).drop 1 by rw [List.drop_drop]]; exact List.take_append_drop _ _
    have t1 : (cs.drop 0).take 1 ++ cs.drop 1 = cs := by rw [List.drop_zero]; exact List.take_append_drop _ _
    rw [t4, t3, t2, t1]
  rw [e0, e1, e2, e3] at hcs
  exact ⟨⟨s0, z1, gs, mac⟩, a2, n2, c2, hcs, ml, g1, g5, wrap_wfK w1, l0, g4⟩
set_option maxRecDepth 100000 in
theorem okWide_token {W : World} {base : Nat} {v : Value} (h : Value.okWide Tryd.prog W .any base 50 v) : ∃ cs : Array Value, v = .agg cs := by
  simp only [Value.okWide, Tryd.underlying50] at h
  obtain ⟨cs, h, _⟩ := h
  exact ⟨cs, h⟩
end Go.Proofs.YtgeacocdnenhdaaDoor

/-
  What the rows of layer 14 share: the two tables out of the row's condition.
-/
namespace Go.Proofs.YtgeacocdnenhdaaDoor
open Go.ChangeShapes Go.WideShapes Go.ChangeAt Go.RowKit Go.Proofs.ShaWords

abbrev laid14 : List (String × DataW Unit) := Rows.tokenVerifiesRow.laid
theorem starts_data14 {H : Type} : (Rows.laid_sealery_sha_starts : DataW H) = Lib.tabData .u32 (iv.list.map n32) := by kernel_rfl
theorem constants_data14 {H : Type} : (Rows.laid_sealery_sha_constants : DataW H) = Lib.tabData .u32 (kTable.map n32) := by kernel_rfl
/-- The door's own heap meets the condition: closed facts. -/
theorem door_met14 (os : Os) (args : Array Value) : laidMetH Tryd.prog laid14 ((World.doorLaid Tryd.prog 400 os).forCall (fun _ _ => 0) ⟨#[], args, []⟩).memory :=
  laidMetH_of_parts3 (fuel := 8) (laidMet_of_run' 8 (by kernel_rfl) (by kernel_rfl)) (by kernel_rfl) (by kernel_rfl)
theorem of_laid14 {W : World} (h : laidMetH Tryd.prog laid14 W) : Starts W ∧ Consts W := by
  rw [MakeChecks.laidMetH_plain _ _ _ (by kernel_rfl)] at h
  obtain ⟨ps, ⟨g0, t0, cs0, f0, p0, q0, hg0, ht0, hv0, hd0, ⟨g1, t1, cs1, f1, p1, q1, hg1, ht1, hv1, hd1, _, _⟩, _⟩, _, _⟩ := h
  obtain rfl := Option.some.inj (hg0.symm.trans (show _ = some 1 by kernel_rfl))
  obtain rfl := Option.some.inj (hg1.symm.trans (show _ = some 2 by kernel_rfl))
  obtain rfl := Option.some.inj (ht0.symm.trans (show _ = some 203 by kernel_rfl))
  obtain rfl := Option.some.inj (ht1.symm.trans (show _ = some 212 by kernel_rfl))
  rw [starts_data14] at hd0
  rw [constants_data14] at hd1
  have e0 := Lib.cells_of_tab Tryd.underlying203 Tryd.underlying176 (by kernel_rfl) (by kernel_rfl) hd0
  have e1 := Lib.cells_of_tab Tryd.underlying212 Tryd.underlying176 (by kernel_rfl) (by kernel_rfl) hd1
  refine ⟨fun j v hv => ?_, fun i hi => ?_⟩
  · have := World.var?_cell hg0 hv0 j
    rw [Nat.zero_add, this, ← Array.getElem?_toList, e0, ← hv]
    simp [wordsV]
    rfl
  · have := World.var?_cell hg1 hv1 i
    have hl : kTable.length = 64 := by decide
    rw [this, ← Array.getElem?_toList, e1]
    simp [List.getD, hl, hi]

end Go.Proofs.YtgeacocdnenhdaaDoor
