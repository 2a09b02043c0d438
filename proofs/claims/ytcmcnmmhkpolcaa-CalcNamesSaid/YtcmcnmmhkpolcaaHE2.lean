/-
  No statement: what these walks need, of earlier texts: Keys, ENmath, EPre, ETree, ECheck, GFoldB, GConcat.
-/
import Derived.Test.YtcmcnmmhkpolcaaHE1
import Derived.WalkKit
import Derived.WalkSpells
import Derived.Lib.Hide
import Derived.Deep.Draws
import Derived.Sort.Walk0
import Derived.Lib.ParseIntB
import Derived.Lib.AtoiErrMem
import Derived.Lib.AppendIntMem
import Derived.Test.YtcmcnmmhkpolcaaShelf
import Derived.Test.YtcmcnmmhkpolcaaProg
import Derived.IntWalk
import Derived.LoopTactic
import Derived.StillTailTactics
import Derived.Deep.QuietTactic
import Derived.BigQuiet
import Derived.RangeFuncRecord
import Derived.ArgAppend
import Derived.OwnWalk
import Derived.BigRegion
import Derived.Deep.Cut
import Derived.Deep.RegionLaw
import Derived.Deep.RegionHeld3
import Derived.Shelf.Spec.SearchS
import Derived.Lib.AppendZerosOnto
import Derived.Lib.SliceRun
import Derived.Laws.IdiomStrings
import Derived.Lib.OwnBridge
import Derived.Lib.SlicesCompact
import Derived.Sort.OwnSorted
namespace Go.Proofs.Ytcmcnmmhkpolcaa
section
/-- A strict order that is told by a Bool. -/
structure Strict {K : Type} (less : K → K → Bool) : Prop where
  irrefl : ∀ a, less a a = false
  trans : ∀ a b c, less a b = true → less b c = true → less a c = true
  total : ∀ a b, less a b = false → less b a = false → a = b

section

variable {K : Type} {less : K → K → Bool}

/-- How many keys of a row's front are below x: its place. -/
def pos (less : K → K → Bool) (ks : List K) (x : K) : Nat := (ks.takeWhile (fun k => less k x)).length

def Rising (less : K → K → Bool) (ks : List K) : Prop := ks.Pairwise (fun a b => less a b = true)

theorem Strict.asymm (o : Strict less) {a b : K} (h : less a b = true) : less b a = false := by
  cases hb : less b a with
  | false => rfl
  | true => have := o.trans a b a h hb; rw [o.irrefl] at this; cases this

theorem pos_le (ks : List K) (x : K) : pos less ks x ≤ ks.length := (List.takeWhile_sublist _).length_le

theorem pos_cons (k : K) (r : List K) (x : K) : pos less (k :: r) x = if less k x = true then pos less r x + 1 else 0 := by
  unfold pos
  rw [List.takeWhile_cons]
  split <;> simp_all

theorem pos_before : ∀ (ks : List K) (x : K) (t : Nat) (k : K), t < pos less ks x → ks[t]? = some k → less k x = true
  | [], x, t, k, h, hk => by simp at hk
  | a :: r, x, t, k, h, hk => by
    rw [pos_cons] at h
    by_cases ha : less a x = true
    · rw [if_pos ha] at h
      cases t with
      | zero => simp at hk; rw [← hk]; exact ha
      | succ t => exact pos_before r x t k (by omega) (by simpa using hk)
    · rw [if_neg ha] at h; omega

theorem pos_at : ∀ (ks : List K) (x : K) (k : K), ks[pos less ks x]? = some k → less k x = false
  | [], x, k, hk => by simp [pos] at hk
  | a :: r, x, k, hk => by
    rw [pos_cons] at hk
    by_cases ha : less a x = true
    · rw [if_pos ha] at hk
      exact pos_at r x k (by simpa using hk)
    · rw [if_neg ha] at hk
      simp at hk
      rw [← hk]; simpa using ha

theorem rising_at {ks : List K} (h : Rising less ks) {i j : Nat} {a b : K} (hij : i < j) (ha : ks[i]? = some a) (hb : ks[j]? = some b) : less a b = true := by
  obtain ⟨hi, rfl⟩ := List.getElem?_eq_some_iff.1 ha
  obtain ⟨hj, rfl⟩ := List.getElem?_eq_some_iff.1 hb
  exact List.pairwise_iff_getElem.1 h i j hi hj hij

theorem pos_after (o : Strict less) {ks : List K} (h : Rising less ks) {x : K} {t : Nat} {k : K} (ht : pos less ks x ≤ t) (hk : ks[t]? = some k) : less k x = false := by
  obtain ⟨hlt, _⟩ := List.getElem?_eq_some_iff.1 hk
  have hp : pos less ks x < ks.length := by omega
  have h0 : ks[pos less ks x]? = some (ks[pos less ks x]) := List.getElem?_eq_getElem hp
  have h1 := pos_at ks x _ h0
  generalize ks[pos less ks x] = y at h0 h1
  rcases Nat.lt_or_ge (pos less ks x) t with hlt' | hge
  · have h2 := rising_at h hlt' h0 hk
    cases hb : less k x with
    | false => rfl
    | true => have := o.trans _ _ _ h2 hb; rw [h1] at this; cases this
  · have : pos less ks x = t := by omega
    rw [this] at h0
    rw [h0] at hk
    cases hk
    exact h1

theorem pos_unique {ks : List K} {x : K} {p : Nat} (hp : p ≤ ks.length) (h1 : ∀ t k, t < p → ks[t]? = some k → less k x = true) (h2 : ∀ k, ks[p]? = some k → less k x = false) : pos less ks x = p := by
  rcases Nat.lt_trichotomy (pos less ks x) p with hlt | heq | hgt
  · have hk : ks[pos less ks x]? = some (ks[pos less ks x]'(by omega)) := List.getElem?_eq_getElem (by omega)
    have := h1 _ _ hlt hk
    rw [pos_at ks x _ hk] at this; cases this
  · exact heq
  · have hl := pos_le (less := less) ks x
    have hk : ks[p]? = some (ks[p]'(by omega)) := List.getElem?_eq_getElem (by omega)
    have := pos_before ks x p _ hgt hk
    rw [h2 _ hk] at this; cases this

theorem mem_iff_pos (o : Strict less) {ks : List K} (h : Rising less ks) {x : K} : x ∈ ks ↔ ks[pos less ks x]? = some x := by
  constructor
  · intro hm
    obtain ⟨i, hi, rfl⟩ := List.mem_iff_getElem.1 hm
    have hk : ks[i]? = some ks[i] := List.getElem?_eq_getElem hi
    have : pos less ks ks[i] = i := pos_unique (Nat.le_of_lt hi) (fun t k ht hkt => rising_at h ht hkt hk) (fun k hkk => by rw [hk] at hkk; cases hkk; exact o.irrefl _)
    rw [this]; exact hk
  · intro hk
    exact List.mem_of_getElem? hk

/-- Whether a key is there, as a Bool. -/
def has [DecidableEq K] (ks : List K) (x : K) : Bool := ks.any (fun k => decide (k = x))

theorem has_iff [DecidableEq K] (ks : List K) (x : K) : has ks x = true ↔ x ∈ ks := by simp [has]

theorem has_no [DecidableEq K] {ks : List K} {x : K} (h : x ∉ ks) : has ks x = false := by
  cases hb : has ks x with
  | false => rfl
  | true => exact absurd ((has_iff ks x).1 hb) h

/-- Whether the key is there, as the search tells it. -/
theorem found_iff [DecidableEq K] (o : Strict less) {ks : List K} (h : Rising less ks) {x y : K} {p : Nat} (hp : pos less ks x = p) (hy : ks[p]? = some y) : has ks x = decide (y = x) := by
  subst hp
  by_cases hxy : y = x
  · subst hxy
    rw [(has_iff _ _).2 ((mem_iff_pos o h).2 hy)]; simp
  · have : x ∉ ks := fun hm => hxy (by have := (mem_iff_pos o h).1 hm; rw [hy] at this; exact Option.some.inj this)
    rw [has_no this]; simp [hxy]

theorem found_none [DecidableEq K] (o : Strict less) {ks : List K} (h : Rising less ks) {x : K} {p : Nat} (hp : pos less ks x = p) (hl : ks.length ≤ p) : has ks x = false := by
  subst hp
  have : x ∉ ks := fun hm => by
    have := (mem_iff_pos o h).1 hm
    rw [List.getElem?_eq_none hl] at this; cases this
  exact has_no this

/-- The library's search finds the place. -/
theorem search_pos (o : Strict less) {ks : List K} (h : Rising less ks) (x : K) :
    Lib.bsGo (fun t => less (ks.getD t x) x) ks.length 0 ks.length = pos less ks x := by
  refine Lib.bsGo_spec _ _ (fun t ht => ?_) (fun t ht => ?_) _ _ _ (by omega) (Nat.zero_le _) (pos_le _ _)
  · have hl := pos_le (less := less) ks x
    have hk : ks[t]? = some (ks[t]'(by omega)) := List.getElem?_eq_getElem (by omega)
    show less (ks.getD t x) x = true
    rw [List.getD_eq_getElem?_getD, hk]
    exact pos_before ks x t _ ht hk
  · show less (ks.getD t x) x = false
    rw [List.getD_eq_getElem?_getD]
    cases hk : ks[t]? with
    | none => exact o.irrefl x
    | some k => exact pos_after o h ht hk

theorem rising_insert (o : Strict less) {ks : List K} (h : Rising less ks) {x : K} (hx : x ∉ ks) : Rising less (ks.take (pos less ks x) ++ x :: ks.drop (pos less ks x)) := by
  unfold Rising at *
  rw [List.pairwise_append, List.pairwise_cons]
  refine ⟨h.take, ⟨fun a ha => ?_, h.drop⟩, fun a ha b hb => ?_⟩
  · obtain ⟨i, hi⟩ := List.mem_iff_getElem?.1 ha
    rw [List.getElem?_drop] at hi
    have := pos_after o h (x := x) (by omega) hi
    cases hb : less x a with
    | true => rfl
    | false => have e := o.total _ _ this hb; rw [e] at hi; exact absurd (List.mem_of_getElem? hi) hx
  · obtain ⟨i, hi⟩ := List.mem_iff_getElem?.1 ha
    rw [List.getElem?_take] at hi
    split at hi
    · rename_i hip
      have h1 := pos_before ks x i a hip hi
      rcases List.mem_cons.1 hb with rfl | hb
      · exact h1
      · obtain ⟨j, hj⟩ := List.mem_iff_getElem?.1 hb
        rw [List.getElem?_drop] at hj
        exact rising_at h (by omega) hi hj
    · cases hi

variable [DecidableEq K]

/-- What Put makes of the keys, and of the values. -/
def putK (less : K → K → Bool) (ks : List K) (x : K) : List K := if has ks x = true then ks else ks.take (pos less ks x) ++ x :: ks.drop (pos less ks x)

theorem rising_putK (o : Strict less) {ks : List K} (hr : Rising less ks) (x : K) : Rising less (putK less ks x) := by
  unfold putK
  split
  · exact hr
  · rename_i hb
    exact rising_insert o hr (fun hm => hb ((has_iff ks x).2 hm))

theorem length_putK (ks : List K) (x : K) : (putK less ks x).length = if has ks x = true then ks.length else ks.length + 1 := by
  unfold putK
  have := pos_le (less := less) ks x
  split
  · rfl
  · simp only [List.length_append, List.length_take, List.length_cons, List.length_drop]
    omega

theorem length_putK_le (ks : List K) (x : K) : (putK less ks x).length ≤ ks.length + 1 := by
  rw [length_putK]; split <;> omega

theorem mem_putK (ks : List K) (x y : K) : y ∈ putK less ks x ↔ y ∈ ks ∨ y = x := by
  unfold putK
  split
  · rename_i hb
    have hx := (has_iff ks x).1 hb
    exact ⟨Or.inl, fun h => h.elim id (fun e => e ▸ hx)⟩
  · have e : y ∈ ks ↔ y ∈ ks.take (pos less ks x) ∨ y ∈ ks.drop (pos less ks x) := by
      rw [← List.mem_append, List.take_append_drop]
    rw [List.mem_append, List.mem_cons, e]
    constructor
    · rintro (h | h | h)
      · exact Or.inl (Or.inl h)
      · exact Or.inr h
      · exact Or.inl (Or.inr h)
    · rintro ((h | h) | h)
      · exact Or.inl h
      · exact Or.inr (Or.inr h)
      · exact Or.inr (Or.inl h)

omit [DecidableEq K] in

/-- Two rising rows of the same keys are one. -/
theorem rising_ext (o : Strict less) : ∀ {a b : List K}, Rising less a → Rising less b → (∀ x, x ∈ a ↔ x ∈ b) → a = b
  | [], [], _, _, _ => rfl
  | [], y :: _, _, _, h => by have := (h y).2 (List.Mem.head _); cases this
  | x :: _, [], _, _, h => by have := (h x).1 (List.Mem.head _); cases this
  | x :: r, y :: s, ha, hb, h => by
    obtain ⟨ha1, ha2⟩ := List.pairwise_cons.1 ha
    obtain ⟨hb1, hb2⟩ := List.pairwise_cons.1 hb
    have hxy : x = y := by
      rcases List.mem_cons.1 ((h x).1 (List.Mem.head _)) with e | e
      · exact e
      · rcases List.mem_cons.1 ((h y).2 (List.Mem.head _)) with e' | e'
        · exact e'.symm
        · have h1 := hb1 x e
          have h2 := ha1 y e'
          rw [o.asymm h1] at h2; cases h2
    subst hxy
    congr 1
    refine rising_ext o ha2 hb2 (fun z => ⟨fun hz => ?_, fun hz => ?_⟩)
    · rcases List.mem_cons.1 ((h z).1 (List.Mem.tail _ hz)) with e | e
      · subst e; have := ha1 z hz; rw [o.irrefl] at this; cases this
      · exact e
    · rcases List.mem_cons.1 ((h z).2 (List.Mem.tail _ hz)) with e | e
      · subst e; have := hb1 z hz; rw [o.irrefl] at this; cases this
      · exact e

end

/-- The order of texts, byte by byte. -/
def lsS (a b : ByteArray) : Bool := Op.bytesLess a.toList b.toList

theorem bytesLess_irrefl : ∀ l : List UInt8, Op.bytesLess l l = false
  | [] => rfl
  | a :: r => by simp [Op.bytesLess, bytesLess_irrefl r]

theorem bytesLess_cons (a b : UInt8) (x y : List UInt8) : Op.bytesLess (a :: x) (b :: y) = true ↔ a.toNat < b.toNat ∨ (a.toNat = b.toNat ∧ Op.bytesLess x y = true) := by
  rw [Op.bytesLess]
  simp only [Bool.or_eq_true, Bool.and_eq_true, decide_eq_true_eq, beq_iff_eq, UInt8.lt_iff_toNat_lt, UInt8.toNat_inj]

theorem bytesLess_trans : ∀ a b c : List UInt8, Op.bytesLess a b = true → Op.bytesLess b c = true → Op.bytesLess a c = true
  | _, [], _, h, _ => by simp [Op.bytesLess] at h
  | _, _ :: _, [], _, h => by simp [Op.bytesLess] at h
  | [], _ :: _, _ :: _, _, _ => by simp [Op.bytesLess]
  | a :: x, b :: y, c :: z, h1, h2 => by
    rw [bytesLess_cons] at *
    rcases h1 with h1 | ⟨h1, h1'⟩ <;> rcases h2 with h2 | ⟨h2, h2'⟩
    · exact Or.inl (by omega)
    · exact Or.inl (by omega)
    · exact Or.inl (by omega)
    · exact Or.inr ⟨by omega, bytesLess_trans x y z h1' h2'⟩

theorem bytesLess_total : ∀ a b : List UInt8, Op.bytesLess a b = false → Op.bytesLess b a = false → a = b
  | [], [], _, _ => rfl
  | [], _ :: _, h, _ => by simp [Op.bytesLess] at h
  | _ :: _, [], _, h => by simp [Op.bytesLess] at h
  | a :: x, b :: y, h1, h2 => by
    have n1 := mt (bytesLess_cons a b x y).2 (by rw [h1]; simp)
    have n2 := mt (bytesLess_cons b a y x).2 (by rw [h2]; simp)
    simp only [not_or, not_and, Bool.not_eq_true] at n1 n2
    have e : a.toNat = b.toNat := by omega
    have := bytesLess_total x y (n1.2 e) (n2.2 e.symm)
    rw [this, UInt8.toNat_inj.1 e]

theorem bytes_eq {a b : ByteArray} (h : a.toList = b.toList) : a = b := by
  rw [Lib.toList_data, Lib.toList_data] at h
  cases a with
  | mk ad => cases b with
    | mk bd => exact congrArg ByteArray.mk (Array.toList_inj.1 h)

theorem strictS : Strict lsS where
  irrefl _ := bytesLess_irrefl _
  trans _ _ _ h1 h2 := bytesLess_trans _ _ _ h1 h2
  total _ _ h1 h2 := bytes_eq (bytesLess_total _ _ h1 h2)

end

section
open Go.RowKit

/-- Names laid into a rising row. -/
def putsN (acc l : List ByteArray) : List ByteArray := l.foldl (putK lsS) acc

def namesF : F → List ByteArray → List ByteArray
  | .nil, acc => acc
  | .cons o m _ ks r, acc => namesF r (putsN acc (if isName o = true then [m] else namesF ks []))

/-- A tree's names. -/
def namesT (t : TN) : List ByteArray := if isName t.op = true then [t.nm] else namesF t.ks []

/-- All the names, as they stand. -/
def allN : F → List ByteArray
  | .nil => []
  | .cons o m _ ks r => (if isName o = true then [m] else allN ks) ++ allN r

theorem puts_mem (l : List ByteArray) : ∀ (acc : List ByteArray) (y : ByteArray), y ∈ putsN acc l ↔ y ∈ acc ∨ y ∈ l := by
  induction l with
  | nil => intro acc y; simp [putsN]
  | cons x l ih =>
    intro acc y
    have : putsN acc (x :: l) = putsN (putK lsS acc x) l := rfl
    rw [this, ih, mem_putK, List.mem_cons]
    constructor
    · rintro ((h | h) | h)
      · exact .inl h
      · exact .inr (.inl h)
      · exact .inr (.inr h)
    · rintro (h | h | h)
      · exact .inl (.inl h)
      · exact .inl (.inr h)
      · exact .inr h

theorem puts_rising (l : List ByteArray) : ∀ {acc : List ByteArray}, Rising lsS acc → Rising lsS (putsN acc l) := by
  induction l with
  | nil => intro acc h; exact h
  | cons x l ih => intro acc h; exact ih (rising_putK strictS h x)

theorem puts_len (l : List ByteArray) : ∀ acc : List ByteArray, (putsN acc l).length ≤ acc.length + l.length := by
  induction l with
  | nil => intro acc; exact Nat.le_refl _
  | cons x l ih =>
    intro acc
    have h := ih (putK lsS acc x)
    have k := length_putK_le (less := lsS) acc x
    have : putsN acc (x :: l) = putsN (putK lsS acc x) l := rfl
    rw [this, List.length_cons]; omega

theorem names_mem : ∀ (f : F) (acc : List ByteArray) (y : ByteArray), y ∈ namesF f acc ↔ y ∈ acc ∨ y ∈ allN f
  | .nil, acc, y => by simp [namesF, allN]
  | .cons o m n ks r, acc, y => by
    rw [namesF, names_mem r, puts_mem, allN, List.mem_append]
    by_cases h : isName o = true
    · rw [if_pos h, if_pos h]; exact or_assoc
    · rw [if_neg h, if_neg h, names_mem ks]
      simp [or_assoc]

theorem names_rising : ∀ (f : F) (acc : List ByteArray), Rising lsS acc → Rising lsS (namesF f acc)
  | .nil, _, h => h
  | .cons _ _ _ _ r, _, h => names_rising r _ (puts_rising _ h)

theorem names_len : ∀ (f : F) (acc : List ByteArray), (namesF f acc).length ≤ acc.length + sizeF f
  | .nil, acc => by simp [namesF, sizeF]
  | .cons o m n ks r, acc => by
    rw [namesF, sizeF]
    have h := names_len r (putsN acc (if isName o = true then [m] else namesF ks []))
    have k := puts_len (if isName o = true then [m] else namesF ks []) acc
    have j := names_len ks []
    have : (if isName o = true then [m] else namesF ks []).length ≤ 1 + sizeF ks := by
      split
      · simp
      · simpa using Nat.le_trans j (by simp)
    omega

theorem namesT_rising (t : TN) : Rising lsS (namesT t) := by
  unfold namesT
  split
  · simp [Rising]
  · exact names_rising _ _ List.Pairwise.nil

theorem namesT_len (t : TN) : (namesT t).length ≤ sizeT t := by
  unfold namesT sizeT
  split
  · simp
  · have := names_len t.ks []; simp at this; omega

theorem namesT_mem (t : TN) (y : ByteArray) : y ∈ namesT t ↔ y ∈ allN t.f := by
  unfold namesT
  rw [TN.f, allN, allN, List.append_nil]
  by_cases h : isName t.op = true
  · rw [if_pos h, if_pos h]
  · rw [if_neg h, if_neg h, names_mem]; simp

/-- A rising row with the same names is the same row. -/
theorem namesT_of {t : TN} {l : List ByteArray} (hr : Rising lsS l) (hm : ∀ y, y ∈ l ↔ y ∈ allN t.f) : l = namesT t :=
  rising_ext strictS hr (namesT_rising t) (fun y => (hm y).trans (namesT_mem t y).symm)

end

section
open Go.RowKit

/-- The nodes of a row, each ahead of its kids; a number's and a name's kids are left out. -/
def preF : F → List TN
  | .nil => []
  | .cons o m n ks r => ⟨o, m, n, ks⟩ :: ((if arity o = 0 then [] else preF ks) ++ preF r)

theorem arity_zero {o : ByteArray} : arity o = 0 ↔ (isNum o || isName o) = true := by
  unfold arity
  by_cases h : (isNum o || isName o) = true
  · simp [h]
  · rw [if_neg h]
    constructor
    · intro h2
      split at h2
      · cases h2
      · split at h2 <;> cases h2
    · intro h2; exact absurd h2 h

theorem err_len {o m : ByteArray} {n : Int} {k : Nat} (h : errN o m n k = 0) : arity o = (k : Int) := by
  unfold errN at h
  by_cases h1 : (arity o != (k : Int)) = true
  · rw [if_pos h1] at h; cases h
  · simpa using h1

theorem chk_split {o m : ByteArray} {n : Int} {ks r : F} (h : chkF (.cons o m n ks r) = 0) : errN o m n ks.len = 0 ∧ chkF ks = 0 ∧ chkF r = 0 := by
  rw [chkF] at h
  by_cases h1 : errN o m n ks.len = 0
  · rw [if_pos h1] at h
    by_cases h2 : chkF ks = 0
    · rw [if_pos h2] at h; exact ⟨h1, h2, h⟩
    · rw [if_neg h2] at h; exact absurd h h2
  · rw [if_neg h1] at h; exact absurd h h1

theorem len_zero {f : F} (h : f.len = 0) : f = .nil := by
  cases f with
  | nil => rfl
  | cons o m n k r => simp [F.len] at h

/-- The names in a list of nodes. -/
def nmsL (l : List TN) : List ByteArray := (l.filter (fun t => isName t.op)).map (·.nm)

theorem nms_app (a b : List TN) : nmsL (a ++ b) = nmsL a ++ nmsL b := by unfold nmsL; rw [List.filter_append, List.map_append]

theorem pre_names : ∀ (f : F), chkF f = 0 → nmsL (preF f) = allN f
  | .nil, _ => rfl
  | .cons o m n ks r, h => by
    obtain ⟨e1, c1, r1⟩ := chk_split h
    have a1 := err_len e1
    rw [preF, allN]
    have e : nmsL (⟨o, m, n, ks⟩ :: ((if arity o = 0 then [] else preF ks) ++ preF r)) = nmsL [⟨o, m, n, ks⟩] ++ (nmsL (if arity o = 0 then [] else preF ks) ++ nmsL (preF r)) := by
      rw [← nms_app, ← nms_app]; rfl
    rw [e, pre_names r r1, ← List.append_assoc]
    congr 1
    by_cases hm : isName o = true
    · have hz : arity o = 0 := arity_zero.2 (by rw [hm, Bool.or_true])
      rw [if_pos hm, if_pos hz]
      unfold nmsL
      rw [List.filter_cons_of_pos (by exact hm)]
      rfl
    · rw [if_neg hm]
      have e0 : nmsL [⟨o, m, n, ks⟩] = [] := by
        unfold nmsL
        rw [List.filter_cons_of_neg (by exact hm)]
        rfl
      rw [e0, List.nil_append]
      by_cases hz : arity o = 0
      · rw [if_pos hz]
        obtain rfl := len_zero (f := ks) (by rw [hz] at a1; exact_mod_cast a1.symm)
        rfl
      · rw [if_neg hz, pre_names ks c1]

theorem pre_len : ∀ (f : F), (preF f).length ≤ sizeF f
  | .nil => Nat.le_refl _
  | .cons o m n ks r => by
    have h1 := pre_len ks
    have h2 := pre_len r
    rw [preF, sizeF, List.length_cons, List.length_append]
    split
    · simp; omega
    · omega

theorem len_size : ∀ (f : F), f.len ≤ sizeF f
  | .nil => Nat.le_refl _
  | .cons o m n ks r => by
    have h2 := len_size r
    rw [F.len, sizeF]; omega

end

section
open Go.RowKit

theorem drew_below (w : World) : Below w.heap.size w w.drew := ⟨rfl, rfl, rfl, Nat.le_refl _, fun _ _ => rfl⟩

theorem EachF.at {P : TN → Prop} : ∀ {f : F} {j : Nat} {t : TN}, EachF P f → f.at j = some t → P t
  | .nil, _, _, _, h => by cases h
  | .cons o m n ks r, 0, t, hp, h => by
    have : (⟨o, m, n, ks⟩ : TN) = t := Option.some.inj h
    rw [← this]; exact hp.1
  | .cons _ _ _ _ r, j + 1, t, hp, h => EachF.at (f := r) hp.2 h

theorem each_of {P : TN → Prop} (step : ∀ t : TN, EachF P t.ks → P t) : ∀ f : F, EachF P f
  | .nil => trivial
  | .cons o m n ks r => ⟨step ⟨o, m, n, ks⟩ (each_of step ks), each_of step r⟩

theorem tree_of {P : TN → Prop} (step : ∀ t : TN, EachF P t.ks → P t) (t : TN) : P t := step t (each_of step t.ks)

/-- The cells of the tree at a place of a row. -/
theorem readsN_at {G : Nat → Prop} {w : World} {a : Option Addr} {ks : F} {j : Nat} {t : TN} (h : ReadsN G w a ks) (hj : ks.at j = some t) :
    ∃ b off a2 c2, a = some ⟨b, off, none⟩ ∧ G b ∧ b < w.heap.size ∧ (w.cell? ⟨b, off + j * 4, none⟩ = some (.string t.op) ∧ w.cell? ⟨b, off + j * 4 + 1, none⟩ = some (.string t.nm) ∧ w.cell? ⟨b, off + j * 4 + 2, none⟩ = some (.int .i64 t.n) ∧ w.cell? ⟨b, off + j * 4 + 3, none⟩ = some (.slice a2 t.ks.len c2)) ∧ ReadsN G w a2 t.ks := by
  rcases h with rfl | ⟨b, off, ha, h⟩
  · cases hj
  · have hlt : j < ks.len := by
      rcases Nat.lt_or_ge j ks.len with h' | h'
      · exact h'
      · exfalso
        have : ∀ (f : F) (j : Nat), f.len ≤ j → f.at j = none := by
          intro f
          induction f with
          | nil => intro j _; rfl
          | cons o m n k r _ ih => intro j hj; cases j with
            | zero => simp [F.len] at hj
            | succ j => exact ih j (by simp [F.len] at hj; omega)
        rw [this ks j h'] at hj; cases hj
    obtain ⟨t', h1, h2⟩ := F.drop_at ks j hlt
    rw [hj] at h1
    obtain rfl := Option.some.inj h1
    have hd := h.drop j
    rw [h2] at hd
    obtain ⟨g1, g2, ⟨a2, c2, hc, hk⟩, _⟩ := hd
    exact ⟨b, off, a2, c2, ha, g1, g2, hc, hk⟩

theorem at_some {ks : F} {j : Nat} (h : j < ks.len) : ∃ t, ks.at j = some t ∧ ks.drop j = .cons t.op t.nm t.n t.ks (ks.drop (j + 1)) := F.drop_at ks j h

set_option maxHeartbeats 4000000 in
theorem kids_any (o : ByteArray) (w : World) : Calls Try.prog 36 #[.string o] w fun e w' => e = .returned (.int .i64 (arity o)) ∧ w = w' := by
  have E : arity o = if (o.toList == [110, 117, 109] || o.toList == [110, 97, 109, 101]) = true then 0 else if (o.toList == [110, 101, 103]) = true then 1 else if (o.toList == [43] || o.toList == [45] || o.toList == [42] || o.toList == [47] || o.toList == [37]) = true then 2 else -1 := by
    unfold arity isNum isName isNeg isTwo bNum bName bNeg
    rw [Lib.toList_data]
  cases h0 : (o.toList == [110, 117, 109]) with
  | true =>
    have R := Lib.hid (show arity o = 0 by rw [E]; simp [h0])
    clear E
    go_enter Try.func36, Try.ntmps36
    go_wp2_with fail
    go_ret
    rw [R.out]
    exact ⟨rfl, rfl⟩
  | false =>
    cases h1 : (o.toList == [110, 97, 109, 101]) with
    | true =>
      have R := Lib.hid (show arity o = 0 by rw [E]; simp [h0, h1])
      clear E
      go_enter Try.func36, Try.ntmps36
      go_wp2_with fail
      go_ret
      rw [R.out]
      exact ⟨rfl, rfl⟩
    | false =>
      cases h2 : (o.toList == [110, 101, 103]) with
      | true =>
        have R := Lib.hid (show arity o = 1 by rw [E]; simp [h0, h1, h2])
        clear E
        go_enter Try.func36, Try.ntmps36
        go_wp2_with fail
        go_ret
        rw [R.out]
        exact ⟨rfl, rfl⟩
      | false =>
        cases h3 : (o.toList == [43]) with
        | true =>
          have R := Lib.hid (show arity o = 2 by rw [E]; simp [h0, h1, h2, h3])
          clear E
          go_enter Try.func36, Try.ntmps36
          go_wp2_with fail
          go_ret
          rw [R.out]
          exact ⟨rfl, rfl⟩
        | false =>
          cases h4 : (o.toList == [45]) with
          | true =>
            have R := Lib.hid (show arity o = 2 by rw [E]; simp [h0, h1, h2, h3, h4])
            clear E
            go_enter Try.func36, Try.ntmps36
            go_wp2_with fail
            go_ret
            rw [R.out]
            exact ⟨rfl, rfl⟩
          | false =>
            cases h5 : (o.toList == [42]) with
            | true =>
              have R := Lib.hid (show arity o = 2 by rw [E]; simp [h0, h1, h2, h3, h4, h5])
              clear E
              go_enter Try.func36, Try.ntmps36
              go_wp2_with fail
              go_ret
              rw [R.out]
              exact ⟨rfl, rfl⟩
            | false =>
              cases h6 : (o.toList == [47]) with
              | true =>
                have R := Lib.hid (show arity o = 2 by rw [E]; simp [h0, h1, h2, h3, h4, h5, h6])
                clear E
                go_enter Try.func36, Try.ntmps36
                go_wp2_with fail
                go_ret
                rw [R.out]
                exact ⟨rfl, rfl⟩
              | false =>
                cases h7 : (o.toList == [37]) with
                | true =>
                  have R := Lib.hid (show arity o = 2 by rw [E]; simp [h0, h1, h2, h3, h4, h5, h6, h7])
                  clear E
                  go_enter Try.func36, Try.ntmps36
                  go_wp2_with fail
                  go_ret
                  rw [R.out]
                  exact ⟨rfl, rfl⟩
                | false =>
                  have R := Lib.hid (show arity o = -1 by rw [E]; simp [h0, h1, h2, h3, h4, h5, h6, h7])
                  clear E
                  go_enter Try.func36, Try.ntmps36
                  go_wp2_with fail
                  go_ret
                  rw [R.out]
                  exact ⟨rfl, rfl⟩

/-- Rows of a length that may be. -/
def LenF : F → Prop
  | .nil => True
  | .cons _ _ _ ks r => ks.len ≤ 9223372036854775807 ∧ LenF ks ∧ LenF r

theorem LenF.at : ∀ {f : F} {j : Nat} {t : TN}, LenF f → f.at j = some t → LenF t.f
  | .nil, _, _, _, h => by cases h
  | .cons o m n ks r, 0, t, hp, h => by
    have : (⟨o, m, n, ks⟩ : TN) = t := Option.some.inj h
    rw [← this]; exact ⟨hp.1, hp.2.1, trivial⟩
  | .cons _ _ _ _ r, j + 1, t, hp, h => LenF.at (f := r) hp.2.2 h

theorem cnt_ge : ∀ (f : F) (l : Int), -1 ≤ l → -1 ≤ cntF f l
  | .nil, l, h => h
  | .cons _ _ _ ks r, l, h => by
    rw [cntF]
    split
    · exact h
    · exact cnt_ge r _ (cnt_ge ks _ (by omega))

/-- Count's contract at a tree. -/
def CntOK (t : TN) : Prop := ∀ (G : Nat → Prop) (w : World) (a : Option Addr) (c : Nat) (l : Int), 0 ≤ l → l ≤ 1000 → LenF t.f → ReadsN G w a t.ks → Calls Try.prog 19 #[nodeV t.op t.nm t.n a t.ks.len c, .int .i64 l] w fun e w' => e = .returned (.int .i64 (cntF t.ks (l - 1))) ∧ Below w.heap.size w w'

set_option maxHeartbeats 4000000 in
theorem cnt_step (t : TN) (ih : EachF CntOK t.ks) : CntOK t := by
  intro G w a c l hl0 hl1 hL hr
  have R := Lib.hid hr
  have IH := Lib.hid ih
  obtain ⟨hm, hL2, -⟩ := hL
  have LK := Lib.hid hL2
  obtain ⟨r, hR⟩ : ∃ r, cntF t.ks (l - 1) = r := ⟨_, rfl⟩
  rw [hR]
  have H0 := Lib.hid (show cntF (t.ks.drop 0) (l - 1) = r by rw [F.drop_zero]; exact hR)
  have NB := Lib.hid (heap_alloc_new w (ndO t.op t.nm t.n a t.ks.len c))
  have B0 := Lib.hid ((Below.refl w.heap.size w).alloc (Nat.le_refl _) (ndO t.op t.nm t.n a t.ks.len c))
  clear hr ih hR hL2
  go_enter Try.func19, Try.ntmps19
  go_wp2_with fail
  generalize w.alloc (ndO t.op t.nm t.n a t.ks.len c) = W at NB B0 ⊢
  go_loopw [1, 5] (fun v i wr => ∃ (k : Nat) (x : Int), i = .int .i64 k ∧ v = .int .i64 x ∧ k ≤ t.ks.len ∧ -1 ≤ x ∧ x ≤ 1000 ∧ Hid (cntF (t.ks.drop k) x = r) ∧ Hid (Below w.heap.size w wr) ∧ Hid (wr.heap[w.heap.size]? = some (ndO t.op t.nm t.n a t.ks.len c))) (fun _ i _ => t.ks.len - (intOf i).toNat)
  case atStart => exact ⟨0, l - 1, rfl, rfl, Nat.zero_le _, by omega, by omega, H0, B0, NB⟩
  case round =>
    obtain ⟨k, x, rfl, rfl, hk, hx0, hx1, hE, hB, hN⟩ := hrel
    obtain ⟨⟨m0, m1, m2, m3⟩, -⟩ := four hN.out
    by_cases hlt : k < t.ks.len
    · obtain ⟨t2, hat, hdr⟩ := at_some hlt
      by_cases hx : x < 0
      · have RR := Lib.hid (show x = r by rw [← hE.out, hdr, cntF, if_pos hx])
        have g0 : ¬ (0 : Int) ≤ x := by omega
        clear hat hdr hx
        go_wp2_with fail
        go_ret
        rw [RR.out]
        exact ⟨rfl, hB.out⟩
      · have g0 : (0 : Int) ≤ x := by omega
        obtain ⟨b, off, a2, c2, ha, hG, hbl, ⟨p0, p1, p2, p3⟩, hr2⟩ := readsN_at (R.out.kept hB.out) hat
        have EN := Lib.hid (show cntF (t.ks.drop (k + 1)) (cntF t2.ks (x - 1)) = r by rw [← hE.out, hdr, cntF, if_neg hx])
        have C := Lib.hid ((EachF.at IH.out hat) G wr a2 c2 x g0 hx1 (LK.out.at hat) hr2)
        have h1 := cnt_ge t2.ks (x - 1) (by omega)
        have h2 := cnt_le t2.ks (x - 1)
        subst ha
        obtain ⟨y, hy⟩ : ∃ y, cntF t2.ks (x - 1) = y := ⟨_, rfl⟩
        rw [hy] at C EN h1 h2
        clear hat hdr hx hr2 hy
        go_wp2_with fail
        refine C.out.mono ?_
        rintro e w1 ⟨rfl, hb⟩
        have hz := hB.out.size
        have B1 := Lib.hid (hB.out.trans (hb.mono hz))
        have N1 := Lib.hid ((hb.block _ (lt_block hN.out)).trans hN.out)
        clear hb C m0 m1 m2 m3
        go_wp2_with fail
        go_roundw
        case rel => exact ⟨k + 1, y, by go_num, rfl, by omega, h1, by omega, EN, B1, N1⟩
        case measure => simp [intOf]; omega
    · have RR := Lib.hid (show x = r by rw [← hE.out, F.drop_len _ _ (by omega)]; rfl)
      go_wp2_with fail
      go_ret
      rw [RR.out]
      exact ⟨rfl, hB.out⟩

theorem cnt_any (t : TN) : CntOK t := tree_of cnt_step t

end

section
open Go.RowKit

/-- Rows whose names are of a size that may be. -/
def SzF : F → Prop
  | .nil => True
  | .cons _ m _ ks r => m.size ≤ 281474976710656 ∧ ks.len ≤ 9223372036854775807 ∧ SzF ks ∧ SzF r

theorem SzF.at : ∀ {f : F} {j : Nat} {t : TN}, SzF f → f.at j = some t → SzF t.f
  | .nil, _, _, _, h => by cases h
  | .cons o m n ks r, 0, t, hp, h => by
    have : (⟨o, m, n, ks⟩ : TN) = t := Option.some.inj h
    rw [← this]; exact ⟨hp.1, hp.2.1, hp.2.2.1, trivial⟩
  | .cons _ _ _ _ r, j + 1, t, hp, h => SzF.at (f := r) hp.2.2.2 h

theorem SzF.lens : ∀ {f : F}, SzF f → LenF f
  | .nil, _ => trivial
  | .cons _ _ _ _ _, h => ⟨h.2.1, h.2.2.1.lens, h.2.2.2.lens⟩

theorem chk_cons {f : F} {t : TN} {r : F} (h : f = .cons t.op t.nm t.n t.ks r) : chkF f = if chkF t.f = 0 then chkF r else chkF t.f := by
  rw [h, chkF, chk_tree]
  by_cases h1 : errN t.op t.nm t.n t.ks.len = 0
  · rw [if_pos h1, if_pos h1]
  · rw [if_neg h1, if_neg h1, if_neg h1]

/-- Check's contract at a tree. -/
def ChkOK (t : TN) : Prop := ∀ (G : Nat → Prop) (w : World) (a : Option Addr) (c : Nat), SzF t.f → ReadsN G w a t.ks → Calls Try.prog 20 #[nodeV t.op t.nm t.n a t.ks.len c] w fun e w' => e = .returned (.int .i64 (chkF t.f)) ∧ Below w.heap.size w w'

set_option maxHeartbeats 4000000 in
theorem chk_step (t : TN) (ih : EachF ChkOK t.ks) : ChkOK t := by
  intro G w a c hS hr
  have R := Lib.hid hr
  have IH := Lib.hid ih
  obtain ⟨hn, hm, hL2, -⟩ := hS
  have LK := Lib.hid hL2
  obtain ⟨r, hR⟩ : ∃ r, chkF t.f = r := ⟨_, rfl⟩
  rw [hR]
  rw [chk_tree] at hR
  have NB := Lib.hid (heap_alloc_new w (ndO t.op t.nm t.n a t.ks.len c))
  have B0 := Lib.hid ((Below.refl w.heap.size w).alloc (Nat.le_refl _) (ndO t.op t.nm t.n a t.ks.len c))
  have hE : errN t.op t.nm t.n t.ks.len = if (arity t.op != (t.ks.len : Int)) = true then 2 else if ((t.op.toList == [110, 97, 109, 101]) && !goodB t.nm.data.toList) = true then 5 else if ((t.op.toList == [110, 117, 109]) && decide (t.n < 0)) = true then 1 else 0 := by
    unfold errN isName isNum bNum bName; rw [Lib.toList_data]
  obtain ⟨ar, har⟩ : ∃ ar, arity t.op = ar := ⟨_, rfl⟩
  have KC := Lib.hid (fun V => kids_any t.op V)
  rw [har] at KC hE
  obtain ⟨gd, hgd⟩ : ∃ gd, goodB t.nm.data.toList = gd := ⟨_, rfl⟩
  have NC := Lib.hid (fun V => rName_any t.nm hn V)
  rw [hgd] at NC hE
  clear hr ih hL2 hgd har
  obtain ⟨p, hp⟩ : ∃ p, (t.op.toList == [110, 97, 109, 101]) = p := ⟨_, rfl⟩
  obtain ⟨q, hq⟩ : ∃ q, (t.op.toList == [110, 117, 109]) = q := ⟨_, rfl⟩
  rw [hp, hq] at hE
  by_cases h1 : ar = (t.ks.len : Int)
  · subst h1
    rw [if_neg (by simp)] at hE
    cases p with
    | true =>
      obtain rfl : q = false := by
        rw [← hq, eq_of_beq hp]; rfl
      cases gd with
      | false =>
        have RR := Lib.hid (show (5 : Int) = r by rw [← hR, hE]; rfl)
        clear hR hE
        go_enter Try.func20, Try.ntmps20
        go_wp2_with fail
        generalize w.alloc (ndO t.op t.nm t.n a t.ks.len c) = W at NB B0 ⊢
        obtain ⟨⟨m0, m1, m2, m3⟩, -⟩ := four NB.out
        go_wp2_with (go_quiet ((first | (go_at_call 36; refine (KC.out _).mono ?_; rintro e w1 ⟨he, rfl⟩; exact ⟨he, _, rfl⟩) | fail)))
        have N1 := Lib.hid (show (W.drewN nq).heap[w.heap.size]? = some (ndO t.op t.nm t.n a t.ks.len c) from NB.out)
        have B1 := Lib.hid (below_drewN B0.out nq)
        generalize W.drewN nq = W1 at N1 B1 ⊢
        clear NB B0 m0 m1 m2 m3
        obtain ⟨⟨m0, m1, m2, m3⟩, -⟩ := four N1.out
        go_wp2_with fail
        refine (NC.out _).mono ?_
        rintro e w1 ⟨rfl, rfl⟩
        go_wp2_with fail
        go_ret
        rw [RR.out]
        exact ⟨rfl, B1.out⟩
      | true =>
        have H0 := Lib.hid (show chkF (t.ks.drop 0) = r by rw [F.drop_zero, ← hR, hE]; rfl)
        clear hR hE
        go_enter Try.func20, Try.ntmps20
        go_wp2_with fail
        generalize w.alloc (ndO t.op t.nm t.n a t.ks.len c) = W at NB B0 ⊢
        obtain ⟨⟨m0, m1, m2, m3⟩, -⟩ := four NB.out
        go_wp2_with (go_quiet ((first | (go_at_call 36; refine (KC.out _).mono ?_; rintro e w1 ⟨he, rfl⟩; exact ⟨he, _, rfl⟩) | fail)))
        have N1 := Lib.hid (show (W.drewN nq).heap[w.heap.size]? = some (ndO t.op t.nm t.n a t.ks.len c) from NB.out)
        have B1 := Lib.hid (below_drewN B0.out nq)
        generalize W.drewN nq = W1 at N1 B1 ⊢
        clear NB B0 m0 m1 m2 m3
        obtain ⟨⟨m0, m1, m2, m3⟩, -⟩ := four N1.out
        go_wp2_with fail
        refine (NC.out _).mono ?_
        rintro e w1 ⟨rfl, rfl⟩
        go_wp2_with fail
        go_loopw [3] (fun i wr => ∃ (k : Nat), i = .int .i64 k ∧ k ≤ t.ks.len ∧ Hid (chkF (t.ks.drop k) = r) ∧ Hid (Below w.heap.size w wr) ∧ Hid (wr.heap[w.heap.size]? = some (ndO t.op t.nm t.n a t.ks.len c))) (fun i _ => t.ks.len - (intOf i).toNat)
        case atStart => exact ⟨0, rfl, Nat.zero_le _, H0, B1, N1⟩
        case round =>
          obtain ⟨k, rfl, hk, hE, hB, hN⟩ := hrel
          clear m0 m1 m2 m3
          obtain ⟨⟨m0, m1, m2, m3⟩, -⟩ := four hN.out
          by_cases hlt : k < t.ks.len
          · obtain ⟨t2, hat, hdr⟩ := at_some hlt
            obtain ⟨b, off, a2, c2, ha, hG, hbl, ⟨p0, p1, p2, p3⟩, hr2⟩ := readsN_at (R.out.kept hB.out) hat
            have EN := Lib.hid (show (if chkF t2.f = 0 then chkF (t.ks.drop (k + 1)) else chkF t2.f) = r from (chk_cons hdr).symm.trans hE.out)
            have C := Lib.hid ((EachF.at IH.out hat) G wr a2 c2 (LK.out.at hat) hr2)
            subst ha
            obtain ⟨y, hy⟩ : ∃ y, chkF t2.f = y := ⟨_, rfl⟩
            rw [hy] at C EN
            clear hat hdr hr2 hy
            go_wp2_with fail
            refine C.out.mono ?_
            rintro e w2 ⟨rfl, hb⟩
            have hz := hB.out.size
            have B2 := Lib.hid (hB.out.trans (hb.mono hz))
            have N2 := Lib.hid ((hb.block _ (lt_block hN.out)).trans hN.out)
            clear hb C m0 m1 m2 m3
            by_cases hy : y = 0
            · subst hy
              have EN2 := Lib.hid (EN.out.symm.trans (if_pos rfl)).symm
              clear EN
              go_wp2_with fail
              go_roundw
              case rel => exact ⟨k + 1, by go_num, by omega, EN2, B2, N2⟩
              case measure => simp [intOf]; omega
            · have RR := Lib.hid (show y = r by rw [← EN.out, if_neg hy])
              clear EN
              go_wp2_with fail
              go_ret
              rw [RR.out]
              exact ⟨rfl, B2.out⟩
          · have RR := Lib.hid (show (0 : Int) = r by rw [← hE.out, F.drop_len _ _ (by omega)]; rfl)
            go_wp2_with fail
            go_ret
            rw [RR.out]
            exact ⟨rfl, hB.out⟩
    | false =>
      by_cases h2 : (q && decide (t.n < 0)) = true
      · obtain ⟨rfl, h3⟩ : q = true ∧ t.n < 0 := by simpa using h2
        have RR := Lib.hid (show (1 : Int) = r by rw [← hR, hE, if_neg (show ¬ (false && !gd) = true by simp), if_pos h2, if_neg (by decide)])
        clear hR hE h2
        go_enter Try.func20, Try.ntmps20
        go_wp2_with fail
        generalize w.alloc (ndO t.op t.nm t.n a t.ks.len c) = W at NB B0 ⊢
        obtain ⟨⟨m0, m1, m2, m3⟩, -⟩ := four NB.out
        go_wp2_with (go_quiet ((first | (go_at_call 36; refine (KC.out _).mono ?_; rintro e w1 ⟨he, rfl⟩; exact ⟨he, _, rfl⟩) | fail)))
        have N1 := Lib.hid (show (W.drewN nq).heap[w.heap.size]? = some (ndO t.op t.nm t.n a t.ks.len c) from NB.out)
        have B1 := Lib.hid (below_drewN B0.out nq)
        generalize W.drewN nq = W1 at N1 B1 ⊢
        clear NB B0 m0 m1 m2 m3
        obtain ⟨⟨m0, m1, m2, m3⟩, -⟩ := four N1.out
        go_wp2_with fail
        go_ret
        rw [RR.out]
        exact ⟨rfl, B1.out⟩
      · rw [if_neg (show ¬ (false && !gd) = true by simp), if_neg h2] at hE
        have H0 := Lib.hid (show chkF (t.ks.drop 0) = r by rw [F.drop_zero, ← hR, hE]; rfl)
        cases q with
        | false =>
          clear hR hE h2
          go_enter Try.func20, Try.ntmps20
          go_wp2_with fail
          generalize w.alloc (ndO t.op t.nm t.n a t.ks.len c) = W at NB B0 ⊢
          obtain ⟨⟨m0, m1, m2, m3⟩, -⟩ := four NB.out
          go_wp2_with (go_quiet ((first | (go_at_call 36; refine (KC.out _).mono ?_; rintro e w1 ⟨he, rfl⟩; exact ⟨he, _, rfl⟩) | fail)))
          have N1 := Lib.hid (show (W.drewN nq).heap[w.heap.size]? = some (ndO t.op t.nm t.n a t.ks.len c) from NB.out)
          have B1 := Lib.hid (below_drewN B0.out nq)
          generalize W.drewN nq = W1 at N1 B1 ⊢
          clear NB B0 m0 m1 m2 m3
          obtain ⟨⟨m0, m1, m2, m3⟩, -⟩ := four N1.out
          go_wp2_with fail
          go_loopw [3] (fun i wr => ∃ (k : Nat), i = .int .i64 k ∧ k ≤ t.ks.len ∧ Hid (chkF (t.ks.drop k) = r) ∧ Hid (Below w.heap.size w wr) ∧ Hid (wr.heap[w.heap.size]? = some (ndO t.op t.nm t.n a t.ks.len c))) (fun i _ => t.ks.len - (intOf i).toNat)
          case atStart => exact ⟨0, rfl, Nat.zero_le _, H0, B1, N1⟩
          case round =>
            obtain ⟨k, rfl, hk, hE, hB, hN⟩ := hrel
            clear m0 m1 m2 m3
            obtain ⟨⟨m0, m1, m2, m3⟩, -⟩ := four hN.out
            by_cases hlt : k < t.ks.len
            · obtain ⟨t2, hat, hdr⟩ := at_some hlt
              obtain ⟨b, off, a2, c2, ha, hG, hbl, ⟨p0, p1, p2, p3⟩, hr2⟩ := readsN_at (R.out.kept hB.out) hat
              have EN := Lib.hid (show (if chkF t2.f = 0 then chkF (t.ks.drop (k + 1)) else chkF t2.f) = r from (chk_cons hdr).symm.trans hE.out)
              have C := Lib.hid ((EachF.at IH.out hat) G wr a2 c2 (LK.out.at hat) hr2)
              subst ha
              obtain ⟨y, hy⟩ : ∃ y, chkF t2.f = y := ⟨_, rfl⟩
              rw [hy] at C EN
              clear hat hdr hr2 hy
              go_wp2_with fail
              refine C.out.mono ?_
              rintro e w2 ⟨rfl, hb⟩
              have hz := hB.out.size
              have B2 := Lib.hid (hB.out.trans (hb.mono hz))
              have N2 := Lib.hid ((hb.block _ (lt_block hN.out)).trans hN.out)
              clear hb C m0 m1 m2 m3
              by_cases hy : y = 0
              · subst hy
                have EN2 := Lib.hid (EN.out.symm.trans (if_pos rfl)).symm
                clear EN
                go_wp2_with fail
                go_roundw
                case rel => exact ⟨k + 1, by go_num, by omega, EN2, B2, N2⟩
                case measure => simp [intOf]; omega
              · have RR := Lib.hid (show y = r by rw [← EN.out, if_neg hy])
                clear EN
                go_wp2_with fail
                go_ret
                rw [RR.out]
                exact ⟨rfl, B2.out⟩
            · have RR := Lib.hid (show (0 : Int) = r by rw [← hE.out, F.drop_len _ _ (by omega)]; rfl)
              go_wp2_with fail
              go_ret
              rw [RR.out]
              exact ⟨rfl, hB.out⟩
        | true =>
          have h3 : ¬ t.n < 0 := by simpa using h2
          clear hR hE h2
          go_enter Try.func20, Try.ntmps20
          go_wp2_with fail
          generalize w.alloc (ndO t.op t.nm t.n a t.ks.len c) = W at NB B0 ⊢
          obtain ⟨⟨m0, m1, m2, m3⟩, -⟩ := four NB.out
          go_wp2_with (go_quiet ((first | (go_at_call 36; refine (KC.out _).mono ?_; rintro e w1 ⟨he, rfl⟩; exact ⟨he, _, rfl⟩) | fail)))
          have N1 := Lib.hid (show (W.drewN nq).heap[w.heap.size]? = some (ndO t.op t.nm t.n a t.ks.len c) from NB.out)
          have B1 := Lib.hid (below_drewN B0.out nq)
          generalize W.drewN nq = W1 at N1 B1 ⊢
          clear NB B0 m0 m1 m2 m3
          obtain ⟨⟨m0, m1, m2, m3⟩, -⟩ := four N1.out
          go_wp2_with fail
          go_loopw [3] (fun i wr => ∃ (k : Nat), i = .int .i64 k ∧ k ≤ t.ks.len ∧ Hid (chkF (t.ks.drop k) = r) ∧ Hid (Below w.heap.size w wr) ∧ Hid (wr.heap[w.heap.size]? = some (ndO t.op t.nm t.n a t.ks.len c))) (fun i _ => t.ks.len - (intOf i).toNat)
          case atStart => exact ⟨0, rfl, Nat.zero_le _, H0, B1, N1⟩
          case round =>
            obtain ⟨k, rfl, hk, hE, hB, hN⟩ := hrel
            clear m0 m1 m2 m3
            obtain ⟨⟨m0, m1, m2, m3⟩, -⟩ := four hN.out
            by_cases hlt : k < t.ks.len
            · obtain ⟨t2, hat, hdr⟩ := at_some hlt
              obtain ⟨b, off, a2, c2, ha, hG, hbl, ⟨p0, p1, p2, p3⟩, hr2⟩ := readsN_at (R.out.kept hB.out) hat
              have EN := Lib.hid (show (if chkF t2.f = 0 then chkF (t.ks.drop (k + 1)) else chkF t2.f) = r from (chk_cons hdr).symm.trans hE.out)
              have C := Lib.hid ((EachF.at IH.out hat) G wr a2 c2 (LK.out.at hat) hr2)
              subst ha
              obtain ⟨y, hy⟩ : ∃ y, chkF t2.f = y := ⟨_, rfl⟩
              rw [hy] at C EN
              clear hat hdr hr2 hy
              go_wp2_with fail
              refine C.out.mono ?_
              rintro e w2 ⟨rfl, hb⟩
              have hz := hB.out.size
              have B2 := Lib.hid (hB.out.trans (hb.mono hz))
              have N2 := Lib.hid ((hb.block _ (lt_block hN.out)).trans hN.out)
              clear hb C m0 m1 m2 m3
              by_cases hy : y = 0
              · subst hy
                have EN2 := Lib.hid (EN.out.symm.trans (if_pos rfl)).symm
                clear EN
                go_wp2_with fail
                go_roundw
                case rel => exact ⟨k + 1, by go_num, by omega, EN2, B2, N2⟩
                case measure => simp [intOf]; omega
              · have RR := Lib.hid (show y = r by rw [← EN.out, if_neg hy])
                clear EN
                go_wp2_with fail
                go_ret
                rw [RR.out]
                exact ⟨rfl, B2.out⟩
            · have RR := Lib.hid (show (0 : Int) = r by rw [← hE.out, F.drop_len _ _ (by omega)]; rfl)
              go_wp2_with fail
              go_ret
              rw [RR.out]
              exact ⟨rfl, hB.out⟩
  · have RR := Lib.hid (show (2 : Int) = r by rw [← hR, hE, if_pos (show (ar != (t.ks.len : Int)) = true by simpa using h1), if_neg (by decide)])
    clear hR hE
    go_enter Try.func20, Try.ntmps20
    go_wp2_with fail
    generalize w.alloc (ndO t.op t.nm t.n a t.ks.len c) = W at NB B0 ⊢
    obtain ⟨⟨m0, m1, m2, m3⟩, -⟩ := four NB.out
    go_wp2_with (go_quiet ((first | (go_at_call 36; refine (KC.out _).mono ?_; rintro e w1 ⟨he, rfl⟩; exact ⟨he, _, rfl⟩) | fail)))
    go_ret
    rw [RR.out]
    exact ⟨rfl, below_drewN B0.out _⟩

-- behind check

theorem chk_any (t : TN) : ChkOK t := tree_of chk_step t

set_option maxHeartbeats 4000000 in
theorem rCheck_any {G : Nat → Prop} {w : World} {a : Option Addr} {t : TN} (c : Nat) (hS : SzF t.f) (hr : ReadsN G w a t.ks) : Calls Try.prog 8 #[nodeV t.op t.nm t.n a t.ks.len c] w fun e w' => e = .returned (.int .i64 (checkT t)) ∧ Below w.heap.size w w' := by
  have R := Lib.hid hr
  have C1 := Lib.hid (fun V (hV : Below w.heap.size w V) => cnt_any t G V a c 32 (by decide) (by decide) hS.lens (hr.kept hV))
  have C2 := Lib.hid (fun V (hV : Below w.heap.size w V) => chk_any t G V a c hS (hr.kept hV))
  obtain ⟨r, hR⟩ : ∃ r, checkT t = r := ⟨_, rfl⟩
  rw [hR]
  unfold checkT at hR
  obtain ⟨x, hx⟩ : ∃ x, cntF t.ks 31 = x := ⟨_, rfl⟩
  obtain ⟨y, hy⟩ : ∃ y, chkF t.f = y := ⟨_, rfl⟩
  rw [show (32 : Int) - 1 = 31 from rfl, hx] at C1
  rw [hx, hy] at hR
  rw [hy] at C2
  have B0 := Lib.hid ((Below.refl w.heap.size w).alloc (Nat.le_refl _) (ndO t.op t.nm t.n a t.ks.len c))
  have NB := Lib.hid (heap_alloc_new w (ndO t.op t.nm t.n a t.ks.len c))
  clear hx hy hS hr
  by_cases h : x < 0
  · have RR := Lib.hid (show (4 : Int) = r by rw [← hR, if_pos h])
    clear hR
    go_enter Try.func8, Try.ntmps8
    go_wp2_with fail
    generalize w.alloc (ndO t.op t.nm t.n a t.ks.len c) = W at NB B0 ⊢
    obtain ⟨⟨m0, m1, m2, m3⟩, -⟩ := four NB.out
    go_wp2_with fail
    refine (C1.out W B0.out).mono ?_
    rintro e w1 ⟨rfl, hb⟩
    have B1 := Lib.hid (B0.out.trans (hb.mono B0.out.size))
    clear hb
    go_wp2_with fail
    go_ret
    rw [RR.out]
    exact ⟨rfl, B1.out⟩
  · have RR := Lib.hid (show y = r by rw [← hR, if_neg h])
    clear hR
    go_enter Try.func8, Try.ntmps8
    go_wp2_with fail
    generalize w.alloc (ndO t.op t.nm t.n a t.ks.len c) = W at NB B0 ⊢
    obtain ⟨⟨m0, m1, m2, m3⟩, -⟩ := four NB.out
    go_wp2_with fail
    refine (C1.out W B0.out).mono ?_
    rintro e w1 ⟨rfl, hb⟩
    have B1 := Lib.hid (B0.out.trans (hb.mono B0.out.size))
    have N1 := Lib.hid ((hb.block _ (lt_block NB.out)).trans NB.out)
    clear hb m0 m1 m2 m3
    obtain ⟨⟨m0, m1, m2, m3⟩, -⟩ := four N1.out
    go_wp2_with fail
    refine (C2.out w1 B1.out).mono ?_
    rintro e w2 ⟨rfl, hb⟩
    have B2 := Lib.hid (B1.out.trans (hb.mono B1.out.size))
    clear hb
    go_wp2_with fail
    go_ret
    rw [RR.out]
    exact ⟨rfl, B2.out⟩

end

section
open Go.RowKit

theorem size_drop {f : F} {j : Nat} {t : TN} (h : f.at j = some t) : sizeF (f.drop j) = sizeT t + sizeF (f.drop (j + 1)) := by
  have hlt : j < f.len := by
    rcases Nat.lt_or_ge j f.len with h' | h'
    · exact h'
    · exfalso
      have : ∀ (f : F) (j : Nat), f.len ≤ j → f.at j = none := by
        intro f
        induction f with
        | nil => intro j _; rfl
        | cons o m n k r _ ih => intro j hj; cases j with
          | zero => simp [F.len] at hj
          | succ j => exact ih j (by simp [F.len] at hj; omega)
      rw [this f j h'] at h; cases h
  obtain ⟨t', h1, h2⟩ := F.drop_at f j hlt
  rw [h] at h1
  obtain rfl := Option.some.inj h1
  rw [h2, sizeF]
  rfl

theorem at_lt {f : F} {j : Nat} {t : TN} (h : f.at j = some t) : j < f.len := by
  rcases Nat.lt_or_ge j f.len with h' | h'
  · exact h'
  · exfalso
    have : ∀ (f : F) (j : Nat), f.len ≤ j → f.at j = none := by
      intro f
      induction f with
      | nil => intro j _; rfl
      | cons o m n k r _ ih => intro j hj; cases j with
        | zero => simp [F.len] at hj
        | succ j => exact ih j (by simp [F.len] at hj; omega)
    rw [this f j h'] at h; cases h

theorem size_drop_le : ∀ (f : F) (j : Nat), sizeF (f.drop j) ≤ sizeF f
  | f, 0 => by rw [F.drop_zero]; exact Nat.le_refl _
  | .nil, _ + 1 => Nat.le_refl _
  | .cons o m n k r, j + 1 => by
    have h := size_drop_le r j
    rw [F.drop, sizeF]
    omega

theorem one_cell {w : World} {b : Nat} {v : Value} {t : TypeId} (h : w.heap[b]? = some (.cells #[v] t (0, 0))) : w.cell? ⟨b, 0, none⟩ = some v ∧ w.frozen? ⟨b, 0, none⟩ = false := by
  constructor <;> simp [World.cell?, World.frozen?, h]

theorem one_set {w : World} {b : Nat} {v : Value} {t : TypeId} (h : w.heap[b]? = some (.cells #[v] t (0, 0))) (u : Value) : (w.setCell ⟨b, 0, none⟩ u).heap[b]? = some (.cells #[u] t (0, 0)) := by
  have := heap_setCell_same w b 0 _ t u h
  simpa using this

end

section
open Go.RowKit

theorem infoN : (Try.prog.info? 22).map (fun i => (i.zero, i.size, i.bytes)) = some (some (.slice none 0 0), 1, 24) := by kernel_rfl

set_option maxHeartbeats 4000000 in
set_option maxRecDepth 100000 in
theorem grow_any (n : Nat) (hn : n ≤ 100000) (w : World) : Calls Try.prog 61 #[.slice none 0 0, .int .i64 n] w fun e w' => ∃ v, e = .returned v ∧ w'.ownsRow w.heap.size 24 4 v 0 [] ∧ Below w.heap.size w w' := by
  obtain ⟨i0, hi, hz0, hz1, hz2⟩ := info_parts ndInfo
  have und : Try.prog.underlying 22 = some (.slice 24) := Try.underlying22
  have undi : Try.prog.underlying 3 = some (.int .i64) := Try.underlying3
  by_cases h0 : n = 0
  · subst h0
    have O0 := Lib.hid (World.ownsRow_nil w w.heap.size 24 4)
    go_enter Try.func61, Try.ntmps61
    go_wp2_with fail
    go_ret
    exact ⟨_, rfl, O0.out, Below.refl _ _⟩
  · have h1 : ¬ ((n : Int) < 0) := by omega
    have h4 : (0 : Int) < (n : Int) := by omega
    have hold : (Builtin.firstCells i0.size 0 (.slice none 0 0)).run Try.prog w.drew = .ok #[] w.drew := run_firstCells_none w.drew i0.size 0 0 0
    have hge : n ≤ grownCap w (0 + n) 0 24 := by have := grownCap_ge w (0 + n) 0 24; omega
    have hle : grownCap w (0 + n) 0 24 ≤ maxLen := grownCap_le_maxLen w (0 + n) 0 24 (by unfold maxLen; omega)
    have hrz : ∀ ty, (Builtin.append_ #[22, 3] ty #[.slice none 0 0, .int .i64 n]).run Try.prog w =
        .ok (.slice (some ⟨w.heap.size, 0, none⟩) n (grownCap w (0 + n) 0 24)) (w.drew.alloc (.cells ((#[] : Array Value) ++ Builtin.zeroCells (Value.agg #[.string ⟨#[]⟩, .string ⟨#[]⟩, .int .i64 0, .slice none 0 0]).cells n ++ Builtin.zeroCells (Value.agg #[.string ⟨#[]⟩, .string ⟨#[]⟩, .int .i64 0, .slice none 0 0]).cells (grownCap w (0 + n) 0 24 - (0 + n))) 24)) := fun ty => by
      have h := Lib.run_append_grow_zeros w 22 3 ty 24 i0 _ .i64 .i64 und undi hi hz0 none 0 0 [] hold n (by omega) (by omega) (by omega) (by omega) (by rw [hz2]; omega)
        (growslice_fits (by omega) (by rw [hz2]; omega))
      rw [Nat.zero_add] at h ⊢
      exact h
    obtain ⟨Gc, hG⟩ : ∃ G, grownCap w (0 + n) 0 24 = G := ⟨_, rfl⟩
    rw [hG] at hrz hge hle
    obtain ⟨cur, hcur⟩ : ∃ cur, ((#[] : Array Value) ++ Builtin.zeroCells (Value.agg #[.string ⟨#[]⟩, .string ⟨#[]⟩, .int .i64 0, .slice none 0 0]).cells n ++ Builtin.zeroCells (Value.agg #[.string ⟨#[]⟩, .string ⟨#[]⟩, .int .i64 0, .slice none 0 0]).cells (Gc - (0 + n))) = cur := ⟨_, rfl⟩
    have hsz : cur.size = Gc * 4 := by
      rw [← hcur]
      simp only [Array.size_append, size_zeroCells]
      show 0 + n * 4 + (Gc - (0 + n)) * 4 = Gc * 4
      omega
    rw [hcur] at hrz
    have O1 := Lib.hid (show (w.drew.alloc (.cells cur 24)).ownsRow w.heap.size 24 4 (.slice (some ⟨w.heap.size, 0, none⟩) 0 Gc) 0 [] from
      ⟨rfl, .inr ⟨w.heap.size, Gc, cur, rfl, Nat.le_refl _, heap_alloc_new w.drew _, Nat.zero_le _, hle, hsz, by simp⟩⟩)
    have B1 := Lib.hid (show Below w.heap.size w (w.drew.alloc (.cells cur 24)) from ((Below.refl w.heap.size w.drew).alloc (Nat.le_refl _) _ |> fun b => ⟨b.os, b.tape, b.output, b.size, b.block⟩))
    clear hold hG hcur hsz
    go_enter Try.func61, Try.ntmps61
    go_wp2_with (at_builtin; refine Lib.wpList_append_run _ rfl _ _ _ _ rfl _ _ rfl rfl _ _ (hrz _) ?_)
    go_ret
    exact ⟨_, rfl, O1.out, B1.out⟩

/-- The cells of nodes, in their order. -/
def lstL : List TN → List (Option Addr × Nat) → List Value
  | t :: r, q :: s => ndL t q ++ lstL r s
  | _, _ => []

theorem lstL_len : ∀ {l : List TN} {q : List (Option Addr × Nat)}, q.length = l.length → (lstL l q).length = l.length * 4
  | [], [], _ => rfl
  | [], _ :: _, h => by simp at h
  | _ :: r, _ :: s, h => by rw [lstL, List.length_append, lstL_len (by simpa using h), List.length_cons]; simp [ndL]; omega
  | _ :: _, [], h => by simp at h

theorem lstL_one : ∀ (l : List TN) (q : List (Option Addr × Nat)), ∀ u ∈ lstL l q, u.oneCell' = true
  | [], _, u, h => by rw [lstL] at h; cases h; intro a b c d e; cases e
  | _ :: _, [], u, h => by rw [lstL] at h; cases h; intro a b c d e f; cases f
  | t :: r, q :: s, u, h => by
    rw [lstL] at h
    rcases List.mem_append.1 h with h | h
    · exact ndL_one t q u h
    · exact lstL_one r s u h

theorem lstL_app : ∀ (l m : List TN) (q p : List (Option Addr × Nat)), q.length = l.length → lstL (l ++ m) (q ++ p) = lstL l q ++ lstL m p
  | [], _, [], _, _ => rfl
  | [], _, _ :: _, _, h => by simp at h
  | _ :: r, m, _ :: s, p, h => by rw [List.cons_append, List.cons_append, lstL, lstL, lstL_app r m s p (by simpa using h), List.append_assoc]
  | _ :: _, _, [], _, h => by simp at h

/-- Nodes in memory from an address on. -/
structure ResL (G : Nat → Prop) (w : World) (t : TN) (v : Value) : Prop where
  h : ∃ b off c qs, v = .slice (some ⟨b, off, none⟩) (preF t.f).length c ∧ G b ∧ b < w.heap.size ∧ qs.length = (preF t.f).length ∧ ∀ j u, (lstL (preF t.f) qs)[j]? = some u → w.cell? ⟨b, off + j, none⟩ = some u

theorem resL_imp {G H : Nat → Prop} {w : World} {t : TN} {v : Value} (h : ResL G w t v) (hG : ∀ b, b < w.heap.size → G b → H b) : ResL H w t v := by
  obtain ⟨b, off, c, qs, h1, h2, h3, h4⟩ := h.h
  exact ⟨b, off, c, qs, h1, hG b h3 h2, h3, h4⟩

theorem resL_keptS {S G : Nat → Prop} {w w' : World} {t : TN} {v : Value} (h : ResL G w t v) (hk : Kept S w w') (hS : ∀ k, S k → ¬ G k) : ResL G w' t v := by
  obtain ⟨b, off, c, qs, h1, h2, h3, h4, h5⟩ := h.h
  exact ⟨b, off, c, qs, h1, h2, Nat.lt_of_lt_of_le h3 hk.size, h4, fun j u hj => hk.cell (h5 j u hj) (fun hs => hS b hs h2)⟩

theorem shapeL {G : Nat → Prop} {w : World} {t : TN} {v : Value} (h : ResL G w t v) : ∃ za zn zc, v = .slice za zn zc := by
  obtain ⟨b, off, c, qs, h1, _⟩ := h.h
  exact ⟨_, _, _, h1⟩

theorem oneL {G : Nat → Prop} {w : World} {t : TN} {v : Value} (h : ResL G w t v) : v.oneCell' = true := by
  obtain ⟨b, off, c, qs, h1, _⟩ := h.h
  rw [h1]; rfl

theorem pre_cons (t : TN) (r : F) : preF (.cons t.op t.nm t.n t.ks r) = preF t.f ++ preF r := by
  rw [TN.f, preF, preF]
  simp [preF]

set_option maxHeartbeats 8000000 in
set_option maxRecDepth 100000 in
theorem concat_any (ks : F) (va : Option Addr) (vc : Nat) (vs : List Value) (base : Nat) (w : World) (ho : w.ownsRow base 22 1 (.slice va ks.len vc) ks.len vs) (hs : sizeF ks ≤ 1000) {G : Nat → Prop}
    (hv : ∀ j t2, ks.at j = some t2 → ∃ v, vs[j]? = some v ∧ ResL G w t2 v) :
    Calls Try.prog 48 #[.slice va ks.len vc] w fun e w' => ∃ v qs, e = .returned v ∧ qs.length = (preF ks).length ∧ w'.ownsRow w.heap.size 24 4 v (preF ks).length (lstL (preF ks) qs) ∧ Below w.heap.size w w' := by
  obtain ⟨i0, hi, hz0, hz1, hz2⟩ := info_parts ndInfo
  have und : Try.prog.underlying 22 = some (.slice 24) := Try.underlying22
  have hlen := len_size ks
  have hpl := pre_len ks
  have HO := Lib.hid ho
  have HV := Lib.hid hv
  have hbase : ∀ k, k < ks.len → va ≠ none := fun k hk e => by
    rcases ho.2 with ⟨h1, h2⟩ | ⟨g, cap, cur, h1, _⟩
    · omega
    · rw [e] at h1; cases h1
  have HBN := Lib.hid hbase
  have CELL := Lib.hid (p := ∀ k v, k < ks.len → vs[k]? = some v → ∃ g, va = some ⟨g, 0, none⟩ ∧ g < w.heap.size ∧ w.cell? ⟨g, k, none⟩ = some v) (fun k v hk hv => by
    obtain ⟨g, c', h1, _, _, h4⟩ := own_full ho (by omega)
    simp only [Value.slice.injEq, true_and] at h1
    exact ⟨g, h1.1, (ho.lt g (by rw [h1.1]; rfl)).2, h4 k v hv⟩)
  clear ho hv hbase
  go_enter Try.func48, Try.ntmps48
  go_wp2_with fail
  go_loop [3, 11] (fun s i => ∃ (x k : Nat), s = .int .i64 x ∧ i = .int .i64 k ∧ k ≤ ks.len ∧ Hid (x + (preF (ks.drop k)).length = (preF ks).length)) (fun _ i => ks.len - (intOf i).toNat)
  case atStart => exact ⟨0, 0, rfl, rfl, Nat.zero_le _, Lib.hid (by rw [F.drop_zero, Nat.zero_add])⟩
  case round =>
    obtain ⟨x, k, rfl, rfl, hk, hx⟩ := hrel
    have hx9 : x ≤ 1000 := by have := hx.out; omega
    by_cases hlt : k < ks.len
    · obtain ⟨t2, hat, hdr⟩ := at_some hlt
      obtain ⟨v, hvj, hvr⟩ := HV.out k t2 hat
      obtain ⟨b, off, c, qs, rfl, hG, hbl, hq, hc⟩ := hvr.h
      obtain ⟨g, rfl, hg, hcell⟩ := CELL.out k _ hlt hvj
      obtain ⟨m, hm⟩ : ∃ m, (preF t2.f).length = m := ⟨_, rfl⟩
      rw [hm] at hcell
      have X2 := Lib.hid (show (x + m) + (preF (ks.drop (k + 1))).length = (preF ks).length by have := hx.out; rw [hdr, pre_cons, List.length_append, hm] at this; omega)
      have hxm : x + m ≤ 1000 := by have := X2.out; omega
      have a1 : ¬ ((x : Int) + (m : Int) < 0) := by omega
      clear hat hdr hvj hvr hc hm
      go_wp2_with fail
      go_round
      case rel => exact ⟨x + m, k + 1, by go_num, by go_num, by omega, X2⟩
      case measure => simp [intOf]; omega
    · obtain rfl : k = ks.len := by omega
      have hx2 := Lib.hid (show x = (preF ks).length by have := hx.out; rw [F.drop_len _ _ (Nat.le_refl _)] at this; simpa [preF] using this)
      have CG := Lib.hid (grow_any x (by omega) w)
      clear hx
      go_wp2_with fail
      refine CG.out.mono ?_
      rintro e w1 ⟨v0, rfl, ho0, hb0⟩
      obtain ⟨a0, c0, rfl⟩ := own_rowG ho0
      have O0 := Lib.hid ho0
      have B0 := Lib.hid hb0
      clear ho0 hb0 CG
      go_wp2_with fail
      go_loopw [6, 27] (fun s i wr => ∃ (k : Nat) (xa : Option Addr) (xc : Nat) (done : List TN) (qs : List (Option Addr × Nat)), s = .slice xa done.length xc ∧ i = .int .i64 k ∧ k ≤ ks.len ∧ Hid (preF ks = done ++ preF (ks.drop k)) ∧ Hid (qs.length = done.length) ∧ Hid (wr.ownsRow w.heap.size 24 4 (.slice xa done.length xc) done.length (lstL done qs)) ∧ Hid (Below w.heap.size w wr)) (fun _ i _ => ks.len - (intOf i).toNat)
      case atStart => exact ⟨0, a0, c0, [], [], rfl, rfl, Nat.zero_le _, Lib.hid (by rw [F.drop_zero]; rfl), Lib.hid rfl, O0, B0⟩
      case round =>
        obtain ⟨k, xa, xc, done, qs, rfl, rfl, hk2, hD, hQ, hO, hB⟩ := hrel
        by_cases hlt2 : k < ks.len
        · obtain ⟨t2, hat, hdr⟩ := at_some hlt2
          obtain ⟨v, hvj, hvr⟩ := HV.out k t2 hat
          obtain ⟨b, off, c, qs2, rfl, hG, hbl, hq, hc⟩ := hvr.h
          obtain ⟨g, rfl, hg, hcell⟩ := CELL.out k _ hlt2 hvj
          have hz := hB.out.size
          have hcell2 := (hB.out.cell (p := ⟨g, k, none⟩) hg).trans hcell
          have C2 := Lib.hid (p := ∀ j u, (lstL (preF t2.f) qs2)[j]? = some u → wr.cell? ((⟨b, off, none⟩ : Addr).add j) = some u) (fun j u hj => by
            rw [Addr.add_lit]
            exact (hB.out.cell (p := ⟨b, off + j, none⟩) hbl).trans (hc j u hj))
          have hq2 := Lib.hid (lstL_len hq)
          have HQ2 := Lib.hid hq
          have HH := Lib.hid (show preF ks = (done ++ preF t2.f) ++ preF (ks.drop (k + 1)) by rw [hD.out, hdr, pre_cons, List.append_assoc])
          have hb1 : done.length + (preF t2.f).length ≤ 1000 := by
            have := congrArg List.length HH.out
            simp only [List.length_append] at this
            omega
          clear hat hdr hvj hvr hc hcell hq
          go_wp2_with (at_builtin; refine wpList_append_new rfl _ _ 22 rfl und hi hz0 hz1 hz2 rfl (by decide) (.slice xa done.length xc) done.length (preF t2.f).length c ⟨b, off, none⟩ (lstL done qs) (lstL (preF t2.f) qs2) rfl rfl hO.out hq2.out C2.out (lstL_one _ _) (by unfold maxLen; omega) (by omega) hz ?_)
          intro v3 w3 ho hgr _
          obtain ⟨xa3, xc3, rfl⟩ := own_rowG ho
          have e1 : done.length + (preF t2.f).length = (done ++ preF t2.f).length := by rw [List.length_append]
          rw [e1, ← lstL_app _ _ _ _ hQ.out] at ho
          have O3 := Lib.hid ho
          have B3 := Lib.hid (hB.out.grown hgr hz (fun q hq => (hO.out.lt q hq).1))
          have Q3 := Lib.hid (show (qs ++ qs2).length = (done ++ preF t2.f).length by rw [List.length_append, List.length_append, hQ.out, HQ2.out])
          rw [e1]
          clear ho hgr e1
          go_wp2_with fail
          go_roundw
          case rel => exact ⟨k + 1, xa3, xc3, done ++ preF t2.f, qs ++ qs2, rfl, by go_num, by omega, HH, Q3, O3, B3⟩
          case measure => simp [intOf]; omega
        · obtain rfl : k = ks.len := by omega
          have hd : preF ks = done := by have := hD.out; rw [F.drop_len _ _ (Nat.le_refl _)] at this; simpa [preF] using this
          have P := Lib.hid (show qs.length = (preF ks).length ∧ wr.ownsRow w.heap.size 24 4 (.slice xa done.length xc) (preF ks).length (lstL (preF ks) qs) by rw [hd]; exact ⟨hQ.out, hO.out⟩)
          clear hd
          go_wp2_with fail
          go_ret
          exact ⟨_, qs, rfl, P.out.1, P.out.2, hB.out⟩

end

end Go.Proofs.Ytcmcnmmhkpolcaa
