/-
  No statement: plain lemmas on rising lists of keys, by whatever strict order: a key's place, what is found there, what stays rising.
-/
import Derived.Shelf.Spec.SearchS
namespace Go.Proofs.Ytpdobbdbmgeoiaa

/-- A strict order that is told by a Bool. -/
structure Strict {K : Type} (less : K → K → Bool) : Prop where
  irrefl : ∀ a, less a a = false
  trans : ∀ a b c, less a b = true → less b c = true → less a c = true
  total : ∀ a b, less a b = false → less b a = false → a = b

section
variable {K : Type} {less : K → K → Bool}

/-- How many keys of a row's front are below x: its place. -/
def pos (less : K → K → Bool) (ks : List K) (x : K) : Nat := (ks.takeWhile (fun k => less k x)).length

def Rising (less : K → K → Bool) (ks : List K) : Prop := ks.Pairwise (fun a b => less a b = true)

theorem Strict.asymm (o : Strict less) {a b : K} (h : less a b = true) : less b a = false := by
  cases hb : less b a with
  | false => rfl
  | true => have := o.trans a b a h hb; rw [o.irrefl] at this; cases this

theorem pos_le (ks : List K) (x : K) : pos less ks x ≤ ks.length := (List.takeWhile_sublist _).length_le

theorem pos_cons (k : K) (r : List K) (x : K) : pos less (k :: r) x = if less k x = true then pos less r x + 1 else 0 := by
  unfold pos
  rw [List.takeWhile_cons]
  split <;> simp_all

theorem pos_before : ∀ (ks : List K) (x : K) (t : Nat) (k : K), t < pos less ks x → ks[t]? = some k → less k x = true
  | [], x, t, k, h, hk => by simp at hk
  | a :: r, x, t, k, h, hk => by
    rw [pos_cons] at h
    by_cases ha : less a x = true
    · rw [if_pos ha] at h
      cases t with
      | zero => simp at hk; rw [← hk]; exact ha
      | succ t => exact pos_before r x t k (by omega) (by simpa using hk)
    · rw [if_neg ha] at h; omega

theorem pos_at : ∀ (ks : List K) (x : K) (k : K), ks[pos less ks x]? = some k → less k x = false
  | [], x, k, hk => by simp [pos] at hk
  | a :: r, x, k, hk => by
    rw [pos_cons] at hk
    by_cases ha : less a x = true
    · rw [if_pos ha] at hk
      exact pos_at r x k (by simpa using hk)
    · rw [if_neg ha] at hk
      simp at hk
      rw [← hk]; simpa using ha

theorem rising_at {ks : List K} (h : Rising less ks) {i j : Nat} {a b : K} (hij : i < j) (ha : ks[i]? = some a) (hb : ks[j]? = some b) : less a b = true := by
  obtain ⟨hi, rfl⟩ := List.getElem?_eq_some_iff.1 ha
  obtain ⟨hj, rfl⟩ := List.getElem?_eq_some_iff.1 hb
  exact List.pairwise_iff_getElem.1 h i j hi hj hij

theorem pos_after (o : Strict less) {ks : List K} (h : Rising less ks) {x : K} {t : Nat} {k : K} (ht : pos less ks x ≤ t) (hk : ks[t]? = some k) : less k x = false := by
  obtain ⟨hlt, _⟩ := List.getElem?_eq_some_iff.1 hk
  have hp : pos less ks x < ks.length := by omega
  have h0 : ks[pos less ks x]? = some (ks[pos less ks x]) := List.getElem?_eq_getElem hp
  have h1 := pos_at ks x _ h0
  generalize ks[pos less ks x] = y at h0 h1
  rcases Nat.lt_or_ge (pos less ks x) t with hlt' | hge
  · have h2 := rising_at h hlt' h0 hk
    cases hb : less k x with
    | false => rfl
    | true => have := o.trans _ _ _ h2 hb; rw [h1] at this; cases this
  · have : pos less ks x = t := by omega
    rw [this] at h0
    rw [h0] at hk
    cases hk
    exact h1

theorem pos_unique {ks : List K} {x : K} {p : Nat} (hp : p ≤ ks.length) (h1 : ∀ t k, t < p → ks[t]? = some k → less k x = true) (h2 : ∀ k, ks[p]? = some k → less k x = false) : pos less ks x = p := by
  rcases Nat.lt_trichotomy (pos less ks x) p with hlt | heq | hgt
  · have hk : ks[pos less ks x]? = some (ks[pos less ks x]'(by omega)) := List.getElem?_eq_getElem (by omega)
    have := h1 _ _ hlt hk
    rw [pos_at ks x _ hk] at this; cases this
  · exact heq
  · have hl := pos_le (less := less) ks x
    have hk : ks[p]? = some (ks[p]'(by omega)) := List.getElem?_eq_getElem (by omega)
    have := pos_before ks x p _ hgt hk
    rw [h2 _ hk] at this; cases this

theorem pos_of_at (o : Strict less) {ks : List K} (h : Rising less ks) {i : Nat} {k : K} (hk : ks[i]? = some k) : pos less ks k = i :=
  pos_unique (Nat.le_of_lt (List.getElem?_eq_some_iff.1 hk).1) (fun _ _ ht hkt => rising_at h ht hkt hk) (fun k' hkk => by rw [hk] at hkk; cases hkk; exact o.irrefl _)

theorem mem_iff_pos (o : Strict less) {ks : List K} (h : Rising less ks) {x : K} : x ∈ ks ↔ ks[pos less ks x]? = some x := by
  constructor
  · intro hm
    obtain ⟨i, hi, rfl⟩ := List.mem_iff_getElem.1 hm
    have hk : ks[i]? = some ks[i] := List.getElem?_eq_getElem hi
    have : pos less ks ks[i] = i := pos_unique (Nat.le_of_lt hi) (fun t k ht hkt => rising_at h ht hkt hk) (fun k hkk => by rw [hk] at hkk; cases hkk; exact o.irrefl _)
    rw [this]; exact hk
  · intro hk
    exact List.mem_of_getElem? hk

/-- Whether a key is there, as a Bool. -/
def has [DecidableEq K] (ks : List K) (x : K) : Bool := ks.any (fun k => decide (k = x))

theorem has_iff [DecidableEq K] (ks : List K) (x : K) : has ks x = true ↔ x ∈ ks := by simp [has]

theorem has_no [DecidableEq K] {ks : List K} {x : K} (h : x ∉ ks) : has ks x = false := by
  cases hb : has ks x with
  | false => rfl
  | true => exact absurd ((has_iff ks x).1 hb) h

/-- Whether the key is there, as the search tells it. -/
theorem found_iff [DecidableEq K] (o : Strict less) {ks : List K} (h : Rising less ks) {x y : K} {p : Nat} (hp : pos less ks x = p) (hy : ks[p]? = some y) : has ks x = decide (y = x) := by
  subst hp
  by_cases hxy : y = x
  · subst hxy
    rw [(has_iff _ _).2 ((mem_iff_pos o h).2 hy)]; simp
  · have : x ∉ ks := fun hm => hxy (by have := (mem_iff_pos o h).1 hm; rw [hy] at this; exact Option.some.inj this)
    rw [has_no this]; simp [hxy]

theorem found_none [DecidableEq K] (o : Strict less) {ks : List K} (h : Rising less ks) {x : K} {p : Nat} (hp : pos less ks x = p) (hl : ks.length ≤ p) : has ks x = false := by
  subst hp
  have : x ∉ ks := fun hm => by
    have := (mem_iff_pos o h).1 hm
    rw [List.getElem?_eq_none hl] at this; cases this
  exact has_no this

/-- The library's search finds the place. -/
theorem search_pos (o : Strict less) {ks : List K} (h : Rising less ks) (x : K) :
    Lib.bsGo (fun t => less (ks.getD t x) x) ks.length 0 ks.length = pos less ks x := by
  refine Lib.bsGo_spec _ _ (fun t ht => ?_) (fun t ht => ?_) _ _ _ (by omega) (Nat.zero_le _) (pos_le _ _)
  · have hl := pos_le (less := less) ks x
    have hk : ks[t]? = some (ks[t]'(by omega)) := List.getElem?_eq_getElem (by omega)
    show less (ks.getD t x) x = true
    rw [List.getD_eq_getElem?_getD, hk]
    exact pos_before ks x t _ ht hk
  · show less (ks.getD t x) x = false
    rw [List.getD_eq_getElem?_getD]
    cases hk : ks[t]? with
    | none => exact o.irrefl x
    | some k => exact pos_after o h ht hk

theorem rising_insert (o : Strict less) {ks : List K} (h : Rising less ks) {x : K} (hx : x ∉ ks) : Rising less (ks.take (pos less ks x) ++ x :: ks.drop (pos less ks x)) := by
  unfold Rising at *
  rw [List.pairwise_append, List.pairwise_cons]
  refine ⟨h.take, ⟨fun a ha => ?_, h.drop⟩, fun a ha b hb => ?_⟩
  · obtain ⟨i, hi⟩ := List.mem_iff_getElem?.1 ha
    rw [List.getElem?_drop] at hi
    have := pos_after o h (x := x) (by omega) hi
    cases hb : less x a with
    | true => rfl
    | false => have e := o.total _ _ this hb; rw [e] at hi; exact absurd (List.mem_of_getElem? hi) hx
  · obtain ⟨i, hi⟩ := List.mem_iff_getElem?.1 ha
    rw [List.getElem?_take] at hi
    split at hi
    · rename_i hip
      have h1 := pos_before ks x i a hip hi
      rcases List.mem_cons.1 hb with rfl | hb
      · exact h1
      · obtain ⟨j, hj⟩ := List.mem_iff_getElem?.1 hb
        rw [List.getElem?_drop] at hj
        exact rising_at h (by omega) hi hj
    · cases hi

theorem rising_erase {ks : List K} (h : Rising less ks) (i : Nat) : Rising less (ks.eraseIdx i) := List.Pairwise.sublist (List.eraseIdx_sublist ks i) h

variable [DecidableEq K]

/-- What Put makes of the keys, and of the values. -/
def putK (less : K → K → Bool) (ks : List K) (x : K) : List K := if has ks x = true then ks else ks.take (pos less ks x) ++ x :: ks.drop (pos less ks x)
def putV {V : Type} (less : K → K → Bool) (ks : List K) (vs : List V) (x : K) (v : V) : List V := if has ks x = true then vs.set (pos less ks x) v else vs.take (pos less ks x) ++ v :: vs.drop (pos less ks x)
/-- What Drop makes of them. -/
def dropK (less : K → K → Bool) (ks : List K) (x : K) : List K := if has ks x = true then ks.eraseIdx (pos less ks x) else ks
def dropV {V : Type} (less : K → K → Bool) (ks : List K) (vs : List V) (x : K) : List V := if has ks x = true then vs.eraseIdx (pos less ks x) else vs
/-- What Floor finds, if anything. -/
def belowK (less : K → K → Bool) (ks : List K) (x : K) : Option K := if has ks x = true then some x else if pos less ks x = 0 then Option.none else ks[pos less ks x - 1]?

theorem rising_putK (o : Strict less) {ks : List K} (hr : Rising less ks) (x : K) : Rising less (putK less ks x) := by
  unfold putK
  split
  · exact hr
  · rename_i hb
    exact rising_insert o hr (fun hm => hb ((has_iff ks x).2 hm))

theorem rising_dropK {ks : List K} (hr : Rising less ks) (x : K) : Rising less (dropK less ks x) := by
  unfold dropK
  split
  · exact rising_erase hr _
  · exact hr

theorem length_putK (ks : List K) (x : K) : (putK less ks x).length = if has ks x = true then ks.length else ks.length + 1 := by
  unfold putK
  have := pos_le (less := less) ks x
  split
  · rfl
  · simp only [List.length_append, List.length_take, List.length_cons, List.length_drop]
    omega

theorem length_putK_le (ks : List K) (x : K) : (putK less ks x).length ≤ ks.length + 1 := by
  rw [length_putK]; split <;> omega

theorem length_dropK_le (ks : List K) (x : K) : (dropK less ks x).length ≤ ks.length := by
  unfold dropK
  split
  · exact (List.eraseIdx_sublist ks _).length_le
  · exact Nat.le_refl _

theorem mem_putK (ks : List K) (x y : K) : y ∈ putK less ks x ↔ y ∈ ks ∨ y = x := by
  unfold putK
  split
  · rename_i hb
    have hx := (has_iff ks x).1 hb
    exact ⟨Or.inl, fun h => h.elim id (fun e => e ▸ hx)⟩
  · have e : y ∈ ks ↔ y ∈ ks.take (pos less ks x) ∨ y ∈ ks.drop (pos less ks x) := by
      rw [← List.mem_append, List.take_append_drop]
    rw [List.mem_append, List.mem_cons, e]
    constructor
    · rintro (h | h | h)
      · exact Or.inl (Or.inl h)
      · exact Or.inr h
      · exact Or.inl (Or.inr h)
    · rintro ((h | h) | h)
      · exact Or.inl h
      · exact Or.inr (Or.inr h)
      · exact Or.inr (Or.inl h)

omit [DecidableEq K] in
theorem rising_nodup (o : Strict less) {ks : List K} (hr : Rising less ks) : ks.Nodup := by
  refine List.Pairwise.imp (fun {a b} h e => ?_) hr
  subst e
  rw [o.irrefl] at h
  cases h

theorem mem_dropK (o : Strict less) {ks : List K} (hr : Rising less ks) (x y : K) : y ∈ dropK less ks x ↔ y ∈ ks ∧ y ≠ x := by
  unfold dropK
  split
  · rename_i hb
    have hx := (mem_iff_pos o hr).1 ((has_iff ks x).1 hb)
    rw [List.mem_eraseIdx_iff_getElem?]
    constructor
    · rintro ⟨i, hne, hi⟩
      refine ⟨List.mem_of_getElem? hi, fun e => ?_⟩
      subst e
      rcases Nat.lt_trichotomy i (pos less ks y) with h | h | h
      · have := rising_at hr h hi hx; rw [o.irrefl] at this; cases this
      · exact hne h
      · have := rising_at hr h hx hi; rw [o.irrefl] at this; cases this
    · rintro ⟨hm, hne⟩
      obtain ⟨i, hi⟩ := List.mem_iff_getElem?.1 hm
      exact ⟨i, fun e => by subst e; rw [hx] at hi; exact hne (Option.some.inj hi).symm, hi⟩
  · rename_i hb
    constructor
    · intro h
      exact ⟨h, fun e => hb ((has_iff ks x).2 (e ▸ h))⟩
    · exact fun h => h.1

theorem pos_putK (o : Strict less) (ks : List K) (x : K) : pos less (putK less ks x) x = pos less ks x := by
  unfold putK
  split
  · rfl
  · have hl := pos_le (less := less) ks x
    have hlt : (ks.take (pos less ks x)).length = pos less ks x := by rw [List.length_take]; omega
    refine pos_unique (by simp [List.length_take]; omega) (fun t k ht hk => ?_) (fun k hk => ?_)
    · rw [List.getElem?_append_left (by omega), List.getElem?_take, if_pos ht] at hk
      exact pos_before ks x t k ht hk
    · rw [List.getElem?_append_right (by omega), hlt, Nat.sub_self] at hk
      simp at hk
      subst hk
      exact o.irrefl _

omit [DecidableEq K] in
/-- Two rising rows of the same keys are one. -/
theorem rising_ext (o : Strict less) : ∀ {a b : List K}, Rising less a → Rising less b → (∀ x, x ∈ a ↔ x ∈ b) → a = b
  | [], [], _, _, _ => rfl
  | [], y :: _, _, _, h => by have := (h y).2 (List.Mem.head _); cases this
  | x :: _, [], _, _, h => by have := (h x).1 (List.Mem.head _); cases this
  | x :: r, y :: s, ha, hb, h => by
    obtain ⟨ha1, ha2⟩ := List.pairwise_cons.1 ha
    obtain ⟨hb1, hb2⟩ := List.pairwise_cons.1 hb
    have hxy : x = y := by
      rcases List.mem_cons.1 ((h x).1 (List.Mem.head _)) with e | e
      · exact e
      · rcases List.mem_cons.1 ((h y).2 (List.Mem.head _)) with e' | e'
        · exact e'.symm
        · have h1 := hb1 x e
          have h2 := ha1 y e'
          rw [o.asymm h1] at h2; cases h2
    subst hxy
    congr 1
    refine rising_ext o ha2 hb2 (fun z => ⟨fun hz => ?_, fun hz => ?_⟩)
    · rcases List.mem_cons.1 ((h z).1 (List.Mem.tail _ hz)) with e | e
      · subst e; have := ha1 z hz; rw [o.irrefl] at this; cases this
      · exact e
    · rcases List.mem_cons.1 ((h z).2 (List.Mem.tail _ hz)) with e | e
      · subst e; have := hb1 z hz; rw [o.irrefl] at this; cases this
      · exact e

theorem putV_at {V : Type} (o : Strict less) {ks : List K} (hr : Rising less ks) {vs : List V} (hl : vs.length = ks.length) (x : K) (v : V) : (putV less ks vs x v)[pos less ks x]? = some v := by
  have hp := pos_le (less := less) ks x
  unfold putV
  split
  · rename_i hb
    have hx := (List.getElem?_eq_some_iff.1 ((mem_iff_pos o hr).1 ((has_iff ks x).1 hb))).1
    rw [List.getElem?_set_self (by omega)]
  · have hlt : (vs.take (pos less ks x)).length = pos less ks x := by rw [List.length_take]; omega
    rw [List.getElem?_append_right (by omega), hlt, Nat.sub_self]
    rfl

/-- Where a value is told by its key, Put keeps it so. -/
theorem putV_map {V : Type} (o : Strict less) (f : K → V) {ks : List K} (hr : Rising less ks) (x : K) : putV less ks (ks.map f) x (f x) = (putK less ks x).map f := by
  unfold putV putK
  split
  · rename_i hb
    have hx := (mem_iff_pos o hr).1 ((has_iff ks x).1 hb)
    obtain ⟨h1, h2⟩ := List.getElem?_eq_some_iff.1 hx
    have : (ks.map f).set (pos less ks x) (f x) = (ks.set (pos less ks x) x).map f := by rw [List.map_set]
    rw [this]
    congr 1
    calc ks.set (pos less ks x) x = ks.set (pos less ks x) ks[pos less ks x] := by rw [h2]
      _ = ks := List.set_getElem_self h1
  · simp [List.map_take, List.map_drop]

end

/-- The order of texts, byte by byte. -/
def lsS (a b : ByteArray) : Bool := Op.bytesLess a.toList b.toList
/-- The order of numbers. -/
def lsL (a b : Int) : Bool := decide (a < b)

theorem strictL : Strict lsL where
  irrefl a := by simp [lsL]
  trans a b c h1 h2 := by simp [lsL] at *; omega
  total a b h1 h2 := by simp [lsL] at *; omega

theorem bytesLess_irrefl : ∀ l : List UInt8, Op.bytesLess l l = false
  | [] => rfl
  | a :: r => by simp [Op.bytesLess, bytesLess_irrefl r]

theorem bytesLess_cons (a b : UInt8) (x y : List UInt8) : Op.bytesLess (a :: x) (b :: y) = true ↔ a.toNat < b.toNat ∨ (a.toNat = b.toNat ∧ Op.bytesLess x y = true) := by
  rw [Op.bytesLess]
  simp only [Bool.or_eq_true, Bool.and_eq_true, decide_eq_true_eq, beq_iff_eq, UInt8.lt_iff_toNat_lt, UInt8.toNat_inj]

theorem bytesLess_trans : ∀ a b c : List UInt8, Op.bytesLess a b = true → Op.bytesLess b c = true → Op.bytesLess a c = true
  | _, [], _, h, _ => by simp [Op.bytesLess] at h
  | _, _ :: _, [], _, h => by simp [Op.bytesLess] at h
  | [], _ :: _, _ :: _, _, _ => by simp [Op.bytesLess]
  | a :: x, b :: y, c :: z, h1, h2 => by
    rw [bytesLess_cons] at *
    rcases h1 with h1 | ⟨h1, h1'⟩ <;> rcases h2 with h2 | ⟨h2, h2'⟩
    · exact Or.inl (by omega)
    · exact Or.inl (by omega)
    · exact Or.inl (by omega)
    · exact Or.inr ⟨by omega, bytesLess_trans x y z h1' h2'⟩

theorem bytesLess_total : ∀ a b : List UInt8, Op.bytesLess a b = false → Op.bytesLess b a = false → a = b
  | [], [], _, _ => rfl
  | [], _ :: _, h, _ => by simp [Op.bytesLess] at h
  | _ :: _, [], _, h => by simp [Op.bytesLess] at h
  | a :: x, b :: y, h1, h2 => by
    have n1 := mt (bytesLess_cons a b x y).2 (by rw [h1]; simp)
    have n2 := mt (bytesLess_cons b a y x).2 (by rw [h2]; simp)
    simp only [not_or, not_and, Bool.not_eq_true] at n1 n2
    have e : a.toNat = b.toNat := by omega
    have := bytesLess_total x y (n1.2 e) (n2.2 e.symm)
    rw [this, UInt8.toNat_inj.1 e]

theorem bytes_eq {a b : ByteArray} (h : a.toList = b.toList) : a = b := by
  rw [Lib.toList_data, Lib.toList_data] at h
  cases a with
  | mk ad => cases b with
    | mk bd => exact congrArg ByteArray.mk (Array.toList_inj.1 h)

theorem strictS : Strict lsS where
  irrefl _ := bytesLess_irrefl _
  trans _ _ _ h1 h2 := bytesLess_trans _ _ _ h1 h2
  total _ _ h1 h2 := bytes_eq (bytesLess_total _ _ h1 h2)

end Go.Proofs.Ytpdobbdbmgeoiaa
