/-
  No statement: plain facts on tables, two of them.
-/
import Derived.Test.YtikifgenfpkidaaSCmp
import Derived.Test.YtikifgenfpkidaaTbM1
import Derived.Test.YtikifgenfpkidaaTbKnown
set_option linter.unusedVariables false
set_option linter.unusedSimpArgs false

namespace Go.Proofs.Ytikifgenfpkidaa
open Go.RowKit

theorem cmpI_turn (a b : Int) : cmpI b a = -(cmpI a b) := by unfold cmpI; omega
theorem cmpS_turn (a b : ByteArray) : cmpS b a = -(cmpS a b) := by
  unfold cmpS
  cases h : Op.bytesLess a.toList b.toList with
  | true =>
    cases k : Op.bytesLess b.toList a.toList with
    | true => have := bytesLess_trans _ _ _ h k; rw [bytesLess_irrefl] at this; cases this
    | false => rfl
  | false =>
    cases k : Op.bytesLess b.toList a.toList with
    | true => rfl
    | false => rfl
theorem cmpSt_turn (t1 i1 q1 : Int) (o1 : ByteArray) (t2 i2 q2 : Int) (o2 : ByteArray) : cmpSt t2 i2 q2 o2 t1 i1 q1 o1 = -(cmpSt t1 i1 q1 o1 t2 i2 q2 o2) := by
  unfold cmpSt orI
  rw [cmpI_turn t1 t2, cmpI_turn i1 i2, cmpI_turn q1 q2, cmpS_turn o1 o2]
  split <;> split <;> (try split) <;> (try split) <;> (try split) <;> (try split) <;> omega
theorem cmpI_zero {a b : Int} : cmpI a b = 0 ↔ a = b := by unfold cmpI; omega
theorem cmpS_zero {a b : ByteArray} : cmpS a b = 0 ↔ a = b := by
  refine ⟨fun h => ?_, fun h => by subst h; exact cmpS_self a⟩
  unfold cmpS at h
  cases h1 : Op.bytesLess a.toList b.toList with
  | true => rw [h1] at h; simp at h
  | false =>
    cases h2 : Op.bytesLess b.toList a.toList with
    | true => rw [h1, h2] at h; simp at h
    | false => exact bytes_eq (bytesLess_total _ _ h1 h2)
theorem cmpSt_zero {t1 i1 q1 : Int} {o1 : ByteArray} {t2 i2 q2 : Int} {o2 : ByteArray} : cmpSt t1 i1 q1 o1 t2 i2 q2 o2 = 0 ↔ t1 = t2 ∧ i1 = i2 ∧ q1 = q2 ∧ o1 = o2 := by
  unfold cmpSt orI
  constructor
  · intro h
    split at h
    · split at h
      · split at h
        · exact ⟨cmpI_zero.1 ‹_›, cmpI_zero.1 ‹_›, cmpI_zero.1 ‹_›, cmpS_zero.1 h⟩
        · exact absurd h ‹_›
      · exact absurd h ‹_›
    · exact absurd h ‹_›
  · rintro ⟨rfl, rfl, rfl, rfl⟩
    rw [cmpI_self, cmpI_self, cmpI_self, cmpS_self]; rfl

end Go.Proofs.Ytikifgenfpkidaa

namespace Go.Proofs.Ytikifgenfpkidaa
open Go.RowKit

theorem errAs_iff : ∀ (L : List AD) (p : ByteArray), errAs p L = 0 ↔ (∀ x ∈ L, goodB x.m.data.toList = true ∧ errV x.k x.s x.len x.z = 0) ∧ Rising lsS (p :: nmD L)
  | [], p => by simp [errAs, nmD, Rising]
  | x :: r, p => by
    have ih := errAs_iff r x.m
    have hA : errA p x = 0 ↔ (goodB x.m.data.toList = true ∧ errV x.k x.s x.len x.z = 0) ∧ lsS p x.m = true := by
      unfold errA
      by_cases h1 : goodB x.m.data.toList = false
      · rw [if_pos h1, h1]; simp
      · rw [if_neg h1]
        have h1' : goodB x.m.data.toList = true := by simpa using h1
        by_cases h2 : lsS p x.m = false
        · rw [if_pos h2, h2]; simp
        · rw [if_neg h2]
          have h2' : lsS p x.m = true := by simpa using h2
          rw [h1', h2']; simp
    have hE : errAs p (x :: r) = 0 ↔ errA p x = 0 ∧ errAs x.m r = 0 := by
      show (if errA p x = 0 then errAs x.m r else errA p x) = 0 ↔ _
      by_cases h : errA p x = 0
      · rw [if_pos h]; exact ⟨fun h' => ⟨h, h'⟩, fun h' => h'.2⟩
      · rw [if_neg h]; exact ⟨fun h' => absurd h' h, fun h' => absurd h'.1 h⟩
    rw [hE, hA, ih]
    have hR : Rising lsS (p :: nmD (x :: r)) ↔ lsS p x.m = true ∧ Rising lsS (x.m :: nmD r) := by
      show List.Pairwise _ (p :: x.m :: nmD r) ↔ _
      rw [List.pairwise_cons]
      constructor
      · intro ⟨h1, h2⟩; exact ⟨h1 _ (List.Mem.head _), h2⟩
      · intro ⟨h1, h2⟩
        refine ⟨fun y hy => ?_, h2⟩
        rcases List.mem_cons.1 hy with rfl | hy
        · exact h1
        · exact strictS.trans _ _ _ h1 ((List.pairwise_cons.1 h2).1 y hy)
    rw [hR]
    constructor
    · rintro ⟨⟨h1, h2⟩, h3, h4⟩
      refine ⟨fun y hy => ?_, h2, h4⟩
      rcases List.mem_cons.1 hy with rfl | hy
      · exact h1
      · exact h3 y hy
    · rintro ⟨h1, h2, h3⟩
      exact ⟨⟨h1 x (List.Mem.head _), h2⟩, fun y hy => h1 y (List.Mem.tail _ hy), h3⟩

theorem fromA_len (A : Nat → AD) (n : Nat) : (fromA A n 0).length = n := by simp [fromA]

theorem twA_twA (x : AD) : twA (twA x) = twA x := by
  unfold twA twN twS twL
  simp only
  congr 1 <;> split <;> rfl

theorem cmpL_selfY : ∀ l, cmpL l l = 0
  | [] => rfl
  | a :: r => by unfold cmpL; rw [if_pos (cmpI_self a)]; exact cmpL_selfY r

/-- A twin is the same value. -/
theorem cmpV_tw (x : AD) : cmpV (twA x).k (twA x).n (twA x).s (twA x).len (twA x).z x.k x.n x.s x.len x.z = 0 := by
  show cmpV x.k (twN x.k x.n) (twS x.k x.s) (twL x.k x.len) x.z x.k x.n x.s x.len x.z = 0
  unfold cmpV twN twS twL
  rw [if_pos rfl]
  by_cases k1 : x.k = 1
  · rw [if_pos k1, if_pos k1]; exact cmpI_self _
  · rw [if_neg k1]
    by_cases k2 : x.k = 2
    · rw [if_pos k2, if_pos k2]; exact cmpS_self _
    · rw [if_neg k2]
      by_cases k3 : x.k = 3
      · rw [if_pos k3, if_pos k3]; exact cmpL_selfY _
      · rw [if_neg k3]


theorem errV_tw {k : Int} {s : ByteArray} {len : Nat} {z : Nat → Int} (h5 : errV k s len z = 0) : errV k (twS k s) (twL k len) z = 0 := by
  unfold errV twS twL at *
  by_cases k1 : k = 1
  · rw [if_pos k1]
  · rw [if_neg k1] at h5 ⊢
    by_cases k2 : k = 2
    · rw [if_pos k2] at h5 ⊢; rw [if_pos k2]; exact h5
    · rw [if_neg k2] at h5 ⊢
      by_cases k3 : k = 3
      · rw [if_pos k3] at h5 ⊢; rw [if_pos k3]; exact h5
      · rw [if_neg k3] at h5; cases h5

theorem twR_twR (x : RD) : twR (twR x) = twR x := by
  unfold twR twF
  simp only [twA_twA]

theorem errR_tw {x : RD} (h : errR x = 0) : errR (twR x) = 0 := by
  obtain ⟨h1, h2, h3, h4, h5⟩ := errR_fine h
  show (if goodB x.key.data.toList = false then (5 : Int) else if errS x.t x.i x.q x.o = 0 then (if 32 < x.len then 4 else errAs ⟨#[]⟩ (fromA (twF x.A) x.len 0)) else errS x.t x.i x.q x.o) = 0
  rw [if_neg (by rw [h3]; simp), if_pos h4, if_neg (by omega), errAs_iff]
  have hm : ∀ y ∈ fromA (twF x.A) x.len 0, ∃ j, j < x.len ∧ y = twA (x.A j) := fun y hy => by
    unfold fromA at hy
    obtain ⟨j, hj, rfl⟩ := List.mem_map.1 hy
    exact ⟨j, by simpa using hj, by simp [twF]⟩
  refine ⟨fun y hy => ?_, List.pairwise_cons.2 ⟨fun n hn => ?_, ?_⟩⟩
  · obtain ⟨j, hj, rfl⟩ := hm y hy
    exact ⟨(h5 j hj).1, errV_tw (h5 j hj).2⟩
  · obtain ⟨y, hy, rfl⟩ := List.mem_map.1 hn
    obtain ⟨j, hj, rfl⟩ := hm y hy
    exact lsS_empty (h5 j hj).1
  · unfold nmD fromA
    rw [List.map_map, List.pairwise_map]
    refine List.Pairwise.imp_of_mem (fun {i j} hi hj hij => ?_) List.pairwise_lt_range
    have := h2 (0 + i) (0 + j) (by omega) (by have := List.mem_range.1 hj; omega)
    exact this

theorem bound_tw {x : RD} (h : BoundR x) : BoundR (twR x) :=
  ⟨⟨h.1.1, h.1.2.1, fun j hj => ⟨(h.1.2.2 j hj).1, twS_small (h.1.2.2 j hj).2⟩⟩, fun j hj => by
    show twL (x.A j).k (x.A j).len ≤ 1000000
    unfold twL
    have := h.2 j hj
    split <;> omega⟩

theorem sameAs_tw (A : Nat → AD) : ∀ (n k : Nat), sameAs (fromA (twF A) n k) (fromA A n k) = true := by
  intro n k
  generalize hd : n - k = d
  induction d generalizing k with
  | zero => rw [fromA_nil (twF A) (n := n) (k := k) (by omega), fromA_nil A (n := n) (k := k) (by omega)]; rfl
  | succ d ih =>
    rw [fromA_cons (twF A) (n := n) (k := k) (by omega), fromA_cons A (n := n) (k := k) (by omega)]
    show (sameAD (twA (A k)) (A k) && _) = true
    rw [ih (k + 1) (by omega), Bool.and_true]
    unfold sameAD
    have : ((twA (A k)).m.toList == (A k).m.toList) = true := by rw [show (twA (A k)).m = (A k).m from rfl]; exact beq_self_eq_true _
    rw [this, Bool.true_and]
    exact decide_eq_true (cmpV_tw _)

theorem sameR_tw (x : RD) : sameR (twR x) x = true := by
  unfold sameR
  show ((x.key.toList == x.key.toList) && (decide (cmpSt x.t x.i x.q x.o x.t x.i x.q x.o = 0) && (decide (x.len = x.len) && sameAs (fromA (twF x.A) x.len 0) (fromA x.A x.len 0)))) = true
  rw [sameAs_tw, cmpSt_self]
  simp

theorem sameR_self {x : RD} (h : twR x = x) : sameR x x = true := by
  have := sameR_tw x
  rwa [h] at this

/-- Rows that a table may hold. -/
def InvL (L : List RD) : Prop := ∀ x ∈ L, errR x = 0 ∧ BoundR x ∧ twR x = x
theorem InvL.fix {L : List RD} (h : InvL L) : Fix L := fun x hx => ⟨(h x hx).2.1.fine (h x hx).1, (h x hx).2.2⟩

theorem mem_putT {L : List RD} {e x : RD} (h : x ∈ putT L e) : x ∈ L ∨ x = e := by
  unfold putT at h
  split at h
  · exact List.mem_or_eq_of_mem_set h
  · rcases List.mem_append.1 h with h | h
    · exact .inl (List.mem_of_mem_take h)
    · rcases List.mem_cons.1 h with h | h
      · exact .inr h
      · exact .inl (List.mem_of_mem_drop h)
theorem mem_dropT {L : List RD} {k : ByteArray} {x : RD} (h : x ∈ dropT L k) : x ∈ L := by
  unfold dropT at h
  split at h
  · exact List.mem_of_mem_eraseIdx h
  · exact h

theorem putX_cases (most : Int) (L : List RD) (r : RD) : ((putX most L r).1 ≠ 0 ∧ (putX most L r).2 = L) ∨
    ((putX most L r).1 = 0 ∧ errR r = 0 ∧ (∀ x, getT L r.key = some x → newR r x = true) ∧ ((putX most L r).2 = putT L (twR r) ∨ ∃ k, (putX most L r).2 = putT (dropT L k) (twR r) ∧ getT L r.key = none ∧ ¬ (L.length : Int) < most)) := by
  unfold putX
  by_cases he : errR r = 0
  · rw [if_pos he]
    cases hg : getT L r.key with
    | some x =>
      simp only
      by_cases hN : newR r x = true
      · rw [if_pos hN]
        exact .inr ⟨rfl, he, (fun y hy => by cases hy; exact hN), .inl rfl⟩
      · rw [if_neg hN]
        exact .inl ⟨by simp, rfl⟩
    | none =>
      simp only
      by_cases hl : (L.length : Int) < most
      · rw [if_pos hl]
        exact .inr ⟨rfl, he, (fun y hy => by cases hy), .inl rfl⟩
      · rw [if_neg hl]
        cases L with
        | nil => exact .inl ⟨by simp [fullX], rfl⟩
        | cons x0 l =>
          have hf : fullX r (x0 :: l) = if newR r (leastK x0 (x0 :: l)) = true then (0, putT (dropT (x0 :: l) (leastK x0 (x0 :: l)).key) (twR r)) else (9, x0 :: l) := rfl
          rw [hf]
          by_cases hN : newR r (leastK x0 (x0 :: l)) = true
          · rw [if_pos hN]
            exact .inr ⟨rfl, he, (fun y hy => by cases hy), .inr ⟨_, rfl, (by trivial), hl⟩⟩
          · rw [if_neg hN]
            exact .inl ⟨by simp, rfl⟩
  · rw [if_neg he]
    exact .inl ⟨he, rfl⟩

theorem putX_inv {most : Int} {L : List RD} {r : RD} (h : InvL L) (hB : BoundR r) : InvL (putX most L r).2 := by
  rcases putX_cases most L r with ⟨_, h1⟩ | ⟨_, he, _, h1 | ⟨k, h1, _⟩⟩
  · rw [h1]; exact h
  · rw [h1]
    intro x hx
    rcases mem_putT hx with hx | rfl
    · exact h x hx
    · exact ⟨errR_tw he, bound_tw hB, twR_twR _⟩
  · rw [h1]
    intro x hx
    rcases mem_putT hx with hx | rfl
    · exact h x (mem_dropT hx)
    · exact ⟨errR_tw he, bound_tw hB, twR_twR _⟩

theorem putT_len (L : List RD) (x : RD) : (putT L x).length ≤ L.length + 1 := by
  unfold putT
  split
  · rw [List.length_set]; omega
  · rw [List.length_append, List.length_cons, List.length_take, List.length_drop]; omega
theorem putX_len (most : Int) (L : List RD) (r : RD) : (putX most L r).2.length ≤ L.length + 1 := by
  rcases putX_cases most L r with ⟨_, h1⟩ | ⟨_, _, _, h1 | ⟨k, h1, _⟩⟩
  · rw [h1]; omega
  · rw [h1]; exact putT_len _ _
  · rw [h1]
    have := putT_len (dropT L k) (twR r)
    have := dropT_len L k
    omega

/-- A row of a key: the only one. -/
theorem getT_mem {L : List RD} (h : Rising lsS (kyR L)) {x : RD} (hx : x ∈ L) : getT L x.key = some x := by
  cases hg : getT L x.key with
  | none => exact absurd (List.mem_map.2 ⟨x, hx, rfl⟩) (getT_none hg)
  | some y =>
    obtain ⟨hy, e⟩ := getT_some hg
    rw [rise_inj h hy hx e]

theorem mem_putT_self {L : List RD} (hr : Rising lsS (kyR L)) (x : RD) : x ∈ putT L x := by
  unfold putT
  split
  · rename_i h
    have hp := (List.getElem?_eq_some_iff.1 ((mem_iff_pos strictS hr).1 ((has_iff _ _).1 h))).1
    rw [kyR_len] at hp
    exact List.mem_iff_getElem.2 ⟨pos lsS (kyR L) x.key, by rw [List.length_set]; exact hp, by simp⟩
  · exact List.mem_append_right _ (List.Mem.head _)

theorem kyR_at {L : List RD} {i : Nat} (hi : i < L.length) : (kyR L)[i]? = some (L[i]).key := by unfold kyR; rw [List.getElem?_map, List.getElem?_eq_getElem hi]; rfl

theorem mem_putT_other {L : List RD} (hr : Rising lsS (kyR L)) (x : RD) {y : RD} (hy : y ∈ L) (hne : y.key ≠ x.key) : y ∈ putT L x := by
  unfold putT
  split
  · rename_i h
    obtain ⟨i, hi, rfl⟩ := List.mem_iff_getElem.1 hy
    have hp := (mem_iff_pos strictS hr).1 ((has_iff _ _).1 h)
    refine List.mem_iff_getElem.2 ⟨i, by rw [List.length_set]; exact hi, ?_⟩
    rw [List.getElem_set, if_neg]
    intro e
    subst e
    apply hne
    have h2 : (kyR L)[pos lsS (kyR L) x.key]? = some (L[pos lsS (kyR L) x.key]).key := kyR_at hi
    rw [h2] at hp
    exact Option.some.inj hp
  · have : y ∈ L.take (pos lsS (kyR L) x.key) ++ L.drop (pos lsS (kyR L) x.key) := by rw [List.take_append_drop]; exact hy
    rcases List.mem_append.1 this with h | h
    · exact List.mem_append_left _ h
    · exact List.mem_append_right _ (List.Mem.tail _ h)

theorem rise_putT {L : List RD} (hr : Rising lsS (kyR L)) (x : RD) : Rising lsS (kyR (putT L x)) := by
  have e : kyR (putT L x) = putK lsS (kyR L) x.key := by
    unfold putT putK
    by_cases h : has (kyR L) x.key = true
    · rw [if_pos h, if_pos h]
      have hp := (mem_iff_pos strictS hr).1 ((has_iff _ _).1 h)
      unfold kyR at *
      rw [List.map_set]
      apply List.ext_getElem?
      intro j
      rw [List.getElem?_set]
      split
      · rename_i hj
        subst hj
        rw [hp, if_pos (List.getElem?_eq_some_iff.1 hp).1]
      · rfl
    · rw [if_neg h, if_neg h]
      simp [kyR, List.map_take, List.map_drop]
  rw [e]
  exact rising_putK strictS hr _

end Go.Proofs.Ytikifgenfpkidaa

namespace Go.Proofs.Ytikifgenfpkidaa
open Go.RowKit

theorem newR_self (x : RD) : newR x x = false := by
  unfold newR
  rw [cmpSt_self]; rfl

/-- What isn't newer than an elder one isn't newer than the newer one. -/
theorem newR_trans {z r x : RD} (h1 : newR r x = true) (h2 : newR z x = false) : newR z r = false := by
  unfold newR at *
  rw [beq_iff_eq] at h1
  rw [beq_eq_false_iff_ne] at *
  intro h3
  have ho := ordSt x.t x.i x.q x.o r.t r.i r.q r.o z.t z.i z.q z.o
  unfold Ord3 at ho
  have e1 := cmpSt_turn r.t r.i r.q r.o x.t x.i x.q x.o
  have e2 := cmpSt_turn z.t z.i z.q z.o r.t r.i r.q r.o
  have e3 := cmpSt_turn z.t z.i z.q z.o x.t x.i x.q x.o
  have hb := cmpSt_bounds z.t z.i z.q z.o x.t x.i x.q x.o
  omega

theorem rise_same : ∀ {L M : List RD}, Rising lsS (kyR L) → Rising lsS (kyR M) → (∀ x, x ∈ L ↔ x ∈ M) → L = M
  | [], [], _, _, _ => rfl
  | [], y :: m, _, _, h => by have := (h y).2 (List.Mem.head _); cases this
  | x :: l, [], _, _, h => by have := (h x).1 (List.Mem.head _); cases this
  | x :: l, y :: m, hl, hm, h => by
    have hl' : (∀ z ∈ l, lsS x.key z.key = true) ∧ Rising lsS (kyR l) := by
      unfold kyR Rising at *
      rw [List.map_cons, List.pairwise_cons] at hl
      exact ⟨fun z hz => hl.1 _ (List.mem_map.2 ⟨z, hz, rfl⟩), hl.2⟩
    have hm' : (∀ z ∈ m, lsS y.key z.key = true) ∧ Rising lsS (kyR m) := by
      unfold kyR Rising at *
      rw [List.map_cons, List.pairwise_cons] at hm
      exact ⟨fun z hz => hm.1 _ (List.mem_map.2 ⟨z, hz, rfl⟩), hm.2⟩
    have e : x = y := by
      rcases List.mem_cons.1 ((h x).1 (List.Mem.head _)) with e | e
      · exact e
      · rcases List.mem_cons.1 ((h y).2 (List.Mem.head _)) with e' | e'
        · exact e'.symm
        · exact absurd rfl (ls_ne (strictS.trans _ _ _ (hm'.1 x e) (hl'.1 y e')))
    subst e
    congr 1
    refine rise_same hl'.2 hm'.2 (fun z => ⟨fun hz => ?_, fun hz => ?_⟩)
    · rcases List.mem_cons.1 ((h z).1 (List.Mem.tail _ hz)) with e | e
      · subst e; exact absurd rfl (ls_ne (hl'.1 z hz))
      · exact e
    · rcases List.mem_cons.1 ((h z).2 (List.Mem.tail _ hz)) with e | e
      · subst e; exact absurd rfl (ls_ne (hm'.1 z hz))
      · exact e

/-- What a table holds behind puts of the rows of S: of each key the newest. -/
def NewI (R : Nat → RD) (S : Nat → Prop) (L : List RD) : Prop :=
  Rising lsS (kyR L) ∧ (∀ x ∈ L, ∃ i, S i ∧ x = twR (R i)) ∧ ∀ i, S i → ∃ x, x ∈ L ∧ x.key = (R i).key ∧ newR (R i) x = false

theorem newI_nil (R : Nat → RD) : NewI R (fun _ => False) [] := by
  refine ⟨?_, fun x hx => ?_, fun i h => ?_⟩
  · unfold kyR Rising; exact List.Pairwise.nil
  · cases hx
  · exact h.elim

theorem NewI.cong {R : Nat → RD} {S T : Nat → Prop} {L : List RD} (h : NewI R S L) (e : ∀ i, S i ↔ T i) : NewI R T L :=
  ⟨h.1, fun x hx => by obtain ⟨i, hi, hx⟩ := h.2.1 x hx; exact ⟨i, (e i).1 hi, hx⟩, fun i hi => h.2.2 i ((e i).2 hi)⟩

theorem newI_put {R : Nat → RD} {S : Nat → Prop} {L : List RD} {most : Int} {m : Nat} (h : NewI R S L) (he : errR (R m) = 0) (hl : (L.length : Int) < most) :
    NewI R (fun i => S i ∨ i = m) (putX most L (R m)).2 := by
  obtain ⟨h1, h2, h3⟩ := h
  have hput : (∀ y ∈ L, y.key = (R m).key → newR (R m) y = true) → NewI R (fun i => S i ∨ i = m) (putT L (twR (R m))) := fun hx => by
    refine ⟨rise_putT h1 _, fun x hx => ?_, fun i hi => ?_⟩
    · rcases mem_putT hx with hx | rfl
      · obtain ⟨i, hi, e⟩ := h2 x hx
        exact ⟨i, .inl hi, e⟩
      · exact ⟨m, .inr rfl, rfl⟩
    · rcases hi with hi | rfl
      · obtain ⟨y, hy, e, hn⟩ := h3 i hi
        by_cases hk : y.key = (R m).key
        · exact ⟨twR (R m), mem_putT_self h1 _, by rw [← e, hk]; rfl, newR_trans (r := R m) (hx y hy hk) hn⟩
        · exact ⟨y, mem_putT_other h1 _ hy hk, e, hn⟩
      · exact ⟨twR (R i), mem_putT_self h1 _, rfl, newR_self (R i)⟩
  unfold putX
  rw [if_pos he]
  cases hg : getT L (R m).key with
  | some x =>
    obtain ⟨hx, ex⟩ := getT_some hg
    simp only
    by_cases hN : newR (R m) x = true
    · rw [if_pos hN]
      exact hput (fun y hy e => by rw [rise_inj h1 hy hx (e.trans ex.symm)]; exact hN)
    · rw [if_neg hN]
      refine ⟨h1, fun x hx => by obtain ⟨i, hi, hx⟩ := h2 x hx; exact ⟨i, .inl hi, hx⟩, fun i hi => ?_⟩
      rcases hi with hi | rfl
      · exact h3 i hi
      · exact ⟨x, hx, ex, by simpa using hN⟩
  | none =>
    simp only
    rw [if_pos hl]
    exact hput (fun y hy e => absurd (List.mem_map.2 ⟨y, hy, e⟩) (getT_none hg))

/-- No two of one key and one stamp. -/
def NoTwo (R : Nat → RD) (n : Nat) : Prop := ∀ i k, i < n → k < i → (R k).key = (R i).key → cmpSt (R k).t (R k).i (R k).q (R k).o (R i).t (R i).i (R i).q (R i).o ≠ 0

theorem noTwo_eq {R : Nat → RD} {n : Nat} (h : NoTwo R n) {i j : Nat} (hi : i < n) (hj : j < n) (hk : (R i).key = (R j).key) (h1 : newR (R i) (R j) = false) (h2 : newR (R j) (R i) = false) : i = j := by
  have h3 := cmpSt_turn (R i).t (R i).i (R i).q (R i).o (R j).t (R j).i (R j).q (R j).o
  have h4 := cmpSt_bounds (R i).t (R i).i (R i).q (R i).o (R j).t (R j).i (R j).q (R j).o
  unfold newR at h1 h2
  rw [beq_eq_false_iff_ne] at h1 h2
  have hz : cmpSt (R i).t (R i).i (R i).q (R i).o (R j).t (R j).i (R j).q (R j).o = 0 := by omega
  rcases Nat.lt_trichotomy i j with h' | h' | h'
  · exact absurd hz (h j i hj h' hk)
  · exact h'
  · exact absurd (by omega) (h i j hi h' hk.symm)

theorem newI_sub {R : Nat → RD} {n : Nat} (h : NoTwo R n) {L M : List RD} (hL : NewI R (fun i => i < n) L) (hM : NewI R (fun i => i < n) M) {x : RD} (hx : x ∈ L) : x ∈ M := by
  obtain ⟨i, hi, rfl⟩ := hL.2.1 x hx
  obtain ⟨y, hy, ey, hny⟩ := hM.2.2 i hi
  obtain ⟨j, hj, rfl⟩ := hM.2.1 y hy
  obtain ⟨z, hz, ez, hnz⟩ := hL.2.2 j hj
  have ek : (R j).key = (R i).key := ey
  have : z = twR (R i) := rise_inj hL.1 hz hx (ez.trans ek)
  subst this
  have := noTwo_eq h hi hj ek.symm hny hnz
  subst this
  exact hy

/-- The order of the puts makes no difference. -/
theorem newI_same {R : Nat → RD} {n : Nat} (h : NoTwo R n) {L M : List RD} (hL : NewI R (fun i => i < n) L) (hM : NewI R (fun i => i < n) M) : L = M :=
  rise_same hL.1 hM.1 (fun x => ⟨fun hx => newI_sub h hL hM hx, fun hx => newI_sub h hM hL hx⟩)

/-- Each place comes. -/
theorem turn_all (n t : Nat) {j : Nat} (hj : j < n) : ∃ i, i < n ∧ j = (i + t) % n := by
  have hd := Nat.div_add_mod t n
  have hm : t % n < n := Nat.mod_lt _ (by omega)
  obtain ⟨q, hq⟩ : ∃ q, t / n = q := ⟨_, rfl⟩
  obtain ⟨T, hT⟩ : ∃ T, t % n = T := ⟨_, rfl⟩
  rw [hq, hT] at hd
  rw [hT] at hm
  by_cases h : T ≤ j
  · refine ⟨j - T, by omega, ?_⟩
    have : j - T + t = j + n * q := by omega
    rw [this, Nat.add_mul_mod_self_left, Nat.mod_eq_of_lt hj]
  · refine ⟨j + n - T, by omega, ?_⟩
    have : j + n - T + t = j + n * (q + 1) := by rw [Nat.mul_add]; omega
    rw [this, Nat.add_mul_mod_self_left, Nat.mod_eq_of_lt hj]

theorem turn_lt {n t i : Nat} (hi : i < n) : (i + t) % n < n := Nat.mod_lt _ (by omega)

/-- The rows of the second table: the first m in their turned order. -/
theorem newI_step {R : Nat → RD} {n t m : Nat} {L : List RD} {most : Int} (h : NewI R (fun j => ∃ i, i < m ∧ j = (i + t) % n) L) (he : errR (R ((m + t) % n)) = 0) (hl : (L.length : Int) < most) :
    NewI R (fun j => ∃ i, i < m + 1 ∧ j = (i + t) % n) (putX most L (R ((m + t) % n))).2 :=
  (newI_put h he hl).cong (fun j => ⟨fun h => by
    rcases h with ⟨i, h1, h2⟩ | h
    · exact ⟨i, by omega, h2⟩
    · exact ⟨m, by omega, h⟩, fun ⟨i, h1, h2⟩ => by
    by_cases e : i = m
    · subst e; exact .inr h2
    · exact .inl ⟨i, by omega, h2⟩⟩)
theorem newI_next {R : Nat → RD} {m : Nat} {L : List RD} {most : Int} (h : NewI R (fun j => j < m) L) (he : errR (R m) = 0) (hl : (L.length : Int) < most) :
    NewI R (fun j => j < m + 1) (putX most L (R m)).2 :=
  (newI_put h he hl).cong (fun j => ⟨fun h => by omega, fun h => by omega⟩)
theorem newI_whole {R : Nat → RD} {n t : Nat} {L : List RD} (h : NewI R (fun j => ∃ i, i < n ∧ j = (i + t) % n) L) : NewI R (fun j => j < n) L :=
  h.cong (fun j => ⟨fun ⟨i, h1, h2⟩ => by rw [h2]; exact turn_lt h1, fun h => turn_all n t h⟩)

/-- What Get finds behind all puts: nothing of l is newer. -/
theorem newI_get {R : Nat → RD} {n i : Nat} {L : List RD} (h : NewI R (fun j => j < n) L) (hi : i < n) : ∃ x, getT L (R i).key = some x ∧ newR (R i) x = false := by
  obtain ⟨x, hx, e, hn⟩ := h.2.2 i hi
  exact ⟨x, by rw [← e]; exact getT_mem h.1 hx, hn⟩

end Go.Proofs.Ytikifgenfpkidaa

namespace Go.Proofs.Ytikifgenfpkidaa
open Go.RowKit

/-- Two tables, made since W, apart from one another. -/
def Two (W w : World) (p1 p2 : Nat) (L1 L2 : List RD) : Prop := ∃ F1 F2, Tab w p1 64 F1 F2 L1 ∧ Tab w p2 64 F2 F1 L2 ∧ (∀ k, F1 k → W.heap.size ≤ k) ∧ (∀ k, F2 k → W.heap.size ≤ k) ∧ Below W.heap.size W w

theorem Two.swap {W w : World} {p1 p2 : Nat} {L1 L2 : List RD} (h : Two W w p1 p2 L1 L2) : Two W w p2 p1 L2 L1 := by
  obtain ⟨F1, F2, h1, h2, h3, h4, h5⟩ := h
  exact ⟨F2, F1, h2, h1, h4, h3, h5⟩
theorem Two.below {W w w' : World} {p1 p2 : Nat} {L1 L2 : List RD} (h : Two W w p1 p2 L1 L2) (hb : Below w.heap.size w w') : Two W w' p1 p2 L1 L2 := by
  obtain ⟨F1, F2, h1, h2, h3, h4, h5⟩ := h
  exact ⟨F1, F2, h1.below hb, h2.below hb, h3, h4, h5.trans (hb.mono h5.size)⟩
theorem Two.bel {W w : World} {p1 p2 : Nat} {L1 L2 : List RD} (h : Two W w p1 p2 L1 L2) : Below W.heap.size W w := by
  obtain ⟨F1, F2, h1, h2, h3, h4, h5⟩ := h
  exact h5

theorem Two.start {W w w' : World} {p1 p2 : Nat} {F1 F2 X : Nat → Prop} (hW : Below W.heap.size W w) (h1 : Tab w p1 64 F1 X []) (h2 : Tab w' p2 64 F2 (fun k => k < w.heap.size) []) (g1 : ∀ k, F1 k → W.heap.size ≤ k) (g2 : ∀ k, F2 k → w.heap.size ≤ k) (hb : Below w.heap.size w w') : Two W w' p1 p2 [] [] :=
  ⟨F1, F2, h1.step (keptNew hb) (fun k h => h.elim) (fun k hk => ⟨.inr (g2 k hk), h2.lt k hk⟩),
    h2.more (Kept.refl _ _) (fun k hk => ⟨.inl (h1.lt k hk), Nat.lt_of_lt_of_le (h1.lt k hk) hb.size⟩), g1, fun k hk => Nat.le_trans hW.size (g2 k hk), hW.trans (hb.mono hW.size)⟩

/-- A row of old memory is put into the first. -/
theorem Two.put {W w : World} {p1 p2 : Nat} {L1 L2 : List RD} (h : Two W w p1 p2 L1 L2) (hn : L1.length ≤ 1000) (r : RD) (a : Option Addr) (c : Nat) (hB : BoundR r) (hr : ReadsAG (fun k => k < W.heap.size) W a r.len r.A) :
    Calls Try.prog 13 #[.pointer (some ⟨p1, 0, none⟩), .agg #[.string r.key, .int .i64 r.t, .int .i64 r.i, .int .i64 r.q, .string r.o, .slice a r.len c]] w fun e w' => e = .returned (.int .i64 (putX 64 L1 r).1) ∧ Two W w' p1 p2 (putX 64 L1 r).2 L2 := by
  obtain ⟨F1, F2, h1, h2, h3, h4, h5⟩ := h
  refine (put_any w p1 64 F1 _ L1 r a c (by unfold In64; omega) (by omega) hn hB h1 (((ReadsAG.kept (G := fun k => k < W.heap.size) hr (keptBelow h5) (fun k hk h => by omega))).mono (fun k hk _ hf => by
    rcases hf with hf | hf
    · have := h3 k hf; omega
    · have := h4 k hf; omega))).mono ?_
  rintro e w' ⟨he, F1', ht, hg, hk⟩
  refine ⟨he, F1', F2, ht, h2.step hk (fun k h => .inl h) (fun k hf => ⟨hg k hf, ht.lt k hf⟩), fun k hf => (hg k hf).elim (h3 k) (fun h => by have := h5.size; omega), h4, hk.below h3 h5.size |> h5.trans⟩

theorem Two.rows {W w : World} {p1 p2 : Nat} {L1 L2 : List RD} (h : Two W w p1 p2 L1 L2) (hn : L1.length ≤ 1000) (hF : Fix L1) :
    Calls Try.prog 14 #[.pointer (some ⟨p1, 0, none⟩)] w (RowsPost w L1) := by
  obtain ⟨F1, F2, h1, h2, h3, h4, h5⟩ := h
  exact rows_any w p1 64 F1 _ L1 hn hF h1

theorem Two.get {W w : World} {p1 p2 : Nat} {L1 L2 : List RD} (h : Two W w p1 p2 L1 L2) (hn : L1.length ≤ 1000) (hF : Fix L1) (k : ByteArray) :
    Calls Try.prog 16 #[.pointer (some ⟨p1, 0, none⟩), .string k] w fun e w' => (∃ b d, e = .returned (.tuple #[rowV (getZ L1 k) b d, .bool (isT L1 k)]) ∧ ReadsAG (fun q => w.heap.size ≤ q) w' b (getZ L1 k).len (getZ L1 k).A) ∧ Below w.heap.size w w' := by
  obtain ⟨F1, F2, h1, h2, h3, h4, h5⟩ := h
  exact get_any w p1 64 F1 _ L1 k hn hF h1

end Go.Proofs.Ytikifgenfpkidaa

namespace Go.Proofs.Ytikifgenfpkidaa
open Go.RowKit

theorem few_bound {x : RD} (h : FewR x) : BoundR x := ⟨⟨Nat.le_trans h.k (by omega), Nat.le_trans h.o (by omega), fun j hj => ⟨Nat.le_trans (h.f j hj).1 (by omega), Nat.le_trans (h.f j hj).2.1 (by omega)⟩⟩, fun j hj => Nat.le_trans (h.f j hj).2.2 (by omega)⟩

theorem sameOk_any (x y : RD) (a1 a2 : Option Addr) (c1 c2 : Nat) (hn : x.len ≤ 1000000) (hs : sameR x y = true) (w : World) (h1 : ReadsA w a1 x.len x.A) (h2 : ReadsA w a2 y.len y.A) :
    Calls Try.prog 15 #[.agg #[.string x.key, .int .i64 x.t, .int .i64 x.i, .int .i64 x.q, .string x.o, .slice a1 x.len c1], .agg #[.string y.key, .int .i64 y.t, .int .i64 y.i, .int .i64 y.q, .string y.o, .slice a2 y.len c2]] w fun e w' => e = .returned (.bool true) ∧ Below w.heap.size w w' := by
  have := rowSame_any x y a1 a2 c1 c2 hn w h1 h2
  rw [hs] at this
  exact this

end Go.Proofs.Ytikifgenfpkidaa
