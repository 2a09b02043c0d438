/-
  No statement: plain facts on tables: what is put is there, and all others are as they were.
-/
import Derived.Test.YtikifgenfpkidaaTbM1
set_option linter.unusedVariables false
set_option linter.unusedSimpArgs false
namespace Go.Proofs.Ytikifgenfpkidaa
open Go.RowKit

theorem errAs_iff : ∀ (L : List AD) (p : ByteArray), errAs p L = 0 ↔ (∀ x ∈ L, goodB x.m.data.toList = true ∧ errV x.k x.s x.len x.z = 0) ∧ Rising lsS (p :: nmD L)
  | [], p => by simp [errAs, nmD, Rising]
  | x :: r, p => by
    have ih := errAs_iff r x.m
    have hA : errA p x = 0 ↔ (goodB x.m.data.toList = true ∧ errV x.k x.s x.len x.z = 0) ∧ lsS p x.m = true := by
      unfold errA
      by_cases h1 : goodB x.m.data.toList = false
      · rw [if_pos h1, h1]; simp
      · rw [if_neg h1]
        have h1' : goodB x.m.data.toList = true := by simpa using h1
        by_cases h2 : lsS p x.m = false
        · rw [if_pos h2, h2]; simp
        · rw [if_neg h2]
          have h2' : lsS p x.m = true := by simpa using h2
          rw [h1', h2']; simp
    have hE : errAs p (x :: r) = 0 ↔ errA p x = 0 ∧ errAs x.m r = 0 := by
      show (if errA p x = 0 then errAs x.m r else errA p x) = 0 ↔ _
      by_cases h : errA p x = 0
      · rw [if_pos h]; exact ⟨fun h' => ⟨h, h'⟩, fun h' => h'.2⟩
      · rw [if_neg h]; exact ⟨fun h' => absurd h' h, fun h' => absurd h'.1 h⟩
    rw [hE, hA, ih]
    have hR : Rising lsS (p :: nmD (x :: r)) ↔ lsS p x.m = true ∧ Rising lsS (x.m :: nmD r) := by
      show List.Pairwise _ (p :: x.m :: nmD r) ↔ _
      rw [List.pairwise_cons]
      constructor
      · intro ⟨h1, h2⟩; exact ⟨h1 _ (List.Mem.head _), h2⟩
      · intro ⟨h1, h2⟩
        refine ⟨fun y hy => ?_, h2⟩
        rcases List.mem_cons.1 hy with rfl | hy
        · exact h1
        · exact strictS.trans _ _ _ h1 ((List.pairwise_cons.1 h2).1 y hy)
    rw [hR]
    constructor
    · rintro ⟨⟨h1, h2⟩, h3, h4⟩
      refine ⟨fun y hy => ?_, h2, h4⟩
      rcases List.mem_cons.1 hy with rfl | hy
      · exact h1
      · exact h3 y hy
    · rintro ⟨h1, h2, h3⟩
      exact ⟨⟨h1 x (List.Mem.head _), h2⟩, fun y hy => h1 y (List.Mem.tail _ hy), h3⟩

theorem fromA_len (A : Nat → AD) (n : Nat) : (fromA A n 0).length = n := by simp [fromA]

theorem twA_twA (x : AD) : twA (twA x) = twA x := by
  unfold twA twN twS twL
  simp only
  congr 1 <;> split <;> rfl

theorem cmpL_selfY : ∀ l, cmpL l l = 0
  | [] => rfl
  | a :: r => by unfold cmpL; rw [if_pos (cmpI_self a)]; exact cmpL_selfY r

/-- A twin is the same value. -/
theorem cmpV_tw (x : AD) : cmpV (twA x).k (twA x).n (twA x).s (twA x).len (twA x).z x.k x.n x.s x.len x.z = 0 := by
  show cmpV x.k (twN x.k x.n) (twS x.k x.s) (twL x.k x.len) x.z x.k x.n x.s x.len x.z = 0
  unfold cmpV twN twS twL
  rw [if_pos rfl]
  by_cases k1 : x.k = 1
  · rw [if_pos k1, if_pos k1]; exact cmpI_self _
  · rw [if_neg k1]
    by_cases k2 : x.k = 2
    · rw [if_pos k2, if_pos k2]; exact cmpS_self _
    · rw [if_neg k2]
      by_cases k3 : x.k = 3
      · rw [if_pos k3, if_pos k3]; exact cmpL_selfY _
      · rw [if_neg k3]


theorem errV_tw {k : Int} {s : ByteArray} {len : Nat} {z : Nat → Int} (h5 : errV k s len z = 0) : errV k (twS k s) (twL k len) z = 0 := by
  unfold errV twS twL at *
  by_cases k1 : k = 1
  · rw [if_pos k1]
  · rw [if_neg k1] at h5 ⊢
    by_cases k2 : k = 2
    · rw [if_pos k2] at h5 ⊢; rw [if_pos k2]; exact h5
    · rw [if_neg k2] at h5 ⊢
      by_cases k3 : k = 3
      · rw [if_pos k3] at h5 ⊢; rw [if_pos k3]; exact h5
      · rw [if_neg k3] at h5; cases h5

theorem twR_twR (x : RD) : twR (twR x) = twR x := by
  unfold twR twF
  simp only [twA_twA]

theorem errR_tw {x : RD} (h : errR x = 0) : errR (twR x) = 0 := by
  obtain ⟨h1, h2, h3, h4, h5⟩ := errR_fine h
  show (if goodB x.key.data.toList = false then (5 : Int) else if errS x.t x.i x.q x.o = 0 then (if 32 < x.len then 4 else errAs ⟨#[]⟩ (fromA (twF x.A) x.len 0)) else errS x.t x.i x.q x.o) = 0
  rw [if_neg (by rw [h3]; simp), if_pos h4, if_neg (by omega), errAs_iff]
  have hm : ∀ y ∈ fromA (twF x.A) x.len 0, ∃ j, j < x.len ∧ y = twA (x.A j) := fun y hy => by
    unfold fromA at hy
    obtain ⟨j, hj, rfl⟩ := List.mem_map.1 hy
    exact ⟨j, by simpa using hj, by simp [twF]⟩
  refine ⟨fun y hy => ?_, List.pairwise_cons.2 ⟨fun n hn => ?_, ?_⟩⟩
  · obtain ⟨j, hj, rfl⟩ := hm y hy
    exact ⟨(h5 j hj).1, errV_tw (h5 j hj).2⟩
  · obtain ⟨y, hy, rfl⟩ := List.mem_map.1 hn
    obtain ⟨j, hj, rfl⟩ := hm y hy
    exact lsS_empty (h5 j hj).1
  · unfold nmD fromA
    rw [List.map_map, List.pairwise_map]
    refine List.Pairwise.imp_of_mem (fun {i j} hi hj hij => ?_) List.pairwise_lt_range
    have := h2 (0 + i) (0 + j) (by omega) (by have := List.mem_range.1 hj; omega)
    exact this

theorem bound_tw {x : RD} (h : BoundR x) : BoundR (twR x) :=
  ⟨⟨h.1.1, h.1.2.1, fun j hj => ⟨(h.1.2.2 j hj).1, twS_small (h.1.2.2 j hj).2⟩⟩, fun j hj => by
    show twL (x.A j).k (x.A j).len ≤ 1000000
    unfold twL
    have := h.2 j hj
    split <;> omega⟩

theorem sameAs_tw (A : Nat → AD) : ∀ (n k : Nat), sameAs (fromA (twF A) n k) (fromA A n k) = true := by
  intro n k
  generalize hd : n - k = d
  induction d generalizing k with
  | zero => rw [fromA_nil (twF A) (n := n) (k := k) (by omega), fromA_nil A (n := n) (k := k) (by omega)]; rfl
  | succ d ih =>
    rw [fromA_cons (twF A) (n := n) (k := k) (by omega), fromA_cons A (n := n) (k := k) (by omega)]
    show (sameAD (twA (A k)) (A k) && _) = true
    rw [ih (k + 1) (by omega), Bool.and_true]
    unfold sameAD
    have : ((twA (A k)).m.toList == (A k).m.toList) = true := by rw [show (twA (A k)).m = (A k).m from rfl]; exact beq_self_eq_true _
    rw [this, Bool.true_and]
    exact decide_eq_true (cmpV_tw _)

theorem sameR_tw (x : RD) : sameR (twR x) x = true := by
  unfold sameR
  show ((x.key.toList == x.key.toList) && (decide (cmpSt x.t x.i x.q x.o x.t x.i x.q x.o = 0) && (decide (x.len = x.len) && sameAs (fromA (twF x.A) x.len 0) (fromA x.A x.len 0)))) = true
  rw [sameAs_tw, cmpSt_self]
  simp

theorem sameR_self {x : RD} (h : twR x = x) : sameR x x = true := by
  have := sameR_tw x
  rwa [h] at this

/-- Rows that a table may hold. -/
def InvL (L : List RD) : Prop := ∀ x ∈ L, errR x = 0 ∧ BoundR x ∧ twR x = x
theorem InvL.fix {L : List RD} (h : InvL L) : Fix L := fun x hx => ⟨(h x hx).2.1.fine (h x hx).1, (h x hx).2.2⟩

theorem mem_putT {L : List RD} {e x : RD} (h : x ∈ putT L e) : x ∈ L ∨ x = e := by
  unfold putT at h
  split at h
  · exact List.mem_or_eq_of_mem_set h
  · rcases List.mem_append.1 h with h | h
    · exact .inl (List.mem_of_mem_take h)
    · rcases List.mem_cons.1 h with h | h
      · exact .inr h
      · exact .inl (List.mem_of_mem_drop h)
theorem mem_dropT {L : List RD} {k : ByteArray} {x : RD} (h : x ∈ dropT L k) : x ∈ L := by
  unfold dropT at h
  split at h
  · exact List.mem_of_mem_eraseIdx h
  · exact h

theorem putX_cases (most : Int) (L : List RD) (r : RD) : ((putX most L r).1 ≠ 0 ∧ (putX most L r).2 = L) ∨
    ((putX most L r).1 = 0 ∧ errR r = 0 ∧ (∀ x, getT L r.key = some x → newR r x = true) ∧ ((putX most L r).2 = putT L (twR r) ∨ ∃ k, (putX most L r).2 = putT (dropT L k) (twR r) ∧ getT L r.key = none ∧ ¬ (L.length : Int) < most)) := by
  unfold putX
  by_cases he : errR r = 0
  · rw [if_pos he]
    cases hg : getT L r.key with
    | some x =>
      simp only
      by_cases hN : newR r x = true
      · rw [if_pos hN]
        exact .inr ⟨rfl, he, (fun y hy => by cases hy; exact hN), .inl rfl⟩
      · rw [if_neg hN]
        exact .inl ⟨by simp, rfl⟩
    | none =>
      simp only
      by_cases hl : (L.length : Int) < most
      · rw [if_pos hl]
        exact .inr ⟨rfl, he, (fun y hy => by cases hy), .inl rfl⟩
      · rw [if_neg hl]
        cases L with
        | nil => exact .inl ⟨by simp [fullX], rfl⟩
        | cons x0 l =>
          have hf : fullX r (x0 :: l) = if newR r (leastK x0 (x0 :: l)) = true then (0, putT (dropT (x0 :: l) (leastK x0 (x0 :: l)).key) (twR r)) else (9, x0 :: l) := rfl
          rw [hf]
          by_cases hN : newR r (leastK x0 (x0 :: l)) = true
          · rw [if_pos hN]
            exact .inr ⟨rfl, he, (fun y hy => by cases hy), .inr ⟨_, rfl, (by trivial), hl⟩⟩
          · rw [if_neg hN]
            exact .inl ⟨by simp, rfl⟩
  · rw [if_neg he]
    exact .inl ⟨he, rfl⟩

theorem putX_inv {most : Int} {L : List RD} {r : RD} (h : InvL L) (hB : BoundR r) : InvL (putX most L r).2 := by
  rcases putX_cases most L r with ⟨_, h1⟩ | ⟨_, he, _, h1 | ⟨k, h1, _⟩⟩
  · rw [h1]; exact h
  · rw [h1]
    intro x hx
    rcases mem_putT hx with hx | rfl
    · exact h x hx
    · exact ⟨errR_tw he, bound_tw hB, twR_twR _⟩
  · rw [h1]
    intro x hx
    rcases mem_putT hx with hx | rfl
    · exact h x (mem_dropT hx)
    · exact ⟨errR_tw he, bound_tw hB, twR_twR _⟩

theorem putT_len (L : List RD) (x : RD) : (putT L x).length ≤ L.length + 1 := by
  unfold putT
  split
  · rw [List.length_set]; omega
  · rw [List.length_append, List.length_cons, List.length_take, List.length_drop]; omega
theorem putX_len (most : Int) (L : List RD) (r : RD) : (putX most L r).2.length ≤ L.length + 1 := by
  rcases putX_cases most L r with ⟨_, h1⟩ | ⟨_, _, _, h1 | ⟨k, h1, _⟩⟩
  · rw [h1]; omega
  · rw [h1]; exact putT_len _ _
  · rw [h1]
    have := putT_len (dropT L k) (twR r)
    have := dropT_len L k
    omega

/-- A row of a key: the only one. -/
theorem getT_mem {L : List RD} (h : Rising lsS (kyR L)) {x : RD} (hx : x ∈ L) : getT L x.key = some x := by
  cases hg : getT L x.key with
  | none => exact absurd (List.mem_map.2 ⟨x, hx, rfl⟩) (getT_none hg)
  | some y =>
    obtain ⟨hy, e⟩ := getT_some hg
    rw [rise_inj h hy hx e]

theorem mem_putT_self {L : List RD} (hr : Rising lsS (kyR L)) (x : RD) : x ∈ putT L x := by
  unfold putT
  split
  · rename_i h
    have hp := (List.getElem?_eq_some_iff.1 ((mem_iff_pos strictS hr).1 ((has_iff _ _).1 h))).1
    rw [kyR_len] at hp
    exact List.mem_iff_getElem.2 ⟨pos lsS (kyR L) x.key, by rw [List.length_set]; exact hp, by simp⟩
  · exact List.mem_append_right _ (List.Mem.head _)

theorem kyR_at {L : List RD} {i : Nat} (hi : i < L.length) : (kyR L)[i]? = some (L[i]).key := by unfold kyR; rw [List.getElem?_map, List.getElem?_eq_getElem hi]; rfl

theorem mem_putT_other {L : List RD} (hr : Rising lsS (kyR L)) (x : RD) {y : RD} (hy : y ∈ L) (hne : y.key ≠ x.key) : y ∈ putT L x := by
  unfold putT
  split
  · rename_i h
    obtain ⟨i, hi, rfl⟩ := List.mem_iff_getElem.1 hy
    have hp := (mem_iff_pos strictS hr).1 ((has_iff _ _).1 h)
    refine List.mem_iff_getElem.2 ⟨i, by rw [List.length_set]; exact hi, ?_⟩
    rw [List.getElem_set, if_neg]
    intro e
    subst e
    apply hne
    have h2 : (kyR L)[pos lsS (kyR L) x.key]? = some (L[pos lsS (kyR L) x.key]).key := kyR_at hi
    rw [h2] at hp
    exact Option.some.inj hp
  · have : y ∈ L.take (pos lsS (kyR L) x.key) ++ L.drop (pos lsS (kyR L) x.key) := by rw [List.take_append_drop]; exact hy
    rcases List.mem_append.1 this with h | h
    · exact List.mem_append_left _ h
    · exact List.mem_append_right _ (List.Mem.tail _ h)

theorem rise_putT {L : List RD} (hr : Rising lsS (kyR L)) (x : RD) : Rising lsS (kyR (putT L x)) := by
  have e : kyR (putT L x) = putK lsS (kyR L) x.key := by
    unfold putT putK
    by_cases h : has (kyR L) x.key = true
    · rw [if_pos h, if_pos h]
      have hp := (mem_iff_pos strictS hr).1 ((has_iff _ _).1 h)
      unfold kyR at *
      rw [List.map_set]
      apply List.ext_getElem?
      intro j
      rw [List.getElem?_set]
      split
      · rename_i hj
        subst hj
        rw [hp, if_pos (List.getElem?_eq_some_iff.1 hp).1]
      · rfl
    · rw [if_neg h, if_neg h]
      simp [kyR, List.map_take, List.map_drop]
  rw [e]
  exact rising_putK strictS hr _

end Go.Proofs.Ytikifgenfpkidaa
