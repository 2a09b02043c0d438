/-
  No statement: the document's rows that are owned; what it sends and wants, as plain facts.
-/
import Derived.Test.YtpdobbdbmgeoiaaGreatDgRows
import Derived.Test.YtpdobbdbmgeoiaaGreatSTurn
set_option linter.unusedVariables false
set_option linter.unusedSimpArgs false
namespace Go.Proofs.YtpdobbdbmgeoiaaGreat
open Go.RowKit

/-- Rows that are owned from B on; their attributes lie in blocks of some kind. -/
def OwnQ (G : Nat → Prop) (w : World) (B : Nat) (v : Value) (T : List RTd) : Prop :=
  w.ownsRow B 44 6 v T.length (T.flatMap sixD) ∧ ∀ t ∈ T, ReadsAG G w t.2.1 t.1.len t.1.A
theorem OwnQ.below {G : Nat → Prop} {w w' : World} {B : Nat} {v : Value} {T : List RTd} (h : OwnQ G w B v T) (hb : Below w.heap.size w w') : OwnQ G w' B v T :=
  ⟨owns_below h.1 hb, fun t ht => (h.2 t ht).kept (keptNew hb) (fun _ _ h => h)⟩
theorem OwnQ.more {G : Nat → Prop} {w w' : World} {B : Nat} {v v' : Value} {T : List RTd} {t : RTd} (h : OwnQ G w B v T) (hG : ∀ k, G k → v.ownBlock ≠ some k) (hr : ReadsAG G w t.2.1 t.1.len t.1.A)
    (ho : w'.ownsRow B 44 6 v' (T.length + 1) (T.flatMap sixD ++ sixD t)) (hg : w.grownBy w' v.ownBlock) : OwnQ G w' B v' (T ++ [t]) := by
  refine ⟨by rw [List.length_append, List.flatMap_append]; simpa using ho, fun u hu => ?_⟩
  have hk : Kept (fun b => v.ownBlock = some b) w w' := (Kept.refl _ w).grown hg (fun k hk => .inl hk)
  have hu' : ReadsAG G w u.2.1 u.1.len u.1.A := by
    rcases List.mem_append.1 hu with hu | hu
    · exact h.2 u hu
    · rw [List.mem_singleton] at hu; subst hu; exact hr
  exact hu'.kept hk (fun b hb => hG b hb)
theorem OwnQ.reads {G H : Nat → Prop} {w : World} {B : Nat} {a : Option Addr} {l c : Nat} {T : List RTd} (R : Nat → RD) (h : OwnQ G w B (.slice a l c) T) (hT : ∀ j x, T[j]? = some x → x.1 = R j) (hG : ∀ k, G k → H k) (hB : ∀ k, B ≤ k → H k) : l = T.length ∧ l ≤ c ∧ ReadsRG H w a T.length R := by
  obtain ⟨h1, h2⟩ := h
  rcases h1.2 with ⟨hv, h0⟩ | ⟨g, cap, cur, hv, hb, hg, hnc, hm, hs, ht⟩
  · simp only [Value.slice.injEq] at hv
    obtain ⟨rfl, rfl, rfl⟩ := hv
    rw [h0]
    exact ⟨rfl, Nat.le_refl _, ⟨Nat.zero_le _, .inl rfl⟩⟩
  · simp only [Value.slice.injEq] at hv
    obtain ⟨rfl, rfl, hcc⟩ := hv
    refine ⟨rfl, by omega, ⟨Nat.le_trans hnc hm, .inr ⟨g, 0, rfl, hB g hb, fun j hj => ?_⟩⟩⟩
    have e : R j = T[j].1 := (hT j _ (List.getElem?_eq_getElem hj)).symm
    have hc : ∀ i u, i < 6 → (sixD T[j])[i]? = some u → w.cell? ⟨g, 0 + j * 6 + i, none⟩ = some u := fun i u hi hu => by
      rw [Nat.zero_add]
      obtain ⟨g', e1, e2⟩ := owns_at (w := w) (base := B) (e := 44) (size := 6) (a := ⟨g, 0, none⟩) (n := T.length) (c := cap) (xs := T.flatMap sixD) ⟨h1.1, .inr ⟨g, cap, cur, rfl, hb, hg, hnc, hm, hs, ht⟩⟩ (j := j * 6 + i) (u := u) (by rw [flat_at (m := 6) (fun t => rfl) T hj hi]; exact hu)
      cases e1
      exact e2
    rw [e]
    exact ⟨T[j].2.1, T[j].2.2, ⟨hc 0 _ (by omega) rfl, hc 1 _ (by omega) rfl, hc 2 _ (by omega) rfl, hc 3 _ (by omega) rfl, hc 4 _ (by omega) rfl, hc 5 _ (by omega) rfl⟩, (h2 _ (List.getElem_mem hj)).mono (fun b hb _ => hG b hb)⟩
theorem new_sixQ (w : World) (t : RTd) : ∀ j u, (sixD t)[j]? = some u → (w.alloc (.cells #[.string t.1.key, .int .i64 t.1.t, .int .i64 t.1.i, .int .i64 t.1.q, .string t.1.o, .slice t.2.1 t.1.len t.2.2] 44)).cell? ((⟨w.heap.size, 0, none⟩ : Addr).add j) = some u := fun j u hj => by
  rw [Addr.add_lit, Nat.zero_add, cell_of_row _ _ _ _ _ (0, 0) (heap_alloc_new w _)]
  simpa [sixD] using hj

/-- What the document asks of each mark, of each row. -/
def sKey (x : RD) (m : MK) : Bool := (m.key.toList == x.key.toList) && decide (cmpSt x.t x.i x.q x.o m.t m.i m.q m.o ≤ 0)
def wKey (m : MK) (x : RD) : Bool := (m.key.toList == x.key.toList) && decide (0 ≤ cmpSt x.t x.i x.q x.o m.t m.i m.q m.o)
def sendQ (al : List RD) (bl : List MK) : List RD := al.filter fun x => !(bl.any (sKey x))
def wantQ (al : List RD) (bl : List MK) : List ByteArray := (bl.filter fun m => !(al.any (wKey m))).map MK.key
def pickQ (al : List RD) (kl : List ByteArray) : List RD := al.filter fun x => kl.any fun k => k.toList == x.key.toList

theorem cmpSt_three (t1 i1 q1 : Int) (o1 : ByteArray) (t2 i2 q2 : Int) (o2 : ByteArray) : cmpSt t1 i1 q1 o1 t2 i2 q2 o2 = -1 ∨ cmpSt t1 i1 q1 o1 t2 i2 q2 o2 = 0 ∨ cmpSt t1 i1 q1 o1 t2 i2 q2 o2 = 1 := by
  have hI : ∀ a b : Int, cmpI a b = -1 ∨ cmpI a b = 0 ∨ cmpI a b = 1 := fun a b => by unfold cmpI; split <;> (try split) <;> simp
  have hS : cmpS o1 o2 = -1 ∨ cmpS o1 o2 = 0 ∨ cmpS o1 o2 = 1 := by unfold cmpS; split <;> (try split) <;> simp
  unfold cmpSt orI
  have h1 := hI t1 t2; have h2 := hI i1 i2; have h3 := hI q1 q2
  split <;> (try split) <;> (try split) <;> first | exact h1 | exact h2 | exact h3 | exact hS

theorem key_eq {a b : ByteArray} : (a.toList == b.toList) = true ↔ a = b := by
  constructor
  · intro h
    have e := eq_of_beq h
    rw [Lib.toList_data, Lib.toList_data] at e
    exact text_eq e
  · intro h; subst h; simp

/-- Of a rising row one alone has the key. -/
theorem any_key {B : Type} (kb : B → ByteArray) (k : ByteArray) (p : B → Bool) : ∀ {l : List B}, Rising lsS (l.map kb) → l.any (fun y => (kb y).toList == k.toList && p y) = match l.find? (fun y => decide (kb y = k)) with | none => false | some y => p y
  | [], _ => rfl
  | y :: r, h => by
    rw [List.map_cons] at h
    obtain ⟨h1, h2⟩ := List.pairwise_cons.1 h
    rw [List.any_cons]
    by_cases e : kb y = k
    · rw [List.find?_cons_of_pos (by simpa using e)]
      have e1 : ((kb y).toList == k.toList) = true := key_eq.2 e
      have e2 : r.any (fun y => (kb y).toList == k.toList && p y) = false := by
        rw [List.any_eq_false]
        intro z hz
        have h3 := h1 _ (List.mem_map.2 ⟨z, hz, rfl⟩)
        have h4 : ((kb z).toList == k.toList) = false := by
          cases hh : ((kb z).toList == k.toList) with
          | false => rfl
          | true => rw [key_eq.1 hh, e, strictS.irrefl] at h3; cases h3
        rw [h4]; simp
      rw [e1, e2]; simp
    · rw [List.find?_cons_of_neg (by simpa using e), any_key kb k p h2 |>.symm]
      have e1 : ((kb y).toList == k.toList) = false := by
        cases hh : ((kb y).toList == k.toList) with
        | false => rfl
        | true => exact absurd (key_eq.1 hh) e
      rw [e1]; simp

theorem send_same {al : List RD} {bl : List MK} (ha : Rising lsS (al.map RD.key)) (hb : Rising lsS (bl.map MK.key)) : pickW RD.key MK.key sendK al bl = sendQ al bl := by
  rw [pickW_filter _ _ _ _ _ ha hb]
  unfold sendQ
  apply List.filter_congr
  intro x _
  have := any_key MK.key x.key (fun m => decide (cmpSt x.t x.i x.q x.o m.t m.i m.q m.o ≤ 0)) hb
  have e : bl.any (sKey x) = bl.any (fun m => (MK.key m).toList == x.key.toList && decide (cmpSt x.t x.i x.q x.o m.t m.i m.q m.o ≤ 0)) := rfl
  rw [e, this]
  cases bl.find? (fun y => decide (MK.key y = x.key)) with
  | none => rfl
  | some m =>
    show newRK x m = !decide (_ ≤ 0)
    unfold newRK
    rcases cmpSt_three x.t x.i x.q x.o m.t m.i m.q m.o with h | h | h <;> rw [h] <;> rfl

theorem want_same {al : List RD} {bl : List MK} (ha : Rising lsS (al.map RD.key)) (hb : Rising lsS (bl.map MK.key)) : (pickW MK.key RD.key wantK bl al).map MK.key = wantQ al bl := by
  rw [pickW_filter _ _ _ _ _ hb ha]
  unfold wantQ
  congr 1
  apply List.filter_congr
  intro m _
  have := any_key RD.key m.key (fun x => decide (0 ≤ cmpSt x.t x.i x.q x.o m.t m.i m.q m.o)) ha
  have e : al.any (wKey m) = al.any (fun x => (RD.key x).toList == m.key.toList && decide (0 ≤ cmpSt x.t x.i x.q x.o m.t m.i m.q m.o)) := by
    congr 1; funext x; unfold wKey; rw [BEq.comm]
  rw [e, this]
  cases al.find? (fun y => decide (RD.key y = m.key)) with
  | none => rfl
  | some x =>
    show newKR m x = !decide (0 ≤ _)
    unfold newKR
    rw [cmpSt_turn x.t x.i x.q x.o m.t m.i m.q m.o]
    rcases cmpSt_three x.t x.i x.q x.o m.t m.i m.q m.o with h | h | h <;> rw [h] <;> rfl

theorem pick_same {al : List RD} {kl : List ByteArray} (ha : Rising lsS (al.map RD.key)) (hb : Rising lsS kl) : pickW RD.key idK bothK al kl = pickQ al kl := by
  have hb' : Rising lsS (kl.map idK) := by rw [show kl.map idK = kl from List.map_id kl]; exact hb
  rw [pickW_filter _ _ _ _ _ ha hb']
  unfold pickQ
  apply List.filter_congr
  intro x _
  have := any_key idK x.key (fun _ => true) hb'
  have e : kl.any (fun k => k.toList == x.key.toList) = kl.any (fun k => (idK k).toList == x.key.toList && true) := by
    congr 1; funext k; rw [Bool.and_true]
  rw [e, this]
  cases kl.find? (fun y => decide (idK y = x.key)) with
  | none => rfl
  | some m => rfl

end Go.Proofs.YtpdobbdbmgeoiaaGreat
