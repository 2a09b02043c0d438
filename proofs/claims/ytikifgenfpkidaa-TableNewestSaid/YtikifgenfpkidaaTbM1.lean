/-
  No statement: plain facts on tables: rows that come in the order of their keys; what is swept.
-/
import Derived.Test.YtikifgenfpkidaaTbKn0
set_option linter.unusedVariables false
set_option linter.unusedSimpArgs false
namespace Go.Proofs.Ytikifgenfpkidaa
open Go.RowKit

theorem rise_split {A B : List RD} {x : RD} (h : Rising lsS (kyR (A ++ x :: B))) : (∀ y ∈ A, lsS y.key x.key = true) ∧ (∀ y ∈ B, lsS x.key y.key = true) := by
  unfold kyR Rising at h
  rw [List.map_append, List.map_cons, List.pairwise_append] at h
  obtain ⟨_, h2, h3⟩ := h
  exact ⟨fun y hy => h3 _ (List.mem_map.2 ⟨y, hy, rfl⟩) _ (by simp), fun y hy => (List.pairwise_cons.1 h2).1 _ (List.mem_map.2 ⟨y, hy, rfl⟩)⟩

theorem ls_ne {a b : ByteArray} (h : lsS a b = true) : a ≠ b := fun e => by subst e; rw [strictS.irrefl] at h; cases h

theorem pos_split {A B : List RD} {x : RD} (h : Rising lsS (kyR (A ++ x :: B))) : pos lsS (kyR (A ++ x :: B)) x.key = A.length :=
  pos_of_at strictS h (by simp [kyR])

/-- Without a key: all the others. -/
theorem dropT_filter {L : List RD} (h : Rising lsS (kyR L)) (k : ByteArray) : dropT L k = L.filter (fun x => !decide (x.key = k)) := by
  unfold dropT
  by_cases hk : k ∈ kyR L
  · rw [if_pos ((has_iff _ _).2 hk)]
    obtain ⟨x, hx, rfl⟩ := List.mem_map.1 hk
    obtain ⟨A, B, rfl⟩ := List.append_of_mem hx
    obtain ⟨h1, h2⟩ := rise_split h
    rw [pos_split h, List.eraseIdx_append_of_length_le (Nat.le_refl _), Nat.sub_self, List.eraseIdx_cons_zero, List.filter_append, List.filter_cons_of_neg (by simp)]
    rw [List.filter_eq_self.2 (fun y hy => by simpa using ls_ne (h1 y hy)), List.filter_eq_self.2 (fun y hy => by simpa using fun e => ls_ne (h2 y hy) e.symm)]
  · rw [has_no hk, if_neg (by simp)]
    refine (List.filter_eq_self.2 (fun y hy => ?_)).symm
    simp only [Bool.not_eq_true', decide_eq_false_iff_not]
    rintro rfl
    exact hk (List.mem_map.2 ⟨y, hy, rfl⟩)

theorem rise_filter {L : List RD} (h : Rising lsS (kyR L)) (p : RD → Bool) : Rising lsS (kyR (L.filter p)) := by
  unfold kyR Rising at *
  exact List.Pairwise.sublist (List.Sublist.map _ List.filter_sublist) h

theorem dropsT_filter' : ∀ (G : List ByteArray) {L : List RD}, Rising lsS (kyR L) → dropsT L G = L.filter (fun x => !has G x.key)
  | [], L, _ => (List.filter_eq_self.2 (fun y _ => rfl)).symm
  | g :: r, L, h => by
    show dropsT (dropT L g) r = _
    rw [dropT_filter h, dropsT_filter' r (rise_filter h _), List.filter_filter]
    apply List.filter_congr
    intro x _
    show (!has r x.key && !decide (x.key = g)) = !(decide (g = x.key) || has r x.key)
    rw [Bool.not_or, Bool.and_comm]
    congr 2
    exact decide_eq_decide.2 ⟨fun e => e.symm, fun e => e.symm⟩

theorem rise_inj {L : List RD} (h : Rising lsS (kyR L)) {x y : RD} (hx : x ∈ L) (hy : y ∈ L) (e : x.key = y.key) : x = y := by
  obtain ⟨i, hi⟩ := List.getElem?_of_mem hx
  obtain ⟨j, hj⟩ := List.getElem?_of_mem hy
  have h1 : (kyR L)[i]? = some x.key := by simp [kyR, hi]
  have h2 : (kyR L)[j]? = some x.key := by simp [kyR, hj, e]
  have : i = j := by rw [← pos_of_at strictS h h1, ← pos_of_at strictS h h2]
  subst this
  rw [hi] at hj
  cases hj; rfl

/-- What is left behind a sweep. -/
theorem dropsT_gone {L : List RD} (h : Rising lsS (kyR L)) (d : Int) (keep : ByteArray) : dropsT L (goneT d keep L) = L.filter (fun x => !oldR d keep x) := by
  rw [dropsT_filter' _ h]
  apply List.filter_congr
  intro x hx
  congr 1
  rw [Bool.eq_iff_iff, has_iff]
  unfold goneT
  constructor
  · intro hm
    obtain ⟨y, hy, e⟩ := List.mem_map.1 hm
    obtain ⟨h1, h2⟩ := List.mem_filter.1 hy
    rw [← rise_inj h h1 hx e]; exact h2
  · intro ho
    exact List.mem_map.2 ⟨x, List.mem_filter.2 ⟨hx, ho⟩, rfl⟩

theorem getT_no {L : List RD} {k : ByteArray} (h : k ∉ kyR L) : getT L k = none := by
  unfold getT
  rw [List.find?_eq_none]
  intro x hx e
  exact h (List.mem_map.2 ⟨x, hx, by simpa using e⟩)

/-- A row of a greater key goes to the end. -/
theorem putX_end {most : Int} {L : List RD} {r : RD} (he : errR r = 0) (hl : (L.length : Int) < most) (hk : ∀ y ∈ L, lsS y.key r.key = true) (hr : Rising lsS (kyR L)) : putX most L r = (0, L ++ [twR r]) := by
  have hn : r.key ∉ kyR L := fun h => by
    obtain ⟨y, hy, e⟩ := List.mem_map.1 h
    exact ls_ne (hk y hy) e
  unfold putX
  rw [if_pos he, getT_no hn]
  simp only
  rw [if_pos hl, putT_end (x := twR r)]
  unfold kyR Rising at *
  rw [List.map_append, List.pairwise_append]
  refine ⟨hr, by simp, fun a ha b hb => ?_⟩
  obtain ⟨y, hy, rfl⟩ := List.mem_map.1 ha
  simp only [List.map_cons, List.map_nil, List.mem_singleton] at hb
  subst hb
  exact hk y hy

/-- The keys of the statement's rows. -/
def kyI (i : Nat) : ByteArray := ⟨#[107, UInt8.ofNat (97 + i / 26), UInt8.ofNat (97 + i % 26)]⟩
theorem kyI_all : ((List.range 60).all fun j => goodB (kyI j).data.toList && (List.range j).all fun i => lsS (kyI i) (kyI j)) = true := by kernel_rfl
theorem kyI_lt {i j : Nat} (h : i < j) (hj : j < 60) : lsS (kyI i) (kyI j) = true := by
  have h1 := List.all_eq_true.1 kyI_all j (List.mem_range.2 hj)
  exact List.all_eq_true.1 (Bool.and_eq_true_iff.1 h1).2 i (List.mem_range.2 h)
theorem kyI_good {j : Nat} (hj : j < 60) : goodB (kyI j).data.toList = true := (Bool.and_eq_true_iff.1 (List.all_eq_true.1 kyI_all j (List.mem_range.2 hj))).1

theorem bare_err {i : Nat} (hi : i < 60) {t s : Int} (ht : countB t = true) (hs : countB s = true) : errR (bareR (kyI i) t s) = 0 := by
  unfold errR bareR
  simp only
  rw [kyI_good hi, if_neg (by simp)]
  have hS : errS t 0 s ⟨#[47, 122]⟩ = 0 := by
    unfold errS
    rw [if_pos ht, if_pos (by kernel_rfl), if_pos hs, if_pos (by kernel_rfl)]
  rw [hS, if_pos rfl, if_neg (by omega)]
  rfl

end Go.Proofs.Ytikifgenfpkidaa
