/-
  No statement: the play of attributes: the document's Drop, With, Set, the walk of RowPlays, and the acts that came in.
-/
import Derived.Test.YtgcjfalgngiebaaGreatDoorWKnown
import Derived.Test.YtgcjfalgngiebaaGreatDoorXCheck
import Derived.Test.YtgcjfalgngiebaaGreatDoorXOfA
import Derived.Deep.RegionHeld3
import Derived.Deep.Cut
import Derived.Deep.CutBlock
import Derived.Deep.DeepCutAuto
import Derived.Test.YtgcjfalgngiebaaGreatDoorXSame
import Derived.Test.YtgcjfalgngiebaaGreatDoorTie
import Derived.Test.YtgcjfalgngiebaaGreatDoorVRead
import Derived.ProofKit
import Derived.OpenShut
import Derived.LaidMore
import Derived.Lay
import Derived.SevenTiedAt
import Derived.Stop.Joined
import Derived.Lib.LaidTab
import Derived.Carry
import Derived.Stop.LaidErr
import Derived.Lib.SmallJoins
import Derived.ChangeSlices
import Derived.Deep.Slices
import Derived.Deep.Fields
import Derived.ChangeSame
namespace Go.Proofs.YtgcjfalgngiebaaGreatDoor
open Go.RowKit

/-- The row that Good asks. -/
def rowK (n : Nat) (A : Nat → AD) : RD := ⟨⟨#[107]⟩, 0, 0, 0, ⟨#[47, 97]⟩, n, A⟩

def goodL (n : Nat) (A : Nat → AD) : Bool := fewL n A && decide (errR (rowK n A) = 0)

theorem fewL_all {n : Nat} {A : Nat → AD} (h : fewL n A = true) : n ≤ 40 ∧ ∀ j, j < n → FewA (A j) := by
  unfold fewL fewAs at h
  simp only [Bool.and_eq_true, decide_eq_true_eq, List.all_eq_true] at h
  obtain ⟨h3, h4⟩ := h
  refine ⟨h3, fun j hj => ?_⟩
  have := h4 (A j) (by unfold fromA; exact List.mem_map.2 ⟨j, List.mem_range.2 (by omega), by rw [Nat.zero_add]⟩)
  unfold fewA at this
  simp only [Bool.and_eq_true, decide_eq_true_eq] at this
  unfold FewA
  omega

/-- The names of attributes. -/
def nmA (A : Nat → AD) (n : Nat) : List ByteArray := (List.range n).map fun j => (A j).m

/-- What the document's Get answers. -/
def RGet (w : World) (A : Nat → AD) (n : Nat) (x : ByteArray) (e : Ending) (w' : World) : Prop :=
  (if has (nmA A n) x = true then ∃ j y c, j < n ∧ (A j).m = x ∧ e = .returned (.tuple #[.agg #[.int .i64 (A j).k, .int .i64 (A j).n, .string (A j).s, .slice y (A j).len c], .bool true]) ∧ Reads w' y (A j).len (A j).z
    else e = .returned (.tuple #[.agg #[.int .i64 0, .int .i64 0, .string ⟨#[]⟩, .slice none 0 0], .bool false])) ∧ Below w.heap.size w w'

end Go.Proofs.YtgcjfalgngiebaaGreatDoor

namespace Go.Proofs.YtgcjfalgngiebaaGreatDoor
open Go.RowKit

theorem nmA_has {A : Nat → AD} {n k : Nat} (hk : k < n) {x : ByteArray} (h : (A k).m = x) : has (nmA A n) x = true :=
  (has_iff _ _).2 (List.mem_map.2 ⟨k, List.mem_range.2 hk, h⟩)

theorem nmA_not {A : Nat → AD} {n : Nat} {x : ByteArray} (h : ∀ j, j < n → (A j).m ≠ x) : has (nmA A n) x = false := by
  rw [Bool.eq_false_iff]
  intro hh
  obtain ⟨j, hj, e⟩ := List.mem_map.1 ((has_iff _ _).1 hh)
  exact h j (List.mem_range.1 hj) e

set_option maxRecDepth 100000 in
set_option maxHeartbeats 4000000 in
theorem rGet_any (a : Option Addr) (n c : Nat) (A : Nat → AD) (x : ByteArray) (hn : n ≤ 1000) (w : World) (h : ReadsA w a n A) :
    Calls Tryz.prog 14 #[.slice a n c, .string x] w (RGet w A n x) := by
  have BL : ∀ o, Below w.heap.size w (w.alloc o) := fun o => (Below.refl _ _).alloc (Nat.le_refl _) _
  obtain ⟨W, hW⟩ : ∃ W, w.alloc (.cells #[.int .i64 0, .int .i64 0, .string ⟨#[]⟩, .slice none 0 0] 38) = W := ⟨_, rfl⟩
  have hWb : Below w.heap.size w W := by rw [← hW]; exact BL _
  have hWs : W.heap.size = w.heap.size + 1 := by rw [← hW]; simp
  have hW4 : W.heap[w.heap.size]? = some (.cells #[.int .i64 0, .int .i64 0, .string ⟨#[]⟩, .slice none 0 0] 38 (0, 0)) := by rw [← hW]; exact heap_alloc_new w _
  have HW := Lib.hid hW
  have HX := Lib.hid (And.intro hWb (And.intro hWs hW4))
  have RA := Lib.hid h
  clear hWb hW4 hW hWs h BL
  go_enter Tryz.func14, Tryz.ntmps14
  go_wp2_with fail
  rw [HW.out]
  go_loopw [6] (fun i wr => ∃ k : Nat, i = .int .i64 k ∧ k ≤ n ∧ wr = W ∧ Hid (∀ j, j < k → (A j).m ≠ x)) (fun i _ => n - (intOf i).toNat)
  case atStart => exact ⟨0, rfl, Nat.zero_le _, rfl, Lib.hid (fun j hj => absurd hj (Nat.not_lt_zero _))⟩
  case round =>
    obtain ⟨k, rfl, hk, rfl, hN⟩ := hrel
    by_cases hlt : k < n
    · obtain ⟨b, off, rfl, hc⟩ := RA.out.2.resolve_left (by omega)
      obtain ⟨y, cy, h5, hry⟩ := hc k hlt
      obtain ⟨v, hv⟩ : ∃ v, A k = v := ⟨_, rfl⟩
      rw [hv] at h5 hry
      obtain ⟨d0, d1, d2, d3, d4⟩ := h5.kept HX.out.1
      have hoff : b < w.heap.size := h5.lt
      by_cases he : v.m = x
      · have GP := Lib.hid (p := ∀ w', Below w.heap.size w w' → RGet w A n x (.returned (.tuple #[.agg #[.int .i64 v.k, .int .i64 v.n, .string v.s, .slice y v.len cy], .bool true])) w') (fun w' hb => ⟨by
          rw [if_pos (nmA_has hlt (by rw [hv]; exact he))]
          exact ⟨k, y, cy, hlt, by rw [hv]; exact he, by rw [hv], by rw [hv]; exact hry.kept hb⟩, hb⟩)
        have V := HX.out.2.2
        obtain ⟨⟨c0, c1, c2, c3⟩, ⟨f0, f1, f2, f3⟩⟩ := four V
        have hz := HX.out.2.1
        have he' : (v.m.toList == x.toList) = true := by rw [he]; exact beq_self_eq_true _
        clear hc h5 hry hv V
        have hb4 := Lib.hid (four_below4 HX.out.1 (Nat.le_refl _) (.int .i64 v.k) (.int .i64 v.n) (.string v.s) (.slice y v.len cy))
        go_wp2_with fail
        exact bodyPost_ret (v := .tuple #[.agg #[.int .i64 v.k, .int .i64 v.n, .string v.s, .slice y v.len cy], .bool true]) (by simp [results, Tryz.results14, go_sem, *]) rfl (GP.out _ hb4.out)
      · have he' : (v.m.toList == x.toList) = false := by rw [beq_eq_false_iff_ne]; exact fun h => he (bytes_eq h)
        have HN2 := Lib.hid (p := ∀ j, j < k + 1 → (A j).m ≠ x) (fun j hj => by
          by_cases hjk : j = k
          · subst hjk; rw [hv]; exact he
          · exact hN.out j (by omega))
        clear hc h5 hry hv he
        go_wp2_with fail
        go_roundw
        case rel => exact ⟨k + 1, by go_num, by omega, by trivial, HN2⟩
        case measure => simp [intOf]; omega
    · have HH := Lib.hid (p := has (nmA A n) x = false) (nmA_not (fun j hj => hN.out j (by omega)))
      have GP := Lib.hid (p := ∀ w', Below w.heap.size w w' → RGet w A n x (.returned (.tuple #[.agg #[.int .i64 0, .int .i64 0, .string ⟨#[]⟩, .slice none 0 0], .bool false])) w') (fun w' hb => ⟨by rw [if_neg (by rw [HH.out]; decide)], hb⟩)
      obtain ⟨⟨c0, c1, c2, c3⟩, ⟨f0, f1, f2, f3⟩⟩ := four HX.out.2.2
      have hz := HX.out.2.1
      go_wp2_with fail
      have hb4 := Lib.hid (four_below4 HX.out.1 (Nat.le_refl _) (.int .i64 0) (.int .i64 0) (.string ⟨#[]⟩) (.slice none 0 0))
      exact bodyPost_ret (v := .tuple #[.agg #[.int .i64 0, .int .i64 0, .string ⟨#[]⟩, .slice none 0 0], .bool false]) (by simp [results, Tryz.results14, go_sem, *]) rfl (GP.out _ hb4.out)

end Go.Proofs.YtgcjfalgngiebaaGreatDoor

namespace Go.Proofs.YtgcjfalgngiebaaGreatDoor
open Go.RowKit

/-- An attribute that keeps the document. -/
def OkA (x : AD) : Prop := FewA x ∧ goodB x.m.data.toList = true ∧ errV x.k x.s x.len x.z = 0
/-- Attributes that keep the document. -/
def OkL (L : List AD) : Prop := L.length ≤ 32 ∧ (∀ x ∈ L, OkA x) ∧ Rising lsS (nmD L)

theorem errAs_iff : ∀ (L : List AD) (p : ByteArray), errAs p L = 0 ↔ (∀ x ∈ L, goodB x.m.data.toList = true ∧ errV x.k x.s x.len x.z = 0) ∧ Rising lsS (p :: nmD L)
  | [], p => by simp [errAs, nmD, Rising]
  | x :: r, p => by
    have ih := errAs_iff r x.m
    have hA : errA p x = 0 ↔ (goodB x.m.data.toList = true ∧ errV x.k x.s x.len x.z = 0) ∧ lsS p x.m = true := by
      unfold errA
      by_cases h1 : goodB x.m.data.toList = false
      · rw [if_pos h1, h1]; simp
      · rw [if_neg h1]
        have h1' : goodB x.m.data.toList = true := by simpa using h1
        by_cases h2 : lsS p x.m = false
        · rw [if_pos h2, h2]; simp
        · rw [if_neg h2]
          have h2' : lsS p x.m = true := by simpa using h2
          rw [h1', h2']; simp
    have hE : errAs p (x :: r) = 0 ↔ errA p x = 0 ∧ errAs x.m r = 0 := by
      show (if errA p x = 0 then errAs x.m r else errA p x) = 0 ↔ _
      by_cases h : errA p x = 0
      · rw [if_pos h]; exact ⟨fun h' => ⟨h, h'⟩, fun h' => h'.2⟩
      · rw [if_neg h]; exact ⟨fun h' => absurd h' h, fun h' => absurd h'.1 h⟩
    rw [hE, hA, ih]
    have hR : Rising lsS (p :: nmD (x :: r)) ↔ lsS p x.m = true ∧ Rising lsS (x.m :: nmD r) := by
      show List.Pairwise _ (p :: x.m :: nmD r) ↔ _
      rw [List.pairwise_cons]
      constructor
      · intro ⟨h1, h2⟩; exact ⟨h1 _ (List.Mem.head _), h2⟩
      · intro ⟨h1, h2⟩
        refine ⟨fun y hy => ?_, h2⟩
        rcases List.mem_cons.1 hy with rfl | hy
        · exact h1
        · exact strictS.trans _ _ _ h1 ((List.pairwise_cons.1 h2).1 y hy)
    rw [hR]
    constructor
    · rintro ⟨⟨h1, h2⟩, h3, h4⟩
      refine ⟨fun y hy => ?_, h2, h4⟩
      rcases List.mem_cons.1 hy with rfl | hy
      · exact h1
      · exact h3 y hy
    · rintro ⟨h1, h2, h3⟩
      exact ⟨⟨h1 x (List.Mem.head _), h2⟩, fun y hy => h1 y (List.Mem.tail _ hy), h3⟩

theorem errS_k : errS 0 0 0 ⟨#[47, 97]⟩ = 0 := by kernel_rfl
theorem good_k : goodB [107] = true := by decide

theorem errR_k (n : Nat) (A : Nat → AD) : errR (rowK n A) = if 32 < n then 4 else errAs ⟨#[]⟩ (fromA A n 0) := by
  show (if goodB [107] = false then (5 : Int) else if errS 0 0 0 ⟨#[47, 97]⟩ = 0 then (if 32 < n then 4 else errAs ⟨#[]⟩ (fromA A n 0)) else errS 0 0 0 ⟨#[47, 97]⟩) = _
  rw [good_k, errS_k]; simp

theorem fromA_len (A : Nat → AD) (n : Nat) : (fromA A n 0).length = n := by simp [fromA]

theorem goodL_iff (n : Nat) (A : Nat → AD) : goodL n A = true ↔ OkL (fromA A n 0) := by
  unfold goodL OkL fewL fewAs
  rw [errR_k, fromA_len]
  simp only [Bool.and_eq_true, decide_eq_true_eq, List.all_eq_true]
  constructor
  · rintro ⟨⟨h1, h2⟩, h3⟩
    by_cases h : 32 < n
    · rw [if_pos h] at h3; cases h3
    · rw [if_neg h] at h3
      obtain ⟨h4, h5⟩ := (errAs_iff _ _).1 h3
      refine ⟨by omega, fun x hx => ⟨?_, h4 x hx⟩, (List.pairwise_cons.1 h5).2⟩
      have := h2 x hx
      unfold fewA at this
      simp only [Bool.and_eq_true, decide_eq_true_eq] at this
      unfold FewA; omega
  · rintro ⟨h1, h2, h3⟩
    refine ⟨⟨by omega, fun x hx => ?_⟩, ?_⟩
    · have := (h2 x hx).1
      unfold FewA at this
      unfold fewA
      simp only [Bool.and_eq_true, decide_eq_true_eq]
      omega
    · rw [if_neg (by omega), errAs_iff]
      refine ⟨fun x hx => (h2 x hx).2, List.pairwise_cons.2 ⟨fun y hy => ?_, h3⟩⟩
      obtain ⟨x, hx, rfl⟩ := List.mem_map.1 hy
      exact lsS_empty (h2 x hx).2.1

theorem twA_twA (x : AD) : twA (twA x) = twA x := by
  unfold twA twN twS twL
  simp only
  congr 1 <;> split <;> rfl

theorem twA_ok {x : AD} (h : OkA x) : OkA (twA x) := by
  obtain ⟨⟨h1, h2, h3⟩, h4, h5⟩ := h
  refine ⟨⟨h1, ?_, ?_⟩, h4, ?_⟩
  · show (twS x.k x.s).size ≤ 200
    unfold twS; split
    · exact h2
    · show (0 : Nat) ≤ 200; omega
  · show twL x.k x.len ≤ 40
    unfold twL; split <;> omega
  · show errV x.k (twS x.k x.s) (twL x.k x.len) x.z = 0
    unfold errV twS twL at *
    by_cases k1 : x.k = 1
    · rw [if_pos k1]
    · rw [if_neg k1] at h5 ⊢
      by_cases k2 : x.k = 2
      · rw [if_pos k2] at h5 ⊢; rw [if_pos k2]; exact h5
      · rw [if_neg k2] at h5 ⊢
        by_cases k3 : x.k = 3
        · rw [if_pos k3] at h5 ⊢; rw [if_pos k3]; exact h5
        · rw [if_neg k3] at h5; cases h5

theorem cmpL_selfY : ∀ l, cmpL l l = 0
  | [] => rfl
  | a :: r => by unfold cmpL; rw [if_pos (cmpI_self a)]; exact cmpL_selfY r

/-- A twin is the same value. -/
theorem cmpV_tw (x : AD) : cmpV (twA x).k (twA x).n (twA x).s (twA x).len (twA x).z x.k x.n x.s x.len x.z = 0 := by
  show cmpV x.k (twN x.k x.n) (twS x.k x.s) (twL x.k x.len) x.z x.k x.n x.s x.len x.z = 0
  unfold cmpV twN twS twL
  rw [if_pos rfl]
  by_cases k1 : x.k = 1
  · rw [if_pos k1, if_pos k1]; exact cmpI_self _
  · rw [if_neg k1]
    by_cases k2 : x.k = 2
    · rw [if_pos k2, if_pos k2]; exact cmpS_self _
    · rw [if_neg k2]
      by_cases k3 : x.k = 3
      · rw [if_pos k3, if_pos k3]; exact cmpL_selfY _
      · rw [if_neg k3]

theorem nmD_len (L : List AD) : (nmD L).length = L.length := by simp [nmD]
theorem nmD_get {L : List AD} {i : Nat} (hi : i < L.length) : (nmD L)[i]? = some (L[i]).m := by simp [nmD, List.getElem?_eq_getElem hi]

theorem nmD_put {D : List AD} (hr : Rising lsS (nmD D)) (x : AD) : nmD (putD D x) = putK lsS (nmD D) x.m := by
  unfold putD putK
  by_cases h : has (nmD D) x.m = true
  · rw [if_pos h, if_pos h]
    have hp := (mem_iff_pos strictS hr).1 ((has_iff _ _).1 h)
    unfold nmD at *
    rw [List.map_set]
    apply List.ext_getElem?
    intro j
    rw [List.getElem?_set]
    split
    · rename_i hj
      subst hj
      rw [hp, if_pos (List.getElem?_eq_some_iff.1 hp).1]
    · rfl
  · rw [if_neg h, if_neg h]
    simp [nmD, List.map_take, List.map_drop]

theorem mem_putD {D : List AD} {e x : AD} (h : x ∈ putD D e) : x ∈ D ∨ x = e := by
  unfold putD at h
  split at h
  · exact List.mem_or_eq_of_mem_set h
  · rcases List.mem_append.1 h with h | h
    · exact .inl (List.mem_of_mem_take h)
    · rcases List.mem_cons.1 h with h | h
      · exact .inr h
      · exact .inl (List.mem_of_mem_drop h)

/-- What is put is there. -/
theorem put_at {D : List AD} (hr : Rising lsS (nmD D)) (x : AD) : x ∈ putD D x := by
  unfold putD
  split
  · rename_i h
    have hp := (List.getElem?_eq_some_iff.1 ((mem_iff_pos strictS hr).1 ((has_iff _ _).1 h))).1
    rw [nmD_len] at hp
    exact List.mem_iff_getElem.2 ⟨pos lsS (nmD D) x.m, by rw [List.length_set]; exact hp, by simp⟩
  · exact List.mem_append_right _ (List.Mem.head _)

/-- Others stay. -/
theorem put_other {D : List AD} (hr : Rising lsS (nmD D)) (x : AD) {y : AD} (hy : y ∈ D) (hne : y.m ≠ x.m) : y ∈ putD D x := by
  unfold putD
  split
  · rename_i h
    obtain ⟨i, hi, rfl⟩ := List.mem_iff_getElem.1 hy
    have hp := (mem_iff_pos strictS hr).1 ((has_iff _ _).1 h)
    refine List.mem_iff_getElem.2 ⟨i, by rw [List.length_set]; exact hi, ?_⟩
    rw [List.getElem_set, if_neg]
    intro e
    subst e
    apply hne
    have h2 := nmD_get hi
    rw [h2] at hp
    exact Option.some.inj hp
  · have : y ∈ D.take (pos lsS (nmD D) x.m) ++ D.drop (pos lsS (nmD D) x.m) := by rw [List.take_append_drop]; exact hy
    rcases List.mem_append.1 this with h | h
    · exact List.mem_append_left _ h
    · exact List.mem_append_right _ (List.Mem.tail _ h)

/-- A name tells the attribute. -/
theorem one_name {L : List AD} (hr : Rising lsS (nmD L)) {y z : AD} (hy : y ∈ L) (hz : z ∈ L) (h : y.m = z.m) : y = z := by
  obtain ⟨i, hi, rfl⟩ := List.mem_iff_getElem.1 hy
  obtain ⟨j, hj, rfl⟩ := List.mem_iff_getElem.1 hz
  have e1 : (nmD L)[i]? = some (L[i]).m := by rw [nmD, List.getElem?_map, List.getElem?_eq_getElem hi]; rfl
  have e2 : (nmD L)[j]? = some (L[j]).m := by rw [nmD, List.getElem?_map, List.getElem?_eq_getElem hj]; rfl
  have p1 := pos_of_at strictS hr e1
  have p2 := pos_of_at strictS hr e2
  rw [h, p2] at p1
  subst p1
  rfl

/-- What a name leads to. -/
theorem at_name {L : List AD} (hr : Rising lsS (nmD L)) {y : AD} (hy : y ∈ L) : has (nmD L) y.m = true ∧ atD L (pos lsS (nmD L) y.m) = y := by
  have hm : y.m ∈ nmD L := List.mem_map.2 ⟨y, hy, rfl⟩
  refine ⟨(has_iff _ _).2 hm, ?_⟩
  have hp := (mem_iff_pos strictS hr).1 hm
  obtain ⟨hi, _⟩ := List.getElem?_eq_some_iff.1 hp
  rw [nmD_len] at hi
  have e1 := nmD_get hi
  rw [e1] at hp
  have : L[pos lsS (nmD L) y.m] = y := one_name hr (List.getElem_mem hi) hy (Option.some.inj hp)
  rw [atD, List.getD_eq_getElem?_getD, List.getElem?_eq_getElem hi, this]; rfl

theorem put_ok {D : List AD} (h : OkL D) {x : AD} (hx : OkA x) (hl : has (nmD D) x.m = true ∨ D.length < 32) : OkL (putD D x) := by
  obtain ⟨h1, h2, h3⟩ := h
  refine ⟨?_, fun y hy => ?_, ?_⟩
  · rw [putD_len]; split
    · exact h1
    · rcases hl with hl | hl
      · contradiction
      · omega
  · rcases mem_putD hy with hy | rfl
    · exact h2 y hy
    · exact hx
  · rw [nmD_put h3]; exact rising_putK strictS h3 _

/-- Dropped again, and never there ahead: what was. -/
theorem drop_put {D : List AD} (hr : Rising lsS (nmD D)) (x : AD) (hn : has (nmD D) x.m = false) : dropD (putD D x) x.m = D := by
  have hp : pos lsS (nmD (putD D x)) x.m = pos lsS (nmD D) x.m := by rw [nmD_put hr]; exact pos_putK strictS _ _
  have hh : has (nmD (putD D x)) x.m = true := by rw [nmD_put hr]; exact (has_iff _ _).2 ((mem_putK _ _ _).2 (.inr rfl))
  have hl : pos lsS (nmD D) x.m ≤ D.length := by have := pos_le (less := lsS) (nmD D) x.m; rwa [nmD_len] at this
  unfold dropD
  rw [if_pos hh, hp]
  unfold putD
  rw [if_neg (by rw [hn]; decide), List.eraseIdx_append_of_length_le (by rw [List.length_take]; omega)]
  rw [List.length_take, Nat.min_eq_left hl, Nat.sub_self, List.eraseIdx_cons_zero, List.take_append_drop]

theorem nmD_tw (L : List AD) : nmD (L.map twA) = nmD L := by simp [nmD, twA]

theorem tw_ok {L : List AD} (h : OkL L) : OkL (L.map twA) := by
  obtain ⟨h1, h2, h3⟩ := h
  refine ⟨by simpa using h1, fun y hy => ?_, by rwa [nmD_tw]⟩
  obtain ⟨x, hx, rfl⟩ := List.mem_map.1 hy
  exact twA_ok (h2 x hx)

theorem twsA_map (A : Nat → AD) (n : Nat) : twsA A n = (fromA A n 0).map twA := by simp [twsA, fromA]

theorem rise_of {A : Nat → AD} {n : Nat} (h : Rising lsS (nmD (fromA A n 0))) : RiseA A n := by
  intro i j hij hj
  have e : ∀ k, k < n → (nmD (fromA A n 0))[k]? = some (A k).m := fun k hk => by
    rw [nmD, fromA, List.map_map, List.getElem?_map, List.getElem?_range (by omega)]; simp
  exact rising_at h hij (e i (by omega)) (e j hj)

theorem fromA_atD (D : List AD) : fromA (atD D) D.length 0 = D := by
  apply List.ext_getElem
  · simp [fromA]
  · intro i h1 h2
    simp [fromA, atD, List.getElem?_eq_getElem h2]

theorem sameAD_tw (x : AD) : sameAD (twA x) x = true := by
  unfold sameAD
  rw [cmpV_tw]
  show ((x.m.toList == x.m.toList) && _) = true
  simp

theorem sameAs_tw : ∀ L : List AD, sameAs (L.map twA) L = true
  | [] => rfl
  | x :: r => by
    show (sameAD (twA x) x && sameAs (r.map twA) r) = true
    rw [sameAD_tw, sameAs_tw r]; rfl

theorem sameL_tw (A : Nat → AD) (n : Nat) : sameL (twsA A n).length n (atD (twsA A n)) A = true := by
  unfold sameL
  rw [fromA_atD, twsA_map, sameAs_tw, List.length_map, fromA_len]
  simp

end Go.Proofs.YtgcjfalgngiebaaGreatDoor

namespace Go.Proofs.YtgcjfalgngiebaaGreatDoor
open Go.RowKit

/-- What the walk keeps: the attributes, the value. -/
structure KS (w0 w : World) (a : Option Addr) (n : Nat) (A : Nat → AD) (x : AD) (y : Option Addr) (cy : Nat) : Prop where
  bw : Below w0.heap.size w0 w
  ra : ReadsA w a n A
  ry : Reads w y x.len x.z
  h : w.heap[w0.heap.size]? = some (.cells #[.int .i64 x.k, .int .i64 x.n, .string x.s, .slice y x.len cy] 28 (0, 0))

theorem KS.kept {w0 w w' : World} {a : Option Addr} {n : Nat} {A : Nat → AD} {x : AD} {y : Option Addr} {cy : Nat} (h : KS w0 w a n A x y cy) (hb : Below w.heap.size w w') : KS w0 w' a n A x y cy :=
  ⟨h.bw.trans (hb.mono h.bw.size), h.ra.kept hb, h.ry.kept hb, (hb.block _ (lt_of_block h.h)).trans h.h⟩

/-- Attributes that are their own twins. -/
def TwL (M : List AD) : Prop := M.map twA = M ∧ OkL M

theorem ok_len {M : List AD} (h : OkL M) : ∀ j, j < M.length → (atD M j).len ≤ 1000000 := fun j hj => by
  have := (h.2.1 (atD M j) (by rw [atD, List.getD_eq_getElem?_getD, List.getElem?_eq_getElem hj]; exact List.getElem_mem hj)).1.2.2
  omega

theorem ok_rise {M : List AD} (h : OkL M) : RiseA (atD M) M.length := rise_of (by rw [fromA_atD]; exact h.2.2)

/-- Get of what is there. -/
theorem getM_any (a : Option Addr) (c : Nat) {M : List AD} (hM : TwL M) {v : AD} (hv : v ∈ M) (w : World) (h : ReadsA w a M.length (atD M)) :
    Calls Tryz.prog 13 #[.slice a M.length c, .string v.m] w fun e w' =>
      (∃ a' c', e = .returned (.tuple #[.agg #[.int .i64 v.k, .int .i64 v.n, .string v.s, .slice a' v.len c'], .bool true]) ∧ Reads w' a' v.len v.z) ∧ Below w.heap.size w w' := by
  obtain ⟨h1, h2⟩ := hM
  have hl := h2.1
  refine (getL_any a M.length c (atD M) v.m (by omega) (ok_len h2) (ok_rise h2) w h).mono ?_
  rintro e w' ⟨he, hb⟩
  obtain ⟨g1, g2⟩ := at_name h2.2.2 hv
  have hT : twsA (atD M) M.length = M := by rw [twsA_atD, h1]
  rw [hT, if_pos g1] at he
  obtain ⟨u, a', c', hp, hu, he, hr⟩ := he
  have hu' : u = v := hu.symm.trans g2
  subst hu'
  have ht : twA u = u := by
    obtain ⟨i, hi, e1⟩ := List.mem_iff_getElem.1 hv
    have e2 : (M.map twA)[i]? = M[i]? := by rw [h1]
    rw [List.getElem?_map, List.getElem?_eq_getElem hi, e1] at e2
    exact Option.some.inj e2
  have t1 : twN u.k u.n = u.n := congrArg AD.n ht
  have t2 : twS u.k u.s = u.s := congrArg AD.s ht
  have t3 : twL u.k u.len = u.len := congrArg AD.len ht
  rw [t1, t2, t3] at he
  rw [t3] at hr
  exact ⟨⟨a', c', he, hr⟩, hb⟩

/-- Drop of what is there. -/
theorem dropM_any (a : Option Addr) (c : Nat) {M : List AD} (hM : TwL M) {v : AD} (hv : v ∈ M) (w : World) (h : ReadsA w a M.length (atD M)) :
    Calls Tryz.prog 11 #[.slice a M.length c, .string v.m] w fun e w' =>
      (∃ a' c', e = .returned (.tuple #[.slice a' (dropD M v.m).length c', .bool true]) ∧ ReadsA w' a' (dropD M v.m).length (atD (dropD M v.m))) ∧ Below w.heap.size w w' := by
  obtain ⟨h1, h2⟩ := hM
  have hl := h2.1
  refine (dropL_any a M.length c (atD M) v.m (by omega) (ok_len h2) (ok_rise h2) w h).mono ?_
  rintro e w' ⟨⟨a', c', he, hr⟩, hb⟩
  obtain ⟨g1, g2⟩ := at_name h2.2.2 hv
  have hT : twsA (atD M) M.length = M := by rw [twsA_atD, h1]
  rw [hT] at he hr
  rw [g1] at he
  exact ⟨⟨a', c', he, hr⟩, hb⟩

theorem map_putD (D : List AD) (x : AD) : (putD D x).map twA = putD (D.map twA) (twA x) := by
  have hm : (twA x).m = x.m := rfl
  unfold putD
  rw [nmD_tw, hm]
  split
  · rw [List.map_set]
  · rw [List.map_append, List.map_cons, List.map_take, List.map_drop]

theorem map_tw_tw (L : List AD) : (L.map twA).map twA = L.map twA := by
  rw [List.map_map]; apply List.map_congr_left; intro x _; exact twA_twA x

/-- What Set makes. -/
theorem set_tw {A : Nat → AD} {n : Nat} (hL : OkL (fromA A n 0)) {x : AD} (hx : FewA x) (he : errSet (twsA A n) x = 0) : TwL (putD (twsA A n) (twA x)) ∧ OkA x := by
  have hD := tw_ok hL
  rw [← twsA_map] at hD
  unfold errSet at he
  by_cases h1 : goodB x.m.data.toList = false
  · rw [if_pos h1] at he; cases he
  rw [if_neg h1] at he
  have h1' : goodB x.m.data.toList = true := by simpa using h1
  by_cases h2 : errV x.k x.s x.len x.z = 0
  · rw [if_pos h2] at he
    have hok : OkA x := ⟨hx, h1', h2⟩
    have hl : has (nmD (twsA A n)) x.m = true ∨ (twsA A n).length < 32 := by
      by_cases h3 : has (nmD (twsA A n)) x.m = false ∧ 32 ≤ (twsA A n).length
      · rw [if_pos h3] at he; cases he
      · by_cases h4 : has (nmD (twsA A n)) x.m = true
        · exact .inl h4
        · refine .inr (Nat.lt_of_not_le fun h5 => h3 ⟨by simpa using h4, h5⟩)
    refine ⟨⟨?_, put_ok hD (twA_ok hok) hl⟩, hok⟩
    rw [map_putD, twA_twA, twsA_map, map_tw_tw]
  · rw [if_neg h2] at he; exact absurd he h2

/-- What lies there when an attribute was set. -/
theorem put_rest {A : Nat → AD} {n : Nat} (hL : OkL (fromA A n 0)) (x : AD) : twA x ∈ putD (twsA A n) (twA x) ∧ (∀ j, j < n → (A j).m ≠ x.m → twA (A j) ∈ putD (twsA A n) (twA x)) ∧
    (has (nmA A n) x.m = false → sameL (dropD (putD (twsA A n) (twA x)) x.m).length n (atD (dropD (putD (twsA A n) (twA x)) x.m)) A = true) := by
  have hD := (tw_ok hL).2.2
  rw [← twsA_map] at hD
  refine ⟨put_at hD _, fun j hj hne => put_other hD _ (by unfold twsA; exact List.mem_map.2 ⟨j, List.mem_range.2 hj, rfl⟩) hne, fun hn => ?_⟩
  have e : nmD (twsA A n) = nmA A n := by simp [nmD, nmA, twsA, twA]
  have := drop_put hD (twA x) (by rw [e]; exact hn)
  rw [show (twA x).m = x.m from rfl] at this
  rw [this]
  exact sameL_tw A n

theorem okL_len {A : Nat → AD} {n : Nat} (hL : OkL (fromA A n 0)) : n ≤ 32 ∧ ∀ j, j < n → OkA (A j) :=
  ⟨by have := hL.1; rwa [fromA_len] at this, fun j hj => hL.2.1 (A j) (by unfold fromA; exact List.mem_map.2 ⟨j, List.mem_range.2 (by omega), by rw [Nat.zero_add]⟩)⟩

/-- Set of attributes that keep the document. -/
theorem setS_any (a : Option Addr) (n c : Nat) (A : Nat → AD) (x : AD) (y : Option Addr) (cy : Nat) (hL : OkL (fromA A n 0)) (hx : FewA x) (w : World) (h : ReadsA w a n A) (hy : Reads w y x.len x.z) :
    Calls Tryz.prog 7 #[.slice a n c, .string x.m, .agg #[.int .i64 x.k, .int .i64 x.n, .string x.s, .slice y x.len cy]] w (SetPost w (twsA A n) x) := by
  obtain ⟨h1, h2⟩ := okL_len hL
  obtain ⟨x1, x2, x3⟩ := hx
  exact setL_any a n c A x y cy (by omega) (fun j hj => by have := (h2 j hj).1.2.2; omega) (rise_of hL.2.2) (by omega) (by omega) (by omega) w h hy

theorem setOk_any (a : Option Addr) (n c : Nat) (A : Nat → AD) (x : AD) (y : Option Addr) (cy : Nat) (hL : OkL (fromA A n 0)) (hx : FewA x) {M : List AD} (he : errSet (twsA A n) x = 0) (hM : putD (twsA A n) (twA x) = M) (w : World) (h : ReadsA w a n A) (hy : Reads w y x.len x.z) :
    Calls Tryz.prog 7 #[.slice a n c, .string x.m, .agg #[.int .i64 x.k, .int .i64 x.n, .string x.s, .slice y x.len cy]] w fun e w' => (∃ a c, e = .returned (.tuple #[.slice a M.length c, .int .i64 0]) ∧ ReadsA w' a M.length (atD M)) ∧ Below w.heap.size w w' := by
  refine (setS_any a n c A x y cy hL hx w h hy).mono ?_
  rintro e w' ⟨h, hb⟩
  rw [if_pos he, hM] at h
  exact ⟨h, hb⟩

theorem setBad_any (a : Option Addr) (n c : Nat) (A : Nat → AD) (x : AD) (y : Option Addr) (cy : Nat) (hL : OkL (fromA A n 0)) (hx : FewA x) {E : Int} (he : errSet (twsA A n) x = E) (h0 : ¬ E = 0) (w : World) (h : ReadsA w a n A) (hy : Reads w y x.len x.z) :
    Calls Tryz.prog 7 #[.slice a n c, .string x.m, .agg #[.int .i64 x.k, .int .i64 x.n, .string x.s, .slice y x.len cy]] w fun e w' => e = .returned (.tuple #[.slice none 0 0, .int .i64 E]) ∧ Below w.heap.size w w' := by
  refine (setS_any a n c A x y cy hL hx w h hy).mono ?_
  rintro e w' ⟨h, hb⟩
  rw [he, if_neg h0] at h
  exact ⟨h, hb⟩

/-- Same of two values that are alike. -/
theorem sameY_any (u x : AD) (h0 : cmpV u.k u.n u.s u.len u.z x.k x.n x.s x.len x.z = 0) (a1 : Option Addr) (c1 : Nat) (a2 : Option Addr) (c2 : Nat) (w : World) (h1 : Reads w a1 u.len u.z) (h2 : Reads w a2 x.len x.z) :
    Calls Tryz.prog 63 #[.agg #[.int .i64 u.k, .int .i64 u.n, .string u.s, .slice a1 u.len c1], .agg #[.int .i64 x.k, .int .i64 x.n, .string x.s, .slice a2 x.len c2]] w fun e w' => e = .returned (.bool true) ∧ Below w.heap.size w w' := by
  have := same_any u.k u.n u.s a1 u.len c1 u.z x.k x.n x.s a2 x.len c2 x.z w h1 h2
  rw [h0] at this
  exact this

theorem drewB (w : World) : Below w.heap.size w w.drew := ⟨rfl, rfl, rfl, Nat.le_refl _, fun _ _ => rfl⟩

theorem drewNB (w : World) (m : Nat) : Below w.heap.size w (w.drewN m) := ⟨rfl, rfl, rfl, Nat.le_refl _, fun _ _ => rfl⟩

end Go.Proofs.YtgcjfalgngiebaaGreatDoor

namespace Go.Proofs.YtgcjfalgngiebaaGreatDoor
open Go.RowKit

/-- Attributes with where their lists lie, as cells. -/
def cellsT (T : List (AD × Option Addr × Nat)) : List Value := T.flatMap fun t => fiveL t.1 t.2.1 t.2.2

theorem cellsT_snoc (T : List (AD × Option Addr × Nat)) (t : AD × Option Addr × Nat) : cellsT (T ++ [t]) = cellsT T ++ fiveL t.1 t.2.1 t.2.2 := by
  simp [cellsT]

theorem cellsT_A (T : List (AD × Option Addr × Nat)) (d : AD × Option Addr × Nat) : ∀ k, k ≤ T.length → cellsA (fun j => (T.getD j d).1) (fun j => (T.getD j d).2.1) (fun j => (T.getD j d).2.2) k = cellsT (T.take k)
  | 0, _ => by simp [cellsA, cellsT]
  | k + 1, h => by
    rw [cellsA, cellsT_A T d k (by omega), List.take_add_one, List.getElem?_eq_getElem (by omega)]
    show _ = cellsT (T.take k ++ [T[k]])
    rw [cellsT_snoc]
    simp [List.getD, List.getElem?_eq_getElem (show k < T.length by omega)]

theorem readsT_own {w : World} {base : Nat} {e : TypeId} {v : Value} {T : List (AD × Option Addr × Nat)} (h : w.ownsRow base e 5 v T.length (cellsT T)) (hr : ∀ t ∈ T, Reads w t.2.1 t.1.len t.1.z) :
    ∃ a c, v = .slice a T.length c ∧ ReadsA w a T.length (atD (T.map (·.1))) := by
  have hc := cellsT_A T (dA, none, 0) T.length (Nat.le_refl _)
  rw [List.take_length] at hc
  rw [← hc] at h
  obtain ⟨a, c, e, hA⟩ := readsA_own h (fun j hj => by
    show Reads w (T.getD j (dA, none, 0)).2.1 (T.getD j (dA, none, 0)).1.len (T.getD j (dA, none, 0)).1.z
    rw [List.getD_eq_getElem?_getD, List.getElem?_eq_getElem hj]
    exact hr _ (List.getElem_mem hj))
  refine ⟨a, c, e, ?_⟩
  have : (fun j => (T.getD j (dA, none, 0)).1) = atD (T.map (·.1)) := by
    funext j
    simp [atD, List.getD_eq_getElem?_getD, List.getElem?_map]
    cases T[j]? <;> rfl
  rwa [this] at hA

theorem own_len {w : World} {base : Nat} {e : TypeId} {size : Nat} {v : Value} {n : Nat} {xs : List Value} (h : w.ownsRow base e size v n xs) : ∃ a c, v = .slice a n c ∧ n ≤ c ∧ c ≤ maxLen := by
  rcases h.2 with ⟨h, h'⟩ | ⟨g, cap, _, h, _, _, hnc, hcm, _⟩
  · exact ⟨none, 0, by rw [h, h'], by omega, Nat.zero_le _⟩
  · exact ⟨_, _, h, hnc, hcm⟩

/-- What is kept. -/
def keepT (A : Nat → AD) (Y : Nat → Option Addr) (C : Nat → Nat) (x : ByteArray) (k : Nat) : List (AD × Option Addr × Nat) := ((List.range k).filter fun j => decide ((A j).m ≠ x)).map fun j => (A j, Y j, C j)

theorem keepT_in (A : Nat → AD) (Y : Nat → Option Addr) (C : Nat → Nat) (x : ByteArray) (k : Nat) (h : (A k).m ≠ x) : keepT A Y C x (k + 1) = keepT A Y C x k ++ [(A k, Y k, C k)] := by
  simp [keepT, List.range_succ, h]
theorem keepT_out (A : Nat → AD) (Y : Nat → Option Addr) (C : Nat → Nat) (x : ByteArray) (k : Nat) (h : (A k).m = x) : keepT A Y C x (k + 1) = keepT A Y C x k := by
  simp [keepT, List.range_succ, h]
theorem keepT_len (A : Nat → AD) (Y : Nat → Option Addr) (C : Nat → Nat) (x : ByteArray) (k : Nat) : (keepT A Y C x k).length ≤ k := by
  have := List.length_filter_le (fun j => decide ((A j).m ≠ x)) (List.range k)
  simpa [keepT] using this

/-- What the document's Drop keeps. -/
def fltA (L : List AD) (x : ByteArray) : List AD := L.filter fun y => decide (y.m ≠ x)

theorem keepT_map (A : Nat → AD) (Y : Nat → Option Addr) (C : Nat → Nat) (x : ByteArray) (k : Nat) : (keepT A Y C x k).map (·.1) = fltA (fromA A k 0) x := by
  simp only [keepT, fltA, fromA, List.map_map, Nat.sub_zero, Nat.zero_add, List.filter_map]
  rfl

theorem flt_lt (L : List AD) (x : ByteArray) : decide ((fltA L x).length < L.length) = has (nmD L) x := by
  have hle := List.length_filter_le (fun y : AD => decide (y.m ≠ x)) L
  by_cases h : has (nmD L) x = true
  · rw [h, decide_eq_true_eq]
    obtain ⟨y, hy, e⟩ := List.mem_map.1 ((has_iff _ _).1 h)
    refine Nat.lt_of_le_of_ne hle fun e2 => ?_
    have := List.length_filter_eq_length_iff.1 e2 y hy
    simp [e] at this
  · have h' : has (nmD L) x = false := by simpa using h
    rw [h', decide_eq_false_iff_not, Nat.not_lt]
    refine Nat.le_of_eq (Eq.symm (List.length_filter_eq_length_iff.2 fun y hy => ?_))
    simp only [ne_eq, decide_not, Bool.not_eq_true', decide_eq_false_iff_not]
    exact fun e => h ((has_iff _ _).2 (List.mem_map.2 ⟨y, hy, e⟩))

/-- What the document's Drop answers. -/
def RDropPost (w : World) (A : Nat → AD) (n : Nat) (x : ByteArray) (e : Ending) (w' : World) : Prop :=
  (∃ v T, e = .returned (.tuple #[v, .bool (has (nmD (fromA A n 0)) x)]) ∧ T.map (·.1) = fltA (fromA A n 0) x ∧ w'.ownsRow w.heap.size 63 5 v T.length (cellsT T) ∧ ∀ t ∈ T, Reads w' t.2.1 t.1.len t.1.z) ∧ Below w.heap.size w w'

set_option maxRecDepth 100000 in
set_option maxHeartbeats 4000000 in
theorem rDrop_any (a : Option Addr) (n c : Nat) (A : Nat → AD) (x : ByteArray) (hn : n ≤ 1000) (w : World) (h : ReadsA w a n A) :
    Calls Tryz.prog 12 #[.slice a n c, .string x] w (RDropPost w A n x) := by
  obtain ⟨i0, hi, hz0, hz1, hz2⟩ := info_parts ofInfo
  have und : Tryz.prog.underlying 25 = some (.slice 63) := Tryz.underlying25
  by_cases h0 : n = 0
  · subst h0
    clear h
    have P := Lib.hid (p := RDropPost w A 0 x (.returned (.tuple #[.slice none 0 0, .bool false])) w) ⟨⟨.slice none 0 0, [], rfl, rfl, World.ownsRow_nil _ _ _ _, fun t ht => by simp at ht⟩, Below.refl _ _⟩
    go_enter Tryz.func12, Tryz.ntmps12
    go_wp2_with fail
    go_loop [6, 7] (fun v i => v = .slice none 0 0 ∧ i = .int .i64 0) (fun _ _ => 0)
    case atStart => exact ⟨rfl, rfl⟩
    case round =>
      obtain ⟨rfl, rfl⟩ := hrel
      go_wp2_with fail
      go_ret2
      exact P.out
  obtain ⟨-, h1⟩ := h
  obtain ⟨b, off, rfl, hc⟩ := h1.resolve_left h0
  obtain ⟨Y, hY⟩ := Go.Deep.choose_lt hc
  obtain ⟨C, hC⟩ := Go.Deep.choose_lt hY
  have HC := Lib.hid hC
  clear hc hY hC h0
  go_enter Tryz.func12, Tryz.ntmps12
  go_wp2_with fail
  go_loopw [6, 7] (fun v i wr => ∃ (k : Nat) (va : Option Addr) (vc : Nat), v = .slice va (keepT A Y C x k).length vc ∧ i = .int .i64 k ∧ k ≤ n ∧ Hid (wr.ownsRow w.heap.size 63 5 (.slice va (keepT A Y C x k).length vc) (keepT A Y C x k).length (cellsT (keepT A Y C x k))) ∧ Hid (Below w.heap.size w wr)) (fun _ i _ => n - (intOf i).toNat)
  case atStart => exact ⟨0, none, 0, rfl, rfl, Nat.zero_le _, Lib.hid (World.ownsRow_nil _ _ _ _), Lib.hid (Below.refl _ _)⟩
  case round =>
    obtain ⟨k, va, vc, rfl, rfl, hk, hO, hB⟩ := hrel
    have hml := keepT_len A Y C x k
    have hz := hB.out.size
    by_cases hlt : k < n
    · obtain ⟨g0, r0⟩ := HC.out k hlt
      have KI := Lib.hid (keepT_in A Y C x k)
      have KO := Lib.hid (keepT_out A Y C x k)
      obtain ⟨z, hx⟩ : ∃ x, A k = x := ⟨_, rfl⟩
      obtain ⟨y, hy⟩ : ∃ y, Y k = y := ⟨_, rfl⟩
      obtain ⟨ce, he⟩ : ∃ e, C k = e := ⟨_, rfl⟩
      rw [hx, hy, he] at g0 KI
      rw [hx] at KO
      obtain ⟨K, hK⟩ : ∃ K, keepT A Y C x k = K := ⟨_, rfl⟩
      rw [hK] at hO KI KO hml ⊢
      obtain ⟨p0, p1, p2, p3, p4⟩ := g0.kept hB.out
      clear hx hy he g0 r0 hK
      by_cases hq : z.m = x
      · have q1 : (z.m.toList == x.toList) = true := by rw [hq]; exact beq_self_eq_true _
        have q2 : (z.m.toList != x.toList) = false := by unfold bne; rw [q1]; rfl
        have KK := Lib.hid (KO.out hq)
        clear KI KO hq
        go_wp2_with fail
        go_roundw
        case rel => exact ⟨k + 1, va, vc, by rw [KK.out], by go_num, by omega, Lib.hid (by rw [KK.out]; exact hO.out), hB⟩
        case measure => simp [intOf]; omega
      · have q1 : (z.m.toList == x.toList) = false := by rw [beq_eq_false_iff_ne]; exact fun h => hq (bytes_eq h)
        have q2 : (z.m.toList != x.toList) = true := by unfold bne; rw [q1]; rfl
        have KK := Lib.hid (KI.out hq)
        have NEW := Lib.hid (new_five wr z y ce)
        clear KI KO hq
        go_wp2_with (at_builtin; (refine wpList_append_own _ rfl _ _ 25 rfl w.heap.size 63 i0 _ 5 72 und hi hz0 hz1 hz2 rfl (by decide) _ _ _ rfl (hO.out.alloc _) ⟨wr.heap.size, 0, none⟩ 1 1 (fiveL z y ce) rfl rfl NEW.out (fiveL_one z y ce) (by unfold maxLen; omega) (by omega) (by simp; omega) ?_); intro v5 w5 hown5 hgrow5 _; have O5 := Lib.hid hown5; have G5 := Lib.hid hgrow5; clear hown5 hgrow5)
        obtain ⟨va', vc', rfl, _, _⟩ := own_len O5.out
        have B5 := Lib.hid ((hB.out.alloc hz (.cells #[.string z.m, .int .i64 z.k, .int .i64 z.n, .string z.s, .slice y z.len ce] 63)).grown G5.out (by have := hB.out.size; simp; omega) (fun q hq => (hO.out.lt q hq).1))
        have O6 := Lib.hid (p := w5.ownsRow w.heap.size 63 5 (.slice va' (keepT A Y C x (k + 1)).length vc') (keepT A Y C x (k + 1)).length (cellsT (keepT A Y C x (k + 1)))) (by rw [KK.out, List.length_append, cellsT_snoc]; exact O5.out)
        have hl6 : K.length + 1 = (keepT A Y C x (k + 1)).length := by rw [KK.out]; simp
        go_roundw
        case rel => exact ⟨k + 1, va', vc', by rw [hl6], by go_num, by omega, O6, B5⟩
        case measure => simp [intOf]; omega
    · obtain rfl : k = n := by omega
      have hm := keepT_map A Y C x k
      have hT : (keepT A Y C x k).length = (fltA (fromA A k 0) x).length := by rw [← hm, List.length_map]
      have hb : decide ((keepT A Y C x k).length < k) = has (nmD (fromA A k 0)) x := by rw [← flt_lt, fromA_len, ← hT]
      have P := Lib.hid (p := RDropPost w A k x (.returned (.tuple #[.slice va (keepT A Y C x k).length vc, .bool (decide ((keepT A Y C x k).length < k))])) wr) ⟨⟨_, keepT A Y C x k, by rw [hb], hm, hO.out, fun t ht => by
        obtain ⟨j, hj, rfl⟩ := List.mem_map.1 ht
        exact (HC.out j (List.mem_range.1 (List.mem_filter.1 hj).1)).2.kept hB.out⟩, hB.out⟩
      clear hm hT hb
      generalize keepT A Y C x k = T at P hO hml ⊢
      go_wp2_with fail
      go_ret2
      exact P.out

end Go.Proofs.YtgcjfalgngiebaaGreatDoor

namespace Go.Proofs.YtgcjfalgngiebaaGreatDoor
open Go.RowKit

section
variable {P : Program}
theorem step_append_many {ops : Array Oper} {o : Oper} {a : Act} {w : World} {K : Act → World → Prop} {Q : Exit → Act → World → Prop} {E : Prop}
    (hg : o.guard = none) (s x : Operand) (t : TypeId) (hop : o.op = Op.call { callee := Callee.builtin Builtin.append, args := #[s, x], argTypes := #[t, t] })
    {base size : Nat} {e : TypeId} {i : TypeInfo} {z : Value} {bytes : Nat} (ht : P.underlying t = some (.slice e)) (hi : P.info? e = some i) (hz : i.zero = some z) (hsize : i.size = size) (hby : i.bytes = bytes) (hzs : z.cells.size = size) (hpos : 0 < size)
    (v : Value) (n : Nat) (xs news : List Value) (b : Addr) (m c : Nat) (hs : a.eval s = v) (hx : a.eval x = .slice (some b) m c) (hown : w.ownsRow base e size v n xs) (hl : news.length = m * size) (hn : ∀ j u, news[j]? = some u → w.cell? (b.add j) = some u) (h1 : ∀ u ∈ news, u.oneCell' = true)
    (h63 : n + m ≤ maxLen) (hbytes : (n + m) * bytes ≤ 140737488355328) (hbase : base ≤ w.heap.size)
    (hK : ∀ v' w', w'.ownsRow base e size v' (n + m) (xs ++ news) → w.grownBy w' v.ownBlock → K (a.put o.dst v') w') :
    if Region.wanted o (yielded ops a.tmps) = true then Oper.wp P o a w K Q else E := by
  have hw : Region.wanted o (yielded ops a.tmps) = true := by simp [Region.wanted, hg]
  rw [if_pos hw]
  obtain ⟨v', w', hr, ho, hgr, _⟩ := run_append_own (P := P) w base t o.type e i z size bytes ht hi hz hsize hby hzs hpos v n xs hown b m c news hl hn h1 h63 hbytes hbase
  unfold Oper.wp
  simp [execOp, hop, resolve, invoke, builtin, hs, hx, hr, Result.andThen]
  exact hK _ _ ho hgr
end

theorem cellsT_len (T : List (AD × Option Addr × Nat)) : (cellsT T).length = T.length * 5 := by
  have hc := cellsT_A T (dA, none, 0) T.length (Nat.le_refl _)
  rw [List.take_length] at hc
  rw [← hc, cellsA_len]

theorem cellsT_one (T : List (AD × Option Addr × Nat)) : ∀ u ∈ cellsT T, u.oneCell' = true := by
  intro u hu
  obtain ⟨t, _, ht⟩ := List.mem_flatMap.1 hu
  exact fiveL_one _ _ _ u ht

/-- The cells of a row, one behind the other. -/
theorem cellsT_cell {w : World} {b o : Nat} {T : List (AD × Option Addr × Nat)} (h : ∀ (t : Nat) (ht : t < T.length), Cells5 w b (o + t * 5) (T[t]).1 (T[t]).2.1 (T[t]).2.2) :
    ∀ j u, (cellsT T)[j]? = some u → w.cell? ((⟨b, o, none⟩ : Addr).add j) = some u := by
  intro j u hu
  have hc := cellsT_A T (dA, none, 0) T.length (Nat.le_refl _)
  rw [List.take_length] at hc
  have hj : j < T.length * 5 := by rw [← cellsT_len]; exact (List.getElem?_eq_some_iff.1 hu).1
  have ht : j / 5 < T.length := by omega
  rw [← hc, show j = j / 5 * 5 + j % 5 by omega, cellsA_at _ _ _ (by omega) ht] at hu
  simp only [List.getD_eq_getElem?_getD, List.getElem?_eq_getElem ht, Option.getD_some] at hu
  obtain ⟨h0, h1, h2, h3, h4⟩ := h _ ht
  rw [Addr.add_lit, show o + j = o + j / 5 * 5 + j % 5 by omega]
  have hm : j % 5 < 5 := by omega
  generalize j % 5 = i at hu hm ⊢
  have hi : i = 0 ∨ i = 1 ∨ i = 2 ∨ i = 3 ∨ i = 4 := by omega
  rcases hi with rfl | rfl | rfl | rfl | rfl <;> (simp [fiveL] at hu; subst hu) <;> assumption

/-- Attributes in memory, with where their lists lie. -/
theorem readsT {w : World} {b o n : Nat} {A : Nat → AD} (h : ReadsA w (some ⟨b, o, none⟩) n A) (h0 : ¬ n = 0) :
    ∃ T : List (AD × Option Addr × Nat), T.length = n ∧ T.map (·.1) = fromA A n 0 ∧ (∀ (t : Nat) (ht : t < T.length), Cells5 w b (o + t * 5) (T[t]).1 (T[t]).2.1 (T[t]).2.2) ∧ ∀ t ∈ T, Reads w t.2.1 t.1.len t.1.z := by
  obtain ⟨b', o', e, hc⟩ := h.2.resolve_left h0
  cases e
  obtain ⟨Y, hY⟩ := Go.Deep.choose_lt hc
  obtain ⟨C, hC⟩ := Go.Deep.choose_lt hY
  refine ⟨(List.range n).map fun j => (A j, Y j, C j), by simp, ?_, fun t ht => ?_, fun t ht => ?_⟩
  · simp [fromA]
  · simp only [List.length_map, List.length_range] at ht
    simpa using (hC t ht).1
  · obtain ⟨j, hj, rfl⟩ := List.mem_map.1 ht
    exact (hC j (List.mem_range.1 hj)).2

end Go.Proofs.YtgcjfalgngiebaaGreatDoor

namespace Go.Proofs.YtgcjfalgngiebaaGreatDoor
open Go.RowKit

/-- What append takes its new elements of m cells each from. -/
def FromM (w : World) (u : Value) (m size : Nat) (news : List Value) : Prop :=
  (u = .slice none 0 0 ∧ m = 0 ∧ news = []) ∨ ∃ b c, u = .slice (some b) m c ∧ news.length = m * size ∧ ∀ j x, news[j]? = some x → w.cell? (b.add j) = some x

theorem FromM.below {w w' : World} {u : Value} {m size : Nat} {news : List Value} (h : FromM w u m size news) (hb : Below w.heap.size w w') : FromM w' u m size news := by
  rcases h with h | ⟨b, c, e, hl, hn⟩
  · exact .inl h
  · refine .inr ⟨b, c, e, hl, fun j x hj => ?_⟩
    have := hn j x hj
    exact (hb.cell (World.block_lt_of_cell? w _ this)).trans this

section
variable {P : Program}
theorem run_append_fromM {w : World} {base size : Nat} {t ty e : TypeId} {i : TypeInfo} {z : Value} {bytes : Nat} (ht : P.underlying t = some (.slice e)) (hi : P.info? e = some i) (hz : i.zero = some z) (hsize : i.size = size) (hby : i.bytes = bytes) (hzs : z.cells.size = size) (hpos : 0 < size)
    {v u : Value} {n m : Nat} {xs news : List Value} (hown : w.ownsRow base e size v n xs) (hfrom : FromM w u m size news) (h1 : ∀ x ∈ news, x.oneCell' = true) (h63 : n + m ≤ maxLen) (hbytes : (n + m) * bytes ≤ 140737488355328) (hbase : base ≤ w.heap.size) :
    ∃ v' w', (Builtin.append_ #[t, t] ty #[v, u]).run P w = .ok v' w' ∧ w'.ownsRow base e size v' (n + m) (xs ++ news) ∧ w.grownBy w' v.ownBlock := by
  rcases hfrom with ⟨rfl, rfl, rfl⟩ | ⟨b, c, rfl, hl, hn⟩
  · have hr := run_append_owned_none (P := P) w base t ty e i size ht hi v n xs hown
    exact ⟨v, w, hr, by simpa using hown, World.grownBy.refl w _⟩
  · obtain ⟨v', w', hr, ho, hg, _⟩ := run_append_own (P := P) w base t ty e i z size bytes ht hi hz hsize hby hzs hpos v n xs hown b m c news hl hn h1 h63 hbytes hbase
    exact ⟨v', w', hr, ho, hg⟩

theorem step_append_fromM {ops : Array Oper} {o : Oper} {a : Act} {w : World} {K : Act → World → Prop} {Q : Exit → Act → World → Prop} {E : Prop}
    (hg : o.guard = none) (s x : Operand) (t : TypeId) (hop : o.op = Op.call { callee := Callee.builtin Builtin.append, args := #[s, x], argTypes := #[t, t] })
    {base size : Nat} {e : TypeId} {i : TypeInfo} {z : Value} {bytes : Nat} (ht : P.underlying t = some (.slice e)) (hi : P.info? e = some i) (hz : i.zero = some z) (hsize : i.size = size) (hby : i.bytes = bytes) (hzs : z.cells.size = size) (hpos : 0 < size)
    (v u : Value) (n m : Nat) (xs news : List Value) (hs : a.eval s = v) (hx : a.eval x = u) (hown : w.ownsRow base e size v n xs) (hfrom : FromM w u m size news) (h1 : ∀ u ∈ news, u.oneCell' = true)
    (h63 : n + m ≤ maxLen) (hbytes : (n + m) * bytes ≤ 140737488355328) (hbase : base ≤ w.heap.size)
    (hK : ∀ v' w', w'.ownsRow base e size v' (n + m) (xs ++ news) → w.grownBy w' v.ownBlock → K (a.put o.dst v') w') :
    if Region.wanted o (yielded ops a.tmps) = true then Oper.wp P o a w K Q else E := by
  have hw : Region.wanted o (yielded ops a.tmps) = true := by simp [Region.wanted, hg]
  rw [if_pos hw]
  obtain ⟨v', w', hr, ho, hgr⟩ := run_append_fromM (P := P) (ty := o.type) ht hi hz hsize hby hzs hpos hown hfrom h1 h63 hbytes hbase
  unfold Oper.wp
  simp [execOp, hop, resolve, invoke, builtin, hs, hx, hr, Result.andThen]
  exact hK _ _ ho hgr

theorem wpList_append_fromM {ops : Array Oper} {rest : List Oper} {o : Oper} {a : Act} {w : World} {Q : Exit → Act → World → Prop}
    (hgd : o.guard = none) (s x : Operand) (t : TypeId) (hop : o.op = Op.call { callee := Callee.builtin Builtin.append, args := #[s, x], argTypes := #[t, t] })
    {base size : Nat} {e : TypeId} {i : TypeInfo} {z : Value} {bytes : Nat} (ht : P.underlying t = some (.slice e)) (hi : P.info? e = some i) (hz : i.zero = some z) (hsize : i.size = size) (hby : i.bytes = bytes) (hzs : z.cells.size = size) (hpos : 0 < size)
    (v u : Value) (n m : Nat) (xs news : List Value) (hs : a.eval s = v) (hx : a.eval x = u) (hown : w.ownsRow base e size v n xs) (hfrom : FromM w u m size news) (h1 : ∀ x ∈ news, x.oneCell' = true) (h63 : n + m ≤ maxLen) (hbytes : (n + m) * bytes ≤ 140737488355328) (hbase : base ≤ w.heap.size)
    (hK : ∀ v' w', w'.ownsRow base e size v' (n + m) (xs ++ news) → w.grownBy w' v.ownBlock → wpList P ops Q rest (a.put o.dst v') w') :
    wpList P ops Q (o :: rest) a w := by
  refine wpList_plain hgd fun K hK' => ?_
  obtain ⟨v', w', hr, ho, hgr⟩ := run_append_fromM (P := P) (ty := o.type) ht hi hz hsize hby hzs hpos hown hfrom h1 h63 hbytes hbase
  unfold Oper.wp
  simp [execOp, hop, resolve, invoke, builtin, hs, hx, hr, Result.andThen]
  exact hK' _ _ (hK _ _ ho hgr)
end

/-- An owned row of attributes: nil, or a block. -/
theorem ownT_cases {w : World} {base : Nat} {e : TypeId} {v : Value} {T : List (AD × Option Addr × Nat)} (h : w.ownsRow base e 5 v T.length (cellsT T)) :
    (v = .slice none 0 0 ∧ T = []) ∨ ∃ g c, v = .slice (some ⟨g, 0, none⟩) T.length c ∧ T.length ≤ c ∧ c ≤ maxLen ∧ g < w.heap.size ∧ ∀ j u, (cellsT T)[j]? = some u → w.cell? ⟨g, j, none⟩ = some u := by
  rcases h.2 with ⟨h1, h2⟩ | ⟨g, cap, cur, rfl, hB, hg, hnc, hm, hs, ht⟩
  · exact .inl ⟨h1, List.length_eq_zero_iff.1 h2⟩
  · refine .inr ⟨g, cap, rfl, hnc, hm, lt_of_block hg, fun j u hj => ?_⟩
    rw [cell_of_row w g j cur e (0, 0) hg]
    rw [← ht, List.getElem?_take] at hj
    split at hj
    · simpa using hj
    · cases hj

theorem cellsT_app (S T : List (AD × Option Addr × Nat)) : cellsT (S ++ T) = cellsT S ++ cellsT T := by simp [cellsT]

theorem fromM_take {w : World} {g c : Nat} {T : List (AD × Option Addr × Nat)} (h : ∀ j u, (cellsT T)[j]? = some u → w.cell? ⟨g, j, none⟩ = some u) (k : Nat) (hk : k ≤ T.length) : FromM w (.slice (some ⟨g, 0, none⟩) k c) k 5 (cellsT (T.take k)) := by
  refine .inr ⟨_, c, rfl, by rw [cellsT_len, List.length_take, Nat.min_eq_left hk], fun j u hj => ?_⟩
  rw [Addr.add_lit, Nat.zero_add]
  refine h j u ?_
  have e : cellsT T = cellsT (T.take k) ++ cellsT (T.drop k) := by rw [← cellsT_app, List.take_append_drop]
  rw [e, List.getElem?_append_left (by exact (List.getElem?_eq_some_iff.1 hj).1)]
  exact hj

theorem fromM_drop {w : World} {g c : Nat} {T : List (AD × Option Addr × Nat)} (h : ∀ j u, (cellsT T)[j]? = some u → w.cell? ⟨g, j, none⟩ = some u) (k : Nat) (hk : k ≤ T.length) : FromM w (.slice (some ⟨g, k * 5, none⟩) (T.length - k) c) (T.length - k) 5 (cellsT (T.drop k)) := by
  refine .inr ⟨_, c, rfl, by rw [cellsT_len, List.length_drop], fun j u hj => ?_⟩
  rw [Addr.add_lit]
  refine h _ u ?_
  have e : cellsT T = cellsT (T.take k) ++ cellsT (T.drop k) := by rw [← cellsT_app, List.take_append_drop]
  have hl : (cellsT (T.take k)).length = k * 5 := by rw [cellsT_len, List.length_take, Nat.min_eq_left hk]
  rw [e, List.getElem?_append_right (by omega), hl, Nat.add_sub_cancel_left]
  exact hj

end Go.Proofs.YtgcjfalgngiebaaGreatDoor

namespace Go.Proofs.YtgcjfalgngiebaaGreatDoor
open Go.RowKit

section
variable {P : Program}
theorem step_chainM {ops : Array Oper} {o : Oper} {a : Act} {w0 w : World} {K : Act → World → Prop} {Q : Exit → Act → World → Prop} {E : Prop}
    (hg : o.guard = none) (s x : Operand) (t : TypeId) (hop : o.op = Op.call { callee := Callee.builtin Builtin.append, args := #[s, x], argTypes := #[t, t] })
    {size : Nat} {e : TypeId} {i : TypeInfo} {z : Value} {bytes : Nat} (ht : P.underlying t = some (.slice e)) (hi : P.info? e = some i) (hz : i.zero = some z) (hsize : i.size = size) (hby : i.bytes = bytes) (hzs : z.cells.size = size) (hpos : 0 < size)
    (v u : Value) (n m : Nat) (xs news : List Value) (hs : a.eval s = v) (hx : a.eval x = u) (hk : Below w0.heap.size w0 w) (hown : w.ownsRow w0.heap.size e size v n xs) (hfrom : FromM w u m size news) (h1 : ∀ u ∈ news, u.oneCell' = true)
    (h63 : n + m ≤ maxLen) (hbytes : (n + m) * bytes ≤ 140737488355328)
    (hK : ∀ v' w', Below w0.heap.size w0 w' → w'.ownsRow w0.heap.size e size v' (n + m) (xs ++ news) → w.grownBy w' v.ownBlock → K (a.put o.dst v') w') :
    if Region.wanted o (yielded ops a.tmps) = true then Oper.wp P o a w K Q else E :=
  step_append_fromM hg s x t hop ht hi hz hsize hby hzs hpos v u n m xs news hs hx hown hfrom h1 h63 hbytes hk.size (fun v' w' ho hgr => hK v' w' (hk.grown hgr hk.size (fun q hq => (hown.lt q hq).1)) ho hgr)
end

theorem own_emptyM {W : World} {e : TypeId} {b base size : Nat} (h : W.heap[b]? = some (.cells #[] e (0, 0))) (hb : base ≤ b) : W.ownsRow base e size (.slice (some ⟨b, 0, none⟩) 0 0) 0 [] :=
  ⟨by simp, Or.inr ⟨b, 0, #[], rfl, hb, h, Nat.le_refl _, Nat.zero_le _, by simp, by simp⟩⟩

/-- Five cells of a block as an attribute. -/
theorem fromFive {W : World} {b : Nat} {x : AD} {y : Option Addr} {c : Nat} (h : W.heap[b]? = some (.cells #[.string x.m, .int .i64 x.k, .int .i64 x.n, .string x.s, .slice y x.len c] 63 (0, 0))) : FromM W (.slice (some ⟨b, 0, none⟩) 1 1) 1 5 (fiveL x y c) := by
  refine .inr ⟨_, 1, rfl, rfl, fun j u hj => ?_⟩
  rw [Addr.add_lit, Nat.zero_add, cell_of_row _ _ _ _ _ (0, 0) h]
  simpa [fiveL] using hj

/-- An attribute in its place. -/
def withL (L : List AD) (x : AD) : List AD := L.take (pos lsS (nmD L) x.m) ++ x :: L.drop (pos lsS (nmD L) x.m)

theorem own_monoB {w : World} {B B' : Nat} {e : TypeId} {size : Nat} {v : Value} {n : Nat} {xs : List Value} (h : w.ownsRow B e size v n xs) (hB : B' ≤ B) : w.ownsRow B' e size v n xs := by
  refine ⟨h.1, ?_⟩
  rcases h.2 with h2 | ⟨g, cap, cur, hv, hb, rest⟩
  · exact .inl h2
  · exact .inr ⟨g, cap, cur, hv, Nat.le_trans hB hb, rest⟩

theorem cellsT_put (S T : List (AD × Option Addr × Nat)) (x : AD) (y : Option Addr) (c : Nat) : cellsT (S ++ (x, y, c) :: T) = cellsT S ++ fiveL x y c ++ cellsT T := by
  simp [cellsT]

theorem cellsT_name (T : List (AD × Option Addr × Nat)) (k : Nat) (hk : k < T.length) : (cellsT T)[k * 5]? = some (.string T[k].1.m) := by
  have e : cellsT T = cellsT (T.take k) ++ (fiveL T[k].1 T[k].2.1 T[k].2.2 ++ cellsT (T.drop (k + 1))) := by
    have h : T = T.take k ++ (T[k] :: T.drop (k + 1)) := by rw [← List.drop_eq_getElem_cons hk, List.take_append_drop]
    conv => lhs; rw [h]
    rw [cellsT_app]; rfl
  have hl : (cellsT (T.take k)).length = k * 5 := by rw [cellsT_len, List.length_take, Nat.min_eq_left (by omega)]
  rw [e, List.getElem?_append_right (by omega), hl, Nat.sub_self]; rfl

set_option maxRecDepth 100000 in
set_option maxHeartbeats 8000000 in
theorem rWith_any (a : Option Addr) (n c : Nat) (A : Nat → AD) (x : AD) (y : Option Addr) (cy : Nat) (hn : n ≤ 1000) (w : World) (h : ReadsA w a n A) (hy : Reads w y x.len x.z) :
    Calls Tryz.prog 29 #[.slice a n c, .string x.m, .agg #[.int .i64 x.k, .int .i64 x.n, .string x.s, .slice y x.len cy]] w fun e w' => (∃ v T, e = .returned v ∧ T.map (·.1) = withL (fltA (fromA A n 0) x.m) x ∧ w'.ownsRow w.heap.size 63 5 v T.length (cellsT T) ∧ ∀ t ∈ T, Reads w' t.2.1 t.1.len t.1.z) ∧ Below w.heap.size w w' := by
  have RD := Lib.hid (fun o => rDrop_any a n c A x.m hn (w.alloc o) (h.kept ((Below.refl _ _).alloc (Nat.le_refl _) _)))
  obtain ⟨i0, hi, hz0, hz1, hz2⟩ := info_parts ofInfo
  have und : Tryz.prog.underlying 25 = some (.slice 63) := Tryz.underlying25
  go_enter Tryz.func29, Tryz.ntmps29
  go_wp2_with fail
  refine (RD.out _).mono ?_
  unfold RDropPost
  generalize hW : World.alloc w _ = W
  have bW : Below w.heap.size w W := by rw [← hW]; exact (Below.refl _ _).alloc (Nat.le_refl _) _
  have vW : W.heap[w.heap.size]? = some (.cells #[.int .i64 x.k, .int .i64 x.n, .string x.s, .slice y x.len cy] 38 (0, 0)) := by rw [← hW]; exact heap_alloc_new w _
  clear hW
  rintro e w1 ⟨⟨v1, T, rfl, hT, hO, hR⟩, hb⟩
  have hle : T.length ≤ n := by
    have := List.length_filter_le (fun y : AD => decide (y.m ≠ x.m)) (fromA A n 0)
    rw [fromA_len] at this
    have h2 := congrArg List.length hT
    rw [List.length_map] at h2
    unfold fltA at h2
    omega
  have HT0 := Lib.hid hT
  have hO1 := Lib.hid hO
  have HR := Lib.hid hR
  have V1 := Lib.hid ((hb.block _ (lt_of_block vW)).trans vW)
  have B1 := Lib.hid (bW.trans (hb.mono bW.size))
  have HY := Lib.hid (hy.kept B1.out)
  clear bW vW hb hO hR hT RD h hy
  obtain ⟨L, hL⟩ : ∃ L, T.map (·.1) = L := ⟨_, rfl⟩
  have hLl : L.length = T.length := by rw [← hL, List.length_map]
  have HL := Lib.hid hL
  clear hL
  generalize has (nmD (fromA A n 0)) x.m = B
  rcases ownT_cases hO1.out with ⟨rfl, hTn⟩ | ⟨g, c1, rfl, hc1, hc2, hgl, hcell⟩
  · subst hTn
    obtain rfl : L = [] := List.length_eq_zero_iff.1 hLl
    have hp : pos lsS (nmD ([] : List AD)) x.m = 0 := rfl
    go_wp2_with fail
    go_loopw [9] (fun i wr => i = .int .i64 0 ∧ wr = w1) (fun _ _ => 0)
    case atStart => exact ⟨rfl, rfl⟩
    case round =>
      obtain ⟨rfl, rfl⟩ := hrel
      have F1 := Lib.hid (p := ∀ w', Below wr.heap.size wr w' → FromM w' (.slice none 0 0) 0 5 (cellsT (([] : List (AD × Option Addr × Nat)).take 0))) (fun w' _ => .inl ⟨rfl, rfl, rfl⟩)
      have F2 := Lib.hid (p := ∀ w', Below wr.heap.size wr w' → FromM w' (.slice none 0 0) 0 5 (cellsT (([] : List (AD × Option Addr × Nat)).drop 0))) (fun w' _ => .inl ⟨rfl, rfl, rfl⟩)
      have hB1 := lt_of_block V1.out
      have cc := (four V1.out).1
      have Ab := Lib.hid (p := Below wr.heap.size wr (wr.alloc (.cells #[] 63))) ((Below.refl _ _).alloc (Nat.le_refl _) _)
      have Ao := Lib.hid (p := (wr.alloc (.cells #[] 63)).ownsRow wr.heap.size 63 5 (.slice (some ⟨wr.heap.size, 0, none⟩) 0 0) 0 []) (own_emptyM (heap_alloc_new wr _) (Nat.le_refl _))
      have Bb := Lib.hid (p := Below wr.heap.size wr ((wr.alloc (.cells #[] 63)).alloc (.cells #[.string x.m, .int .i64 x.k, .int .i64 x.n, .string x.s, .slice y x.len cy] 63))) (Ab.out.alloc (by simp) _)
      have Bo := Lib.hid (p := ((wr.alloc (.cells #[] 63)).alloc (.cells #[.string x.m, .int .i64 x.k, .int .i64 x.n, .string x.s, .slice y x.len cy] 63)).ownsRow wr.heap.size 63 5 (.slice (some ⟨wr.heap.size, 0, none⟩) 0 0) 0 []) (Ao.out.alloc _)
      have Bn := Lib.hid (p := ((wr.alloc (.cells #[] 63)).alloc (.cells #[.string x.m, .int .i64 x.k, .int .i64 x.n, .string x.s, .slice y x.len cy] 63)).heap[wr.heap.size + 1]? = some (.cells #[.string x.m, .int .i64 x.k, .int .i64 x.n, .string x.s, .slice y x.len cy] 63 (0, 0))) (heap_alloc2_new wr _ _)
      have Cb := Lib.hid (p := Below wr.heap.size wr ((wr.alloc (.cells #[.string x.m, .int .i64 x.k, .int .i64 x.n, .string x.s, .slice y x.len cy] 63)).alloc (.cells #[] 63))) (((Below.refl _ _).alloc (Nat.le_refl _) _).alloc (by simp) _)
      have Co := Lib.hid (p := ((wr.alloc (.cells #[.string x.m, .int .i64 x.k, .int .i64 x.n, .string x.s, .slice y x.len cy] 63)).alloc (.cells #[] 63)).ownsRow wr.heap.size 63 5 (.slice (some ⟨wr.heap.size + 1, 0, none⟩) 0 0) 0 []) (own_emptyM (heap_alloc2_new wr _ _) (by omega))
      have Cn := Lib.hid (p := ((wr.alloc (.cells #[.string x.m, .int .i64 x.k, .int .i64 x.n, .string x.s, .slice y x.len cy] 63)).alloc (.cells #[] 63)).heap[wr.heap.size]? = some (.cells #[.string x.m, .int .i64 x.k, .int .i64 x.n, .string x.s, .slice y x.len cy] 63 (0, 0))) (heap_alloc2_old wr _ _)
      go_upto_region 5 with fail
      go_cut [10] from 32 to 41 (fun v wc => ∃ g2 c2 : Nat, v = .slice (some ⟨g2, 0, none⟩) 1 c2 ∧ Hid (wc.ownsRow wr.heap.size 63 5 (.slice (some ⟨g2, 0, none⟩) 1 c2) 1 (cellsT (([] : List (AD × Option Addr × Nat)).take 0) ++ fiveL x y cy)) ∧ Hid (Below wr.heap.size wr wc))
      case first =>
        go_wp2_with fail
        go_region_held3 (fun w' => w'.cell? ⟨w.heap.size, 0, none⟩ = some (.int .i64 x.k) ∧ w'.cell? ⟨w.heap.size, 1, none⟩ = some (.int .i64 x.n) ∧ w'.cell? ⟨w.heap.size, 2, none⟩ = some (.string x.s) ∧ w'.cell? ⟨w.heap.size, 3, none⟩ = some (.slice y x.len cy)) (first | assumption | exact cc | (refine ⟨?_, ?_, ?_, ?_⟩ <;> (first | assumption | (go_keep; done)))) (first
          | (refine step_chainM (w0 := wr) rfl (.tmp 32) (.tmp 35) 25 rfl und hi hz0 hz1 hz2 rfl (by decide) (.slice (some ⟨wr.heap.size, 0, none⟩) 0 0) (.slice none 0 0) 0 0 [] (cellsT (([] : List (AD × Option Addr × Nat)).take 0)) (by first | (simp [Act.eval]; done) | fail) (by first | (simp [Act.eval]; done) | fail) (by first | exact Ab.out.drew | fail) (by first | exact Ao.out | fail) (F1.out _ Ab.out.drew) (cellsT_one _) (by unfold maxLen; omega) (by omega) ?_
             intro v3 w3 hb ho hg
             have O3 := Lib.hid ho
             have B3 := Lib.hid hb
             have cc := (four ((hb.block _ hB1).trans V1.out)).1
             skip
             clear hb ho hg)
          | (refine step_chainM (w0 := wr) rfl (.tmp 32) (.tmp 35) 25 rfl und hi hz0 hz1 hz2 rfl (by decide) (.slice (some ⟨wr.heap.size, 0, none⟩) 0 0) (.slice none 0 0) 0 0 [] (cellsT (([] : List (AD × Option Addr × Nat)).take 0)) (by first | (simp [Act.eval]; done) | fail) (by first | (simp [Act.eval]; done) | fail) (by first | exact Bb.out.drew | fail) (by first | exact Bo.out | fail) (F1.out _ Bb.out.drew) (cellsT_one _) (by unfold maxLen; omega) (by omega) ?_
             intro v3 w3 hb ho hg
             have O3 := Lib.hid ho
             have B3 := Lib.hid hb
             have cc := (four ((hb.block _ hB1).trans V1.out)).1
             have N3 := Lib.hid (fromFive ((hg.block (wr.heap.size + 1) (by simp) (by simp [Value.ownBlock])).trans Bn.out))
             clear hb ho hg)
          | (refine step_chainM (w0 := wr) rfl (.tmp 32) (.tmp 35) 25 rfl und hi hz0 hz1 hz2 rfl (by decide) (.slice (some ⟨wr.heap.size + 1, 0, none⟩) 0 0) (.slice none 0 0) 0 0 [] (cellsT (([] : List (AD × Option Addr × Nat)).take 0)) (by first | (simp [Act.eval]; done) | fail) (by first | (simp [Act.eval]; done) | fail) (by first | exact Cb.out.drew | fail) (by first | exact Co.out | fail) (F1.out _ Cb.out.drew) (cellsT_one _) (by unfold maxLen; omega) (by omega) ?_
             intro v3 w3 hb ho hg
             have O3 := Lib.hid ho
             have B3 := Lib.hid hb
             have cc := (four ((hb.block _ hB1).trans V1.out)).1
             have N3 := Lib.hid (fromFive ((hg.block wr.heap.size (by simp; omega) (by simp [Value.ownBlock])).trans Cn.out))
             clear hb ho hg)
          | (refine step_chainM (w0 := wr) rfl (.tmp 36) (.tmp 40) 25 rfl und hi hz0 hz1 hz2 rfl (by decide) v3 (.slice (some ⟨w3.heap.size, 0, none⟩) 1 1) (0 + 0) 1 ([] ++ cellsT (([] : List (AD × Option Addr × Nat)).take 0)) (fiveL x y cy) (by first | (simp [Act.eval]; done) | fail) (by first | (simp [Act.eval]; done) | fail) (B3.out.alloc B3.out.size _) (O3.out.alloc _) (fromFive (heap_alloc_new w3 _)) (fiveL_one x y cy) (by unfold maxLen; omega) (by omega) ?_
             intro v5 w5 hb ho hg
             have O5 := Lib.hid ho
             have B5 := Lib.hid hb
             have cc := (four ((hb.block _ hB1).trans V1.out)).1
             clear hb ho hg)
          | (refine step_chainM (w0 := wr) rfl (.tmp 36) (.tmp 40) 25 rfl und hi hz0 hz1 hz2 rfl (by decide) v3 (.slice (some ⟨wr.heap.size + 1, 0, none⟩) 1 1) (0 + 0) 1 ([] ++ cellsT (([] : List (AD × Option Addr × Nat)).take 0)) (fiveL x y cy) (by first | (simp [Act.eval]; done) | fail) (by first | (simp [Act.eval]; done) | fail) B3.out O3.out N3.out (fiveL_one x y cy) (by unfold maxLen; omega) (by omega) ?_
             intro v5 w5 hb ho hg
             have O5 := Lib.hid ho
             have B5 := Lib.hid hb
             have cc := (four ((hb.block _ hB1).trans V1.out)).1
             clear hb ho hg)
          | (refine step_chainM (w0 := wr) rfl (.tmp 36) (.tmp 40) 25 rfl und hi hz0 hz1 hz2 rfl (by decide) v3 (.slice (some ⟨wr.heap.size, 0, none⟩) 1 1) (0 + 0) 1 ([] ++ cellsT (([] : List (AD × Option Addr × Nat)).take 0)) (fiveL x y cy) (by first | (simp [Act.eval]; done) | fail) (by first | (simp [Act.eval]; done) | fail) B3.out O3.out N3.out (fiveL_one x y cy) (by unfold maxLen; omega) (by omega) ?_
             intro v5 w5 hb ho hg
             have O5 := Lib.hid ho
             have B5 := Lib.hid hb
             have cc := (four ((hb.block _ hB1).trans V1.out)).1
             clear hb ho hg)
          | fail)
        all_goals
          have O6 := Lib.hid (p := w5.ownsRow wr.heap.size 63 5 v5 (0 + 1) (cellsT (([] : List (AD × Option Addr × Nat)).take 0) ++ fiveL x y cy)) (by have := O5.out; rwa [Nat.zero_add, List.nil_append] at this)
          obtain ⟨g2, c2, rfl⟩ := ownsRow_succ O6.out
          go_wp2_with fail
          go_meet
          case rel => exact ⟨g2, c2, rfl, O6, B5⟩
      case rest =>
        obtain ⟨g2, c2, rfl, O7, B7⟩ := hcut
        have hw7 := B7.out.size
        clear Ab Ao Bb Bo Bn Cb Co Cn F1 cc
        go_wp2_with (at_builtin; (refine wpList_append_fromM rfl _ _ 25 rfl (base := wr.heap.size) und hi hz0 hz1 hz2 rfl (by decide) (.slice (some ⟨g2, 0, none⟩) 1 c2) (.slice none 0 0) 1 0 (cellsT (([] : List (AD × Option Addr × Nat)).take 0) ++ fiveL x y cy) (cellsT (([] : List (AD × Option Addr × Nat)).drop 0)) rfl rfl O7.out (F2.out _ B7.out) (cellsT_one _) (by unfold maxLen; omega) (by omega) hw7 ?_
                                  intro v8 w8 ho hg
                                  have O8 := Lib.hid ho
                                  have B8 := Lib.hid (B7.out.grown hg hw7 (fun q hq => (O7.out.lt q hq).1))
                                  clear ho hg))
        go_ret
        refine ⟨⟨_, ([] : List (AD × Option Addr × Nat)).take 0 ++ (x, y, cy) :: ([] : List (AD × Option Addr × Nat)).drop 0, rfl, ?_, ?_, ?_⟩, B1.out.trans (B8.out.mono B1.out.size)⟩
        · rw [← HT0.out, HL.out, withL, hp, ← HL.out]
          first
            | (rw [List.map_append, List.map_cons, List.map_take, List.map_drop]; done)
            | simp
        · have h8 := own_monoB O8.out B1.out.size
          have hl8 : (([] : List (AD × Option Addr × Nat)).take 0 ++ (x, y, cy) :: ([] : List (AD × Option Addr × Nat)).drop 0).length = 1 + 0 := by simp <;> omega
          rw [cellsT_put, hl8]
          exact h8
        · intro t ht
          rcases List.mem_append.1 ht with ht | ht
          · exact (HR.out t (List.mem_of_mem_take ht)).kept B8.out
          · rcases List.mem_cons.1 ht with rfl | ht
            · exact HY.out.kept B8.out
            · exact (HR.out t (List.mem_of_mem_drop ht)).kept B8.out
  · unfold maxLen at hc2
    have CE := Lib.hid hcell
    have CN := Lib.hid (fun k hk => hcell (k * 5) _ (cellsT_name T k hk))
    clear hcell
    go_wp2_with fail
    go_loopw [9] (fun i wr => ∃ k : Nat, i = .int .i64 k ∧ k ≤ T.length ∧ wr = w1 ∧ Hid (∀ t u, t < k → (nmD L)[t]? = some u → lsS u x.m = true)) (fun i _ => T.length - (intOf i).toNat)
    case atStart => exact ⟨0, rfl, Nat.zero_le _, rfl, Lib.hid (fun t _ ht _ => absurd ht (Nat.not_lt_zero _))⟩
    case round =>
      obtain ⟨k, rfl, hk, rfl, hK⟩ := hrel
      have q3 : (0 : Int) ≤ (k : Int) := by omega
      have q4 : (k : Int) ≤ (c1 : Int) := by omega
      have q5 : ((k : Int)).toNat = k := by omega
      by_cases hlt : k < T.length
      · have hat : (nmD L)[k]? = some T[k].1.m := by
          rw [← HL.out]
          unfold nmD
          rw [List.getElem?_map, List.getElem?_map, List.getElem?_eq_getElem hlt]; rfl
        have d0 := CN.out k hlt
        obtain ⟨zm, hz⟩ : ∃ z, T[k].1.m = z := ⟨_, rfl⟩
        rw [hz] at d0 hat
        clear hz
        by_cases hq : lsS zm x.m = true
        · have q1 : Op.bytesLess zm.toList x.m.toList = true := hq
          have K2 := Lib.hid (p := ∀ t u, t < k + 1 → (nmD L)[t]? = some u → lsS u x.m = true) (fun t u ht hu => by
            by_cases e : t = k
            · subst e; rw [hat] at hu; cases hu; exact hq
            · exact hK.out t u (by omega) hu)
          clear hat hq
          go_wp2_with fail
          go_roundw
          case rel => exact ⟨k + 1, by go_num, by omega, by trivial, K2⟩
          case measure => simp [intOf]; omega
        · have q1 : Op.bytesLess zm.toList x.m.toList = false := by simpa [lsS] using hq
          have hp : pos lsS (nmD L) x.m = k := pos_unique (by rw [nmD_len]; omega) hK.out (fun u hu => by rw [hat] at hu; cases hu; simpa using hq)
          clear hat hq
          have F1 := Lib.hid (p := ∀ w', Below wr.heap.size wr w' → FromM w' (.slice (some ⟨g, 0, none⟩) k c1) k 5 (cellsT (T.take k))) (fun w' hb => (fromM_take CE.out k hk).below hb)
          have F2 := Lib.hid (p := ∀ w', Below wr.heap.size wr w' → FromM w' (.slice (some ⟨g, k * 5, none⟩) (T.length - k) (c1 - k)) (T.length - k) 5 (cellsT (T.drop k))) (fun w' hb => (fromM_drop CE.out k hk).below hb)
          have hB1 := lt_of_block V1.out
          have cc := (four V1.out).1
          have Ab := Lib.hid (p := Below wr.heap.size wr (wr.alloc (.cells #[] 63))) ((Below.refl _ _).alloc (Nat.le_refl _) _)
          have Ao := Lib.hid (p := (wr.alloc (.cells #[] 63)).ownsRow wr.heap.size 63 5 (.slice (some ⟨wr.heap.size, 0, none⟩) 0 0) 0 []) (own_emptyM (heap_alloc_new wr _) (Nat.le_refl _))
          have Bb := Lib.hid (p := Below wr.heap.size wr ((wr.alloc (.cells #[] 63)).alloc (.cells #[.string x.m, .int .i64 x.k, .int .i64 x.n, .string x.s, .slice y x.len cy] 63))) (Ab.out.alloc (by simp) _)
          have Bo := Lib.hid (p := ((wr.alloc (.cells #[] 63)).alloc (.cells #[.string x.m, .int .i64 x.k, .int .i64 x.n, .string x.s, .slice y x.len cy] 63)).ownsRow wr.heap.size 63 5 (.slice (some ⟨wr.heap.size, 0, none⟩) 0 0) 0 []) (Ao.out.alloc _)
          have Bn := Lib.hid (p := ((wr.alloc (.cells #[] 63)).alloc (.cells #[.string x.m, .int .i64 x.k, .int .i64 x.n, .string x.s, .slice y x.len cy] 63)).heap[wr.heap.size + 1]? = some (.cells #[.string x.m, .int .i64 x.k, .int .i64 x.n, .string x.s, .slice y x.len cy] 63 (0, 0))) (heap_alloc2_new wr _ _)
          have Cb := Lib.hid (p := Below wr.heap.size wr ((wr.alloc (.cells #[.string x.m, .int .i64 x.k, .int .i64 x.n, .string x.s, .slice y x.len cy] 63)).alloc (.cells #[] 63))) (((Below.refl _ _).alloc (Nat.le_refl _) _).alloc (by simp) _)
          have Co := Lib.hid (p := ((wr.alloc (.cells #[.string x.m, .int .i64 x.k, .int .i64 x.n, .string x.s, .slice y x.len cy] 63)).alloc (.cells #[] 63)).ownsRow wr.heap.size 63 5 (.slice (some ⟨wr.heap.size + 1, 0, none⟩) 0 0) 0 []) (own_emptyM (heap_alloc2_new wr _ _) (by omega))
          have Cn := Lib.hid (p := ((wr.alloc (.cells #[.string x.m, .int .i64 x.k, .int .i64 x.n, .string x.s, .slice y x.len cy] 63)).alloc (.cells #[] 63)).heap[wr.heap.size]? = some (.cells #[.string x.m, .int .i64 x.k, .int .i64 x.n, .string x.s, .slice y x.len cy] 63 (0, 0))) (heap_alloc2_old wr _ _)
          go_upto_region 5 with fail
          go_cut [10] from 32 to 41 (fun v wc => ∃ g2 c2 : Nat, v = .slice (some ⟨g2, 0, none⟩) (k + 1) c2 ∧ Hid (wc.ownsRow wr.heap.size 63 5 (.slice (some ⟨g2, 0, none⟩) (k + 1) c2) (k + 1) (cellsT (T.take k) ++ fiveL x y cy)) ∧ Hid (Below wr.heap.size wr wc))
          case first =>
            go_wp2_with fail
            go_region_held3 (fun w' => w'.cell? ⟨w.heap.size, 0, none⟩ = some (.int .i64 x.k) ∧ w'.cell? ⟨w.heap.size, 1, none⟩ = some (.int .i64 x.n) ∧ w'.cell? ⟨w.heap.size, 2, none⟩ = some (.string x.s) ∧ w'.cell? ⟨w.heap.size, 3, none⟩ = some (.slice y x.len cy)) (first | assumption | exact cc | (refine ⟨?_, ?_, ?_, ?_⟩ <;> (first | assumption | (go_keep; done)))) (first
              | (refine step_chainM (w0 := wr) rfl (.tmp 32) (.tmp 35) 25 rfl und hi hz0 hz1 hz2 rfl (by decide) (.slice (some ⟨wr.heap.size, 0, none⟩) 0 0) (.slice (some ⟨g, 0, none⟩) k c1) 0 k [] (cellsT (T.take k)) (by first | (simp [Act.eval]; done) | fail) (by first | (simp [Act.eval]; done) | fail) (by first | exact Ab.out.drew | fail) (by first | exact Ao.out | fail) (F1.out _ Ab.out.drew) (cellsT_one _) (by unfold maxLen; omega) (by omega) ?_
                 intro v3 w3 hb ho hg
                 have O3 := Lib.hid ho
                 have B3 := Lib.hid hb
                 have cc := (four ((hb.block _ hB1).trans V1.out)).1
                 skip
                 clear hb ho hg)
              | (refine step_chainM (w0 := wr) rfl (.tmp 32) (.tmp 35) 25 rfl und hi hz0 hz1 hz2 rfl (by decide) (.slice (some ⟨wr.heap.size, 0, none⟩) 0 0) (.slice (some ⟨g, 0, none⟩) k c1) 0 k [] (cellsT (T.take k)) (by first | (simp [Act.eval]; done) | fail) (by first | (simp [Act.eval]; done) | fail) (by first | exact Bb.out.drew | fail) (by first | exact Bo.out | fail) (F1.out _ Bb.out.drew) (cellsT_one _) (by unfold maxLen; omega) (by omega) ?_
                 intro v3 w3 hb ho hg
                 have O3 := Lib.hid ho
                 have B3 := Lib.hid hb
                 have cc := (four ((hb.block _ hB1).trans V1.out)).1
                 have N3 := Lib.hid (fromFive ((hg.block (wr.heap.size + 1) (by simp) (by simp [Value.ownBlock])).trans Bn.out))
                 clear hb ho hg)
              | (refine step_chainM (w0 := wr) rfl (.tmp 32) (.tmp 35) 25 rfl und hi hz0 hz1 hz2 rfl (by decide) (.slice (some ⟨wr.heap.size + 1, 0, none⟩) 0 0) (.slice (some ⟨g, 0, none⟩) k c1) 0 k [] (cellsT (T.take k)) (by first | (simp [Act.eval]; done) | fail) (by first | (simp [Act.eval]; done) | fail) (by first | exact Cb.out.drew | fail) (by first | exact Co.out | fail) (F1.out _ Cb.out.drew) (cellsT_one _) (by unfold maxLen; omega) (by omega) ?_
                 intro v3 w3 hb ho hg
                 have O3 := Lib.hid ho
                 have B3 := Lib.hid hb
                 have cc := (four ((hb.block _ hB1).trans V1.out)).1
                 have N3 := Lib.hid (fromFive ((hg.block wr.heap.size (by simp; omega) (by simp [Value.ownBlock])).trans Cn.out))
                 clear hb ho hg)
              | (refine step_chainM (w0 := wr) rfl (.tmp 36) (.tmp 40) 25 rfl und hi hz0 hz1 hz2 rfl (by decide) v3 (.slice (some ⟨w3.heap.size, 0, none⟩) 1 1) (0 + k) 1 ([] ++ cellsT (T.take k)) (fiveL x y cy) (by first | (simp [Act.eval]; done) | fail) (by first | (simp [Act.eval]; done) | fail) (B3.out.alloc B3.out.size _) (O3.out.alloc _) (fromFive (heap_alloc_new w3 _)) (fiveL_one x y cy) (by unfold maxLen; omega) (by omega) ?_
                 intro v5 w5 hb ho hg
                 have O5 := Lib.hid ho
                 have B5 := Lib.hid hb
                 have cc := (four ((hb.block _ hB1).trans V1.out)).1
                 clear hb ho hg)
              | (refine step_chainM (w0 := wr) rfl (.tmp 36) (.tmp 40) 25 rfl und hi hz0 hz1 hz2 rfl (by decide) v3 (.slice (some ⟨wr.heap.size + 1, 0, none⟩) 1 1) (0 + k) 1 ([] ++ cellsT (T.take k)) (fiveL x y cy) (by first | (simp [Act.eval]; done) | fail) (by first | (simp [Act.eval]; done) | fail) B3.out O3.out N3.out (fiveL_one x y cy) (by unfold maxLen; omega) (by omega) ?_
                 intro v5 w5 hb ho hg
                 have O5 := Lib.hid ho
                 have B5 := Lib.hid hb
                 have cc := (four ((hb.block _ hB1).trans V1.out)).1
                 clear hb ho hg)
              | (refine step_chainM (w0 := wr) rfl (.tmp 36) (.tmp 40) 25 rfl und hi hz0 hz1 hz2 rfl (by decide) v3 (.slice (some ⟨wr.heap.size, 0, none⟩) 1 1) (0 + k) 1 ([] ++ cellsT (T.take k)) (fiveL x y cy) (by first | (simp [Act.eval]; done) | fail) (by first | (simp [Act.eval]; done) | fail) B3.out O3.out N3.out (fiveL_one x y cy) (by unfold maxLen; omega) (by omega) ?_
                 intro v5 w5 hb ho hg
                 have O5 := Lib.hid ho
                 have B5 := Lib.hid hb
                 have cc := (four ((hb.block _ hB1).trans V1.out)).1
                 clear hb ho hg)
              | fail)
            all_goals
              have O6 := Lib.hid (p := w5.ownsRow wr.heap.size 63 5 v5 (k + 1) (cellsT (T.take k) ++ fiveL x y cy)) (by have := O5.out; rwa [Nat.zero_add, List.nil_append] at this)
              obtain ⟨g2, c2, rfl⟩ := ownsRow_succ O6.out
              go_wp2_with fail
              go_meet
              case rel => exact ⟨g2, c2, rfl, O6, B5⟩
          case rest =>
            obtain ⟨g2, c2, rfl, O7, B7⟩ := hcut
            have hw7 := B7.out.size
            clear Ab Ao Bb Bo Bn Cb Co Cn F1 cc
            go_wp2_with (at_builtin; (refine wpList_append_fromM rfl _ _ 25 rfl (base := wr.heap.size) und hi hz0 hz1 hz2 rfl (by decide) (.slice (some ⟨g2, 0, none⟩) (k + 1) c2) (.slice (some ⟨g, k * 5, none⟩) (T.length - k) (c1 - k)) (k + 1) (T.length - k) (cellsT (T.take k) ++ fiveL x y cy) (cellsT (T.drop k)) rfl rfl O7.out (F2.out _ B7.out) (cellsT_one _) (by unfold maxLen; omega) (by omega) hw7 ?_
                                      intro v8 w8 ho hg
                                      have O8 := Lib.hid ho
                                      have B8 := Lib.hid (B7.out.grown hg hw7 (fun q hq => (O7.out.lt q hq).1))
                                      clear ho hg))
            go_ret
            refine ⟨⟨_, T.take k ++ (x, y, cy) :: T.drop k, rfl, ?_, ?_, ?_⟩, B1.out.trans (B8.out.mono B1.out.size)⟩
            · rw [← HT0.out, HL.out, withL, hp, ← HL.out]
              first
                | (rw [List.map_append, List.map_cons, List.map_take, List.map_drop]; done)
                | simp
            · have h8 := own_monoB O8.out B1.out.size
              have hl8 : (T.take k ++ (x, y, cy) :: T.drop k).length = (k + 1) + (T.length - k) := by simp <;> omega
              rw [cellsT_put, hl8]
              exact h8
            · intro t ht
              rcases List.mem_append.1 ht with ht | ht
              · exact (HR.out t (List.mem_of_mem_take ht)).kept B8.out
              · rcases List.mem_cons.1 ht with rfl | ht
                · exact HY.out.kept B8.out
                · exact (HR.out t (List.mem_of_mem_drop ht)).kept B8.out
      · have hp : pos lsS (nmD L) x.m = k := pos_unique (by rw [nmD_len]; omega) hK.out (fun u hu => by rw [List.getElem?_eq_none (by rw [nmD_len]; omega)] at hu; cases hu)
        obtain rfl : k = T.length := by omega
        have F1 := Lib.hid (p := ∀ w', Below wr.heap.size wr w' → FromM w' (.slice (some ⟨g, 0, none⟩) T.length c1) T.length 5 (cellsT (T.take T.length))) (fun w' hb => (fromM_take CE.out T.length (Nat.le_refl _)).below hb)
        have F2 := Lib.hid (p := ∀ w', Below wr.heap.size wr w' → FromM w' (.slice (some ⟨g, T.length * 5, none⟩) 0 (c1 - T.length)) 0 5 (cellsT (T.drop T.length))) (fun w' hb => by have h := (fromM_drop (c := c1 - T.length) CE.out T.length (Nat.le_refl _)).below hb; rwa [Nat.sub_self] at h)
        have hB1 := lt_of_block V1.out
        have cc := (four V1.out).1
        have Ab := Lib.hid (p := Below wr.heap.size wr (wr.alloc (.cells #[] 63))) ((Below.refl _ _).alloc (Nat.le_refl _) _)
        have Ao := Lib.hid (p := (wr.alloc (.cells #[] 63)).ownsRow wr.heap.size 63 5 (.slice (some ⟨wr.heap.size, 0, none⟩) 0 0) 0 []) (own_emptyM (heap_alloc_new wr _) (Nat.le_refl _))
        have Bb := Lib.hid (p := Below wr.heap.size wr ((wr.alloc (.cells #[] 63)).alloc (.cells #[.string x.m, .int .i64 x.k, .int .i64 x.n, .string x.s, .slice y x.len cy] 63))) (Ab.out.alloc (by simp) _)
        have Bo := Lib.hid (p := ((wr.alloc (.cells #[] 63)).alloc (.cells #[.string x.m, .int .i64 x.k, .int .i64 x.n, .string x.s, .slice y x.len cy] 63)).ownsRow wr.heap.size 63 5 (.slice (some ⟨wr.heap.size, 0, none⟩) 0 0) 0 []) (Ao.out.alloc _)
        have Bn := Lib.hid (p := ((wr.alloc (.cells #[] 63)).alloc (.cells #[.string x.m, .int .i64 x.k, .int .i64 x.n, .string x.s, .slice y x.len cy] 63)).heap[wr.heap.size + 1]? = some (.cells #[.string x.m, .int .i64 x.k, .int .i64 x.n, .string x.s, .slice y x.len cy] 63 (0, 0))) (heap_alloc2_new wr _ _)
        have Cb := Lib.hid (p := Below wr.heap.size wr ((wr.alloc (.cells #[.string x.m, .int .i64 x.k, .int .i64 x.n, .string x.s, .slice y x.len cy] 63)).alloc (.cells #[] 63))) (((Below.refl _ _).alloc (Nat.le_refl _) _).alloc (by simp) _)
        have Co := Lib.hid (p := ((wr.alloc (.cells #[.string x.m, .int .i64 x.k, .int .i64 x.n, .string x.s, .slice y x.len cy] 63)).alloc (.cells #[] 63)).ownsRow wr.heap.size 63 5 (.slice (some ⟨wr.heap.size + 1, 0, none⟩) 0 0) 0 []) (own_emptyM (heap_alloc2_new wr _ _) (by omega))
        have Cn := Lib.hid (p := ((wr.alloc (.cells #[.string x.m, .int .i64 x.k, .int .i64 x.n, .string x.s, .slice y x.len cy] 63)).alloc (.cells #[] 63)).heap[wr.heap.size]? = some (.cells #[.string x.m, .int .i64 x.k, .int .i64 x.n, .string x.s, .slice y x.len cy] 63 (0, 0))) (heap_alloc2_old wr _ _)
        go_upto_region 5 with fail
        go_cut [10] from 32 to 41 (fun v wc => ∃ g2 c2 : Nat, v = .slice (some ⟨g2, 0, none⟩) (T.length + 1) c2 ∧ Hid (wc.ownsRow wr.heap.size 63 5 (.slice (some ⟨g2, 0, none⟩) (T.length + 1) c2) (T.length + 1) (cellsT (T.take T.length) ++ fiveL x y cy)) ∧ Hid (Below wr.heap.size wr wc))
        case first =>
          go_wp2_with fail
          go_region_held3 (fun w' => w'.cell? ⟨w.heap.size, 0, none⟩ = some (.int .i64 x.k) ∧ w'.cell? ⟨w.heap.size, 1, none⟩ = some (.int .i64 x.n) ∧ w'.cell? ⟨w.heap.size, 2, none⟩ = some (.string x.s) ∧ w'.cell? ⟨w.heap.size, 3, none⟩ = some (.slice y x.len cy)) (first | assumption | exact cc | (refine ⟨?_, ?_, ?_, ?_⟩ <;> (first | assumption | (go_keep; done)))) (first
            | (refine step_chainM (w0 := wr) rfl (.tmp 32) (.tmp 35) 25 rfl und hi hz0 hz1 hz2 rfl (by decide) (.slice (some ⟨wr.heap.size, 0, none⟩) 0 0) (.slice (some ⟨g, 0, none⟩) T.length c1) 0 T.length [] (cellsT (T.take T.length)) (by first | (simp [Act.eval]; done) | fail) (by first | (simp [Act.eval]; done) | fail) (by first | exact Ab.out.drew | fail) (by first | exact Ao.out | fail) (F1.out _ Ab.out.drew) (cellsT_one _) (by unfold maxLen; omega) (by omega) ?_
               intro v3 w3 hb ho hg
               have O3 := Lib.hid ho
               have B3 := Lib.hid hb
               have cc := (four ((hb.block _ hB1).trans V1.out)).1
               skip
               clear hb ho hg)
            | (refine step_chainM (w0 := wr) rfl (.tmp 32) (.tmp 35) 25 rfl und hi hz0 hz1 hz2 rfl (by decide) (.slice (some ⟨wr.heap.size, 0, none⟩) 0 0) (.slice (some ⟨g, 0, none⟩) T.length c1) 0 T.length [] (cellsT (T.take T.length)) (by first | (simp [Act.eval]; done) | fail) (by first | (simp [Act.eval]; done) | fail) (by first | exact Bb.out.drew | fail) (by first | exact Bo.out | fail) (F1.out _ Bb.out.drew) (cellsT_one _) (by unfold maxLen; omega) (by omega) ?_
               intro v3 w3 hb ho hg
               have O3 := Lib.hid ho
               have B3 := Lib.hid hb
               have cc := (four ((hb.block _ hB1).trans V1.out)).1
               have N3 := Lib.hid (fromFive ((hg.block (wr.heap.size + 1) (by simp) (by simp [Value.ownBlock])).trans Bn.out))
               clear hb ho hg)
            | (refine step_chainM (w0 := wr) rfl (.tmp 32) (.tmp 35) 25 rfl und hi hz0 hz1 hz2 rfl (by decide) (.slice (some ⟨wr.heap.size + 1, 0, none⟩) 0 0) (.slice (some ⟨g, 0, none⟩) T.length c1) 0 T.length [] (cellsT (T.take T.length)) (by first | (simp [Act.eval]; done) | fail) (by first | (simp [Act.eval]; done) | fail) (by first | exact Cb.out.drew | fail) (by first | exact Co.out | fail) (F1.out _ Cb.out.drew) (cellsT_one _) (by unfold maxLen; omega) (by omega) ?_
               intro v3 w3 hb ho hg
               have O3 := Lib.hid ho
               have B3 := Lib.hid hb
               have cc := (four ((hb.block _ hB1).trans V1.out)).1
               have N3 := Lib.hid (fromFive ((hg.block wr.heap.size (by simp; omega) (by simp [Value.ownBlock])).trans Cn.out))
               clear hb ho hg)
            | (refine step_chainM (w0 := wr) rfl (.tmp 36) (.tmp 40) 25 rfl und hi hz0 hz1 hz2 rfl (by decide) v3 (.slice (some ⟨w3.heap.size, 0, none⟩) 1 1) (0 + T.length) 1 ([] ++ cellsT (T.take T.length)) (fiveL x y cy) (by first | (simp [Act.eval]; done) | fail) (by first | (simp [Act.eval]; done) | fail) (B3.out.alloc B3.out.size _) (O3.out.alloc _) (fromFive (heap_alloc_new w3 _)) (fiveL_one x y cy) (by unfold maxLen; omega) (by omega) ?_
               intro v5 w5 hb ho hg
               have O5 := Lib.hid ho
               have B5 := Lib.hid hb
               have cc := (four ((hb.block _ hB1).trans V1.out)).1
               clear hb ho hg)
            | (refine step_chainM (w0 := wr) rfl (.tmp 36) (.tmp 40) 25 rfl und hi hz0 hz1 hz2 rfl (by decide) v3 (.slice (some ⟨wr.heap.size + 1, 0, none⟩) 1 1) (0 + T.length) 1 ([] ++ cellsT (T.take T.length)) (fiveL x y cy) (by first | (simp [Act.eval]; done) | fail) (by first | (simp [Act.eval]; done) | fail) B3.out O3.out N3.out (fiveL_one x y cy) (by unfold maxLen; omega) (by omega) ?_
               intro v5 w5 hb ho hg
               have O5 := Lib.hid ho
               have B5 := Lib.hid hb
               have cc := (four ((hb.block _ hB1).trans V1.out)).1
               clear hb ho hg)
            | (refine step_chainM (w0 := wr) rfl (.tmp 36) (.tmp 40) 25 rfl und hi hz0 hz1 hz2 rfl (by decide) v3 (.slice (some ⟨wr.heap.size, 0, none⟩) 1 1) (0 + T.length) 1 ([] ++ cellsT (T.take T.length)) (fiveL x y cy) (by first | (simp [Act.eval]; done) | fail) (by first | (simp [Act.eval]; done) | fail) B3.out O3.out N3.out (fiveL_one x y cy) (by unfold maxLen; omega) (by omega) ?_
               intro v5 w5 hb ho hg
               have O5 := Lib.hid ho
               have B5 := Lib.hid hb
               have cc := (four ((hb.block _ hB1).trans V1.out)).1
               clear hb ho hg)
            | fail)
          all_goals
            have O6 := Lib.hid (p := w5.ownsRow wr.heap.size 63 5 v5 (T.length + 1) (cellsT (T.take T.length) ++ fiveL x y cy)) (by have := O5.out; rwa [Nat.zero_add, List.nil_append] at this)
            obtain ⟨g2, c2, rfl⟩ := ownsRow_succ O6.out
            go_wp2_with fail
            go_meet
            case rel => exact ⟨g2, c2, rfl, O6, B5⟩
        case rest =>
          obtain ⟨g2, c2, rfl, O7, B7⟩ := hcut
          have hw7 := B7.out.size
          clear Ab Ao Bb Bo Bn Cb Co Cn F1 cc
          by_cases hcc : c1 = T.length
          · subst hcc
            go_wp2_with (at_builtin; (refine wpList_append_fromM rfl _ _ 25 rfl (base := wr.heap.size) und hi hz0 hz1 hz2 rfl (by decide) (.slice (some ⟨g2, 0, none⟩) (T.length + 1) c2) (.slice (some ⟨g, 0, none⟩) 0 0) (T.length + 1) 0 (cellsT (T.take T.length) ++ fiveL x y cy) (cellsT (T.drop T.length)) rfl rfl O7.out (.inr ⟨_, _, rfl, by rw [List.drop_length]; rfl, fun j x hj => by simp [cellsT] at hj⟩) (cellsT_one _) (by unfold maxLen; omega) (by omega) hw7 ?_
                                      intro v8 w8 ho hg
                                      have O8 := Lib.hid ho
                                      have B8 := Lib.hid (B7.out.grown hg hw7 (fun q hq => (O7.out.lt q hq).1))
                                      clear ho hg))
            go_ret
            refine ⟨⟨_, T.take T.length ++ (x, y, cy) :: T.drop T.length, rfl, ?_, ?_, ?_⟩, B1.out.trans (B8.out.mono B1.out.size)⟩
            · rw [← HT0.out, HL.out, withL, hp, ← HL.out]
              first
                | (rw [List.map_append, List.map_cons, List.map_take, List.map_drop]; done)
                | simp
            · have h8 := own_monoB O8.out B1.out.size
              have hl8 : (T.take T.length ++ (x, y, cy) :: T.drop T.length).length = (T.length + 1) + 0 := by simp <;> omega
              rw [cellsT_put, hl8]
              exact h8
            · intro t ht
              rcases List.mem_append.1 ht with ht | ht
              · exact (HR.out t (List.mem_of_mem_take ht)).kept B8.out
              · rcases List.mem_cons.1 ht with rfl | ht
                · exact HY.out.kept B8.out
                · exact (HR.out t (List.mem_of_mem_drop ht)).kept B8.out
          · skip
            go_wp2_with (at_builtin; (refine wpList_append_fromM rfl _ _ 25 rfl (base := wr.heap.size) und hi hz0 hz1 hz2 rfl (by decide) (.slice (some ⟨g2, 0, none⟩) (T.length + 1) c2) (.slice (some ⟨g, T.length * 5, none⟩) 0 (c1 - T.length)) (T.length + 1) 0 (cellsT (T.take T.length) ++ fiveL x y cy) (cellsT (T.drop T.length)) rfl rfl O7.out (F2.out _ B7.out) (cellsT_one _) (by unfold maxLen; omega) (by omega) hw7 ?_
                                      intro v8 w8 ho hg
                                      have O8 := Lib.hid ho
                                      have B8 := Lib.hid (B7.out.grown hg hw7 (fun q hq => (O7.out.lt q hq).1))
                                      clear ho hg))
            go_ret
            refine ⟨⟨_, T.take T.length ++ (x, y, cy) :: T.drop T.length, rfl, ?_, ?_, ?_⟩, B1.out.trans (B8.out.mono B1.out.size)⟩
            · rw [← HT0.out, HL.out, withL, hp, ← HL.out]
              first
                | (rw [List.map_append, List.map_cons, List.map_take, List.map_drop]; done)
                | simp
            · have h8 := own_monoB O8.out B1.out.size
              have hl8 : (T.take T.length ++ (x, y, cy) :: T.drop T.length).length = (T.length + 1) + 0 := by simp <;> omega
              rw [cellsT_put, hl8]
              exact h8
            · intro t ht
              rcases List.mem_append.1 ht with ht | ht
              · exact (HR.out t (List.mem_of_mem_take ht)).kept B8.out
              · rcases List.mem_cons.1 ht with rfl | ht
                · exact HY.out.kept B8.out
                · exact (HR.out t (List.mem_of_mem_drop ht)).kept B8.out

end Go.Proofs.YtgcjfalgngiebaaGreatDoor

namespace Go.Proofs.YtgcjfalgngiebaaGreatDoor
open Go.RowKit

theorem nmL_at {L : List AD} {i : Nat} (hi : i < L.length) : (nmD L)[i]? = some L[i].m := by
  rw [nmD, List.getElem?_map, List.getElem?_eq_getElem hi]; rfl

theorem nm_one {L : List AD} (hr : Rising lsS (nmD L)) {i j : Nat} (hi : i < L.length) (hj : j < L.length) (e : L[i].m = L[j].m) : i = j := by
  rcases Nat.lt_trichotomy i j with h | h | h
  · have := rising_at hr h (nmL_at hi) (nmL_at hj)
    rw [e] at this
    exact absurd this (by rw [strictS.irrefl]; decide)
  · exact h
  · have := rising_at hr h (nmL_at hj) (nmL_at hi)
    rw [e] at this
    exact absurd this (by rw [strictS.irrefl]; decide)

theorem has_at {L : List AD} (hr : Rising lsS (nmD L)) {x : ByteArray} (h : has (nmD L) x = true) : ∃ p, pos lsS (nmD L) x = p ∧ ∃ hi : p < L.length, L[p].m = x := by
  have hp := (mem_iff_pos strictS hr).1 ((has_iff _ _).1 h)
  have hi : pos lsS (nmD L) x < L.length := by
    obtain ⟨hi, _⟩ := List.getElem?_eq_some_iff.1 hp
    rwa [nmD_len] at hi
  refine ⟨_, rfl, hi, ?_⟩
  rw [nmL_at hi] at hp
  exact Option.some.inj hp

/-- Of a rising row one element alone goes. -/
theorem flt_drop {L : List AD} (hr : Rising lsS (nmD L)) (x : ByteArray) : fltA L x = dropD L x := by
  unfold dropD fltA
  by_cases h : has (nmD L) x = true
  · rw [if_pos h]
    obtain ⟨p, hpp, hi, hx⟩ := has_at hr h
    rw [hpp]
    rw [List.eraseIdx_eq_take_drop_succ]
    have e : L = L.take p ++ L[p] :: L.drop (p + 1) := by rw [← List.drop_eq_getElem_cons hi, List.take_append_drop]
    have keep : ∀ S : List AD, (∀ y ∈ S, y.m ≠ x) → S.filter (fun y => decide (y.m ≠ x)) = S := fun S hS => List.filter_eq_self.2 (fun y hy => decide_eq_true (hS y hy))
    have h1 : ∀ y ∈ L.take p, y.m ≠ x := by
      intro y hy e2
      obtain ⟨j, hj, rfl⟩ := List.mem_iff_getElem.1 hy
      rw [List.getElem_take] at e2
      rw [List.length_take] at hj
      have := nm_one hr (i := j) (j := p) (by omega) hi (e2.trans hx.symm)
      omega
    have h2 : ∀ y ∈ L.drop (p + 1), y.m ≠ x := by
      intro y hy e2
      obtain ⟨j, hj, rfl⟩ := List.mem_iff_getElem.1 hy
      rw [List.getElem_drop] at e2
      rw [List.length_drop] at hj
      have := nm_one hr (i := p + 1 + j) (j := p) (by omega) hi (e2.trans hx.symm)
      omega
    conv => lhs; rw [e]
    rw [List.filter_append, List.filter_cons_of_neg (by simp [hx]), keep _ h1, keep _ h2]
  · rw [if_neg h]
    refine List.filter_eq_self.2 fun y hy => decide_eq_true fun e => h ?_
    exact (has_iff _ _).2 (List.mem_map.2 ⟨y, hy, e⟩)

theorem rising_drop {L : List AD} (hr : Rising lsS (nmD L)) (x : ByteArray) : Rising lsS (nmD (dropD L x)) := by
  rw [← flt_drop hr]
  have h : L.Pairwise (fun a b => lsS a.m b.m = true) := List.pairwise_map.1 hr
  exact List.pairwise_map.2 (h.filter _)

theorem set_parts {L : List AD} {p : Nat} (hp : p < L.length) (x : AD) : (L.eraseIdx p).take p ++ x :: (L.eraseIdx p).drop p = L.set p x := by
  have hl : (L.take p).length = p := by rw [List.length_take]; omega
  rw [List.eraseIdx_eq_take_drop_succ, List.take_append_of_le_length (by omega), List.take_take, Nat.min_self, List.drop_append_of_le_length (by omega), List.drop_of_length_le (by omega : (L.take p).length ≤ p), List.nil_append, List.set_eq_take_append_cons_drop, if_pos hp]

/-- With is Put. -/
theorem with_put {L : List AD} (hr : Rising lsS (nmD L)) (x : AD) : withL (fltA L x.m) x = putD L x := by
  rw [flt_drop hr]
  unfold withL putD
  by_cases h : has (nmD L) x.m = true
  · obtain ⟨p, hpp, hi, hx⟩ := has_at hr h
    rw [if_pos h, hpp]
    have e : dropD L x.m = L.eraseIdx p := by unfold dropD; rw [if_pos h, hpp]
    have hel : (L.eraseIdx p).length = L.length - 1 := by rw [List.length_eraseIdx, if_pos hi]
    have hpos : pos lsS (nmD (L.eraseIdx p)) x.m = p := by
      refine pos_unique (by rw [nmD_len]; omega) (fun t k ht hk => ?_) (fun k hk => ?_)
      · have h1 : (L.eraseIdx p)[t]? = L[t]? := List.getElem?_eraseIdx_of_lt ht
        rw [nmD, List.getElem?_map, h1, List.getElem?_eq_getElem (by omega : t < L.length)] at hk
        obtain rfl := Option.some.inj hk
        have := rising_at hr ht (nmL_at (by omega : t < L.length)) (nmL_at hi)
        rwa [hx] at this
      · have h1 : (L.eraseIdx p)[p]? = L[p + 1]? := List.getElem?_eraseIdx_of_ge (Nat.le_refl p)
        rw [nmD, List.getElem?_map, h1] at hk
        by_cases hl : p + 1 < L.length
        · rw [List.getElem?_eq_getElem hl] at hk
          obtain rfl := Option.some.inj hk
          have h2 := rising_at hr (Nat.lt_succ_self p) (nmL_at hi) (nmL_at hl)
          rw [hx] at h2
          cases h3 : lsS (L[p + 1]).m x.m with
          | false => rfl
          | true =>
            have := strictS.trans _ _ _ h2 h3
            rw [strictS.irrefl] at this; cases this
        · rw [List.getElem?_eq_none (by omega)] at hk; cases hk
    rw [e, hpos]
    exact set_parts hi x
  · rw [if_neg h, show dropD L x.m = L from if_neg h]

end Go.Proofs.YtgcjfalgngiebaaGreatDoor

namespace Go.Proofs.YtgcjfalgngiebaaGreatDoor
open Go.RowKit

/-- What the document's Set answers. -/
def RSetPost (w : World) (D : List AD) (x : AD) (e : Ending) (w' : World) : Prop :=
  (if errSet D x = 0 then (∃ v T, e = .returned (.tuple #[v, .int .i64 0]) ∧ T.map (·.1) = putD D x ∧ w'.ownsRow w.heap.size 63 5 v T.length (cellsT T) ∧ ∀ t ∈ T, Reads w' t.2.1 t.1.len t.1.z)
    else e = .returned (.tuple #[.slice none 0 0, .int .i64 (errSet D x)])) ∧ Below w.heap.size w w'

theorem rset_bad {w w' : World} {D : List AD} {x : AD} {E : Int} (h : errSet D x = E) (h0 : ¬ E = 0) (hb : Below w.heap.size w w') : RSetPost w D x (.returned (.tuple #[.slice none 0 0, .int .i64 E])) w' := by
  unfold RSetPost
  rw [h, if_neg h0]
  exact ⟨rfl, hb⟩

theorem rset_ok {w w' : World} {D : List AD} {x : AD} (h : errSet D x = 0) {v : Value} {T : List (AD × Option Addr × Nat)} (h1 : T.map (·.1) = putD D x) (h2 : w'.ownsRow w.heap.size 63 5 v T.length (cellsT T)) (h3 : ∀ t ∈ T, Reads w' t.2.1 t.1.len t.1.z) (hb : Below w.heap.size w w') :
    RSetPost w D x (.returned (.tuple #[v, .int .i64 0])) w' := by
  unfold RSetPost
  rw [if_pos h]
  exact ⟨⟨v, T, rfl, h1, h2, h3⟩, hb⟩

theorem nmA_from (A : Nat → AD) (n : Nat) : nmA A n = nmD (fromA A n 0) := by
  simp [nmA, nmD, fromA]

set_option maxRecDepth 100000 in
set_option maxHeartbeats 4000000 in
theorem rSet_any (a : Option Addr) (n c : Nat) (A : Nat → AD) (x : AD) (y : Option Addr) (cy : Nat) (hn : n ≤ 1000) (hr : Rising lsS (nmD (fromA A n 0))) (hm : x.m.size ≤ 281474976710656) (hs : x.s.size ≤ 281474976710656) (w : World) (h : ReadsA w a n A) (hy : Reads w y x.len x.z) :
    Calls Tryz.prog 8 #[.slice a n c, .string x.m, .agg #[.int .i64 x.k, .int .i64 x.n, .string x.s, .slice y x.len cy]] w (RSetPost w (fromA A n 0) x) := by
  have hb1 : ∀ o, Below w.heap.size w (w.alloc o) := fun o => (Below.refl _ _).alloc (Nat.le_refl _) _
  have RG := Lib.hid (fun o => rGet_any a n c A x.m hn (w.alloc o) (h.kept (hb1 o)))
  have CV := Lib.hid (fun w' (hb : Below w.heap.size w w') => rCheck_any x.k x.n x.s hs y x.len cy x.z w' (hy.kept hb))
  have NM := Lib.hid (fun w' => rName_any x.m hm w')
  have WT := Lib.hid (fun w' (hb : Below w.heap.size w w') => rWith_any a n c A x y cy hn w' (h.kept hb) (hy.kept hb))
  have WP := Lib.hid (with_put hr x)
  have hlen : (fromA A n 0).length = n := by rw [fromA_len]
  unfold val at CV
  obtain ⟨E, hE⟩ : ∃ E, errSet (fromA A n 0) x = E := ⟨_, rfl⟩
  have HE := Lib.hid hE
  obtain ⟨V, hV⟩ : ∃ V, errV x.k x.s x.len x.z = V := ⟨_, rfl⟩
  obtain ⟨G, hG⟩ : ∃ G, goodB x.m.data.toList = G := ⟨_, rfl⟩
  obtain ⟨H, hH⟩ : ∃ H, has (nmA A n) x.m = H := ⟨_, rfl⟩
  have e1 : E = if G = false then 5 else if V = 0 then (if H = false ∧ 32 ≤ n then 4 else 0) else V := by
    rw [← hE, ← hV, ← hG, ← hH, nmA_from]
    unfold errSet
    rw [hlen]
  rw [hV] at CV
  rw [hG] at NM
  have QH := Lib.hid hH
  have HL := Lib.hid hlen
  have E1 := Lib.hid e1
  clear hE hV hG hH hlen hr h hy hb1 e1
  go_enter Tryz.func8, Tryz.ntmps8
  go_wp2_with fail
  refine (RG.out _).mono ?_
  unfold RGet
  generalize hW : World.alloc w _ = W
  have bW : Below w.heap.size w W := by rw [← hW]; exact (Below.refl _ _).alloc (Nat.le_refl _) _
  have vW : W.heap[w.heap.size]? = some (.cells #[.int .i64 x.k, .int .i64 x.n, .string x.s, .slice y x.len cy] 38 (0, 0)) := by rw [← hW]; exact heap_alloc_new w _
  clear hW
  rintro e w1 ⟨hg, hb⟩
  have V1 := Lib.hid ((hb.block _ (lt_of_block vW)).trans vW)
  have B1 := Lib.hid (bW.trans (hb.mono bW.size))
  obtain ⟨k0, n0, s0, y0, l0, c0, rfl⟩ : ∃ (k0 n0 : Int) (s0 : ByteArray) (y0 : Option Addr) (l0 c0 : Nat), e = .returned (.tuple #[.agg #[.int .i64 k0, .int .i64 n0, .string s0, .slice y0 l0 c0], .bool H]) := by
    rw [QH.out] at hg
    cases H with
    | true =>
      rw [if_pos rfl] at hg
      obtain ⟨j, y', c', _, _, he, _⟩ := hg
      exact ⟨_, _, _, _, _, _, he⟩
    | false =>
      rw [if_neg (by decide)] at hg
      exact ⟨_, _, _, _, _, _, hg⟩
  clear bW vW hb hg RG QH
  go_upto_region 2 with fail
  generalize hW2 : World.alloc w1 _ = w2
  have V2 := Lib.hid (show w2.heap[w.heap.size]? = some (.cells #[.int .i64 x.k, .int .i64 x.n, .string x.s, .slice y x.len cy] 38 (0, 0)) by rw [← hW2]; exact (Below.heap_alloc w1 _ _ (lt_of_block V1.out)).trans V1.out)
  have B2 := Lib.hid (show Below w.heap.size w w2 by rw [← hW2]; exact B1.out.alloc B1.out.size _)
  clear hW2 V1 B1
  obtain ⟨d0, d1, d2, d3⟩ := (four V2.out).1
  go_wp2_with fail
  refine (CV.out _ B2.out).mono ?_
  rintro e w3 ⟨rfl, hb⟩
  have V3 := Lib.hid ((hb.block _ (lt_of_block V2.out)).trans V2.out)
  have B3 := Lib.hid (B2.out.trans (hb.mono B2.out.size))
  clear hb d0 d1 d2 d3 V2 B2 CV
  go_wp2_with fail
  refine (NM.out _).mono ?_
  rintro e w4 ⟨rfl, rfl⟩
  cases G with
  | false =>
    have hE : E = 5 := E1.out.trans (if_pos rfl)
    subst hE
    clear E1
    go_wp2_with fail
    go_ret2
    exact rset_bad HE.out (by decide) B3.out
  | true =>
    have h1 := E1.out
    rw [if_neg (show ¬ (true = false) by decide)] at h1
    by_cases hv : V = 0
    · rw [if_pos hv] at h1
      subst hv
      by_cases hf : H = false ∧ 32 ≤ n
      · rw [if_pos hf] at h1
        subst h1
        obtain ⟨rfl, h32⟩ := hf
        have h32' : (32 : Int) ≤ (n : Int) := by omega
        clear E1
        go_wp2_with fail
        go_ret2
        exact rset_bad HE.out (by decide) B3.out
      · rw [if_neg hf] at h1
        subst h1
        obtain ⟨d0, d1, d2, d3⟩ := (four V3.out).1
        clear E1
        cases H with
        | true =>
          clear hf
          go_wp2_with fail
          refine (WT.out _ B3.out).mono ?_
          rintro e w5 ⟨⟨v, T, rfl, hT, hO, hR⟩, hb⟩
          rw [WP.out] at hT
          have T5 := Lib.hid hT
          have O5 := Lib.hid (own_monoB hO B3.out.size)
          have R5 := Lib.hid hR
          have B5 := Lib.hid (B3.out.trans (hb.mono B3.out.size))
          clear hT hO hR hb
          go_wp2_with fail
          go_ret2
          exact rset_ok HE.out T5.out O5.out R5.out B5.out
        | false =>
          have h32 : ¬ (32 : Int) ≤ (n : Int) := fun h => hf ⟨rfl, by omega⟩
          have h32' : (n : Int) < 32 := by omega
          clear hf
          go_wp2_with fail
          refine (WT.out _ B3.out).mono ?_
          rintro e w5 ⟨⟨v, T, rfl, hT, hO, hR⟩, hb⟩
          rw [WP.out] at hT
          have T5 := Lib.hid hT
          have O5 := Lib.hid (own_monoB hO B3.out.size)
          have R5 := Lib.hid hR
          have B5 := Lib.hid (B3.out.trans (hb.mono B3.out.size))
          clear hT hO hR hb
          go_wp2_with fail
          go_ret2
          exact rset_ok HE.out T5.out O5.out R5.out B5.out
    · rw [if_neg hv] at h1
      subst h1
      have q : (E == 0) = false := beq_eq_false_iff_ne.2 hv
      clear E1
      go_wp2_with fail
      go_ret2
      exact rset_bad HE.out hv B3.out

end Go.Proofs.YtgcjfalgngiebaaGreatDoor

namespace Go.Proofs.YtgcjfalgngiebaaGreatDoor
open Go.RowKit

theorem errSet_tw (M : List AD) (x : AD) : errSet (M.map twA) x = errSet M x := by
  unfold errSet; rw [nmD_tw, List.length_map]

theorem map_dropD (D : List AD) (x : ByteArray) : (dropD D x).map twA = dropD (D.map twA) x := by
  unfold dropD
  rw [nmD_tw]
  split
  · apply List.ext_getElem? ; intro i; simp only [List.getElem?_map, List.getElem?_eraseIdx]; split <;> simp
  · rfl

theorem drop_ok {M : List AD} (h : OkL M) (x : ByteArray) : OkL (dropD M x) := by
  refine ⟨Nat.le_trans (dropD_len M x) h.1, fun y hy => h.2.1 y ?_, rising_drop h.2.2 x⟩
  unfold dropD at hy
  split at hy
  · exact List.mem_of_mem_eraseIdx hy
  · exact hy

theorem set_ok {M : List AD} (hM : OkL M) {x : AD} (hx : FewA x) (he : errSet M x = 0) : OkL (putD M x) := by
  unfold errSet at he
  by_cases h1 : goodB x.m.data.toList = false
  · rw [if_pos h1] at he; cases he
  rw [if_neg h1] at he
  have h1' : goodB x.m.data.toList = true := by simpa using h1
  by_cases h2 : errV x.k x.s x.len x.z = 0
  · rw [if_pos h2] at he
    refine put_ok hM ⟨hx, h1', h2⟩ ?_
    by_cases h3 : has (nmD M) x.m = false ∧ 32 ≤ M.length
    · rw [if_pos h3] at he; cases he
    · by_cases h4 : has (nmD M) x.m = true
      · exact .inl h4
      · exact .inr (Nat.lt_of_not_le fun h5 => h3 ⟨by simpa using h4, h5⟩)
  · rw [if_neg h2] at he; exact absurd he h2

theorem twl_map {M : List AD} (h : OkL M) : TwL (M.map twA) := ⟨map_tw_tw M, tw_ok h⟩

theorem same_self (M : List AD) : sameL M.length M.length (atD (M.map twA)) (atD (M.map twA)) = true := by
  have := sameL_tw (atD (M.map twA)) (M.map twA).length
  rw [twsA_atD, map_tw_tw, List.length_map] at this
  exact this

theorem same_two (M : List AD) : sameL M.length M.length (atD (M.map twA)) (atD M) = true := by
  have := sameL_tw (atD M) M.length
  rw [twsA_atD, List.length_map] at this
  exact this

section
variable (a : Option Addr) (c : Nat) {M : List AD}

theorem pSet_any (hM : OkL M) (x : AD) (y : Option Addr) (cy : Nat) (hx : FewA x) (w : World) (h : ReadsA w a M.length (atD (M.map twA))) (hy : Reads w y x.len x.z) :
    Calls Tryz.prog 7 #[.slice a M.length c, .string x.m, .agg #[.int .i64 x.k, .int .i64 x.n, .string x.s, .slice y x.len cy]] w (SetPost w (M.map twA) x) := by
  have hl : (M.map twA).length = M.length := List.length_map ..
  have := setS_any a (M.map twA).length c (atD (M.map twA)) x y cy (by rw [fromA_atD]; exact tw_ok hM) hx w (by rw [hl]; exact h) hy
  rw [twsA_atD, map_tw_tw, hl] at this
  exact this

theorem pSetOk_any (hM : OkL M) (x : AD) (y : Option Addr) (cy : Nat) (hx : FewA x) {R : List AD} (he : errSet M x = 0) (hR : putD M x = R) (w : World) (h : ReadsA w a M.length (atD (M.map twA))) (hy : Reads w y x.len x.z) :
    Calls Tryz.prog 7 #[.slice a M.length c, .string x.m, .agg #[.int .i64 x.k, .int .i64 x.n, .string x.s, .slice y x.len cy]] w fun e w' => (∃ a c, e = .returned (.tuple #[.slice a R.length c, .int .i64 0]) ∧ ReadsA w' a R.length (atD (R.map twA))) ∧ Below w.heap.size w w' := by
  refine (pSet_any a c hM x y cy hx w h hy).mono ?_
  rintro e w' ⟨h, hb⟩
  rw [if_pos ((errSet_tw M x).trans he), ← map_putD, List.length_map, hR] at h
  exact ⟨h, hb⟩

theorem pSetBad_any (hM : OkL M) (x : AD) (y : Option Addr) (cy : Nat) (hx : FewA x) {E : Int} (he : errSet M x = E) (h0 : ¬ E = 0) (w : World) (h : ReadsA w a M.length (atD (M.map twA))) (hy : Reads w y x.len x.z) :
    Calls Tryz.prog 7 #[.slice a M.length c, .string x.m, .agg #[.int .i64 x.k, .int .i64 x.n, .string x.s, .slice y x.len cy]] w fun e w' => e = .returned (.tuple #[.slice none 0 0, .int .i64 E]) ∧ Below w.heap.size w w' := by
  refine (pSet_any a c hM x y cy hx w h hy).mono ?_
  rintro e w' ⟨h, hb⟩
  rw [(errSet_tw M x).trans he, if_neg h0] at h
  exact ⟨h, hb⟩

theorem rS_any (hM : OkL M) (x : AD) (y : Option Addr) (cy : Nat) (hx : FewA x) (w : World) (h : ReadsA w a M.length (atD M)) (hy : Reads w y x.len x.z) :
    Calls Tryz.prog 8 #[.slice a M.length c, .string x.m, .agg #[.int .i64 x.k, .int .i64 x.n, .string x.s, .slice y x.len cy]] w (RSetPost w M x) := by
  obtain ⟨x1, x2, x3⟩ := hx
  have hl := hM.1
  have := rSet_any a M.length c (atD M) x y cy (by omega) (by rw [fromA_atD]; exact hM.2.2) (by omega) (by omega) w h hy
  rw [fromA_atD] at this
  exact this

theorem rSetOk_any (hM : OkL M) (x : AD) (y : Option Addr) (cy : Nat) (hx : FewA x) {R : List AD} (he : errSet M x = 0) (hR : putD M x = R) (w : World) (h : ReadsA w a M.length (atD M)) (hy : Reads w y x.len x.z) :
    Calls Tryz.prog 8 #[.slice a M.length c, .string x.m, .agg #[.int .i64 x.k, .int .i64 x.n, .string x.s, .slice y x.len cy]] w fun e w' => (∃ a c, e = .returned (.tuple #[.slice a R.length c, .int .i64 0]) ∧ ReadsA w' a R.length (atD R)) ∧ Below w.heap.size w w' := by
  refine (rS_any a c hM x y cy hx w h hy).mono ?_
  rintro e w' ⟨h, hb⟩
  rw [if_pos he] at h
  obtain ⟨v, T, rfl, hT, hO, hr⟩ := h
  obtain ⟨a', c', rfl, hA⟩ := readsT_own hO hr
  rw [hR] at hT
  have hl : T.length = R.length := by rw [← hT, List.length_map]
  rw [hT, hl] at hA
  exact ⟨⟨a', c', by rw [hl], hA⟩, hb⟩

theorem rSetBad_any (hM : OkL M) (x : AD) (y : Option Addr) (cy : Nat) (hx : FewA x) {E : Int} (he : errSet M x = E) (h0 : ¬ E = 0) (w : World) (h : ReadsA w a M.length (atD M)) (hy : Reads w y x.len x.z) :
    Calls Tryz.prog 8 #[.slice a M.length c, .string x.m, .agg #[.int .i64 x.k, .int .i64 x.n, .string x.s, .slice y x.len cy]] w fun e w' => e = .returned (.tuple #[.slice none 0 0, .int .i64 E]) ∧ Below w.heap.size w w' := by
  refine (rS_any a c hM x y cy hx w h hy).mono ?_
  rintro e w' ⟨h, hb⟩
  rw [he, if_neg h0] at h
  exact ⟨h, hb⟩

theorem pDrop_any (hM : OkL M) (x : ByteArray) {R : List AD} {H : Bool} (hR : dropD M x = R) (hH : has (nmD M) x = H) (w : World) (h : ReadsA w a M.length (atD (M.map twA))) :
    Calls Tryz.prog 11 #[.slice a M.length c, .string x] w fun e w' => (∃ a c, e = .returned (.tuple #[.slice a R.length c, .bool H]) ∧ ReadsA w' a R.length (atD (R.map twA))) ∧ Below w.heap.size w w' := by
  have hl : (M.map twA).length = M.length := List.length_map ..
  have h32 := hM.1
  have := dropL_any a (M.map twA).length c (atD (M.map twA)) x (by omega) (ok_len (tw_ok hM)) (ok_rise (tw_ok hM)) w (by rw [hl]; exact h)
  rw [twsA_atD, map_tw_tw, hl] at this
  refine this.mono ?_
  rintro e w' ⟨⟨a', c', he, hr⟩, hb⟩
  rw [← map_dropD, List.length_map, hR, nmD_tw, hH] at he
  rw [← map_dropD, List.length_map, hR] at hr
  exact ⟨⟨a', c', he, hr⟩, hb⟩

theorem rD_any (hM : OkL M) (x : ByteArray) {R : List AD} {H : Bool} (hR : dropD M x = R) (hH : has (nmD M) x = H) (w : World) (h : ReadsA w a M.length (atD M)) :
    Calls Tryz.prog 12 #[.slice a M.length c, .string x] w fun e w' => (∃ a c, e = .returned (.tuple #[.slice a R.length c, .bool H]) ∧ ReadsA w' a R.length (atD R)) ∧ Below w.heap.size w w' := by
  have h32 := hM.1
  refine (rDrop_any a M.length c (atD M) x (by omega) w h).mono ?_
  rintro e w' ⟨⟨v, T, he, hT, hO, hr⟩, hb⟩
  obtain ⟨a', c', rfl, hA⟩ := readsT_own hO hr
  rw [fromA_atD, hH] at he
  rw [fromA_atD, flt_drop hM.2.2, hR] at hT
  have hl : T.length = R.length := by rw [← hT, List.length_map]
  rw [hT, hl] at hA
  rw [hl] at he
  exact ⟨⟨a', c', he, hA⟩, hb⟩

theorem ofT_any (hM : OkL M) (w : World) (h : ReadsA w a M.length (atD (M.map twA))) :
    Calls Tryz.prog 6 #[.slice a M.length c] w fun e w' => (∃ a' c', e = .returned (.slice a' M.length c') ∧ ReadsA w' a' M.length (atD (M.map twA))) ∧ Below w.heap.size w w' := by
  have h32 := hM.1
  exact (ofAttrs_any a M.length c _ (by omega) w w h (Below.refl _ _)).mono fun _ w' ⟨⟨a', c', he, hr⟩, hb⟩ => ⟨⟨a', c', he, hr w' (Kept.refl _ _)⟩, hb⟩

theorem sameSelf_any (hM : OkL M) (b : Option Addr) (d : Nat) (w : World) (h : ReadsA w a M.length (atD (M.map twA))) (g : ReadsA w b M.length (atD (M.map twA))) :
    Calls Tryz.prog 10 #[.slice a M.length c, .slice b M.length d] w fun e w' => e = .returned (.bool true) ∧ Below w.heap.size w w' := by
  have h32 := hM.1
  have := xSameAttrs_any a b M.length M.length c d _ _ (by omega) w h g
  rwa [same_self] at this

theorem sameTwo_any (hM : OkL M) (b : Option Addr) (d : Nat) (w : World) (h : ReadsA w a M.length (atD (M.map twA))) (g : ReadsA w b M.length (atD M)) :
    Calls Tryz.prog 10 #[.slice a M.length c, .slice b M.length d] w fun e w' => e = .returned (.bool true) ∧ Below w.heap.size w w' := by
  have h32 := hM.1
  have := xSameAttrs_any a b M.length M.length c d _ _ (by omega) w h g
  rwa [same_two] at this

theorem pGet_any (hM : OkL M) {u : AD} (hu : u ∈ M) {v : AD} (hv : twA u = v) (w : World) (h : ReadsA w a M.length (atD (M.map twA))) :
    Calls Tryz.prog 13 #[.slice a M.length c, .string u.m] w fun e w' =>
      (∃ a' c', e = .returned (.tuple #[.agg #[.int .i64 v.k, .int .i64 v.n, .string v.s, .slice a' v.len c'], .bool true]) ∧ Reads w' a' v.len v.z) ∧ Below w.heap.size w w' := by
  have hl : (M.map twA).length = M.length := List.length_map ..
  have := getM_any a c (twl_map hM) (v := v) (hv ▸ List.mem_map_of_mem hu) w (by rw [hl]; exact h)
  rw [hl, show v.m = u.m from by rw [← hv]; rfl] at this
  exact this

theorem pGetNo_any (hM : OkL M) (x : ByteArray) (hx : has (nmD M) x = false) (w : World) (h : ReadsA w a M.length (atD (M.map twA))) :
    Calls Tryz.prog 13 #[.slice a M.length c, .string x] w fun e w' =>
      e = .returned (.tuple #[.agg #[.int .i64 0, .int .i64 0, .string ⟨#[]⟩, .slice none 0 0], .bool false]) ∧ Below w.heap.size w w' := by
  have hl : (M.map twA).length = M.length := List.length_map ..
  have h32 := hM.1
  have := getL_any a (M.map twA).length c (atD (M.map twA)) x (by omega) (ok_len (tw_ok hM)) (ok_rise (tw_ok hM)) w (by rw [hl]; exact h)
  rw [hl] at this
  refine this.mono ?_
  rintro e w' ⟨he, hb⟩
  have hn : ¬ has (nmD (twsA (atD (M.map twA)) M.length)) x = true := by
    rw [← hl, twsA_atD, map_tw_tw, nmD_tw, hx]; decide
  rw [if_neg hn] at he
  exact ⟨he, hb⟩

theorem nmA_atD (M : List AD) : nmA (atD M) M.length = nmD M := by rw [nmA_from, fromA_atD]

theorem rG_any (hM : OkL M) {u : AD} (hu : u ∈ M) (w : World) (h : ReadsA w a M.length (atD M)) :
    Calls Tryz.prog 14 #[.slice a M.length c, .string u.m] w fun e w' =>
      (∃ a' c', e = .returned (.tuple #[.agg #[.int .i64 u.k, .int .i64 u.n, .string u.s, .slice a' u.len c'], .bool true]) ∧ Reads w' a' u.len u.z) ∧ Below w.heap.size w w' := by
  have h32 := hM.1
  refine (rGet_any a M.length c (atD M) u.m (by omega) w h).mono ?_
  rintro e w' ⟨he, hb⟩
  rw [nmA_atD, if_pos (show has (nmD M) u.m = true from (has_iff _ _).2 (List.mem_map_of_mem hu))] at he
  obtain ⟨j, y, c', hj, hm, he, hr⟩ := he
  have e1 : atD M j = u := one_name hM.2.2 (by rw [atD, List.getD_eq_getElem?_getD, List.getElem?_eq_getElem hj]; exact List.getElem_mem hj) hu hm
  rw [e1] at he hr
  exact ⟨⟨y, c', he, hr⟩, hb⟩

theorem rGNo_any (hM : OkL M) (x : ByteArray) (hx : has (nmD M) x = false) (w : World) (h : ReadsA w a M.length (atD M)) :
    Calls Tryz.prog 14 #[.slice a M.length c, .string x] w fun e w' =>
      e = .returned (.tuple #[.agg #[.int .i64 0, .int .i64 0, .string ⟨#[]⟩, .slice none 0 0], .bool false]) ∧ Below w.heap.size w w' := by
  have h32 := hM.1
  refine (rGet_any a M.length c (atD M) x (by omega) w h).mono ?_
  rintro e w' ⟨he, hb⟩
  rw [nmA_atD, hx, if_neg (by decide)] at he
  exact ⟨he, hb⟩
end

/-- The acts of a play, as they lie in memory. -/
def ReadsC (w : World) (a : Option Addr) (len : Nat) (O : Nat → Int) (A : Nat → AD) : Prop :=
  len ≤ maxLen ∧ (len = 0 ∨ ∃ b off, a = some ⟨b, off, none⟩ ∧ ∀ j, j < len → ∃ y c, (w.cell? ⟨b, off + j * 6, none⟩ = some (.int .i64 (O j)) ∧ w.cell? ⟨b, off + j * 6 + 1, none⟩ = some (.string (A j).m) ∧ w.cell? ⟨b, off + j * 6 + 2, none⟩ = some (.int .i64 (A j).k) ∧ w.cell? ⟨b, off + j * 6 + 3, none⟩ = some (.int .i64 (A j).n) ∧ w.cell? ⟨b, off + j * 6 + 4, none⟩ = some (.string (A j).s) ∧ w.cell? ⟨b, off + j * 6 + 5, none⟩ = some (.slice y (A j).len c)) ∧ Reads w y (A j).len (A j).z)

theorem ReadsC.kept {w w' : World} {a : Option Addr} {len : Nat} {O : Nat → Int} {A : Nat → AD} (h : ReadsC w a len O A) (hb : Below w.heap.size w w') : ReadsC w' a len O A := by
  refine ⟨h.1, h.2.imp id ?_⟩
  rintro ⟨b, off, rfl, hc⟩
  refine ⟨b, off, rfl, fun j hj => ?_⟩
  obtain ⟨y, c, ⟨h0, h1, h2, h3, h4, h5⟩, hr⟩ := hc j hj
  have lt : b < w.heap.size := by have := World.block_lt_of_cell? w _ h0; simpa using this
  exact ⟨y, c, ⟨(hb.cell (p := ⟨b, _, none⟩) lt).trans h0, (hb.cell (p := ⟨b, _, none⟩) lt).trans h1, (hb.cell (p := ⟨b, _, none⟩) lt).trans h2, (hb.cell (p := ⟨b, _, none⟩) lt).trans h3, (hb.cell (p := ⟨b, _, none⟩) lt).trans h4, (hb.cell (p := ⟨b, _, none⟩) lt).trans h5⟩, hr.kept hb⟩

/-- What stays while a play goes on. -/
structure KP (w0 w : World) (a : Option Addr) (n : Nat) (O : Nat → Int) (A : Nat → AD) (a5 a6 : Option Addr) (M : List AD) : Prop where
  bw : Below w0.heap.size w0 w
  ra : ReadsC w a n O A
  r5 : ReadsA w a5 M.length (atD (M.map twA))
  r6 : ReadsA w a6 M.length (atD M)

theorem KP.kept {w0 w w' : World} {a : Option Addr} {n : Nat} {O : Nat → Int} {A : Nat → AD} {a5 a6 : Option Addr} {M : List AD} (h : KP w0 w a n O A a5 a6 M) (hb : Below w.heap.size w w') : KP w0 w' a n O A a5 a6 M :=
  ⟨h.bw.trans (hb.mono h.bw.size), h.ra.kept hb, h.r5.kept hb, h.r6.kept hb⟩

/-- An act in a block of its own, beside what stays. -/
structure KX (w : World) (bx : Nat) (op : Int) (z : AD) (y : Option Addr) (cy : Nat) : Prop where
  h : w.heap[bx]? = some (.cells #[.int .i64 op, .string z.m, .int .i64 z.k, .int .i64 z.n, .string z.s, .slice y z.len cy] 30 (0, 0))
  ry : Reads w y z.len z.z

theorem KX.kept {w w' : World} {bx : Nat} {op : Int} {z : AD} {y : Option Addr} {cy : Nat} (h : KX w bx op z y cy) (hb : Below w.heap.size w w') : KX w' bx op z y cy :=
  ⟨(hb.block _ (lt_of_block h.h)).trans h.h, h.ry.kept hb⟩

end Go.Proofs.YtgcjfalgngiebaaGreatDoor

namespace Go.Proofs.YtgcjfalgngiebaaGreatDoor
open Go.RowKit

set_option maxRecDepth 100000 in
set_option maxHeartbeats 4000000 in
theorem rowPlays_walk (a : Option Addr) (n c : Nat) (O : Nat → Int) (A : Nat → AD) (x : ByteArray) (w : World) (hS : ∀ j, SizA (A j)) (hx : x.size ≤ maxLen) (hA : ReadsC w a n O A) (hw : LaidT w) :
    Calls Tryz.prog 3 #[.slice a n c, .string x] w fun e w' => e = .returned (.bool true) ∧ Below w.heap.size w w' := by
  have G := Lib.hid (And.intro hA hS)
  have hml := hA.1
  unfold maxLen at hx hml
  have L0 := Lib.hid hw
  clear hA hS hw
  go_enter Tryz.func3, Tryz.ntmps3
  go_wp2_with fail
  refine (knownW_any w L0.out).mono ?_
  rintro e w1 ⟨rfl, hb⟩
  have B1 := Lib.hid hb
  clear hb L0
  by_cases h1 : 80 < n
  · go_wp2_with fail
    go_ret
    exact ⟨rfl, B1.out⟩
  by_cases h2 : 100 < x.size
  · go_wp2_with fail
    go_ret
    exact ⟨rfl, B1.out⟩
  have K1 := Lib.hid (KP.mk (w0 := w) (w := w1) (a := a) (n := n) (O := O) (A := A) (a5 := none) (a6 := none) (M := []) B1.out (G.out.1.kept B1.out) ⟨Nat.zero_le _, .inl rfl⟩ ⟨Nat.zero_le _, .inl rfl⟩)
  have O1 := Lib.hid (p := OkL []) ⟨by simp, fun y hy => by simp at hy, List.Pairwise.nil⟩
  clear B1
  go_wp2_with fail
  go_loopw [5, 6, 7] (fun v5 v6 i wr => ∃ (k : Nat) (M : List AD) (a5 : Option Addr) (c5 : Nat) (a6 : Option Addr) (c6 : Nat), v5 = .slice a5 M.length c5 ∧ v6 = .slice a6 M.length c6 ∧ i = .int .i64 k ∧ k ≤ n ∧ Hid (OkL M) ∧ Hid (KP w wr a n O A a5 a6 M)) (fun _ _ i _ => n - (intOf i).toNat)
  case atStart => exact ⟨0, [], none, 0, none, 0, rfl, rfl, rfl, Nat.zero_le _, O1, K1⟩
  case round =>
    obtain ⟨k, M, a5, c5, a6, c6, rfl, rfl, rfl, hk, OM, K2⟩ := hrel
    clear K1 O1
    by_cases hlt : k < n
    · obtain ⟨b, off, rfl, hc⟩ := K2.out.ra.2.resolve_left (by omega)
      obtain ⟨y, cy, h6, hry⟩ := hc k hlt
      have SZ := Lib.hid (G.out.2 k)
      obtain ⟨z, hz⟩ : ∃ z, A k = z := ⟨_, rfl⟩
      obtain ⟨op, hop⟩ : ∃ o, O k = o := ⟨_, rfl⟩
      rw [hz, hop] at h6
      rw [hz] at hry SZ
      obtain ⟨d0, d1, d2, d3, d4, d5⟩ := h6
      have RY := Lib.hid hry
      clear hz hop hc hry
      have hzm := SZ.out.1
      unfold maxLen at hzm
      go_upto_region 11 with fail
      generalize hW : World.alloc wr _ = w2
      have hb2 : Below wr.heap.size wr w2 := by rw [← hW]; exact (Below.refl _ _).alloc (Nat.le_refl _) _
      have K3 := Lib.hid (K2.out.kept hb2)
      have X3 := Lib.hid (KX.mk (w := w2) (bx := wr.heap.size) (op := op) (z := z) (y := y) (cy := cy) (by rw [← hW]; exact heap_alloc_new wr _) (RY.out.kept hb2))
      clear hW hb2 K2 RY d0 d1 d2 d3 d4 d5
      obtain ⟨d0, d1, d2, d3, d4, d5⟩ := cells6 X3.out.h
      by_cases h3 : 100 < z.m.size
      · have P := Lib.hid K3.out.bw
        go_wp2_with fail
        go_ret
        exact ⟨rfl, P.out⟩
      have F2 := Lib.hid (fun w => few2_any z.k z.n z.s y z.len cy SZ.out.2.1 SZ.out.2.2 w)
      by_cases h4 : (decide (z.s.size ≤ 200) && decide (z.len ≤ 40)) = false
      · rw [h4] at F2
        clear h4
        go_wp2_with fail
        refine (F2.out _).mono ?_
        rintro e w3 ⟨rfl, hb⟩
        have P := Lib.hid (K3.out.kept hb).bw
        clear hb
        go_wp2_with fail
        go_ret
        exact ⟨rfl, P.out⟩
      have h4' : (decide (z.s.size ≤ 200) && decide (z.len ≤ 40)) = true := by simpa using h4
      rw [h4'] at F2
      have FX : Hid (FewA z) := Lib.hid (by
        simp only [Bool.and_eq_true, decide_eq_true_eq] at h4'
        unfold FewA; omega)
      clear h4 h4'
      go_wp2_with fail
      refine (F2.out _).mono ?_
      rintro e w3 ⟨rfl, hb⟩
      have K4 := Lib.hid (K3.out.kept hb)
      have X4 := Lib.hid (X3.out.kept hb)
      clear hb K3 X3 F2 d0 d1 d2 d3 d4 d5
      go_wp2_with fail
      refine (ofT_any a5 c5 OM.out _ K4.out.r5).mono ?_
      rintro e w4 ⟨⟨a9, c9, rfl, hr⟩, hb⟩
      have K5 := Lib.hid (K4.out.kept hb)
      have X5 := Lib.hid (X4.out.kept hb)
      have R5 := Lib.hid hr
      clear hb hr K4 X4
      obtain ⟨d0, d1, d2, d3, d4, d5⟩ := cells6 X5.out.h
      have OF := Lib.hid (fun w => of_any z.k z.n z.s y z.len cy w)
      unfold val at OF
      by_cases ho : op = 1
      · subst ho
        obtain ⟨E, hE⟩ : ∃ E, errSet M z = E := ⟨_, rfl⟩
        by_cases h0 : E = 0
        · subst h0
          obtain ⟨R, hR⟩ : ∃ R, putD M z = R := ⟨_, rfl⟩
          have OR := Lib.hid (p := OkL R) (by rw [← hR]; exact set_ok OM.out FX.out hE)
          have PS := Lib.hid (fun w h g => pSetOk_any a5 c5 OM.out z y cy FX.out hE hR w h g)
          have RS := Lib.hid (fun w h g => rSetOk_any a6 c6 OM.out z y cy FX.out hE hR w h g)
          clear hE hR
          go_wp2_with fail
          refine (PS.out _ K5.out.r5 X5.out.ry).mono ?_
          rintro e w6 ⟨⟨a10, c10, rfl, hr⟩, hb⟩
          have K6 := Lib.hid (K5.out.kept hb)
          have X6 := Lib.hid (X5.out.kept hb)
          have R6 := Lib.hid (R5.out.kept hb)
          have N6 := Lib.hid hr
          clear hb hr K5 X5 R5 PS d0 d1 d2 d3 d4 d5
          obtain ⟨d0, d1, d2, d3, d4, d5⟩ := cells6 X6.out.h
          go_upto_region 16 with fail
          have K7 := Lib.hid (K6.out.kept (drewB w6))
          have R7 := Lib.hid (R6.out.kept (drewB w6))
          have X7 := Lib.hid (X6.out.kept (drewB w6))
          have N7 := Lib.hid (N6.out.kept (drewB w6))
          clear K6 R6 X6 d0 d1 d2 d3 d4 d5 N6
          have cc := cells6 X7.out.h
          go_region_held3 (fun w' => w'.cell? ⟨wr.heap.size, 0, none⟩ = some (.int .i64 1) ∧ w'.cell? ⟨wr.heap.size, 1, none⟩ = some (.string z.m) ∧ w'.cell? ⟨wr.heap.size, 2, none⟩ = some (.int .i64 z.k) ∧ w'.cell? ⟨wr.heap.size, 3, none⟩ = some (.int .i64 z.n) ∧ w'.cell? ⟨wr.heap.size, 4, none⟩ = some (.string z.s) ∧ w'.cell? ⟨wr.heap.size, 5, none⟩ = some (.slice y z.len cy)) (first | assumption | exact cc) (first
          | (go_at_call 9
             with_reducible refine (OF.out _).mono ?_
             rintro e w8 ⟨rfl, hb⟩
             have K8 := Lib.hid (K7.out.kept hb)
             have R8 := Lib.hid (R7.out.kept hb)
             have X8 := Lib.hid (X7.out.kept hb)
             have N8 := Lib.hid (N7.out.kept hb)
             have cc := cells6 X8.out.h
             clear hb)
          | (go_at_call 8
             with_reducible refine (RS.out _ K8.out.r6 X8.out.ry).mono ?_
             rintro e w9 ⟨⟨a12, c12, rfl, hr⟩, hb⟩
             have K9 := Lib.hid (K8.out.kept hb)
             have R9 := Lib.hid (R8.out.kept hb)
             have X9 := Lib.hid (X8.out.kept hb)
             have N9 := Lib.hid (N8.out.kept hb)
             have Q9 := Lib.hid hr
             have cc := cells6 X9.out.h
             clear hb)
          | fail)
          clear cc K7 K8 R7 R8 X7 X8 X9 N7 N8
          go_wp2_with fail
          refine (ofT_any a5 c5 OM.out _ K9.out.r5).mono ?_
          rintro e w20 ⟨⟨a20, c20, rfl, hr⟩, hb⟩
          have K20 := Lib.hid (K9.out.kept hb)
          have R20 := Lib.hid (R9.out.kept hb)
          have T20 := Lib.hid hr
          have N20 := Lib.hid (N9.out.kept hb)
          have Q20 := Lib.hid (Q9.out.kept hb)
          clear hb hr K9 R9 N9 Q9
          go_wp2_with fail
          refine (sameSelf_any a20 c20 OM.out a9 c9 _ T20.out R20.out).mono ?_
          rintro e w21 ⟨rfl, hb⟩
          have K21 := Lib.hid (K20.out.kept hb)
          have N21 := Lib.hid (N20.out.kept hb)
          have Q21 := Lib.hid (Q20.out.kept hb)
          clear hb K20 R20 T20 N20 Q20
          have K30 := Lib.hid (KP.mk K21.out.bw K21.out.ra N21.out Q21.out)
          clear K21 N21 Q21
          go_wp2_with fail
          refine (ofT_any a10 c10 OR.out _ K30.out.r5).mono ?_
          rintro e w22 ⟨⟨a22, c22, rfl, hr⟩, hb⟩
          have K22 := Lib.hid (K30.out.kept hb)
          have R22 := Lib.hid hr
          clear hb hr K30
          go_wp2_with fail
          refine (sameTwo_any a22 c22 OR.out a12 c12 _ R22.out K22.out.r6).mono ?_
          rintro e w23 ⟨rfl, hb⟩
          have K23 := Lib.hid (K22.out.kept hb)
          clear hb K22 R22
          go_wp2_with fail
          go_roundw
          case rel => exact ⟨k + 1, R, a10, c10, a12, c12, rfl, rfl, by go_num, by omega, OR, K23⟩
          case measure => simp [intOf]; omega
        · have PS := Lib.hid (fun w h g => pSetBad_any a5 c5 OM.out z y cy FX.out hE h0 w h g)
          have RS := Lib.hid (fun w h g => rSetBad_any a6 c6 OM.out z y cy FX.out hE h0 w h g)
          have q : (E == 0) = false := by simpa using h0
          have q2 : (E != E) = false := by simp
          clear hE
          go_wp2_with fail
          refine (PS.out _ K5.out.r5 X5.out.ry).mono ?_
          rintro e w6 ⟨rfl, hb⟩
          have K6 := Lib.hid (K5.out.kept hb)
          have X6 := Lib.hid (X5.out.kept hb)
          have R6 := Lib.hid (R5.out.kept hb)
          clear hb K5 X5 R5 PS d0 d1 d2 d3 d4 d5
          obtain ⟨d0, d1, d2, d3, d4, d5⟩ := cells6 X6.out.h
          go_upto_region 16 with fail
          have K7 := Lib.hid (K6.out.kept (drewB w6))
          have R7 := Lib.hid (R6.out.kept (drewB w6))
          have X7 := Lib.hid (X6.out.kept (drewB w6))
          clear K6 R6 X6 d0 d1 d2 d3 d4 d5
          have cc := cells6 X7.out.h
          go_region_held3 (fun w' => w'.cell? ⟨wr.heap.size, 0, none⟩ = some (.int .i64 1) ∧ w'.cell? ⟨wr.heap.size, 1, none⟩ = some (.string z.m) ∧ w'.cell? ⟨wr.heap.size, 2, none⟩ = some (.int .i64 z.k) ∧ w'.cell? ⟨wr.heap.size, 3, none⟩ = some (.int .i64 z.n) ∧ w'.cell? ⟨wr.heap.size, 4, none⟩ = some (.string z.s) ∧ w'.cell? ⟨wr.heap.size, 5, none⟩ = some (.slice y z.len cy)) (first | assumption | exact cc) (first
          | (go_at_call 9
             with_reducible refine (OF.out _).mono ?_
             rintro e w8 ⟨rfl, hb⟩
             have K8 := Lib.hid (K7.out.kept hb)
             have R8 := Lib.hid (R7.out.kept hb)
             have X8 := Lib.hid (X7.out.kept hb)
             have cc := cells6 X8.out.h
             clear hb)
          | (go_at_call 8
             with_reducible refine (RS.out _ K8.out.r6 X8.out.ry).mono ?_
             rintro e w9 ⟨rfl, hb⟩
             have K9 := Lib.hid (K8.out.kept hb)
             have R9 := Lib.hid (R8.out.kept hb)
             have X9 := Lib.hid (X8.out.kept hb)
             have cc := cells6 X9.out.h
             clear hb)
          | fail)
          clear cc K7 K8 R7 R8 X7 X8 X9
          go_wp2_with fail
          refine (ofT_any a5 c5 OM.out _ K9.out.r5).mono ?_
          rintro e w20 ⟨⟨a20, c20, rfl, hr⟩, hb⟩
          have K20 := Lib.hid (K9.out.kept hb)
          have R20 := Lib.hid (R9.out.kept hb)
          have T20 := Lib.hid hr
          clear hb hr K9 R9
          go_wp2_with fail
          refine (sameSelf_any a20 c20 OM.out a9 c9 _ T20.out R20.out).mono ?_
          rintro e w21 ⟨rfl, hb⟩
          have K21 := Lib.hid (K20.out.kept hb)
          clear hb K20 R20 T20
          go_wp2_with fail
          refine (ofT_any a5 c5 OM.out _ K21.out.r5).mono ?_
          rintro e w22 ⟨⟨a22, c22, rfl, hr⟩, hb⟩
          have K22 := Lib.hid (K21.out.kept hb)
          have R22 := Lib.hid hr
          clear hb hr K21
          go_wp2_with fail
          refine (sameTwo_any a22 c22 OM.out a6 c6 _ R22.out K22.out.r6).mono ?_
          rintro e w23 ⟨rfl, hb⟩
          have K23 := Lib.hid (K22.out.kept hb)
          clear hb K22 R22
          go_wp2_with fail
          go_roundw
          case rel => exact ⟨k + 1, M, a5, c5, a6, c6, rfl, rfl, by go_num, by omega, OM, K23⟩
          case measure => simp [intOf]; omega
      · have q : (op == 1) = false := by simpa using ho
        obtain ⟨R, hR⟩ : ∃ R, dropD M z.m = R := ⟨_, rfl⟩
        obtain ⟨H, hH⟩ : ∃ H, has (nmD M) z.m = H := ⟨_, rfl⟩
        have OR := Lib.hid (p := OkL R) (by rw [← hR]; exact drop_ok OM.out z.m)
        have PD := Lib.hid (fun w h => pDrop_any a5 c5 OM.out z.m hR hH w h)
        have RD := Lib.hid (fun w h => rD_any a6 c6 OM.out z.m hR hH w h)
        clear hR hH OF
        go_wp2_with fail
        refine (PD.out _ K5.out.r5).mono ?_
        rintro e w6 ⟨⟨a10, c10, rfl, hr⟩, hb⟩
        have K6 := Lib.hid (K5.out.kept hb)
        have X6 := Lib.hid (X5.out.kept hb)
        have R6 := Lib.hid (R5.out.kept hb)
        have N6 := Lib.hid hr
        clear hb hr K5 X5 R5 PD d0 d1 d2 d3 d4 d5
        obtain ⟨d0, d1, d2, d3, d4, d5⟩ := cells6 X6.out.h
        go_wp2_with fail
        refine (RD.out _ K6.out.r6).mono ?_
        rintro e w9 ⟨⟨a12, c12, rfl, hr⟩, hb⟩
        have K9 := Lib.hid (K6.out.kept hb)
        have R9 := Lib.hid (R6.out.kept hb)
        have N9 := Lib.hid (N6.out.kept hb)
        have Q9 := Lib.hid hr
        clear hb hr K6 X6 R6 N6 RD d0 d1 d2 d3 d4 d5
        cases H with
        | true =>
          go_wp2_with fail
          refine (ofT_any a5 c5 OM.out _ K9.out.r5).mono ?_
          rintro e w20 ⟨⟨a20, c20, rfl, hr⟩, hb⟩
          have K20 := Lib.hid (K9.out.kept hb)
          have R20 := Lib.hid (R9.out.kept hb)
          have T20 := Lib.hid hr
          have N20 := Lib.hid (N9.out.kept hb)
          have Q20 := Lib.hid (Q9.out.kept hb)
          clear hb hr K9 R9 N9 Q9
          go_wp2_with fail
          refine (sameSelf_any a20 c20 OM.out a9 c9 _ T20.out R20.out).mono ?_
          rintro e w21 ⟨rfl, hb⟩
          have K21 := Lib.hid (K20.out.kept hb)
          have N21 := Lib.hid (N20.out.kept hb)
          have Q21 := Lib.hid (Q20.out.kept hb)
          clear hb K20 R20 T20 N20 Q20
          have K30 := Lib.hid (KP.mk K21.out.bw K21.out.ra N21.out Q21.out)
          clear K21 N21 Q21
          go_wp2_with fail
          refine (ofT_any a10 c10 OR.out _ K30.out.r5).mono ?_
          rintro e w22 ⟨⟨a22, c22, rfl, hr⟩, hb⟩
          have K22 := Lib.hid (K30.out.kept hb)
          have R22 := Lib.hid hr
          clear hb hr K30
          go_wp2_with fail
          refine (sameTwo_any a22 c22 OR.out a12 c12 _ R22.out K22.out.r6).mono ?_
          rintro e w23 ⟨rfl, hb⟩
          have K23 := Lib.hid (K22.out.kept hb)
          clear hb K22 R22
          go_wp2_with fail
          go_roundw
          case rel => exact ⟨k + 1, R, a10, c10, a12, c12, rfl, rfl, by go_num, by omega, OR, K23⟩
          case measure => simp [intOf]; omega
        | false =>
          go_wp2_with fail
          refine (ofT_any a5 c5 OM.out _ K9.out.r5).mono ?_
          rintro e w20 ⟨⟨a20, c20, rfl, hr⟩, hb⟩
          have K20 := Lib.hid (K9.out.kept hb)
          have R20 := Lib.hid (R9.out.kept hb)
          have T20 := Lib.hid hr
          have N20 := Lib.hid (N9.out.kept hb)
          have Q20 := Lib.hid (Q9.out.kept hb)
          clear hb hr K9 R9 N9 Q9
          go_wp2_with fail
          refine (sameSelf_any a20 c20 OM.out a9 c9 _ T20.out R20.out).mono ?_
          rintro e w21 ⟨rfl, hb⟩
          have K21 := Lib.hid (K20.out.kept hb)
          have N21 := Lib.hid (N20.out.kept hb)
          have Q21 := Lib.hid (Q20.out.kept hb)
          clear hb K20 R20 T20 N20 Q20
          clear N21 Q21
          go_wp2_with fail
          refine (ofT_any a5 c5 OM.out _ K21.out.r5).mono ?_
          rintro e w22 ⟨⟨a22, c22, rfl, hr⟩, hb⟩
          have K22 := Lib.hid (K21.out.kept hb)
          have R22 := Lib.hid hr
          clear hb hr K21
          go_wp2_with fail
          refine (sameTwo_any a22 c22 OM.out a6 c6 _ R22.out K22.out.r6).mono ?_
          rintro e w23 ⟨rfl, hb⟩
          have K23 := Lib.hid (K22.out.kept hb)
          clear hb K22 R22
          go_wp2_with fail
          go_roundw
          case rel => exact ⟨k + 1, M, a5, c5, a6, c6, rfl, rfl, by go_num, by omega, OM, K23⟩
          case measure => simp [intOf]; omega
    · obtain rfl : k = n := by omega
      have hxs : x.size ≤ 281474976710656 := by omega
      have NP := Lib.hid (fun w => wName_any x hxs w)
      have NR := Lib.hid (fun w => rName_any x hxs w)
      obtain ⟨g, hg⟩ : ∃ g, goodB x.data.toList = g := ⟨_, rfl⟩
      rw [hg] at NP NR
      have gg : (g == g) = true := by simp
      clear hg hxs G
      obtain ⟨H, hH⟩ : ∃ H, has (nmD M) x = H := ⟨_, rfl⟩
      cases H with
      | false =>
        have PG := Lib.hid (fun w h => pGetNo_any a5 c5 OM.out x hH w h)
        have RG := Lib.hid (fun w h => rGNo_any a6 c6 OM.out x hH w h)
        clear hH
        go_wp2_with fail
        refine (PG.out _ K2.out.r5).mono ?_
        rintro e w3 ⟨rfl, hb⟩
        have K3 := Lib.hid (K2.out.kept hb)
        clear hb K2 PG
        go_upto_region 32 with fail
        generalize hW : World.alloc w3 _ = w4
        have hb4 : Below w3.heap.size w3 w4 := by rw [← hW]; exact (Below.refl _ _).alloc (Nat.le_refl _) _
        have K4 := Lib.hid (K3.out.kept hb4)
        clear hW hb4 K3
        go_wp2_with fail
        refine (RG.out _ K4.out.r6).mono ?_
        rintro e w5 ⟨rfl, hb⟩
        have K5 := Lib.hid (K4.out.kept hb)
        clear hb K4 RG
        go_upto_region 33 with fail
        generalize hW : World.alloc w5 _ = w6
        have hb6 : Below w5.heap.size w5 w6 := by rw [← hW]; exact (Below.refl _ _).alloc (Nat.le_refl _) _
        have P := Lib.hid (fun m => ((K5.out.kept hb6).kept (drewNB w6 m)).bw)
        clear hW hb6 K5
        go_quiet (first
          | (go_at_call 16
             refine (NP.out _).mono ?_
             rintro e w' ⟨he, rfl⟩
             exact ⟨he, _, rfl⟩)
          | (go_at_call 17
             refine (NR.out _).mono ?_
             rintro e w' ⟨he, rfl⟩
             exact ⟨he, _, rfl⟩))
        go_wp2_with fail
        go_ret
        exact ⟨rfl, P.out _⟩
      | true =>
        obtain ⟨u, hu, rfl⟩ : ∃ u ∈ M, u.m = x := List.mem_map.1 ((has_iff _ _).1 hH)
        obtain ⟨v, hv⟩ : ∃ v, twA u = v := ⟨_, rfl⟩
        have PG := Lib.hid (fun w h => pGet_any a5 c5 OM.out hu hv w h)
        have RG := Lib.hid (fun w h => rG_any a6 c6 OM.out hu w h)
        have CV := Lib.hid (cmpV_tw u)
        rw [hv] at CV
        clear hH hu hv
        go_wp2_with fail
        refine (PG.out _ K2.out.r5).mono ?_
        rintro e w3 ⟨⟨a3, c3, rfl, hr⟩, hb⟩
        have K3 := Lib.hid (K2.out.kept hb)
        have R3 := Lib.hid hr
        clear hb hr K2 PG
        go_upto_region 32 with fail
        generalize hW : World.alloc w3 _ = w4
        have hb4 : Below w3.heap.size w3 w4 := by rw [← hW]; exact (Below.refl _ _).alloc (Nat.le_refl _) _
        have v4 : w4.heap[w3.heap.size]? = some (.cells #[.int .i64 v.k, .int .i64 v.n, .string v.s, .slice a3 v.len c3] 28 (0, 0)) := by rw [← hW]; exact heap_alloc_new w3 _
        have K4 := Lib.hid (K3.out.kept hb4)
        have R4 := Lib.hid (R3.out.kept hb4)
        have V4 := Lib.hid v4
        clear hW hb4 K3 R3 v4
        go_wp2_with fail
        refine (RG.out _ K4.out.r6).mono ?_
        rintro e w5 ⟨⟨a5', c5', rfl, hr⟩, hb⟩
        have K5 := Lib.hid (K4.out.kept hb)
        have R5 := Lib.hid (R4.out.kept hb)
        have V5 := Lib.hid ((hb.block _ (lt_of_block V4.out)).trans V4.out)
        have Q5 := Lib.hid hr
        clear hb hr K4 R4 V4 RG
        go_upto_region 33 with fail
        generalize hW : World.alloc w5 _ = w6
        have hb6 : Below w5.heap.size w5 w6 := by rw [← hW]; exact (Below.refl _ _).alloc (Nat.le_refl _) _
        have K6 := Lib.hid (K5.out.kept hb6)
        have R6 := Lib.hid (R5.out.kept hb6)
        have Q6 := Lib.hid (Q5.out.kept hb6)
        have V6 := Lib.hid ((hb6.block _ (lt_of_block V5.out)).trans V5.out)
        have v6 : w6.heap[w5.heap.size]? = some (.cells #[.int .i64 u.k, .int .i64 u.n, .string u.s, .slice a5' u.len c5'] 38 (0, 0)) := by rw [← hW]; exact heap_alloc_new w5 _
        have U6 := Lib.hid v6
        have K7 := Lib.hid (K6.out.kept (drewB w6))
        have R7 := Lib.hid (R6.out.kept (drewB w6))
        have Q7 := Lib.hid (Q6.out.kept (drewB w6))
        have V7 := Lib.hid (p := w6.drew.heap[w3.heap.size]? = some (.cells #[.int .i64 v.k, .int .i64 v.n, .string v.s, .slice a3 v.len c3] 28 (0, 0))) V6.out
        have U7 := Lib.hid (p := w6.drew.heap[w5.heap.size]? = some (.cells #[.int .i64 u.k, .int .i64 u.n, .string u.s, .slice a5' u.len c5'] 38 (0, 0))) U6.out
        have OF := Lib.hid (fun w => of_any v.k v.n v.s a3 v.len c3 w)
        have CC := Lib.hid (fun w h g => rCompare_any v.k v.n v.s a3 v.len c3 v.z u.k u.n u.s a5' u.len c5' u.z w h g)
        rw [CV.out] at CC
        unfold val at OF CC
        clear hW hb6 K5 R5 Q5 V5 v6 K6 R6 Q6 V6 U6 CV
        have cc := And.intro (four V7.out).1 (four U7.out).1
        go_region_held3 (fun w' => (w'.cell? ⟨w3.heap.size, 0, none⟩ = some (.int .i64 v.k) ∧ w'.cell? ⟨w3.heap.size, 1, none⟩ = some (.int .i64 v.n) ∧ w'.cell? ⟨w3.heap.size, 2, none⟩ = some (.string v.s) ∧ w'.cell? ⟨w3.heap.size, 3, none⟩ = some (.slice a3 v.len c3)) ∧ (w'.cell? ⟨w5.heap.size, 0, none⟩ = some (.int .i64 u.k) ∧ w'.cell? ⟨w5.heap.size, 1, none⟩ = some (.int .i64 u.n) ∧ w'.cell? ⟨w5.heap.size, 2, none⟩ = some (.string u.s) ∧ w'.cell? ⟨w5.heap.size, 3, none⟩ = some (.slice a5' u.len c5'))) (first | assumption | exact cc) (first
          | (go_at_call 9
             with_reducible refine (OF.out _).mono ?_
             rintro e w8 ⟨rfl, hb⟩
             have K8 := Lib.hid (K7.out.kept hb)
             have R8 := Lib.hid (R7.out.kept hb)
             have Q8 := Lib.hid (Q7.out.kept hb)
             have V8 := Lib.hid ((hb.block _ (lt_of_block V7.out)).trans V7.out)
             have U8 := Lib.hid ((hb.block _ (lt_of_block U7.out)).trans U7.out)
             have cc := And.intro (four V8.out).1 (four U8.out).1
             clear hb)
          | (go_at_call 15
             with_reducible refine (CC.out _ R8.out Q8.out).mono ?_
             rintro e w9 ⟨rfl, hb⟩
             have K9 := Lib.hid (K8.out.kept hb)
             have V9 := Lib.hid ((hb.block _ (lt_of_block V8.out)).trans V8.out)
             have U9 := Lib.hid ((hb.block _ (lt_of_block U8.out)).trans U8.out)
             have cc := And.intro (four V9.out).1 (four U9.out).1
             clear hb)
          | (go_at_call 16
             with_reducible refine (NP.out _).mono ?_
             rintro e w10 ⟨rfl, rfl⟩)
          | (go_at_call 17
             with_reducible refine (NR.out _).mono ?_
             rintro e w11 ⟨rfl, rfl⟩)
          | fail)
        have P := Lib.hid K9.out.bw
        clear cc K7 K8 K9 R7 R8 Q7 Q8 V7 V8 V9 U7 U8 U9
        go_wp2_with fail
        go_ret
        exact ⟨rfl, P.out⟩

end Go.Proofs.YtgcjfalgngiebaaGreatDoor

namespace Go.Proofs.YtgcjfalgngiebaaGreatDoor
open Go.ChangeShapes Go.WideShapes Go.ChangeAt Go.RowKit

theorem own_knobS : ownKnob Tryz.prog.godebug = none := by kernel_rfl
theorem laid_outS : laidOutB Tryz.prog = true := by kernel_rfl

/-- The list of the laws' variables. -/
abbrev laidS : List (String × DataW Unit) := Rows.rowPlaysRow.laid

theorem laidT_of {W : World} (h : laidMetH Tryz.prog laidS W) : LaidT W := by
  rw [MakeChecks.laidMetH_plain _ _ _ (by kernel_rfl)] at h
  have h2 := h.tail.tail
  have htab := Lib.tabIs_of_head (g := 1) (k := .u64) (zs := Lib.pow10Tab) (by kernel_rfl) (by kernel_rfl) Tryz.underlying146 Tryz.underlying133 (by kernel_rfl) (by kernel_rfl) h2
  unfold Lib.TabIs World.var? at htab
  rw [show Tryz.prog.globalNamed "internal/strconv.uint64pow10" = some 1 by kernel_rfl] at htab
  simp only [Option.bind_some] at htab
  split at htab
  · rename_i cs' t f e
    cases htab
    exact ⟨t, f, e⟩
  · cases htab

theorem in64_of_wfS {n : Int} (h : (Lit.int .i64 n).wf = true) : In64 n := by
  simp [Lit.wf, IntKind.min, IntKind.max, IntKind.bits, IntKind.signed] at h
  unfold In64
  omega

/-- A start that meets the list. -/
theorem start_metS (os : Os) (args : Array Value) : laidMetH Tryz.prog laidS ((World.laidAll Tryz.prog os laidS).forCall (fun _ _ => 0) ⟨#[], args, []⟩).memory := by
  rw [MakeChecks.laidMetH_plain _ _ _ (by kernel_rfl)]
  exact laidMet_laidAll _ (by kernel_rfl) (by kernel_rfl)
theorem start_shapedS (os : Os) : (World.laidAll Tryz.prog os laidS).Shaped Tryz.prog := World.shaped_of_ZipB (by kernel_rfl) (by kernel_rfl)

end Go.Proofs.YtgcjfalgngiebaaGreatDoor

namespace Go.Proofs.YtgcjfalgngiebaaGreatDoor
open Go.RowKit Go.ChangeShapes Go.WideShapes Go.Deep

theorem in64_getD {zs : List Int} (h : ∀ n ∈ zs, (Lit.int .i64 n).wf = true) (j : Nat) : In64 (zs.getD j 0) := by
  by_cases hj : j < zs.length
  · rw [List.getD, List.getElem?_eq_getElem hj]
    exact in64_of_wfS (h _ (List.getElem_mem hj))
  · rw [List.getD, List.getElem?_eq_none (by omega)]
    unfold In64; simp

theorem in64_zero : In64 0 := by unfold In64; omega
theorem actCells : Tryz.prog.cellsOf 30 = 6 := by kernel_rfl
theorem valueCells : Tryz.prog.cellsOf 28 = 4 := by kernel_rfl

set_option maxRecDepth 100000 in
/-- The four cells of a value. -/
theorem value_cells {H : Type} {enc : TypeId × Value → H} {W : World} {n : Nat} {c0 c1 c2 c3 : Value} {x : DataW H × List MemPlace} (h : DataW.trod enc Tryz.prog W 0 (fun _ => true) true n 28 [c0, c1, c2, c3] = some x) :
    ∃ (k i : Int) (s : ByteArray) (a : Option Addr) (len cap : Nat) (z : Nat → Int), c0 = .int .i64 k ∧ c1 = .int .i64 i ∧ c2 = .string s ∧ c3 = .slice a len cap ∧ In64 k ∧ In64 i ∧ s.size ≤ maxLen ∧ (∀ j, In64 (z j)) ∧ Reads W a len z := by
  obtain ⟨ys, m, -, -, -, hyl, hf⟩ := DataW.trod_struct Tryz.underlying28 h
  have y4 : ys.length = 4 := hyl
  match ys, y4 with
  | [y0, y1, y2, y3], _ =>
    have h0 : DataW.trod enc Tryz.prog W 0 (fun _ => true) true m 3 [c0] = some y0 := hf 0 _ rfl
    have h1 : DataW.trod enc Tryz.prog W 0 (fun _ => true) true m 2 [c1] = some y1 := hf 1 _ rfl
    have h2 : DataW.trod enc Tryz.prog W 0 (fun _ => true) true m 9 [c2] = some y2 := hf 2 _ rfl
    have h3 : DataW.trod enc Tryz.prog W 0 (fun _ => true) true m 26 [c3] = some y3 := hf 3 _ rfl
    obtain ⟨k, e0, -, w0⟩ := DataW.trod_int Tryz.underlying3 h0
    obtain ⟨i, e1, -, w1⟩ := DataW.trod_int Tryz.underlying2 h1
    obtain ⟨s, e2, -, w2⟩ := DataW.trod_string Tryz.underlying9 h2
    cases e0; cases e1; cases e2
    rcases open_ints Tryz.underlying26 Tryz.underlying2 (by kernel_rfl) h3 with ⟨hcs, _⟩ | ⟨x, l, c, zs, hcs, _, hl, hm, hz, _, hcell, hwz⟩
    · cases hcs
      exact ⟨k, i, s, none, 0, 0, fun _ => 0, rfl, rfl, rfl, rfl, in64_of_wfS w0, in64_of_wfS w1, w2, fun _ => in64_zero, ⟨Nat.zero_le _, .inl rfl⟩⟩
    · cases hcs
      simp only [if_true] at hz
      refine ⟨k, i, s, some x, l, c, fun j => zs.getD j 0, rfl, rfl, rfl, rfl, in64_of_wfS w0, in64_of_wfS w1, w2, in64_getD hwz, ⟨Nat.le_trans hl hm, ?_⟩⟩
      by_cases hl0 : l = 0
      · exact .inl hl0
      · right
        obtain ⟨b, off, spot⟩ := x
        have hspot : spot = none := by simpa [Addr.add] using World.cell?_spot (hcell 0 (by omega))
        subst hspot
        exact ⟨b, off, rfl, fun j hj => by rw [← Addr.add_lit]; exact hcell j (by omega)⟩

set_option maxRecDepth 100000 in
/-- The six cells of an act. -/
theorem act_cells {H : Type} {enc : TypeId × Value → H} {W : World} {n : Nat} {cs : List Value} {x : DataW H × List MemPlace} (h : DataW.trod enc Tryz.prog W 0 (fun _ => true) true n 30 cs = some x) :
    ∃ (o : Int) (v : AD) (y : Option Addr) (c : Nat), SizA v ∧ cs = .int .i64 o :: fiveL v y c ∧ Reads W y v.len v.z := by
  obtain ⟨ys, m, -, -, hlen, hyl, hf⟩ := DataW.trod_struct Tryz.underlying30 h
  rw [actCells] at hlen
  match cs, hlen with
  | [c0, c1, c2, c3, c4, c5], _ =>
    have y3 : ys.length = 3 := hyl
    match ys, y3 with
    | [y0, y1, y2], _ =>
      have h0 : DataW.trod enc Tryz.prog W 0 (fun _ => true) true m 3 [c0] = some y0 := hf 0 _ rfl
      have h1 : DataW.trod enc Tryz.prog W 0 (fun _ => true) true m 9 [c1] = some y1 := hf 1 _ rfl
      have h2 : DataW.trod enc Tryz.prog W 0 (fun _ => true) true m 28 [c2, c3, c4, c5] = some y2 := hf 2 _ rfl
      obtain ⟨o, e0, -, -⟩ := DataW.trod_int Tryz.underlying3 h0
      obtain ⟨s, e1, -, w1⟩ := DataW.trod_string Tryz.underlying9 h1
      cases e0; cases e1
      obtain ⟨k, i, t, a, len, cap, z, rfl, rfl, rfl, rfl, _, _, wt, _, hr⟩ := value_cells h2
      exact ⟨o, ⟨s, k, i, t, len, z⟩, a, cap, ⟨w1, wt, hr.1⟩, rfl, hr⟩

/-- What lies at an act's place. -/
def ActAt (W : World) (x : Addr) (j : Nat) (s : Int × AD) : Prop :=
  ∃ y cc, (W.cell? (x.add (j * 6)) = some (.int .i64 s.1) ∧ W.cell? (x.add (j * 6 + 1)) = some (.string s.2.m) ∧ W.cell? (x.add (j * 6 + 2)) = some (.int .i64 s.2.k) ∧ W.cell? (x.add (j * 6 + 3)) = some (.int .i64 s.2.n) ∧ W.cell? (x.add (j * 6 + 4)) = some (.string s.2.s) ∧ W.cell? (x.add (j * 6 + 5)) = some (.slice y s.2.len cc)) ∧ Reads W y s.2.len s.2.z

theorem acts_of {H : Type} {enc : TypeId × Value → H} {W : World} {fuel : Nat} {c5 : Value} {x : DataW H × List MemPlace}
    (hf : DataW.trod enc Tryz.prog W 0 (fun _ => true) true fuel 22 [c5] = some x) : ∃ (a : Option Addr) (len cap : Nat) (O : Nat → Int) (A : Nat → AD), c5 = .slice a len cap ∧ (∀ j, SizA (A j)) ∧ ReadsC W a len O A := by
  have d0 : SizA ⟨⟨#[]⟩, 0, 0, ⟨#[]⟩, 0, fun _ => 0⟩ := ⟨Nat.zero_le _, Nat.zero_le _, Nat.zero_le _⟩
  rcases open_slice Tryz.underlying22 hf with ⟨hcs, _⟩ | ⟨x, l, c, m, n, D, Pl, hcs, _, hl, hm, hmm, _, hi⟩
  · simp at hcs
    subst hcs
    exact ⟨none, 0, 0, fun _ => 0, fun _ => ⟨⟨#[]⟩, 0, 0, ⟨#[]⟩, 0, fun _ => 0⟩, rfl, fun _ => d0, Nat.zero_le _, .inl rfl⟩
  · simp at hcs
    subst hcs
    simp only [if_true] at hmm
    subst hmm
    have hx : ∀ j, ∃ s : Int × AD, SizA s.2 ∧ (j < l → ActAt W x j s) := by
      intro j
      by_cases hj : j < l
      · obtain ⟨cs', hc, ht⟩ := hi j (by omega)
        rw [actCells] at hc
        obtain ⟨o, s, y, cc, hs, rfl, hr⟩ := act_cells ht
        obtain ⟨-, -, hat⟩ := World.cells?_some hc
        have e : ∀ i, i < 6 → (x.add (j * 6)).add i = x.add (j * 6 + i) := fun i _ => Go.Deep.add_add _ _ _
        refine ⟨(o, s), hs, fun _ => ⟨y, cc, ⟨?_, ?_, ?_, ?_, ?_, ?_⟩, hr⟩⟩
        · have := hat 0 (by omega); rw [e 0 (by omega)] at this; exact this
        · have := hat 1 (by omega); rw [e 1 (by omega)] at this; exact this
        · have := hat 2 (by omega); rw [e 2 (by omega)] at this; exact this
        · have := hat 3 (by omega); rw [e 3 (by omega)] at this; exact this
        · have := hat 4 (by omega); rw [e 4 (by omega)] at this; exact this
        · have := hat 5 (by omega); rw [e 5 (by omega)] at this; exact this
      · exact ⟨(0, _), d0, fun h => absurd h hj⟩
    have hS : ∃ S : Nat → Int × AD, ∀ j, SizA (S j).2 ∧ (j < l → ActAt W x j (S j)) := ⟨fun j => Classical.choose (hx j), fun j => Classical.choose_spec (hx j)⟩
    obtain ⟨S, hS⟩ := hS
    refine ⟨some x, l, _, fun j => (S j).1, fun j => (S j).2, rfl, fun j => (hS j).1, Nat.le_trans hl hm, ?_⟩
    by_cases hz : l = 0
    · exact Or.inl hz
    · right
      obtain ⟨b, off, spot⟩ := x
      have hspot : spot = none := by
        obtain ⟨y, cc, h0, _⟩ := (hS 0).2 (by omega)
        simpa [Addr.add] using World.cell?_spot h0.1
      subst hspot
      refine ⟨b, off, rfl, fun j hj => ?_⟩
      obtain ⟨y, cc, h5, hr⟩ := (hS j).2 hj
      rw [Addr.add_lit, Addr.add_lit, Addr.add_lit, Addr.add_lit, Addr.add_lit, Addr.add_lit] at h5
      exact ⟨y, cc, h5, hr⟩

/-- Acts that came in, opened. -/
theorem actsV_of {H : Type} {enc : TypeId × Value → H} {W : World} {a : Option Addr} {l c : Nat} {d : DataW H} {p : List MemPlace} (h : DataW.Trod enc Tryz.prog W 0 (fun _ => true) true 22 (.slice a l c) d p) :
    ∃ (O : Nat → Int) (A : Nat → AD), (∀ j, SizA (A j)) ∧ ReadsC W a l O A := by
  obtain ⟨fuel, hf⟩ := h
  have hf' : DataW.trod enc Tryz.prog W 0 (fun _ => true) true fuel 22 [.slice a l c] = some (d, p) := hf
  obtain ⟨a', l', c', O, A, e, hS, hr⟩ := acts_of hf'
  cases e
  exact ⟨O, A, hS, hr⟩

end Go.Proofs.YtgcjfalgngiebaaGreatDoor
