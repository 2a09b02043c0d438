/-
  No statement: RowSets of cantonlaw4: its walk; attributes and a value that came in, opened.
-/
import Derived.Test.YtnjfpgnhmfankaaGreatDoorWKnown
import Derived.Test.YtnjfpgnhmfankaaGreatDoorXCheck
import Derived.Test.YtnjfpgnhmfankaaGreatDoorXOfA
import Derived.Deep.Cut
import Derived.Deep.RegionHeld3
import Derived.Test.YtnjfpgnhmfankaaGreatDoorTie
import Derived.Test.YtnjfpgnhmfankaaGreatDoorVRead
import Derived.ProofKit
import Derived.OpenShut
import Derived.LaidMore
import Derived.Lay
import Derived.SevenTiedAt
import Derived.Stop.Joined
import Derived.Lib.LaidTab
import Derived.Carry
import Derived.Stop.LaidErr
import Derived.Lib.SmallJoins
import Derived.ChangeSlices
import Derived.Deep.Slices
import Derived.Deep.Fields
import Derived.ChangeSame
namespace Go.Proofs.YtnjfpgnhmfankaaGreatDoor
open Go.RowKit

/-- The row that Good asks. -/
def rowK (n : Nat) (A : Nat → AD) : RD := ⟨⟨#[107]⟩, 0, 0, 0, ⟨#[47, 97]⟩, n, A⟩

def goodL (n : Nat) (A : Nat → AD) : Bool := fewL n A && decide (errR (rowK n A) = 0)

theorem fewL_all {n : Nat} {A : Nat → AD} (h : fewL n A = true) : n ≤ 40 ∧ ∀ j, j < n → FewA (A j) := by
  unfold fewL fewAs at h
  simp only [Bool.and_eq_true, decide_eq_true_eq, List.all_eq_true] at h
  obtain ⟨h3, h4⟩ := h
  refine ⟨h3, fun j hj => ?_⟩
  have := h4 (A j) (by unfold fromA; exact List.mem_map.2 ⟨j, List.mem_range.2 (by omega), by rw [Nat.zero_add]⟩)
  unfold fewA at this
  simp only [Bool.and_eq_true, decide_eq_true_eq] at this
  unfold FewA
  omega

set_option maxRecDepth 100000 in
set_option maxHeartbeats 2000000 in
theorem good_any (a : Option Addr) (n c : Nat) (A : Nat → AD) (hS : ∀ j, j < n → SizA (A j)) (w : World) (h : ReadsA w a n A) :
    Calls Tryz.prog 19 #[.slice a n c] w fun e w' => e = .returned (.bool (goodL n A)) ∧ Below w.heap.size w w' := by
  have FE := Lib.hid (fewAttrs_any a n c A hS w h)
  have R := Lib.hid h
  clear h hS
  unfold goodL
  by_cases hf : fewL n A = false
  · rw [hf] at FE ⊢
    go_enter Tryz.func19, Tryz.ntmps19
    go_wp2_with fail
    refine FE.out.mono ?_
    rintro e w2 ⟨rfl, hb⟩
    have P := Lib.hid hb
    clear hb
    go_wp2_with fail
    go_ret
    exact ⟨rfl, P.out⟩
  · have hf' : fewL n A = true := by simpa using hf
    obtain ⟨hn, hA⟩ := fewL_all hf'
    rw [hf'] at FE ⊢
    have HA := Lib.hid hA
    have XC := Lib.hid (fun a c w h => xCheck_any (rowK n A) a c (by show (1 : Nat) ≤ 1000; omega) (by show (2 : Nat) ≤ 1000; omega) (fun j hj => by obtain ⟨h1, h2, _⟩ := HA.out j hj; show (A j).m.size ≤ 1000 ∧ (A j).s.size ≤ 1000; omega) w h)
    obtain ⟨E, hE⟩ : ∃ E, errR (rowK n A) = E := ⟨_, rfl⟩
    rw [hE] at XC ⊢
    unfold rowK at XC
    simp only at XC
    clear hf hf' hA hE
    by_cases h0 : E = 0
    · subst h0
      go_enter Tryz.func19, Tryz.ntmps19
      go_wp2_with fail
      refine FE.out.mono ?_
      rintro e w2 ⟨rfl, hb⟩
      have B2 := Lib.hid hb
      clear hb
      go_wp2_with fail
      refine (ofAttrs_any a n c A (by omega) w2 w2 (R.out.kept B2.out) (Below.refl _ _)).mono ?_
      rintro e w3 ⟨⟨a3, c3, rfl, hr⟩, hb⟩
      have R3 := Lib.hid (hr w3 (Kept.refl _ _))
      have B3 := Lib.hid (B2.out.trans (hb.mono B2.out.size))
      clear hr hb
      go_wp2_with fail
      refine (XC.out _ _ _ R3.out).mono ?_
      rintro e w4 ⟨rfl, hb⟩
      have P := Lib.hid (B3.out.trans (hb.mono B3.out.size))
      clear hb
      go_wp2_with fail
      go_ret
      exact ⟨rfl, P.out⟩
    · rw [decide_eq_false h0]
      have h0' : (E == 0) = false := by simpa using h0
      clear h0
      go_enter Tryz.func19, Tryz.ntmps19
      go_wp2_with fail
      refine FE.out.mono ?_
      rintro e w2 ⟨rfl, hb⟩
      have B2 := Lib.hid hb
      clear hb
      go_wp2_with fail
      refine (ofAttrs_any a n c A (by omega) w2 w2 (R.out.kept B2.out) (Below.refl _ _)).mono ?_
      rintro e w3 ⟨⟨a3, c3, rfl, hr⟩, hb⟩
      have R3 := Lib.hid (hr w3 (Kept.refl _ _))
      have B3 := Lib.hid (B2.out.trans (hb.mono B2.out.size))
      clear hr hb
      go_wp2_with fail
      refine (XC.out _ _ _ R3.out).mono ?_
      rintro e w4 ⟨rfl, hb⟩
      have P := Lib.hid (B3.out.trans (hb.mono B3.out.size))
      clear hb
      go_wp2_with fail
      go_ret
      exact ⟨rfl, P.out⟩

/-- The names of attributes. -/
def nmA (A : Nat → AD) (n : Nat) : List ByteArray := (List.range n).map fun j => (A j).m

/-- What the document's Get answers. -/
def RGet (w : World) (A : Nat → AD) (n : Nat) (x : ByteArray) (e : Ending) (w' : World) : Prop :=
  (if has (nmA A n) x = true then ∃ j y c, j < n ∧ (A j).m = x ∧ e = .returned (.tuple #[.agg #[.int .i64 (A j).k, .int .i64 (A j).n, .string (A j).s, .slice y (A j).len c], .bool true]) ∧ Reads w' y (A j).len (A j).z
    else e = .returned (.tuple #[.agg #[.int .i64 0, .int .i64 0, .string ⟨#[]⟩, .slice none 0 0], .bool false])) ∧ Below w.heap.size w w'

end Go.Proofs.YtnjfpgnhmfankaaGreatDoor

namespace Go.Proofs.YtnjfpgnhmfankaaGreatDoor
open Go.RowKit

theorem nmA_has {A : Nat → AD} {n k : Nat} (hk : k < n) {x : ByteArray} (h : (A k).m = x) : has (nmA A n) x = true :=
  (has_iff _ _).2 (List.mem_map.2 ⟨k, List.mem_range.2 hk, h⟩)

theorem nmA_not {A : Nat → AD} {n : Nat} {x : ByteArray} (h : ∀ j, j < n → (A j).m ≠ x) : has (nmA A n) x = false := by
  rw [Bool.eq_false_iff]
  intro hh
  obtain ⟨j, hj, e⟩ := List.mem_map.1 ((has_iff _ _).1 hh)
  exact h j (List.mem_range.1 hj) e

set_option maxRecDepth 100000 in
set_option maxHeartbeats 4000000 in
theorem rGet_any (a : Option Addr) (n c : Nat) (A : Nat → AD) (x : ByteArray) (hn : n ≤ 1000) (w : World) (h : ReadsA w a n A) :
    Calls Tryz.prog 15 #[.slice a n c, .string x] w (RGet w A n x) := by
  have BL : ∀ o, Below w.heap.size w (w.alloc o) := fun o => (Below.refl _ _).alloc (Nat.le_refl _) _
  obtain ⟨W, hW⟩ : ∃ W, w.alloc (.cells #[.int .i64 0, .int .i64 0, .string ⟨#[]⟩, .slice none 0 0] 38) = W := ⟨_, rfl⟩
  have hWb : Below w.heap.size w W := by rw [← hW]; exact BL _
  have hWs : W.heap.size = w.heap.size + 1 := by rw [← hW]; simp
  have hW4 : W.heap[w.heap.size]? = some (.cells #[.int .i64 0, .int .i64 0, .string ⟨#[]⟩, .slice none 0 0] 38 (0, 0)) := by rw [← hW]; exact heap_alloc_new w _
  have HW := Lib.hid hW
  have HX := Lib.hid (And.intro hWb (And.intro hWs hW4))
  have RA := Lib.hid h
  clear hWb hW4 hW hWs h BL
  go_enter Tryz.func15, Tryz.ntmps15
  go_wp2_with fail
  rw [HW.out]
  go_loopw [6] (fun i wr => ∃ k : Nat, i = .int .i64 k ∧ k ≤ n ∧ wr = W ∧ Hid (∀ j, j < k → (A j).m ≠ x)) (fun i _ => n - (intOf i).toNat)
  case atStart => exact ⟨0, rfl, Nat.zero_le _, rfl, Lib.hid (fun j hj => absurd hj (Nat.not_lt_zero _))⟩
  case round =>
    obtain ⟨k, rfl, hk, rfl, hN⟩ := hrel
    by_cases hlt : k < n
    · obtain ⟨b, off, rfl, hc⟩ := RA.out.2.resolve_left (by omega)
      obtain ⟨y, cy, h5, hry⟩ := hc k hlt
      obtain ⟨v, hv⟩ : ∃ v, A k = v := ⟨_, rfl⟩
      rw [hv] at h5 hry
      obtain ⟨d0, d1, d2, d3, d4⟩ := h5.kept HX.out.1
      have hoff : b < w.heap.size := h5.lt
      by_cases he : v.m = x
      · have GP := Lib.hid (p := ∀ w', Below w.heap.size w w' → RGet w A n x (.returned (.tuple #[.agg #[.int .i64 v.k, .int .i64 v.n, .string v.s, .slice y v.len cy], .bool true])) w') (fun w' hb => ⟨by
          rw [if_pos (nmA_has hlt (by rw [hv]; exact he))]
          exact ⟨k, y, cy, hlt, by rw [hv]; exact he, by rw [hv], by rw [hv]; exact hry.kept hb⟩, hb⟩)
        have V := HX.out.2.2
        obtain ⟨⟨c0, c1, c2, c3⟩, ⟨f0, f1, f2, f3⟩⟩ := four V
        have hz := HX.out.2.1
        have he' : (v.m.toList == x.toList) = true := by rw [he]; exact beq_self_eq_true _
        clear hc h5 hry hv V
        have hb4 := Lib.hid (four_below4 HX.out.1 (Nat.le_refl _) (.int .i64 v.k) (.int .i64 v.n) (.string v.s) (.slice y v.len cy))
        go_wp2_with fail
        exact bodyPost_ret (v := .tuple #[.agg #[.int .i64 v.k, .int .i64 v.n, .string v.s, .slice y v.len cy], .bool true]) (by simp [results, Tryz.results15, go_sem, *]) rfl (GP.out _ hb4.out)
      · have he' : (v.m.toList == x.toList) = false := by rw [beq_eq_false_iff_ne]; exact fun h => he (bytes_eq h)
        have HN2 := Lib.hid (p := ∀ j, j < k + 1 → (A j).m ≠ x) (fun j hj => by
          by_cases hjk : j = k
          · subst hjk; rw [hv]; exact he
          · exact hN.out j (by omega))
        clear hc h5 hry hv he
        go_wp2_with fail
        go_roundw
        case rel => exact ⟨k + 1, by go_num, by omega, by trivial, HN2⟩
        case measure => simp [intOf]; omega
    · have HH := Lib.hid (p := has (nmA A n) x = false) (nmA_not (fun j hj => hN.out j (by omega)))
      have GP := Lib.hid (p := ∀ w', Below w.heap.size w w' → RGet w A n x (.returned (.tuple #[.agg #[.int .i64 0, .int .i64 0, .string ⟨#[]⟩, .slice none 0 0], .bool false])) w') (fun w' hb => ⟨by rw [if_neg (by rw [HH.out]; decide)], hb⟩)
      obtain ⟨⟨c0, c1, c2, c3⟩, ⟨f0, f1, f2, f3⟩⟩ := four HX.out.2.2
      have hz := HX.out.2.1
      go_wp2_with fail
      have hb4 := Lib.hid (four_below4 HX.out.1 (Nat.le_refl _) (.int .i64 0) (.int .i64 0) (.string ⟨#[]⟩) (.slice none 0 0))
      exact bodyPost_ret (v := .tuple #[.agg #[.int .i64 0, .int .i64 0, .string ⟨#[]⟩, .slice none 0 0], .bool false]) (by simp [results, Tryz.results15, go_sem, *]) rfl (GP.out _ hb4.out)

end Go.Proofs.YtnjfpgnhmfankaaGreatDoor

namespace Go.Proofs.YtnjfpgnhmfankaaGreatDoor
open Go.RowKit

/-- An attribute that keeps the document. -/
def OkA (x : AD) : Prop := FewA x ∧ goodB x.m.data.toList = true ∧ errV x.k x.s x.len x.z = 0
/-- Attributes that keep the document. -/
def OkL (L : List AD) : Prop := L.length ≤ 32 ∧ (∀ x ∈ L, OkA x) ∧ Rising lsS (nmD L)

theorem errAs_iff : ∀ (L : List AD) (p : ByteArray), errAs p L = 0 ↔ (∀ x ∈ L, goodB x.m.data.toList = true ∧ errV x.k x.s x.len x.z = 0) ∧ Rising lsS (p :: nmD L)
  | [], p => by simp [errAs, nmD, Rising]
  | x :: r, p => by
    have ih := errAs_iff r x.m
    have hA : errA p x = 0 ↔ (goodB x.m.data.toList = true ∧ errV x.k x.s x.len x.z = 0) ∧ lsS p x.m = true := by
      unfold errA
      by_cases h1 : goodB x.m.data.toList = false
      · rw [if_pos h1, h1]; simp
      · rw [if_neg h1]
        have h1' : goodB x.m.data.toList = true := by simpa using h1
        by_cases h2 : lsS p x.m = false
        · rw [if_pos h2, h2]; simp
        · rw [if_neg h2]
          have h2' : lsS p x.m = true := by simpa using h2
          rw [h1', h2']; simp
    have hE : errAs p (x :: r) = 0 ↔ errA p x = 0 ∧ errAs x.m r = 0 := by
      show (if errA p x = 0 then errAs x.m r else errA p x) = 0 ↔ _
      by_cases h : errA p x = 0
      · rw [if_pos h]; exact ⟨fun h' => ⟨h, h'⟩, fun h' => h'.2⟩
      · rw [if_neg h]; exact ⟨fun h' => absurd h' h, fun h' => absurd h'.1 h⟩
    rw [hE, hA, ih]
    have hR : Rising lsS (p :: nmD (x :: r)) ↔ lsS p x.m = true ∧ Rising lsS (x.m :: nmD r) := by
      show List.Pairwise _ (p :: x.m :: nmD r) ↔ _
      rw [List.pairwise_cons]
      constructor
      · intro ⟨h1, h2⟩; exact ⟨h1 _ (List.Mem.head _), h2⟩
      · intro ⟨h1, h2⟩
        refine ⟨fun y hy => ?_, h2⟩
        rcases List.mem_cons.1 hy with rfl | hy
        · exact h1
        · exact strictS.trans _ _ _ h1 ((List.pairwise_cons.1 h2).1 y hy)
    rw [hR]
    constructor
    · rintro ⟨⟨h1, h2⟩, h3, h4⟩
      refine ⟨fun y hy => ?_, h2, h4⟩
      rcases List.mem_cons.1 hy with rfl | hy
      · exact h1
      · exact h3 y hy
    · rintro ⟨h1, h2, h3⟩
      exact ⟨⟨h1 x (List.Mem.head _), h2⟩, fun y hy => h1 y (List.Mem.tail _ hy), h3⟩

theorem errS_k : errS 0 0 0 ⟨#[47, 97]⟩ = 0 := by kernel_rfl
theorem good_k : goodB [107] = true := by decide

theorem errR_k (n : Nat) (A : Nat → AD) : errR (rowK n A) = if 32 < n then 4 else errAs ⟨#[]⟩ (fromA A n 0) := by
  show (if goodB [107] = false then (5 : Int) else if errS 0 0 0 ⟨#[47, 97]⟩ = 0 then (if 32 < n then 4 else errAs ⟨#[]⟩ (fromA A n 0)) else errS 0 0 0 ⟨#[47, 97]⟩) = _
  rw [good_k, errS_k]; simp

theorem fromA_len (A : Nat → AD) (n : Nat) : (fromA A n 0).length = n := by simp [fromA]

theorem goodL_iff (n : Nat) (A : Nat → AD) : goodL n A = true ↔ OkL (fromA A n 0) := by
  unfold goodL OkL fewL fewAs
  rw [errR_k, fromA_len]
  simp only [Bool.and_eq_true, decide_eq_true_eq, List.all_eq_true]
  constructor
  · rintro ⟨⟨h1, h2⟩, h3⟩
    by_cases h : 32 < n
    · rw [if_pos h] at h3; cases h3
    · rw [if_neg h] at h3
      obtain ⟨h4, h5⟩ := (errAs_iff _ _).1 h3
      refine ⟨by omega, fun x hx => ⟨?_, h4 x hx⟩, (List.pairwise_cons.1 h5).2⟩
      have := h2 x hx
      unfold fewA at this
      simp only [Bool.and_eq_true, decide_eq_true_eq] at this
      unfold FewA; omega
  · rintro ⟨h1, h2, h3⟩
    refine ⟨⟨by omega, fun x hx => ?_⟩, ?_⟩
    · have := (h2 x hx).1
      unfold FewA at this
      unfold fewA
      simp only [Bool.and_eq_true, decide_eq_true_eq]
      omega
    · rw [if_neg (by omega), errAs_iff]
      refine ⟨fun x hx => (h2 x hx).2, List.pairwise_cons.2 ⟨fun y hy => ?_, h3⟩⟩
      obtain ⟨x, hx, rfl⟩ := List.mem_map.1 hy
      exact lsS_empty (h2 x hx).2.1

theorem twA_twA (x : AD) : twA (twA x) = twA x := by
  unfold twA twN twS twL
  simp only
  congr 1 <;> split <;> rfl

theorem twA_ok {x : AD} (h : OkA x) : OkA (twA x) := by
  obtain ⟨⟨h1, h2, h3⟩, h4, h5⟩ := h
  refine ⟨⟨h1, ?_, ?_⟩, h4, ?_⟩
  · show (twS x.k x.s).size ≤ 200
    unfold twS; split
    · exact h2
    · show (0 : Nat) ≤ 200; omega
  · show twL x.k x.len ≤ 40
    unfold twL; split <;> omega
  · show errV x.k (twS x.k x.s) (twL x.k x.len) x.z = 0
    unfold errV twS twL at *
    by_cases k1 : x.k = 1
    · rw [if_pos k1]
    · rw [if_neg k1] at h5 ⊢
      by_cases k2 : x.k = 2
      · rw [if_pos k2] at h5 ⊢; rw [if_pos k2]; exact h5
      · rw [if_neg k2] at h5 ⊢
        by_cases k3 : x.k = 3
        · rw [if_pos k3] at h5 ⊢; rw [if_pos k3]; exact h5
        · rw [if_neg k3] at h5; cases h5

theorem cmpL_selfY : ∀ l, cmpL l l = 0
  | [] => rfl
  | a :: r => by unfold cmpL; rw [if_pos (cmpI_self a)]; exact cmpL_selfY r

/-- A twin is the same value. -/
theorem cmpV_tw (x : AD) : cmpV (twA x).k (twA x).n (twA x).s (twA x).len (twA x).z x.k x.n x.s x.len x.z = 0 := by
  show cmpV x.k (twN x.k x.n) (twS x.k x.s) (twL x.k x.len) x.z x.k x.n x.s x.len x.z = 0
  unfold cmpV twN twS twL
  rw [if_pos rfl]
  by_cases k1 : x.k = 1
  · rw [if_pos k1, if_pos k1]; exact cmpI_self _
  · rw [if_neg k1]
    by_cases k2 : x.k = 2
    · rw [if_pos k2, if_pos k2]; exact cmpS_self _
    · rw [if_neg k2]
      by_cases k3 : x.k = 3
      · rw [if_pos k3, if_pos k3]; exact cmpL_selfY _
      · rw [if_neg k3]

theorem nmD_len (L : List AD) : (nmD L).length = L.length := by simp [nmD]
theorem nmD_get {L : List AD} {i : Nat} (hi : i < L.length) : (nmD L)[i]? = some (L[i]).m := by simp [nmD, List.getElem?_eq_getElem hi]

theorem nmD_put {D : List AD} (hr : Rising lsS (nmD D)) (x : AD) : nmD (putD D x) = putK lsS (nmD D) x.m := by
  unfold putD putK
  by_cases h : has (nmD D) x.m = true
  · rw [if_pos h, if_pos h]
    have hp := (mem_iff_pos strictS hr).1 ((has_iff _ _).1 h)
    unfold nmD at *
    rw [List.map_set]
    apply List.ext_getElem?
    intro j
    rw [List.getElem?_set]
    split
    · rename_i hj
      subst hj
      rw [hp, if_pos (List.getElem?_eq_some_iff.1 hp).1]
    · rfl
  · rw [if_neg h, if_neg h]
    simp [nmD, List.map_take, List.map_drop]

theorem mem_putD {D : List AD} {e x : AD} (h : x ∈ putD D e) : x ∈ D ∨ x = e := by
  unfold putD at h
  split at h
  · exact List.mem_or_eq_of_mem_set h
  · rcases List.mem_append.1 h with h | h
    · exact .inl (List.mem_of_mem_take h)
    · rcases List.mem_cons.1 h with h | h
      · exact .inr h
      · exact .inl (List.mem_of_mem_drop h)

/-- What is put is there. -/
theorem put_at {D : List AD} (hr : Rising lsS (nmD D)) (x : AD) : x ∈ putD D x := by
  unfold putD
  split
  · rename_i h
    have hp := (List.getElem?_eq_some_iff.1 ((mem_iff_pos strictS hr).1 ((has_iff _ _).1 h))).1
    rw [nmD_len] at hp
    exact List.mem_iff_getElem.2 ⟨pos lsS (nmD D) x.m, by rw [List.length_set]; exact hp, by simp⟩
  · exact List.mem_append_right _ (List.Mem.head _)

/-- Others stay. -/
theorem put_other {D : List AD} (hr : Rising lsS (nmD D)) (x : AD) {y : AD} (hy : y ∈ D) (hne : y.m ≠ x.m) : y ∈ putD D x := by
  unfold putD
  split
  · rename_i h
    obtain ⟨i, hi, rfl⟩ := List.mem_iff_getElem.1 hy
    have hp := (mem_iff_pos strictS hr).1 ((has_iff _ _).1 h)
    refine List.mem_iff_getElem.2 ⟨i, by rw [List.length_set]; exact hi, ?_⟩
    rw [List.getElem_set, if_neg]
    intro e
    subst e
    apply hne
    have h2 := nmD_get hi
    rw [h2] at hp
    exact Option.some.inj hp
  · have : y ∈ D.take (pos lsS (nmD D) x.m) ++ D.drop (pos lsS (nmD D) x.m) := by rw [List.take_append_drop]; exact hy
    rcases List.mem_append.1 this with h | h
    · exact List.mem_append_left _ h
    · exact List.mem_append_right _ (List.Mem.tail _ h)

/-- A name tells the attribute. -/
theorem one_name {L : List AD} (hr : Rising lsS (nmD L)) {y z : AD} (hy : y ∈ L) (hz : z ∈ L) (h : y.m = z.m) : y = z := by
  obtain ⟨i, hi, rfl⟩ := List.mem_iff_getElem.1 hy
  obtain ⟨j, hj, rfl⟩ := List.mem_iff_getElem.1 hz
  have e1 : (nmD L)[i]? = some (L[i]).m := by rw [nmD, List.getElem?_map, List.getElem?_eq_getElem hi]; rfl
  have e2 : (nmD L)[j]? = some (L[j]).m := by rw [nmD, List.getElem?_map, List.getElem?_eq_getElem hj]; rfl
  have p1 := pos_of_at strictS hr e1
  have p2 := pos_of_at strictS hr e2
  rw [h, p2] at p1
  subst p1
  rfl

/-- What a name leads to. -/
theorem at_name {L : List AD} (hr : Rising lsS (nmD L)) {y : AD} (hy : y ∈ L) : has (nmD L) y.m = true ∧ atD L (pos lsS (nmD L) y.m) = y := by
  have hm : y.m ∈ nmD L := List.mem_map.2 ⟨y, hy, rfl⟩
  refine ⟨(has_iff _ _).2 hm, ?_⟩
  have hp := (mem_iff_pos strictS hr).1 hm
  obtain ⟨hi, _⟩ := List.getElem?_eq_some_iff.1 hp
  rw [nmD_len] at hi
  have e1 := nmD_get hi
  rw [e1] at hp
  have : L[pos lsS (nmD L) y.m] = y := one_name hr (List.getElem_mem hi) hy (Option.some.inj hp)
  rw [atD, List.getD_eq_getElem?_getD, List.getElem?_eq_getElem hi, this]; rfl

theorem put_ok {D : List AD} (h : OkL D) {x : AD} (hx : OkA x) (hl : has (nmD D) x.m = true ∨ D.length < 32) : OkL (putD D x) := by
  obtain ⟨h1, h2, h3⟩ := h
  refine ⟨?_, fun y hy => ?_, ?_⟩
  · rw [putD_len]; split
    · exact h1
    · rcases hl with hl | hl
      · contradiction
      · omega
  · rcases mem_putD hy with hy | rfl
    · exact h2 y hy
    · exact hx
  · rw [nmD_put h3]; exact rising_putK strictS h3 _

/-- Dropped again, and never there ahead: what was. -/
theorem drop_put {D : List AD} (hr : Rising lsS (nmD D)) (x : AD) (hn : has (nmD D) x.m = false) : dropD (putD D x) x.m = D := by
  have hp : pos lsS (nmD (putD D x)) x.m = pos lsS (nmD D) x.m := by rw [nmD_put hr]; exact pos_putK strictS _ _
  have hh : has (nmD (putD D x)) x.m = true := by rw [nmD_put hr]; exact (has_iff _ _).2 ((mem_putK _ _ _).2 (.inr rfl))
  have hl : pos lsS (nmD D) x.m ≤ D.length := by have := pos_le (less := lsS) (nmD D) x.m; rwa [nmD_len] at this
  unfold dropD
  rw [if_pos hh, hp]
  unfold putD
  rw [if_neg (by rw [hn]; decide), List.eraseIdx_append_of_length_le (by rw [List.length_take]; omega)]
  rw [List.length_take, Nat.min_eq_left hl, Nat.sub_self, List.eraseIdx_cons_zero, List.take_append_drop]

theorem nmD_tw (L : List AD) : nmD (L.map twA) = nmD L := by simp [nmD, twA]

theorem tw_ok {L : List AD} (h : OkL L) : OkL (L.map twA) := by
  obtain ⟨h1, h2, h3⟩ := h
  refine ⟨by simpa using h1, fun y hy => ?_, by rwa [nmD_tw]⟩
  obtain ⟨x, hx, rfl⟩ := List.mem_map.1 hy
  exact twA_ok (h2 x hx)

theorem twsA_map (A : Nat → AD) (n : Nat) : twsA A n = (fromA A n 0).map twA := by simp [twsA, fromA]

theorem rise_of {A : Nat → AD} {n : Nat} (h : Rising lsS (nmD (fromA A n 0))) : RiseA A n := by
  intro i j hij hj
  have e : ∀ k, k < n → (nmD (fromA A n 0))[k]? = some (A k).m := fun k hk => by
    rw [nmD, fromA, List.map_map, List.getElem?_map, List.getElem?_range (by omega)]; simp
  exact rising_at h hij (e i (by omega)) (e j hj)

theorem fromA_atD (D : List AD) : fromA (atD D) D.length 0 = D := by
  apply List.ext_getElem
  · simp [fromA]
  · intro i h1 h2
    simp [fromA, atD, List.getElem?_eq_getElem h2]

theorem sameAD_tw (x : AD) : sameAD (twA x) x = true := by
  unfold sameAD
  rw [cmpV_tw]
  show ((x.m.toList == x.m.toList) && _) = true
  simp

theorem sameAs_tw : ∀ L : List AD, sameAs (L.map twA) L = true
  | [] => rfl
  | x :: r => by
    show (sameAD (twA x) x && sameAs (r.map twA) r) = true
    rw [sameAD_tw, sameAs_tw r]; rfl

theorem sameL_tw (A : Nat → AD) (n : Nat) : sameL (twsA A n).length n (atD (twsA A n)) A = true := by
  unfold sameL
  rw [fromA_atD, twsA_map, sameAs_tw, List.length_map, fromA_len]
  simp

end Go.Proofs.YtnjfpgnhmfankaaGreatDoor

namespace Go.Proofs.YtnjfpgnhmfankaaGreatDoor
open Go.RowKit

/-- What the walk keeps: the attributes, the value. -/
structure KS (w0 w : World) (a : Option Addr) (n : Nat) (A : Nat → AD) (x : AD) (y : Option Addr) (cy : Nat) : Prop where
  bw : Below w0.heap.size w0 w
  ra : ReadsA w a n A
  ry : Reads w y x.len x.z
  h : w.heap[w0.heap.size]? = some (.cells #[.int .i64 x.k, .int .i64 x.n, .string x.s, .slice y x.len cy] 28 (0, 0))

theorem KS.kept {w0 w w' : World} {a : Option Addr} {n : Nat} {A : Nat → AD} {x : AD} {y : Option Addr} {cy : Nat} (h : KS w0 w a n A x y cy) (hb : Below w.heap.size w w') : KS w0 w' a n A x y cy :=
  ⟨h.bw.trans (hb.mono h.bw.size), h.ra.kept hb, h.ry.kept hb, (hb.block _ (lt_of_block h.h)).trans h.h⟩

/-- Attributes that are their own twins. -/
def TwL (M : List AD) : Prop := M.map twA = M ∧ OkL M

theorem ok_len {M : List AD} (h : OkL M) : ∀ j, j < M.length → (atD M j).len ≤ 1000000 := fun j hj => by
  have := (h.2.1 (atD M j) (by rw [atD, List.getD_eq_getElem?_getD, List.getElem?_eq_getElem hj]; exact List.getElem_mem hj)).1.2.2
  omega

theorem ok_rise {M : List AD} (h : OkL M) : RiseA (atD M) M.length := rise_of (by rw [fromA_atD]; exact h.2.2)

/-- Get of what is there. -/
theorem getM_any (a : Option Addr) (c : Nat) {M : List AD} (hM : TwL M) {v : AD} (hv : v ∈ M) (w : World) (h : ReadsA w a M.length (atD M)) :
    Calls Tryz.prog 14 #[.slice a M.length c, .string v.m] w fun e w' =>
      (∃ a' c', e = .returned (.tuple #[.agg #[.int .i64 v.k, .int .i64 v.n, .string v.s, .slice a' v.len c'], .bool true]) ∧ Reads w' a' v.len v.z) ∧ Below w.heap.size w w' := by
  obtain ⟨h1, h2⟩ := hM
  have hl := h2.1
  refine (getL_any a M.length c (atD M) v.m (by omega) (ok_len h2) (ok_rise h2) w h).mono ?_
  rintro e w' ⟨he, hb⟩
  obtain ⟨g1, g2⟩ := at_name h2.2.2 hv
  have hT : twsA (atD M) M.length = M := by rw [twsA_atD, h1]
  rw [hT, if_pos g1] at he
  obtain ⟨u, a', c', hp, hu, he, hr⟩ := he
  have hu' : u = v := hu.symm.trans g2
  subst hu'
  have ht : twA u = u := by
    obtain ⟨i, hi, e1⟩ := List.mem_iff_getElem.1 hv
    have e2 : (M.map twA)[i]? = M[i]? := by rw [h1]
    rw [List.getElem?_map, List.getElem?_eq_getElem hi, e1] at e2
    exact Option.some.inj e2
  have t1 : twN u.k u.n = u.n := congrArg AD.n ht
  have t2 : twS u.k u.s = u.s := congrArg AD.s ht
  have t3 : twL u.k u.len = u.len := congrArg AD.len ht
  rw [t1, t2, t3] at he
  rw [t3] at hr
  exact ⟨⟨a', c', he, hr⟩, hb⟩

/-- Drop of what is there. -/
theorem dropM_any (a : Option Addr) (c : Nat) {M : List AD} (hM : TwL M) {v : AD} (hv : v ∈ M) (w : World) (h : ReadsA w a M.length (atD M)) :
    Calls Tryz.prog 12 #[.slice a M.length c, .string v.m] w fun e w' =>
      (∃ a' c', e = .returned (.tuple #[.slice a' (dropD M v.m).length c', .bool true]) ∧ ReadsA w' a' (dropD M v.m).length (atD (dropD M v.m))) ∧ Below w.heap.size w w' := by
  obtain ⟨h1, h2⟩ := hM
  have hl := h2.1
  refine (dropL_any a M.length c (atD M) v.m (by omega) (ok_len h2) (ok_rise h2) w h).mono ?_
  rintro e w' ⟨⟨a', c', he, hr⟩, hb⟩
  obtain ⟨g1, g2⟩ := at_name h2.2.2 hv
  have hT : twsA (atD M) M.length = M := by rw [twsA_atD, h1]
  rw [hT] at he hr
  rw [g1] at he
  exact ⟨⟨a', c', he, hr⟩, hb⟩

theorem map_putD (D : List AD) (x : AD) : (putD D x).map twA = putD (D.map twA) (twA x) := by
  have hm : (twA x).m = x.m := rfl
  unfold putD
  rw [nmD_tw, hm]
  split
  · rw [List.map_set]
  · rw [List.map_append, List.map_cons, List.map_take, List.map_drop]

theorem map_tw_tw (L : List AD) : (L.map twA).map twA = L.map twA := by
  rw [List.map_map]; apply List.map_congr_left; intro x _; exact twA_twA x

/-- What Set makes. -/
theorem set_tw {A : Nat → AD} {n : Nat} (hL : OkL (fromA A n 0)) {x : AD} (hx : FewA x) (he : errSet (twsA A n) x = 0) : TwL (putD (twsA A n) (twA x)) ∧ OkA x := by
  have hD := tw_ok hL
  rw [← twsA_map] at hD
  unfold errSet at he
  by_cases h1 : goodB x.m.data.toList = false
  · rw [if_pos h1] at he; cases he
  rw [if_neg h1] at he
  have h1' : goodB x.m.data.toList = true := by simpa using h1
  by_cases h2 : errV x.k x.s x.len x.z = 0
  · rw [if_pos h2] at he
    have hok : OkA x := ⟨hx, h1', h2⟩
    have hl : has (nmD (twsA A n)) x.m = true ∨ (twsA A n).length < 32 := by
      by_cases h3 : has (nmD (twsA A n)) x.m = false ∧ 32 ≤ (twsA A n).length
      · rw [if_pos h3] at he; cases he
      · by_cases h4 : has (nmD (twsA A n)) x.m = true
        · exact .inl h4
        · refine .inr (Nat.lt_of_not_le fun h5 => h3 ⟨by simpa using h4, h5⟩)
    refine ⟨⟨?_, put_ok hD (twA_ok hok) hl⟩, hok⟩
    rw [map_putD, twA_twA, twsA_map, map_tw_tw]
  · rw [if_neg h2] at he; exact absurd he h2

/-- What lies there when an attribute was set. -/
theorem put_rest {A : Nat → AD} {n : Nat} (hL : OkL (fromA A n 0)) (x : AD) : twA x ∈ putD (twsA A n) (twA x) ∧ (∀ j, j < n → (A j).m ≠ x.m → twA (A j) ∈ putD (twsA A n) (twA x)) ∧
    (has (nmA A n) x.m = false → sameL (dropD (putD (twsA A n) (twA x)) x.m).length n (atD (dropD (putD (twsA A n) (twA x)) x.m)) A = true) := by
  have hD := (tw_ok hL).2.2
  rw [← twsA_map] at hD
  refine ⟨put_at hD _, fun j hj hne => put_other hD _ (by unfold twsA; exact List.mem_map.2 ⟨j, List.mem_range.2 hj, rfl⟩) hne, fun hn => ?_⟩
  have e : nmD (twsA A n) = nmA A n := by simp [nmD, nmA, twsA, twA]
  have := drop_put hD (twA x) (by rw [e]; exact hn)
  rw [show (twA x).m = x.m from rfl] at this
  rw [this]
  exact sameL_tw A n

theorem okL_len {A : Nat → AD} {n : Nat} (hL : OkL (fromA A n 0)) : n ≤ 32 ∧ ∀ j, j < n → OkA (A j) :=
  ⟨by have := hL.1; rwa [fromA_len] at this, fun j hj => hL.2.1 (A j) (by unfold fromA; exact List.mem_map.2 ⟨j, List.mem_range.2 (by omega), by rw [Nat.zero_add]⟩)⟩

/-- Set of attributes that keep the document. -/
theorem setS_any (a : Option Addr) (n c : Nat) (A : Nat → AD) (x : AD) (y : Option Addr) (cy : Nat) (hL : OkL (fromA A n 0)) (hx : FewA x) (w : World) (h : ReadsA w a n A) (hy : Reads w y x.len x.z) :
    Calls Tryz.prog 8 #[.slice a n c, .string x.m, .agg #[.int .i64 x.k, .int .i64 x.n, .string x.s, .slice y x.len cy]] w (SetPost w (twsA A n) x) := by
  obtain ⟨h1, h2⟩ := okL_len hL
  obtain ⟨x1, x2, x3⟩ := hx
  exact setL_any a n c A x y cy (by omega) (fun j hj => by have := (h2 j hj).1.2.2; omega) (rise_of hL.2.2) (by omega) (by omega) (by omega) w h hy

theorem setOk_any (a : Option Addr) (n c : Nat) (A : Nat → AD) (x : AD) (y : Option Addr) (cy : Nat) (hL : OkL (fromA A n 0)) (hx : FewA x) {M : List AD} (he : errSet (twsA A n) x = 0) (hM : putD (twsA A n) (twA x) = M) (w : World) (h : ReadsA w a n A) (hy : Reads w y x.len x.z) :
    Calls Tryz.prog 8 #[.slice a n c, .string x.m, .agg #[.int .i64 x.k, .int .i64 x.n, .string x.s, .slice y x.len cy]] w fun e w' => (∃ a c, e = .returned (.tuple #[.slice a M.length c, .int .i64 0]) ∧ ReadsA w' a M.length (atD M)) ∧ Below w.heap.size w w' := by
  refine (setS_any a n c A x y cy hL hx w h hy).mono ?_
  rintro e w' ⟨h, hb⟩
  rw [if_pos he, hM] at h
  exact ⟨h, hb⟩

theorem setBad_any (a : Option Addr) (n c : Nat) (A : Nat → AD) (x : AD) (y : Option Addr) (cy : Nat) (hL : OkL (fromA A n 0)) (hx : FewA x) {E : Int} (he : errSet (twsA A n) x = E) (h0 : ¬ E = 0) (w : World) (h : ReadsA w a n A) (hy : Reads w y x.len x.z) :
    Calls Tryz.prog 8 #[.slice a n c, .string x.m, .agg #[.int .i64 x.k, .int .i64 x.n, .string x.s, .slice y x.len cy]] w fun e w' => e = .returned (.tuple #[.slice none 0 0, .int .i64 E]) ∧ Below w.heap.size w w' := by
  refine (setS_any a n c A x y cy hL hx w h hy).mono ?_
  rintro e w' ⟨h, hb⟩
  rw [he, if_neg h0] at h
  exact ⟨h, hb⟩

/-- Same of two values that are alike. -/
theorem sameY_any (u x : AD) (h0 : cmpV u.k u.n u.s u.len u.z x.k x.n x.s x.len x.z = 0) (a1 : Option Addr) (c1 : Nat) (a2 : Option Addr) (c2 : Nat) (w : World) (h1 : Reads w a1 u.len u.z) (h2 : Reads w a2 x.len x.z) :
    Calls Tryz.prog 20 #[.agg #[.int .i64 u.k, .int .i64 u.n, .string u.s, .slice a1 u.len c1], .agg #[.int .i64 x.k, .int .i64 x.n, .string x.s, .slice a2 x.len c2]] w fun e w' => e = .returned (.bool true) ∧ Below w.heap.size w w' := by
  have := same_any u.k u.n u.s a1 u.len c1 u.z x.k x.n x.s a2 x.len c2 x.z w h1 h2
  rw [h0] at this
  exact this

/-- Good of what was set. -/
theorem goodM_any (a : Option Addr) (c : Nat) {M : List AD} (hM : TwL M) (w : World) (h : ReadsA w a M.length (atD M)) :
    Calls Tryz.prog 19 #[.slice a M.length c] w fun e w' => e = .returned (.bool true) ∧ Below w.heap.size w w' := by
  have hg : goodL M.length (atD M) = true := (goodL_iff _ _).2 (by rw [fromA_atD]; exact hM.2)
  have := good_any a M.length c (atD M) (fun j hj => by
    obtain ⟨h1, h2, h3⟩ := (hM.2.2.1 (atD M j) (by rw [atD, List.getD_eq_getElem?_getD, List.getElem?_eq_getElem hj]; exact List.getElem_mem hj)).1
    unfold SizA maxLen; omega) w h
  rwa [hg] at this

theorem drewB (w : World) : Below w.heap.size w w.drew := ⟨rfl, rfl, rfl, Nat.le_refl _, fun _ _ => rfl⟩

theorem drewNB (w : World) (m : Nat) : Below w.heap.size w (w.drewN m) := ⟨rfl, rfl, rfl, Nat.le_refl _, fun _ _ => rfl⟩

end Go.Proofs.YtnjfpgnhmfankaaGreatDoor

namespace Go.Proofs.YtnjfpgnhmfankaaGreatDoor
open Go.RowKit

set_option maxRecDepth 100000 in
set_option maxHeartbeats 4000000 in
theorem rowSets_walk (a : Option Addr) (n c : Nat) (A : Nat → AD) (x : AD) (y : Option Addr) (cy : Nat) (w : World) (hS : ∀ j, j < n → SizA (A j)) (hx : SizA x) (hA : ReadsA w a n A) (hy : Reads w y x.len x.z) (hw : LaidT w) :
    Calls Tryz.prog 4 #[.slice a n c, .string x.m, .agg #[.int .i64 x.k, .int .i64 x.n, .string x.s, .slice y x.len cy]] w fun e w' => e = .returned (.bool true) ∧ Below w.heap.size w w' := by
  have G := Lib.hid (And.intro hA (And.intro hy (And.intro hw (And.intro hS hx))))
  have hms := hx.1
  unfold maxLen at hms
  clear hA hy hw hS hx
  go_enter Tryz.func4, Tryz.ntmps4
  go_wp2_with fail
  generalize hW : World.alloc w _ = W
  have bl : Below w.heap.size w W := by rw [← hW]; exact (Below.refl _ _).alloc (Nat.le_refl _) _
  have K0 := Lib.hid (KS.mk (w0 := w) (w := W) (a := a) (n := n) (A := A) (x := x) (y := y) (cy := cy) bl (G.out.1.kept bl) (G.out.2.1.kept bl) (by rw [← hW]; exact heap_alloc_new w _))
  have L0 := Lib.hid (G.out.2.2.1.step bl)
  clear hW bl
  refine (knownW_any W L0.out).mono ?_
  rintro e w1 ⟨rfl, hb⟩
  have K1 := Lib.hid (K0.out.kept hb)
  clear hb K0 L0
  have F1 := Lib.hid (fun w h => good_any a n c A G.out.2.2.2.1 w h)
  by_cases h1 : goodL n A = false
  · rw [h1] at F1
    go_wp2_with fail
    refine (F1.out _ K1.out.ra).mono ?_
    rintro e w2 ⟨rfl, hb⟩
    have P := Lib.hid (K1.out.kept hb).bw
    clear hb
    go_wp2_with fail
    go_ret
    exact ⟨rfl, P.out⟩
  have h1' : goodL n A = true := by simpa using h1
  rw [h1'] at F1
  have OL := Lib.hid ((goodL_iff n A).1 h1')
  clear h1 h1'
  go_wp2_with fail
  refine (F1.out _ K1.out.ra).mono ?_
  rintro e w2 ⟨rfl, hb⟩
  have K2 := Lib.hid (K1.out.kept hb)
  clear hb K1 F1
  by_cases h2 : 100 < x.m.size
  · have P := Lib.hid K2.out.bw
    go_wp2_with fail
    go_ret
    exact ⟨rfl, P.out⟩
  obtain ⟨⟨a0, a1, a2, a3⟩, _⟩ := four K2.out.h
  have F2 := Lib.hid (fun w => few2_any x.k x.n x.s y x.len cy G.out.2.2.2.2.2.1 G.out.2.2.2.2.2.2 w)
  by_cases h3 : (decide (x.s.size ≤ 200) && decide (x.len ≤ 40)) = false
  · rw [h3] at F2
    clear h3
    go_wp2_with fail
    refine (F2.out _).mono ?_
    rintro e w3 ⟨rfl, hb⟩
    have P := Lib.hid (K2.out.kept hb).bw
    clear hb
    go_wp2_with fail
    go_ret
    exact ⟨rfl, P.out⟩
  have h3' : (decide (x.s.size ≤ 200) && decide (x.len ≤ 40)) = true := by simpa using h3
  rw [h3'] at F2
  have FX : Hid (FewA x) := Lib.hid (by
    simp only [Bool.and_eq_true, decide_eq_true_eq] at h3'
    unfold FewA; omega)
  clear h3 h3'
  go_wp2_with fail
  refine (F2.out _).mono ?_
  rintro e w3 ⟨rfl, hb⟩
  have K3 := Lib.hid (K2.out.kept hb)
  clear hb K2 F2 a0 a1 a2 a3
  obtain ⟨⟨a0, a1, a2, a3⟩, _⟩ := four K3.out.h
  obtain ⟨E, hE⟩ : ∃ E, errSet (twsA A n) x = E := ⟨_, rfl⟩
  by_cases h0 : E = 0
  · subst h0
    obtain ⟨M, hM⟩ : ∃ M, putD (twsA A n) (twA x) = M := ⟨_, rfl⟩
    have ST := Lib.hid (fun w h g => setOk_any a n c A x y cy OL.out FX.out hE hM w h g)
    obtain ⟨v, hv⟩ : ∃ v, twA x = v := ⟨_, rfl⟩
    obtain ⟨TM0, OX0⟩ := set_tw OL.out FX.out hE
    have HP := Lib.hid (put_rest OL.out x)
    rw [hM] at TM0 HP
    rw [hv] at HP
    have TM := Lib.hid TM0
    have OX := Lib.hid OX0
    have hvm : x.m = v.m := by rw [← hv]; rfl
    have SV := Lib.hid (cmpV_tw x)
    rw [hv] at SV
    have GM := Lib.hid (fun w a c h => getM_any a c TM.out HP.out.1 w h)
    have DM := Lib.hid (fun w a c h => dropM_any a c TM.out HP.out.1 w h)
    have GO := Lib.hid (fun u hu w a c h => getM_any a c TM.out (v := u) hu w h)
    rw [← hvm] at GM DM
    have HV := Lib.hid hvm
    have GG := Lib.hid (fun w a c h => goodM_any a c TM.out w h)
    have NL := Lib.hid (okL_len OL.out)
    clear hE hM hv hvm TM0 OX0
    go_wp2_with fail
    refine (ST.out _ K3.out.ra K3.out.ry).mono ?_
    rintro e w4 ⟨⟨a4, c4, rfl, hr⟩, hb⟩
    have K4 := Lib.hid (K3.out.kept hb)
    have R4 := Lib.hid hr
    clear hb hr K3 ST a0 a1 a2 a3
    go_wp2_with fail
    refine (GM.out _ _ _ R4.out).mono ?_
    rintro e w5 ⟨⟨a5, c5, rfl, hr⟩, hb⟩
    have K5 := Lib.hid (K4.out.kept hb)
    have R5 := Lib.hid (R4.out.kept hb)
    have Q5 := Lib.hid hr
    clear hb hr K4 R4 GM
    go_upto_region 9 with fail
    generalize hW6 : World.alloc w5 _ = w6
    have hb6 : Below w5.heap.size w5 w6 := by rw [← hW6]; exact (Below.refl _ _).alloc (Nat.le_refl _) _
    have h6 : w6.heap[w5.heap.size]? = some (.cells #[.int .i64 v.k, .int .i64 v.n, .string v.s, .slice a5 v.len c5] 28 (0, 0)) := by rw [← hW6]; exact heap_alloc_new w5 _
    have K6 := Lib.hid (K5.out.kept hb6)
    have R6 := Lib.hid (R5.out.kept hb6)
    have Q6 := Lib.hid (Q5.out.kept hb6)
    clear hW6 hb6 K5 R5 Q5
    obtain ⟨⟨a0, a1, a2, a3⟩, _⟩ := four K6.out.h
    obtain ⟨⟨b0, b1, b2, b3⟩, _⟩ := four h6
    clear h6
    have SA := Lib.hid (sameY_any v x SV.out a5 c5 y cy w6 Q6.out K6.out.ry)
    go_wp2_with fail
    refine SA.out.mono ?_
    rintro e w7 ⟨rfl, hb⟩
    have K7 := Lib.hid (K6.out.kept hb)
    have R7 := Lib.hid (R6.out.kept hb)
    clear hb K6 R6 Q6 SA a0 a1 a2 a3 b0 b1 b2 b3
    go_wp2_with fail
    go_loopw [11] (fun i wr => ∃ k : Nat, i = .int .i64 k ∧ k ≤ n ∧ Hid (KS w wr a n A x y cy) ∧ Hid (ReadsA wr a4 M.length (atD M))) (fun i _ => n - (intOf i).toNat)
    case atStart => exact ⟨0, rfl, Nat.zero_le _, K7, R7⟩
    case round =>
      obtain ⟨k, rfl, hk, K8, R8⟩ := hrel
      clear K7 R7
      have hn32 := NL.out.1
      by_cases hlt : k < n
      · obtain ⟨b, off, rfl, hc⟩ := K8.out.ra.2.resolve_left (by omega)
        obtain ⟨yk, ck, h5, hry⟩ := hc k hlt
        have NE := Lib.hid (p := (A k).m ≠ x.m → twA (A k) ∈ M) (HP.out.2.1 k hlt)
        obtain ⟨z, hz⟩ : ∃ z, A k = z := ⟨_, rfl⟩
        rw [hz] at h5 hry NE
        have H8 := Lib.hid (And.intro h5 hry)
        obtain ⟨d0, d1, d2, d3, d4⟩ := h5
        clear hry hc hz
        by_cases he : z.m = x.m
        · have GU0 := fun w a c h => GO.out v HP.out.1 w a c h
          rw [← HV.out, ← he] at GU0
          have GU := Lib.hid GU0
          have he' : (z.m.toList != x.m.toList) = false := by rw [he]; unfold bne; rw [beq_self_eq_true]; rfl
          have hq : (z.m.toList == x.m.toList) = true := by rw [he]; exact beq_self_eq_true _
          clear GU0 he NE
          go_wp2_with fail
          refine (GU.out _ _ _ R8.out).mono ?_
          rintro e w9 ⟨⟨a9, c9, rfl, hr⟩, hb⟩
          have K9 := Lib.hid (K8.out.kept hb)
          have R9 := Lib.hid (R8.out.kept hb)
          have H9 := Lib.hid (H8.out.1.kept hb)
          clear hb hr K8 R8 H8 d0 d1 d2 d3 d4
          go_upto_region 15 with fail
          generalize hW10 : World.alloc w9 _ = w10
          have hb10 : Below w9.heap.size w9 w10 := by rw [← hW10]; exact (Below.refl _ _).alloc (Nat.le_refl _) _
          have K10 := Lib.hid (fun m => (K9.out.kept hb10).kept (drewNB w10 m))
          have R10 := Lib.hid (fun m => (R9.out.kept hb10).kept (drewNB w10 m))
          obtain ⟨d0, d1, d2, d3, d4⟩ := H9.out.kept hb10
          clear hW10 hb10 K9 R9 H9
          go_quiet (fail)
          go_wp2_with fail
          go_roundw
          case rel => exact ⟨k + 1, by go_num, by omega, Lib.hid (K10.out _), Lib.hid (R10.out _)⟩
          case measure => simp [intOf]; omega
        · have hu := NE.out he
          have hc0 := cmpV_tw z
          have hum : (twA z).m = z.m := rfl
          generalize twA z = u at hu hc0 hum
          have GU0 := fun w a c h => GO.out u hu w a c h
          rw [hum] at GU0
          have GU := Lib.hid GU0
          have SU := Lib.hid (fun a1 c1 w h1 h2 => sameY_any u z hc0 a1 c1 yk ck w h1 h2)
          have hq : (z.m.toList == x.m.toList) = false := by rw [beq_eq_false_iff_ne]; exact fun h => he (bytes_eq h)
          have he' : (z.m.toList != x.m.toList) = true := by unfold bne; rw [hq]; rfl
          clear GU0 he NE hu hc0 hum
          go_wp2_with fail
          refine (GU.out _ _ _ R8.out).mono ?_
          rintro e w9 ⟨⟨a9, c9, rfl, hr⟩, hb⟩
          have K9 := Lib.hid (K8.out.kept hb)
          have R9 := Lib.hid (R8.out.kept hb)
          have H9 := Lib.hid (And.intro (H8.out.1.kept hb) (H8.out.2.kept hb))
          have Q9 := Lib.hid hr
          clear hb hr K8 R8 H8 d0 d1 d2 d3 d4
          go_upto_region 15 with fail
          generalize hW10 : World.alloc w9 _ = w10
          have hb10 : Below w9.heap.size w9 w10 := by rw [← hW10]; exact (Below.refl _ _).alloc (Nat.le_refl _) _
          have h10 : w10.heap[w9.heap.size]? = some (.cells #[.int .i64 u.k, .int .i64 u.n, .string u.s, .slice a9 u.len c9] 28 (0, 0)) := by rw [← hW10]; exact heap_alloc_new w9 _
          have K10 := Lib.hid ((K9.out.kept hb10).kept (drewB w10))
          have R10 := Lib.hid ((R9.out.kept hb10).kept (drewB w10))
          have H10 := Lib.hid ((H9.out.1.kept hb10).kept (drewB w10))
          have V10 := Lib.hid (p := w10.drew.heap[w9.heap.size]? = some (.cells #[.int .i64 u.k, .int .i64 u.n, .string u.s, .slice a9 u.len c9] 28 (0, 0))) h10
          have S10 := Lib.hid (SU.out a9 c9 w10.drew ((Q9.out.kept hb10).kept (drewB w10)) ((H9.out.2.kept hb10).kept (drewB w10)))
          clear hW10 hb10 h10 K9 R9 H9 Q9 SU GU
          have cc := And.intro H10.out (four V10.out).1
          go_region_held3 (fun w' => (w'.cell? ⟨b, off + k * 5, none⟩ = some (.string z.m) ∧ w'.cell? ⟨b, off + k * 5 + 1, none⟩ = some (.int .i64 z.k) ∧ w'.cell? ⟨b, off + k * 5 + 2, none⟩ = some (.int .i64 z.n) ∧ w'.cell? ⟨b, off + k * 5 + 3, none⟩ = some (.string z.s) ∧ w'.cell? ⟨b, off + k * 5 + 4, none⟩ = some (.slice yk z.len ck)) ∧ (w'.cell? ⟨w9.heap.size, 0, none⟩ = some (.int .i64 u.k) ∧ w'.cell? ⟨w9.heap.size, 1, none⟩ = some (.int .i64 u.n) ∧ w'.cell? ⟨w9.heap.size, 2, none⟩ = some (.string u.s) ∧ w'.cell? ⟨w9.heap.size, 3, none⟩ = some (.slice a9 u.len c9))) (first | assumption | exact cc) (first
            | (go_at_call 20
               with_reducible refine S10.out.mono ?_
               rintro e w11 ⟨rfl, hb⟩
               have K11 := Lib.hid (K10.out.kept hb)
               have R11 := Lib.hid (R10.out.kept hb)
               have cc := And.intro (H10.out.kept hb) (four ((hb.block _ (lt_of_block V10.out)).trans V10.out)).1
               clear hb)
            | fail)
          clear cc
          go_wp2_with fail
          go_roundw
          case rel => exact ⟨k + 1, by go_num, by omega, K11, R11⟩
          case measure => simp [intOf]; omega
      · go_wp2_with fail
        refine (ofAttrs_any a n c A (by omega) wr wr K8.out.ra (Below.refl _ _)).mono ?_
        rintro e w9 ⟨⟨a9, c9, rfl, hr⟩, hb⟩
        have K9 := Lib.hid (K8.out.kept hb)
        have R9 := Lib.hid (R8.out.kept hb)
        have RG := Lib.hid (rGet_any a9 n c9 A x.m (by omega) w9 (hr w9 (Kept.refl _ _)))
        clear hb hr K8 R8
        by_cases hh : has (nmA A n) x.m = true
        · have RG2 := Lib.hid (RG.out.mono (R' := fun e w' => (∃ j y c, j < n ∧ (A j).m = x.m ∧ e = .returned (.tuple #[.agg #[.int .i64 (A j).k, .int .i64 (A j).n, .string (A j).s, .slice y (A j).len c], .bool true]) ∧ Reads w' y (A j).len (A j).z) ∧ Below w9.heap.size w9 w') (fun e w' ⟨h, hb⟩ => ⟨by rw [if_pos hh] at h; exact h, hb⟩))
          clear RG hh
          go_wp2_with fail
          refine RG2.out.mono ?_
          rintro e w10 ⟨⟨j, yj, cj, _, _, rfl, _⟩, hb⟩
          have K10 := Lib.hid (K9.out.kept hb)
          have R10 := Lib.hid (R9.out.kept hb)
          clear hb K9 R9 RG2
          go_upto_region 18 with fail
          generalize hW11 : World.alloc w10 _ = w11
          have hb11 : Below w10.heap.size w10 w11 := by rw [← hW11]; exact (Below.refl _ _).alloc (Nat.le_refl _) _
          have K11 := Lib.hid (K10.out.kept hb11)
          have R11 := Lib.hid (R10.out.kept hb11)
          clear hW11 hb11 K10 R10
          go_wp2_with fail
          refine (DM.out _ _ _ R11.out).mono ?_
          rintro e w12 ⟨⟨a12, c12, rfl, hr⟩, hb⟩
          have K12 := Lib.hid (K11.out.kept hb)
          have R12 := Lib.hid (R11.out.kept hb)
          clear hb hr K11 R11
          go_wp2_with fail
          refine (GG.out _ _ _ R12.out).mono ?_
          rintro e w13 ⟨rfl, hb⟩
          have P := Lib.hid (K12.out.kept hb).bw
          clear hb
          go_wp2_with fail
          go_ret
          exact ⟨rfl, P.out⟩
        · have RG2 := Lib.hid (RG.out.mono (R' := fun e w' => e = .returned (.tuple #[.agg #[.int .i64 0, .int .i64 0, .string ⟨#[]⟩, .slice none 0 0], .bool false]) ∧ Below w9.heap.size w9 w') (fun e w' ⟨h, hb⟩ => ⟨by rw [if_neg hh] at h; exact h, hb⟩))
          have SL := Lib.hid (HP.out.2.2 (by simpa using hh))
          clear RG hh
          have DL := Lib.hid (dropD_len M x.m)
          have ML := Lib.hid TM.out.2.1
          go_wp2_with fail
          refine RG2.out.mono ?_
          rintro e w10 ⟨rfl, hb⟩
          have K10 := Lib.hid (K9.out.kept hb)
          have R10 := Lib.hid (R9.out.kept hb)
          clear hb K9 R9 RG2
          go_upto_region 18 with fail
          generalize hW11 : World.alloc w10 _ = w11
          have hb11 : Below w10.heap.size w10 w11 := by rw [← hW11]; exact (Below.refl _ _).alloc (Nat.le_refl _) _
          have K11 := Lib.hid (K10.out.kept hb11)
          have R11 := Lib.hid (R10.out.kept hb11)
          clear hW11 hb11 K10 R10
          go_wp2_with fail
          refine (DM.out _ _ _ R11.out).mono ?_
          rintro e w12 ⟨⟨a12, c12, rfl, hr⟩, hb⟩
          have K12 := Lib.hid (K11.out.kept hb)
          have R12 := Lib.hid (R11.out.kept hb)
          have SM := Lib.hid (p := Calls Tryz.prog 21 #[.slice a12 (dropD M x.m).length c12, .slice a n c] w12 fun e w' => e = .returned (.bool true) ∧ Below w12.heap.size w12 w') (by
            have := sameAttrs_any a12 a (dropD M x.m).length n c12 c (atD (dropD M x.m)) A (by have := DL.out; have := ML.out; omega) w12 hr K12.out.ra
            rwa [SL.out] at this)
          clear hb hr K11 R11
          go_wp2_with fail
          refine SM.out.mono ?_
          rintro e w13 ⟨rfl, hb⟩
          have K13 := Lib.hid (K12.out.kept hb)
          have R13 := Lib.hid (R12.out.kept hb)
          clear hb K12 R12 SM
          go_wp2_with fail
          refine (GG.out _ _ _ R13.out).mono ?_
          rintro e w14 ⟨rfl, hb⟩
          have P := Lib.hid (K13.out.kept hb).bw
          clear hb
          go_wp2_with fail
          go_ret
          exact ⟨rfl, P.out⟩
  · have ST := Lib.hid (fun w h g => setBad_any a n c A x y cy OL.out FX.out hE h0 w h g)
    have q : (E == 0) = false := by simpa using h0
    have q' : (E != 0) = true := by simpa using h0
    clear hE h0
    go_wp2_with fail
    refine (ST.out _ K3.out.ra K3.out.ry).mono ?_
    rintro e w4 ⟨rfl, hb⟩
    have P := Lib.hid (K3.out.kept hb).bw
    clear hb
    go_wp2_with fail
    go_ret
    exact ⟨rfl, P.out⟩

end Go.Proofs.YtnjfpgnhmfankaaGreatDoor

namespace Go.Proofs.YtnjfpgnhmfankaaGreatDoor
open Go.ChangeShapes Go.WideShapes Go.ChangeAt Go.RowKit

theorem own_knobS : ownKnob Tryz.prog.godebug = none := by kernel_rfl
theorem laid_outS : laidOutB Tryz.prog = true := by kernel_rfl

/-- The list of the laws' variables. -/
abbrev laidS : List (String × DataW Unit) := Rows.rowSetsRow.laid

theorem laidT_of {W : World} (h : laidMetH Tryz.prog laidS W) : LaidT W := by
  rw [MakeChecks.laidMetH_plain _ _ _ (by kernel_rfl)] at h
  have h2 := h.tail.tail
  have htab := Lib.tabIs_of_head (g := 1) (k := .u64) (zs := Lib.pow10Tab) (by kernel_rfl) (by kernel_rfl) Tryz.underlying155 Tryz.underlying141 (by kernel_rfl) (by kernel_rfl) h2
  unfold Lib.TabIs World.var? at htab
  rw [show Tryz.prog.globalNamed "internal/strconv.uint64pow10" = some 1 by kernel_rfl] at htab
  simp only [Option.bind_some] at htab
  split at htab
  · rename_i cs' t f e
    cases htab
    exact ⟨t, f, e⟩
  · cases htab

theorem in64_of_wfS {n : Int} (h : (Lit.int .i64 n).wf = true) : In64 n := by
  simp [Lit.wf, IntKind.min, IntKind.max, IntKind.bits, IntKind.signed] at h
  unfold In64
  omega

/-- A start that meets the list. -/
theorem start_metS (os : Os) (args : Array Value) : laidMetH Tryz.prog laidS ((World.laidAll Tryz.prog os laidS).forCall (fun _ _ => 0) ⟨#[], args, []⟩).memory := by
  rw [MakeChecks.laidMetH_plain _ _ _ (by kernel_rfl)]
  exact laidMet_laidAll _ (by kernel_rfl) (by kernel_rfl)
theorem start_shapedS (os : Os) : (World.laidAll Tryz.prog os laidS).Shaped Tryz.prog := World.shaped_of_ZipB (by kernel_rfl) (by kernel_rfl)

end Go.Proofs.YtnjfpgnhmfankaaGreatDoor

namespace Go.Proofs.YtnjfpgnhmfankaaGreatDoor
open Go.RowKit Go.ChangeShapes Go.WideShapes Go.Deep

theorem in64_getD {zs : List Int} (h : ∀ n ∈ zs, (Lit.int .i64 n).wf = true) (j : Nat) : In64 (zs.getD j 0) := by
  by_cases hj : j < zs.length
  · rw [List.getD, List.getElem?_eq_getElem hj]
    exact in64_of_wfS (h _ (List.getElem_mem hj))
  · rw [List.getD, List.getElem?_eq_none (by omega)]
    unfold In64; simp

theorem in64_zero : In64 0 := by unfold In64; omega
theorem attrCells : Tryz.prog.cellsOf 55 = 5 := by kernel_rfl
theorem valueCells : Tryz.prog.cellsOf 28 = 4 := by kernel_rfl

set_option maxRecDepth 100000 in
/-- The four cells of a value. -/
theorem value_cells {H : Type} {enc : TypeId × Value → H} {W : World} {n : Nat} {c0 c1 c2 c3 : Value} {x : DataW H × List MemPlace} (h : DataW.trod enc Tryz.prog W 0 (fun _ => true) true n 28 [c0, c1, c2, c3] = some x) :
    ∃ (k i : Int) (s : ByteArray) (a : Option Addr) (len cap : Nat) (z : Nat → Int), c0 = .int .i64 k ∧ c1 = .int .i64 i ∧ c2 = .string s ∧ c3 = .slice a len cap ∧ In64 k ∧ In64 i ∧ s.size ≤ maxLen ∧ (∀ j, In64 (z j)) ∧ Reads W a len z := by
  obtain ⟨ys, m, -, -, -, hyl, hf⟩ := DataW.trod_struct Tryz.underlying28 h
  have y4 : ys.length = 4 := hyl
  match ys, y4 with
  | [y0, y1, y2, y3], _ =>
    have h0 : DataW.trod enc Tryz.prog W 0 (fun _ => true) true m 3 [c0] = some y0 := hf 0 _ rfl
    have h1 : DataW.trod enc Tryz.prog W 0 (fun _ => true) true m 2 [c1] = some y1 := hf 1 _ rfl
    have h2 : DataW.trod enc Tryz.prog W 0 (fun _ => true) true m 9 [c2] = some y2 := hf 2 _ rfl
    have h3 : DataW.trod enc Tryz.prog W 0 (fun _ => true) true m 26 [c3] = some y3 := hf 3 _ rfl
    obtain ⟨k, e0, -, w0⟩ := DataW.trod_int Tryz.underlying3 h0
    obtain ⟨i, e1, -, w1⟩ := DataW.trod_int Tryz.underlying2 h1
    obtain ⟨s, e2, -, w2⟩ := DataW.trod_string Tryz.underlying9 h2
    cases e0; cases e1; cases e2
    rcases open_ints Tryz.underlying26 Tryz.underlying2 (by kernel_rfl) h3 with ⟨hcs, _⟩ | ⟨x, l, c, zs, hcs, _, hl, hm, hz, _, hcell, hwz⟩
    · cases hcs
      exact ⟨k, i, s, none, 0, 0, fun _ => 0, rfl, rfl, rfl, rfl, in64_of_wfS w0, in64_of_wfS w1, w2, fun _ => in64_zero, ⟨Nat.zero_le _, .inl rfl⟩⟩
    · cases hcs
      simp only [if_true] at hz
      refine ⟨k, i, s, some x, l, c, fun j => zs.getD j 0, rfl, rfl, rfl, rfl, in64_of_wfS w0, in64_of_wfS w1, w2, in64_getD hwz, ⟨Nat.le_trans hl hm, ?_⟩⟩
      by_cases hl0 : l = 0
      · exact .inl hl0
      · right
        obtain ⟨b, off, spot⟩ := x
        have hspot : spot = none := by simpa [Addr.add] using World.cell?_spot (hcell 0 (by omega))
        subst hspot
        exact ⟨b, off, rfl, fun j hj => by rw [← Addr.add_lit]; exact hcell j (by omega)⟩

set_option maxRecDepth 100000 in
/-- The five cells of an attribute. -/
theorem attr_cells {H : Type} {enc : TypeId × Value → H} {W : World} {n : Nat} {cs : List Value} {x : DataW H × List MemPlace} (h : DataW.trod enc Tryz.prog W 0 (fun _ => true) true n 55 cs = some x) :
    ∃ (v : AD) (y : Option Addr) (c : Nat), SizA v ∧ NumA v ∧ cs = fiveL v y c ∧ Reads W y v.len v.z := by
  obtain ⟨ys, m, -, -, hlen, hyl, hf⟩ := DataW.trod_struct Tryz.underlying55 h
  rw [attrCells] at hlen
  match cs, hlen with
  | [c0, c1, c2, c3, c4], _ =>
    have y2 : ys.length = 2 := hyl
    match ys, y2 with
    | [y0, y1], _ =>
      have h0 : DataW.trod enc Tryz.prog W 0 (fun _ => true) true m 9 [c0] = some y0 := hf 0 _ rfl
      have h1 : DataW.trod enc Tryz.prog W 0 (fun _ => true) true m 28 [c1, c2, c3, c4] = some y1 := hf 1 _ rfl
      obtain ⟨s, e0, -, w0⟩ := DataW.trod_string Tryz.underlying9 h0
      cases e0
      obtain ⟨k, i, t, a, len, cap, z, rfl, rfl, rfl, rfl, wk, wi, wt, wz, hr⟩ := value_cells h1
      exact ⟨⟨s, k, i, t, len, z⟩, a, cap, ⟨w0, wt, hr.1⟩, ⟨wk, wi, wz⟩, rfl, hr⟩

theorem attrs_of {H : Type} {enc : TypeId × Value → H} {W : World} {fuel : Nat} {c5 : Value} {x : DataW H × List MemPlace}
    (hf : DataW.trod enc Tryz.prog W 0 (fun _ => true) true fuel 24 [c5] = some x) : ∃ (a : Option Addr) (len cap : Nat) (A : Nat → AD), c5 = .slice a len cap ∧ (∀ j, SizA (A j)) ∧ (∀ j, NumA (A j)) ∧ ReadsA W a len A := by
  have d0 : SizA ⟨⟨#[]⟩, 0, 0, ⟨#[]⟩, 0, fun _ => 0⟩ := ⟨Nat.zero_le _, Nat.zero_le _, Nat.zero_le _⟩
  have d1 : NumA ⟨⟨#[]⟩, 0, 0, ⟨#[]⟩, 0, fun _ => 0⟩ := ⟨in64_zero, in64_zero, fun _ => in64_zero⟩
  rcases open_slice Tryz.underlying24 hf with ⟨hcs, _⟩ | ⟨x, l, c, m, n, D, Pl, hcs, _, hl, hm, hmm, _, hi⟩
  · simp at hcs
    subst hcs
    exact ⟨none, 0, 0, fun _ => ⟨⟨#[]⟩, 0, 0, ⟨#[]⟩, 0, fun _ => 0⟩, rfl, fun _ => d0, fun _ => d1, Nat.zero_le _, .inl rfl⟩
  · simp at hcs
    subst hcs
    simp only [if_true] at hmm
    subst hmm
    have hx : ∀ j, ∃ s : AD, SizA s ∧ NumA s ∧ (j < l → ∃ y cc, (W.cell? (x.add (j * 5)) = some (.string s.m) ∧ W.cell? (x.add (j * 5 + 1)) = some (.int .i64 s.k) ∧ W.cell? (x.add (j * 5 + 2)) = some (.int .i64 s.n) ∧ W.cell? (x.add (j * 5 + 3)) = some (.string s.s) ∧ W.cell? (x.add (j * 5 + 4)) = some (.slice y s.len cc)) ∧ Reads W y s.len s.z) := by
      intro j
      by_cases hj : j < l
      · obtain ⟨cs', hc, ht⟩ := hi j (by omega)
        rw [attrCells] at hc
        obtain ⟨s, y, cc, hs, hn, rfl, hr⟩ := attr_cells ht
        obtain ⟨-, -, hat⟩ := World.cells?_some hc
        have e : ∀ i, i < 5 → (x.add (j * 5)).add i = x.add (j * 5 + i) := fun i _ => Go.Deep.add_add _ _ _
        refine ⟨s, hs, hn, fun _ => ⟨y, cc, ⟨?_, ?_, ?_, ?_, ?_⟩, hr⟩⟩
        · have := hat 0 (by omega); rw [e 0 (by omega)] at this; exact this
        · have := hat 1 (by omega); rw [e 1 (by omega)] at this; exact this
        · have := hat 2 (by omega); rw [e 2 (by omega)] at this; exact this
        · have := hat 3 (by omega); rw [e 3 (by omega)] at this; exact this
        · have := hat 4 (by omega); rw [e 4 (by omega)] at this; exact this
      · exact ⟨_, d0, d1, fun h => absurd h hj⟩
    have hS : ∃ S : Nat → AD, ∀ j, SizA (S j) ∧ NumA (S j) ∧ (j < l → ∃ y cc, (W.cell? (x.add (j * 5)) = some (.string (S j).m) ∧ W.cell? (x.add (j * 5 + 1)) = some (.int .i64 (S j).k) ∧ W.cell? (x.add (j * 5 + 2)) = some (.int .i64 (S j).n) ∧ W.cell? (x.add (j * 5 + 3)) = some (.string (S j).s) ∧ W.cell? (x.add (j * 5 + 4)) = some (.slice y (S j).len cc)) ∧ Reads W y (S j).len (S j).z) := ⟨fun j => Classical.choose (hx j), fun j => Classical.choose_spec (hx j)⟩
    obtain ⟨S, hS⟩ := hS
    refine ⟨some x, l, _, S, rfl, fun j => (hS j).1, fun j => (hS j).2.1, Nat.le_trans hl hm, ?_⟩
    by_cases hz : l = 0
    · exact Or.inl hz
    · right
      obtain ⟨b, off, spot⟩ := x
      have hspot : spot = none := by
        obtain ⟨y, cc, h0, _⟩ := (hS 0).2.2 (by omega)
        simpa [Addr.add] using World.cell?_spot h0.1
      subst hspot
      refine ⟨b, off, rfl, fun j hj => ?_⟩
      obtain ⟨y, cc, h5, hr⟩ := (hS j).2.2 hj
      rw [Addr.add_lit, Addr.add_lit, Addr.add_lit, Addr.add_lit, Addr.add_lit] at h5
      exact ⟨y, cc, h5, hr⟩

/-- Attributes that came in, opened. -/
theorem attrsV_of {H : Type} {enc : TypeId × Value → H} {W : World} {a : Option Addr} {l c : Nat} {d : DataW H} {p : List MemPlace} (h : DataW.Trod enc Tryz.prog W 0 (fun _ => true) true 24 (.slice a l c) d p) :
    ∃ A : Nat → AD, (∀ j, SizA (A j)) ∧ ReadsA W a l A := by
  obtain ⟨fuel, hf⟩ := h
  have hf' : DataW.trod enc Tryz.prog W 0 (fun _ => true) true fuel 24 [.slice a l c] = some (d, p) := hf
  obtain ⟨a', l', c', A, e, hS, _, hr⟩ := attrs_of hf'
  cases e
  exact ⟨A, hS, hr⟩

set_option maxRecDepth 100000 in
/-- A value that came in, opened. -/
theorem valueV_of {H : Type} {enc : TypeId × Value → H} {W : World} {base : Nat} {v : Value} {d : DataW H} {p : List MemPlace} (hv : Value.okWide Tryz.prog W .any base 28 v) (h : DataW.Trod enc Tryz.prog W 0 (fun _ => true) true 28 v d p) :
    ∃ (k i : Int) (s : ByteArray) (a : Option Addr) (len cap : Nat) (z : Nat → Int), v = .agg #[.int .i64 k, .int .i64 i, .string s, .slice a len cap] ∧ s.size ≤ maxLen ∧ Reads W a len z := by
  obtain ⟨cs, rfl, hsz⟩ := okWide_struct Tryz.underlying28 hv
  rw [valueCells] at hsz
  obtain ⟨l⟩ := cs
  have hsz' : l.length = 4 := hsz
  match l, hsz' with
  | [c0, c1, c2, c3], _ =>
    obtain ⟨fuel, hf⟩ := h
    have hf' : DataW.trod enc Tryz.prog W 0 (fun _ => true) true fuel 28 [c0, c1, c2, c3] = some (d, p) := hf
    obtain ⟨k, i, s, a, len, cap, z, rfl, rfl, rfl, rfl, _, _, ws, _, hr⟩ := value_cells hf'
    exact ⟨k, i, s, a, len, cap, z, rfl, ws, hr⟩

end Go.Proofs.YtnjfpgnhmfankaaGreatDoor
