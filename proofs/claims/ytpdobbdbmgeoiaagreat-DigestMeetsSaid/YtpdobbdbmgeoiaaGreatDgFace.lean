/-
  No statement: Send, Want and Pick of package digest.
-/
import Derived.Test.YtpdobbdbmgeoiaaGreatDgTwins
import Derived.Test.YtpdobbdbmgeoiaaGreatDgWRM
import Derived.Test.YtpdobbdbmgeoiaaGreatDgWMR
import Derived.Test.YtpdobbdbmgeoiaaGreatDgWRS
import Derived.Test.YtpdobbdbmgeoiaaGreatDgSorted
set_option linter.unusedVariables false
set_option linter.unusedSimpArgs false
namespace Go.Proofs.YtpdobbdbmgeoiaaGreat
open Go.RowKit

/-- Rows that are not too long. -/
def ShortR (x : RD) : Prop := x.len ≤ 1000 ∧ ∀ j, j < x.len → (x.A j).len ≤ 1000000

/-- Rows that a call has made. -/
def RowsOut (w : World) (L : List RD) (e : Ending) (w' : World) : Prop :=
  (∃ va vc, e = .returned (.slice va L.length vc) ∧ L.length ≤ vc ∧ ReadsRG (fun q => w.heap.size ≤ q) w' va L.length (atD L)) ∧ Below w.heap.size w w'

/-- twins behind a walk. -/
theorem twins_out {w w1 : World} {va : Option Addr} {vc : Nat} {T : List RTd} {L : List RD} (ho : OwnRG (fun q => q < w.heap.size) w1 w.heap.size (.slice va T.length vc) T) (hb : Below w.heap.size w w1) (hn : T.length ≤ 1000) (hL : T.map (·.1) = L) (hs : ∀ x ∈ L, ShortR x) :
    Calls Tryz.prog 59 #[.slice va T.length vc] w1 fun e w' => RowsOut w (L.map dtR) e w' := by
  refine (twins_any w.heap.size va T.length vc T w1 ho (fun q hq e => by have := (ho.1.lt q e).1; omega) hn (fun t ht => hs t.1 (by rw [← hL]; exact List.mem_map.2 ⟨t, ht, rfl⟩))).mono ?_
  rintro e w2 ⟨T', rfl, hm, ho', hk⟩
  have hl : (L.map dtR).length = T.length := by rw [List.length_map, ← hL, List.length_map]
  have hb2 : Below w.heap.size w w2 := hb.trans (hk.below (fun q hq => (ho.1.lt q hq).1) hb.size)
  have hT' : T'.map (·.1) = L.map dtR := by rw [hm, ← hL, List.map_map]; rfl
  have hT'l : T'.length = T.length := by have := congrArg List.length hm; simpa using this
  have hrd := ho'.reads (H := fun q => w.heap.size ≤ q) (atD (L.map dtR)) (fun j x hx => by
    have h1 : (T'.map (·.1))[j]? = some x.1 := by rw [List.getElem?_map, hx]; rfl
    rw [hT'] at h1
    obtain ⟨h2, h3⟩ := List.getElem?_eq_some_iff.1 h1
    rw [atD_lt h2, h3]) (fun q hq => by have := hb.size; omega) (fun q hq => hq)
  refine ⟨⟨va, vc, by rw [hl], by rw [hl]; exact hrd.2.1, ?_⟩, hb2⟩
  rw [hl, ← hT'l]
  exact hrd.2.2

theorem dSend_any (al : List RD) (a : Option Addr) (c : Nat) (bl : List MK) (b : Option Addr) (d : Nat) (hn : al.length ≤ 1000) (hm : bl.length ≤ 1000) (hd : bl.length ≤ d) (hs : ∀ x ∈ al, ShortR x) (w : World)
    (ha : ReadsRG (fun q => q < w.heap.size) w a al.length (atD al)) (hb : ReadsMG (fun q => q < w.heap.size) w b bl.length (atK bl)) :
    Calls Tryz.prog 26 #[.slice a al.length c, .slice b bl.length d] w (RowsOut w ((pickW RD.key MK.key sendK al bl).map dtR)) := by
  have W1 := Lib.hid (walkRM_any al a c bl b d hn hm hd w ha hb)
  have TW := Lib.hid (p := ∀ (w1 : World) (va : Option Addr) (vc : Nat) (T : List RTd), OwnRG (fun q => q < w.heap.size) w1 w.heap.size (.slice va T.length vc) T → Below w.heap.size w w1 → T.map (·.1) = pickW RD.key MK.key sendK al bl → _) (fun w1 va vc T ho hb hT => twins_out (L := pickW RD.key MK.key sendK al bl) ho hb (by have h1 := pickW_len RD.key MK.key sendK al bl; rw [← hT, List.length_map] at h1; omega) hT (fun x hx => hs x (pickW_sub _ _ _ _ _ x hx)))
  clear ha hb hs
  generalize pickW RD.key MK.key sendK al bl = L at W1 TW ⊢
  go_enter Tryz.func26, Tryz.ntmps26
  go_wp2_with fail
  refine W1.out.mono ?_
  rintro e w1 ⟨⟨va, vc, T, rfl, ho, hT⟩, hb⟩
  have C := Lib.hid (TW.out w1 va vc T ho hb hT)
  clear ho hb hT TW
  go_wp2_with fail
  refine C.out.mono ?_
  rintro e w2 ⟨⟨va', vc', rfl, h⟩, hb⟩
  have P := Lib.hid (And.intro h hb)
  clear h hb
  go_wp2_with fail
  go_ret
  exact ⟨⟨_, vc', by rw [List.length_map]; rfl, P.out.1⟩, P.out.2⟩

theorem dWant_any (al : List RD) (a : Option Addr) (c : Nat) (bl : List MK) (b : Option Addr) (d : Nat) (hn : al.length ≤ 1000) (hm : bl.length ≤ 1000) (hc : al.length ≤ c) (w : World)
    (ha : ReadsRG (fun q => q < w.heap.size) w a al.length (atD al)) (hb : ReadsMG (fun q => q < w.heap.size) w b bl.length (atK bl)) :
    Calls Tryz.prog 29 #[.slice a al.length c, .slice b bl.length d] w fun e w' => (∃ va vc, e = .returned (.slice va ((pickW MK.key RD.key wantK bl al).map MK.key).length vc) ∧ ((pickW MK.key RD.key wantK bl al).map MK.key).length ≤ vc ∧ ReadsSG (fun q => w.heap.size ≤ q) w' va ((pickW MK.key RD.key wantK bl al).map MK.key).length (atS ((pickW MK.key RD.key wantK bl al).map MK.key))) ∧ Below w.heap.size w w' := by
  have W1 := Lib.hid (walkMR_any bl b d al a c hm hn hc w hb ha)
  have HL := Lib.hid (p := (pickW MK.key RD.key wantK bl al).length ≤ 1000) (Nat.le_trans (pickW_len _ _ _ _ _) hm)
  clear ha hb
  generalize pickW MK.key RD.key wantK bl al = L at W1 HL ⊢
  go_enter Tryz.func29, Tryz.ntmps29
  go_wp2_with fail
  refine W1.out.mono ?_
  rintro e w1 ⟨⟨va, vc, T, rfl, ho, rfl⟩, hb⟩
  have C := Lib.hid (keysOf_any T va vc HL.out w1 ((ho.reads (atK T) (fun j x hx => by obtain ⟨h2, h3⟩ := List.getElem?_eq_some_iff.1 hx; rw [atK_lt h2, h3])).2.2.mono (fun q _ hq => hq)))
  have HB := Lib.hid hb
  clear ho hb W1
  go_wp2_with fail
  refine C.out.mono ?_
  rintro e w2 ⟨⟨va', vc', rfl, h⟩, hb⟩
  have P : Hid ((T.map MK.key).length ≤ vc' ∧ ReadsSG (fun q => w.heap.size ≤ q) w2 va' (T.map MK.key).length (atS (T.map MK.key)) ∧ Below w.heap.size w w2) := Lib.hid (by
    have hr := h.reads
    have hl : (T.map MK.key).length = T.length := List.length_map ..
    exact ⟨by rw [hl]; exact hr.2.1, hr.2.2.mono (fun q hq _ => by have := HB.out.size; omega), HB.out.trans (hb.mono HB.out.size)⟩)
  clear h hb
  go_wp2_with fail
  go_ret
  exact ⟨⟨_, vc', by rw [List.length_map]; rfl, P.out.1, P.out.2.1⟩, P.out.2.2⟩

theorem dPick_any (al : List RD) (a : Option Addr) (c : Nat) (kl : List ByteArray) (b : Option Addr) (d : Nat) (hn : al.length ≤ 1000) (hm : kl.length ≤ 1000) (hr : Rising lsS kl) (hs : ∀ x ∈ al, ShortR x) (w : World)
    (ha : ReadsRG (fun q => q < w.heap.size) w a al.length (atD al)) (hb : ReadsSG (fun q => q < w.heap.size) w b kl.length (atS kl)) :
    Calls Tryz.prog 28 #[.slice a al.length c, .slice b kl.length d] w (RowsOut w ((pickW RD.key idK bothK al kl).map dtR)) := by
  have V1 := Lib.hid (values_any b kl.length d w)
  have SO := Lib.hid (p := ∀ w1, w1 = w.alloc (.cells #[.slice b kl.length d] 51) → _) (fun w1 h1 => sorted_any w.heap.size b d kl hm hr w1 (by rw [h1]; simp) (by
      rw [h1]
      have := heap_alloc_new w (.cells #[.slice b kl.length d] 51)
      exact (oneE this).1) (by
      have hbb : Below w.heap.size w w1 := by rw [h1]; exact (Below.refl _ _).alloc (Nat.le_refl _) _
      exact (hb.kept (keptNew hbb) (fun _ _ h => h)).mono (fun q _ hq => hq)))
  have W1 := Lib.hid (p := ∀ w2 : World, Below w.heap.size w w2 → ∀ (va : Option Addr) (vc : Nat), OwnS w2 w.heap.size (.slice va kl.length vc) kl → _) (fun w2 hb2 va vc ho => walkRS_any al a c kl va vc hn hm (ho.reads.2.1) w2 ((ha.kept (keptBelow hb2) (fun q hq h => by omega)).mono (fun q _ h => h)) (ho.reads.2.2.mono (fun q _ h => h)))
  have TW := Lib.hid (p := ∀ (w0 w1 : World) (va : Option Addr) (vc : Nat) (T : List RTd), OwnRG (fun q => q < w0.heap.size) w1 w0.heap.size (.slice va T.length vc) T → Below w0.heap.size w0 w1 → T.map (·.1) = pickW RD.key idK bothK al kl → _) (fun w0 w1 va vc T ho hb hT => twins_out (w := w0) (L := pickW RD.key idK bothK al kl) ho hb (by have h1 := pickW_len RD.key idK bothK al kl; rw [← hT, List.length_map] at h1; omega) hT (fun x hx => hs x (pickW_sub _ _ _ _ _ x hx)))
  clear ha hb hs
  generalize pickW RD.key idK bothK al kl = L at W1 TW ⊢
  go_enter Tryz.func28, Tryz.ntmps28
  go_wp2_with fail
  refine V1.out.mono ?_
  rintro e w1 ⟨rfl, hw1⟩
  have S1 := Lib.hid (SO.out w1 hw1)
  have B1 : Hid (Below w.heap.size w w1) := Lib.hid (by rw [hw1]; exact (Below.refl _ _).alloc (Nat.le_refl _) _)
  clear hw1 SO V1
  go_wp2_with fail
  refine S1.out.mono ?_
  rintro e w2 ⟨⟨va, vc, rfl, ho⟩, hb⟩
  have hz1 := B1.out.size
  have B2 := Lib.hid (B1.out.trans (hb.mono hz1))
  have C := Lib.hid (W1.out w2 B2.out va vc (owns_mono ho hz1))
  clear ho hb S1 W1
  go_wp2_with fail
  refine C.out.mono ?_
  rintro e w3 ⟨⟨va2, vc2, T, rfl, ho, hT⟩, hb⟩
  have D := Lib.hid (TW.out w2 w3 va2 vc2 T ho hb hT)
  have hz2 := B2.out.size
  clear ho hb hT TW C
  go_wp2_with fail
  refine D.out.mono ?_
  rintro e w4 ⟨⟨va', vc', rfl, h1, h2⟩, hb⟩
  have P := Lib.hid (And.intro h1 (And.intro (h2.mono (H := fun q => w.heap.size ≤ q) (fun q hq _ => by omega)) (B2.out.trans (hb.mono hz2))))
  clear h1 h2 hb
  go_wp2_with fail
  go_ret
  exact ⟨⟨_, vc', by rw [List.length_map]; rfl, P.out.1, P.out.2.1⟩, P.out.2.2⟩

end Go.Proofs.YtpdobbdbmgeoiaaGreat
