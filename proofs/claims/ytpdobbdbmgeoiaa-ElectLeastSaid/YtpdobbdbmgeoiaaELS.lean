/-
  No statement: choices sorted by the library.
-/
import Derived.Test.YtpdobbdbmgeoiaaELT
import Derived.Test.YtpdobbdbmgeoiaaShelf
import Derived.Test.YtpdobbdbmgeoiaaDgMem
set_option linter.unusedVariables false
set_option linter.unusedSimpArgs false
namespace Go.Proofs.Ytpdobbdbmgeoiaa
open Go.RowKit Go.Sort

/-- Choices in memory. -/
def CellsC (w : World) (g : Nat) (L : List CH) : Prop := ∀ j c, L[j]? = some c → w.cell? ⟨g, j * 3, none⟩ = some (.string c.key) ∧ w.cell? ⟨g, j * 3 + 1, none⟩ = some (.string c.rep) ∧ w.cell? ⟨g, j * 3 + 2, none⟩ = some (.int .i64 c.load)

theorem CellsC.kept {w w' : World} {g : Nat} {L : List CH} (h : CellsC w g L) (hb : ∀ o v, w.cell? ⟨g, o, none⟩ = some v → w'.cell? ⟨g, o, none⟩ = some v) : CellsC w' g L := fun j c hj => ⟨hb _ _ (h j c hj).1, hb _ _ (h j c hj).2.1, hb _ _ (h j c hj).2.2⟩

/-- In order: by load, then Rep, then Key. -/
abbrev Asc (L : List CH) : Prop := L.Pairwise fun x y => cmpC x y ≤ 0

theorem flat_getC (d : Array CH) (t : Nat) (h : t < d.size * 3) : (flatK encC 3 d)[t]! = (encC d[t / 3]!)[t % 3]! := get_flatK encC 3 d t h

theorem holdsC {w : World} {g : Nat} {L : List CH} (h : CellsC w g L) (hf : ∀ o, w.frozen? ⟨g, o, none⟩ = false) : HoldsK encC 3 w g 0 L.toArray := fun t ht => by
  have ht' : t < L.toArray.size * 3 := by rwa [size_flatK] at ht
  have hs : L.toArray.size = L.length := by simp
  rw [hs] at ht'
  have hj : t / 3 < L.length := by omega
  have hm := h (t / 3) L[t / 3] (List.getElem?_eq_getElem hj)
  have he : L.toArray[t / 3]! = L[t / 3] := by simp [hj]
  obtain ⟨x, hx⟩ : ∃ x, L[t / 3] = x := ⟨_, rfl⟩
  rw [hx] at hm he
  refine ⟨?_, hf _⟩
  rw [flat_getC _ _ (by rw [hs]; exact ht'), he, Nat.zero_add]
  have h3 : t % 3 = 0 ∨ t % 3 = 1 ∨ t % 3 = 2 := by omega
  rcases h3 with h3 | h3 | h3
  · rw [h3]
    conv => lhs; rw [show t = t / 3 * 3 by omega]
    exact hm.1
  · rw [h3]
    conv => lhs; rw [show t = t / 3 * 3 + 1 by omega]
    exact hm.2.1
  · rw [h3]
    conv => lhs; rw [show t = t / 3 * 3 + 2 by omega]
    exact hm.2.2

theorem cells_ofC {w : World} {g : Nat} {d : Array CH} (h : HoldsK encC 3 w g 0 d) : CellsC w g d.toList := fun j c hj => by
  obtain ⟨hj1, hj2⟩ := List.getElem?_eq_some_iff.1 hj
  have hd : j < d.size := by simpa using hj1
  have he : d[j]! = c := by rw [getElem!_pos d j hd]; rw [← hj2]; simp
  have hc : ∀ i, i < 3 → w.cell? ⟨g, j * 3 + i, none⟩ = some ((encC c)[i]!) := fun i hi => by
    have h1 := (h (j * 3 + i) (by rw [size_flatK]; omega)).1
    rw [flat_getC _ _ (by omega), Nat.zero_add, show (j * 3 + i) / 3 = j by omega, show (j * 3 + i) % 3 = i by omega, he] at h1
    exact h1
  exact ⟨hc 0 (by omega), hc 1 (by omega), hc 2 (by omega)⟩

theorem sort_any (g c : Nat) (L : List CH) (O S F0 F1 F2 : Nat) (w : World) (hT : Tur w O S F0 F1 F2) (hne : g ≠ O ∧ g ≠ S ∧ g ≠ F0 ∧ g ≠ F1 ∧ g ≠ F2) (hlt : g < w.heap.size) (hn : L.length ≤ 1000) (hL : CellsC w g L) (hf : ∀ o, w.frozen? ⟨g, o, none⟩ = false) :
    Calls Try.prog 18 #[.slice (some ⟨g, 0, none⟩) L.length c, .func (.func 39) #[] #[.pointer (some ⟨O, 0, none⟩)]] w fun e w' => e = .returned (.tuple #[]) ∧ ∃ L' : List CH, L'.Perm L ∧ Asc L' ∧ CellsC w' g L' ∧ Kept (fun q => q = g) w w' := by
  have hH := holdsC hL hf
  have eg : ∀ args w, (callFunc 39 args).run Try.prog w = .ok (.enter 39 args) w := enters_of Try.func39 (by kernel_rfl) rfl
  have hcon := AnyQ.slices_SortFunc Try.sortC 3 Try.isAgg32 Try.sizeOf32 encC (fun _ => rfl) (fun x v hv => by simp [encC] at hv; rcases hv with rfl | rfl | rfl <;> rfl) cmpC swoC 39 #[.pointer (some ⟨O, 0, none⟩)] g 0 c L.toArray w eg (cmpLays_any g 0 L.toArray.size O S F0 F1 F2 w hT hne) hH hlt (by simp; omega)
  change Calls Try.prog 18 _ _ _ at hcon
  rw [show L.toArray.size = L.length by simp] at hcon
  refine hcon.mono ?_
  rintro e w' ⟨rfl, d', n, os, hp, hs, rfl⟩
  have hsz : d'.size = L.length := by rw [hp.1]; simp
  have hw : SWK encC 3 w g 0 d' (sortWorldK encC 3 w g 0 n d' os) := ⟨n, os, rfl⟩
  refine ⟨rfl, d'.toList, ?_, ?_, cells_ofC (hw.holds hlt hH (by rw [hp.1])), ?_⟩
  · have := hp.2.2
    rwa [show d'.extract 0 L.length = d' by rw [← hsz]; simp, show L.toArray.extract 0 L.length = L.toArray by simp] at this
  · refine List.pairwise_iff_getElem.2 fun i j hi hj hij => ?_
    have h1 := hs i j (Nat.zero_le _) hij (by rw [← hsz]; simpa using hj)
    have hi' : i < d'.size := by simpa using hi
    have hj' : j < d'.size := by simpa using hj
    rw [getElem!_pos d' i hi', getElem!_pos d' j hj'] at h1
    unfold ltOf at h1
    have h2 := of_decide_eq_false h1
    have h3 := cmpC_neg d'[i] d'[j]
    rw [Array.getElem_toList, Array.getElem_toList]
    omega
  · refine ⟨rfl, rfl, rfl, hw.le, fun k hk hn => ?_⟩
    have hpk : (putRowK encC 3 (Go.Sort.ahead w n) g 0 d').heap[k]? = w.heap[k]? := by
      unfold putRowK putRow mapBlock Go.Sort.ahead
      rw [Array.getElem?_modify, if_neg (fun e => hn e.symm)]
    show ((putRowK encC 3 (Go.Sort.ahead w n) g 0 d').heap ++ os)[k]? = _
    rw [Array.getElem?_append_left (by rw [size_putRowK]; exact hk)]
    exact hpk

end Go.Proofs.Ytpdobbdbmgeoiaa
