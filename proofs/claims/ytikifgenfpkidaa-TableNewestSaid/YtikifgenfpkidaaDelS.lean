/-
  No statement: slices.Delete of one element, at this seat's []9: the slice without that element, in the same block.
-/
import Derived.Test.YtikifgenfpkidaaBase
import Derived.Test.YtikifgenfpkidaaProg
import Derived.Deep.RegionLaw
import Derived.Lib.SliceRun
import Derived.Lib.SlicesDelete
set_option linter.unusedVariables false
set_option linter.unusedSimpArgs false
namespace Go.Proofs.Ytikifgenfpkidaa
open Go.RowKit Go.Lib

theorem delS_info : (Try.prog.info? 9).map (fun i => (i.zero, i.size, i.bytes)) = some (some (Value.string ⟨#[]⟩), 1, 16) := by kernel_rfl
theorem delS_und : Try.prog.underlying 50 = some (.slice 9) := by kernel_rfl
theorem delS_zero (w : World) : (zeroValue 9).run Try.prog w = .ok (Value.string ⟨#[]⟩) w := by kernel_rfl

set_option maxHeartbeats 4000000 in
set_option maxRecDepth 1000000 in
theorem delS_some (g n cap i : Nat) (cur : Array Value) (xs : List Value) (w : World) (hi : i < n) (hn : n ≤ cap) (hm : cap ≤ 9223372036854775807)
    (hg : w.heap[g]? = some (.cells cur 9 (0, 0))) (hs : cur.size = cap) (hx : xs.length = n) (ht : cur.toList.take n = xs) (h1 : ∀ v ∈ xs, v.oneCell' = true) :
    Calls Try.prog 59 #[.slice (some ⟨g, 0, none⟩) n cap, .int .i64 i, .int .i64 ((i : Int) + 1)] w fun e w' =>
      e = .returned (.slice (some ⟨g, 0, none⟩) (n - 1) cap) ∧ w' = (w.drew.setCells g i (xs.drop (i + 1))).setCells g (n - 1) [Value.string ⟨#[]⟩] := by
  obtain ⟨i0, hi0, hz0, hz1, hz2⟩ := info_parts delS_info
  obtain ⟨news, hnews⟩ : ∃ news, news = xs.drop (i + 1) := ⟨_, rfl⟩
  have hlen : news.length = n - (i + 1) := by rw [hnews, List.length_drop, hx]
  have hcs : ∀ j v, xs[j]? = some v → w.cell? ⟨g, j, none⟩ = some v := fun j v h => owns_cell hg ht h
  have hsp : ∀ j, j < cap → (w.cell? ⟨g, j, none⟩).isSome = true := fun j h => by
    rw [cell_of_row w g j cur _ (0, 0) hg, Array.getElem?_eq_getElem (by omega)]; rfl
  have hfz : ∀ j, w.frozen? ⟨g, j, none⟩ = false := fun j => frozen_of_row w g j cur _ hg
  obtain ⟨A, hA, hsrc⟩ : ∃ A : Addr, (if cap = i + 1 then some (⟨g, 0, none⟩ : Addr) else some ⟨g, i + 1, none⟩) = some A ∧ Hid (∀ t u, news[t]? = some u → w.drew.cell? (A.add t) = some u) := by
    by_cases h : cap = i + 1
    · refine ⟨⟨g, 0, none⟩, by simp [h], fun t u hu => ?_⟩
      have h0 : news.length = 0 := by rw [hlen]; omega
      rw [List.length_eq_zero_iff.1 h0] at hu
      simp at hu
    · refine ⟨⟨g, i + 1, none⟩, by simp [h], fun t u hu => ?_⟩
      rw [hnews, List.getElem?_drop] at hu
      rw [Addr.add_lit]
      exact hcs _ _ hu
  have s1 : Hid (news.length = (n - (i + 1)) * 1) := by rw [Nat.mul_one]; exact hlen
  have s2 : Hid (∀ u ∈ news, u.oneCell' = true) := fun u hu => h1 u (by rw [hnews] at hu; exact List.mem_of_mem_drop hu)
  have s3 : Hid (∀ t, t < news.length → (w.drew.cell? ⟨g, 0 + i * 1 + t, none⟩).isSome = true ∧ w.drew.frozen? ⟨g, 0 + i * 1 + t, none⟩ = false) := fun t ht => by
    rw [hlen] at ht
    exact ⟨hsp _ (by omega), hfz _⟩
  obtain ⟨W1, hW1⟩ : ∃ W1, W1 = w.drew.setCells g (0 + i * 1) news := ⟨_, rfl⟩
  have hsp1 : ∀ j, j < cap → (W1.cell? ⟨g, j, none⟩).isSome = true := fun j hj => by
    rw [hW1]
    obtain ⟨c1, q1, t1⟩ := heap_setCells g 9 news (0 + i * 1) w.drew cur hg (by omega)
    rw [cell_of_row _ g j c1 _ (0, 0) q1, Array.getElem?_eq_getElem (by rw [← Array.length_toList, t1]; simp [List.length_take]; omega)]; rfl
  have hfz1 : ∀ j, W1.frozen? ⟨g, j, none⟩ = false := fun j => by rw [hW1, World.frozen?_setCells]; exact hfz j
  have e1 : n - (i + (n - (i + 1))) = 1 := by omega
  have hcl : ∀ ty, (Builtin.clear_ #[50] ty #[.slice (some ⟨g, i + (n - (i + 1)), none⟩) (n - (i + (n - (i + 1)))) (cap - (i + (n - (i + 1))))]).run Try.prog W1 = .ok (.tuple #[]) (W1.setCells g (i + (n - (i + 1))) (List.replicate (n - (i + (n - (i + 1)))) (Value.string ⟨#[]⟩))) :=
    fun ty => Lib.run_clear_slice W1 _ _ ty _ delS_und delS_zero rfl rfl g (i + (n - (i + 1))) _ _ (by omega) (fun t ht => hsp1 _ (by omega)) (fun t ht => hfz1 _)
  have X : Hid (W1 = w.drew.setCells g i news) := by
    show W1 = _
    rw [hW1, Nat.zero_add, Nat.mul_one]
  have hW : Hid (W1 = w.drew.setCells g (0 + i * 1) news) := hW1
  have N : Hid (news = xs.drop (i + 1)) := hnews
  have hic : i ≤ cap := by omega
  have hjc : i + 1 ≤ cap := by omega
  have hb1 : (0 : Int) ≤ (i : Int) + 1 := by omega
  have hb2 : (i : Int) + 1 ≤ (n : Int) := by omega
  have E1 : Hid (n - (i + (n - (i + 1))) = 1) := e1
  clear e1 hW1 hsp hsp1 hfz hfz1 hcs hnews hlen hg hs hx ht h1
  go_enter Try.func59, Try.ntmps59
  go_wp2_with fail
  go_region_law (refine step_append_room rfl (.tmp 22) (.tmp 25) 50 rfl 9 i0 1 delS_und hi0 hz1 g 0 i cap (by simp [Act.eval, Act.put]) A (n - (i + 1)) (cap - (i + 1)) news (by simp [Act.eval, Act.put]) s1.out hsrc.out s2.out (by omega) s3.out ?_; rw [← hW.out])
  go_wp2
  go_ret
  refine ⟨by rw [show n - 1 = i + (n - (i + 1)) by omega]; rfl, ?_⟩
  rw [E1.out, X.out, N.out, show n - 1 = i + (n - (i + 1)) by omega]
  rfl

/-- slices.Delete of one element of an owned slice. -/
theorem delS (v : Value) (n i : Nat) (xs : List Value) (w : World) (hn : n ≤ 1000000) (hi : i < n) (ho : w.ownsRow 0 9 1 v n xs) (h1 : ∀ u ∈ xs, u.oneCell' = true) :
    Calls Try.prog 59 #[v, .int .i64 i, .int .i64 ((i : Int) + 1)] w fun e w' => DelPost w w' 9 v (xs.eraseIdx i) e := by
  rcases owns_cases ho with ⟨rfl, rfl, rfl⟩ | ⟨g, cap, cur, rfl, hob, hg, hnc, hm, hs, ht, hx, _⟩
  · omega
  · refine (delS_some g n cap i cur xs w hi hnc (by unfold maxLen at hm; omega) hg hs hx ht h1).mono fun e w' ⟨he, hw⟩ => ?_
    subst hw
    exact delPost hg hs ht hx hi hnc hm e he

end Go.Proofs.Ytikifgenfpkidaa
