/-
  No statement: slices.Delete of one element of 6 cells, at this seat's []39: the slice without that element, in the same block.
-/
import Derived.Test.YtikifgenfpkidaaInsR
import Derived.Deep.RegionLaw
import Derived.Lib.SliceRun
import Derived.Lib.SlicesDelete
set_option linter.unusedVariables false
set_option linter.unusedSimpArgs false
namespace Go.Proofs.Ytikifgenfpkidaa
open Go.RowKit Go.Lib

/-- clear of one element of several cells. -/
theorem run_clear_m {P : Program} (w : World) (t e ty : TypeId) (z : Value) (m : Nat) (ht : P.underlying t = some (.slice e)) (hv : ∀ w, (zeroValue e).run P w = .ok z w) (hz : z.cells.size = m) (h1 : ∀ u ∈ z.cells.toList, u.oneCell' = true) (b o c : Nat)
    (hc : ∀ j, j < m → (w.cell? ⟨b, o + j, none⟩).isSome = true) (hf : ∀ j, j < m → w.frozen? ⟨b, o + j, none⟩ = false) :
    (Builtin.clear_ #[t] ty #[.slice (some ⟨b, o, none⟩) 1 c]).run P w = .ok (.tuple #[]) (w.setCells b o z.cells.toList) := by
  have hl : z.cells.toList.length = m := by rw [Array.length_toList, hz]
  have hzc : (Builtin.zeroCells z.cells 1).toList = z.cells.toList := by
    apply List.ext_getElem
    · simp [Builtin.zeroCells]
    · intro i h2 h3
      have hi : i < z.cells.size := by simpa using h3
      simp [Builtin.zeroCells, Nat.mod_eq_of_lt hi, hi]
  have hst := run_storeCells_cells (P := P) b o z.cells.toList 0 w (by simpa [hz] using hc) (by simpa [hz] using hf) h1
  simp only [Nat.add_zero] at hst
  simp [Builtin.clear_, run_underlying ht, hv, hzc, hst]

theorem delR_zero (w : World) : (zeroValue 39).run Try.prog w = .ok (.agg #[.string ⟨#[]⟩, .int .i64 0, .int .i64 0, .int .i64 0, .string ⟨#[]⟩, .slice none 0 0]) w := by kernel_rfl

set_option maxHeartbeats 4000000 in
set_option maxRecDepth 1000000 in
theorem delR_some (g n cap i : Nat) (cur : Array Value) (xs : List Value) (w : World) (hi : i < n) (hn : n ≤ cap) (hm : cap ≤ 9223372036854775807)
    (hg : w.heap[g]? = some (.cells cur 39 (0, 0))) (hs : cur.size = cap * 6) (hx : xs.length = n * 6) (ht : cur.toList.take (n * 6) = xs) (h1 : ∀ v ∈ xs, v.oneCell' = true) :
    Calls Try.prog 60 #[.slice (some ⟨g, 0, none⟩) n cap, .int .i64 i, .int .i64 ((i : Int) + 1)] w fun e w' =>
      e = .returned (.slice (some ⟨g, 0, none⟩) (n - 1) cap) ∧ w' = (w.drew.setCells g (i * 6) (xs.drop (i * 6 + 6))).setCells g ((n - 1) * 6) (.agg #[.string ⟨#[]⟩, .int .i64 0, .int .i64 0, .int .i64 0, .string ⟨#[]⟩, .slice none 0 0] : Value).cells.toList := by
  obtain ⟨i0, hi0, hz0, hz1, hz2⟩ := info_parts insR_info
  obtain ⟨news, hnews⟩ : ∃ news, news = xs.drop (i * 6 + 6) := ⟨_, rfl⟩
  have hlen : news.length = (n - (i + 1)) * 6 := by rw [hnews, List.length_drop, hx]; omega
  have hcs := rowM_cell hg ht
  have hsp := rowM_some hg
  rw [hs] at hsp
  have hfz : ∀ j, w.frozen? ⟨g, j, none⟩ = false := fun j => frozen_of_row w g j cur _ hg
  obtain ⟨A, hA, hsrc⟩ : ∃ A : Addr, (if cap = i + 1 then some (⟨g, 0, none⟩ : Addr) else some ⟨g, (i + 1) * 6, none⟩) = some A ∧ Hid (∀ t u, news[t]? = some u → w.drew.cell? (A.add t) = some u) := by
    by_cases h : cap = i + 1
    · refine ⟨⟨g, 0, none⟩, by simp [h], fun t u hu => ?_⟩
      have h0 : news.length = 0 := by rw [hlen]; omega
      rw [List.length_eq_zero_iff.1 h0] at hu
      simp at hu
    · refine ⟨⟨g, (i + 1) * 6, none⟩, by simp [h], fun t u hu => ?_⟩
      rw [hnews, List.getElem?_drop] at hu
      rw [Addr.add_lit, show (i + 1) * 6 + t = i * 6 + 6 + t by omega]
      exact hcs _ _ hu
  have s1 : Hid (news.length = (n - (i + 1)) * 6) := hlen
  have s2 : Hid (∀ u ∈ news, u.oneCell' = true) := fun u hu => h1 u (by rw [hnews] at hu; exact List.mem_of_mem_drop hu)
  have s3 : Hid (∀ t, t < news.length → (w.drew.cell? ⟨g, 0 + i * 6 + t, none⟩).isSome = true ∧ w.drew.frozen? ⟨g, 0 + i * 6 + t, none⟩ = false) := fun t ht => by
    rw [hlen] at ht
    exact ⟨hsp _ (by omega), hfz _⟩
  obtain ⟨W1, hW1⟩ : ∃ W1, W1 = w.drew.setCells g (0 + i * 6) news := ⟨_, rfl⟩
  have hsp1 : ∀ j, j < cap * 6 → (W1.cell? ⟨g, j, none⟩).isSome = true := fun j hj => by
    rw [hW1]
    obtain ⟨c1, q1, t1⟩ := heap_setCells g 39 news (0 + i * 6) w.drew cur hg (by omega)
    rw [cell_of_row _ g j c1 _ (0, 0) q1, Array.getElem?_eq_getElem (by rw [← Array.length_toList, t1]; simp only [List.length_append, List.length_take, List.length_drop, Array.length_toList]; omega)]; rfl
  have hfz1 : ∀ j, W1.frozen? ⟨g, j, none⟩ = false := fun j => by rw [hW1, World.frozen?_setCells]; exact hfz j
  have e1 : n - (i + (n - (i + 1))) = 1 := by omega
  have hcl : ∀ ty, (Builtin.clear_ #[22] ty #[.slice (some ⟨g, (i + (n - (i + 1))) * 6, none⟩) (n - (i + (n - (i + 1)))) (cap - (i + (n - (i + 1))))]).run Try.prog W1 = .ok (.tuple #[]) (W1.setCells g ((i + (n - (i + 1))) * 6) (.agg #[.string ⟨#[]⟩, .int .i64 0, .int .i64 0, .int .i64 0, .string ⟨#[]⟩, .slice none 0 0] : Value).cells.toList) := fun ty => by
    rw [e1]
    exact run_clear_m W1 _ _ ty _ 6 insR_und delR_zero rfl (by decide) g ((i + (n - (i + 1))) * 6) _ (fun t ht => hsp1 _ (by omega)) (fun t ht => hfz1 _)
  have X : Hid (W1 = w.drew.setCells g (i * 6) news) := by
    show W1 = _
    rw [hW1, Nat.zero_add]
  have hW : Hid (W1 = w.drew.setCells g (0 + i * 6) news) := hW1
  have N : Hid (news = xs.drop (i * 6 + 6)) := hnews
  have hic : i ≤ cap := by omega
  have hjc : i + 1 ≤ cap := by omega
  have hb1 : (0 : Int) ≤ (i : Int) + 1 := by omega
  have hb2 : (i : Int) + 1 ≤ (n : Int) := by omega
  have E1 : Hid (n - 1 = i + (n - (i + 1))) := by show _ = _; omega
  clear e1 hW1 hsp hsp1 hfz hfz1 hcs hnews hlen hg hs hx ht h1
  go_enter Try.func60, Try.ntmps60
  go_wp2_with fail
  go_region_law (refine step_append_room rfl (.tmp 22) (.tmp 25) 22 rfl 39 i0 6 insR_und hi0 hz1 g 0 i cap (by simp [Act.eval, Act.put]) A (n - (i + 1)) (cap - (i + 1)) news (by simp [Act.eval, Act.put]) s1.out hsrc.out s2.out (by omega) s3.out ?_; rw [← hW.out])
  go_wp2
  go_ret
  refine ⟨by rw [E1.out]; rfl, ?_⟩
  rw [X.out, N.out, E1.out]
  rfl

/-- What a delete of one element leaves. -/
def DelPostM (w w' : World) (E : TypeId) (m : Nat) (v : Value) (n : Nat) (xs : List Value) (e : Ending) : Prop :=
  ∃ v', e = .returned v' ∧ w'.ownsRow 0 E m v' n xs ∧ w.grownBy w' v.ownBlock ∧ v'.ownBlock = v.ownBlock

theorem core_del {w : World} {e : TypeId} {g I N M C : Nat} {cur : Array Value} {xs z : List Value} (hg : w.heap[g]? = some (.cells cur e (0, 0))) (hs : cur.size = C) (ht : cur.toList.take N = xs)
    (hx : xs.length = N) (hI : I + M ≤ N) (hM : z.length = M) (hC : N ≤ C) :
    ∃ c2, ((w.drew.setCells g I (xs.drop (I + M))).setCells g (N - M) z).heap[g]? = some (.cells c2 e (0, 0)) ∧ c2.size = C ∧ c2.toList.take (N - M) = xs.take I ++ xs.drop (I + M) := by
  have hcl : cur.toList.length = C := by rw [Array.length_toList, hs]
  obtain ⟨c1, h1, t1⟩ := heap_setCells g e (xs.drop (I + M)) I w.drew cur hg (by rw [List.length_drop]; omega)
  have s1 : c1.size = C := by rw [← Array.length_toList, t1]; simp only [List.length_append, List.length_take, List.length_drop]; omega
  obtain ⟨c2, h2, t2⟩ := heap_setCells g e z (N - M) _ c1 h1 (by omega)
  have s2 : c2.size = C := by rw [← Array.length_toList, t2]; simp only [List.length_append, List.length_take, List.length_drop, Array.length_toList]; omega
  refine ⟨c2, h2, s2, ?_⟩
  have hte : cur.toList.take I = xs.take I := by rw [← ht, List.take_take]; congr 1; omega
  have hb : (xs.take I ++ xs.drop (I + M)).length = N - M := by rw [List.length_append, List.length_take, List.length_drop]; omega
  have hcl1 : c1.toList.length = C := by rw [Array.length_toList, s1]
  rw [t2, List.append_assoc, List.take_append_of_le_length (by rw [List.length_take]; omega), List.take_take, Nat.min_self, t1, hte, ← hb, List.take_append_of_le_length (Nat.le_refl _), List.take_length]

/-- slices.Delete of one element of an owned slice. -/
theorem delR (v : Value) (n i : Nat) (xs : List Value) (w : World) (hn : n ≤ 1000000) (hi : i < n) (ho : w.ownsRow 0 39 6 v n xs) (h1 : ∀ u ∈ xs, u.oneCell' = true) :
    Calls Try.prog 60 #[v, .int .i64 i, .int .i64 ((i : Int) + 1)] w fun e w' => DelPostM w w' 39 6 v (n - 1) (xs.take (i * 6) ++ xs.drop (i * 6 + 6)) e := by
  rcases ownsM_cases ho with ⟨rfl, rfl, rfl⟩ | ⟨g, cap, cur, rfl, hob, hg, hnc, hm, hs, ht, hx⟩
  · omega
  · refine (delR_some g n cap i cur xs w hi hnc (by unfold maxLen at hm; omega) hg hs hx ht h1).mono fun e w' ⟨he, hw⟩ => ?_
    subst hw
    obtain ⟨c2, h2, s2, t2⟩ := core_del (I := i * 6) (N := n * 6) (M := 6) (C := cap * 6) (z := (.agg #[.string ⟨#[]⟩, .int .i64 0, .int .i64 0, .int .i64 0, .string ⟨#[]⟩, .slice none 0 0] : Value).cells.toList) hg hs ht hx (by omega) rfl (by omega)
    rw [show n * 6 - 6 = (n - 1) * 6 by omega] at h2 t2
    exact ⟨_, he, ownsM_mk h2 (by omega) hm s2 t2, grownBy_of_kept (S := (· = g)) (((Kept.refl (· = g) w).drew.trans (kept_setCells g _ _ _) (fun _ h _ => h)).trans (kept_setCells g _ _ _) (fun _ h _ => h)) (fun k hk => by subst hk; rfl), rfl⟩

end Go.Proofs.Ytikifgenfpkidaa
