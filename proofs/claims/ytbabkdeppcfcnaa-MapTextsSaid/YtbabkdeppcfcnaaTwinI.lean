/-
  No statement: sorted.twin at this seat's []int: a new slice of the same elements.
-/
import Derived.Test.YtbabkdeppcfcnaaBase
import Derived.Test.YtbabkdeppcfcnaaProg
import Derived.Laws.CopyOwn
namespace Go.Proofs.Ytbabkdeppcfcnaa
open Go.RowKit Go.Lib

theorem twinI_info : (Try.prog.info? 3).map (fun i => (i.zero, i.size, i.bytes)) = some (some (Value.int .i64 0), 1, 8) := by kernel_rfl
theorem twinI_und : Try.prog.underlying 27 = some (.slice 3) := by kernel_rfl
theorem twinI_one : (Try.prog.info? 3).map (·.size) = some 1 := by
  obtain ⟨i0, hi0, h0, h1, h2⟩ := info_parts twinI_info
  rw [hi0]; simp [h1]

set_option maxHeartbeats 1000000 in
set_option maxRecDepth 100000 in
theorem twinI (v : Value) (n : Nat) (xs : List Value) (w : World) (hn : n ≤ 1000000) (ho : w.ownsRow 0 3 1 v n xs) (h1 : ∀ u ∈ xs, u.oneCell' = true) :
    Calls Try.prog 22 #[v] w fun e w' => TwinPost w w' 3 xs e := by
  obtain ⟨i0, hi0, hz0, hz1, hz2⟩ := info_parts twinI_info
  have hsz := twinI_one
  rcases owns_cases ho with ⟨rfl, rfl, rfl⟩ | ⟨g, cap, cur, rfl, hob, hg, hnc, hm, hs, ht, hx, hgl⟩
  · clear ho
    go_enter Try.func22, Try.ntmps22
    go_wp2_with (at_make; refine wpList_make_full _ rfl _ _ 27 rfl 0 3 i0 (Value.int .i64 0) 1 twinI_und hi0 hz0 hz1 .i64 .i64 _ _ 0 rfl rfl rfl rfl (by omega) (by unfold maxLen; omega) (Nat.zero_le _) ?_)
    intro w1 hown hgrow
    have HO := Lib.hid hown
    have HG := Lib.hid hgrow
    clear hown hgrow
    go_wp2_with (refine wpList_copy_nothing rfl _ _ 27 27 rfl 3 twinI_und hsz _ _ 0 0 0 0 rfl rfl rfl ?_)
    go_ret
    exact ⟨_, rfl, twin_nil HO.out, HG.out, _, rfl, Nat.le_refl _⟩
  · by_cases h0 : n = 0
    · subst h0
      obtain rfl : xs = [] := List.length_eq_zero_iff.1 hx
      clear ho hg hs ht hx h1
      go_enter Try.func22, Try.ntmps22
      go_wp2_with (at_make; refine wpList_make_full _ rfl _ _ 27 rfl 0 3 i0 (Value.int .i64 0) 1 twinI_und hi0 hz0 hz1 .i64 .i64 _ _ 0 rfl rfl rfl rfl (by omega) (by unfold maxLen; omega) (Nat.zero_le _) ?_)
      intro w1 hown hgrow
      have HO := Lib.hid hown
      have HG := Lib.hid hgrow
      clear hown hgrow
      go_wp2_with (refine wpList_copy_nothing rfl _ _ 27 27 rfl 3 twinI_und hsz _ _ 0 0 0 cap rfl rfl rfl ?_)
      go_ret
      exact ⟨_, rfl, twin_nil HO.out, HG.out, _, rfl, Nat.le_refl _⟩
    · have HX := Lib.hid (p := w.heap[g]? = some (.cells cur 3 (0, 0)) ∧ cur.toList.take n = xs ∧ xs.length = n ∧ g < w.heap.size ∧ (∀ u ∈ xs, u.oneCell' = true)) ⟨hg, ht, hx, hgl, h1⟩
      clear ho hg hs ht hx h1 hgl
      go_enter Try.func22, Try.ntmps22
      go_wp2_with (at_make; refine wpList_make_full _ rfl _ _ 27 rfl 0 3 i0 (Value.int .i64 0) 1 twinI_und hi0 hz0 hz1 .i64 .i64 _ _ n rfl rfl rfl rfl (by rw [hz2]; omega) (by unfold maxLen; omega) (Nat.zero_le _) ?_)
      intro w1 hown hgrow
      obtain ⟨hg, ht, hx, hgl, h1⟩ := HX.out
      obtain ⟨c1, q1, q2, q3⟩ := twin_row hown h0
      have hsrc : ∀ j u, xs[j]? = some u → w1.cell? ((⟨g, 0, none⟩ : Addr).add j) = some u := fun j u hj => by
        rw [Addr.add_lit, Nat.zero_add]
        exact owns_cell (w := w1) ((hgrow.block g hgl (by simp)).trans hg) ht hj
      have HG := Lib.hid hgrow
      have HQ := Lib.hid (p := w1.heap[w.heap.size]? = some (.cells c1 3 (0, 0)) ∧ c1.size = n ∧ xs.length = n) ⟨q1, q2, hx⟩
      have HS := Lib.hid hsrc
      have H1 := Lib.hid h1
      clear hown hgrow hg ht hx h1 HX q1 q2 q3 hsrc
      go_wp2_with (refine wpList_copy_own rfl _ _ 27 27 rfl 3 twinI_und hsz w.heap.size 0 n n ⟨g, 0, none⟩ n cap rfl rfl c1 3 HQ.out.1 xs (by rw [HQ.out.2.2]; simp) HS.out (by rw [HQ.out.2.1, HQ.out.2.2]; omega) H1.out ?_)
      go_ret
      exact ⟨_, rfl, twin_full HQ.out.1 HQ.out.2.1 HQ.out.2.2 (by unfold maxLen; omega), twin_grown HG.out, _, rfl, Nat.le_refl _⟩

end Go.Proofs.Ytbabkdeppcfcnaa
