/-
  No statement: slices.Insert of one element of 6 cells, at this seat's []39: it returns, whatever the place, and what it returns holds the element there.
-/
import Derived.Test.YtikifgenfpkidaaBaseM
import Derived.Test.YtikifgenfpkidaaProg
import Derived.Shelf.Spec.SlicesInsertGrow
set_option linter.unusedVariables false
set_option linter.unusedSimpArgs false
namespace Go.Proofs.Ytikifgenfpkidaa
open Go.RowKit Go.Lib

theorem insR_info : (Try.prog.info? 39).map (fun i => (i.zero, i.size, i.bytes)) = some (some (.agg #[.string ⟨#[]⟩, .int .i64 0, .int .i64 0, .int .i64 0, .string ⟨#[]⟩, .slice none 0 0]), 6, 80) := by kernel_rfl
theorem insR_size (w : World) : (Go.sizeOf 39).run Try.prog w = .ok 6 w := by kernel_rfl
theorem insR_int : Try.prog.underlying 3 = some (.int .i64) := by kernel_rfl
theorem insR_und : Try.prog.underlying 22 = some (.slice 39) := by kernel_rfl
theorem insR_one : (Try.prog.info? 39).map (·.size) = some 6 := by
  obtain ⟨i0, hi0, h0, h1, h2⟩ := info_parts insR_info
  rw [hi0]; simp [h1]

theorem blockM_cell {w : World} {vb : Nat} {xa : Array Value} {e : TypeId} (hv : w.heap[vb]? = some (.cells xa e (0, 0))) : ∀ j v, xa.toList[j]? = some v → w.cell? ⟨vb, j, none⟩ = some v := fun j v h => by
  rw [cell_of_row w vb j xa e (0, 0) hv]; simpa using h
theorem rowM_cell {w : World} {b N : Nat} {cur : Array Value} {cs : List Value} {e : TypeId} (hb : w.heap[b]? = some (.cells cur e (0, 0))) (ht : cur.toList.take N = cs) : ∀ j v, cs[j]? = some v → w.cell? ⟨b, j, none⟩ = some v := fun j v h => owns_cell hb ht h
theorem rowM_some {w : World} {b : Nat} {cur : Array Value} {e : TypeId} (hb : w.heap[b]? = some (.cells cur e (0, 0))) : ∀ j, j < cur.size → (w.cell? ⟨b, j, none⟩).isSome = true := fun j h => by
  rw [cell_of_row w b j cur _ (0, 0) hb, Array.getElem?_eq_getElem h]; rfl

set_option maxHeartbeats 4000000 in
set_option maxRecDepth 100000 in
theorem insR_shift (b n c i vb : Nat) (cur : Array Value) (cs : List Value) (xa : Array Value) (w : World) (hi : i < n) (hroom : n + 1 ≤ c) (hc63 : c ≤ 9223372036854775807) (hvb : vb ≠ b) (hxs : xa.size = 6)
    (hb : w.heap[b]? = some (.cells cur 39 (0, 0))) (hcur : cur.size = c * 6) (hcl : cs.length = n * 6) (ht : cur.toList.take (n * 6) = cs) (hv : w.heap[vb]? = some (.cells xa 39 (0, 0))) (h1c : ∀ v ∈ cs, v.oneCell' = true) (h1v : ∀ v ∈ xa.toList, v.oneCell' = true) :
    Calls Try.prog 63 #[.slice (some ⟨b, 0, none⟩) n c, .int .i64 i, .slice (some ⟨vb, 0, none⟩) 1 1] w fun e w' =>
      e = .returned (.slice (some ⟨b, 0, none⟩) (n + 1) c) ∧ w' = (w.drew.setCells b (i * 6 + 6) (cs.drop (i * 6))).setCells b (i * 6) xa.toList := by
  have hcs := rowM_cell hb ht
  have hsp := rowM_some hb
  rw [hcur] at hsp
  have hfz : ∀ j, w.frozen? ⟨b, j, none⟩ = false := fun j => frozen_of_row w b j cur _ hb
  have hvs := blockM_cell hv
  have hxl : xa.toList.length = 6 := by rw [Array.length_toList, hxs]
  have hz2 : ¬ ((i : Int) = (n : Int)) := by omega
  have hsa : w.shape? vb = some (39, 6) := by simp [World.shape?, hv, hxs]
  have hsb : w.shape? b = some (39, c * 6) := by simp [World.shape?, hb, hcur]
  have hov : ∀ lb cb, (callFunc 80 #[.slice (some ⟨vb, 0, none⟩) 1 1, .slice (some ⟨b, (i + 1) * 6, none⟩) lb cb]).run Try.prog w = .ok (.value (.bool false)) w := fun lb cb => by
    rw [run_callFunc_extern Try.func80 (by kernel_rfl) (by kernel_rfl) (by kernel_rfl) (e := Extern.SlicesOverlaps.overlaps #[22, 22] #[4]) (by kernel_rfl),
      Lib.run_overlaps_apart w 22 4 39 insR_und 6 insR_size ⟨vb, 0, none⟩ ⟨b, (i + 1) * 6, none⟩ 1 1 lb cb hvb 39 39 6 (c * 6) hsa hsb (by omega) (frozen_of_row w vb 0 _ _ hv) (frozen_of_row w vb 6 _ _ hv)]
    rfl
  have hdl : (cs.drop (i * 6)).length = (n - i) * 6 := by rw [List.length_drop, hcl]; omega
  have hw1 : IntKind.i64.wrap ((i : Int) + 1) = (i : Int) + 1 := by rw [IntKind.wrap_i64]; omega
  have hin : i ≤ n := by omega
  have hb1 : (0 : Int) ≤ (i : Int) + 1 := by omega
  have htn : ((i : Int) + 1).toNat = i + 1 := by omega
  have hb3 : (i : Int) ≤ (n : Int) + 1 := by omega
  have hb2 : ¬ (c = i + 1) := by omega
  have hb4 : ¬ (c = i) := by omega
  have hcp1 : ∀ ty dc sc, (Builtin.copy_ #[22, 22] ty #[.slice (some ⟨b, (i + 1) * 6, none⟩) (n - i) dc, .slice (some ⟨b, i * 6, none⟩) (n + 1 - i) sc]).run Try.prog w.drew = .ok (goInt (Nat.min (n + 1 - i) (n - i))) (w.drew.setCells b (i * 6 + 6) (cs.drop (i * 6))) := fun ty dc sc => by
    rw [show (i + 1) * 6 = i * 6 + 6 by omega]
    exact run_copy_m w.drew _ _ ty 39 6 b (i * 6 + 6) (n - i) dc ⟨b, i * 6, none⟩ (n + 1 - i) sc (cs.drop (i * 6)) insR_und insR_one (by rw [hdl]; simp only [Nat.min_def]; split <;> omega)
      (fun j v hj => by rw [Addr.add_lit]; exact hcs (i * 6 + j) v (by rwa [List.getElem?_drop] at hj))
      (fun j hj => hsp _ (by omega)) (fun j hj => hfz _) (fun v hv => h1c v (List.mem_of_mem_drop hv))
  obtain ⟨W1, hW1⟩ : ∃ W1, W1 = w.drew.setCells b (i * 6 + 6) (cs.drop (i * 6)) := ⟨_, rfl⟩
  have hsp1 : ∀ k, k < c * 6 → (W1.cell? ⟨b, k, none⟩).isSome = true := fun k hk => by
    rw [hW1]
    exact isSome_setCells b (cs.drop (i * 6)) (i * 6 + 6) w.drew (fun j hj => hsp _ (by omega)) _ (hsp k hk)
  have hcp2 : ∀ (W : World), (∀ x, W.cell? x = W1.cell? x) → (∀ x, W.frozen? x = W1.frozen? x) → ∀ ty dc, (Builtin.copy_ #[22, 22] ty #[.slice (some ⟨b, i * 6, none⟩) (n + 1 - i) dc, .slice (some ⟨vb, 0, none⟩) 1 1]).run Try.prog W = .ok (goInt (Nat.min 1 (n + 1 - i))) (W.setCells b (i * 6) xa.toList) := fun W hWc hWf ty dc =>
    run_copy_m W _ _ ty 39 6 b (i * 6) (n + 1 - i) dc ⟨vb, 0, none⟩ 1 1 xa.toList insR_und insR_one (by rw [hxl]; simp only [Nat.min_def]; split <;> omega)
      (fun j v hj => by
        rw [Addr.add_lit, Nat.zero_add, hWc, hW1, World.cell?_setCells_out b _ _ _ _ (fun h _ => absurd h hvb)]
        exact hvs j v hj)
      (fun j hj => by rw [hWc]; exact hsp1 _ (by omega)) (fun j hj => by rw [hWf, hW1, World.frozen?_setCells]; exact hfz _) h1v
  rw [← hW1] at hcp1
  clear hcs hsp hfz hvs hsa hsb hdl hsp1 hb hcur ht hv h1c h1v hxl hcl hxs
  go_enter Try.func63, Try.ntmps63
  go_wp2_with (simp only [hov])
  go_region_law (refine step_copy_runI rfl _ _ 22 22 rfl _ _ (by simp [Act.eval, Act.put]) (by simp [Act.eval, Act.put]) (hcp1 _ _ _) ?_)
  go_wp2_with (at_builtin; refine wpList_copy_runI _ rfl _ _ 22 22 rfl _ _ rfl rfl (hcp2 _ (fun _ => rfl) (fun _ => rfl) _ _) ?_)
  go_ret
  first | exact ⟨rfl, rfl⟩ | exact ⟨rfl, by rw [hW1]⟩

set_option maxHeartbeats 4000000 in
set_option maxRecDepth 100000 in
theorem insR_room (b n c vb : Nat) (cur : Array Value) (xa : Array Value) (w : World) (hroom : n + 1 ≤ c) (hc63 : c ≤ 9223372036854775807) (hxs : xa.size = 6)
    (hb : w.heap[b]? = some (.cells cur 39 (0, 0))) (hcur : cur.size = c * 6) (hv : w.heap[vb]? = some (.cells xa 39 (0, 0))) (h1v : ∀ v ∈ xa.toList, v.oneCell' = true) :
    Calls Try.prog 63 #[.slice (some ⟨b, 0, none⟩) n c, .int .i64 n, .slice (some ⟨vb, 0, none⟩) 1 1] w fun e w' =>
      e = .returned (.slice (some ⟨b, 0, none⟩) (n + 1) c) ∧ w' = w.setCells b (n * 6) xa.toList := by
  obtain ⟨i0, hi0, hz0, hzs, hzb⟩ := info_parts insR_info
  have hxl : xa.toList.length = 6 := by rw [Array.length_toList, hxs]
  have hsrc : Src Try.prog i0.size 22 (.slice (some ⟨vb, 0, none⟩) 1 1) 1 xa.toList w := by
    rw [hzs]
    exact Src.ofSlice w insR_und ⟨vb, 0, none⟩ 1 1 xa.toList (by rw [hxl]) (fun j u hj => by rw [Addr.add_lit, Nat.zero_add]; exact blockM_cell hv j u hj) h1v
  have hsp : ∀ j, j < xa.toList.length → (w.cell? ⟨b, 0 + n * i0.size + j, none⟩).isSome = true := fun j h => rowM_some hb _ (by rw [hcur, hzs]; omega)
  have hfz : ∀ j, j < xa.toList.length → w.frozen? ⟨b, 0 + n * i0.size + j, none⟩ = false := fun j _ => frozen_of_row w b _ cur _ hb
  clear hb hcur hv h1v hxl hxs
  have H := Lib.hid hzs
  clear hzs hzb hz0
  go_enter Try.func63, Try.ntmps63
  go_wp2_with (at_builtin; refine wpList_append_room_src _ rfl _ _ 22 22 rfl 39 i0 insR_und hi0 b 0 n c rfl _ rfl 1 xa.toList hsrc hroom hsp hfz ?_)
  go_ret
  exact ⟨rfl, by rw [H.out]⟩

set_option maxHeartbeats 4000000 in
set_option maxRecDepth 100000 in
theorem insR_end (base : Option Addr) (n c vb : Nat) (cs : List Value) (xa : Array Value) (w : World) (hnc : n ≤ c) (hroom : c < n + 1) (hbig : (n + 1) * 80 ≤ 140737488355328) (hxs : xa.size = 6)
    (hcl : cs.length = n * 6) (hnil : base = none → n = 0) (hcs : ∀ a, base = some a → ∀ j v, cs[j]? = some v → w.cell? (a.add j) = some v) (hv : w.heap[vb]? = some (.cells xa 39 (0, 0))) (h1v : ∀ v ∈ xa.toList, v.oneCell' = true) :
    Calls Try.prog 63 #[.slice base n c, .int .i64 n, .slice (some ⟨vb, 0, none⟩) 1 1] w fun e w' =>
      e = .returned (.slice (some ⟨w.heap.size, 0, none⟩) (n + 1) (grownCap w (n + 1) c 39)) ∧
      w' = w.drew.alloc (.cells ((cs ++ xa.toList).toArray ++ Builtin.zeroCells (.agg #[.string ⟨#[]⟩, .int .i64 0, .int .i64 0, .int .i64 0, .string ⟨#[]⟩, .slice none 0 0] : Value).cells (grownCap w (n + 1) c 39 - (n + 1))) 39) := by
  obtain ⟨i0, hi0, hz0, hzs, hzb⟩ := info_parts insR_info
  have hxl : xa.toList.length = 6 := by rw [Array.length_toList, hxs]
  have hsrc : Src Try.prog i0.size 22 (.slice (some ⟨vb, 0, none⟩) 1 1) 1 xa.toList w := by
    rw [hzs]
    exact Src.ofSlice w insR_und ⟨vb, 0, none⟩ 1 1 xa.toList (by rw [hxl]) (fun j u hj => by rw [Addr.add_lit, Nat.zero_add]; exact blockM_cell hv j u hj) h1v
  have hold : (Builtin.firstCells i0.size n (.slice base n c)).run Try.prog w.drew = .ok cs.toArray w.drew := by
    rw [hzs]
    cases base with
    | none =>
      have h0 := hnil rfl
      subst h0
      rw [List.length_eq_zero_iff.1 (show cs.length = 0 by simpa using hcl)]
      exact run_firstCells_none w.drew 6 0 0 c
    | some a => exact run_firstCells_some w.drew 6 n a n c cs hcl (fun j v hj => hcs a rfl j v hj)
  have hrun : ∀ ty, (Builtin.append_ #[22, 22] ty #[.slice base n c, .slice (some ⟨vb, 0, none⟩) 1 1]).run Try.prog w = _ := fun ty =>
    run_append_grow_src w 22 22 ty 39 i0 _ insR_und hi0 hz0 base n c cs hold _ 1 xa.toList hsrc hroom (by omega) (by rw [hzb]; exact growslice_fits hroom hbig)
  clear hv h1v hcs hold hsrc hxl hxs
  go_enter Try.func63, Try.ntmps63
  cases base with
  | none =>
    have h0 := hnil rfl
    subst h0
    go_wp2_with (at_builtin; refine Lib.wpList_append_run _ rfl _ _ _ _ rfl _ _ rfl rfl _ _ (hrun _) ?_)
    go_ret
    exact ⟨rfl, rfl⟩
  | some a =>
    obtain ⟨ab, ao, asp⟩ := a
    go_wp2_with (at_builtin; refine Lib.wpList_append_run _ rfl _ _ _ _ rfl _ _ rfl rfl _ _ (hrun _) ?_)
    all_goals (go_ret; exact ⟨rfl, rfl⟩)

set_option maxHeartbeats 4000000 in
set_option maxRecDepth 100000 in
theorem insR_grow (b n c i vb : Nat) (cur : Array Value) (cs : List Value) (xa : Array Value) (w : World) (hi : i < n) (hnc : n ≤ c) (hroom : c < n + 1) (hbig : (n + 1) * 80 ≤ 140737488355328) (hxs : xa.size = 6)
    (hb : w.heap[b]? = some (.cells cur 39 (0, 0))) (hcl : cs.length = n * 6) (ht : cur.toList.take (n * 6) = cs) (hv : w.heap[vb]? = some (.cells xa 39 (0, 0))) (h1c : ∀ v ∈ cs, v.oneCell' = true) (h1v : ∀ v ∈ xa.toList, v.oneCell' = true) :
    Calls Try.prog 63 #[.slice (some ⟨b, 0, none⟩) n c, .int .i64 i, .slice (some ⟨vb, 0, none⟩) 1 1] w fun e w' =>
      e = .returned (.slice (some ⟨w.heap.size, 0, none⟩) (n + 1) (grownCap w (n + 1) c 39)) ∧
      w' = (((w.alloc (.cells ((cs.take (i * 6)).toArray ++ Builtin.zeroCells (.agg #[.string ⟨#[]⟩, .int .i64 0, .int .i64 0, .int .i64 0, .string ⟨#[]⟩, .slice none 0 0] : Value).cells (n + 1 - i) ++ Builtin.zeroCells (.agg #[.string ⟨#[]⟩, .int .i64 0, .int .i64 0, .int .i64 0, .string ⟨#[]⟩, .slice none 0 0] : Value).cells (grownCap w (n + 1) c 39 - (n + 1))) 39)).drew.setCells w.heap.size (i * 6) xa.toList).drew).setCells w.heap.size (i * 6 + 6) (cs.drop (i * 6)) := by
  have hcs := rowM_cell hb ht
  have hvs := blockM_cell hv
  have hxl : xa.toList.length = 6 := by rw [Array.length_toList, hxs]
  obtain ⟨i0, hi0, hz0, hzs, hzb⟩ := info_parts insR_info
  have hz2 : ¬ ((i : Int) = (n : Int)) := by omega
  have hz3 : (c : Int) < (n : Int) + 1 := by omega
  have hbw : b < w.heap.size := lt_of_block hb
  have hvw : vb < w.heap.size := lt_of_block hv
  have hkk : (n : Int) + 1 - (i : Int) = ((n + 1 - i : Nat) : Int) := by omega
  have hik : i + (n + 1 - i) = n + 1 := by omega
  have hold : (Builtin.firstCells i0.size i (.slice (some ⟨b, 0, none⟩) i c)).run Try.prog w.drew = .ok (cs.take (i * 6)).toArray w.drew := by
    rw [hzs]
    exact run_firstCells_some w.drew 6 i ⟨b, 0, none⟩ i c (cs.take (i * 6)) (by rw [List.length_take]; omega) (fun j v hj => by
      rw [Addr.add_lit, Nat.zero_add]
      rw [List.getElem?_take] at hj
      split at hj
      · exact hcs j v hj
      · cases hj)
  have hrz : ∀ ty, (Builtin.append_ #[22, 3] ty #[.slice (some ⟨b, 0, none⟩) i c, .int .i64 ((n : Int) + 1 - (i : Int))]).run Try.prog w =
      .ok (.slice (some ⟨w.heap.size, 0, none⟩) (n + 1) (grownCap w (n + 1) c 39)) (w.drew.alloc (.cells ((cs.take (i * 6)).toArray ++ Builtin.zeroCells (.agg #[.string ⟨#[]⟩, .int .i64 0, .int .i64 0, .int .i64 0, .string ⟨#[]⟩, .slice none 0 0] : Value).cells (n + 1 - i) ++ Builtin.zeroCells (.agg #[.string ⟨#[]⟩, .int .i64 0, .int .i64 0, .int .i64 0, .string ⟨#[]⟩, .slice none 0 0] : Value).cells (grownCap w (n + 1) c 39 - (n + 1))) 39)) := fun ty => by
    have h := Lib.run_append_grow_zeros w 22 3 ty 39 i0 _ .i64 .i64 insR_und insR_int hi0 hz0 (some ⟨b, 0, none⟩) i c (cs.take (i * 6)) hold (n + 1 - i) (by omega) (by rw [hzs]; omega) (by omega) (by omega) (by rw [hzb]; omega) (by rw [hzb, hik]; exact growslice_fits hroom hbig)
    rw [hik] at h
    rw [hkk]
    exact h
  obtain ⟨G, hG⟩ : ∃ G, G = grownCap w (n + 1) c 39 := ⟨_, rfl⟩
  obtain ⟨ROW, hROW⟩ : ∃ ROW : Array Value, ROW = (cs.take (i * 6)).toArray ++ Builtin.zeroCells (.agg #[.string ⟨#[]⟩, .int .i64 0, .int .i64 0, .int .i64 0, .string ⟨#[]⟩, .slice none 0 0] : Value).cells (n + 1 - i) ++ Builtin.zeroCells (.agg #[.string ⟨#[]⟩, .int .i64 0, .int .i64 0, .int .i64 0, .string ⟨#[]⟩, .slice none 0 0] : Value).cells (G - (n + 1)) := ⟨_, rfl⟩
  rw [← hG] at hrz ⊢
  rw [← hROW] at hrz ⊢
  have hRl : (n + 1) * 6 ≤ ROW.size := by
    rw [hROW]
    simp [Builtin.zeroCells, Value.cells]
    omega
  obtain ⟨W1, hW1⟩ : ∃ W1, W1 = w.drew.alloc (.cells ROW 39) := ⟨_, rfl⟩
  rw [← hW1] at hrz
  have hN : ∀ j, j < (n + 1) * 6 → (W1.cell? ⟨w.heap.size, j, none⟩).isSome = true := fun j hj => by
    rw [hW1, World.cell?_alloc_at (w := w.drew) ROW _ w.heap.size j rfl, Array.getElem?_eq_getElem (by omega)]; rfl
  have hNf : ∀ j, W1.frozen? ⟨w.heap.size, j, none⟩ = false := fun j => by rw [hW1]; exact World.frozen?_alloc_at (w := w.drew) ROW _ w.heap.size j rfl
  have hOb : ∀ j v, w.cell? ⟨b, j, none⟩ = some v → W1.cell? ⟨b, j, none⟩ = some v := fun j v h => by rw [hW1, World.cell?_alloc_past (w := w.drew) _ b j hbw]; exact h
  have hOv : ∀ j v, w.cell? ⟨vb, j, none⟩ = some v → W1.cell? ⟨vb, j, none⟩ = some v := fun j v h => by rw [hW1, World.cell?_alloc_past (w := w.drew) _ vb j hvw]; exact h
  have hcpA : ∀ (W : World), (∀ x, W.cell? x = W1.cell? x) → (∀ x, W.frozen? x = W1.frozen? x) → ∀ ty dc, (Builtin.copy_ #[22, 22] ty #[.slice (some ⟨w.heap.size, i * 6, none⟩) (n + 1 - i) dc, .slice (some ⟨vb, 0, none⟩) 1 1]).run Try.prog W = .ok (goInt (Nat.min 1 (n + 1 - i))) (W.setCells w.heap.size (i * 6) xa.toList) := fun W hWc hWf ty dc =>
    run_copy_m W _ _ ty 39 6 w.heap.size (i * 6) (n + 1 - i) dc ⟨vb, 0, none⟩ 1 1 xa.toList insR_und insR_one (by rw [hxl]; simp only [Nat.min_def]; split <;> omega)
      (fun j v hj => by rw [Addr.add_lit, Nat.zero_add, hWc]; exact hOv _ v (hvs j v hj))
      (fun j hj => by rw [hWc]; exact hN _ (by omega)) (fun j hj => by rw [hWf]; exact hNf _) h1v
  have hGn : n + 1 ≤ G := by rw [hG]; exact grownCap_ge w _ _ _
  have hG63 : G ≤ 9223372036854775807 := by
    have := grownCap_le_maxLen w (n + 1) c 39 (by unfold maxLen; omega)
    rw [← hG] at this
    unfold maxLen at this
    omega
  have hGi : ¬ (G = i) := by omega
  have hGim : ¬ (G = i + 1) := by omega
  have hci : ¬ (c = i) := by omega
  have hbN : b ≠ w.heap.size := by omega
  have hdl : (cs.drop (i * 6)).length = (n - i) * 6 := by rw [List.length_drop, hcl]; omega
  have hcpB : ∀ (W : World), (∀ y, W.cell? y = (W1.setCells w.heap.size (i * 6) xa.toList).cell? y) → (∀ y, W.frozen? y = (W1.setCells w.heap.size (i * 6) xa.toList).frozen? y) → ∀ ty dc sc, (Builtin.copy_ #[22, 22] ty #[.slice (some ⟨w.heap.size, (i + 1) * 6, none⟩) (n - i) dc, .slice (some ⟨b, i * 6, none⟩) (n - i) sc]).run Try.prog W = .ok (goInt (Nat.min (n - i) (n - i))) (W.setCells w.heap.size (i * 6 + 6) (cs.drop (i * 6))) := fun W hWc hWf ty dc sc => by
    rw [show (i + 1) * 6 = i * 6 + 6 by omega]
    exact run_copy_m W _ _ ty 39 6 w.heap.size (i * 6 + 6) (n - i) dc ⟨b, i * 6, none⟩ (n - i) sc (cs.drop (i * 6)) insR_und insR_one (by rw [hdl]; simp only [Nat.min_def]; split <;> omega)
      (fun j v hj => by
        rw [Addr.add_lit, hWc, World.cell?_setCells_out _ _ _ _ _ (fun h _ => absurd h hbN)]
        exact hOb _ v (hcs (i * 6 + j) v (by rwa [List.getElem?_drop] at hj)))
      (fun j hj => by rw [hWc]; exact isSome_setCells _ xa.toList (i * 6) W1 (fun t ht => hN _ (by omega)) _ (hN _ (by omega)))
      (fun j hj => by rw [hWf, World.frozen?_setCells]; exact hNf _) (fun v hv => h1c v (List.mem_of_mem_drop hv))
  subst hW1
  have hE1 : ∀ x, ((w.alloc (.cells ROW 39)).drew).cell? x = (w.drew.alloc (.cells ROW 39)).cell? x := fun x => rfl
  have hE2 : ∀ x, ((w.alloc (.cells ROW 39)).drew).frozen? x = (w.drew.alloc (.cells ROW 39)).frozen? x := fun x => rfl
  have hF1 : ∀ y, (((w.alloc (.cells ROW 39)).drew.setCells w.heap.size (i * 6) xa.toList).drew).cell? y = ((w.drew.alloc (.cells ROW 39)).setCells w.heap.size (i * 6) xa.toList).cell? y := fun y => rfl
  have hF2 : ∀ y, (((w.alloc (.cells ROW 39)).drew.setCells w.heap.size (i * 6) xa.toList).drew).frozen? y = ((w.drew.alloc (.cells ROW 39)).setCells w.heap.size (i * 6) xa.toList).frozen? y := fun y => rfl
  have hw1 : IntKind.i64.wrap ((i : Int) + 1) = (i : Int) + 1 := by rw [IntKind.wrap_i64]; omega
  have hb1 : (0 : Int) ≤ (i : Int) + 1 := by omega
  have hin : i ≤ n := by omega
  have htn : ((i : Int) + 1).toNat = i + 1 := by omega
  have hb3 : (i : Int) ≤ (n : Int) := by omega
  have hb5 : (i : Int) ≤ (n : Int) + 1 := by omega
  clear hkk hik hold hROW hG hRl hb ht hv h1c h1v hcs hvs hN hNf hOb hOv hdl hxl hxs hcl
  go_enter Try.func63, Try.ntmps63
  go_wp2_with (first
    | (at_builtin; refine Lib.wpList_append_run _ rfl _ _ _ _ rfl _ _ rfl rfl _ _ (hrz _) ?_)
    | (at_builtin; refine wpList_copy_runI _ rfl _ _ 22 22 rfl _ _ rfl rfl (hcpA _ hE1 hE2 _ _) ?_)
    | (at_builtin; refine wpList_copy_runI _ rfl _ _ 22 22 rfl _ _ rfl rfl (hcpB _ (fun _ => rfl) (fun _ => rfl) _ _ _) ?_))
  go_region_law (refine step_copy_runI rfl _ _ 22 22 rfl (.slice (some ⟨w.heap.size, (i + 1) * 6, none⟩) (n - i) (G - (i + 1))) (.slice (some ⟨b, i * 6, none⟩) (n - i) (c - i)) (by simp [Act.eval, Act.put]) (by simp [Act.eval, Act.put]) (hcpB _ hF1 hF2 3 (G - (i + 1)) (c - i)) ?_)
  go_wp2
  go_ret
  exact ⟨rfl, rfl⟩

/-- slices.Insert of one element at any place of an owned slice. -/
theorem insR (v : Value) (n i vb : Nat) (xs : List Value) (xa : Array Value) (w : World) (hn : n ≤ 1000000) (hi : i ≤ n) (ho : w.ownsRow 0 39 6 v n xs) (hxs : xa.size = 6) (hv : w.heap[vb]? = some (.cells xa 39 (0, 0))) (hne : v.ownBlock ≠ some vb)
    (h1c : ∀ u ∈ xs, u.oneCell' = true) (h1v : ∀ u ∈ xa.toList, u.oneCell' = true) :
    Calls Try.prog 63 #[v, .int .i64 i, .slice (some ⟨vb, 0, none⟩) 1 1] w fun e w' => InsPostM w w' 39 6 v (n + 1) (xs.take (i * 6) ++ xa.toList ++ xs.drop (i * 6)) e := by
  have hxl : xa.toList.length = 6 := by rw [Array.length_toList, hxs]
  have hzc : ∀ k, (Builtin.zeroCells (.agg #[.string ⟨#[]⟩, .int .i64 0, .int .i64 0, .int .i64 0, .string ⟨#[]⟩, .slice none 0 0] : Value).cells k).size = k * 6 := fun k => by simp [Builtin.zeroCells, Value.cells]
  rcases ownsM_cases ho with ⟨rfl, rfl, rfl⟩ | ⟨g, cap, cur, rfl, hob, hg, hnc, hm, hs, ht, hx⟩
  · obtain rfl : i = 0 := by omega
    refine (insR_end none 0 0 vb [] xa w (Nat.le_refl _) (by omega) (by omega) hxs rfl (fun _ => rfl) (fun a h => by cases h) hv h1v).mono fun e w' ⟨he, hw⟩ => ?_
    subst hw
    refine ⟨_, he, ownsM_mk (heap_alloc_new _ _) (grownCap_ge w (0 + 1) 0 39) (grownCap_le_maxLen w (0 + 1) 0 39 (by unfold maxLen; omega)) ?_ ?_, grownBy_of_kept (S := fun _ => False) (((Kept.refl _ w).drew).alloc _) (fun _ h => h.elim), .inr ⟨_, rfl, Nat.le_refl _⟩⟩
    · have := grownCap_ge w (0 + 1) 0 39
      rw [Array.size_append, hzc, List.size_toArray, List.nil_append, hxl]; omega
    · rw [Array.toList_append, List.take_append_of_le_length (by simp [hxs]), List.take_of_length_le (by simp [hxs])]; simp
  · have hne' : vb ≠ g := fun h => hne (by rw [hob, h])
    have hm' : cap ≤ 9223372036854775807 := by unfold maxLen at hm; omega
    by_cases hr : n + 1 ≤ cap
    · by_cases hin : i = n
      · subst hin
        refine (insR_room g i cap vb cur xa w hr hm' hxs hg hs hv h1v).mono fun e w' ⟨he, hw⟩ => ?_
        subst hw
        obtain ⟨c2, h2, s2, t2⟩ := core_room (C := cap * 6) hg hs ht hx hxl (by omega)
        refine ⟨_, he, ownsM_mk h2 hr hm s2 ?_, grownBy_of_kept (S := (· = g)) (kept_setCells g _ _ _) (fun k hk => by subst hk; rfl), .inl rfl⟩
        rw [show (i + 1) * 6 = i * 6 + 6 by omega, t2, List.take_of_length_le (by omega : xs.length ≤ i * 6), List.drop_of_length_le (by omega : xs.length ≤ i * 6), List.append_nil]
      · refine (insR_shift g n cap i vb cur xs xa w (by omega) hr hm' hne' hxs hg hs hx ht hv h1c h1v).mono fun e w' ⟨he, hw⟩ => ?_
        subst hw
        obtain ⟨c2, h2, s2, t2⟩ := core_shift (I := i * 6) (C := cap * 6) hg hs ht hx (by omega) hxl (by omega)
        refine ⟨_, he, ownsM_mk h2 hr hm s2 ?_, grownBy_of_kept (S := (· = g)) (((Kept.refl (· = g) w).drew.trans (kept_setCells g _ _ _) (fun _ h _ => h)).trans (kept_setCells g _ _ _) (fun _ h _ => h)) (fun k hk => by subst hk; rfl), .inl rfl⟩
        rw [show (n + 1) * 6 = n * 6 + 6 by omega, t2]
    · have hG1 := grownCap_ge w (n + 1) cap 39
      have hG2 := grownCap_le_maxLen w (n + 1) cap 39 (by unfold maxLen; omega)
      by_cases hin : i = n
      · subst hin
        refine (insR_end (some ⟨g, 0, none⟩) i cap vb xs xa w hnc (by omega) (by omega) hxs hx (fun h => by cases h) (fun a ha j u hj => by cases ha; rw [Addr.add_lit, Nat.zero_add]; exact owns_cell hg ht hj) hv h1v).mono fun e w' ⟨he, hw⟩ => ?_
        subst hw
        refine ⟨_, he, ownsM_mk (heap_alloc_new _ _) hG1 hG2 ?_ ?_, grownBy_of_kept (S := fun _ => False) (((Kept.refl _ w).drew).alloc _) (fun _ h => h.elim), .inr ⟨_, rfl, Nat.le_refl _⟩⟩
        · rw [Array.size_append, hzc, List.size_toArray, List.length_append, hx, hxl]; omega
        · have hl : (xs ++ xa.toList).length = (i + 1) * 6 := by rw [List.length_append, hx, hxl]; omega
          rw [Array.toList_append, List.take_append_of_le_length (by rw [← hl]; simp), List.take_of_length_le (by rw [← hl]; simp), List.take_of_length_le (by omega : xs.length ≤ i * 6), List.drop_of_length_le (by omega : xs.length ≤ i * 6), List.append_nil]
      · refine (insR_grow g n cap i vb cur xs xa w (by omega) hnc (by omega) (by omega) hxs hg hx ht hv h1c h1v).mono fun e w' ⟨he, hw⟩ => ?_
        subst hw
        obtain ⟨c2, h2, s2, t2⟩ := core_grow (w := w) (e := 39) (I := i * 6) (N := n * 6) (M := 6) (C := grownCap w (n + 1) cap 39 * 6) (Y := Builtin.zeroCells (.agg #[.string ⟨#[]⟩, .int .i64 0, .int .i64 0, .int .i64 0, .string ⟨#[]⟩, .slice none 0 0] : Value).cells (n + 1 - i)) (Z := Builtin.zeroCells (.agg #[.string ⟨#[]⟩, .int .i64 0, .int .i64 0, .int .i64 0, .string ⟨#[]⟩, .slice none 0 0] : Value).cells (grownCap w (n + 1) cap 39 - (n + 1))) hx (by omega) hxl (by omega) (by rw [hzc]; omega) (by rw [hzc]; omega)
        have k0 : Kept (fun k => k = w.heap.size) w ((((w.alloc (.cells ((xs.take (i * 6)).toArray ++ Builtin.zeroCells (.agg #[.string ⟨#[]⟩, .int .i64 0, .int .i64 0, .int .i64 0, .string ⟨#[]⟩, .slice none 0 0] : Value).cells (n + 1 - i) ++ Builtin.zeroCells (.agg #[.string ⟨#[]⟩, .int .i64 0, .int .i64 0, .int .i64 0, .string ⟨#[]⟩, .slice none 0 0] : Value).cells (grownCap w (n + 1) cap 39 - (n + 1))) 39)).drew.setCells w.heap.size (i * 6) xa.toList).drew).setCells w.heap.size (i * 6 + 6) (xs.drop (i * 6))) :=
          ((((Kept.refl (fun k => k = w.heap.size) w).alloc _).drew.trans (kept_setCells w.heap.size _ _ _) (fun _ h _ => h)).drew).trans (kept_setCells w.heap.size _ _ _) (fun _ h _ => h)
        refine ⟨_, he, ownsM_mk h2 hG1 hG2 s2 ?_, grownBy_of_kept (S := fun _ => False) (k0.mono (fun k hk hl => by omega)) (fun _ h => h.elim), .inr ⟨_, rfl, Nat.le_refl _⟩⟩
        rw [show (n + 1) * 6 = n * 6 + 6 by omega, t2]

end Go.Proofs.Ytikifgenfpkidaa
