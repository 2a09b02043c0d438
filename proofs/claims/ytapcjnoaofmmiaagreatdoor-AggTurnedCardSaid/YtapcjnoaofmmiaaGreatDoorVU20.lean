/-
 No statement: what AggTurnedCard needs, of the texts OBase, InsL, DelL, SearchL, OKeep, OKeepA.
-/
import Derived.Test.YtapcjnoaofmmiaaGreatDoorVU19
namespace Go.Proofs.YtapcjnoaofmmiaaGreatDoor
section
open Go.RowKit
theorem kY {w : World} {e : TypeId} {v : Value} {n : Nat} {xs : List Value} (h : w.ownsRow 0 e 1 v n xs) :
 (v = .slice none 0 0 /\ n = 0 /\ xs = []) \/
 ∃ g cap cur, v = .slice (some ⟨g, 0, none⟩) n cap /\ v.ownBlock = some g /\ w.heap[g]? = some (.cells cur e (0, 0)) /\ n <= cap /\ cap <= maxLen /\ cur.size = cap /\ cur.toList.take n = xs /\ xs.length = n /\ g < w.heap.size := by
 obtain ⟨h1, h2⟩ := h;rw [Nat.mul_one] at h1
 rcases h2 with ⟨rfl, rfl⟩ | ⟨g, cap, cur, rfl, _, hg, a, b, c, d⟩
 · exact .inl ⟨rfl, rfl, List.length_eq_zero_iff.1 h1⟩
 · rw [Nat.mul_one] at c d
   exact .inr ⟨g, cap, cur, rfl, rfl, hg, a, b, c, d, h1, lt_of_block hg⟩
theorem rB {w : World} {e : TypeId} {g cap n : Nat} {cur : Array Value} {xs : List Value} (hg : w.heap[g]? = some (.cells cur e (0, 0))) (hn : n <= cap) (hm : cap <= maxLen) (hs : cur.size = cap) (ht : cur.toList.take n = xs) :
 w.ownsRow 0 e 1 (.slice (some ⟨g, 0, none⟩) n cap) n xs := by
 refine ⟨?_, .inr ⟨g, cap, cur, rfl, Nat.zero_le _, hg, hn, hm, by rw [Nat.mul_one]; exact hs, by rw [Nat.mul_one]; exact ht⟩⟩;rw [<- ht, List.length_take, Array.length_toList, Nat.mul_one]; omega
theorem dD (b : Nat) : ∀ (vs : List Value) (o : Nat) (w : World), aF (· = b) w (w.setCells b o vs)
 | [], _, w => aF.refl _ w
 | v :: r, o, w => ((aF.refl (fun i => i = b) w).setCell (p := ⟨b, o, none⟩) (Or.inl rfl) v).trans (dD b r (o + 1) _) (fun _ h _ => h)
def nC (w w' : World) (E : TypeId) (v : Value) (xs : List Value) (e : Ending) : Prop :=
 ∃ v', e = .returned v' /\ w'.ownsRow 0 E 1 v' xs.length xs /\ w.grownBy w' v.ownBlock /\ (v'.ownBlock = v.ownBlock \/ ∃ b, v'.ownBlock = some b /\ w.heap.size <= b)
theorem t8 {w : World} {e : TypeId} {g cap n i : Nat} {cur : Array Value} {xs : List Value} {x : Value} (hg : w.heap[g]? = some (.cells cur e (0, 0))) (hs : cur.size = cap) (ht : cur.toList.take n = xs)
 (hx : xs.length = n) (hi : i < n) (hr : n + 1 <= cap) (hm : cap <= maxLen) (e' : Ending) (he : e' = .returned (.slice (some ⟨g, 0, none⟩) (n + 1) cap)) :
 nC w ((w.drew.setCells g (i + 1) (xs.drop i)).setCells g i [x]) e (.slice (some ⟨g, 0, none⟩) n cap) (xs.take i ++ x :: xs.drop i) e' := by
 obtain ⟨c1, h1, t1⟩ := cN g e (xs.drop i) (i + 1) w.drew cur hg (by rw [List.length_drop]; omega)
 have s1 : c1.size = cap := by
  rw [<- Array.length_toList, t1]; simp [List.length_take]; omega
 obtain ⟨c2, h2, t2⟩ := cN g e [x] i _ c1 h1 (by simp; omega)
 have s2 : c2.size = cap := by
  rw [<- Array.length_toList, t2]; simp [List.length_take]; omega
 have hl : (xs.take i ++ x :: xs.drop i).length = n + 1 := by simp [List.length_take]; omega
 refine ⟨_, he, ?_, dF (S := (· = g)) (((aF.refl (· = g) w).drew.trans (dD g _ _ _) (fun _ h _ => h)).trans (dD g _ _ _) (fun _ h _ => h)) (fun k hk => by subst hk; rfl), Or.inl rfl⟩;rw [hl];refine rB h2 hr hm s2 ?_;rw [t2, t1]
 have e1 : (cur.toList.take (i + 1) ++ xs.drop i ++ cur.toList.drop (i + 1 + (xs.drop i).length)).take i = xs.take i := by
  rw [List.append_assoc, List.take_append_of_le_length (by rw [List.length_take, Array.length_toList]; omega), List.take_take, <- ht, List.take_take]
  congr 1; omega
 have e2 : (cur.toList.take (i + 1) ++ xs.drop i ++ cur.toList.drop (i + 1 + (xs.drop i).length)).drop (i + [x].length) = xs.drop i ++ cur.toList.drop (n + 1) := by
  rw [List.append_assoc, List.drop_append_of_le_length (by rw [List.length_take, Array.length_toList]; simp; omega), List.drop_take];have : i + 1 + (xs.drop i).length = n + 1 := by rw [List.length_drop]; omega
  rw [this]; simp
 rw [e1, e2];have e3 : xs.take i ++ [x] ++ (xs.drop i ++ cur.toList.drop (n + 1)) = (xs.take i ++ x :: xs.drop i) ++ cur.toList.drop (n + 1) := by simp
 rw [e3, <- hl, List.take_append_of_le_length (Nat.le_refl _), List.take_length]
theorem wX {w : World} {e : TypeId} {g cap n : Nat} {cur : Array Value} {xs : List Value} {x : Value} (hg : w.heap[g]? = some (.cells cur e (0, 0))) (hs : cur.size = cap) (ht : cur.toList.take n = xs)
 (hx : xs.length = n) (hr : n + 1 <= cap) (hm : cap <= maxLen) (e' : Ending) (he : e' = .returned (.slice (some ⟨g, 0, none⟩) (n + 1) cap)) :
 nC w (w.setCells g n [x]) e (.slice (some ⟨g, 0, none⟩) n cap) (xs.take n ++ x :: xs.drop n) e' := by
 obtain ⟨c2, h2, t2⟩ := cN g e [x] n w cur hg (by simp; omega)
 have s2 : c2.size = cap := by
  rw [<- Array.length_toList, t2]; simp [List.length_take]; omega
 have hl : (xs.take n ++ x :: xs.drop n).length = n + 1 := by simp [List.length_take]; omega
 refine ⟨_, he, ?_, dF (S := (· = g)) (dD g _ _ _) (fun k hk => by subst hk; rfl), Or.inl rfl⟩;rw [hl];refine rB h2 hr hm s2 ?_;rw [t2, ht, List.take_of_length_le (by omega : xs.length <= n), List.drop_of_length_le (by omega : xs.length <= n), List.take_append_of_le_length (by simp; omega), List.take_of_length_le (by simp; omega)]
theorem qP {w w' : World} {e : TypeId} {G n i : Nat} {v : Value} {ROW : Array Value} {xs : List Value} {x : Value} (hx : xs.length = n) (hi : i <= n) (hG : n + 1 <= G) (hm : G <= maxLen)
 (hw : aF (fun _ => False) w w') (hrow : w'.heap[w.heap.size]? = some (.cells ROW e (0, 0))) (hs : ROW.size = G) (ht : ROW.toList.take (n + 1) = xs.take i ++ x :: xs.drop i) (e' : Ending) (he : e' = .returned (.slice (some ⟨w.heap.size, 0, none⟩) (n + 1) G)) :
 nC w w' e v (xs.take i ++ x :: xs.drop i) e' := by
 have hl : (xs.take i ++ x :: xs.drop i).length = n + 1 := by simp [List.length_take]; omega
 refine ⟨_, he, ?_, dF hw (fun _ h => h.elim), Or.inr ⟨_, rfl, Nat.le_refl _⟩⟩;rw [hl];exact rB hrow hG hm hs ht
theorem qQ {w : World} {e : TypeId} {G n : Nat} {v : Value} {Z : Array Value} {xs : List Value} {x : Value} (hx : xs.length = n) (hG : n + 1 <= G) (hm : G <= maxLen) (hZ : Z.size = G - (n + 1))
 (e' : Ending) (he : e' = .returned (.slice (some ⟨w.heap.size, 0, none⟩) (n + 1) G)) :
 nC w (w.drew.alloc (.cells ((xs ++ [x]).toArray ++ Z) e)) e v (xs.take n ++ x :: xs.drop n) e' := by
 refine qP (i := n) (ROW := (xs ++ [x]).toArray ++ Z) hx (Nat.le_refl _) hG hm ((aF.refl _ w).drew.alloc _) (heap_alloc_new w.drew _) (by simp; omega) ?_ e' he;rw [Array.toList_append, List.take_append_of_le_length (by simp; omega), List.take_of_length_le (by simp; omega), List.take_of_length_le (by omega : xs.length <= n), List.drop_of_length_le (by omega : xs.length <= n)]
theorem wY {w : World} {e : TypeId} {G n i : Nat} {v : Value} {Y Z : Array Value} {xs : List Value} {x : Value} (hx : xs.length = n) (hi : i < n) (hG : n + 1 <= G) (hm : G <= maxLen) (hY : Y.size = n + 1 - i) (hZ : Z.size = G - (n + 1))
 (e' : Ending) (he : e' = .returned (.slice (some ⟨w.heap.size, 0, none⟩) (n + 1) G)) :
 nC w ((((w.alloc (.cells ((xs.take i).toArray ++ Y ++ Z) e)).drew.setCells w.heap.size i [x]).drew).setCells w.heap.size (i + 1) (xs.drop i)) e v (xs.take i ++ x :: xs.drop i) e' := by
 have hti : (xs.take i).length = i := by rw [List.length_take]; omega
 have h0 : ((w.alloc (.cells ((xs.take i).toArray ++ Y ++ Z) e)).drew).heap[w.heap.size]? = some (.cells ((xs.take i).toArray ++ Y ++ Z) e (0, 0)) := heap_alloc_new w _;have s0 : ((xs.take i).toArray ++ Y ++ Z).size = G := by simp [List.length_take]; omega
 obtain ⟨c1, h1, t1⟩ := cN w.heap.size e [x] i _ _ h0 (by rw [s0]; simp; omega)
 have s1 : c1.size = G := by
  rw [<- Array.length_toList, t1]; simp [List.length_take]; omega
 obtain ⟨c2, h2, t2⟩ := cN w.heap.size e (xs.drop i) (i + 1) (((w.alloc (.cells ((xs.take i).toArray ++ Y ++ Z) e)).drew.setCells w.heap.size i [x]).drew) c1 h1 (by rw [s1, List.length_drop]; omega)
 have s2 : c2.size = G := by
  rw [<- Array.length_toList, t2]; simp [List.length_take]; omega
 have k0 : aF (fun k => k = w.heap.size) w ((((w.alloc (.cells ((xs.take i).toArray ++ Y ++ Z) e)).drew.setCells w.heap.size i [x]).drew).setCells w.heap.size (i + 1) (xs.drop i)) :=
  ((((aF.refl (fun k => k = w.heap.size) w).alloc _).drew.trans (dD w.heap.size _ _ _) (fun _ h _ => h)).drew).trans (dD w.heap.size _ _ _) (fun _ h _ => h)
 refine qP (ROW := c2) hx (Nat.le_of_lt hi) hG hm (k0.mono (fun k hk hl => by omega)) h2 s2 ?_ e' he;rw [t2, t1]
 have e1 : ((((xs.take i).toArray ++ Y ++ Z).toList.take i ++ [x] ++ ((xs.take i).toArray ++ Y ++ Z).toList.drop (i + [x].length))).take (i + 1) = xs.take i ++ [x] := by
  have e0 : ((xs.take i).toArray ++ Y ++ Z).toList.take i = xs.take i := by
   rw [Array.toList_append, Array.toList_append, List.append_assoc, List.take_append_of_le_length (by simp [List.length_take]; omega)];exact List.take_of_length_le (by simp [List.length_take]; omega)
  rw [e0, List.take_append_of_le_length (by simp [List.length_take]; omega), List.take_of_length_le (by simp [List.length_take]; omega)]
 have hl : (xs.take i ++ x :: xs.drop i).length = n + 1 := by simp [List.length_take]; omega
 rw [e1];have e3 : ∀ R : List Value, xs.take i ++ [x] ++ xs.drop i ++ R = (xs.take i ++ x :: xs.drop i) ++ R := fun R => by simp
 rw [e3, <- hl, List.take_append_of_le_length (Nat.le_refl _), List.take_length]
def xR (w w' : World) (E : TypeId) (v : Value) (xs : List Value) (e : Ending) : Prop :=
 ∃ v', e = .returned v' /\ w'.ownsRow 0 E 1 v' xs.length xs /\ w.grownBy w' v.ownBlock /\ v'.ownBlock = v.ownBlock
theorem I0 {w : World} {e : TypeId} {g cap n i : Nat} {cur : Array Value} {xs : List Value} {z : Value} (hg : w.heap[g]? = some (.cells cur e (0, 0))) (hs : cur.size = cap) (ht : cur.toList.take n = xs)
 (hx : xs.length = n) (hi : i < n) (hn : n <= cap) (hm : cap <= maxLen) (e' : Ending) (he : e' = .returned (.slice (some ⟨g, 0, none⟩) (n - 1) cap)) :
 xR w ((w.drew.setCells g i (xs.drop (i + 1))).setCells g (n - 1) [z]) e (.slice (some ⟨g, 0, none⟩) n cap) (xs.eraseIdx i) e' := by
 obtain ⟨c1, h1, t1⟩ := cN g e (xs.drop (i + 1)) i w.drew cur hg (by rw [List.length_drop]; omega)
 have s1 : c1.size = cap := by
  rw [<- Array.length_toList, t1]; simp [List.length_take]; omega
 obtain ⟨c2, h2, t2⟩ := cN g e [z] (n - 1) _ c1 h1 (by simp; omega)
 have s2 : c2.size = cap := by
  rw [<- Array.length_toList, t2]; simp [List.length_take]; omega
 have hl : (xs.eraseIdx i).length = n - 1 := by rw [List.length_eraseIdx, if_pos (by omega), hx]
 refine ⟨_, he, ?_, dF (S := (· = g)) (((aF.refl (· = g) w).drew.trans (dD g _ _ _) (fun _ h _ => h)).trans (dD g _ _ _) (fun _ h _ => h)) (fun k hk => by subst hk; rfl), rfl⟩;rw [hl];refine rB h2 (by omega) hm s2 ?_
 have hte : cur.toList.take i = xs.take i := by
  rw [<- ht, List.take_take]; congr 1; omega
 have hti : (xs.take i).length = i := by rw [List.length_take]; omega
 rw [t2, t1, hte, List.eraseIdx_eq_take_drop_succ];have hb : (xs.take i ++ xs.drop (i + 1)).length = n - 1 := by rw [List.length_append, hti, List.length_drop]; omega
 rw [List.append_assoc, List.take_append_of_le_length (by simp [List.length_take]; omega), List.take_take, Nat.min_self, <- hb, List.take_append_of_le_length (Nat.le_refl _), List.take_length]
section
variable {K : Type} {less : K -> K -> Bool}
variable [DecidableEq K]
end
end
section
open Go.RowKit Go.Lib
theorem mW : (Tryz.prog.info? 2).map (fun i => (i.zero, i.size, i.bytes)) = some (some (Value.int .i64 0), 1, 8) := by kernel_rfl
theorem Ej (w : World) : (Go.sizeOf 2).run Tryz.prog w = .ok 1 w := by kernel_rfl
theorem Gs : Tryz.prog.underlying 3 = some (.int .i64) := by kernel_rfl
theorem e7 : Tryz.prog.underlying 51 = some (.slice 2) := by kernel_rfl
set_option maxHeartbeats 4000000 in
set_option maxRecDepth 100000 in
theorem Bf (b n c i vb : Nat) (cur : Array Value) (cs : List Value) (x : Value) (w : World) (hi : i < n) (hroom : n + 1 <= c) (hc63 : c <= 9223372036854775807) (hvb : vb ≠ b)
 (hb : w.heap[b]? = some (.cells cur 2 (0, 0))) (hcur : cur.size = c) (hcl : cs.length = n) (ht : cur.toList.take n = cs) (hv : w.heap[vb]? = some (.cells #[x] 2 (0, 0))) (h1c : ∀ v ∈ cs, v.oneCell' = true) (h1v : x.oneCell' = true) :
 Calls Tryz.prog 111 #[.slice (some ⟨b, 0, none⟩) n c, .int .i64 i, .slice (some ⟨vb, 0, none⟩) 1 1] w fun e w' =>
  e = .returned (.slice (some ⟨b, 0, none⟩) (n + 1) c) /\ w' = (w.drew.setCells b (i + 1) (cs.drop i)).setCells b i [x] := by
 have hcs : ∀ j v, cs[j]? = some v -> w.cell? ⟨b, j, none⟩ = some v := fun j v h => eC hb ht h
 have hsp : ∀ j, j < n + 1 -> (w.cell? ⟨b, j, none⟩).isSome = true := fun j h => by
  rw [cell_of_row w b j cur _ (0, 0) hb, Array.getElem?_eq_getElem (by omega)]; rfl
 have hfz : ∀ j, w.frozen? ⟨b, j, none⟩ = false := fun j => frozen_of_row w b j cur _ hb
 have hvs : ∀ j v, [x][j]? = some v -> w.cell? ⟨vb, j, none⟩ = some v := fun j v h => eC (n := 1) hv rfl h
 have hz2 : ¬ ((i : Int) = (n : Int)) := by omega
 have hsz : (Tryz.prog.info? 2).map (·.size) = some 1 := by
  obtain ⟨i0, hi0, h0, h1, h2⟩ := info_parts mW;rw [hi0]; simp [h1]
 have hsa : w.shape? vb = some (2, 1) := by simp [World.shape?, hv]
 have hsb : w.shape? b = some (2, c) := by simp [World.shape?, hb, hcur]
 have hov : ∀ lb cb, (callFunc 154 #[.slice (some ⟨vb, 0, none⟩) 1 1, .slice (some ⟨b, i + 1, none⟩) lb cb]).run Tryz.prog w = .ok (.value (.bool false)) w := fun lb cb => by
  rw [run_callFunc_extern Tryz.func154 (by kernel_rfl) (by kernel_rfl) (by kernel_rfl) (e := Extern.SlicesOverlaps.overlaps #[51, 51] #[4]) (by kernel_rfl),
   Lib.run_overlaps_apart w 51 4 2 e7 1 Ej ⟨vb, 0, none⟩ ⟨b, i + 1, none⟩ 1 1 lb cb hvb 2 2 1 c hsa hsb (by omega) (frozen_of_row w vb 0 _ _ hv) (frozen_of_row w vb 1 _ _ hv)]
  rfl
 have hdl : (cs.drop i).length = n - i := by rw [List.length_drop, hcl]
 have hw1 : IntKind.i64.wrap ((i : Int) + 1) = (i : Int) + 1 := by rw [IntKind.wrap_i64]; omega
 have hin : i <= n := by omega
 have hb1 : (0 : Int) <= (i : Int) + 1 := by omega
 have htn : ((i : Int) + 1).toNat = i + 1 := by omega
 have hb3 : (i : Int) <= (n : Int) + 1 := by omega
 have hb2 : ¬ (c = i + 1) := by omega
 have hb4 : ¬ (c = i) := by omega
 have hcp1 : ∀ ty dc sc, (Builtin.copy_ #[51, 51] ty #[.slice (some ⟨b, i + 1, none⟩) (n - i) dc, .slice (some ⟨b, i, none⟩) (n + 1 - i) sc]).run Tryz.prog w.drew = .ok (goInt (cs.drop i).length) (w.drew.setCells b (i + 1) (cs.drop i)) := fun ty dc sc =>
  run_copy_cells w.drew _ _ ty 2 b (i + 1) (n - i) dc ⟨b, i, none⟩ (n + 1 - i) sc (cs.drop i) e7 hsz (by rw [hdl]; simp only [Nat.min_def]; split <;> omega)
   (fun j v hj => by rw [Addr.add_lit]; exact hcs (i + j) v (by rwa [List.getElem?_drop] at hj))
   (fun j hj => hsp _ (by omega)) (fun j hj => hfz _) (fun v hv => h1c v (List.mem_of_mem_drop hv))
 obtain ⟨W1, hW1⟩ : ∃ W1, W1 = w.drew.setCells b (i + 1) (cs.drop i) := ⟨_, rfl⟩
 have hsp1 : ∀ k, k < n + 1 -> (W1.cell? ⟨b, k, none⟩).isSome = true := fun k hk => by
  rw [hW1];exact isSome_setCells b (cs.drop i) (i + 1) w.drew (fun j hj => hsp _ (by omega)) _ (hsp k hk)
 have hcp2 : ∀ (W : World), (∀ x, W.cell? x = W1.cell? x) -> (∀ x, W.frozen? x = W1.frozen? x) -> ∀ ty dc, (Builtin.copy_ #[51, 51] ty #[.slice (some ⟨b, i, none⟩) (n + 1 - i) dc, .slice (some ⟨vb, 0, none⟩) 1 1]).run Tryz.prog W = .ok (goInt [x].length) (W.setCells b i [x]) := fun W hWc hWf ty dc =>
  run_copy_cells W _ _ ty 2 b i (n + 1 - i) dc ⟨vb, 0, none⟩ 1 1 [x] e7 hsz (by simp only [List.length_singleton, Nat.min_def]; split <;> omega)
   (fun j v hj => by
    rw [Addr.add_lit, Nat.zero_add, hWc, hW1, World.cell?_setCells_out b _ _ _ _ (fun h _ => absurd h hvb)];exact hvs j v hj)
   (fun j hj => by rw [hWc]; exact hsp1 _ (by simp at hj; omega)) (fun j hj => by rw [hWf, hW1, World.frozen?_setCells]; exact hfz _) (by simpa using h1v)
 rw [<- hW1] at hcp1;clear hcs hsp hfz hvs hsz hsa hsb hdl hsp1 hb hcur ht hv h1c h1v
 go_enter Tryz.func111, Tryz.ntmps111
 go_wp2_with (simp only [hov])
 go_region_law (refine step_copy_runI rfl _ _ 51 51 rfl _ _ (by simp [Act.eval, Act.put]) (by simp [Act.eval, Act.put]) (hcp1 _ _ _) ?_)
 go_wp2_with (at_builtin; refine wpList_copy_runI _ rfl _ _ 51 51 rfl _ _ rfl rfl (hcp2 _ (fun _ => rfl) (fun _ => rfl) _ _) ?_)
 go_ret
 first | exact ⟨rfl, rfl⟩ | exact ⟨rfl, by rw [hW1]⟩
set_option maxHeartbeats 4000000 in
set_option maxRecDepth 100000 in
theorem Ek (b n c vb : Nat) (cur : Array Value) (x : Value) (w : World) (hroom : n + 1 <= c) (hc63 : c <= 9223372036854775807)
 (hb : w.heap[b]? = some (.cells cur 2 (0, 0))) (hcur : cur.size = c) (hv : w.heap[vb]? = some (.cells #[x] 2 (0, 0))) (h1v : x.oneCell' = true) :
 Calls Tryz.prog 111 #[.slice (some ⟨b, 0, none⟩) n c, .int .i64 n, .slice (some ⟨vb, 0, none⟩) 1 1] w fun e w' =>
  e = .returned (.slice (some ⟨b, 0, none⟩) (n + 1) c) /\ w' = w.setCells b n [x] := by
 have hsrc : Src Tryz.prog 1 51 (.slice (some ⟨vb, 0, none⟩) 1 1) 1 [x] w := Src.ofSlice w e7 ⟨vb, 0, none⟩ 1 1 [x] rfl (fun j u hj => by rw [Addr.add_lit, Nat.zero_add]; exact eC (n := 1) hv rfl hj) (by simpa using h1v)
 have hsp : ∀ j, j < 1 -> (w.cell? ⟨b, 0 + n + j, none⟩).isSome = true := fun j h => by
  rw [cell_of_row w b _ cur _ (0, 0) hb, Array.getElem?_eq_getElem (by omega)]; rfl
 have hfz : ∀ j, j < 1 -> w.frozen? ⟨b, 0 + n + j, none⟩ = false := fun j _ => frozen_of_row w b _ cur _ hb
 clear hb hcur hv h1v
 go_enter Tryz.func111, Tryz.ntmps111
 go_wp2_with (at_builtin; refine wpList_append_room1 _ rfl _ _ 51 51 rfl 2 _ _ e7 mW b 0 n c rfl _ rfl 1 [x] hsrc hroom hsp hfz ?_)
 go_ret;exact ⟨rfl, rfl⟩
set_option maxHeartbeats 4000000 in
set_option maxRecDepth 100000 in
theorem Aa (base : Option Addr) (n c vb : Nat) (cs : List Value) (x : Value) (w : World) (hnc : n <= c) (hroom : c < n + 1) (hbig : (n + 1) * 8 <= 140737488355328)
 (hcl : cs.length = n) (hnil : base = none -> n = 0) (hcs : ∀ a, base = some a -> ∀ j v, cs[j]? = some v -> w.cell? (a.add j) = some v) (hv : w.heap[vb]? = some (.cells #[x] 2 (0, 0))) (h1v : x.oneCell' = true) :
 Calls Tryz.prog 111 #[.slice base n c, .int .i64 n, .slice (some ⟨vb, 0, none⟩) 1 1] w fun e w' =>
  e = .returned (.slice (some ⟨w.heap.size, 0, none⟩) (n + 1) (grownCap w (n + 1) c 2)) /\
  w' = w.drew.alloc (.cells ((cs ++ [x]).toArray ++ Builtin.zeroCells (Value.int .i64 0).cells (grownCap w (n + 1) c 2 - (n + 1))) 2) := by
 obtain ⟨i0, hi0, hz0, hzs, hzb⟩ := info_parts mW
 have hsrc : Src Tryz.prog i0.size 51 (.slice (some ⟨vb, 0, none⟩) 1 1) 1 [x] w := by
  rw [hzs];exact Src.ofSlice w e7 ⟨vb, 0, none⟩ 1 1 [x] rfl (fun j u hj => by rw [Addr.add_lit, Nat.zero_add]; exact eC (n := 1) hv rfl hj) (by simpa using h1v)
 have hold : (Builtin.firstCells i0.size n (.slice base n c)).run Tryz.prog w.drew = .ok cs.toArray w.drew := by
  rw [hzs];cases base with
  | none =>
    have h0 := hnil rfl;subst h0;rw [List.length_eq_zero_iff.1 hcl];exact run_firstCells_none w.drew 1 0 0 c
  | some a => exact run_firstCells_some w.drew 1 n a n c cs (by omega) (fun j v hj => hcs a rfl j v hj)
 have hrun : ∀ ty, (Builtin.append_ #[51, 51] ty #[.slice base n c, .slice (some ⟨vb, 0, none⟩) 1 1]).run Tryz.prog w = _ := fun ty =>
  run_append_grow_src w 51 51 ty 2 i0 _ e7 hi0 hz0 base n c cs hold _ 1 [x] hsrc hroom (by omega) (by rw [hzb]; exact growslice_fits hroom hbig)
 clear hv h1v hcs hold hsrc
 go_enter Tryz.func111, Tryz.ntmps111
 cases base with
 | none =>
   have h0 := hnil rfl;subst h0
   go_wp2_with (at_builtin; refine Lib.wpList_append_run _ rfl _ _ _ _ rfl _ _ rfl rfl _ _ (hrun _) ?_)
   go_ret;exact ⟨rfl, rfl⟩
 | some a =>
   obtain ⟨ab, ao, asp⟩ := a
   go_wp2_with (at_builtin; refine Lib.wpList_append_run _ rfl _ _ _ _ rfl _ _ rfl rfl _ _ (hrun _) ?_)
   all_goals (go_ret; exact ⟨rfl, rfl⟩)
set_option maxHeartbeats 4000000 in
set_option maxRecDepth 100000 in
theorem El (b n c i vb : Nat) (cur : Array Value) (cs : List Value) (x : Value) (w : World) (hi : i < n) (hnc : n <= c) (hroom : c < n + 1) (hbig : (n + 1) * 8 <= 140737488355328)
 (hb : w.heap[b]? = some (.cells cur 2 (0, 0))) (hcl : cs.length = n) (ht : cur.toList.take n = cs) (hv : w.heap[vb]? = some (.cells #[x] 2 (0, 0))) (h1c : ∀ v ∈ cs, v.oneCell' = true) (h1v : x.oneCell' = true) :
 Calls Tryz.prog 111 #[.slice (some ⟨b, 0, none⟩) n c, .int .i64 i, .slice (some ⟨vb, 0, none⟩) 1 1] w fun e w' =>
  e = .returned (.slice (some ⟨w.heap.size, 0, none⟩) (n + 1) (grownCap w (n + 1) c 2)) /\
  w' = (((w.alloc (.cells ((cs.take i).toArray ++ Builtin.zeroCells (Value.int .i64 0).cells (n + 1 - i) ++ Builtin.zeroCells (Value.int .i64 0).cells (grownCap w (n + 1) c 2 - (n + 1))) 2)).drew.setCells w.heap.size i [x]).drew).setCells w.heap.size (i + 1) (cs.drop i) := by
 have hcs : ∀ j v, cs[j]? = some v -> w.cell? ⟨b, j, none⟩ = some v := fun j v h => eC hb ht h
 have hvs : ∀ j v, [x][j]? = some v -> w.cell? ⟨vb, j, none⟩ = some v := fun j v h => eC (n := 1) hv rfl h
 obtain ⟨i0, hi0, hz0, hzs, hzb⟩ := info_parts mW;have hz2 : ¬ ((i : Int) = (n : Int)) := by omega
 have hz3 : (c : Int) < (n : Int) + 1 := by omega
 have hsz : (Tryz.prog.info? 2).map (·.size) = some 1 := by rw [hi0]; simp [hzs]
 have hbw : b < w.heap.size := lt_of_block hb;have hvw : vb < w.heap.size := lt_of_block hv;have hkk : (n : Int) + 1 - (i : Int) = ((n + 1 - i : Nat) : Int) := by omega
 have hik : i + (n + 1 - i) = n + 1 := by omega
 have hold : (Builtin.firstCells i0.size i (.slice (some ⟨b, 0, none⟩) i c)).run Tryz.prog w.drew = .ok (cs.take i).toArray w.drew := by
  rw [hzs]
  exact run_firstCells_some w.drew 1 i ⟨b, 0, none⟩ i c (cs.take i) (by rw [List.length_take]; omega) (fun j v hj => by
   rw [Addr.add_lit, Nat.zero_add];rw [List.getElem?_take] at hj
   split at hj
   · exact hcs j v hj
   · cases hj)
 have hrz : ∀ ty, (Builtin.append_ #[51, 3] ty #[.slice (some ⟨b, 0, none⟩) i c, .int .i64 ((n : Int) + 1 - (i : Int))]).run Tryz.prog w =
  .ok (.slice (some ⟨w.heap.size, 0, none⟩) (n + 1) (grownCap w (n + 1) c 2)) (w.drew.alloc (.cells ((cs.take i).toArray ++ Builtin.zeroCells (Value.int .i64 0).cells (n + 1 - i) ++ Builtin.zeroCells (Value.int .i64 0).cells (grownCap w (n + 1) c 2 - (n + 1))) 2)) := fun ty => by
  have h := Lib.run_append_grow_zeros w 51 3 ty 2 i0 _ .i64 .i64 e7 Gs hi0 hz0 (some ⟨b, 0, none⟩) i c (cs.take i) hold (n + 1 - i) (by omega) (by omega) (by omega) (by omega) (by rw [hzb]; omega) (by rw [hzb, hik]; exact growslice_fits hroom hbig);rw [hik] at h;rw [hkk];exact h
 obtain ⟨G, hG⟩ : ∃ G, G = grownCap w (n + 1) c 2 := ⟨_, rfl⟩;obtain ⟨ROW, hROW⟩ : ∃ ROW : Array Value, ROW = (cs.take i).toArray ++ Builtin.zeroCells (Value.int .i64 0).cells (n + 1 - i) ++ Builtin.zeroCells (Value.int .i64 0).cells (G - (n + 1)) := ⟨_, rfl⟩;rw [<- hG] at hrz |-
 rw [<- hROW] at hrz |-
 have hRl : n + 1 <= ROW.size := by
  rw [hROW];simp [Builtin.zeroCells, Value.cells];omega
 obtain ⟨W1, hW1⟩ : ∃ W1, W1 = w.drew.alloc (.cells ROW 2) := ⟨_, rfl⟩;rw [<- hW1] at hrz
 have hN : ∀ j, j < n + 1 -> (W1.cell? ⟨w.heap.size, j, none⟩).isSome = true := fun j hj => by
  rw [hW1, World.cell?_alloc_at (w := w.drew) ROW _ w.heap.size j rfl, Array.getElem?_eq_getElem (by omega)]; rfl
 have hNf : ∀ j, W1.frozen? ⟨w.heap.size, j, none⟩ = false := fun j => by rw [hW1]; exact World.frozen?_alloc_at (w := w.drew) ROW _ w.heap.size j rfl
 have hOb : ∀ j v, w.cell? ⟨b, j, none⟩ = some v -> W1.cell? ⟨b, j, none⟩ = some v := fun j v h => by rw [hW1, World.cell?_alloc_past (w := w.drew) _ b j hbw]; exact h
 have hOv : ∀ j v, w.cell? ⟨vb, j, none⟩ = some v -> W1.cell? ⟨vb, j, none⟩ = some v := fun j v h => by rw [hW1, World.cell?_alloc_past (w := w.drew) _ vb j hvw]; exact h
 have hcpA : ∀ (W : World), (∀ x, W.cell? x = W1.cell? x) -> (∀ x, W.frozen? x = W1.frozen? x) -> ∀ ty dc, (Builtin.copy_ #[51, 51] ty #[.slice (some ⟨w.heap.size, i, none⟩) (n + 1 - i) dc, .slice (some ⟨vb, 0, none⟩) 1 1]).run Tryz.prog W = .ok (goInt [x].length) (W.setCells w.heap.size i [x]) := fun W hWc hWf ty dc =>
  run_copy_cells W _ _ ty 2 w.heap.size i (n + 1 - i) dc ⟨vb, 0, none⟩ 1 1 [x] e7 hsz (by simp only [List.length_singleton, Nat.min_def]; split <;> omega)
   (fun j v hj => by rw [Addr.add_lit, Nat.zero_add, hWc]; exact hOv _ v (hvs j v hj))
   (fun j hj => by rw [hWc]; exact hN _ (by simp at hj; omega)) (fun j hj => by rw [hWf]; exact hNf _) (by simpa using h1v)
 have hGn : n + 1 <= G := by rw [hG]; exact grownCap_ge w _ _ _
 have hG63 : G <= 9223372036854775807 := by
  have := grownCap_le_maxLen w (n + 1) c 2 (by unfold maxLen; omega);rw [<- hG] at this;unfold maxLen at this;omega
 have hGi : ¬ (G = i) := by omega
 have hGim : ¬ (G = i + 1) := by omega
 have hci : ¬ (c = i) := by omega
 have hbN : b ≠ w.heap.size := by omega
 have hdl : (cs.drop i).length = n - i := by rw [List.length_drop, hcl]
 have hcpB : ∀ (W : World), (∀ y, W.cell? y = (W1.setCells w.heap.size i [x]).cell? y) -> (∀ y, W.frozen? y = (W1.setCells w.heap.size i [x]).frozen? y) -> ∀ ty dc sc, (Builtin.copy_ #[51, 51] ty #[.slice (some ⟨w.heap.size, i + 1, none⟩) (n - i) dc, .slice (some ⟨b, i, none⟩) (n - i) sc]).run Tryz.prog W = .ok (goInt (cs.drop i).length) (W.setCells w.heap.size (i + 1) (cs.drop i)) := fun W hWc hWf ty dc sc =>
  run_copy_cells W _ _ ty 2 w.heap.size (i + 1) (n - i) dc ⟨b, i, none⟩ (n - i) sc (cs.drop i) e7 hsz (by rw [hdl]; simp only [Nat.min_def]; split <;> omega)
   (fun j v hj => by
    rw [Addr.add_lit, hWc, World.cell?_setCells_out _ _ _ _ _ (fun h _ => absurd h hbN)];exact hOb _ v (hcs (i + j) v (by rwa [List.getElem?_drop] at hj)))
   (fun j hj => by rw [hWc]; exact isSome_setCells _ [x] i W1 (fun t ht => hN _ (by simp at ht; omega)) _ (hN _ (by omega)))
   (fun j hj => by rw [hWf, World.frozen?_setCells]; exact hNf _) (fun v hv => h1c v (List.mem_of_mem_drop hv))
 subst hW1;have hE1 : ∀ x, ((w.alloc (.cells ROW 2)).drew).cell? x = (w.drew.alloc (.cells ROW 2)).cell? x := fun x => rfl
 have hE2 : ∀ x, ((w.alloc (.cells ROW 2)).drew).frozen? x = (w.drew.alloc (.cells ROW 2)).frozen? x := fun x => rfl
 have hF1 : ∀ y, (((w.alloc (.cells ROW 2)).drew.setCells w.heap.size i [x]).drew).cell? y = ((w.drew.alloc (.cells ROW 2)).setCells w.heap.size i [x]).cell? y := fun y => rfl
 have hF2 : ∀ y, (((w.alloc (.cells ROW 2)).drew.setCells w.heap.size i [x]).drew).frozen? y = ((w.drew.alloc (.cells ROW 2)).setCells w.heap.size i [x]).frozen? y := fun y => rfl
 have hw1 : IntKind.i64.wrap ((i : Int) + 1) = (i : Int) + 1 := by rw [IntKind.wrap_i64]; omega
 have hb1 : (0 : Int) <= (i : Int) + 1 := by omega
 have hin : i <= n := by omega
 have htn : ((i : Int) + 1).toNat = i + 1 := by omega
 have hb3 : (i : Int) <= (n : Int) := by omega
 have hb5 : (i : Int) <= (n : Int) + 1 := by omega
 clear hkk hik hold hROW hG hRl hb ht hv h1c h1v hcs hvs hN hNf hOb hOv
 go_enter Tryz.func111, Tryz.ntmps111
 go_wp2_with (first
  | (at_builtin; refine Lib.wpList_append_run _ rfl _ _ _ _ rfl _ _ rfl rfl _ _ (hrz _) ?_)
  | (at_builtin; refine wpList_copy_runI _ rfl _ _ 51 51 rfl _ _ rfl rfl (hcpA _ hE1 hE2 _ _) ?_)
  | (at_builtin; refine wpList_copy_runI _ rfl _ _ 51 51 rfl _ _ rfl rfl (hcpB _ (fun _ => rfl) (fun _ => rfl) _ _ _) ?_))
 go_region_law (refine step_copy_runI rfl _ _ 51 51 rfl (.slice (some ⟨w.heap.size, i + 1, none⟩) (n - i) (G - (i + 1))) (.slice (some ⟨b, i, none⟩) (n - i) (c - i)) (by simp [Act.eval, Act.put]) (by simp [Act.eval, Act.put]) (hcpB _ hF1 hF2 3 (G - (i + 1)) (c - i)) ?_)
 go_wp2
 go_ret;exact ⟨rfl, rfl⟩
theorem KB (v : Value) (n i vb : Nat) (xs : List Value) (x : Value) (w : World) (hn : n <= 1000000) (hi : i <= n) (ho : w.ownsRow 0 2 1 v n xs) (hv : w.heap[vb]? = some (.cells #[x] 2 (0, 0))) (hne : v.ownBlock ≠ some vb)
 (h1c : ∀ u ∈ xs, u.oneCell' = true) (h1v : x.oneCell' = true) :
 Calls Tryz.prog 111 #[v, .int .i64 i, .slice (some ⟨vb, 0, none⟩) 1 1] w fun e w' => nC w w' 2 v (xs.take i ++ x :: xs.drop i) e := by
 rcases kY ho with ⟨rfl, rfl, rfl⟩ | ⟨g, cap, cur, rfl, hob, hg, hnc, hm, hs, ht, hx, _⟩
 · obtain rfl : i = 0 := by omega
   refine (Aa none 0 0 vb [] x w (Nat.le_refl _) (by omega) (by omega) rfl (fun _ => rfl) (fun a h => by cases h) hv h1v).mono fun e w' ⟨he, hw⟩ => ?_
   subst hw;exact qQ (xs := []) rfl (grownCap_ge w (0 + 1) 0 2) (grownCap_le_maxLen w (0 + 1) 0 2 (by unfold maxLen; omega)) (by simp [Builtin.zeroCells, Value.cells]) e he
 · have hne' : vb ≠ g := fun h => hne (by rw [hob, h])
   have hm' : cap <= 9223372036854775807 := by unfold maxLen at hm; omega
   by_cases hr : n + 1 <= cap
   · by_cases hin : i = n
     · subst hin
       refine (Ek g i cap vb cur x w hr hm' hg hs hv h1v).mono fun e w' ⟨he, hw⟩ => ?_
       subst hw;exact wX hg hs ht hx hr hm e he
     · refine (Bf g n cap i vb cur xs x w (by omega) hr hm' hne' hg hs hx ht hv h1c h1v).mono fun e w' ⟨he, hw⟩ => ?_
       subst hw;exact t8 hg hs ht hx (by omega) hr hm e he
   · have hG1 := grownCap_ge w (n + 1) cap 2
     have hG2 := grownCap_le_maxLen w (n + 1) cap 2 (by unfold maxLen; omega)
     by_cases hin : i = n
     · subst hin
       refine (Aa (some ⟨g, 0, none⟩) i cap vb xs x w hnc (by omega) (by omega) hx (fun h => by cases h) (fun a ha j u hj => by cases ha; rw [Addr.add_lit, Nat.zero_add]; exact eC hg ht hj) hv h1v).mono fun e w' ⟨he, hw⟩ => ?_
       subst hw;exact qQ hx hG1 hG2 (by simp [Builtin.zeroCells, Value.cells]) e he
     · refine (El g n cap i vb cur xs x w (by omega) hnc (by omega) (by omega) hg hx ht hv h1c h1v).mono fun e w' ⟨he, hw⟩ => ?_
       subst hw;exact wY hx (by omega) hG1 hG2 (by simp [Builtin.zeroCells, Value.cells]) (by simp [Builtin.zeroCells, Value.cells]) e he
end
section
open Go.RowKit Go.Lib
theorem EW : (Tryz.prog.info? 2).map (fun i => (i.zero, i.size, i.bytes)) = some (some (Value.int .i64 0), 1, 8) := by kernel_rfl
theorem Ah : Tryz.prog.underlying 51 = some (.slice 2) := by kernel_rfl
theorem ER (w : World) : (zeroValue 2).run Tryz.prog w = .ok (Value.int .i64 0) w := by kernel_rfl
set_option maxHeartbeats 4000000 in
set_option maxRecDepth 1000000 in
theorem ET (g n cap i : Nat) (cur : Array Value) (xs : List Value) (w : World) (hi : i < n) (hn : n <= cap) (_ : cap <= 9223372036854775807)
 (hg : w.heap[g]? = some (.cells cur 2 (0, 0))) (hs : cur.size = cap) (hx : xs.length = n) (ht : cur.toList.take n = xs) (h1 : ∀ v ∈ xs, v.oneCell' = true) :
 Calls Tryz.prog 112 #[.slice (some ⟨g, 0, none⟩) n cap, .int .i64 i, .int .i64 ((i : Int) + 1)] w fun e w' =>
  e = .returned (.slice (some ⟨g, 0, none⟩) (n - 1) cap) /\ w' = (w.drew.setCells g i (xs.drop (i + 1))).setCells g (n - 1) [Value.int .i64 0] := by
 obtain ⟨i0, hi0, hz0, hz1, hz2⟩ := info_parts EW;obtain ⟨news, hnews⟩ : ∃ news, news = xs.drop (i + 1) := ⟨_, rfl⟩;have hlen : news.length = n - (i + 1) := by rw [hnews, List.length_drop, hx]
 have hcs : ∀ j v, xs[j]? = some v -> w.cell? ⟨g, j, none⟩ = some v := fun j v h => eC hg ht h
 have hsp : ∀ j, j < cap -> (w.cell? ⟨g, j, none⟩).isSome = true := fun j h => by
  rw [cell_of_row w g j cur _ (0, 0) hg, Array.getElem?_eq_getElem (by omega)]; rfl
 have hfz : ∀ j, w.frozen? ⟨g, j, none⟩ = false := fun j => frozen_of_row w g j cur _ hg
 obtain ⟨A, hA, hsrc⟩ : ∃ A : Addr, (if cap = i + 1 then some (⟨g, 0, none⟩ : Addr) else some ⟨g, i + 1, none⟩) = some A /\ Hid (∀ t u, news[t]? = some u -> w.drew.cell? (A.add t) = some u) := by
  by_cases h : cap = i + 1
  · refine ⟨⟨g, 0, none⟩, by simp [h], fun t u hu => ?_⟩
    have h0 : news.length = 0 := by rw [hlen]; omega
    rw [List.length_eq_zero_iff.1 h0] at hu;simp at hu
  · refine ⟨⟨g, i + 1, none⟩, by simp [h], fun t u hu => ?_⟩
    rw [hnews, List.getElem?_drop] at hu;rw [Addr.add_lit];exact hcs _ _ hu
 have s1 : Hid (news.length = (n - (i + 1)) * 1) := by rw [Nat.mul_one]; exact hlen
 have s2 : Hid (∀ u ∈ news, u.oneCell' = true) := fun u hu => h1 u (by rw [hnews] at hu; exact List.mem_of_mem_drop hu)
 have s3 : Hid (∀ t, t < news.length -> (w.drew.cell? ⟨g, 0 + i * 1 + t, none⟩).isSome = true /\ w.drew.frozen? ⟨g, 0 + i * 1 + t, none⟩ = false) := fun t ht => by
  rw [hlen] at ht;exact ⟨hsp _ (by omega), hfz _⟩
 obtain ⟨W1, hW1⟩ : ∃ W1, W1 = w.drew.setCells g (0 + i * 1) news := ⟨_, rfl⟩
 have hsp1 : ∀ j, j < cap -> (W1.cell? ⟨g, j, none⟩).isSome = true := fun j hj => by
  rw [hW1];obtain ⟨c1, q1, t1⟩ := cN g 2 news (0 + i * 1) w.drew cur hg (by omega);rw [cell_of_row _ g j c1 _ (0, 0) q1, Array.getElem?_eq_getElem (by rw [<- Array.length_toList, t1]; simp [List.length_take]; omega)]; rfl
 have hfz1 : ∀ j, W1.frozen? ⟨g, j, none⟩ = false := fun j => by rw [hW1, World.frozen?_setCells]; exact hfz j
 have e1 : n - (i + (n - (i + 1))) = 1 := by omega
 have hcl : ∀ ty, (Builtin.clear_ #[51] ty #[.slice (some ⟨g, i + (n - (i + 1)), none⟩) (n - (i + (n - (i + 1)))) (cap - (i + (n - (i + 1))))]).run Tryz.prog W1 = .ok (.tuple #[]) (W1.setCells g (i + (n - (i + 1))) (List.replicate (n - (i + (n - (i + 1)))) (Value.int .i64 0))) :=
  fun ty => Lib.run_clear_slice W1 _ _ ty _ Ah ER rfl rfl g (i + (n - (i + 1))) _ _ (by omega) (fun t ht => hsp1 _ (by omega)) (fun t ht => hfz1 _)
 have X : Hid (W1 = w.drew.setCells g i news) := by
  show W1 = _;rw [hW1, Nat.zero_add, Nat.mul_one]
 have hW : Hid (W1 = w.drew.setCells g (0 + i * 1) news) := hW1;have N : Hid (news = xs.drop (i + 1)) := hnews;have hic : i <= cap := by omega
 have hjc : i + 1 <= cap := by omega
 have hb1 : (0 : Int) <= (i : Int) + 1 := by omega
 have hb2 : (i : Int) + 1 <= (n : Int) := by omega
 have E1 : Hid (n - (i + (n - (i + 1))) = 1) := e1;clear e1 hW1 hsp hsp1 hfz hfz1 hcs hnews hlen hg hs hx ht h1
 go_enter Tryz.func112, Tryz.ntmps112
 go_wp2_with fail
 go_region_law (refine step_append_room rfl (.tmp 22) (.tmp 25) 51 rfl 2 i0 1 Ah hi0 hz1 g 0 i cap (by simp [Act.eval, Act.put]) A (n - (i + 1)) (cap - (i + 1)) news (by simp [Act.eval, Act.put]) s1.out hsrc.out s2.out (by omega) s3.out ?_; rw [<- hW.out])
 go_wp2
 go_ret;refine ⟨by rw [show n - 1 = i + (n - (i + 1)) by omega]; rfl, ?_⟩;rw [E1.out, X.out, N.out, show n - 1 = i + (n - (i + 1)) by omega];rfl
theorem KH (v : Value) (n i : Nat) (xs : List Value) (w : World) (hn : n <= 1000000) (hi : i < n) (ho : w.ownsRow 0 2 1 v n xs) (h1 : ∀ u ∈ xs, u.oneCell' = true) :
 Calls Tryz.prog 112 #[v, .int .i64 i, .int .i64 ((i : Int) + 1)] w fun e w' => xR w w' 2 v (xs.eraseIdx i) e := by
 rcases kY ho with ⟨rfl, rfl, rfl⟩ | ⟨g, cap, cur, rfl, hob, hg, hnc, hm, hs, ht, hx, _⟩
 · omega
 · refine (ET g n cap i cur xs w hi hnc (by unfold maxLen at hm; omega) hg hs hx ht h1).mono fun e w' ⟨he, hw⟩ => ?_
   subst hw;exact I0 hg hs ht hx hi hnc hm e he
set_option maxHeartbeats 1000000 in
theorem I3 (x : Int) (w : World) : Calls Tryz.prog 176 #[.int .i64 x] w fun e w' => e = .returned (.bool false) /\ w = w' := by
 go_enter Tryz.func176, Tryz.ntmps176
 go_wp2
 go_ret;exact ⟨by simp, rfl⟩
set_option maxHeartbeats 1000000 in
theorem oK (x : Int) (w : World) : Calls Tryz.prog 153 #[.int .i64 x] w fun e w' => e = .returned (.bool false) /\ w = w' := by
 go_enter Tryz.func153, Tryz.ntmps153
 go_wp2
 go_ret;exact ⟨by simp, rfl⟩
set_option maxHeartbeats 1000000 in
theorem Je (x y : Int) (b : Bool) (h : lsL x y = b) (w : World) : Calls Tryz.prog 152 #[.int .i64 x, .int .i64 y] w fun e w' => e = .returned (.bool b) /\ w = w' := by
 subst h
 go_enter Tryz.func152, Tryz.ntmps152
 go_wp2_with (go_at_call 176; refine (I3 _ _).mono ?_; rintro e w' ⟨rfl, rfl⟩)
 go_ret;exact ⟨rfl, rfl⟩
theorem KG {ks : List Int} (hr : bG lsL ks) {x y : Int} {p : Nat} (hp : pos lsL ks x = p) (hy : ks[p]? = some y) (b : Bool) (hb : decide (y = x) = b) : b = has ks x := by
 rw [vG eH hr hp hy, hb]
set_option maxHeartbeats 4000000 in
set_option maxRecDepth 1000000 in
/-- At a row that rises, of at least one element. -/
theorem wC (g n cap : Nat) (ks : List Int) (x : Int) (w : World) (hn : n <= 1000000) (hl : ks.length = n) (hr : bG lsL ks) (hc : ∀ j v, (ks.map (Value.int .i64))[j]? = some v -> w.cell? ⟨g, j, none⟩ = some v) :
 Calls Tryz.prog 110 #[.slice (some ⟨g, 0, none⟩) n cap, .int .i64 x] w fun e w' =>
  e = .returned (.tuple #[.int .i64 (pos lsL ks x : Nat), .bool (has ks x)]) /\ ∃ q, w' = w.drewN q := by
 have hS := rU eH hr x;rw [hl] at hS;obtain ⟨I, hI⟩ : ∃ I, pos lsL ks x = I := ⟨_, rfl⟩;obtain ⟨B, hB⟩ : ∃ B, B = has ks x := ⟨_, rfl⟩;have hIn : I <= n := by rw [<- hI, <- hl]; exact sG _ _
 rw [hI] at hS;rw [hI, <- hB];have HE := aA (p := ∀ y b, ks[I]? = some y -> decide (y = x) = b -> b = B) (fun y b hy hb => by rw [hB]; exact KG hr hI hy b hb);have HN := aA (p := n <= I -> false = B) (fun h => by rw [hB]; exact (sU eH hr hI (by omega)).symm);have HC := aA (p := ∀ t, t < n -> w.cell? ⟨g, t, none⟩ = some (.int .i64 (ks.getD t x))) (fun t ht => hc t _ (by rw [List.getElem?_map, List.getD_eq_getElem?_getD, List.getElem?_eq_getElem (by omega)]; rfl));have HG := aA (p := ∀ t, t < n -> ks[t]? = some (ks.getD t x)) (fun t ht => by rw [List.getD_eq_getElem?_getD, List.getElem?_eq_getElem (by omega)]; rfl);have HS := aA hS;clear hS hI hB hc hr hl
 go_enter Tryz.func110, Tryz.ntmps110
 go_wp2
 go_loopg [7, 8] n (fun g s7 s8 wr => ∃ lo hi q : Nat, s7 = .int .i64 lo /\ s8 = .int .i64 hi /\ lo <= hi /\ hi <= n /\ hi - lo <= g /\ wr = w.drewN q /\ Hid (Lib.bsGo (fun t => lsL (ks.getD t x) x) g lo hi = I))
 case atStart => exact ⟨0, n, 0, rfl, rfl, Nat.zero_le _, Nat.le_refl _, by omega, rfl, HS⟩
 case round =>
  obtain ⟨lo, hi, q, rfl, rfl, hlh, hin, hg, rfl, hb⟩ := hrel
  by_cases hlt : lo < hi
  · have cm := HC.out ((lo + hi) / 2) (by omega)
    obtain ⟨g', rfl⟩ : ∃ g', gk = g' + 1 := ⟨gk - 1, by omega⟩;have hb1 := hb.out;clear hb;simp only [Lib.bsGo, hlt, if_true] at hb1;obtain ⟨y, hy⟩ : ∃ y, ks.getD ((lo + hi) / 2) x = y := ⟨_, rfl⟩;rw [hy] at cm;simp only [hy] at hb1;clear hy;cases hyx : lsL y x <;> simp only [hyx, if_true, Bool.false_eq_true, if_false] at hb1
    · have HB := aA hb1
      have HY := aA hyx;clear hb1 hyx
      go_wp2_with (first | (go_at_call 152; refine (Je _ _ _ HY.out _).mono ?_; rintro e w' ⟨rfl, rfl⟩) | (go_at_call 153; refine (oK _ _).mono ?_; rintro e w' ⟨rfl, rfl⟩))
      go_roundg ((lo + hi) / 2 - lo)
      case measure => omega
      case rel => exact ⟨lo, (lo + hi) / 2, _, rfl, by rw [show ((lo : Int) + (hi : Int)) / 2 = (((lo + hi) / 2 : Nat) : Int) by omega], by omega, by omega, Nat.le_refl _, rfl, aA (by rw [<- HB.out]; exact Lib.bsGo_fuel _ _ _ _ _ (Nat.le_refl _) (by omega))⟩
    · have HB := aA hb1
      have HY := aA hyx;clear hb1 hyx
      go_wp2_with (first | (go_at_call 152; refine (Je _ _ _ HY.out _).mono ?_; rintro e w' ⟨rfl, rfl⟩) | (go_at_call 153; refine (oK _ _).mono ?_; rintro e w' ⟨rfl, rfl⟩))
      go_roundg (hi - ((lo + hi) / 2 + 1))
      case measure => omega
      case rel => exact ⟨(lo + hi) / 2 + 1, hi, _, by rw [show ((lo : Int) + (hi : Int)) / 2 + 1 = (((lo + hi) / 2 + 1 : Nat) : Int) by omega], rfl, by omega, hin, Nat.le_refl _, rfl, aA (by rw [<- HB.out]; exact Lib.bsGo_fuel _ _ _ _ _ (Nat.le_refl _) (by omega))⟩
  · obtain rfl : hi = lo := by omega
    obtain rfl : hi = I := by
     rw [<- hb.out];cases gk <;> simp [Lib.bsGo]
    clear hb HS
    by_cases hn : hi < n
    · have cl := HC.out hi hn
      have hy := HG.out hi hn;obtain ⟨y, hyd⟩ : ∃ y, ks.getD hi x = y := ⟨_, rfl⟩;rw [hyd] at cl hy;clear hyd;have HY := aA hy;clear hy
      by_cases hyx : y = x
      · subst hyx
        have HB := HE.out y true HY.out (by simp);subst HB;clear HE HN HC HG
        go_wp2_with (first | (go_at_call 153; refine (oK _ _).mono ?_; rintro e w' ⟨rfl, rfl⟩))
        go_ret2;exact ⟨rfl, _, rfl⟩
      · have hne : (y == x) = false := by simpa using hyx
        have HB := HE.out y false HY.out (by simpa using hyx);subst HB;have HX := aA hyx;clear HE HN HC HG hyx
        go_wp2_with (first | (go_at_call 153; refine (oK _ _).mono ?_; rintro e w' ⟨rfl, rfl⟩))
        all_goals (go_ret2; exact ⟨rfl, _, rfl⟩)
    · have HB := HN.out (by omega)
      subst HB;clear HE HN HC HG
      go_wp2_with (first | (go_at_call 153; refine (oK _ _).mono ?_; rintro e w' ⟨rfl, rfl⟩))
      go_ret2;exact ⟨rfl, _, rfl⟩
set_option maxHeartbeats 1000000 in
set_option maxRecDepth 1000000 in
theorem wD (x : Int) (w : World) :
 Calls Tryz.prog 110 #[.slice none 0 0, .int .i64 x] w fun e w' => e = .returned (.tuple #[.int .i64 (0 : Nat), .bool false]) /\ w' = w := by
 go_enter Tryz.func110, Tryz.ntmps110
 go_wp2
 go_loop [7, 8] (fun s7 s8 => s7 = .int .i64 0 /\ s8 = .int .i64 0) (fun _ _ => 0)
 case atStart => exact ⟨rfl, rfl⟩
 case round =>
  obtain ⟨rfl, rfl⟩ := hrel
  go_wp2
  go_ret2;exact ⟨rfl, rfl⟩
theorem Ib (v : Value) (n : Nat) (ks : List Int) (x : Int) (w : World) (hn : n <= 1000000) (ho : w.ownsRow 0 2 1 v n (ks.map (Value.int .i64))) (hr : bG lsL ks) :
 Calls Tryz.prog 110 #[v, .int .i64 x] w fun e w' =>
  e = .returned (.tuple #[.int .i64 (pos lsL ks x : Nat), .bool (has ks x)]) /\ ∃ q, w' = w.drewN q := by
 rcases kY ho with ⟨rfl, rfl, hx⟩ | ⟨g, cap, cur, rfl, hob, hg, hnc, hm, hs, ht, hx, _⟩
 · obtain rfl : ks = [] := List.map_eq_nil_iff.1 hx
   refine (wD x w).mono fun e w' ⟨he, hw⟩ => ⟨he, 0, hw⟩
 · exact wC g n cap ks x w hn (by simpa using hx) hr (fun j v hj => eC hg ht hj)
def eY (most : Nat) (ks : List Int) (n : Int) : List Int := if has ks n = true then ks else (eU lsL ks n).drop ((eU lsL ks n).length - most)
theorem zI {ks : List Int} {n : Int} (h : ¬ has ks n = true) : eU lsL ks n = ks.take (pos lsL ks n) ++ n :: ks.drop (pos lsL ks n) := by unfold eU; rw [if_neg h]
theorem Ch (ks : List Int) (x : Int) : pos lsL ks x <= ks.length := by
 unfold pos;exact (List.takeWhile_sublist _).length_le
theorem oN {ks : List Int} {n : Int} (h : ¬ has ks n = true) : (eU lsL ks n).length = ks.length + 1 := by
 rw [zI h, List.length_append, List.length_cons, List.length_take, List.length_drop];have := Ch ks n;omega
theorem zA {l : List Int} (h : bG lsL l) (k : Nat) : bG lsL (l.drop k) := List.Pairwise.sublist (List.drop_sublist k l) h
theorem wS {most : Nat} {ks : List Int} (h : bG lsL ks) (n : Int) : bG lsL (eY most ks n) := by
 unfold eY
 split
 · exact h
 · exact zA (eL eH h n) _
theorem Ef {most : Nat} {ks : List Int} (h : ks.length <= most) (n : Int) : (eY most ks n).length <= most := by
 unfold eY
 split
 · exact h
 · rw [List.length_drop]; omega
def gK (k : Nat) (l : List Int) : List Int := l.drop (l.length - k)
theorem uZ (k : Nat) (l : List Int) : (gK k l).length = min k l.length := by unfold gK; rw [List.length_drop]; omega
theorem jG {k : Nat} {l : List Int} (h : l.length <= k) : gK k l = l := by unfold gK; rw [show l.length - k = 0 by omega, List.drop_zero]
theorem iM {a b : List Int} : bG lsL (a ++ b) ↔ bG lsL a /\ bG lsL b /\ ∀ x ∈ a, ∀ y ∈ b, x < y := by
 unfold bG;rw [List.pairwise_append];constructor
 · rintro ⟨h1, h2, h3⟩
   exact ⟨h1, h2, fun x hx y hy => by have := h3 x hx y hy; simpa [lsL] using this⟩
 · rintro ⟨h1, h2, h3⟩
   exact ⟨h1, h2, fun x hx y hy => by have := h3 x hx y hy; simpa [lsL] using this⟩
theorem pT {k : Nat} {a c : List Int} (h : k <= c.length) : gK k (a ++ c) = gK k c := by
 unfold gK;rw [List.length_append, show a.length + c.length - k = a.length + (c.length - k) by omega, List.drop_append, List.drop_of_length_le (by omega), List.nil_append]
 congr 1
 omega
theorem zK (b : List Int) (n : Int) : b.length <= (eU lsL b n).length := by
 by_cases h : has b n = true
 · unfold eU; rw [if_pos h]; exact Nat.le_refl _
 · rw [oN h]; omega
theorem Ih {a b : List Int} (h : bG lsL (a ++ b)) {n y : Int} (hy : y ∈ b) (hn : y <= n) : eU lsL (a ++ b) n = a ++ eU lsL b n := by
 obtain ⟨h1, h2, h3⟩ := iM.1 h;refine kO eH (eL eH h n) (iM.2 ⟨h1, eL eH h2 n, fun x hx z hz => ?_⟩) (fun x => ?_)
 · rcases (iR b n z).1 hz with hz | rfl
   · exact h3 x hx z hz
   · have := h3 x hx y hy; omega
 · rw [iR, List.mem_append, List.mem_append, iR]
   constructor
   · rintro ((h | h) | h)
     · exact .inl h
     · exact .inr (.inl h)
     · exact .inr (.inr h)
   · rintro (h | h | h)
     · exact .inl (.inl h)
     · exact .inl (.inr h)
     · exact .inr h
theorem zJ {a b : List Int} (h : bG lsL (a ++ b)) {n : Int} (hn : ∀ y ∈ b, n < y) : eU lsL (a ++ b) n = eU lsL a n ++ b := by
 obtain ⟨h1, h2, h3⟩ := iM.1 h;refine kO eH (eL eH h n) (iM.2 ⟨eL eH h1 n, h2, fun x hx z hz => ?_⟩) (fun x => ?_)
 · rcases (iR a n x).1 hx with hx | rfl
   · exact h3 x hx z hz
   · exact hn z hz
 · rw [iR, List.mem_append, List.mem_append, iR]
   constructor
   · rintro ((h | h) | h)
     · exact .inl (.inl h)
     · exact .inr h
     · exact .inl (.inr h)
   · rintro ((h | h) | h)
     · exact .inl (.inl h)
     · exact .inr h
     · exact .inl (.inr h)
theorem Ge {l : List Int} (h : bG lsL l) (k : Nat) (n : Int) : gK k (eU lsL (gK k l) n) = gK k (eU lsL l n) := by
 by_cases hk : l.length <= k
 · rw [jG hk]
 obtain ⟨a, b, hab, hb⟩ : ∃ a b, l = a ++ b /\ b = gK k l := ⟨l.take (l.length - k), _, (List.take_append_drop _ _).symm, rfl⟩;have hbl : b.length = k := by rw [hb, uZ]; omega
 rw [<- hb, hab];rw [hab] at h
 by_cases hA : ∃ y ∈ b, y <= n
 · obtain ⟨y, hy, hn⟩ := hA
   rw [Ih h hy hn, pT (by rw [<- hbl]; exact zK b n)]
 · have hn : ∀ y ∈ b, n < y := fun y hy => by
    by_cases hl : y <= n
    · exact absurd ⟨y, hy, hl⟩ hA
    · omega
   rw [zJ h hn, pT (by omega), jG (by omega : b.length <= k)];have e := zJ (a := []) (b := b) (by simpa using (iM.1 h).2.1) hn;rw [List.nil_append] at e;rw [e, pT (by omega), jG (by omega)]
theorem Bb {most : Nat} {ks : List Int} (h : ks.length <= most) (n : Int) : eY most ks n = gK most (eU lsL ks n) := by
 unfold eY
 by_cases hh : has ks n = true
 · rw [if_pos hh]
   unfold eU;rw [if_pos hh, jG h]
 · rw [if_neg hh]; rfl
theorem Ee (most : Nat) (l : List Int) : ∀ (ks : List Int), bG lsL ks -> l.foldl (eY most) (gK most ks) = gK most (l.foldl (eU lsL) ks) := by
 induction l with
 | nil => intro ks _; rfl
 | cons n r ih =>
   intro ks h;rw [List.foldl_cons, List.foldl_cons, Bb (by rw [uZ]; omega), Ge h, ih _ (eL eH h n)]
set_option maxHeartbeats 2000000 in
theorem EU (v : Value) (n : Nat) (xs : List Value) (w : World) (hn : n <= 1000000) (ho : w.ownsRow 0 2 1 v n xs) :
 Calls Tryz.prog 112 #[v, .int .i64 0, .int .i64 0] w fun e w' => e = .returned v /\ w = w' := by
 rcases kY ho with ⟨rfl, rfl, rfl⟩ | ⟨g, cap, cur, rfl, hob, hg, hnc, hm, hs, ht, hx, _⟩
 · go_enter Tryz.func112, Tryz.ntmps112
   go_wp2_with fail
   go_ret;exact ⟨rfl, rfl⟩
 · have a1 : (0 : Int) <= (n : Int) := by omega
   have a2 : (n : Int) <= (cap : Int) := by omega
   clear ho hob hg hs ht hx
   go_enter Tryz.func112, Tryz.ntmps112
   go_wp2_with fail
   go_ret;exact ⟨rfl, rfl⟩
theorem Ck {w : World} {B n : Nat} {e : TypeId} {size : Nat} {v : Value} {xs : List Value} (h : w.ownsRow 0 e size v n xs) (hb : ∀ b, v.ownBlock = some b -> B <= b) : w.ownsRow B e size v n xs := by
 refine ⟨h.1, ?_⟩
 rcases h.2 with h2 | ⟨g, cap, cur, h1, h2, h3⟩
 · exact .inl h2
 · exact .inr ⟨g, cap, cur, h1, hb g (by rw [h1]; rfl), h3⟩
theorem zZ (l : List Int) : ∀ u ∈ l.map (Value.int .i64), u.oneCell' = true := fun u hu => by
 obtain ⟨n, -, rfl⟩ := List.mem_map.1 hu;rfl
set_option maxHeartbeats 8000000 in
set_option maxRecDepth 100000 in
theorem Eg (B : Nat) (v : Value) (ks : List Int) (n : Int) (most : Nat) (w : World) (hm : 1 <= most) (hm16 : most <= 1000) (hk : ks.length <= most) (hr : bG lsL ks) (hB : B <= w.heap.size) (ho : w.ownsRow B 2 1 v ks.length (ks.map (Value.int .i64))) :
 Calls Tryz.prog 65 #[v, .int .i64 n, .int .i64 (most : Nat)] w fun e w' => ∃ v', e = .returned v' /\ w'.ownsRow B 2 1 v' (eY most ks n).length ((eY most ks n).map (Value.int .i64)) /\ aF (fun b => v.ownBlock = some b) w w' := by
 have o0 := fF ho (Nat.zero_le B);have SR := aA (Ib v ks.length ks n w (by omega) o0 hr);have HO := aA ho;have HR := aA hr;obtain ⟨av, cv, hv⟩ := cJ ho;subst hv;clear o0 ho hr;cases hh : has ks n with
 | true =>
   rw [hh] at SR;have E := aA (show eY most ks n = ks by unfold eY; rw [if_pos hh]);clear hh
   go_enter Tryz.func65, Tryz.ntmps65
   go_wp2_with fail
   refine SR.out.mono ?_;rintro e w1 ⟨rfl, q, rfl⟩
   go_wp2_with fail
   go_ret;refine ⟨_, rfl, ?_, (aF.refl _ w).drewN q⟩;rw [E.out];exact dO (row := none) HO.out ((aF.refl _ w).drewN q) (fun b hb => by simp)
 | false =>
   rw [hh] at SR;have hh' : ¬ has ks n = true := by rw [hh]; decide
   have E := aA (show eY most ks n = (eU lsL ks n).drop ((eU lsL ks n).length - most) by unfold eY; rw [if_neg hh']);have EL := aA (oN hh');have EM := aA (show (ks.map (Value.int .i64)).take (pos lsL ks n) ++ Value.int .i64 n :: (ks.map (Value.int .i64)).drop (pos lsL ks n) = (eU lsL ks n).map (Value.int .i64) by rw [zI hh', List.map_append, List.map_cons, List.map_take, List.map_drop]);have HP := aA (Ch ks n);obtain ⟨pk, hpk⟩ : ∃ l, eU lsL ks n = l := ⟨_, rfl⟩;rw [hpk] at E EL EM;obtain ⟨ps, hps⟩ : ∃ p, pos lsL ks n = p := ⟨_, rfl⟩;rw [hps] at SR HP EM;clear hh hh' hpk hps
   go_enter Tryz.func65, Tryz.ntmps65
   go_wp2_with fail
   refine SR.out.mono ?_;rintro e w1 ⟨rfl, q, rfl⟩;have KD := (aF.refl (fun b => (Value.slice av ks.length cv).ownBlock = some b) w).drewN q;have o1 := dO (row := none) HO.out ((aF.refl (fun i => (none : Option Nat) = some i) w).drewN q) (fun b hb => by simp);have hs1 : (w.drewN q).heap.size = w.heap.size := rfl;generalize w.drewN q = W at *;have NB := heap_alloc_new W (.cells #[.int .i64 n] 2);have BA := (Below.refl W.heap.size W).alloc (Nat.le_refl _) (.cells #[.int .i64 n] 2);have o2 := bH o1 BA;have IL := aA (KB (.slice av ks.length cv) ks.length ps W.heap.size (ks.map (Value.int .i64)) (.int .i64 n) (W.alloc (.cells #[.int .i64 n] 2)) (by omega) HP.out (fF o2 (Nat.zero_le _)) NB (fun e => by have := (o1.lt _ e).2; omega) (zZ ks) rfl);have KA := aA (KD.trans (aE BA (fun b => (Value.slice av ks.length cv).ownBlock = some b)) (fun i hi _ => hi));have HLB := aA (fun b (hb : (Value.slice av ks.length cv).ownBlock = some b) => (o1.lt b hb));rw [hs1] at IL;clear SR NB BA o1 o2 KD
   go_wp2_with fail
   refine IL.out.mono ?_;rintro e w2 ⟨v1, rfl, o3, hg3, hb3⟩;rw [EM.out] at o3;have hlen : (pk.map (Value.int .i64)).length = ks.length + 1 := by rw [List.length_map, EL.out]
   rw [hlen] at o3;obtain ⟨a1, c1, hv1⟩ := cJ o3;subst hv1;have K3 := aA (KA.out.grown hg3 (fun k hk => .inl hk))
   have HB1 := aA (show ∀ b, (Value.slice a1 (ks.length + 1) c1).ownBlock = some b -> B <= b by
    intro b hb
    rcases hb3 with hb3 | ⟨b', hb', hle⟩
    · exact (HLB.out b (hb3.symm.trans hb)).1
    · rw [hb'] at hb
      cases hb;rw [World.size_alloc] at hle;omega)
   have HB2 := aA (show ∀ b, (Value.slice a1 (ks.length + 1) c1).ownBlock = some b -> (Value.slice av ks.length cv).ownBlock = some b \/ w.heap.size <= b by
    intro b hb
    rcases hb3 with hb3 | ⟨b', hb', hle⟩
    · exact .inl (hb3.symm.trans hb)
    · rw [hb'] at hb
      cases hb;rw [World.size_alloc] at hle;exact .inr (by omega))
   have O3 := aA o3;clear o3 hg3 hb3 IL KA;have m1 : ((ks.length + 1 : Nat) : Int) = (ks.length : Int) + 1 := rfl
   by_cases hle : ks.length + 1 <= most
   · have CD := aA (EU (.slice a1 (ks.length + 1) c1) (ks.length + 1) _ w2 (by omega) O3.out)
     have a2 : max (0 : Int) ((ks.length : Int) + 1 - (most : Int)) = 0 := by omega
     have EE := aA (show eY most ks n = pk by rw [E.out, EL.out, show ks.length + 1 - most = 0 by omega, List.drop_zero])
     go_wp2_with fail
     refine CD.out.mono ?_;rintro e w3 ⟨rfl, rfl⟩
     go_wp2_with fail
     go_ret;refine ⟨_, rfl, ?_, K3.out⟩;rw [EE.out, EL.out];exact Ck O3.out HB1.out
   · have CD := KH (.slice a1 (ks.length + 1) c1) (ks.length + 1) 0 (pk.map (Value.int .i64)) w2 (by omega) (by omega) O3.out (zZ pk)
     have CD2 := aA (show Calls Tryz.prog 112 #[.slice a1 (ks.length + 1) c1, .int .i64 0, .int .i64 1] w2 fun e w' => xR w2 w' 2 (.slice a1 (ks.length + 1) c1) ((pk.map (Value.int .i64)).eraseIdx 0) e from CD);have a2 : max (0 : Int) ((ks.length : Int) + 1 - (most : Int)) = 1 := by omega
     have EE := aA (show eY most ks n = pk.drop 1 by rw [E.out, EL.out, show ks.length + 1 - most = 1 by omega]);clear CD
     go_wp2_with fail
     refine CD2.out.mono ?_;rintro e w3 ⟨v2, rfl, o4, hg4, hb4⟩
     have e1 : (pk.map (Value.int .i64)).eraseIdx 0 = (pk.drop 1).map (Value.int .i64) := by
      cases pk with
      | nil => rfl
      | cons x r => rfl
     rw [e1] at o4;have hlen2 : ((pk.drop 1).map (Value.int .i64)).length = (pk.drop 1).length := by simp
     rw [hlen2] at o4;have O4 := aA o4;have K4 := aA (K3.out.grown hg4 (fun k hk => HB2.out k hk));have HB4 := aA (fun b (hb : v2.ownBlock = some b) => HB1.out b (hb4.symm.trans hb));clear o4 hg4 hb4
     go_wp2_with fail
     go_ret;refine ⟨_, rfl, ?_, K4.out⟩;rw [EE.out];exact Ck O4.out HB4.out
end
end Go.Proofs.YtapcjnoaofmmiaaGreatDoor
