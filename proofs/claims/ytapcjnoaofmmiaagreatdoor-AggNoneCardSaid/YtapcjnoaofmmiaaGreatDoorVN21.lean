/-
 No statement: what AggNoneCard needs, of the texts OFold, OFoldL, OBest.
-/
import Derived.Test.YtapcjnoaofmmiaaGreatDoorVN20
namespace Go.Proofs.YtapcjnoaofmmiaaGreatDoor
section
open Go.RowKit Go.Shelf
attribute [local go_sem] Oper.semAt_some
theorem dE {B : Nat} {vs : Array Value} {t : TypeId} {fz : Nat × Nat} {W W' : World} {row : Option Nat} (h : W.heap[B]? = some (.cells vs t fz)) (hg : W.grownBy W' row) (hr : ∀ r, row = some r -> ∃ o : Obj, W.heap[r]? = some o /\ o.isCells = false) : W'.heap[B]? = some (.cells vs t fz) :=
 (hg.block B (aC h) (fun e => by obtain ⟨o, ho, hc⟩ := hr B e.symm; rw [h] at ho; cases ho; cases hc)).trans h
theorem dQ {W W' : World} (h : Below W.heap.size W W') (D : Nat) : KeepsFrom D W W' :=
 (KeepsOthers.of_grownBy (row := none) ⟨h.os, h.tape, h.output, h.size, fun k hk _ => h.block k hk⟩ (fun j o e => by cases e)).from D
abbrev DX (bl ba bp : Nat) (L : List Q64) (w0 : World) : Prop := SeqStopsK Fence.wide 3 Tryz.prog 107 (tkF bl ba bp) tkE (Below w0.heap.size) (fun ys => ys = L) (fun pre => pre <+: L) L.length w0
theorem jX {n₀ : Nat} {w : World} (hn : n₀ <= w.heap.size) (W : World) (l : Nat) (o o' : Obj) (hl : w.heap.size <= l) (h : W.heap[l]? = some o) : Below n₀ W (W.putObj l o') :=
 (Below.refl n₀ W).grown (grownBy_putObj' W l o') (by have := (Array.getElem?_eq_some_iff.1 h).1; omega) (fun k e => by cases e; omega)
set_option maxRecDepth 100000 in
set_option maxHeartbeats 4000000 in
theorem Fm (bl ba bp : Nat) (L : List Q64) (w0 w : World) (hL : L.length <= 1000) (hseq : DX bl ba bp L w0) (hb0 : Below w0.heap.size w0 w) (F : List Q64 -> Int) (hF0 : F [] = 0)
 (hst : ∀ (pre : List Q64) (q : Q64) (W : World), pre.length < L.length -> Calls Tryz.prog 60 #[.int .i64 (F pre), iX q.1] W fun e W' => e = .returned (.int .i64 (F (pre ++ [q]))) /\ Below W.heap.size W W') :
 CallsIn Fence.wide 4 Tryz.prog 59 #[.func (.func 107) #[] (tkF bl ba bp), .int .i64 0, .func (.func 60) #[] #[]] w fun e w' => e = .returned (.int .i64 (F L)) /\ Below w.heap.size w w' := by
 refine callsIn_of_wp_marks Tryz.func59 rfl trivial ?_ rfl;simp only [Tryz.ntmps59, List.size_toArray, List.length_cons, List.length_nil, Nat.reduceAdd, Nat.reduceSub, Array.replicate_succ, Array.replicate_zero, List.push_toArray, List.append_toArray, List.nil_append, List.cons_append]
 gi_wp2
 obtain ⟨B, hB0⟩ : ∃ B, w.heap.size = B := ⟨_, rfl⟩;have bF := (Boxed.new w 132 (.func (.func 60) #[] #[])).alloc (.cells #[.int .i64 0] 2);have bS := Boxed.new (w.alloc (.cells #[.func (.func 60) #[] #[]] 132)) 2 (.int .i64 0);have hBw : Below B w ((w.alloc (.cells #[.func (.func 60) #[] #[]] 132)).alloc (.cells #[.int .i64 0] 2)) := ((Below.refl _ w).alloc (by omega) _).alloc (by simp; omega) _;have hsz : ((w.alloc (.cells #[.func (.func 60) #[] #[]] 132)).alloc (.cells #[.int .i64 0] 2)).heap.size = B + 2 := by simp; omega
 simp only [World.size_alloc, hB0] at bF bS |-
 obtain ⟨W0, hW0⟩ : ∃ W0, (w.alloc (.cells #[.func (.func 60) #[] #[]] 132)).alloc (.cells #[.int .i64 0] 2) = W0 := ⟨_, rfl⟩;rw [hW0] at bF bS hBw hsz |-
 have hz0 : w0.heap.size <= B := by have := hb0.size; omega
 clear hW0
 refine wpIn_rangeFunc_ownH rfl (by decide) (gf := 107) (lb := tkF bl ba bp) rfl trivial (enters_of Tryz.func107 (by kernel_rfl) rfl)
  hseq belowK_t (belowK_b (by omega)) (hb0.trans (hBw.mono hz0)) (fun _ => rfl)
  (fun pre W => (Boxed W (B + 1) 2 (.int .i64 (F pre)) /\ Boxed W B 132 (.func (.func 60) #[] #[])) /\ Below B w W)
  (fun _ _ _ => False)
  (OwnFrom.and (OwnFrom.and (Own.from (boxed_own _ _ _) _) (Own.from (boxed_own _ _ _) _)) (ownFrom_below (by omega) (by omega)))
  (fun _ _ _ _ _ hs _ _ => hs)
  ⟨⟨by rw [hF0]; exact bS, bF⟩, hBw⟩
  (fun x a' W => ∃ Bx, B + 1 < Bx /\ W.heap[Bx]? = some (aL x.1.1 x.1.2) /\ a' = { tmps := #[.func (.func 107) #[] (tkF bl ba bp), .int .i64 0, .func (.func 60) #[] #[], undef, undef, .pointer (some ⟨B, 0, none⟩), .int .i64 0, .pointer (some ⟨B + 1, 0, none⟩), .pointer (some ⟨Bx, 0, none⟩), .int .i64 0, .func (.func 107) #[] (tkF bl ba bp), iX x.1, undef, undef, undef, undef, undef], defers := [] })
  (fun x a' _ X Y row hs hg hr => by obtain ⟨Bx, h1, h2, h3⟩ := hs; exact ⟨Bx, h1, dE h2 hg (fun r e => (hr r e).2), h3⟩)
  ?assign ?body ?done ?stop
 case assign =>
  rintro l pre x W K ⟨⟨bS1, bF1⟩, hB1⟩ hK;have h2 := bS1.lt
  gi_wp2
  exact hK _ _ ((KeepsOthers.alloc _ _).from _) ((Below.refl _ W).alloc (by omega) _) ⟨⟨bS1.alloc _, bF1.alloc _⟩, hB1.alloc (by omega) _⟩ ⟨W.heap.size, bS1.lt, heap_alloc_new W _, rfl⟩
 case body =>
  rintro l pre x a' W hl ⟨r, hr⟩ ⟨⟨bS1, bF1⟩, hB1⟩ ⟨Bx, hBx, bX, rfl⟩ hlt;obtain ⟨⟨x0, x1⟩, -⟩ := two bX;have c1 := bS1.cell;have c2 := bF1.cell;have ST := aA (hst pre x W hlt);have hz := bS1.lt
  gi_wp2_with (refine ⟨trivial, ?_⟩; gi_at_call 60; refine (CallsIn.inRound l (callsIn_wide.2 ST.out)).mono ?_; rintro e W2 ⟨rfl, hb2⟩; have bS2 : Boxed W2 (B + 1) 2 (.int .i64 (F pre)) := (hb2.block _ bS1.lt).trans bS1; have bF2 : Boxed W2 B 132 (.func (.func 60) #[] #[]) := (hb2.block _ bF1.lt).trans bF1; have d1 := bS2.cell; have d2 := bF2.cell; have f1 := bS2.frozen)
  exact ⟨(dQ hb2 _).trans ((KeepsOthers.setCell _ _ _).from _), (hb2.mono (by omega)).setCell (p := ⟨B + 1, 0, none⟩) (by simp; omega) _, ⟨bS2.set _, bF2.other (by omega) _⟩, (hB1.trans (hb2.mono (by omega))).setCell (p := ⟨B + 1, 0, none⟩) (by simp) _⟩
 case done =>
  rintro D ys W hD rfl ⟨⟨bS1, bF1⟩, hB1⟩ hK;have c1 := bS1.cell
  gi_wp2
  refine ⟨by simp, .inl ⟨_, _, rfl, run_takeDeferred hK, ?_⟩⟩;exact ⟨_, results_tmp rfl _ _ _, rfl, by rw [hB0]; exact hB1.trans (jX (w := W0) (by omega) W D _ _ hD hK)⟩
 case stop =>
  rintro D c pre W _ _ h _;exact h.elim
set_option maxRecDepth 100000 in
set_option maxHeartbeats 4000000 in
theorem Fl (bl ba bp : Nat) (L : List Q64) (w0 w : World) (hL : L.length <= 1000) (hseq : DX bl ba bp L w0) (hb0 : Below w0.heap.size w0 w) (F : List Q64 -> Int) (hF0 : F [] = 0)
 (hst : ∀ (pre : List Q64) (q : Q64) (W : World), pre.length < L.length -> Calls Tryz.prog 61 #[.int .i64 (F pre), iX q.1] W fun e W' => e = .returned (.int .i64 (F (pre ++ [q]))) /\ Below W.heap.size W W') :
 CallsIn Fence.wide 4 Tryz.prog 59 #[.func (.func 107) #[] (tkF bl ba bp), .int .i64 0, .func (.func 61) #[] #[]] w fun e w' => e = .returned (.int .i64 (F L)) /\ Below w.heap.size w w' := by
 refine callsIn_of_wp_marks Tryz.func59 rfl trivial ?_ rfl;simp only [Tryz.ntmps59, List.size_toArray, List.length_cons, List.length_nil, Nat.reduceAdd, Nat.reduceSub, Array.replicate_succ, Array.replicate_zero, List.push_toArray, List.append_toArray, List.nil_append, List.cons_append]
 gi_wp2
 obtain ⟨B, hB0⟩ : ∃ B, w.heap.size = B := ⟨_, rfl⟩;have bF := (Boxed.new w 132 (.func (.func 61) #[] #[])).alloc (.cells #[.int .i64 0] 2);have bS := Boxed.new (w.alloc (.cells #[.func (.func 61) #[] #[]] 132)) 2 (.int .i64 0);have hBw : Below B w ((w.alloc (.cells #[.func (.func 61) #[] #[]] 132)).alloc (.cells #[.int .i64 0] 2)) := ((Below.refl _ w).alloc (by omega) _).alloc (by simp; omega) _;have hsz : ((w.alloc (.cells #[.func (.func 61) #[] #[]] 132)).alloc (.cells #[.int .i64 0] 2)).heap.size = B + 2 := by simp; omega
 simp only [World.size_alloc, hB0] at bF bS |-
 obtain ⟨W0, hW0⟩ : ∃ W0, (w.alloc (.cells #[.func (.func 61) #[] #[]] 132)).alloc (.cells #[.int .i64 0] 2) = W0 := ⟨_, rfl⟩;rw [hW0] at bF bS hBw hsz |-
 have hz0 : w0.heap.size <= B := by have := hb0.size; omega
 clear hW0
 refine wpIn_rangeFunc_ownH rfl (by decide) (gf := 107) (lb := tkF bl ba bp) rfl trivial (enters_of Tryz.func107 (by kernel_rfl) rfl)
  hseq belowK_t (belowK_b (by omega)) (hb0.trans (hBw.mono hz0)) (fun _ => rfl)
  (fun pre W => (Boxed W (B + 1) 2 (.int .i64 (F pre)) /\ Boxed W B 132 (.func (.func 61) #[] #[])) /\ Below B w W)
  (fun _ _ _ => False)
  (OwnFrom.and (OwnFrom.and (Own.from (boxed_own _ _ _) _) (Own.from (boxed_own _ _ _) _)) (ownFrom_below (by omega) (by omega)))
  (fun _ _ _ _ _ hs _ _ => hs)
  ⟨⟨by rw [hF0]; exact bS, bF⟩, hBw⟩
  (fun x a' W => ∃ Bx, B + 1 < Bx /\ W.heap[Bx]? = some (aL x.1.1 x.1.2) /\ a' = { tmps := #[.func (.func 107) #[] (tkF bl ba bp), .int .i64 0, .func (.func 61) #[] #[], undef, undef, .pointer (some ⟨B, 0, none⟩), .int .i64 0, .pointer (some ⟨B + 1, 0, none⟩), .pointer (some ⟨Bx, 0, none⟩), .int .i64 0, .func (.func 107) #[] (tkF bl ba bp), iX x.1, undef, undef, undef, undef, undef], defers := [] })
  (fun x a' _ X Y row hs hg hr => by obtain ⟨Bx, h1, h2, h3⟩ := hs; exact ⟨Bx, h1, dE h2 hg (fun r e => (hr r e).2), h3⟩)
  ?assign ?body ?done ?stop
 case assign =>
  rintro l pre x W K ⟨⟨bS1, bF1⟩, hB1⟩ hK;have h2 := bS1.lt
  gi_wp2
  exact hK _ _ ((KeepsOthers.alloc _ _).from _) ((Below.refl _ W).alloc (by omega) _) ⟨⟨bS1.alloc _, bF1.alloc _⟩, hB1.alloc (by omega) _⟩ ⟨W.heap.size, bS1.lt, heap_alloc_new W _, rfl⟩
 case body =>
  rintro l pre x a' W hl ⟨r, hr⟩ ⟨⟨bS1, bF1⟩, hB1⟩ ⟨Bx, hBx, bX, rfl⟩ hlt;obtain ⟨⟨x0, x1⟩, -⟩ := two bX;have c1 := bS1.cell;have c2 := bF1.cell;have ST := aA (hst pre x W hlt);have hz := bS1.lt
  gi_wp2_with (refine ⟨trivial, ?_⟩; gi_at_call 61; refine (CallsIn.inRound l (callsIn_wide.2 ST.out)).mono ?_; rintro e W2 ⟨rfl, hb2⟩; have bS2 : Boxed W2 (B + 1) 2 (.int .i64 (F pre)) := (hb2.block _ bS1.lt).trans bS1; have bF2 : Boxed W2 B 132 (.func (.func 61) #[] #[]) := (hb2.block _ bF1.lt).trans bF1; have d1 := bS2.cell; have d2 := bF2.cell; have f1 := bS2.frozen)
  exact ⟨(dQ hb2 _).trans ((KeepsOthers.setCell _ _ _).from _), (hb2.mono (by omega)).setCell (p := ⟨B + 1, 0, none⟩) (by simp; omega) _, ⟨bS2.set _, bF2.other (by omega) _⟩, (hB1.trans (hb2.mono (by omega))).setCell (p := ⟨B + 1, 0, none⟩) (by simp) _⟩
 case done =>
  rintro D ys W hD rfl ⟨⟨bS1, bF1⟩, hB1⟩ hK;have c1 := bS1.cell
  gi_wp2
  refine ⟨by simp, .inl ⟨_, _, rfl, run_takeDeferred hK, ?_⟩⟩;exact ⟨_, results_tmp rfl _ _ _, rfl, by rw [hB0]; exact hB1.trans (jX (w := W0) (by omega) W D _ _ hD hK)⟩
 case stop =>
  rintro D c pre W _ _ h _;exact h.elim
end
section
open Go.RowKit Go.Shelf
attribute [local go_sem] Oper.semAt_some
theorem xR {w : World} {B : Nat} {e : TypeId} {size : Nat} {v : Value} {n : Nat} {xs : List Value} (h : w.ownsRow B e size v n xs) : ∀ g, v.ownBlock = some g -> B <= g := by
 intro g hg
 rcases h.2 with ⟨rfl, _⟩ | ⟨g', cap, cur, rfl, hb, _⟩
 · cases hg
 · simp only [Value.ownBlock, Option.some.injEq] at hg
   omega
theorem BZ {w w' : World} {B : Nat} {e : TypeId} {size : Nat} {v : Value} {n : Nat} {xs : List Value} (h : w.ownsRow B e size v n xs) (hk : aG (fun b => v.ownBlock = some b) w w') (D : Nat) : KeepsFrom D w w' :=
 ⟨hk.size, fun k o _ h0 ho => hk.heap h0 (fun hg => by
  rcases h.2 with ⟨rfl, _⟩ | ⟨g', cap, cur, rfl, hb, hgb, _⟩
  · cases hg
  · simp only [Value.ownBlock, Option.some.injEq] at hg
    subst hg;rw [hgb] at h0;cases h0;cases ho)⟩
abbrev ivK (l : List Int) : List Value := l.map (Value.int .i64)
abbrev oO (most : Nat) (pre : List Q64) : List Int := pre.foldl (fun ks q => eN most ks q.1.1) []
theorem BC (most : Nat) (pre : List Q64) (q : Q64) : oO most (pre ++ [q]) = eN most (oO most pre) q.1.1 := by simp [oO]
theorem AY (most : Nat) : ∀ (pre : List Q64) (ks : List Int), bV lsL ks -> ks.length <= most -> bV lsL (pre.foldl (fun ks q => eN most ks q.1.1) ks) /\ (pre.foldl (fun ks q => eN most ks q.1.1) ks).length <= most
 | [], _, h, hl => ⟨h, hl⟩
 | _ :: pre, _, h, hl => AY most pre _ (vK h _) (Dd hl _)
set_option maxRecDepth 100000 in
set_option maxHeartbeats 4000000 in
theorem Fk (bl ba bp ea : Nat) (x : AG) (p : PA) (most : Nat) (L : List Q64) (w0 w : World) (hK : x.k = (most : Int)) (hm : 1 <= most) (hm16 : most <= 1000) (hea : w.heap[ea]? = some (agP x p)) (hseq : DX bl ba bp L w0) (hb0 : Below w0.heap.size w0 w) :
 CallsIn Fence.wide 4 Tryz.prog 63 #[.func (.func 107) #[] (tkF bl ba bp), .slice none 0 0, .func (.func 64) #[] #[.pointer (some ⟨ea, 0, none⟩)]] w fun e w' =>
  ∃ v, e = .returned v /\ w'.ownsRow w.heap.size 2 1 v (oO most L).length (ivK (oO most L)) /\ Below w.heap.size w w' := by
 refine callsIn_of_wp_marks Tryz.func63 rfl trivial ?_ rfl;simp only [Tryz.ntmps63, List.size_toArray, List.length_cons, List.length_nil, Nat.reduceAdd, Nat.reduceSub, Array.replicate_succ, Array.replicate_zero, List.push_toArray, List.append_toArray, List.nil_append, List.cons_append]
 gi_wp2
 obtain ⟨B, hB0⟩ : ∃ B, w.heap.size = B := ⟨_, rfl⟩;have bF := (Boxed.new w 136 (.func (.func 64) #[] #[.pointer (some ⟨ea, 0, none⟩)])).alloc (.cells #[.slice none 0 0] 51);have bS := Boxed.new (w.alloc (.cells #[.func (.func 64) #[] #[.pointer (some ⟨ea, 0, none⟩)]] 136)) 51 (.slice none 0 0);have hBw : Below B w ((w.alloc (.cells #[.func (.func 64) #[] #[.pointer (some ⟨ea, 0, none⟩)]] 136)).alloc (.cells #[.slice none 0 0] 51)) := ((Below.refl _ w).alloc (by omega) _).alloc (by simp; omega) _;have hsz : ((w.alloc (.cells #[.func (.func 64) #[] #[.pointer (some ⟨ea, 0, none⟩)]] 136)).alloc (.cells #[.slice none 0 0] 51)).heap.size = B + 2 := by simp; omega
 simp only [World.size_alloc, hB0] at bF bS |-
 obtain ⟨W0, hW0⟩ : ∃ W0, (w.alloc (.cells #[.func (.func 64) #[] #[.pointer (some ⟨ea, 0, none⟩)]] 136)).alloc (.cells #[.slice none 0 0] 51) = W0 := ⟨_, rfl⟩;rw [hW0] at bF bS hBw hsz |-
 have hz0 : w0.heap.size <= B := by have := hb0.size; omega
 have hel : ea < B := by have := aC hea; omega
 clear hW0
 refine wpIn_rangeFunc_ownH rfl (by decide) (gf := 107) (lb := tkF bl ba bp) rfl trivial (enters_of Tryz.func107 (by kernel_rfl) rfl)
  hseq belowK_t (belowK_b (by omega)) (hb0.trans (hBw.mono hz0)) (fun _ => rfl)
  (fun pre W => ((∃ v, Boxed W (B + 1) 51 v /\ W.ownsRow (B + 2) 2 1 v (oO most pre).length (ivK (oO most pre)) /\ True) /\ Boxed W B 136 (.func (.func 64) #[] #[.pointer (some ⟨ea, 0, none⟩)])) /\ Below B w W)
  (fun _ _ _ => False)
  (OwnFrom.and (OwnFrom.and (Own.from (holdsRow_own (B + 2) (B + 1) _ _ 1 (fun pre => (oO most pre).length) (fun pre => ivK (oO most pre)) (fun _ _ => True)) _) (Own.from (boxed_own _ _ _) _)) (ownFrom_below (by omega) (by omega)))
  (fun _ _ _ _ _ hs _ _ => hs)
  ⟨⟨⟨_, bS, World.ownsRow_nil _ _ _ _, trivial⟩, bF⟩, hBw⟩
  (fun x a' W => ∃ Bx, B + 1 < Bx /\ W.heap[Bx]? = some (aL x.1.1 x.1.2) /\ a' = { tmps := #[.func (.func 107) #[] (tkF bl ba bp), .slice none 0 0, .func (.func 64) #[] #[.pointer (some ⟨ea, 0, none⟩)], undef, undef, .pointer (some ⟨B, 0, none⟩), .slice none 0 0, .pointer (some ⟨B + 1, 0, none⟩), .pointer (some ⟨Bx, 0, none⟩), .slice none 0 0, .func (.func 107) #[] (tkF bl ba bp), iX x.1, undef, undef, undef, undef, undef], defers := [] })
  (fun x a' _ X Y row hs hg hr => by obtain ⟨Bx, h1, h2, h3⟩ := hs; exact ⟨Bx, h1, dE h2 hg (fun r e => (hr r e).2), h3⟩)
  ?assign ?body ?done ?stop
 case assign =>
  rintro l pre x W K ⟨⟨⟨v, bS1, rS1, -⟩, bF1⟩, hB1⟩ hK;have h2 := bS1.lt
  gi_wp2
  exact hK _ _ ((KeepsOthers.alloc _ _).from _) ((Below.refl _ W).alloc (by omega) _) ⟨⟨⟨v, bS1.alloc _, rS1.alloc _, trivial⟩, bF1.alloc _⟩, hB1.alloc (by omega) _⟩ ⟨W.heap.size, bS1.lt, heap_alloc_new W _, rfl⟩
 case body =>
  rintro l pre q a' W hl ⟨r, hr⟩ ⟨⟨⟨v, bS1, rS1, -⟩, bF1⟩, hB1⟩ ⟨Bx, hBx, bX, rfl⟩ hlt;obtain ⟨⟨x0, x1⟩, -⟩ := two bX;have c1 := bS1.cell;have c2 := bF1.cell;have hz := bS1.lt;have hlx := aC bX;obtain ⟨k1, k2⟩ := AY most pre [] List.Pairwise.nil (Nat.zero_le _);have ST := aA (BM (B + 2) x p ea v (oO most pre) q.1.1 q.1.2 most W hK hm hm16 k2 k1 (by omega) rS1 ((hB1.block ea (by omega)).trans hea));have hrb := xR rS1;have hrk := fun W2 hk => BZ (w' := W2) rS1 hk
  obtain ⟨av, cv, rfl⟩ := cI rS1
  gi_wp2_with (refine ⟨trivial, ?_⟩; gi_at_call 64; refine (CallsIn.inRound l (callsIn_wide.2 ST.out)).mono ?_; rintro e W2 ⟨v', rfl, rS2, hk2⟩; obtain ⟨av2, cv2, rfl⟩ := cI rS2; have bS2 := (show W2.heap[B + 1]? = _ from hk2.heap bS1 (fun h => by have := hrb _ h; omega)); have bF2 : Boxed W2 B 136 (.func (.func 64) #[] #[.pointer (some ⟨ea, 0, none⟩)]) := hk2.heap bF1 (fun h => by have := hrb _ h; omega); have d1 := Boxed.cell bS2; have d2 := bF2.cell; have f1 := Boxed.frozen bS2)
  have hb2 : Below (B + 2) W W2 := hk2.below (fun i hi => hrb i hi) (by omega);have rb2 := xR rS2;refine ⟨(hrk _ hk2 _).trans ((KeepsOthers.setCell _ _ _).from _), (hb2.mono (by omega)).setCell (p := ⟨B + 1, 0, none⟩) (by simp; omega) _, ⟨⟨_, Boxed.set _ bS2, ?_, trivial⟩, bF2.other (by omega) _⟩, (hB1.trans (hb2.mono (by omega))).setCell (p := ⟨B + 1, 0, none⟩) (by simp) _⟩;rw [BC];exact rS2.kept (grownBy_setCell' W2 (B + 1) _) (.inr fun e => by have := rb2 _ e; omega)
 case done =>
  rintro D ys W hD rfl ⟨⟨⟨v, bS1, rS1, -⟩, bF1⟩, hB1⟩ hK;have c1 := bS1.cell
  gi_wp2
  refine ⟨by simp, .inl ⟨_, _, rfl, run_takeDeferred hK, ?_⟩⟩;exact ⟨_, results_tmp rfl _ _ _, _, rfl, e7 (ownsRow_putObj rS1 _ hK rfl) (by omega), by rw [hB0]; exact hB1.trans (jX (w := W0) (by omega) W D _ _ hD hK)⟩
 case stop =>
  rintro D c pre W _ _ h _;exact h.elim
end
section
open Go.RowKit Go.Shelf
attribute [local go_sem] Oper.semAt_some
abbrev cJ (o : Option Q64) : Int × Int := match o with | none => (0, 0) | some q => q.1
theorem jW {D n0 B : Nat} {w W : World} {t0 t1 : TypeId} {fv : Value} {v0 v1 u0 u1 : Int} {b : Bool} (bS : Boxed W (B + 3) t0 (.bool b)) (bT : W.heap[B + 2]? = some (aL u0 u1)) (bF : Boxed W B t1 fv) (bR : W.heap[B + 1]? = some (aL 0 0)) (hB1 : Below B w W) (hn : n0 <= B) :
 let V := ((W.setCell ⟨B + 2, 0, none⟩ (.int .i64 v0)).setCell ⟨B + 2, 1, none⟩ (.int .i64 v1)).setCell ⟨B + 3, 0, none⟩ (.bool true)
 KeepsFrom D W V /\ Below n0 W V /\ (((Boxed V (B + 3) t0 (.bool true) /\ V.heap[B + 2]? = some (aL v0 v1)) /\ (Boxed V B t1 fv /\ V.heap[B + 1]? = some (aL 0 0))) /\ Below B w V) := by
 intro V;have hk := (((aG.refl (fun b => b = B + 2 \/ b = B + 3) W).setCell (p := ⟨B + 2, 0, none⟩) (.inl (.inl rfl)) (.int .i64 v0)).setCell (p := ⟨B + 2, 1, none⟩) (.inl (.inl rfl)) (.int .i64 v1)).setCell (p := ⟨B + 3, 0, none⟩) (.inl (.inr rfl)) (.bool true);have hz := Boxed.lt bS;have hb : Below (B + 2) W V := hk.below (fun i hi => by omega) (by omega)
 have kS : (((W.setCell ⟨B + 2, 0, none⟩ (.int .i64 v0)).setCell ⟨B + 2, 1, none⟩ (.int .i64 v1))).heap[B + 3]? = _ :=
  (((aG.refl (fun b => b = B + 2) W).setCell (p := ⟨B + 2, 0, none⟩) (.inl rfl) (.int .i64 v0)).setCell (p := ⟨B + 2, 1, none⟩) (.inl rfl) (.int .i64 v1)).heap bS (by omega)
 refine ⟨(((KeepsOthers.setCell _ _ _).trans (KeepsOthers.setCell _ _ _)).trans (KeepsOthers.setCell _ _ _)).from _, hb.mono (by omega), ⟨⟨Boxed.set _ kS, ?_⟩, ?_, ?_⟩, hB1.trans (hb.mono (by omega))⟩
 · exact ((aG.refl (fun b => b = B + 3) _).setCell (p := ⟨B + 3, 0, none⟩) (.inl rfl) _).heap (fX bT _ _) (by omega)
 · exact (hb.block _ (by omega)).trans bF
 · exact (hb.block _ (by omega)).trans bR
theorem nF {K : Type} (less : K -> K -> Bool) (l : List K) (q : K) : aT less (l ++ [q]) = stB less (aT less l) q := by unfold aT; rw [List.foldl_append]; rfl
set_option maxRecDepth 100000 in
set_option maxHeartbeats 4000000 in
theorem FN (bl ba bp : Nat) (L : List Q64) (w0 w : World) (hseq : DX bl ba bp L w0) (hb0 : Below w0.heap.size w0 w) (less : Q64 -> Q64 -> Bool)
 (hst : ∀ (a b : Q64) (W : World), Calls Tryz.prog 113 #[iX a.1, iX b.1] W fun e W' => e = .returned (.bool (less a b)) /\ Below W.heap.size W W') :
 CallsIn Fence.wide 4 Tryz.prog 66 #[.func (.func 107) #[] (tkF bl ba bp), .func (.func 113) #[] #[]] w fun e w' => e = .returned (.tuple #[iX (cJ (aT less L)), .bool (aT less L).isSome]) /\ Below w.heap.size w w' := by
 refine callsIn_of_wp_marks Tryz.func66 rfl trivial ?_ rfl;simp only [Tryz.ntmps66, List.size_toArray, List.length_cons, List.length_nil, Nat.reduceAdd, Nat.reduceSub, Array.replicate_succ, Array.replicate_zero, List.push_toArray, List.append_toArray, List.nil_append, List.cons_append]
 gi_wp2
 obtain ⟨B, hB0⟩ : ∃ B, w.heap.size = B := ⟨_, rfl⟩;have bF := (((Boxed.new w 139 (.func (.func 113) #[] #[])).alloc (aL 0 0)).alloc (aL 0 0)).alloc (.cells #[.bool false] 4);have bR := heap_alloc_new (w.alloc (.cells #[.func (.func 113) #[] #[]] 139)) (aL 0 0);have bT := heap_alloc_new ((w.alloc (.cells #[.func (.func 113) #[] #[]] 139)).alloc (aL 0 0)) (aL 0 0);have bS := Boxed.new (((w.alloc (.cells #[.func (.func 113) #[] #[]] 139)).alloc (aL 0 0)).alloc (aL 0 0)) 4 (.bool false);have hBw : Below B w ((((w.alloc (.cells #[.func (.func 113) #[] #[]] 139)).alloc (aL 0 0)).alloc (aL 0 0)).alloc (.cells #[.bool false] 4)) := ((((Below.refl _ w).alloc (by omega) _).alloc (by simp; omega) _).alloc (by simp; omega) _).alloc (by simp; omega) _;have hsz : ((((w.alloc (.cells #[.func (.func 113) #[] #[]] 139)).alloc (aL 0 0)).alloc (aL 0 0)).alloc (.cells #[.bool false] 4)).heap.size = B + 4 := by simp; omega
 have bR2 : ((((w.alloc (.cells #[.func (.func 113) #[] #[]] 139)).alloc (aL 0 0)).alloc (aL 0 0)).alloc (.cells #[.bool false] 4)).heap[B + 1]? = some (aL 0 0) := by
  rw [World.size_alloc, hB0] at bR;exact ((((Below.refl (B + 2) ((w.alloc (.cells #[.func (.func 113) #[] #[]] 139)).alloc (aL 0 0))).alloc (by simp; omega) (aL 0 0)).alloc (by simp; omega) (.cells #[.bool false] 4)).block _ (by omega)).trans bR
 have bT2 : ((((w.alloc (.cells #[.func (.func 113) #[] #[]] 139)).alloc (aL 0 0)).alloc (aL 0 0)).alloc (.cells #[.bool false] 4)).heap[B + 2]? = some (aL 0 0) := by
  rw [World.size_alloc, World.size_alloc, hB0] at bT;exact (((Below.refl (B + 3) (((w.alloc (.cells #[.func (.func 113) #[] #[]] 139)).alloc (aL 0 0)).alloc (aL 0 0))).alloc (by simp; omega) (.cells #[.bool false] 4)).block _ (by omega)).trans bT
 clear bR bT;simp only [World.size_alloc, hB0] at bF bS |-
 obtain ⟨W0, hW0⟩ : ∃ W0, (((w.alloc (.cells #[.func (.func 113) #[] #[]] 139)).alloc (aL 0 0)).alloc (aL 0 0)).alloc (.cells #[.bool false] 4) = W0 := ⟨_, rfl⟩;rw [hW0] at bF bS bR2 bT2 hBw hsz;rw [show (((w.alloc (.cells #[.func (.func 113) #[] #[]] 139)).alloc (.cells #[.int .i64 0, .int .i64 0] 131)).alloc (.cells #[.int .i64 0, .int .i64 0] 131)).alloc (.cells #[.bool false] 4) = W0 from hW0];have hz0 : w0.heap.size <= B := by have := hb0.size; omega
 clear hW0
 refine wpIn_rangeFunc_ownH rfl (by decide) (gf := 107) (lb := tkF bl ba bp) rfl trivial (enters_of Tryz.func107 (by kernel_rfl) rfl)
  hseq belowK_t (belowK_b (by omega)) (hb0.trans (hBw.mono hz0)) (fun _ => rfl)
  (fun pre W => ((Boxed W (B + 3) 4 (.bool (aT less pre).isSome) /\ W.heap[B + 2]? = some (aL (cJ (aT less pre)).1 (cJ (aT less pre)).2)) /\ (Boxed W B 139 (.func (.func 113) #[] #[]) /\ W.heap[B + 1]? = some (aL 0 0))) /\ Below B w W)
  (fun _ _ _ => False)
  (OwnFrom.and (OwnFrom.and (OwnFrom.and (Own.from (boxed_own _ _ _) _) (fun s X Y row hs hg hr => dE hs hg (fun r e => (hr r e).2))) (OwnFrom.and (Own.from (boxed_own _ _ _) _) (fun s X Y row hs hg hr => dE hs hg (fun r e => (hr r e).2)))) (ownFrom_below (by omega) (by omega)))
  (fun _ _ _ _ _ hs _ _ => hs)
  ⟨⟨⟨bS, bT2⟩, bF, bR2⟩, hBw⟩
  (fun x a' W => ∃ Bx, B + 3 < Bx /\ W.heap[Bx]? = some (aL x.1.1 x.1.2) /\ a' = { tmps := #[.func (.func 107) #[] (tkF bl ba bp), .func (.func 113) #[] #[], undef, .pointer (some ⟨B, 0, none⟩), .pointer (some ⟨B + 1, 0, none⟩), .bool false, .pointer (some ⟨B + 2, 0, none⟩), .pointer (some ⟨B + 3, 0, none⟩), .pointer (some ⟨Bx, 0, none⟩), .func (.func 107) #[] (tkF bl ba bp), iX x.1, undef, undef, undef, undef, undef, undef, undef, undef, undef, undef, undef], defers := [] })
  (fun x a' _ X Y row hs hg hr => by obtain ⟨Bx, h1, h2, h3⟩ := hs; exact ⟨Bx, h1, dE h2 hg (fun r e => (hr r e).2), h3⟩)
  ?assign ?body ?done ?stop
 case assign =>
  rintro l pre x W K ⟨⟨⟨bS1, bT1⟩, bF1, bR1⟩, hB1⟩ hK;have h2 := bS1.lt
  gi_wp2
  exact hK _ _ ((KeepsOthers.alloc _ _).from _) ((Below.refl _ W).alloc (by omega) _) ⟨⟨⟨bS1.alloc _, (Below.heap_alloc W _ _ (aC bT1)).trans bT1⟩, bF1.alloc _, (Below.heap_alloc W _ _ (aC bR1)).trans bR1⟩, hB1.alloc (by omega) _⟩ ⟨W.heap.size, bS1.lt, heap_alloc_new W _, rfl⟩
 case body =>
  rintro l pre x a' W hl ⟨r, hr⟩ ⟨⟨⟨bS1, bT1⟩, bF1, bR1⟩, hB1⟩ ⟨Bx, hBx, bX, rfl⟩ hlt;have hz := bS1.lt;obtain ⟨⟨x0, x1⟩, -⟩ := two bX;have c1 := bS1.cell;have c2 := bF1.cell;have f1 := bS1.frozen;obtain ⟨⟨t0, t1⟩, g0, g1⟩ := two bT1;have hsn := nF less pre x;cases ho : aT less pre with
  | none =>
    rw [ho] at bS1 c1 bT1 t0 t1 hsn;simp only [Option.isSome_none] at c1 bS1
    gi_wp2
    refine ⟨fun _ h => (by cases h), ?_⟩
    gi_wp2
    obtain ⟨q1, q2, q3⟩ := jW (D := W0.heap.size) (n0 := w0.heap.size) (v0 := x.1.1) (v1 := x.1.2) bS1 bT1 bF1 bR1 hB1 hz0;refine ⟨q1, q2, ?_⟩;dsimp only;rw [hsn];exact q3
  | some b =>
    rw [ho] at bS1 c1 t0 t1 bT1 hsn;simp only [Option.isSome_some] at c1 bS1;have ST := aA (hst x b W);cases hlb : less x b with
    | true =>
      rw [hlb] at ST
      gi_wp2_with (refine ⟨trivial, ?_⟩; gi_at_call 113; refine (CallsIn.inRound l (callsIn_wide.2 ST.out)).mono ?_; rintro e W2 ⟨rfl, hb2⟩; have bX2 := (hb2.block _ (aC bX)).trans bX; have bT2' := (hb2.block _ (aC bT1)).trans bT1; have bS2 : Boxed W2 (B + 3) 4 (.bool true) := (hb2.block _ bS1.lt).trans bS1; obtain ⟨⟨x20, x21⟩, -⟩ := two bX2; obtain ⟨⟨t20, t21⟩, g20, g21⟩ := two bT2'; have f2 := bS2.frozen; have c21 := bS2.cell)
      have bF2 := (hb2.block _ bF1.lt).trans bF1;have bR2' := (hb2.block _ (aC bR1)).trans bR1;obtain ⟨q1, q2, q3⟩ := jW (D := W0.heap.size) (n0 := w0.heap.size) (v0 := x.1.1) (v1 := x.1.2) bS2 bT2' bF2 bR2' (hB1.trans (hb2.mono (by omega))) hz0;refine ⟨(dQ hb2 _).trans q1, (hb2.mono (by omega)).trans q2, ?_⟩;dsimp only;rw [hsn, show stB less (some b) x = some x by simp [stB, hlb]];exact q3
    | false =>
      rw [hlb] at ST
      gi_wp2_with (refine ⟨trivial, ?_⟩; gi_at_call 113; refine (CallsIn.inRound l (callsIn_wide.2 ST.out)).mono ?_; rintro e W2 ⟨rfl, hb2⟩)
      refine ⟨dQ hb2 _, hb2.mono (by omega), ?_⟩;dsimp only;rw [hsn, show stB less (some b) x = some b by simp [stB, hlb]];exact ⟨⟨⟨(hb2.block _ bS1.lt).trans bS1, (hb2.block _ (aC bT1)).trans bT1⟩, (hb2.block _ bF1.lt).trans bF1, (hb2.block _ (aC bR1)).trans bR1⟩, hB1.trans (hb2.mono (by omega))⟩
 case done =>
  rintro D ys W hD rfl ⟨⟨⟨bS1, bT1⟩, bF1, bR1⟩, hB1⟩ hK;have c1 := bS1.cell;obtain ⟨⟨t0, t1⟩, g0, g1⟩ := two bT1;obtain ⟨⟨r00, r01⟩, r0, r1⟩ := two bR1;have e0 : W.drew.frozen? ⟨B + 1, 0, none⟩ = false := r0;have e1 : W.drew.frozen? ⟨B + 1, 1, none⟩ = false := r1;have e2 : W.drew.cell? ⟨B + 1, 0, none⟩ = some (.int .i64 0) := r00;have e3 : W.drew.cell? ⟨B + 1, 1, none⟩ = some (.int .i64 0) := r01
  gi_wp2
  gi_region
  gi_wp2
  have hz := bS1.lt;obtain ⟨V, hV⟩ : ∃ V, ((W.setCell ⟨B + 1, 0, none⟩ (.int .i64 (cJ (aT less ys)).1)).setCell ⟨B + 1, 1, none⟩ (.int .i64 (cJ (aT less ys)).2)).drew = V := ⟨_, rfl⟩;have hkp := ((((aG.refl (fun b => b = B + 1) W).setCell (p := ⟨B + 1, 0, none⟩) (.inl rfl) (.int .i64 (cJ (aT less ys)).1)).setCell (p := ⟨B + 1, 1, none⟩) (.inl rfl) (.int .i64 (cJ (aT less ys)).2))).drew;have hT : V.heap[B + 1]? = some (aL (cJ (aT less ys)).1 (cJ (aT less ys)).2) := by rw [<- hV]; exact fX bR1 _ _
  rw [hV] at hkp |-
  have hKV := hkp.heap hK (by omega);have hBV : Below B w V := hB1.trans (hkp.below (fun i hi => by omega) (by omega));clear hV e0 e1 e2 e3 r00 r01 r0 r1 t0 t1 g0 g1 c1;refine ⟨by simp, .inl ⟨_, _, rfl, run_takeDeferred hKV, ?_⟩⟩;have hT2 : (V.putObj D (.deferred none)).heap[B + 1]? = some (aL (cJ (aT less ys)).1 (cJ (aT less ys)).2) := (World.putObj_heap_other (by omega)).trans hT;obtain ⟨⟨y0, y1⟩, -⟩ := two hT2;refine ⟨.tuple #[iX (cJ (aT less ys)), .bool (aT less ys).isSome], by simp [results, Tryz.f66, go_sem, y0, y1], rfl, ?_⟩;rw [hB0];exact hBV.trans (jX (w := W0) (by omega) V D _ _ hD hKV)
 case stop =>
  rintro D c pre W _ _ h _;exact h.elim
set_option maxRecDepth 100000 in
set_option maxHeartbeats 4000000 in
theorem FM (bl ba bp : Nat) (L : List Q64) (w0 w : World) (hseq : DX bl ba bp L w0) (hb0 : Below w0.heap.size w0 w) (less : Q64 -> Q64 -> Bool)
 (hst : ∀ (a b : Q64) (W : World), Calls Tryz.prog 114 #[iX a.1, iX b.1] W fun e W' => e = .returned (.bool (less a b)) /\ Below W.heap.size W W') :
 CallsIn Fence.wide 4 Tryz.prog 66 #[.func (.func 107) #[] (tkF bl ba bp), .func (.func 114) #[] #[]] w fun e w' => e = .returned (.tuple #[iX (cJ (aT less L)), .bool (aT less L).isSome]) /\ Below w.heap.size w w' := by
 refine callsIn_of_wp_marks Tryz.func66 rfl trivial ?_ rfl;simp only [Tryz.ntmps66, List.size_toArray, List.length_cons, List.length_nil, Nat.reduceAdd, Nat.reduceSub, Array.replicate_succ, Array.replicate_zero, List.push_toArray, List.append_toArray, List.nil_append, List.cons_append]
 gi_wp2
 obtain ⟨B, hB0⟩ : ∃ B, w.heap.size = B := ⟨_, rfl⟩;have bF := (((Boxed.new w 139 (.func (.func 114) #[] #[])).alloc (aL 0 0)).alloc (aL 0 0)).alloc (.cells #[.bool false] 4);have bR := heap_alloc_new (w.alloc (.cells #[.func (.func 114) #[] #[]] 139)) (aL 0 0);have bT := heap_alloc_new ((w.alloc (.cells #[.func (.func 114) #[] #[]] 139)).alloc (aL 0 0)) (aL 0 0);have bS := Boxed.new (((w.alloc (.cells #[.func (.func 114) #[] #[]] 139)).alloc (aL 0 0)).alloc (aL 0 0)) 4 (.bool false);have hBw : Below B w ((((w.alloc (.cells #[.func (.func 114) #[] #[]] 139)).alloc (aL 0 0)).alloc (aL 0 0)).alloc (.cells #[.bool false] 4)) := ((((Below.refl _ w).alloc (by omega) _).alloc (by simp; omega) _).alloc (by simp; omega) _).alloc (by simp; omega) _;have hsz : ((((w.alloc (.cells #[.func (.func 114) #[] #[]] 139)).alloc (aL 0 0)).alloc (aL 0 0)).alloc (.cells #[.bool false] 4)).heap.size = B + 4 := by simp; omega
 have bR2 : ((((w.alloc (.cells #[.func (.func 114) #[] #[]] 139)).alloc (aL 0 0)).alloc (aL 0 0)).alloc (.cells #[.bool false] 4)).heap[B + 1]? = some (aL 0 0) := by
  rw [World.size_alloc, hB0] at bR;exact ((((Below.refl (B + 2) ((w.alloc (.cells #[.func (.func 114) #[] #[]] 139)).alloc (aL 0 0))).alloc (by simp; omega) (aL 0 0)).alloc (by simp; omega) (.cells #[.bool false] 4)).block _ (by omega)).trans bR
 have bT2 : ((((w.alloc (.cells #[.func (.func 114) #[] #[]] 139)).alloc (aL 0 0)).alloc (aL 0 0)).alloc (.cells #[.bool false] 4)).heap[B + 2]? = some (aL 0 0) := by
  rw [World.size_alloc, World.size_alloc, hB0] at bT;exact (((Below.refl (B + 3) (((w.alloc (.cells #[.func (.func 114) #[] #[]] 139)).alloc (aL 0 0)).alloc (aL 0 0))).alloc (by simp; omega) (.cells #[.bool false] 4)).block _ (by omega)).trans bT
 clear bR bT;simp only [World.size_alloc, hB0] at bF bS |-
 obtain ⟨W0, hW0⟩ : ∃ W0, (((w.alloc (.cells #[.func (.func 114) #[] #[]] 139)).alloc (aL 0 0)).alloc (aL 0 0)).alloc (.cells #[.bool false] 4) = W0 := ⟨_, rfl⟩;rw [hW0] at bF bS bR2 bT2 hBw hsz;rw [show (((w.alloc (.cells #[.func (.func 114) #[] #[]] 139)).alloc (.cells #[.int .i64 0, .int .i64 0] 131)).alloc (.cells #[.int .i64 0, .int .i64 0] 131)).alloc (.cells #[.bool false] 4) = W0 from hW0];have hz0 : w0.heap.size <= B := by have := hb0.size; omega
 clear hW0
 refine wpIn_rangeFunc_ownH rfl (by decide) (gf := 107) (lb := tkF bl ba bp) rfl trivial (enters_of Tryz.func107 (by kernel_rfl) rfl)
  hseq belowK_t (belowK_b (by omega)) (hb0.trans (hBw.mono hz0)) (fun _ => rfl)
  (fun pre W => ((Boxed W (B + 3) 4 (.bool (aT less pre).isSome) /\ W.heap[B + 2]? = some (aL (cJ (aT less pre)).1 (cJ (aT less pre)).2)) /\ (Boxed W B 139 (.func (.func 114) #[] #[]) /\ W.heap[B + 1]? = some (aL 0 0))) /\ Below B w W)
  (fun _ _ _ => False)
  (OwnFrom.and (OwnFrom.and (OwnFrom.and (Own.from (boxed_own _ _ _) _) (fun s X Y row hs hg hr => dE hs hg (fun r e => (hr r e).2))) (OwnFrom.and (Own.from (boxed_own _ _ _) _) (fun s X Y row hs hg hr => dE hs hg (fun r e => (hr r e).2)))) (ownFrom_below (by omega) (by omega)))
  (fun _ _ _ _ _ hs _ _ => hs)
  ⟨⟨⟨bS, bT2⟩, bF, bR2⟩, hBw⟩
  (fun x a' W => ∃ Bx, B + 3 < Bx /\ W.heap[Bx]? = some (aL x.1.1 x.1.2) /\ a' = { tmps := #[.func (.func 107) #[] (tkF bl ba bp), .func (.func 114) #[] #[], undef, .pointer (some ⟨B, 0, none⟩), .pointer (some ⟨B + 1, 0, none⟩), .bool false, .pointer (some ⟨B + 2, 0, none⟩), .pointer (some ⟨B + 3, 0, none⟩), .pointer (some ⟨Bx, 0, none⟩), .func (.func 107) #[] (tkF bl ba bp), iX x.1, undef, undef, undef, undef, undef, undef, undef, undef, undef, undef, undef], defers := [] })
  (fun x a' _ X Y row hs hg hr => by obtain ⟨Bx, h1, h2, h3⟩ := hs; exact ⟨Bx, h1, dE h2 hg (fun r e => (hr r e).2), h3⟩)
  ?assign ?body ?done ?stop
 case assign =>
  rintro l pre x W K ⟨⟨⟨bS1, bT1⟩, bF1, bR1⟩, hB1⟩ hK;have h2 := bS1.lt
  gi_wp2
  exact hK _ _ ((KeepsOthers.alloc _ _).from _) ((Below.refl _ W).alloc (by omega) _) ⟨⟨⟨bS1.alloc _, (Below.heap_alloc W _ _ (aC bT1)).trans bT1⟩, bF1.alloc _, (Below.heap_alloc W _ _ (aC bR1)).trans bR1⟩, hB1.alloc (by omega) _⟩ ⟨W.heap.size, bS1.lt, heap_alloc_new W _, rfl⟩
 case body =>
  rintro l pre x a' W hl ⟨r, hr⟩ ⟨⟨⟨bS1, bT1⟩, bF1, bR1⟩, hB1⟩ ⟨Bx, hBx, bX, rfl⟩ hlt;have hz := bS1.lt;obtain ⟨⟨x0, x1⟩, -⟩ := two bX;have c1 := bS1.cell;have c2 := bF1.cell;have f1 := bS1.frozen;obtain ⟨⟨t0, t1⟩, g0, g1⟩ := two bT1;have hsn := nF less pre x;cases ho : aT less pre with
  | none =>
    rw [ho] at bS1 c1 bT1 t0 t1 hsn;simp only [Option.isSome_none] at c1 bS1
    gi_wp2
    refine ⟨fun _ h => (by cases h), ?_⟩
    gi_wp2
    obtain ⟨q1, q2, q3⟩ := jW (D := W0.heap.size) (n0 := w0.heap.size) (v0 := x.1.1) (v1 := x.1.2) bS1 bT1 bF1 bR1 hB1 hz0;refine ⟨q1, q2, ?_⟩;dsimp only;rw [hsn];exact q3
  | some b =>
    rw [ho] at bS1 c1 t0 t1 bT1 hsn;simp only [Option.isSome_some] at c1 bS1;have ST := aA (hst x b W);cases hlb : less x b with
    | true =>
      rw [hlb] at ST
      gi_wp2_with (refine ⟨trivial, ?_⟩; gi_at_call 114; refine (CallsIn.inRound l (callsIn_wide.2 ST.out)).mono ?_; rintro e W2 ⟨rfl, hb2⟩; have bX2 := (hb2.block _ (aC bX)).trans bX; have bT2' := (hb2.block _ (aC bT1)).trans bT1; have bS2 : Boxed W2 (B + 3) 4 (.bool true) := (hb2.block _ bS1.lt).trans bS1; obtain ⟨⟨x20, x21⟩, -⟩ := two bX2; obtain ⟨⟨t20, t21⟩, g20, g21⟩ := two bT2'; have f2 := bS2.frozen; have c21 := bS2.cell)
      have bF2 := (hb2.block _ bF1.lt).trans bF1;have bR2' := (hb2.block _ (aC bR1)).trans bR1;obtain ⟨q1, q2, q3⟩ := jW (D := W0.heap.size) (n0 := w0.heap.size) (v0 := x.1.1) (v1 := x.1.2) bS2 bT2' bF2 bR2' (hB1.trans (hb2.mono (by omega))) hz0;refine ⟨(dQ hb2 _).trans q1, (hb2.mono (by omega)).trans q2, ?_⟩;dsimp only;rw [hsn, show stB less (some b) x = some x by simp [stB, hlb]];exact q3
    | false =>
      rw [hlb] at ST
      gi_wp2_with (refine ⟨trivial, ?_⟩; gi_at_call 114; refine (CallsIn.inRound l (callsIn_wide.2 ST.out)).mono ?_; rintro e W2 ⟨rfl, hb2⟩)
      refine ⟨dQ hb2 _, hb2.mono (by omega), ?_⟩;dsimp only;rw [hsn, show stB less (some b) x = some b by simp [stB, hlb]];exact ⟨⟨⟨(hb2.block _ bS1.lt).trans bS1, (hb2.block _ (aC bT1)).trans bT1⟩, (hb2.block _ bF1.lt).trans bF1, (hb2.block _ (aC bR1)).trans bR1⟩, hB1.trans (hb2.mono (by omega))⟩
 case done =>
  rintro D ys W hD rfl ⟨⟨⟨bS1, bT1⟩, bF1, bR1⟩, hB1⟩ hK;have c1 := bS1.cell;obtain ⟨⟨t0, t1⟩, g0, g1⟩ := two bT1;obtain ⟨⟨r00, r01⟩, r0, r1⟩ := two bR1;have e0 : W.drew.frozen? ⟨B + 1, 0, none⟩ = false := r0;have e1 : W.drew.frozen? ⟨B + 1, 1, none⟩ = false := r1;have e2 : W.drew.cell? ⟨B + 1, 0, none⟩ = some (.int .i64 0) := r00;have e3 : W.drew.cell? ⟨B + 1, 1, none⟩ = some (.int .i64 0) := r01
  gi_wp2
  gi_region
  gi_wp2
  have hz := bS1.lt;obtain ⟨V, hV⟩ : ∃ V, ((W.setCell ⟨B + 1, 0, none⟩ (.int .i64 (cJ (aT less ys)).1)).setCell ⟨B + 1, 1, none⟩ (.int .i64 (cJ (aT less ys)).2)).drew = V := ⟨_, rfl⟩;have hkp := ((((aG.refl (fun b => b = B + 1) W).setCell (p := ⟨B + 1, 0, none⟩) (.inl rfl) (.int .i64 (cJ (aT less ys)).1)).setCell (p := ⟨B + 1, 1, none⟩) (.inl rfl) (.int .i64 (cJ (aT less ys)).2))).drew;have hT : V.heap[B + 1]? = some (aL (cJ (aT less ys)).1 (cJ (aT less ys)).2) := by rw [<- hV]; exact fX bR1 _ _
  rw [hV] at hkp |-
  have hKV := hkp.heap hK (by omega);have hBV : Below B w V := hB1.trans (hkp.below (fun i hi => by omega) (by omega));clear hV e0 e1 e2 e3 r00 r01 r0 r1 t0 t1 g0 g1 c1;refine ⟨by simp, .inl ⟨_, _, rfl, run_takeDeferred hKV, ?_⟩⟩;have hT2 : (V.putObj D (.deferred none)).heap[B + 1]? = some (aL (cJ (aT less ys)).1 (cJ (aT less ys)).2) := (World.putObj_heap_other (by omega)).trans hT;obtain ⟨⟨y0, y1⟩, -⟩ := two hT2;refine ⟨.tuple #[iX (cJ (aT less ys)), .bool (aT less ys).isSome], by simp [results, Tryz.f66, go_sem, y0, y1], rfl, ?_⟩;rw [hB0];exact hBV.trans (jX (w := W0) (by omega) V D _ _ hD hKV)
 case stop =>
  rintro D c pre W _ _ h _;exact h.elim
set_option maxRecDepth 100000 in
set_option maxHeartbeats 4000000 in
theorem FL (bl ba bp : Nat) (L : List Q64) (w0 w : World) (hseq : DX bl ba bp L w0) (hb0 : Below w0.heap.size w0 w) (less : Q64 -> Q64 -> Bool)
 (hst : ∀ (a b : Q64) (W : World), Calls Tryz.prog 115 #[iX a.1, iX b.1] W fun e W' => e = .returned (.bool (less a b)) /\ Below W.heap.size W W') :
 CallsIn Fence.wide 4 Tryz.prog 66 #[.func (.func 107) #[] (tkF bl ba bp), .func (.func 115) #[] #[]] w fun e w' => e = .returned (.tuple #[iX (cJ (aT less L)), .bool (aT less L).isSome]) /\ Below w.heap.size w w' := by
 refine callsIn_of_wp_marks Tryz.func66 rfl trivial ?_ rfl;simp only [Tryz.ntmps66, List.size_toArray, List.length_cons, List.length_nil, Nat.reduceAdd, Nat.reduceSub, Array.replicate_succ, Array.replicate_zero, List.push_toArray, List.append_toArray, List.nil_append, List.cons_append]
 gi_wp2
 obtain ⟨B, hB0⟩ : ∃ B, w.heap.size = B := ⟨_, rfl⟩;have bF := (((Boxed.new w 139 (.func (.func 115) #[] #[])).alloc (aL 0 0)).alloc (aL 0 0)).alloc (.cells #[.bool false] 4);have bR := heap_alloc_new (w.alloc (.cells #[.func (.func 115) #[] #[]] 139)) (aL 0 0);have bT := heap_alloc_new ((w.alloc (.cells #[.func (.func 115) #[] #[]] 139)).alloc (aL 0 0)) (aL 0 0);have bS := Boxed.new (((w.alloc (.cells #[.func (.func 115) #[] #[]] 139)).alloc (aL 0 0)).alloc (aL 0 0)) 4 (.bool false);have hBw : Below B w ((((w.alloc (.cells #[.func (.func 115) #[] #[]] 139)).alloc (aL 0 0)).alloc (aL 0 0)).alloc (.cells #[.bool false] 4)) := ((((Below.refl _ w).alloc (by omega) _).alloc (by simp; omega) _).alloc (by simp; omega) _).alloc (by simp; omega) _;have hsz : ((((w.alloc (.cells #[.func (.func 115) #[] #[]] 139)).alloc (aL 0 0)).alloc (aL 0 0)).alloc (.cells #[.bool false] 4)).heap.size = B + 4 := by simp; omega
 have bR2 : ((((w.alloc (.cells #[.func (.func 115) #[] #[]] 139)).alloc (aL 0 0)).alloc (aL 0 0)).alloc (.cells #[.bool false] 4)).heap[B + 1]? = some (aL 0 0) := by
  rw [World.size_alloc, hB0] at bR;exact ((((Below.refl (B + 2) ((w.alloc (.cells #[.func (.func 115) #[] #[]] 139)).alloc (aL 0 0))).alloc (by simp; omega) (aL 0 0)).alloc (by simp; omega) (.cells #[.bool false] 4)).block _ (by omega)).trans bR
 have bT2 : ((((w.alloc (.cells #[.func (.func 115) #[] #[]] 139)).alloc (aL 0 0)).alloc (aL 0 0)).alloc (.cells #[.bool false] 4)).heap[B + 2]? = some (aL 0 0) := by
  rw [World.size_alloc, World.size_alloc, hB0] at bT;exact (((Below.refl (B + 3) (((w.alloc (.cells #[.func (.func 115) #[] #[]] 139)).alloc (aL 0 0)).alloc (aL 0 0))).alloc (by simp; omega) (.cells #[.bool false] 4)).block _ (by omega)).trans bT
 clear bR bT;simp only [World.size_alloc, hB0] at bF bS |-
 obtain ⟨W0, hW0⟩ : ∃ W0, (((w.alloc (.cells #[.func (.func 115) #[] #[]] 139)).alloc (aL 0 0)).alloc (aL 0 0)).alloc (.cells #[.bool false] 4) = W0 := ⟨_, rfl⟩;rw [hW0] at bF bS bR2 bT2 hBw hsz;rw [show (((w.alloc (.cells #[.func (.func 115) #[] #[]] 139)).alloc (.cells #[.int .i64 0, .int .i64 0] 131)).alloc (.cells #[.int .i64 0, .int .i64 0] 131)).alloc (.cells #[.bool false] 4) = W0 from hW0];have hz0 : w0.heap.size <= B := by have := hb0.size; omega
 clear hW0
 refine wpIn_rangeFunc_ownH rfl (by decide) (gf := 107) (lb := tkF bl ba bp) rfl trivial (enters_of Tryz.func107 (by kernel_rfl) rfl)
  hseq belowK_t (belowK_b (by omega)) (hb0.trans (hBw.mono hz0)) (fun _ => rfl)
  (fun pre W => ((Boxed W (B + 3) 4 (.bool (aT less pre).isSome) /\ W.heap[B + 2]? = some (aL (cJ (aT less pre)).1 (cJ (aT less pre)).2)) /\ (Boxed W B 139 (.func (.func 115) #[] #[]) /\ W.heap[B + 1]? = some (aL 0 0))) /\ Below B w W)
  (fun _ _ _ => False)
  (OwnFrom.and (OwnFrom.and (OwnFrom.and (Own.from (boxed_own _ _ _) _) (fun s X Y row hs hg hr => dE hs hg (fun r e => (hr r e).2))) (OwnFrom.and (Own.from (boxed_own _ _ _) _) (fun s X Y row hs hg hr => dE hs hg (fun r e => (hr r e).2)))) (ownFrom_below (by omega) (by omega)))
  (fun _ _ _ _ _ hs _ _ => hs)
  ⟨⟨⟨bS, bT2⟩, bF, bR2⟩, hBw⟩
  (fun x a' W => ∃ Bx, B + 3 < Bx /\ W.heap[Bx]? = some (aL x.1.1 x.1.2) /\ a' = { tmps := #[.func (.func 107) #[] (tkF bl ba bp), .func (.func 115) #[] #[], undef, .pointer (some ⟨B, 0, none⟩), .pointer (some ⟨B + 1, 0, none⟩), .bool false, .pointer (some ⟨B + 2, 0, none⟩), .pointer (some ⟨B + 3, 0, none⟩), .pointer (some ⟨Bx, 0, none⟩), .func (.func 107) #[] (tkF bl ba bp), iX x.1, undef, undef, undef, undef, undef, undef, undef, undef, undef, undef, undef], defers := [] })
  (fun x a' _ X Y row hs hg hr => by obtain ⟨Bx, h1, h2, h3⟩ := hs; exact ⟨Bx, h1, dE h2 hg (fun r e => (hr r e).2), h3⟩)
  ?assign ?body ?done ?stop
 case assign =>
  rintro l pre x W K ⟨⟨⟨bS1, bT1⟩, bF1, bR1⟩, hB1⟩ hK;have h2 := bS1.lt
  gi_wp2
  exact hK _ _ ((KeepsOthers.alloc _ _).from _) ((Below.refl _ W).alloc (by omega) _) ⟨⟨⟨bS1.alloc _, (Below.heap_alloc W _ _ (aC bT1)).trans bT1⟩, bF1.alloc _, (Below.heap_alloc W _ _ (aC bR1)).trans bR1⟩, hB1.alloc (by omega) _⟩ ⟨W.heap.size, bS1.lt, heap_alloc_new W _, rfl⟩
 case body =>
  rintro l pre x a' W hl ⟨r, hr⟩ ⟨⟨⟨bS1, bT1⟩, bF1, bR1⟩, hB1⟩ ⟨Bx, hBx, bX, rfl⟩ hlt;have hz := bS1.lt;obtain ⟨⟨x0, x1⟩, -⟩ := two bX;have c1 := bS1.cell;have c2 := bF1.cell;have f1 := bS1.frozen;obtain ⟨⟨t0, t1⟩, g0, g1⟩ := two bT1;have hsn := nF less pre x;cases ho : aT less pre with
  | none =>
    rw [ho] at bS1 c1 bT1 t0 t1 hsn;simp only [Option.isSome_none] at c1 bS1
    gi_wp2
    refine ⟨fun _ h => (by cases h), ?_⟩
    gi_wp2
    obtain ⟨q1, q2, q3⟩ := jW (D := W0.heap.size) (n0 := w0.heap.size) (v0 := x.1.1) (v1 := x.1.2) bS1 bT1 bF1 bR1 hB1 hz0;refine ⟨q1, q2, ?_⟩;dsimp only;rw [hsn];exact q3
  | some b =>
    rw [ho] at bS1 c1 t0 t1 bT1 hsn;simp only [Option.isSome_some] at c1 bS1;have ST := aA (hst x b W);cases hlb : less x b with
    | true =>
      rw [hlb] at ST
      gi_wp2_with (refine ⟨trivial, ?_⟩; gi_at_call 115; refine (CallsIn.inRound l (callsIn_wide.2 ST.out)).mono ?_; rintro e W2 ⟨rfl, hb2⟩; have bX2 := (hb2.block _ (aC bX)).trans bX; have bT2' := (hb2.block _ (aC bT1)).trans bT1; have bS2 : Boxed W2 (B + 3) 4 (.bool true) := (hb2.block _ bS1.lt).trans bS1; obtain ⟨⟨x20, x21⟩, -⟩ := two bX2; obtain ⟨⟨t20, t21⟩, g20, g21⟩ := two bT2'; have f2 := bS2.frozen; have c21 := bS2.cell)
      have bF2 := (hb2.block _ bF1.lt).trans bF1;have bR2' := (hb2.block _ (aC bR1)).trans bR1;obtain ⟨q1, q2, q3⟩ := jW (D := W0.heap.size) (n0 := w0.heap.size) (v0 := x.1.1) (v1 := x.1.2) bS2 bT2' bF2 bR2' (hB1.trans (hb2.mono (by omega))) hz0;refine ⟨(dQ hb2 _).trans q1, (hb2.mono (by omega)).trans q2, ?_⟩;dsimp only;rw [hsn, show stB less (some b) x = some x by simp [stB, hlb]];exact q3
    | false =>
      rw [hlb] at ST
      gi_wp2_with (refine ⟨trivial, ?_⟩; gi_at_call 115; refine (CallsIn.inRound l (callsIn_wide.2 ST.out)).mono ?_; rintro e W2 ⟨rfl, hb2⟩)
      refine ⟨dQ hb2 _, hb2.mono (by omega), ?_⟩;dsimp only;rw [hsn, show stB less (some b) x = some b by simp [stB, hlb]];exact ⟨⟨⟨(hb2.block _ bS1.lt).trans bS1, (hb2.block _ (aC bT1)).trans bT1⟩, (hb2.block _ bF1.lt).trans bF1, (hb2.block _ (aC bR1)).trans bR1⟩, hB1.trans (hb2.mono (by omega))⟩
 case done =>
  rintro D ys W hD rfl ⟨⟨⟨bS1, bT1⟩, bF1, bR1⟩, hB1⟩ hK;have c1 := bS1.cell;obtain ⟨⟨t0, t1⟩, g0, g1⟩ := two bT1;obtain ⟨⟨r00, r01⟩, r0, r1⟩ := two bR1;have e0 : W.drew.frozen? ⟨B + 1, 0, none⟩ = false := r0;have e1 : W.drew.frozen? ⟨B + 1, 1, none⟩ = false := r1;have e2 : W.drew.cell? ⟨B + 1, 0, none⟩ = some (.int .i64 0) := r00;have e3 : W.drew.cell? ⟨B + 1, 1, none⟩ = some (.int .i64 0) := r01
  gi_wp2
  gi_region
  gi_wp2
  have hz := bS1.lt;obtain ⟨V, hV⟩ : ∃ V, ((W.setCell ⟨B + 1, 0, none⟩ (.int .i64 (cJ (aT less ys)).1)).setCell ⟨B + 1, 1, none⟩ (.int .i64 (cJ (aT less ys)).2)).drew = V := ⟨_, rfl⟩;have hkp := ((((aG.refl (fun b => b = B + 1) W).setCell (p := ⟨B + 1, 0, none⟩) (.inl rfl) (.int .i64 (cJ (aT less ys)).1)).setCell (p := ⟨B + 1, 1, none⟩) (.inl rfl) (.int .i64 (cJ (aT less ys)).2))).drew;have hT : V.heap[B + 1]? = some (aL (cJ (aT less ys)).1 (cJ (aT less ys)).2) := by rw [<- hV]; exact fX bR1 _ _
  rw [hV] at hkp |-
  have hKV := hkp.heap hK (by omega);have hBV : Below B w V := hB1.trans (hkp.below (fun i hi => by omega) (by omega));clear hV e0 e1 e2 e3 r00 r01 r0 r1 t0 t1 g0 g1 c1;refine ⟨by simp, .inl ⟨_, _, rfl, run_takeDeferred hKV, ?_⟩⟩;have hT2 : (V.putObj D (.deferred none)).heap[B + 1]? = some (aL (cJ (aT less ys)).1 (cJ (aT less ys)).2) := (World.putObj_heap_other (by omega)).trans hT;obtain ⟨⟨y0, y1⟩, -⟩ := two hT2;refine ⟨.tuple #[iX (cJ (aT less ys)), .bool (aT less ys).isSome], by simp [results, Tryz.f66, go_sem, y0, y1], rfl, ?_⟩;rw [hB0];exact hBV.trans (jX (w := W0) (by omega) V D _ _ hD hKV)
 case stop =>
  rintro D c pre W _ _ h _;exact h.elim
end
end Go.Proofs.YtapcjnoaofmmiaaGreatDoor
