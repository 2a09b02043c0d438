/-
 No statement: what AggEvalCard needs, of the texts OBest, OSame, OEvM.
-/
import Derived.Test.YtapcjnoaofmmiaaGreatDoorVE23
namespace Go.Proofs.YtapcjnoaofmmiaaGreatDoor
section
open Go.RowKit Go.Shelf
attribute [local go_sem] Oper.semAt_some
abbrev cW (o : Option Q64) : Int × Int := match o with | none => (0, 0) | some q => q.1
theorem k8 {D n0 B : Nat} {w W : World} {t0 t1 : TypeId} {fv : Value} {v0 v1 u0 u1 : Int} {b : Bool} (bS : Boxed W (B + 3) t0 (.bool b)) (bT : W.heap[B + 2]? = some (aL u0 u1)) (bF : Boxed W B t1 fv) (bR : W.heap[B + 1]? = some (aL 0 0)) (hB1 : Below B w W) (hn : n0 <= B) :
 let V := ((W.setCell ⟨B + 2, 0, none⟩ (.int .i64 v0)).setCell ⟨B + 2, 1, none⟩ (.int .i64 v1)).setCell ⟨B + 3, 0, none⟩ (.bool true)
 KeepsFrom D W V /\ Below n0 W V /\ (((Boxed V (B + 3) t0 (.bool true) /\ V.heap[B + 2]? = some (aL v0 v1)) /\ (Boxed V B t1 fv /\ V.heap[B + 1]? = some (aL 0 0))) /\ Below B w V) := by
 intro V;have hk := (((aG.refl (fun b => b = B + 2 \/ b = B + 3) W).setCell (p := ⟨B + 2, 0, none⟩) (.inl (.inl rfl)) (.int .i64 v0)).setCell (p := ⟨B + 2, 1, none⟩) (.inl (.inl rfl)) (.int .i64 v1)).setCell (p := ⟨B + 3, 0, none⟩) (.inl (.inr rfl)) (.bool true);have hz := Boxed.lt bS;have hb : Below (B + 2) W V := hk.below (fun i hi => by omega) (by omega)
 have kS : (((W.setCell ⟨B + 2, 0, none⟩ (.int .i64 v0)).setCell ⟨B + 2, 1, none⟩ (.int .i64 v1))).heap[B + 3]? = _ :=
  (((aG.refl (fun b => b = B + 2) W).setCell (p := ⟨B + 2, 0, none⟩) (.inl rfl) (.int .i64 v0)).setCell (p := ⟨B + 2, 1, none⟩) (.inl rfl) (.int .i64 v1)).heap bS (by omega)
 refine ⟨(((KeepsOthers.setCell _ _ _).trans (KeepsOthers.setCell _ _ _)).trans (KeepsOthers.setCell _ _ _)).from _, hb.mono (by omega), ⟨⟨Boxed.set _ kS, ?_⟩, ?_, ?_⟩, hB1.trans (hb.mono (by omega))⟩
 · exact ((aG.refl (fun b => b = B + 3) _).setCell (p := ⟨B + 3, 0, none⟩) (.inl rfl) _).heap (gR bT _ _) (by omega)
 · exact (hb.block _ (by omega)).trans bF
 · exact (hb.block _ (by omega)).trans bR
theorem oP {K : Type} (less : K -> K -> Bool) (l : List K) (q : K) : bD less (l ++ [q]) = stB less (bD less l) q := by unfold bD; rw [List.foldl_append]; rfl
set_option maxRecDepth 100000 in
set_option maxHeartbeats 4000000 in
theorem Hw (bl ba bp : Nat) (L : List Q64) (w0 w : World) (hseq : FJ bl ba bp L w0) (hb0 : Below w0.heap.size w0 w) (less : Q64 -> Q64 -> Bool)
 (hst : ∀ (a b : Q64) (W : World), Calls Tryz.prog 113 #[jU a.1, jU b.1] W fun e W' => e = .returned (.bool (less a b)) /\ Below W.heap.size W W') :
 CallsIn Fence.wide 4 Tryz.prog 66 #[.func (.func 107) #[] (tkF bl ba bp), .func (.func 113) #[] #[]] w fun e w' => e = .returned (.tuple #[jU (cW (bD less L)), .bool (bD less L).isSome]) /\ Below w.heap.size w w' := by
 refine callsIn_of_wp_marks Tryz.func66 rfl trivial ?_ rfl;simp only [Tryz.ntmps66, List.size_toArray, List.length_cons, List.length_nil, Nat.reduceAdd, Nat.reduceSub, Array.replicate_succ, Array.replicate_zero, List.push_toArray, List.append_toArray, List.nil_append, List.cons_append]
 gi_wp2
 obtain ⟨B, hB0⟩ : ∃ B, w.heap.size = B := ⟨_, rfl⟩;have bF := (((Boxed.new w 139 (.func (.func 113) #[] #[])).alloc (aL 0 0)).alloc (aL 0 0)).alloc (.cells #[.bool false] 4);have bR := heap_alloc_new (w.alloc (.cells #[.func (.func 113) #[] #[]] 139)) (aL 0 0);have bT := heap_alloc_new ((w.alloc (.cells #[.func (.func 113) #[] #[]] 139)).alloc (aL 0 0)) (aL 0 0);have bS := Boxed.new (((w.alloc (.cells #[.func (.func 113) #[] #[]] 139)).alloc (aL 0 0)).alloc (aL 0 0)) 4 (.bool false);have hBw : Below B w ((((w.alloc (.cells #[.func (.func 113) #[] #[]] 139)).alloc (aL 0 0)).alloc (aL 0 0)).alloc (.cells #[.bool false] 4)) := ((((Below.refl _ w).alloc (by omega) _).alloc (by simp; omega) _).alloc (by simp; omega) _).alloc (by simp; omega) _;have hsz : ((((w.alloc (.cells #[.func (.func 113) #[] #[]] 139)).alloc (aL 0 0)).alloc (aL 0 0)).alloc (.cells #[.bool false] 4)).heap.size = B + 4 := by simp; omega
 have bR2 : ((((w.alloc (.cells #[.func (.func 113) #[] #[]] 139)).alloc (aL 0 0)).alloc (aL 0 0)).alloc (.cells #[.bool false] 4)).heap[B + 1]? = some (aL 0 0) := by
  rw [World.size_alloc, hB0] at bR;exact ((((Below.refl (B + 2) ((w.alloc (.cells #[.func (.func 113) #[] #[]] 139)).alloc (aL 0 0))).alloc (by simp; omega) (aL 0 0)).alloc (by simp; omega) (.cells #[.bool false] 4)).block _ (by omega)).trans bR
 have bT2 : ((((w.alloc (.cells #[.func (.func 113) #[] #[]] 139)).alloc (aL 0 0)).alloc (aL 0 0)).alloc (.cells #[.bool false] 4)).heap[B + 2]? = some (aL 0 0) := by
  rw [World.size_alloc, World.size_alloc, hB0] at bT;exact (((Below.refl (B + 3) (((w.alloc (.cells #[.func (.func 113) #[] #[]] 139)).alloc (aL 0 0)).alloc (aL 0 0))).alloc (by simp; omega) (.cells #[.bool false] 4)).block _ (by omega)).trans bT
 clear bR bT;simp only [World.size_alloc, hB0] at bF bS |-
 obtain ⟨W0, hW0⟩ : ∃ W0, (((w.alloc (.cells #[.func (.func 113) #[] #[]] 139)).alloc (aL 0 0)).alloc (aL 0 0)).alloc (.cells #[.bool false] 4) = W0 := ⟨_, rfl⟩;rw [hW0] at bF bS bR2 bT2 hBw hsz;rw [show (((w.alloc (.cells #[.func (.func 113) #[] #[]] 139)).alloc (.cells #[.int .i64 0, .int .i64 0] 131)).alloc (.cells #[.int .i64 0, .int .i64 0] 131)).alloc (.cells #[.bool false] 4) = W0 from hW0];have hz0 : w0.heap.size <= B := by have := hb0.size; omega
 clear hW0
 refine wpIn_rangeFunc_ownH rfl (by decide) (gf := 107) (lb := tkF bl ba bp) rfl trivial (enters_of Tryz.func107 (by kernel_rfl) rfl)
  hseq belowK_t (belowK_b (by omega)) (hb0.trans (hBw.mono hz0)) (fun _ => rfl)
  (fun pre W => ((Boxed W (B + 3) 4 (.bool (bD less pre).isSome) /\ W.heap[B + 2]? = some (aL (cW (bD less pre)).1 (cW (bD less pre)).2)) /\ (Boxed W B 139 (.func (.func 113) #[] #[]) /\ W.heap[B + 1]? = some (aL 0 0))) /\ Below B w W)
  (fun _ _ _ => False)
  (OwnFrom.and (OwnFrom.and (OwnFrom.and (Own.from (boxed_own _ _ _) _) (fun s X Y row hs hg hr => dM hs hg (fun r e => (hr r e).2))) (OwnFrom.and (Own.from (boxed_own _ _ _) _) (fun s X Y row hs hg hr => dM hs hg (fun r e => (hr r e).2)))) (ownFrom_below (by omega) (by omega)))
  (fun _ _ _ _ _ hs _ _ => hs)
  ⟨⟨⟨bS, bT2⟩, bF, bR2⟩, hBw⟩
  (fun x a' W => ∃ Bx, B + 3 < Bx /\ W.heap[Bx]? = some (aL x.1.1 x.1.2) /\ a' = { tmps := #[.func (.func 107) #[] (tkF bl ba bp), .func (.func 113) #[] #[], undef, .pointer (some ⟨B, 0, none⟩), .pointer (some ⟨B + 1, 0, none⟩), .bool false, .pointer (some ⟨B + 2, 0, none⟩), .pointer (some ⟨B + 3, 0, none⟩), .pointer (some ⟨Bx, 0, none⟩), .func (.func 107) #[] (tkF bl ba bp), jU x.1, undef, undef, undef, undef, undef, undef, undef, undef, undef, undef, undef], defers := [] })
  (fun x a' _ X Y row hs hg hr => by obtain ⟨Bx, h1, h2, h3⟩ := hs; exact ⟨Bx, h1, dM h2 hg (fun r e => (hr r e).2), h3⟩)
  ?assign ?body ?done ?stop
 case assign =>
  rintro l pre x W K ⟨⟨⟨bS1, bT1⟩, bF1, bR1⟩, hB1⟩ hK;have h2 := bS1.lt
  gi_wp2
  exact hK _ _ ((KeepsOthers.alloc _ _).from _) ((Below.refl _ W).alloc (by omega) _) ⟨⟨⟨bS1.alloc _, (Below.heap_alloc W _ _ (aC bT1)).trans bT1⟩, bF1.alloc _, (Below.heap_alloc W _ _ (aC bR1)).trans bR1⟩, hB1.alloc (by omega) _⟩ ⟨W.heap.size, bS1.lt, heap_alloc_new W _, rfl⟩
 case body =>
  rintro l pre x a' W hl ⟨r, hr⟩ ⟨⟨⟨bS1, bT1⟩, bF1, bR1⟩, hB1⟩ ⟨Bx, hBx, bX, rfl⟩ hlt;have hz := bS1.lt;obtain ⟨⟨x0, x1⟩, -⟩ := two bX;have c1 := bS1.cell;have c2 := bF1.cell;have f1 := bS1.frozen;obtain ⟨⟨t0, t1⟩, g0, g1⟩ := two bT1;have hsn := oP less pre x;cases ho : bD less pre with
  | none =>
    rw [ho] at bS1 c1 bT1 t0 t1 hsn;simp only [Option.isSome_none] at c1 bS1
    gi_wp2
    refine ⟨fun _ h => (by cases h), ?_⟩
    gi_wp2
    obtain ⟨q1, q2, q3⟩ := k8 (D := W0.heap.size) (n0 := w0.heap.size) (v0 := x.1.1) (v1 := x.1.2) bS1 bT1 bF1 bR1 hB1 hz0;refine ⟨q1, q2, ?_⟩;dsimp only;rw [hsn];exact q3
  | some b =>
    rw [ho] at bS1 c1 t0 t1 bT1 hsn;simp only [Option.isSome_some] at c1 bS1;have ST := aA (hst x b W);cases hlb : less x b with
    | true =>
      rw [hlb] at ST
      gi_wp2_with (refine ⟨trivial, ?_⟩; gi_at_call 113; refine (CallsIn.inRound l (callsIn_wide.2 ST.out)).mono ?_; rintro e W2 ⟨rfl, hb2⟩; have bX2 := (hb2.block _ (aC bX)).trans bX; have bT2' := (hb2.block _ (aC bT1)).trans bT1; have bS2 : Boxed W2 (B + 3) 4 (.bool true) := (hb2.block _ bS1.lt).trans bS1; obtain ⟨⟨x20, x21⟩, -⟩ := two bX2; obtain ⟨⟨t20, t21⟩, g20, g21⟩ := two bT2'; have f2 := bS2.frozen; have c21 := bS2.cell)
      have bF2 := (hb2.block _ bF1.lt).trans bF1;have bR2' := (hb2.block _ (aC bR1)).trans bR1;obtain ⟨q1, q2, q3⟩ := k8 (D := W0.heap.size) (n0 := w0.heap.size) (v0 := x.1.1) (v1 := x.1.2) bS2 bT2' bF2 bR2' (hB1.trans (hb2.mono (by omega))) hz0;refine ⟨(eC hb2 _).trans q1, (hb2.mono (by omega)).trans q2, ?_⟩;dsimp only;rw [hsn, show stB less (some b) x = some x by simp [stB, hlb]];exact q3
    | false =>
      rw [hlb] at ST
      gi_wp2_with (refine ⟨trivial, ?_⟩; gi_at_call 113; refine (CallsIn.inRound l (callsIn_wide.2 ST.out)).mono ?_; rintro e W2 ⟨rfl, hb2⟩)
      refine ⟨eC hb2 _, hb2.mono (by omega), ?_⟩;dsimp only;rw [hsn, show stB less (some b) x = some b by simp [stB, hlb]];exact ⟨⟨⟨(hb2.block _ bS1.lt).trans bS1, (hb2.block _ (aC bT1)).trans bT1⟩, (hb2.block _ bF1.lt).trans bF1, (hb2.block _ (aC bR1)).trans bR1⟩, hB1.trans (hb2.mono (by omega))⟩
 case done =>
  rintro D ys W hD rfl ⟨⟨⟨bS1, bT1⟩, bF1, bR1⟩, hB1⟩ hK;have c1 := bS1.cell;obtain ⟨⟨t0, t1⟩, g0, g1⟩ := two bT1;obtain ⟨⟨r00, r01⟩, r0, r1⟩ := two bR1;have e0 : W.drew.frozen? ⟨B + 1, 0, none⟩ = false := r0;have e1 : W.drew.frozen? ⟨B + 1, 1, none⟩ = false := r1;have e2 : W.drew.cell? ⟨B + 1, 0, none⟩ = some (.int .i64 0) := r00;have e3 : W.drew.cell? ⟨B + 1, 1, none⟩ = some (.int .i64 0) := r01
  gi_wp2
  gi_region
  gi_wp2
  have hz := bS1.lt;obtain ⟨V, hV⟩ : ∃ V, ((W.setCell ⟨B + 1, 0, none⟩ (.int .i64 (cW (bD less ys)).1)).setCell ⟨B + 1, 1, none⟩ (.int .i64 (cW (bD less ys)).2)).drew = V := ⟨_, rfl⟩;have hkp := ((((aG.refl (fun b => b = B + 1) W).setCell (p := ⟨B + 1, 0, none⟩) (.inl rfl) (.int .i64 (cW (bD less ys)).1)).setCell (p := ⟨B + 1, 1, none⟩) (.inl rfl) (.int .i64 (cW (bD less ys)).2))).drew;have hT : V.heap[B + 1]? = some (aL (cW (bD less ys)).1 (cW (bD less ys)).2) := by rw [<- hV]; exact gR bR1 _ _
  rw [hV] at hkp |-
  have hKV := hkp.heap hK (by omega);have hBV : Below B w V := hB1.trans (hkp.below (fun i hi => by omega) (by omega));clear hV e0 e1 e2 e3 r00 r01 r0 r1 t0 t1 g0 g1 c1;refine ⟨by simp, .inl ⟨_, _, rfl, run_takeDeferred hKV, ?_⟩⟩;have hT2 : (V.putObj D (.deferred none)).heap[B + 1]? = some (aL (cW (bD less ys)).1 (cW (bD less ys)).2) := (World.putObj_heap_other (by omega)).trans hT;obtain ⟨⟨y0, y1⟩, -⟩ := two hT2;refine ⟨.tuple #[jU (cW (bD less ys)), .bool (bD less ys).isSome], by simp [results, Tryz.f66, go_sem, y0, y1], rfl, ?_⟩;rw [hB0];exact hBV.trans (lA (w := W0) (by omega) V D _ _ hD hKV)
 case stop =>
  rintro D c pre W _ _ h _;exact h.elim
set_option maxRecDepth 100000 in
set_option maxHeartbeats 4000000 in
theorem Hv (bl ba bp : Nat) (L : List Q64) (w0 w : World) (hseq : FJ bl ba bp L w0) (hb0 : Below w0.heap.size w0 w) (less : Q64 -> Q64 -> Bool)
 (hst : ∀ (a b : Q64) (W : World), Calls Tryz.prog 114 #[jU a.1, jU b.1] W fun e W' => e = .returned (.bool (less a b)) /\ Below W.heap.size W W') :
 CallsIn Fence.wide 4 Tryz.prog 66 #[.func (.func 107) #[] (tkF bl ba bp), .func (.func 114) #[] #[]] w fun e w' => e = .returned (.tuple #[jU (cW (bD less L)), .bool (bD less L).isSome]) /\ Below w.heap.size w w' := by
 refine callsIn_of_wp_marks Tryz.func66 rfl trivial ?_ rfl;simp only [Tryz.ntmps66, List.size_toArray, List.length_cons, List.length_nil, Nat.reduceAdd, Nat.reduceSub, Array.replicate_succ, Array.replicate_zero, List.push_toArray, List.append_toArray, List.nil_append, List.cons_append]
 gi_wp2
 obtain ⟨B, hB0⟩ : ∃ B, w.heap.size = B := ⟨_, rfl⟩;have bF := (((Boxed.new w 139 (.func (.func 114) #[] #[])).alloc (aL 0 0)).alloc (aL 0 0)).alloc (.cells #[.bool false] 4);have bR := heap_alloc_new (w.alloc (.cells #[.func (.func 114) #[] #[]] 139)) (aL 0 0);have bT := heap_alloc_new ((w.alloc (.cells #[.func (.func 114) #[] #[]] 139)).alloc (aL 0 0)) (aL 0 0);have bS := Boxed.new (((w.alloc (.cells #[.func (.func 114) #[] #[]] 139)).alloc (aL 0 0)).alloc (aL 0 0)) 4 (.bool false);have hBw : Below B w ((((w.alloc (.cells #[.func (.func 114) #[] #[]] 139)).alloc (aL 0 0)).alloc (aL 0 0)).alloc (.cells #[.bool false] 4)) := ((((Below.refl _ w).alloc (by omega) _).alloc (by simp; omega) _).alloc (by simp; omega) _).alloc (by simp; omega) _;have hsz : ((((w.alloc (.cells #[.func (.func 114) #[] #[]] 139)).alloc (aL 0 0)).alloc (aL 0 0)).alloc (.cells #[.bool false] 4)).heap.size = B + 4 := by simp; omega
 have bR2 : ((((w.alloc (.cells #[.func (.func 114) #[] #[]] 139)).alloc (aL 0 0)).alloc (aL 0 0)).alloc (.cells #[.bool false] 4)).heap[B + 1]? = some (aL 0 0) := by
  rw [World.size_alloc, hB0] at bR;exact ((((Below.refl (B + 2) ((w.alloc (.cells #[.func (.func 114) #[] #[]] 139)).alloc (aL 0 0))).alloc (by simp; omega) (aL 0 0)).alloc (by simp; omega) (.cells #[.bool false] 4)).block _ (by omega)).trans bR
 have bT2 : ((((w.alloc (.cells #[.func (.func 114) #[] #[]] 139)).alloc (aL 0 0)).alloc (aL 0 0)).alloc (.cells #[.bool false] 4)).heap[B + 2]? = some (aL 0 0) := by
  rw [World.size_alloc, World.size_alloc, hB0] at bT;exact (((Below.refl (B + 3) (((w.alloc (.cells #[.func (.func 114) #[] #[]] 139)).alloc (aL 0 0)).alloc (aL 0 0))).alloc (by simp; omega) (.cells #[.bool false] 4)).block _ (by omega)).trans bT
 clear bR bT;simp only [World.size_alloc, hB0] at bF bS |-
 obtain ⟨W0, hW0⟩ : ∃ W0, (((w.alloc (.cells #[.func (.func 114) #[] #[]] 139)).alloc (aL 0 0)).alloc (aL 0 0)).alloc (.cells #[.bool false] 4) = W0 := ⟨_, rfl⟩;rw [hW0] at bF bS bR2 bT2 hBw hsz;rw [show (((w.alloc (.cells #[.func (.func 114) #[] #[]] 139)).alloc (.cells #[.int .i64 0, .int .i64 0] 131)).alloc (.cells #[.int .i64 0, .int .i64 0] 131)).alloc (.cells #[.bool false] 4) = W0 from hW0];have hz0 : w0.heap.size <= B := by have := hb0.size; omega
 clear hW0
 refine wpIn_rangeFunc_ownH rfl (by decide) (gf := 107) (lb := tkF bl ba bp) rfl trivial (enters_of Tryz.func107 (by kernel_rfl) rfl)
  hseq belowK_t (belowK_b (by omega)) (hb0.trans (hBw.mono hz0)) (fun _ => rfl)
  (fun pre W => ((Boxed W (B + 3) 4 (.bool (bD less pre).isSome) /\ W.heap[B + 2]? = some (aL (cW (bD less pre)).1 (cW (bD less pre)).2)) /\ (Boxed W B 139 (.func (.func 114) #[] #[]) /\ W.heap[B + 1]? = some (aL 0 0))) /\ Below B w W)
  (fun _ _ _ => False)
  (OwnFrom.and (OwnFrom.and (OwnFrom.and (Own.from (boxed_own _ _ _) _) (fun s X Y row hs hg hr => dM hs hg (fun r e => (hr r e).2))) (OwnFrom.and (Own.from (boxed_own _ _ _) _) (fun s X Y row hs hg hr => dM hs hg (fun r e => (hr r e).2)))) (ownFrom_below (by omega) (by omega)))
  (fun _ _ _ _ _ hs _ _ => hs)
  ⟨⟨⟨bS, bT2⟩, bF, bR2⟩, hBw⟩
  (fun x a' W => ∃ Bx, B + 3 < Bx /\ W.heap[Bx]? = some (aL x.1.1 x.1.2) /\ a' = { tmps := #[.func (.func 107) #[] (tkF bl ba bp), .func (.func 114) #[] #[], undef, .pointer (some ⟨B, 0, none⟩), .pointer (some ⟨B + 1, 0, none⟩), .bool false, .pointer (some ⟨B + 2, 0, none⟩), .pointer (some ⟨B + 3, 0, none⟩), .pointer (some ⟨Bx, 0, none⟩), .func (.func 107) #[] (tkF bl ba bp), jU x.1, undef, undef, undef, undef, undef, undef, undef, undef, undef, undef, undef], defers := [] })
  (fun x a' _ X Y row hs hg hr => by obtain ⟨Bx, h1, h2, h3⟩ := hs; exact ⟨Bx, h1, dM h2 hg (fun r e => (hr r e).2), h3⟩)
  ?assign ?body ?done ?stop
 case assign =>
  rintro l pre x W K ⟨⟨⟨bS1, bT1⟩, bF1, bR1⟩, hB1⟩ hK;have h2 := bS1.lt
  gi_wp2
  exact hK _ _ ((KeepsOthers.alloc _ _).from _) ((Below.refl _ W).alloc (by omega) _) ⟨⟨⟨bS1.alloc _, (Below.heap_alloc W _ _ (aC bT1)).trans bT1⟩, bF1.alloc _, (Below.heap_alloc W _ _ (aC bR1)).trans bR1⟩, hB1.alloc (by omega) _⟩ ⟨W.heap.size, bS1.lt, heap_alloc_new W _, rfl⟩
 case body =>
  rintro l pre x a' W hl ⟨r, hr⟩ ⟨⟨⟨bS1, bT1⟩, bF1, bR1⟩, hB1⟩ ⟨Bx, hBx, bX, rfl⟩ hlt;have hz := bS1.lt;obtain ⟨⟨x0, x1⟩, -⟩ := two bX;have c1 := bS1.cell;have c2 := bF1.cell;have f1 := bS1.frozen;obtain ⟨⟨t0, t1⟩, g0, g1⟩ := two bT1;have hsn := oP less pre x;cases ho : bD less pre with
  | none =>
    rw [ho] at bS1 c1 bT1 t0 t1 hsn;simp only [Option.isSome_none] at c1 bS1
    gi_wp2
    refine ⟨fun _ h => (by cases h), ?_⟩
    gi_wp2
    obtain ⟨q1, q2, q3⟩ := k8 (D := W0.heap.size) (n0 := w0.heap.size) (v0 := x.1.1) (v1 := x.1.2) bS1 bT1 bF1 bR1 hB1 hz0;refine ⟨q1, q2, ?_⟩;dsimp only;rw [hsn];exact q3
  | some b =>
    rw [ho] at bS1 c1 t0 t1 bT1 hsn;simp only [Option.isSome_some] at c1 bS1;have ST := aA (hst x b W);cases hlb : less x b with
    | true =>
      rw [hlb] at ST
      gi_wp2_with (refine ⟨trivial, ?_⟩; gi_at_call 114; refine (CallsIn.inRound l (callsIn_wide.2 ST.out)).mono ?_; rintro e W2 ⟨rfl, hb2⟩; have bX2 := (hb2.block _ (aC bX)).trans bX; have bT2' := (hb2.block _ (aC bT1)).trans bT1; have bS2 : Boxed W2 (B + 3) 4 (.bool true) := (hb2.block _ bS1.lt).trans bS1; obtain ⟨⟨x20, x21⟩, -⟩ := two bX2; obtain ⟨⟨t20, t21⟩, g20, g21⟩ := two bT2'; have f2 := bS2.frozen; have c21 := bS2.cell)
      have bF2 := (hb2.block _ bF1.lt).trans bF1;have bR2' := (hb2.block _ (aC bR1)).trans bR1;obtain ⟨q1, q2, q3⟩ := k8 (D := W0.heap.size) (n0 := w0.heap.size) (v0 := x.1.1) (v1 := x.1.2) bS2 bT2' bF2 bR2' (hB1.trans (hb2.mono (by omega))) hz0;refine ⟨(eC hb2 _).trans q1, (hb2.mono (by omega)).trans q2, ?_⟩;dsimp only;rw [hsn, show stB less (some b) x = some x by simp [stB, hlb]];exact q3
    | false =>
      rw [hlb] at ST
      gi_wp2_with (refine ⟨trivial, ?_⟩; gi_at_call 114; refine (CallsIn.inRound l (callsIn_wide.2 ST.out)).mono ?_; rintro e W2 ⟨rfl, hb2⟩)
      refine ⟨eC hb2 _, hb2.mono (by omega), ?_⟩;dsimp only;rw [hsn, show stB less (some b) x = some b by simp [stB, hlb]];exact ⟨⟨⟨(hb2.block _ bS1.lt).trans bS1, (hb2.block _ (aC bT1)).trans bT1⟩, (hb2.block _ bF1.lt).trans bF1, (hb2.block _ (aC bR1)).trans bR1⟩, hB1.trans (hb2.mono (by omega))⟩
 case done =>
  rintro D ys W hD rfl ⟨⟨⟨bS1, bT1⟩, bF1, bR1⟩, hB1⟩ hK;have c1 := bS1.cell;obtain ⟨⟨t0, t1⟩, g0, g1⟩ := two bT1;obtain ⟨⟨r00, r01⟩, r0, r1⟩ := two bR1;have e0 : W.drew.frozen? ⟨B + 1, 0, none⟩ = false := r0;have e1 : W.drew.frozen? ⟨B + 1, 1, none⟩ = false := r1;have e2 : W.drew.cell? ⟨B + 1, 0, none⟩ = some (.int .i64 0) := r00;have e3 : W.drew.cell? ⟨B + 1, 1, none⟩ = some (.int .i64 0) := r01
  gi_wp2
  gi_region
  gi_wp2
  have hz := bS1.lt;obtain ⟨V, hV⟩ : ∃ V, ((W.setCell ⟨B + 1, 0, none⟩ (.int .i64 (cW (bD less ys)).1)).setCell ⟨B + 1, 1, none⟩ (.int .i64 (cW (bD less ys)).2)).drew = V := ⟨_, rfl⟩;have hkp := ((((aG.refl (fun b => b = B + 1) W).setCell (p := ⟨B + 1, 0, none⟩) (.inl rfl) (.int .i64 (cW (bD less ys)).1)).setCell (p := ⟨B + 1, 1, none⟩) (.inl rfl) (.int .i64 (cW (bD less ys)).2))).drew;have hT : V.heap[B + 1]? = some (aL (cW (bD less ys)).1 (cW (bD less ys)).2) := by rw [<- hV]; exact gR bR1 _ _
  rw [hV] at hkp |-
  have hKV := hkp.heap hK (by omega);have hBV : Below B w V := hB1.trans (hkp.below (fun i hi => by omega) (by omega));clear hV e0 e1 e2 e3 r00 r01 r0 r1 t0 t1 g0 g1 c1;refine ⟨by simp, .inl ⟨_, _, rfl, run_takeDeferred hKV, ?_⟩⟩;have hT2 : (V.putObj D (.deferred none)).heap[B + 1]? = some (aL (cW (bD less ys)).1 (cW (bD less ys)).2) := (World.putObj_heap_other (by omega)).trans hT;obtain ⟨⟨y0, y1⟩, -⟩ := two hT2;refine ⟨.tuple #[jU (cW (bD less ys)), .bool (bD less ys).isSome], by simp [results, Tryz.f66, go_sem, y0, y1], rfl, ?_⟩;rw [hB0];exact hBV.trans (lA (w := W0) (by omega) V D _ _ hD hKV)
 case stop =>
  rintro D c pre W _ _ h _;exact h.elim
set_option maxRecDepth 100000 in
set_option maxHeartbeats 4000000 in
theorem Hu (bl ba bp : Nat) (L : List Q64) (w0 w : World) (hseq : FJ bl ba bp L w0) (hb0 : Below w0.heap.size w0 w) (less : Q64 -> Q64 -> Bool)
 (hst : ∀ (a b : Q64) (W : World), Calls Tryz.prog 115 #[jU a.1, jU b.1] W fun e W' => e = .returned (.bool (less a b)) /\ Below W.heap.size W W') :
 CallsIn Fence.wide 4 Tryz.prog 66 #[.func (.func 107) #[] (tkF bl ba bp), .func (.func 115) #[] #[]] w fun e w' => e = .returned (.tuple #[jU (cW (bD less L)), .bool (bD less L).isSome]) /\ Below w.heap.size w w' := by
 refine callsIn_of_wp_marks Tryz.func66 rfl trivial ?_ rfl;simp only [Tryz.ntmps66, List.size_toArray, List.length_cons, List.length_nil, Nat.reduceAdd, Nat.reduceSub, Array.replicate_succ, Array.replicate_zero, List.push_toArray, List.append_toArray, List.nil_append, List.cons_append]
 gi_wp2
 obtain ⟨B, hB0⟩ : ∃ B, w.heap.size = B := ⟨_, rfl⟩;have bF := (((Boxed.new w 139 (.func (.func 115) #[] #[])).alloc (aL 0 0)).alloc (aL 0 0)).alloc (.cells #[.bool false] 4);have bR := heap_alloc_new (w.alloc (.cells #[.func (.func 115) #[] #[]] 139)) (aL 0 0);have bT := heap_alloc_new ((w.alloc (.cells #[.func (.func 115) #[] #[]] 139)).alloc (aL 0 0)) (aL 0 0);have bS := Boxed.new (((w.alloc (.cells #[.func (.func 115) #[] #[]] 139)).alloc (aL 0 0)).alloc (aL 0 0)) 4 (.bool false);have hBw : Below B w ((((w.alloc (.cells #[.func (.func 115) #[] #[]] 139)).alloc (aL 0 0)).alloc (aL 0 0)).alloc (.cells #[.bool false] 4)) := ((((Below.refl _ w).alloc (by omega) _).alloc (by simp; omega) _).alloc (by simp; omega) _).alloc (by simp; omega) _;have hsz : ((((w.alloc (.cells #[.func (.func 115) #[] #[]] 139)).alloc (aL 0 0)).alloc (aL 0 0)).alloc (.cells #[.bool false] 4)).heap.size = B + 4 := by simp; omega
 have bR2 : ((((w.alloc (.cells #[.func (.func 115) #[] #[]] 139)).alloc (aL 0 0)).alloc (aL 0 0)).alloc (.cells #[.bool false] 4)).heap[B + 1]? = some (aL 0 0) := by
  rw [World.size_alloc, hB0] at bR;exact ((((Below.refl (B + 2) ((w.alloc (.cells #[.func (.func 115) #[] #[]] 139)).alloc (aL 0 0))).alloc (by simp; omega) (aL 0 0)).alloc (by simp; omega) (.cells #[.bool false] 4)).block _ (by omega)).trans bR
 have bT2 : ((((w.alloc (.cells #[.func (.func 115) #[] #[]] 139)).alloc (aL 0 0)).alloc (aL 0 0)).alloc (.cells #[.bool false] 4)).heap[B + 2]? = some (aL 0 0) := by
  rw [World.size_alloc, World.size_alloc, hB0] at bT;exact (((Below.refl (B + 3) (((w.alloc (.cells #[.func (.func 115) #[] #[]] 139)).alloc (aL 0 0)).alloc (aL 0 0))).alloc (by simp; omega) (.cells #[.bool false] 4)).block _ (by omega)).trans bT
 clear bR bT;simp only [World.size_alloc, hB0] at bF bS |-
 obtain ⟨W0, hW0⟩ : ∃ W0, (((w.alloc (.cells #[.func (.func 115) #[] #[]] 139)).alloc (aL 0 0)).alloc (aL 0 0)).alloc (.cells #[.bool false] 4) = W0 := ⟨_, rfl⟩;rw [hW0] at bF bS bR2 bT2 hBw hsz;rw [show (((w.alloc (.cells #[.func (.func 115) #[] #[]] 139)).alloc (.cells #[.int .i64 0, .int .i64 0] 131)).alloc (.cells #[.int .i64 0, .int .i64 0] 131)).alloc (.cells #[.bool false] 4) = W0 from hW0];have hz0 : w0.heap.size <= B := by have := hb0.size; omega
 clear hW0
 refine wpIn_rangeFunc_ownH rfl (by decide) (gf := 107) (lb := tkF bl ba bp) rfl trivial (enters_of Tryz.func107 (by kernel_rfl) rfl)
  hseq belowK_t (belowK_b (by omega)) (hb0.trans (hBw.mono hz0)) (fun _ => rfl)
  (fun pre W => ((Boxed W (B + 3) 4 (.bool (bD less pre).isSome) /\ W.heap[B + 2]? = some (aL (cW (bD less pre)).1 (cW (bD less pre)).2)) /\ (Boxed W B 139 (.func (.func 115) #[] #[]) /\ W.heap[B + 1]? = some (aL 0 0))) /\ Below B w W)
  (fun _ _ _ => False)
  (OwnFrom.and (OwnFrom.and (OwnFrom.and (Own.from (boxed_own _ _ _) _) (fun s X Y row hs hg hr => dM hs hg (fun r e => (hr r e).2))) (OwnFrom.and (Own.from (boxed_own _ _ _) _) (fun s X Y row hs hg hr => dM hs hg (fun r e => (hr r e).2)))) (ownFrom_below (by omega) (by omega)))
  (fun _ _ _ _ _ hs _ _ => hs)
  ⟨⟨⟨bS, bT2⟩, bF, bR2⟩, hBw⟩
  (fun x a' W => ∃ Bx, B + 3 < Bx /\ W.heap[Bx]? = some (aL x.1.1 x.1.2) /\ a' = { tmps := #[.func (.func 107) #[] (tkF bl ba bp), .func (.func 115) #[] #[], undef, .pointer (some ⟨B, 0, none⟩), .pointer (some ⟨B + 1, 0, none⟩), .bool false, .pointer (some ⟨B + 2, 0, none⟩), .pointer (some ⟨B + 3, 0, none⟩), .pointer (some ⟨Bx, 0, none⟩), .func (.func 107) #[] (tkF bl ba bp), jU x.1, undef, undef, undef, undef, undef, undef, undef, undef, undef, undef, undef], defers := [] })
  (fun x a' _ X Y row hs hg hr => by obtain ⟨Bx, h1, h2, h3⟩ := hs; exact ⟨Bx, h1, dM h2 hg (fun r e => (hr r e).2), h3⟩)
  ?assign ?body ?done ?stop
 case assign =>
  rintro l pre x W K ⟨⟨⟨bS1, bT1⟩, bF1, bR1⟩, hB1⟩ hK;have h2 := bS1.lt
  gi_wp2
  exact hK _ _ ((KeepsOthers.alloc _ _).from _) ((Below.refl _ W).alloc (by omega) _) ⟨⟨⟨bS1.alloc _, (Below.heap_alloc W _ _ (aC bT1)).trans bT1⟩, bF1.alloc _, (Below.heap_alloc W _ _ (aC bR1)).trans bR1⟩, hB1.alloc (by omega) _⟩ ⟨W.heap.size, bS1.lt, heap_alloc_new W _, rfl⟩
 case body =>
  rintro l pre x a' W hl ⟨r, hr⟩ ⟨⟨⟨bS1, bT1⟩, bF1, bR1⟩, hB1⟩ ⟨Bx, hBx, bX, rfl⟩ hlt;have hz := bS1.lt;obtain ⟨⟨x0, x1⟩, -⟩ := two bX;have c1 := bS1.cell;have c2 := bF1.cell;have f1 := bS1.frozen;obtain ⟨⟨t0, t1⟩, g0, g1⟩ := two bT1;have hsn := oP less pre x;cases ho : bD less pre with
  | none =>
    rw [ho] at bS1 c1 bT1 t0 t1 hsn;simp only [Option.isSome_none] at c1 bS1
    gi_wp2
    refine ⟨fun _ h => (by cases h), ?_⟩
    gi_wp2
    obtain ⟨q1, q2, q3⟩ := k8 (D := W0.heap.size) (n0 := w0.heap.size) (v0 := x.1.1) (v1 := x.1.2) bS1 bT1 bF1 bR1 hB1 hz0;refine ⟨q1, q2, ?_⟩;dsimp only;rw [hsn];exact q3
  | some b =>
    rw [ho] at bS1 c1 t0 t1 bT1 hsn;simp only [Option.isSome_some] at c1 bS1;have ST := aA (hst x b W);cases hlb : less x b with
    | true =>
      rw [hlb] at ST
      gi_wp2_with (refine ⟨trivial, ?_⟩; gi_at_call 115; refine (CallsIn.inRound l (callsIn_wide.2 ST.out)).mono ?_; rintro e W2 ⟨rfl, hb2⟩; have bX2 := (hb2.block _ (aC bX)).trans bX; have bT2' := (hb2.block _ (aC bT1)).trans bT1; have bS2 : Boxed W2 (B + 3) 4 (.bool true) := (hb2.block _ bS1.lt).trans bS1; obtain ⟨⟨x20, x21⟩, -⟩ := two bX2; obtain ⟨⟨t20, t21⟩, g20, g21⟩ := two bT2'; have f2 := bS2.frozen; have c21 := bS2.cell)
      have bF2 := (hb2.block _ bF1.lt).trans bF1;have bR2' := (hb2.block _ (aC bR1)).trans bR1;obtain ⟨q1, q2, q3⟩ := k8 (D := W0.heap.size) (n0 := w0.heap.size) (v0 := x.1.1) (v1 := x.1.2) bS2 bT2' bF2 bR2' (hB1.trans (hb2.mono (by omega))) hz0;refine ⟨(eC hb2 _).trans q1, (hb2.mono (by omega)).trans q2, ?_⟩;dsimp only;rw [hsn, show stB less (some b) x = some x by simp [stB, hlb]];exact q3
    | false =>
      rw [hlb] at ST
      gi_wp2_with (refine ⟨trivial, ?_⟩; gi_at_call 115; refine (CallsIn.inRound l (callsIn_wide.2 ST.out)).mono ?_; rintro e W2 ⟨rfl, hb2⟩)
      refine ⟨eC hb2 _, hb2.mono (by omega), ?_⟩;dsimp only;rw [hsn, show stB less (some b) x = some b by simp [stB, hlb]];exact ⟨⟨⟨(hb2.block _ bS1.lt).trans bS1, (hb2.block _ (aC bT1)).trans bT1⟩, (hb2.block _ bF1.lt).trans bF1, (hb2.block _ (aC bR1)).trans bR1⟩, hB1.trans (hb2.mono (by omega))⟩
 case done =>
  rintro D ys W hD rfl ⟨⟨⟨bS1, bT1⟩, bF1, bR1⟩, hB1⟩ hK;have c1 := bS1.cell;obtain ⟨⟨t0, t1⟩, g0, g1⟩ := two bT1;obtain ⟨⟨r00, r01⟩, r0, r1⟩ := two bR1;have e0 : W.drew.frozen? ⟨B + 1, 0, none⟩ = false := r0;have e1 : W.drew.frozen? ⟨B + 1, 1, none⟩ = false := r1;have e2 : W.drew.cell? ⟨B + 1, 0, none⟩ = some (.int .i64 0) := r00;have e3 : W.drew.cell? ⟨B + 1, 1, none⟩ = some (.int .i64 0) := r01
  gi_wp2
  gi_region
  gi_wp2
  have hz := bS1.lt;obtain ⟨V, hV⟩ : ∃ V, ((W.setCell ⟨B + 1, 0, none⟩ (.int .i64 (cW (bD less ys)).1)).setCell ⟨B + 1, 1, none⟩ (.int .i64 (cW (bD less ys)).2)).drew = V := ⟨_, rfl⟩;have hkp := ((((aG.refl (fun b => b = B + 1) W).setCell (p := ⟨B + 1, 0, none⟩) (.inl rfl) (.int .i64 (cW (bD less ys)).1)).setCell (p := ⟨B + 1, 1, none⟩) (.inl rfl) (.int .i64 (cW (bD less ys)).2))).drew;have hT : V.heap[B + 1]? = some (aL (cW (bD less ys)).1 (cW (bD less ys)).2) := by rw [<- hV]; exact gR bR1 _ _
  rw [hV] at hkp |-
  have hKV := hkp.heap hK (by omega);have hBV : Below B w V := hB1.trans (hkp.below (fun i hi => by omega) (by omega));clear hV e0 e1 e2 e3 r00 r01 r0 r1 t0 t1 g0 g1 c1;refine ⟨by simp, .inl ⟨_, _, rfl, run_takeDeferred hKV, ?_⟩⟩;have hT2 : (V.putObj D (.deferred none)).heap[B + 1]? = some (aL (cW (bD less ys)).1 (cW (bD less ys)).2) := (World.putObj_heap_other (by omega)).trans hT;obtain ⟨⟨y0, y1⟩, -⟩ := two hT2;refine ⟨.tuple #[jU (cW (bD less ys)), .bool (bD less ys).isSome], by simp [results, Tryz.f66, go_sem, y0, y1], rfl, ?_⟩;rw [hB0];exact hBV.trans (lA (w := W0) (by omega) V D _ _ hD hKV)
 case stop =>
  rintro D c pre W _ _ h _;exact h.elim
def OkD (d : CD) : Prop := aK d.a = 0 /\ aK d.b = 0 /\ d9 d.a.f /\ d9 d.b.f
def zK (c d : CD) : Bool := (c.op.toList == d.op.toList) && gY c.a d.a && gY c.b d.b
theorem sG (c d : CD) (r q : List CD) : iQ (c :: r) (d :: q) = (zK c d && iQ r q) := rfl
theorem sF : ∀ {x y : List CD}, x.length ≠ y.length -> iQ x y = false
 | [], [], h => absurd rfl h
 | [], _ :: _, _ => rfl
 | _ :: _, [], _ => rfl
 | a :: x, b :: y, h => by rw [sG, sF (by simpa using h), Bool.and_false]
set_option maxHeartbeats 8000000 in
set_option maxRecDepth 100000 in
theorem wR (x y : CD) (G G' : Nat -> Prop) (a1 : Option Addr) (c1 : Nat) (a2 : Option Addr) (c2 : Nat) (a3 : Option Addr) (c3 : Nat) (a4 : Option Addr) (c4 : Nat) (w : World) (hx : OkD x) (hy : OkD y)
 (r1 : aH G w a1 x.a.ks) (r2 : aH G w a2 x.b.ks) (r3 : aH G' w a3 y.a.ks) (r4 : aH G' w a4 y.b.ks) :
 Calls Tryz.prog 56 #[cdV x a1 c1 a2 c2, cdV y a3 c3 a4 c4] w fun e w' => e = .returned (.bool (zK x y)) /\ Below w.heap.size w w' := by
 have B0 := (Below.refl w.heap.size w).alloc (Nat.le_refl _) (cdX x a1 c1 a2 c2);have N0 := heap_alloc_new w (cdX x a1 c1 a2 c2);have hs0 : (w.alloc (cdX x a1 c1 a2 c2)).heap.size = w.heap.size + 1 := World.size_alloc _ _;generalize hW0 : w.alloc (cdX x a1 c1 a2 c2) = W0 at *;have B1 := (Below.refl W0.heap.size W0).alloc (Nat.le_refl _) (cdX y a3 c3 a4 c4);have N1 := heap_alloc_new W0 (cdX y a3 c3 a4 c4);have NA := (B1.block w.heap.size (by omega)).trans N0;have BB := B0.trans (B1.mono (by omega));generalize hW : W0.alloc (cdX y a3 c3 a4 c4) = W at *;rw [hs0] at N1;have HW0 := aA hW0;have HW := aA hW;have HB := aA BB;have HA := aA NA;have HN := aA N1;obtain ⟨x1, x2, x3, x4⟩ := hx;obtain ⟨y1, y2, y3, y4⟩ := hy;have SA := aA (fun V (hV : Below w.heap.size w V) => nE x.a y.a G G' V a1 a3 c1 c3 ((aX _).1 x1).1 x3 ((aX _).1 x1).2 ((aX _).1 y1).1 y3 ((aX _).1 y1).2 (r1.kept hV) (r3.kept hV));have SB := aA (fun V (hV : Below w.heap.size w V) => nE x.b y.b G G' V a2 a4 c2 c4 ((aX _).1 x2).1 x4 ((aX _).1 x2).2 ((aX _).1 y2).1 y4 ((aX _).1 y2).2 (r2.kept hV) (r4.kept hV));obtain ⟨z0, hz0⟩ : ∃ z, (x.op.toList == y.op.toList) = z := ⟨_, rfl⟩;obtain ⟨z1, hz1⟩ : ∃ z, gY x.a y.a = z := ⟨_, rfl⟩;obtain ⟨z2, hz2⟩ : ∃ z, gY x.b y.b = z := ⟨_, rfl⟩;unfold zK;rw [hz0, hz1, hz2];rw [hz1] at SA;rw [hz2] at SB;obtain ⟨p0, p1, p2, p3, p4, p5, p6, p7, p8⟩ := kR NA;obtain ⟨q0, q1, q2, q3, q4, q5, q6, q7, q8⟩ := kR N1;obtain ⟨r, hr⟩ : ∃ r, (z0 && z1 && z2) = r := ⟨_, rfl⟩;rw [hr];have HR := aA hr;clear hW0 hW B0 B1 N0 N1 NA BB r1 r2 r3 r4 x1 x2 x3 x4 y1 y2 y3 y4 hz1 hz2 hr hs0
 go_enter Tryz.func56, Tryz.ntmps56
 go_upto_region 1 with fail
 rw [show w.alloc (.cells #[.string x.op, .string x.a.op, .string x.a.nm, .int .i64 x.a.n, .slice a1 x.a.ks.len c1, .string x.b.op, .string x.b.nm, .int .i64 x.b.n, .slice a2 x.b.ks.len c2] 98) = W0 from HW0.out,
  show W0.alloc (.cells #[.string y.op, .string y.a.op, .string y.a.nm, .int .i64 y.a.n, .slice a3 y.a.ks.len c3, .string y.b.op, .string y.b.nm, .int .i64 y.b.n, .slice a4 y.b.ks.len c4] 98) = W from HW.out]
 cases z0 with
 | false =>
   have TR := aA (show false = r from HR.out)
   go_wp2_with fail
   go_ret;exact ⟨congrArg (fun z => Ending.returned (.bool z)) TR.out, HB.out⟩
 | true =>
   go_wp2_with fail
   refine (SA.out W HB.out).mono ?_;rintro e w2 ⟨rfl, hb⟩;have HB2 := aA (HB.out.trans (hb.mono HB.out.size));have N2 := (hb.block _ (aC HN.out)).trans HN.out;have A2 := (hb.block _ (aC HA.out)).trans HA.out;clear hb SA p0 p1 p2 p3 p4 p5 p6 p7 p8 q0 q1 q2 q3 q4 q5 q6 q7 q8;obtain ⟨p0, p1, p2, p3, p4, p5, p6, p7, p8⟩ := kR A2;obtain ⟨q0, q1, q2, q3, q4, q5, q6, q7, q8⟩ := kR N2;clear N2 A2;cases z1 with
   | false =>
     have TR := aA (show false = r from HR.out)
     go_wp2_with fail
     go_ret;exact ⟨congrArg (fun z => Ending.returned (.bool z)) TR.out, HB2.out⟩
   | true =>
     have TR := aA (show z2 = r from HR.out)
     go_wp2_with fail
     refine (SB.out w2 HB2.out).mono ?_;rintro e w3 ⟨rfl, hb⟩;have HB3 := aA (HB2.out.trans (hb.mono HB2.out.size));clear hb
     go_wp2_with fail
     go_ret;exact ⟨congrArg (fun z => Ending.returned (.bool z)) TR.out, HB3.out⟩
set_option maxHeartbeats 16000000 in
set_option maxRecDepth 100000 in
theorem tM (la lb : List CD) (G G' : Nat -> Prop) (aa : Option Addr) (ca : Nat) (ab : Option Addr) (cb : Nat) (hla : la.length <= 1000) (w : World) (ha : ∀ d ∈ la, OkD d) (hb : ∀ d ∈ lb, OkD d) (h1 : eI G w aa la) (h2 : eI G' w ab lb) :
 Calls Tryz.prog 55 #[.slice aa la.length ca, .slice ab lb.length cb, .func (.func 56) #[] #[]] w fun e w' => e = .returned (.bool (iQ la lb)) /\ Below w.heap.size w w' := by
 have H1 := aA h1;have H2 := aA h2;have HA := aA ha;have HBB := aA hb;have B0 := aA (Below.refl w.heap.size w);clear h1 h2 ha hb
 by_cases hl : la.length = lb.length
 · have a1 : ((la.length : Int) != (lb.length : Int)) = false := by rw [hl]; simp
   obtain ⟨r, hr⟩ : ∃ r, iQ la lb = r := ⟨_, rfl⟩;rw [hr];have HRr := aA hr;have HL := aA hl;have hlb : lb.length <= 1000 := by omega
   clear hr hl
   go_enter Tryz.func55, Tryz.ntmps55
   go_wp2_with fail
   go_loopw [7, 8, 9, 17] (fun v7 v8 v9 i wr => ∃ (k : Nat) (y7 y8 y9 : Value), v7 = y7 /\ v8 = y8 /\ v9 = y9 /\ i = .int .i64 k /\ k <= la.length /\ Hid (iQ (la.drop k) (lb.drop k) = r) /\ Hid (Below w.heap.size w wr)) (fun _ _ _ i _ => la.length - (intOf i).toNat)
   case atStart => exact ⟨0, _, _, _, rfl, rfl, rfl, rfl, Nat.zero_le _, HRr, B0⟩
   case round =>
    obtain ⟨k, y7, y8, y9, rfl, rfl, rfl, rfl, hk, hD, hB⟩ := hrel
    by_cases hlt : k < la.length
    · have hlt2 : k < lb.length := by have := HL.out; omega
      obtain ⟨da, hda⟩ : ∃ d, la[k]? = some d := ⟨_, List.getElem?_eq_getElem hlt⟩;obtain ⟨db, hdb⟩ : ∃ d, lb[k]? = some d := ⟨_, List.getElem?_eq_getElem hlt2⟩;have hna : ¬ la = [] := fun e => by rw [e] at hlt; simp at hlt
      have hnb : ¬ lb = [] := fun e => by rw [e] at hlt2; simp at hlt2
      obtain ⟨b1, o1, hw1, -, hl1, cc1⟩ := (H1.out.kept hB.out).resolve_left hna;obtain ⟨a1', c1, a2', c2, ⟨p0, p1, p2, p3, p4, p5, p6, p7, p8⟩, r1, r2⟩ := cc1 k da hda;have hz := hB.out.size;have BA1 := (Below.refl wr.heap.size wr).alloc (Nat.le_refl _) (cdX da a1' c1 a2' c2);have NB1 := heap_alloc_new wr (cdX da a1' c1 a2' c2);have hs1 : (wr.alloc (cdX da a1' c1 a2' c2)).heap.size = wr.heap.size + 1 := World.size_alloc _ _;have r1' := r1.kept BA1;have r2' := r2.kept BA1;generalize hV : wr.alloc (cdX da a1' c1 a2' c2) = V at BA1 NB1 hs1 r1' r2';have HBV := hB.out.trans (BA1.mono (by omega));obtain ⟨b2, o2, hw2, -, hl2, cc2⟩ := (H2.out.kept HBV).resolve_left hnb;obtain ⟨a3', c3, a4', c4, ⟨q0, q1, q2, q3, q4, q5, q6, q7, q8⟩, r3, r4⟩ := cc2 k db hdb;have BA2 := (Below.refl V.heap.size V).alloc (Nat.le_refl _) (cdX db a3' c3 a4' c4);have NB2 := heap_alloc_new V (cdX db a3' c3 a4' c4);have hs2 : (V.alloc (cdX db a3' c3 a4' c4)).heap.size = wr.heap.size + 2 := by rw [World.size_alloc]; omega
      have CA := wR da db G G' a1' c1 a2' c2 a3' c3 a4' c4 (V.alloc (cdX db a3' c3 a4' c4)) (HA.out da (List.mem_of_getElem? hda)) (HBB.out db (List.mem_of_getElem? hdb)) (r1'.kept BA2) (r2'.kept BA2) (r3.kept BA2) (r4.kept BA2);generalize hU : V.alloc (cdX db a3' c3 a4' c4) = U at BA2 NB2 hs2 CA;rw [hs1] at NB2;have N1 := (BA2.block wr.heap.size (by omega)).trans NB1;have HBU := aA (HBV.trans (BA2.mono (by omega)));have HV := aA hV;have HU := aA hU;have HCA := aA CA
      have dr : ∀ (l : List CD) (d : CD), l[k]? = some d -> l.drop k = d :: l.drop (k + 1) := fun l d h => by
       have hlt' := (List.getElem?_eq_some_iff.1 h).1;rw [List.drop_eq_getElem_cons hlt', (List.getElem?_eq_some_iff.1 h).2]
      have HD2 := aA (show (zK da db && iQ (la.drop (k + 1)) (lb.drop (k + 1))) = r by rw [<- hD.out, dr la da hda, dr lb db hdb, sG]);have a2 : (k : Int) < (la.length : Int) := by omega
      have a3 : (k : Int) < (lb.length : Int) := by omega
      have a4 : (0 : Int) <= (k : Int) := by omega
      have a5 : ((k : Int)).toNat = k := by omega
      obtain ⟨m0, m1, m2, m3, m4, m5, m6, m7, m8⟩ := kR N1;obtain ⟨n0, n1, n2, n3, n4, n5, n6, n7, n8⟩ := kR NB2;obtain ⟨z, hz2⟩ : ∃ z, zK da db = z := ⟨_, rfl⟩;rw [hz2] at HCA HD2;rw [hw1, hw2];clear hV hU NB1 NB2 N1 BA1 BA2 HBV hz2 CA hda hdb hna hnb hw1 hw2 cc1 cc2 r1 r2 r3 r4 r1' r2' dr
      go_upto_region 6 with fail
      rw [show wr.alloc (.cells #[.string da.op, .string da.a.op, .string da.a.nm, .int .i64 da.a.n, .slice a1' da.a.ks.len c1, .string da.b.op, .string da.b.nm, .int .i64 da.b.n, .slice a2' da.b.ks.len c2] 98) = V from HV.out]
      go_upto_region 7 with fail
      rw [show V.alloc (.cells #[.string db.op, .string db.a.op, .string db.a.nm, .int .i64 db.a.n, .slice a3' db.a.ks.len c3, .string db.b.op, .string db.b.nm, .int .i64 db.b.n, .slice a4' db.b.ks.len c4] 98) = U from HU.out];clear p0 p1 p2 p3 p4 p5 p6 p7 p8 q0 q1 q2 q3 q4 q5 q6 q7 q8
      go_wp2_with fail
      refine HCA.out.mono ?_;rintro e w3 ⟨rfl, hb3⟩;have B3 := aA (HBU.out.trans (hb3.mono (by omega)));clear hb3 HCA m0 m1 m2 m3 m4 m5 m6 m7 m8 n0 n1 n2 n3 n4 n5 n6 n7 n8;cases z with
      | true =>
        have D3 := aA (show iQ (la.drop (k + 1)) (lb.drop (k + 1)) = r by have := HD2.out; rwa [Bool.true_and] at this)
        go_wp2_with fail
        go_roundw
        case rel => exact ⟨k + 1, _, _, _, rfl, rfl, rfl, by go_num, by omega, D3, B3⟩
        case measure => simp [intOf]; omega
      | false =>
        have D3 := aA (show r = false by have := HD2.out; rw [Bool.false_and] at this; exact this.symm)
        go_wp2_with fail
        go_ret;rw [D3.out];exact ⟨rfl, B3.out⟩
    · obtain rfl : k = la.length := by omega
      have D3 := aA (show r = true by rw [<- hD.out, List.drop_of_length_le (Nat.le_refl _), List.drop_of_length_le (by rw [HL.out]; exact Nat.le_refl _)]; rfl)
      go_wp2_with fail
      go_ret;rw [D3.out];exact ⟨rfl, hB.out⟩
 · have a1 : ((la.length : Int) != (lb.length : Int)) = true := by rw [bne_iff_ne]; omega
   rw [sF hl]
   go_enter Tryz.func55, Tryz.ntmps55
   go_wp2_with fail
   go_ret;exact ⟨rfl, B0.out⟩
theorem AX {x : AG} (h : x.fn.data.toList = aO) (gs : List (ByteArray -> Option Int)) : fY x gs = (fX x gs).map (fun _ => ((0 : Int), (0 : Int))) := by
 have hE : eP x.fn.data.toList = false := by rw [h]; decide
 have hB : bP x.fn.data.toList = false := by rw [h]; decide
 unfold fY fX
 induction gs with
 | nil => rfl
 | cons g gs ih =>
   have h1 : jC x g = if bB g x.wh = true then some (0, 0) else none := by unfold jC; rw [hE, hB]; cases bB g x.wh <;> rfl
   rw [List.filterMap_cons, List.filter_cons, h1];cases bB g x.wh
   · simpa using ih
   · simp [ih]
theorem wL {x : AG} (hE : eP x.fn.data.toList = true) (hB : bP x.fn.data.toList = false) (gs : List (ByteArray -> Option Int)) : fY x gs = (xR x gs).map (fun e => (e, (0 : Int))) := by
 unfold fY xR fX
 induction gs with
 | nil => rfl
 | cons g gs ih =>
   have h1 : jC x g = if bB g x.wh = true then (evT g x.e).map (fun e => (e, 0)) else none := by unfold jC; rw [hE, hB]; cases bB g x.wh <;> cases evT g x.e <;> rfl
   rw [List.filterMap_cons, List.filter_cons, h1];cases bB g x.wh
   · simpa using ih
   · cases he : evT g x.e <;> simp [he, ih]
theorem J6 {x : AG} (hE : eP x.fn.data.toList = true) (hB : bP x.fn.data.toList = true) (gs : List (ByteArray -> Option Int)) : fY x gs = oM x gs := by
 unfold fY oM fX
 induction gs with
 | nil => rfl
 | cons g gs ih =>
   have h1 : jC x g = if bB g x.wh = true then (match evT g x.e, evT g x.g with | some e, some b => some (e, b) | _, _ => none) else none := by unfold jC; rw [hE, hB]; cases bB g x.wh <;> cases evT g x.e <;> cases evT g x.g <;> rfl
   rw [List.filterMap_cons, List.filter_cons, h1];cases bB g x.wh
   · simpa using ih
   · cases he : evT g x.e <;> cases hg : evT g x.g <;> simp [he, hg, ih]
abbrev uD (pre : List Q64) : Int := pre.foldl (fun s q => cG (s + q.1.1)) 0
theorem Dz (pre : List Q64) (q : Q64) : uD (pre ++ [q]) = cG (uD pre + q.1.1) := by simp [uD]
theorem Iv : ∀ (pre : List Q64), aN (uD pre) := by
 intro pre;have z : aN 0 := by unfold aN; omega
 have : ∀ (l : List Q64) (s : Int), aN s -> aN (l.foldl (fun s q => cG (s + q.1.1)) s) := by
  intro l
  induction l with
  | nil => exact fun s h => h
  | cons q l ih => exact fun s _ => ih _ (iH _)
 exact this pre 0 z
theorem xP {L : List Q64} {evs : List Int} (h : L.map Subtype.val = evs.map (fun e => (e, (0 : Int)))) : L.map (fun q => q.1.1) = evs := by
 have h2 := congrArg (List.map Prod.fst) h;simpa [List.map_map, Function.comp_def] using h2
theorem J7 {L : List Q64} {evs : List Int} (h : L.map (fun q => q.1.1) = evs) : uD L = evs.foldl (fun s e => cG (s + e)) 0 := by rw [<- h, List.foldl_map]
theorem J3 {L : List Q64} {evs : List Int} (h : L.map (fun q => q.1.1) = evs) (most : Nat) : pV most L = iD most (evs.foldl (dI lsL) []) := by
 subst h;rw [<- Ex most (L.map (fun q => q.1.1)) [] List.Pairwise.nil, List.foldl_map];simp [pV, iD]
theorem Iw {K K' : Type} (f : K -> K') {less : K -> K -> Bool} {less' : K' -> K' -> Bool} (h : ∀ a b, less a b = less' (f a) (f b)) (l : List K) : ∀ (o : Option K), (l.foldl (stB less) o).map f = (l.map f).foldl (stB less') (o.map f) := by
 induction l with
 | nil => intro o; rfl
 | cons q l ih =>
   intro o;rw [List.foldl_cons, ih, List.map_cons, List.foldl_cons]
   congr 1
   cases o with
   | none => rfl
   | some b =>
     simp only [stB, Option.map_some];rw [<- h]
     split <;> rfl
theorem tT {K K' : Type} (f : K -> K') {less : K -> K -> Bool} {less' : K' -> K' -> Bool} (h : ∀ a b, less a b = less' (f a) (f b)) (l : List K) : (bD less l).map f = bD less' (l.map f) := Iw f h l none
theorem p9 {x : AG} (h : fO x = 0) (hn : fD x) (hS : SzG x) : OkX x := by
 obtain ⟨h1, h2, h3, h4, h5, h6⟩ := cQ h;refine ⟨fun he => ?_, fun he => ?_, fun d hd => ?_, by omega⟩
 · have hc : ¬ x.fn.data.toList = aO := fun hc => by unfold eP at he; rw [hc] at he; simp at he
   exact ⟨h3 hc, hn.e, hS.e⟩
 · have hc : x.fn.data.toList = aY := by unfold bP at he; simpa using he
   exact ⟨h4 hc, hn.g, hS.g⟩
 · have := jO x.wh h6 d hd
   exact ⟨⟨(this.2.1), (hn.c d hd).1, (hS.c d hd).1⟩, ⟨(this.2.2), (hn.c d hd).2, (hS.c d hd).2⟩⟩
end
end Go.Proofs.YtapcjnoaofmmiaaGreatDoor
