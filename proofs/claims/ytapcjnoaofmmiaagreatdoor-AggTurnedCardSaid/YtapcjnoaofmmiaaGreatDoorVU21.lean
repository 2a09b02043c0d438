/-
 No statement: what AggTurnedCard needs, of the texts OStep, OFold, OFoldL, OBest.
-/
import Derived.Test.YtapcjnoaofmmiaaGreatDoorVU20
namespace Go.Proofs.YtapcjnoaofmmiaaGreatDoor
section
open Go.RowKit
set_option maxHeartbeats 2000000
theorem Dl (n u v : Int) (w : World) (h0 : 0 <= n) (h1 : n <= 1000000) : Calls Tryz.prog 60 #[.int .i64 n, .agg #[.int .i64 u, .int .i64 v]] w fun e w' => e = .returned (.int .i64 (n + 1)) /\ Below w.heap.size w w' := by
 go_enter Tryz.func60, Tryz.ntmps60
 go_wp2
 go_ret;exact ⟨rfl, (Below.refl _ w).alloc (Nat.le_refl _) _⟩
theorem Dk (n u v : Int) (w : World) (h0 : aW n) (h1 : aW u) : Calls Tryz.prog 61 #[.int .i64 n, .agg #[.int .i64 u, .int .i64 v]] w fun e w' => e = .returned (.int .i64 (dB (n + u))) /\ Below w.heap.size w w' := by
 have VA := aA (fun w => xX n u w h0 h1);have B1 := aA ((Below.refl w.heap.size w).alloc (Nat.le_refl _) (aL u v));have N1 := heap_alloc_new w (aL u v);generalize hW : w.alloc (aL u v) = W at *;have HW := aA hW;obtain ⟨⟨m0, m1⟩, -⟩ := two N1;clear hW N1 h0 h1
 go_enter Tryz.func61, Tryz.ntmps61
 go_upto_region 1 with fail
 rw [show w.alloc (.cells #[.int .i64 u, .int .i64 v] 131) = W from HW.out]
 go_wp2_with fail
 refine (VA.out _).mono ?_;rintro e w1 ⟨rfl, rfl⟩
 go_wp2_with fail
 go_ret;exact ⟨rfl, B1.out⟩
theorem Dj (B : Nat) (x : AG) (p : PA) (b : Nat) (vv : Value) (ks : List Int) (u v : Int) (most : Nat) (w : World) (hK : x.k = (most : Int)) (hm : 1 <= most) (hm16 : most <= 1000) (hk : ks.length <= most) (hr : bG lsL ks) (hB : B <= w.heap.size) (ho : w.ownsRow B 2 1 vv ks.length (ks.map (Value.int .i64)))
 (ha : w.heap[b]? = some (agP x p)) :
 Calls Tryz.prog 64 #[vv, .agg #[.int .i64 u, .int .i64 v], .pointer (some ⟨b, 0, none⟩)] w fun e w' => ∃ v', e = .returned v' /\ w'.ownsRow B 2 1 v' (eY most ks u).length ((eY most ks u).map (Value.int .i64)) /\ aF (fun b => vv.ownBlock = some b) w w' := by
 have B1 := (Below.refl w.heap.size w).alloc (Nat.le_refl _) (aL u v);have N1 := heap_alloc_new w (aL u v);have hz : (w.alloc (aL u v)).heap.size = w.heap.size + 1 := World.size_alloc _ _;have o1 := ho.alloc (aL u v);have a1 := (B1.block b (aC ha)).trans ha;have K1 : aF (fun b => vv.ownBlock = some b) w (w.alloc (aL u v)) := (aF.refl _ w).alloc _;generalize hW : w.alloc (aL u v) = W at *;have KA := aA (Eg B vv ks u most W hm hm16 hk hr (by omega) o1);have HW := aA hW;have HK := aA K1;obtain ⟨⟨n0, n1⟩, -⟩ := two N1;obtain ⟨m0, m1, m2, m3, m4, m5, m6, m7, m8, m9, m10⟩ := aD a1;rw [hK] at m1;obtain ⟨av, cv, rfl⟩ := cJ ho;clear hW N1 o1 a1 K1 B1 ho hr hz ha
 go_enter Tryz.func64, Tryz.ntmps64
 go_upto_region 1 with fail
 rw [show w.alloc (.cells #[.int .i64 u, .int .i64 v] 131) = W from HW.out]
 go_wp2_with fail
 refine KA.out.mono ?_;rintro e w1 ⟨v', rfl, h1, h2⟩
 go_wp2_with fail
 go_ret;exact ⟨v', rfl, h1, HK.out.trans h2 (fun i h _ => h)⟩
abbrev vlA (k n : Int) (a : Option Addr) (l c : Nat) : Obj := .cells #[.int .i64 k, .int .i64 n, .string ⟨#[]⟩, .slice a l c] 53
theorem gH (n : Int) (w : World) : Calls Tryz.prog 58 #[.int .i64 n] w fun e w' => e = .returned (vlV 1 n none 0 0) /\ Below w.heap.size w w' := by
 go_enter Tryz.func58, Tryz.ntmps58
 go_wp2_with fail
 obtain ⟨⟨y0, y1, y2, y3⟩, -⟩ := aK (heap_alloc_new w (vlA 1 n none 0 0));exact bodyPost_ret (v := vlV 1 n none 0 0) (by simp [results, Tryz.results58, go_sem, y0, y1, y2, y3]) rfl ⟨rfl, (Below.refl _ _).alloc (Nat.le_refl _) _⟩
theorem DV (a0 a1 b0 b1 : Int) (w : World) : Calls Tryz.prog 113 #[.agg #[.int .i64 a0, .int .i64 a1], .agg #[.int .i64 b0, .int .i64 b1]] w fun e w' => e = .returned (.bool (decide (a0 < b0))) /\ Below w.heap.size w w' := by
 have N1 := heap_alloc_new w (aL a0 a1);have B1 := (Below.refl w.heap.size w).alloc (Nat.le_refl _) (aL a0 a1);have hz1 : (w.alloc (aL a0 a1)).heap.size = w.heap.size + 1 := World.size_alloc _ _;have N2 := heap_alloc_new (w.alloc (aL a0 a1)) (aL b0 b1);have B2 := (Below.refl w.heap.size (w.alloc (aL a0 a1))).alloc (by omega) (aL b0 b1);have M1 := (((Below.refl _ (w.alloc (aL a0 a1))).alloc (Nat.le_refl _) (aL b0 b1)).block w.heap.size (by omega)).trans N1;have BB := aA (B1.trans B2);rw [hz1] at N2;generalize hW : (w.alloc (aL a0 a1)).alloc (aL b0 b1) = W at *;have HW := aA hW;obtain ⟨⟨m0, m1⟩, -⟩ := two M1;obtain ⟨⟨n0, n1⟩, -⟩ := two N2;clear hW N1 N2 M1 B1 B2
 go_enter Tryz.func113, Tryz.ntmps113
 go_upto_region 1 with fail
 rw [show (w.alloc (.cells #[.int .i64 a0, .int .i64 a1] 131)).alloc (.cells #[.int .i64 b0, .int .i64 b1] 131) = W from HW.out]
 go_wp2_with fail
 go_ret;exact ⟨rfl, BB.out⟩
theorem DU (a0 a1 b0 b1 : Int) (w : World) : Calls Tryz.prog 114 #[.agg #[.int .i64 a0, .int .i64 a1], .agg #[.int .i64 b0, .int .i64 b1]] w fun e w' => e = .returned (.bool (decide (b0 < a0))) /\ Below w.heap.size w w' := by
 have N1 := heap_alloc_new w (aL a0 a1);have B1 := (Below.refl w.heap.size w).alloc (Nat.le_refl _) (aL a0 a1);have hz1 : (w.alloc (aL a0 a1)).heap.size = w.heap.size + 1 := World.size_alloc _ _;have N2 := heap_alloc_new (w.alloc (aL a0 a1)) (aL b0 b1);have B2 := (Below.refl w.heap.size (w.alloc (aL a0 a1))).alloc (by omega) (aL b0 b1);have M1 := (((Below.refl _ (w.alloc (aL a0 a1))).alloc (Nat.le_refl _) (aL b0 b1)).block w.heap.size (by omega)).trans N1;have BB := aA (B1.trans B2);rw [hz1] at N2;generalize hW : (w.alloc (aL a0 a1)).alloc (aL b0 b1) = W at *;have HW := aA hW;obtain ⟨⟨m0, m1⟩, -⟩ := two M1;obtain ⟨⟨n0, n1⟩, -⟩ := two N2;clear hW N1 N2 M1 B1 B2
 go_enter Tryz.func114, Tryz.ntmps114
 go_upto_region 1 with fail
 rw [show (w.alloc (.cells #[.int .i64 a0, .int .i64 a1] 131)).alloc (.cells #[.int .i64 b0, .int .i64 b1] 131) = W from HW.out]
 go_wp2_with fail
 go_ret;exact ⟨rfl, BB.out⟩
theorem DS (a0 a1 b0 b1 : Int) (w : World) : Calls Tryz.prog 115 #[.agg #[.int .i64 a0, .int .i64 a1], .agg #[.int .i64 b0, .int .i64 b1]] w fun e w' => e = .returned (.bool (decide (a1 < b1))) /\ Below w.heap.size w w' := by
 have N1 := heap_alloc_new w (aL a0 a1);have B1 := (Below.refl w.heap.size w).alloc (Nat.le_refl _) (aL a0 a1);have hz1 : (w.alloc (aL a0 a1)).heap.size = w.heap.size + 1 := World.size_alloc _ _;have N2 := heap_alloc_new (w.alloc (aL a0 a1)) (aL b0 b1);have B2 := (Below.refl w.heap.size (w.alloc (aL a0 a1))).alloc (by omega) (aL b0 b1);have M1 := (((Below.refl _ (w.alloc (aL a0 a1))).alloc (Nat.le_refl _) (aL b0 b1)).block w.heap.size (by omega)).trans N1;have BB := aA (B1.trans B2);rw [hz1] at N2;generalize hW : (w.alloc (aL a0 a1)).alloc (aL b0 b1) = W at *;have HW := aA hW;obtain ⟨⟨m0, m1⟩, -⟩ := two M1;obtain ⟨⟨n0, n1⟩, -⟩ := two N2;clear hW N1 N2 M1 B1 B2
 go_enter Tryz.func115, Tryz.ntmps115
 go_upto_region 1 with fail
 rw [show (w.alloc (.cells #[.int .i64 a0, .int .i64 a1] 131)).alloc (.cells #[.int .i64 b0, .int .i64 b1] 131) = W from HW.out]
 go_wp2_with fail
 go_ret;exact ⟨rfl, BB.out⟩
theorem xK (o : ByteArray) (w : World) (h : o.data.toList = i8) : Calls Tryz.prog 67 #[.string o] w fun e w' => e = .returned (.func (.func 113) #[] #[]) /\ w = w' := by
 have g1 : (o.toList == [109, 105, 110]) = true := bV (by rw [h]; decide);clear h
 go_enter Tryz.func67, Tryz.ntmps67
 go_wp2
 go_ret;exact ⟨rfl, rfl⟩
theorem xL (o : ByteArray) (w : World) (h : o.data.toList = kK) : Calls Tryz.prog 67 #[.string o] w fun e w' => e = .returned (.func (.func 114) #[] #[]) /\ w = w' := by
 have g1 : (o.toList == [109, 105, 110]) = false := aH (by rw [h]; decide);have g2 : (o.toList == [109, 97, 120]) = true := bV (by rw [h]; decide);clear h
 go_enter Tryz.func67, Tryz.ntmps67
 go_wp2
 go_ret;exact ⟨rfl, rfl⟩
theorem tI (o : ByteArray) (w : World) (h : o.data.toList = aT) : Calls Tryz.prog 67 #[.string o] w fun e w' => e = .returned (.func (.func 115) #[] #[]) /\ w = w' := by
 have g1 : (o.toList == [109, 105, 110]) = false := aH (by rw [h]; decide);have g2 : (o.toList == [109, 97, 120]) = false := aH (by rw [h]; decide);clear h
 go_enter Tryz.func67, Tryz.ntmps67
 go_wp2
 go_ret;exact ⟨rfl, rfl⟩
end
section
open Go.RowKit Go.Shelf
attribute [local go_sem] Oper.semAt_some
theorem dG {B : Nat} {vs : Array Value} {t : TypeId} {fz : Nat × Nat} {W W' : World} {row : Option Nat} (h : W.heap[B]? = some (.cells vs t fz)) (hg : W.grownBy W' row) (hr : ∀ r, row = some r -> ∃ o : Obj, W.heap[r]? = some o /\ o.isCells = false) : W'.heap[B]? = some (.cells vs t fz) :=
 (hg.block B (aC h) (fun e => by obtain ⟨o, ho, hc⟩ := hr B e.symm; rw [h] at ho; cases ho; cases hc)).trans h
theorem dT {W W' : World} (h : Below W.heap.size W W') (D : Nat) : KeepsFrom D W W' :=
 (KeepsOthers.of_grownBy (row := none) ⟨h.os, h.tape, h.output, h.size, fun k hk _ => h.block k hk⟩ (fun j o e => by cases e)).from D
abbrev Fj (bl ba bp : Nat) (L : List Q64) (w0 : World) : Prop := SeqStopsK Fence.wide 3 Tryz.prog 107 (tkF bl ba bp) tkE (Below w0.heap.size) (fun ys => ys = L) (fun pre => pre <+: L) L.length w0
theorem kH {n₀ : Nat} {w : World} (hn : n₀ <= w.heap.size) (W : World) (l : Nat) (o o' : Obj) (hl : w.heap.size <= l) (h : W.heap[l]? = some o) : Below n₀ W (W.putObj l o') :=
 (Below.refl n₀ W).grown (grownBy_putObj' W l o') (by have := (Array.getElem?_eq_some_iff.1 h).1; omega) (fun k e => by cases e; omega)
set_option maxRecDepth 100000 in
set_option maxHeartbeats 4000000 in
theorem GE (bl ba bp : Nat) (L : List Q64) (w0 w : World) (hL : L.length <= 1000) (hseq : Fj bl ba bp L w0) (hb0 : Below w0.heap.size w0 w) (F : List Q64 -> Int) (hF0 : F [] = 0)
 (hst : ∀ (pre : List Q64) (q : Q64) (W : World), pre.length < L.length -> Calls Tryz.prog 60 #[.int .i64 (F pre), jA q.1] W fun e W' => e = .returned (.int .i64 (F (pre ++ [q]))) /\ Below W.heap.size W W') :
 CallsIn Fence.wide 4 Tryz.prog 59 #[.func (.func 107) #[] (tkF bl ba bp), .int .i64 0, .func (.func 60) #[] #[]] w fun e w' => e = .returned (.int .i64 (F L)) /\ Below w.heap.size w w' := by
 refine callsIn_of_wp_marks Tryz.func59 rfl trivial ?_ rfl;simp only [Tryz.ntmps59, List.size_toArray, List.length_cons, List.length_nil, Nat.reduceAdd, Nat.reduceSub, Array.replicate_succ, Array.replicate_zero, List.push_toArray, List.append_toArray, List.nil_append, List.cons_append]
 gi_wp2
 obtain ⟨B, hB0⟩ : ∃ B, w.heap.size = B := ⟨_, rfl⟩;have bF := (Boxed.new w 132 (.func (.func 60) #[] #[])).alloc (.cells #[.int .i64 0] 2);have bS := Boxed.new (w.alloc (.cells #[.func (.func 60) #[] #[]] 132)) 2 (.int .i64 0);have hBw : Below B w ((w.alloc (.cells #[.func (.func 60) #[] #[]] 132)).alloc (.cells #[.int .i64 0] 2)) := ((Below.refl _ w).alloc (by omega) _).alloc (by simp; omega) _;have hsz : ((w.alloc (.cells #[.func (.func 60) #[] #[]] 132)).alloc (.cells #[.int .i64 0] 2)).heap.size = B + 2 := by simp; omega
 simp only [World.size_alloc, hB0] at bF bS |-
 obtain ⟨W0, hW0⟩ : ∃ W0, (w.alloc (.cells #[.func (.func 60) #[] #[]] 132)).alloc (.cells #[.int .i64 0] 2) = W0 := ⟨_, rfl⟩;rw [hW0] at bF bS hBw hsz |-
 have hz0 : w0.heap.size <= B := by have := hb0.size; omega
 clear hW0
 refine wpIn_rangeFunc_ownH rfl (by decide) (gf := 107) (lb := tkF bl ba bp) rfl trivial (enters_of Tryz.func107 (by kernel_rfl) rfl)
  hseq belowK_t (belowK_b (by omega)) (hb0.trans (hBw.mono hz0)) (fun _ => rfl)
  (fun pre W => (Boxed W (B + 1) 2 (.int .i64 (F pre)) /\ Boxed W B 132 (.func (.func 60) #[] #[])) /\ Below B w W)
  (fun _ _ _ => False)
  (OwnFrom.and (OwnFrom.and (Own.from (boxed_own _ _ _) _) (Own.from (boxed_own _ _ _) _)) (ownFrom_below (by omega) (by omega)))
  (fun _ _ _ _ _ hs _ _ => hs)
  ⟨⟨by rw [hF0]; exact bS, bF⟩, hBw⟩
  (fun x a' W => ∃ Bx, B + 1 < Bx /\ W.heap[Bx]? = some (aL x.1.1 x.1.2) /\ a' = { tmps := #[.func (.func 107) #[] (tkF bl ba bp), .int .i64 0, .func (.func 60) #[] #[], undef, undef, .pointer (some ⟨B, 0, none⟩), .int .i64 0, .pointer (some ⟨B + 1, 0, none⟩), .pointer (some ⟨Bx, 0, none⟩), .int .i64 0, .func (.func 107) #[] (tkF bl ba bp), jA x.1, undef, undef, undef, undef, undef], defers := [] })
  (fun x a' _ X Y row hs hg hr => by obtain ⟨Bx, h1, h2, h3⟩ := hs; exact ⟨Bx, h1, dG h2 hg (fun r e => (hr r e).2), h3⟩)
  ?assign ?body ?done ?stop
 case assign =>
  rintro l pre x W K ⟨⟨bS1, bF1⟩, hB1⟩ hK;have h2 := bS1.lt
  gi_wp2
  exact hK _ _ ((KeepsOthers.alloc _ _).from _) ((Below.refl _ W).alloc (by omega) _) ⟨⟨bS1.alloc _, bF1.alloc _⟩, hB1.alloc (by omega) _⟩ ⟨W.heap.size, bS1.lt, heap_alloc_new W _, rfl⟩
 case body =>
  rintro l pre x a' W hl ⟨r, hr⟩ ⟨⟨bS1, bF1⟩, hB1⟩ ⟨Bx, hBx, bX, rfl⟩ hlt;obtain ⟨⟨x0, x1⟩, -⟩ := two bX;have c1 := bS1.cell;have c2 := bF1.cell;have ST := aA (hst pre x W hlt);have hz := bS1.lt
  gi_wp2_with (refine ⟨trivial, ?_⟩; gi_at_call 60; refine (CallsIn.inRound l (callsIn_wide.2 ST.out)).mono ?_; rintro e W2 ⟨rfl, hb2⟩; have bS2 : Boxed W2 (B + 1) 2 (.int .i64 (F pre)) := (hb2.block _ bS1.lt).trans bS1; have bF2 : Boxed W2 B 132 (.func (.func 60) #[] #[]) := (hb2.block _ bF1.lt).trans bF1; have d1 := bS2.cell; have d2 := bF2.cell; have f1 := bS2.frozen)
  exact ⟨(dT hb2 _).trans ((KeepsOthers.setCell _ _ _).from _), (hb2.mono (by omega)).setCell (p := ⟨B + 1, 0, none⟩) (by simp; omega) _, ⟨bS2.set _, bF2.other (by omega) _⟩, (hB1.trans (hb2.mono (by omega))).setCell (p := ⟨B + 1, 0, none⟩) (by simp) _⟩
 case done =>
  rintro D ys W hD rfl ⟨⟨bS1, bF1⟩, hB1⟩ hK;have c1 := bS1.cell
  gi_wp2
  refine ⟨by simp, .inl ⟨_, _, rfl, run_takeDeferred hK, ?_⟩⟩;exact ⟨_, results_tmp rfl _ _ _, rfl, by rw [hB0]; exact hB1.trans (kH (w := W0) (by omega) W D _ _ hD hK)⟩
 case stop =>
  rintro D c pre W _ _ h _;exact h.elim
set_option maxRecDepth 100000 in
set_option maxHeartbeats 4000000 in
theorem GD (bl ba bp : Nat) (L : List Q64) (w0 w : World) (hL : L.length <= 1000) (hseq : Fj bl ba bp L w0) (hb0 : Below w0.heap.size w0 w) (F : List Q64 -> Int) (hF0 : F [] = 0)
 (hst : ∀ (pre : List Q64) (q : Q64) (W : World), pre.length < L.length -> Calls Tryz.prog 61 #[.int .i64 (F pre), jA q.1] W fun e W' => e = .returned (.int .i64 (F (pre ++ [q]))) /\ Below W.heap.size W W') :
 CallsIn Fence.wide 4 Tryz.prog 59 #[.func (.func 107) #[] (tkF bl ba bp), .int .i64 0, .func (.func 61) #[] #[]] w fun e w' => e = .returned (.int .i64 (F L)) /\ Below w.heap.size w w' := by
 refine callsIn_of_wp_marks Tryz.func59 rfl trivial ?_ rfl;simp only [Tryz.ntmps59, List.size_toArray, List.length_cons, List.length_nil, Nat.reduceAdd, Nat.reduceSub, Array.replicate_succ, Array.replicate_zero, List.push_toArray, List.append_toArray, List.nil_append, List.cons_append]
 gi_wp2
 obtain ⟨B, hB0⟩ : ∃ B, w.heap.size = B := ⟨_, rfl⟩;have bF := (Boxed.new w 132 (.func (.func 61) #[] #[])).alloc (.cells #[.int .i64 0] 2);have bS := Boxed.new (w.alloc (.cells #[.func (.func 61) #[] #[]] 132)) 2 (.int .i64 0);have hBw : Below B w ((w.alloc (.cells #[.func (.func 61) #[] #[]] 132)).alloc (.cells #[.int .i64 0] 2)) := ((Below.refl _ w).alloc (by omega) _).alloc (by simp; omega) _;have hsz : ((w.alloc (.cells #[.func (.func 61) #[] #[]] 132)).alloc (.cells #[.int .i64 0] 2)).heap.size = B + 2 := by simp; omega
 simp only [World.size_alloc, hB0] at bF bS |-
 obtain ⟨W0, hW0⟩ : ∃ W0, (w.alloc (.cells #[.func (.func 61) #[] #[]] 132)).alloc (.cells #[.int .i64 0] 2) = W0 := ⟨_, rfl⟩;rw [hW0] at bF bS hBw hsz |-
 have hz0 : w0.heap.size <= B := by have := hb0.size; omega
 clear hW0
 refine wpIn_rangeFunc_ownH rfl (by decide) (gf := 107) (lb := tkF bl ba bp) rfl trivial (enters_of Tryz.func107 (by kernel_rfl) rfl)
  hseq belowK_t (belowK_b (by omega)) (hb0.trans (hBw.mono hz0)) (fun _ => rfl)
  (fun pre W => (Boxed W (B + 1) 2 (.int .i64 (F pre)) /\ Boxed W B 132 (.func (.func 61) #[] #[])) /\ Below B w W)
  (fun _ _ _ => False)
  (OwnFrom.and (OwnFrom.and (Own.from (boxed_own _ _ _) _) (Own.from (boxed_own _ _ _) _)) (ownFrom_below (by omega) (by omega)))
  (fun _ _ _ _ _ hs _ _ => hs)
  ⟨⟨by rw [hF0]; exact bS, bF⟩, hBw⟩
  (fun x a' W => ∃ Bx, B + 1 < Bx /\ W.heap[Bx]? = some (aL x.1.1 x.1.2) /\ a' = { tmps := #[.func (.func 107) #[] (tkF bl ba bp), .int .i64 0, .func (.func 61) #[] #[], undef, undef, .pointer (some ⟨B, 0, none⟩), .int .i64 0, .pointer (some ⟨B + 1, 0, none⟩), .pointer (some ⟨Bx, 0, none⟩), .int .i64 0, .func (.func 107) #[] (tkF bl ba bp), jA x.1, undef, undef, undef, undef, undef], defers := [] })
  (fun x a' _ X Y row hs hg hr => by obtain ⟨Bx, h1, h2, h3⟩ := hs; exact ⟨Bx, h1, dG h2 hg (fun r e => (hr r e).2), h3⟩)
  ?assign ?body ?done ?stop
 case assign =>
  rintro l pre x W K ⟨⟨bS1, bF1⟩, hB1⟩ hK;have h2 := bS1.lt
  gi_wp2
  exact hK _ _ ((KeepsOthers.alloc _ _).from _) ((Below.refl _ W).alloc (by omega) _) ⟨⟨bS1.alloc _, bF1.alloc _⟩, hB1.alloc (by omega) _⟩ ⟨W.heap.size, bS1.lt, heap_alloc_new W _, rfl⟩
 case body =>
  rintro l pre x a' W hl ⟨r, hr⟩ ⟨⟨bS1, bF1⟩, hB1⟩ ⟨Bx, hBx, bX, rfl⟩ hlt;obtain ⟨⟨x0, x1⟩, -⟩ := two bX;have c1 := bS1.cell;have c2 := bF1.cell;have ST := aA (hst pre x W hlt);have hz := bS1.lt
  gi_wp2_with (refine ⟨trivial, ?_⟩; gi_at_call 61; refine (CallsIn.inRound l (callsIn_wide.2 ST.out)).mono ?_; rintro e W2 ⟨rfl, hb2⟩; have bS2 : Boxed W2 (B + 1) 2 (.int .i64 (F pre)) := (hb2.block _ bS1.lt).trans bS1; have bF2 : Boxed W2 B 132 (.func (.func 61) #[] #[]) := (hb2.block _ bF1.lt).trans bF1; have d1 := bS2.cell; have d2 := bF2.cell; have f1 := bS2.frozen)
  exact ⟨(dT hb2 _).trans ((KeepsOthers.setCell _ _ _).from _), (hb2.mono (by omega)).setCell (p := ⟨B + 1, 0, none⟩) (by simp; omega) _, ⟨bS2.set _, bF2.other (by omega) _⟩, (hB1.trans (hb2.mono (by omega))).setCell (p := ⟨B + 1, 0, none⟩) (by simp) _⟩
 case done =>
  rintro D ys W hD rfl ⟨⟨bS1, bF1⟩, hB1⟩ hK;have c1 := bS1.cell
  gi_wp2
  refine ⟨by simp, .inl ⟨_, _, rfl, run_takeDeferred hK, ?_⟩⟩;exact ⟨_, results_tmp rfl _ _ _, rfl, by rw [hB0]; exact hB1.trans (kH (w := W0) (by omega) W D _ _ hD hK)⟩
 case stop =>
  rintro D c pre W _ _ h _;exact h.elim
end
section
open Go.RowKit Go.Shelf
attribute [local go_sem] Oper.semAt_some
theorem yY {w : World} {B : Nat} {e : TypeId} {size : Nat} {v : Value} {n : Nat} {xs : List Value} (h : w.ownsRow B e size v n xs) : ∀ g, v.ownBlock = some g -> B <= g := by
 intro g hg
 rcases h.2 with ⟨rfl, _⟩ | ⟨g', cap, cur, rfl, hb, _⟩
 · cases hg
 · simp only [Value.ownBlock, Option.some.injEq] at hg
   omega
theorem Dt {w w' : World} {B : Nat} {e : TypeId} {size : Nat} {v : Value} {n : Nat} {xs : List Value} (h : w.ownsRow B e size v n xs) (hk : aF (fun b => v.ownBlock = some b) w w') (D : Nat) : KeepsFrom D w w' :=
 ⟨hk.size, fun k o _ h0 ho => hk.heap h0 (fun hg => by
  rcases h.2 with ⟨rfl, _⟩ | ⟨g', cap, cur, rfl, hb, hgb, _⟩
  · cases hg
  · simp only [Value.ownBlock, Option.some.injEq] at hg
    subst hg;rw [hgb] at h0;cases h0;cases ho)⟩
abbrev ivK (l : List Int) : List Value := l.map (Value.int .i64)
abbrev pJ (most : Nat) (pre : List Q64) : List Int := pre.foldl (fun ks q => eY most ks q.1.1) []
theorem Dc (most : Nat) (pre : List Q64) (q : Q64) : pJ most (pre ++ [q]) = eY most (pJ most pre) q.1.1 := by simp [pJ]
theorem Ca (most : Nat) : ∀ (pre : List Q64) (ks : List Int), bG lsL ks -> ks.length <= most -> bG lsL (pre.foldl (fun ks q => eY most ks q.1.1) ks) /\ (pre.foldl (fun ks q => eY most ks q.1.1) ks).length <= most
 | [], _, h, hl => ⟨h, hl⟩
 | _ :: pre, _, h, hl => Ca most pre _ (wS h _) (Ef hl _)
set_option maxRecDepth 100000 in
set_option maxHeartbeats 4000000 in
theorem GB (bl ba bp ea : Nat) (x : AG) (p : PA) (most : Nat) (L : List Q64) (w0 w : World) (hK : x.k = (most : Int)) (hm : 1 <= most) (hm16 : most <= 1000) (hea : w.heap[ea]? = some (agP x p)) (hseq : Fj bl ba bp L w0) (hb0 : Below w0.heap.size w0 w) :
 CallsIn Fence.wide 4 Tryz.prog 63 #[.func (.func 107) #[] (tkF bl ba bp), .slice none 0 0, .func (.func 64) #[] #[.pointer (some ⟨ea, 0, none⟩)]] w fun e w' =>
  ∃ v, e = .returned v /\ w'.ownsRow w.heap.size 2 1 v (pJ most L).length (ivK (pJ most L)) /\ Below w.heap.size w w' := by
 refine callsIn_of_wp_marks Tryz.func63 rfl trivial ?_ rfl;simp only [Tryz.ntmps63, List.size_toArray, List.length_cons, List.length_nil, Nat.reduceAdd, Nat.reduceSub, Array.replicate_succ, Array.replicate_zero, List.push_toArray, List.append_toArray, List.nil_append, List.cons_append]
 gi_wp2
 obtain ⟨B, hB0⟩ : ∃ B, w.heap.size = B := ⟨_, rfl⟩;have bF := (Boxed.new w 136 (.func (.func 64) #[] #[.pointer (some ⟨ea, 0, none⟩)])).alloc (.cells #[.slice none 0 0] 51);have bS := Boxed.new (w.alloc (.cells #[.func (.func 64) #[] #[.pointer (some ⟨ea, 0, none⟩)]] 136)) 51 (.slice none 0 0);have hBw : Below B w ((w.alloc (.cells #[.func (.func 64) #[] #[.pointer (some ⟨ea, 0, none⟩)]] 136)).alloc (.cells #[.slice none 0 0] 51)) := ((Below.refl _ w).alloc (by omega) _).alloc (by simp; omega) _;have hsz : ((w.alloc (.cells #[.func (.func 64) #[] #[.pointer (some ⟨ea, 0, none⟩)]] 136)).alloc (.cells #[.slice none 0 0] 51)).heap.size = B + 2 := by simp; omega
 simp only [World.size_alloc, hB0] at bF bS |-
 obtain ⟨W0, hW0⟩ : ∃ W0, (w.alloc (.cells #[.func (.func 64) #[] #[.pointer (some ⟨ea, 0, none⟩)]] 136)).alloc (.cells #[.slice none 0 0] 51) = W0 := ⟨_, rfl⟩;rw [hW0] at bF bS hBw hsz |-
 have hz0 : w0.heap.size <= B := by have := hb0.size; omega
 have hel : ea < B := by have := aC hea; omega
 clear hW0
 refine wpIn_rangeFunc_ownH rfl (by decide) (gf := 107) (lb := tkF bl ba bp) rfl trivial (enters_of Tryz.func107 (by kernel_rfl) rfl)
  hseq belowK_t (belowK_b (by omega)) (hb0.trans (hBw.mono hz0)) (fun _ => rfl)
  (fun pre W => ((∃ v, Boxed W (B + 1) 51 v /\ W.ownsRow (B + 2) 2 1 v (pJ most pre).length (ivK (pJ most pre)) /\ True) /\ Boxed W B 136 (.func (.func 64) #[] #[.pointer (some ⟨ea, 0, none⟩)])) /\ Below B w W)
  (fun _ _ _ => False)
  (OwnFrom.and (OwnFrom.and (Own.from (holdsRow_own (B + 2) (B + 1) _ _ 1 (fun pre => (pJ most pre).length) (fun pre => ivK (pJ most pre)) (fun _ _ => True)) _) (Own.from (boxed_own _ _ _) _)) (ownFrom_below (by omega) (by omega)))
  (fun _ _ _ _ _ hs _ _ => hs)
  ⟨⟨⟨_, bS, World.ownsRow_nil _ _ _ _, trivial⟩, bF⟩, hBw⟩
  (fun x a' W => ∃ Bx, B + 1 < Bx /\ W.heap[Bx]? = some (aL x.1.1 x.1.2) /\ a' = { tmps := #[.func (.func 107) #[] (tkF bl ba bp), .slice none 0 0, .func (.func 64) #[] #[.pointer (some ⟨ea, 0, none⟩)], undef, undef, .pointer (some ⟨B, 0, none⟩), .slice none 0 0, .pointer (some ⟨B + 1, 0, none⟩), .pointer (some ⟨Bx, 0, none⟩), .slice none 0 0, .func (.func 107) #[] (tkF bl ba bp), jA x.1, undef, undef, undef, undef, undef], defers := [] })
  (fun x a' _ X Y row hs hg hr => by obtain ⟨Bx, h1, h2, h3⟩ := hs; exact ⟨Bx, h1, dG h2 hg (fun r e => (hr r e).2), h3⟩)
  ?assign ?body ?done ?stop
 case assign =>
  rintro l pre x W K ⟨⟨⟨v, bS1, rS1, -⟩, bF1⟩, hB1⟩ hK;have h2 := bS1.lt
  gi_wp2
  exact hK _ _ ((KeepsOthers.alloc _ _).from _) ((Below.refl _ W).alloc (by omega) _) ⟨⟨⟨v, bS1.alloc _, rS1.alloc _, trivial⟩, bF1.alloc _⟩, hB1.alloc (by omega) _⟩ ⟨W.heap.size, bS1.lt, heap_alloc_new W _, rfl⟩
 case body =>
  rintro l pre q a' W hl ⟨r, hr⟩ ⟨⟨⟨v, bS1, rS1, -⟩, bF1⟩, hB1⟩ ⟨Bx, hBx, bX, rfl⟩ hlt;obtain ⟨⟨x0, x1⟩, -⟩ := two bX;have c1 := bS1.cell;have c2 := bF1.cell;have hz := bS1.lt;have hlx := aC bX;obtain ⟨k1, k2⟩ := Ca most pre [] List.Pairwise.nil (Nat.zero_le _);have ST := aA (Dj (B + 2) x p ea v (pJ most pre) q.1.1 q.1.2 most W hK hm hm16 k2 k1 (by omega) rS1 ((hB1.block ea (by omega)).trans hea));have hrb := yY rS1;have hrk := fun W2 hk => Dt (w' := W2) rS1 hk
  obtain ⟨av, cv, rfl⟩ := cJ rS1
  gi_wp2_with (refine ⟨trivial, ?_⟩; gi_at_call 64; refine (CallsIn.inRound l (callsIn_wide.2 ST.out)).mono ?_; rintro e W2 ⟨v', rfl, rS2, hk2⟩; obtain ⟨av2, cv2, rfl⟩ := cJ rS2; have bS2 := (show W2.heap[B + 1]? = _ from hk2.heap bS1 (fun h => by have := hrb _ h; omega)); have bF2 : Boxed W2 B 136 (.func (.func 64) #[] #[.pointer (some ⟨ea, 0, none⟩)]) := hk2.heap bF1 (fun h => by have := hrb _ h; omega); have d1 := Boxed.cell bS2; have d2 := bF2.cell; have f1 := Boxed.frozen bS2)
  have hb2 : Below (B + 2) W W2 := hk2.below (fun i hi => hrb i hi) (by omega);have rb2 := yY rS2;refine ⟨(hrk _ hk2 _).trans ((KeepsOthers.setCell _ _ _).from _), (hb2.mono (by omega)).setCell (p := ⟨B + 1, 0, none⟩) (by simp; omega) _, ⟨⟨_, Boxed.set _ bS2, ?_, trivial⟩, bF2.other (by omega) _⟩, (hB1.trans (hb2.mono (by omega))).setCell (p := ⟨B + 1, 0, none⟩) (by simp) _⟩;rw [Dc];exact rS2.kept (grownBy_setCell' W2 (B + 1) _) (.inr fun e => by have := rb2 _ e; omega)
 case done =>
  rintro D ys W hD rfl ⟨⟨⟨v, bS1, rS1, -⟩, bF1⟩, hB1⟩ hK;have c1 := bS1.cell
  gi_wp2
  refine ⟨by simp, .inl ⟨_, _, rfl, run_takeDeferred hK, ?_⟩⟩;exact ⟨_, results_tmp rfl _ _ _, _, rfl, fF (ownsRow_putObj rS1 _ hK rfl) (by omega), by rw [hB0]; exact hB1.trans (kH (w := W0) (by omega) W D _ _ hD hK)⟩
 case stop =>
  rintro D c pre W _ _ h _;exact h.elim
end
section
open Go.RowKit Go.Shelf
attribute [local go_sem] Oper.semAt_some
abbrev cP (o : Option Q64) : Int × Int := match o with | none => (0, 0) | some q => q.1
theorem kG {D n0 B : Nat} {w W : World} {t0 t1 : TypeId} {fv : Value} {v0 v1 u0 u1 : Int} {b : Bool} (bS : Boxed W (B + 3) t0 (.bool b)) (bT : W.heap[B + 2]? = some (aL u0 u1)) (bF : Boxed W B t1 fv) (bR : W.heap[B + 1]? = some (aL 0 0)) (hB1 : Below B w W) (hn : n0 <= B) :
 let V := ((W.setCell ⟨B + 2, 0, none⟩ (.int .i64 v0)).setCell ⟨B + 2, 1, none⟩ (.int .i64 v1)).setCell ⟨B + 3, 0, none⟩ (.bool true)
 KeepsFrom D W V /\ Below n0 W V /\ (((Boxed V (B + 3) t0 (.bool true) /\ V.heap[B + 2]? = some (aL v0 v1)) /\ (Boxed V B t1 fv /\ V.heap[B + 1]? = some (aL 0 0))) /\ Below B w V) := by
 intro V;have hk := (((aF.refl (fun b => b = B + 2 \/ b = B + 3) W).setCell (p := ⟨B + 2, 0, none⟩) (.inl (.inl rfl)) (.int .i64 v0)).setCell (p := ⟨B + 2, 1, none⟩) (.inl (.inl rfl)) (.int .i64 v1)).setCell (p := ⟨B + 3, 0, none⟩) (.inl (.inr rfl)) (.bool true);have hz := Boxed.lt bS;have hb : Below (B + 2) W V := hk.below (fun i hi => by omega) (by omega)
 have kS : (((W.setCell ⟨B + 2, 0, none⟩ (.int .i64 v0)).setCell ⟨B + 2, 1, none⟩ (.int .i64 v1))).heap[B + 3]? = _ :=
  (((aF.refl (fun b => b = B + 2) W).setCell (p := ⟨B + 2, 0, none⟩) (.inl rfl) (.int .i64 v0)).setCell (p := ⟨B + 2, 1, none⟩) (.inl rfl) (.int .i64 v1)).heap bS (by omega)
 refine ⟨(((KeepsOthers.setCell _ _ _).trans (KeepsOthers.setCell _ _ _)).trans (KeepsOthers.setCell _ _ _)).from _, hb.mono (by omega), ⟨⟨Boxed.set _ kS, ?_⟩, ?_, ?_⟩, hB1.trans (hb.mono (by omega))⟩
 · exact ((aF.refl (fun b => b = B + 3) _).setCell (p := ⟨B + 3, 0, none⟩) (.inl rfl) _).heap (gB bT _ _) (by omega)
 · exact (hb.block _ (by omega)).trans bF
 · exact (hb.block _ (by omega)).trans bR
theorem oA {K : Type} (less : K -> K -> Bool) (l : List K) (q : K) : aR less (l ++ [q]) = stB less (aR less l) q := by unfold aR; rw [List.foldl_append]; rfl
set_option maxRecDepth 100000 in
set_option maxHeartbeats 4000000 in
theorem G5 (bl ba bp : Nat) (L : List Q64) (w0 w : World) (hseq : Fj bl ba bp L w0) (hb0 : Below w0.heap.size w0 w) (less : Q64 -> Q64 -> Bool)
 (hst : ∀ (a b : Q64) (W : World), Calls Tryz.prog 113 #[jA a.1, jA b.1] W fun e W' => e = .returned (.bool (less a b)) /\ Below W.heap.size W W') :
 CallsIn Fence.wide 4 Tryz.prog 66 #[.func (.func 107) #[] (tkF bl ba bp), .func (.func 113) #[] #[]] w fun e w' => e = .returned (.tuple #[jA (cP (aR less L)), .bool (aR less L).isSome]) /\ Below w.heap.size w w' := by
 refine callsIn_of_wp_marks Tryz.func66 rfl trivial ?_ rfl;simp only [Tryz.ntmps66, List.size_toArray, List.length_cons, List.length_nil, Nat.reduceAdd, Nat.reduceSub, Array.replicate_succ, Array.replicate_zero, List.push_toArray, List.append_toArray, List.nil_append, List.cons_append]
 gi_wp2
 obtain ⟨B, hB0⟩ : ∃ B, w.heap.size = B := ⟨_, rfl⟩;have bF := (((Boxed.new w 139 (.func (.func 113) #[] #[])).alloc (aL 0 0)).alloc (aL 0 0)).alloc (.cells #[.bool false] 4);have bR := heap_alloc_new (w.alloc (.cells #[.func (.func 113) #[] #[]] 139)) (aL 0 0);have bT := heap_alloc_new ((w.alloc (.cells #[.func (.func 113) #[] #[]] 139)).alloc (aL 0 0)) (aL 0 0);have bS := Boxed.new (((w.alloc (.cells #[.func (.func 113) #[] #[]] 139)).alloc (aL 0 0)).alloc (aL 0 0)) 4 (.bool false);have hBw : Below B w ((((w.alloc (.cells #[.func (.func 113) #[] #[]] 139)).alloc (aL 0 0)).alloc (aL 0 0)).alloc (.cells #[.bool false] 4)) := ((((Below.refl _ w).alloc (by omega) _).alloc (by simp; omega) _).alloc (by simp; omega) _).alloc (by simp; omega) _;have hsz : ((((w.alloc (.cells #[.func (.func 113) #[] #[]] 139)).alloc (aL 0 0)).alloc (aL 0 0)).alloc (.cells #[.bool false] 4)).heap.size = B + 4 := by simp; omega
 have bR2 : ((((w.alloc (.cells #[.func (.func 113) #[] #[]] 139)).alloc (aL 0 0)).alloc (aL 0 0)).alloc (.cells #[.bool false] 4)).heap[B + 1]? = some (aL 0 0) := by
  rw [World.size_alloc, hB0] at bR;exact ((((Below.refl (B + 2) ((w.alloc (.cells #[.func (.func 113) #[] #[]] 139)).alloc (aL 0 0))).alloc (by simp; omega) (aL 0 0)).alloc (by simp; omega) (.cells #[.bool false] 4)).block _ (by omega)).trans bR
 have bT2 : ((((w.alloc (.cells #[.func (.func 113) #[] #[]] 139)).alloc (aL 0 0)).alloc (aL 0 0)).alloc (.cells #[.bool false] 4)).heap[B + 2]? = some (aL 0 0) := by
  rw [World.size_alloc, World.size_alloc, hB0] at bT;exact (((Below.refl (B + 3) (((w.alloc (.cells #[.func (.func 113) #[] #[]] 139)).alloc (aL 0 0)).alloc (aL 0 0))).alloc (by simp; omega) (.cells #[.bool false] 4)).block _ (by omega)).trans bT
 clear bR bT;simp only [World.size_alloc, hB0] at bF bS |-
 obtain ⟨W0, hW0⟩ : ∃ W0, (((w.alloc (.cells #[.func (.func 113) #[] #[]] 139)).alloc (aL 0 0)).alloc (aL 0 0)).alloc (.cells #[.bool false] 4) = W0 := ⟨_, rfl⟩;rw [hW0] at bF bS bR2 bT2 hBw hsz;rw [show (((w.alloc (.cells #[.func (.func 113) #[] #[]] 139)).alloc (.cells #[.int .i64 0, .int .i64 0] 131)).alloc (.cells #[.int .i64 0, .int .i64 0] 131)).alloc (.cells #[.bool false] 4) = W0 from hW0];have hz0 : w0.heap.size <= B := by have := hb0.size; omega
 clear hW0
 refine wpIn_rangeFunc_ownH rfl (by decide) (gf := 107) (lb := tkF bl ba bp) rfl trivial (enters_of Tryz.func107 (by kernel_rfl) rfl)
  hseq belowK_t (belowK_b (by omega)) (hb0.trans (hBw.mono hz0)) (fun _ => rfl)
  (fun pre W => ((Boxed W (B + 3) 4 (.bool (aR less pre).isSome) /\ W.heap[B + 2]? = some (aL (cP (aR less pre)).1 (cP (aR less pre)).2)) /\ (Boxed W B 139 (.func (.func 113) #[] #[]) /\ W.heap[B + 1]? = some (aL 0 0))) /\ Below B w W)
  (fun _ _ _ => False)
  (OwnFrom.and (OwnFrom.and (OwnFrom.and (Own.from (boxed_own _ _ _) _) (fun s X Y row hs hg hr => dG hs hg (fun r e => (hr r e).2))) (OwnFrom.and (Own.from (boxed_own _ _ _) _) (fun s X Y row hs hg hr => dG hs hg (fun r e => (hr r e).2)))) (ownFrom_below (by omega) (by omega)))
  (fun _ _ _ _ _ hs _ _ => hs)
  ⟨⟨⟨bS, bT2⟩, bF, bR2⟩, hBw⟩
  (fun x a' W => ∃ Bx, B + 3 < Bx /\ W.heap[Bx]? = some (aL x.1.1 x.1.2) /\ a' = { tmps := #[.func (.func 107) #[] (tkF bl ba bp), .func (.func 113) #[] #[], undef, .pointer (some ⟨B, 0, none⟩), .pointer (some ⟨B + 1, 0, none⟩), .bool false, .pointer (some ⟨B + 2, 0, none⟩), .pointer (some ⟨B + 3, 0, none⟩), .pointer (some ⟨Bx, 0, none⟩), .func (.func 107) #[] (tkF bl ba bp), jA x.1, undef, undef, undef, undef, undef, undef, undef, undef, undef, undef, undef], defers := [] })
  (fun x a' _ X Y row hs hg hr => by obtain ⟨Bx, h1, h2, h3⟩ := hs; exact ⟨Bx, h1, dG h2 hg (fun r e => (hr r e).2), h3⟩)
  ?assign ?body ?done ?stop
 case assign =>
  rintro l pre x W K ⟨⟨⟨bS1, bT1⟩, bF1, bR1⟩, hB1⟩ hK;have h2 := bS1.lt
  gi_wp2
  exact hK _ _ ((KeepsOthers.alloc _ _).from _) ((Below.refl _ W).alloc (by omega) _) ⟨⟨⟨bS1.alloc _, (Below.heap_alloc W _ _ (aC bT1)).trans bT1⟩, bF1.alloc _, (Below.heap_alloc W _ _ (aC bR1)).trans bR1⟩, hB1.alloc (by omega) _⟩ ⟨W.heap.size, bS1.lt, heap_alloc_new W _, rfl⟩
 case body =>
  rintro l pre x a' W hl ⟨r, hr⟩ ⟨⟨⟨bS1, bT1⟩, bF1, bR1⟩, hB1⟩ ⟨Bx, hBx, bX, rfl⟩ hlt;have hz := bS1.lt;obtain ⟨⟨x0, x1⟩, -⟩ := two bX;have c1 := bS1.cell;have c2 := bF1.cell;have f1 := bS1.frozen;obtain ⟨⟨t0, t1⟩, g0, g1⟩ := two bT1;have hsn := oA less pre x;cases ho : aR less pre with
  | none =>
    rw [ho] at bS1 c1 bT1 t0 t1 hsn;simp only [Option.isSome_none] at c1 bS1
    gi_wp2
    refine ⟨fun _ h => (by cases h), ?_⟩
    gi_wp2
    obtain ⟨q1, q2, q3⟩ := kG (D := W0.heap.size) (n0 := w0.heap.size) (v0 := x.1.1) (v1 := x.1.2) bS1 bT1 bF1 bR1 hB1 hz0;refine ⟨q1, q2, ?_⟩;dsimp only;rw [hsn];exact q3
  | some b =>
    rw [ho] at bS1 c1 t0 t1 bT1 hsn;simp only [Option.isSome_some] at c1 bS1;have ST := aA (hst x b W);cases hlb : less x b with
    | true =>
      rw [hlb] at ST
      gi_wp2_with (refine ⟨trivial, ?_⟩; gi_at_call 113; refine (CallsIn.inRound l (callsIn_wide.2 ST.out)).mono ?_; rintro e W2 ⟨rfl, hb2⟩; have bX2 := (hb2.block _ (aC bX)).trans bX; have bT2' := (hb2.block _ (aC bT1)).trans bT1; have bS2 : Boxed W2 (B + 3) 4 (.bool true) := (hb2.block _ bS1.lt).trans bS1; obtain ⟨⟨x20, x21⟩, -⟩ := two bX2; obtain ⟨⟨t20, t21⟩, g20, g21⟩ := two bT2'; have f2 := bS2.frozen; have c21 := bS2.cell)
      have bF2 := (hb2.block _ bF1.lt).trans bF1;have bR2' := (hb2.block _ (aC bR1)).trans bR1;obtain ⟨q1, q2, q3⟩ := kG (D := W0.heap.size) (n0 := w0.heap.size) (v0 := x.1.1) (v1 := x.1.2) bS2 bT2' bF2 bR2' (hB1.trans (hb2.mono (by omega))) hz0;refine ⟨(dT hb2 _).trans q1, (hb2.mono (by omega)).trans q2, ?_⟩;dsimp only;rw [hsn, show stB less (some b) x = some x by simp [stB, hlb]];exact q3
    | false =>
      rw [hlb] at ST
      gi_wp2_with (refine ⟨trivial, ?_⟩; gi_at_call 113; refine (CallsIn.inRound l (callsIn_wide.2 ST.out)).mono ?_; rintro e W2 ⟨rfl, hb2⟩)
      refine ⟨dT hb2 _, hb2.mono (by omega), ?_⟩;dsimp only;rw [hsn, show stB less (some b) x = some b by simp [stB, hlb]];exact ⟨⟨⟨(hb2.block _ bS1.lt).trans bS1, (hb2.block _ (aC bT1)).trans bT1⟩, (hb2.block _ bF1.lt).trans bF1, (hb2.block _ (aC bR1)).trans bR1⟩, hB1.trans (hb2.mono (by omega))⟩
 case done =>
  rintro D ys W hD rfl ⟨⟨⟨bS1, bT1⟩, bF1, bR1⟩, hB1⟩ hK;have c1 := bS1.cell;obtain ⟨⟨t0, t1⟩, g0, g1⟩ := two bT1;obtain ⟨⟨r00, r01⟩, r0, r1⟩ := two bR1;have e0 : W.drew.frozen? ⟨B + 1, 0, none⟩ = false := r0;have e1 : W.drew.frozen? ⟨B + 1, 1, none⟩ = false := r1;have e2 : W.drew.cell? ⟨B + 1, 0, none⟩ = some (.int .i64 0) := r00;have e3 : W.drew.cell? ⟨B + 1, 1, none⟩ = some (.int .i64 0) := r01
  gi_wp2
  gi_region
  gi_wp2
  have hz := bS1.lt;obtain ⟨V, hV⟩ : ∃ V, ((W.setCell ⟨B + 1, 0, none⟩ (.int .i64 (cP (aR less ys)).1)).setCell ⟨B + 1, 1, none⟩ (.int .i64 (cP (aR less ys)).2)).drew = V := ⟨_, rfl⟩;have hkp := ((((aF.refl (fun b => b = B + 1) W).setCell (p := ⟨B + 1, 0, none⟩) (.inl rfl) (.int .i64 (cP (aR less ys)).1)).setCell (p := ⟨B + 1, 1, none⟩) (.inl rfl) (.int .i64 (cP (aR less ys)).2))).drew;have hT : V.heap[B + 1]? = some (aL (cP (aR less ys)).1 (cP (aR less ys)).2) := by rw [<- hV]; exact gB bR1 _ _
  rw [hV] at hkp |-
  have hKV := hkp.heap hK (by omega);have hBV : Below B w V := hB1.trans (hkp.below (fun i hi => by omega) (by omega));clear hV e0 e1 e2 e3 r00 r01 r0 r1 t0 t1 g0 g1 c1;refine ⟨by simp, .inl ⟨_, _, rfl, run_takeDeferred hKV, ?_⟩⟩;have hT2 : (V.putObj D (.deferred none)).heap[B + 1]? = some (aL (cP (aR less ys)).1 (cP (aR less ys)).2) := (World.putObj_heap_other (by omega)).trans hT;obtain ⟨⟨y0, y1⟩, -⟩ := two hT2;refine ⟨.tuple #[jA (cP (aR less ys)), .bool (aR less ys).isSome], by simp [results, Tryz.f66, go_sem, y0, y1], rfl, ?_⟩;rw [hB0];exact hBV.trans (kH (w := W0) (by omega) V D _ _ hD hKV)
 case stop =>
  rintro D c pre W _ _ h _;exact h.elim
set_option maxRecDepth 100000 in
set_option maxHeartbeats 4000000 in
theorem G1 (bl ba bp : Nat) (L : List Q64) (w0 w : World) (hseq : Fj bl ba bp L w0) (hb0 : Below w0.heap.size w0 w) (less : Q64 -> Q64 -> Bool)
 (hst : ∀ (a b : Q64) (W : World), Calls Tryz.prog 114 #[jA a.1, jA b.1] W fun e W' => e = .returned (.bool (less a b)) /\ Below W.heap.size W W') :
 CallsIn Fence.wide 4 Tryz.prog 66 #[.func (.func 107) #[] (tkF bl ba bp), .func (.func 114) #[] #[]] w fun e w' => e = .returned (.tuple #[jA (cP (aR less L)), .bool (aR less L).isSome]) /\ Below w.heap.size w w' := by
 refine callsIn_of_wp_marks Tryz.func66 rfl trivial ?_ rfl;simp only [Tryz.ntmps66, List.size_toArray, List.length_cons, List.length_nil, Nat.reduceAdd, Nat.reduceSub, Array.replicate_succ, Array.replicate_zero, List.push_toArray, List.append_toArray, List.nil_append, List.cons_append]
 gi_wp2
 obtain ⟨B, hB0⟩ : ∃ B, w.heap.size = B := ⟨_, rfl⟩;have bF := (((Boxed.new w 139 (.func (.func 114) #[] #[])).alloc (aL 0 0)).alloc (aL 0 0)).alloc (.cells #[.bool false] 4);have bR := heap_alloc_new (w.alloc (.cells #[.func (.func 114) #[] #[]] 139)) (aL 0 0);have bT := heap_alloc_new ((w.alloc (.cells #[.func (.func 114) #[] #[]] 139)).alloc (aL 0 0)) (aL 0 0);have bS := Boxed.new (((w.alloc (.cells #[.func (.func 114) #[] #[]] 139)).alloc (aL 0 0)).alloc (aL 0 0)) 4 (.bool false);have hBw : Below B w ((((w.alloc (.cells #[.func (.func 114) #[] #[]] 139)).alloc (aL 0 0)).alloc (aL 0 0)).alloc (.cells #[.bool false] 4)) := ((((Below.refl _ w).alloc (by omega) _).alloc (by simp; omega) _).alloc (by simp; omega) _).alloc (by simp; omega) _;have hsz : ((((w.alloc (.cells #[.func (.func 114) #[] #[]] 139)).alloc (aL 0 0)).alloc (aL 0 0)).alloc (.cells #[.bool false] 4)).heap.size = B + 4 := by simp; omega
 have bR2 : ((((w.alloc (.cells #[.func (.func 114) #[] #[]] 139)).alloc (aL 0 0)).alloc (aL 0 0)).alloc (.cells #[.bool false] 4)).heap[B + 1]? = some (aL 0 0) := by
  rw [World.size_alloc, hB0] at bR;exact ((((Below.refl (B + 2) ((w.alloc (.cells #[.func (.func 114) #[] #[]] 139)).alloc (aL 0 0))).alloc (by simp; omega) (aL 0 0)).alloc (by simp; omega) (.cells #[.bool false] 4)).block _ (by omega)).trans bR
 have bT2 : ((((w.alloc (.cells #[.func (.func 114) #[] #[]] 139)).alloc (aL 0 0)).alloc (aL 0 0)).alloc (.cells #[.bool false] 4)).heap[B + 2]? = some (aL 0 0) := by
  rw [World.size_alloc, World.size_alloc, hB0] at bT;exact (((Below.refl (B + 3) (((w.alloc (.cells #[.func (.func 114) #[] #[]] 139)).alloc (aL 0 0)).alloc (aL 0 0))).alloc (by simp; omega) (.cells #[.bool false] 4)).block _ (by omega)).trans bT
 clear bR bT;simp only [World.size_alloc, hB0] at bF bS |-
 obtain ⟨W0, hW0⟩ : ∃ W0, (((w.alloc (.cells #[.func (.func 114) #[] #[]] 139)).alloc (aL 0 0)).alloc (aL 0 0)).alloc (.cells #[.bool false] 4) = W0 := ⟨_, rfl⟩;rw [hW0] at bF bS bR2 bT2 hBw hsz;rw [show (((w.alloc (.cells #[.func (.func 114) #[] #[]] 139)).alloc (.cells #[.int .i64 0, .int .i64 0] 131)).alloc (.cells #[.int .i64 0, .int .i64 0] 131)).alloc (.cells #[.bool false] 4) = W0 from hW0];have hz0 : w0.heap.size <= B := by have := hb0.size; omega
 clear hW0
 refine wpIn_rangeFunc_ownH rfl (by decide) (gf := 107) (lb := tkF bl ba bp) rfl trivial (enters_of Tryz.func107 (by kernel_rfl) rfl)
  hseq belowK_t (belowK_b (by omega)) (hb0.trans (hBw.mono hz0)) (fun _ => rfl)
  (fun pre W => ((Boxed W (B + 3) 4 (.bool (aR less pre).isSome) /\ W.heap[B + 2]? = some (aL (cP (aR less pre)).1 (cP (aR less pre)).2)) /\ (Boxed W B 139 (.func (.func 114) #[] #[]) /\ W.heap[B + 1]? = some (aL 0 0))) /\ Below B w W)
  (fun _ _ _ => False)
  (OwnFrom.and (OwnFrom.and (OwnFrom.and (Own.from (boxed_own _ _ _) _) (fun s X Y row hs hg hr => dG hs hg (fun r e => (hr r e).2))) (OwnFrom.and (Own.from (boxed_own _ _ _) _) (fun s X Y row hs hg hr => dG hs hg (fun r e => (hr r e).2)))) (ownFrom_below (by omega) (by omega)))
  (fun _ _ _ _ _ hs _ _ => hs)
  ⟨⟨⟨bS, bT2⟩, bF, bR2⟩, hBw⟩
  (fun x a' W => ∃ Bx, B + 3 < Bx /\ W.heap[Bx]? = some (aL x.1.1 x.1.2) /\ a' = { tmps := #[.func (.func 107) #[] (tkF bl ba bp), .func (.func 114) #[] #[], undef, .pointer (some ⟨B, 0, none⟩), .pointer (some ⟨B + 1, 0, none⟩), .bool false, .pointer (some ⟨B + 2, 0, none⟩), .pointer (some ⟨B + 3, 0, none⟩), .pointer (some ⟨Bx, 0, none⟩), .func (.func 107) #[] (tkF bl ba bp), jA x.1, undef, undef, undef, undef, undef, undef, undef, undef, undef, undef, undef], defers := [] })
  (fun x a' _ X Y row hs hg hr => by obtain ⟨Bx, h1, h2, h3⟩ := hs; exact ⟨Bx, h1, dG h2 hg (fun r e => (hr r e).2), h3⟩)
  ?assign ?body ?done ?stop
 case assign =>
  rintro l pre x W K ⟨⟨⟨bS1, bT1⟩, bF1, bR1⟩, hB1⟩ hK;have h2 := bS1.lt
  gi_wp2
  exact hK _ _ ((KeepsOthers.alloc _ _).from _) ((Below.refl _ W).alloc (by omega) _) ⟨⟨⟨bS1.alloc _, (Below.heap_alloc W _ _ (aC bT1)).trans bT1⟩, bF1.alloc _, (Below.heap_alloc W _ _ (aC bR1)).trans bR1⟩, hB1.alloc (by omega) _⟩ ⟨W.heap.size, bS1.lt, heap_alloc_new W _, rfl⟩
 case body =>
  rintro l pre x a' W hl ⟨r, hr⟩ ⟨⟨⟨bS1, bT1⟩, bF1, bR1⟩, hB1⟩ ⟨Bx, hBx, bX, rfl⟩ hlt;have hz := bS1.lt;obtain ⟨⟨x0, x1⟩, -⟩ := two bX;have c1 := bS1.cell;have c2 := bF1.cell;have f1 := bS1.frozen;obtain ⟨⟨t0, t1⟩, g0, g1⟩ := two bT1;have hsn := oA less pre x;cases ho : aR less pre with
  | none =>
    rw [ho] at bS1 c1 bT1 t0 t1 hsn;simp only [Option.isSome_none] at c1 bS1
    gi_wp2
    refine ⟨fun _ h => (by cases h), ?_⟩
    gi_wp2
    obtain ⟨q1, q2, q3⟩ := kG (D := W0.heap.size) (n0 := w0.heap.size) (v0 := x.1.1) (v1 := x.1.2) bS1 bT1 bF1 bR1 hB1 hz0;refine ⟨q1, q2, ?_⟩;dsimp only;rw [hsn];exact q3
  | some b =>
    rw [ho] at bS1 c1 t0 t1 bT1 hsn;simp only [Option.isSome_some] at c1 bS1;have ST := aA (hst x b W);cases hlb : less x b with
    | true =>
      rw [hlb] at ST
      gi_wp2_with (refine ⟨trivial, ?_⟩; gi_at_call 114; refine (CallsIn.inRound l (callsIn_wide.2 ST.out)).mono ?_; rintro e W2 ⟨rfl, hb2⟩; have bX2 := (hb2.block _ (aC bX)).trans bX; have bT2' := (hb2.block _ (aC bT1)).trans bT1; have bS2 : Boxed W2 (B + 3) 4 (.bool true) := (hb2.block _ bS1.lt).trans bS1; obtain ⟨⟨x20, x21⟩, -⟩ := two bX2; obtain ⟨⟨t20, t21⟩, g20, g21⟩ := two bT2'; have f2 := bS2.frozen; have c21 := bS2.cell)
      have bF2 := (hb2.block _ bF1.lt).trans bF1;have bR2' := (hb2.block _ (aC bR1)).trans bR1;obtain ⟨q1, q2, q3⟩ := kG (D := W0.heap.size) (n0 := w0.heap.size) (v0 := x.1.1) (v1 := x.1.2) bS2 bT2' bF2 bR2' (hB1.trans (hb2.mono (by omega))) hz0;refine ⟨(dT hb2 _).trans q1, (hb2.mono (by omega)).trans q2, ?_⟩;dsimp only;rw [hsn, show stB less (some b) x = some x by simp [stB, hlb]];exact q3
    | false =>
      rw [hlb] at ST
      gi_wp2_with (refine ⟨trivial, ?_⟩; gi_at_call 114; refine (CallsIn.inRound l (callsIn_wide.2 ST.out)).mono ?_; rintro e W2 ⟨rfl, hb2⟩)
      refine ⟨dT hb2 _, hb2.mono (by omega), ?_⟩;dsimp only;rw [hsn, show stB less (some b) x = some b by simp [stB, hlb]];exact ⟨⟨⟨(hb2.block _ bS1.lt).trans bS1, (hb2.block _ (aC bT1)).trans bT1⟩, (hb2.block _ bF1.lt).trans bF1, (hb2.block _ (aC bR1)).trans bR1⟩, hB1.trans (hb2.mono (by omega))⟩
 case done =>
  rintro D ys W hD rfl ⟨⟨⟨bS1, bT1⟩, bF1, bR1⟩, hB1⟩ hK;have c1 := bS1.cell;obtain ⟨⟨t0, t1⟩, g0, g1⟩ := two bT1;obtain ⟨⟨r00, r01⟩, r0, r1⟩ := two bR1;have e0 : W.drew.frozen? ⟨B + 1, 0, none⟩ = false := r0;have e1 : W.drew.frozen? ⟨B + 1, 1, none⟩ = false := r1;have e2 : W.drew.cell? ⟨B + 1, 0, none⟩ = some (.int .i64 0) := r00;have e3 : W.drew.cell? ⟨B + 1, 1, none⟩ = some (.int .i64 0) := r01
  gi_wp2
  gi_region
  gi_wp2
  have hz := bS1.lt;obtain ⟨V, hV⟩ : ∃ V, ((W.setCell ⟨B + 1, 0, none⟩ (.int .i64 (cP (aR less ys)).1)).setCell ⟨B + 1, 1, none⟩ (.int .i64 (cP (aR less ys)).2)).drew = V := ⟨_, rfl⟩;have hkp := ((((aF.refl (fun b => b = B + 1) W).setCell (p := ⟨B + 1, 0, none⟩) (.inl rfl) (.int .i64 (cP (aR less ys)).1)).setCell (p := ⟨B + 1, 1, none⟩) (.inl rfl) (.int .i64 (cP (aR less ys)).2))).drew;have hT : V.heap[B + 1]? = some (aL (cP (aR less ys)).1 (cP (aR less ys)).2) := by rw [<- hV]; exact gB bR1 _ _
  rw [hV] at hkp |-
  have hKV := hkp.heap hK (by omega);have hBV : Below B w V := hB1.trans (hkp.below (fun i hi => by omega) (by omega));clear hV e0 e1 e2 e3 r00 r01 r0 r1 t0 t1 g0 g1 c1;refine ⟨by simp, .inl ⟨_, _, rfl, run_takeDeferred hKV, ?_⟩⟩;have hT2 : (V.putObj D (.deferred none)).heap[B + 1]? = some (aL (cP (aR less ys)).1 (cP (aR less ys)).2) := (World.putObj_heap_other (by omega)).trans hT;obtain ⟨⟨y0, y1⟩, -⟩ := two hT2;refine ⟨.tuple #[jA (cP (aR less ys)), .bool (aR less ys).isSome], by simp [results, Tryz.f66, go_sem, y0, y1], rfl, ?_⟩;rw [hB0];exact hBV.trans (kH (w := W0) (by omega) V D _ _ hD hKV)
 case stop =>
  rintro D c pre W _ _ h _;exact h.elim
set_option maxRecDepth 100000 in
set_option maxHeartbeats 4000000 in
theorem G0 (bl ba bp : Nat) (L : List Q64) (w0 w : World) (hseq : Fj bl ba bp L w0) (hb0 : Below w0.heap.size w0 w) (less : Q64 -> Q64 -> Bool)
 (hst : ∀ (a b : Q64) (W : World), Calls Tryz.prog 115 #[jA a.1, jA b.1] W fun e W' => e = .returned (.bool (less a b)) /\ Below W.heap.size W W') :
 CallsIn Fence.wide 4 Tryz.prog 66 #[.func (.func 107) #[] (tkF bl ba bp), .func (.func 115) #[] #[]] w fun e w' => e = .returned (.tuple #[jA (cP (aR less L)), .bool (aR less L).isSome]) /\ Below w.heap.size w w' := by
 refine callsIn_of_wp_marks Tryz.func66 rfl trivial ?_ rfl;simp only [Tryz.ntmps66, List.size_toArray, List.length_cons, List.length_nil, Nat.reduceAdd, Nat.reduceSub, Array.replicate_succ, Array.replicate_zero, List.push_toArray, List.append_toArray, List.nil_append, List.cons_append]
 gi_wp2
 obtain ⟨B, hB0⟩ : ∃ B, w.heap.size = B := ⟨_, rfl⟩;have bF := (((Boxed.new w 139 (.func (.func 115) #[] #[])).alloc (aL 0 0)).alloc (aL 0 0)).alloc (.cells #[.bool false] 4);have bR := heap_alloc_new (w.alloc (.cells #[.func (.func 115) #[] #[]] 139)) (aL 0 0);have bT := heap_alloc_new ((w.alloc (.cells #[.func (.func 115) #[] #[]] 139)).alloc (aL 0 0)) (aL 0 0);have bS := Boxed.new (((w.alloc (.cells #[.func (.func 115) #[] #[]] 139)).alloc (aL 0 0)).alloc (aL 0 0)) 4 (.bool false);have hBw : Below B w ((((w.alloc (.cells #[.func (.func 115) #[] #[]] 139)).alloc (aL 0 0)).alloc (aL 0 0)).alloc (.cells #[.bool false] 4)) := ((((Below.refl _ w).alloc (by omega) _).alloc (by simp; omega) _).alloc (by simp; omega) _).alloc (by simp; omega) _;have hsz : ((((w.alloc (.cells #[.func (.func 115) #[] #[]] 139)).alloc (aL 0 0)).alloc (aL 0 0)).alloc (.cells #[.bool false] 4)).heap.size = B + 4 := by simp; omega
 have bR2 : ((((w.alloc (.cells #[.func (.func 115) #[] #[]] 139)).alloc (aL 0 0)).alloc (aL 0 0)).alloc (.cells #[.bool false] 4)).heap[B + 1]? = some (aL 0 0) := by
  rw [World.size_alloc, hB0] at bR;exact ((((Below.refl (B + 2) ((w.alloc (.cells #[.func (.func 115) #[] #[]] 139)).alloc (aL 0 0))).alloc (by simp; omega) (aL 0 0)).alloc (by simp; omega) (.cells #[.bool false] 4)).block _ (by omega)).trans bR
 have bT2 : ((((w.alloc (.cells #[.func (.func 115) #[] #[]] 139)).alloc (aL 0 0)).alloc (aL 0 0)).alloc (.cells #[.bool false] 4)).heap[B + 2]? = some (aL 0 0) := by
  rw [World.size_alloc, World.size_alloc, hB0] at bT;exact (((Below.refl (B + 3) (((w.alloc (.cells #[.func (.func 115) #[] #[]] 139)).alloc (aL 0 0)).alloc (aL 0 0))).alloc (by simp; omega) (.cells #[.bool false] 4)).block _ (by omega)).trans bT
 clear bR bT;simp only [World.size_alloc, hB0] at bF bS |-
 obtain ⟨W0, hW0⟩ : ∃ W0, (((w.alloc (.cells #[.func (.func 115) #[] #[]] 139)).alloc (aL 0 0)).alloc (aL 0 0)).alloc (.cells #[.bool false] 4) = W0 := ⟨_, rfl⟩;rw [hW0] at bF bS bR2 bT2 hBw hsz;rw [show (((w.alloc (.cells #[.func (.func 115) #[] #[]] 139)).alloc (.cells #[.int .i64 0, .int .i64 0] 131)).alloc (.cells #[.int .i64 0, .int .i64 0] 131)).alloc (.cells #[.bool false] 4) = W0 from hW0];have hz0 : w0.heap.size <= B := by have := hb0.size; omega
 clear hW0
 refine wpIn_rangeFunc_ownH rfl (by decide) (gf := 107) (lb := tkF bl ba bp) rfl trivial (enters_of Tryz.func107 (by kernel_rfl) rfl)
  hseq belowK_t (belowK_b (by omega)) (hb0.trans (hBw.mono hz0)) (fun _ => rfl)
  (fun pre W => ((Boxed W (B + 3) 4 (.bool (aR less pre).isSome) /\ W.heap[B + 2]? = some (aL (cP (aR less pre)).1 (cP (aR less pre)).2)) /\ (Boxed W B 139 (.func (.func 115) #[] #[]) /\ W.heap[B + 1]? = some (aL 0 0))) /\ Below B w W)
  (fun _ _ _ => False)
  (OwnFrom.and (OwnFrom.and (OwnFrom.and (Own.from (boxed_own _ _ _) _) (fun s X Y row hs hg hr => dG hs hg (fun r e => (hr r e).2))) (OwnFrom.and (Own.from (boxed_own _ _ _) _) (fun s X Y row hs hg hr => dG hs hg (fun r e => (hr r e).2)))) (ownFrom_below (by omega) (by omega)))
  (fun _ _ _ _ _ hs _ _ => hs)
  ⟨⟨⟨bS, bT2⟩, bF, bR2⟩, hBw⟩
  (fun x a' W => ∃ Bx, B + 3 < Bx /\ W.heap[Bx]? = some (aL x.1.1 x.1.2) /\ a' = { tmps := #[.func (.func 107) #[] (tkF bl ba bp), .func (.func 115) #[] #[], undef, .pointer (some ⟨B, 0, none⟩), .pointer (some ⟨B + 1, 0, none⟩), .bool false, .pointer (some ⟨B + 2, 0, none⟩), .pointer (some ⟨B + 3, 0, none⟩), .pointer (some ⟨Bx, 0, none⟩), .func (.func 107) #[] (tkF bl ba bp), jA x.1, undef, undef, undef, undef, undef, undef, undef, undef, undef, undef, undef], defers := [] })
  (fun x a' _ X Y row hs hg hr => by obtain ⟨Bx, h1, h2, h3⟩ := hs; exact ⟨Bx, h1, dG h2 hg (fun r e => (hr r e).2), h3⟩)
  ?assign ?body ?done ?stop
 case assign =>
  rintro l pre x W K ⟨⟨⟨bS1, bT1⟩, bF1, bR1⟩, hB1⟩ hK;have h2 := bS1.lt
  gi_wp2
  exact hK _ _ ((KeepsOthers.alloc _ _).from _) ((Below.refl _ W).alloc (by omega) _) ⟨⟨⟨bS1.alloc _, (Below.heap_alloc W _ _ (aC bT1)).trans bT1⟩, bF1.alloc _, (Below.heap_alloc W _ _ (aC bR1)).trans bR1⟩, hB1.alloc (by omega) _⟩ ⟨W.heap.size, bS1.lt, heap_alloc_new W _, rfl⟩
 case body =>
  rintro l pre x a' W hl ⟨r, hr⟩ ⟨⟨⟨bS1, bT1⟩, bF1, bR1⟩, hB1⟩ ⟨Bx, hBx, bX, rfl⟩ hlt;have hz := bS1.lt;obtain ⟨⟨x0, x1⟩, -⟩ := two bX;have c1 := bS1.cell;have c2 := bF1.cell;have f1 := bS1.frozen;obtain ⟨⟨t0, t1⟩, g0, g1⟩ := two bT1;have hsn := oA less pre x;cases ho : aR less pre with
  | none =>
    rw [ho] at bS1 c1 bT1 t0 t1 hsn;simp only [Option.isSome_none] at c1 bS1
    gi_wp2
    refine ⟨fun _ h => (by cases h), ?_⟩
    gi_wp2
    obtain ⟨q1, q2, q3⟩ := kG (D := W0.heap.size) (n0 := w0.heap.size) (v0 := x.1.1) (v1 := x.1.2) bS1 bT1 bF1 bR1 hB1 hz0;refine ⟨q1, q2, ?_⟩;dsimp only;rw [hsn];exact q3
  | some b =>
    rw [ho] at bS1 c1 t0 t1 bT1 hsn;simp only [Option.isSome_some] at c1 bS1;have ST := aA (hst x b W);cases hlb : less x b with
    | true =>
      rw [hlb] at ST
      gi_wp2_with (refine ⟨trivial, ?_⟩; gi_at_call 115; refine (CallsIn.inRound l (callsIn_wide.2 ST.out)).mono ?_; rintro e W2 ⟨rfl, hb2⟩; have bX2 := (hb2.block _ (aC bX)).trans bX; have bT2' := (hb2.block _ (aC bT1)).trans bT1; have bS2 : Boxed W2 (B + 3) 4 (.bool true) := (hb2.block _ bS1.lt).trans bS1; obtain ⟨⟨x20, x21⟩, -⟩ := two bX2; obtain ⟨⟨t20, t21⟩, g20, g21⟩ := two bT2'; have f2 := bS2.frozen; have c21 := bS2.cell)
      have bF2 := (hb2.block _ bF1.lt).trans bF1;have bR2' := (hb2.block _ (aC bR1)).trans bR1;obtain ⟨q1, q2, q3⟩ := kG (D := W0.heap.size) (n0 := w0.heap.size) (v0 := x.1.1) (v1 := x.1.2) bS2 bT2' bF2 bR2' (hB1.trans (hb2.mono (by omega))) hz0;refine ⟨(dT hb2 _).trans q1, (hb2.mono (by omega)).trans q2, ?_⟩;dsimp only;rw [hsn, show stB less (some b) x = some x by simp [stB, hlb]];exact q3
    | false =>
      rw [hlb] at ST
      gi_wp2_with (refine ⟨trivial, ?_⟩; gi_at_call 115; refine (CallsIn.inRound l (callsIn_wide.2 ST.out)).mono ?_; rintro e W2 ⟨rfl, hb2⟩)
      refine ⟨dT hb2 _, hb2.mono (by omega), ?_⟩;dsimp only;rw [hsn, show stB less (some b) x = some b by simp [stB, hlb]];exact ⟨⟨⟨(hb2.block _ bS1.lt).trans bS1, (hb2.block _ (aC bT1)).trans bT1⟩, (hb2.block _ bF1.lt).trans bF1, (hb2.block _ (aC bR1)).trans bR1⟩, hB1.trans (hb2.mono (by omega))⟩
 case done =>
  rintro D ys W hD rfl ⟨⟨⟨bS1, bT1⟩, bF1, bR1⟩, hB1⟩ hK;have c1 := bS1.cell;obtain ⟨⟨t0, t1⟩, g0, g1⟩ := two bT1;obtain ⟨⟨r00, r01⟩, r0, r1⟩ := two bR1;have e0 : W.drew.frozen? ⟨B + 1, 0, none⟩ = false := r0;have e1 : W.drew.frozen? ⟨B + 1, 1, none⟩ = false := r1;have e2 : W.drew.cell? ⟨B + 1, 0, none⟩ = some (.int .i64 0) := r00;have e3 : W.drew.cell? ⟨B + 1, 1, none⟩ = some (.int .i64 0) := r01
  gi_wp2
  gi_region
  gi_wp2
  have hz := bS1.lt;obtain ⟨V, hV⟩ : ∃ V, ((W.setCell ⟨B + 1, 0, none⟩ (.int .i64 (cP (aR less ys)).1)).setCell ⟨B + 1, 1, none⟩ (.int .i64 (cP (aR less ys)).2)).drew = V := ⟨_, rfl⟩;have hkp := ((((aF.refl (fun b => b = B + 1) W).setCell (p := ⟨B + 1, 0, none⟩) (.inl rfl) (.int .i64 (cP (aR less ys)).1)).setCell (p := ⟨B + 1, 1, none⟩) (.inl rfl) (.int .i64 (cP (aR less ys)).2))).drew;have hT : V.heap[B + 1]? = some (aL (cP (aR less ys)).1 (cP (aR less ys)).2) := by rw [<- hV]; exact gB bR1 _ _
  rw [hV] at hkp |-
  have hKV := hkp.heap hK (by omega);have hBV : Below B w V := hB1.trans (hkp.below (fun i hi => by omega) (by omega));clear hV e0 e1 e2 e3 r00 r01 r0 r1 t0 t1 g0 g1 c1;refine ⟨by simp, .inl ⟨_, _, rfl, run_takeDeferred hKV, ?_⟩⟩;have hT2 : (V.putObj D (.deferred none)).heap[B + 1]? = some (aL (cP (aR less ys)).1 (cP (aR less ys)).2) := (World.putObj_heap_other (by omega)).trans hT;obtain ⟨⟨y0, y1⟩, -⟩ := two hT2;refine ⟨.tuple #[jA (cP (aR less ys)), .bool (aR less ys).isSome], by simp [results, Tryz.f66, go_sem, y0, y1], rfl, ?_⟩;rw [hB0];exact hBV.trans (kH (w := W0) (by omega) V D _ _ hD hKV)
 case stop =>
  rintro D c pre W _ _ h _;exact h.elim
end
end Go.Proofs.YtapcjnoaofmmiaaGreatDoor
