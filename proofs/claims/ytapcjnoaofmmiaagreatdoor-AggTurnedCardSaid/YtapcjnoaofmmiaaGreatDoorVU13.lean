/-
 No statement: what AggTurnedCard needs, of the texts OParts, QExpr, QBox.
-/
import Derived.Test.YtapcjnoaofmmiaaGreatDoorVU12
namespace Go.Proofs.YtapcjnoaofmmiaaGreatDoor
section
open Go.RowKit
abbrev ptV (x : List UInt8) : Value := .agg #[.bool (kP x), .bool (eP x), .bool (bP x)]
abbrev ptO (k e b : Bool) : Obj := .cells #[.bool k, .bool e, .bool b] 102
theorem cL {W : World} {B : Nat} {x0 x1 x2 : Value} {t : TypeId} (h : W.heap[B]? = some (.cells #[x0, x1, x2] t (0, 0))) :
 (W.cell? ⟨B, 0, none⟩ = some x0 /\ W.cell? ⟨B, 1, none⟩ = some x1 /\ W.cell? ⟨B, 2, none⟩ = some x2) /\ W.frozen? ⟨B, 0, none⟩ = false /\ W.frozen? ⟨B, 1, none⟩ = false /\ W.frozen? ⟨B, 2, none⟩ = false := by
 refine ⟨⟨?_, ?_, ?_⟩, ?_, ?_, ?_⟩ <;> simp [World.cell?, World.frozen?, h]
theorem fW {W : World} {B : Nat} {x0 x1 x2 : Value} {t : TypeId} (h : W.heap[B]? = some (.cells #[x0, x1, x2] t (0, 0))) (v0 v1 v2 : Value) :
 (((W.setCell ⟨B, 0, none⟩ v0).setCell ⟨B, 1, none⟩ v1).setCell ⟨B, 2, none⟩ v2).heap[B]? = some (.cells #[v0, v1, v2] t (0, 0)) := by
 have h0 := heap_setCell_same W B 0 _ t v0 h;have g0 : (W.setCell ⟨B, 0, none⟩ v0).heap[B]? = some (.cells #[v0, x1, x2] t (0, 0)) := by simpa using h0
 have h1 := heap_setCell_same _ B 1 _ t v1 g0;have g1 : ((W.setCell ⟨B, 0, none⟩ v0).setCell ⟨B, 1, none⟩ v1).heap[B]? = some (.cells #[v0, v1, x2] t (0, 0)) := by simpa using h1
 have h2 := heap_setCell_same _ B 2 _ t v2 g1;simpa using h2
theorem fZ (W : World) (B : Nat) (v0 v1 v2 : Value) : aF (· = B) W (((W.setCell ⟨B, 0, none⟩ v0).setCell ⟨B, 1, none⟩ v1).setCell ⟨B, 2, none⟩ v2) :=
 (((aF.refl (· = B) W).setCell (p := ⟨B, 0, none⟩) (.inl rfl) v0).setCell (p := ⟨B, 1, none⟩) (.inl rfl) v1).setCell (p := ⟨B, 2, none⟩) (.inl rfl) v2
set_option maxHeartbeats 8000000 in
theorem iH (o : ByteArray) (w : World) : Calls Tryz.prog 44 #[.string o] w fun e w' => e = .returned (.tuple #[ptV o.data.toList, .bool (cZ o.data.toList)]) /\ Below w.heap.size w w' := by
 unfold ptV;have B1 := (Below.refl w.heap.size w).alloc (Nat.le_refl _) (ptO false false false);have N1 := heap_alloc_new w (ptO false false false);have hs0 : (w.alloc (ptO false false false)).heap.size = w.heap.size + 1 := World.size_alloc _ _;generalize hW : w.alloc (ptO false false false) = W at *;have HW := aA hW;have HB := aA B1;have HN := aA N1;obtain ⟨⟨m0, m1, m2⟩, f0, f1, f2⟩ := cL N1;clear hW B1 N1;cases h0 : (o.data.toList == aN) with
 | true =>
   have g0 := bV h0;unfold aN at g0;have hE : o.data.toList = aN := by simpa using h0
   rw [show kP o.data.toList = false by rw [hE]; decide, show eP o.data.toList = false by rw [hE]; decide, show bP o.data.toList = false by rw [hE]; decide, show cZ o.data.toList = true by rw [hE]; decide];clear hE;clear h0
   go_enter Tryz.func44, Tryz.ntmps44
   go_upto_region 1 with fail
   rw [HW.out]
   go_wp2_with fail
   obtain ⟨⟨d0, d1, d2⟩, -⟩ := cL (fW HN.out (.bool false) (.bool false) (.bool false));exact bodyPost_ret (v := .tuple #[.agg #[.bool false, .bool false, .bool false], .bool true]) (by simp [results, Tryz.results44, go_sem, d0, d1, d2]) rfl ⟨rfl, HB.out.trans ((fZ W w.heap.size _ _ _).below (fun i hi => by omega) (by omega))⟩
 | false =>
   cases h1 : (o.data.toList == i8) with
   | true =>
     have g0 := aH h0;unfold aN at g0;have g1 := bV h1;unfold i8 at g1;have hE : o.data.toList = i8 := by simpa using h1
     rw [show kP o.data.toList = false by rw [hE]; decide, show eP o.data.toList = true by rw [hE]; decide, show bP o.data.toList = false by rw [hE]; decide, show cZ o.data.toList = true by rw [hE]; decide];clear hE;clear h0 h1
     go_enter Tryz.func44, Tryz.ntmps44
     go_upto_region 1 with fail
     rw [HW.out]
     go_wp2_with fail
     obtain ⟨⟨d0, d1, d2⟩, -⟩ := cL (fW HN.out (.bool false) (.bool true) (.bool false));exact bodyPost_ret (v := .tuple #[.agg #[.bool false, .bool true, .bool false], .bool true]) (by simp [results, Tryz.results44, go_sem, d0, d1, d2]) rfl ⟨rfl, HB.out.trans ((fZ W w.heap.size _ _ _).below (fun i hi => by omega) (by omega))⟩
   | false =>
     cases h2 : (o.data.toList == kK) with
     | true =>
       have g0 := aH h0;unfold aN at g0;have g1 := aH h1;unfold i8 at g1;have g2 := bV h2;unfold kK at g2;have hE : o.data.toList = kK := by simpa using h2
       rw [show kP o.data.toList = false by rw [hE]; decide, show eP o.data.toList = true by rw [hE]; decide, show bP o.data.toList = false by rw [hE]; decide, show cZ o.data.toList = true by rw [hE]; decide];clear hE;clear h0 h1 h2
       go_enter Tryz.func44, Tryz.ntmps44
       go_upto_region 1 with fail
       rw [HW.out]
       go_wp2_with fail
       obtain ⟨⟨d0, d1, d2⟩, -⟩ := cL (fW HN.out (.bool false) (.bool true) (.bool false));exact bodyPost_ret (v := .tuple #[.agg #[.bool false, .bool true, .bool false], .bool true]) (by simp [results, Tryz.results44, go_sem, d0, d1, d2]) rfl ⟨rfl, HB.out.trans ((fZ W w.heap.size _ _ _).below (fun i hi => by omega) (by omega))⟩
     | false =>
       cases h3 : (o.data.toList == i7) with
       | true =>
         have g0 := aH h0;unfold aN at g0;have g1 := aH h1;unfold i8 at g1;have g2 := aH h2;unfold kK at g2;have g3 := bV h3;unfold i7 at g3;have hE : o.data.toList = i7 := by simpa using h3
         rw [show kP o.data.toList = false by rw [hE]; decide, show eP o.data.toList = true by rw [hE]; decide, show bP o.data.toList = false by rw [hE]; decide, show cZ o.data.toList = true by rw [hE]; decide];clear hE;clear h0 h1 h2 h3
         go_enter Tryz.func44, Tryz.ntmps44
         go_upto_region 1 with fail
         rw [HW.out]
         go_wp2_with fail
         obtain ⟨⟨d0, d1, d2⟩, -⟩ := cL (fW HN.out (.bool false) (.bool true) (.bool false));exact bodyPost_ret (v := .tuple #[.agg #[.bool false, .bool true, .bool false], .bool true]) (by simp [results, Tryz.results44, go_sem, d0, d1, d2]) rfl ⟨rfl, HB.out.trans ((fZ W w.heap.size _ _ _).below (fun i hi => by omega) (by omega))⟩
       | false =>
         cases h4 : (o.data.toList == aT) with
         | true =>
           have g0 := aH h0;unfold aN at g0;have g1 := aH h1;unfold i8 at g1;have g2 := aH h2;unfold kK at g2;have g3 := aH h3;unfold i7 at g3;have g4 := bV h4;unfold aT at g4;have hE : o.data.toList = aT := by simpa using h4
           rw [show kP o.data.toList = false by rw [hE]; decide, show eP o.data.toList = true by rw [hE]; decide, show bP o.data.toList = true by rw [hE]; decide, show cZ o.data.toList = true by rw [hE]; decide];clear hE;clear h0 h1 h2 h3 h4
           go_enter Tryz.func44, Tryz.ntmps44
           go_upto_region 1 with fail
           rw [HW.out]
           go_wp2_with fail
           obtain ⟨⟨d0, d1, d2⟩, -⟩ := cL (fW HN.out (.bool false) (.bool true) (.bool true));exact bodyPost_ret (v := .tuple #[.agg #[.bool false, .bool true, .bool true], .bool true]) (by simp [results, Tryz.results44, go_sem, d0, d1, d2]) rfl ⟨rfl, HB.out.trans ((fZ W w.heap.size _ _ _).below (fun i hi => by omega) (by omega))⟩
         | false =>
           cases h5 : (o.data.toList == eJ) with
           | true =>
             have g0 := aH h0;unfold aN at g0;have g1 := aH h1;unfold i8 at g1;have g2 := aH h2;unfold kK at g2;have g3 := aH h3;unfold i7 at g3;have g4 := aH h4;unfold aT at g4;have g5 := bV h5;unfold eJ at g5;have hE : o.data.toList = eJ := by simpa using h5
             rw [show kP o.data.toList = true by rw [hE]; decide, show eP o.data.toList = true by rw [hE]; decide, show bP o.data.toList = false by rw [hE]; decide, show cZ o.data.toList = true by rw [hE]; decide];clear hE;clear h0 h1 h2 h3 h4 h5
             go_enter Tryz.func44, Tryz.ntmps44
             go_upto_region 1 with fail
             rw [HW.out]
             go_wp2_with fail
             obtain ⟨⟨d0, d1, d2⟩, -⟩ := cL (fW HN.out (.bool true) (.bool true) (.bool false));exact bodyPost_ret (v := .tuple #[.agg #[.bool true, .bool true, .bool false], .bool true]) (by simp [results, Tryz.results44, go_sem, d0, d1, d2]) rfl ⟨rfl, HB.out.trans ((fZ W w.heap.size _ _ _).below (fun i hi => by omega) (by omega))⟩
           | false =>
             have g0 := aH h0;unfold aN at g0;have g1 := aH h1;unfold i8 at g1;have g2 := aH h2;unfold kK at g2;have g3 := aH h3;unfold i7 at g3;have g4 := aH h4;unfold aT at g4;have g5 := aH h5;unfold eJ at g5;have hF : cZ o.data.toList = false := by unfold cZ; rw [h0, h1, h2, h3, h4, h5]; rfl
             rw [show kP o.data.toList = false from h5, show eP o.data.toList = false by unfold eP; rw [hF]; rfl, show bP o.data.toList = false from h4, hF];clear hF;clear h0 h1 h2 h3 h4 h5
             go_enter Tryz.func44, Tryz.ntmps44
             go_upto_region 1 with fail
             rw [HW.out]
             go_wp2_with fail
             obtain ⟨⟨d0, d1, d2⟩, -⟩ := cL (fW HN.out (.bool false) (.bool false) (.bool false));exact bodyPost_ret (v := .tuple #[.agg #[.bool false, .bool false, .bool false], .bool false]) (by simp [results, Tryz.results44, go_sem, d0, d1, d2]) rfl ⟨rfl, HB.out.trans ((fZ W w.heap.size _ _ _).below (fun i hi => by omega) (by omega))⟩
theorem zS (k : Int) (w : World) : Calls Tryz.prog 95 #[.int .i64 k] w fun e w' => e = .returned (.bool (decide (1 <= k) && decide (k <= 16))) /\ w = w' := by
 by_cases h : 1 <= k
 · rw [decide_eq_true h, Bool.true_and]
   go_enter Tryz.func95, Tryz.ntmps95
   go_wp2_with fail
   go_ret;exact ⟨rfl, rfl⟩
 · rw [decide_eq_false h, Bool.false_and]
   have h2 : decide (1 <= k) = false := decide_eq_false h
   go_enter Tryz.func95, Tryz.ntmps95
   go_wp2_with fail
   go_ret;exact ⟨rfl, rfl⟩
theorem uS (o : ByteArray) (w : World) : Calls Tryz.prog 97 #[.string o] w fun e w' => e = .returned (.bool (aO o 0 0).isSome) /\ w = w' := by
 have C := aA (sH o 0 0 w);obtain ⟨z, hz⟩ : ∃ z, (aO o 0 0).isSome = z := ⟨_, rfl⟩;obtain ⟨y, hy⟩ : ∃ y, (aO o 0 0).getD false = y := ⟨_, rfl⟩;rw [hz, hy] at C;rw [hz];clear hz hy
 go_enter Tryz.func97, Tryz.ntmps97
 go_wp2_with fail
 refine C.out.mono ?_;rintro e w1 ⟨rfl, rfl⟩;clear C
 go_wp2_with fail
 go_ret;exact ⟨rfl, rfl⟩
theorem vC {rb : Nat} {w X Y : World} (hb : Below w.heap.size w X) (hk : aF (· = rb) X Y) (_ : w.heap.size + 1 <= X.heap.size) : aF (· = rb) w Y :=
 (aE hb (· = rb)).trans hk (fun _ hi _ => hi)
theorem Gy {W : World} {B : Nat} {x0 x1 x2 x3 : Value} {t : TypeId} (h : W.heap[B]? = some (.cells #[x0, x1, x2, x3] t (0, 0))) (o m : ByteArray) (n : Int) (a : Option Addr) (l c : Nat) :
 (AR W B o m n a l c).heap[B]? = some (.cells #[.string o, .string m, .int .i64 n, .slice a l c] t (0, 0)) := aS h (.string o) (.string m) (.int .i64 n) (.slice a l c)
def bC : AG := ⟨⟨#[]⟩, 0, aP, aP, []⟩
def aY : PA := ⟨none, 0, none, 0, none, 0⟩
abbrev fL (W : World) (B : Nat) (x : AG) (p : PA) : World := ((((((((((W.setCell ⟨B, 0, none⟩ (.string x.fn)).setCell ⟨B, 1, none⟩ (.int .i64 x.k)).setCell ⟨B, 2, none⟩ (.string x.e.op)).setCell ⟨B, 3, none⟩ (.string x.e.nm)).setCell ⟨B, 4, none⟩ (.int .i64 x.e.n)).setCell ⟨B, 5, none⟩ (.slice p.ea x.e.ks.len p.ec)).setCell ⟨B, 6, none⟩ (.string x.g.op)).setCell ⟨B, 7, none⟩ (.string x.g.nm)).setCell ⟨B, 8, none⟩ (.int .i64 x.g.n)).setCell ⟨B, 9, none⟩ (.slice p.ga x.g.ks.len p.gc)).setCell ⟨B, 10, none⟩ (.slice p.wa x.wh.length p.wc)
theorem dX (W : World) (B : Nat) (x : AG) (p : PA) : aF (· = B) W (fL W B x p) :=
 ((((((((((((aF.refl (· = B) W).setCell (p := ⟨B, 0, none⟩) (.inl rfl) _).setCell (p := ⟨B, 1, none⟩) (.inl rfl) _).setCell (p := ⟨B, 2, none⟩) (.inl rfl) _).setCell (p := ⟨B, 3, none⟩) (.inl rfl) _).setCell (p := ⟨B, 4, none⟩) (.inl rfl) _).setCell (p := ⟨B, 5, none⟩) (.inl rfl) _).setCell (p := ⟨B, 6, none⟩) (.inl rfl) _).setCell (p := ⟨B, 7, none⟩) (.inl rfl) _).setCell (p := ⟨B, 8, none⟩) (.inl rfl) _).setCell (p := ⟨B, 9, none⟩) (.inl rfl) _).setCell (p := ⟨B, 10, none⟩) (.inl rfl) _)
theorem f7 {W : World} {B : Nat} {u0 u1 u2 u3 u4 u5 u6 u7 u8 u9 u10 : Value} {t : TypeId} (h : W.heap[B]? = some (.cells #[u0, u1, u2, u3, u4, u5, u6, u7, u8, u9, u10] t (0, 0))) (x : AG) (p : PA) : (fL W B x p).heap[B]? = some (.cells (agC x p) t (0, 0)) := by
 have h0 := heap_setCell_same (W) B 0 _ t (.string x.fn) h;have g0 : ((W).setCell ⟨B, 0, none⟩ (.string x.fn)).heap[B]? = some (.cells #[.string x.fn, u1, u2, u3, u4, u5, u6, u7, u8, u9, u10] t (0, 0)) := by simpa using h0
 have h1 := heap_setCell_same ((W).setCell ⟨B, 0, none⟩ (.string x.fn)) B 1 _ t (.int .i64 x.k) g0;have g1 : (((W).setCell ⟨B, 0, none⟩ (.string x.fn)).setCell ⟨B, 1, none⟩ (.int .i64 x.k)).heap[B]? = some (.cells #[.string x.fn, .int .i64 x.k, u2, u3, u4, u5, u6, u7, u8, u9, u10] t (0, 0)) := by simpa using h1
 have h2 := heap_setCell_same (((W).setCell ⟨B, 0, none⟩ (.string x.fn)).setCell ⟨B, 1, none⟩ (.int .i64 x.k)) B 2 _ t (.string x.e.op) g1;have g2 : ((((W).setCell ⟨B, 0, none⟩ (.string x.fn)).setCell ⟨B, 1, none⟩ (.int .i64 x.k)).setCell ⟨B, 2, none⟩ (.string x.e.op)).heap[B]? = some (.cells #[.string x.fn, .int .i64 x.k, .string x.e.op, u3, u4, u5, u6, u7, u8, u9, u10] t (0, 0)) := by simpa using h2
 have h3 := heap_setCell_same ((((W).setCell ⟨B, 0, none⟩ (.string x.fn)).setCell ⟨B, 1, none⟩ (.int .i64 x.k)).setCell ⟨B, 2, none⟩ (.string x.e.op)) B 3 _ t (.string x.e.nm) g2;have g3 : (((((W).setCell ⟨B, 0, none⟩ (.string x.fn)).setCell ⟨B, 1, none⟩ (.int .i64 x.k)).setCell ⟨B, 2, none⟩ (.string x.e.op)).setCell ⟨B, 3, none⟩ (.string x.e.nm)).heap[B]? = some (.cells #[.string x.fn, .int .i64 x.k, .string x.e.op, .string x.e.nm, u4, u5, u6, u7, u8, u9, u10] t (0, 0)) := by simpa using h3
 have h4 := heap_setCell_same (((((W).setCell ⟨B, 0, none⟩ (.string x.fn)).setCell ⟨B, 1, none⟩ (.int .i64 x.k)).setCell ⟨B, 2, none⟩ (.string x.e.op)).setCell ⟨B, 3, none⟩ (.string x.e.nm)) B 4 _ t (.int .i64 x.e.n) g3;have g4 : ((((((W).setCell ⟨B, 0, none⟩ (.string x.fn)).setCell ⟨B, 1, none⟩ (.int .i64 x.k)).setCell ⟨B, 2, none⟩ (.string x.e.op)).setCell ⟨B, 3, none⟩ (.string x.e.nm)).setCell ⟨B, 4, none⟩ (.int .i64 x.e.n)).heap[B]? = some (.cells #[.string x.fn, .int .i64 x.k, .string x.e.op, .string x.e.nm, .int .i64 x.e.n, u5, u6, u7, u8, u9, u10] t (0, 0)) := by simpa using h4
 have h5 := heap_setCell_same ((((((W).setCell ⟨B, 0, none⟩ (.string x.fn)).setCell ⟨B, 1, none⟩ (.int .i64 x.k)).setCell ⟨B, 2, none⟩ (.string x.e.op)).setCell ⟨B, 3, none⟩ (.string x.e.nm)).setCell ⟨B, 4, none⟩ (.int .i64 x.e.n)) B 5 _ t (.slice p.ea x.e.ks.len p.ec) g4;have g5 : (((((((W).setCell ⟨B, 0, none⟩ (.string x.fn)).setCell ⟨B, 1, none⟩ (.int .i64 x.k)).setCell ⟨B, 2, none⟩ (.string x.e.op)).setCell ⟨B, 3, none⟩ (.string x.e.nm)).setCell ⟨B, 4, none⟩ (.int .i64 x.e.n)).setCell ⟨B, 5, none⟩ (.slice p.ea x.e.ks.len p.ec)).heap[B]? = some (.cells #[.string x.fn, .int .i64 x.k, .string x.e.op, .string x.e.nm, .int .i64 x.e.n, .slice p.ea x.e.ks.len p.ec, u6, u7, u8, u9, u10] t (0, 0)) := by simpa using h5
 have h6 := heap_setCell_same (((((((W).setCell ⟨B, 0, none⟩ (.string x.fn)).setCell ⟨B, 1, none⟩ (.int .i64 x.k)).setCell ⟨B, 2, none⟩ (.string x.e.op)).setCell ⟨B, 3, none⟩ (.string x.e.nm)).setCell ⟨B, 4, none⟩ (.int .i64 x.e.n)).setCell ⟨B, 5, none⟩ (.slice p.ea x.e.ks.len p.ec)) B 6 _ t (.string x.g.op) g5;have g6 : ((((((((W).setCell ⟨B, 0, none⟩ (.string x.fn)).setCell ⟨B, 1, none⟩ (.int .i64 x.k)).setCell ⟨B, 2, none⟩ (.string x.e.op)).setCell ⟨B, 3, none⟩ (.string x.e.nm)).setCell ⟨B, 4, none⟩ (.int .i64 x.e.n)).setCell ⟨B, 5, none⟩ (.slice p.ea x.e.ks.len p.ec)).setCell ⟨B, 6, none⟩ (.string x.g.op)).heap[B]? = some (.cells #[.string x.fn, .int .i64 x.k, .string x.e.op, .string x.e.nm, .int .i64 x.e.n, .slice p.ea x.e.ks.len p.ec, .string x.g.op, u7, u8, u9, u10] t (0, 0)) := by simpa using h6
 have h7 := heap_setCell_same ((((((((W).setCell ⟨B, 0, none⟩ (.string x.fn)).setCell ⟨B, 1, none⟩ (.int .i64 x.k)).setCell ⟨B, 2, none⟩ (.string x.e.op)).setCell ⟨B, 3, none⟩ (.string x.e.nm)).setCell ⟨B, 4, none⟩ (.int .i64 x.e.n)).setCell ⟨B, 5, none⟩ (.slice p.ea x.e.ks.len p.ec)).setCell ⟨B, 6, none⟩ (.string x.g.op)) B 7 _ t (.string x.g.nm) g6;have g7 : (((((((((W).setCell ⟨B, 0, none⟩ (.string x.fn)).setCell ⟨B, 1, none⟩ (.int .i64 x.k)).setCell ⟨B, 2, none⟩ (.string x.e.op)).setCell ⟨B, 3, none⟩ (.string x.e.nm)).setCell ⟨B, 4, none⟩ (.int .i64 x.e.n)).setCell ⟨B, 5, none⟩ (.slice p.ea x.e.ks.len p.ec)).setCell ⟨B, 6, none⟩ (.string x.g.op)).setCell ⟨B, 7, none⟩ (.string x.g.nm)).heap[B]? = some (.cells #[.string x.fn, .int .i64 x.k, .string x.e.op, .string x.e.nm, .int .i64 x.e.n, .slice p.ea x.e.ks.len p.ec, .string x.g.op, .string x.g.nm, u8, u9, u10] t (0, 0)) := by simpa using h7
 have h8 := heap_setCell_same (((((((((W).setCell ⟨B, 0, none⟩ (.string x.fn)).setCell ⟨B, 1, none⟩ (.int .i64 x.k)).setCell ⟨B, 2, none⟩ (.string x.e.op)).setCell ⟨B, 3, none⟩ (.string x.e.nm)).setCell ⟨B, 4, none⟩ (.int .i64 x.e.n)).setCell ⟨B, 5, none⟩ (.slice p.ea x.e.ks.len p.ec)).setCell ⟨B, 6, none⟩ (.string x.g.op)).setCell ⟨B, 7, none⟩ (.string x.g.nm)) B 8 _ t (.int .i64 x.g.n) g7;have g8 : ((((((((((W).setCell ⟨B, 0, none⟩ (.string x.fn)).setCell ⟨B, 1, none⟩ (.int .i64 x.k)).setCell ⟨B, 2, none⟩ (.string x.e.op)).setCell ⟨B, 3, none⟩ (.string x.e.nm)).setCell ⟨B, 4, none⟩ (.int .i64 x.e.n)).setCell ⟨B, 5, none⟩ (.slice p.ea x.e.ks.len p.ec)).setCell ⟨B, 6, none⟩ (.string x.g.op)).setCell ⟨B, 7, none⟩ (.string x.g.nm)).setCell ⟨B, 8, none⟩ (.int .i64 x.g.n)).heap[B]? = some (.cells #[.string x.fn, .int .i64 x.k, .string x.e.op, .string x.e.nm, .int .i64 x.e.n, .slice p.ea x.e.ks.len p.ec, .string x.g.op, .string x.g.nm, .int .i64 x.g.n, u9, u10] t (0, 0)) := by simpa using h8
 have h9 := heap_setCell_same ((((((((((W).setCell ⟨B, 0, none⟩ (.string x.fn)).setCell ⟨B, 1, none⟩ (.int .i64 x.k)).setCell ⟨B, 2, none⟩ (.string x.e.op)).setCell ⟨B, 3, none⟩ (.string x.e.nm)).setCell ⟨B, 4, none⟩ (.int .i64 x.e.n)).setCell ⟨B, 5, none⟩ (.slice p.ea x.e.ks.len p.ec)).setCell ⟨B, 6, none⟩ (.string x.g.op)).setCell ⟨B, 7, none⟩ (.string x.g.nm)).setCell ⟨B, 8, none⟩ (.int .i64 x.g.n)) B 9 _ t (.slice p.ga x.g.ks.len p.gc) g8;have g9 : (((((((((((W).setCell ⟨B, 0, none⟩ (.string x.fn)).setCell ⟨B, 1, none⟩ (.int .i64 x.k)).setCell ⟨B, 2, none⟩ (.string x.e.op)).setCell ⟨B, 3, none⟩ (.string x.e.nm)).setCell ⟨B, 4, none⟩ (.int .i64 x.e.n)).setCell ⟨B, 5, none⟩ (.slice p.ea x.e.ks.len p.ec)).setCell ⟨B, 6, none⟩ (.string x.g.op)).setCell ⟨B, 7, none⟩ (.string x.g.nm)).setCell ⟨B, 8, none⟩ (.int .i64 x.g.n)).setCell ⟨B, 9, none⟩ (.slice p.ga x.g.ks.len p.gc)).heap[B]? = some (.cells #[.string x.fn, .int .i64 x.k, .string x.e.op, .string x.e.nm, .int .i64 x.e.n, .slice p.ea x.e.ks.len p.ec, .string x.g.op, .string x.g.nm, .int .i64 x.g.n, .slice p.ga x.g.ks.len p.gc, u10] t (0, 0)) := by simpa using h9
 have h10 := heap_setCell_same (((((((((((W).setCell ⟨B, 0, none⟩ (.string x.fn)).setCell ⟨B, 1, none⟩ (.int .i64 x.k)).setCell ⟨B, 2, none⟩ (.string x.e.op)).setCell ⟨B, 3, none⟩ (.string x.e.nm)).setCell ⟨B, 4, none⟩ (.int .i64 x.e.n)).setCell ⟨B, 5, none⟩ (.slice p.ea x.e.ks.len p.ec)).setCell ⟨B, 6, none⟩ (.string x.g.op)).setCell ⟨B, 7, none⟩ (.string x.g.nm)).setCell ⟨B, 8, none⟩ (.int .i64 x.g.n)).setCell ⟨B, 9, none⟩ (.slice p.ga x.g.ks.len p.gc)) B 10 _ t (.slice p.wa x.wh.length p.wc) g9;have g10 : ((((((((((((W).setCell ⟨B, 0, none⟩ (.string x.fn)).setCell ⟨B, 1, none⟩ (.int .i64 x.k)).setCell ⟨B, 2, none⟩ (.string x.e.op)).setCell ⟨B, 3, none⟩ (.string x.e.nm)).setCell ⟨B, 4, none⟩ (.int .i64 x.e.n)).setCell ⟨B, 5, none⟩ (.slice p.ea x.e.ks.len p.ec)).setCell ⟨B, 6, none⟩ (.string x.g.op)).setCell ⟨B, 7, none⟩ (.string x.g.nm)).setCell ⟨B, 8, none⟩ (.int .i64 x.g.n)).setCell ⟨B, 9, none⟩ (.slice p.ga x.g.ks.len p.gc)).setCell ⟨B, 10, none⟩ (.slice p.wa x.wh.length p.wc)).heap[B]? = some (.cells #[.string x.fn, .int .i64 x.k, .string x.e.op, .string x.e.nm, .int .i64 x.e.n, .slice p.ea x.e.ks.len p.ec, .string x.g.op, .string x.g.nm, .int .i64 x.g.n, .slice p.ga x.g.ks.len p.gc, .slice p.wa x.wh.length p.wc] t (0, 0)) := by simpa using h10
 exact g10
abbrev putE (W : World) (B : Nat) (t : TN) (ad : Option Addr) (cc : Nat) : World := (((W.setCell ⟨B, 2, none⟩ (.string t.op)).setCell ⟨B, 3, none⟩ (.string t.nm)).setCell ⟨B, 4, none⟩ (.int .i64 t.n)).setCell ⟨B, 5, none⟩ (.slice ad t.ks.len cc)
theorem vB (W : World) (B : Nat) (t : TN) (ad : Option Addr) (cc : Nat) : aF (· = B) W (putE W B t ad cc) :=
 (((((aF.refl (· = B) W).setCell (p := ⟨B, 2, none⟩) (.inl rfl) _).setCell (p := ⟨B, 3, none⟩) (.inl rfl) _).setCell (p := ⟨B, 4, none⟩) (.inl rfl) _).setCell (p := ⟨B, 5, none⟩) (.inl rfl) _)
abbrev putG (W : World) (B : Nat) (t : TN) (ad : Option Addr) (cc : Nat) : World := (((W.setCell ⟨B, 6, none⟩ (.string t.op)).setCell ⟨B, 7, none⟩ (.string t.nm)).setCell ⟨B, 8, none⟩ (.int .i64 t.n)).setCell ⟨B, 9, none⟩ (.slice ad t.ks.len cc)
theorem Ec (W : World) (B : Nat) (t : TN) (ad : Option Addr) (cc : Nat) : aF (· = B) W (putG W B t ad cc) :=
 (((((aF.refl (· = B) W).setCell (p := ⟨B, 6, none⟩) (.inl rfl) _).setCell (p := ⟨B, 7, none⟩) (.inl rfl) _).setCell (p := ⟨B, 8, none⟩) (.inl rfl) _).setCell (p := ⟨B, 9, none⟩) (.inl rfl) _)
theorem dN {W : World} {B : Nat} {v0 v1 v2 v3 v4 v5 v6 v7 v8 v9 v10 : Value} {t : TypeId} (h : W.heap[B]? = some (.cells #[v0, v1, v2, v3, v4, v5, v6, v7, v8, v9, v10] t (0, 0))) :
 W.frozen? ⟨B, 0, none⟩ = false /\ W.frozen? ⟨B, 1, none⟩ = false /\ W.frozen? ⟨B, 2, none⟩ = false /\ W.frozen? ⟨B, 3, none⟩ = false /\ W.frozen? ⟨B, 4, none⟩ = false /\ W.frozen? ⟨B, 5, none⟩ = false /\ W.frozen? ⟨B, 6, none⟩ = false /\ W.frozen? ⟨B, 7, none⟩ = false /\ W.frozen? ⟨B, 8, none⟩ = false /\ W.frozen? ⟨B, 9, none⟩ = false /\ W.frozen? ⟨B, 10, none⟩ = false := by
 refine ⟨?_, ?_, ?_, ?_, ?_, ?_, ?_, ?_, ?_, ?_, ?_⟩ <;> simp [World.frozen?, h]
end
end Go.Proofs.YtapcjnoaofmmiaaGreatDoor
