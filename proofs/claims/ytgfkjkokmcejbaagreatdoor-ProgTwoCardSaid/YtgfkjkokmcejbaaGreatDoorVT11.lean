/-
 No statement: what ProgTwoLift needs, of the texts QCond, OW1, OW2, QSup, QOwn, QOk, QGw.
-/
import Derived.Test.YtgfkjkokmcejbaaGreatDoorVT10
import Derived.Deep.LoopGhost
import Derived.Shelf.Spec.SlicesInsertGrow
import Derived.Lib.SlicesDelete
import Derived.Lib.ItoaLen
import Derived.Laws.BytesString
import Derived.RangeFuncBox
import Derived.Maps.AppendAt
import Derived.Deep.Slices
import Derived.Deep.Fields
import Derived.ChangeSame
import Derived.RangeFuncNested
import Derived.RangeFuncBound
import Derived.RangeFuncCalls
import Derived.RangeFuncLeaves
import Derived.Shelf.Abstract
import Derived.Shelf.RegionOpen
import Derived.OwnWalkIn
import Derived.TacticsInMore
import Derived.LoopNIn
import Derived.LoopIn
import Derived.Lib.IndexLaws
import Derived.Maps.OwnIn
set_option maxHeartbeats 40000000
set_option maxRecDepth 100000
namespace Go.Proofs.YtgfkjkokmcejbaaGreatDoor
open Go.RowKit
section
open Go.RowKit
set_option linter.unusedSimpArgs false
def CV:CD:=⟨⟨#[]⟩,aC,aC⟩
abbrev cdC (x:CD) (a1:Option Addr) (c1:Nat) (a2:Option Addr) (c2:Nat):Array Value:=#[.string x.op,.string x.a.op,.string x.a.nm,.int .i64 x.a.n,.slice a1 x.a.ks.len c1,.string x.b.op,.string x.b.nm,.int .i64 x.b.n,.slice a2 x.b.ks.len c2]
abbrev cdV (x:CD) (a1:Option Addr) (c1:Nat) (a2:Option Addr) (c2:Nat):Value:=.agg (cdC x a1 c1 a2 c2)
abbrev cdO (x:CD) (a1:Option Addr) (c1:Nat) (a2:Option Addr) (c2:Nat):Obj:=.cells (cdC x a1 c1 a2 c2) 133
abbrev Ld (W:World) (B:Nat) (x:CD) (a1:Option Addr) (c1:Nat) (a2:Option Addr) (c2:Nat):World:=((((((((W.setCell ⟨B,0,none⟩ (.string x.op)).setCell ⟨B,1,none⟩ (.string x.a.op)).setCell ⟨B,2,none⟩ (.string x.a.nm)).setCell ⟨B,3,none⟩ (.int .i64 x.a.n)).setCell ⟨B,4,none⟩ (.slice a1 x.a.ks.len c1)).setCell ⟨B,5,none⟩ (.string x.b.op)).setCell ⟨B,6,none⟩ (.string x.b.nm)).setCell ⟨B,7,none⟩ (.int .i64 x.b.n)).setCell ⟨B,8,none⟩ (.slice a2 x.b.ks.len c2)
theorem F3 (W:World) (B:Nat) (x:CD) (a1:Option Addr) (c1:Nat) (a2:Option Addr) (c2:Nat):aD (· = B) W (Ld W B x a1 c1 a2 c2) :=
 ((((((((((aD.refl (· = B) W).setCell (p:=⟨B,0,none⟩) (.inl rfl) _).setCell (p:=⟨B,1,none⟩) (.inl rfl) _).setCell (p:=⟨B,2,none⟩) (.inl rfl) _).setCell (p:=⟨B,3,none⟩) (.inl rfl) _).setCell (p:=⟨B,4,none⟩) (.inl rfl) _).setCell (p:=⟨B,5,none⟩) (.inl rfl) _).setCell (p:=⟨B,6,none⟩) (.inl rfl) _).setCell (p:=⟨B,7,none⟩) (.inl rfl) _).setCell (p:=⟨B,8,none⟩) (.inl rfl) _)
theorem nT {W:World} {B:Nat} {u0 u1 u2 u3 u4 u5 u6 u7 u8:Value} {t:TypeId} (h:W.heap[B]? = some (.cells #[u0,u1,u2,u3,u4,u5,u6,u7,u8] t (0,0))) (x:CD) (a1:Option Addr) (c1:Nat) (a2:Option Addr) (c2:Nat):(Ld W B x a1 c1 a2 c2).heap[B]? = some (.cells (cdC x a1 c1 a2 c2) t (0,0)):=by
 have h0:=heap_setCell_same (W) B 0 _ t (.string x.op) h;have g0:((W).setCell ⟨B,0,none⟩ (.string x.op)).heap[B]? = some (.cells #[.string x.op,u1,u2,u3,u4,u5,u6,u7,u8] t (0,0)):=by simpa using h0
 have h1:=heap_setCell_same ((W).setCell ⟨B,0,none⟩ (.string x.op)) B 1 _ t (.string x.a.op) g0;have g1:(((W).setCell ⟨B,0,none⟩ (.string x.op)).setCell ⟨B,1,none⟩ (.string x.a.op)).heap[B]? = some (.cells #[.string x.op,.string x.a.op,u2,u3,u4,u5,u6,u7,u8] t (0,0)):=by simpa using h1
 have h2:=heap_setCell_same (((W).setCell ⟨B,0,none⟩ (.string x.op)).setCell ⟨B,1,none⟩ (.string x.a.op)) B 2 _ t (.string x.a.nm) g1;have g2:((((W).setCell ⟨B,0,none⟩ (.string x.op)).setCell ⟨B,1,none⟩ (.string x.a.op)).setCell ⟨B,2,none⟩ (.string x.a.nm)).heap[B]? = some (.cells #[.string x.op,.string x.a.op,.string x.a.nm,u3,u4,u5,u6,u7,u8] t (0,0)):=by simpa using h2
 have h3:=heap_setCell_same ((((W).setCell ⟨B,0,none⟩ (.string x.op)).setCell ⟨B,1,none⟩ (.string x.a.op)).setCell ⟨B,2,none⟩ (.string x.a.nm)) B 3 _ t (.int .i64 x.a.n) g2;have g3:(((((W).setCell ⟨B,0,none⟩ (.string x.op)).setCell ⟨B,1,none⟩ (.string x.a.op)).setCell ⟨B,2,none⟩ (.string x.a.nm)).setCell ⟨B,3,none⟩ (.int .i64 x.a.n)).heap[B]? = some (.cells #[.string x.op,.string x.a.op,.string x.a.nm,.int .i64 x.a.n,u4,u5,u6,u7,u8] t (0,0)):=by simpa using h3
 have h4:=heap_setCell_same (((((W).setCell ⟨B,0,none⟩ (.string x.op)).setCell ⟨B,1,none⟩ (.string x.a.op)).setCell ⟨B,2,none⟩ (.string x.a.nm)).setCell ⟨B,3,none⟩ (.int .i64 x.a.n)) B 4 _ t (.slice a1 x.a.ks.len c1) g3;have g4:((((((W).setCell ⟨B,0,none⟩ (.string x.op)).setCell ⟨B,1,none⟩ (.string x.a.op)).setCell ⟨B,2,none⟩ (.string x.a.nm)).setCell ⟨B,3,none⟩ (.int .i64 x.a.n)).setCell ⟨B,4,none⟩ (.slice a1 x.a.ks.len c1)).heap[B]? = some (.cells #[.string x.op,.string x.a.op,.string x.a.nm,.int .i64 x.a.n,.slice a1 x.a.ks.len c1,u5,u6,u7,u8] t (0,0)):=by simpa using h4
 have h5:=heap_setCell_same ((((((W).setCell ⟨B,0,none⟩ (.string x.op)).setCell ⟨B,1,none⟩ (.string x.a.op)).setCell ⟨B,2,none⟩ (.string x.a.nm)).setCell ⟨B,3,none⟩ (.int .i64 x.a.n)).setCell ⟨B,4,none⟩ (.slice a1 x.a.ks.len c1)) B 5 _ t (.string x.b.op) g4;have g5:(((((((W).setCell ⟨B,0,none⟩ (.string x.op)).setCell ⟨B,1,none⟩ (.string x.a.op)).setCell ⟨B,2,none⟩ (.string x.a.nm)).setCell ⟨B,3,none⟩ (.int .i64 x.a.n)).setCell ⟨B,4,none⟩ (.slice a1 x.a.ks.len c1)).setCell ⟨B,5,none⟩ (.string x.b.op)).heap[B]? = some (.cells #[.string x.op,.string x.a.op,.string x.a.nm,.int .i64 x.a.n,.slice a1 x.a.ks.len c1,.string x.b.op,u6,u7,u8] t (0,0)):=by simpa using h5
 have h6:=heap_setCell_same (((((((W).setCell ⟨B,0,none⟩ (.string x.op)).setCell ⟨B,1,none⟩ (.string x.a.op)).setCell ⟨B,2,none⟩ (.string x.a.nm)).setCell ⟨B,3,none⟩ (.int .i64 x.a.n)).setCell ⟨B,4,none⟩ (.slice a1 x.a.ks.len c1)).setCell ⟨B,5,none⟩ (.string x.b.op)) B 6 _ t (.string x.b.nm) g5;have g6:((((((((W).setCell ⟨B,0,none⟩ (.string x.op)).setCell ⟨B,1,none⟩ (.string x.a.op)).setCell ⟨B,2,none⟩ (.string x.a.nm)).setCell ⟨B,3,none⟩ (.int .i64 x.a.n)).setCell ⟨B,4,none⟩ (.slice a1 x.a.ks.len c1)).setCell ⟨B,5,none⟩ (.string x.b.op)).setCell ⟨B,6,none⟩ (.string x.b.nm)).heap[B]? = some (.cells #[.string x.op,.string x.a.op,.string x.a.nm,.int .i64 x.a.n,.slice a1 x.a.ks.len c1,.string x.b.op,.string x.b.nm,u7,u8] t (0,0)):=by simpa using h6
 have h7:=heap_setCell_same ((((((((W).setCell ⟨B,0,none⟩ (.string x.op)).setCell ⟨B,1,none⟩ (.string x.a.op)).setCell ⟨B,2,none⟩ (.string x.a.nm)).setCell ⟨B,3,none⟩ (.int .i64 x.a.n)).setCell ⟨B,4,none⟩ (.slice a1 x.a.ks.len c1)).setCell ⟨B,5,none⟩ (.string x.b.op)).setCell ⟨B,6,none⟩ (.string x.b.nm)) B 7 _ t (.int .i64 x.b.n) g6;have g7:(((((((((W).setCell ⟨B,0,none⟩ (.string x.op)).setCell ⟨B,1,none⟩ (.string x.a.op)).setCell ⟨B,2,none⟩ (.string x.a.nm)).setCell ⟨B,3,none⟩ (.int .i64 x.a.n)).setCell ⟨B,4,none⟩ (.slice a1 x.a.ks.len c1)).setCell ⟨B,5,none⟩ (.string x.b.op)).setCell ⟨B,6,none⟩ (.string x.b.nm)).setCell ⟨B,7,none⟩ (.int .i64 x.b.n)).heap[B]? = some (.cells #[.string x.op,.string x.a.op,.string x.a.nm,.int .i64 x.a.n,.slice a1 x.a.ks.len c1,.string x.b.op,.string x.b.nm,.int .i64 x.b.n,u8] t (0,0)):=by simpa using h7
 have h8:=heap_setCell_same (((((((((W).setCell ⟨B,0,none⟩ (.string x.op)).setCell ⟨B,1,none⟩ (.string x.a.op)).setCell ⟨B,2,none⟩ (.string x.a.nm)).setCell ⟨B,3,none⟩ (.int .i64 x.a.n)).setCell ⟨B,4,none⟩ (.slice a1 x.a.ks.len c1)).setCell ⟨B,5,none⟩ (.string x.b.op)).setCell ⟨B,6,none⟩ (.string x.b.nm)).setCell ⟨B,7,none⟩ (.int .i64 x.b.n)) B 8 _ t (.slice a2 x.b.ks.len c2) g7;have g8:((((((((((W).setCell ⟨B,0,none⟩ (.string x.op)).setCell ⟨B,1,none⟩ (.string x.a.op)).setCell ⟨B,2,none⟩ (.string x.a.nm)).setCell ⟨B,3,none⟩ (.int .i64 x.a.n)).setCell ⟨B,4,none⟩ (.slice a1 x.a.ks.len c1)).setCell ⟨B,5,none⟩ (.string x.b.op)).setCell ⟨B,6,none⟩ (.string x.b.nm)).setCell ⟨B,7,none⟩ (.int .i64 x.b.n)).setCell ⟨B,8,none⟩ (.slice a2 x.b.ks.len c2)).heap[B]? = some (.cells #[.string x.op,.string x.a.op,.string x.a.nm,.int .i64 x.a.n,.slice a1 x.a.ks.len c1,.string x.b.op,.string x.b.nm,.int .i64 x.b.n,.slice a2 x.b.ks.len c2] t (0,0)):=by simpa using h8
 exact g8
abbrev NY (W:World) (B:Nat) (t:TN) (ad:Option Addr) (cc:Nat):World:=(((W.setCell ⟨B,5,none⟩ (.string t.op)).setCell ⟨B,6,none⟩ (.string t.nm)).setCell ⟨B,7,none⟩ (.int .i64 t.n)).setCell ⟨B,8,none⟩ (.slice ad t.ks.len cc)
theorem AY (W:World) (B:Nat) (t:TN) (ad:Option Addr) (cc:Nat):aD (· = B) W (NY W B t ad cc) :=
 (((((aD.refl (· = B) W).setCell (p:=⟨B,5,none⟩) (.inl rfl) _).setCell (p:=⟨B,6,none⟩) (.inl rfl) _).setCell (p:=⟨B,7,none⟩) (.inl rfl) _).setCell (p:=⟨B,8,none⟩) (.inl rfl) _)
theorem Ba {W:World} {B:Nat} {x:CD} {a1:Option Addr} {c1:Nat} {a2:Option Addr} {c2:Nat} (h:W.heap[B]? = some (cdO x a1 c1 a2 c2)) (t:TN) (ad:Option Addr) (cc:Nat):(NY W B t ad cc).heap[B]? = some (cdO { x with b:=t } a1 c1 ad cc):=by
 have h0:=heap_setCell_same (W) B 5 _ 133 (.string t.op) h;have g0:((W).setCell ⟨B,5,none⟩ (.string t.op)).heap[B]? = some (.cells #[.string x.op,.string x.a.op,.string x.a.nm,.int .i64 x.a.n,.slice a1 x.a.ks.len c1,.string t.op,.string x.b.nm,.int .i64 x.b.n,.slice a2 x.b.ks.len c2] 133 (0,0)):=by simpa using h0
 have h1:=heap_setCell_same ((W).setCell ⟨B,5,none⟩ (.string t.op)) B 6 _ 133 (.string t.nm) g0;have g1:(((W).setCell ⟨B,5,none⟩ (.string t.op)).setCell ⟨B,6,none⟩ (.string t.nm)).heap[B]? = some (.cells #[.string x.op,.string x.a.op,.string x.a.nm,.int .i64 x.a.n,.slice a1 x.a.ks.len c1,.string t.op,.string t.nm,.int .i64 x.b.n,.slice a2 x.b.ks.len c2] 133 (0,0)):=by simpa using h1
 have h2:=heap_setCell_same (((W).setCell ⟨B,5,none⟩ (.string t.op)).setCell ⟨B,6,none⟩ (.string t.nm)) B 7 _ 133 (.int .i64 t.n) g1;have g2:((((W).setCell ⟨B,5,none⟩ (.string t.op)).setCell ⟨B,6,none⟩ (.string t.nm)).setCell ⟨B,7,none⟩ (.int .i64 t.n)).heap[B]? = some (.cells #[.string x.op,.string x.a.op,.string x.a.nm,.int .i64 x.a.n,.slice a1 x.a.ks.len c1,.string t.op,.string t.nm,.int .i64 t.n,.slice a2 x.b.ks.len c2] 133 (0,0)):=by simpa using h2
 have h3:=heap_setCell_same ((((W).setCell ⟨B,5,none⟩ (.string t.op)).setCell ⟨B,6,none⟩ (.string t.nm)).setCell ⟨B,7,none⟩ (.int .i64 t.n)) B 8 _ 133 (.slice ad t.ks.len cc) g2;have g3:(((((W).setCell ⟨B,5,none⟩ (.string t.op)).setCell ⟨B,6,none⟩ (.string t.nm)).setCell ⟨B,7,none⟩ (.int .i64 t.n)).setCell ⟨B,8,none⟩ (.slice ad t.ks.len cc)).heap[B]? = some (.cells #[.string x.op,.string x.a.op,.string x.a.nm,.int .i64 x.a.n,.slice a1 x.a.ks.len c1,.string t.op,.string t.nm,.int .i64 t.n,.slice ad t.ks.len cc] 133 (0,0)):=by simpa using h3
 exact g3
theorem Jv {W:World} {B:Nat} {x:CD} {a1:Option Addr} {c1:Nat} {a2:Option Addr} {c2:Nat} (h:W.heap[B]? = some (cdO x a1 c1 a2 c2)) (z:ByteArray):(W.setCell ⟨B,0,none⟩ (.string z)).heap[B]? = some (cdO { x with op:=z } a1 c1 a2 c2):=by
 have h0:=heap_setCell_same W B 0 _ 133 (.string z) h;simpa using h0
theorem gT {W:World} {B:Nat} {v0 v1 v2 v3 v4 v5 v6 v7 v8:Value} {t:TypeId} (h:W.heap[B]? = some (.cells #[v0,v1,v2,v3,v4,v5,v6,v7,v8] t (0,0))) :
 W.cell? ⟨B,0,none⟩=some v0/\W.cell? ⟨B,1,none⟩=some v1/\W.cell? ⟨B,2,none⟩=some v2/\W.cell? ⟨B,3,none⟩=some v3/\W.cell? ⟨B,4,none⟩=some v4/\W.cell? ⟨B,5,none⟩=some v5/\W.cell? ⟨B,6,none⟩=some v6/\W.cell? ⟨B,7,none⟩=some v7/\W.cell? ⟨B,8,none⟩=some v8:=by
 refine ⟨?_,?_,?_,?_,?_,?_,?_,?_,?_⟩ <;> simp [World.cell?,h]
theorem vD {W:World} {B:Nat} {v0 v1 v2 v3 v4 v5 v6 v7 v8:Value} {t:TypeId} (h:W.heap[B]? = some (.cells #[v0,v1,v2,v3,v4,v5,v6,v7,v8] t (0,0))) :
 W.frozen? ⟨B,0,none⟩=false/\W.frozen? ⟨B,1,none⟩=false/\W.frozen? ⟨B,2,none⟩=false/\W.frozen? ⟨B,3,none⟩=false/\W.frozen? ⟨B,4,none⟩=false/\W.frozen? ⟨B,5,none⟩=false/\W.frozen? ⟨B,6,none⟩=false/\W.frozen? ⟨B,7,none⟩=false/\W.frozen? ⟨B,8,none⟩=false:=by
 refine ⟨?_,?_,?_,?_,?_,?_,?_,?_,?_⟩ <;> simp [World.frozen?,h]
def E7 (ts:List Tk) (rb:Nat) (a:Option Addr) (c:Nat) (r:CD×RS) (w0:World) (e:Ending) (w':World):Prop :=
 ∃ a1 c1 a2 c2,e=.returned (cdV r.1 a1 c1 a2 c2)/\PW ts rb a c r.2 w'/\aD (· = rb) w0 w'/\a8 w0.heap.size w' a1 r.1.a.ks/\a8 w0.heap.size w' a2 r.1.b.ks
structure CW (w:World) (ts:List Tk) (rb:Nat) (a:Option Addr) (c:Nat) (B:Nat) (x:CD) (a1:Option Addr) (c1:Nat) (a2:Option Addr) (c2:Nat) (s:RS) (V:World):Prop where
 r:PW ts rb a c s V
 k:aD (· = rb) w V
 n:V.heap[B]? = some (cdO x a1 c1 a2 c2)
 o:V.heap[w.heap.size]? = some (cdO CV none 0 none 0)
 e:aN (fun b=>w.heap.size<b/\b ≠ B) V a1 x.a.ks
 g:aN (fun b=>w.heap.size<b/\b ≠ B) V a2 x.b.ks
 z:B<V.heap.size
 lo:w.heap.size<B
 h:rb<w.heap.size
theorem CW.step {w V V':World} {ts:List Tk} {rb:Nat} {a:Option Addr} {c B:Nat} {x:CD} {a1:Option Addr} {c1:Nat} {a2:Option Addr} {c2:Nat} {s s':RS} (h:CW w ts rb a c B x a1 c1 a2 c2 s V) (hp:PW ts rb a c s' V') (hk:aD (· = rb) V V'):CW w ts rb a c B x a1 c1 a2 c2 s' V' :=
 ⟨hp,h.k.trans hk (fun i hi _=>hi),hk.heap h.n (fun e=>by have:=h.h;have:=h.lo;omega),hk.heap h.o (fun e=>by have:=h.h;omega),h.e.keptS hk (fun k hk hg=>by have:=h.h;have:=hg.1;omega),h.g.keptS hk (fun k hk hg=>by have:=h.h;have:=hg.1;omega),Nat.lt_of_lt_of_le h.z hk.size,h.lo,h.h⟩
theorem CW.box {w V V':World} {ts:List Tk} {rb:Nat} {a:Option Addr} {c B:Nat} {x y:CD} {a1:Option Addr} {c1:Nat} {a2:Option Addr} {c2:Nat} {b1:Option Addr} {d1:Nat} {b2:Option Addr} {d2:Nat} {s:RS} (h:CW w ts rb a c B x a1 c1 a2 c2 s V) (hk:aD (· = B) V V') (hn:V'.heap[B]? = some (cdO y b1 d1 b2 d2)) (he:aN (fun b=>w.heap.size<b/\b ≠ B) V b1 y.a.ks) (hg:aN (fun b=>w.heap.size<b/\b ≠ B) V b2 y.b.ks):CW w ts rb a c B y b1 d1 b2 d2 s V' :=
 ⟨h.r.other hk (by have:=h.h;have:=h.lo;omega),h.k.trans hk (fun i hi hlt=>by have:=h.lo;omega),hn,hk.heap h.o (fun e=>by have:=h.lo;omega),he.keptS hk (fun k hk hg=>hg.2 hk),hg.keptS hk (fun k hk hg=>hg.2 hk),Nat.lt_of_lt_of_le h.z hk.size,h.lo,h.h⟩
theorem CW.drewN {w V:World} {ts:List Tk} {rb:Nat} {a:Option Addr} {c B:Nat} {x:CD} {a1:Option Addr} {c1:Nat} {a2:Option Addr} {c2:Nat} {s:RS} (h:CW w ts rb a c B x a1 c1 a2 c2 s V) (n:Nat):CW w ts rb a c B x a1 c1 a2 c2 s (V.drewN n) :=
 h.step (h.r.kept (nS (aD.refl _ _) n)) (nS (aD.refl _ _) n)
theorem tE {w V:World} {ts:List Tk} {rb:Nat} {a:Option Addr} {c B:Nat} {x:CD} {a1:Option Addr} {c1:Nat} {a2:Option Addr} {c2:Nat} {s s0:RS} (h:CW w ts rb a c B x a1 c1 a2 c2 s V) (hr:bV ts s0=(x,s)) :
 E7 ts rb a c (bV ts s0) w (.returned (cdV x a1 c1 a2 c2)) (Ld V w.heap.size x a1 c1 a2 c2):=by
 rw [hr];have KP:=F3 V w.heap.size x a1 c1 a2 c2;exact ⟨_,_,_,_,rfl,h.r.other KP h.h,h.k.trans KP (fun i hi hlt=>by omega),(h.e.keptS KP (fun k hk hg=>by have:=hg.1;omega)).imp (fun b _ hg=>by have:=hg.1;omega),(h.g.keptS KP (fun k hk hg=>by have:=hg.1;omega)).imp (fun b _ hg=>by have:=hg.1;omega)⟩
theorem MN (ts:List Tk) (rb:Nat) (a:Option Addr) (c:Nat) (s:RS) (w:World) (h:PW ts rb a c s w):Calls Tryz.prog 65 #[.pointer (some ⟨rb,0,none⟩)] w (E7 ts rb a c (bV ts s) w):=by
 have B1:=bA0 w (cdO CV none 0 none 0);have N1:=heap_alloc_new w (cdO CV none 0 none 0);have z1:(w.alloc (cdO CV none 0 none 0)).heap.size=w.heap.size+1:=World.size_alloc _ _;have H1:=h.below B1;have hrb:=h.r.lt;generalize hW:w.alloc (cdO CV none 0 none 0)=W at B1 N1 z1 H1;have EX:=aA (fU ts rb a c s W H1);obtain ⟨t1,s1,hts⟩:∃ t q,aZ ts s=(t,q):=⟨_,_,rfl⟩;rw [hts] at EX;have HE1:=aA hts;have HW:=aA hW;have KB:=aA (aE B1 (· = rb));have NB:=aA N1;have HZ:=aA z1;have HRB:=aA hrb;clear hW h hts B1 N1 z1 H1 hrb;go_enter Tryz.func65,Tryz.ntmps65
 go_upto_region 1 with fail
 rw [show w.alloc (.cells #[.string ⟨#[]⟩,.string ⟨#[]⟩,.string ⟨#[]⟩,.int .i64 0,.slice none 0 0,.string ⟨#[]⟩,.string ⟨#[]⟩,.int .i64 0,.slice none 0 0] 133)=W from HW.out];go_wp2_with fail
 refine EX.out.mono ?_;rintro e v1 ⟨ad1,cc1,rfl,hp1,hk1,hr1⟩;have BA:=bA0 v1 (cdO ⟨⟨#[]⟩,t1,aC⟩ ad1 cc1 none 0);have hz1:=hk1.size;have hzz:=HZ.out;have hrb:=HRB.out
 have K2:=aA (show CW w ts rb a c v1.heap.size ⟨⟨#[]⟩,t1,aC⟩ ad1 cc1 none 0 s1 (v1.alloc (cdO ⟨⟨#[]⟩,t1,aC⟩ ad1 cc1 none 0)) from
  ⟨hp1.below BA,(KB.out.trans hk1 (fun i hi _=>hi)).trans (aE BA (· = rb)) (fun i hi _=>hi),heap_alloc_new v1 _,(BA.block _ (by omega)).trans (hk1.heap NB.out (fun e=>by omega)),((aN.imp (H:=fun b=>w.heap.size<b/\b ≠ v1.heap.size) hr1 (fun b h1 h2=>⟨by have h3:W.heap.size<=b:=h2;omega,by omega⟩)).kept BA),.inl rfl,by rw [World.size_alloc];omega,by omega,hrb⟩)
 have HSZ:=aA (show v1.heap.size<(v1.alloc (cdO ⟨⟨#[]⟩,t1,aC⟩ ad1 cc1 none 0)).heap.size by rw [World.size_alloc];omega);obtain ⟨U,hU⟩:∃ U,v1.alloc (cdO ⟨⟨#[]⟩,t1,aC⟩ ad1 cc1 none 0)=U:=⟨_,rfl⟩;obtain ⟨B,hB⟩:∃ B,v1.heap.size=B:=⟨_,rfl⟩;rw [hU,hB] at K2;have HU:=aA hU;have HBB:=aA hB;clear hp1 hk1 hr1 BA hz1 hzz hrb EX hU hB HSZ;go_upto_region 2 with fail
 rw [show v1.alloc (.cells #[.string ⟨#[]⟩,.string t1.op,.string t1.nm,.int .i64 t1.n,.slice ad1 t1.ks.len cc1,.string ⟨#[]⟩,.string ⟨#[]⟩,.int .i64 0,.slice none 0 0] 133)=U from HU.out,HBB.out];clear HU HBB;obtain ⟨c0,c1,c2,c3,c4⟩:=K2.out.r.r.cells.1;have hpos:=K2.out.r.f.2.1;have hnn:=K2.out.r.f.2.2.2;by_cases hb:s1.bad=0
 · have q1:((s1.bad:Int) == 0)=true:=by rw [hb];rfl
   have q2:((s1.bad:Int) != 0)=false:=by rw [hb];rfl
   have HB:=aA hb;clear hb;by_cases hlt:s1.pos<ts.length
   · have d1:decide (s1.pos<ts.length)=true:=decide_eq_true hlt
     have d2:(s1.pos:Int)<(ts.length:Int):=by omega
     have d3:(0:Int)<=(s1.pos:Int):=by omega
     have d4:((s1.pos:Int)).toNat=s1.pos:=by omega
     go_upto_region 5 with (go_quiet (fail))
     obtain ⟨U1,hU1⟩:∃ U1,U.drewN nq=U1:=⟨_,rfl⟩
     have K3:=aA (show CW w ts rb a c B ⟨⟨#[]⟩,t1,aC⟩ ad1 cc1 none 0 s1 U1 by
      rw [<- hU1];exact K2.out.drewN nq)
     rw [hU1];clear hU1 c0 c1 c2 c3 c4;obtain ⟨c0,c1,c2,c3,c4⟩:=K3.out.r.r.cells.1;obtain ⟨b,off,ha, -,p0,p1, -⟩:=aY K3.out.r.t hlt;rw [ha] at c0;obtain ⟨tx,htx⟩:∃ tx:ByteArray,⟨ts[s1.pos].text.toArray⟩=tx:=⟨_,rfl⟩;rw [htx] at p1;have hopA:(⟨(dW ts s1.pos).toArray⟩:ByteArray)=tx:=by unfold dW;rw [List.getElem?_eq_getElem hlt];exact htx
     have HOA:=aA hopA;have HLT:=aA hlt
     have HOB:=aA (show opB ts s1.pos=(bD tx 0 0).isSome by
      unfold opB;rw [List.getElem?_eq_getElem hlt];simp only;rw [htx])
     have HO:=aA (fun V=>Fy tx 0 0 V);obtain ⟨yb,hyb⟩:∃ yb,(bD tx 0 0).getD false=yb:=⟨_,rfl⟩;rw [hyb] at HO;clear hlt ha htx hopA hyb p0;cases hold:(bD tx 0 0).isSome with
     | true =>
       rw [hold] at HO HOB;clear hold;go_upto_region 9 with (go_quiet ((first | (go_at_call 69;refine (HO.out _).mono ?_;rintro e w' ⟨he,rfl⟩;exact ⟨he,_,rfl⟩) | fail)))
       obtain ⟨U2,hU2⟩:∃ U2,U1.drewN nq=U2:=⟨_,rfl⟩
       have K4:=aA (show CW w ts rb a c B ⟨⟨#[]⟩,t1,aC⟩ ad1 cc1 none 0 s1 U2 by
        rw [<- hU2];exact K3.out.drewN nq)
       rw [hU2];have HT2:=aA (show U2.cell? ⟨b,off+s1.pos*4+1,none⟩=some (.string tx) by rw [<- hU2];exact p1);have HC2:=aA (show U2.cell? ⟨rb,0,none⟩=some (.slice (some ⟨b,off,none⟩) ts.length c) by rw [<- hU2];exact c0);clear hU2 c0 c1 c2 c3 c4 p1;obtain ⟨-,c1,c2,c3,c4⟩:=K4.out.r.r.cells.1;have c0:=HC2.out;have p1:=HT2.out;obtain ⟨m0,m1,m2,m3,m4,m5,m6,m7,m8⟩:=gT K4.out.n;obtain ⟨z0,z1,z2,z3,z4,z5,z6,z7,z8⟩:=vD K4.out.n;go_upto_region 10 with go_region
       obtain ⟨V,hV⟩:∃ V,U2.drew.setCell ⟨B,0,none⟩ (.string tx)=V:=⟨_,rfl⟩
       have K5a:=aA (show CW w ts rb a c B ⟨tx,t1,aC⟩ ad1 cc1 none 0 s1 V by
        rw [<- hV];exact (K4.out.drewN 1).box ((aD.refl (· = B) _).setCell (p:=⟨B,0,none⟩) (.inl rfl) _) (Jv (K4.out.drewN 1).n tx) (K4.out.drewN 1).e (K4.out.drewN 1).g)
       have GV:=aA hV;clear hV c0 c1 c2 c3 c4 p1 m0 m1 m2 m3 m4 m5 m6 m7 m8 z0 z1 z2 z3 z4 z5 z6 z7 z8;first | rw [show (U2.drewN 1).setCell ⟨B,0,none⟩ (.string tx)=V from GV.out] | rw [show U2.drew.setCell ⟨B,0,none⟩ (.string tx)=V from GV.out] | rw [show (U2.setCell ⟨B,0,none⟩ (.string tx)).drew=V from GV.out]
       obtain ⟨⟨c0,c1,c2,c3,c4⟩,f1,f2,f3,f4⟩:=K5a.out.r.r.cells;have KS:=(aD.refl (· = rb) V).setCell (p:=⟨rb,1,none⟩) (.inl rfl) (.int .i64 ((s1.pos:Int)+1));obtain ⟨V2,hV2⟩:∃ V2,V.setCell ⟨rb,1,none⟩ (.int .i64 ((s1.pos:Int)+1))=V2:=⟨_,rfl⟩
       have K5b:=aA (show CW w ts rb a c B ⟨tx,t1,aC⟩ ad1 cc1 none 0 (aJ s1) V2 by
        rw [<- hV2];exact K5a.out.step (oR K5a.out.r HLT.out) KS)
       clear KS;go_upto_region 11 with fail
       clear hV2 c0 c1 c2 c3 c4 f1 f2 f3 f4;have EX:=aA (fU ts rb a c (aJ s1) V2 K5b.out.r);obtain ⟨t2,s2,hts⟩:∃ t q,aZ ts (aJ s1)=(t,q):=⟨_,_,rfl⟩;rw [hts] at EX;have HE2:=aA hts;clear hts;go_wp2_with fail
       refine EX.out.mono ?_;rintro e v5 ⟨ad2,cc2,rfl,hp5,hk5,hr5⟩;have K5:=aA (K5b.out.step hp5 hk5);have hz5:=K5b.out.z;have hlo:=K5b.out.lo;have hr6:aN (fun b=>w.heap.size<b/\b ≠ B) v5 ad2 t2.ks:=aN.imp hr5 (fun b _ h2=>by have h3:V2.heap.size<=b:=h2;omega);clear hp5 hk5 hr5 EX hz5 hlo;obtain ⟨m0,m1,m2,m3,m4,m5,m6,m7,m8⟩:=gT K5.out.n;obtain ⟨z0,z1,z2,z3,z4,z5,z6,z7,z8⟩:=vD K5.out.n;have KX:=AY v5 B t2 ad2 cc2;obtain ⟨X,hX⟩:∃ X,NY v5 B t2 ad2 cc2=X:=⟨_,rfl⟩
       have K6:=aA (show CW w ts rb a c B ⟨tx,t1,t2⟩ ad1 cc1 ad2 cc2 s2 X by
        rw [<- hX];exact K5.out.box KX (Ba K5.out.n t2 ad2 cc2) K5.out.e hr6)
       have GX:=aA hX;clear KX hX hr6;go_upto_region 12 with fail
       rw [show (((v5.setCell ⟨B,5,none⟩ (.string t2.op)).setCell ⟨B,6,none⟩ (.string t2.nm)).setCell ⟨B,7,none⟩ (.int .i64 t2.n)).setCell ⟨B,8,none⟩ (.slice ad2 t2.ks.len cc2)=X from GX.out];clear m0 m1 m2 m3 m4 m5 m6 m7 m8 z0 z1 z2 z3 z4 z5 z6 z7 z8;have HR:=aA (show bV ts s=(⟨tx,t1,t2⟩,s2) by unfold bV;rw [HE1.out];simp only;rw [if_pos HB.out,if_pos HOB.out,HE2.out,HOA.out]);obtain ⟨m0,m1,m2,m3,m4,m5,m6,m7,m8⟩:=gT K6.out.n;obtain ⟨z0,z1,z2,z3,z4,z5,z6,z7,z8⟩:=vD K6.out.o;obtain ⟨b0,b1,b2,b3,b4,b5,b6,b7,b8⟩:=gT K6.out.o;go_wp2_with fail
       obtain ⟨y0,y1,y2,y3,y4,y5,y6,y7,y8⟩:=gT (nT (t:=133) K6.out.o (⟨tx,t1,t2⟩) ad1 cc1 ad2 cc2);have P:=tE K6.out HR.out;exact bodyPost_ret (v:=cdV (⟨tx,t1,t2⟩) ad1 cc1 ad2 cc2) (by simp [results,Tryz.results65,go_sem,y0,y1,y2,y3,y4,y5,y6,y7,y8,b0,b1,b2,b3,b4,b5,b6,b7,b8]) rfl P
     | false =>
       rw [hold] at HO HOB;clear hold;go_upto_region 7 with (go_quiet ((first | (go_at_call 69;refine (HO.out _).mono ?_;rintro e w' ⟨he,rfl⟩;exact ⟨he,_,rfl⟩) | fail)))
       have K4:=aA (K3.out.drewN nq);clear c0 c1 c2 c3 c4 p1;have FA:=aA (dB ts rb a c s1 2 (by decide) (U1.drewN nq) K4.out.r);go_wp2_with fail
       refine FA.out.mono ?_;rintro e v6 ⟨rfl,hp6,hk6⟩;have K6:=aA (K4.out.step hp6 hk6);clear hp6 hk6 FA;have HR:=aA (show bV ts s=(⟨⟨#[]⟩,t1,aC⟩,aM 2 s1) by unfold bV;rw [HE1.out];simp only;rw [if_pos HB.out,if_neg (by rw [HOB.out];decide)]);obtain ⟨m0,m1,m2,m3,m4,m5,m6,m7,m8⟩:=gT K6.out.n;obtain ⟨z0,z1,z2,z3,z4,z5,z6,z7,z8⟩:=vD K6.out.o;obtain ⟨b0,b1,b2,b3,b4,b5,b6,b7,b8⟩:=gT K6.out.o;go_wp2_with fail
       obtain ⟨y0,y1,y2,y3,y4,y5,y6,y7,y8⟩:=gT (nT (t:=133) K6.out.o (⟨⟨#[]⟩,t1,aC⟩) ad1 cc1 none 0);have P:=tE K6.out HR.out;exact bodyPost_ret (v:=cdV (⟨⟨#[]⟩,t1,aC⟩) ad1 cc1 none 0) (by simp [results,Tryz.results65,go_sem,y0,y1,y2,y3,y4,y5,y6,y7,y8,b0,b1,b2,b3,b4,b5,b6,b7,b8]) rfl P
   · have d1:decide (s1.pos<ts.length)=false:=decide_eq_false hlt
     have d2:¬ (s1.pos:Int)<(ts.length:Int):=by omega
     have HOB:=aA (show opB ts s1.pos=false by unfold opB;rw [List.getElem?_eq_none (by omega)]);go_upto_region 7 with (go_quiet (fail))
     have K4:=aA (K2.out.drewN nq);clear c0 c1 c2 c3 c4;have FA:=aA (dB ts rb a c s1 2 (by decide) (U.drewN nq) K4.out.r);go_wp2_with fail
     refine FA.out.mono ?_;rintro e v6 ⟨rfl,hp6,hk6⟩;have K6:=aA (K4.out.step hp6 hk6);clear hp6 hk6 FA;have HR:=aA (show bV ts s=(⟨⟨#[]⟩,t1,aC⟩,aM 2 s1) by unfold bV;rw [HE1.out];simp only;rw [if_pos HB.out,if_neg (by rw [HOB.out];decide)]);obtain ⟨m0,m1,m2,m3,m4,m5,m6,m7,m8⟩:=gT K6.out.n;obtain ⟨z0,z1,z2,z3,z4,z5,z6,z7,z8⟩:=vD K6.out.o;obtain ⟨b0,b1,b2,b3,b4,b5,b6,b7,b8⟩:=gT K6.out.o;go_wp2_with fail
     obtain ⟨y0,y1,y2,y3,y4,y5,y6,y7,y8⟩:=gT (nT (t:=133) K6.out.o (⟨⟨#[]⟩,t1,aC⟩) ad1 cc1 none 0);have P:=tE K6.out HR.out;exact bodyPost_ret (v:=cdV (⟨⟨#[]⟩,t1,aC⟩) ad1 cc1 none 0) (by simp [results,Tryz.results65,go_sem,y0,y1,y2,y3,y4,y5,y6,y7,y8,b0,b1,b2,b3,b4,b5,b6,b7,b8]) rfl P
 · have q1:((s1.bad:Int) == 0)=false:=beq_eq_false_iff_ne.2 hb
   have q2:((s1.bad:Int) != 0)=true:=by simpa using hb
   have HB:=aA hb;clear hb c0 c1 c2 c3 c4;obtain ⟨c0,c1,c2,c3,c4⟩:=K2.out.r.r.cells.1;have EX:=aA (fU ts rb a c (s1) U K2.out.r);obtain ⟨t2,s2,hts⟩:∃ t q,aZ ts (s1)=(t,q):=⟨_,_,rfl⟩;rw [hts] at EX;have HE2:=aA hts;clear hts;go_wp2_with fail
   refine EX.out.mono ?_;rintro e v5 ⟨ad2,cc2,rfl,hp5,hk5,hr5⟩;have K5:=aA (K2.out.step hp5 hk5);have hz5:=K2.out.z;have hlo:=K2.out.lo;have hr6:aN (fun b=>w.heap.size<b/\b ≠ B) v5 ad2 t2.ks:=aN.imp hr5 (fun b _ h2=>by have h3:U.heap.size<=b:=h2;omega);clear hp5 hk5 hr5 EX hz5 hlo;obtain ⟨m0,m1,m2,m3,m4,m5,m6,m7,m8⟩:=gT K5.out.n;obtain ⟨z0,z1,z2,z3,z4,z5,z6,z7,z8⟩:=vD K5.out.n;have KX:=AY v5 B t2 ad2 cc2;obtain ⟨X,hX⟩:∃ X,NY v5 B t2 ad2 cc2=X:=⟨_,rfl⟩
   have K6:=aA (show CW w ts rb a c B ⟨⟨#[]⟩,t1,t2⟩ ad1 cc1 ad2 cc2 s2 X by
    rw [<- hX];exact K5.out.box KX (Ba K5.out.n t2 ad2 cc2) K5.out.e hr6)
   have GX:=aA hX;clear KX hX hr6;go_upto_region 12 with fail
   rw [show (((v5.setCell ⟨B,5,none⟩ (.string t2.op)).setCell ⟨B,6,none⟩ (.string t2.nm)).setCell ⟨B,7,none⟩ (.int .i64 t2.n)).setCell ⟨B,8,none⟩ (.slice ad2 t2.ks.len cc2)=X from GX.out];clear m0 m1 m2 m3 m4 m5 m6 m7 m8 z0 z1 z2 z3 z4 z5 z6 z7 z8;have E2:aZ ts s1=(aC,s1):=fT HB.out;rw [HE2.out] at E2;obtain ⟨rfl,rfl⟩:=Prod.mk.inj E2;have HR:=aA (show bV ts s=(⟨⟨#[]⟩,t1,aC⟩,s2) by unfold bV;rw [HE1.out];simp only;rw [if_neg HB.out]);obtain ⟨m0,m1,m2,m3,m4,m5,m6,m7,m8⟩:=gT K6.out.n;obtain ⟨z0,z1,z2,z3,z4,z5,z6,z7,z8⟩:=vD K6.out.o;obtain ⟨b0,b1,b2,b3,b4,b5,b6,b7,b8⟩:=gT K6.out.o;go_wp2_with fail
   obtain ⟨y0,y1,y2,y3,y4,y5,y6,y7,y8⟩:=gT (nT (t:=133) K6.out.o (⟨⟨#[]⟩,t1,aC⟩) ad1 cc1 ad2 cc2);have P:=tE K6.out HR.out;exact bodyPost_ret (v:=cdV (⟨⟨#[]⟩,t1,aC⟩) ad1 cc1 ad2 cc2) (by simp [results,Tryz.results65,go_sem,y0,y1,y2,y3,y4,y5,y6,y7,y8,b0,b1,b2,b3,b4,b5,b6,b7,b8]) rfl P
end
end Go.Proofs.YtgfkjkokmcejbaaGreatDoor
namespace Go.Proofs.YtgfkjkokmcejbaaGreatDoor.Wr
open Go.RowKit
section
section
open Go.RowKit
def EZ (w:World) (F F':Nat->Prop):Prop:=∀ k,F' k->F k\/w.heap.size<=k
theorem EZ.refl (w:World) (F:Nat->Prop):EZ w F F:=fun _ h=>Or.inl h
end
section
open Go.RowKit
def gE (m:Nat) (w:World) (T kE vE:TypeId) (p:Nat) (F:Nat->Prop) (ks vs:List Value):Prop :=
 ∃ kv vv, w.heap[p]? = some (.cells #[kv, vv] T (0, 0)) /\ w.ownsRow 0 kE 1 kv ks.length ks /\ w.ownsRow 0 vE m vv ks.length vs /\
   kv.ownBlock ≠ some p/\vv.ownBlock ≠ some p/\(∀ b,kv.ownBlock=some b->vv.ownBlock ≠ some b) /\
   F p/\(∀ b,kv.ownBlock=some b->F b)/\(∀ b,vv.ownBlock=some b->F b)/\(∀ k,F k->k<w.heap.size)
theorem gE.kept {m:Nat} {w w':World} {T kE vE:TypeId} {p:Nat} {F S:Nat->Prop} {ks vs:List Value} (h:gE m w T kE vE p F ks vs) (hk:aD S w w') (hS:∀ k,F k->¬ S k):gE m w' T kE vE p F ks vs:=by
 obtain ⟨kv,vv,h0,h1,h2,d0,d1,d2,f0,f1,f2,f3⟩:=h;exact ⟨kv,vv,hk.heap h0 (hS p f0),hk.owns h1 (fun b hb=>hS b (f1 b hb)),hk.owns h2 (fun b hb=>hS b (f2 b hb)),d0,d1,d2,f0,f1,f2,fun k hf=>Nat.lt_of_lt_of_le (f3 k hf) hk.size⟩
theorem gE.lt {m:Nat} {w:World} {T kE vE:TypeId} {p:Nat} {F:Nat->Prop} {ks vs:List Value} (h:gE m w T kE vE p F ks vs):∀ k,F k->k<w.heap.size:=by
 obtain ⟨kv,vv,h0,h1,h2,d0,d1,d2,f0,f1,f2,f3⟩:=h;exact f3
theorem gE.len {m:Nat} {w:World} {T kE vE:TypeId} {p:Nat} {F:Nat->Prop} {ks vs:List Value} (h:gE m w T kE vE p F ks vs):vs.length=ks.length*m:=by
 obtain ⟨kv,vv,h0,h1,h2,d0,d1,d2,f0,f1,f2,f3⟩:=h;exact h2.1
structure d9 (m:Nat) (w:World) (T kE vE:TypeId) (p:Nat) (F:Nat->Prop) (kv vv:Value) (nk nv:Nat) (X Y:List Value):Prop where
 row:w.heap[p]? = some (.cells #[kv,vv] T (0,0))
 k:w.ownsRow 0 kE 1 kv nk X
 v:w.ownsRow 0 vE m vv nv Y
 dk:kv.ownBlock ≠ some p
 dv:vv.ownBlock ≠ some p
 dkv:∀ b,kv.ownBlock=some b->vv.ownBlock ≠ some b
 fp:F p
 fk:∀ b,kv.ownBlock=some b->F b
 fv:∀ b,vv.ownBlock=some b->F b
 lt:∀ k,F k->k<w.heap.size
theorem d9.kept {m:Nat} {w w':World} {T kE vE:TypeId} {p:Nat} {F S:Nat->Prop} {kv vv:Value} {nk nv:Nat} {X Y:List Value} (h:d9 m w T kE vE p F kv vv nk nv X Y) (hk:aD S w w') (hS:∀ k,F k->¬ S k):d9 m w' T kE vE p F kv vv nk nv X Y :=
 ⟨hk.heap h.row (hS p h.fp),hk.owns h.k (fun b hb=>hS b (h.fk b hb)),hk.owns h.v (fun b hb=>hS b (h.fv b hb)),h.dk,h.dv,h.dkv,h.fp,h.fk,h.fv,fun k hf=>Nat.lt_of_lt_of_le (h.lt k hf) hk.size⟩
end
section
open Go.RowKit
def zN (c:UInt8):Bool:=decide ((c.toNat:Int)<32) || decide (126<(c.toNat:Int)) || decide ((c.toNat:Int)=34)
def JQ (l:List UInt8):Int:=if 64<l.length then 4 else if l.any zN then 2 else 0
def risesB:List Int->Bool
 | a::b::r=>decide (a<b) && risesB (b::r)
 | _=>true
def errL (l:List Int):Int:=if 16<l.length then 4 else if risesB l then 0 else 2
theorem risesB_iff (l:List Int):risesB l=true ↔ ∀ j,j+1<l.length->l.getD j 0<l.getD (j+1) 0:=by
 induction l with
 | nil=>simp [risesB]
 | cons a r ih =>
   cases r with
   | nil=>simp [risesB]
   | cons b r =>
     simp only [risesB,Bool.and_eq_true,decide_eq_true_eq];rw [ih];constructor
     · rintro ⟨h,k⟩ j hj
       cases j with
       | zero=>simpa using h
       | succ j=>simpa using k j (by simpa using hj)
     · intro h
       exact ⟨by simpa using h 0 (by simp),fun j hj=>by simpa using h (j+1) (by simpa using hj)⟩
theorem Sd {s:ByteArray} (h:∀ j (hj:j<s.size),zN s[j]=false):s.data.toList.any zN=false:=by
 rw [List.any_eq_false];intro c hc;obtain ⟨j,hj,rfl⟩:=List.mem_iff_getElem.1 hc;have:=h j (by simpa using hj);intro e;have e':zN s[j]=true:=e;rw [this] at e';cases e'
theorem zQ {s:ByteArray} {j:Nat} (hj:j<s.size) (h:zN s[j]=true):s.data.toList.any zN=true:=by
 rw [List.any_eq_true];exact ⟨s[j],List.mem_iff_getElem.2 ⟨j,by simpa using hj,rfl⟩,h⟩
def Reads (w:World) (a:Option Addr) (len:Nat) (z:Nat->Int):Prop :=
 len<=maxLen/\(len=0\/∃ b off,a=some ⟨b,off,none⟩/\∀ j,j<len->w.cell? ⟨b,off+j,none⟩=some (.int .i64 (z j)))
def upTo (z:Nat->Int) (n:Nat):List Int:=(List.range n).map z
theorem Dd (z:Nat->Int) (n:Nat):(upTo z n).length=n:=by simp [upTo]
theorem vY (z:Nat->Int) {n j:Nat} (h:j<n):(upTo z n).getD j 0=z j:=by simp [upTo,List.getD,h]
theorem Reads.kept {w w':World} {a:Option Addr} {len:Nat} {z:Nat->Int} (h:Reads w a len z) (hb:Below w.heap.size w w'):Reads w' a len z:=by
 refine ⟨h.1,?_⟩;rcases h.2 with h0 | ⟨b,off,rfl,hc⟩
 · exact .inl h0
 · exact .inr ⟨b,off,rfl,fun j hj=>(hb.cell (p:=⟨b,off+j,none⟩) (World.block_lt_of_cell? w _ (hc j hj))).trans (hc j hj)⟩
theorem xA {z:Nat->Int} {n:Nat}:risesB (upTo z n)=true ↔ ∀ j,j+1<n->z j<z (j+1):=by
 rw [risesB_iff,Dd];exact ⟨fun h j hj=>by have:=h j hj;rwa [vY z (by omega),vY z hj] at this,fun h j hj=>by rw [vY z (by omega),vY z hj];exact h j hj⟩
def val (k n:Int) (s:ByteArray) (l:Value):Value:=.agg #[.int .i64 k,.int .i64 n,.string s,l]
def errV (k:Int) (s:ByteArray) (len:Nat) (z:Nat->Int):Int:=if k=1 then 0 else if k=2 then JQ s.data.toList else if k=3 then errL (upTo z len) else 7
end
section
open Go.RowKit
structure VC where
 k:Int
 n:Int
 s:ByteArray
 y:Option Addr
 len:Nat
 c:Nat
def VC.cs (v:VC):List Value:=[.int .i64 v.k,.int .i64 v.n,.string v.s,.slice v.y v.len v.c]
theorem lL {b:Nat} {A W:World} {B:Nat} (h:Below b A W) (hB:b<=B) (v0 v1 v2 v3:Value) :
 Below b A ((((W.setCell ⟨B,0,none⟩ v0).setCell ⟨B,1,none⟩ v1).setCell ⟨B,2,none⟩ v2).setCell ⟨B,3,none⟩ v3) :=
 (((h.setCell (p:=⟨B,0,none⟩) hB v0).setCell (p:=⟨B,1,none⟩) hB v1).setCell (p:=⟨B,2,none⟩) hB v2).setCell (p:=⟨B,3,none⟩) hB v3
end
section
open Go.RowKit
def countB (n:Int):Bool:=decide (0<=n) && decide (n<=1000000000)
end
section
open Go.RowKit
theorem rIn_any (n:Int) (w:World):Calls Tryz.prog 50 #[.int .i64 n] w fun e w'=>e=.returned (.bool (countB n))/\w=w':=by
 by_cases h:0<=n
 · go_enter Tryz.func50,Tryz.ntmps50
   go_wp2
   go_ret;exact ⟨eA (a:=decide (n<=1000000000)) (by unfold countB;rw [decide_eq_true h];rfl),rfl⟩
 · go_enter Tryz.func50,Tryz.ntmps50
   go_wp2
   go_ret;exact ⟨eA (a:=false) (by unfold countB;rw [decide_eq_false (by omega)];rfl),rfl⟩
theorem qC {s:ByteArray} (h:1<=s.size):s.toList.isEmpty=false:=by
 rw [Lib.toList_data];have hl:s.data.toList.length=s.size:=by simp
 cases e:s.data.toList with
 | nil=>rw [e] at hl;simp at hl;omega
 | cons a b=>rfl
theorem Hc {s:ByteArray} (h:2<=s.size) (c:UInt8):(s.toList == [c])=false:=by
 rw [beq_eq_false_iff_ne,Lib.toList_data];intro e;have hl:s.data.toList.length=s.size:=by simp
 rw [e] at hl;simp at hl;omega
end
section
open Go.RowKit
end
section
open Go.RowKit
structure AD where
 m:ByteArray
 k:Int
 n:Int
 s:ByteArray
 len:Nat
 z:Nat->Int
def lD (w:World) (b o:Nat) (x:AD) (y:Option Addr) (c:Nat):Prop :=
 w.cell? ⟨b,o,none⟩=some (.string x.m)/\w.cell? ⟨b,o+1,none⟩=some (.int .i64 x.k)/\w.cell? ⟨b,o+2,none⟩=some (.int .i64 x.n)/\w.cell? ⟨b,o+3,none⟩=some (.string x.s)/\w.cell? ⟨b,o+4,none⟩=some (.slice y x.len c)
theorem lD.lt {w:World} {b o:Nat} {x:AD} {y:Option Addr} {c:Nat} (h:lD w b o x y c):b<w.heap.size:=by have:=World.block_lt_of_cell? w _ h.1;simpa using this
theorem lD.below {B:Nat} {w w':World} {b o:Nat} {x:AD} {y:Option Addr} {c:Nat} (h:lD w b o x y c) (hb:Below B w w') (hB:b<B):lD w' b o x y c :=
 ⟨(hb.cell (p:=⟨b,_,none⟩) hB).trans h.1,(hb.cell (p:=⟨b,_,none⟩) hB).trans h.2.1,(hb.cell (p:=⟨b,_,none⟩) hB).trans h.2.2.1,(hb.cell (p:=⟨b,_,none⟩) hB).trans h.2.2.2.1,(hb.cell (p:=⟨b,_,none⟩) hB).trans h.2.2.2.2⟩
theorem lD.kept {w w':World} {b o:Nat} {x:AD} {y:Option Addr} {c:Nat} (h:lD w b o x y c) (hb:Below w.heap.size w w'):lD w' b o x y c:=h.below hb h.lt
def ReadsA (w:World) (a:Option Addr) (len:Nat) (A:Nat->AD):Prop :=
 len<=maxLen/\(len=0\/∃ b off,a=some ⟨b,off,none⟩/\∀ j,j<len->∃ y c,lD w b (off+j*5) (A j) y c/\Reads w y (A j).len (A j).z)
theorem ReadsA.kept {w w':World} {a:Option Addr} {len:Nat} {A:Nat->AD} (h:ReadsA w a len A) (hb:Below w.heap.size w w'):ReadsA w' a len A:=by
 refine ⟨h.1,h.2.imp id ?_⟩;rintro ⟨b,off,rfl,hc⟩;refine ⟨b,off,rfl,fun j hj=>?_⟩;obtain ⟨y,c,h5,hr⟩:=hc j hj;exact ⟨y,c,h5.kept hb,hr.kept hb⟩
end
section
open Go.RowKit
def uS (w:World) (len:Nat) (z:Nat->Int) (e:Ending) (w':World):Prop :=
 (∃ a c,e=.returned (.slice a len c)/\Reads w' a len z/\∀ b,a=some b->w.heap.size<=b.block)/\Below w.heap.size w w'
theorem JX:(Tryz.prog.info? 2).map (fun i=>(i.zero,i.size,i.bytes))=some (some (.int .i64 0),1,8):=by kernel_rfl
theorem Qv (z:Nat->Int) (len:Nat):∀ u∈(List.range len).map (fun j=>Value.int .i64 (z j)),u.oneCell'=true:=by
 intro u hu;obtain ⟨j,_,rfl⟩:=List.mem_map.1 hu;rfl
theorem Ix {w:World} {base:Nat} {a:Option Addr} {len l c:Nat} {z:Nat->Int} (h:w.ownsRow base 2 1 (.slice a l c) len ((List.range len).map (fun j=>Value.int .i64 (z j)))):l=len/\Reads w a len z/\∀ b,a=some b->base<=b.block:=by
 rcases h.2 with ⟨h,h'⟩ | ⟨g,cap,cur,hv,hb,hg,hnc,hm,_,ht⟩
 · simp only [Value.slice.injEq] at h
   obtain ⟨rfl,rfl,rfl⟩:=h;subst h';exact ⟨rfl,⟨Nat.zero_le _,.inl rfl⟩,fun b hb=>by cases hb⟩
 · simp only [Value.slice.injEq] at hv
   obtain ⟨rfl,rfl,rfl⟩:=hv;refine ⟨rfl,⟨Nat.le_trans hnc hm,.inr ⟨g,0,rfl,fun j hj=>?_⟩⟩,fun b hb'=>by cases hb';exact hb⟩;have hjj:((List.range l).map (fun j=>Value.int .i64 (z j)))[j]? = some (.int .i64 (z j)):=by simp [hj]
   rw [Nat.zero_add,cell_of_row w g j cur _ (0,0) hg];rw [Nat.mul_one] at ht;rw [<- ht,List.getElem?_take,if_pos hj] at hjj;simpa using hjj
theorem uM (a:Option Addr) (len cap:Nat) (z:Nat->Int) (hl:len<=1000000) (w:World) (hr:Reads w a len z) :
 Calls Tryz.prog 154 #[.slice a len cap] w (uS w len z):=by
 obtain ⟨i0,hi,hz0,hz1,hz2⟩:=info_parts JX;have und:Tryz.prog.underlying 58=some (.slice 2):=Tryz.underlying58;cases a with
 | none =>
   have h0:len=0:=by
    rcases hr.2 with h | ⟨b,off,h,_⟩
    · exact h
    · cases h
   subst h0;have P:=aA (show uS w 0 z (.returned (.slice none 0 0)) w from ⟨⟨none,0,rfl,⟨Nat.zero_le _,.inl rfl⟩,fun b h=>by cases h⟩,Below.refl _ _⟩);clear hr;go_enter Tryz.func154,Tryz.ntmps154
   go_wp2
   rw [Lib.run_eql_slice_nil w _ _ _ _ _ _ _ und];simp only [Result.andThen];rw [Oper.upon_value];go_wp2_with fail
   go_ret;exact P.out
 | some x =>
   have F:=aA (p:=∀ w',Below w.heap.size w w'->Ra w' (.slice (some x) len cap) len ((List.range len).map (fun j=>Value.int .i64 (z j)))) (fun w' hb=>by
    refine .inr ⟨x,cap,rfl,by simp,fun j u hj=>?_⟩;rcases (hr.kept hb).2 with h0 | ⟨b,off,hx,hc⟩
    · subst h0;simp at hj
    · obtain rfl:x=⟨b,off,none⟩:=by simpa using hx
      have hjl:j<len:=by
       rcases Nat.lt_or_ge j len with h | h
       · exact h
       · rw [List.getElem?_eq_none (by simpa using h)] at hj;cases hj
      rw [Addr.add_lit,hc j hjl];simpa [hjl] using hj)
   clear hr;go_enter Tryz.func154,Tryz.ntmps154
   have bA:Below w.heap.size w (w.alloc (.cells #[] 2)):=bA0 _ _;have BA:=aA bA;have OA:=aA (show (w.alloc (.cells #[] 2)).ownsRow w.heap.size 2 1 (.slice (some ⟨w.heap.size,0,none⟩) 0 0) 0 [] from ⟨rfl,.inr ⟨w.heap.size,0,#[],rfl,Nat.le_refl _,heap_alloc_new w _,Nat.le_refl _,Nat.zero_le _,rfl,rfl⟩⟩);clear bA;go_wp2
   rw [Lib.run_eql_slice_nil w _ _ _ _ _ _ _ und];simp only [Result.andThen];rw [Oper.upon_value];go_wp2_with (at_builtin;refine rL rfl _ _ 58 rfl und hi hz0 hz1 hz2 rfl _ _ 0 len [] _ rfl rfl OA.out (F.out _ BA.out) (Qv z len) (by unfold maxLen;omega) (by omega) (by simp) ?_)
   intro v' w2 ho hg _
   obtain ⟨va,vl,vc,rfl⟩:∃ a l c,v'=.slice a l c:=by
    rcases ho.2 with ⟨h,_⟩ | ⟨g,cap,_,h,_⟩
    · exact ⟨_,_,_,h⟩
    · exact ⟨_,_,_,h⟩
   obtain ⟨rfl,hrd,hbl⟩:=Ix ho;have P:=aA (show uS w vl z (.returned (.slice va vl vc)) w2 from ⟨⟨va,vc,rfl,hrd,hbl⟩,BA.out.grown hg (by simp) (fun k hk=>by simp [Value.ownBlock] at hk;omega)⟩);clear ho hg hrd hbl;go_wp2
   go_ret;exact P.out
theorem Bf (W:World) (B:Nat) (v0 v1 v2 v3:Value):aD (fun k=>k=B) W ((((W.setCell ⟨B,0,none⟩ v0).setCell ⟨B,1,none⟩ v1).setCell ⟨B,2,none⟩ v2).setCell ⟨B,3,none⟩ v3) :=
 ((((aD.refl (fun k=>k=B) W).setCell (S:=fun k=>k=B) (p:=⟨B,0,none⟩) (.inl rfl) v0).setCell (S:=fun k=>k=B) (p:=⟨B,1,none⟩) (.inl rfl) v1).setCell (S:=fun k=>k=B) (p:=⟨B,2,none⟩) (.inl rfl) v2).setCell (S:=fun k=>k=B) (p:=⟨B,3,none⟩) (.inl rfl) v3
theorem Reads.keptS {S:Nat->Prop} {w w':World} {a:Option Addr} {len:Nat} {z:Nat->Int} (h:Reads w a len z) (hk:aD S w w') (hS:∀ b,a=some b->¬ S b.block):Reads w' a len z:=by
 refine ⟨h.1,?_⟩;rcases h.2 with h0 | ⟨b,off,rfl,hc⟩
 · exact .inl h0
 · exact .inr ⟨b,off,rfl,fun j hj=>hk.cell (hc j hj) (show ¬ S b from hS ⟨b,off,none⟩ rfl)⟩
def twN (k n:Int):Int:=if k=1 then n else 0
def twS (k:Int) (s:ByteArray):ByteArray:=if k=2 then s else ⟨#[]⟩
def twL (k:Int) (len:Nat):Nat:=if k=3 then len else 0
def uQ (w:World) (k n:Int) (s:ByteArray) (len:Nat) (z:Nat->Int) (e:Ending) (w':World):Prop :=
 (∃ a c,e=.returned (.agg #[.int .i64 k,.int .i64 (twN k n),.string (twS k s),.slice a (twL k len) c])/\(∀ b,a=some b->w.heap.size<=b.block)/\∀ w3,aD (fun b=>b=w.heap.size+1) w' w3->Reads w3 a (twL k len) z)/\Below w.heap.size w w'
theorem uA (w:World) (z:Nat->Int):Reads w none 0 z:=⟨Nat.zero_le _,.inl rfl⟩
theorem pQ (w:World) (o1 o2:Obj):Below w.heap.size w ((w.alloc o1).alloc o2)/\((w.alloc o1).alloc o2).heap[w.heap.size]? = some o1/\((w.alloc o1).alloc o2).heap[w.heap.size+1]? = some o2/\((w.alloc o1).alloc o2).heap.size=w.heap.size+2:=by
 refine ⟨(bA0 _ _).alloc (by simp) _,(Below.heap_alloc _ _ _ (by simp)).trans (heap_alloc_new w _),?_,by simp⟩;have:=heap_alloc_new (w.alloc o1) o2;rwa [World.size_alloc] at this
theorem wR (k n:Int) (s:ByteArray) (a:Option Addr) (len cap:Nat) (z:Nat->Int) (hl:len<=1000000) (w:World) (hr:Reads w a len z) :
 Calls Tryz.prog 96 #[.agg #[.int .i64 k,.int .i64 n,.string s,.slice a len cap]] w (uQ w k n s len z):=by
 have HB:=aA (pQ w (.cells #[.int .i64 k,.int .i64 n,.string s,.slice a len cap] 60) (.cells #[.int .i64 0,.int .i64 0,.string ⟨#[]⟩,.slice none 0 0] 60));have R:=aA hr;clear hr;by_cases h1:k=1
 · subst h1
   have P:=aA (p:=∀ W,Below w.heap.size w W->uQ w 1 n s len z (.returned (.agg #[.int .i64 1,.int .i64 n,.string ⟨#[]⟩,.slice none 0 0])) W) (fun W h=>⟨⟨none,0,rfl,(fun b h=>by cases h),fun w3 _=>uA w3 z⟩,h⟩);go_enter Tryz.func96,Tryz.ntmps96
   go_wp2_with fail
   exact bodyPost_ret (v:=.agg #[.int .i64 1,.int .i64 n,.string ⟨#[]⟩,.slice none 0 0]) (by simp [results,Tryz.results96,go_sem]) rfl (P.out _ (pQ w _ _).1)
 have q1:(k == 1)=false:=by simpa using h1
 by_cases h2:k=2
 · subst h2
   have P:=aA (p:=∀ W,Below w.heap.size w W->uQ w 2 n s len z (.returned (.agg #[.int .i64 2,.int .i64 0,.string s,.slice none 0 0])) W) (fun W h=>⟨⟨none,0,rfl,(fun b h=>by cases h),fun w3 _=>uA w3 z⟩,h⟩);clear h1 q1;go_enter Tryz.func96,Tryz.ntmps96
   go_wp2_with fail
   exact bodyPost_ret (v:=.agg #[.int .i64 2,.int .i64 0,.string s,.slice none 0 0]) (by simp [results,Tryz.results96,go_sem]) rfl (P.out _ (pQ w _ _).1)
 have q2:(k == 2)=false:=by simpa using h2
 by_cases h3:k=3
 · subst h3
   clear h1 q1 h2 q2;go_enter Tryz.func96,Tryz.ntmps96
   go_wp2_with fail
   generalize hW:World.alloc (World.alloc w _) _=W;rw [hW] at HB;have hdr:Below W.heap.size W W.drew:=⟨rfl,rfl,rfl,Nat.le_refl _,fun _ _=>rfl⟩;have C:=aA (uM a len cap z hl W.drew (R.out.kept (HB.out.1.trans ⟨rfl,rfl,rfl,Nat.le_refl _,fun _ _=>rfl⟩)));have hs:=HB.out.2.2.2;obtain ⟨⟨x0,x1,x2,x3⟩, -⟩:=aL HB.out.2.1;clear hW hdr
   go_region_with (first
    | (go_at_call 154
       with_reducible refine C.out.mono ?_
       rintro e w2 ⟨⟨a2,c2,rfl,hr2,hb2⟩,hb⟩;have hz2:=hb.size;have hres:=(hb.block (w.heap.size+1) (by show _<W.heap.size;omega)).trans HB.out.2.2.1;clear x0 x1 x2 x3;obtain ⟨⟨x0,x1,x2,x3⟩, -⟩:=aL ((hb.block w.heap.size (by show _<W.heap.size;omega)).trans HB.out.2.1);obtain ⟨⟨y0,y1,y2,y3⟩,⟨z0,z1,z2,z3⟩⟩:=aL hres;have H2:=aA (And.intro hr2 (And.intro hb2 (HB.out.1.trans ((show Below w.heap.size W W.drew from ⟨rfl,rfl,rfl,Nat.le_refl _,fun _ _=>rfl⟩).trans (hb.mono (by show _<=W.heap.size;omega))))));clear hr2 hb2 hb hres)
    | fail)
   all_goals
    have P:=aA (p:=uQ w 3 n s len z (.returned (.agg #[.int .i64 3,.int .i64 0,.string ⟨#[]⟩,.slice a2 len c2])) ((((w2.setCell ⟨w.heap.size+1,0,none⟩ (.int .i64 3)).setCell ⟨w.heap.size+1,1,none⟩ (.int .i64 0)).setCell ⟨w.heap.size+1,2,none⟩ (.string ⟨#[]⟩)).setCell ⟨w.heap.size+1,3,none⟩ (.slice a2 len c2)))
     ⟨⟨a2,c2,rfl,(fun b hb=>by have:=H2.out.2.1 b hb;have hW':W.drew.heap.size=w.heap.size+2:=hs;omega),fun w3 k3=>H2.out.1.keptS ((Bf w2 (w.heap.size+1) _ _ _ _).trans k3 (fun _ h _=>h)) (fun b hb h=>by have:=H2.out.2.1 b hb;have h':b.block=w.heap.size+1:=h;have hW':W.drew.heap.size=w.heap.size+2:=hs;omega)⟩,lL H2.out.2.2 (Nat.le_succ _) _ _ _ _⟩
    go_wp2
    exact bodyPost_ret (v:=.agg #[.int .i64 3,.int .i64 0,.string ⟨#[]⟩,.slice a2 len c2]) (by simp [results,Tryz.results96,go_sem, *]) rfl P.out
 have q3:(k == 3)=false:=by simpa using h3
 have P:=aA (p:=∀ W,Below w.heap.size w W->uQ w k n s len z (.returned (.agg #[.int .i64 k,.int .i64 0,.string ⟨#[]⟩,.slice none 0 0])) W) (fun W h=>⟨⟨none,0,by unfold twN twS twL;rw [if_neg h1,if_neg h2,if_neg h3],(fun b h=>by cases h),fun w3 _=>by unfold twL;rw [if_neg h3];exact uA w3 z⟩,h⟩);clear h1 h2 h3;go_enter Tryz.func96,Tryz.ntmps96
 go_wp2_with fail
 exact bodyPost_ret (v:=.agg #[.int .i64 k,.int .i64 0,.string ⟨#[]⟩,.slice none 0 0]) (by simp [results,Tryz.results96,go_sem]) rfl (P.out _ (pQ w _ _).1)
end
section
open Go.RowKit
def RO (w:World) (F:Nat->Prop) (e:AD×VC):Prop :=
 e.2.k=e.1.k/\e.2.n=e.1.n/\e.2.s=e.1.s/\e.2.len=e.1.len/\Reads w e.2.y e.1.len e.1.z/\(e.1.len=0\/∀ b,e.2.y=some b->¬ F b.block)
theorem RO.kept {w w':World} {F F' S:Nat->Prop} {e:AD×VC} (h:RO w F e) (hk:aD S w w') (hS:∀ k,S k->k<w.heap.size->F k) (hg:∀ k,F' k->k<w.heap.size->F k):RO w' F' e:=by
 obtain ⟨h1,h2,h3,h4,hr,hF⟩:=h;refine ⟨h1,h2,h3,h4,?_,?_⟩
 · refine ⟨hr.1,?_⟩
   rcases hr.2 with h0 | ⟨b,off,hy,hc⟩
   · exact .inl h0
   · rcases hF with h0 | hF
     · exact .inl h0
     · refine .inr ⟨b,off,hy,fun j hj=>hk.cell (hc j hj) (fun hs=>hF _ hy (hS b hs (by have:=World.block_lt_of_cell? w _ (hc j hj);simpa using this)))⟩
 · rcases hF with h0 | hF
   · exact .inl h0
   · rcases hr.2 with h0 | ⟨b,off,hy,hc⟩
     · exact .inl h0
     · by_cases hl:e.1.len=0
       · exact .inl hl
       · refine .inr fun b' hb' h'=>?_
         rw [hy] at hb';cases hb';exact hF _ hy (hg _ h' (by have:=World.block_lt_of_cell? w _ (hc 0 (by omega));simpa using this))
def twA (x:AD):AD:=⟨x.m,x.k,twN x.k x.n,twS x.k x.s,twL x.k x.len,x.z⟩
end
section
open Go.RowKit
end
section
open Go.RowKit
def twsA (A:Nat->AD) (k:Nat):List AD:=(List.range k).map fun j=>twA (A j)
def RiseA (A:Nat->AD) (n:Nat):Prop:=∀ i j,i<j->j<n->lsS (A i).m (A j).m=true
end
section
open Go.RowKit
end
section
open Go.RowKit
end
section
open Go.RowKit
end
end
section
section
open Go.RowKit
end
section
open Go.RowKit
abbrev tv (l:List UInt8):Value:=.string ⟨l.toArray⟩
theorem BT {w:World} {e:TypeId} {B g n c:Nat} {xs:List Value} (h:w.ownsRow B e 1 (.slice (some ⟨g,0,none⟩) n c) n xs) (i:Nat) (_hi:i<n) (u:Value) :
 (w.setCell ⟨g,i,none⟩ u).ownsRow B e 1 (.slice (some ⟨g,0,none⟩) n c) n (xs.set i u)/\B<=g:=by
 refine ⟨⟨by rw [List.length_set];exact h.1,?_⟩,?_⟩
 · rcases h.2 with ⟨h1,_⟩ | ⟨g',cap',cur,h1,hb,hg,hn,hm,hs,ht⟩
   · simp at h1
   · simp only [Value.slice.injEq,Option.some.injEq,Addr.mk.injEq] at h1
     obtain ⟨⟨rfl, -⟩, -,rfl⟩:=h1;refine .inr ⟨g,c,cur.setIfInBounds i u,rfl,hb,heap_setCell_same w g i cur e u hg,hn,hm,by simpa using hs,?_⟩;rw [<- ht];simp [List.take_set]
 · rcases h.2 with ⟨h1,_⟩ | ⟨g',cap',cur,h1,hb,_⟩
   · simp at h1
   · simp only [Value.slice.injEq,Option.some.injEq,Addr.mk.injEq] at h1
     obtain ⟨⟨rfl, -⟩, -,rfl⟩:=h1;exact hb
theorem mH {w:World} {e:TypeId} {B g n c:Nat} {xs:List Value} (h:w.ownsRow B e 1 (.slice (some ⟨g,0,none⟩) n c) n xs) {j:Nat} {v:Value} (hj:xs[j]? = some v):w.cell? ⟨g,j,none⟩=some v/\w.frozen? ⟨g,j,none⟩=false:=by
 rcases h.2 with ⟨h1,_⟩ | ⟨g',cap',cur,h1,hb,hg,hn,hm,hs,ht⟩
 · simp at h1
 · simp only [Value.slice.injEq,Option.some.injEq,Addr.mk.injEq] at h1
   obtain ⟨⟨rfl, -⟩, -,rfl⟩:=h1;rw [Nat.mul_one] at ht;exact ⟨dZ hg ht hj,frozen_of_row w g j _ _ hg⟩
theorem gM {W:World} {base:Nat} {e:TypeId} {size:Nat} {v:Value} {k:Nat} {xs:List Value} (h:W.ownsRow base e size v k xs):∃ a cap,v=.slice a k cap:=by
 rcases h.2 with ⟨rfl,rfl⟩ | ⟨g,cap,_,rfl,_⟩
 · exact ⟨_,_,rfl⟩
 · exact ⟨_,_,rfl⟩
theorem Cg:(Tryz.prog.info? 9).map (fun i=>(i.zero,i.size,i.bytes))=some (some (.string ⟨#[]⟩),1,16):=by kernel_rfl
theorem tN (a:List UInt8) (s:ByteArray) (k:Nat) (hk:k<s.size):(⟨a.toArray⟩:ByteArray)++s.extract k (k+1)=⟨(a++[s[k]]).toArray⟩:=by
 apply dI
 have h:(s.extract k (k+1)).data.toList=[s[k]]:=by
  rw [ByteArray.data_extract,Array.toList_extract];show (s.data.toList.drop k).take (k+1-k)=_;rw [List.drop_eq_getElem_cons (by simpa using hk),show k+1-k=1 by omega];rfl
 show (_++_:ByteArray).data.toList=_;rw [ByteArray.data_append,Array.toList_append,h]
end
section
open Go.RowKit
theorem As:∀ l:List UInt8,∃ q a,cX l=q++[a]/\cX (l++[47])=q++[a]++[[]]/\∀ c,¬ c=47->cX (l++[c])=q++[a++[c]]
 | []=>⟨[],[],rfl,rfl,fun c hc=>by rw [List.nil_append,eG hc [] (a:=[]) (b:=[]) rfl];rfl⟩
 | d :: l => by
   obtain ⟨q,a,h0,h1,h2⟩:=As l;by_cases hd:d=47
   · subst hd
     refine ⟨[]::q,a,?_,?_,fun c hc=>?_⟩
     · rw [e7,h0];rfl
     · rw [List.cons_append,e7,h1];rfl
     · rw [List.cons_append,e7,h2 c hc];rfl
   · cases q with
     | nil =>
       refine ⟨[],d::a,?_,?_,fun c hc=>?_⟩
       · rw [eG hd l h0];rfl
       · rw [List.cons_append,eG hd _ h1];rfl
       · rw [List.cons_append,eG hd _ (h2 c hc)];rfl
     | cons b q =>
       refine ⟨(d::b)::q,a,?_,?_,fun c hc=>?_⟩
       · rw [eG hd l h0];rfl
       · rw [List.cons_append,eG hd _ h1];rfl
       · rw [List.cons_append,eG hd _ (h2 c hc)];rfl
theorem l6:∀ (l:List UInt8),∀ x∈cX l,x.length<=l.length
 | [],x,h=>by simp [cX] at h;subst h;simp
 | c :: l, x, h => by
   by_cases hc:c=47
   · subst hc
     rw [e7] at h;rcases List.mem_cons.1 h with rfl | h
     · simp
     · have:=l6 l x h;simp;omega
   · obtain ⟨a,q,e⟩:=sL l
     rw [eG hc l e] at h;rcases List.mem_cons.1 h with rfl | h
     · have:=l6 l a (by rw [e];simp);simp;omega
     · have:=l6 l x (by rw [e];simp [h]);simp;omega
theorem Dv (l:List UInt8):(cX l).length<=l.length+1:=by
 induction l with
 | nil=>simp [cX]
 | cons c l ih =>
   by_cases h:c=47
   · subst h;rw [e7];simp;omega
   · obtain ⟨a,q,e⟩:=sL l
     rw [eG h l e];rw [e] at ih;simp at ih |-;omega
def tR (l:List UInt8):List Value:=(cX l).map tv
theorem KU (s:ByteArray) (h1:2<=s.size) (h0:s[0]=47) (hm:s.size<=1000) (w:World):Calls Tryz.prog 204 #[.string s] w fun e w'=>(∃ v,e=.returned (.tuple #[v,.bool true])/\w'.ownsRow w.heap.size 9 1 v (tR (s.data.toList.drop 1)).length (tR (s.data.toList.drop 1)))/\Below w.heap.size w w':=by
 have e0:((s[0].toNat:Int) != 47)=false:=by rw [h0];decide
 have e1:=qC (s:=s) (by omega);have e2:=Hc h1 47;have e3:(s.toList == (⟨#[47]⟩:ByteArray).toList)=false:=by simpa [Lib.toList_data] using e2
 obtain ⟨B,hB⟩:∃ B,w.heap.size=B:=⟨_,rfl⟩;obtain ⟨i0,hi0,hz0,hz1,hz2⟩:=info_parts Cg
 have own0:(w.alloc (.cells #[.string ⟨#[]⟩] 9)).ownsRow B 9 1 (.slice (some ⟨B,0,none⟩) 1 1) (tR ((s.data.toList.take 1).drop 1)).length (tR ((s.data.toList.take 1).drop 1)):=by
  rw [show (s.data.toList.take 1).drop 1=[] by simp];refine ⟨rfl,.inr ⟨B,1,#[.string ⟨#[]⟩],rfl,by omega,by rw [<- hB];exact World.alloc_heap_new w _,Nat.le_refl _,by unfold maxLen;omega,rfl,rfl⟩⟩
 have O:=aA own0;have BL:=aA (show Below B w (w.alloc (.cells #[.string ⟨#[]⟩] 9)) from (Below.refl _ _).alloc (by omega) _);clear h0 own0;rw [hB];go_enter Tryz.func204,Tryz.ntmps204
 go_wp2_with fail
 go_loopw [4,5] (fun v i wr=>∃ k:Nat,1<=k/\k<=s.size/\i=.int .i64 k/\Hid (wr.ownsRow B 9 1 v (tR ((s.data.toList.take k).drop 1)).length (tR ((s.data.toList.take k).drop 1)))/\Hid (Below B w wr)) (fun _ i _=>s.size-(intOf i).toNat)
 case atStart=>exact ⟨1,Nat.le_refl _,by omega,rfl,O,BL⟩
 case round =>
  obtain ⟨k,hk1,hk,rfl,ho,hb⟩:=hrel;have hbs:B<=wr.heap.size:=by have:=hb.out.size;omega
  by_cases hlt:k<s.size
  · obtain ⟨q,a,g0,g1,g2⟩:=As ((s.data.toList.take k).drop 1)
    have hnx:(s.data.toList.take (k+1)).drop 1=(s.data.toList.take k).drop 1++[s[k]]:=by
     have hk':k<s.data.toList.length:=by simpa using hlt
     rw [List.take_succ_eq_append_getElem hk',List.drop_append_of_le_length (by simp;omega)];rfl
    have hql:q.length<=1000:=by
     have:=Dv ((s.data.toList.take k).drop 1);rw [g0] at this;simp at this;omega
    have hal:a.length<=1000:=by
     have h:=l6 ((s.data.toList.take k).drop 1) a (by rw [g0];simp);simp at h;omega
    have hoo:=ho.out;obtain ⟨Q,hQ⟩:∃ Q,q.map tv=Q:=⟨_,rfl⟩;have hQl:Q.length<=1000:=by rw [<- hQ,List.length_map];exact hql
    have hseg:tR ((s.data.toList.take k).drop 1)=Q++[tv a]:=by unfold tR;rw [g0,List.map_append,hQ];rfl
    rw [hseg] at hoo;obtain ⟨N,hN⟩:∃ N,Q.length=N:=⟨_,rfl⟩;rw [List.length_append,hN,show [tv a].length=1 from rfl] at hoo;obtain ⟨g,cap,rfl⟩:=ownsRow_succ hoo;have HO:=aA hoo;rw [hN] at hQl;by_cases hc:s[k]=47
    · have hnew:=aA (show tR ((s.data.toList.take (k+1)).drop 1)=Q++[tv a]++[.string ⟨#[]⟩] by unfold tR;rw [hnx,hc,g1,List.map_append,List.map_append,hQ];rfl)
      have hml:=aA (show N+1+1<=maxLen by unfold maxLen;omega);have hlen:=aA (show (Q++[tv a]++[Value.string ⟨#[]⟩]).length=N+1+1 by simp [hN]);have q47:((s[k].toNat:Int) == 47)=true:=by rw [hc];decide
      clear hoo g0 g1 g2 hnx hseg hQ hN hc hql ho;go_wp2_with (at_builtin;refine wpList_append_own _ rfl _ _ 55 rfl B 9 i0 (.string ⟨#[]⟩) 1 16 Tryz.underlying55 hi0 hz0 hz1 hz2 rfl (by decide) _ _ _ rfl (HO.out.alloc _) ⟨wr.heap.size,0,none⟩ 1 1 [.string ⟨#[]⟩] rfl rfl (cell_one_new _ _ _) (by simp [Value.oneCell']) hml.out (by omega) (by simp;omega) ?_;intro v2 w2 hown2 hgrow2 _;have O2:=aA hown2;have G2:=aA hgrow2;clear hown2 hgrow2)
      have hb2:=aA ((hb.out.alloc hbs _).grown G2.out (by simp;omega) (fun j e=>by
       rcases HO.out.2 with ⟨h1,_⟩ | ⟨g,cap,cur,h1,hg,_⟩
       · rw [h1] at e;cases e
       · rw [h1] at e;cases e;exact hg))
      go_roundw
      case rel=>exact ⟨k+1,by omega,by omega,by go_num,aA (by rw [hnew.out,hlen.out];exact O2.out),hb2⟩
      case measure=>simp [intOf];omega
    · have hnew:=aA (show tR ((s.data.toList.take (k+1)).drop 1)=(Q++[tv a]).set N (.string (⟨a.toArray⟩++s.extract k (k+1))) by
       unfold tR;rw [hnx,g2 _ hc,List.map_append,hQ,tN a s k hlt,List.set_append_right _ _ (by omega),hN,Nat.sub_self];rfl)
      have hlen:=aA (show ((Q++[tv a]).set N (.string (⟨a.toArray⟩++s.extract k (k+1)))).length=N+1 by simp [hN])
      have q47:((s[k].toNat:Int) == 47)=false:=by
       rw [beq_eq_false_iff_ne];intro e;apply hc;apply UInt8.toNat_inj.1
       have:s[k].toNat=47:=by omega
       rw [this];rfl
      obtain ⟨c1,c2⟩:=mH HO.out (j:=N) (v:=tv a) (by rw [List.getElem?_append_right (by omega),hN,Nat.sub_self];rfl);obtain ⟨O2,hBg⟩:=BT HO.out N (by omega) (.string (⟨a.toArray⟩++s.extract k (k+1)));have O2:=aA O2;obtain ⟨T,hT⟩:∃ T:ByteArray,⟨a.toArray⟩=T:=⟨_,rfl⟩;have hTs:T.size<=1000:=by rw [<- hT];show a.toArray.size<=1000;simpa using hal
      have hb2:=aA (hb.out.setCell (p:=⟨g,N,none⟩) hBg (.string (⟨a.toArray⟩++s.extract k (k+1))));unfold tv at c1;rw [hT] at c1 O2 hb2 hnew hlen;clear hoo g0 g1 g2 hnx hseg hQ hN hc hql ho hal hT;go_wp2_with fail
      have j1:IntKind.i64.wrap (N:Int)=(N:Int):=IntWalk.i64_in _ (by omega);have j2:IntKind.i64.wrap ((k:Int)+1)=(k:Int)+1:=IntWalk.i64_in _ (by omega);have j3:(0:Int)<=(k:Int)+1:=by omega
      have j4:((k:Int)+1).toNat=k+1:=by omega
      have j5:(0:Int)<=(N:Int):=by omega
      have j6:(N:Int)<(N:Int)+1:=by omega
      have j7:N<N+1:=by omega
      have j8:((N:Int)).toNat=N:=by omega
      have j9:(N:Int)<((N+1:Nat):Int):=by omega
      have j10:(k:Int)<=(k:Int)+1:=by omega
      have j11:(k:Int)+1<=(s.size:Int):=by omega
      have j12:k<=k+1:=by omega
      have j13:k+1<=s.size:=by omega
      have j14:(0:Int)<=(k:Int):=by omega
      have j15:((k:Int)).toNat=k:=by omega
      obtain ⟨E,hE⟩:∃ E,s.extract k (k+1)=E:=⟨_,rfl⟩;have hEs:E.size<=1:=by rw [<- hE];simp;omega
      rw [hE] at O2 hb2 hnew hlen;have j16:(9223372036854775807<T.size+E.size)=False:=by simp;omega
      go_still_tail 17,(by kernel_rfl)
      change wpList _ _ _ _ _ wr.drew;go_wp2_with fail
      exact ⟨⟨k+1,by omega,by omega,by go_num,aA (by rw [hnew.out,hlen.out];exact DR O2.out),aA hb2.out.drew⟩,by simp [intOf];omega⟩
  · obtain rfl:k=s.size:=by omega
    rw [show (s.data.toList.take s.size).drop 1=s.data.toList.drop 1 by rw [List.take_of_length_le (by simp)]] at ho;obtain ⟨a1,cap1,rfl⟩:=gM ho.out;go_wp2_with fail
    go_ret2;exact ⟨⟨_,rfl,ho.out⟩,hb.out⟩
end
section
open Go.RowKit
theorem Oq {s:ByteArray} (h:1<=s.size) (h0:s[0]=47):lH s.data.toList=((cX (s.data.toList.drop 1)).all bH && decide ((cX (s.data.toList.drop 1)).length<=4)):=by
 have hl:s.data.toList.length=s.size:=by simp
 have h00:s.data.toList[0]? = some s[0]:=List.getElem?_eq_getElem (by omega);cases e:s.data.toList with
 | nil=>rw [e] at hl;simp at hl;omega
 | cons c r =>
   rw [e] at h00;have:c=s[0]:=by simpa using h00
   rw [h0] at this;subst this;unfold lH;rw [t8,List.drop_one,List.tail_cons];simp
def jF (s:ByteArray) (x:Int):Prop:=x=0 ↔ lH s.data.toList=true
theorem Fw (s:ByteArray) (h1:2<=s.size) (h0:s[0]=47) (hm:s.size<=1000) (w:World):Calls Tryz.prog 162 #[.string s] w fun e w'=>(∃ v x,e=.returned (.tuple #[v,.int .i64 x])/\jF s x)/\Below w.heap.size w w':=by
 have R:=Oq (s:=s) (by omega) h0;have hlen:=Dv (s.data.toList.drop 1);have hsz:(s.data.toList.drop 1).length<=1000:=by simp;omega
 have heach:=l6 (s.data.toList.drop 1);have hcut:=fun w=>KU s h1 h0 hm w
 unfold tR at hcut;obtain ⟨L,hL⟩:∃ L,cX (s.data.toList.drop 1)=L:=⟨_,rfl⟩
 have hne:1<=L.length:=by
  rw [<- hL];have:=wB (s.data.toList.drop 1);cases e:cX (s.data.toList.drop 1) with
  | nil=>exact absurd e this
  | cons a b=>simp
 rw [hL] at R hlen hcut heach;have hLl:L.length<=1001:=by omega
 have C:=aA hcut;have R:=aA R;have E:=aA (show ∀ x∈L,x.length<=1000 from fun x hx=>Nat.le_trans (heach x hx) hsz);clear hL hlen hsz heach hcut h0;obtain ⟨M,hM⟩:∃ M,(L.map tv).length=M+1:=⟨L.length-1,by rw [List.length_map];omega⟩;have hM':L.length=M+1:=by rw [<- hM,List.length_map]
 go_enter Tryz.func162,Tryz.ntmps162
 go_wp2_with fail
 refine (C.out _).mono ?_;rintro e w1 ⟨⟨v,rfl,ho⟩,hb⟩;rw [hM] at ho;obtain ⟨g,cap,rfl⟩:=ownsRow_succ ho;have HO:=aA ho;have HB:=aA hb;have HM:=aA hM';have hMb:M<=1000:=by omega
 clear ho hb C hM hM';go_wp2_with fail
 go_loop [6] (fun i=>∃ k:Nat,k<=M+1/\i=.int .i64 k/\Hid (∀ j x,j<k->L[j]? = some x->bH x=true)) (fun i=>M+1-(intOf i).toNat)
 case atStart=>exact ⟨0,Nat.zero_le _,rfl,aA (fun j x h=>by omega)⟩
 case round =>
  obtain ⟨k,hk,rfl,hok⟩:=hrel;by_cases hlt:k<M+1
  · obtain ⟨x,hx⟩:∃ x,L[k]? = some x:=⟨L[k]'(by rw [HM.out];exact hlt),List.getElem?_eq_getElem _⟩
    obtain ⟨c1, -⟩:=mH HO.out (j:=k) (v:=tv x) (by rw [List.getElem?_map,hx];rfl);have hxs:x.length<=1000:=E.out x (List.mem_of_getElem? hx);obtain ⟨T,hT⟩:∃ T:ByteArray,⟨x.toArray⟩=T:=⟨_,rfl⟩;have hTx:T.data.toList=x:=by rw [<- hT]
    have hTs:T.size<=1000:=by rw [<- hT];show x.toArray.size<=1000;simpa using hxs
    unfold tv at c1;rw [hT] at c1;have N:=fun w=>Az T (by omega) w
    rw [hTx] at N;clear hT hTx hxs;cases hg:bH x with
    | true =>
      rw [hg] at N;have N:=aA N
      have hok1:=aA (show ∀ j y,j<k+1->L[j]? = some y->bH y=true from fun j y hj hy=>by
       by_cases e:j=k
       · subst e;rw [hx] at hy;cases hy;exact hg
       · exact hok.out j y (by omega) hy)
      clear hx hg;go_wp2_with fail
      refine (N.out _).mono ?_;rintro e w2 ⟨rfl,rfl⟩;go_wp2_with fail
      go_round
      case rel=>exact ⟨k+1,by omega,by go_num,hok1⟩
      case measure=>simp [intOf];omega
    | false =>
      rw [hg] at N;have N:=aA N
      have P:=aA (show jF s 2 from by
       refine ⟨fun h=>absurd h (by decide),fun h=>?_⟩;rw [R.out,Bool.and_eq_true,List.all_eq_true] at h;have:=h.1 x (List.mem_of_getElem? hx);rw [hg] at this;cases this)
      clear hx hg;go_wp2_with fail
      refine (N.out _).mono ?_;rintro e w2 ⟨rfl,rfl⟩;go_wp2_with fail
      go_ret2;exact ⟨⟨_,_,rfl,P.out⟩,HB.out⟩
  · have hall:L.all bH=true:=by
     rw [List.all_eq_true];intro x hx;obtain ⟨j,hj,rfl⟩:=List.mem_iff_getElem.1 hx;exact hok.out j _ (by rw [HM.out] at hj;omega) (List.getElem?_eq_getElem hj)
    by_cases h4:M+1<=4
    · have P:=aA (show jF s 0 from ⟨fun _=>by rw [R.out,hall,HM.out,decide_eq_true h4];rfl,fun _=>rfl⟩)
      clear hall;go_wp2_with fail
      go_ret2;exact ⟨⟨_,_,rfl,P.out⟩,HB.out⟩
    · have P:=aA (show jF s 4 from by
       refine ⟨fun h=>absurd h (by decide),fun h=>?_⟩;rw [R.out,hall,HM.out,decide_eq_false h4] at h;cases h)
      clear hall;go_wp2_with fail
      go_ret2;exact ⟨⟨_,_,rfl,P.out⟩,HB.out⟩
theorem Kx {s:ByteArray} (h:s.size=0):s=⟨#[]⟩:=by
 cases s with | mk d=>simp [ByteArray.size] at h;simp [h]
theorem Lq {s:ByteArray} (h:s.size=0\/∃ h:0<s.size,¬ s[0]=47):lH s.data.toList=false:=by
 have hl:s.data.toList.length=s.size:=by simp
 cases e:s.data.toList with
 | nil=>rfl
 | cons c r =>
   rcases h with h | ⟨h,h'⟩
   · rw [e] at hl;simp at hl;omega
   · have h00:s.data.toList[0]? = some s[0]:=List.getElem?_eq_getElem (by omega)
     rw [e] at h00;have:c=s[0]:=by simpa using h00
     subst this;unfold lH;rw [t8,decide_eq_false h'];rfl
theorem FM {c:UInt8} (h:¬ c=47):((c.toNat:Int) != 47)=true:=by
 rw [bne_iff_ne];intro e;apply h;apply UInt8.toNat_inj.1
 have:c.toNat=47:=by omega
 rw [this];rfl
theorem IE (s:ByteArray) (h:s.size=0\/∃ h:0<s.size,¬ s[0]=47) (hm:s.size<=1000) (w:World):Calls Tryz.prog 204 #[.string s] w fun e w'=>e=.returned (.tuple #[.slice none 0 0,.bool false])/\w=w':=by
 rcases h with h | ⟨h,h'⟩
 · obtain rfl:=Kx h
   clear h hm;go_enter Tryz.func204,Tryz.ntmps204
   go_wp2_with fail
   go_ret2;exact ⟨rfl,rfl⟩
 · have e1:=qC (s:=s) (by omega)
   have e0:=FM h';clear h';go_enter Tryz.func204,Tryz.ntmps204
   go_wp2_with fail
   go_ret2;exact ⟨rfl,rfl⟩
theorem ID (w:World):Calls Tryz.prog 204 #[.string ⟨#[47]⟩] w fun e w'=>e=.returned (.tuple #[.slice none 0 0,.bool true])/\w=w':=by
 go_enter Tryz.func204,Tryz.ntmps204
 go_wp2_with fail
 go_ret2;exact ⟨rfl,rfl⟩
theorem DE (s:ByteArray) (h:s.size=0\/∃ h:0<s.size,¬ s[0]=47) (hm:s.size<=1000) (w:World):Calls Tryz.prog 162 #[.string s] w fun e w'=>(∃ v x,e=.returned (.tuple #[v,.int .i64 x])/\jF s x)/\Below w.heap.size w w':=by
 have P:=aA (show jF s 2 from by
  refine ⟨fun h=>absurd h (by decide),fun hn=>?_⟩;rw [Lq h] at hn;cases hn)
 have C:=aA (IE s h hm);clear h;go_enter Tryz.func162,Tryz.ntmps162
 go_wp2_with fail
 refine (C.out _).mono ?_;rintro e w1 ⟨rfl,rfl⟩;go_wp2_with fail
 go_ret2;exact ⟨⟨_,_,rfl,P.out⟩,Below.refl _ _⟩
theorem DD (w:World):Calls Tryz.prog 162 #[.string ⟨#[47]⟩] w fun e w'=>(∃ v,e=.returned (.tuple #[v,.int .i64 0]))/\w=w':=by
 go_enter Tryz.func162,Tryz.ntmps162
 go_wp2_with fail
 refine (ID _).mono ?_;rintro e w1 ⟨rfl,rfl⟩;go_wp2_with fail
 go_loop [6] (fun i=>i=.int .i64 0) (fun _=>0)
 case atStart=>rfl
 case round =>
  subst hrel;go_wp2_with fail
  go_ret2;exact ⟨⟨_,rfl⟩,rfl⟩
theorem Fv (s:ByteArray) (hs:¬ s=⟨#[47]⟩) (hm:s.size<=1000) (w:World):Calls Tryz.prog 107 #[.string s] w fun e w'=>e=.returned (.bool (lH s.data.toList))/\Below w.heap.size w w':=by
 have C:∀ w,Calls Tryz.prog 162 #[.string s] w fun e w'=>(∃ v x,e=.returned (.tuple #[v,.int .i64 x])/\jF s x)/\Below w.heap.size w w':=by
  intro w;by_cases h:s.size=0\/∃ h:0<s.size,¬ s[0]=47
  · exact DE s h hm w
  · have h0:¬ s.size=0:=fun e=>h (.inl e)
    have h47:s[0]'(by omega)=47:=Classical.byContradiction fun e=>h (.inr ⟨by omega,e⟩)
    by_cases h2:2<=s.size
    · exact Fw s h2 h47 hm w
    · exfalso;apply hs
      apply dI
      have hl:s.data.toList.length=s.size:=by simp
      apply List.ext_getElem
      · simp;omega
      · intro i hi hi'
        have:i=0:=by simp at hi';exact hi'
        subst this;exact h47
 have C:=aA C;clear hs;go_enter Tryz.func107,Tryz.ntmps107
 go_wp2_with fail
 refine (C.out _).mono ?_;rintro e w1 ⟨⟨v,x,rfl,hp⟩,hb⟩;have HB:=aA hb;have HP:=aA hp;clear hb hp;go_wp2_with fail
 go_ret;refine ⟨eA (a:=(x == 0)) ?_,HB.out⟩;have:=HP.out;unfold jF at this;cases hn:lH s.data.toList with
 | true=>exact beq_iff_eq.2 (this.2 hn)
 | false =>
   rw [beq_eq_false_iff_ne];intro e;rw [this.1 e] at hn;cases hn
theorem Fu (w:World):Calls Tryz.prog 107 #[.string ⟨#[47]⟩] w fun e w'=>e=.returned (.bool true)/\w=w':=by
 go_enter Tryz.func107,Tryz.ntmps107
 go_wp2_with fail
 refine (DD _).mono ?_;rintro e w1 ⟨⟨v,rfl⟩,rfl⟩;go_wp2_with fail
 go_ret;exact ⟨rfl,rfl⟩
theorem rNode_any (s:ByteArray) (hm:s.size<=1000) (w:World):Calls Tryz.prog 51 #[.string s] w fun e w'=>e=.returned (.bool (lH s.data.toList))/\Below w.heap.size w w':=by
 by_cases hs:s=⟨#[47]⟩
 · subst hs
   rw [show lH (⟨#[47]⟩:ByteArray).data.toList=false from rfl];go_enter Tryz.func51,Tryz.ntmps51
   go_wp2_with fail
   refine (Fu _).mono ?_;rintro e w1 ⟨rfl,rfl⟩;go_wp2_with fail
   go_ret;exact ⟨rfl,Below.refl _ _⟩
 · have C:=Fv s hs hm
   have q:(s.toList == [47])=false:=by
    rw [beq_eq_false_iff_ne,Lib.toList_data];intro e;exact hs (dI e)
   obtain ⟨b,hb⟩:∃ b,lH s.data.toList=b:=⟨_,rfl⟩;rw [hb] at C |-
   have C:=aA C;clear hb hs;cases b with
   | true =>
     go_enter Tryz.func51,Tryz.ntmps51
     go_wp2_with fail
     refine (C.out _).mono ?_;rintro e w1 ⟨rfl,hb⟩;have HB:=aA hb;clear hb;go_wp2_with fail
     go_ret;exact ⟨rfl,HB.out⟩
   | false =>
     go_enter Tryz.func51,Tryz.ntmps51
     go_wp2_with fail
     refine (C.out _).mono ?_;rintro e w1 ⟨rfl,hb⟩;have HB:=aA hb;clear hb;go_wp2_with fail
     go_ret;exact ⟨rfl,HB.out⟩
end
section
open Go.RowKit
end
section
open Go.RowKit
end
section
open Go.RowKit
end
section
open Go.RowKit
end
end
end Go.Proofs.YtgfkjkokmcejbaaGreatDoor.Wr
namespace Go.Proofs.YtgfkjkokmcejbaaGreatDoor
open Go.RowKit
section
open Go.RowKit
theorem kU {w:World} {base:Nat} {e:TypeId} {size:Nat} {a:Option Addr} {n c j:Nat} {xs:List Value} {u:Value} (h:w.ownsRow base e size (.slice a n c) n xs) (hj:xs[j]? = some u):∃ g,a=some ⟨g,0,none⟩/\w.cell? ⟨g,j,none⟩=some u:=by
 cases a with
 | none =>
   rcases h.2 with ⟨_,h2⟩ | ⟨g,cap,cur,h1,_⟩
   · have:=h.1
     subst h2;rw [Nat.zero_mul] at this;rw [List.length_eq_zero_iff.1 this] at hj;cases hj
   · cases h1
 | some a =>
   obtain ⟨g,h1,h2⟩:=qB h hj;exact ⟨g,by rw [h1],h2⟩
theorem DS {w:World} {base:Nat} {e:TypeId} {a:Option Addr} {c n:Nat} {xs:List Value} (h:w.ownsRow base e 1 (.slice a n c) n xs):n<=c/\c<=maxLen:=by
 rcases h.2 with ⟨h,_⟩ | ⟨g,cap,cur,h,_,_,h1,h2,_⟩
 · simp only [Value.slice.injEq] at h
   obtain ⟨_,rfl,rfl⟩:=h;exact ⟨Nat.le_refl _,Nat.zero_le _⟩
 · simp only [Value.slice.injEq] at h
   obtain ⟨_,_,rfl⟩:=h;exact ⟨h1,h2⟩
theorem gM {W:World} {base:Nat} {e:TypeId} {size:Nat} {v:Value} {k:Nat} {xs:List Value} (h:W.ownsRow base e size v k xs):∃ a cap,v=.slice a k cap:=by
 rcases h.2 with ⟨rfl,rfl⟩ | ⟨g,cap,_,rfl,_⟩
 · exact ⟨_,_,rfl⟩
 · exact ⟨_,_,rfl⟩
structure QC where
 a1:Option Addr
 c1:Nat
 a2:Option Addr
 c2:Nat
abbrev iK (d:CD) (q:QC):List Value:=[.string d.op,.string d.a.op,.string d.a.nm,.int .i64 d.a.n,.slice q.a1 d.a.ks.len q.c1,.string d.b.op,.string d.b.nm,.int .i64 d.b.n,.slice q.a2 d.b.ks.len q.c2]
def cdL:List CD->List QC->List Value
 | d::r,q::s=>iK d q++cdL r s
 | _,_=>[]
def oB (G:Nat->Prop) (w:World) (l:List CD) (qs:List QC):Prop:=∀ (j:Nat) (d:CD) (q:QC),l[j]? = some d->qs[j]? = some q->aN G w q.a1 d.a.ks/\aN G w q.a2 d.b.ks
theorem Cs:∀ (l:List CD) (q:List QC),∀ u∈cdL l q,u.oneCell'=true
 | [],_,u,h=>by simp [cdL] at h
 | _::_,[],u,h=>by simp [cdL] at h
 | d :: r, p :: s, u, h => by
   rw [cdL] at h;rcases List.mem_append.1 h with h | h
   · simp only [iK,List.mem_cons,List.not_mem_nil,or_false] at h
     rcases h with rfl | rfl | rfl | rfl | rfl | rfl | rfl | rfl | rfl <;> rfl
   · exact Cs r s u h
theorem Ct:∀ (l m:List CD) (q p:List QC),q.length=l.length->cdL (l++m) (q++p)=cdL l q++cdL m p
 | [],m,[],p,_=>rfl
 | [],_,_::_,_,h=>by simp at h
 | _::_,_,[],_,h=>by simp at h
 | d::r,m,q::s,p,h=>by rw [List.cons_append,List.cons_append,cdL,cdL,Ct r m s p (by simpa using h),List.append_assoc]
theorem Gx:∀ (l:List CD) (q:List QC) {k:Nat} {d:CD} (_:q.length=l.length) (_:l[k]? = some d),∃ p,q[k]? = some p/\∀ i u,(iK d p)[i]? = some u->(cdL l q)[k*9+i]? = some u
 | [],_,k,d,_,hk=>by simp at hk
 | _::_,[],k,d,h,_=>by simp at h
 | d :: r, p :: s, 0, d', h, hk => by
   cases hk;refine ⟨p,rfl,fun i u hu=>?_⟩
   have hi:i<9:=by
    have:=(List.getElem?_eq_some_iff.1 hu).1;exact this
   rw [cdL,Nat.zero_mul,Nat.zero_add,List.getElem?_append_left (by simpa [iK] using hi)];exact hu
 | d :: r, p :: s, k + 1, d', h, hk => by
   obtain ⟨p',h1,h2⟩:=Gx r s (k:=k) (d:=d') (by simpa using h) (by simpa using hk);refine ⟨p',by simpa using h1,fun i u hu=>?_⟩;rw [cdL,List.getElem?_append_right (by simp [iK];omega)];have:(k+1)*9+i-(iK d p).length=k*9+i:=by simp [iK];omega
   rw [this];exact h2 i u hu
theorem oB.keptS {S G:Nat->Prop} {w w':World} {l:List CD} {qs:List QC} (h:oB G w l qs) (hk:aD S w w') (hS:∀ k,S k->¬ G k):oB G w' l qs:=fun j d q h1 h2=>⟨(h j d q h1 h2).1.keptS hk hS,(h j d q h1 h2).2.keptS hk hS⟩
theorem oB.imp {G H:Nat->Prop} {w:World} {l:List CD} {qs:List QC} (h:oB G w l qs) (hG:∀ b,b<w.heap.size->G b->H b):oB H w l qs:=fun j d q h1 h2=>⟨(h j d q h1 h2).1.imp hG,(h j d q h1 h2).2.imp hG⟩
theorem oB.snoc {G:Nat->Prop} {w:World} {l:List CD} {qs:List QC} (h:oB G w l qs) (hl:qs.length=l.length) {d:CD} {q:QC} (h1:aN G w q.a1 d.a.ks) (h2:aN G w q.a2 d.b.ks):oB G w (l++[d]) (qs++[q]):=fun j d' q' e1 e2=>by
 rcases Nat.lt_or_ge j l.length with hj | hj
 · rw [List.getElem?_append_left hj] at e1
   rw [List.getElem?_append_left (by omega)] at e2;exact h j d' q' e1 e2
 · rw [List.getElem?_append_right hj] at e1
   rw [List.getElem?_append_right (by omega)] at e2;rw [hl] at e2;cases hm:j-l.length with
   | zero =>
     rw [hm] at e1 e2;cases e1;cases e2;exact ⟨h1,h2⟩
   | succ m=>rw [hm] at e1;simp at e1
theorem xE {G:Nat->Prop} {w:World} {B:Nat} {e:TypeId} {a:Option Addr} {c:Nat} {l:List CD} {qs:List QC} (ho:w.ownsRow B e 9 (.slice a l.length c) l.length (cdL l qs)) (hl:qs.length=l.length) (hk:oB G w l qs) (hG:∀ b,a=some ⟨b,0,none⟩->G b):i1 G w a l:=by
 by_cases hn:l=[]
 · exact .inl hn
 right
 have h0:∃ d,l[0]? = some d:=by
  cases l with
  | nil=>exact absurd rfl hn
  | cons d r=>exact ⟨d,rfl⟩
 obtain ⟨d0,hd0⟩:=h0;obtain ⟨p0, -,hp0⟩:=Gx l qs hl hd0;obtain ⟨g,hg,c0⟩:=kU ho (hp0 0 _ rfl);have hlt:g<w.heap.size:=by have:=World.block_lt_of_cell? w _ c0;simpa using this
 refine ⟨g,0,hg,hG g hg,hlt,fun j d hj=>?_⟩;obtain ⟨p,hp,hc⟩:=Gx l qs hl hj;obtain ⟨k1,k2⟩:=hk j d p hj hp
 have get:∀ i u,(iK d p)[i]? = some u->w.cell? ⟨g,0+j*9+i,none⟩=some u:=fun i u hu=>by
  obtain ⟨g',hg',c⟩:=kU ho (hc i u hu);rw [hg] at hg';cases hg';rw [Nat.zero_add];exact c
 exact ⟨p.a1,p.c1,p.a2,p.c2,⟨get 0 _ rfl,get 1 _ rfl,get 2 _ rfl,get 3 _ rfl,get 4 _ rfl,get 5 _ rfl,get 6 _ rfl,get 7 _ rfl,get 8 _ rfl⟩,k1,k2⟩
abbrev GG (n rb ab:Nat) (wa:Option Addr) (b:Nat):Prop:=n<b/\b ≠ rb/\b ≠ ab/\wa ≠ some ⟨b,0,none⟩
structure GW (w:World) (ts:List Tk) (rb ab:Nat) (a:Option Addr) (c:Nat) (x:AG) (p:PA) (qs:List QC) (s:RS) (V:World):Prop where
 r:PW ts rb a c s V
 b:Below w.heap.size w V
 n:V.heap[ab]? = some (agO x p)
 o:V.heap[w.heap.size]? = some (agO aP aG)
 e:aN (GG w.heap.size rb ab p.wa) V p.ea x.e.ks
 g:aN (GG w.heap.size rb ab p.wa) V p.ga x.g.ks
 own:V.ownsRow (ab+1) 133 9 (.slice p.wa x.wh.length p.wc) x.wh.length (cdL x.wh qs)
 ql:qs.length=x.wh.length
 kd:oB (GG w.heap.size rb ab p.wa) V x.wh qs
 hr:w.heap.size<rb
 ha:rb<ab
 hz:ab<V.heap.size
 tk:ts=[]\/∃ b off,a=some ⟨b,off,none⟩/\w.heap.size<b
theorem mR {L:List Tk} (hL:∀ t∈L,cK t) {s:RS} (hp:jV L.length s) (h:(aZ L s).2.bad=0):s.bad=0/\aT (aZ L s).1=0:=by
 unfold aZ at h |-
 by_cases hb:s.bad=0
 · rw [if_pos hb] at h |-
   cases ho:ofL L s.pos with
   | ok t q=>exact ⟨hb,(DW hL ho).1⟩
   | bad q e =>
     rw [ho] at h;exact absurd h ((rS (hp.1 hb)).2 q e ho).2
 · rw [if_neg hb] at h
   exact absurd h hb
theorem jD {e:Int} (he:¬ e=0) (s:RS):¬ (aM e s).bad=0:=mP e he s
theorem wN {L:List Tk} {x:List UInt8} {s:RS} (h:(aS L x s).bad=0):s.bad=0:=by
 unfold aS at h;by_cases hb:s.bad=0
 · exact hb
 · rw [if_neg hb] at h;exact h
theorem Ns {L:List Tk} {s:RS} (h:(jQ L s).2.bad=0):s.bad=0/\¬ ((jQ L s).1<1\/16<(jQ L s).1):=by
 unfold jQ at h |-
 by_cases hb:s.bad=0
 · rw [if_pos hb] at h |-
   refine ⟨hb,?_⟩;cases ht:L[s.pos]? with
   | none=>rw [ht] at h;exact absurd h (jD (by decide) s)
   | some t =>
     rw [ht] at h;simp only at h |-
     by_cases h2:t.kind=2
     · rw [if_pos h2] at h |-
       simp only at h |-
       by_cases hk:t.num<1\/16<t.num
       · rw [if_pos hk] at h
         exact absurd h (jD (by decide) s)
       · exact hk
     · rw [if_neg h2] at h
       exact absurd h (jD (by decide) s)
 · rw [if_neg hb] at h;exact absurd h hb
theorem MU {L:List Tk} (hL:∀ t∈L,cK t) {fn:List UInt8} {s:RS} (hs:jV L.length s) (h:(bG L fn s).2.bad=0) :
 s.bad=0/\jV L.length (bG L fn s).2/\(fn=dJ->¬ ((bG L fn s).1.1<1\/16<(bG L fn s).1.1))/\(¬ fn=aO->aT (bG L fn s).1.2.1=0)/\(fn=aW->aT (bG L fn s).1.2.2=0):=by
 unfold bG at h |-
 by_cases hc:fn=aO
 · rw [if_pos hc] at h |-
   subst hc;exact ⟨h,hs,fun e=>absurd e (by decide),fun e=>absurd rfl e,fun e=>absurd e (by decide)⟩
 rw [if_neg hc] at h |-
 by_cases ht:fn=dJ
 · subst ht
   have hf:¬ dJ=aW:=by decide
   simp only [if_pos,if_neg hf] at h |-
   have f1:=Nr (L:=L) hs;have f2:=sE (x:=[44]) f1;have e:=mR hL f2 h;have t:=Ns (wN e.1);exact ⟨t.1,mQ f2,fun _=>t.2,fun _=>e.2,fun e=>absurd e hf⟩
 · simp only [if_neg ht] at h |-
   by_cases hf:fn=aW
   · simp only [if_pos hf] at h |-
     have f1:=mQ (L:=L) hs;have f2:=sE (x:=[44]) f1;have e:=mR hL f2 h;have d:=mR hL hs (wN e.1);exact ⟨d.1,mQ f2,fun x=>absurd x ht,fun _=>d.2,fun _=>e.2⟩
   · simp only [if_neg hf] at h |-
     have d:=mR hL hs h;exact ⟨d.1,mQ hs,fun x=>absurd x ht,fun _=>d.2,fun x=>absurd x hf⟩
theorem Oi {L:List Tk} {p:Nat} (h:opB L p=true):(bD ⟨(dW L p).toArray⟩ 0 0).isSome=true:=by
 unfold opB at h;unfold dW;cases ht:L[p]? with
 | none=>rw [ht] at h;cases h
 | some t=>rw [ht] at h;exact h
theorem EJ {L:List Tk} (hL:∀ t∈L,cK t) {s:RS} (hs:jV L.length s) (h:(bV L s).2.bad=0):s.bad=0/\jV L.length (bV L s).2/\gD [(bV L s).1]=0:=by
 unfold bV at h |-
 simp only at h |-
 by_cases hb:(aZ L s).2.bad=0
 · rw [if_pos hb] at h |-
   have f1:=mQ (L:=L) hs;have e:=mR hL hs hb;by_cases ho:opB L (aZ L s).2.pos=true
   · rw [if_pos ho] at h |-
     have f2:=iE f1 (fun _=>Rj ho);have d:=mR hL f2 h;refine ⟨e.1,mQ f2,?_⟩;unfold gD;simp only;rw [if_neg (by rw [Oi ho];decide),if_pos e.2,if_pos d.2];rfl
   · rw [if_neg ho] at h
     exact absurd h (jD (by decide) _)
 · rw [if_neg hb] at h;exact absurd h hb
theorem yX (c:CD):∀ l:List CD,gD l=0->gD [c]=0->gD (l++[c])=0
 | [],_,h=>h
 | d :: l, h, hc => by
   rw [List.cons_append];rw [gD] at h |-
   by_cases h1:(bD d.op 0 0).isSome=false
   · rw [if_pos h1] at h;cases h
   rw [if_neg h1] at h |-
   by_cases h2:aT d.a=0
   · rw [if_pos h2] at h |-
     by_cases h3:aT d.b=0
     · rw [if_pos h3] at h |-;exact yX c l h hc
     · rw [if_neg h3] at h;exact absurd h h3
   · rw [if_neg h2] at h;exact absurd h h2
theorem Bn {L:List Tk} (hL:∀ t∈L,cK t):∀ (f:Nat) (acc:List CD) (s:RS),jV L.length s->(s.bad=0->s.pos<L.length)->acc.length<=4->gD acc=0->(eQ L f acc s).2.bad=0->gD (eQ L f acc s).1=0/\(eQ L f acc s).1.length<=4
 | 0,acc,s,_,_,hl,ha,_=>⟨ha,hl⟩
 | f + 1, acc, s, hs, hp, hl, ha, h => by
   rw [eQ] at h |-
   by_cases h4:acc.length=4
   · rw [if_pos h4] at h
     exact absurd h (jD (by decide) _)
   rw [if_neg h4] at h |-
   simp only at h |-
   have f1:=iE hs hp;by_cases hm:((bV L (aJ s)).2.bad == 0 && dS L lV (bV L (aJ s)).2.pos)=true
   · rw [if_pos hm] at h |-
     simp only [Bool.and_eq_true,beq_iff_eq] at hm;have c:=EJ hL f1 hm.1;exact Bn hL f _ _ c.2.1 (fun _=>By hm.2) (by rw [List.length_append];show acc.length+1<=4;omega) (yX _ _ ha c.2.2) h
   · rw [if_neg hm] at h |-
     have c:=EJ hL f1 h;exact ⟨yX _ _ ha c.2.2,by rw [List.length_append];show acc.length+1<=4;omega⟩
theorem Nb {L:List Tk} (hL:∀ t∈L,cK t) {a:AG} (h:agL L=.ok a):iY a=0:=by
 unfold agL at h;cases h0:L[0]? with
 | none=>rw [h0] at h;cases h
 | some t =>
   rw [h0] at h;have hlen:1<=L.length:=by have:=(List.getElem?_eq_some_iff.1 h0).1;omega
   simp only at h;by_cases hk:t.kind=1
   · rw [if_neg (by simpa using hk)] at h
     cases hf:dX t.text with
     | false=>rw [hf,if_pos rfl] at h;cases h
     | true =>
       rw [hf,if_neg (by decide)] at h;by_cases h1:(aS L [40] ⟨1,0,0,0⟩).bad=0
       · rw [if_neg (by simpa using h1)] at h
         have f1:jV L.length (aS L [40] ⟨1,0,0,0⟩):=sE ⟨fun _=>hlen,Nat.zero_le _⟩;by_cases h2:(aS L [41] (bG L t.text (aS L [40] ⟨1,0,0,0⟩)).2).bad=0
         · rw [if_neg (by simpa using h2)] at h
           obtain ⟨-,f2,a1,a2,a3⟩:=MU hL f1 (wN h2);have f3:=sE (x:=[41]) f2
           have done:∀ wh:List CD,gD wh=0->wh.length<=4->iY ⟨⟨t.text.toArray⟩,(bG L t.text (aS L [40] ⟨1,0,0,0⟩)).1.1,(bG L t.text (aS L [40] ⟨1,0,0,0⟩)).1.2.1,(bG L t.text (aS L [40] ⟨1,0,0,0⟩)).1.2.2,wh⟩=0:=fun wh e1 e2=>by
            have hE:Ey ⟨⟨t.text.toArray⟩,(bG L t.text (aS L [40] ⟨1,0,0,0⟩)).1.1,(bG L t.text (aS L [40] ⟨1,0,0,0⟩)).1.2.1,(bG L t.text (aS L [40] ⟨1,0,0,0⟩)).1.2.2,wh⟩=0:=by
             unfold Ey;simp only;by_cases c1:t.text=aO
             · rw [if_pos c1]
             · rw [if_neg c1,if_pos (a2 c1)]
               by_cases c2:t.text=aW
               · rw [if_pos c2];exact a3 c2
               · rw [if_neg c2]
            unfold iY;simp only;rw [if_neg (by rw [hf];decide),if_neg (fun x=>a1 x.1 x.2),if_pos hE,if_neg (by omega)];exact e1
           by_cases h3:L.length<=(aS L [41] (bG L t.text (aS L [40] ⟨1,0,0,0⟩)).2).pos
           · rw [if_pos h3] at h
             cases h;exact done [] rfl (by simp)
           · rw [if_neg h3] at h
             cases hw:dS L eT (aS L [41] (bG L t.text (aS L [40] ⟨1,0,0,0⟩)).2).pos with
             | false=>rw [hw,if_pos rfl] at h;cases h
             | true =>
               rw [hw,if_neg (by decide)] at h;by_cases h5:(eQ L 5 [] (aS L [41] (bG L t.text (aS L [40] ⟨1,0,0,0⟩)).2)).2.bad=0
               · rw [if_neg (by simpa using h5)] at h
                 have c:=Bn hL 5 [] _ f3 (fun _=>by omega) (by simp) rfl h5;split at h
                 · cases h
                 · cases h
                   exact done _ c.1 c.2
               · rw [if_pos h5] at h;cases h
         · rw [if_pos h2] at h;cases h
       · rw [if_pos h1] at h;cases h
   · rw [if_pos hk] at h;cases h
theorem MZ {l:List UInt8} {a:AG} (h:agX l=.ok a):iY a=0:=by
 unfold agX at h;cases hx:gU l with
 | bad p e=>rw [hx] at h;cases h
 | ok L =>
   rw [hx] at h;simp only at h;cases ha:agL L with
   | bad p e=>rw [ha] at h;cases h
   | ok b =>
     rw [ha] at h;cases h;exact Nb (qI hx) ha
def lS (r:oD) (w0:World) (e:Ending) (w':World):Prop:=Below w0.heap.size w0 w' /\
 match r with
 | .bad p er=>e=.returned (.tuple #[agV aP aG,.int .i64 (p:Nat),.int .i64 er])
 | .ok a=>∃ p,e=.returned (.tuple #[agV a p,.int .i64 0,.int .i64 0])/\bC (fun b=>w0.heap.size<=b) w' a p
def kF (x:AG) (s:RS):oD:=if ¬ s.bad=0 then .bad s.whr s.bad else .ok x
def kE (L:List Tk) (x:AG) (c:List CD×RS):oD:=kF { x with wh:=c.1 } (if c.2.bad=0/\c.2.pos<L.length then aM 2 c.2 else c.2)
def kLo (L:List Tk) (f:Nat) (more:Bool) (acc:List CD) (s:RS):List CD×RS:=if more=true/\s.bad=0 then eQ L f acc s else (acc,s)
def kC (L:List Tk) (x:AG) (s:RS):oD:=if s.bad=0/\s.pos<L.length then kE L x (kLo L 5 true [] (if dS L eT s.pos=true then s else aM 2 s)) else kF x s
def kB (L:List Tk) (x:AG) (s:RS):oD:=kC L x (aS L [41] s)
def kA (L:List Tk) (fn:ByteArray) (s:RS):oD :=
 let s1:=aS L [40] s
 if s1.bad=0 then (let r:=bG L fn.data.toList s1;kB L ⟨fn,r.1.1,r.1.2.1,r.1.2.2,[]⟩ r.2) else kB L ⟨fn,0,aC,aC,[]⟩ s1
theorem uC {x:AG} {s:RS} (h:¬ s.bad=0):kF x s=.bad s.whr s.bad:=if_pos h
theorem L7 {x:AG} {s:RS} (h:s.bad=0):kF x s=.ok x:=if_neg (by simpa using h)
theorem L8 {L:List Tk} {x:AG} {s:RS} (h:¬ s.bad=0):kB L x s=.bad s.whr s.bad:=by
 unfold kB kC;rw [fO h,if_neg (fun k=>h k.1),uC h]
theorem F7 {L:List Tk} {fn:ByteArray} {s:RS} (h:¬ s.bad=0):kA L fn s=.bad s.whr s.bad:=by
 unfold kA;simp only;rw [fO h,if_neg h,L8 h]
theorem F5 {L:List Tk} {f:Nat} {acc:List CD} {s:RS} (h:s.bad=0):kLo L f true acc s=eQ L f acc s:=if_pos ⟨rfl,h⟩
theorem Rp (L:List Tk) (x:AG) (c:List CD×RS):kE L x c=if ¬ c.2.bad=0 then .bad c.2.whr c.2.bad else if c.2.pos<L.length then .bad c.2.pos 2 else .ok { x with wh:=c.1 }:=by
 unfold kE;by_cases h5:c.2.bad=0
 · rw [if_neg (show ¬ ¬ c.2.bad=0 from fun k=>k h5)]
   by_cases h6:c.2.pos<L.length
   · have hD:=And.intro h5 h6
     rw [if_pos h6,if_pos hD,uC (jD (by decide) _)];unfold aM;rw [if_pos h5]
   · rw [if_neg h6,if_neg (show ¬ (c.2.bad=0/\c.2.pos<L.length) from fun k=>h6 k.2),L7 h5]
 · rw [if_pos h5,if_neg (show ¬ (c.2.bad=0/\c.2.pos<L.length) from fun k=>h5 k.1),uC h5]
theorem M9 {L:List Tk} (h:L[0]? = none):agL L=kA L ⟨#[]⟩ (aM 2 ⟨0,0,0,0⟩):=by
 rw [F7 (by decide)];unfold agL;rw [h];rfl
theorem Na {L:List Tk} {t:Tk} (h:L[0]? = some t) (hk:¬ t.kind=1):agL L=kA L ⟨#[]⟩ (aM 2 ⟨0,0,0,0⟩):=by
 rw [F7 (by decide)];unfold agL;rw [h];simp only;rw [if_pos hk];rfl
theorem QW {L:List Tk} {t:Tk} (h:L[0]? = some t) (hk:t.kind=1) (hf:dX t.text=false):agL L=kA L ⟨#[]⟩ (aM 5 ⟨0,0,0,0⟩):=by
 rw [F7 (by decide)];unfold agL;rw [h];simp only;rw [if_neg (fun k=>k hk),if_pos hf];rfl
theorem QV {L:List Tk} {t:Tk} (h:L[0]? = some t) (hk:t.kind=1) (hf:dX t.text=true):agL L=kA L ⟨t.text.toArray⟩ ⟨1,0,0,0⟩:=by
 unfold agL kA;rw [h];simp only;rw [if_neg (fun k=>k hk),if_neg (by rw [hf];decide)];by_cases h1:(aS L [40] ⟨1,0,0,0⟩).bad=0
 · rw [if_neg (fun k=>k h1),if_pos h1]
   unfold kB kC;by_cases h2:(aS L [41] (bG L t.text (aS L [40] ⟨1,0,0,0⟩)).2).bad=0
   · rw [if_neg (fun k=>k h2)]
     by_cases h3:L.length<=(aS L [41] (bG L t.text (aS L [40] ⟨1,0,0,0⟩)).2).pos
     · rw [if_pos h3,if_neg (fun k=>absurd k.2 (by omega)),L7 h2]
     · have hC:(aS L [41] (bG L t.text (aS L [40] ⟨1,0,0,0⟩)).2).bad=0/\(aS L [41] (bG L t.text (aS L [40] ⟨1,0,0,0⟩)).2).pos<L.length:=⟨h2,by omega⟩
       rw [if_neg h3,if_pos hC];cases hw:dS L eT (aS L [41] (bG L t.text (aS L [40] ⟨1,0,0,0⟩)).2).pos with
       | false =>
         rw [if_pos rfl,if_neg (show ¬ (false=true) by decide)];have hb:¬ (aM 2 (aS L [41] (bG L t.text (aS L [40] ⟨1,0,0,0⟩)).2)).bad=0:=jD (by decide) _;unfold kE kLo;rw [if_neg (fun k=>hb k.2)];simp only;rw [if_neg (fun k=>hb k.1),uC hb];unfold aM;rw [if_pos h2]
       | true =>
         rw [if_neg (by decide),if_pos rfl,F5 h2,Rp]
   · rw [if_pos h2,if_neg (fun k=>h2 k.1),uC h2]
 · rw [if_pos h1,if_neg h1,L8 h1]
section
variable {w : World} {ts : List Tk} {rb ab : Nat} {a : Option Addr} {c : Nat} {x : AG} {p : PA} {qs : List QC} {s s' : RS} {V V' : World}
theorem GW.lo (h:GW w ts rb ab a c x p qs s V) {b:Nat} (hb:(Value.slice p.wa x.wh.length p.wc).ownBlock=some b):ab+1<=b:=(h.own.lt b hb).1
theorem GW.sz (h:GW w ts rb ab a c x p qs s V):w.heap.size<V.heap.size:=by have:=h.hr;have:=h.ha;have:=h.hz;omega
theorem GW.step (h:GW w ts rb ab a c x p qs s V) (hp:PW ts rb a c s' V') (hk:aD (· = rb) V V'):GW w ts rb ab a c x p qs s' V':=by
 have h1:=h.hr;have h2:=h.ha;refine ⟨hp,h.b.trans (hk.below (fun b hb=>by omega) (by have:=h.sz;omega)),hk.heap h.n (by omega),hk.heap h.o (by omega),h.e.keptS hk (fun k hk hg=>hg.2.1 hk),h.g.keptS hk (fun k hk hg=>hg.2.1 hk),?_,h.ql,h.kd.keptS hk (fun k hk hg=>hg.2.1 hk),h1,h2,Nat.lt_of_lt_of_le h.hz hk.size,h.tk⟩;exact fG (row:=some rb) h.own (hk.mono (fun i hi _=>by rw [hi])) (fun b hb he=>by have:=h.lo hb;have:=Option.some.inj he;omega)
theorem GW.below (h:GW w ts rb ab a c x p qs s V) (hb:Below V.heap.size V V'):GW w ts rb ab a c x p qs s V':=h.step (h.r.below hb) (aE hb _)
theorem GW.box {y:AG} {q:PA} (h:GW w ts rb ab a c x p qs s V) (hk:aD (· = ab) V V') (hn:V'.heap[ab]? = some (agO y q)) (hw:y.wh=x.wh) (hqa:q.wa=p.wa) (hqc:q.wc=p.wc)
 (he:aN (GG w.heap.size rb ab p.wa) V q.ea y.e.ks) (hg:aN (GG w.heap.size rb ab p.wa) V q.ga y.g.ks):GW w ts rb ab a c y q qs s V':=by
 have h1:=h.hr;have h2:=h.ha;refine ⟨h.r.other hk (by omega),h.b.trans (hk.below (fun b hb=>by omega) (by have:=h.sz;omega)),hn,hk.heap h.o (by omega),by rw [hqa];exact he.keptS hk (fun k hk hg=>hg.2.2.1 hk),by rw [hqa];exact hg.keptS hk (fun k hk hg=>hg.2.2.1 hk),?_,by rw [hw];exact h.ql,?_,h1,h2,Nat.lt_of_lt_of_le h.hz hk.size,h.tk⟩
 · rw [hw,hqa,hqc]
   exact fG (row:=some ab) h.own (hk.mono (fun i hi _=>by rw [hi])) (fun b hb he=>by have:=h.lo hb;have:=Option.some.inj he;omega)
 · rw [hw,hqa]
   exact h.kd.keptS hk (fun k hk hg=>hg.2.2.1 hk)
theorem GW.push (h:GW w ts rb ab a c x p qs s V) {d:CD} {q:QC} {a':Option Addr} {c':Nat} (hk:aD (fun b=>(Value.slice p.wa x.wh.length p.wc).ownBlock=some b) V V')
 (hrow:V'.ownsRow (ab+1) 133 9 (.slice a' (x.wh.length+1) c') (x.wh.length+1) (cdL x.wh qs++iK d q))
 (hnew:∀ b,(Value.slice a' (x.wh.length+1) c').ownBlock=some b->(Value.slice p.wa x.wh.length p.wc).ownBlock=some b\/V.heap.size<=b)
 (h1:aN (GG w.heap.size rb ab p.wa) V q.a1 d.a.ks) (h2:aN (GG w.heap.size rb ab p.wa) V q.a2 d.b.ks) :
 GW w ts rb ab a c { x with wh:=x.wh++[d] } { p with wa:=a',wc:=c' } (qs++[q]) s (V'.setCell ⟨ab,10,none⟩ (.slice a' (x.wh.length+1) c')):=by
 have e1:=h.hr;have e2:=h.ha
 have own:∀ b,(Value.slice p.wa x.wh.length p.wc).ownBlock=some b->p.wa=some ⟨b,0,none⟩:=fun b hb=>by
  rcases h.own.2 with ⟨q1,_⟩ | ⟨g,cap,cur,q1,_⟩
  · rw [q1] at hb;cases hb
  · rw [q1] at hb
    cases hb;simp only [Value.slice.injEq] at q1;exact q1.1
 have own':∀ b,a'=some ⟨b,0,none⟩->(Value.slice a' (x.wh.length+1) c').ownBlock=some b:=fun b hb=>by rw [hb];rfl
 have lo:=fun b hb=>h.lo (b:=b) hb
 have r1:PW ts rb a c s V':=⟨hk.heap h.r.r (fun e=>by have:=lo _ e;omega),h.r.t.kept hk (fun k hk=>by have:=lo k hk;omega),h.r.f⟩;have KS:=(aD.refl (· = ab) V').setCell (p:=⟨ab,10,none⟩) (.inl rfl) (.slice a' (x.wh.length+1) c');have n1:=hk.heap h.n (fun e=>by have:=lo _ e;omega);have len:(x.wh++[d]).length=x.wh.length+1:=by simp
 have hnn:(V'.setCell ⟨ab,10,none⟩ (.slice a' (x.wh.length+1) c')).heap[ab]? = some (agO { x with wh:=x.wh++[d] } { p with wa:=a',wc:=c' }):=by
  have:=heap_setCell_same V' ab 10 _ _ (.slice a' (x.wh.length+1) c') n1;rw [show agO { x with wh:=x.wh++[d] } { p with wa:=a',wc:=c' }=.cells #[.string x.fn,.int .i64 x.k,.string x.e.op,.string x.e.nm,.int .i64 x.e.n,.slice p.ea x.e.ks.len p.ec,.string x.g.op,.string x.g.nm,.int .i64 x.g.n,.slice p.ga x.g.ks.len p.gc,.slice a' (x.wh.length+1) c'] 82 by show Obj.cells #[_,_,_,_,_,_,_,_,_,_,.slice a' (x.wh++[d]).length c'] _=_;rw [len]];simpa using this
 have kd:=h.kd.snoc h.ql h1 h2
 refine ⟨r1.other KS (by omega),(h.b.trans (hk.below (fun b hb=>by have:=lo b hb;omega) (by have:=h.sz;omega))).trans (KS.below (fun b hb=>by omega) (by have:=h.sz;have:=hk.size;omega)),hnn,
  KS.heap (hk.heap h.o (fun e=>by have:=lo _ e;omega)) (by omega),?_,?_,?_,by rw [List.length_append,List.length_append,h.ql];rfl,?_,e1,e2,by rw [World.size_setCell];exact Nat.lt_of_lt_of_le h.hz hk.size,h.tk⟩
 · exact ((h.e.imp (H:=fun b=>GG w.heap.size rb ab p.wa b/\a' ≠ some ⟨b,0,none⟩) (fun b hb hg=>⟨hg,fun e=>by
    rcases hnew b (own' b e) with h | h
    · exact hg.2.2.2 (own b h)
    · omega⟩)).keptS hk (fun k hk hg=>hg.1.2.2.2 (own k hk))).keptS KS (fun k hk hg=>hg.1.2.2.1 hk) |>.imp (fun b _ hg=>⟨hg.1.1,hg.1.2.1,hg.1.2.2.1,hg.2⟩)
 · exact ((h.g.imp (H:=fun b=>GG w.heap.size rb ab p.wa b/\a' ≠ some ⟨b,0,none⟩) (fun b hb hg=>⟨hg,fun e=>by
    rcases hnew b (own' b e) with h | h
    · exact hg.2.2.2 (own b h)
    · omega⟩)).keptS hk (fun k hk hg=>hg.1.2.2.2 (own k hk))).keptS KS (fun k hk hg=>hg.1.2.2.1 hk) |>.imp (fun b _ hg=>⟨hg.1.1,hg.1.2.1,hg.1.2.2.1,hg.2⟩)
 · show (V'.setCell ⟨ab,10,none⟩ (.slice a' (x.wh.length+1) c')).ownsRow (ab+1) 133 9 (.slice a' (x.wh++[d]).length c') (x.wh++[d]).length (cdL (x.wh++[d]) (qs++[q]))
   rw [len,Ct _ _ _ _ h.ql];have e:cdL [d] [q]=iK d q:=by simp [cdL]
   rw [e];exact kT hrow (by omega) _ _
 · exact ((kd.imp (H:=fun b=>GG w.heap.size rb ab p.wa b/\a' ≠ some ⟨b,0,none⟩) (fun b hb hg=>⟨hg,fun e=>by
    rcases hnew b (own' b e) with h | h
    · exact hg.2.2.2 (own b h)
    · omega⟩)).keptS hk (fun k hk hg=>hg.1.2.2.2 (own k hk))).keptS KS (fun k hk hg=>hg.1.2.2.1 hk) |>.imp (fun b _ hg=>⟨hg.1.1,hg.1.2.1,hg.1.2.2.1,hg.2⟩)
end
end
end Go.Proofs.YtgfkjkokmcejbaaGreatDoor
