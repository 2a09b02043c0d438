/-
 No statement: what ProgOrderLift needs, of the texts OW1, OW2, QSup, QOwn, QOk, QGw, QBack, QEval, ZMath, ZOwn, ZBack, Take, QParse, QFew, QLawOf, ZTp, ZParse, ZProg, ZOrder.
-/
import Derived.Test.YtgfkjkokmcejbaaGreatDoorVO5
import Derived.Deep.LoopGhost
import Derived.Shelf.Spec.SlicesInsertGrow
import Derived.Lib.SlicesDelete
import Derived.WalkLawsBesides
import Derived.Lib.ItoaLen
import Derived.Laws.BytesString
import Derived.RangeFuncBox
import Derived.Maps.AppendAt
import Derived.Deep.Slices
import Derived.Deep.Fields
import Derived.ChangeSame
import Derived.RangeFuncNested
import Derived.RangeFuncBound
import Derived.RangeFuncCalls
import Derived.RangeFuncLeaves
import Derived.Shelf.Abstract
import Derived.Shelf.RegionOpen
import Derived.OwnWalkIn
import Derived.TacticsInMore
import Derived.LoopNIn
import Derived.LoopIn
import Derived.Lib.IndexLaws
import Derived.Maps.OwnIn
import Derived.OrdersHeld
import Derived.NoCompiler
import Derived.Deep.DeepCutAuto
import Derived.Deep.CutBlock
set_option maxHeartbeats 40000000
set_option maxRecDepth 100000
namespace Go.Proofs.YtgfkjkokmcejbaaGreatDoor.Wr
open Go.RowKit
section
section
open Go.RowKit
def Cq (w:World) (F F':Nat->Prop):Prop:=∀ k,F' k->F k\/w.heap.size<=k
theorem Cq.refl (w:World) (F:Nat->Prop):Cq w F F:=fun _ h=>Or.inl h
end
section
open Go.RowKit
def fE (m:Nat) (w:World) (T kE vE:TypeId) (p:Nat) (F:Nat->Prop) (ks vs:List Value):Prop :=
 ∃ kv vv, w.heap[p]? = some (.cells #[kv, vv] T (0, 0)) /\ w.ownsRow 0 kE 1 kv ks.length ks /\ w.ownsRow 0 vE m vv ks.length vs /\
   kv.ownBlock ≠ some p/\vv.ownBlock ≠ some p/\(∀ b,kv.ownBlock=some b->vv.ownBlock ≠ some b) /\
   F p/\(∀ b,kv.ownBlock=some b->F b)/\(∀ b,vv.ownBlock=some b->F b)/\(∀ k,F k->k<w.heap.size)
theorem fE.kept {m:Nat} {w w':World} {T kE vE:TypeId} {p:Nat} {F S:Nat->Prop} {ks vs:List Value} (h:fE m w T kE vE p F ks vs) (hk:aC S w w') (hS:∀ k,F k->¬ S k):fE m w' T kE vE p F ks vs:=by
 obtain ⟨kv,vv,h0,h1,h2,d0,d1,d2,f0,f1,f2,f3⟩:=h;exact ⟨kv,vv,hk.heap h0 (hS p f0),hk.owns h1 (fun b hb=>hS b (f1 b hb)),hk.owns h2 (fun b hb=>hS b (f2 b hb)),d0,d1,d2,f0,f1,f2,fun k hf=>Nat.lt_of_lt_of_le (f3 k hf) hk.size⟩
theorem fE.lt {m:Nat} {w:World} {T kE vE:TypeId} {p:Nat} {F:Nat->Prop} {ks vs:List Value} (h:fE m w T kE vE p F ks vs):∀ k,F k->k<w.heap.size:=by
 obtain ⟨kv,vv,h0,h1,h2,d0,d1,d2,f0,f1,f2,f3⟩:=h;exact f3
theorem fE.len {m:Nat} {w:World} {T kE vE:TypeId} {p:Nat} {F:Nat->Prop} {ks vs:List Value} (h:fE m w T kE vE p F ks vs):vs.length=ks.length*m:=by
 obtain ⟨kv,vv,h0,h1,h2,d0,d1,d2,f0,f1,f2,f3⟩:=h;exact h2.1
structure dK (m:Nat) (w:World) (T kE vE:TypeId) (p:Nat) (F:Nat->Prop) (kv vv:Value) (nk nv:Nat) (X Y:List Value):Prop where
 row:w.heap[p]? = some (.cells #[kv,vv] T (0,0))
 k:w.ownsRow 0 kE 1 kv nk X
 v:w.ownsRow 0 vE m vv nv Y
 dk:kv.ownBlock ≠ some p
 dv:vv.ownBlock ≠ some p
 dkv:∀ b,kv.ownBlock=some b->vv.ownBlock ≠ some b
 fp:F p
 fk:∀ b,kv.ownBlock=some b->F b
 fv:∀ b,vv.ownBlock=some b->F b
 lt:∀ k,F k->k<w.heap.size
theorem dK.kept {m:Nat} {w w':World} {T kE vE:TypeId} {p:Nat} {F S:Nat->Prop} {kv vv:Value} {nk nv:Nat} {X Y:List Value} (h:dK m w T kE vE p F kv vv nk nv X Y) (hk:aC S w w') (hS:∀ k,F k->¬ S k):dK m w' T kE vE p F kv vv nk nv X Y :=
 ⟨hk.heap h.row (hS p h.fp),hk.owns h.k (fun b hb=>hS b (h.fk b hb)),hk.owns h.v (fun b hb=>hS b (h.fv b hb)),h.dk,h.dv,h.dkv,h.fp,h.fk,h.fv,fun k hf=>Nat.lt_of_lt_of_le (h.lt k hf) hk.size⟩
end
section
open Go.RowKit
def wF (c:UInt8):Bool:=decide ((c.toNat:Int)<32) || decide (126<(c.toNat:Int)) || decide ((c.toNat:Int)=34)
def GJ (l:List UInt8):Int:=if 64<l.length then 4 else if l.any wF then 2 else 0
def risesB:List Int->Bool
 | a::b::r=>decide (a<b) && risesB (b::r)
 | _=>true
def errL (l:List Int):Int:=if 16<l.length then 4 else if risesB l then 0 else 2
theorem risesB_iff (l:List Int):risesB l=true ↔ ∀ j,j+1<l.length->l.getD j 0<l.getD (j+1) 0:=by
 induction l with
 | nil=>simp [risesB]
 | cons a r ih =>
   cases r with
   | nil=>simp [risesB]
   | cons b r =>
     simp only [risesB,Bool.and_eq_true,decide_eq_true_eq];rw [ih];constructor
     · rintro ⟨h,k⟩ j hj
       cases j with
       | zero=>simpa using h
       | succ j=>simpa using k j (by simpa using hj)
     · intro h
       exact ⟨by simpa using h 0 (by simp),fun j hj=>by simpa using h (j+1) (by simpa using hj)⟩
theorem Ob {s:ByteArray} (h:∀ j (hj:j<s.size),wF s[j]=false):s.data.toList.any wF=false:=by
 rw [List.any_eq_false];intro c hc;obtain ⟨j,hj,rfl⟩:=List.mem_iff_getElem.1 hc;have:=h j (by simpa using hj);intro e;have e':wF s[j]=true:=e;rw [this] at e';cases e'
theorem wI {s:ByteArray} {j:Nat} (hj:j<s.size) (h:wF s[j]=true):s.data.toList.any wF=true:=by
 rw [List.any_eq_true];exact ⟨s[j],List.mem_iff_getElem.2 ⟨j,by simpa using hj,rfl⟩,h⟩
def Reads (w:World) (a:Option Addr) (len:Nat) (z:Nat->Int):Prop :=
 len<=maxLen/\(len=0\/∃ b off,a=some ⟨b,off,none⟩/\∀ j,j<len->w.cell? ⟨b,off+j,none⟩=some (.int .i64 (z j)))
def upTo (z:Nat->Int) (n:Nat):List Int:=(List.range n).map z
theorem AB (z:Nat->Int) (n:Nat):(upTo z n).length=n:=by simp [upTo]
theorem tJ (z:Nat->Int) {n j:Nat} (h:j<n):(upTo z n).getD j 0=z j:=by simp [upTo,List.getD,h]
theorem Reads.kept {w w':World} {a:Option Addr} {len:Nat} {z:Nat->Int} (h:Reads w a len z) (hb:Below w.heap.size w w'):Reads w' a len z:=by
 refine ⟨h.1,?_⟩;rcases h.2 with h0 | ⟨b,off,rfl,hc⟩
 · exact .inl h0
 · exact .inr ⟨b,off,rfl,fun j hj=>(hb.cell (p:=⟨b,off+j,none⟩) (World.block_lt_of_cell? w _ (hc j hj))).trans (hc j hj)⟩
theorem uA {z:Nat->Int} {n:Nat}:risesB (upTo z n)=true ↔ ∀ j,j+1<n->z j<z (j+1):=by
 rw [risesB_iff,AB];exact ⟨fun h j hj=>by have:=h j hj;rwa [tJ z (by omega),tJ z hj] at this,fun h j hj=>by rw [tJ z (by omega),tJ z hj];exact h j hj⟩
def val (k n:Int) (s:ByteArray) (l:Value):Value:=.agg #[.int .i64 k,.int .i64 n,.string s,l]
def errV (k:Int) (s:ByteArray) (len:Nat) (z:Nat->Int):Int:=if k=1 then 0 else if k=2 then GJ s.data.toList else if k=3 then errL (upTo z len) else 7
end
section
open Go.RowKit
structure VC where
 k:Int
 n:Int
 s:ByteArray
 y:Option Addr
 len:Nat
 c:Nat
def VC.cs (v:VC):List Value:=[.int .i64 v.k,.int .i64 v.n,.string v.s,.slice v.y v.len v.c]
theorem j7 {b:Nat} {A W:World} {B:Nat} (h:Below b A W) (hB:b<=B) (v0 v1 v2 v3:Value) :
 Below b A ((((W.setCell ⟨B,0,none⟩ v0).setCell ⟨B,1,none⟩ v1).setCell ⟨B,2,none⟩ v2).setCell ⟨B,3,none⟩ v3) :=
 (((h.setCell (p:=⟨B,0,none⟩) hB v0).setCell (p:=⟨B,1,none⟩) hB v1).setCell (p:=⟨B,2,none⟩) hB v2).setCell (p:=⟨B,3,none⟩) hB v3
end
section
open Go.RowKit
def countB (n:Int):Bool:=decide (0<=n) && decide (n<=1000000000)
end
section
open Go.RowKit
theorem KQ {s:ByteArray} (h:2<=s.size) (c:UInt8):(s.toList == [c])=false:=by
 rw [beq_eq_false_iff_ne,Lib.toList_data];intro e;have hl:s.data.toList.length=s.size:=by simp
 rw [e] at hl;simp at hl;omega
end
section
open Go.RowKit
end
section
open Go.RowKit
structure AD where
 m:ByteArray
 k:Int
 n:Int
 s:ByteArray
 len:Nat
 z:Nat->Int
def jV (w:World) (b o:Nat) (x:AD) (y:Option Addr) (c:Nat):Prop :=
 w.cell? ⟨b,o,none⟩=some (.string x.m)/\w.cell? ⟨b,o+1,none⟩=some (.int .i64 x.k)/\w.cell? ⟨b,o+2,none⟩=some (.int .i64 x.n)/\w.cell? ⟨b,o+3,none⟩=some (.string x.s)/\w.cell? ⟨b,o+4,none⟩=some (.slice y x.len c)
theorem jV.lt {w:World} {b o:Nat} {x:AD} {y:Option Addr} {c:Nat} (h:jV w b o x y c):b<w.heap.size:=by have:=World.block_lt_of_cell? w _ h.1;simpa using this
theorem jV.below {B:Nat} {w w':World} {b o:Nat} {x:AD} {y:Option Addr} {c:Nat} (h:jV w b o x y c) (hb:Below B w w') (hB:b<B):jV w' b o x y c :=
 ⟨(hb.cell (p:=⟨b,_,none⟩) hB).trans h.1,(hb.cell (p:=⟨b,_,none⟩) hB).trans h.2.1,(hb.cell (p:=⟨b,_,none⟩) hB).trans h.2.2.1,(hb.cell (p:=⟨b,_,none⟩) hB).trans h.2.2.2.1,(hb.cell (p:=⟨b,_,none⟩) hB).trans h.2.2.2.2⟩
theorem jV.kept {w w':World} {b o:Nat} {x:AD} {y:Option Addr} {c:Nat} (h:jV w b o x y c) (hb:Below w.heap.size w w'):jV w' b o x y c:=h.below hb h.lt
def ReadsA (w:World) (a:Option Addr) (len:Nat) (A:Nat->AD):Prop :=
 len<=maxLen/\(len=0\/∃ b off,a=some ⟨b,off,none⟩/\∀ j,j<len->∃ y c,jV w b (off+j*5) (A j) y c/\Reads w y (A j).len (A j).z)
theorem ReadsA.kept {w w':World} {a:Option Addr} {len:Nat} {A:Nat->AD} (h:ReadsA w a len A) (hb:Below w.heap.size w w'):ReadsA w' a len A:=by
 refine ⟨h.1,h.2.imp id ?_⟩;rintro ⟨b,off,rfl,hc⟩;refine ⟨b,off,rfl,fun j hj=>?_⟩;obtain ⟨y,c,h5,hr⟩:=hc j hj;exact ⟨y,c,h5.kept hb,hr.kept hb⟩
end
section
open Go.RowKit
def sP (w:World) (len:Nat) (z:Nat->Int) (e:Ending) (w':World):Prop :=
 (∃ a c,e=.returned (.slice a len c)/\Reads w' a len z/\∀ b,a=some b->w.heap.size<=b.block)/\Below w.heap.size w w'
theorem GY:(Tryz.prog.info? 2).map (fun i=>(i.zero,i.size,i.bytes))=some (some (.int .i64 0),1,8):=by kernel_rfl
theorem MG (z:Nat->Int) (len:Nat):∀ u∈(List.range len).map (fun j=>Value.int .i64 (z j)),u.oneCell'=true:=by
 intro u hu;obtain ⟨j,_,rfl⟩:=List.mem_map.1 hu;rfl
theorem Fk {w:World} {base:Nat} {a:Option Addr} {len l c:Nat} {z:Nat->Int} (h:w.ownsRow base 2 1 (.slice a l c) len ((List.range len).map (fun j=>Value.int .i64 (z j)))):l=len/\Reads w a len z/\∀ b,a=some b->base<=b.block:=by
 rcases h.2 with ⟨h,h'⟩ | ⟨g,cap,cur,hv,hb,hg,hnc,hm,_,ht⟩
 · simp only [Value.slice.injEq] at h
   obtain ⟨rfl,rfl,rfl⟩:=h;subst h';exact ⟨rfl,⟨Nat.zero_le _,.inl rfl⟩,fun b hb=>by cases hb⟩
 · simp only [Value.slice.injEq] at hv
   obtain ⟨rfl,rfl,rfl⟩:=hv;refine ⟨rfl,⟨Nat.le_trans hnc hm,.inr ⟨g,0,rfl,fun j hj=>?_⟩⟩,fun b hb'=>by cases hb';exact hb⟩;have hjj:((List.range l).map (fun j=>Value.int .i64 (z j)))[j]? = some (.int .i64 (z j)):=by simp [hj]
   rw [Nat.zero_add,cell_of_row w g j cur _ (0,0) hg];rw [Nat.mul_one] at ht;rw [<- ht,List.getElem?_take,if_pos hj] at hjj;simpa using hjj
theorem sJ (a:Option Addr) (len cap:Nat) (z:Nat->Int) (hl:len<=1000000) (w:World) (hr:Reads w a len z) :
 Calls Tryz.prog 154 #[.slice a len cap] w (sP w len z):=by
 obtain ⟨i0,hi,hz0,hz1,hz2⟩:=info_parts GY;have und:Tryz.prog.underlying 58=some (.slice 2):=Tryz.underlying58;cases a with
 | none =>
   have h0:len=0:=by
    rcases hr.2 with h | ⟨b,off,h,_⟩
    · exact h
    · cases h
   subst h0;have P:=aA (show sP w 0 z (.returned (.slice none 0 0)) w from ⟨⟨none,0,rfl,⟨Nat.zero_le _,.inl rfl⟩,fun b h=>by cases h⟩,Below.refl _ _⟩);clear hr;go_enter Tryz.func154,Tryz.ntmps154
   go_wp2
   rw [Lib.run_eql_slice_nil w _ _ _ _ _ _ _ und];simp only [Result.andThen];rw [Oper.upon_value];go_wp2_with fail
   go_ret;exact P.out
 | some x =>
   have F:=aA (p:=∀ w',Below w.heap.size w w'->Nf w' (.slice (some x) len cap) len ((List.range len).map (fun j=>Value.int .i64 (z j)))) (fun w' hb=>by
    refine .inr ⟨x,cap,rfl,by simp,fun j u hj=>?_⟩;rcases (hr.kept hb).2 with h0 | ⟨b,off,hx,hc⟩
    · subst h0;simp at hj
    · obtain rfl:x=⟨b,off,none⟩:=by simpa using hx
      have hjl:j<len:=by
       rcases Nat.lt_or_ge j len with h | h
       · exact h
       · rw [List.getElem?_eq_none (by simpa using h)] at hj;cases hj
      rw [Addr.add_lit,hc j hjl];simpa [hjl] using hj)
   clear hr;go_enter Tryz.func154,Tryz.ntmps154
   have bA:Below w.heap.size w (w.alloc (.cells #[] 2)):=bA0 _ _;have BA:=aA bA;have OA:=aA (show (w.alloc (.cells #[] 2)).ownsRow w.heap.size 2 1 (.slice (some ⟨w.heap.size,0,none⟩) 0 0) 0 [] from ⟨rfl,.inr ⟨w.heap.size,0,#[],rfl,Nat.le_refl _,heap_alloc_new w _,Nat.le_refl _,Nat.zero_le _,rfl,rfl⟩⟩);clear bA;go_wp2
   rw [Lib.run_eql_slice_nil w _ _ _ _ _ _ _ und];simp only [Result.andThen];rw [Oper.upon_value];go_wp2_with (at_builtin;refine pA rfl _ _ 58 rfl und hi hz0 hz1 hz2 rfl _ _ 0 len [] _ rfl rfl OA.out (F.out _ BA.out) (MG z len) (by unfold maxLen;omega) (by omega) (by simp) ?_)
   intro v' w2 ho hg _
   obtain ⟨va,vl,vc,rfl⟩:∃ a l c,v'=.slice a l c:=by
    rcases ho.2 with ⟨h,_⟩ | ⟨g,cap,_,h,_⟩
    · exact ⟨_,_,_,h⟩
    · exact ⟨_,_,_,h⟩
   obtain ⟨rfl,hrd,hbl⟩:=Fk ho;have P:=aA (show sP w vl z (.returned (.slice va vl vc)) w2 from ⟨⟨va,vc,rfl,hrd,hbl⟩,BA.out.grown hg (by simp) (fun k hk=>by simp [Value.ownBlock] at hk;omega)⟩);clear ho hg hrd hbl;go_wp2
   go_ret;exact P.out
theorem yM (W:World) (B:Nat) (v0 v1 v2 v3:Value):aC (fun k=>k=B) W ((((W.setCell ⟨B,0,none⟩ v0).setCell ⟨B,1,none⟩ v1).setCell ⟨B,2,none⟩ v2).setCell ⟨B,3,none⟩ v3) :=
 ((((aC.refl (fun k=>k=B) W).setCell (S:=fun k=>k=B) (p:=⟨B,0,none⟩) (.inl rfl) v0).setCell (S:=fun k=>k=B) (p:=⟨B,1,none⟩) (.inl rfl) v1).setCell (S:=fun k=>k=B) (p:=⟨B,2,none⟩) (.inl rfl) v2).setCell (S:=fun k=>k=B) (p:=⟨B,3,none⟩) (.inl rfl) v3
theorem Reads.keptS {S:Nat->Prop} {w w':World} {a:Option Addr} {len:Nat} {z:Nat->Int} (h:Reads w a len z) (hk:aC S w w') (hS:∀ b,a=some b->¬ S b.block):Reads w' a len z:=by
 refine ⟨h.1,?_⟩;rcases h.2 with h0 | ⟨b,off,rfl,hc⟩
 · exact .inl h0
 · exact .inr ⟨b,off,rfl,fun j hj=>hk.cell (hc j hj) (show ¬ S b from hS ⟨b,off,none⟩ rfl)⟩
def twN (k n:Int):Int:=if k=1 then n else 0
def twS (k:Int) (s:ByteArray):ByteArray:=if k=2 then s else ⟨#[]⟩
def twL (k:Int) (len:Nat):Nat:=if k=3 then len else 0
def sN (w:World) (k n:Int) (s:ByteArray) (len:Nat) (z:Nat->Int) (e:Ending) (w':World):Prop :=
 (∃ a c,e=.returned (.agg #[.int .i64 k,.int .i64 (twN k n),.string (twS k s),.slice a (twL k len) c])/\(∀ b,a=some b->w.heap.size<=b.block)/\∀ w3,aC (fun b=>b=w.heap.size+1) w' w3->Reads w3 a (twL k len) z)/\Below w.heap.size w w'
theorem rV (w:World) (z:Nat->Int):Reads w none 0 z:=⟨Nat.zero_le _,.inl rfl⟩
theorem nW (w:World) (o1 o2:Obj):Below w.heap.size w ((w.alloc o1).alloc o2)/\((w.alloc o1).alloc o2).heap[w.heap.size]? = some o1/\((w.alloc o1).alloc o2).heap[w.heap.size+1]? = some o2/\((w.alloc o1).alloc o2).heap.size=w.heap.size+2:=by
 refine ⟨(bA0 _ _).alloc (by simp) _,(Below.heap_alloc _ _ _ (by simp)).trans (heap_alloc_new w _),?_,by simp⟩;have:=heap_alloc_new (w.alloc o1) o2;rwa [World.size_alloc] at this
theorem tV (k n:Int) (s:ByteArray) (a:Option Addr) (len cap:Nat) (z:Nat->Int) (hl:len<=1000000) (w:World) (hr:Reads w a len z) :
 Calls Tryz.prog 96 #[.agg #[.int .i64 k,.int .i64 n,.string s,.slice a len cap]] w (sN w k n s len z):=by
 have HB:=aA (nW w (.cells #[.int .i64 k,.int .i64 n,.string s,.slice a len cap] 60) (.cells #[.int .i64 0,.int .i64 0,.string ⟨#[]⟩,.slice none 0 0] 60));have R:=aA hr;clear hr;by_cases h1:k=1
 · subst h1
   have P:=aA (p:=∀ W,Below w.heap.size w W->sN w 1 n s len z (.returned (.agg #[.int .i64 1,.int .i64 n,.string ⟨#[]⟩,.slice none 0 0])) W) (fun W h=>⟨⟨none,0,rfl,(fun b h=>by cases h),fun w3 _=>rV w3 z⟩,h⟩);go_enter Tryz.func96,Tryz.ntmps96
   go_wp2_with fail
   exact bodyPost_ret (v:=.agg #[.int .i64 1,.int .i64 n,.string ⟨#[]⟩,.slice none 0 0]) (by simp [results,Tryz.results96,go_sem]) rfl (P.out _ (nW w _ _).1)
 have q1:(k == 1)=false:=by simpa using h1
 by_cases h2:k=2
 · subst h2
   have P:=aA (p:=∀ W,Below w.heap.size w W->sN w 2 n s len z (.returned (.agg #[.int .i64 2,.int .i64 0,.string s,.slice none 0 0])) W) (fun W h=>⟨⟨none,0,rfl,(fun b h=>by cases h),fun w3 _=>rV w3 z⟩,h⟩);clear h1 q1;go_enter Tryz.func96,Tryz.ntmps96
   go_wp2_with fail
   exact bodyPost_ret (v:=.agg #[.int .i64 2,.int .i64 0,.string s,.slice none 0 0]) (by simp [results,Tryz.results96,go_sem]) rfl (P.out _ (nW w _ _).1)
 have q2:(k == 2)=false:=by simpa using h2
 by_cases h3:k=3
 · subst h3
   clear h1 q1 h2 q2;go_enter Tryz.func96,Tryz.ntmps96
   go_wp2_with fail
   generalize hW:World.alloc (World.alloc w _) _=W;rw [hW] at HB;have hdr:Below W.heap.size W W.drew:=⟨rfl,rfl,rfl,Nat.le_refl _,fun _ _=>rfl⟩;have C:=aA (sJ a len cap z hl W.drew (R.out.kept (HB.out.1.trans ⟨rfl,rfl,rfl,Nat.le_refl _,fun _ _=>rfl⟩)));have hs:=HB.out.2.2.2;obtain ⟨⟨x0,x1,x2,x3⟩, -⟩:=aL HB.out.2.1;clear hW hdr
   go_region_with (first
    | (go_at_call 154
       with_reducible refine C.out.mono ?_
       rintro e w2 ⟨⟨a2,c2,rfl,hr2,hb2⟩,hb⟩;have hz2:=hb.size;have hres:=(hb.block (w.heap.size+1) (by show _<W.heap.size;omega)).trans HB.out.2.2.1;clear x0 x1 x2 x3;obtain ⟨⟨x0,x1,x2,x3⟩, -⟩:=aL ((hb.block w.heap.size (by show _<W.heap.size;omega)).trans HB.out.2.1);obtain ⟨⟨y0,y1,y2,y3⟩,⟨z0,z1,z2,z3⟩⟩:=aL hres;have H2:=aA (And.intro hr2 (And.intro hb2 (HB.out.1.trans ((show Below w.heap.size W W.drew from ⟨rfl,rfl,rfl,Nat.le_refl _,fun _ _=>rfl⟩).trans (hb.mono (by show _<=W.heap.size;omega))))));clear hr2 hb2 hb hres)
    | fail)
   all_goals
    have P:=aA (p:=sN w 3 n s len z (.returned (.agg #[.int .i64 3,.int .i64 0,.string ⟨#[]⟩,.slice a2 len c2])) ((((w2.setCell ⟨w.heap.size+1,0,none⟩ (.int .i64 3)).setCell ⟨w.heap.size+1,1,none⟩ (.int .i64 0)).setCell ⟨w.heap.size+1,2,none⟩ (.string ⟨#[]⟩)).setCell ⟨w.heap.size+1,3,none⟩ (.slice a2 len c2)))
     ⟨⟨a2,c2,rfl,(fun b hb=>by have:=H2.out.2.1 b hb;have hW':W.drew.heap.size=w.heap.size+2:=hs;omega),fun w3 k3=>H2.out.1.keptS ((yM w2 (w.heap.size+1) _ _ _ _).trans k3 (fun _ h _=>h)) (fun b hb h=>by have:=H2.out.2.1 b hb;have h':b.block=w.heap.size+1:=h;have hW':W.drew.heap.size=w.heap.size+2:=hs;omega)⟩,j7 H2.out.2.2 (Nat.le_succ _) _ _ _ _⟩
    go_wp2
    exact bodyPost_ret (v:=.agg #[.int .i64 3,.int .i64 0,.string ⟨#[]⟩,.slice a2 len c2]) (by simp [results,Tryz.results96,go_sem, *]) rfl P.out
 have q3:(k == 3)=false:=by simpa using h3
 have P:=aA (p:=∀ W,Below w.heap.size w W->sN w k n s len z (.returned (.agg #[.int .i64 k,.int .i64 0,.string ⟨#[]⟩,.slice none 0 0])) W) (fun W h=>⟨⟨none,0,by unfold twN twS twL;rw [if_neg h1,if_neg h2,if_neg h3],(fun b h=>by cases h),fun w3 _=>by unfold twL;rw [if_neg h3];exact rV w3 z⟩,h⟩);clear h1 h2 h3;go_enter Tryz.func96,Tryz.ntmps96
 go_wp2_with fail
 exact bodyPost_ret (v:=.agg #[.int .i64 k,.int .i64 0,.string ⟨#[]⟩,.slice none 0 0]) (by simp [results,Tryz.results96,go_sem]) rfl (P.out _ (nW w _ _).1)
end
section
open Go.RowKit
def RO (w:World) (F:Nat->Prop) (e:AD×VC):Prop :=
 e.2.k=e.1.k/\e.2.n=e.1.n/\e.2.s=e.1.s/\e.2.len=e.1.len/\Reads w e.2.y e.1.len e.1.z/\(e.1.len=0\/∀ b,e.2.y=some b->¬ F b.block)
theorem RO.kept {w w':World} {F F' S:Nat->Prop} {e:AD×VC} (h:RO w F e) (hk:aC S w w') (hS:∀ k,S k->k<w.heap.size->F k) (hg:∀ k,F' k->k<w.heap.size->F k):RO w' F' e:=by
 obtain ⟨h1,h2,h3,h4,hr,hF⟩:=h;refine ⟨h1,h2,h3,h4,?_,?_⟩
 · refine ⟨hr.1,?_⟩
   rcases hr.2 with h0 | ⟨b,off,hy,hc⟩
   · exact .inl h0
   · rcases hF with h0 | hF
     · exact .inl h0
     · refine .inr ⟨b,off,hy,fun j hj=>hk.cell (hc j hj) (fun hs=>hF _ hy (hS b hs (by have:=World.block_lt_of_cell? w _ (hc j hj);simpa using this)))⟩
 · rcases hF with h0 | hF
   · exact .inl h0
   · rcases hr.2 with h0 | ⟨b,off,hy,hc⟩
     · exact .inl h0
     · by_cases hl:e.1.len=0
       · exact .inl hl
       · refine .inr fun b' hb' h'=>?_
         rw [hy] at hb';cases hb';exact hF _ hy (hg _ h' (by have:=World.block_lt_of_cell? w _ (hc 0 (by omega));simpa using this))
def twA (x:AD):AD:=⟨x.m,x.k,twN x.k x.n,twS x.k x.s,twL x.k x.len,x.z⟩
end
section
open Go.RowKit
end
section
open Go.RowKit
def twsA (A:Nat->AD) (k:Nat):List AD:=(List.range k).map fun j=>twA (A j)
def RiseA (A:Nat->AD) (n:Nat):Prop:=∀ i j,i<j->j<n->lsS (A i).m (A j).m=true
end
section
open Go.RowKit
end
section
open Go.RowKit
end
section
open Go.RowKit
end
end
section
section
open Go.RowKit
end
section
open Go.RowKit
abbrev tv (l:List UInt8):Value:=.string ⟨l.toArray⟩
end
section
open Go.RowKit
end
section
open Go.RowKit
end
section
open Go.RowKit
end
section
open Go.RowKit
end
section
open Go.RowKit
end
section
open Go.RowKit
end
end
end Go.Proofs.YtgfkjkokmcejbaaGreatDoor.Wr
namespace Go.Proofs.YtgfkjkokmcejbaaGreatDoor
open Go.RowKit
section
open Go.RowKit
theorem iI {w:World} {base:Nat} {e:TypeId} {size:Nat} {a:Option Addr} {n c j:Nat} {xs:List Value} {u:Value} (h:w.ownsRow base e size (.slice a n c) n xs) (hj:xs[j]? = some u):∃ g,a=some ⟨g,0,none⟩/\w.cell? ⟨g,j,none⟩=some u:=by
 cases a with
 | none =>
   rcases h.2 with ⟨_,h2⟩ | ⟨g,cap,cur,h1,_⟩
   · have:=h.1
     subst h2;rw [Nat.zero_mul] at this;rw [List.length_eq_zero_iff.1 this] at hj;cases hj
   · cases h1
 | some a =>
   obtain ⟨g,h1,h2⟩:=n9 h hj;exact ⟨g,by rw [h1],h2⟩
theorem Il {w:World} {base:Nat} {e:TypeId} {a:Option Addr} {c n:Nat} {xs:List Value} (h:w.ownsRow base e 1 (.slice a n c) n xs):n<=c/\c<=maxLen:=by
 rcases h.2 with ⟨h,_⟩ | ⟨g,cap,cur,h,_,_,h1,h2,_⟩
 · simp only [Value.slice.injEq] at h
   obtain ⟨_,rfl,rfl⟩:=h;exact ⟨Nat.le_refl _,Nat.zero_le _⟩
 · simp only [Value.slice.injEq] at h
   obtain ⟨_,_,rfl⟩:=h;exact ⟨h1,h2⟩
theorem eD {W:World} {base:Nat} {e:TypeId} {size:Nat} {v:Value} {k:Nat} {xs:List Value} (h:W.ownsRow base e size v k xs):∃ a cap,v=.slice a k cap:=by
 rcases h.2 with ⟨rfl,rfl⟩ | ⟨g,cap,_,rfl,_⟩
 · exact ⟨_,_,rfl⟩
 · exact ⟨_,_,rfl⟩
structure QC where
 a1:Option Addr
 c1:Nat
 a2:Option Addr
 c2:Nat
abbrev kW (d:CD) (q:QC):List Value:=[.string d.op,.string d.a.op,.string d.a.nm,.int .i64 d.a.n,.slice q.a1 d.a.ks.len q.c1,.string d.b.op,.string d.b.nm,.int .i64 d.b.n,.slice q.a2 d.b.ks.len q.c2]
def cdL:List CD->List QC->List Value
 | d::r,q::s=>kW d q++cdL r s
 | _,_=>[]
def nU (G:Nat->Prop) (w:World) (l:List CD) (qs:List QC):Prop:=∀ (j:Nat) (d:CD) (q:QC),l[j]? = some d->qs[j]? = some q->aQ G w q.a1 d.a.ks/\aQ G w q.a2 d.b.ks
theorem EF:∀ (l:List CD) (q:List QC),∀ u∈cdL l q,u.oneCell'=true
 | [],_,u,h=>by simp [cdL] at h
 | _::_,[],u,h=>by simp [cdL] at h
 | d :: r, p :: s, u, h => by
   rw [cdL] at h;rcases List.mem_append.1 h with h | h
   · simp only [kW,List.mem_cons,List.not_mem_nil,or_false] at h
     rcases h with rfl | rfl | rfl | rfl | rfl | rfl | rfl | rfl | rfl <;> rfl
   · exact EF r s u h
theorem EG:∀ (l m:List CD) (q p:List QC),q.length=l.length->cdL (l++m) (q++p)=cdL l q++cdL m p
 | [],m,[],p,_=>rfl
 | [],_,_::_,_,h=>by simp at h
 | _::_,_,[],_,h=>by simp at h
 | d::r,m,q::s,p,h=>by rw [List.cons_append,List.cons_append,cdL,cdL,EG r m s p (by simpa using h),List.append_assoc]
theorem DN:∀ (l:List CD) (q:List QC) {k:Nat} {d:CD} (_:q.length=l.length) (_:l[k]? = some d),∃ p,q[k]? = some p/\∀ i u,(kW d p)[i]? = some u->(cdL l q)[k*9+i]? = some u
 | [],_,k,d,_,hk=>by simp at hk
 | _::_,[],k,d,h,_=>by simp at h
 | d :: r, p :: s, 0, d', h, hk => by
   cases hk;refine ⟨p,rfl,fun i u hu=>?_⟩
   have hi:i<9:=by
    have:=(List.getElem?_eq_some_iff.1 hu).1;exact this
   rw [cdL,Nat.zero_mul,Nat.zero_add,List.getElem?_append_left (by simpa [kW] using hi)];exact hu
 | d :: r, p :: s, k + 1, d', h, hk => by
   obtain ⟨p',h1,h2⟩:=DN r s (k:=k) (d:=d') (by simpa using h) (by simpa using hk);refine ⟨p',by simpa using h1,fun i u hu=>?_⟩;rw [cdL,List.getElem?_append_right (by simp [kW];omega)];have:(k+1)*9+i-(kW d p).length=k*9+i:=by simp [kW];omega
   rw [this];exact h2 i u hu
theorem nU.keptS {S G:Nat->Prop} {w w':World} {l:List CD} {qs:List QC} (h:nU G w l qs) (hk:aC S w w') (hS:∀ k,S k->¬ G k):nU G w' l qs:=fun j d q h1 h2=>⟨(h j d q h1 h2).1.keptS hk hS,(h j d q h1 h2).2.keptS hk hS⟩
theorem nU.imp {G H:Nat->Prop} {w:World} {l:List CD} {qs:List QC} (h:nU G w l qs) (hG:∀ b,b<w.heap.size->G b->H b):nU H w l qs:=fun j d q h1 h2=>⟨(h j d q h1 h2).1.imp hG,(h j d q h1 h2).2.imp hG⟩
theorem nU.snoc {G:Nat->Prop} {w:World} {l:List CD} {qs:List QC} (h:nU G w l qs) (hl:qs.length=l.length) {d:CD} {q:QC} (h1:aQ G w q.a1 d.a.ks) (h2:aQ G w q.a2 d.b.ks):nU G w (l++[d]) (qs++[q]):=fun j d' q' e1 e2=>by
 rcases Nat.lt_or_ge j l.length with hj | hj
 · rw [List.getElem?_append_left hj] at e1
   rw [List.getElem?_append_left (by omega)] at e2;exact h j d' q' e1 e2
 · rw [List.getElem?_append_right hj] at e1
   rw [List.getElem?_append_right (by omega)] at e2;rw [hl] at e2;cases hm:j-l.length with
   | zero =>
     rw [hm] at e1 e2;cases e1;cases e2;exact ⟨h1,h2⟩
   | succ m=>rw [hm] at e1;simp at e1
theorem CY {G:Nat->Prop} {w:World} {B:Nat} {e:TypeId} {a:Option Addr} {c:Nat} {l:List CD} {qs:List QC} (ho:w.ownsRow B e 9 (.slice a l.length c) l.length (cdL l qs)) (hl:qs.length=l.length) (hk:nU G w l qs) (hG:∀ b,a=some ⟨b,0,none⟩->G b):iD G w a l:=by
 by_cases hn:l=[]
 · exact .inl hn
 right
 have h0:∃ d,l[0]? = some d:=by
  cases l with
  | nil=>exact absurd rfl hn
  | cons d r=>exact ⟨d,rfl⟩
 obtain ⟨d0,hd0⟩:=h0;obtain ⟨p0, -,hp0⟩:=DN l qs hl hd0;obtain ⟨g,hg,c0⟩:=iI ho (hp0 0 _ rfl);have hlt:g<w.heap.size:=by have:=World.block_lt_of_cell? w _ c0;simpa using this
 refine ⟨g,0,hg,hG g hg,hlt,fun j d hj=>?_⟩;obtain ⟨p,hp,hc⟩:=DN l qs hl hj;obtain ⟨k1,k2⟩:=hk j d p hj hp
 have get:∀ i u,(kW d p)[i]? = some u->w.cell? ⟨g,0+j*9+i,none⟩=some u:=fun i u hu=>by
  obtain ⟨g',hg',c⟩:=iI ho (hc i u hu);rw [hg] at hg';cases hg';rw [Nat.zero_add];exact c
 exact ⟨p.a1,p.c1,p.a2,p.c2,⟨get 0 _ rfl,get 1 _ rfl,get 2 _ rfl,get 3 _ rfl,get 4 _ rfl,get 5 _ rfl,get 6 _ rfl,get 7 _ rfl,get 8 _ rfl⟩,k1,k2⟩
theorem lC {L:List Tk} (hL:∀ t∈L,cD t) {s:RS} (hp:i7 L.length s) (h:(a8 L s).2.bad=0):s.bad=0/\aK (a8 L s).1=0:=by
 unfold a8 at h |-
 by_cases hb:s.bad=0
 · rw [if_pos hb] at h |-
   cases ho:ofL L s.pos with
   | ok t q=>exact ⟨hb,(Bs hL ho).1⟩
   | bad q e =>
     rw [ho] at h;exact absurd h ((uO (hp.1 hb)).2 q e ho).2
 · rw [if_neg hb] at h
   exact absurd h hb
theorem nJ {e:Int} (he:¬ e=0) (s:RS):¬ (bV e s).bad=0:=qV e he s
theorem tS {L:List Tk} {x:List UInt8} {s:RS} (h:(bG L x s).bad=0):s.bad=0:=by
 unfold bG at h;by_cases hb:s.bad=0
 · exact hb
 · rw [if_neg hb] at h;exact h
theorem J8 {L:List Tk} {s:RS} (h:(oO L s).2.bad=0):s.bad=0/\¬ ((oO L s).1<1\/16<(oO L s).1):=by
 unfold oO at h |-
 by_cases hb:s.bad=0
 · rw [if_pos hb] at h |-
   refine ⟨hb,?_⟩;cases ht:L[s.pos]? with
   | none=>rw [ht] at h;exact absurd h (nJ (by decide) s)
   | some t =>
     rw [ht] at h;simp only at h |-
     by_cases h2:t.kind=2
     · rw [if_pos h2] at h |-
       simp only at h |-
       by_cases hk:t.num<1\/16<t.num
       · rw [if_pos hk] at h
         exact absurd h (nJ (by decide) s)
       · exact hk
     · rw [if_neg h2] at h
       exact absurd h (nJ (by decide) s)
 · rw [if_neg hb] at h;exact absurd h hb
theorem JH {L:List Tk} (hL:∀ t∈L,cD t) {fn:List UInt8} {s:RS} (hs:i7 L.length s) (h:(dQ L fn s).2.bad=0) :
 s.bad=0/\i7 L.length (dQ L fn s).2/\(fn=eO->¬ ((dQ L fn s).1.1<1\/16<(dQ L fn s).1.1))/\(¬ fn=aT->aK (dQ L fn s).1.2.1=0)/\(fn=bE->aK (dQ L fn s).1.2.2=0):=by
 unfold dQ at h |-
 by_cases hc:fn=aT
 · rw [if_pos hc] at h |-
   subst hc;exact ⟨h,hs,fun e=>absurd e (by decide),fun e=>absurd rfl e,fun e=>absurd e (by decide)⟩
 rw [if_neg hc] at h |-
 by_cases ht:fn=eO
 · subst ht
   have hf:¬ eO=bE:=by decide
   simp only [if_pos,if_neg hf] at h |-
   have f1:=J7 (L:=L) hs;have f2:=pX (x:=[44]) f1;have e:=lC hL f2 h;have t:=J8 (tS e.1);exact ⟨t.1,lB f2,fun _=>t.2,fun _=>e.2,fun e=>absurd e hf⟩
 · simp only [if_neg ht] at h |-
   by_cases hf:fn=bE
   · simp only [if_pos hf] at h |-
     have f1:=lB (L:=L) hs;have f2:=pX (x:=[44]) f1;have e:=lC hL f2 h;have d:=lC hL hs (tS e.1);exact ⟨d.1,lB f2,fun x=>absurd x ht,fun _=>d.2,fun _=>e.2⟩
   · simp only [if_neg hf] at h |-
     have d:=lC hL hs h;exact ⟨d.1,lB hs,fun x=>absurd x ht,fun _=>d.2,fun x=>absurd x hf⟩
theorem KC {L:List Tk} {p:Nat} (h:opB L p=true):(bH ⟨(eM L p).toArray⟩ 0 0).isSome=true:=by
 unfold opB at h;unfold eM;cases ht:L[p]? with
 | none=>rw [ht] at h;cases h
 | some t=>rw [ht] at h;exact h
theorem Ch {L:List Tk} (hL:∀ t∈L,cD t) {s:RS} (hs:i7 L.length s) (h:(dF L s).2.bad=0):s.bad=0/\i7 L.length (dF L s).2/\fD [(dF L s).1]=0:=by
 unfold dF at h |-
 simp only at h |-
 by_cases hb:(a8 L s).2.bad=0
 · rw [if_pos hb] at h |-
   have f1:=lB (L:=L) hs;have e:=lC hL hs hb;by_cases ho:opB L (a8 L s).2.pos=true
   · rw [if_pos ho] at h |-
     have f2:=gJ f1 (fun _=>Np ho);have d:=lC hL f2 h;refine ⟨e.1,lB f2,?_⟩;unfold fD;simp only;rw [if_neg (by rw [KC ho];decide),if_pos e.2,if_pos d.2];rfl
   · rw [if_neg ho] at h
     exact absurd h (nJ (by decide) _)
 · rw [if_neg hb] at h;exact absurd h hb
theorem vP (c:CD):∀ l:List CD,fD l=0->fD [c]=0->fD (l++[c])=0
 | [],_,h=>h
 | d :: l, h, hc => by
   rw [List.cons_append];rw [fD] at h |-
   by_cases h1:(bH d.op 0 0).isSome=false
   · rw [if_pos h1] at h;cases h
   rw [if_neg h1] at h |-
   by_cases h2:aK d.a=0
   · rw [if_pos h2] at h |-
     by_cases h3:aK d.b=0
     · rw [if_pos h3] at h |-;exact vP c l h hc
     · rw [if_neg h3] at h;exact absurd h h3
   · rw [if_neg h2] at h;exact absurd h h2
theorem yS {L:List Tk} (hL:∀ t∈L,cD t):∀ (f:Nat) (acc:List CD) (s:RS),i7 L.length s->(s.bad=0->s.pos<L.length)->acc.length<=4->fD acc=0->(gL L f acc s).2.bad=0->fD (gL L f acc s).1=0/\(gL L f acc s).1.length<=4
 | 0,acc,s,_,_,hl,ha,_=>⟨ha,hl⟩
 | f + 1, acc, s, hs, hp, hl, ha, h => by
   rw [gL] at h |-
   by_cases h4:acc.length=4
   · rw [if_pos h4] at h
     exact absurd h (nJ (by decide) _)
   rw [if_neg h4] at h |-
   simp only at h |-
   have f1:=gJ hs hp;by_cases hm:((dF L (bW s)).2.bad == 0 && eN L mQ (dF L (bW s)).2.pos)=true
   · rw [if_pos hm] at h |-
     simp only [Bool.and_eq_true,beq_iff_eq] at hm;have c:=Ch hL f1 hm.1;exact yS hL f _ _ c.2.1 (fun _=>DY hm.2) (by rw [List.length_append];show acc.length+1<=4;omega) (vP _ _ ha c.2.2) h
   · rw [if_neg hm] at h |-
     have c:=Ch hL f1 h;exact ⟨vP _ _ ha c.2.2,by rw [List.length_append];show acc.length+1<=4;omega⟩
theorem JN {L:List Tk} (hL:∀ t∈L,cD t) {a:AG} (h:agL L=.ok a):fK a=0:=by
 unfold agL at h;cases h0:L[0]? with
 | none=>rw [h0] at h;cases h
 | some t =>
   rw [h0] at h;have hlen:1<=L.length:=by have:=(List.getElem?_eq_some_iff.1 h0).1;omega
   simp only at h;by_cases hk:t.kind=1
   · rw [if_neg (by simpa using hk)] at h
     cases hf:fC t.text with
     | false=>rw [hf,if_pos rfl] at h;cases h
     | true =>
       rw [hf,if_neg (by decide)] at h;by_cases h1:(bG L [40] ⟨1,0,0,0⟩).bad=0
       · rw [if_neg (by simpa using h1)] at h
         have f1:i7 L.length (bG L [40] ⟨1,0,0,0⟩):=pX ⟨fun _=>hlen,Nat.zero_le _⟩;by_cases h2:(bG L [41] (dQ L t.text (bG L [40] ⟨1,0,0,0⟩)).2).bad=0
         · rw [if_neg (by simpa using h2)] at h
           obtain ⟨-,f2,a1,a2,a3⟩:=JH hL f1 (tS h2);have f3:=pX (x:=[41]) f2
           have done:∀ wh:List CD,fD wh=0->wh.length<=4->fK ⟨⟨t.text.toArray⟩,(dQ L t.text (bG L [40] ⟨1,0,0,0⟩)).1.1,(dQ L t.text (bG L [40] ⟨1,0,0,0⟩)).1.2.1,(dQ L t.text (bG L [40] ⟨1,0,0,0⟩)).1.2.2,wh⟩=0:=fun wh e1 e2=>by
            have hE:B9 ⟨⟨t.text.toArray⟩,(dQ L t.text (bG L [40] ⟨1,0,0,0⟩)).1.1,(dQ L t.text (bG L [40] ⟨1,0,0,0⟩)).1.2.1,(dQ L t.text (bG L [40] ⟨1,0,0,0⟩)).1.2.2,wh⟩=0:=by
             unfold B9;simp only;by_cases c1:t.text=aT
             · rw [if_pos c1]
             · rw [if_neg c1,if_pos (a2 c1)]
               by_cases c2:t.text=bE
               · rw [if_pos c2];exact a3 c2
               · rw [if_neg c2]
            unfold fK;simp only;rw [if_neg (by rw [hf];decide),if_neg (fun x=>a1 x.1 x.2),if_pos hE,if_neg (by omega)];exact e1
           by_cases h3:L.length<=(bG L [41] (dQ L t.text (bG L [40] ⟨1,0,0,0⟩)).2).pos
           · rw [if_pos h3] at h
             cases h;exact done [] rfl (by simp)
           · rw [if_neg h3] at h
             cases hw:eN L fQ (bG L [41] (dQ L t.text (bG L [40] ⟨1,0,0,0⟩)).2).pos with
             | false=>rw [hw,if_pos rfl] at h;cases h
             | true =>
               rw [hw,if_neg (by decide)] at h;by_cases h5:(gL L 5 [] (bG L [41] (dQ L t.text (bG L [40] ⟨1,0,0,0⟩)).2)).2.bad=0
               · rw [if_neg (by simpa using h5)] at h
                 have c:=yS hL 5 [] _ f3 (fun _=>by omega) (by simp) rfl h5;split at h
                 · cases h
                 · cases h
                   exact done _ c.1 c.2
               · rw [if_pos h5] at h;cases h
         · rw [if_pos h2] at h;cases h
       · rw [if_pos h1] at h;cases h
   · rw [if_pos hk] at h;cases h
theorem JL {l:List UInt8} {a:AG} (h:agX l=.ok a):fK a=0:=by
 unfold agX at h;cases hx:jY l with
 | bad p e=>rw [hx] at h;cases h
 | ok L =>
   rw [hx] at h;simp only at h;cases ha:agL L with
   | bad p e=>rw [ha] at h;cases h
   | ok b =>
     rw [ha] at h;cases h;exact JN (oD hx) ha
def wN (r:wO) (w0:World) (e:Ending) (w':World):Prop:=Below w0.heap.size w0 w' /\
 match r with
 | .bad p er=>e=.returned (.tuple #[agV cB aR,.int .i64 (p:Nat),.int .i64 er])
 | .ok a=>∃ p,e=.returned (.tuple #[agV a p,.int .i64 0,.int .i64 0])/\aJ (fun b=>w0.heap.size<=b) w' a p
section
variable {w : World} {ts : List Tk} {rb ab : Nat} {a : Option Addr} {c : Nat} {x : AG} {p : PA} {qs : List QC} {s s' : RS} {V V' : World}
end
def LR (c:CD):CD:=⟨c.op,l9 c.a,l9 c.b⟩
def Ap (a:AG):AG:=⟨a.fn,if a.fn.data.toList=eO then a.k else 0,if a.fn.data.toList=aT then aI else l9 a.e,if a.fn.data.toList=bE then l9 a.g else aI,a.wh.map LR⟩
abbrev Co:=Int×List UInt8×Int
def oQ (c:CD):List Co:=aW c.a++(3,c.op.data.toList,0)::aW c.b
def mS:List CD->List Co
 | []=>[]
 | c::r=>(1,mQ,0)::(oQ c++mS r)
def tW:List CD->List Co
 | []=>[]
 | c::r=>(1,fQ,0)::(oQ c++mS r)
def oP (a:AG):List Co :=
 if a.fn.data.toList=aT then [] else
 if a.fn.data.toList=eO then (2,Lib.itoa a.k,a.k)::(3,[44],0)::aW a.e else
 if a.fn.data.toList=bE then aW a.e++(3,[44],0)::aW a.g else aW a.e
def Mm (a:AG):List Co:=(1,a.fn.data.toList,0)::(3,[40],0)::(oP a++(3,[41],0)::tW a.wh)
def iV (x:List UInt8) (cs:List Co):Prop:=∀ r p,∃ ts,ts.map cW=cs/\dH (x++r) p=(dH r (p+x.length)).after ts
def iU (x:List UInt8) (cs:List Co):Prop:=∀ r,jU r->∀ p,∃ ts,ts.map cW=cs/\dH (x++r) p=(dH r (p+x.length)).after ts
theorem iV.s {x:List UInt8} {cs:List Co} (h:iV x cs):iU x cs:=fun r _ p=>h r p
theorem uX:iV [] []:=fun r p=>⟨[],rfl,by rw [sM];rfl⟩
theorem iV.appS {x y:List UInt8} {cs ds:List Co} (h:iV x cs) (k:iU y ds):iU (x++y) (cs++ds):=fun r hr p=>by
 obtain ⟨ts,a1,a2⟩:=h (y++r) p;obtain ⟨us,b1,b2⟩:=k r hr (p+x.length);exact ⟨ts++us,by rw [List.map_append,a1,b1],by rw [List.append_assoc,a2,b2,f9,List.length_append,Nat.add_assoc]⟩
theorem iU.appF {x y:List UInt8} {cs ds:List Co} (h:iU x cs) (k:iV y ds) (hy:∀ r,jU (y++r)):iV (x++y) (cs++ds):=fun r p=>by
 obtain ⟨ts,a1,a2⟩:=h (y++r) (hy r) p;obtain ⟨us,b1,b2⟩:=k r (p+x.length);exact ⟨ts++us,by rw [List.map_append,a1,b1],by rw [List.append_assoc,a2,b2,f9,List.length_append,Nat.add_assoc]⟩
theorem iU.app {x y:List UInt8} {cs ds:List Co} (h:iU x cs) (k:iU y ds) (hy:∀ r,jU r->jU (y++r)):iU (x++y) (cs++ds):=fun r hr p=>by
 obtain ⟨ts,a1,a2⟩:=h (y++r) (hy r hr) p;obtain ⟨us,b1,b2⟩:=k r hr (p+x.length);exact ⟨ts++us,by rw [List.map_append,a1,b1],by rw [List.append_assoc,a2,b2,f9,List.length_append,Nat.add_assoc]⟩
theorem fW {c:UInt8} (h:aZ c=false) (r:List UInt8):jU (c::r):=fun _ _ e=>by cases e;exact h
theorem eV:iV [32] []:=fun r p=>⟨[],rfl,by rw [sM];exact e9 r p⟩
theorem rW {x:List UInt8} (h:bD x=true):iU x [(1,x,0)]:=fun _ hr p=>⟨[⟨1,x,0,p⟩],rfl,BC h hr p⟩
theorem oE (t:TN) (h:OkT t) (hn:cZ t.f):iU (aO t) (aW t):=fun r hr p=>IJ t h hn r hr p
theorem IP {n:Int} (h0:0<=n) (h1:n<=9223372036854775807):iU (Lib.itoa n) [(2,Lib.itoa n,n)]:=fun _ hr p=>⟨[⟨2,Lib.itoa n,n,p⟩],rfl,Es h0 h1 hr p⟩
theorem yB {c:UInt8} (hc:rP c):iV [c] [(3,[c],0)]:=fun r p=>⟨[⟨3,[c],0,p⟩],rfl,nF hc r p⟩
theorem Ld {x:List UInt8} (hx:1<=x.length) (h:∀ r,cL (x++r)=.tok 3 x.length 0) (h32:∀ r,¬ (x++r).head? = some 32):iV x [(3,x,0)]:=fun r p =>
 ⟨[⟨3,x,0,p⟩],rfl,by rw [iF (h32 r) hx (h r),List.drop_left,List.take_left]⟩
theorem uY:iV [44] [(3,[44],0)]:=Ld (by simp) (fun r=>by
 show kK (44::r)=.tok 3 1 0;unfold kK
 have:qH (44::r)=1:=by
  cases r with
  | nil=>rfl
  | cons d t =>
    show (if dJ 44 d=true then 2 else if fP 44=true then 1 else 0)=1;rw [if_neg (by unfold dJ;simp),if_pos (by decide)]
 rw [this];rfl) (fun r=>by simp)
theorem De {o:ByteArray} (h:(bH o 0 0).isSome=true):o.data.toList=[61]\/o.data.toList=[33,61]\/o.data.toList=[60]\/o.data.toList=[60,61]\/o.data.toList=[62]\/o.data.toList=[62,61]:=by
 unfold bH at h;by_cases h0:o=⟨#[61]⟩
 · left;rw [h0]
 rw [if_neg h0] at h;by_cases h1:o=⟨#[33,61]⟩
 · right;left;rw [h1]
 rw [if_neg h1] at h;by_cases h2:o=⟨#[60]⟩
 · right;right;left;rw [h2]
 rw [if_neg h2] at h;by_cases h3:o=⟨#[60,61]⟩
 · right;right;right;left;rw [h3]
 rw [if_neg h3] at h;by_cases h4:o=⟨#[62]⟩
 · right;right;right;right;left;rw [h4]
 rw [if_neg h4] at h;by_cases h5:o=⟨#[62,61]⟩
 · right;right;right;right;right;rw [h5]
 rw [if_neg h5] at h;cases h
theorem Lc {x:List UInt8} (h:x=[61]\/x=[33,61]\/x=[60]\/x=[60,61]\/x=[62]\/x=[62,61]):iV (x++[32]) [(3,x,0)]:=fun r p=>by
 have hf:cL (x++32::r)=.tok 3 x.length 0:=by
  rcases h with rfl | rfl | rfl | rfl | rfl | rfl <;> rfl
 have h32:¬ (x++32::r).head? = some 32:=by
  rcases h with rfl | rfl | rfl | rfl | rfl | rfl <;> simp
 have hx:1<=x.length:=by
  rcases h with rfl | rfl | rfl | rfl | rfl | rfl <;> simp
 refine ⟨[⟨3,x,0,p⟩],rfl,?_⟩;rw [show x++[32]++r=x++32::r by simp,iF h32 hx hf,List.drop_left,List.take_left,e9,List.length_append];rfl
def wL (l:List CD):Prop:=∀ d∈l,cZ d.a.f/\cZ d.b.f
structure fL (a:AG):Prop where
 e:cZ a.e.f
 g:cZ a.g.f
 c:wL a.wh
theorem iB {c:CD} {l:List CD} (h:fD (c::l)=0):(bH c.op 0 0).isSome=true/\aK c.a=0/\aK c.b=0/\fD l=0:=by
 rw [fD] at h;by_cases h1:(bH c.op 0 0).isSome=false
 · rw [if_pos h1] at h;cases h
 rw [if_neg h1] at h;by_cases h2:aK c.a=0
 · rw [if_pos h2] at h
   by_cases h3:aK c.b=0
   · rw [if_pos h3] at h;exact ⟨by cases hx:(bH c.op 0 0).isSome with | true=>rfl | false=>exact absurd hx h1,h2,h3,h⟩
   · rw [if_neg h3] at h;exact absurd h h3
 · rw [if_neg h2] at h;exact absurd h h2
theorem yA {c:CD} {l:List CD} (h:fD (c::l)=0) (hn:cZ c.a.f/\cZ c.b.f):iU (aO c.a++32::(c.op.data.toList++32::aO c.b)) (oQ c):=by
 obtain ⟨h1,h2,h3, -⟩:=iB h;have A:=oE c.a ((cX _).1 h2).1 hn.1;have B:=oE c.b ((cX _).1 h3).1 hn.2;have y:=iV.appS eV (iV.appS (Lc (De h1)) B);have z:=iU.app A y (fun r _=>fW (by decide) _);simpa [oQ] using z
theorem uW:∀ l:List CD,fD l=0->wL l->iU (gQ l) (mS l)
 | [],_,_=>uX.s
 | c :: r, h, hn => by
   have ih:=uW r (iB h).2.2.2 (fun d hd=>hn d (List.mem_cons_of_mem _ hd));have C:=yA h (hn c (List.mem_cons_self ..))
   have stop:∀ q,jU q->jU (gQ r++q):=fun q hq=>by
    cases r with
    | nil=>exact hq
    | cons d t=>exact fW (by decide) _
   have y:=iU.app C ih stop;have n:=iV.appS eV (iU.app (rW (x:=mQ) (by decide)) (iV.appS eV y) (fun q _=>fW (by decide) _));simpa [gQ,mS,mQ] using n
theorem Dn:∀ l:List CD,fD l=0->wL l->iU (mV l) (tW l)
 | [],_,_=>uX.s
 | c :: r, h, hn => by
   have ih:=uW r (iB h).2.2.2 (fun d hd=>hn d (List.mem_cons_of_mem _ hd));have C:=yA h (hn c (List.mem_cons_self ..))
   have stop:∀ q,jU q->jU (gQ r++q):=fun q hq=>by
    cases r with
    | nil=>exact hq
    | cons d t=>exact fW (by decide) _
   have y:=iU.app C ih stop;have n:=iV.appS eV (iU.app (rW (x:=fQ) (by decide)) (iV.appS eV y) (fun q _=>fW (by decide) _));simpa [mV,tW,fQ] using n
theorem Lx {x:List UInt8} (h:fC x=true):bD x=true:=by
 unfold fC at h;simp only [Bool.or_eq_true,beq_iff_eq] at h;rcases h with ((((h | h) | h) | h) | h) | h <;> rw [h] <;> decide
theorem cQ {a:AG} (h:fK a=0):fC a.fn.data.toList=true/\(a.fn.data.toList=eO->1<=a.k/\a.k<=16)/\(¬ a.fn.data.toList=aT->aK a.e=0)/\(a.fn.data.toList=bE->aK a.g=0)/\a.wh.length<=4/\fD a.wh=0:=by
 unfold fK at h;cases hf:fC a.fn.data.toList with
 | false=>rw [hf,if_pos rfl] at h;cases h
 | true =>
   rw [hf,if_neg (by decide)] at h;by_cases h1:a.fn.data.toList=eO/\(a.k<1\/16<a.k)
   · rw [if_pos h1] at h;cases h
   rw [if_neg h1] at h;by_cases h2:B9 a=0
   · rw [if_pos h2] at h
     by_cases h3:4<a.wh.length
     · rw [if_pos h3] at h;cases h
     rw [if_neg h3] at h;refine ⟨rfl,fun e=>?_,fun e=>?_,fun e=>?_,by omega,h⟩
     · have:¬ (a.k<1\/16<a.k):=fun x=>h1 ⟨e,x⟩
       omega
     · unfold B9 at h2
       rw [if_neg e] at h2;by_cases h4:aK a.e=0
       · exact h4
       · rw [if_neg h4] at h2;exact absurd h2 h4
     · have e':¬ a.fn.data.toList=aT:=by rw [e];decide
       unfold B9 at h2;rw [if_neg e'] at h2;by_cases h4:aK a.e=0
       · rw [if_pos h4,if_pos e] at h2;exact h2
       · rw [if_neg h4] at h2;exact absurd h2 h4
   · rw [if_neg h2] at h;exact absurd h h2
theorem Lb {a:AG} (h:fK a=0) (hn:fL a):iU (mC a) (oP a):=by
 obtain ⟨h1,h2,h3,h4,h5,h6⟩:=cQ h;unfold mC oP;by_cases c1:a.fn.data.toList=aT
 · rw [if_pos c1,if_pos c1];exact uX.s
 rw [if_neg c1,if_neg c1];have E:=oE a.e ((cX _).1 (h3 c1)).1 hn.e;by_cases c2:a.fn.data.toList=eO
 · rw [if_pos c2,if_pos c2]
   have hk:=h2 c2;have N:=IP (n:=a.k) (by omega) (by omega);have y:=iU.app N (iV.appS uY (iV.appS eV E)) (fun q _=>fW (by decide) _);simpa using y
 rw [if_neg c2,if_neg c2];by_cases c3:a.fn.data.toList=bE
 · rw [if_pos c3,if_pos c3]
   have G:=oE a.g ((cX _).1 (h4 c3)).1 hn.g;have y:=iU.app E (iV.appS uY (iV.appS eV G)) (fun q _=>fW (by decide) _);simpa using y
 rw [if_neg c3,if_neg c3];exact E
def pV (post:List Co):Prop:=post=[]\/∃ k x v r,post=(k,x,v)::r/\(¬ k=3\/(([42] == x)=false/\([47] == x)=false/\([37] == x)=false/\([43] == x)=false/\([45] == x)=false))
theorem NO {L:List Tk} {q post:List Co} (hL:L.map cW=q++post) (h:pV post):isM L q.length=false/\isA L q.length=false:=by
 rcases h with rfl | ⟨k,x,v,r,rfl,h⟩
 · have:L.length=q.length:=by
    have:=congrArg List.length hL;simpa using this
   exact ⟨Lt (by omega),Lu (by omega)⟩
 · obtain ⟨t,h1,h2,h3, -⟩:=iG hL
   have one:∀ y,(¬ k=3\/(y == x)=false)->isS L y q.length=false:=fun y hy=>by
    unfold isS;rw [h1];simp only;rw [h2,h3];simp only;rcases hy with hk | hy
    · have:(k == 3)=false:=by simpa using hk
      rw [this,Bool.false_and]
    · have:(x == y)=false:=by
       rw [beq_eq_false_iff_ne] at hy |-
       exact fun e=>hy e.symm
      rw [this,Bool.and_false]
   have h':∀ y,(y=[42]\/y=[47]\/y=[37]\/y=[43]\/y=[45])->(¬ k=3\/(y == x)=false):=fun y hy=>by
    rcases h with h | ⟨a,b,c,d,e⟩
    · exact .inl h
    · rcases hy with rfl | rfl | rfl | rfl | rfl
      · exact .inr a
      · exact .inr b
      · exact .inr c
      · exact .inr d
      · exact .inr e
   unfold isM isA;rw [one _ (h' [42] (.inl rfl)),one _ (h' [47] (.inr (.inl rfl))),one _ (h' [37] (.inr (.inr (.inl rfl)))),one _ (h' [43] (.inr (.inr (.inr (.inl rfl))))),one _ (h' [45] (.inr (.inr (.inr (.inr rfl)))))];exact ⟨rfl,rfl⟩
theorem KI {t:TN} (h:aK t=0) (hn:cZ t.f) {L:List Tk} {pre post:List Co} (hL:L.map cW=pre++(aW t++post)) (hp:pV post):ofL L pre.length=.ok (l9 t) (pre.length+(aW t).length):=by
 obtain ⟨ho,hs⟩:=(cX t).1 h;have hr:=Fl t ho hn L pre post hL ⟨pre.length,0,0,0⟩ rfl rfl (by show 0+_<=32;omega);simp only [Nat.zero_add] at hr;obtain ⟨nM,nA⟩:=NO (q:=pre++aW t) (by rw [hL];simp) hp;rw [List.length_append] at nM nA
 have e:pE L .sum ⟨pre.length,0,0,0⟩=(l9 t,⟨pre.length+(aW t).length,aH t,0,0⟩):=by
  rw [Ii,zR,hr];simp only;rw [nD];simp only;rw [if_neg (by rw [nM];decide),tM];simp only;rw [if_neg (by rw [nA];decide)]
 unfold ofL;rw [e];rfl
abbrev rAt (p:Nat):RS:=⟨p,0,0,0⟩
theorem jB {t:TN} (h:aK t=0) (hn:cZ t.f) {L:List Tk} {pre post:List Co} (hL:L.map cW=pre++(aW t++post)) (hp:pV post) {p:Nat} (e:p=pre.length):a8 L (rAt p)=(l9 t,rAt (p+(aW t).length)):=by
 subst e;unfold a8;rw [if_pos rfl];simp only;rw [KI h hn hL hp]
theorem nV {L:List Tk} {pre post:List Co} {x:List UInt8} {v:Int} (hL:L.map cW=pre++(3,x,v)::post) {p:Nat} (e:p=pre.length):bG L x (rAt p)=rAt (p+1):=by
 unfold bG;rw [if_pos rfl,if_pos (by rw [(dP hL e).1];simp)];rfl
theorem KE {o:ByteArray} (h:(bH o 0 0).isSome=true) (v:Int) (r:List Co):pV ((3,o.data.toList,v)::r):=by
 refine .inr ⟨_,_,_,_,rfl,.inr ?_⟩;rcases De h with h | h | h | h | h | h <;> rw [h] <;> decide
theorem nY (c:UInt8) (h:c=41\/c=44) (v:Int) (r:List Co):pV ((3,[c],v)::r):=by
 refine .inr ⟨_,_,_,_,rfl,.inr ?_⟩;rcases h with rfl | rfl <;> decide
theorem DK (l:List CD):pV (mS l):=by
 cases l with
 | nil=>exact .inl rfl
 | cons c r=>exact .inr ⟨_,_,_,_,rfl,.inl (by decide)⟩
theorem GT {c:CD} {l:List CD} (h:fD (c::l)=0) (hn:cZ c.a.f/\cZ c.b.f) {L:List Tk} {pre post:List Co} (hL:L.map cW=pre++(oQ c++post)) (hp:pV post) {p:Nat} (e:p=pre.length):dF L (rAt p)=(LR c,rAt (p+(oQ c).length)):=by
 obtain ⟨h1,h2,h3, -⟩:=iB h;have hL':L.map cW=pre++(aW c.a++(3,c.op.data.toList,0)::(aW c.b++post)):=by rw [hL];simp [oQ]
 have hL1:L.map cW=(pre++aW c.a)++(3,c.op.data.toList,0)::(aW c.b++post):=by rw [hL'];simp
 have hL2:L.map cW=(pre++aW c.a++[(3,c.op.data.toList,0)])++(aW c.b++post):=by rw [hL'];simp
 have q1:p+(aW c.a).length=(pre++aW c.a).length:=by rw [e,List.length_append]
 have q2:p+(aW c.a).length+1=(pre++aW c.a++[(3,c.op.data.toList,0)]).length:=by rw [e];simp;omega
 have oe:=(dP (y:=[]) hL1 q1).2
 have ob:opB L (p+(aW c.a).length)=true:=by
  obtain ⟨t,t1, -,t3, -⟩:=iG hL1;unfold opB;rw [q1,t1];simp only;rw [t3];simp only;rw [lI];exact h1
 unfold dF;simp only;rw [jB h2 hn.1 hL' (KE h1 0 _) e];simp only;rw [if_pos trivial,if_pos ob];have st:bW (rAt (p+(aW c.a).length))=rAt (p+(aW c.a).length+1):=rfl;rw [st,jB h3 hn.2 hL2 hp q2,oe,lI];simp only [oQ,List.length_append,List.length_cons];rw [show p+(aW c.a).length+1+(aW c.b).length=p+((aW c.a).length+((aW c.b).length+1)) by omega];rfl
theorem DZ {L:List Tk} {pre post:List Co} {x:List UInt8} {v:Int} (hL:L.map cW=pre++(1,x,v)::post) {p:Nat} (e:p=pre.length) (y:List UInt8):eN L y p=(x == y):=by
 obtain ⟨t,t1,t2,t3, -⟩:=iG hL;unfold eN;rw [e,t1];simp only;rw [t2,t3];simp
theorem EO {L:List Tk} {p:Nat} (h:L.length<=p) (y:List UInt8):eN L y p=false:=by
 unfold eN;rw [List.getElem?_eq_none h]
theorem vW {L:List Tk}:∀ (l:List CD) (c:CD) (f:Nat) (acc:List CD) (pre:List Co) (x:List UInt8) (p:Nat),fD (c::l)=0->wL (c::l)->acc.length+(l.length+1)<=4->l.length+1<=f ->
 L.map cW=pre++(1,x,0)::(oQ c++mS l)->p=pre.length->gL L f acc (rAt p)=(acc++(c::l).map LR,rAt L.length)
 | l,c,0,acc,pre,x,p,_,_,_,hf,_,_=>by omega
 | l, c, f + 1, acc, pre, x, p, h, hn, ha, hf, hL, e => by
   rw [gL,if_neg (by omega)];have st:bW (rAt p)=rAt (p+1):=rfl;have hL1:L.map cW=(pre++[(1,x,0)])++(oQ c++mS l):=by rw [hL];simp
   have C:=GT h (hn c (List.mem_cons_self ..)) hL1 (DK l) (p:=p+1) (by rw [e];simp);rw [st,C];simp only;cases l with
   | nil =>
     have hlen:L.length=p+1+(oQ c).length:=by
      have:=congrArg List.length hL1;simp [mS] at this;omega
     rw [if_neg (by rw [EO (by omega)];simp),hlen];rfl
   | cons d r =>
     have hL2:L.map cW=(pre++[(1,x,0)]++oQ c)++(1,mQ,0)::(oQ d++mS r):=by rw [hL1];simp [mS]
     have q:p+1+(oQ c).length=(pre++[(1,x,0)]++oQ c).length:=by rw [e];simp;omega
     rw [if_pos (by rw [DZ hL2 q];simp)];rw [vW r d f (acc++[LR c]) _ mQ _ (iB h).2.2.2 (fun y hy=>hn y (List.mem_cons_of_mem _ hy)) (by simp at ha |-;omega) (by simp at hf;omega) hL2 q];simp
theorem Hl {L:List Tk} {pre post:List Co} {x:List UInt8} {k:Int} (hL:L.map cW=pre++(2,x,k)::post) {p:Nat} (e:p=pre.length) (h1:1<=k) (h2:k<=16):oO L (rAt p)=(k,rAt (p+1)):=by
 obtain ⟨t,t1,t2, -,t4⟩:=iG hL;unfold oO;rw [if_pos rfl];simp only;rw [e,t1];simp only;rw [if_pos t2,t4,if_neg (by simp only;omega)];rfl
theorem G4 {a:AG} (h:fK a=0) (hn:fL a) {L:List Tk} {pre post:List Co} (hL:L.map cW=pre++(oP a++(3,[41],0)::post)) {p:Nat} (e:p=pre.length) :
 dQ L a.fn.data.toList (rAt p)=(((Ap a).k,(Ap a).e,(Ap a).g),rAt (p+(oP a).length)):=by
 obtain ⟨h1,h2,h3,h4,h5,h6⟩:=cQ h;unfold dQ Ap oP;unfold oP at hL;simp only;by_cases c1:a.fn.data.toList=aT
 · have c2:¬ a.fn.data.toList=eO:=by rw [c1];decide
   have c3:¬ a.fn.data.toList=bE:=by rw [c1];decide
   rw [if_pos c1,if_neg c2,if_pos c1,if_neg c3,if_pos c1];rfl
 rw [if_neg c1] at hL;rw [if_neg c1,if_neg c1,if_neg c1];by_cases c2:a.fn.data.toList=eO
 · have c3:¬ a.fn.data.toList=bE:=by rw [c2];decide
   rw [if_pos c2] at hL;have hk:=h2 c2;have hL0:L.map cW=pre++(2,Lib.itoa a.k,a.k)::((3,[44],0)::(aW a.e++(3,[41],0)::post)):=by rw [hL];simp
   have hL1:L.map cW=(pre++[(2,Lib.itoa a.k,a.k)])++(3,[44],0)::(aW a.e++(3,[41],0)::post):=by rw [hL];simp
   have hL2:L.map cW=(pre++[(2,Lib.itoa a.k,a.k),(3,[44],0)])++(aW a.e++(3,[41],0)::post):=by rw [hL];simp
   simp only [if_pos c2,if_neg c3];rw [Hl hL0 e hk.1 hk.2];simp only;rw [nV hL1 (by rw [e];simp),jB (h3 c1) hn.e hL2 (nY 41 (.inl rfl) 0 _) (by rw [e];simp)];simp only [List.length_cons];rw [show p+1+1+(aW a.e).length=p+((aW a.e).length+1+1) by omega]
 · rw [if_neg c2] at hL
   simp only [if_neg c2];by_cases c3:a.fn.data.toList=bE
   · rw [if_pos c3] at hL
     have hL0:L.map cW=pre++(aW a.e++(3,[44],0)::(aW a.g++(3,[41],0)::post)):=by rw [hL];simp
     have hL1:L.map cW=(pre++aW a.e)++(3,[44],0)::(aW a.g++(3,[41],0)::post):=by rw [hL];simp
     have hL2:L.map cW=(pre++aW a.e++[(3,[44],0)])++(aW a.g++(3,[41],0)::post):=by rw [hL];simp
     simp only [if_pos c3];rw [jB (h3 c1) hn.e hL0 (nY 44 (.inr rfl) 0 _) e];simp only;rw [nV hL1 (by rw [e];simp),jB (h4 c3) hn.g hL2 (nY 41 (.inl rfl) 0 _) (by rw [e];simp;omega)];simp only [List.length_append,List.length_cons];rw [show p+(aW a.e).length+1+(aW a.g).length=p+((aW a.e).length+((aW a.g).length+1)) by omega]
   · rw [if_neg c3] at hL
     simp only [if_neg c3];rw [jB (h3 c1) hn.e hL (nY 41 (.inl rfl) 0 _) e]
theorem JM {a:AG} (h:fK a=0) (hn:fL a) {L:List Tk} (hL:L.map cW=Mm a):agL L=.ok (Ap a):=by
 obtain ⟨h1,h2,h3,h4,h5,h6⟩:=cQ h;have hL0:L.map cW=[]++(1,a.fn.data.toList,0)::((3,[40],0)::(oP a++(3,[41],0)::tW a.wh)):=hL;have hL1:L.map cW=[(1,a.fn.data.toList,0)]++(3,[40],0)::(oP a++(3,[41],0)::tW a.wh):=hL;have hL2:L.map cW=[(1,a.fn.data.toList,0),(3,[40],0)]++(oP a++(3,[41],0)::tW a.wh):=hL;have hL3:L.map cW=([(1,a.fn.data.toList,0),(3,[40],0)]++oP a)++(3,[41],0)::tW a.wh:=by rw [hL2];simp
 have hlen:L.length=2+(oP a).length+1+(tW a.wh).length:=by
  have:=congrArg List.length hL3;simp at this;omega
 obtain ⟨t,t1,t2,t3, -⟩:=iG hL0;have w1:=nV hL1 (p:=1) rfl;have w2:=G4 h hn hL2 (p:=2) rfl;have w3:=nV hL3 (p:=2+(oP a).length) (by simp;omega);unfold agL;rw [show L[0]? = some t from t1];simp only;rw [t3];simp only;rw [if_neg (by rw [t2];simp),h1,if_neg (by decide),show (⟨1,0,0,0⟩:RS)=rAt 1 from rfl,w1];simp only;rw [if_neg (by simp),show rAt (1+1)=rAt 2 from rfl,w2];simp only;rw [w3,if_neg (by simp),lI];cases hw:a.wh with
 | nil =>
   rw [hw] at hlen;rw [if_pos (by simp only [hlen,tW,List.length_nil];omega)];simp [Ap,hw]
 | cons c r =>
   rw [hw] at hlen hL3 h5 h6;have hn':wL (c::r):=by rw [<- hw];exact hn.c
   have hL4:L.map cW=([(1,a.fn.data.toList,0),(3,[40],0)]++oP a++[(3,[41],0)])++(1,fQ,0)::(oQ c++mS r):=by rw [hL3];simp [tW]
   have q:2+(oP a).length+1=([(1,a.fn.data.toList,0),(3,[40],0)]++oP a++[(3,[41],0)]).length:=by simp;omega
   rw [if_neg (by simp only [hlen,tW,List.length_cons];omega)];simp only;rw [DZ hL4 q,if_neg (by simp),vW r c 5 [] _ fQ _ h6 hn' (by simpa using h5) (by simp at h5;omega) hL4 q];simp only;rw [if_neg (by simp),if_neg (by omega)];simp [Ap,hw]
def dB (g:ByteArray->Option Int):List CD->Bool
 | []=>true
 | c::r=>(match evT g c.a,evT g c.b with | some x,some y=>(bH c.op x y).getD false | _,_=>false) && dB g r
inductive EvR | no | num (n:Int) | list (l:List Int)
structure ES where
 n:Int
 some:Bool
 best:Int
 by':Int
 sum:Int
 top:List Int
def es0:ES:=⟨0,false,0,0,0,[]⟩
def mX (fn:List UInt8) (g:ByteArray->Option Int) (y:TN) (s:ES) (e:Int):ES :=
 if fn=pB then { s with best:=if s.some=false\/e<s.best then e else s.best,some:=true }
 else if fn=rG then { s with best:=if s.some=false\/s.best<e then e else s.best,some:=true }
 else if fn=pY then { s with sum:=dD (s.sum+e),some:=true }
 else if fn=eO then { s with top:=eF lsL s.top e,some:=true }
 else match evT g y with
  | none=>s
  | some b=>if s.some=false\/b<s.by' then { s with best:=e,by':=b,some:=true } else { s with some:=true }
theorem AV (g:ByteArray->Option Int) (y:TN) (s:ES) (e:Int):mX bE g y s e=match evT g y with
 | none=>s
 | some b=>if s.some=false\/b<s.by' then { s with best:=e,by':=b,some:=true } else { s with some:=true }:=by
 unfold mX;rw [if_neg (show ¬ bE=pB by decide),if_neg (show ¬ bE=rG by decide),if_neg (show ¬ bE=pY by decide),if_neg (show ¬ bE=eO by decide)]
def pD (a:AG) (s:ES) (g:ByteArray->Option Int):ES :=
 if dB g a.wh=false then s else
 if a.fn.data.toList=aT then { s with n:=s.n+1 } else
 match evT g a.e with
  | none=>{ s with n:=s.n+1 }
  | some e=>mX a.fn.data.toList g a.g { s with n:=s.n+1 } e
def yQ (a:AG) (s:ES):EvR :=
 if a.fn.data.toList=aT then .num s.n else
 if a.fn.data.toList=pY then .num s.sum else
 if a.fn.data.toList=eO then .list (s.top.drop (s.top.length-a.k.toNat)) else
 if s.some=false then .no else .num s.best
def evG (a:AG) (gs:List (ByteArray->Option Int)):EvR:=yQ a (gs.foldl (pD a) es0)
def gB (a:AG) (gs:List (ByteArray->Option Int)):List (ByteArray->Option Int):=gs.filter (fun g=>dB g a.wh)
def vO (a:AG) (gs:List (ByteArray->Option Int)):List Int:=(gB a gs).filterMap (fun g=>evT g a.e)
def pK (a:AG) (gs:List (ByteArray->Option Int)):List (Int×Int):=(gB a gs).filterMap (fun g=>match evT g a.e,evT g a.g with | some e,some b=>some (e,b) | _,_=>none)
def stB {K:Type} (less:K->K->Bool) (o:Option K) (e:K):Option K:=match o with | none=>some e | some b=>if less e b=true then some e else some b
def aX {K:Type} (less:K->K->Bool) (l:List K):Option K:=l.foldl (stB less) none
theorem pC (a:AG) (g:ByteArray->Option Int) (gs:List (ByteArray->Option Int)):gB a (g::gs)=if dB g a.wh=true then g::gB a gs else gB a gs:=by
 unfold gB;rw [List.filter_cons]
theorem Je (a:AG):∀ (gs:List (ByteArray->Option Int)) (s:ES),(gs.foldl (pD a) s).n=s.n+((gB a gs).length:Int)
 | [],s=>by simp [gB]
 | g :: gs, s => by
   rw [List.foldl_cons,Je a gs,pC];unfold pD;cases h:dB g a.wh with
   | false=>rw [if_pos rfl,if_neg (by decide)]
   | true =>
     rw [if_neg (by decide),if_pos rfl,List.length_cons]
     have:∀ (t:ES),(if a.fn.data.toList=aT then ({ t with n:=t.n+1 }:ES) else match evT g a.e with
      | none=>{ t with n:=t.n+1 }
      | some e=>mX a.fn.data.toList g a.g { t with n:=t.n+1 } e).n=t.n+1:=fun t=>by
      split
      · rfl
      · split
        · rfl
        · unfold mX
          split
          · rfl
          split
          · rfl
          split
          · rfl
          split
          · rfl
          split
          · rfl
          split <;> rfl
     rw [this s];omega
theorem nH {α : Type} (a:AG) (hc:¬ a.fn.data.toList=aT) (f:ES -> α) (h: α -> Int -> α) (hn:∀ (s:ES) (m:Int),f { s with n:=m }=f s)
 (hs:∀ (g:ByteArray->Option Int) (s:ES) (e:Int),f (mX a.fn.data.toList g a.g s e)=h (f s) e):∀ (gs:List (ByteArray->Option Int)) (s:ES),f (gs.foldl (pD a) s)=(vO a gs).foldl h (f s)
 | [],s=>rfl
 | g :: gs, s => by
   rw [List.foldl_cons,nH a hc f h hn hs gs];unfold vO;rw [pC];unfold pD;cases ht:dB g a.wh with
   | false=>rw [if_pos rfl,if_neg (by decide)]
   | true =>
     rw [if_neg (by decide),if_pos rfl,if_neg hc];cases he:evT g a.e with
     | none=>simp only [List.filterMap_cons,he];rw [hn]
     | some e=>simp only [List.filterMap_cons,he,List.foldl_cons];rw [hs,hn]
theorem vK {α : Type} (a:AG) (hc:¬ a.fn.data.toList=aT) (f:ES -> α) (h: α -> Int×Int -> α) (hn:∀ (s:ES) (m:Int),f { s with n:=m }=f s)
 (hs:∀ (g:ByteArray->Option Int) (s:ES) (e:Int),f (mX a.fn.data.toList g a.g s e)=(match evT g a.g with | some b=>h (f s) (e,b) | none=>f s)):∀ (gs:List (ByteArray->Option Int)) (s:ES),f (gs.foldl (pD a) s)=(pK a gs).foldl h (f s)
 | [],s=>rfl
 | g :: gs, s => by
   rw [List.foldl_cons,vK a hc f h hn hs gs];unfold pK;rw [pC];unfold pD;cases ht:dB g a.wh with
   | false=>rw [if_pos rfl,if_neg (by decide)]
   | true =>
     rw [if_neg (by decide),if_pos rfl,if_neg hc];cases he:evT g a.e with
     | none=>simp only [List.filterMap_cons,he];rw [hn]
     | some e =>
       simp only [List.filterMap_cons,he];rw [hs,hn];cases evT g a.g <;> rfl
def Bq (s:ES):Option Int:=if s.some=false then none else some s.best
def KB (s:ES):Option (Int×Int):=if s.some=false then none else some (s.best,s.by')
def lsG (a b:Int):Bool:=decide (b<a)
def lsP (a b:Int×Int):Bool:=decide (a.2<b.2)
theorem sF {a:AG} (h:a.fn.data.toList=aT) (gs:List (ByteArray->Option Int)):evG a gs=.num ((gB a gs).length:Int):=by
 unfold evG yQ;rw [if_pos h,Je];simp [es0]
theorem Ag {a:AG} (h:a.fn.data.toList=pY) (gs:List (ByteArray->Option Int)):evG a gs=.num ((vO a gs).foldl (fun s e=>dD (s+e)) 0):=by
 have hc:¬ a.fn.data.toList=aT:=by rw [h];decide
 unfold evG yQ;rw [if_neg hc,if_pos h,nH a hc (fun s=>s.sum) (fun s e=>dD (s+e)) (fun _ _=>rfl) (fun g s e=>by unfold mX;rw [h];rfl)];rfl
theorem Af {a:AG} (h:a.fn.data.toList=eO) (gs:List (ByteArray->Option Int)):evG a gs=.list (((vO a gs).foldl (eF lsL) []).drop (((vO a gs).foldl (eF lsL) []).length-a.k.toNat)):=by
 have hc:¬ a.fn.data.toList=aT:=by rw [h];decide
 have hs:¬ a.fn.data.toList=pY:=by rw [h];decide
 unfold evG yQ;rw [if_neg hc,if_neg hs,if_pos h,nH a hc (fun s=>s.top) (eF lsL) (fun _ _=>rfl) (fun g s e=>by unfold mX;rw [h];rfl)];rfl
theorem Ae {a:AG} (hc:¬ a.fn.data.toList=aT) (hs:¬ a.fn.data.toList=pY) (ht:¬ a.fn.data.toList=eO) (s:ES):yQ a s=match Bq s with | none=>.no | some n=>.num n:=by
 unfold yQ Bq;rw [if_neg hc,if_neg hs,if_neg ht];cases s.some <;> rfl
theorem Ah {a:AG} (h:a.fn.data.toList=pB) (gs:List (ByteArray->Option Int)):evG a gs=match aX lsL (vO a gs) with | none=>.no | some n=>.num n:=by
 have hc:¬ a.fn.data.toList=aT:=by rw [h];decide
 unfold evG aX
 rw [Ae hc (by rw [h];decide) (by rw [h];decide),nH a hc Bq (stB lsL) (fun _ _=>rfl) (fun g s e=>by
  unfold mX Bq stB;rw [if_pos h];cases hx:s.some with
  | false=>simp
  | true =>
    by_cases hl:e<s.best
    · simp [hl,lsL]
    · simp [hl,lsL])]
 rfl
theorem Ai {a:AG} (h:a.fn.data.toList=rG) (gs:List (ByteArray->Option Int)):evG a gs=match aX lsG (vO a gs) with | none=>.no | some n=>.num n:=by
 have hc:¬ a.fn.data.toList=aT:=by rw [h];decide
 have hm:¬ a.fn.data.toList=pB:=by rw [h];decide
 unfold evG aX
 rw [Ae hc (by rw [h];decide) (by rw [h];decide),nH a hc Bq (stB lsG) (fun _ _=>rfl) (fun g s e=>by
  unfold mX Bq stB;rw [if_neg hm,if_pos h];cases hx:s.some with
  | false=>simp
  | true =>
    by_cases hl:s.best<e
    · simp [hl,lsG]
    · simp [hl,lsG])]
 rfl
theorem sE {a:AG} (h:a.fn.data.toList=bE) (gs:List (ByteArray->Option Int)):evG a gs=match aX lsP (pK a gs) with | none=>.no | some n=>.num n.1:=by
 have hc:¬ a.fn.data.toList=aT:=by rw [h];decide
 have e:∀ s:ES,Bq s=(KB s).map (fun n=>n.1):=fun s=>by unfold Bq KB;cases s.some <;> rfl
 unfold evG aX
 rw [Ae hc (by rw [h];decide) (by rw [h];decide),e,vK a hc KB (stB lsP) (fun _ _=>rfl) (fun g s e=>by
  rw [h,AV];unfold KB stB;cases evT g a.g with
  | none=>rfl
  | some b =>
    simp only;cases hx:s.some with
    | false=>simp
    | true =>
      by_cases hl:b<s.by'
      · simp [hl,lsP]
      · simp [hl,lsP])]
 show (match Option.map (fun n:Int×Int=>n.1) (List.foldl (stB lsP) none (pK a gs)) with | none=>EvR.no | some n=>.num n)=_;cases List.foldl (stB lsP) none (pK a gs) <;> rfl
theorem AH:∀ (l k:List Int),aS lsL k->aS lsL (l.foldl (eF lsL) k)/\∀ x,x∈l.foldl (eF lsL) k ↔ x∈k\/x∈l
 | [],k,h=>⟨h,fun x=>by simp⟩
 | e :: l, k, h => by
   obtain ⟨a,b⟩:=AH l (eF lsL k e) (dO fM h e);refine ⟨a,fun x=>?_⟩;rw [List.foldl_cons,b,jL,List.mem_cons];constructor
   · rintro ((h | h) | h)
     · exact .inl h
     · exact .inr (.inl h)
     · exact .inr (.inr h)
   · rintro (h | h | h)
     · exact .inl (.inl h)
     · exact .inl (.inr h)
     · exact .inr h
structure LN where
 nm:ByteArray
 a:AG
def dV:List UInt8->List (List UInt8)
 | []=>[]
 | c :: r => if c = 10 then [] :: dV r else match dV r with
   | []=>[[c]]
   | x::q=>(c::x)::q
theorem uV {c:UInt8} (h:¬ c=10) {l x:List UInt8} {q:List (List UInt8)} (e:dV l=x::q):dV (c::l)=(c::x)::q:=by
 conv=>lhs;unfold dV
 rw [if_neg h,e]
theorem xX:∀ (x l:List UInt8),(∀ c∈x,¬ c=10)->dV (x++10::l)=x::dV l
 | [],l,_=>rfl
 | c :: x, l, h => by
   rw [List.cons_append];exact uV (h c (by simp)) (xX x l (fun d hd=>h d (by simp [hd])))
theorem uU:∀ (x:List UInt8),¬ x=[]->(∀ c∈x,¬ c=10)->dV x=[x]
 | [],h,_=>absurd rfl h
 | [c], _, h => by
   unfold dV;rw [if_neg (h c (by simp))];rfl
 | c::d::x,_,h=>uV (h c (by simp)) (uU (d::x) (by simp) (fun e he=>h e (by simp [he])))
def nS (c:UInt8):Bool:=c == 32
def fF (c:UInt8):Bool:=c != 32 && c != 61
def j6 (l:List UInt8):Option (List UInt8×List UInt8) :=
 let a:=l.dropWhile nS
 if a.takeWhile fF=[] then none else match (a.dropWhile fF).dropWhile nS with
  | 61::r=>some (a.takeWhile fF,r)
  | _=>none
def dX (x:List UInt8):Bool:=x == [114,101,112] || x == [108,111,97,100] || x == [110] || x == [118,101,114]
inductive EI | bad (p:Nat) (e:Int) | ok (l:List LN)
inductive Cp | bad (e:Int) | ok (x:LN)
def jN (acc:List LN) (s:List UInt8):Cp:=match j6 s with
 | none=>.bad 2
 | some (nm, r) => if bD nm = false \/ dX nm = true then .bad 5 else
   if acc.any (fun x=>x.nm.data.toList == nm)=true then .bad 6 else match agX r with
    | .bad _ e=>.bad e
    | .ok a=>.ok ⟨⟨nm.toArray⟩,a⟩
def gR:List (List UInt8)->List LN->EI
 | [],acc=>.ok acc
 | s :: q, acc => if acc.length = 8 then .bad acc.length 4 else match jN acc s with
   | .bad e=>.bad acc.length e
   | .ok x=>gR q (acc++[x])
def mE (l:List UInt8):EI:=gR (dV l) []
def oY (x:LN):List UInt8:=x.nm.data.toList++32::61::32::(eR x.a++[10])
def oV:List LN->List UInt8
 | []=>[]
 | x::r=>oY x++oV r
theorem Bz {acc:List LN} {s:List UInt8} {e:Int} (hA:∀ (l:List UInt8) (p:Nat) (e:Int),agX l=.bad p e->¬ e=0) (h:jN acc s=.bad e):¬ e=0:=by
 unfold jN at h;split at h
 · cases h;decide
 · split at h
   · cases h;decide
   · split at h
     · cases h;decide
     · split at h
       · rename_i p e' he
         cases h;exact hA _ _ _ he
       · cases h
theorem KZ {acc:List LN} {s:List UInt8} {x:LN} (h:jN acc s=.ok x):∃ r,j6 s=some (x.nm.data.toList,r)/\bD x.nm.data.toList=true/\dX x.nm.data.toList=false/\acc.any (fun y=>y.nm.data.toList == x.nm.data.toList)=false/\agX r=.ok x.a:=by
 unfold jN at h;split at h
 · cases h
 · rename_i nm r e1
   split at h
   · cases h
   · rename_i n2
     split at h
     · cases h
     · rename_i n3
       split at h
       · cases h
       · rename_i a ea
         cases h;refine ⟨r,e1,?_,?_,?_,ea⟩
         · cases hg:bD nm with
           | true=>rfl
           | false=>exact absurd (.inl hg) n2
         · cases hk:dX nm with
           | false=>rfl
           | true=>exact absurd (.inr hk) n2
         · simpa using n3
structure OkP (l:List LN):Prop where
 len:l.length<=8
 nm:∀ x∈l,bD x.nm.data.toList=true/\dX x.nm.data.toList=false
 nd:(l.map (fun x=>x.nm.data.toList)).Nodup
 ag:∀ x∈l,∃ r,agX r=.ok x.a
theorem OkP.snoc {l:List LN} (h:OkP l) (hl:¬ l.length=8) {x:LN} {r:List UInt8} (h1:bD x.nm.data.toList=true) (h2:dX x.nm.data.toList=false) (h3:l.any (fun y=>y.nm.data.toList == x.nm.data.toList)=false) (h4:agX r=.ok x.a):OkP (l++[x]):=by
 refine ⟨by have:=h.len;simp;omega,fun y hy=>?_,?_,fun y hy=>?_⟩
 · rcases List.mem_append.1 hy with hy | hy
   · exact h.nm y hy
   · simp at hy;subst hy;exact ⟨h1,h2⟩
 · rw [List.map_append,List.nodup_append]
   refine ⟨h.nd,by simp,fun a ha b hb e=>?_⟩;simp at hb;subst hb;subst e;obtain ⟨y,hy,e⟩:=List.mem_map.1 ha;have:l.any (fun y=>y.nm.data.toList == x.nm.data.toList)=true:=List.any_eq_true.2 ⟨y,hy,by simpa using e⟩;rw [this] at h3;cases h3
 · rcases List.mem_append.1 hy with hy | hy
   · exact h.ag y hy
   · simp at hy;subst hy;exact ⟨r,h4⟩
theorem Bm:∀ (q:List (List UInt8)) (acc l:List LN),OkP acc->gR q acc=.ok l->OkP l
 | [],acc,l,h,e=>by unfold gR at e;cases e;exact h
 | s :: q, acc, l, h, e => by
   unfold gR at e;split at e
   · cases e
   · rename_i hl
     split at e
     · cases e
     · rename_i x hx
       obtain ⟨r, -,h1,h2,h3,h4⟩:=KZ hx;exact Bm q _ l (h.snoc hl h1 h2 h3 h4) e
theorem KH:OkP []:=⟨by simp,fun _ h=>(nomatch h),by simp,fun _ h=>(nomatch h)⟩
theorem Bl {s:List UInt8} {l:List LN} (h:mE s=.ok l):OkP l:=Bm _ _ _ KH h
abbrev lnL (x:LN) (p:PA):List Value:=[.string x.nm,.string x.a.fn,.int .i64 x.a.k,.string x.a.e.op,.string x.a.e.nm,.int .i64 x.a.e.n,.slice p.ea x.a.e.ks.len p.ec,.string x.a.g.op,.string x.a.g.nm,.int .i64 x.a.g.n,.slice p.ga x.a.g.ks.len p.gc,.slice p.wa x.a.wh.length p.wc]
def mB (w:World) (b o:Nat) (x:LN) (p:PA):Prop :=
 w.cell? ⟨b,o,none⟩=some (.string x.nm)/\w.cell? ⟨b,o+1,none⟩=some (.string x.a.fn)/\w.cell? ⟨b,o+1+1,none⟩=some (.int .i64 x.a.k)/\w.cell? ⟨b,o+1+2,none⟩=some (.string x.a.e.op)/\w.cell? ⟨b,o+1+3,none⟩=some (.string x.a.e.nm)/\w.cell? ⟨b,o+1+4,none⟩=some (.int .i64 x.a.e.n)/\w.cell? ⟨b,o+1+5,none⟩=some (.slice p.ea x.a.e.ks.len p.ec) /\
  w.cell? ⟨b,o+1+6,none⟩=some (.string x.a.g.op)/\w.cell? ⟨b,o+1+7,none⟩=some (.string x.a.g.nm)/\w.cell? ⟨b,o+1+8,none⟩=some (.int .i64 x.a.g.n)/\w.cell? ⟨b,o+1+9,none⟩=some (.slice p.ga x.a.g.ks.len p.gc)/\w.cell? ⟨b,o+1+10,none⟩=some (.slice p.wa x.a.wh.length p.wc)
theorem mB.keptS {S:Nat->Prop} {w w':World} {b o:Nat} {x:LN} {p:PA} (h:mB w b o x p) (hk:aC S w w') (hb:¬ S b):mB w' b o x p:=by
 obtain ⟨h0,h1,h2,h3,h4,h5,h6,h7,h8,h9,h10,h11⟩:=h;exact ⟨hk.cell h0 hb,hk.cell h1 hb,hk.cell h2 hb,hk.cell h3 hb,hk.cell h4 hb,hk.cell h5 hb,hk.cell h6 hb,hk.cell h7 hb,hk.cell h8 hb,hk.cell h9 hb,hk.cell h10 hb,hk.cell h11 hb⟩
theorem DM {w:World} {b o:Nat} {x:LN} {p:PA} (h:∀ i u,(lnL x p)[i]? = some u->w.cell? ⟨b,o+i,none⟩=some u):mB w b o x p :=
 ⟨h 0 _ rfl,h 1 _ rfl,h 2 _ rfl,h 3 _ rfl,h 4 _ rfl,h 5 _ rfl,h 6 _ rfl,h 7 _ rfl,h 8 _ rfl,h 9 _ rfl,h 10 _ rfl,h 11 _ rfl⟩
def cU (G:Nat->Prop) (w:World) (a:Option Addr) (l:List LN):Prop:=l=[]\/∃ b off,a=some ⟨b,off,none⟩/\G b/\b<w.heap.size/\∀ (j:Nat) x,l[j]? = some x->∃ p,mB w b (off+j*12) x p/\aJ G w x.a p
theorem cU.keptS {S G:Nat->Prop} {w w':World} {a:Option Addr} {l:List LN} (h:cU G w a l) (hk:aC S w w') (hS:∀ k,S k->¬ G k):cU G w' a l :=
 Or.imp id (fun ⟨b,off,e,hg,hlt,hc⟩=>⟨b,off,e,hg,Nat.lt_of_lt_of_le hlt hk.size,fun j x hj=>by
  obtain ⟨p,h1,h2⟩:=hc j x hj;exact ⟨p,h1.keptS hk (fun hs=>hS b hs hg),h2.keptS hk hS⟩⟩) h
theorem cU.kept {G:Nat->Prop} {w w':World} {a:Option Addr} {l:List LN} (h:cU G w a l) (hb:Below w.heap.size w w'):cU G w' a l:=h.keptS (S:=fun _=>False) (aE hb _) (fun _ h=>h.elim)
theorem cU.imp {G H:Nat->Prop} {w:World} {a:Option Addr} {l:List LN} (h:cU G w a l) (hG:∀ b,b<w.heap.size->G b->H b):cU H w a l :=
 Or.imp id (fun ⟨b,off,e,hg,hlt,hc⟩=>⟨b,off,e,hG b hlt hg,hlt,fun j x hj=>by
  obtain ⟨p,h1,h2⟩:=hc j x hj;exact ⟨p,h1,h2.imp hG⟩⟩) h
theorem cU.at {G:Nat->Prop} {w:World} {a:Option Addr} {l:List LN} (h:cU G w a l) {j:Nat} {x:LN} (hj:l[j]? = some x):∃ b off p,a=some ⟨b,off,none⟩/\b<w.heap.size/\G b/\mB w b (off+j*12) x p/\aJ G w x.a p:=by
 rcases h with rfl | ⟨b,off,rfl,hG,hl,hc⟩
 · cases hj
 · obtain ⟨p,h1,h2⟩:=hc j x hj
   exact ⟨b,off,p,rfl,hl,hG,h1,h2⟩
def kY:List LN->List PA->List Value
 | x::r,p::s=>lnL x p++kY r s
 | _,_=>[]
def NI (G:Nat->Prop) (w:World) (l:List LN) (ps:List PA):Prop:=∀ (j:Nat) (x:LN) (p:PA),l[j]? = some x->ps[j]? = some p->aJ G w x.a p
theorem Bv:∀ (l:List LN) (q:List PA),∀ u∈kY l q,u.oneCell'=true
 | [],_,u,h=>by simp [kY] at h
 | _::_,[],u,h=>by simp [kY] at h
 | d :: r, p :: s, u, h => by
   rw [kY] at h;rcases List.mem_append.1 h with h | h
   · simp only [lnL,List.mem_cons,List.not_mem_nil,or_false] at h
     rcases h with rfl | rfl | rfl | rfl | rfl | rfl | rfl | rfl | rfl | rfl | rfl | rfl <;> rfl
   · exact Bv r s u h
theorem Bw:∀ (l m:List LN) (q p:List PA),q.length=l.length->kY (l++m) (q++p)=kY l q++kY m p
 | [],m,[],p,_=>rfl
 | [],_,_::_,_,h=>by simp at h
 | _::_,_,[],_,h=>by simp at h
 | d::r,m,q::s,p,h=>by rw [List.cons_append,List.cons_append,kY,kY,Bw r m s p (by simpa using h),List.append_assoc]
theorem zW:∀ (l:List LN) (q:List PA) {k:Nat} {d:LN} (_:q.length=l.length) (_:l[k]? = some d),∃ p,q[k]? = some p/\∀ i u,(lnL d p)[i]? = some u->(kY l q)[k*12+i]? = some u
 | [],_,k,d,_,hk=>by simp at hk
 | _::_,[],k,d,h,_=>by simp at h
 | d :: r, p :: s, 0, d', h, hk => by
   cases hk;refine ⟨p,rfl,fun i u hu=>?_⟩;have hi:i<12:=(List.getElem?_eq_some_iff.1 hu).1;rw [kY,Nat.zero_mul,Nat.zero_add,List.getElem?_append_left (by simpa [lnL] using hi)];exact hu
 | d :: r, p :: s, k + 1, d', h, hk => by
   obtain ⟨p',h1,h2⟩:=zW r s (k:=k) (d:=d') (by simpa using h) (by simpa using hk);refine ⟨p',by simpa using h1,fun i u hu=>?_⟩;rw [kY,List.getElem?_append_right (by simp [lnL];omega)];have:(k+1)*12+i-(lnL d p).length=k*12+i:=by simp [lnL];omega
   rw [this];exact h2 i u hu
theorem CV {G:Nat->Prop} {w:World} {B:Nat} {e:TypeId} {a:Option Addr} {c:Nat} {l:List LN} {qs:List PA} (ho:w.ownsRow B e 12 (.slice a l.length c) l.length (kY l qs)) (hl:qs.length=l.length) (hk:NI G w l qs) (hG:∀ b,a=some ⟨b,0,none⟩->G b):cU G w a l:=by
 by_cases hn:l=[]
 · exact .inl hn
 right
 have h0:∃ d,l[0]? = some d:=by
  cases l with
  | nil=>exact absurd rfl hn
  | cons d r=>exact ⟨d,rfl⟩
 obtain ⟨d0,hd0⟩:=h0;obtain ⟨p0, -,hp0⟩:=zW l qs hl hd0;obtain ⟨g,hg,c0⟩:=iI ho (hp0 0 _ rfl);have hlt:g<w.heap.size:=by have:=World.block_lt_of_cell? w _ c0;simpa using this
 refine ⟨g,0,hg,hG g hg,hlt,fun j d hj=>?_⟩;obtain ⟨p,hp,hc⟩:=zW l qs hl hj;refine ⟨p,DM fun i u hu=>?_,hk j d p hj hp⟩;obtain ⟨g',hg',c⟩:=iI ho (hc i u hu);rw [hg] at hg';cases hg';rw [Nat.zero_add];exact c
def DS (r:EI) (w0:World) (e:Ending) (w':World):Prop:=Below w0.heap.size w0 w'/\match r with
 | .bad p er=>e=.returned (.tuple #[.slice none 0 0,.int .i64 (p:Nat),.int .i64 er])
 | .ok l=>∃ a c,e=.returned (.tuple #[.slice a l.length c,.int .i64 0,.int .i64 0])/\cU (fun b=>w0.heap.size<=b) w' a l
theorem yZ {c:UInt8} (h:aZ c=true):¬ c=10/\¬ c=32/\¬ c=61:=by
 refine ⟨?_,?_,?_⟩ <;> (rintro rfl;revert h;decide)
theorem Ha {a:AG} (h:fK a=0) (hn:fL a) (hl:(eR a).length+1<=1024):agX (32::eR a)=.ok (Ap a):=by
 obtain ⟨h1,h2,h3,h4,h5,h6⟩:=cQ h;have I:=iU.appF (Lb h hn) (yB (c:=41) (.inr (.inl rfl))) (fun r=>xK r);have W:=iV.appS I (Dn a.wh h6 hn.c);have y:=iV.appS eV (iU.app (rW (Lx h1)) (iV.appS (yB (c:=40) (.inl rfl)) W) (fun q _=>fW (by decide) _));obtain ⟨ts,e1,e2⟩:=y [] Hr 0;have e3:(32::eR a)=[32]++(a.fn.data.toList++([40]++(mC a++[41]++mV a.wh))):=by simp [eR]
 have e4:ts.map cW=Mm a:=by rw [e1];simp [Mm]
 rw [List.append_nil,lX, <- e3] at e2;unfold agX jY;rw [if_neg (by simp;omega),e2];simp only [iW.after,List.append_nil];rw [JM h hn e4]
theorem vG {x:List UInt8} (h:bD x=true):∃ c r,x=c::r/\cH c=true/\r.length<=7/\∀ d∈x,aZ d=true:=by
 cases x with
 | nil=>cases h
 | cons c r =>
   simp only [bD,Bool.and_eq_true,decide_eq_true_eq] at h;obtain ⟨⟨h1,h2⟩,h3⟩:=h;refine ⟨c,r,rfl,h1,h2,fun d hd=>?_⟩;rcases List.mem_cons.1 hd with rfl | hd
   · unfold aZ;rw [h1];rfl
   · exact List.all_eq_true.1 h3 d hd
theorem xE {q:UInt8->Bool}:∀ (x:List UInt8) (d:UInt8) (y:List UInt8),(∀ c∈x,q c=true)->q d=false->(x++d::y).takeWhile q=x/\(x++d::y).dropWhile q=d::y
 | [],d,y,_,h=>⟨by rw [List.nil_append,List.takeWhile_cons_of_neg (by simp [h])],by rw [List.nil_append,List.dropWhile_cons_of_neg (by simp [h])]⟩
 | c :: x, d, y, hx, h => by
   have ih:=xE x d y (fun e he=>hx e (by simp [he])) h;rw [List.cons_append,List.takeWhile_cons_of_pos (hx c (by simp)),List.dropWhile_cons_of_pos (hx c (by simp)),ih.1,ih.2];exact ⟨rfl,rfl⟩
theorem yL {x r:List UInt8} (h:bD x=true):j6 (x++32::61::r)=some (x,r):=by
 obtain ⟨c,t,e,h1, -,h3⟩:=vG h
 have hb:nS c=false:=by
  have:=(yZ (h3 c (by rw [e];simp))).2.1;simpa [nS] using this
 have a1:(x++32::61::r).dropWhile nS=x++32::61::r:=by
  rw [e,List.cons_append,List.dropWhile_cons_of_neg (by simp [hb])]
 have a2:=xE (q:=fF) x 32 (61::r) (fun d hd=>by
  obtain ⟨-,n1,n2⟩:=yZ (h3 d hd);simp [fF,n1,n2]) (by decide)
 have a3:(32::61::r).dropWhile nS=61::r:=by
  rw [List.dropWhile_cons_of_pos (by decide),List.dropWhile_cons_of_neg (by decide)]
 unfold j6;simp only;rw [a1,a2.1,a2.2,a3,if_neg (by rw [e];simp)];rfl
end
end Go.Proofs.YtgfkjkokmcejbaaGreatDoor
namespace Go
open Go.RowKit
section
variable {P : Program} {ops : Array Oper} {Q : Exit -> Act -> World -> Prop} {md : Region.Mode} {S : World -> Prop}
theorem aD {i:Nat} {oi:Oper} {d:Option Tmp} {v:Value} {fuel:Nat} {listed:Array Bool} {a:Act} {w:World} (hi:ops[i]? = some oi) (hd:oi.dst=d)
 (hs:Region.noSelect ops=true) (hf:Region.free md ops listed i=true) (hr:(Region.ready md ops listed).contains i=true)
 (hQ:∀ c a w,Q (.panic c) (a.put d v) w->Q (.panic c) a w) (hy:YieldsIf P ops S oi v a) (hS:S w)
 (h:wpAnyH P md ops Q S fuel (listed.setIfInBounds i true) (a.put d v) w):wpAnyH P md ops Q S (fuel+1) listed a w:=by
 subst hd;exact wpAnyH_take hi hs hf hr hQ hy hS h
end
end Go
namespace Go.Proofs.YtgfkjkokmcejbaaGreatDoor
open Go.RowKit
section
open Go.RowKit
def agQ (n:Nat) (L:List Tk):wO->wO
 | .bad p e=>.bad (kC n L p) e
 | .ok a=>.ok a
theorem yV {X:World} {p:Addr} {v:Option Value} (h:X.cell? p=v):X.drew.cell? p=v:=h
theorem Gs {X:World} {B:Nat} {v:Option Obj} (h:X.heap[B]? = v):X.drew.heap[B]? = v:=h
theorem DP {B:Nat} {w w':World} (h:Below B w w'):Below B w w'.drew:=⟨h.os,h.tape,h.output,h.size,h.block⟩
section
variable {w : World} {ts : List Tk} {rb ab : Nat} {a : Option Addr} {c : Nat} {x : AG} {p : PA} {qs : List QC} {s : RS} {V : World}
theorem Ni {w1:World} {n m:Nat} {a:Option Addr} {c:Nat} {ts:List Tk} (h:iC w1 a ts) (hq:∀ q,(Value.slice a m c).ownBlock=some q->n<q):ts=[]\/∃ b off,a=some ⟨b,off,none⟩/\n<b:=by
 rcases h with h | ⟨b,off,e, -, -⟩
 · exact .inl h
 · exact .inr ⟨b,off,e,hq b (by rw [e];rfl)⟩
end
abbrev agP (x:AG) (p:PA):Obj:=.cells (agC x p) 70
structure KP9 (G:Nat->Prop) (w:World) (x:AG) (p:PA) (V:World):Prop where
 b:Below w.heap.size w V
 z:w.heap.size<=V.heap.size
 n:V.heap[w.heap.size]? = some (agP x p)
 r:aJ G V x p
theorem KP9.step {G:Nat->Prop} {w V V':World} {x:AG} {p:PA} (h:KP9 G w x p V) (hb:Below V.heap.size V V'):KP9 G w x p V' :=
 ⟨h.b.trans (hb.mono h.z),Nat.le_trans h.z hb.size,(hb.block _ (aB h.n)).trans h.n,h.r.kept hb⟩
theorem qP {G:Nat->Prop} {w:World} {x:AG} {p:PA} (hr:aJ G w x p):KP9 G w x p (w.alloc (agP x p)) :=
 ⟨bA0 _ _,by rw [World.size_alloc];omega,heap_alloc_new w _,hr.kept (bA0 _ _)⟩
structure SmG (x:AG):Prop where
 e:aH x.e<=1000
 g:aH x.g<=1000
 c:∀ d∈x.wh,aH d.a<=1000/\aH d.b<=1000
 wh:x.wh.length<=1000
section
variable {G : Nat -> Prop} {w : World} {x : AG} {pa p : PA} {X k : Nat} {qs : List QC} {V V' : World}
end
section
variable {G : Nat -> Prop} {w W V : World} {x : AG} {pa : PA} {X : Nat} {a3 a4 : Option Addr} {c3 c4 : Nat}
end
theorem uT:∀ {f:F},MdF f->cZ f
 | .nil,_=>trivial
 | .cons _ _ _ _ _,h=>⟨h.2.1,uT h.2.2.2.1,uT h.2.2.2.2⟩
def iK (t:TN):Prop:=aH t<=32/\SzF t.f/\cZ t.f
theorem gX:iK aI:=⟨by decide,by simp [aI,TN.f,SzF,F.len,ByteArray.size],by simp [aI,TN.f,cZ]⟩
theorem Ip {L:List Tk} (hL:∀ t∈L,cD t) {p q:Nat} {t:TN} (h:ofL L p=.ok t q):iK t:=⟨(Bs hL h).2,ID (Br hL h),uT (Br hL h)⟩
theorem iA {L:List Tk} (hL:∀ t∈L,cD t) (s:RS):iK (a8 L s).1:=by
 unfold a8;split
 · cases ho:ofL L s.pos with
   | ok t q=>exact Ip hL ho
   | bad q e=>exact gX
 · exact gX
theorem oN {L:List Tk} (hL:∀ t∈L,cD t) (fn:List UInt8) (s:RS):iK (dQ L fn s).1.2.1/\iK (dQ L fn s).1.2.2:=by
 unfold dQ;split
 · exact ⟨gX,gX⟩
 · simp only
   split
   · exact ⟨iA hL _,iA hL _⟩
   · exact ⟨iA hL _,gX⟩
theorem GU {L:List Tk} (hL:∀ t∈L,cD t) (s:RS):iK (dF L s).1.a/\iK (dF L s).1.b:=by
 unfold dF;simp only;split
 · split
   · exact ⟨iA hL _,iA hL _⟩
   · exact ⟨iA hL _,gX⟩
 · exact ⟨iA hL _,gX⟩
theorem vX {L:List Tk} (hL:∀ t∈L,cD t):∀ (f:Nat) (acc:List CD) (s:RS),(∀ d∈acc,iK d.a/\iK d.b)->∀ d∈(gL L f acc s).1,iK d.a/\iK d.b
 | 0,acc,s,h=>h
 | f + 1, acc, s, h => by
   have h2:∀ d∈acc++[(dF L (bW s)).1],iK d.a/\iK d.b:=fun d hd=>by
    rcases List.mem_append.1 hd with hd | hd
    · exact h d hd
    · rw [List.mem_singleton.1 hd];exact GU hL _
   rw [gL];split
   · exact h
   · simp only
     split
     · exact vX hL f _ _ h2
     · exact h2
theorem Cl {L:List Tk} (hL:∀ t∈L,cD t) {a:AG} (h:agL L=.ok a):iK a.e/\iK a.g/\∀ d∈a.wh,iK d.a/\iK d.b:=by
 unfold agL at h;cases h0:L[0]? with
 | none=>rw [h0] at h;cases h
 | some t =>
   rw [h0] at h;simp only at h;split at h
   · cases h
   split at h
   · cases h
   split at h
   · cases h
   split at h
   · cases h
   split at h
   · cases h
     exact ⟨(oN hL _ _).1,(oN hL _ _).2,fun d hd=>by cases hd⟩
   split at h
   · cases h
   split at h
   · cases h
   split at h
   · cases h
   · cases h
     exact ⟨(oN hL _ _).1,(oN hL _ _).2,vX hL 5 [] _ (fun d hd=>by cases hd)⟩
theorem rE {l:List UInt8} {a:AG} (h:agX l=.ok a):SmG a/\SzG a/\fK a=0:=by
 have he:=JL h;have h4:=(cQ he).2.2.2.2.1;unfold agX at h;cases hx:jY l with
 | bad p e=>rw [hx] at h;cases h
 | ok L =>
   rw [hx] at h;simp only at h;cases ha:agL L with
   | bad p e=>rw [ha] at h;cases h
   | ok b =>
     rw [ha] at h;cases h;obtain ⟨n1,n2,n3⟩:=Cl (oD hx) ha;refine ⟨⟨Nat.le_trans n1.1 (by decide),Nat.le_trans n2.1 (by decide),fun d hd=>⟨Nat.le_trans (n3 d hd).1.1 (by decide),Nat.le_trans (n3 d hd).2.1 (by decide)⟩,by omega⟩,⟨n1.2.1,n2.2.1,fun d hd=>⟨(n3 d hd).1.2.1,(n3 d hd).2.2.1⟩⟩,he⟩
theorem JK {l:List UInt8} {a:AG} (h:agX l=.ok a):fL a:=by
 unfold agX at h;cases hx:jY l with
 | bad p e=>rw [hx] at h;cases h
 | ok L =>
   rw [hx] at h;simp only at h;cases ha:agL L with
   | bad p e=>rw [ha] at h;cases h
   | ok b =>
     rw [ha] at h;cases h;obtain ⟨n1,n2,n3⟩:=Cl (oD hx) ha;exact ⟨n1.2.2,n2.2.2,fun d hd=>⟨(n3 d hd).1.2.2,(n3 d hd).2.2.2⟩⟩
theorem DR {L:List Tk} {p:Nat} {e:Int} (h:agL L=.bad p e):¬ e=0:=by
 unfold agL at h;cases h0:L[0]? with
 | none=>rw [h0] at h;cases h;decide
 | some t =>
   rw [h0] at h;simp only at h;split at h
   · cases h;decide
   split at h
   · cases h;decide
   split at h
   · rename_i hb;cases h;exact hb
   split at h
   · rename_i hb;cases h;exact hb
   split at h
   · cases h
   split at h
   · cases h;decide
   split at h
   · rename_i hb;cases h;exact hb
   split at h
   · cases h;decide
   · cases h
theorem wJ {l:List UInt8} {p:Nat} {e:Int} (h:agX l=.bad p e):(e == 0)=false/\(e != 0)=true:=by
 unfold agX at h;cases hx:jY l with
 | bad q f=>rw [hx] at h;cases h;exact sX hx
 | ok L =>
   rw [hx] at h;simp only at h;cases ha:agL L with
   | bad q f =>
     rw [ha] at h;cases h;have:=DR ha;exact ⟨by simpa using this,by simpa using this⟩
   | ok b=>rw [ha] at h;cases h
structure LBK (w:World) (B:Nat) (E:TypeId) (l:List LN) (oa:Option Addr) (oc:Nat) (ps:List PA) (V:World):Prop where
 b:Below w.heap.size w V
 lo:w.heap.size<=B
 hz:B<=V.heap.size
 own:V.ownsRow B E 12 (.slice oa l.length oc) l.length (kY l ps)
 ql:ps.length=l.length
 rd:∀ (j:Nat) (x:LN) (p:PA),l[j]? = some x->ps[j]? = some p->∀ w3,aC (fun b=>(Value.slice oa l.length oc).ownBlock=some b) V w3->aJ (fun b=>B<=b) w3 x.a p
theorem LBK.step {w:World} {B:Nat} {E:TypeId} {l:List LN} {oa:Option Addr} {oc:Nat} {ps:List PA} {V V':World} (h:LBK w B E l oa oc ps V) (hb:Below V.heap.size V V'):LBK w B E l oa oc ps V' :=
 ⟨h.b.trans (hb.mono h.b.size),h.lo,Nat.le_trans h.hz hb.size,cI h.own hb,h.ql,fun j x p h1 h2 w3 k3=>h.rd j x p h1 h2 w3 ((aE hb _).trans k3 (fun _ hi _=>hi))⟩
theorem IQ {w:World} {B:Nat} {E:TypeId} {l:List LN} {oa:Option Addr} {oc:Nat} {ps:List PA} {V V2 V3:World} (h:LBK w B E l oa oc ps V) {x:LN} {p:PA} {oa':Option Addr} {oc':Nat}
 (hb:Below V.heap.size V V2) (hq:∀ w3,aC (fun b=>B<=b/\b<V.heap.size) V2 w3->aJ (fun b=>B<=b) w3 x.a p) (hk:aC (fun b=>(Value.slice oa l.length oc).ownBlock=some b) V2 V3)
 (ho:V3.ownsRow B E 12 (.slice oa' (l.length+1) oc') (l.length+1) (kY l ps++lnL x p)) (hn:∀ b,(Value.slice oa' (l.length+1) oc').ownBlock=some b->(Value.slice oa l.length oc).ownBlock=some b\/V2.heap.size<=b) :
 LBK w B E (l++[x]) oa' oc' (ps++[p]) V3:=by
 have lo:=fun b (hb:(Value.slice oa l.length oc).ownBlock=some b)=>h.own.lt b hb
 have hz:=hb.size;have hlo:=h.lo;have hhz:=h.hz;have hl:(l++[x]).length=l.length+1:=by simp
 refine ⟨(h.b.trans (hb.mono h.b.size)).trans (hk.below (fun b e=>by have:=(lo b e).1;omega) (by have:=h.b.size;omega)),hlo,by have:=hk.size;omega,?_,by rw [List.length_append,List.length_append,h.ql];rfl,fun j x' q' e1 e2 w3 k3=>?_⟩
 · rw [hl,Bw _ _ _ _ h.ql]
   simpa [kY] using ho
 · rw [hl] at k3
   rcases Nat.lt_or_ge j l.length with hj | hj
   · rw [List.getElem?_append_left hj] at e1
     rw [List.getElem?_append_left (by rw [h.ql];exact hj)] at e2;refine h.rd j x' q' e1 e2 w3 (((aE hb _).trans hk (fun i hi _=>hi)).trans k3 (fun i hi hlt=>?_));rcases hn i hi with h1 | h1
     · exact h1
     · omega
   · rw [List.getElem?_append_right hj] at e1
     rw [List.getElem?_append_right (by rw [h.ql];exact hj),h.ql] at e2;cases hm:j-l.length with
     | zero =>
       rw [hm] at e1 e2;cases e1;cases e2;refine hq w3 ((hk.mono (fun i hi _=>lo i hi)).trans k3 (fun i hi hlt=>?_));rcases hn i hi with h1 | h1
       · exact lo i h1
       · omega
     | succ m=>rw [hm] at e2;simp at e2
theorem LBK.reads {w:World} {B:Nat} {E:TypeId} {l:List LN} {oa:Option Addr} {oc:Nat} {ps:List PA} {V:World} (h:LBK w B E l oa oc ps V):cU (fun b=>w.heap.size<=b) V oa l :=
 CV h.own h.ql (fun j x p h1 h2=>(h.rd j x p h1 h2 V (aC.refl _ _)).imp (fun b _ hb=>Nat.le_trans h.lo hb)) (fun b hb=>by
  have:=(h.own.lt b (by rw [hb];rfl)).1;have:=h.lo;omega)
theorem Le {w V:World} {E:TypeId} (hb:Below w.heap.size w V):LBK w V.heap.size E [] none 0 [] V :=
 ⟨hb,hb.size,Nat.le_refl _,⟨rfl,.inl ⟨rfl,rfl⟩⟩,rfl,fun j x p h=>by cases h⟩
theorem Ja {l:List UInt8} {nm r:List UInt8} (h:j6 l=some (nm,r)):∃ (x y:ByteArray),j6 l=some (x.data.toList,y.data.toList)/\x.data.toList=nm/\y.data.toList=r:=⟨⟨nm.toArray⟩,⟨r.toArray⟩,h,rfl,rfl⟩
theorem tR (q:UInt8->Bool) (l:List UInt8):(l.takeWhile q).length<=l.length/\(l.dropWhile q).length<=l.length:=by
 have h:=congrArg List.length (List.takeWhile_append_dropWhile (p:=q) (l:=l));rw [List.length_append] at h;omega
theorem Jb {l nm r:List UInt8} (h:j6 l=some (nm,r)):nm.length<=l.length/\r.length<=l.length:=by
 have h1:=tR nS l;have h2:=tR fF (l.dropWhile nS);have h3:=tR nS ((l.dropWhile nS).dropWhile fF);unfold j6 at h;simp only at h;split at h
 · cases h
 · split at h
   · rename_i r' hr
     cases h;rw [hr] at h3;simp at h3;exact ⟨by omega,by omega⟩
   · cases h
theorem zX {acc:List LN} {s nm r:List UInt8} (h:j6 s=some (nm,r)):jN acc s=if bD nm=false\/dX nm=true then .bad 5 else if acc.any (fun x=>x.nm.data.toList == nm)=true then .bad 6 else match agX r with
 | .bad _ e=>.bad e
 | .ok a=>.ok ⟨⟨nm.toArray⟩,a⟩:=by
 unfold jN;rw [h];all_goals rfl
theorem Bk {acc:List LN} {s:List UInt8} {q:List (List UInt8)} {e:Int} (h8:¬ acc.length=8) (h:jN acc s=.bad e):gR (s::q) acc=.bad acc.length e:=by
 unfold gR;rw [if_neg h8,h]
theorem qJ {acc:List LN} {s:List UInt8} {q:List (List UInt8)} {x:LN} (h8:¬ acc.length=8) (h:jN acc s=.ok x):gR (s::q) acc=gR q (acc++[x]):=by
 conv=>lhs;unfold gR
 rw [if_neg h8,h]
theorem Fn {acc:List LN} {s:List UInt8} {q:List (List UInt8)} (h8:acc.length=8):gR (s::q) acc=.bad acc.length 4:=by
 unfold gR;rw [if_pos h8]
structure PD where
 v:Int
 o:ByteArray
 t:ByteArray
abbrev pdV (x:PD):Value:=.agg #[.int .i64 x.v,.string x.o,.string x.t]
abbrev pdO (x:PD) (T:TypeId):Obj:=.cells #[.int .i64 x.v,.string x.o,.string x.t] T
theorem eQ {W:World} {B:Nat} {v0 v1 v2:Value} {t:TypeId} (h:W.heap[B]? = some (.cells #[v0,v1,v2] t (0,0))):W.cell? ⟨B,0,none⟩=some v0/\W.cell? ⟨B,1,none⟩=some v1/\W.cell? ⟨B,2,none⟩=some v2:=by
 refine ⟨?_,?_,?_⟩ <;> simp [World.cell?,h]
def NE:EI->Int
 | .bad _ e=>e
 | .ok _=>0
def B8 (x:PD):Int :=
 if Wr.countB x.v=false then 1 else if x.v=0 then (if x.o.toList.isEmpty=true/\x.t.toList.isEmpty=true then 0 else 2) else
 if Ir x.o.data.toList=false then 5 else if 4096<x.t.size then 4 else NE (mE x.t.data.toList)
def jX (x y:PD):Bool:=if x.v=y.v then (!lsS x.o y.o && !(x.o.toList == y.o.toList)) else decide (y.v<x.v)
theorem By {a b:ByteArray}:(a.toList == b.toList)=true ↔ a=b:=by
 rw [beq_iff_eq];refine ⟨fun h=>?_,fun h=>by rw [h]⟩;apply eL
 rw [Lib.toList_data,Lib.toList_data] at h;exact h
theorem MW (a b:ByteArray):(!lsS a b && !(a.toList == b.toList))=lsS b a:=by
 cases h1:lsS a b with
 | true =>
   cases h2:lsS b a with
   | false=>rfl
   | true=>have:=cN.trans _ _ _ h1 h2;rw [cN.irrefl] at this;cases this
 | false =>
   cases h2:lsS b a with
   | true =>
     have:(a.toList == b.toList)=false:=by
      rw [Bool.eq_false_iff];intro h;rw [By.1 h,cN.irrefl] at h2;cases h2
     rw [this];rfl
   | false =>
     have:=cN.total _ _ h1 h2;rw [this];simp
theorem zV (x y:PD):jX x y=if x.v=y.v then lsS y.o x.o else decide (y.v<x.v):=by
 unfold jX;rw [MW]
theorem Iz {x y:PD} (h:jX x y=true):jX y x=false:=by
 rw [zV] at h |-
 by_cases e:x.v=y.v
 · rw [if_pos e] at h
   rw [if_pos e.symm];cases h2:lsS x.o y.o with
   | false=>rfl
   | true=>have:=cN.trans _ _ _ h h2;rw [cN.irrefl] at this;cases this
 · rw [if_neg e,decide_eq_true_eq] at h
   rw [if_neg (fun k=>e k.symm),decide_eq_false_iff_not];omega
theorem Er {x y:PD} (h:jX x y=true):¬ (x.v=y.v/\x.o=y.o):=fun ⟨h1,h2⟩=>by
 rw [zV,if_pos h1,h2,cN.irrefl] at h;cases h
theorem Iy {x y:PD} (h1:jX x y=false) (h2:jX y x=false):x.v=y.v/\x.o=y.o:=by
 rw [zV] at h1 h2;by_cases e:x.v=y.v
 · rw [if_pos e] at h1
   rw [if_pos e.symm] at h2;exact ⟨e,cN.total _ _ h2 h1⟩
 · rw [if_neg e,decide_eq_false_iff_not] at h1
   rw [if_neg (fun k=>e k.symm),decide_eq_false_iff_not] at h2;omega
theorem FF {x y z:PD} (h1:jX x y=true) (h2:jX y z=true):jX x z=true:=by
 rw [zV] at h1 h2 |-
 by_cases e1:x.v=y.v
 · rw [if_pos e1] at h1
   by_cases e2:y.v=z.v
   · rw [if_pos e2] at h2
     rw [if_pos (e1.trans e2)];exact cN.trans _ _ _ h2 h1
   · rw [if_neg e2,decide_eq_true_eq] at h2
     rw [if_neg (by omega),decide_eq_true_eq];omega
 · rw [if_neg e1,decide_eq_true_eq] at h1
   by_cases e2:y.v=z.v
   · rw [if_neg (by omega),decide_eq_true_eq]
     omega
   · rw [if_neg e2,decide_eq_true_eq] at h2
     rw [if_neg (by omega),decide_eq_true_eq];omega
end
end Go.Proofs.YtgfkjkokmcejbaaGreatDoor
