/-
 No statement: what ProgLinesLift needs, of the texts OW1, OW2, QSup, QOwn, QOk, QGw, QBack, QEval, ZMath, ZOwn, ZBack, Take, QParse, QFew, QLawOf, ZTp, ZParse, ZProg, ZPSmall.
-/
import Derived.Test.YtgfkjkokmcejbaaGreatDoorVL5
import Derived.Deep.LoopGhost
import Derived.Shelf.Spec.SlicesInsertGrow
import Derived.Lib.SlicesDelete
import Derived.WalkLawsBesides
import Derived.Lib.ItoaLen
import Derived.Laws.BytesString
import Derived.RangeFuncBox
import Derived.Maps.AppendAt
import Derived.Deep.Slices
import Derived.Deep.Fields
import Derived.ChangeSame
import Derived.RangeFuncNested
import Derived.RangeFuncBound
import Derived.RangeFuncCalls
import Derived.RangeFuncLeaves
import Derived.Shelf.Abstract
import Derived.Shelf.RegionOpen
import Derived.OwnWalkIn
import Derived.TacticsInMore
import Derived.LoopNIn
import Derived.LoopIn
import Derived.Lib.IndexLaws
import Derived.Maps.OwnIn
import Derived.OrdersHeld
import Derived.NoCompiler
import Derived.Deep.DeepCutAuto
import Derived.Deep.CutBlock
set_option maxHeartbeats 40000000
set_option maxRecDepth 100000
namespace Go.Proofs.YtgfkjkokmcejbaaGreatDoor.Wr
open Go.RowKit
section
section
open Go.RowKit
def CY (w:World) (F F':Nat->Prop):Prop:=∀ k,F' k->F k\/w.heap.size<=k
theorem CY.refl (w:World) (F:Nat->Prop):CY w F F:=fun _ h=>Or.inl h
end
section
open Go.RowKit
def fD (m:Nat) (w:World) (T kE vE:TypeId) (p:Nat) (F:Nat->Prop) (ks vs:List Value):Prop :=
 ∃ kv vv, w.heap[p]? = some (.cells #[kv, vv] T (0, 0)) /\ w.ownsRow 0 kE 1 kv ks.length ks /\ w.ownsRow 0 vE m vv ks.length vs /\
   kv.ownBlock ≠ some p/\vv.ownBlock ≠ some p/\(∀ b,kv.ownBlock=some b->vv.ownBlock ≠ some b) /\
   F p/\(∀ b,kv.ownBlock=some b->F b)/\(∀ b,vv.ownBlock=some b->F b)/\(∀ k,F k->k<w.heap.size)
theorem fD.kept {m:Nat} {w w':World} {T kE vE:TypeId} {p:Nat} {F S:Nat->Prop} {ks vs:List Value} (h:fD m w T kE vE p F ks vs) (hk:aC S w w') (hS:∀ k,F k->¬ S k):fD m w' T kE vE p F ks vs:=by
 obtain ⟨kv,vv,h0,h1,h2,d0,d1,d2,f0,f1,f2,f3⟩:=h;exact ⟨kv,vv,hk.heap h0 (hS p f0),hk.owns h1 (fun b hb=>hS b (f1 b hb)),hk.owns h2 (fun b hb=>hS b (f2 b hb)),d0,d1,d2,f0,f1,f2,fun k hf=>Nat.lt_of_lt_of_le (f3 k hf) hk.size⟩
theorem fD.lt {m:Nat} {w:World} {T kE vE:TypeId} {p:Nat} {F:Nat->Prop} {ks vs:List Value} (h:fD m w T kE vE p F ks vs):∀ k,F k->k<w.heap.size:=by
 obtain ⟨kv,vv,h0,h1,h2,d0,d1,d2,f0,f1,f2,f3⟩:=h;exact f3
theorem fD.len {m:Nat} {w:World} {T kE vE:TypeId} {p:Nat} {F:Nat->Prop} {ks vs:List Value} (h:fD m w T kE vE p F ks vs):vs.length=ks.length*m:=by
 obtain ⟨kv,vv,h0,h1,h2,d0,d1,d2,f0,f1,f2,f3⟩:=h;exact h2.1
structure dJ (m:Nat) (w:World) (T kE vE:TypeId) (p:Nat) (F:Nat->Prop) (kv vv:Value) (nk nv:Nat) (X Y:List Value):Prop where
 row:w.heap[p]? = some (.cells #[kv,vv] T (0,0))
 k:w.ownsRow 0 kE 1 kv nk X
 v:w.ownsRow 0 vE m vv nv Y
 dk:kv.ownBlock ≠ some p
 dv:vv.ownBlock ≠ some p
 dkv:∀ b,kv.ownBlock=some b->vv.ownBlock ≠ some b
 fp:F p
 fk:∀ b,kv.ownBlock=some b->F b
 fv:∀ b,vv.ownBlock=some b->F b
 lt:∀ k,F k->k<w.heap.size
theorem dJ.kept {m:Nat} {w w':World} {T kE vE:TypeId} {p:Nat} {F S:Nat->Prop} {kv vv:Value} {nk nv:Nat} {X Y:List Value} (h:dJ m w T kE vE p F kv vv nk nv X Y) (hk:aC S w w') (hS:∀ k,F k->¬ S k):dJ m w' T kE vE p F kv vv nk nv X Y :=
 ⟨hk.heap h.row (hS p h.fp),hk.owns h.k (fun b hb=>hS b (h.fk b hb)),hk.owns h.v (fun b hb=>hS b (h.fv b hb)),h.dk,h.dv,h.dkv,h.fp,h.fk,h.fv,fun k hf=>Nat.lt_of_lt_of_le (h.lt k hf) hk.size⟩
end
section
open Go.RowKit
def wU (c:UInt8):Bool:=decide ((c.toNat:Int)<32) || decide (126<(c.toNat:Int)) || decide ((c.toNat:Int)=34)
def GV (l:List UInt8):Int:=if 64<l.length then 4 else if l.any wU then 2 else 0
def risesB:List Int->Bool
 | a::b::r=>decide (a<b) && risesB (b::r)
 | _=>true
def errL (l:List Int):Int:=if 16<l.length then 4 else if risesB l then 0 else 2
theorem risesB_iff (l:List Int):risesB l=true ↔ ∀ j,j+1<l.length->l.getD j 0<l.getD (j+1) 0:=by
 induction l with
 | nil=>simp [risesB]
 | cons a r ih =>
   cases r with
   | nil=>simp [risesB]
   | cons b r =>
     simp only [risesB,Bool.and_eq_true,decide_eq_true_eq];rw [ih];constructor
     · rintro ⟨h,k⟩ j hj
       cases j with
       | zero=>simpa using h
       | succ j=>simpa using k j (by simpa using hj)
     · intro h
       exact ⟨by simpa using h 0 (by simp),fun j hj=>by simpa using h (j+1) (by simpa using hj)⟩
theorem Oi {s:ByteArray} (h:∀ j (hj:j<s.size),wU s[j]=false):s.data.toList.any wU=false:=by
 rw [List.any_eq_false];intro c hc;obtain ⟨j,hj,rfl⟩:=List.mem_iff_getElem.1 hc;have:=h j (by simpa using hj);intro e;have e':wU s[j]=true:=e;rw [this] at e';cases e'
theorem wX {s:ByteArray} {j:Nat} (hj:j<s.size) (h:wU s[j]=true):s.data.toList.any wU=true:=by
 rw [List.any_eq_true];exact ⟨s[j],List.mem_iff_getElem.2 ⟨j,by simpa using hj,rfl⟩,h⟩
def Reads (w:World) (a:Option Addr) (len:Nat) (z:Nat->Int):Prop :=
 len<=maxLen/\(len=0\/∃ b off,a=some ⟨b,off,none⟩/\∀ j,j<len->w.cell? ⟨b,off+j,none⟩=some (.int .i64 (z j)))
def upTo (z:Nat->Int) (n:Nat):List Int:=(List.range n).map z
theorem AR (z:Nat->Int) (n:Nat):(upTo z n).length=n:=by simp [upTo]
theorem tW (z:Nat->Int) {n j:Nat} (h:j<n):(upTo z n).getD j 0=z j:=by simp [upTo,List.getD,h]
theorem Reads.kept {w w':World} {a:Option Addr} {len:Nat} {z:Nat->Int} (h:Reads w a len z) (hb:Below w.heap.size w w'):Reads w' a len z:=by
 refine ⟨h.1,?_⟩;rcases h.2 with h0 | ⟨b,off,rfl,hc⟩
 · exact .inl h0
 · exact .inr ⟨b,off,rfl,fun j hj=>(hb.cell (p:=⟨b,off+j,none⟩) (World.block_lt_of_cell? w _ (hc j hj))).trans (hc j hj)⟩
theorem uO {z:Nat->Int} {n:Nat}:risesB (upTo z n)=true ↔ ∀ j,j+1<n->z j<z (j+1):=by
 rw [risesB_iff,AR];exact ⟨fun h j hj=>by have:=h j hj;rwa [tW z (by omega),tW z hj] at this,fun h j hj=>by rw [tW z (by omega),tW z hj];exact h j hj⟩
def val (k n:Int) (s:ByteArray) (l:Value):Value:=.agg #[.int .i64 k,.int .i64 n,.string s,l]
def errV (k:Int) (s:ByteArray) (len:Nat) (z:Nat->Int):Int:=if k=1 then 0 else if k=2 then GV s.data.toList else if k=3 then errL (upTo z len) else 7
end
section
open Go.RowKit
structure VC where
 k:Int
 n:Int
 s:ByteArray
 y:Option Addr
 len:Nat
 c:Nat
def VC.cs (v:VC):List Value:=[.int .i64 v.k,.int .i64 v.n,.string v.s,.slice v.y v.len v.c]
theorem j8 {b:Nat} {A W:World} {B:Nat} (h:Below b A W) (hB:b<=B) (v0 v1 v2 v3:Value) :
 Below b A ((((W.setCell ⟨B,0,none⟩ v0).setCell ⟨B,1,none⟩ v1).setCell ⟨B,2,none⟩ v2).setCell ⟨B,3,none⟩ v3) :=
 (((h.setCell (p:=⟨B,0,none⟩) hB v0).setCell (p:=⟨B,1,none⟩) hB v1).setCell (p:=⟨B,2,none⟩) hB v2).setCell (p:=⟨B,3,none⟩) hB v3
end
section
open Go.RowKit
def countB (n:Int):Bool:=decide (0<=n) && decide (n<=1000000000)
end
section
open Go.RowKit
theorem Lc {s:ByteArray} (h:2<=s.size) (c:UInt8):(s.toList == [c])=false:=by
 rw [beq_eq_false_iff_ne,Lib.toList_data];intro e;have hl:s.data.toList.length=s.size:=by simp
 rw [e] at hl;simp at hl;omega
end
section
open Go.RowKit
end
section
open Go.RowKit
structure AD where
 m:ByteArray
 k:Int
 n:Int
 s:ByteArray
 len:Nat
 z:Nat->Int
def jY (w:World) (b o:Nat) (x:AD) (y:Option Addr) (c:Nat):Prop :=
 w.cell? ⟨b,o,none⟩=some (.string x.m)/\w.cell? ⟨b,o+1,none⟩=some (.int .i64 x.k)/\w.cell? ⟨b,o+2,none⟩=some (.int .i64 x.n)/\w.cell? ⟨b,o+3,none⟩=some (.string x.s)/\w.cell? ⟨b,o+4,none⟩=some (.slice y x.len c)
theorem jY.lt {w:World} {b o:Nat} {x:AD} {y:Option Addr} {c:Nat} (h:jY w b o x y c):b<w.heap.size:=by have:=World.block_lt_of_cell? w _ h.1;simpa using this
theorem jY.below {B:Nat} {w w':World} {b o:Nat} {x:AD} {y:Option Addr} {c:Nat} (h:jY w b o x y c) (hb:Below B w w') (hB:b<B):jY w' b o x y c :=
 ⟨(hb.cell (p:=⟨b,_,none⟩) hB).trans h.1,(hb.cell (p:=⟨b,_,none⟩) hB).trans h.2.1,(hb.cell (p:=⟨b,_,none⟩) hB).trans h.2.2.1,(hb.cell (p:=⟨b,_,none⟩) hB).trans h.2.2.2.1,(hb.cell (p:=⟨b,_,none⟩) hB).trans h.2.2.2.2⟩
theorem jY.kept {w w':World} {b o:Nat} {x:AD} {y:Option Addr} {c:Nat} (h:jY w b o x y c) (hb:Below w.heap.size w w'):jY w' b o x y c:=h.below hb h.lt
def ReadsA (w:World) (a:Option Addr) (len:Nat) (A:Nat->AD):Prop :=
 len<=maxLen/\(len=0\/∃ b off,a=some ⟨b,off,none⟩/\∀ j,j<len->∃ y c,jY w b (off+j*5) (A j) y c/\Reads w y (A j).len (A j).z)
theorem ReadsA.kept {w w':World} {a:Option Addr} {len:Nat} {A:Nat->AD} (h:ReadsA w a len A) (hb:Below w.heap.size w w'):ReadsA w' a len A:=by
 refine ⟨h.1,h.2.imp id ?_⟩;rintro ⟨b,off,rfl,hc⟩;refine ⟨b,off,rfl,fun j hj=>?_⟩;obtain ⟨y,c,h5,hr⟩:=hc j hj;exact ⟨y,c,h5.kept hb,hr.kept hb⟩
end
section
open Go.RowKit
def tA (w:World) (len:Nat) (z:Nat->Int) (e:Ending) (w':World):Prop :=
 (∃ a c,e=.returned (.slice a len c)/\Reads w' a len z/\∀ b,a=some b->w.heap.size<=b.block)/\Below w.heap.size w w'
theorem Ha:(Tryz.prog.info? 2).map (fun i=>(i.zero,i.size,i.bytes))=some (some (.int .i64 0),1,8):=by kernel_rfl
theorem MQ (z:Nat->Int) (len:Nat):∀ u∈(List.range len).map (fun j=>Value.int .i64 (z j)),u.oneCell'=true:=by
 intro u hu;obtain ⟨j,_,rfl⟩:=List.mem_map.1 hu;rfl
theorem Fy {w:World} {base:Nat} {a:Option Addr} {len l c:Nat} {z:Nat->Int} (h:w.ownsRow base 2 1 (.slice a l c) len ((List.range len).map (fun j=>Value.int .i64 (z j)))):l=len/\Reads w a len z/\∀ b,a=some b->base<=b.block:=by
 rcases h.2 with ⟨h,h'⟩ | ⟨g,cap,cur,hv,hb,hg,hnc,hm,_,ht⟩
 · simp only [Value.slice.injEq] at h
   obtain ⟨rfl,rfl,rfl⟩:=h;subst h';exact ⟨rfl,⟨Nat.zero_le _,.inl rfl⟩,fun b hb=>by cases hb⟩
 · simp only [Value.slice.injEq] at hv
   obtain ⟨rfl,rfl,rfl⟩:=hv;refine ⟨rfl,⟨Nat.le_trans hnc hm,.inr ⟨g,0,rfl,fun j hj=>?_⟩⟩,fun b hb'=>by cases hb';exact hb⟩;have hjj:((List.range l).map (fun j=>Value.int .i64 (z j)))[j]? = some (.int .i64 (z j)):=by simp [hj]
   rw [Nat.zero_add,cell_of_row w g j cur _ (0,0) hg];rw [Nat.mul_one] at ht;rw [<- ht,List.getElem?_take,if_pos hj] at hjj;simpa using hjj
theorem sU (a:Option Addr) (len cap:Nat) (z:Nat->Int) (hl:len<=1000000) (w:World) (hr:Reads w a len z) :
 Calls Tryz.prog 154 #[.slice a len cap] w (tA w len z):=by
 obtain ⟨i0,hi,hz0,hz1,hz2⟩:=info_parts Ha;have und:Tryz.prog.underlying 58=some (.slice 2):=Tryz.underlying58;cases a with
 | none =>
   have h0:len=0:=by
    rcases hr.2 with h | ⟨b,off,h,_⟩
    · exact h
    · cases h
   subst h0;have P:=aA (show tA w 0 z (.returned (.slice none 0 0)) w from ⟨⟨none,0,rfl,⟨Nat.zero_le _,.inl rfl⟩,fun b h=>by cases h⟩,Below.refl _ _⟩);clear hr;go_enter Tryz.func154,Tryz.ntmps154
   go_wp2
   rw [Lib.run_eql_slice_nil w _ _ _ _ _ _ _ und];simp only [Result.andThen];rw [Oper.upon_value];go_wp2_with fail
   go_ret;exact P.out
 | some x =>
   have F:=aA (p:=∀ w',Below w.heap.size w w'->Nm w' (.slice (some x) len cap) len ((List.range len).map (fun j=>Value.int .i64 (z j)))) (fun w' hb=>by
    refine .inr ⟨x,cap,rfl,by simp,fun j u hj=>?_⟩;rcases (hr.kept hb).2 with h0 | ⟨b,off,hx,hc⟩
    · subst h0;simp at hj
    · obtain rfl:x=⟨b,off,none⟩:=by simpa using hx
      have hjl:j<len:=by
       rcases Nat.lt_or_ge j len with h | h
       · exact h
       · rw [List.getElem?_eq_none (by simpa using h)] at hj;cases hj
      rw [Addr.add_lit,hc j hjl];simpa [hjl] using hj)
   clear hr;go_enter Tryz.func154,Tryz.ntmps154
   have bA:Below w.heap.size w (w.alloc (.cells #[] 2)):=bA0 _ _;have BA:=aA bA;have OA:=aA (show (w.alloc (.cells #[] 2)).ownsRow w.heap.size 2 1 (.slice (some ⟨w.heap.size,0,none⟩) 0 0) 0 [] from ⟨rfl,.inr ⟨w.heap.size,0,#[],rfl,Nat.le_refl _,heap_alloc_new w _,Nat.le_refl _,Nat.zero_le _,rfl,rfl⟩⟩);clear bA;go_wp2
   rw [Lib.run_eql_slice_nil w _ _ _ _ _ _ _ und];simp only [Result.andThen];rw [Oper.upon_value];go_wp2_with (at_builtin;refine pF rfl _ _ 58 rfl und hi hz0 hz1 hz2 rfl _ _ 0 len [] _ rfl rfl OA.out (F.out _ BA.out) (MQ z len) (by unfold maxLen;omega) (by omega) (by simp) ?_)
   intro v' w2 ho hg _
   obtain ⟨va,vl,vc,rfl⟩:∃ a l c,v'=.slice a l c:=by
    rcases ho.2 with ⟨h,_⟩ | ⟨g,cap,_,h,_⟩
    · exact ⟨_,_,_,h⟩
    · exact ⟨_,_,_,h⟩
   obtain ⟨rfl,hrd,hbl⟩:=Fy ho;have P:=aA (show tA w vl z (.returned (.slice va vl vc)) w2 from ⟨⟨va,vc,rfl,hrd,hbl⟩,BA.out.grown hg (by simp) (fun k hk=>by simp [Value.ownBlock] at hk;omega)⟩);clear ho hg hrd hbl;go_wp2
   go_ret;exact P.out
theorem yZ (W:World) (B:Nat) (v0 v1 v2 v3:Value):aC (fun k=>k=B) W ((((W.setCell ⟨B,0,none⟩ v0).setCell ⟨B,1,none⟩ v1).setCell ⟨B,2,none⟩ v2).setCell ⟨B,3,none⟩ v3) :=
 ((((aC.refl (fun k=>k=B) W).setCell (S:=fun k=>k=B) (p:=⟨B,0,none⟩) (.inl rfl) v0).setCell (S:=fun k=>k=B) (p:=⟨B,1,none⟩) (.inl rfl) v1).setCell (S:=fun k=>k=B) (p:=⟨B,2,none⟩) (.inl rfl) v2).setCell (S:=fun k=>k=B) (p:=⟨B,3,none⟩) (.inl rfl) v3
theorem Reads.keptS {S:Nat->Prop} {w w':World} {a:Option Addr} {len:Nat} {z:Nat->Int} (h:Reads w a len z) (hk:aC S w w') (hS:∀ b,a=some b->¬ S b.block):Reads w' a len z:=by
 refine ⟨h.1,?_⟩;rcases h.2 with h0 | ⟨b,off,rfl,hc⟩
 · exact .inl h0
 · exact .inr ⟨b,off,rfl,fun j hj=>hk.cell (hc j hj) (show ¬ S b from hS ⟨b,off,none⟩ rfl)⟩
def twN (k n:Int):Int:=if k=1 then n else 0
def twS (k:Int) (s:ByteArray):ByteArray:=if k=2 then s else ⟨#[]⟩
def twL (k:Int) (len:Nat):Nat:=if k=3 then len else 0
def sZ (w:World) (k n:Int) (s:ByteArray) (len:Nat) (z:Nat->Int) (e:Ending) (w':World):Prop :=
 (∃ a c,e=.returned (.agg #[.int .i64 k,.int .i64 (twN k n),.string (twS k s),.slice a (twL k len) c])/\(∀ b,a=some b->w.heap.size<=b.block)/\∀ w3,aC (fun b=>b=w.heap.size+1) w' w3->Reads w3 a (twL k len) z)/\Below w.heap.size w w'
theorem sA (w:World) (z:Nat->Int):Reads w none 0 z:=⟨Nat.zero_le _,.inl rfl⟩
theorem nY (w:World) (o1 o2:Obj):Below w.heap.size w ((w.alloc o1).alloc o2)/\((w.alloc o1).alloc o2).heap[w.heap.size]? = some o1/\((w.alloc o1).alloc o2).heap[w.heap.size+1]? = some o2/\((w.alloc o1).alloc o2).heap.size=w.heap.size+2:=by
 refine ⟨(bA0 _ _).alloc (by simp) _,(Below.heap_alloc _ _ _ (by simp)).trans (heap_alloc_new w _),?_,by simp⟩;have:=heap_alloc_new (w.alloc o1) o2;rwa [World.size_alloc] at this
theorem uF (k n:Int) (s:ByteArray) (a:Option Addr) (len cap:Nat) (z:Nat->Int) (hl:len<=1000000) (w:World) (hr:Reads w a len z) :
 Calls Tryz.prog 96 #[.agg #[.int .i64 k,.int .i64 n,.string s,.slice a len cap]] w (sZ w k n s len z):=by
 have HB:=aA (nY w (.cells #[.int .i64 k,.int .i64 n,.string s,.slice a len cap] 60) (.cells #[.int .i64 0,.int .i64 0,.string ⟨#[]⟩,.slice none 0 0] 60));have R:=aA hr;clear hr;by_cases h1:k=1
 · subst h1
   have P:=aA (p:=∀ W,Below w.heap.size w W->sZ w 1 n s len z (.returned (.agg #[.int .i64 1,.int .i64 n,.string ⟨#[]⟩,.slice none 0 0])) W) (fun W h=>⟨⟨none,0,rfl,(fun b h=>by cases h),fun w3 _=>sA w3 z⟩,h⟩);go_enter Tryz.func96,Tryz.ntmps96
   go_wp2_with fail
   exact bodyPost_ret (v:=.agg #[.int .i64 1,.int .i64 n,.string ⟨#[]⟩,.slice none 0 0]) (by simp [results,Tryz.results96,go_sem]) rfl (P.out _ (nY w _ _).1)
 have q1:(k == 1)=false:=by simpa using h1
 by_cases h2:k=2
 · subst h2
   have P:=aA (p:=∀ W,Below w.heap.size w W->sZ w 2 n s len z (.returned (.agg #[.int .i64 2,.int .i64 0,.string s,.slice none 0 0])) W) (fun W h=>⟨⟨none,0,rfl,(fun b h=>by cases h),fun w3 _=>sA w3 z⟩,h⟩);clear h1 q1;go_enter Tryz.func96,Tryz.ntmps96
   go_wp2_with fail
   exact bodyPost_ret (v:=.agg #[.int .i64 2,.int .i64 0,.string s,.slice none 0 0]) (by simp [results,Tryz.results96,go_sem]) rfl (P.out _ (nY w _ _).1)
 have q2:(k == 2)=false:=by simpa using h2
 by_cases h3:k=3
 · subst h3
   clear h1 q1 h2 q2;go_enter Tryz.func96,Tryz.ntmps96
   go_wp2_with fail
   generalize hW:World.alloc (World.alloc w _) _=W;rw [hW] at HB;have hdr:Below W.heap.size W W.drew:=⟨rfl,rfl,rfl,Nat.le_refl _,fun _ _=>rfl⟩;have C:=aA (sU a len cap z hl W.drew (R.out.kept (HB.out.1.trans ⟨rfl,rfl,rfl,Nat.le_refl _,fun _ _=>rfl⟩)));have hs:=HB.out.2.2.2;obtain ⟨⟨x0,x1,x2,x3⟩, -⟩:=aL HB.out.2.1;clear hW hdr
   go_region_with (first
    | (go_at_call 154
       with_reducible refine C.out.mono ?_
       rintro e w2 ⟨⟨a2,c2,rfl,hr2,hb2⟩,hb⟩;have hz2:=hb.size;have hres:=(hb.block (w.heap.size+1) (by show _<W.heap.size;omega)).trans HB.out.2.2.1;clear x0 x1 x2 x3;obtain ⟨⟨x0,x1,x2,x3⟩, -⟩:=aL ((hb.block w.heap.size (by show _<W.heap.size;omega)).trans HB.out.2.1);obtain ⟨⟨y0,y1,y2,y3⟩,⟨z0,z1,z2,z3⟩⟩:=aL hres;have H2:=aA (And.intro hr2 (And.intro hb2 (HB.out.1.trans ((show Below w.heap.size W W.drew from ⟨rfl,rfl,rfl,Nat.le_refl _,fun _ _=>rfl⟩).trans (hb.mono (by show _<=W.heap.size;omega))))));clear hr2 hb2 hb hres)
    | fail)
   all_goals
    have P:=aA (p:=sZ w 3 n s len z (.returned (.agg #[.int .i64 3,.int .i64 0,.string ⟨#[]⟩,.slice a2 len c2])) ((((w2.setCell ⟨w.heap.size+1,0,none⟩ (.int .i64 3)).setCell ⟨w.heap.size+1,1,none⟩ (.int .i64 0)).setCell ⟨w.heap.size+1,2,none⟩ (.string ⟨#[]⟩)).setCell ⟨w.heap.size+1,3,none⟩ (.slice a2 len c2)))
     ⟨⟨a2,c2,rfl,(fun b hb=>by have:=H2.out.2.1 b hb;have hW':W.drew.heap.size=w.heap.size+2:=hs;omega),fun w3 k3=>H2.out.1.keptS ((yZ w2 (w.heap.size+1) _ _ _ _).trans k3 (fun _ h _=>h)) (fun b hb h=>by have:=H2.out.2.1 b hb;have h':b.block=w.heap.size+1:=h;have hW':W.drew.heap.size=w.heap.size+2:=hs;omega)⟩,j8 H2.out.2.2 (Nat.le_succ _) _ _ _ _⟩
    go_wp2
    exact bodyPost_ret (v:=.agg #[.int .i64 3,.int .i64 0,.string ⟨#[]⟩,.slice a2 len c2]) (by simp [results,Tryz.results96,go_sem, *]) rfl P.out
 have q3:(k == 3)=false:=by simpa using h3
 have P:=aA (p:=∀ W,Below w.heap.size w W->sZ w k n s len z (.returned (.agg #[.int .i64 k,.int .i64 0,.string ⟨#[]⟩,.slice none 0 0])) W) (fun W h=>⟨⟨none,0,by unfold twN twS twL;rw [if_neg h1,if_neg h2,if_neg h3],(fun b h=>by cases h),fun w3 _=>by unfold twL;rw [if_neg h3];exact sA w3 z⟩,h⟩);clear h1 h2 h3;go_enter Tryz.func96,Tryz.ntmps96
 go_wp2_with fail
 exact bodyPost_ret (v:=.agg #[.int .i64 k,.int .i64 0,.string ⟨#[]⟩,.slice none 0 0]) (by simp [results,Tryz.results96,go_sem]) rfl (P.out _ (nY w _ _).1)
end
section
open Go.RowKit
def RO (w:World) (F:Nat->Prop) (e:AD×VC):Prop :=
 e.2.k=e.1.k/\e.2.n=e.1.n/\e.2.s=e.1.s/\e.2.len=e.1.len/\Reads w e.2.y e.1.len e.1.z/\(e.1.len=0\/∀ b,e.2.y=some b->¬ F b.block)
theorem RO.kept {w w':World} {F F' S:Nat->Prop} {e:AD×VC} (h:RO w F e) (hk:aC S w w') (hS:∀ k,S k->k<w.heap.size->F k) (hg:∀ k,F' k->k<w.heap.size->F k):RO w' F' e:=by
 obtain ⟨h1,h2,h3,h4,hr,hF⟩:=h;refine ⟨h1,h2,h3,h4,?_,?_⟩
 · refine ⟨hr.1,?_⟩
   rcases hr.2 with h0 | ⟨b,off,hy,hc⟩
   · exact .inl h0
   · rcases hF with h0 | hF
     · exact .inl h0
     · refine .inr ⟨b,off,hy,fun j hj=>hk.cell (hc j hj) (fun hs=>hF _ hy (hS b hs (by have:=World.block_lt_of_cell? w _ (hc j hj);simpa using this)))⟩
 · rcases hF with h0 | hF
   · exact .inl h0
   · rcases hr.2 with h0 | ⟨b,off,hy,hc⟩
     · exact .inl h0
     · by_cases hl:e.1.len=0
       · exact .inl hl
       · refine .inr fun b' hb' h'=>?_
         rw [hy] at hb';cases hb';exact hF _ hy (hg _ h' (by have:=World.block_lt_of_cell? w _ (hc 0 (by omega));simpa using this))
def twA (x:AD):AD:=⟨x.m,x.k,twN x.k x.n,twS x.k x.s,twL x.k x.len,x.z⟩
end
section
open Go.RowKit
end
section
open Go.RowKit
def twsA (A:Nat->AD) (k:Nat):List AD:=(List.range k).map fun j=>twA (A j)
def RiseA (A:Nat->AD) (n:Nat):Prop:=∀ i j,i<j->j<n->lsS (A i).m (A j).m=true
end
section
open Go.RowKit
end
section
open Go.RowKit
end
section
open Go.RowKit
end
end
section
section
open Go.RowKit
end
section
open Go.RowKit
abbrev tv (l:List UInt8):Value:=.string ⟨l.toArray⟩
end
section
open Go.RowKit
end
section
open Go.RowKit
end
section
open Go.RowKit
end
section
open Go.RowKit
end
section
open Go.RowKit
end
section
open Go.RowKit
end
end
end Go.Proofs.YtgfkjkokmcejbaaGreatDoor.Wr
namespace Go.Proofs.YtgfkjkokmcejbaaGreatDoor
open Go.RowKit
section
open Go.RowKit
theorem iJ {w:World} {base:Nat} {e:TypeId} {size:Nat} {a:Option Addr} {n c j:Nat} {xs:List Value} {u:Value} (h:w.ownsRow base e size (.slice a n c) n xs) (hj:xs[j]? = some u):∃ g,a=some ⟨g,0,none⟩/\w.cell? ⟨g,j,none⟩=some u:=by
 cases a with
 | none =>
   rcases h.2 with ⟨_,h2⟩ | ⟨g,cap,cur,h1,_⟩
   · have:=h.1
     subst h2;rw [Nat.zero_mul] at this;rw [List.length_eq_zero_iff.1 this] at hj;cases hj
   · cases h1
 | some a =>
   obtain ⟨g,h1,h2⟩:=oC h hj;exact ⟨g,by rw [h1],h2⟩
theorem Iv {w:World} {base:Nat} {e:TypeId} {a:Option Addr} {c n:Nat} {xs:List Value} (h:w.ownsRow base e 1 (.slice a n c) n xs):n<=c/\c<=maxLen:=by
 rcases h.2 with ⟨h,_⟩ | ⟨g,cap,cur,h,_,_,h1,h2,_⟩
 · simp only [Value.slice.injEq] at h
   obtain ⟨_,rfl,rfl⟩:=h;exact ⟨Nat.le_refl _,Nat.zero_le _⟩
 · simp only [Value.slice.injEq] at h
   obtain ⟨_,_,rfl⟩:=h;exact ⟨h1,h2⟩
theorem eC {W:World} {base:Nat} {e:TypeId} {size:Nat} {v:Value} {k:Nat} {xs:List Value} (h:W.ownsRow base e size v k xs):∃ a cap,v=.slice a k cap:=by
 rcases h.2 with ⟨rfl,rfl⟩ | ⟨g,cap,_,rfl,_⟩
 · exact ⟨_,_,rfl⟩
 · exact ⟨_,_,rfl⟩
structure QC where
 a1:Option Addr
 c1:Nat
 a2:Option Addr
 c2:Nat
abbrev kY (d:CD) (q:QC):List Value:=[.string d.op,.string d.a.op,.string d.a.nm,.int .i64 d.a.n,.slice q.a1 d.a.ks.len q.c1,.string d.b.op,.string d.b.nm,.int .i64 d.b.n,.slice q.a2 d.b.ks.len q.c2]
def cdL:List CD->List QC->List Value
 | d::r,q::s=>kY d q++cdL r s
 | _,_=>[]
def nW (G:Nat->Prop) (w:World) (l:List CD) (qs:List QC):Prop:=∀ (j:Nat) (d:CD) (q:QC),l[j]? = some d->qs[j]? = some q->aQ G w q.a1 d.a.ks/\aQ G w q.a2 d.b.ks
theorem EX:∀ (l:List CD) (q:List QC),∀ u∈cdL l q,u.oneCell'=true
 | [],_,u,h=>by simp [cdL] at h
 | _::_,[],u,h=>by simp [cdL] at h
 | d :: r, p :: s, u, h => by
   rw [cdL] at h;rcases List.mem_append.1 h with h | h
   · simp only [kY,List.mem_cons,List.not_mem_nil,or_false] at h
     rcases h with rfl | rfl | rfl | rfl | rfl | rfl | rfl | rfl | rfl <;> rfl
   · exact EX r s u h
theorem EY:∀ (l m:List CD) (q p:List QC),q.length=l.length->cdL (l++m) (q++p)=cdL l q++cdL m p
 | [],m,[],p,_=>rfl
 | [],_,_::_,_,h=>by simp at h
 | _::_,_,[],_,h=>by simp at h
 | d::r,m,q::s,p,h=>by rw [List.cons_append,List.cons_append,cdL,cdL,EY r m s p (by simpa using h),List.append_assoc]
theorem Ea:∀ (l:List CD) (q:List QC) {k:Nat} {d:CD} (_:q.length=l.length) (_:l[k]? = some d),∃ p,q[k]? = some p/\∀ i u,(kY d p)[i]? = some u->(cdL l q)[k*9+i]? = some u
 | [],_,k,d,_,hk=>by simp at hk
 | _::_,[],k,d,h,_=>by simp at h
 | d :: r, p :: s, 0, d', h, hk => by
   cases hk;refine ⟨p,rfl,fun i u hu=>?_⟩
   have hi:i<9:=by
    have:=(List.getElem?_eq_some_iff.1 hu).1;exact this
   rw [cdL,Nat.zero_mul,Nat.zero_add,List.getElem?_append_left (by simpa [kY] using hi)];exact hu
 | d :: r, p :: s, k + 1, d', h, hk => by
   obtain ⟨p',h1,h2⟩:=Ea r s (k:=k) (d:=d') (by simpa using h) (by simpa using hk);refine ⟨p',by simpa using h1,fun i u hu=>?_⟩;rw [cdL,List.getElem?_append_right (by simp [kY];omega)];have:(k+1)*9+i-(kY d p).length=k*9+i:=by simp [kY];omega
   rw [this];exact h2 i u hu
theorem nW.keptS {S G:Nat->Prop} {w w':World} {l:List CD} {qs:List QC} (h:nW G w l qs) (hk:aC S w w') (hS:∀ k,S k->¬ G k):nW G w' l qs:=fun j d q h1 h2=>⟨(h j d q h1 h2).1.keptS hk hS,(h j d q h1 h2).2.keptS hk hS⟩
theorem nW.imp {G H:Nat->Prop} {w:World} {l:List CD} {qs:List QC} (h:nW G w l qs) (hG:∀ b,b<w.heap.size->G b->H b):nW H w l qs:=fun j d q h1 h2=>⟨(h j d q h1 h2).1.imp hG,(h j d q h1 h2).2.imp hG⟩
theorem nW.snoc {G:Nat->Prop} {w:World} {l:List CD} {qs:List QC} (h:nW G w l qs) (hl:qs.length=l.length) {d:CD} {q:QC} (h1:aQ G w q.a1 d.a.ks) (h2:aQ G w q.a2 d.b.ks):nW G w (l++[d]) (qs++[q]):=fun j d' q' e1 e2=>by
 rcases Nat.lt_or_ge j l.length with hj | hj
 · rw [List.getElem?_append_left hj] at e1
   rw [List.getElem?_append_left (by omega)] at e2;exact h j d' q' e1 e2
 · rw [List.getElem?_append_right hj] at e1
   rw [List.getElem?_append_right (by omega)] at e2;rw [hl] at e2;cases hm:j-l.length with
   | zero =>
     rw [hm] at e1 e2;cases e1;cases e2;exact ⟨h1,h2⟩
   | succ m=>rw [hm] at e1;simp at e1
theorem Dl {G:Nat->Prop} {w:World} {B:Nat} {e:TypeId} {a:Option Addr} {c:Nat} {l:List CD} {qs:List QC} (ho:w.ownsRow B e 9 (.slice a l.length c) l.length (cdL l qs)) (hl:qs.length=l.length) (hk:nW G w l qs) (hG:∀ b,a=some ⟨b,0,none⟩->G b):iE G w a l:=by
 by_cases hn:l=[]
 · exact .inl hn
 right
 have h0:∃ d,l[0]? = some d:=by
  cases l with
  | nil=>exact absurd rfl hn
  | cons d r=>exact ⟨d,rfl⟩
 obtain ⟨d0,hd0⟩:=h0;obtain ⟨p0, -,hp0⟩:=Ea l qs hl hd0;obtain ⟨g,hg,c0⟩:=iJ ho (hp0 0 _ rfl);have hlt:g<w.heap.size:=by have:=World.block_lt_of_cell? w _ c0;simpa using this
 refine ⟨g,0,hg,hG g hg,hlt,fun j d hj=>?_⟩;obtain ⟨p,hp,hc⟩:=Ea l qs hl hj;obtain ⟨k1,k2⟩:=hk j d p hj hp
 have get:∀ i u,(kY d p)[i]? = some u->w.cell? ⟨g,0+j*9+i,none⟩=some u:=fun i u hu=>by
  obtain ⟨g',hg',c⟩:=iJ ho (hc i u hu);rw [hg] at hg';cases hg';rw [Nat.zero_add];exact c
 exact ⟨p.a1,p.c1,p.a2,p.c2,⟨get 0 _ rfl,get 1 _ rfl,get 2 _ rfl,get 3 _ rfl,get 4 _ rfl,get 5 _ rfl,get 6 _ rfl,get 7 _ rfl,get 8 _ rfl⟩,k1,k2⟩
theorem lF {L:List Tk} (hL:∀ t∈L,cD t) {s:RS} (hp:jA L.length s) (h:(bB L s).2.bad=0):s.bad=0/\aK (bB L s).1=0:=by
 unfold bB at h |-
 by_cases hb:s.bad=0
 · rw [if_pos hb] at h |-
   cases ho:ofL L s.pos with
   | ok t q=>exact ⟨hb,(BJ hL ho).1⟩
   | bad q e =>
     rw [ho] at h;exact absurd h ((vC (hp.1 hb)).2 q e ho).2
 · rw [if_neg hb] at h
   exact absurd h hb
theorem nN {e:Int} (he:¬ e=0) (s:RS):¬ (bV e s).bad=0:=rC e he s
theorem uC {L:List Tk} {x:List UInt8} {s:RS} (h:(bG L x s).bad=0):s.bad=0:=by
 unfold bG at h;by_cases hb:s.bad=0
 · exact hb
 · rw [if_neg hb] at h;exact h
theorem Kf {L:List Tk} {s:RS} (h:(oR L s).2.bad=0):s.bad=0/\¬ ((oR L s).1<1\/16<(oR L s).1):=by
 unfold oR at h |-
 by_cases hb:s.bad=0
 · rw [if_pos hb] at h |-
   refine ⟨hb,?_⟩;cases ht:L[s.pos]? with
   | none=>rw [ht] at h;exact absurd h (nN (by decide) s)
   | some t =>
     rw [ht] at h;simp only at h |-
     by_cases h2:t.kind=2
     · rw [if_pos h2] at h |-
       simp only at h |-
       by_cases hk:t.num<1\/16<t.num
       · rw [if_pos hk] at h
         exact absurd h (nN (by decide) s)
       · exact hk
     · rw [if_neg h2] at h
       exact absurd h (nN (by decide) s)
 · rw [if_neg hb] at h;exact absurd h hb
theorem JP {L:List Tk} (hL:∀ t∈L,cD t) {fn:List UInt8} {s:RS} (hs:jA L.length s) (h:(dQ L fn s).2.bad=0) :
 s.bad=0/\jA L.length (dQ L fn s).2/\(fn=eQ->¬ ((dQ L fn s).1.1<1\/16<(dQ L fn s).1.1))/\(¬ fn=aT->aK (dQ L fn s).1.2.1=0)/\(fn=bE->aK (dQ L fn s).1.2.2=0):=by
 unfold dQ at h |-
 by_cases hc:fn=aT
 · rw [if_pos hc] at h |-
   subst hc;exact ⟨h,hs,fun e=>absurd e (by decide),fun e=>absurd rfl e,fun e=>absurd e (by decide)⟩
 rw [if_neg hc] at h |-
 by_cases ht:fn=eQ
 · subst ht
   have hf:¬ eQ=bE:=by decide
   simp only [if_pos,if_neg hf] at h |-
   have f1:=Ke (L:=L) hs;have f2:=qD (x:=[44]) f1;have e:=lF hL f2 h;have t:=Kf (uC e.1);exact ⟨t.1,lE f2,fun _=>t.2,fun _=>e.2,fun e=>absurd e hf⟩
 · simp only [if_neg ht] at h |-
   by_cases hf:fn=bE
   · simp only [if_pos hf] at h |-
     have f1:=lE (L:=L) hs;have f2:=qD (x:=[44]) f1;have e:=lF hL f2 h;have d:=lF hL hs (uC e.1);exact ⟨d.1,lE f2,fun x=>absurd x ht,fun _=>d.2,fun _=>e.2⟩
   · simp only [if_neg hf] at h |-
     have d:=lF hL hs h;exact ⟨d.1,lE hs,fun x=>absurd x ht,fun _=>d.2,fun x=>absurd x hf⟩
theorem KQ {L:List Tk} {p:Nat} (h:opB L p=true):(bH ⟨(eN L p).toArray⟩ 0 0).isSome=true:=by
 unfold opB at h;unfold eN;cases ht:L[p]? with
 | none=>rw [ht] at h;cases h
 | some t=>rw [ht] at h;exact h
theorem Cv {L:List Tk} (hL:∀ t∈L,cD t) {s:RS} (hs:jA L.length s) (h:(dD L s).2.bad=0):s.bad=0/\jA L.length (dD L s).2/\fC [(dD L s).1]=0:=by
 unfold dD at h |-
 simp only at h |-
 by_cases hb:(bB L s).2.bad=0
 · rw [if_pos hb] at h |-
   have f1:=lE (L:=L) hs;have e:=lF hL hs hb;by_cases ho:opB L (bB L s).2.pos=true
   · rw [if_pos ho] at h |-
     have f2:=gJ f1 (fun _=>Nw ho);have d:=lF hL f2 h;refine ⟨e.1,lE f2,?_⟩;unfold fC;simp only;rw [if_neg (by rw [KQ ho];decide),if_pos e.2,if_pos d.2];rfl
   · rw [if_neg ho] at h
     exact absurd h (nN (by decide) _)
 · rw [if_neg hb] at h;exact absurd h hb
theorem wE (c:CD):∀ l:List CD,fC l=0->fC [c]=0->fC (l++[c])=0
 | [],_,h=>h
 | d :: l, h, hc => by
   rw [List.cons_append];rw [fC] at h |-
   by_cases h1:(bH d.op 0 0).isSome=false
   · rw [if_pos h1] at h;cases h
   rw [if_neg h1] at h |-
   by_cases h2:aK d.a=0
   · rw [if_pos h2] at h |-
     by_cases h3:aK d.b=0
     · rw [if_pos h3] at h |-;exact wE c l h hc
     · rw [if_neg h3] at h;exact absurd h h3
   · rw [if_neg h2] at h;exact absurd h h2
theorem zF {L:List Tk} (hL:∀ t∈L,cD t):∀ (f:Nat) (acc:List CD) (s:RS),jA L.length s->(s.bad=0->s.pos<L.length)->acc.length<=4->fC acc=0->(gL L f acc s).2.bad=0->fC (gL L f acc s).1=0/\(gL L f acc s).1.length<=4
 | 0,acc,s,_,_,hl,ha,_=>⟨ha,hl⟩
 | f + 1, acc, s, hs, hp, hl, ha, h => by
   rw [gL] at h |-
   by_cases h4:acc.length=4
   · rw [if_pos h4] at h
     exact absurd h (nN (by decide) _)
   rw [if_neg h4] at h |-
   simp only at h |-
   have f1:=gJ hs hp;by_cases hm:((dD L (bW s)).2.bad == 0 && eO L mS (dD L (bW s)).2.pos)=true
   · rw [if_pos hm] at h |-
     simp only [Bool.and_eq_true,beq_iff_eq] at hm;have c:=Cv hL f1 hm.1;exact zF hL f _ _ c.2.1 (fun _=>Ej hm.2) (by rw [List.length_append];show acc.length+1<=4;omega) (wE _ _ ha c.2.2) h
   · rw [if_neg hm] at h |-
     have c:=Cv hL f1 h;exact ⟨wE _ _ ha c.2.2,by rw [List.length_append];show acc.length+1<=4;omega⟩
theorem JV {L:List Tk} (hL:∀ t∈L,cD t) {a:AG} (h:agL L=.ok a):fJ a=0:=by
 unfold agL at h;cases h0:L[0]? with
 | none=>rw [h0] at h;cases h
 | some t =>
   rw [h0] at h;have hlen:1<=L.length:=by have:=(List.getElem?_eq_some_iff.1 h0).1;omega
   simp only at h;by_cases hk:t.kind=1
   · rw [if_neg (by simpa using hk)] at h
     cases hf:fB t.text with
     | false=>rw [hf,if_pos rfl] at h;cases h
     | true =>
       rw [hf,if_neg (by decide)] at h;by_cases h1:(bG L [40] ⟨1,0,0,0⟩).bad=0
       · rw [if_neg (by simpa using h1)] at h
         have f1:jA L.length (bG L [40] ⟨1,0,0,0⟩):=qD ⟨fun _=>hlen,Nat.zero_le _⟩;by_cases h2:(bG L [41] (dQ L t.text (bG L [40] ⟨1,0,0,0⟩)).2).bad=0
         · rw [if_neg (by simpa using h2)] at h
           obtain ⟨-,f2,a1,a2,a3⟩:=JP hL f1 (uC h2);have f3:=qD (x:=[41]) f2
           have done:∀ wh:List CD,fC wh=0->wh.length<=4->fJ ⟨⟨t.text.toArray⟩,(dQ L t.text (bG L [40] ⟨1,0,0,0⟩)).1.1,(dQ L t.text (bG L [40] ⟨1,0,0,0⟩)).1.2.1,(dQ L t.text (bG L [40] ⟨1,0,0,0⟩)).1.2.2,wh⟩=0:=fun wh e1 e2=>by
            have hE:Cm ⟨⟨t.text.toArray⟩,(dQ L t.text (bG L [40] ⟨1,0,0,0⟩)).1.1,(dQ L t.text (bG L [40] ⟨1,0,0,0⟩)).1.2.1,(dQ L t.text (bG L [40] ⟨1,0,0,0⟩)).1.2.2,wh⟩=0:=by
             unfold Cm;simp only;by_cases c1:t.text=aT
             · rw [if_pos c1]
             · rw [if_neg c1,if_pos (a2 c1)]
               by_cases c2:t.text=bE
               · rw [if_pos c2];exact a3 c2
               · rw [if_neg c2]
            unfold fJ;simp only;rw [if_neg (by rw [hf];decide),if_neg (fun x=>a1 x.1 x.2),if_pos hE,if_neg (by omega)];exact e1
           by_cases h3:L.length<=(bG L [41] (dQ L t.text (bG L [40] ⟨1,0,0,0⟩)).2).pos
           · rw [if_pos h3] at h
             cases h;exact done [] rfl (by simp)
           · rw [if_neg h3] at h
             cases hw:eO L fP (bG L [41] (dQ L t.text (bG L [40] ⟨1,0,0,0⟩)).2).pos with
             | false=>rw [hw,if_pos rfl] at h;cases h
             | true =>
               rw [hw,if_neg (by decide)] at h;by_cases h5:(gL L 5 [] (bG L [41] (dQ L t.text (bG L [40] ⟨1,0,0,0⟩)).2)).2.bad=0
               · rw [if_neg (by simpa using h5)] at h
                 have c:=zF hL 5 [] _ f3 (fun _=>by omega) (by simp) rfl h5;split at h
                 · cases h
                 · cases h
                   exact done _ c.1 c.2
               · rw [if_pos h5] at h;cases h
         · rw [if_pos h2] at h;cases h
       · rw [if_pos h1] at h;cases h
   · rw [if_pos hk] at h;cases h
theorem JT {l:List UInt8} {a:AG} (h:agX l=.ok a):fJ a=0:=by
 unfold agX at h;cases hx:j0 l with
 | bad p e=>rw [hx] at h;cases h
 | ok L =>
   rw [hx] at h;simp only at h;cases ha:agL L with
   | bad p e=>rw [ha] at h;cases h
   | ok b =>
     rw [ha] at h;cases h;exact JV (oH hx) ha
def xD (r:xE) (w0:World) (e:Ending) (w':World):Prop:=Below w0.heap.size w0 w' /\
 match r with
 | .bad p er=>e=.returned (.tuple #[agV cB aR,.int .i64 (p:Nat),.int .i64 er])
 | .ok a=>∃ p,e=.returned (.tuple #[agV a p,.int .i64 0,.int .i64 0])/\aJ (fun b=>w0.heap.size<=b) w' a p
section
variable {w : World} {ts : List Tk} {rb ab : Nat} {a : Option Addr} {c : Nat} {x : AG} {p : PA} {qs : List QC} {s s' : RS} {V V' : World}
end
def L7 (c:CD):CD:=⟨c.op,mC c.a,mC c.b⟩
def Az (a:AG):AG:=⟨a.fn,if a.fn.data.toList=eQ then a.k else 0,if a.fn.data.toList=aT then aI else mC a.e,if a.fn.data.toList=bE then mC a.g else aI,a.wh.map L7⟩
abbrev Co:=Int×List UInt8×Int
def oT (c:CD):List Co:=aX c.a++(3,c.op.data.toList,0)::aX c.b
def mU:List CD->List Co
 | []=>[]
 | c::r=>(1,mS,0)::(oT c++mU r)
def uG:List CD->List Co
 | []=>[]
 | c::r=>(1,fP,0)::(oT c++mU r)
def oS (a:AG):List Co :=
 if a.fn.data.toList=aT then [] else
 if a.fn.data.toList=eQ then (2,Lib.itoa a.k,a.k)::(3,[44],0)::aX a.e else
 if a.fn.data.toList=bE then aX a.e++(3,[44],0)::aX a.g else aX a.e
def Mu (a:AG):List Co:=(1,a.fn.data.toList,0)::(3,[40],0)::(oS a++(3,[41],0)::uG a.wh)
def iW (x:List UInt8) (cs:List Co):Prop:=∀ r p,∃ ts,ts.map cV=cs/\dG (x++r) p=(dG r (p+x.length)).after ts
def iV (x:List UInt8) (cs:List Co):Prop:=∀ r,jX r->∀ p,∃ ts,ts.map cV=cs/\dG (x++r) p=(dG r (p+x.length)).after ts
theorem iW.s {x:List UInt8} {cs:List Co} (h:iW x cs):iV x cs:=fun r _ p=>h r p
theorem vN:iW [] []:=fun r p=>⟨[],rfl,by rw [sY];rfl⟩
theorem iW.appS {x y:List UInt8} {cs ds:List Co} (h:iW x cs) (k:iV y ds):iV (x++y) (cs++ds):=fun r hr p=>by
 obtain ⟨ts,a1,a2⟩:=h (y++r) p;obtain ⟨us,b1,b2⟩:=k r hr (p+x.length);exact ⟨ts++us,by rw [List.map_append,a1,b1],by rw [List.append_assoc,a2,b2,f8,List.length_append,Nat.add_assoc]⟩
theorem iV.appF {x y:List UInt8} {cs ds:List Co} (h:iV x cs) (k:iW y ds) (hy:∀ r,jX (y++r)):iW (x++y) (cs++ds):=fun r p=>by
 obtain ⟨ts,a1,a2⟩:=h (y++r) (hy r) p;obtain ⟨us,b1,b2⟩:=k r (p+x.length);exact ⟨ts++us,by rw [List.map_append,a1,b1],by rw [List.append_assoc,a2,b2,f8,List.length_append,Nat.add_assoc]⟩
theorem iV.app {x y:List UInt8} {cs ds:List Co} (h:iV x cs) (k:iV y ds) (hy:∀ r,jX r->jX (y++r)):iV (x++y) (cs++ds):=fun r hr p=>by
 obtain ⟨ts,a1,a2⟩:=h (y++r) (hy r hr) p;obtain ⟨us,b1,b2⟩:=k r hr (p+x.length);exact ⟨ts++us,by rw [List.map_append,a1,b1],by rw [List.append_assoc,a2,b2,f8,List.length_append,Nat.add_assoc]⟩
theorem fV {c:UInt8} (h:a6 c=false) (r:List UInt8):jX (c::r):=fun _ _ e=>by cases e;exact h
theorem eU:iW [32] []:=fun r p=>⟨[],rfl,by rw [sY];exact e8 r p⟩
theorem sD {x:List UInt8} (h:aW x=true):iV x [(1,x,0)]:=fun _ hr p=>⟨[⟨1,x,0,p⟩],rfl,B7 h hr p⟩
theorem oI (t:TN) (h:OkT t) (hn:cY t.f):iV (aO t) (aX t):=fun r hr p=>IV t h hn r hr p
theorem I0 {n:Int} (h0:0<=n) (h1:n<=9223372036854775807):iV (Lib.itoa n) [(2,Lib.itoa n,n)]:=fun _ hr p=>⟨[⟨2,Lib.itoa n,n,p⟩],rfl,EH h0 h1 hr p⟩
theorem yQ {c:UInt8} (hc:rW c):iW [c] [(3,[c],0)]:=fun r p=>⟨[⟨3,[c],0,p⟩],rfl,nH hc r p⟩
theorem Ll {x:List UInt8} (hx:1<=x.length) (h:∀ r,cL (x++r)=.tok 3 x.length 0) (h32:∀ r,¬ (x++r).head? = some 32):iW x [(3,x,0)]:=fun r p =>
 ⟨[⟨3,x,0,p⟩],rfl,by rw [iG (h32 r) hx (h r),List.drop_left,List.take_left]⟩
theorem vO:iW [44] [(3,[44],0)]:=Ll (by simp) (fun r=>by
 show kL (44::r)=.tok 3 1 0;unfold kL
 have:qN (44::r)=1:=by
  cases r with
  | nil=>rfl
  | cons d t =>
    show (if dI 44 d=true then 2 else if fO 44=true then 1 else 0)=1;rw [if_neg (by unfold dI;simp),if_pos (by decide)]
 rw [this];rfl) (fun r=>by simp)
theorem Ds {o:ByteArray} (h:(bH o 0 0).isSome=true):o.data.toList=[61]\/o.data.toList=[33,61]\/o.data.toList=[60]\/o.data.toList=[60,61]\/o.data.toList=[62]\/o.data.toList=[62,61]:=by
 unfold bH at h;by_cases h0:o=⟨#[61]⟩
 · left;rw [h0]
 rw [if_neg h0] at h;by_cases h1:o=⟨#[33,61]⟩
 · right;left;rw [h1]
 rw [if_neg h1] at h;by_cases h2:o=⟨#[60]⟩
 · right;right;left;rw [h2]
 rw [if_neg h2] at h;by_cases h3:o=⟨#[60,61]⟩
 · right;right;right;left;rw [h3]
 rw [if_neg h3] at h;by_cases h4:o=⟨#[62]⟩
 · right;right;right;right;left;rw [h4]
 rw [if_neg h4] at h;by_cases h5:o=⟨#[62,61]⟩
 · right;right;right;right;right;rw [h5]
 rw [if_neg h5] at h;cases h
theorem Lk {x:List UInt8} (h:x=[61]\/x=[33,61]\/x=[60]\/x=[60,61]\/x=[62]\/x=[62,61]):iW (x++[32]) [(3,x,0)]:=fun r p=>by
 have hf:cL (x++32::r)=.tok 3 x.length 0:=by
  rcases h with rfl | rfl | rfl | rfl | rfl | rfl <;> rfl
 have h32:¬ (x++32::r).head? = some 32:=by
  rcases h with rfl | rfl | rfl | rfl | rfl | rfl <;> simp
 have hx:1<=x.length:=by
  rcases h with rfl | rfl | rfl | rfl | rfl | rfl <;> simp
 refine ⟨[⟨3,x,0,p⟩],rfl,?_⟩;rw [show x++[32]++r=x++32::r by simp,iG h32 hx hf,List.drop_left,List.take_left,e8,List.length_append];rfl
def xA (l:List CD):Prop:=∀ d∈l,cY d.a.f/\cY d.b.f
structure fK (a:AG):Prop where
 e:cY a.e.f
 g:cY a.g.f
 c:xA a.wh
theorem iC {c:CD} {l:List CD} (h:fC (c::l)=0):(bH c.op 0 0).isSome=true/\aK c.a=0/\aK c.b=0/\fC l=0:=by
 rw [fC] at h;by_cases h1:(bH c.op 0 0).isSome=false
 · rw [if_pos h1] at h;cases h
 rw [if_neg h1] at h;by_cases h2:aK c.a=0
 · rw [if_pos h2] at h
   by_cases h3:aK c.b=0
   · rw [if_pos h3] at h;exact ⟨by cases hx:(bH c.op 0 0).isSome with | true=>rfl | false=>exact absurd hx h1,h2,h3,h⟩
   · rw [if_neg h3] at h;exact absurd h h3
 · rw [if_neg h2] at h;exact absurd h h2
theorem yP {c:CD} {l:List CD} (h:fC (c::l)=0) (hn:cY c.a.f/\cY c.b.f):iV (aO c.a++32::(c.op.data.toList++32::aO c.b)) (oT c):=by
 obtain ⟨h1,h2,h3, -⟩:=iC h;have A:=oI c.a ((cW _).1 h2).1 hn.1;have B:=oI c.b ((cW _).1 h3).1 hn.2;have y:=iW.appS eU (iW.appS (Lk (Ds h1)) B);have z:=iV.app A y (fun r _=>fV (by decide) _);simpa [oT] using z
theorem vM:∀ l:List CD,fC l=0->xA l->iV (gQ l) (mU l)
 | [],_,_=>vN.s
 | c :: r, h, hn => by
   have ih:=vM r (iC h).2.2.2 (fun d hd=>hn d (List.mem_cons_of_mem _ hd));have C:=yP h (hn c (List.mem_cons_self ..))
   have stop:∀ q,jX q->jX (gQ r++q):=fun q hq=>by
    cases r with
    | nil=>exact hq
    | cons d t=>exact fV (by decide) _
   have y:=iV.app C ih stop;have n:=iW.appS eU (iV.app (sD (x:=mS) (by decide)) (iW.appS eU y) (fun q _=>fV (by decide) _));simpa [gQ,mU,mS] using n
theorem DB:∀ l:List CD,fC l=0->xA l->iV (mX l) (uG l)
 | [],_,_=>vN.s
 | c :: r, h, hn => by
   have ih:=vM r (iC h).2.2.2 (fun d hd=>hn d (List.mem_cons_of_mem _ hd));have C:=yP h (hn c (List.mem_cons_self ..))
   have stop:∀ q,jX q->jX (gQ r++q):=fun q hq=>by
    cases r with
    | nil=>exact hq
    | cons d t=>exact fV (by decide) _
   have y:=iV.app C ih stop;have n:=iW.appS eU (iV.app (sD (x:=fP) (by decide)) (iW.appS eU y) (fun q _=>fV (by decide) _));simpa [mX,uG,fP] using n
theorem LH {x:List UInt8} (h:fB x=true):aW x=true:=by
 unfold fB at h;simp only [Bool.or_eq_true,beq_iff_eq] at h;rcases h with ((((h | h) | h) | h) | h) | h <;> rw [h] <;> decide
theorem cP {a:AG} (h:fJ a=0):fB a.fn.data.toList=true/\(a.fn.data.toList=eQ->1<=a.k/\a.k<=16)/\(¬ a.fn.data.toList=aT->aK a.e=0)/\(a.fn.data.toList=bE->aK a.g=0)/\a.wh.length<=4/\fC a.wh=0:=by
 unfold fJ at h;cases hf:fB a.fn.data.toList with
 | false=>rw [hf,if_pos rfl] at h;cases h
 | true =>
   rw [hf,if_neg (by decide)] at h;by_cases h1:a.fn.data.toList=eQ/\(a.k<1\/16<a.k)
   · rw [if_pos h1] at h;cases h
   rw [if_neg h1] at h;by_cases h2:Cm a=0
   · rw [if_pos h2] at h
     by_cases h3:4<a.wh.length
     · rw [if_pos h3] at h;cases h
     rw [if_neg h3] at h;refine ⟨rfl,fun e=>?_,fun e=>?_,fun e=>?_,by omega,h⟩
     · have:¬ (a.k<1\/16<a.k):=fun x=>h1 ⟨e,x⟩
       omega
     · unfold Cm at h2
       rw [if_neg e] at h2;by_cases h4:aK a.e=0
       · exact h4
       · rw [if_neg h4] at h2;exact absurd h2 h4
     · have e':¬ a.fn.data.toList=aT:=by rw [e];decide
       unfold Cm at h2;rw [if_neg e'] at h2;by_cases h4:aK a.e=0
       · rw [if_pos h4,if_pos e] at h2;exact h2
       · rw [if_neg h4] at h2;exact absurd h2 h4
   · rw [if_neg h2] at h;exact absurd h h2
theorem Lj {a:AG} (h:fJ a=0) (hn:fK a):iV (mF a) (oS a):=by
 obtain ⟨h1,h2,h3,h4,h5,h6⟩:=cP h;unfold mF oS;by_cases c1:a.fn.data.toList=aT
 · rw [if_pos c1,if_pos c1];exact vN.s
 rw [if_neg c1,if_neg c1];have E:=oI a.e ((cW _).1 (h3 c1)).1 hn.e;by_cases c2:a.fn.data.toList=eQ
 · rw [if_pos c2,if_pos c2]
   have hk:=h2 c2;have N:=I0 (n:=a.k) (by omega) (by omega);have y:=iV.app N (iW.appS vO (iW.appS eU E)) (fun q _=>fV (by decide) _);simpa using y
 rw [if_neg c2,if_neg c2];by_cases c3:a.fn.data.toList=bE
 · rw [if_pos c3,if_pos c3]
   have G:=oI a.g ((cW _).1 (h4 c3)).1 hn.g;have y:=iV.app E (iW.appS vO (iW.appS eU G)) (fun q _=>fV (by decide) _);simpa using y
 rw [if_neg c3,if_neg c3];exact E
def qB (post:List Co):Prop:=post=[]\/∃ k x v r,post=(k,x,v)::r/\(¬ k=3\/(([42] == x)=false/\([47] == x)=false/\([37] == x)=false/\([43] == x)=false/\([45] == x)=false))
theorem NZ {L:List Tk} {q post:List Co} (hL:L.map cV=q++post) (h:qB post):isM L q.length=false/\isA L q.length=false:=by
 rcases h with rfl | ⟨k,x,v,r,rfl,h⟩
 · have:L.length=q.length:=by
    have:=congrArg List.length hL;simpa using this
   exact ⟨LC (by omega),LD (by omega)⟩
 · obtain ⟨t,h1,h2,h3, -⟩:=iH hL
   have one:∀ y,(¬ k=3\/(y == x)=false)->isS L y q.length=false:=fun y hy=>by
    unfold isS;rw [h1];simp only;rw [h2,h3];simp only;rcases hy with hk | hy
    · have:(k == 3)=false:=by simpa using hk
      rw [this,Bool.false_and]
    · have:(x == y)=false:=by
       rw [beq_eq_false_iff_ne] at hy |-
       exact fun e=>hy e.symm
      rw [this,Bool.and_false]
   have h':∀ y,(y=[42]\/y=[47]\/y=[37]\/y=[43]\/y=[45])->(¬ k=3\/(y == x)=false):=fun y hy=>by
    rcases h with h | ⟨a,b,c,d,e⟩
    · exact .inl h
    · rcases hy with rfl | rfl | rfl | rfl | rfl
      · exact .inr a
      · exact .inr b
      · exact .inr c
      · exact .inr d
      · exact .inr e
   unfold isM isA;rw [one _ (h' [42] (.inl rfl)),one _ (h' [47] (.inr (.inl rfl))),one _ (h' [37] (.inr (.inr (.inl rfl)))),one _ (h' [43] (.inr (.inr (.inr (.inl rfl))))),one _ (h' [45] (.inr (.inr (.inr (.inr rfl)))))];exact ⟨rfl,rfl⟩
theorem KY {t:TN} (h:aK t=0) (hn:cY t.f) {L:List Tk} {pre post:List Co} (hL:L.map cV=pre++(aX t++post)) (hp:qB post):ofL L pre.length=.ok (mC t) (pre.length+(aX t).length):=by
 obtain ⟨ho,hs⟩:=(cW t).1 h;have hr:=Fz t ho hn L pre post hL ⟨pre.length,0,0,0⟩ rfl rfl (by show 0+_<=32;omega);simp only [Nat.zero_add] at hr;obtain ⟨nM,nA⟩:=NZ (q:=pre++aX t) (by rw [hL];simp) hp;rw [List.length_append] at nM nA
 have e:pE L .sum ⟨pre.length,0,0,0⟩=(mC t,⟨pre.length+(aX t).length,aH t,0,0⟩):=by
  rw [Is,Ad,hr];simp only;rw [nF];simp only;rw [if_neg (by rw [nM];decide),tZ];simp only;rw [if_neg (by rw [nA];decide)]
 unfold ofL;rw [e];rfl
abbrev rAt (p:Nat):RS:=⟨p,0,0,0⟩
theorem jE {t:TN} (h:aK t=0) (hn:cY t.f) {L:List Tk} {pre post:List Co} (hL:L.map cV=pre++(aX t++post)) (hp:qB post) {p:Nat} (e:p=pre.length):bB L (rAt p)=(mC t,rAt (p+(aX t).length)):=by
 subst e;unfold bB;rw [if_pos rfl];simp only;rw [KY h hn hL hp]
theorem nX {L:List Tk} {pre post:List Co} {x:List UInt8} {v:Int} (hL:L.map cV=pre++(3,x,v)::post) {p:Nat} (e:p=pre.length):bG L x (rAt p)=rAt (p+1):=by
 unfold bG;rw [if_pos rfl,if_pos (by rw [(dP hL e).1];simp)];rfl
theorem KR {o:ByteArray} (h:(bH o 0 0).isSome=true) (v:Int) (r:List Co):qB ((3,o.data.toList,v)::r):=by
 refine .inr ⟨_,_,_,_,rfl,.inr ?_⟩;rcases Ds h with h | h | h | h | h | h <;> rw [h] <;> decide
theorem n4 (c:UInt8) (h:c=41\/c=44) (v:Int) (r:List Co):qB ((3,[c],v)::r):=by
 refine .inr ⟨_,_,_,_,rfl,.inr ?_⟩;rcases h with rfl | rfl <;> decide
theorem DZ (l:List CD):qB (mU l):=by
 cases l with
 | nil=>exact .inl rfl
 | cons c r=>exact .inr ⟨_,_,_,_,rfl,.inl (by decide)⟩
theorem G4 {c:CD} {l:List CD} (h:fC (c::l)=0) (hn:cY c.a.f/\cY c.b.f) {L:List Tk} {pre post:List Co} (hL:L.map cV=pre++(oT c++post)) (hp:qB post) {p:Nat} (e:p=pre.length):dD L (rAt p)=(L7 c,rAt (p+(oT c).length)):=by
 obtain ⟨h1,h2,h3, -⟩:=iC h;have hL':L.map cV=pre++(aX c.a++(3,c.op.data.toList,0)::(aX c.b++post)):=by rw [hL];simp [oT]
 have hL1:L.map cV=(pre++aX c.a)++(3,c.op.data.toList,0)::(aX c.b++post):=by rw [hL'];simp
 have hL2:L.map cV=(pre++aX c.a++[(3,c.op.data.toList,0)])++(aX c.b++post):=by rw [hL'];simp
 have q1:p+(aX c.a).length=(pre++aX c.a).length:=by rw [e,List.length_append]
 have q2:p+(aX c.a).length+1=(pre++aX c.a++[(3,c.op.data.toList,0)]).length:=by rw [e];simp;omega
 have oe:=(dP (y:=[]) hL1 q1).2
 have ob:opB L (p+(aX c.a).length)=true:=by
  obtain ⟨t,t1, -,t3, -⟩:=iH hL1;unfold opB;rw [q1,t1];simp only;rw [t3];simp only;rw [lL];exact h1
 unfold dD;simp only;rw [jE h2 hn.1 hL' (KR h1 0 _) e];simp only;rw [if_pos trivial,if_pos ob];have st:bW (rAt (p+(aX c.a).length))=rAt (p+(aX c.a).length+1):=rfl;rw [st,jE h3 hn.2 hL2 hp q2,oe,lL];simp only [oT,List.length_append,List.length_cons];rw [show p+(aX c.a).length+1+(aX c.b).length=p+((aX c.a).length+((aX c.b).length+1)) by omega];rfl
theorem Ek {L:List Tk} {pre post:List Co} {x:List UInt8} {v:Int} (hL:L.map cV=pre++(1,x,v)::post) {p:Nat} (e:p=pre.length) (y:List UInt8):eO L y p=(x == y):=by
 obtain ⟨t,t1,t2,t3, -⟩:=iH hL;unfold eO;rw [e,t1];simp only;rw [t2,t3];simp
theorem Fa {L:List Tk} {p:Nat} (h:L.length<=p) (y:List UInt8):eO L y p=false:=by
 unfold eO;rw [List.getElem?_eq_none h]
theorem wL {L:List Tk}:∀ (l:List CD) (c:CD) (f:Nat) (acc:List CD) (pre:List Co) (x:List UInt8) (p:Nat),fC (c::l)=0->xA (c::l)->acc.length+(l.length+1)<=4->l.length+1<=f ->
 L.map cV=pre++(1,x,0)::(oT c++mU l)->p=pre.length->gL L f acc (rAt p)=(acc++(c::l).map L7,rAt L.length)
 | l,c,0,acc,pre,x,p,_,_,_,hf,_,_=>by omega
 | l, c, f + 1, acc, pre, x, p, h, hn, ha, hf, hL, e => by
   rw [gL,if_neg (by omega)];have st:bW (rAt p)=rAt (p+1):=rfl;have hL1:L.map cV=(pre++[(1,x,0)])++(oT c++mU l):=by rw [hL];simp
   have C:=G4 h (hn c (List.mem_cons_self ..)) hL1 (DZ l) (p:=p+1) (by rw [e];simp);rw [st,C];simp only;cases l with
   | nil =>
     have hlen:L.length=p+1+(oT c).length:=by
      have:=congrArg List.length hL1;simp [mU] at this;omega
     rw [if_neg (by rw [Fa (by omega)];simp),hlen];rfl
   | cons d r =>
     have hL2:L.map cV=(pre++[(1,x,0)]++oT c)++(1,mS,0)::(oT d++mU r):=by rw [hL1];simp [mU]
     have q:p+1+(oT c).length=(pre++[(1,x,0)]++oT c).length:=by rw [e];simp;omega
     rw [if_pos (by rw [Ek hL2 q];simp)];rw [wL r d f (acc++[L7 c]) _ mS _ (iC h).2.2.2 (fun y hy=>hn y (List.mem_cons_of_mem _ hy)) (by simp at ha |-;omega) (by simp at hf;omega) hL2 q];simp
theorem Hv {L:List Tk} {pre post:List Co} {x:List UInt8} {k:Int} (hL:L.map cV=pre++(2,x,k)::post) {p:Nat} (e:p=pre.length) (h1:1<=k) (h2:k<=16):oR L (rAt p)=(k,rAt (p+1)):=by
 obtain ⟨t,t1,t2, -,t4⟩:=iH hL;unfold oR;rw [if_pos rfl];simp only;rw [e,t1];simp only;rw [if_pos t2,t4,if_neg (by simp only;omega)];rfl
theorem Hf {a:AG} (h:fJ a=0) (hn:fK a) {L:List Tk} {pre post:List Co} (hL:L.map cV=pre++(oS a++(3,[41],0)::post)) {p:Nat} (e:p=pre.length) :
 dQ L a.fn.data.toList (rAt p)=(((Az a).k,(Az a).e,(Az a).g),rAt (p+(oS a).length)):=by
 obtain ⟨h1,h2,h3,h4,h5,h6⟩:=cP h;unfold dQ Az oS;unfold oS at hL;simp only;by_cases c1:a.fn.data.toList=aT
 · have c2:¬ a.fn.data.toList=eQ:=by rw [c1];decide
   have c3:¬ a.fn.data.toList=bE:=by rw [c1];decide
   rw [if_pos c1,if_neg c2,if_pos c1,if_neg c3,if_pos c1];rfl
 rw [if_neg c1] at hL;rw [if_neg c1,if_neg c1,if_neg c1];by_cases c2:a.fn.data.toList=eQ
 · have c3:¬ a.fn.data.toList=bE:=by rw [c2];decide
   rw [if_pos c2] at hL;have hk:=h2 c2;have hL0:L.map cV=pre++(2,Lib.itoa a.k,a.k)::((3,[44],0)::(aX a.e++(3,[41],0)::post)):=by rw [hL];simp
   have hL1:L.map cV=(pre++[(2,Lib.itoa a.k,a.k)])++(3,[44],0)::(aX a.e++(3,[41],0)::post):=by rw [hL];simp
   have hL2:L.map cV=(pre++[(2,Lib.itoa a.k,a.k),(3,[44],0)])++(aX a.e++(3,[41],0)::post):=by rw [hL];simp
   simp only [if_pos c2,if_neg c3];rw [Hv hL0 e hk.1 hk.2];simp only;rw [nX hL1 (by rw [e];simp),jE (h3 c1) hn.e hL2 (n4 41 (.inl rfl) 0 _) (by rw [e];simp)];simp only [List.length_cons];rw [show p+1+1+(aX a.e).length=p+((aX a.e).length+1+1) by omega]
 · rw [if_neg c2] at hL
   simp only [if_neg c2];by_cases c3:a.fn.data.toList=bE
   · rw [if_pos c3] at hL
     have hL0:L.map cV=pre++(aX a.e++(3,[44],0)::(aX a.g++(3,[41],0)::post)):=by rw [hL];simp
     have hL1:L.map cV=(pre++aX a.e)++(3,[44],0)::(aX a.g++(3,[41],0)::post):=by rw [hL];simp
     have hL2:L.map cV=(pre++aX a.e++[(3,[44],0)])++(aX a.g++(3,[41],0)::post):=by rw [hL];simp
     simp only [if_pos c3];rw [jE (h3 c1) hn.e hL0 (n4 44 (.inr rfl) 0 _) e];simp only;rw [nX hL1 (by rw [e];simp),jE (h4 c3) hn.g hL2 (n4 41 (.inl rfl) 0 _) (by rw [e];simp;omega)];simp only [List.length_append,List.length_cons];rw [show p+(aX a.e).length+1+(aX a.g).length=p+((aX a.e).length+((aX a.g).length+1)) by omega]
   · rw [if_neg c3] at hL
     simp only [if_neg c3];rw [jE (h3 c1) hn.e hL (n4 41 (.inl rfl) 0 _) e]
theorem JU {a:AG} (h:fJ a=0) (hn:fK a) {L:List Tk} (hL:L.map cV=Mu a):agL L=.ok (Az a):=by
 obtain ⟨h1,h2,h3,h4,h5,h6⟩:=cP h;have hL0:L.map cV=[]++(1,a.fn.data.toList,0)::((3,[40],0)::(oS a++(3,[41],0)::uG a.wh)):=hL;have hL1:L.map cV=[(1,a.fn.data.toList,0)]++(3,[40],0)::(oS a++(3,[41],0)::uG a.wh):=hL;have hL2:L.map cV=[(1,a.fn.data.toList,0),(3,[40],0)]++(oS a++(3,[41],0)::uG a.wh):=hL;have hL3:L.map cV=([(1,a.fn.data.toList,0),(3,[40],0)]++oS a)++(3,[41],0)::uG a.wh:=by rw [hL2];simp
 have hlen:L.length=2+(oS a).length+1+(uG a.wh).length:=by
  have:=congrArg List.length hL3;simp at this;omega
 obtain ⟨t,t1,t2,t3, -⟩:=iH hL0;have w1:=nX hL1 (p:=1) rfl;have w2:=Hf h hn hL2 (p:=2) rfl;have w3:=nX hL3 (p:=2+(oS a).length) (by simp;omega);unfold agL;rw [show L[0]? = some t from t1];simp only;rw [t3];simp only;rw [if_neg (by rw [t2];simp),h1,if_neg (by decide),show (⟨1,0,0,0⟩:RS)=rAt 1 from rfl,w1];simp only;rw [if_neg (by simp),show rAt (1+1)=rAt 2 from rfl,w2];simp only;rw [w3,if_neg (by simp),lL];cases hw:a.wh with
 | nil =>
   rw [hw] at hlen;rw [if_pos (by simp only [hlen,uG,List.length_nil];omega)];simp [Az,hw]
 | cons c r =>
   rw [hw] at hlen hL3 h5 h6;have hn':xA (c::r):=by rw [<- hw];exact hn.c
   have hL4:L.map cV=([(1,a.fn.data.toList,0),(3,[40],0)]++oS a++[(3,[41],0)])++(1,fP,0)::(oT c++mU r):=by rw [hL3];simp [uG]
   have q:2+(oS a).length+1=([(1,a.fn.data.toList,0),(3,[40],0)]++oS a++[(3,[41],0)]).length:=by simp;omega
   rw [if_neg (by simp only [hlen,uG,List.length_cons];omega)];simp only;rw [Ek hL4 q,if_neg (by simp),wL r c 5 [] _ fP _ h6 hn' (by simpa using h5) (by simp at h5;omega) hL4 q];simp only;rw [if_neg (by simp),if_neg (by omega)];simp [Az,hw]
def cZ (g:ByteArray->Option Int):List CD->Bool
 | []=>true
 | c::r=>(match evT g c.a,evT g c.b with | some x,some y=>(bH c.op x y).getD false | _,_=>false) && cZ g r
inductive EvR | no | num (n:Int) | list (l:List Int)
structure ES where
 n:Int
 some:Bool
 best:Int
 by':Int
 sum:Int
 top:List Int
def es0:ES:=⟨0,false,0,0,0,[]⟩
def mZ (fn:List UInt8) (g:ByteArray->Option Int) (y:TN) (s:ES) (e:Int):ES :=
 if fn=pG then { s with best:=if s.some=false\/e<s.best then e else s.best,some:=true }
 else if fn=rN then { s with best:=if s.some=false\/s.best<e then e else s.best,some:=true }
 else if fn=qE then { s with sum:=dC (s.sum+e),some:=true }
 else if fn=eQ then { s with top:=eD lsL s.top e,some:=true }
 else match evT g y with
  | none=>s
  | some b=>if s.some=false\/b<s.by' then { s with best:=e,by':=b,some:=true } else { s with some:=true }
theorem Bc (g:ByteArray->Option Int) (y:TN) (s:ES) (e:Int):mZ bE g y s e=match evT g y with
 | none=>s
 | some b=>if s.some=false\/b<s.by' then { s with best:=e,by':=b,some:=true } else { s with some:=true }:=by
 unfold mZ;rw [if_neg (show ¬ bE=pG by decide),if_neg (show ¬ bE=rN by decide),if_neg (show ¬ bE=qE by decide),if_neg (show ¬ bE=eQ by decide)]
def pJ (a:AG) (s:ES) (g:ByteArray->Option Int):ES :=
 if cZ g a.wh=false then s else
 if a.fn.data.toList=aT then { s with n:=s.n+1 } else
 match evT g a.e with
  | none=>{ s with n:=s.n+1 }
  | some e=>mZ a.fn.data.toList g a.g { s with n:=s.n+1 } e
def zD (a:AG) (s:ES):EvR :=
 if a.fn.data.toList=aT then .num s.n else
 if a.fn.data.toList=qE then .num s.sum else
 if a.fn.data.toList=eQ then .list (s.top.drop (s.top.length-a.k.toNat)) else
 if s.some=false then .no else .num s.best
def evG (a:AG) (gs:List (ByteArray->Option Int)):EvR:=zD a (gs.foldl (pJ a) es0)
def gA (a:AG) (gs:List (ByteArray->Option Int)):List (ByteArray->Option Int):=gs.filter (fun g=>cZ g a.wh)
def wD (a:AG) (gs:List (ByteArray->Option Int)):List Int:=(gA a gs).filterMap (fun g=>evT g a.e)
def pQ (a:AG) (gs:List (ByteArray->Option Int)):List (Int×Int):=(gA a gs).filterMap (fun g=>match evT g a.e,evT g a.g with | some e,some b=>some (e,b) | _,_=>none)
def stB {K:Type} (less:K->K->Bool) (o:Option K) (e:K):Option K:=match o with | none=>some e | some b=>if less e b=true then some e else some b
def aY {K:Type} (less:K->K->Bool) (l:List K):Option K:=l.foldl (stB less) none
theorem pI (a:AG) (g:ByteArray->Option Int) (gs:List (ByteArray->Option Int)):gA a (g::gs)=if cZ g a.wh=true then g::gA a gs else gA a gs:=by
 unfold gA;rw [List.filter_cons]
theorem Jl (a:AG):∀ (gs:List (ByteArray->Option Int)) (s:ES),(gs.foldl (pJ a) s).n=s.n+((gA a gs).length:Int)
 | [],s=>by simp [gA]
 | g :: gs, s => by
   rw [List.foldl_cons,Jl a gs,pI];unfold pJ;cases h:cZ g a.wh with
   | false=>rw [if_pos rfl,if_neg (by decide)]
   | true =>
     rw [if_neg (by decide),if_pos rfl,List.length_cons]
     have:∀ (t:ES),(if a.fn.data.toList=aT then ({ t with n:=t.n+1 }:ES) else match evT g a.e with
      | none=>{ t with n:=t.n+1 }
      | some e=>mZ a.fn.data.toList g a.g { t with n:=t.n+1 } e).n=t.n+1:=fun t=>by
      split
      · rfl
      · split
        · rfl
        · unfold mZ
          split
          · rfl
          split
          · rfl
          split
          · rfl
          split
          · rfl
          split
          · rfl
          split <;> rfl
     rw [this s];omega
theorem nJ {α : Type} (a:AG) (hc:¬ a.fn.data.toList=aT) (f:ES -> α) (h: α -> Int -> α) (hn:∀ (s:ES) (m:Int),f { s with n:=m }=f s)
 (hs:∀ (g:ByteArray->Option Int) (s:ES) (e:Int),f (mZ a.fn.data.toList g a.g s e)=h (f s) e):∀ (gs:List (ByteArray->Option Int)) (s:ES),f (gs.foldl (pJ a) s)=(wD a gs).foldl h (f s)
 | [],s=>rfl
 | g :: gs, s => by
   rw [List.foldl_cons,nJ a hc f h hn hs gs];unfold wD;rw [pI];unfold pJ;cases ht:cZ g a.wh with
   | false=>rw [if_pos rfl,if_neg (by decide)]
   | true =>
     rw [if_neg (by decide),if_pos rfl,if_neg hc];cases he:evT g a.e with
     | none=>simp only [List.filterMap_cons,he];rw [hn]
     | some e=>simp only [List.filterMap_cons,he,List.foldl_cons];rw [hs,hn]
theorem vZ {α : Type} (a:AG) (hc:¬ a.fn.data.toList=aT) (f:ES -> α) (h: α -> Int×Int -> α) (hn:∀ (s:ES) (m:Int),f { s with n:=m }=f s)
 (hs:∀ (g:ByteArray->Option Int) (s:ES) (e:Int),f (mZ a.fn.data.toList g a.g s e)=(match evT g a.g with | some b=>h (f s) (e,b) | none=>f s)):∀ (gs:List (ByteArray->Option Int)) (s:ES),f (gs.foldl (pJ a) s)=(pQ a gs).foldl h (f s)
 | [],s=>rfl
 | g :: gs, s => by
   rw [List.foldl_cons,vZ a hc f h hn hs gs];unfold pQ;rw [pI];unfold pJ;cases ht:cZ g a.wh with
   | false=>rw [if_pos rfl,if_neg (by decide)]
   | true =>
     rw [if_neg (by decide),if_pos rfl,if_neg hc];cases he:evT g a.e with
     | none=>simp only [List.filterMap_cons,he];rw [hn]
     | some e =>
       simp only [List.filterMap_cons,he];rw [hs,hn];cases evT g a.g <;> rfl
def BH (s:ES):Option Int:=if s.some=false then none else some s.best
def KM (s:ES):Option (Int×Int):=if s.some=false then none else some (s.best,s.by')
def lsG (a b:Int):Bool:=decide (b<a)
def lsP (a b:Int×Int):Bool:=decide (a.2<b.2)
theorem sP {a:AG} (h:a.fn.data.toList=aT) (gs:List (ByteArray->Option Int)):evG a gs=.num ((gA a gs).length:Int):=by
 unfold evG zD;rw [if_pos h,Jl];simp [es0]
theorem Aq {a:AG} (h:a.fn.data.toList=qE) (gs:List (ByteArray->Option Int)):evG a gs=.num ((wD a gs).foldl (fun s e=>dC (s+e)) 0):=by
 have hc:¬ a.fn.data.toList=aT:=by rw [h];decide
 unfold evG zD;rw [if_neg hc,if_pos h,nJ a hc (fun s=>s.sum) (fun s e=>dC (s+e)) (fun _ _=>rfl) (fun g s e=>by unfold mZ;rw [h];rfl)];rfl
theorem Ap {a:AG} (h:a.fn.data.toList=eQ) (gs:List (ByteArray->Option Int)):evG a gs=.list (((wD a gs).foldl (eD lsL) []).drop (((wD a gs).foldl (eD lsL) []).length-a.k.toNat)):=by
 have hc:¬ a.fn.data.toList=aT:=by rw [h];decide
 have hs:¬ a.fn.data.toList=qE:=by rw [h];decide
 unfold evG zD;rw [if_neg hc,if_neg hs,if_pos h,nJ a hc (fun s=>s.top) (eD lsL) (fun _ _=>rfl) (fun g s e=>by unfold mZ;rw [h];rfl)];rfl
theorem Ao {a:AG} (hc:¬ a.fn.data.toList=aT) (hs:¬ a.fn.data.toList=qE) (ht:¬ a.fn.data.toList=eQ) (s:ES):zD a s=match BH s with | none=>.no | some n=>.num n:=by
 unfold zD BH;rw [if_neg hc,if_neg hs,if_neg ht];cases s.some <;> rfl
theorem Ar {a:AG} (h:a.fn.data.toList=pG) (gs:List (ByteArray->Option Int)):evG a gs=match aY lsL (wD a gs) with | none=>.no | some n=>.num n:=by
 have hc:¬ a.fn.data.toList=aT:=by rw [h];decide
 unfold evG aY
 rw [Ao hc (by rw [h];decide) (by rw [h];decide),nJ a hc BH (stB lsL) (fun _ _=>rfl) (fun g s e=>by
  unfold mZ BH stB;rw [if_pos h];cases hx:s.some with
  | false=>simp
  | true =>
    by_cases hl:e<s.best
    · simp [hl,lsL]
    · simp [hl,lsL])]
 rfl
theorem As {a:AG} (h:a.fn.data.toList=rN) (gs:List (ByteArray->Option Int)):evG a gs=match aY lsG (wD a gs) with | none=>.no | some n=>.num n:=by
 have hc:¬ a.fn.data.toList=aT:=by rw [h];decide
 have hm:¬ a.fn.data.toList=pG:=by rw [h];decide
 unfold evG aY
 rw [Ao hc (by rw [h];decide) (by rw [h];decide),nJ a hc BH (stB lsG) (fun _ _=>rfl) (fun g s e=>by
  unfold mZ BH stB;rw [if_neg hm,if_pos h];cases hx:s.some with
  | false=>simp
  | true =>
    by_cases hl:s.best<e
    · simp [hl,lsG]
    · simp [hl,lsG])]
 rfl
theorem sO {a:AG} (h:a.fn.data.toList=bE) (gs:List (ByteArray->Option Int)):evG a gs=match aY lsP (pQ a gs) with | none=>.no | some n=>.num n.1:=by
 have hc:¬ a.fn.data.toList=aT:=by rw [h];decide
 have e:∀ s:ES,BH s=(KM s).map (fun n=>n.1):=fun s=>by unfold BH KM;cases s.some <;> rfl
 unfold evG aY
 rw [Ao hc (by rw [h];decide) (by rw [h];decide),e,vZ a hc KM (stB lsP) (fun _ _=>rfl) (fun g s e=>by
  rw [h,Bc];unfold KM stB;cases evT g a.g with
  | none=>rfl
  | some b =>
    simp only;cases hx:s.some with
    | false=>simp
    | true =>
      by_cases hl:b<s.by'
      · simp [hl,lsP]
      · simp [hl,lsP])]
 show (match Option.map (fun n:Int×Int=>n.1) (List.foldl (stB lsP) none (pQ a gs)) with | none=>EvR.no | some n=>.num n)=_;cases List.foldl (stB lsP) none (pQ a gs) <;> rfl
theorem AW:∀ (l k:List Int),aS lsL k->aS lsL (l.foldl (eD lsL) k)/\∀ x,x∈l.foldl (eD lsL) k ↔ x∈k\/x∈l
 | [],k,h=>⟨h,fun x=>by simp⟩
 | e :: l, k, h => by
   obtain ⟨a,b⟩:=AW l (eD lsL k e) (dN fL h e);refine ⟨a,fun x=>?_⟩;rw [List.foldl_cons,b,jO,List.mem_cons];constructor
   · rintro ((h | h) | h)
     · exact .inl h
     · exact .inr (.inl h)
     · exact .inr (.inr h)
   · rintro (h | h | h)
     · exact .inl (.inl h)
     · exact .inl (.inr h)
     · exact .inr h
structure LN where
 nm:ByteArray
 a:AG
def dS:List UInt8->List (List UInt8)
 | []=>[]
 | c :: r => if c = 10 then [] :: dS r else match dS r with
   | []=>[[c]]
   | x::q=>(c::x)::q
theorem vL {c:UInt8} (h:¬ c=10) {l x:List UInt8} {q:List (List UInt8)} (e:dS l=x::q):dS (c::l)=(c::x)::q:=by
 conv=>lhs;unfold dS
 rw [if_neg h,e]
theorem sC:∀ (x l:List UInt8),(∀ c∈x,¬ c=10)->dS (x++10::l)=x::dS l
 | [],l,_=>rfl
 | c :: x, l, h => by
   rw [List.cons_append];exact vL (h c (by simp)) (sC x l (fun d hd=>h d (by simp [hd])))
theorem vJ:∀ (x:List UInt8),¬ x=[]->(∀ c∈x,¬ c=10)->dS x=[x]
 | [],h,_=>absurd rfl h
 | [c], _, h => by
   unfold dS;rw [if_neg (h c (by simp))];rfl
 | c::d::x,_,h=>vL (h c (by simp)) (vJ (d::x) (by simp) (fun e he=>h e (by simp [he])))
def nU (c:UInt8):Bool:=c == 32
def fE (c:UInt8):Bool:=c != 32 && c != 61
def jS (l:List UInt8):Option (List UInt8×List UInt8) :=
 let a:=l.dropWhile nU
 if a.takeWhile fE=[] then none else match (a.dropWhile fE).dropWhile nU with
  | 61::r=>some (a.takeWhile fE,r)
  | _=>none
def dO (x:List UInt8):Bool:=x == [114,101,112] || x == [108,111,97,100] || x == [110] || x == [118,101,114]
inductive E4 | bad (p:Nat) (e:Int) | ok (l:List LN)
inductive CR | bad (e:Int) | ok (x:LN)
def gR (acc:List LN) (s:List UInt8):CR:=match jS s with
 | none=>.bad 2
 | some (nm, r) => if aW nm = false \/ dO nm = true then .bad 5 else
   if acc.any (fun x=>x.nm.data.toList == nm)=true then .bad 6 else match agX r with
    | .bad _ e=>.bad e
    | .ok a=>.ok ⟨⟨nm.toArray⟩,a⟩
def fY:List (List UInt8)->List LN->E4
 | [],acc=>.ok acc
 | s :: q, acc => if acc.length = 8 then .bad acc.length 4 else match gR acc s with
   | .bad e=>.bad acc.length e
   | .ok x=>fY q (acc++[x])
def jL (l:List UInt8):E4:=fY (dS l) []
def pB (x:LN):List UInt8:=x.nm.data.toList++32::61::32::(eG x.a++[10])
def kR:List LN->List UInt8
 | []=>[]
 | x::r=>pB x++kR r
theorem BZ {acc:List LN} {s:List UInt8} {e:Int} (hA:∀ (l:List UInt8) (p:Nat) (e:Int),agX l=.bad p e->¬ e=0) (h:gR acc s=.bad e):¬ e=0:=by
 unfold gR at h;split at h
 · cases h;decide
 · split at h
   · cases h;decide
   · split at h
     · cases h;decide
     · split at h
       · rename_i p e' he
         cases h;exact hA _ _ _ he
       · cases h
theorem Lh {acc:List LN} {s:List UInt8} {x:LN} (h:gR acc s=.ok x):∃ r,jS s=some (x.nm.data.toList,r)/\aW x.nm.data.toList=true/\dO x.nm.data.toList=false/\acc.any (fun y=>y.nm.data.toList == x.nm.data.toList)=false/\agX r=.ok x.a:=by
 unfold gR at h;split at h
 · cases h
 · rename_i nm r e1
   split at h
   · cases h
   · rename_i n2
     split at h
     · cases h
     · rename_i n3
       split at h
       · cases h
       · rename_i a ea
         cases h;refine ⟨r,e1,?_,?_,?_,ea⟩
         · cases hg:aW nm with
           | true=>rfl
           | false=>exact absurd (.inl hg) n2
         · cases hk:dO nm with
           | false=>rfl
           | true=>exact absurd (.inr hk) n2
         · simpa using n3
structure OkP (l:List LN):Prop where
 len:l.length<=8
 nm:∀ x∈l,aW x.nm.data.toList=true/\dO x.nm.data.toList=false
 nd:(l.map (fun x=>x.nm.data.toList)).Nodup
 ag:∀ x∈l,∃ r,agX r=.ok x.a
theorem OkP.snoc {l:List LN} (h:OkP l) (hl:¬ l.length=8) {x:LN} {r:List UInt8} (h1:aW x.nm.data.toList=true) (h2:dO x.nm.data.toList=false) (h3:l.any (fun y=>y.nm.data.toList == x.nm.data.toList)=false) (h4:agX r=.ok x.a):OkP (l++[x]):=by
 refine ⟨by have:=h.len;simp;omega,fun y hy=>?_,?_,fun y hy=>?_⟩
 · rcases List.mem_append.1 hy with hy | hy
   · exact h.nm y hy
   · simp at hy;subst hy;exact ⟨h1,h2⟩
 · rw [List.map_append,List.nodup_append]
   refine ⟨h.nd,by simp,fun a ha b hb e=>?_⟩;simp at hb;subst hb;subst e;obtain ⟨y,hy,e⟩:=List.mem_map.1 ha;have:l.any (fun y=>y.nm.data.toList == x.nm.data.toList)=true:=List.any_eq_true.2 ⟨y,hy,by simpa using e⟩;rw [this] at h3;cases h3
 · rcases List.mem_append.1 hy with hy | hy
   · exact h.ag y hy
   · simp at hy;subst hy;exact ⟨r,h4⟩
theorem Bz:∀ (q:List (List UInt8)) (acc l:List LN),OkP acc->fY q acc=.ok l->OkP l
 | [],acc,l,h,e=>by unfold fY at e;cases e;exact h
 | s :: q, acc, l, h, e => by
   unfold fY at e;split at e
   · cases e
   · rename_i hl
     split at e
     · cases e
     · rename_i x hx
       obtain ⟨r, -,h1,h2,h3,h4⟩:=Lh hx;exact Bz q _ l (h.snoc hl h1 h2 h3 h4) e
theorem KV:OkP []:=⟨by simp,fun _ h=>(nomatch h),by simp,fun _ h=>(nomatch h)⟩
theorem Bv {s:List UInt8} {l:List LN} (h:jL s=.ok l):OkP l:=Bz _ _ _ KV h
abbrev lnL (x:LN) (p:PA):List Value:=[.string x.nm,.string x.a.fn,.int .i64 x.a.k,.string x.a.e.op,.string x.a.e.nm,.int .i64 x.a.e.n,.slice p.ea x.a.e.ks.len p.ec,.string x.a.g.op,.string x.a.g.nm,.int .i64 x.a.g.n,.slice p.ga x.a.g.ks.len p.gc,.slice p.wa x.a.wh.length p.wc]
def mE (w:World) (b o:Nat) (x:LN) (p:PA):Prop :=
 w.cell? ⟨b,o,none⟩=some (.string x.nm)/\w.cell? ⟨b,o+1,none⟩=some (.string x.a.fn)/\w.cell? ⟨b,o+1+1,none⟩=some (.int .i64 x.a.k)/\w.cell? ⟨b,o+1+2,none⟩=some (.string x.a.e.op)/\w.cell? ⟨b,o+1+3,none⟩=some (.string x.a.e.nm)/\w.cell? ⟨b,o+1+4,none⟩=some (.int .i64 x.a.e.n)/\w.cell? ⟨b,o+1+5,none⟩=some (.slice p.ea x.a.e.ks.len p.ec) /\
  w.cell? ⟨b,o+1+6,none⟩=some (.string x.a.g.op)/\w.cell? ⟨b,o+1+7,none⟩=some (.string x.a.g.nm)/\w.cell? ⟨b,o+1+8,none⟩=some (.int .i64 x.a.g.n)/\w.cell? ⟨b,o+1+9,none⟩=some (.slice p.ga x.a.g.ks.len p.gc)/\w.cell? ⟨b,o+1+10,none⟩=some (.slice p.wa x.a.wh.length p.wc)
theorem mE.keptS {S:Nat->Prop} {w w':World} {b o:Nat} {x:LN} {p:PA} (h:mE w b o x p) (hk:aC S w w') (hb:¬ S b):mE w' b o x p:=by
 obtain ⟨h0,h1,h2,h3,h4,h5,h6,h7,h8,h9,h10,h11⟩:=h;exact ⟨hk.cell h0 hb,hk.cell h1 hb,hk.cell h2 hb,hk.cell h3 hb,hk.cell h4 hb,hk.cell h5 hb,hk.cell h6 hb,hk.cell h7 hb,hk.cell h8 hb,hk.cell h9 hb,hk.cell h10 hb,hk.cell h11 hb⟩
theorem D9 {w:World} {b o:Nat} {x:LN} {p:PA} (h:∀ i u,(lnL x p)[i]? = some u->w.cell? ⟨b,o+i,none⟩=some u):mE w b o x p :=
 ⟨h 0 _ rfl,h 1 _ rfl,h 2 _ rfl,h 3 _ rfl,h 4 _ rfl,h 5 _ rfl,h 6 _ rfl,h 7 _ rfl,h 8 _ rfl,h 9 _ rfl,h 10 _ rfl,h 11 _ rfl⟩
def cT (G:Nat->Prop) (w:World) (a:Option Addr) (l:List LN):Prop:=l=[]\/∃ b off,a=some ⟨b,off,none⟩/\G b/\b<w.heap.size/\∀ (j:Nat) x,l[j]? = some x->∃ p,mE w b (off+j*12) x p/\aJ G w x.a p
theorem cT.keptS {S G:Nat->Prop} {w w':World} {a:Option Addr} {l:List LN} (h:cT G w a l) (hk:aC S w w') (hS:∀ k,S k->¬ G k):cT G w' a l :=
 Or.imp id (fun ⟨b,off,e,hg,hlt,hc⟩=>⟨b,off,e,hg,Nat.lt_of_lt_of_le hlt hk.size,fun j x hj=>by
  obtain ⟨p,h1,h2⟩:=hc j x hj;exact ⟨p,h1.keptS hk (fun hs=>hS b hs hg),h2.keptS hk hS⟩⟩) h
theorem cT.kept {G:Nat->Prop} {w w':World} {a:Option Addr} {l:List LN} (h:cT G w a l) (hb:Below w.heap.size w w'):cT G w' a l:=h.keptS (S:=fun _=>False) (aE hb _) (fun _ h=>h.elim)
theorem cT.imp {G H:Nat->Prop} {w:World} {a:Option Addr} {l:List LN} (h:cT G w a l) (hG:∀ b,b<w.heap.size->G b->H b):cT H w a l :=
 Or.imp id (fun ⟨b,off,e,hg,hlt,hc⟩=>⟨b,off,e,hG b hlt hg,hlt,fun j x hj=>by
  obtain ⟨p,h1,h2⟩:=hc j x hj;exact ⟨p,h1,h2.imp hG⟩⟩) h
theorem cT.at {G:Nat->Prop} {w:World} {a:Option Addr} {l:List LN} (h:cT G w a l) {j:Nat} {x:LN} (hj:l[j]? = some x):∃ b off p,a=some ⟨b,off,none⟩/\b<w.heap.size/\G b/\mE w b (off+j*12) x p/\aJ G w x.a p:=by
 rcases h with rfl | ⟨b,off,rfl,hG,hl,hc⟩
 · cases hj
 · obtain ⟨p,h1,h2⟩:=hc j x hj
   exact ⟨b,off,p,rfl,hl,hG,h1,h2⟩
def lA:List LN->List PA->List Value
 | x::r,p::s=>lnL x p++lA r s
 | _,_=>[]
def NQ (G:Nat->Prop) (w:World) (l:List LN) (ps:List PA):Prop:=∀ (j:Nat) (x:LN) (p:PA),l[j]? = some x->ps[j]? = some p->aJ G w x.a p
theorem BS:∀ (l:List LN) (q:List PA),∀ u∈lA l q,u.oneCell'=true
 | [],_,u,h=>by simp [lA] at h
 | _::_,[],u,h=>by simp [lA] at h
 | d :: r, p :: s, u, h => by
   rw [lA] at h;rcases List.mem_append.1 h with h | h
   · simp only [lnL,List.mem_cons,List.not_mem_nil,or_false] at h
     rcases h with rfl | rfl | rfl | rfl | rfl | rfl | rfl | rfl | rfl | rfl | rfl | rfl <;> rfl
   · exact BS r s u h
theorem BT:∀ (l m:List LN) (q p:List PA),q.length=l.length->lA (l++m) (q++p)=lA l q++lA m p
 | [],m,[],p,_=>rfl
 | [],_,_::_,_,h=>by simp at h
 | _::_,_,[],_,h=>by simp at h
 | d::r,m,q::s,p,h=>by rw [List.cons_append,List.cons_append,lA,lA,BT r m s p (by simpa using h),List.append_assoc]
theorem Ah:∀ (l:List LN) (q:List PA) {k:Nat} {d:LN} (_:q.length=l.length) (_:l[k]? = some d),∃ p,q[k]? = some p/\∀ i u,(lnL d p)[i]? = some u->(lA l q)[k*12+i]? = some u
 | [],_,k,d,_,hk=>by simp at hk
 | _::_,[],k,d,h,_=>by simp at h
 | d :: r, p :: s, 0, d', h, hk => by
   cases hk;refine ⟨p,rfl,fun i u hu=>?_⟩;have hi:i<12:=(List.getElem?_eq_some_iff.1 hu).1;rw [lA,Nat.zero_mul,Nat.zero_add,List.getElem?_append_left (by simpa [lnL] using hi)];exact hu
 | d :: r, p :: s, k + 1, d', h, hk => by
   obtain ⟨p',h1,h2⟩:=Ah r s (k:=k) (d:=d') (by simpa using h) (by simpa using hk);refine ⟨p',by simpa using h1,fun i u hu=>?_⟩;rw [lA,List.getElem?_append_right (by simp [lnL];omega)];have:(k+1)*12+i-(lnL d p).length=k*12+i:=by simp [lnL];omega
   rw [this];exact h2 i u hu
theorem Dk {G:Nat->Prop} {w:World} {B:Nat} {e:TypeId} {a:Option Addr} {c:Nat} {l:List LN} {qs:List PA} (ho:w.ownsRow B e 12 (.slice a l.length c) l.length (lA l qs)) (hl:qs.length=l.length) (hk:NQ G w l qs) (hG:∀ b,a=some ⟨b,0,none⟩->G b):cT G w a l:=by
 by_cases hn:l=[]
 · exact .inl hn
 right
 have h0:∃ d,l[0]? = some d:=by
  cases l with
  | nil=>exact absurd rfl hn
  | cons d r=>exact ⟨d,rfl⟩
 obtain ⟨d0,hd0⟩:=h0;obtain ⟨p0, -,hp0⟩:=Ah l qs hl hd0;obtain ⟨g,hg,c0⟩:=iJ ho (hp0 0 _ rfl);have hlt:g<w.heap.size:=by have:=World.block_lt_of_cell? w _ c0;simpa using this
 refine ⟨g,0,hg,hG g hg,hlt,fun j d hj=>?_⟩;obtain ⟨p,hp,hc⟩:=Ah l qs hl hj;refine ⟨p,D9 fun i u hu=>?_,hk j d p hj hp⟩;obtain ⟨g',hg',c⟩:=iJ ho (hc i u hu);rw [hg] at hg';cases hg';rw [Nat.zero_add];exact c
def Ef (r:E4) (w0:World) (e:Ending) (w':World):Prop:=Below w0.heap.size w0 w'/\match r with
 | .bad p er=>e=.returned (.tuple #[.slice none 0 0,.int .i64 (p:Nat),.int .i64 er])
 | .ok l=>∃ a c,e=.returned (.tuple #[.slice a l.length c,.int .i64 0,.int .i64 0])/\cT (fun b=>w0.heap.size<=b) w' a l
theorem sX {c:UInt8} (h:a6 c=true):¬ c=10/\¬ c=32/\¬ c=61:=by
 refine ⟨?_,?_,?_⟩ <;> (rintro rfl;revert h;decide)
theorem zM {a:AG} (h:fJ a=0) (hn:fK a) (hl:(eG a).length+1<=1024):agX (32::eG a)=.ok (Az a):=by
 obtain ⟨h1,h2,h3,h4,h5,h6⟩:=cP h;have I:=iV.appF (Lj h hn) (yQ (c:=41) (.inr (.inl rfl))) (fun r=>xZ r);have W:=iW.appS I (DB a.wh h6 hn.c);have y:=iW.appS eU (iV.app (sD (LH h1)) (iW.appS (yQ (c:=40) (.inl rfl)) W) (fun q _=>fV (by decide) _));obtain ⟨ts,e1,e2⟩:=y [] H7 0;have e3:(32::eG a)=[32]++(a.fn.data.toList++([40]++(mF a++[41]++mX a.wh))):=by simp [eG]
 have e4:ts.map cV=Mu a:=by rw [e1];simp [Mu]
 rw [List.append_nil,l4, <- e3] at e2;unfold agX j0;rw [if_neg (by simp;omega),e2];simp only [iX.after,List.append_nil];rw [JU h hn e4]
theorem pU {x:List UInt8} (h:aW x=true):∃ c r,x=c::r/\cH c=true/\r.length<=7/\∀ d∈x,a6 d=true:=by
 cases x with
 | nil=>cases h
 | cons c r =>
   simp only [aW,Bool.and_eq_true,decide_eq_true_eq] at h;obtain ⟨⟨h1,h2⟩,h3⟩:=h;refine ⟨c,r,rfl,h1,h2,fun d hd=>?_⟩;rcases List.mem_cons.1 hd with rfl | hd
   · unfold a6;rw [h1];rfl
   · exact List.all_eq_true.1 h3 d hd
theorem xS {q:UInt8->Bool}:∀ (x:List UInt8) (d:UInt8) (y:List UInt8),(∀ c∈x,q c=true)->q d=false->(x++d::y).takeWhile q=x/\(x++d::y).dropWhile q=d::y
 | [],d,y,_,h=>⟨by rw [List.nil_append,List.takeWhile_cons_of_neg (by simp [h])],by rw [List.nil_append,List.dropWhile_cons_of_neg (by simp [h])]⟩
 | c :: x, d, y, hx, h => by
   have ih:=xS x d y (fun e he=>hx e (by simp [he])) h;rw [List.cons_append,List.takeWhile_cons_of_pos (hx c (by simp)),List.dropWhile_cons_of_pos (hx c (by simp)),ih.1,ih.2];exact ⟨rfl,rfl⟩
theorem sL {x r:List UInt8} (h:aW x=true):jS (x++32::61::r)=some (x,r):=by
 obtain ⟨c,t,e,h1, -,h3⟩:=pU h
 have hb:nU c=false:=by
  have:=(sX (h3 c (by rw [e];simp))).2.1;simpa [nU] using this
 have a1:(x++32::61::r).dropWhile nU=x++32::61::r:=by
  rw [e,List.cons_append,List.dropWhile_cons_of_neg (by simp [hb])]
 have a2:=xS (q:=fE) x 32 (61::r) (fun d hd=>by
  obtain ⟨-,n1,n2⟩:=sX (h3 d hd);simp [fE,n1,n2]) (by decide)
 have a3:(32::61::r).dropWhile nU=61::r:=by
  rw [List.dropWhile_cons_of_pos (by decide),List.dropWhile_cons_of_neg (by decide)]
 unfold jS;simp only;rw [a1,a2.1,a2.2,a3,if_neg (by rw [e];simp)];rfl
end
end Go.Proofs.YtgfkjkokmcejbaaGreatDoor
namespace Go
open Go.RowKit
section
variable {P : Program} {ops : Array Oper} {Q : Exit -> Act -> World -> Prop} {md : Region.Mode} {S : World -> Prop}
theorem aD {i:Nat} {oi:Oper} {d:Option Tmp} {v:Value} {fuel:Nat} {listed:Array Bool} {a:Act} {w:World} (hi:ops[i]? = some oi) (hd:oi.dst=d)
 (hs:Region.noSelect ops=true) (hf:Region.free md ops listed i=true) (hr:(Region.ready md ops listed).contains i=true)
 (hQ:∀ c a w,Q (.panic c) (a.put d v) w->Q (.panic c) a w) (hy:YieldsIf P ops S oi v a) (hS:S w)
 (h:wpAnyH P md ops Q S fuel (listed.setIfInBounds i true) (a.put d v) w):wpAnyH P md ops Q S (fuel+1) listed a w:=by
 subst hd;exact wpAnyH_take hi hs hf hr hQ hy hS h
end
end Go
namespace Go.Proofs.YtgfkjkokmcejbaaGreatDoor
open Go.RowKit
section
open Go.RowKit
def agQ (n:Nat) (L:List Tk):xE->xE
 | .bad p e=>.bad (kD n L p) e
 | .ok a=>.ok a
theorem zI {X:World} {p:Addr} {v:Option Value} (h:X.cell? p=v):X.drew.cell? p=v:=h
theorem GD {X:World} {B:Nat} {v:Option Obj} (h:X.heap[B]? = v):X.drew.heap[B]? = v:=h
theorem Ec {B:Nat} {w w':World} (h:Below B w w'):Below B w w'.drew:=⟨h.os,h.tape,h.output,h.size,h.block⟩
section
variable {w : World} {ts : List Tk} {rb ab : Nat} {a : Option Addr} {c : Nat} {x : AG} {p : PA} {qs : List QC} {s : RS} {V : World}
theorem Np {w1:World} {n m:Nat} {a:Option Addr} {c:Nat} {ts:List Tk} (h:iD w1 a ts) (hq:∀ q,(Value.slice a m c).ownBlock=some q->n<q):ts=[]\/∃ b off,a=some ⟨b,off,none⟩/\n<b:=by
 rcases h with h | ⟨b,off,e, -, -⟩
 · exact .inl h
 · exact .inr ⟨b,off,e,hq b (by rw [e];rfl)⟩
end
abbrev agP (x:AG) (p:PA):Obj:=.cells (agC x p) 70
structure KP9 (G:Nat->Prop) (w:World) (x:AG) (p:PA) (V:World):Prop where
 b:Below w.heap.size w V
 z:w.heap.size<=V.heap.size
 n:V.heap[w.heap.size]? = some (agP x p)
 r:aJ G V x p
theorem KP9.step {G:Nat->Prop} {w V V':World} {x:AG} {p:PA} (h:KP9 G w x p V) (hb:Below V.heap.size V V'):KP9 G w x p V' :=
 ⟨h.b.trans (hb.mono h.z),Nat.le_trans h.z hb.size,(hb.block _ (aB h.n)).trans h.n,h.r.kept hb⟩
theorem qW {G:Nat->Prop} {w:World} {x:AG} {p:PA} (hr:aJ G w x p):KP9 G w x p (w.alloc (agP x p)) :=
 ⟨bA0 _ _,by rw [World.size_alloc];omega,heap_alloc_new w _,hr.kept (bA0 _ _)⟩
structure SmG (x:AG):Prop where
 e:aH x.e<=1000
 g:aH x.g<=1000
 c:∀ d∈x.wh,aH d.a<=1000/\aH d.b<=1000
 wh:x.wh.length<=1000
section
variable {G : Nat -> Prop} {w : World} {x : AG} {pa p : PA} {X k : Nat} {qs : List QC} {V V' : World}
end
section
variable {G : Nat -> Prop} {w W V : World} {x : AG} {pa : PA} {X : Nat} {a3 a4 : Option Addr} {c3 c4 : Nat}
end
theorem vI:∀ {f:F},MdF f->cY f
 | .nil,_=>trivial
 | .cons _ _ _ _ _,h=>⟨h.2.1,vI h.2.2.2.1,vI h.2.2.2.2⟩
def iL (t:TN):Prop:=aH t<=32/\SzF t.f/\cY t.f
theorem gX:iL aI:=⟨by decide,by simp [aI,TN.f,SzF,F.len,ByteArray.size],by simp [aI,TN.f,cY]⟩
theorem Iz {L:List Tk} (hL:∀ t∈L,cD t) {p q:Nat} {t:TN} (h:ofL L p=.ok t q):iL t:=⟨(BJ hL h).2,IN (BI hL h),vI (BI hL h)⟩
theorem iB {L:List Tk} (hL:∀ t∈L,cD t) (s:RS):iL (bB L s).1:=by
 unfold bB;split
 · cases ho:ofL L s.pos with
   | ok t q=>exact Iz hL ho
   | bad q e=>exact gX
 · exact gX
theorem oQ {L:List Tk} (hL:∀ t∈L,cD t) (fn:List UInt8) (s:RS):iL (dQ L fn s).1.2.1/\iL (dQ L fn s).1.2.2:=by
 unfold dQ;split
 · exact ⟨gX,gX⟩
 · simp only
   split
   · exact ⟨iB hL _,iB hL _⟩
   · exact ⟨iB hL _,gX⟩
theorem G6 {L:List Tk} (hL:∀ t∈L,cD t) (s:RS):iL (dD L s).1.a/\iL (dD L s).1.b:=by
 unfold dD;simp only;split
 · split
   · exact ⟨iB hL _,iB hL _⟩
   · exact ⟨iB hL _,gX⟩
 · exact ⟨iB hL _,gX⟩
theorem wM {L:List Tk} (hL:∀ t∈L,cD t):∀ (f:Nat) (acc:List CD) (s:RS),(∀ d∈acc,iL d.a/\iL d.b)->∀ d∈(gL L f acc s).1,iL d.a/\iL d.b
 | 0,acc,s,h=>h
 | f + 1, acc, s, h => by
   have h2:∀ d∈acc++[(dD L (bW s)).1],iL d.a/\iL d.b:=fun d hd=>by
    rcases List.mem_append.1 hd with hd | hd
    · exact h d hd
    · rw [List.mem_singleton.1 hd];exact G6 hL _
   rw [gL];split
   · exact h
   · simp only
     split
     · exact wM hL f _ _ h2
     · exact h2
theorem Cz {L:List Tk} (hL:∀ t∈L,cD t) {a:AG} (h:agL L=.ok a):iL a.e/\iL a.g/\∀ d∈a.wh,iL d.a/\iL d.b:=by
 unfold agL at h;cases h0:L[0]? with
 | none=>rw [h0] at h;cases h
 | some t =>
   rw [h0] at h;simp only at h;split at h
   · cases h
   split at h
   · cases h
   split at h
   · cases h
   split at h
   · cases h
   split at h
   · cases h
     exact ⟨(oQ hL _ _).1,(oQ hL _ _).2,fun d hd=>by cases hd⟩
   split at h
   · cases h
   split at h
   · cases h
   split at h
   · cases h
   · cases h
     exact ⟨(oQ hL _ _).1,(oQ hL _ _).2,wM hL 5 [] _ (fun d hd=>by cases hd)⟩
theorem rL {l:List UInt8} {a:AG} (h:agX l=.ok a):SmG a/\SzG a/\fJ a=0:=by
 have he:=JT h;have h4:=(cP he).2.2.2.2.1;unfold agX at h;cases hx:j0 l with
 | bad p e=>rw [hx] at h;cases h
 | ok L =>
   rw [hx] at h;simp only at h;cases ha:agL L with
   | bad p e=>rw [ha] at h;cases h
   | ok b =>
     rw [ha] at h;cases h;obtain ⟨n1,n2,n3⟩:=Cz (oH hx) ha;refine ⟨⟨Nat.le_trans n1.1 (by decide),Nat.le_trans n2.1 (by decide),fun d hd=>⟨Nat.le_trans (n3 d hd).1.1 (by decide),Nat.le_trans (n3 d hd).2.1 (by decide)⟩,by omega⟩,⟨n1.2.1,n2.2.1,fun d hd=>⟨(n3 d hd).1.2.1,(n3 d hd).2.2.1⟩⟩,he⟩
theorem JS {l:List UInt8} {a:AG} (h:agX l=.ok a):fK a:=by
 unfold agX at h;cases hx:j0 l with
 | bad p e=>rw [hx] at h;cases h
 | ok L =>
   rw [hx] at h;simp only at h;cases ha:agL L with
   | bad p e=>rw [ha] at h;cases h
   | ok b =>
     rw [ha] at h;cases h;obtain ⟨n1,n2,n3⟩:=Cz (oH hx) ha;exact ⟨n1.2.2,n2.2.2,fun d hd=>⟨(n3 d hd).1.2.2,(n3 d hd).2.2.2⟩⟩
theorem Ee {L:List Tk} {p:Nat} {e:Int} (h:agL L=.bad p e):¬ e=0:=by
 unfold agL at h;cases h0:L[0]? with
 | none=>rw [h0] at h;cases h;decide
 | some t =>
   rw [h0] at h;simp only at h;split at h
   · cases h;decide
   split at h
   · cases h;decide
   split at h
   · rename_i hb;cases h;exact hb
   split at h
   · rename_i hb;cases h;exact hb
   split at h
   · cases h
   split at h
   · cases h;decide
   split at h
   · rename_i hb;cases h;exact hb
   split at h
   · cases h;decide
   · cases h
theorem wY {l:List UInt8} {p:Nat} {e:Int} (h:agX l=.bad p e):(e == 0)=false/\(e != 0)=true:=by
 unfold agX at h;cases hx:j0 l with
 | bad q f=>rw [hx] at h;cases h;exact tJ hx
 | ok L =>
   rw [hx] at h;simp only at h;cases ha:agL L with
   | bad q f =>
     rw [ha] at h;cases h;have:=Ee ha;exact ⟨by simpa using this,by simpa using this⟩
   | ok b=>rw [ha] at h;cases h
structure LBK (w:World) (B:Nat) (E:TypeId) (l:List LN) (oa:Option Addr) (oc:Nat) (ps:List PA) (V:World):Prop where
 b:Below w.heap.size w V
 lo:w.heap.size<=B
 hz:B<=V.heap.size
 own:V.ownsRow B E 12 (.slice oa l.length oc) l.length (lA l ps)
 ql:ps.length=l.length
 rd:∀ (j:Nat) (x:LN) (p:PA),l[j]? = some x->ps[j]? = some p->∀ w3,aC (fun b=>(Value.slice oa l.length oc).ownBlock=some b) V w3->aJ (fun b=>B<=b) w3 x.a p
theorem LBK.step {w:World} {B:Nat} {E:TypeId} {l:List LN} {oa:Option Addr} {oc:Nat} {ps:List PA} {V V':World} (h:LBK w B E l oa oc ps V) (hb:Below V.heap.size V V'):LBK w B E l oa oc ps V' :=
 ⟨h.b.trans (hb.mono h.b.size),h.lo,Nat.le_trans h.hz hb.size,cI h.own hb,h.ql,fun j x p h1 h2 w3 k3=>h.rd j x p h1 h2 w3 ((aE hb _).trans k3 (fun _ hi _=>hi))⟩
theorem I1 {w:World} {B:Nat} {E:TypeId} {l:List LN} {oa:Option Addr} {oc:Nat} {ps:List PA} {V V2 V3:World} (h:LBK w B E l oa oc ps V) {x:LN} {p:PA} {oa':Option Addr} {oc':Nat}
 (hb:Below V.heap.size V V2) (hq:∀ w3,aC (fun b=>B<=b/\b<V.heap.size) V2 w3->aJ (fun b=>B<=b) w3 x.a p) (hk:aC (fun b=>(Value.slice oa l.length oc).ownBlock=some b) V2 V3)
 (ho:V3.ownsRow B E 12 (.slice oa' (l.length+1) oc') (l.length+1) (lA l ps++lnL x p)) (hn:∀ b,(Value.slice oa' (l.length+1) oc').ownBlock=some b->(Value.slice oa l.length oc).ownBlock=some b\/V2.heap.size<=b) :
 LBK w B E (l++[x]) oa' oc' (ps++[p]) V3:=by
 have lo:=fun b (hb:(Value.slice oa l.length oc).ownBlock=some b)=>h.own.lt b hb
 have hz:=hb.size;have hlo:=h.lo;have hhz:=h.hz;have hl:(l++[x]).length=l.length+1:=by simp
 refine ⟨(h.b.trans (hb.mono h.b.size)).trans (hk.below (fun b e=>by have:=(lo b e).1;omega) (by have:=h.b.size;omega)),hlo,by have:=hk.size;omega,?_,by rw [List.length_append,List.length_append,h.ql];rfl,fun j x' q' e1 e2 w3 k3=>?_⟩
 · rw [hl,BT _ _ _ _ h.ql]
   simpa [lA] using ho
 · rw [hl] at k3
   rcases Nat.lt_or_ge j l.length with hj | hj
   · rw [List.getElem?_append_left hj] at e1
     rw [List.getElem?_append_left (by rw [h.ql];exact hj)] at e2;refine h.rd j x' q' e1 e2 w3 (((aE hb _).trans hk (fun i hi _=>hi)).trans k3 (fun i hi hlt=>?_));rcases hn i hi with h1 | h1
     · exact h1
     · omega
   · rw [List.getElem?_append_right hj] at e1
     rw [List.getElem?_append_right (by rw [h.ql];exact hj),h.ql] at e2;cases hm:j-l.length with
     | zero =>
       rw [hm] at e1 e2;cases e1;cases e2;refine hq w3 ((hk.mono (fun i hi _=>lo i hi)).trans k3 (fun i hi hlt=>?_));rcases hn i hi with h1 | h1
       · exact lo i h1
       · omega
     | succ m=>rw [hm] at e2;simp at e2
theorem LBK.reads {w:World} {B:Nat} {E:TypeId} {l:List LN} {oa:Option Addr} {oc:Nat} {ps:List PA} {V:World} (h:LBK w B E l oa oc ps V):cT (fun b=>w.heap.size<=b) V oa l :=
 Dk h.own h.ql (fun j x p h1 h2=>(h.rd j x p h1 h2 V (aC.refl _ _)).imp (fun b _ hb=>Nat.le_trans h.lo hb)) (fun b hb=>by
  have:=(h.own.lt b (by rw [hb];rfl)).1;have:=h.lo;omega)
theorem Lm {w V:World} {E:TypeId} (hb:Below w.heap.size w V):LBK w V.heap.size E [] none 0 [] V :=
 ⟨hb,hb.size,Nat.le_refl _,⟨rfl,.inl ⟨rfl,rfl⟩⟩,rfl,fun j x p h=>by cases h⟩
theorem Jh {l:List UInt8} {nm r:List UInt8} (h:jS l=some (nm,r)):∃ (x y:ByteArray),jS l=some (x.data.toList,y.data.toList)/\x.data.toList=nm/\y.data.toList=r:=⟨⟨nm.toArray⟩,⟨r.toArray⟩,h,rfl,rfl⟩
theorem uB (q:UInt8->Bool) (l:List UInt8):(l.takeWhile q).length<=l.length/\(l.dropWhile q).length<=l.length:=by
 have h:=congrArg List.length (List.takeWhile_append_dropWhile (p:=q) (l:=l));rw [List.length_append] at h;omega
theorem Ji {l nm r:List UInt8} (h:jS l=some (nm,r)):nm.length<=l.length/\r.length<=l.length:=by
 have h1:=uB nU l;have h2:=uB fE (l.dropWhile nU);have h3:=uB nU ((l.dropWhile nU).dropWhile fE);unfold jS at h;simp only at h;split at h
 · cases h
 · split at h
   · rename_i r' hr
     cases h;rw [hr] at h3;simp at h3;exact ⟨by omega,by omega⟩
   · cases h
theorem oG {acc:List LN} {s nm r:List UInt8} (h:jS s=some (nm,r)):gR acc s=if aW nm=false\/dO nm=true then .bad 5 else if acc.any (fun x=>x.nm.data.toList == nm)=true then .bad 6 else match agX r with
 | .bad _ e=>.bad e
 | .ok a=>.ok ⟨⟨nm.toArray⟩,a⟩:=by
 unfold gR;rw [h];all_goals rfl
theorem qP {acc:List LN} {s:List UInt8} {q:List (List UInt8)} {e:Int} (h8:¬ acc.length=8) (h:gR acc s=.bad e):fY (s::q) acc=.bad acc.length e:=by
 unfold fY;rw [if_neg h8,h]
theorem n9 {acc:List LN} {s:List UInt8} {q:List (List UInt8)} {x:LN} (h8:¬ acc.length=8) (h:gR acc s=.ok x):fY (s::q) acc=fY q (acc++[x]):=by
 conv=>lhs;unfold fY
 rw [if_neg h8,h]
theorem yH {acc:List LN} {s:List UInt8} {q:List (List UInt8)} (h8:acc.length=8):fY (s::q) acc=.bad acc.length 4:=by
 unfold fY;rw [if_pos h8]
structure PD where
 v:Int
 o:ByteArray
 t:ByteArray
abbrev pdV (x:PD):Value:=.agg #[.int .i64 x.v,.string x.o,.string x.t]
abbrev pdO (x:PD) (T:TypeId):Obj:=.cells #[.int .i64 x.v,.string x.o,.string x.t] T
theorem uJ {W:World} {B:Nat} {v0 v1 v2:Value} {t:TypeId} (h:W.heap[B]? = some (.cells #[v0,v1,v2] t (0,0))):W.cell? ⟨B,0,none⟩=some v0/\W.cell? ⟨B,1,none⟩=some v1/\W.cell? ⟨B,2,none⟩=some v2:=by
 refine ⟨?_,?_,?_⟩ <;> simp [World.cell?,h]
def NL:E4->Int
 | .bad _ e=>e
 | .ok _=>0
def Cl (x:PD):Int :=
 if Wr.countB x.v=false then 1 else if x.v=0 then (if x.o.toList.isEmpty=true/\x.t.toList.isEmpty=true then 0 else 2) else
 if IC x.o.data.toList=false then 5 else if 4096<x.t.size then 4 else NL (jL x.t.data.toList)
def BM (x y:PD):Bool:=if x.v=y.v then (!lsS x.o y.o && !(x.o.toList == y.o.toList)) else decide (y.v<x.v)
theorem rX (s:ByteArray) (w:World):Calls Tryz.prog 25 #[.string s] w fun e w'=>e=.returned (.bool (dO s.data.toList))/\Below w.heap.size w w':=by
 cases h0:(s.data.toList == [114,101,112]) with
 | true =>
   have g0:=cO h0;have R:dO s.data.toList=true:=by unfold dO;rw [h0];simp
   rw [R];clear R  h0;go_enter Tryz.func25,Tryz.ntmps25
   go_wp2_with fail
   go_ret;exact ⟨rfl,Below.refl _ _⟩
 | false =>
   cases h1:(s.data.toList == [108,111,97,100]) with
   | true =>
     have g0:=aF h0;have g1:=cO h1;have R:dO s.data.toList=true:=by unfold dO;rw [h1];simp
     rw [R];clear R h0 h1;go_enter Tryz.func25,Tryz.ntmps25
     go_wp2_with fail
     go_ret;exact ⟨rfl,Below.refl _ _⟩
   | false =>
     cases h2:(s.data.toList == [110]) with
     | true =>
       have g0:=aF h0;have g1:=aF h1;have g2:=cO h2;have R:dO s.data.toList=true:=by unfold dO;rw [h2];simp
       rw [R];clear R h0 h1 h2;go_enter Tryz.func25,Tryz.ntmps25
       go_wp2_with fail
       go_ret;exact ⟨rfl,Below.refl _ _⟩
     | false =>
       cases h3:(s.data.toList == [118,101,114]) with
       | true =>
         have g0:=aF h0;have g1:=aF h1;have g2:=aF h2;have g3:=cO h3;have R:dO s.data.toList=true:=by unfold dO;rw [h3];simp
         rw [R];clear R h0 h1 h2 h3;go_enter Tryz.func25,Tryz.ntmps25
         go_wp2_with fail
         go_ret;exact ⟨rfl,Below.refl _ _⟩
       | false =>
         have g0:=aF h0;have g1:=aF h1;have g2:=aF h2;have g3:=aF h3;have R:dO s.data.toList=false:=by unfold dO;rw [h0,h1,h2,h3];rfl
         rw [R];clear R h0 h1 h2 h3;go_enter Tryz.func25,Tryz.ntmps25
         go_wp2_with fail
         go_ret;exact ⟨rfl,Below.refl _ _⟩
theorem uV (x y:PD) (w:World):Calls Tryz.prog 23 #[pdV x,pdV y] w fun e w'=>e=.returned (.bool (BM x y))/\Below w.heap.size w w':=by
 have B1:=bA0 w (pdO x 46);have B2:=aA (B1.alloc (by rw [World.size_alloc];omega) (pdO y 46));clear B1;by_cases h:x.v=y.v
 · have R:=aA (show BM x y=(!lsS x.o y.o && !(x.o.toList == y.o.toList)) by unfold BM;rw [if_pos h])
   have q1:((x.v:Int) != (y.v:Int))=false:=by rw [h];simp
   clear h;go_enter Tryz.func23,Tryz.ntmps23
   go_wp2_with fail
   go_ret;exact ⟨by rw [R.out];rfl,B2.out⟩
 · have R:=aA (show BM x y=decide (y.v<x.v) by unfold BM;rw [if_neg h])
   have q1:((x.v:Int) != (y.v:Int))=true:=by rw [bne_iff_ne];exact h
   clear h;go_enter Tryz.func23,Tryz.ntmps23
   go_wp2_with fail
   go_ret;exact ⟨by rw [R.out];rfl,B2.out⟩
theorem FG (x:PD) (w:World):Calls Tryz.prog 48 #[pdV x] w fun e w'=>e=.returned (.int .i64 (if x.o.toList.isEmpty=true/\x.t.toList.isEmpty=true then 0 else 2))/\Below w.heap.size w w':=by
 have B1:=aA (bA0 w (pdO x 46));obtain ⟨r,hr⟩:∃ r:Int,(if x.o.toList.isEmpty=true/\x.t.toList.isEmpty=true then 0 else 2)=r:=⟨_,rfl⟩;rw [hr];cases h1:x.o.toList.isEmpty with
 | false =>
   rw [h1,if_neg (by simp)] at hr;subst hr;go_enter Tryz.func48,Tryz.ntmps48
   go_wp2_with fail
   go_ret;exact ⟨rfl,B1.out⟩
 | true =>
   cases h2:x.t.toList.isEmpty with
   | false =>
     rw [h2,if_neg (by simp)] at hr;subst hr;go_enter Tryz.func48,Tryz.ntmps48
     go_wp2_with fail
     go_ret;exact ⟨rfl,B1.out⟩
   | true =>
     rw [h1,h2,if_pos ⟨rfl,rfl⟩] at hr;subst hr;go_enter Tryz.func48,Tryz.ntmps48
     go_wp2_with fail
     go_ret;exact ⟨rfl,B1.out⟩
end
end Go.Proofs.YtgfkjkokmcejbaaGreatDoor
