/-
 No statement: what ProgTwoLift needs, of the texts QBack, QEval, ZMath, ZOwn, ZCut, ZBack, ZHead, Take.
-/
import Derived.Test.YtgfkjkokmcejbaaGreatDoorVT11
import Derived.Deep.CutBlock
import Derived.Deep.DeepCutAuto
import Derived.OrdersHeld
import Derived.NoCompiler
set_option maxHeartbeats 40000000
set_option maxRecDepth 100000
namespace Go.Proofs.YtgfkjkokmcejbaaGreatDoor
section
open Go.RowKit
def Pq (c:CD):CD:=⟨c.op,nV c.a,nV c.b⟩
def Cu (a:AG):AG:=⟨a.fn,if a.fn.data.toList=dJ then a.k else 0,if a.fn.data.toList=aO then aC else nV a.e,if a.fn.data.toList=aW then nV a.g else aC,a.wh.map Pq⟩
abbrev Co:=Int×List UInt8×Int
def qX (c:CD):List Co:=bI c.a++(3,c.op.data.toList,0)::bI c.b
def oM:List CD->List Co
 | []=>[]
 | c::r=>(1,lV,0)::(qX c++oM r)
def wS:List CD->List Co
 | []=>[]
 | c::r=>(1,eT,0)::(qX c++oM r)
def qW (a:AG):List Co :=
 if a.fn.data.toList=aO then [] else
 if a.fn.data.toList=dJ then (2,Lib.itoa a.k,a.k)::(3,[44],0)::bI a.e else
 if a.fn.data.toList=aW then bI a.e++(3,[44],0)::bI a.g else bI a.e
def Qa (a:AG):List Co:=(1,a.fn.data.toList,0)::(3,[40],0)::(qW a++(3,[41],0)::wS a.wh)
def jK (x:List UInt8) (cs:List Co):Prop:=∀ r p,∃ ts,ts.map dL=cs/\cL (x++r) p=(cL r (p+x.length)).after ts
def jJ (x:List UInt8) (cs:List Co):Prop:=∀ r,lC r->∀ p,∃ ts,ts.map dL=cs/\cL (x++r) p=(cL r (p+x.length)).after ts
theorem jK.s {x:List UInt8} {cs:List Co} (h:jK x cs):jJ x cs:=fun r _ p=>h r p
theorem yE:jK [] []:=fun r p=>⟨[],rfl,by rw [qU];rfl⟩
theorem jK.appS {x y:List UInt8} {cs ds:List Co} (h:jK x cs) (k:jJ y ds):jJ (x++y) (cs++ds):=fun r hr p=>by
 obtain ⟨ts,a1,a2⟩:=h (y++r) p;obtain ⟨us,b1,b2⟩:=k r hr (p+x.length);exact ⟨ts++us,by rw [List.map_append,a1,b1],by rw [List.append_assoc,a2,b2,fX,List.length_append,Nat.add_assoc]⟩
theorem jJ.appF {x y:List UInt8} {cs ds:List Co} (h:jJ x cs) (k:jK y ds) (hy:∀ r,lC (y++r)):jK (x++y) (cs++ds):=fun r p=>by
 obtain ⟨ts,a1,a2⟩:=h (y++r) (hy r) p;obtain ⟨us,b1,b2⟩:=k r (p+x.length);exact ⟨ts++us,by rw [List.map_append,a1,b1],by rw [List.append_assoc,a2,b2,fX,List.length_append,Nat.add_assoc]⟩
theorem jJ.app {x y:List UInt8} {cs ds:List Co} (h:jJ x cs) (k:jJ y ds) (hy:∀ r,lC r->lC (y++r)):jJ (x++y) (cs++ds):=fun r hr p=>by
 obtain ⟨ts,a1,a2⟩:=h (y++r) (hy r hr) p;obtain ⟨us,b1,b2⟩:=k r hr (p+x.length);exact ⟨ts++us,by rw [List.map_append,a1,b1],by rw [List.append_assoc,a2,b2,fX,List.length_append,Nat.add_assoc]⟩
theorem gP {c:UInt8} (h:aX c=false) (r:List UInt8):lC (c::r):=fun _ _ e=>by cases e;exact h
theorem fS:jK [32] []:=fun r p=>⟨[],rfl,by rw [qU];exact fH r p⟩
theorem uB {x:List UInt8} (h:bH x=true):jJ x [(1,x,0)]:=fun _ hr p=>⟨[⟨1,x,0,p⟩],rfl,Eb h hr p⟩
theorem qJ (t:TN) (h:OkT t) (hn:dR t.f):jJ (bB t) (bI t):=fun r hr p=>LQ t h hn r hr p
theorem LU {n:Int} (h0:0<=n) (h1:n<=9223372036854775807):jJ (Lib.itoa n) [(2,Lib.itoa n,n)]:=fun _ hr p=>⟨[⟨2,Lib.itoa n,n,p⟩],rfl,Hf h0 h1 hr p⟩
theorem AS {c:UInt8} (hc:tZ c):jK [c] [(3,[c],0)]:=fun r p=>⟨[⟨3,[c],0,p⟩],rfl,oZ hc r p⟩
theorem OC {x:List UInt8} (hx:1<=x.length) (h:∀ r,bU (x++r)=.tok 3 x.length 0) (h32:∀ r,¬ (x++r).head? = some 32):jK x [(3,x,0)]:=fun r p =>
 ⟨[⟨3,x,0,p⟩],rfl,by rw [iC (h32 r) hx (h r),List.drop_left,List.take_left]⟩
theorem yF:jK [44] [(3,[44],0)]:=OC (by simp) (fun r=>by
 show iI (44::r)=.tok 3 1 0;unfold iI
 have:kK (44::r)=1:=by
  cases r with
  | nil=>rfl
  | cons d t =>
    show (if cU 44 d=true then 2 else if cV 44=true then 1 else 0)=1;rw [if_neg (by unfold cU;simp),if_pos (by decide)]
 rw [this];rfl) (fun r=>by simp)
theorem FH {o:ByteArray} (h:(bD o 0 0).isSome=true):o.data.toList=[61]\/o.data.toList=[33,61]\/o.data.toList=[60]\/o.data.toList=[60,61]\/o.data.toList=[62]\/o.data.toList=[62,61]:=by
 unfold bD at h;by_cases h0:o=⟨#[61]⟩
 · left;rw [h0]
 rw [if_neg h0] at h;by_cases h1:o=⟨#[33,61]⟩
 · right;left;rw [h1]
 rw [if_neg h1] at h;by_cases h2:o=⟨#[60]⟩
 · right;right;left;rw [h2]
 rw [if_neg h2] at h;by_cases h3:o=⟨#[60,61]⟩
 · right;right;right;left;rw [h3]
 rw [if_neg h3] at h;by_cases h4:o=⟨#[62]⟩
 · right;right;right;right;left;rw [h4]
 rw [if_neg h4] at h;by_cases h5:o=⟨#[62,61]⟩
 · right;right;right;right;right;rw [h5]
 rw [if_neg h5] at h;cases h
theorem OB {x:List UInt8} (h:x=[61]\/x=[33,61]\/x=[60]\/x=[60,61]\/x=[62]\/x=[62,61]):jK (x++[32]) [(3,x,0)]:=fun r p=>by
 have hf:bU (x++32::r)=.tok 3 x.length 0:=by
  rcases h with rfl | rfl | rfl | rfl | rfl | rfl <;> rfl
 have h32:¬ (x++32::r).head? = some 32:=by
  rcases h with rfl | rfl | rfl | rfl | rfl | rfl <;> simp
 have hx:1<=x.length:=by
  rcases h with rfl | rfl | rfl | rfl | rfl | rfl <;> simp
 refine ⟨[⟨3,x,0,p⟩],rfl,?_⟩;rw [show x++[32]++r=x++32::r by simp,iC h32 hx hf,List.drop_left,List.take_left,fH,List.length_append];rfl
def zT (l:List CD):Prop:=∀ d∈l,dR d.a.f/\dR d.b.f
structure jP (a:AG):Prop where
 e:dR a.e.f
 g:dR a.g.f
 c:zT a.wh
theorem iZ {c:CD} {l:List CD} (h:gD (c::l)=0):(bD c.op 0 0).isSome=true/\aT c.a=0/\aT c.b=0/\gD l=0:=by
 rw [gD] at h;by_cases h1:(bD c.op 0 0).isSome=false
 · rw [if_pos h1] at h;cases h
 rw [if_neg h1] at h;by_cases h2:aT c.a=0
 · rw [if_pos h2] at h
   by_cases h3:aT c.b=0
   · rw [if_pos h3] at h;exact ⟨by cases hx:(bD c.op 0 0).isSome with | true=>rfl | false=>exact absurd hx h1,h2,h3,h⟩
   · rw [if_neg h3] at h;exact absurd h h3
 · rw [if_neg h2] at h;exact absurd h h2
theorem AO {c:CD} {l:List CD} (h:gD (c::l)=0) (hn:dR c.a.f/\dR c.b.f):jJ (bB c.a++32::(c.op.data.toList++32::bB c.b)) (qX c):=by
 obtain ⟨h1,h2,h3, -⟩:=iZ h;have A:=qJ c.a ((dO _).1 h2).1 hn.1;have B:=qJ c.b ((dO _).1 h3).1 hn.2;have y:=jK.appS fS (jK.appS (OB (FH h1)) B);have z:=jJ.app A y (fun r _=>gP (by decide) _);simpa [qX] using z
theorem yD:∀ l:List CD,gD l=0->zT l->jJ (iH l) (oM l)
 | [],_,_=>yE.s
 | c :: r, h, hn => by
   have ih:=yD r (iZ h).2.2.2 (fun d hd=>hn d (List.mem_cons_of_mem _ hd));have C:=AO h (hn c (List.mem_cons_self ..))
   have stop:∀ q,lC q->lC (iH r++q):=fun q hq=>by
    cases r with
    | nil=>exact hq
    | cons d t=>exact gP (by decide) _
   have y:=jJ.app C ih stop;have n:=jK.appS fS (jJ.app (uB (x:=lV) (by decide)) (jK.appS fS y) (fun q _=>gP (by decide) _));simpa [iH,oM,lV] using n
theorem FX:∀ l:List CD,gD l=0->zT l->jJ (oO l) (wS l)
 | [],_,_=>yE.s
 | c :: r, h, hn => by
   have ih:=yD r (iZ h).2.2.2 (fun d hd=>hn d (List.mem_cons_of_mem _ hd));have C:=AO h (hn c (List.mem_cons_self ..))
   have stop:∀ q,lC q->lC (iH r++q):=fun q hq=>by
    cases r with
    | nil=>exact hq
    | cons d t=>exact gP (by decide) _
   have y:=jJ.app C ih stop;have n:=jK.appS fS (jJ.app (uB (x:=eT) (by decide)) (jK.appS fS y) (fun q _=>gP (by decide) _));simpa [oO,wS,eT] using n
theorem O8 {x:List UInt8} (h:dX x=true):bH x=true:=by
 unfold dX at h;simp only [Bool.or_eq_true,beq_iff_eq] at h;rcases h with ((((h | h) | h) | h) | h) | h <;> rw [h] <;> decide
theorem dU {a:AG} (h:iY a=0):dX a.fn.data.toList=true/\(a.fn.data.toList=dJ->1<=a.k/\a.k<=16)/\(¬ a.fn.data.toList=aO->aT a.e=0)/\(a.fn.data.toList=aW->aT a.g=0)/\a.wh.length<=4/\gD a.wh=0:=by
 unfold iY at h;cases hf:dX a.fn.data.toList with
 | false=>rw [hf,if_pos rfl] at h;cases h
 | true =>
   rw [hf,if_neg (by decide)] at h;by_cases h1:a.fn.data.toList=dJ/\(a.k<1\/16<a.k)
   · rw [if_pos h1] at h;cases h
   rw [if_neg h1] at h;by_cases h2:Ey a=0
   · rw [if_pos h2] at h
     by_cases h3:4<a.wh.length
     · rw [if_pos h3] at h;cases h
     rw [if_neg h3] at h;refine ⟨rfl,fun e=>?_,fun e=>?_,fun e=>?_,by omega,h⟩
     · have:¬ (a.k<1\/16<a.k):=fun x=>h1 ⟨e,x⟩
       omega
     · unfold Ey at h2
       rw [if_neg e] at h2;by_cases h4:aT a.e=0
       · exact h4
       · rw [if_neg h4] at h2;exact absurd h2 h4
     · have e':¬ a.fn.data.toList=aO:=by rw [e];decide
       unfold Ey at h2;rw [if_neg e'] at h2;by_cases h4:aT a.e=0
       · rw [if_pos h4,if_pos e] at h2;exact h2
       · rw [if_neg h4] at h2;exact absurd h2 h4
   · rw [if_neg h2] at h;exact absurd h h2
theorem Oz {a:AG} (h:iY a=0) (hn:jP a):jJ (nZ a) (qW a):=by
 obtain ⟨h1,h2,h3,h4,h5,h6⟩:=dU h;unfold nZ qW;by_cases c1:a.fn.data.toList=aO
 · rw [if_pos c1,if_pos c1];exact yE.s
 rw [if_neg c1,if_neg c1];have E:=qJ a.e ((dO _).1 (h3 c1)).1 hn.e;by_cases c2:a.fn.data.toList=dJ
 · rw [if_pos c2,if_pos c2]
   have hk:=h2 c2;have N:=LU (n:=a.k) (by omega) (by omega);have y:=jJ.app N (jK.appS yF (jK.appS fS E)) (fun q _=>gP (by decide) _);simpa using y
 rw [if_neg c2,if_neg c2];by_cases c3:a.fn.data.toList=aW
 · rw [if_pos c3,if_pos c3]
   have G:=qJ a.g ((dO _).1 (h4 c3)).1 hn.g;have y:=jJ.app E (jK.appS yF (jK.appS fS G)) (fun q _=>gP (by decide) _);simpa using y
 rw [if_neg c3,if_neg c3];exact E
def sC (post:List Co):Prop:=post=[]\/∃ k x v r,post=(k,x,v)::r/\(¬ k=3\/(([42] == x)=false/\([47] == x)=false/\([37] == x)=false/\([43] == x)=false/\([45] == x)=false))
theorem RX {L:List Tk} {q post:List Co} (hL:L.map dL=q++post) (h:sC post):isM L q.length=false/\isA L q.length=false:=by
 rcases h with rfl | ⟨k,x,v,r,rfl,h⟩
 · have:L.length=q.length:=by
    have:=congrArg List.length hL;simpa using this
   exact ⟨OU (by omega),OV (by omega)⟩
 · obtain ⟨t,h1,h2,h3, -⟩:=i7 hL
   have one:∀ y,(¬ k=3\/(y == x)=false)->isS L y q.length=false:=fun y hy=>by
    unfold isS;rw [h1];simp only;rw [h2,h3];simp only;rcases hy with hk | hy
    · have:(k == 3)=false:=by simpa using hk
      rw [this,Bool.false_and]
    · have:(x == y)=false:=by
       rw [beq_eq_false_iff_ne] at hy |-
       exact fun e=>hy e.symm
      rw [this,Bool.and_false]
   have h':∀ y,(y=[42]\/y=[47]\/y=[37]\/y=[43]\/y=[45])->(¬ k=3\/(y == x)=false):=fun y hy=>by
    rcases h with h | ⟨a,b,c,d,e⟩
    · exact .inl h
    · rcases hy with rfl | rfl | rfl | rfl | rfl
      · exact .inr a
      · exact .inr b
      · exact .inr c
      · exact .inr d
      · exact .inr e
   unfold isM isA;rw [one _ (h' [42] (.inl rfl)),one _ (h' [47] (.inr (.inl rfl))),one _ (h' [37] (.inr (.inr (.inl rfl)))),one _ (h' [43] (.inr (.inr (.inr (.inl rfl))))),one _ (h' [45] (.inr (.inr (.inr (.inr rfl)))))];exact ⟨rfl,rfl⟩
theorem Om {t:TN} (h:aT t=0) (hn:dR t.f) {L:List Tk} {pre post:List Co} (hL:L.map dL=pre++(bI t++post)) (hp:sC post):ofL L pre.length=.ok (nV t) (pre.length+(bI t).length):=by
 obtain ⟨ho,hs⟩:=(dO t).1 h;have hr:=Iy t ho hn L pre post hL ⟨pre.length,0,0,0⟩ rfl rfl (by show 0+_<=32;omega);simp only [Nat.zero_add] at hr;obtain ⟨nM,nA⟩:=RX (q:=pre++bI t) (by rw [hL];simp) hp;rw [List.length_append] at nM nA
 have e:pE L .sum ⟨pre.length,0,0,0⟩=(nV t,⟨pre.length+(bI t).length,aR t,0,0⟩):=by
  rw [FB,wC,hr];simp only;rw [gF];simp only;rw [if_neg (by rw [nM];decide),lF];simp only;rw [if_neg (by rw [nA];decide)]
 unfold ofL;rw [e];rfl
abbrev rAt (p:Nat):RS:=⟨p,0,0,0⟩
theorem kD {t:TN} (h:aT t=0) (hn:dR t.f) {L:List Tk} {pre post:List Co} (hL:L.map dL=pre++(bI t++post)) (hp:sC post) {p:Nat} (e:p=pre.length):aZ L (rAt p)=(nV t,rAt (p+(bI t).length)):=by
 subst e;unfold aZ;rw [if_pos rfl];simp only;rw [Om h hn hL hp]
theorem pN {L:List Tk} {pre post:List Co} {x:List UInt8} {v:Int} (hL:L.map dL=pre++(3,x,v)::post) {p:Nat} (e:p=pre.length):aS L x (rAt p)=rAt (p+1):=by
 unfold aS;rw [if_pos rfl,if_pos (by rw [(eJ hL e).1];simp)];rfl
theorem Oj {o:ByteArray} (h:(bD o 0 0).isSome=true) (v:Int) (r:List Co):sC ((3,o.data.toList,v)::r):=by
 refine .inr ⟨_,_,_,_,rfl,.inr ?_⟩;rcases FH h with h | h | h | h | h | h <;> rw [h] <;> decide
theorem pR (c:UInt8) (h:c=41\/c=44) (v:Int) (r:List Co):sC ((3,[c],v)::r):=by
 refine .inr ⟨_,_,_,_,rfl,.inr ?_⟩;rcases h with rfl | rfl <;> decide
theorem Gu (l:List CD):sC (oM l):=by
 cases l with
 | nil=>exact .inl rfl
 | cons c r=>exact .inr ⟨_,_,_,_,rfl,.inl (by decide)⟩
theorem JU {c:CD} {l:List CD} (h:gD (c::l)=0) (hn:dR c.a.f/\dR c.b.f) {L:List Tk} {pre post:List Co} (hL:L.map dL=pre++(qX c++post)) (hp:sC post) {p:Nat} (e:p=pre.length):bV L (rAt p)=(Pq c,rAt (p+(qX c).length)):=by
 obtain ⟨h1,h2,h3, -⟩:=iZ h;have hL':L.map dL=pre++(bI c.a++(3,c.op.data.toList,0)::(bI c.b++post)):=by rw [hL];simp [qX]
 have hL1:L.map dL=(pre++bI c.a)++(3,c.op.data.toList,0)::(bI c.b++post):=by rw [hL'];simp
 have hL2:L.map dL=(pre++bI c.a++[(3,c.op.data.toList,0)])++(bI c.b++post):=by rw [hL'];simp
 have q1:p+(bI c.a).length=(pre++bI c.a).length:=by rw [e,List.length_append]
 have q2:p+(bI c.a).length+1=(pre++bI c.a++[(3,c.op.data.toList,0)]).length:=by rw [e];simp;omega
 have oe:=(eJ (y:=[]) hL1 q1).2
 have ob:opB L (p+(bI c.a).length)=true:=by
  obtain ⟨t,t1, -,t3, -⟩:=i7 hL1;unfold opB;rw [q1,t1];simp only;rw [t3];simp only;rw [mV];exact h1
 unfold bV;simp only;rw [kD h2 hn.1 hL' (Oj h1 0 _) e];simp only;rw [if_pos trivial,if_pos ob];have st:aJ (rAt (p+(bI c.a).length))=rAt (p+(bI c.a).length+1):=rfl;rw [st,kD h3 hn.2 hL2 hp q2,oe,mV];simp only [qX,List.length_append,List.length_cons];rw [show p+(bI c.a).length+1+(bI c.b).length=p+((bI c.a).length+((bI c.b).length+1)) by omega];rfl
theorem GN {L:List Tk} {pre post:List Co} {x:List UInt8} {v:Int} (hL:L.map dL=pre++(1,x,v)::post) {p:Nat} (e:p=pre.length) (y:List UInt8):dS L y p=(x == y):=by
 obtain ⟨t,t1,t2,t3, -⟩:=i7 hL;unfold dS;rw [e,t1];simp only;rw [t2,t3];simp
theorem H7 {L:List Tk} {p:Nat} (h:L.length<=p) (y:List UInt8):dS L y p=false:=by
 unfold dS;rw [List.getElem?_eq_none h]
theorem zD {L:List Tk}:∀ (l:List CD) (c:CD) (f:Nat) (acc:List CD) (pre:List Co) (x:List UInt8) (p:Nat),gD (c::l)=0->zT (c::l)->acc.length+(l.length+1)<=4->l.length+1<=f ->
 L.map dL=pre++(1,x,0)::(qX c++oM l)->p=pre.length->eQ L f acc (rAt p)=(acc++(c::l).map Pq,rAt L.length)
 | l,c,0,acc,pre,x,p,_,_,_,hf,_,_=>by omega
 | l, c, f + 1, acc, pre, x, p, h, hn, ha, hf, hL, e => by
   rw [eQ,if_neg (by omega)];have st:aJ (rAt p)=rAt (p+1):=rfl;have hL1:L.map dL=(pre++[(1,x,0)])++(qX c++oM l):=by rw [hL];simp
   have C:=JU h (hn c (List.mem_cons_self ..)) hL1 (Gu l) (p:=p+1) (by rw [e];simp);rw [st,C];simp only;cases l with
   | nil =>
     have hlen:L.length=p+1+(qX c).length:=by
      have:=congrArg List.length hL1;simp [oM] at this;omega
     rw [if_neg (by rw [H7 (by omega)];simp),hlen];rfl
   | cons d r =>
     have hL2:L.map dL=(pre++[(1,x,0)]++qX c)++(1,lV,0)::(qX d++oM r):=by rw [hL1];simp [oM]
     have q:p+1+(qX c).length=(pre++[(1,x,0)]++qX c).length:=by rw [e];simp;omega
     rw [if_pos (by rw [GN hL2 q];simp)];rw [zD r d f (acc++[Pq c]) _ lV _ (iZ h).2.2.2 (fun y hy=>hn y (List.mem_cons_of_mem _ hy)) (by simp at ha |-;omega) (by simp at hf;omega) hL2 q];simp
theorem Kp {L:List Tk} {pre post:List Co} {x:List UInt8} {k:Int} (hL:L.map dL=pre++(2,x,k)::post) {p:Nat} (e:p=pre.length) (h1:1<=k) (h2:k<=16):jQ L (rAt p)=(k,rAt (p+1)):=by
 obtain ⟨t,t1,t2, -,t4⟩:=i7 hL;unfold jQ;rw [if_pos rfl];simp only;rw [e,t1];simp only;rw [if_pos t2,t4,if_neg (by simp only;omega)];rfl
theorem J7 {a:AG} (h:iY a=0) (hn:jP a) {L:List Tk} {pre post:List Co} (hL:L.map dL=pre++(qW a++(3,[41],0)::post)) {p:Nat} (e:p=pre.length) :
 bG L a.fn.data.toList (rAt p)=(((Cu a).k,(Cu a).e,(Cu a).g),rAt (p+(qW a).length)):=by
 obtain ⟨h1,h2,h3,h4,h5,h6⟩:=dU h;unfold bG Cu qW;unfold qW at hL;simp only;by_cases c1:a.fn.data.toList=aO
 · have c2:¬ a.fn.data.toList=dJ:=by rw [c1];decide
   have c3:¬ a.fn.data.toList=aW:=by rw [c1];decide
   rw [if_pos c1,if_neg c2,if_pos c1,if_neg c3,if_pos c1];rfl
 rw [if_neg c1] at hL;rw [if_neg c1,if_neg c1,if_neg c1];by_cases c2:a.fn.data.toList=dJ
 · have c3:¬ a.fn.data.toList=aW:=by rw [c2];decide
   rw [if_pos c2] at hL;have hk:=h2 c2;have hL0:L.map dL=pre++(2,Lib.itoa a.k,a.k)::((3,[44],0)::(bI a.e++(3,[41],0)::post)):=by rw [hL];simp
   have hL1:L.map dL=(pre++[(2,Lib.itoa a.k,a.k)])++(3,[44],0)::(bI a.e++(3,[41],0)::post):=by rw [hL];simp
   have hL2:L.map dL=(pre++[(2,Lib.itoa a.k,a.k),(3,[44],0)])++(bI a.e++(3,[41],0)::post):=by rw [hL];simp
   simp only [if_pos c2,if_neg c3];rw [Kp hL0 e hk.1 hk.2];simp only;rw [pN hL1 (by rw [e];simp),kD (h3 c1) hn.e hL2 (pR 41 (.inl rfl) 0 _) (by rw [e];simp)];simp only [List.length_cons];rw [show p+1+1+(bI a.e).length=p+((bI a.e).length+1+1) by omega]
 · rw [if_neg c2] at hL
   simp only [if_neg c2];by_cases c3:a.fn.data.toList=aW
   · rw [if_pos c3] at hL
     have hL0:L.map dL=pre++(bI a.e++(3,[44],0)::(bI a.g++(3,[41],0)::post)):=by rw [hL];simp
     have hL1:L.map dL=(pre++bI a.e)++(3,[44],0)::(bI a.g++(3,[41],0)::post):=by rw [hL];simp
     have hL2:L.map dL=(pre++bI a.e++[(3,[44],0)])++(bI a.g++(3,[41],0)::post):=by rw [hL];simp
     simp only [if_pos c3];rw [kD (h3 c1) hn.e hL0 (pR 44 (.inr rfl) 0 _) e];simp only;rw [pN hL1 (by rw [e];simp),kD (h4 c3) hn.g hL2 (pR 41 (.inl rfl) 0 _) (by rw [e];simp;omega)];simp only [List.length_append,List.length_cons];rw [show p+(bI a.e).length+1+(bI a.g).length=p+((bI a.e).length+((bI a.g).length+1)) by omega]
   · rw [if_neg c3] at hL
     simp only [if_neg c3];rw [kD (h3 c1) hn.e hL (pR 41 (.inl rfl) 0 _) e]
theorem M8 {a:AG} (h:iY a=0) (hn:jP a) {L:List Tk} (hL:L.map dL=Qa a):agL L=.ok (Cu a):=by
 obtain ⟨h1,h2,h3,h4,h5,h6⟩:=dU h;have hL0:L.map dL=[]++(1,a.fn.data.toList,0)::((3,[40],0)::(qW a++(3,[41],0)::wS a.wh)):=hL;have hL1:L.map dL=[(1,a.fn.data.toList,0)]++(3,[40],0)::(qW a++(3,[41],0)::wS a.wh):=hL;have hL2:L.map dL=[(1,a.fn.data.toList,0),(3,[40],0)]++(qW a++(3,[41],0)::wS a.wh):=hL;have hL3:L.map dL=([(1,a.fn.data.toList,0),(3,[40],0)]++qW a)++(3,[41],0)::wS a.wh:=by rw [hL2];simp
 have hlen:L.length=2+(qW a).length+1+(wS a.wh).length:=by
  have:=congrArg List.length hL3;simp at this;omega
 obtain ⟨t,t1,t2,t3, -⟩:=i7 hL0;have w1:=pN hL1 (p:=1) rfl;have w2:=J7 h hn hL2 (p:=2) rfl;have w3:=pN hL3 (p:=2+(qW a).length) (by simp;omega);unfold agL;rw [show L[0]? = some t from t1];simp only;rw [t3];simp only;rw [if_neg (by rw [t2];simp),h1,if_neg (by decide),show (⟨1,0,0,0⟩:RS)=rAt 1 from rfl,w1];simp only;rw [if_neg (by simp),show rAt (1+1)=rAt 2 from rfl,w2];simp only;rw [w3,if_neg (by simp),mV];cases hw:a.wh with
 | nil =>
   rw [hw] at hlen;rw [if_pos (by simp only [hlen,wS,List.length_nil];omega)];simp [Cu,hw]
 | cons c r =>
   rw [hw] at hlen hL3 h5 h6;have hn':zT (c::r):=by rw [<- hw];exact hn.c
   have hL4:L.map dL=([(1,a.fn.data.toList,0),(3,[40],0)]++qW a++[(3,[41],0)])++(1,eT,0)::(qX c++oM r):=by rw [hL3];simp [wS]
   have q:2+(qW a).length+1=([(1,a.fn.data.toList,0),(3,[40],0)]++qW a++[(3,[41],0)]).length:=by simp;omega
   rw [if_neg (by simp only [hlen,wS,List.length_cons];omega)];simp only;rw [GN hL4 q,if_neg (by simp),zD r c 5 [] _ eT _ h6 hn' (by simpa using h5) (by simp at h5;omega) hL4 q];simp only;rw [if_neg (by simp),if_neg (by omega)];simp [Cu,hw]
def eD (g:ByteArray->Option Int):List CD->Bool
 | []=>true
 | c::r=>(match evT g c.a,evT g c.b with | some x,some y=>(bD c.op x y).getD false | _,_=>false) && eD g r
inductive EvR | no | num (n:Int) | list (l:List Int)
structure ES where
 n:Int
 some:Bool
 best:Int
 by':Int
 sum:Int
 top:List Int
def es0:ES:=⟨0,false,0,0,0,[]⟩
def oS (fn:List UInt8) (g:ByteArray->Option Int) (y:TN) (s:ES) (e:Int):ES :=
 if fn=lU then { s with best:=if s.some=false\/e<s.best then e else s.best,some:=true }
 else if fn=oK then { s with best:=if s.some=false\/s.best<e then e else s.best,some:=true }
 else if fn=lT then { s with sum:=dY (s.sum+e),some:=true }
 else if fn=dJ then { s with top:=oE lsL s.top e,some:=true }
 else match evT g y with
  | none=>s
  | some b=>if s.some=false\/b<s.by' then { s with best:=e,by':=b,some:=true } else { s with some:=true }
theorem Dq (g:ByteArray->Option Int) (y:TN) (s:ES) (e:Int):oS aW g y s e=match evT g y with
 | none=>s
 | some b=>if s.some=false\/b<s.by' then { s with best:=e,by':=b,some:=true } else { s with some:=true }:=by
 unfold oS;rw [if_neg (show ¬ aW=lU by decide),if_neg (show ¬ aW=oK by decide),if_neg (show ¬ aW=lT by decide),if_neg (show ¬ aW=dJ by decide)]
def rN (a:AG) (s:ES) (g:ByteArray->Option Int):ES :=
 if eD g a.wh=false then s else
 if a.fn.data.toList=aO then { s with n:=s.n+1 } else
 match evT g a.e with
  | none=>{ s with n:=s.n+1 }
  | some e=>oS a.fn.data.toList g a.g { s with n:=s.n+1 } e
def Bk (a:AG) (s:ES):EvR :=
 if a.fn.data.toList=aO then .num s.n else
 if a.fn.data.toList=lT then .num s.sum else
 if a.fn.data.toList=dJ then .list (s.top.drop (s.top.length-a.k.toNat)) else
 if s.some=false then .no else .num s.best
def evG (a:AG) (gs:List (ByteArray->Option Int)):EvR:=Bk a (gs.foldl (rN a) es0)
def iO (a:AG) (gs:List (ByteArray->Option Int)):List (ByteArray->Option Int):=gs.filter (fun g=>eD g a.wh)
def yW (a:AG) (gs:List (ByteArray->Option Int)):List Int:=(iO a gs).filterMap (fun g=>evT g a.e)
def xN (a:AG) (gs:List (ByteArray->Option Int)):List (Int×Int):=(iO a gs).filterMap (fun g=>match evT g a.e,evT g a.g with | some e,some b=>some (e,b) | _,_=>none)
def stB {K:Type} (less:K->K->Bool) (o:Option K) (e:K):Option K:=match o with | none=>some e | some b=>if less e b=true then some e else some b
def Bu {K:Type} (less:K->K->Bool) (l:List K):Option K:=l.foldl (stB less) none
theorem rM (a:AG) (g:ByteArray->Option Int) (gs:List (ByteArray->Option Int)):iO a (g::gs)=if eD g a.wh=true then g::iO a gs else iO a gs:=by
 unfold iO;rw [List.filter_cons]
theorem Mn (a:AG):∀ (gs:List (ByteArray->Option Int)) (s:ES),(gs.foldl (rN a) s).n=s.n+((iO a gs).length:Int)
 | [],s=>by simp [iO]
 | g :: gs, s => by
   rw [List.foldl_cons,Mn a gs,rM];unfold rN;cases h:eD g a.wh with
   | false=>rw [if_pos rfl,if_neg (by decide)]
   | true =>
     rw [if_neg (by decide),if_pos rfl,List.length_cons]
     have:∀ (t:ES),(if a.fn.data.toList=aO then ({ t with n:=t.n+1 }:ES) else match evT g a.e with
      | none=>{ t with n:=t.n+1 }
      | some e=>oS a.fn.data.toList g a.g { t with n:=t.n+1 } e).n=t.n+1:=fun t=>by
      split
      · rfl
      · split
        · rfl
        · unfold oS
          split
          · rfl
          split
          · rfl
          split
          · rfl
          split
          · rfl
          split
          · rfl
          split <;> rfl
     rw [this s];omega
theorem pC {α : Type} (a:AG) (hc:¬ a.fn.data.toList=aO) (f:ES -> α) (h: α -> Int -> α) (hn:∀ (s:ES) (m:Int),f { s with n:=m }=f s)
 (hs:∀ (g:ByteArray->Option Int) (s:ES) (e:Int),f (oS a.fn.data.toList g a.g s e)=h (f s) e):∀ (gs:List (ByteArray->Option Int)) (s:ES),f (gs.foldl (rN a) s)=(yW a gs).foldl h (f s)
 | [],s=>rfl
 | g :: gs, s => by
   rw [List.foldl_cons,pC a hc f h hn hs gs];unfold yW;rw [rM];unfold rN;cases ht:eD g a.wh with
   | false=>rw [if_pos rfl,if_neg (by decide)]
   | true =>
     rw [if_neg (by decide),if_pos rfl,if_neg hc];cases he:evT g a.e with
     | none=>simp only [List.filterMap_cons,he];rw [hn]
     | some e=>simp only [List.filterMap_cons,he,List.foldl_cons];rw [hs,hn]
theorem yS {α : Type} (a:AG) (hc:¬ a.fn.data.toList=aO) (f:ES -> α) (h: α -> Int×Int -> α) (hn:∀ (s:ES) (m:Int),f { s with n:=m }=f s)
 (hs:∀ (g:ByteArray->Option Int) (s:ES) (e:Int),f (oS a.fn.data.toList g a.g s e)=(match evT g a.g with | some b=>h (f s) (e,b) | none=>f s)):∀ (gs:List (ByteArray->Option Int)) (s:ES),f (gs.foldl (rN a) s)=(xN a gs).foldl h (f s)
 | [],s=>rfl
 | g :: gs, s => by
   rw [List.foldl_cons,yS a hc f h hn hs gs];unfold xN;rw [rM];unfold rN;cases ht:eD g a.wh with
   | false=>rw [if_pos rfl,if_neg (by decide)]
   | true =>
     rw [if_neg (by decide),if_pos rfl,if_neg hc];cases he:evT g a.e with
     | none=>simp only [List.filterMap_cons,he];rw [hn]
     | some e =>
       simp only [List.filterMap_cons,he];rw [hs,hn];cases evT g a.g <;> rfl
def DU (s:ES):Option Int:=if s.some=false then none else some s.best
def Oh (s:ES):Option (Int×Int):=if s.some=false then none else some (s.best,s.by')
def lsG (a b:Int):Bool:=decide (b<a)
def lsP (a b:Int×Int):Bool:=decide (a.2<b.2)
theorem uJ {a:AG} (h:a.fn.data.toList=aO) (gs:List (ByteArray->Option Int)):evG a gs=.num ((iO a gs).length:Int):=by
 unfold evG Bk;rw [if_pos h,Mn];simp [es0]
theorem Cj {a:AG} (h:a.fn.data.toList=lT) (gs:List (ByteArray->Option Int)):evG a gs=.num ((yW a gs).foldl (fun s e=>dY (s+e)) 0):=by
 have hc:¬ a.fn.data.toList=aO:=by rw [h];decide
 unfold evG Bk;rw [if_neg hc,if_pos h,pC a hc (fun s=>s.sum) (fun s e=>dY (s+e)) (fun _ _=>rfl) (fun g s e=>by unfold oS;rw [h];rfl)];rfl
theorem Hq {a:AG} (h:a.fn.data.toList=dJ) (gs:List (ByteArray->Option Int)):evG a gs=.list (((yW a gs).foldl (oE lsL) []).drop (((yW a gs).foldl (oE lsL) []).length-a.k.toNat)):=by
 have hc:¬ a.fn.data.toList=aO:=by rw [h];decide
 have hs:¬ a.fn.data.toList=lT:=by rw [h];decide
 unfold evG Bk;rw [if_neg hc,if_neg hs,if_pos h,pC a hc (fun s=>s.top) (oE lsL) (fun _ _=>rfl) (fun g s e=>by unfold oS;rw [h];rfl)];rfl
theorem Ci {a:AG} (hc:¬ a.fn.data.toList=aO) (hs:¬ a.fn.data.toList=lT) (ht:¬ a.fn.data.toList=dJ) (s:ES):Bk a s=match DU s with | none=>.no | some n=>.num n:=by
 unfold Bk DU;rw [if_neg hc,if_neg hs,if_neg ht];cases s.some <;> rfl
theorem Hr {a:AG} (h:a.fn.data.toList=lU) (gs:List (ByteArray->Option Int)):evG a gs=match Bu lsL (yW a gs) with | none=>.no | some n=>.num n:=by
 have hc:¬ a.fn.data.toList=aO:=by rw [h];decide
 unfold evG Bu
 rw [Ci hc (by rw [h];decide) (by rw [h];decide),pC a hc DU (stB lsL) (fun _ _=>rfl) (fun g s e=>by
  unfold oS DU stB;rw [if_pos h];cases hx:s.some with
  | false=>simp
  | true =>
    by_cases hl:e<s.best
    · simp [hl,lsL]
    · simp [hl,lsL])]
 rfl
theorem Hs {a:AG} (h:a.fn.data.toList=oK) (gs:List (ByteArray->Option Int)):evG a gs=match Bu lsG (yW a gs) with | none=>.no | some n=>.num n:=by
 have hc:¬ a.fn.data.toList=aO:=by rw [h];decide
 have hm:¬ a.fn.data.toList=lU:=by rw [h];decide
 unfold evG Bu
 rw [Ci hc (by rw [h];decide) (by rw [h];decide),pC a hc DU (stB lsG) (fun _ _=>rfl) (fun g s e=>by
  unfold oS DU stB;rw [if_neg hm,if_pos h];cases hx:s.some with
  | false=>simp
  | true =>
    by_cases hl:s.best<e
    · simp [hl,lsG]
    · simp [hl,lsG])]
 rfl
theorem Bl {a:AG} (h:a.fn.data.toList=aW) (gs:List (ByteArray->Option Int)):evG a gs=match Bu lsP (xN a gs) with | none=>.no | some n=>.num n.1:=by
 have hc:¬ a.fn.data.toList=aO:=by rw [h];decide
 have e:∀ s:ES,DU s=(Oh s).map (fun n=>n.1):=fun s=>by unfold DU Oh;cases s.some <;> rfl
 unfold evG Bu
 rw [Ci hc (by rw [h];decide) (by rw [h];decide),e,yS a hc Oh (stB lsP) (fun _ _=>rfl) (fun g s e=>by
  rw [h,Dq];unfold Oh stB;cases evT g a.g with
  | none=>rfl
  | some b =>
    simp only;cases hx:s.some with
    | false=>simp
    | true =>
      by_cases hl:b<s.by'
      · simp [hl,lsP]
      · simp [hl,lsP])]
 show (match Option.map (fun n:Int×Int=>n.1) (List.foldl (stB lsP) none (xN a gs)) with | none=>EvR.no | some n=>.num n)=_;cases List.foldl (stB lsP) none (xN a gs) <;> rfl
theorem Dh:∀ (l k:List Int),dC lsL k->dC lsL (l.foldl (oE lsL) k)/\∀ x,x∈l.foldl (oE lsL) k ↔ x∈k\/x∈l
 | [],k,h=>⟨h,fun x=>by simp⟩
 | e :: l, k, h => by
   obtain ⟨a,b⟩:=Dh l (oE lsL k e) (oV Nz h e);refine ⟨a,fun x=>?_⟩;rw [List.foldl_cons,b,Ly,List.mem_cons];constructor
   · rintro ((h | h) | h)
     · exact .inl h
     · exact .inr (.inl h)
     · exact .inr (.inr h)
   · rintro (h | h | h)
     · exact .inl (.inl h)
     · exact .inl (.inr h)
     · exact .inr h
structure LN where
 nm:ByteArray
 a:AG
def cE:List UInt8->List (List UInt8)
 | []=>[]
 | c :: r => if c = 10 then [] :: cE r else match cE r with
   | []=>[[c]]
   | x::q=>(c::x)::q
def l9:List UInt8->List (List UInt8)
 | []=>[[]]
 | c :: r => if c = 10 then [] :: l9 r else match l9 r with
   | []=>[[c]]
   | x::q=>(c::x)::q
theorem sM:∀ l:List UInt8,∃ x q,l9 l=x::q
 | []=>⟨[],[],rfl⟩
 | c :: r => by
   obtain ⟨x,q,e⟩:=sM r;unfold l9;by_cases h:c=10
   · rw [if_pos h];exact ⟨_,_,rfl⟩
   · rw [if_neg h,e];exact ⟨_,_,rfl⟩
theorem l8 (l:List UInt8):l9 (10::l)=[]::l9 l:=rfl
theorem fF {c:UInt8} (h:¬ c=10) {l:List UInt8} {x:List UInt8} {q:List (List UInt8)} (e:l9 l=x::q):l9 (c::l)=(c::x)::q:=by
 unfold l9;rw [if_neg h,e]
theorem I4 (l:List UInt8):cE (10::l)=[]::cE l:=rfl
theorem yC {c:UInt8} (h:¬ c=10) {l x:List UInt8} {q:List (List UInt8)} (e:cE l=x::q):cE (c::l)=(c::x)::q:=by
 conv=>lhs;unfold cE
 rw [if_neg h,e]
theorem l7:∀ l:List UInt8,(l9 l=cE l/\¬ (l9 l).getLast? = some [] )\/l9 l=cE l++[[]]
 | []=>.inr rfl
 | c :: r => by
   by_cases h:c=10
   · subst h
     rw [l8,I4];rcases l7 r with ⟨e,n⟩ | e
     · refine .inl ⟨by rw [e],?_⟩
       obtain ⟨x,q,e2⟩:=sM r;rw [e2] at n |-
       rw [List.getLast?_cons_cons];exact n
     · exact .inr (by rw [e];rfl)
   · obtain ⟨x,q,e2⟩:=sM r
     rw [fF h e2];rcases l7 r with ⟨e,n⟩ | e
     · rw [e2] at e n
       refine .inl ⟨?_,?_⟩
       · unfold cE;rw [if_neg h, <- e]
       · cases q with
         | nil=>simp
         | cons y q=>rw [List.getLast?_cons_cons] at n |-;exact n
     · rw [e2] at e
       unfold cE;rw [if_neg h];cases hl:cE r with
       | nil =>
         rw [hl] at e;simp at e;obtain ⟨rfl,rfl⟩:=e;exact .inl ⟨rfl,by simp⟩
       | cons y q' =>
         rw [hl] at e;simp at e;obtain ⟨rfl,rfl⟩:=e;exact .inr rfl
theorem tQ:∀ l:List UInt8,∃ q a,l9 l=q++[a]/\l9 (l++[10])=q++[a]++[[]]/\∀ c,¬ c=10->l9 (l++[c])=q++[a++[c]]
 | []=>⟨[],[],rfl,rfl,fun c hc=>by rw [List.nil_append,fF hc (l:=[]) rfl];rfl⟩
 | d :: l => by
   obtain ⟨q,a,h0,h1,h2⟩:=tQ l;by_cases hd:d=10
   · subst hd
     refine ⟨[]::q,a,?_,?_,fun c hc=>?_⟩
     · rw [l8,h0];rfl
     · rw [List.cons_append,l8,h1];rfl
     · rw [List.cons_append,l8,h2 c hc];rfl
   · cases q with
     | nil =>
       refine ⟨[],d::a,?_,?_,fun c hc=>?_⟩
       · rw [fF hd h0];rfl
       · rw [List.cons_append,fF hd h1];rfl
       · rw [List.cons_append,fF hd (h2 c hc)];rfl
     | cons b q =>
       refine ⟨(d::b)::q,a,?_,?_,fun c hc=>?_⟩
       · rw [fF hd h0];rfl
       · rw [List.cons_append,fF hd h1];rfl
       · rw [List.cons_append,fF hd (h2 c hc)];rfl
theorem sN (l:List UInt8):(l9 l).length<=l.length+1:=by
 induction l with
 | nil=>simp [l9]
 | cons c l ih =>
   by_cases h:c=10
   · subst h;rw [l8];simp;omega
   · obtain ⟨a,q,e⟩:=sM l
     rw [fF h e];rw [e] at ih;simp at ih |-;omega
theorem jZ:∀ (l:List UInt8),∀ x∈l9 l,x.length<=l.length
 | [],x,h=>by simp [l9] at h;subst h;simp
 | c :: l, x, h => by
   by_cases hc:c=10
   · subst hc
     rw [l8] at h;rcases List.mem_cons.1 h with rfl | h
     · simp
     · have:=jZ l x h;simp;omega
   · obtain ⟨a,q,e⟩:=sM l
     rw [fF hc e] at h;rcases List.mem_cons.1 h with rfl | h
     · have:=jZ l a (by rw [e];simp);simp;omega
     · have:=jZ l x (by rw [e];simp [h]);simp;omega
theorem FU (l:List UInt8):∀ x∈cE l,x.length<=l.length:=fun x h=>by
 rcases l7 l with ⟨e, -⟩ | e
 · exact jZ l x (by rw [e];exact h)
 · exact jZ l x (by rw [e];simp [h])
theorem I3 (l:List UInt8):(cE l).length<=l.length+1:=by
 rcases l7 l with ⟨e, -⟩ | e
 · rw [<- e];exact sN l
 · have:=sN l
   rw [e] at this;simp at this;omega
theorem AK:∀ (x l:List UInt8),(∀ c∈x,¬ c=10)->cE (x++10::l)=x::cE l
 | [],l,_=>rfl
 | c :: x, l, h => by
   rw [List.cons_append];exact yC (h c (by simp)) (AK x l (fun d hd=>h d (by simp [hd])))
theorem yB:∀ (x:List UInt8),¬ x=[]->(∀ c∈x,¬ c=10)->cE x=[x]
 | [],h,_=>absurd rfl h
 | [c], _, h => by
   unfold cE;rw [if_neg (h c (by simp))];rfl
 | c::d::x,_,h=>yC (h c (by simp)) (yB (d::x) (by simp) (fun e he=>h e (by simp [he])))
def jI (c:UInt8):Bool:=c == 32
def eI (c:UInt8):Bool:=c != 32 && c != 61
def fE (l:List UInt8):Option (List UInt8×List UInt8) :=
 let a:=l.dropWhile jI
 if a.takeWhile eI=[] then none else match (a.dropWhile eI).dropWhile jI with
  | 61::r=>some (a.takeWhile eI,r)
  | _=>none
def cT (x:List UInt8):Bool:=x == [114,101,112] || x == [108,111,97,100] || x == [110] || x == [118,101,114]
inductive Hx | bad (p:Nat) (e:Int) | ok (l:List LN)
inductive EY | bad (e:Int) | ok (x:LN)
def fM (acc:List LN) (s:List UInt8):EY:=match fE s with
 | none=>.bad 2
 | some (nm, r) => if bH nm = false \/ cT nm = true then .bad 5 else
   if acc.any (fun x=>x.nm.data.toList == nm)=true then .bad 6 else match agX r with
    | .bad _ e=>.bad e
    | .ok a=>.ok ⟨⟨nm.toArray⟩,a⟩
def gR:List (List UInt8)->List LN->Hx
 | [],acc=>.ok acc
 | s :: q, acc => if acc.length = 8 then .bad acc.length 4 else match fM acc s with
   | .bad e=>.bad acc.length e
   | .ok x=>gR q (acc++[x])
def iJ (l:List UInt8):Hx:=gR (cE l) []
def rI (x:LN):List UInt8:=x.nm.data.toList++32::61::32::(fP x.a++[10])
def rD:List LN->List UInt8
 | []=>[]
 | x::r=>rI x++rD r
theorem Ea {acc:List LN} {s:List UInt8} {e:Int} (hA:∀ (l:List UInt8) (p:Nat) (e:Int),agX l=.bad p e->¬ e=0) (h:fM acc s=.bad e):¬ e=0:=by
 unfold fM at h;split at h
 · cases h;decide
 · split at h
   · cases h;decide
   · split at h
     · cases h;decide
     · split at h
       · rename_i p e' he
         cases h;exact hA _ _ _ he
       · cases h
theorem Ox {acc:List LN} {s:List UInt8} {x:LN} (h:fM acc s=.ok x):∃ r,fE s=some (x.nm.data.toList,r)/\bH x.nm.data.toList=true/\cT x.nm.data.toList=false/\acc.any (fun y=>y.nm.data.toList == x.nm.data.toList)=false/\agX r=.ok x.a:=by
 unfold fM at h;split at h
 · cases h
 · rename_i nm r e1
   split at h
   · cases h
   · rename_i n2
     split at h
     · cases h
     · rename_i n3
       split at h
       · cases h
       · rename_i a ea
         cases h;refine ⟨r,e1,?_,?_,?_,ea⟩
         · cases hg:bH nm with
           | true=>rfl
           | false=>exact absurd (.inl hg) n2
         · cases hk:cT nm with
           | false=>rfl
           | true=>exact absurd (.inr hk) n2
         · simpa using n3
structure OkP (l:List LN):Prop where
 len:l.length<=8
 nm:∀ x∈l,bH x.nm.data.toList=true/\cT x.nm.data.toList=false
 nd:(l.map (fun x=>x.nm.data.toList)).Nodup
 ag:∀ x∈l,∃ r,agX r=.ok x.a
theorem OkP.snoc {l:List LN} (h:OkP l) (hl:¬ l.length=8) {x:LN} {r:List UInt8} (h1:bH x.nm.data.toList=true) (h2:cT x.nm.data.toList=false) (h3:l.any (fun y=>y.nm.data.toList == x.nm.data.toList)=false) (h4:agX r=.ok x.a):OkP (l++[x]):=by
 refine ⟨by have:=h.len;simp;omega,fun y hy=>?_,?_,fun y hy=>?_⟩
 · rcases List.mem_append.1 hy with hy | hy
   · exact h.nm y hy
   · simp at hy;subst hy;exact ⟨h1,h2⟩
 · rw [List.map_append,List.nodup_append]
   refine ⟨h.nd,by simp,fun a ha b hb e=>?_⟩;simp at hb;subst hb;subst e;obtain ⟨y,hy,e⟩:=List.mem_map.1 ha;have:l.any (fun y=>y.nm.data.toList == x.nm.data.toList)=true:=List.any_eq_true.2 ⟨y,hy,by simpa using e⟩;rw [this] at h3;cases h3
 · rcases List.mem_append.1 hy with hy | hy
   · exact h.ag y hy
   · simp at hy;subst hy;exact ⟨r,h4⟩
theorem DJ:∀ (q:List (List UInt8)) (acc l:List LN),OkP acc->gR q acc=.ok l->OkP l
 | [],acc,l,h,e=>by unfold gR at e;cases e;exact h
 | s :: q, acc, l, h, e => by
   unfold gR at e;split at e
   · cases e
   · rename_i hl
     split at e
     · cases e
     · rename_i x hx
       obtain ⟨r, -,h1,h2,h3,h4⟩:=Ox hx;exact DJ q _ l (h.snoc hl h1 h2 h3 h4) e
theorem Ol:OkP []:=⟨by simp,fun _ h=>(nomatch h),by simp,fun _ h=>(nomatch h)⟩
theorem DI {s:List UInt8} {l:List LN} (h:iJ s=.ok l):OkP l:=DJ _ _ _ Ol h
abbrev lnL (x:LN) (p:PA):List Value:=[.string x.nm,.string x.a.fn,.int .i64 x.a.k,.string x.a.e.op,.string x.a.e.nm,.int .i64 x.a.e.n,.slice p.ea x.a.e.ks.len p.ec,.string x.a.g.op,.string x.a.g.nm,.int .i64 x.a.g.n,.slice p.ga x.a.g.ks.len p.gc,.slice p.wa x.a.wh.length p.wc]
def nY (w:World) (b o:Nat) (x:LN) (p:PA):Prop :=
 w.cell? ⟨b,o,none⟩=some (.string x.nm)/\w.cell? ⟨b,o+1,none⟩=some (.string x.a.fn)/\w.cell? ⟨b,o+1+1,none⟩=some (.int .i64 x.a.k)/\w.cell? ⟨b,o+1+2,none⟩=some (.string x.a.e.op)/\w.cell? ⟨b,o+1+3,none⟩=some (.string x.a.e.nm)/\w.cell? ⟨b,o+1+4,none⟩=some (.int .i64 x.a.e.n)/\w.cell? ⟨b,o+1+5,none⟩=some (.slice p.ea x.a.e.ks.len p.ec) /\
  w.cell? ⟨b,o+1+6,none⟩=some (.string x.a.g.op)/\w.cell? ⟨b,o+1+7,none⟩=some (.string x.a.g.nm)/\w.cell? ⟨b,o+1+8,none⟩=some (.int .i64 x.a.g.n)/\w.cell? ⟨b,o+1+9,none⟩=some (.slice p.ga x.a.g.ks.len p.gc)/\w.cell? ⟨b,o+1+10,none⟩=some (.slice p.wa x.a.wh.length p.wc)
theorem nY.keptS {S:Nat->Prop} {w w':World} {b o:Nat} {x:LN} {p:PA} (h:nY w b o x p) (hk:aD S w w') (hb:¬ S b):nY w' b o x p:=by
 obtain ⟨h0,h1,h2,h3,h4,h5,h6,h7,h8,h9,h10,h11⟩:=h;exact ⟨hk.cell h0 hb,hk.cell h1 hb,hk.cell h2 hb,hk.cell h3 hb,hk.cell h4 hb,hk.cell h5 hb,hk.cell h6 hb,hk.cell h7 hb,hk.cell h8 hb,hk.cell h9 hb,hk.cell h10 hb,hk.cell h11 hb⟩
theorem Gw {w:World} {b o:Nat} {x:LN} {p:PA} (h:∀ i u,(lnL x p)[i]? = some u->w.cell? ⟨b,o+i,none⟩=some u):nY w b o x p :=
 ⟨h 0 _ rfl,h 1 _ rfl,h 2 _ rfl,h 3 _ rfl,h 4 _ rfl,h 5 _ rfl,h 6 _ rfl,h 7 _ rfl,h 8 _ rfl,h 9 _ rfl,h 10 _ rfl,h 11 _ rfl⟩
def dH (G:Nat->Prop) (w:World) (a:Option Addr) (l:List LN):Prop:=l=[]\/∃ b off,a=some ⟨b,off,none⟩/\G b/\b<w.heap.size/\∀ (j:Nat) x,l[j]? = some x->∃ p,nY w b (off+j*12) x p/\bC G w x.a p
theorem dH.keptS {S G:Nat->Prop} {w w':World} {a:Option Addr} {l:List LN} (h:dH G w a l) (hk:aD S w w') (hS:∀ k,S k->¬ G k):dH G w' a l :=
 Or.imp id (fun ⟨b,off,e,hg,hlt,hc⟩=>⟨b,off,e,hg,Nat.lt_of_lt_of_le hlt hk.size,fun j x hj=>by
  obtain ⟨p,h1,h2⟩:=hc j x hj;exact ⟨p,h1.keptS hk (fun hs=>hS b hs hg),h2.keptS hk hS⟩⟩) h
theorem dH.kept {G:Nat->Prop} {w w':World} {a:Option Addr} {l:List LN} (h:dH G w a l) (hb:Below w.heap.size w w'):dH G w' a l:=h.keptS (S:=fun _=>False) (aE hb _) (fun _ h=>h.elim)
theorem dH.imp {G H:Nat->Prop} {w:World} {a:Option Addr} {l:List LN} (h:dH G w a l) (hG:∀ b,b<w.heap.size->G b->H b):dH H w a l :=
 Or.imp id (fun ⟨b,off,e,hg,hlt,hc⟩=>⟨b,off,e,hG b hlt hg,hlt,fun j x hj=>by
  obtain ⟨p,h1,h2⟩:=hc j x hj;exact ⟨p,h1,h2.imp hG⟩⟩) h
theorem dH.at {G:Nat->Prop} {w:World} {a:Option Addr} {l:List LN} (h:dH G w a l) {j:Nat} {x:LN} (hj:l[j]? = some x):∃ b off p,a=some ⟨b,off,none⟩/\b<w.heap.size/\G b/\nY w b (off+j*12) x p/\bC G w x.a p:=by
 rcases h with rfl | ⟨b,off,rfl,hG,hl,hc⟩
 · cases hj
 · obtain ⟨p,h1,h2⟩:=hc j x hj
   exact ⟨b,off,p,rfl,hl,hG,h1,h2⟩
def kW:List LN->List PA->List Value
 | x::r,p::s=>lnL x p++kW r s
 | _,_=>[]
def RM (G:Nat->Prop) (w:World) (l:List LN) (ps:List PA):Prop:=∀ (j:Nat) (x:LN) (p:PA),l[j]? = some x->ps[j]? = some p->bC G w x.a p
theorem yA:∀ (l:List LN) (q:List PA),∀ u∈kW l q,u.oneCell'=true
 | [],_,u,h=>by simp [kW] at h
 | _::_,[],u,h=>by simp [kW] at h
 | d :: r, p :: s, u, h => by
   rw [kW] at h;rcases List.mem_append.1 h with h | h
   · simp only [lnL,List.mem_cons,List.not_mem_nil,or_false] at h
     rcases h with rfl | rfl | rfl | rfl | rfl | rfl | rfl | rfl | rfl | rfl | rfl | rfl <;> rfl
   · exact yA r s u h
theorem D9:∀ (l m:List LN) (q p:List PA),q.length=l.length->kW (l++m) (q++p)=kW l q++kW m p
 | [],m,[],p,_=>rfl
 | [],_,_::_,_,h=>by simp at h
 | _::_,_,[],_,h=>by simp at h
 | d::r,m,q::s,p,h=>by rw [List.cons_append,List.cons_append,kW,kW,D9 r m s p (by simpa using h),List.append_assoc]
theorem wF:∀ (l:List LN) (q:List PA) {k:Nat} {d:LN} (_:q.length=l.length) (_:l[k]? = some d),∃ p,q[k]? = some p/\∀ i u,(lnL d p)[i]? = some u->(kW l q)[k*12+i]? = some u
 | [],_,k,d,_,hk=>by simp at hk
 | _::_,[],k,d,h,_=>by simp at h
 | d :: r, p :: s, 0, d', h, hk => by
   cases hk;refine ⟨p,rfl,fun i u hu=>?_⟩;have hi:i<12:=(List.getElem?_eq_some_iff.1 hu).1;rw [kW,Nat.zero_mul,Nat.zero_add,List.getElem?_append_left (by simpa [lnL] using hi)];exact hu
 | d :: r, p :: s, k + 1, d', h, hk => by
   obtain ⟨p',h1,h2⟩:=wF r s (k:=k) (d:=d') (by simpa using h) (by simpa using hk);refine ⟨p',by simpa using h1,fun i u hu=>?_⟩;rw [kW,List.getElem?_append_right (by simp [lnL];omega)];have:(k+1)*12+i-(lnL d p).length=k*12+i:=by simp [lnL];omega
   rw [this];exact h2 i u hu
theorem Fn {G:Nat->Prop} {w:World} {B:Nat} {e:TypeId} {a:Option Addr} {c:Nat} {l:List LN} {qs:List PA} (ho:w.ownsRow B e 12 (.slice a l.length c) l.length (kW l qs)) (hl:qs.length=l.length) (hk:RM G w l qs) (hG:∀ b,a=some ⟨b,0,none⟩->G b):dH G w a l:=by
 by_cases hn:l=[]
 · exact .inl hn
 right
 have h0:∃ d,l[0]? = some d:=by
  cases l with
  | nil=>exact absurd rfl hn
  | cons d r=>exact ⟨d,rfl⟩
 obtain ⟨d0,hd0⟩:=h0;obtain ⟨p0, -,hp0⟩:=wF l qs hl hd0;obtain ⟨g,hg,c0⟩:=kU ho (hp0 0 _ rfl);have hlt:g<w.heap.size:=by have:=World.block_lt_of_cell? w _ c0;simpa using this
 refine ⟨g,0,hg,hG g hg,hlt,fun j d hj=>?_⟩;obtain ⟨p,hp,hc⟩:=wF l qs hl hj;refine ⟨p,Gw fun i u hu=>?_,hk j d p hj hp⟩;obtain ⟨g',hg',c⟩:=kU ho (hc i u hu);rw [hg] at hg';cases hg';rw [Nat.zero_add];exact c
def CQ (r:Hx) (w0:World) (e:Ending) (w':World):Prop:=Below w0.heap.size w0 w'/\match r with
 | .bad p er=>e=.returned (.tuple #[.slice none 0 0,.int .i64 (p:Nat),.int .i64 er])
 | .ok l=>∃ a c,e=.returned (.tuple #[.slice a l.length c,.int .i64 0,.int .i64 0])/\dH (fun b=>w0.heap.size<=b) w' a l
open Wr (tv qC mH BT tN Cg)
def zS (G:Nat->Prop) (w:World) (a:Option Addr) (L:List (List UInt8)):Prop:=L=[]\/∃ b off,a=some ⟨b,off,none⟩/\G b/\b<w.heap.size/\∀ (j:Nat) x,L[j]? = some x->w.cell? ⟨b,off+j,none⟩=some (.string ⟨x.toArray⟩)
theorem zS.at {G:Nat->Prop} {w:World} {a:Option Addr} {L:List (List UInt8)} (h:zS G w a L) {j:Nat} {x:List UInt8} (hj:L[j]? = some x):∃ b off,a=some ⟨b,off,none⟩/\b<w.heap.size/\w.cell? ⟨b,off+j,none⟩=some (.string ⟨x.toArray⟩):=by
 rcases h with rfl | ⟨b,off,rfl,hG,hl,hc⟩
 · cases hj
 · exact ⟨b,off,rfl,hl,hc j x hj⟩
def vU (l:List UInt8):List Value:=(l9 l).map tv
theorem xD {w:World} {B:Nat} {a:Option Addr} {n c:Nat} {L M:List (List UInt8)} (h:w.ownsRow B 9 1 (.slice a n c) n (M.map tv)) (hL:∃ r,L++r=M):zS (fun b=>B<=b) w a L:=by
 obtain ⟨r,hr⟩:=hL;rcases h.2 with ⟨h1, -⟩ | ⟨g,cap,cur,h1,h2,h3,h4,h5,h6,h7⟩
 · left
   injection h1 with _ h1 _;have:=h.1;rw [List.length_map, <- hr,List.length_append] at this;exact List.length_eq_zero_iff.1 (by omega)
 · injection h1 with ha _ _
   subst ha;refine .inr ⟨g,0,rfl,h2,lt_of_block h3,fun j x hj=>?_⟩
   have hm:(M.map tv)[j]? = some (tv x):=by
    rw [List.getElem?_map, <- hr,List.getElem?_append_left (List.getElem?_eq_some_iff.1 hj).1,hj];rfl
   have hc:=mH h hm;obtain ⟨c1, -⟩:=hc;simpa [tv] using c1
theorem Fx (s:ByteArray) (h1:1<=s.size) (hm:s.size<=5000) (w:World):Calls Tryz.prog 29 #[.string s] w fun e w'=>(∃ a c,e=.returned (.slice a (cE s.data.toList).length c)/\zS (fun b=>w.heap.size<=b) w' a (cE s.data.toList))/\Below w.heap.size w w':=by
 have e1:=qC (s:=s) (by omega)
 have e3:(s.toList == (⟨#[]⟩:ByteArray).toList)=false:=by
  rw [beq_eq_false_iff_ne];intro h;have:=congrArg List.length h;rw [Lib.toList_data,Lib.toList_data] at this;have h2:s.data.toList.length=s.size:=by simp
  have h3:(⟨#[]⟩:ByteArray).data.toList.length=0:=rfl;omega
 obtain ⟨B,hB⟩:∃ B,w.heap.size=B:=⟨_,rfl⟩;obtain ⟨i0,hi0,hz0,hz1,hz2⟩:=info_parts Cg
 have own0:(w.alloc (.cells #[.string ⟨#[]⟩] 9)).ownsRow B 9 1 (.slice (some ⟨B,0,none⟩) 1 1) (vU (s.data.toList.take 0)).length (vU (s.data.toList.take 0)):=by
  rw [List.take_zero];refine ⟨rfl,.inr ⟨B,1,#[.string ⟨#[]⟩],rfl,by omega,by rw [<- hB];exact World.alloc_heap_new w _,Nat.le_refl _,by unfold maxLen;omega,rfl,rfl⟩⟩
 have O:=aA own0;have BL:=aA (show Below B w (w.alloc (.cells #[.string ⟨#[]⟩] 9)) from (Below.refl _ _).alloc (by omega) _);clear own0;rw [hB];go_enter Tryz.func29,Tryz.ntmps29
 go_wp2_with fail
 go_loopw [3,4] (fun v i wr=>∃ k:Nat,k<=s.size/\i=.int .i64 k/\Hid (wr.ownsRow B 9 1 v (vU (s.data.toList.take k)).length (vU (s.data.toList.take k)))/\Hid (Below B w wr)) (fun _ i _=>s.size-(intOf i).toNat)
 case atStart=>exact ⟨0,by omega,rfl,O,BL⟩
 case round =>
  obtain ⟨k,hk,rfl,ho,hb⟩:=hrel;have hbs:B<=wr.heap.size:=by have:=hb.out.size;omega
  by_cases hlt:k<s.size
  · obtain ⟨q,a,g0,g1,g2⟩:=tQ (s.data.toList.take k)
    have hnx:s.data.toList.take (k+1)=s.data.toList.take k++[s[k]]:=by
     have hk':k<s.data.toList.length:=by simpa using hlt
     rw [List.take_succ_eq_append_getElem hk'];rfl
    have hql:q.length<=5001:=by
     have:=sN (s.data.toList.take k);rw [g0] at this;simp at this;omega
    have hal:a.length<=5001:=by
     have h:=jZ (s.data.toList.take k) a (by rw [g0];simp);simp at h;omega
    have hoo:=ho.out;obtain ⟨Q,hQ⟩:∃ Q,q.map tv=Q:=⟨_,rfl⟩;have hQl:Q.length<=5001:=by rw [<- hQ,List.length_map];exact hql
    have hseg:vU (s.data.toList.take k)=Q++[tv a]:=by unfold vU;rw [g0,List.map_append,hQ];rfl
    rw [hseg] at hoo;obtain ⟨N,hN⟩:∃ N,Q.length=N:=⟨_,rfl⟩;rw [List.length_append,hN,show [tv a].length=1 from rfl] at hoo;obtain ⟨g,cap,rfl⟩:=ownsRow_succ hoo;have HO:=aA hoo;rw [hN] at hQl;by_cases hc:s[k]=10
    · have hnew:=aA (show vU (s.data.toList.take (k+1))=Q++[tv a]++[.string ⟨#[]⟩] by unfold vU;rw [hnx,hc,g1,List.map_append,List.map_append,hQ];rfl)
      have hml:=aA (show N+1+1<=maxLen by unfold maxLen;omega);have hlen:=aA (show (Q++[tv a]++[Value.string ⟨#[]⟩]).length=N+1+1 by simp [hN]);have q10:((s[k].toNat:Int) == 10)=true:=by rw [hc];decide
      clear hoo g0 g1 g2 hnx hseg hQ hN hc hql ho;go_wp2_with (at_builtin;refine wpList_append_own _ rfl _ _ 55 rfl B 9 i0 (.string ⟨#[]⟩) 1 16 Tryz.underlying55 hi0 hz0 hz1 hz2 rfl (by decide) _ _ _ rfl (HO.out.alloc _) ⟨wr.heap.size,0,none⟩ 1 1 [.string ⟨#[]⟩] rfl rfl (cell_one_new _ _ _) (by simp [Value.oneCell']) hml.out (by omega) (by simp;omega) ?_;intro v2 w2 hown2 hgrow2 _;have O2:=aA hown2;have G2:=aA hgrow2;clear hown2 hgrow2)
      have hb2:=aA ((hb.out.alloc hbs _).grown G2.out (by simp;omega) (fun j e=>by
       rcases HO.out.2 with ⟨h1,_⟩ | ⟨g,cap,cur,h1,hg,_⟩
       · rw [h1] at e;cases e
       · rw [h1] at e;cases e;exact hg))
      go_roundw
      case rel=>exact ⟨k+1,by omega,by go_num,aA (by rw [hnew.out,hlen.out];exact O2.out),hb2⟩
      case measure=>simp [intOf];omega
    · have hnew:=aA (show vU (s.data.toList.take (k+1))=(Q++[tv a]).set N (.string (⟨a.toArray⟩++s.extract k (k+1))) by
       unfold vU;rw [hnx,g2 _ hc,List.map_append,hQ,tN a s k hlt,List.set_append_right _ _ (by omega),hN,Nat.sub_self];rfl)
      have hlen:=aA (show ((Q++[tv a]).set N (.string (⟨a.toArray⟩++s.extract k (k+1)))).length=N+1 by simp [hN])
      have q10:((s[k].toNat:Int) == 10)=false:=by
       rw [beq_eq_false_iff_ne];intro e;apply hc;apply UInt8.toNat_inj.1
       have:s[k].toNat=10:=by omega
       rw [this];rfl
      obtain ⟨c1,c2⟩:=mH HO.out (j:=N) (v:=tv a) (by rw [List.getElem?_append_right (by omega),hN,Nat.sub_self];rfl);obtain ⟨O2,hBg⟩:=BT HO.out N (by omega) (.string (⟨a.toArray⟩++s.extract k (k+1)));have O2:=aA O2;obtain ⟨T,hT⟩:∃ T:ByteArray,⟨a.toArray⟩=T:=⟨_,rfl⟩;have hTs:T.size<=5001:=by rw [<- hT];show a.toArray.size<=5001;simpa using hal
      have hb2:=aA (hb.out.setCell (p:=⟨g,N,none⟩) hBg (.string (⟨a.toArray⟩++s.extract k (k+1))));unfold tv at c1;rw [hT] at c1 O2 hb2 hnew hlen;clear hoo g0 g1 g2 hnx hseg hQ hN hc hql ho hal hT;go_wp2_with fail
      have j1:IntKind.i64.wrap (N:Int)=(N:Int):=IntWalk.i64_in _ (by omega);have j2:IntKind.i64.wrap ((k:Int)+1)=(k:Int)+1:=IntWalk.i64_in _ (by omega);have j3:(0:Int)<=(k:Int)+1:=by omega
      have j4:((k:Int)+1).toNat=k+1:=by omega
      have j5:(0:Int)<=(N:Int):=by omega
      have j6:(N:Int)<(N:Int)+1:=by omega
      have j7:N<N+1:=by omega
      have j8:((N:Int)).toNat=N:=by omega
      have j9:(N:Int)<((N+1:Nat):Int):=by omega
      have j10:(k:Int)<=(k:Int)+1:=by omega
      have j11:(k:Int)+1<=(s.size:Int):=by omega
      have j12:k<=k+1:=by omega
      have j13:k+1<=s.size:=by omega
      have j14:(0:Int)<=(k:Int):=by omega
      have j15:((k:Int)).toNat=k:=by omega
      obtain ⟨E,hE⟩:∃ E,s.extract k (k+1)=E:=⟨_,rfl⟩;have hEs:E.size<=1:=by rw [<- hE];simp;omega
      rw [hE] at O2 hb2 hnew hlen;have j16:(9223372036854775807<T.size+E.size)=False:=by simp;omega
      go_still_tail 17,(by kernel_rfl)
      change wpList _ _ _ _ _ wr.drew;go_wp2_with fail
      exact ⟨⟨k+1,by omega,by go_num,aA (by rw [hnew.out,hlen.out];exact DR O2.out),aA hb2.out.drew⟩,by simp [intOf];omega⟩
  · obtain rfl:k=s.size:=by omega
    rw [List.take_of_length_le (l:=s.data.toList) (by simp)] at ho;obtain ⟨q,a,g0, -, -⟩:=tQ s.data.toList
    have hql:q.length<=5001:=by
     have:=sN s.data.toList;rw [g0] at this;simp at this;omega
    have hoo:=ho.out;have hseg:vU s.data.toList=(q++[a]).map tv:=by unfold vU;rw [g0]
    rw [hseg] at hoo;obtain ⟨N,hN⟩:∃ N,q.length=N:=⟨_,rfl⟩;rw [show ((q++[a]).map tv).length=N+1 by simp [hN]] at hoo;obtain ⟨g,cap,rfl⟩:=ownsRow_succ hoo;have HO:=aA hoo;have hc:=aA (DS hoo);obtain ⟨c1,c2⟩:=mH hoo (j:=N) (v:=tv a) (by rw [List.getElem?_map,List.getElem?_append_right (by omega),hN,Nat.sub_self];rfl);have j1:IntKind.i64.wrap (N:Int)=(N:Int):=IntWalk.i64_in _ (by omega);have j5:(0:Int)<=(N:Int):=by omega
    have j6:(N:Int)<(N:Int)+1:=by omega
    have j9:(N:Int)<((N+1:Nat):Int):=by omega
    have j8:((N:Int)).toNat=N:=by omega
    have j10:(N:Int)<=(cap:Int):=by have:=hc.out;omega
    have j11:N<=cap:=by have:=hc.out;omega
    unfold tv at c1;have SL:=aA (l7 s.data.toList);have HB:=aA (hbs);rw [hN] at hql;have HN:=aA hN;have HG:=aA g0;clear hseg ho hoo g0 hN e1;by_cases ha:a=[]
    · subst ha
      have hl:cE s.data.toList=q:=by
       rcases SL.out with ⟨e,n⟩ | e
       · rw [HG.out] at n;simp at n
       · rw [HG.out] at e
         exact (List.append_inj_left' e rfl).symm
      have q0:(([]:List UInt8).toArray:Array UInt8)=#[]:=rfl;go_wp2_with fail
      go_ret;exact ⟨⟨some ⟨g,0,none⟩,⟨cap,by rw [HN.out];rfl⟩,xD HO.out ⟨[[]],rfl⟩⟩,hb.out⟩
    · have hl:cE s.data.toList=q++[a]:=by
       rcases SL.out with ⟨e,n⟩ | e
       · rw [<- e,HG.out]
       · rw [HG.out] at e
         have:=(List.append_inj_right' e rfl);simp at this;exact absurd this ha
      have q0:a.isEmpty=false:=by
       cases a with
       | nil=>exact absurd rfl ha
       | cons _ _=>rfl
      go_wp2_with fail
      go_ret;exact ⟨⟨some ⟨g,0,none⟩,cap,by rw [hl,List.length_append,HN.out];rfl,by rw [hl];exact xD HO.out ⟨[],by simp⟩⟩,hb.out⟩
theorem Bw {c:UInt8} (h:aX c=true):¬ c=10/\¬ c=32/\¬ c=61:=by
 refine ⟨?_,?_,?_⟩ <;> (rintro rfl;revert h;decide)
theorem Kd {a:AG} (h:iY a=0) (hn:jP a) (hl:(fP a).length+1<=1024):agX (32::fP a)=.ok (Cu a):=by
 obtain ⟨h1,h2,h3,h4,h5,h6⟩:=dU h;have I:=jJ.appF (Oz h hn) (AS (c:=41) (.inr (.inl rfl))) (fun r=>Aq r);have W:=jK.appS I (FX a.wh h6 hn.c);have y:=jK.appS fS (jJ.app (uB (O8 h1)) (jK.appS (AS (c:=40) (.inl rfl)) W) (fun q _=>gP (by decide) _));obtain ⟨ts,e1,e2⟩:=y [] Kv 0;have e3:(32::fP a)=[32]++(a.fn.data.toList++([40]++(nZ a++[41]++oO a.wh))):=by simp [fP]
 have e4:ts.map dL=Qa a:=by rw [e1];simp [Qa]
 rw [List.append_nil,lJ, <- e3] at e2;unfold agX gU;rw [if_neg (by simp;omega),e2];simp only [fY.after,List.append_nil];rw [M8 h hn e4]
theorem yM {x:List UInt8} (h:bH x=true):∃ c r,x=c::r/\bE c=true/\r.length<=7/\∀ d∈x,aX d=true:=by
 cases x with
 | nil=>cases h
 | cons c r =>
   simp only [bH,Bool.and_eq_true,decide_eq_true_eq] at h;obtain ⟨⟨h1,h2⟩,h3⟩:=h;refine ⟨c,r,rfl,h1,h2,fun d hd=>?_⟩;rcases List.mem_cons.1 hd with rfl | hd
   · unfold aX;rw [h1];rfl
   · exact List.all_eq_true.1 h3 d hd
theorem Am {q:UInt8->Bool}:∀ (x:List UInt8) (d:UInt8) (y:List UInt8),(∀ c∈x,q c=true)->q d=false->(x++d::y).takeWhile q=x/\(x++d::y).dropWhile q=d::y
 | [],d,y,_,h=>⟨by rw [List.nil_append,List.takeWhile_cons_of_neg (by simp [h])],by rw [List.nil_append,List.dropWhile_cons_of_neg (by simp [h])]⟩
 | c :: x, d, y, hx, h => by
   have ih:=Am x d y (fun e he=>hx e (by simp [he])) h;rw [List.cons_append,List.takeWhile_cons_of_pos (hx c (by simp)),List.dropWhile_cons_of_pos (hx c (by simp)),ih.1,ih.2];exact ⟨rfl,rfl⟩
theorem Be {x r:List UInt8} (h:bH x=true):fE (x++32::61::r)=some (x,r):=by
 obtain ⟨c,t,e,h1, -,h3⟩:=yM h
 have hb:jI c=false:=by
  have:=(Bw (h3 c (by rw [e];simp))).2.1;simpa [jI] using this
 have a1:(x++32::61::r).dropWhile jI=x++32::61::r:=by
  rw [e,List.cons_append,List.dropWhile_cons_of_neg (by simp [hb])]
 have a2:=Am (q:=eI) x 32 (61::r) (fun d hd=>by
  obtain ⟨-,n1,n2⟩:=Bw (h3 d hd);simp [eI,n1,n2]) (by decide)
 have a3:(32::61::r).dropWhile jI=61::r:=by
  rw [List.dropWhile_cons_of_pos (by decide),List.dropWhile_cons_of_neg (by decide)]
 unfold fE;simp only;rw [a1,a2.1,a2.2,a3,if_neg (by rw [e];simp)];rfl
theorem wL (q:UInt8->Bool):∀ (l:List UInt8) (c:UInt8) (r:List UInt8),l.dropWhile q=c::r->q c=false
 | [],c,r,h=>by simp at h
 | d :: l, c, r, h => by
   cases hd:q d with
   | true=>rw [List.dropWhile_cons_of_pos hd] at h;exact wL q l c r h
   | false =>
     rw [List.dropWhile_cons_of_neg (by simp [hd])] at h;cases h;exact hd
theorem Cm (s:ByteArray) {k:Nat} (h:k<s.size):s.data.toList.drop k=s[k]::s.data.toList.drop (k+1):=by
 have hk:k<s.data.toList.length:=by simpa using h
 rw [List.drop_eq_getElem_cons hk];rfl
section
variable {q : UInt8 -> Bool} {s : ByteArray} {p m k : Nat}
theorem Fj (hm:p+bL q (s.data.toList.drop p)=m) (h1:p<=k) (h2:k<m):∃ h:k<s.size,q s[k]=true:=by
 obtain ⟨n,hn⟩:∃ n,bL q (s.data.toList.drop p)=n:=⟨_,rfl⟩;have hl:((s.data.toList.drop p).takeWhile q).length=n:=hn;have ht:=oP q (s.data.toList.drop p);rw [hn] at ht hm;have hj:k-p<((s.data.toList.drop p).takeWhile q).length:=by omega
 have e1:(s.data.toList.drop p)[k-p]? = some ((s.data.toList.drop p).takeWhile q)[k-p]:=by
  rw [<- List.getElem?_eq_getElem hj, <- ht,List.getElem?_take_of_lt (by omega)]
 rw [List.getElem?_drop,show p+(k-p)=k by omega] at e1;obtain ⟨hk,e2⟩:=List.getElem?_eq_some_iff.1 e1;have hk':k<s.size:=by simpa using hk
 refine ⟨hk',?_⟩;have e3:s[k]=((s.data.toList.drop p).takeWhile q)[k-p]:=e2;rw [e3];exact List.all_eq_true.1 List.all_takeWhile _ (List.getElem_mem hj)
theorem Fk (hm:p+bL q (s.data.toList.drop p)=m) (h:m<s.size):q s[m]=false:=by
 have hd:=pG q (s.data.toList.drop p);rw [List.drop_drop,hm,Cm s h] at hd;exact wL q _ _ _ hd.symm
theorem BK (hm:p+bL q (s.data.toList.drop p)=m) (hp:p<=s.size):p<=m/\m<=s.size:=by
 have:=tS q (s.data.toList.drop p);rw [List.length_drop] at this;have h2:s.data.toList.length=s.size:=by simp
 omega
end
theorem zL (c:UInt8):((c.toNat:Int) == 32)=jI c:=by
 rw [Bool.eq_iff_iff,beq_iff_eq,jI,beq_iff_eq, <- UInt8.toNat_inj];show ((c.toNat:Int)=32) ↔ (c.toNat=32);omega
theorem He {c:UInt8}:eI c=(((c.toNat:Int) != 32) && ((c.toNat:Int) != 61)):=by
 have h61:((c.toNat:Int) == 61)=(c == 61):=by
  rw [Bool.eq_iff_iff,beq_iff_eq,beq_iff_eq, <- UInt8.toNat_inj];show ((c.toNat:Int)=61) ↔ (c.toNat=61);omega
 have h32:((c.toNat:Int) == 32)=(c == 32):=zL c;unfold eI bne;rw [h61,h32]
theorem OW {s:ByteArray} {a b c:Nat} (ha:0+bL jI (s.data.toList.drop 0)=a) (hb:a+bL eI (s.data.toList.drop a)=b) (hc:b+bL jI (s.data.toList.drop b)=c) :
 (b=a->fE s.data.toList=none)/\(s.size<=c->fE s.data.toList=none)/\(∀ h:c<s.size,¬ s[c]=61->fE s.data.toList=none) /\
 (¬ b=a->∀ h:c<s.size,s[c]=61->fE s.data.toList=some ((s.data.toList.drop a).take (b-a),s.data.toList.drop (c+1))):=by
 rw [Nat.zero_add,List.drop_zero] at ha;have e1:s.data.toList.dropWhile jI=s.data.toList.drop a:=by rw [<- pG,ha]
 have e2:(s.data.toList.drop a).takeWhile eI=(s.data.toList.drop a).take (b-a):=by rw [<- oP, <- hb,Nat.add_sub_cancel_left]
 have e3:(s.data.toList.drop a).dropWhile eI=s.data.toList.drop b:=by rw [<- pG,List.drop_drop,hb]
 have e4:(s.data.toList.drop b).dropWhile jI=s.data.toList.drop c:=by rw [<- pG,List.drop_drop,hc]
 have e5:fE s.data.toList=if (s.data.toList.drop a).take (b-a)=[] then none else match s.data.toList.drop c with
  | 61::r=>some ((s.data.toList.drop a).take (b-a),r)
  | _=>none:=by
  unfold fE;simp only;rw [e1,e2,e3,e4];all_goals rfl
 refine ⟨fun h=>?_,fun h=>?_,fun h h2=>?_,fun h0 h h2=>?_⟩
 · rw [e5,if_pos (by rw [h,Nat.sub_self,List.take_zero])]
 · rw [e5,show s.data.toList.drop c=[] from List.drop_of_length_le (by simpa using h)]
   split <;> rfl
 · rw [e5,Cm s h]
   split
   · rfl
   · split
     · rename_i r hr
       exact absurd (List.cons.inj hr).1 h2
     · rfl
 · have hne:¬ (s.data.toList.drop a).take (b-a)=[]:=by
    intro hn;have:=congrArg List.length hn;rw [<- e2] at this
    have h3:((s.data.toList.drop a).takeWhile eI).length=b-a:=by
     show bL eI _=_;omega
    rw [h3] at this;simp at this;omega
   rw [e5,Cm s h,h2,if_neg hne];rfl
theorem ML (s:ByteArray) (k m:Nat):s.extract k m=⟨((s.data.toList.drop k).take (m-k)).toArray⟩:=by
 apply dI
 rw [ByteArray.data_extract,Array.toList_extract]
theorem Pk (s:ByteArray) (k:Nat):s.extract k s.size=⟨(s.data.toList.drop k).toArray⟩:=by
 rw [ML,List.take_of_length_le (by simp)]
def QZ (r:Option (List UInt8×List UInt8)) (w:World) (e:Ending) (w':World):Prop:=Below w.heap.size w w'/\match r with
 | none=>e=.returned (.tuple #[.string ⟨#[]⟩,.string ⟨#[]⟩,.bool false])
 | some (x,y)=>e=.returned (.tuple #[.string ⟨x.toArray⟩,.string ⟨y.toArray⟩,.bool true])
theorem AB (s:ByteArray) (hm:s.size<=281474976710656) (w:World):Calls Tryz.prog 30 #[.string s] w (QZ (fE s.data.toList) w):=by
 obtain ⟨a,ha⟩:∃ a,0+bL jI (s.data.toList.drop 0)=a:=⟨_,rfl⟩;obtain ⟨b,hb⟩:∃ b,a+bL eI (s.data.toList.drop a)=b:=⟨_,rfl⟩;obtain ⟨c,hc⟩:∃ c,b+bL jI (s.data.toList.drop b)=c:=⟨_,rfl⟩;have ta:=BK ha (Nat.zero_le _);have tb:=BK hb ta.2;have tc:=BK hc tb.2;obtain ⟨r,hr⟩:∃ r,fE s.data.toList=r:=⟨_,rfl⟩;have HI:=OW ha hb hc;rw [hr] at HI |-
 clear hr;have HI:=aA HI;have HA:=aA ha;have HB:=aA hb;have HC:=aA hc;have B0:=aA (Below.refl w.heap.size w);clear ha hb hc;obtain ⟨ta1,ta2⟩:=ta;obtain ⟨tb1,tb2⟩:=tb;obtain ⟨tc1,tc2⟩:=tc;go_enter Tryz.func30,Tryz.ntmps30
 go_upto_block 0 with fail
 go_cut [5] (fun v5 wc=>v5=.int .i64 (a:Nat)/\w=wc)
 case first =>
  go_wp2_with fail
  go_loop [5] (fun i=>∃ k:Nat,0<=k/\k<=a/\i=.int .i64 k) (fun i=>a-(intOf i).toNat)
  case atStart=>exact ⟨0,Nat.le_refl _,by omega,rfl⟩
  case round =>
   obtain ⟨k,hk0,hk,rfl⟩:=hrel;by_cases hlt:k<a
   · obtain ⟨h1,h2⟩:=Fj HA.out hk0 hlt
     have q0:((s[k].toNat:Int) == 32)=true:=by rw [zL,h2]
     clear h2;go_wp2_with fail
     go_round
     case rel=>exact ⟨k+1,by omega,by omega,by go_num⟩
     case measure=>simp [intOf];omega
   · obtain rfl:k=a:=by omega
     clear hlt hk hk0;by_cases hs:k<s.size
     · have q0:((s[k].toNat:Int) == 32)=false:=by rw [zL,Fk HA.out hs]
       go_wp2_with fail
       go_meet;exact ⟨rfl,rfl⟩
     · go_wp2_with fail
       go_meet;exact ⟨rfl,rfl⟩
 case rest =>
 obtain ⟨rfl,rfl⟩:=hcut;go_upto_block 2 with fail
 go_cut [6] (fun v6 wc=>v6=.int .i64 (b:Nat)/\w=wc)
 case first =>
  go_wp2_with fail
  go_loop [6] (fun i=>∃ k:Nat,a<=k/\k<=b/\i=.int .i64 k) (fun i=>b-(intOf i).toNat)
  case atStart=>exact ⟨a,Nat.le_refl _,by omega,rfl⟩
  case round =>
   obtain ⟨k,hk0,hk,rfl⟩:=hrel;by_cases hlt:k<b
   · obtain ⟨h1,h2⟩:=Fj HB.out hk0 hlt
     rw [He,Bool.and_eq_true] at h2;obtain ⟨q0,q1⟩:=h2;go_wp2_with fail
     go_round
     case rel=>exact ⟨k+1,by omega,by omega,by go_num⟩
     case measure=>simp [intOf];omega
   · obtain rfl:k=b:=by omega
     clear hlt hk hk0;by_cases hs:k<s.size
     · have hn:=Fk HB.out hs
       rw [He,Bool.and_eq_false_iff] at hn;cases h32:((s[k].toNat:Int) != 32) with
       | false =>
         clear hn;go_wp2_with fail
         go_meet;exact ⟨rfl,rfl⟩
       | true =>
         have h61:((s[k].toNat:Int) != 61)=false:=hn.resolve_left (by rw [h32];decide);clear hn;go_wp2_with fail
         go_meet;exact ⟨rfl,rfl⟩
     · go_wp2_with fail
       go_meet;exact ⟨rfl,rfl⟩
 case rest =>
 obtain ⟨rfl,rfl⟩:=hcut;go_upto_block 4 with fail
 go_cut [7] (fun v7 wc=>v7=.int .i64 (c:Nat)/\w=wc)
 case first =>
  go_wp2_with fail
  go_loop [7] (fun i=>∃ k:Nat,b<=k/\k<=c/\i=.int .i64 k) (fun i=>c-(intOf i).toNat)
  case atStart=>exact ⟨b,Nat.le_refl _,by omega,rfl⟩
  case round =>
   obtain ⟨k,hk0,hk,rfl⟩:=hrel;by_cases hlt:k<c
   · obtain ⟨h1,h2⟩:=Fj HC.out hk0 hlt
     have q0:((s[k].toNat:Int) == 32)=true:=by rw [zL,h2]
     clear h2;go_wp2_with fail
     go_round
     case rel=>exact ⟨k+1,by omega,by omega,by go_num⟩
     case measure=>simp [intOf];omega
   · obtain rfl:k=c:=by omega
     clear hlt hk hk0;by_cases hs:k<s.size
     · have q0:((s[k].toNat:Int) == 32)=false:=by rw [zL,Fk HC.out hs]
       go_wp2_with fail
       go_meet;exact ⟨rfl,rfl⟩
     · go_wp2_with fail
       go_meet;exact ⟨rfl,rfl⟩
 case rest =>
 obtain ⟨rfl,rfl⟩:=hcut;by_cases hba:b=a
 · have qb:((b:Int) == (a:Int))=true:=by rw [hba];simp
   have R:=aA (HI.out.1 hba);clear hba;go_wp2_with fail
   exact bodyPost_ret (v:=.tuple #[.string ⟨#[]⟩,.string ⟨#[]⟩,.bool false]) (by simp [results,Tryz.results30,go_sem]) rfl ⟨B0.out,by rw [R.out]⟩
 · have qb:((b:Int) == (a:Int))=false:=by rw [beq_eq_false_iff_ne];omega
   by_cases hc1:c<s.size
   · by_cases h61:s[c]=61
     · have q61:((s[c].toNat:Int) != 61)=false:=by rw [h61];decide
       have R:=aA (HI.out.2.2.2 hba hc1 h61);have X1:=aA (ML s a b);have X2:=aA (Pk s (c+1));have j1:IntKind.i64.wrap ((c:Int)+1)=(c:Int)+1:=IntWalk.i64_in _ (by omega);have j2:(0:Int)<=(c:Int)+1:=by omega
       have j3:((c:Int)+1).toNat=c+1:=by omega
       have j4:(c:Int)+1<=(s.size:Int):=by omega
       have j5:c+1<=s.size:=by omega
       have j6:(0:Int)<=(a:Int):=by omega
       have j7:(a:Int)<=(b:Int):=by omega
       have j8:(b:Int)<=(s.size:Int):=by omega
       have j9:((a:Int)).toNat=a:=by omega
       have j10:((b:Int)).toNat=b:=by omega
       have j11:(0:Int)<=(b:Int):=by omega
       clear hba h61;go_wp2_with (go_quiet (fail))
       exact bodyPost_ret (v:=.tuple #[.string (s.extract a b),.string (s.extract (c+1) s.size),.bool true]) (by simp [results,Tryz.results30,go_sem]) rfl ⟨eL B0.out _,by rw [R.out,X1.out,X2.out]⟩
     · have q61:((s[c].toNat:Int) != 61)=true:=by
        rw [bne_iff_ne];intro e;apply h61;apply UInt8.toNat_inj.1
        have:s[c].toNat=61:=by omega
        rw [this];rfl
       have R:=aA (HI.out.2.2.1 hc1 h61);clear hba h61;go_wp2_with fail
       exact bodyPost_ret (v:=.tuple #[.string ⟨#[]⟩,.string ⟨#[]⟩,.bool false]) (by simp [results,Tryz.results30,go_sem]) rfl ⟨B0.out,by rw [R.out]⟩
   · have R:=aA (HI.out.2.1 (by omega))
     clear hba;go_wp2_with fail
     exact bodyPost_ret (v:=.tuple #[.string ⟨#[]⟩,.string ⟨#[]⟩,.bool false]) (by simp [results,Tryz.results30,go_sem]) rfl ⟨B0.out,by rw [R.out]⟩
theorem AA (s:ByteArray) (w:World):Calls Tryz.prog 26 #[.string s] w fun e w'=>e=.returned (.bool (cT s.data.toList))/\w=w':=by
 cases h0:(s.data.toList == [114,101,112]) with
 | true =>
   have g0:=bQ h0;have R:cT s.data.toList=true:=by unfold cT;rw [h0];simp
   rw [R];clear R  h0;go_enter Tryz.func26,Tryz.ntmps26
   go_wp2_with fail
   go_ret;exact ⟨rfl,rfl⟩
 | false =>
   cases h1:(s.data.toList == [108,111,97,100]) with
   | true =>
     have g0:=aI h0;have g1:=bQ h1;have R:cT s.data.toList=true:=by unfold cT;rw [h1];simp
     rw [R];clear R h0 h1;go_enter Tryz.func26,Tryz.ntmps26
     go_wp2_with fail
     go_ret;exact ⟨rfl,rfl⟩
   | false =>
     cases h2:(s.data.toList == [110]) with
     | true =>
       have g0:=aI h0;have g1:=aI h1;have g2:=bQ h2;have R:cT s.data.toList=true:=by unfold cT;rw [h2];simp
       rw [R];clear R h0 h1 h2;go_enter Tryz.func26,Tryz.ntmps26
       go_wp2_with fail
       go_ret;exact ⟨rfl,rfl⟩
     | false =>
       cases h3:(s.data.toList == [118,101,114]) with
       | true =>
         have g0:=aI h0;have g1:=aI h1;have g2:=aI h2;have g3:=bQ h3;have R:cT s.data.toList=true:=by unfold cT;rw [h3];simp
         rw [R];clear R h0 h1 h2 h3;go_enter Tryz.func26,Tryz.ntmps26
         go_wp2_with fail
         go_ret;exact ⟨rfl,rfl⟩
       | false =>
         have g0:=aI h0;have g1:=aI h1;have g2:=aI h2;have g3:=aI h3;have R:cT s.data.toList=false:=by unfold cT;rw [h0,h1,h2,h3];rfl
         rw [R];clear R h0 h1 h2 h3;go_enter Tryz.func26,Tryz.ntmps26
         go_wp2_with fail
         go_ret;exact ⟨rfl,rfl⟩
end
end Go.Proofs.YtgfkjkokmcejbaaGreatDoor
namespace Go
section
variable {P : Program} {ops : Array Oper} {Q : Exit -> Act -> World -> Prop} {md : Region.Mode} {S : World -> Prop}
theorem aB {i:Nat} {oi:Oper} {d:Option Tmp} {v:Value} {fuel:Nat} {listed:Array Bool} {a:Act} {w:World} (hi:ops[i]? = some oi) (hd:oi.dst=d)
 (hs:Region.noSelect ops=true) (hf:Region.free md ops listed i=true) (hr:(Region.ready md ops listed).contains i=true)
 (hQ:∀ c a w,Q (.panic c) (a.put d v) w->Q (.panic c) a w) (hy:YieldsIf P ops S oi v a) (hS:S w)
 (h:wpAnyH P md ops Q S fuel (listed.setIfInBounds i true) (a.put d v) w):wpAnyH P md ops Q S (fuel+1) listed a w:=by
 subst hd;exact wpAnyH_take hi hs hf hr hQ hy hS h
end
end Go
