/-
 No statement: what ProgOrderLift needs, of the texts OE9, OE10, OE11.
-/
import Derived.Test.YtgfkjkokmcejbaaGreatDoorVO3
set_option maxHeartbeats 40000000
set_option maxRecDepth 100000
namespace Go.Proofs.YtgfkjkokmcejbaaGreatDoor
open Go.RowKit
section
section
open Go.RowKit
def jU (r:List UInt8):Prop:=∀ c t,r=c::t->aZ c=false
theorem Hr:jU []:=fun c t h=>by cases h
theorem Cx (r:List UInt8):jU (32::r):=fun c t h=>by cases h;decide
theorem xK (r:List UInt8):jU (41::r):=fun c t h=>by cases h;decide
theorem tE {c:UInt8} (h:aZ c=false):cH c=false/\aY c=false:=by
 unfold aZ at h;simpa using h
theorem BC {x r:List UInt8} (hx:bD x=true) (hr:jU r) (p:Nat):dH (x++r) p=(dH r (p+x.length)).after [⟨1,x,0,p⟩]:=by
 cases x with
 | nil=>cases hx
 | cons c t =>
   rw [lA] at hx;simp only [Bool.and_eq_true,decide_eq_true_eq,List.all_eq_true] at hx;obtain ⟨⟨h1,h2⟩,h3⟩:=hx
   have hall:∀ d∈c::t,aZ d=true:=fun d hd=>by
    rcases List.mem_cons.1 hd with rfl | hd
    · unfold aZ;rw [h1];rfl
    · exact h3 d hd
   have hrun:=zL (c::t) r hall hr
   have hf:cL (c::t++r)=.tok 1 (c::t).length 0:=by
    rw [List.cons_append];simp only [cL];rw [if_pos h1, <- List.cons_append];unfold nE;rw [hrun,if_neg (by simp;omega)]
   have h32:¬ (c::t++r).head? = some 32:=by
    intro e;have:c=32:=by simpa using e
    rw [this] at h1;cases h1
   rw [iF h32 (by simp) hf,List.drop_left,List.take_left]
theorem BP {n:Int} (h:0<=n):Lib.itoa n=Lib.decDigits n.toNat:=by unfold Lib.itoa;rw [if_neg (by omega)]
theorem Es {n:Int} {r:List UInt8} (h0:0<=n) (h1:n<=9223372036854775807) (hr:jU r) (p:Nat):dH (Lib.itoa n++r) p=(dH r (p+(Lib.itoa n).length)).after [⟨2,Lib.itoa n,n,p⟩]:=by
 rw [BP h0];obtain ⟨c,t,hc,hd⟩:=qX n.toNat;have hall:∀ d∈Lib.decDigits n.toNat,aY d=true:=fun d hd=>(sH d).2 (vU _ d hd)
 have hrun:=zL (Lib.decDigits n.toNat) r hall (fun c t e=>(tE (hr c t e)).2);have hval:=LH n.toNat
 have hz:∀ q,Lib.decDigits n.toNat=48::q->q=[]:=fun q hq=>by
  rcases Nat.eq_zero_or_pos n.toNat with h | h
  · rw [h,Cc] at hq;simpa using hq.symm
  · exact absurd hq (Js _ h q)
 obtain ⟨D,hD⟩:∃ D,Lib.decDigits n.toNat=D:=⟨_,rfl⟩;rw [hD] at hc hall hrun hval hz |-
 have hcd:aY c=true:=hall c (by rw [hc];simp)
 have hcs:cH c=false:=by
  unfold cH;rw [decide_eq_false (by have:=(sH c).1 hcd;unfold isD at this;omega)];rfl
 have hf:cL (D++r)=.tok 2 D.length n:=by
  have e:cL (D++r)=uP (D++r):=by
   rw [hc,List.cons_append];simp only [cL];rw [if_neg (by rw [hcs];decide),if_pos hcd]
  rw [e];unfold uP;rw [hrun,List.take_left,List.drop_left,hval,if_neg,if_neg (by omega)]
  · rw [show ((n.toNat:Nat):Int)=n by omega]
  · rintro (⟨a,b⟩ | ⟨d,a,b⟩)
    · rw [hc,List.cons_append] at b
      have hc48:c=48:=by simpa using b
      have:=hz t (by rw [hc,hc48]);rw [hc,this] at a;simp at a
    · cases r with
      | nil=>cases a
      | cons c' t' =>
        have hd':c'=d:=by simpa using a
        rw [<- hd',(tE (hr c' t' rfl)).1] at b;cases b
 have h32:¬ (D++r).head? = some 32:=by
  intro e;rw [hc] at e;have:c=32:=by simpa using e
  rw [this] at hcd;cases hcd
 rw [iF h32 (by rw [hc];simp) hf,List.drop_left,List.take_left]
def rP (c:UInt8):Prop:=c=40\/c=41\/c=43\/c=45\/c=42\/c=47\/c=37
theorem nF {c:UInt8} (hc:rP c) (r:List UInt8) (p:Nat):dH (c::r) p=(dH r (p+1)).after [⟨3,[c],0,p⟩]:=by
 have h1:cH c=false/\aY c=false/\fP c=true/\(∀ d,dJ c d=false)/\¬ c=32:=by
  rcases hc with rfl | rfl | rfl | rfl | rfl | rfl | rfl <;> refine ⟨by decide,by decide,by decide,fun d=>?_,by decide⟩ <;> (unfold dJ;rw [Bool.and_eq_false_iff];right;decide)
 obtain ⟨s1,s2,s3,s4,s5⟩:=h1
 have hs:qH (c::r)=1:=by
  cases r with
  | nil =>
    show (if fP c=true then 1 else 0)=1;rw [if_pos s3]
  | cons d t =>
    show (if dJ c d=true then 2 else if fP c=true then 1 else 0)=1;rw [if_neg (by rw [s4 d];decide),if_pos s3]
 have hf:cL (c::r)=.tok 3 1 0:=by
  simp only [cL];rw [if_neg (by rw [s1];decide),if_neg (by rw [s2];decide)];unfold kK;rw [hs];rfl
 rw [iF (by simpa using s5) (Nat.le_refl _) hf];rfl
def AI (o m:ByteArray) (n:Int) (ts:List (List (Int×List UInt8×Int))):List (Int×List UInt8×Int) :=
 if cF o=true then [(2,Lib.itoa n,n)] else if bY o=true then [(1,m.data.toList,0)]
 else if fB o=true then (3,[45],0)::ts.headD [] else (3,[40],0)::(ts.headD []++(3,o.data.toList,0)::(ts.tail.headD []++[(3,[41],0)]))
def Hn:F->List (List (Int×List UInt8×Int))
 | .nil=>[]
 | .cons o m n ks r=>AI o m n (Hn ks)::Hn r
def aW (t:TN):List (Int×List UInt8×Int):=AI t.op t.nm t.n (Hn t.ks)
def MY:F->F
 | .nil=>.nil
 | .cons o m n ks r=>.cons o (if bY o=true then m else ⟨#[]⟩) (if cF o=true then n else 0) (MY ks) (MY r)
def l9 (t:TN):TN:=⟨t.op,if bY t.op=true then t.nm else ⟨#[]⟩,if cF t.op=true then t.n else 0,MY t.ks⟩
theorem Dh {o m:ByteArray} {n:Int} {ks:F} (h:nK o m n ks.len=0) :
 (cF o=true/\ks=.nil/\0<=n)\/(cF o=false/\bY o=true/\ks=.nil/\bD m.data.toList=true) \/
 (cF o=false/\bY o=false/\fB o=true/\∃ a:TN,ks=a.f) \/
 (cF o=false/\bY o=false/\fB o=false/\k8 o=true/\∃ a b:TN,ks=.cons a.op a.nm a.n a.ks b.f):=by
 unfold nK at h;split at h
 · cases h
 · rename_i h1
   split at h
   · cases h
   · rename_i h2
     split at h
     · cases h
     · rename_i h3
       have ha:dL o=(ks.len:Int):=by simpa using h1
       unfold dL at ha;cases e1:cF o with
       | true =>
         rw [e1,Bool.true_or,if_pos rfl] at ha;rw [e1] at h3;refine .inl ⟨rfl,?_,by simpa using h3⟩;cases ks with
         | nil=>rfl
         | cons _ _ _ _ _=>rw [F.len] at ha;omega
       | false =>
         cases e2:bY o with
         | true =>
           rw [e1,e2,Bool.or_true,if_pos rfl] at ha;rw [e2] at h2;refine .inr (.inl ⟨rfl,rfl,?_,by simpa using h2⟩);cases ks with
           | nil=>rfl
           | cons _ _ _ _ _=>rw [F.len] at ha;omega
         | false =>
           rw [e1,e2,Bool.or_false,if_neg (by decide)] at ha;cases e3:fB o with
           | true =>
             rw [e3,if_pos rfl] at ha;refine .inr (.inr (.inl ⟨rfl,rfl,rfl,?_⟩));cases ks with
             | nil=>rw [F.len] at ha;omega
             | cons o' m' n' k' r' =>
               cases r' with
               | nil=>exact ⟨⟨o',m',n',k'⟩,rfl⟩
               | cons _ _ _ _ _=>rw [F.len,F.len] at ha;omega
           | false =>
             rw [e3,if_neg (by decide)] at ha;cases e4:k8 o with
             | true =>
               rw [e4,if_pos rfl] at ha;refine .inr (.inr (.inr ⟨rfl,rfl,rfl,rfl,?_⟩));cases ks with
               | nil=>rw [F.len] at ha;omega
               | cons o' m' n' k' r' =>
                 cases r' with
                 | nil=>rw [F.len,F.len] at ha;omega
                 | cons o2 m2 n2 k2 r2 =>
                   cases r2 with
                   | nil=>exact ⟨⟨o',m',n',k'⟩,⟨o2,m2,n2,k2⟩,rfl⟩
                   | cons _ _ _ _ _=>rw [F.len,F.len,F.len] at ha;omega
             | false =>
               rw [e4,if_neg (by decide)] at ha;omega
theorem tU {o:ByteArray} (h:k8 o=true):sR o.data.toList/\∃ c,o.data.toList=[c]/\rP c:=by
 unfold k8 at h;simp only [Bool.or_eq_true,beq_iff_eq] at h;rcases h with (((h | h) | h) | h) | h
 · exact ⟨.inl h,43,h,.inr (.inr (.inl rfl))⟩
 · exact ⟨.inr (.inl h),45,h,.inr (.inr (.inr (.inl rfl)))⟩
 · exact ⟨.inr (.inr (.inl h)),42,h,.inr (.inr (.inr (.inr (.inl rfl))))⟩
 · exact ⟨.inr (.inr (.inr (.inl h))),47,h,.inr (.inr (.inr (.inr (.inr (.inl rfl)))))⟩
 · exact ⟨.inr (.inr (.inr (.inr h))),37,h,.inr (.inr (.inr (.inr (.inr (.inr rfl)))))⟩
def cZ:F->Prop
 | .nil=>True
 | .cons _ _ n ks r=>n<=9223372036854775807/\cZ ks/\cZ r
def mK (P:TN->Prop):F->Prop
 | .nil=>True
 | .cons o m n ks r=>P ⟨o,m,n,ks⟩/\mK P r
theorem mR {P:TN->Prop} (hnum:∀ o m n,cF o=true->0<=n->n<=9223372036854775807->P ⟨o,m,n,.nil⟩)
 (hname:∀ o m n,cF o=false->bY o=true->bD m.data.toList=true->P ⟨o,m,n,.nil⟩)
 (hneg:∀ o m n (a:TN),cF o=false->bY o=false->fB o=true->P a->P ⟨o,m,n,a.f⟩)
 (htwo:∀ o m n (a b:TN),cF o=false->bY o=false->fB o=false->k8 o=true->P a->P b->P ⟨o,m,n,.cons a.op a.nm a.n a.ks b.f⟩) :
 ∀ f:F,bO f=0->cZ f->mK P f
 | .nil,_,_=>trivial
 | .cons o m n ks r, h, hn => by
   rw [bO] at h;by_cases h1:nK o m n ks.len=0
   · rw [if_pos h1] at h
     by_cases h2:bO ks=0
     · rw [if_pos h2] at h
       have ik:=mR hnum hname hneg htwo ks h2 hn.2.1;refine ⟨?_,mR hnum hname hneg htwo r h hn.2.2⟩;rcases Dh h1 with ⟨a,rfl,b⟩ | ⟨a,b,rfl,c⟩ | ⟨a,b,c,k,rfl⟩ | ⟨a,b,c,d,k,l,rfl⟩
       · exact hnum o m n a b hn.1
       · exact hname o m n a b c
       · exact hneg o m n k a b c ik.1
       · exact htwo o m n k l a b c d ik.1 ik.2.1
     · rw [if_neg h2] at h;exact absurd h h2
   · rw [if_neg h1] at h;exact absurd h h1
theorem gA {P:TN->Prop} (hnum:∀ o m n,cF o=true->0<=n->n<=9223372036854775807->P ⟨o,m,n,.nil⟩)
 (hname:∀ o m n,cF o=false->bY o=true->bD m.data.toList=true->P ⟨o,m,n,.nil⟩)
 (hneg:∀ o m n (a:TN),cF o=false->bY o=false->fB o=true->P a->P ⟨o,m,n,a.f⟩)
 (htwo:∀ o m n (a b:TN),cF o=false->bY o=false->fB o=false->k8 o=true->P a->P b->P ⟨o,m,n,.cons a.op a.nm a.n a.ks b.f⟩)
 (t:TN) (h:OkT t) (hn:cZ t.f):P t:=(mR hnum hname hneg htwo t.f h hn).1
theorem mU {o m:ByteArray} {n:Int} {ks:F} (h:cF o=true):aO ⟨o,m,n,ks⟩=Lib.itoa n/\aW ⟨o,m,n,ks⟩=[(2,Lib.itoa n,n)]:=by
 unfold aO aW AC AI;rw [if_pos h,if_pos h];exact ⟨rfl,rfl⟩
theorem kJ {o m:ByteArray} {n:Int} {ks:F} (h:cF o=false) (h2:bY o=true):aO ⟨o,m,n,ks⟩=m.data.toList/\aW ⟨o,m,n,ks⟩=[(1,m.data.toList,0)]:=by
 unfold aO aW AC AI;simp only;rw [if_neg (by rw [h];decide),if_pos h2,if_neg (by rw [h];decide),if_pos h2];exact ⟨rfl,rfl⟩
theorem kI {o m:ByteArray} {n:Int} (a:TN) (h:cF o=false) (h2:bY o=false) (h3:fB o=true):aO ⟨o,m,n,a.f⟩=45::aO a/\aW ⟨o,m,n,a.f⟩=(3,[45],0)::aW a:=by
 show AC o m n (Hh a.f)=_/\AI o m n (Hn a.f)=_;rw [AC,AI,if_neg (by rw [h];decide),if_neg (by rw [h2];decide),if_pos h3,if_neg (by rw [h];decide),if_neg (by rw [h2];decide),if_pos h3];exact ⟨rfl,rfl⟩
theorem kH {o m:ByteArray} {n:Int} (a b:TN) (h:cF o=false) (h2:bY o=false) (h3:fB o=false) :
 aO ⟨o,m,n,.cons a.op a.nm a.n a.ks b.f⟩=40::(aO a++32::(o.data.toList++32::(aO b++[41]))) /\
 aW ⟨o,m,n,.cons a.op a.nm a.n a.ks b.f⟩=(3,[40],0)::(aW a++(3,o.data.toList,0)::(aW b++[(3,[41],0)])):=by
 show AC o m n (Hh (.cons a.op a.nm a.n a.ks b.f))=_/\AI o m n (Hn (.cons a.op a.nm a.n a.ks b.f))=_;rw [AC,AI,if_neg (by rw [h];decide),if_neg (by rw [h2];decide),if_neg (by rw [h3];decide),if_neg (by rw [h];decide),if_neg (by rw [h2];decide),if_neg (by rw [h3];decide)];exact ⟨rfl,rfl⟩
def Me (t:TN):Prop:=∀ r,jU r->∀ p,∃ ts,ts.map cW=aW t/\dH (aO t++r) p=(dH r (p+(aO t).length)).after ts
theorem IJ (t:TN) (h:OkT t) (hn:cZ t.f):Me t:=by
 refine gA (P:=Me) ?_ ?_ ?_ ?_ t h hn
 · intro o m n h1 h2 h3 r hr p
   rw [(mU h1).1,(mU h1).2];exact ⟨[⟨2,Lib.itoa n,n,p⟩],rfl,Es h2 h3 hr p⟩
 · intro o m n h1 h2 h3 r hr p
   rw [(kJ h1 h2).1,(kJ h1 h2).2];exact ⟨[⟨1,m.data.toList,0,p⟩],rfl,BC h3 hr p⟩
 · intro o m n a h1 h2 h3 ih r hr p
   rw [(kI a h1 h2 h3).1,(kI a h1 h2 h3).2];obtain ⟨ts,e1,e2⟩:=ih r hr (p+1);refine ⟨⟨3,[45],0,p⟩::ts,by rw [List.map_cons,e1];rfl,?_⟩;rw [List.cons_append,nF (.inr (.inr (.inr (.inl rfl)))),e2,f9,List.length_cons,show p+((aO a).length+1)=p+1+(aO a).length by omega];rfl
 · intro o m n a b h1 h2 h3 h4 ia ib r hr p
   rw [(kH a b h1 h2 h3).1,(kH a b h1 h2 h3).2];obtain ⟨_,c,hc,hp⟩:=tU h4;rw [hc];obtain ⟨ta,a1,a2⟩:=ia (32::([c]++32::(aO b++[41])++r)) (Cx _) (p+1);obtain ⟨tb,b1,b2⟩:=ib (41::r) (xK r) (p+1+(aO a).length+1+1+1);refine ⟨⟨3,[40],0,p⟩::(ta++⟨3,[c],0,p+1+(aO a).length+1⟩::(tb++[⟨3,[41],0,p+1+(aO a).length+1+1+1+(aO b).length⟩])),?_,?_⟩
   · simp only [List.map_cons,List.map_append,a1,b1]
     rfl
   · have e0:40::(aO a++32::([c]++32::(aO b++[41])))++r=40::(aO a++32::([c]++32::(aO b++[41])++r)):=by simp
     rw [e0,nF (.inl rfl),a2,e9];have e1:[c]++32::(aO b++[41])++r=c::32::(aO b++41::r):=by simp
     rw [e1,nF hp,e9,b2,nF (.inr (.inl rfl))];simp only [f9,List.length_cons,List.length_append,List.length_nil];have e2:p+1+(aO a).length+1+1+1+(aO b).length+1=p+((aO a).length+(0+1+((aO b).length+(0+1)+1)+1)+1):=by omega
     rw [e2];congr 1
theorem iG {L:List Tk} {pre post:List (Int×List UInt8×Int)} {c:Int×List UInt8×Int} (h:L.map cW=pre++c::post):∃ t,L[pre.length]? = some t/\t.kind=c.1/\t.text=c.2.1/\t.num=c.2.2:=by
 have e:(L.map cW)[pre.length]? = some c:=by rw [h];simp
 rw [List.getElem?_map] at e;cases hx:L[pre.length]? with
 | none=>rw [hx] at e;cases e
 | some t =>
   rw [hx] at e;have e':=Option.some.inj e;unfold cW at e';exact ⟨t,rfl,by rw [<- e'],by rw [<- e'],by rw [<- e']⟩
theorem dP {L:List Tk} {pre post:List (Int×List UInt8×Int)} {x y:List UInt8} {v:Int} (h:L.map cW=pre++(3,x,v)::post) {p:Nat} (hp:p=pre.length):isS L y p=(x == y)/\eM L p=x:=by
 obtain ⟨t,h1,h2,h3,_⟩:=iG h;subst hp;unfold isS eM;rw [h1];simp only;rw [h2,h3];exact ⟨by simp,rfl⟩
theorem tK {s:RS} (hb:s.bad=0) (h:s.cnt+1<=32):a6 s=⟨s.pos+1,s.cnt+1,0,s.whr⟩:=by
 unfold a6;rw [if_pos hb,if_neg (by omega)]
theorem lI (o:ByteArray):(⟨o.data.toList.toArray⟩:ByteArray)=o:=eL (by simp)
def JQ (t:TN):Prop:=∀ (L:List Tk) (pre post:List (Int×List UInt8×Int)),L.map cW=pre++(aW t++post)->∀ s:RS,s.pos=pre.length->s.bad=0->s.cnt+aH t<=32 ->
 pE L .fac s=(l9 t,⟨s.pos+(aW t).length,s.cnt+aH t,0,s.whr⟩)
theorem MH {o:ByteArray} (h:cF o=true):o=⟨#[110,117,109]⟩:=by
 unfold cF rC at h;exact eL (by rw [beq_iff_eq.1 h])
theorem KU {o:ByteArray} (h:bY o=true):o=⟨#[110,97,109,101]⟩:=by
 unfold bY mJ at h;exact eL (by rw [beq_iff_eq.1 h])
theorem MI {o:ByteArray} (h:fB o=true):o=⟨#[110,101,103]⟩:=by
 unfold fB iP at h;exact eL (by rw [beq_iff_eq.1 h])
theorem Fl (t:TN) (h:OkT t) (hn:cZ t.f):JQ t:=by
 refine gA (P:=JQ) ?_ ?_ ?_ ?_ t h hn
 · intro o m n h1 h2 h3 L pre post hL s hp hb hc
   have hs:aH ⟨o,m,n,.nil⟩=1:=rfl;rw [hs] at hc |-
   rw [(mU h1).2] at hL |-
   obtain ⟨tk,k1,k2,k3,k4⟩:=iG (c:=(2,Lib.itoa n,n)) hL;rw [zT,if_pos hb,hp,k1];simp only;rw [if_pos k2,tK hb hc,k4]
   have:l9 ⟨o,m,n,.nil⟩=tH n:=by
    unfold l9;simp only;rw [if_pos h1,MH h1];rfl
   rw [this,hp];rfl
 · intro o m n h1 h2 h3 L pre post hL s hp hb hc
   have hs:aH ⟨o,m,n,.nil⟩=1:=rfl;rw [hs] at hc |-
   rw [(kJ h1 h2).2] at hL |-
   obtain ⟨tk,k1,k2,k3,k4⟩:=iG (c:=(1,m.data.toList,0)) hL;have k2:tk.kind=1:=k2;rw [zT,if_pos hb,hp,k1];simp only;rw [if_neg (by rw [k2];decide),if_pos k2,tK hb hc,k3]
   have:l9 ⟨o,m,n,.nil⟩=eU m.data.toList:=by
    unfold l9 eU;simp only;rw [if_pos h2,if_neg (by rw [h1];decide),lI,KU h2];rfl
   rw [this,hp];rfl
 · intro o m n a h1 h2 h3 ih L pre post hL s hp hb hc
   have hs:aH ⟨o,m,n,a.f⟩=1+aH a:=by unfold aH;rw [show (⟨o,m,n,a.f⟩:TN).ks=a.f from rfl,gV];rfl
   rw [hs] at hc |-
   rw [(kI a h1 h2 h3).2] at hL |-
   obtain ⟨tk,k1,k2,k3,k4⟩:=iG (pre:=pre) (c:=(3,[45],0)) (post:=aW a++post) (by rw [hL];rfl);rw [zT,if_pos hb,hp,k1];simp only;rw [if_neg (by rw [k2];decide),if_neg (by rw [k2];decide),if_pos k3,tK hb (by omega)];have e:=ih L (pre++[(3,[45],0)]) post (by rw [hL];simp) ⟨s.pos+1,s.cnt+1,0,s.whr⟩ (by rw [List.length_append];show s.pos+1=_;rw [hp];rfl) rfl (by show s.cnt+1+_<=32;omega);rw [e]
   have:l9 ⟨o,m,n,a.f⟩=oR (l9 a):=by
    unfold l9 oR;simp only;rw [if_neg (by rw [h2];decide),if_neg (by rw [h1];decide),MI h3];rfl
   rw [this];show (_,(⟨s.pos+1+(aW a).length,s.cnt+1+aH a,0,s.whr⟩:RS))=(_,⟨pre.length+((aW a).length+1),s.cnt+(1+aH a),0,s.whr⟩);rw [hp,show pre.length+1+(aW a).length=pre.length+((aW a).length+1) by omega,show s.cnt+1+aH a=s.cnt+(1+aH a) by omega]
 · intro o m n a b h1 h2 h3 h4 ia ib L pre post hL s hp hb hc
   have hs:aH ⟨o,m,n,.cons a.op a.nm a.n a.ks b.f⟩=1+aH a+aH b:=by unfold aH;simp only;rw [cO,gV];unfold aH;omega
   rw [hs] at hc |-
   rw [(kH a b h1 h2 h3).2] at hL |-
   obtain ⟨tk,k1,k2,k3,k4⟩:=iG (pre:=pre) (c:=(3,[40],0)) (post:=aW a++(3,o.data.toList,0)::(aW b++(3,[41],0)::post)) (by rw [hL];simp);rw [zT,if_pos hb,hp,k1];simp only;rw [if_neg (by rw [k2];decide),if_neg (by rw [k2];decide),if_neg (by rw [k3];decide),if_pos k3];have hstep:bW s=⟨s.pos+1,s.cnt,0,s.whr⟩:=by unfold bW;rw [hb]
   rw [hstep,Ii,zR];have ea:=ia L (pre++[(3,[40],0)]) ((3,o.data.toList,0)::(aW b++(3,[41],0)::post)) (by rw [hL];simp) ⟨s.pos+1,s.cnt,0,s.whr⟩ (by rw [List.length_append];show s.pos+1=_;rw [hp];rfl) rfl (by show s.cnt+_<=32;omega);rw [ea];simp only;have hL2:L.map cW=(pre++(3,[40],0)::aW a)++(3,o.data.toList,0)::(aW b++(3,[41],0)::post):=by rw [hL];simp
   have hL3:L.map cW=(pre++(3,[40],0)::(aW a++(3,o.data.toList,0)::aW b))++(3,[41],0)::post:=by rw [hL];simp
   have p2:s.pos+1+(aW a).length=(pre++(3,[40],0)::aW a).length:=by rw [hp];simp;omega
   have p3:s.pos+1+(aW a).length+1+(aW b).length=(pre++(3,[40],0)::(aW a++(3,o.data.toList,0)::aW b)).length:=by rw [hp];simp;omega
   have eb:=ib L ((pre++(3,[40],0)::aW a)++[(3,o.data.toList,0)]) ((3,[41],0)::post) (by rw [hL];simp) ⟨s.pos+1+(aW a).length+1,s.cnt+aH a+1,0,s.whr⟩ (by rw [List.length_append, <- p2];rfl) rfl (by show s.cnt+aH a+1+_<=32;omega);have ht:=tK (s:=⟨s.pos+1+(aW a).length,s.cnt+aH a,0,s.whr⟩) rfl (by show s.cnt+aH a+1<=32;omega);simp only at ht;have opE:=(dP (y:=[]) hL2 p2).2
   have shutM:isM L (s.pos+1+(aW a).length+1+(aW b).length)=false:=by
    unfold isM;rw [(dP (y:=[42]) hL3 p3).1,(dP (y:=[47]) hL3 p3).1,(dP (y:=[37]) hL3 p3).1];rfl
   have shutA:isA L (s.pos+1+(aW a).length+1+(aW b).length)=false:=by
    unfold isA;rw [(dP (y:=[43]) hL3 p3).1,(dP (y:=[45]) hL3 p3).1];rfl
   have shutS:isS L [41] (s.pos+1+(aW a).length+1+(aW b).length)=true:=by
    rw [(dP (y:=[41]) hL3 p3).1];rfl
   have hM:isM L (s.pos+1+(aW a).length)=yK o:=by
    unfold isM yK;rw [(dP (y:=[42]) hL2 p2).1,(dP (y:=[47]) hL2 p2).1,(dP (y:=[37]) hL2 p2).1]
   have hA:isA L (s.pos+1+(aW a).length)=Ev o:=by
    unfold isA Ev;rw [(dP (y:=[43]) hL2 p2).1,(dP (y:=[45]) hL2 p2).1]
   have hcan:l9 ⟨o,m,n,.cons a.op a.nm a.n a.ks b.f⟩=gP o.data.toList (l9 a) (l9 b):=by
    unfold l9 gP;simp only;rw [if_neg (by rw [h2];decide),if_neg (by rw [h1];decide),lI];rfl
   have fin:∀ X:TN,eY L ⟨s.pos+1+(aW a).length+1+(aW b).length,s.cnt+aH a+1+aH b,0,s.whr⟩=⟨pre.length+((aW a).length+((aW b).length+(0+1)+1)+1),s.cnt+(1+aH a+aH b),0,s.whr⟩:=fun _=>by
    unfold eY;simp only;rw [shutS,if_neg (by decide)];unfold bW;simp only;rw [hp,show pre.length+1+(aW a).length+1+(aW b).length+1=pre.length+((aW a).length+((aW b).length+(0+1)+1)+1) by omega,show s.cnt+aH a+1+aH b=s.cnt+(1+aH a+aH b) by omega]
   rw [hcan];simp only [List.length_cons,List.length_append,List.length_nil]
   have hor:yK o=true\/(yK o=false/\Ev o=true):=by
    have h4':=h4;unfold k8 at h4';cases hx:yK o with
    | true=>exact .inl rfl
    | false =>
      right;unfold yK at hx;unfold Ev;refine ⟨rfl,?_⟩;simp only [Bool.or_eq_false_iff] at hx;simp only [Bool.or_eq_true] at h4' |-
      rcases h4' with (((h | h) | h) | h) | h
      · exact .inl h
      · exact .inr h
      · rw [hx.1.1] at h;cases h
      · rw [hx.1.2] at h;cases h
      · rw [hx.2] at h;cases h
   rcases hor with hm | ⟨hm,hadd⟩
   · rw [nD]
     simp only;rw [if_pos (by rw [hM,hm];rfl),ht,eb];simp only;rw [nD];simp only;rw [if_neg (by rw [shutM];decide),tM];simp only;rw [if_neg (by rw [shutA];decide),opE,fin aI]
   · rw [nD]
     simp only;rw [if_neg (by rw [hM,hm];decide),tM];simp only;rw [if_pos (by rw [hA,hadd];rfl),ht,zR,eb];simp only;rw [nD];simp only;rw [if_neg (by rw [shutM];decide),tM];simp only;rw [if_neg (by rw [shutA];decide),opE,fin aI]
end
section
open Go.RowKit
theorem BM {n:Int} (h0:0<=n) (h1:n<=9223372036854775807):(Lib.itoa n).length<=19:=by
 rw [BP h0];exact Al 18 _ (by omega)
theorem vH {x:List UInt8} (h:bD x=true):x.length<=8:=by
 cases x with
 | nil=>simp
 | cons c r =>
   rw [lA] at h;simp only [Bool.and_eq_true,decide_eq_true_eq] at h;have:=h.1.2;simp;omega
theorem AK (t:TN) (h:OkT t) (hn:cZ t.f):(aO t).length<=19*aH t:=by
 refine gA (P:=fun t=>(aO t).length<=19*aH t) ?_ ?_ ?_ ?_ t h hn
 · intro o m n h1 h2 h3
   rw [(mU h1).1];have:=BM h2 h3;have hs:aH ⟨o,m,n,.nil⟩=1:=rfl;omega
 · intro o m n h1 h2 h3
   rw [(kJ h1 h2).1];have:=vH h3;have hs:aH ⟨o,m,n,.nil⟩=1:=rfl;omega
 · intro o m n a h1 h2 h3 ih
   rw [(kI a h1 h2 h3).1];have hs:aH ⟨o,m,n,a.f⟩=1+aH a:=by unfold aH;rw [show (⟨o,m,n,a.f⟩:TN).ks=a.f from rfl,gV];rfl
   rw [hs,List.length_cons];omega
 · intro o m n a b h1 h2 h3 h4 ia ib
   rw [(kH a b h1 h2 h3).1];obtain ⟨_,c,hc,_⟩:=tU h4;have hs:aH ⟨o,m,n,.cons a.op a.nm a.n a.ks b.f⟩=1+aH a+aH b:=by unfold aH;simp only;rw [cO,gV];unfold aH;omega
   rw [hs,hc];simp only [List.length_cons,List.length_append,List.length_nil];omega
end
section
open Go.RowKit
theorem Fg {L:List Tk} {p o n:Nat} {sg:List (List UInt8×Nat)} {dn:List TN} (hp:p<=L.length):eC L true ⟨p,o,n,sg,dn⟩ =
 if isS L [40] p=true then eC L true ⟨p+1,o+1,n,sg,dn⟩
 else if isS L [45] p=true then (if n=32 then .bad p 4 else eC L true ⟨p+1,o,n+1,(iP,3+o*3)::sg,dn⟩)
 else if (dZ L p).kind=2/\0<=(dZ L p).num then (if n=32 then .bad p 4 else eC L false ⟨p+1,o,n+1,sg,tH (dZ L p).num::dn⟩)
 else if (dZ L p).kind=1/\bD (dZ L p).text=true then (if n=32 then .bad p 4 else eC L false ⟨p+1,o,n+1,sg,eU (dZ L p).text::dn⟩)
 else .bad p 2:=by
 have h:=A7 (L:=L) (s:=⟨p,o,n,sg,dn⟩) hp;simp only at h;rw [h];unfold dZ;cases e:L[p]? with
 | none =>
   have hz:¬ (zTk.kind=2/\0<=zTk.num):=by decide
   have hz1:¬ (zTk.kind=1/\bD zTk.text=true):=by decide
   simp only [if_neg hz,if_neg hz1]
 | some t=>rfl
def DW (ts:List Tk) (rb:Nat) (a:Option Addr) (c p0:Nat) (r0:sO) (w0:World) (e:Ending) (w':World):Prop :=
 bQ rb w0 w'/\∃ (er:Int) (p o n:Nat) (sg:List (List UInt8×Nat)) (dn:List TN) (sv dv:Value) (q:List (Option Addr×Nat)),e=.returned (.int .i64 er)/\RG ts rb a c p o n sg dn sv dv q w' /\
  ((er=0/\r0=eC ts false ⟨p,o,n,sg,dn⟩/\nT sg/\dn.length=i6 sg+1/\p0<p/\o<=p)\/(er ≠ 0/\r0=.bad p er))
theorem DA {ts:List Tk} (hL:∀ t∈ts,cD t) (p:Nat):dZ ts p=zTk\/cD (dZ ts p)/\p<ts.length:=by
 by_cases h:p<ts.length
 · right;rw [tX h];exact ⟨hL _ (List.getElem_mem h),h⟩
 · left;exact tY (Nat.le_of_not_lt h)
theorem DF (ts:List Tk) (hL:∀ t∈ts,cD t) (rb:Nat) (a:Option Addr) (c p0 o0 n0:Nat) (sg0:List (List UInt8×Nat)) (dn:List TN) (sv0 dv:Value) (q:List (Option Addr×Nat)) (w:World) (H:RG ts rb a c p0 o0 n0 sg0 dn sv0 dv q w) (hs:nT sg0) (hd:dn.length=i6 sg0) (ho:o0<=p0) :
 Calls Tryz.prog 275 #[.pointer (some ⟨rb,0,none⟩)] w (DW ts rb a c p0 (eC ts true ⟨p0,o0,n0,sg0,dn⟩) w):=by
 obtain ⟨r0,hr0⟩:∃ r,eC ts true ⟨p0,o0,n0,sg0,dn⟩=r:=⟨_,rfl⟩;rw [hr0];have K0:=aA (bQ.refl rb w);have HR:=aA H;have HS:=aA hs;have HD:=aA hd;have HE:=aA hr0;have HL:=aA hL;have hn:ts.length<=100000:=H.g.hl;have hp0:=H.g.hp;clear hs hd hr0 H hL;go_enter Tryz.func275,Tryz.ntmps275
 go_wp2_with fail
 go_loopg [] ts.length (fun g wr=>∃ (p o n:Nat) (sg:List (List UInt8×Nat)) (sv:Value),p0<=p/\o<=p/\p<=ts.length/\ts.length-p<=g/\Hid (RG ts rb a c p o n sg dn sv dv q wr)/\Hid (nT sg)/\Hid (dn.length=i6 sg)/\Hid (eC ts true ⟨p,o,n,sg,dn⟩=r0)/\Hid (bQ rb w wr))
 case atStart=>exact ⟨p0,o0,n0,sg0,sv0,Nat.le_refl _,ho,hp0,Nat.sub_le _ _,HR,HS,HD,HE,K0⟩
 case round =>
  obtain ⟨p,o,n,sg,sv,hp,hop,hpl,hg,hR,hS,hD,hE,hK⟩:=hrel;have CN:=aA (qM ts rb a c p o n sv dv wr hR.out.g);have RF:=aA (hE.out.symm.trans (Fg (o:=o) (n:=n) (sg:=sg) (dn:=dn) hpl));have hgt:=aA (DA HL.out p);have D:=aA (fun x w=>Eu ts x p w);obtain ⟨tk,htk⟩:∃ t,dZ ts p=t:=⟨_,rfl⟩
  have LT:Hid (¬ tk=zTk->p<ts.length):=aA (fun hne=>by
   rcases hgt.out with h1 | h1
   · exact absurd (htk.symm.trans h1) hne
   · exact h1.2)
  rw [htk] at CN RF hgt D;have HTK:=aA htk;clear htk;obtain ⟨X,hX⟩:∃ X:ByteArray,⟨tk.text.toArray⟩=X:=⟨_,rfl⟩;have hag:tkG tk=.agg #[.int .i64 tk.kind,.string X,.int .i64 tk.num,.int .i64 tk.place]:=by rw [<- hX];rfl
  rw [hag] at CN D;have HX:=aA hX;clear hag hX;have hob:o<=100000:=by omega
  go_wp2_with fail
  refine CN.out.mono ?_;rintro e w1 ⟨rfl,hb1⟩;have hrw:=hR.out.lt;have hsz:=hb1.size;have R1:=hR.out.below hb1;have K1:=hK.out.trans (bQ.below hb1);have BA:=bA0 w1 (.cells #[.int .i64 tk.kind,.string X,.int .i64 tk.num,.int .i64 tk.place] 261);have NA:=heap_alloc_new w1 (.cells #[.int .i64 tk.kind,.string X,.int .i64 tk.num,.int .i64 tk.place] 261);have R2:=R1.below BA;have K2:=K1.trans (bQ.below BA);obtain ⟨tb,htb⟩:∃ b,w1.heap.size=b:=⟨_,rfl⟩;go_upto_region 3 with fail
  generalize hW:w1.alloc (.cells #[.int .i64 tk.kind,.string X,.int .i64 tk.num,.int .i64 tk.place] 261)=W at R2 K2 NA;try rw [hW]
  rw [htb] at NA;try rw [htb]
  have HR2:=aA R2;have HK2:=aA K2;have HNA:=aA NA;obtain ⟨⟨x0,x1,x2,x3⟩, -⟩:=aL NA;clear hb1 R1 K1 BA R2 K2 NA hW htb CN;go_wp2_with fail
  refine (D.out ⟨#[40]⟩ W).mono ?_;rintro e w2 ⟨rfl,hb2⟩;have hE40:isS ts (⟨#[40]⟩:ByteArray).data.toList p=isS ts [40] p:=rfl;rw [hE40];have R3:=HR2.out.below hb2;have K3:=HK2.out.trans (bQ.below hb2);have N3:=(hb2.block _ (Array.getElem?_eq_some_iff.1 HNA.out).1).trans HNA.out;have HR3:=aA R3;have HK3:=aA K3;have HN3:=aA N3;clear x0 x1 x2 x3 hb2 hE40 R3 K3 N3 HR2 HK2 HNA;by_cases h40:isS ts [40] p=true
  · have hlt:=nG h40
    have E2:=aA (show eC ts true ⟨p+1,o+1,n,sg,dn⟩=r0 by have:=RF.out;rw [if_pos h40] at this;exact this.symm);obtain ⟨⟨c0,c1,c2,c3,c4,c5⟩,f1,f2,f3,f4,f5⟩:=HR3.out.g.r.cells;have H1:=HR3.out.set (p':=p) (o':=o+1) (n':=n) (y:=2) (v:=.int .i64 ((o:Int)+1)) hpl (by omega) HR3.out.g.hn (Nat.le_refl _) rfl;have H2:=aA (H1.set (p':=p+1) (o':=o+1) (n':=n) (y:=1) (v:=.int .i64 ((p:Int)+1)) (by omega) (by omega) HR3.out.g.hn (Nat.le_refl _) rfl);have K4:=aA ((HK3.out.set 2 (.int .i64 ((o:Int)+1))).set 1 (.int .i64 ((p:Int)+1)));rw [h40];clear H1 h40 D RF;go_wp2_with fail
    go_roundg (ts.length-(p+1))
    case measure=>omega
    case rel=>exact ⟨p+1,o+1,n,sg,sv,by omega,by omega,by omega,Nat.le_refl _,H2,hS,hD,E2,K4⟩
  · rw [if_neg h40] at RF
    have h40':isS ts [40] p=false:=by simpa using h40
    rw [h40'];have H40:=aA h40';obtain ⟨⟨x0,x1,x2,x3⟩, -⟩:=aL HN3.out;clear h40 h40';go_wp2_with fail
    refine (D.out ⟨#[45]⟩ w2).mono ?_;rintro e w3 ⟨rfl,hb3⟩;have HR4:=aA (HR3.out.below hb3);have HK4:=aA (HK3.out.trans (bQ.below hb3));have HN4:=aA ((hb3.block _ (Array.getElem?_eq_some_iff.1 HN3.out).1).trans HN3.out);clear x0 x1 x2 x3 hb3 HR3 HK3 HN3 D;obtain ⟨⟨x0,x1,x2,x3⟩, -⟩:=aL HN4.out;obtain ⟨⟨c0,c1,c2,c3,c4,c5⟩,f1,f2,f3,f4,f5⟩:=HR4.out.g.r.cells;by_cases h45:isS ts [45] p=true
    · have hlt:=nG h45
      have CW:=Aw ts rb a c p o n sg dn sv dv q (iP,3+o*3) w3 HR4.out hlt;rw [show (((iP,3+o*3):List UInt8×Nat).2:Int)=3+(o:Int)*3 by simp] at CW;have HCW:=aA CW;rw [if_pos h45] at RF;rw [h45];clear h45 CW;by_cases h32:n=32
      · rw [if_pos h32] at RF
        have G32:=aA h32;clear h32;go_wp2_with fail
        refine HCW.out.mono ?_;rintro e w4 ⟨k4,hA, -⟩;obtain ⟨rfl,r4⟩:=hA G32.out;have P:=aA (show DW ts rb a c p0 r0 w (.returned (.int .i64 4)) w4 from ⟨HK4.out.trans k4,4,p,o,n,sg,dn,sv,dv,q,rfl,r4,.inr ⟨by decide,RF.out⟩⟩);clear c0 c1 c2 c3 c4 c5 f1 f2 f3 f4 f5 x0 x1 x2 x3;go_wp2_with fail
        go_ret;exact P.out
      · rw [if_neg h32] at RF
        have G32:=aA h32;clear h32;go_wp2_with fail
        refine HCW.out.mono ?_;rintro e w4 ⟨k4, -,hB⟩;obtain ⟨rfl,sv',r4⟩:=hB G32.out;have R5:=aA r4;have K5:=aA (HK4.out.trans k4);have S5:=aA (show nT ((iP,3+o*3)::sg) from fun x hx=>(List.mem_cons.1 hx).elim (fun e=>.inl (by rw [e])) (hS.out x));have D5:=aA (show dn.length=i6 ((iP,3+o*3)::sg) by rw [i6,if_pos rfl];exact hD.out);have E5:=aA RF.out.symm;clear c0 c1 c2 c3 c4 c5 f1 f2 f3 f4 f5 x0 x1 x2 x3 hB;go_wp2_with fail
        go_roundg (ts.length-(p+1))
        case measure=>omega
        case rel=>exact ⟨p+1,o,n+1,_,sv',by omega,by omega,by omega,Nat.le_refl _,R5,S5,D5,E5,K5⟩
    · rw [if_neg h45] at RF
      have h45':isS ts [45] p=false:=by simpa using h45
      rw [h45'];clear h45 h45' H40;by_cases hk2:tk.kind=2
      · obtain ⟨hm,hlt⟩:0<=tk.num/\p<ts.length:=by
         rcases hgt.out with h1 | ⟨h1,h2⟩
         · rw [h1] at hk2;exact absurd hk2 (by decide)
         · rcases h1 with ⟨h3,_⟩ | ⟨_,h3,_⟩ | h3
           · rw [h3] at hk2;exact absurd hk2 (by decide)
           · exact ⟨h3,h2⟩
           · rw [h3] at hk2;exact absurd hk2 (by decide)
        rw [if_pos ⟨hk2,hm⟩] at RF;have CL:=aA (BE ts rb a c p o n sg dn sv dv q (tH tk.num) rfl w3 HR4.out hlt);have b1:(tk.kind == 2)=true:=by rw [hk2];rfl
        have HK:=aA hk2;clear hk2;by_cases h32:n=32
        · rw [if_pos h32] at RF
          have G32:=aA h32;clear h32;go_wp2_with fail
          refine CL.out.mono ?_;rintro e w4 ⟨k4,hA, -⟩;obtain ⟨rfl,r4⟩:=hA G32.out;have P:=aA (show DW ts rb a c p0 r0 w (.returned (.int .i64 4)) w4 from ⟨HK4.out.trans k4,4,p,o,n,sg,dn,sv,dv,q,rfl,r4,.inr ⟨by decide,RF.out⟩⟩);clear c0 c1 c2 c3 c4 c5 f1 f2 f3 f4 f5 x0 x1 x2 x3;go_wp2_with fail
          go_ret;exact P.out
        · rw [if_neg h32] at RF
          have G32:=aA h32;clear h32;go_wp2_with fail
          refine CL.out.mono ?_;rintro e w4 ⟨k4, -,hB⟩;obtain ⟨rfl,dv',q',r4⟩:=hB G32.out;have P:=aA (show DW ts rb a c p0 r0 w (.returned (.int .i64 0)) w4 from ⟨HK4.out.trans k4,0,p+1,o,n+1,sg,_,sv,dv',q',rfl,r4,.inl ⟨rfl,RF.out,hS.out,by rw [List.length_cons,hD.out],by omega,by omega⟩⟩);clear c0 c1 c2 c3 c4 c5 f1 f2 f3 f4 f5 x0 x1 x2 x3 hB;go_wp2_with fail
          go_ret;exact P.out
      · rw [if_neg (fun h=>hk2 h.1)] at RF
        have b1:(tk.kind == 2)=false:=by simpa using hk2
        by_cases hk1:tk.kind=1
        · obtain ⟨hm,hlt⟩:bD tk.text=true/\p<ts.length:=by
           rcases hgt.out with h1 | ⟨h1,h2⟩
           · rw [h1] at hk1;exact absurd hk1 (by decide)
           · rcases h1 with ⟨_,h3⟩ | ⟨h3,_⟩ | h3
             · exact ⟨h3,h2⟩
             · rw [h3] at hk1;exact absurd hk1 (by decide)
             · rw [h3] at hk1;exact absurd hk1 (by decide)
          rw [if_pos ⟨hk1,hm⟩] at RF;have b2:(tk.kind == 1)=true:=by rw [hk1];rfl
          have CL:=fun w4 (h:RG ts rb a c p o n sg dn sv dv q w4)=>BE ts rb a c p o n sg dn sv dv q (eU tk.text) rfl w4 h hlt
          have CX:(eU tk.text).nm=X:=HX.out;rw [CX] at CL;have HCL:=aA CL;have NM:=aA (fun w=>i8 X (by rw [<- HX.out];have:=vH hm;show tk.text.toArray.size<=_;rw [List.size_toArray];omega) w);have NM2:bD X.data.toList=true:=by rw [<- HX.out];simpa using hm
          rw [NM2] at NM;clear hk1 hk2 CL CX NM2 hm;have PB:=aA (p:=∀ w4,bQ rb w3 w4->RG ts rb a c p o n sg dn sv dv q w4->n=32->DW ts rb a c p0 r0 w (.returned (.int .i64 4)) w4) (fun w4 k4 r4 h32=>⟨HK4.out.trans k4,4,p,o,n,sg,dn,sv,dv,q,rfl,r4,.inr ⟨by decide,by rw [RF.out,if_pos h32]⟩⟩);have PG:=aA (p:=∀ w4 dv' q',bQ rb w3 w4->¬ n=32->RG ts rb a c (p+1) o (n+1) sg (eU tk.text::dn) sv dv' q' w4->DW ts rb a c p0 r0 w (.returned (.int .i64 0)) w4) (fun w4 dv' q' k4 h32 r4=>⟨HK4.out.trans k4,0,p+1,o,n+1,sg,_,sv,dv',q',rfl,r4,.inl ⟨rfl,by rw [RF.out,if_neg h32],hS.out,by rw [List.length_cons,hD.out],by omega,by omega⟩⟩);go_wp2_with fail
          refine (NM.out _).mono ?_;rintro e w4 ⟨rfl,rfl⟩;go_wp2_with fail
          refine (HCL.out _ HR4.out).mono ?_;rintro e w4 ⟨k4,hA,hB⟩;by_cases h32:n=32
          · obtain ⟨rfl,r4⟩:=hA h32
            have P:=aA (PB.out w4 k4 r4 h32);clear c0 c1 c2 c3 c4 c5 f1 f2 f3 f4 f5 x0 x1 x2 x3 hA hB h32;go_wp2_with fail
            go_ret;exact P.out
          · obtain ⟨rfl,dv',q',r4⟩:=hB h32
            have P:=aA (PG.out w4 dv' q' k4 h32 r4);clear c0 c1 c2 c3 c4 c5 f1 f2 f3 f4 f5 x0 x1 x2 x3 hA hB h32;go_wp2_with fail
            go_ret;exact P.out
        · rw [if_neg (fun h=>hk1 h.1)] at RF
          have b2:(tk.kind == 1)=false:=by simpa using hk1
          have P:=aA (show DW ts rb a c p0 r0 w (.returned (.int .i64 2)) w3 from ⟨HK4.out,2,p,o,n,sg,dn,sv,dv,q,rfl,HR4.out,.inr ⟨by decide,RF.out⟩⟩);clear hk1 hk2;go_wp2_with fail
          go_ret;exact P.out
end
section
open Go.RowKit
def L5 (ts:List Tk) (rb:Nat) (a:Option Addr) (c:Nat) (r0:sO) (w0:World) (e:Ending) (w':World):Prop :=
 bQ rb w0 w'/\∃ (er:Int) (p o n:Nat) (sg:List (List UInt8×Nat)) (dn:List TN) (sv dv:Value) (q:List (Option Addr×Nat)),e=.returned (.int .i64 er)/\RG ts rb a c p o n sg dn sv dv q w' /\
  ((er=0/\r0=.ok ⟨p,o,n,sg,dn⟩/\nT sg/\dn.length=i6 sg+1)\/(er ≠ 0/\r0=.bad p er))
theorem LU (ts:List Tk) (p:Nat) (w:World):Calls Tryz.prog 277 #[tkG (dZ ts p)] w fun e w'=>e=.returned (.int .i64 (cK ts p:Nat))/\Below w.heap.size w w':=by
 have h:=Cj (dZ ts p).kind ⟨(dZ ts p).text.toArray⟩ (dZ ts p).num (dZ ts p).place w;have e:rA (dZ ts p).kind (⟨(dZ ts p).text.toArray⟩:ByteArray).data.toList=cK ts p:=Ho ts p;rw [e] at h;exact h
theorem Dv {ts:List Tk} {p:Nat} (h:¬ cK ts p=0):sR (eM ts p)/\p<ts.length/\cK ts p<=2:=by
 unfold cK at h |-
 by_cases hA:isA ts p=true
 · rw [if_pos hA];exact ⟨opA hA,pO hA,by omega⟩
 · rw [if_neg hA] at h |-
   by_cases hM:isM ts p=true
   · rw [if_pos hM];exact ⟨opM hM,pN hM,by omega⟩
   · rw [if_neg hM] at h;exact absurd rfl h
theorem DE (k m pl:Int) (X:ByteArray) (w:World):(Instr.field 261 (.agg #[.int .i64 k,.string X,.int .i64 m,.int .i64 pl]) 1).run Tryz.prog w=.ok (.string X) w:=by
 simp [Instr.field,go_sem,asAgg]
theorem Hq (ts:List Tk) (hL:∀ t∈ts,cD t) (rb:Nat) (a:Option Addr) (c p0 o0 n0:Nat) (sg0:List (List UInt8×Nat)) (dn0:List TN) (sv0 dv0:Value) (q0:List (Option Addr×Nat)) (w:World) (H:RG ts rb a c p0 o0 n0 sg0 dn0 sv0 dv0 q0 w) (hs:nT sg0) (hd:dn0.length=i6 sg0) (ho:o0<=p0) :
 Calls Tryz.prog 261 #[.pointer (some ⟨rb,0,none⟩)] w (L5 ts rb a c (eC ts true ⟨p0,o0,n0,sg0,dn0⟩) w):=by
 obtain ⟨r0,hr0⟩:∃ r,eC ts true ⟨p0,o0,n0,sg0,dn0⟩=r:=⟨_,rfl⟩;rw [hr0];have K0:=aA (bQ.refl rb w);have HR:=aA H;have HS:=aA hs;have HD:=aA hd;have HE:=aA hr0;have HL:=aA hL;have hn:ts.length<=100000:=H.g.hl;have hp0:=H.g.hp;clear hs hd hr0 H hL;go_enter Tryz.func261,Tryz.ntmps261
 go_wp2_with fail
 go_loopg [] ts.length (fun g wr=>∃ (p o n:Nat) (sg:List (List UInt8×Nat)) (dn:List TN) (sv dv:Value) (q:List (Option Addr×Nat)),o<=p/\p<=ts.length/\ts.length-p<=g/\Hid (RG ts rb a c p o n sg dn sv dv q wr)/\Hid (nT sg)/\Hid (dn.length=i6 sg)/\Hid (eC ts true ⟨p,o,n,sg,dn⟩=r0)/\Hid (bQ rb w wr))
 case atStart=>exact ⟨p0,o0,n0,sg0,dn0,sv0,dv0,q0,ho,hp0,Nat.sub_le _ _,HR,HS,HD,HE,K0⟩
 case round =>
  obtain ⟨p,o,n,sg,dn,sv,dv,q,hop,hpl,hg,hR,hS,hD,hE,hK⟩:=hrel;have CF:=aA (DF ts HL.out rb a c p o n sg dn sv dv q wr hR.out hS.out hD.out hop);rw [hE.out] at CF;clear hR hS hD hE;go_wp2_with fail
  refine CF.out.mono ?_;rintro e w1 ⟨k1,er,p1,o1,n1,sg1,dn1,sv1,dv1,q1,rfl,R1,h⟩;rcases h with ⟨rfl,hE1,S1,D1,hp1,ho1⟩ | ⟨hne,hE1⟩
  · have HR1:=aA R1
    have HE1:=aA hE1;have HS1:=aA S1;have HD1:=aA D1;have HK1:=aA (hK.out.trans k1);clear R1 hE1 S1 D1 k1 hK CF;go_wp2_with fail
    refine (Hu ts rb a c p1 o1 n1 sg1 dn1 sv1 dv1 q1 w1 HR1.out).mono ?_;rintro e w2 ⟨rfl,k2,p2,o2,R2,hp2,ho2,hE2,hno⟩;have hpl2:p2<=ts.length:=R2.g.hp;have RF:=kL (L:=ts) (s:=⟨p2,o2,n1,sg1,dn1⟩) hpl2;simp only at RF;rw [if_neg (fun hh=>by rw [hno hh.1] at hh;exact absurd hh.2 (by decide)),hE2, <- HE1.out] at RF;have HRF:=aA RF;have HR2:=aA R2;have HK2:=aA (HK1.out.trans k2);have CN:=aA (fun w (h:RG ts rb a c p2 o2 n1 sg1 dn1 sv1 dv1 q1 w)=>qM ts rb a c p2 o2 n1 sv1 dv1 w h.g);have CB:=aA (fun w=>LU ts p2 w);obtain ⟨hh,hhh⟩:∃ x,cK ts p2=x:=⟨_,rfl⟩;have hsg:=@Dv ts p2;rw [hhh] at HRF CB hsg;have HSG:=aA hsg;clear R2 k2 RF hE2 hno HE1 HR1 HK1 hsg hhh;go_wp2_with fail
    refine (CN.out w2 HR2.out).mono ?_;rintro e w3 ⟨rfl,b3⟩;have HR3:=aA (HR2.out.below b3);have HK3:=aA (HK2.out.trans (bQ.below b3));clear b3 HR2 HK2;go_wp2_with fail
    refine (CB.out w3).mono ?_;rintro e w4 ⟨rfl,b4⟩;have HR4:=aA (HR3.out.below b4);have HK4:=aA (HK3.out.trans (bQ.below b4));clear b4 HR3 HK3 CB;by_cases h0:hh=0
    · rw [if_pos h0] at HRF
      have a1:((hh:Int) == 0)=true:=by rw [h0];rfl
      have CE:=aA (LF ts rb a c p2 o2 n1 sv1 dv1 w4 HR4.out.g)
      have P:=aA (p:=∀ x:Int,x=(if 0<o2 then 2 else 0)->L5 ts rb a c r0 w (.returned (.int .i64 x)) w4) (fun x hx=>⟨HK4.out,x,p2,o2,n1,sg1,dn1,sv1,dv1,q1,rfl,HR4.out,by
       by_cases h2:0<o2
       · rw [if_pos h2] at hx
         refine .inr ⟨by rw [hx];decide,?_⟩;rw [HRF.out,if_pos h2,hx]
       · rw [if_neg h2] at hx
         refine .inl ⟨hx,?_,HS1.out,HD1.out⟩;rw [HRF.out,if_neg h2]⟩)
      clear h0 CN;go_wp2_with fail
      refine CE.out.mono ?_;rintro e w5 ⟨rfl,rfl⟩;generalize hx:(if 0<o2 then (2:Int) else 0)=x at P |-
      have P2:=aA (P.out x rfl);clear P hx;go_wp2_with fail
      go_ret;exact P2.out
    · rw [if_neg h0] at HRF
      obtain ⟨hso,hlt,h2⟩:=HSG.out h0;have HSO:=aA hso;have a1:((hh:Int) == 0)=false:=by rw [beq_eq_false_iff_ne];omega
      have ho100:o2<=100000:=by omega
      have CJ:=aA (I5 ts rb a c p2 o2 n1 (hh+o2*3) sg1 dn1 sv1 dv1 q1 w4 HR4.out HS1.out HD1.out);rw [show ((hh+o2*3:Nat):Int)=(hh:Int)+(o2:Int)*3 by simp] at CJ;have JB:=aA (BJ (h:=hh+o2*3) HS1.out HD1.out);obtain ⟨⟨J1,J2⟩,hJ⟩:∃ r,cG (hh+o2*3) sg1 dn1=r:=⟨_,rfl⟩;rw [hJ] at CJ JB HRF;simp only at JB HRF;obtain ⟨⟨c0,c1,c2,c3,c4,c5⟩,f1,f2,f3,f4,f5⟩:=HR4.out.g.r.cells;clear h0 hJ hso HSG;go_wp2_with fail
      refine CJ.out.mono ?_;rintro e w5 ⟨rfl,k5,sv5,dv5,q5,R5⟩;have HR5:=aA R5;have HK5:=aA (HK4.out.trans k5);have CN2:=aA (qM ts rb a c p2 o2 n1 sv5 dv5 w5 R5.g);obtain ⟨tk,htk⟩:∃ t,dZ ts p2=t:=⟨_,rfl⟩;have hop2:=Kd ts p2;rw [htk] at CN2 hop2;obtain ⟨X,hX⟩:∃ X:ByteArray,⟨tk.text.toArray⟩=X:=⟨_,rfl⟩;have hag:tkG tk=.agg #[.int .i64 tk.kind,.string X,.int .i64 tk.num,.int .i64 tk.place]:=by rw [<- hX];rfl
      rw [hag] at CN2;have CW:=fun w (h:RG ts rb a c p2 o2 n1 J1 J2 sv5 dv5 q5 w)=>Aw ts rb a c p2 o2 n1 J1 J2 sv5 dv5 q5 (eM ts p2,hh+o2*3) w h hlt
      have e1:(⟨(eM ts p2).toArray⟩:ByteArray)=X:=by rw [<- hop2];exact hX
      have e2:(((eM ts p2,hh+o2*3):List UInt8×Nat).2:Int)=(hh:Int)+(o2:Int)*3:=by simp
      simp only [e1,e2] at CW;have HCW:=aA CW;clear R5 k5 CJ c0 c1 c2 c3 c4 c5 f1 f2 f3 f4 f5 HR4 HK4 htk hX hop2 hag e1 e2 CW CN;go_wp2_with fail
      refine CN2.out.mono ?_;rintro e w6 ⟨rfl,b6⟩;have HR6:=aA (HR5.out.below b6);have HK6:=aA (HK5.out.trans (bQ.below b6));clear b6 HR5 HK5 CN2;go_wp2_with fail
      rw [DE];simp only [Result.andThen];rw [Oper.upon_value];go_wp2_with fail
      refine (HCW.out w6 HR6.out).mono ?_;rintro e w7 ⟨k7,hA,hB⟩;by_cases h32:n1=32
      · obtain ⟨rfl,r7⟩:=hA h32
        have P:=aA (show L5 ts rb a c r0 w (.returned (.int .i64 4)) w7 from ⟨HK6.out.trans k7,4,p2,o2,n1,J1,J2,sv5,dv5,q5,rfl,r7,.inr ⟨by decide,by rw [HRF.out,if_pos h32]⟩⟩);clear hA hB h32;go_wp2_with fail
        go_ret;exact P.out
      · obtain ⟨rfl,sv',r7⟩:=hB h32
        have R8:=aA r7;have K8:=aA (HK6.out.trans k7);have S8:=aA (show nT ((eM ts p2,hh+o2*3)::J1) from fun x hx=>(List.mem_cons.1 hx).elim (fun e=>.inr (by rw [e];exact HSO.out)) (JB.out.1 x));have D8:=aA (show J2.length=i6 ((eM ts p2,hh+o2*3)::J1) by rw [i6,if_neg (wG HSO.out).2];exact JB.out.2);have E8:=aA (show eC ts true ⟨p2+1,o2,n1+1,(eM ts p2,hh+o2*3)::J1,J2⟩=r0 by rw [HRF.out,if_neg h32]);clear hA hB h32;go_wp2_with fail
        go_roundg (ts.length-(p2+1))
        case measure=>omega
        case rel=>exact ⟨p2+1,o2,n1+1,_,J2,sv',dv5,q5,by omega,by omega,Nat.le_refl _,R8,S8,D8,E8,K8⟩
  · have b1:((er:Int) != 0)=true:=by simpa using hne
    have P:=aA (show L5 ts rb a c r0 w (.returned (.int .i64 er)) w1 from ⟨hK.out.trans k1,er,p1,o1,n1,sg1,dn1,sv1,dv1,q1,rfl,R1,.inr ⟨hne,hE1⟩⟩);clear hne hE1 R1 k1;go_wp2_with fail
    go_ret;exact P.out
end
section
open Go.RowKit
abbrev ndG (o m:ByteArray) (n:Int) (a:Option Addr) (l c:Nat):Obj:=.cells #[.string o,.string m,.int .i64 n,.slice a l c] 67
theorem RGx.mark {ts:List Tk} {rb:Nat} {a:Option Addr} {c p o n:Nat} {sg:List (List UInt8×Nat)} {dn:List TN} {sv dv:Value} {q:List (Option Addr×Nat)} {w:World} (h:RG ts rb a c p o n sg dn sv dv q w) (ob:Obj):RGx w.heap.size ts rb a c p o n sg dn sv dv q (w.alloc ob):=by
 have hb:=bA0 w ob;have h2:=h.below hb;exact ⟨h2.g,h2.so,h2.dw,(h.dk.imp (fun b hlt hg=>(⟨hg.1,by omega,hg.2.2⟩:Gk w.heap.size rb sv dv b))).keptS (aE hb (fun _=>False)) (fun _ h=>h.elim),h2.ap,by rw [World.size_alloc];omega,h2.hs,h2.hd⟩
theorem EP (ts:List Tk) (rb:Nat) (a:Option Addr) (c p o n:Nat) (sg:List (List UInt8×Nat)) (dn:List TN) (sv dv:Value) (q:List (Option Addr×Nat)) (w:World) (H:RG ts rb a c p o n sg dn sv dv q w) (hs:nT sg) (hd:dn.length=i6 sg+1) (t:TN) (hj:cG 0 sg dn=([],[t])) :
 Calls Tryz.prog 262 #[.pointer (some ⟨rb,0,none⟩)] w fun e w'=>∃ ad cc,e=.returned (eH t.op t.nm t.n ad t.ks.len cc)/\bQ rb w w'/\aQ (fun b=>rb<b) w' ad t.ks/\w'.cell? ⟨rb,1,none⟩=some (.int .i64 p):=by
 have hrb:=H.lt;have HX:=H.mark (ndG ⟨#[]⟩ ⟨#[]⟩ 0 none 0 0);have KA:=bQ.below (rb:=rb) (bA0 w (ndG ⟨#[]⟩ ⟨#[]⟩ 0 none 0 0));have NB:=heap_alloc_new w (ndG ⟨#[]⟩ ⟨#[]⟩ 0 none 0 0);have hs0:(w.alloc (ndG ⟨#[]⟩ ⟨#[]⟩ 0 none 0 0)).heap.size=w.heap.size+1:=World.size_alloc _ _;generalize hW:w.alloc (ndG ⟨#[]⟩ ⟨#[]⟩ 0 none 0 0)=W at HX KA NB hs0;have CJ:=Et w.heap.size ts rb a c p o n 0 sg dn sv dv q W HX hs hd;rw [hj] at CJ;have HCJ:=aA CJ;have HSV:=aA (fun (e:sv.ownBlock=some w.heap.size)=>(Nat.lt_irrefl _ (H.svNe e).2));have HDV:=aA (fun (e:dv.ownBlock=some w.heap.size)=>(Nat.lt_irrefl _ (H.dvNe e).2));have HW:=aA hW;have HNB:=aA NB;have HKA:=aA KA;clear hW HX CJ hs hd hj H NB KA;go_enter Tryz.func262,Tryz.ntmps262
 go_upto_region 1 with fail
 rw [HW.out];go_wp2_with fail
 refine HCJ.out.mono ?_;rintro e w2 ⟨rfl,⟨k2,sv2,dv2,q2,R2⟩,hf⟩;have N2:=(hf w.heap.size (by omega) (by omega) HSV.out HDV.out).trans HNB.out;obtain ⟨g,vc,hv, -, -,hcs⟩:=eT R2.dw (by simp);subst hv
 obtain ⟨qa,rfl⟩:∃ x,q2=[x]:=by
  have:=tP R2.dk;match q2,this with
  | [x],_=>exact ⟨x,rfl⟩
 have hx0:=hcs 0 _ rfl;have hx1:=hcs 1 _ rfl;have hx2:=hcs 2 _ rfl;have hx3:=hcs 3 _ rfl;have RK:=R2.dk.1;obtain ⟨⟨c0,c1,c2,c3,c4,c5⟩, -⟩:=R2.g.r.cells;obtain ⟨⟨z0,z1,z2,z3⟩,y0,y1,y2,y3⟩:=aL N2;have HN2:=aA N2;have HK2:=aA (HKA.out.trans k2);have HRK:=aA RK;have hgr:=(R2.g.r);have HGR:=aA hgr;have hl1:([t]:List TN).length=1:=rfl;rw [hl1] at c5;clear hcs R2 k2 hf N2 RK hgr HCJ hl1;go_wp2_with fail
 have h4:=aU HN2.out (.string t.op) (.string t.nm) (.int .i64 t.n) (.slice qa.1 t.ks.len qa.2);obtain ⟨⟨d0,d1,d2,d3⟩, -⟩:=aL h4;have KP:=((((aC.refl (· = w.heap.size) w2).setCell (p:=⟨w.heap.size,0,none⟩) (.inl rfl) (.string t.op)).setCell (p:=⟨w.heap.size,1,none⟩) (.inl rfl) (.string t.nm)).setCell (p:=⟨w.heap.size,2,none⟩) (.inl rfl) (.int .i64 t.n)).setCell (p:=⟨w.heap.size,3,none⟩) (.inl rfl) (.slice qa.1 t.ks.len qa.2);have RF:=(HRK.out.keptS KP (fun k hk hg=>hg.2.1 hk)).imp (H:=fun b=>rb<b) (fun b _ hg=>hg.1);have KF:=HK2.out.trans (KP.mono (T:=fun b=>rb<=b) (fun i hi _=>by omega));have GF:IsG _ rb a ts.length c p o n sv2 (Value.slice (some ⟨g,0,none⟩) [t].length vc):=KP.heap HGR.out (by omega);exact bodyPost_ret (v:=eH t.op t.nm t.n qa.1 t.ks.len qa.2) (by simp [results,Tryz.results262,go_sem,d0,d1,d2,d3]) rfl ⟨qa.1,qa.2,rfl,KF,RF,GF.cells.1.2.1⟩
theorem Hy {ts:List Tk} {rb:Nat} {a:Option Addr} {c p:Nat} {w:World} (h:w.heap[rb]? = some (.cells #[.slice a ts.length c,.int .i64 p,.int .i64 0,.int .i64 0,.slice none 0 0,.slice none 0 0] 333 (0,0))) (ht:Cm rb w a ts) (hp:p<=ts.length) (hl:ts.length<=100000) :
 RG ts rb a c p 0 0 [] [] (.slice none 0 0) (.slice none 0 0) [] w :=
 ⟨⟨h,ht,hp,hl,by omega,by omega⟩,World.ownsRow_nil _ _ _ _,World.ownsRow_nil _ _ _ _,trivial,(fun _ h=>by cases h),(Array.getElem?_eq_some_iff.1 h).1,Nat.le_refl _,Nat.le_refl _⟩
theorem Kv (ts:List Tk) (hL:∀ t∈ts,cD t) (a:Option Addr) (c p:Nat) (hn:ts.length<=100000) (hp:p<=ts.length) (w:World) (hr:iC w a ts) :
 Calls Tryz.prog 244 #[.slice a ts.length c,.int .i64 p] w fun e w'=>JT (ofL ts p) w e w'/\∀ q er,ofL ts p=.bad q er->q<=ts.length:=by
 have B1:=bA0 w (ndG ⟨#[]⟩ ⟨#[]⟩ 0 none 0 0);have NB:=heap_alloc_new w (ndG ⟨#[]⟩ ⟨#[]⟩ 0 none 0 0);have hs0:(w.alloc (ndG ⟨#[]⟩ ⟨#[]⟩ 0 none 0 0)).heap.size=w.heap.size+1:=World.size_alloc _ _;generalize hW:w.alloc (ndG ⟨#[]⟩ ⟨#[]⟩ 0 none 0 0)=W at B1 NB hs0;have B2:=bA0 W (.cells #[.slice a ts.length c,.int .i64 p,.int .i64 0,.int .i64 0,.slice none 0 0,.slice none 0 0] 333);have NV:=heap_alloc_new W (.cells #[.slice a ts.length c,.int .i64 p,.int .i64 0,.int .i64 0,.slice none 0 0,.slice none 0 0] 333);have hs1:(W.alloc (.cells #[.slice a ts.length c,.int .i64 p,.int .i64 0,.int .i64 0,.slice none 0 0,.slice none 0 0] 333)).heap.size=w.heap.size+2:=by rw [World.size_alloc];omega
 generalize hV:W.alloc (.cells #[.slice a ts.length c,.int .i64 p,.int .i64 0,.int .i64 0,.slice none 0 0,.slice none 0 0] 333)=V at B2 NV hs1;rw [hs0] at NV;have R0:=Hy NV ((Ec (hr.kept B1)).kept (aE B2 (fun _=>False)) (fun _ h=>h.elim) |>.imp id (fun ⟨b,off,e,hlt,hc⟩=>⟨b,off,e,by omega,hc⟩)) hp hn;have BV:=aA (B1.trans (B2.mono (by omega)));have NDV:=aA ((B2.block w.heap.size (by omega)).trans NB);have CS:=aA (Hq ts hL (w.heap.size+1) a c p 0 0 [] [] (.slice none 0 0) (.slice none 0 0) [] V R0 (fun _ hx=>by cases hx) rfl (Nat.zero_le _));have RO:=Ms hL hp;obtain ⟨rO,hrO⟩:∃ r,ofL ts p=r:=⟨_,rfl⟩;rw [hrO] at RO |-
 have RO:=aA RO;clear hrO;have HW:=aA hW;have HV:=aA hV;have a1:¬ (p:Int)<0:=by omega
 have a2:(p:Int)<=(ts.length:Int):=by omega
 have a3:min (p:Int) (ts.length:Int)=p:=by omega
 clear hW hV B1 B2 NV NB R0 hr hL;go_enter Tryz.func244,Tryz.ntmps244
 go_upto_region 1 with fail
 rw [HW.out];go_upto_region 4 with fail
 rw [HV.out];clear a1 a2 a3 HW HV;go_wp2_with fail
 refine CS.out.mono ?_;rintro e w1 ⟨k1,er,p1,o1,n1,sg1,dn1,sv1,dv1,q1,rfl,R1,h⟩;have hz1:=k1.size;have N1:=k1.heap NDV.out (by omega);have B1:=BV.out.trans (aC.below k1 (B:=w.heap.size) (fun k hk=>by omega) (by omega));obtain ⟨⟨c0,c1,c2,c3,c4,c5⟩, -⟩:=R1.g.r.cells;obtain ⟨⟨z0,z1,z2,z3⟩,y0,y1,y2,y3⟩:=aL N1;have HN1:=aA N1;have HB1:=aA B1;have HR1:=aA R1;have HO:=RO.out;cases rO with
 | bad qb eb =>
   have h0:=HO.1 qb eb rfl;rw [h0] at h
   obtain ⟨hne,rfl,rfl⟩:er ≠ 0/\qb=p1/\eb=er:=by
    rcases h with ⟨_,h,_⟩ | ⟨hne,h⟩
    · cases h
    · cases h;exact ⟨hne,rfl,rfl⟩
   have b1:((eb:Int) != 0)=true:=by simpa using hne
   clear HO h h0 hne N1 B1 R1 k1 CS RO;go_wp2_with fail
   go_region
   go_wp2_with fail
   have h4:=aU (W:=w1) HN1.out (.string ⟨#[]⟩) (.string ⟨#[]⟩) (.int .i64 0) (.slice none 0 0);obtain ⟨⟨d0,d1,d2,d3⟩, -⟩:=aL h4;have KP:=jS (b:=w.heap.size) HB1.out (Nat.le_refl _) (by omega) 1 (.string ⟨#[]⟩) (.string ⟨#[]⟩) (.int .i64 0) (.slice none 0 0);exact bodyPost_ret (v:=.tuple #[eH ⟨#[]⟩ ⟨#[]⟩ 0 none 0 0,.int .i64 (qb:Nat),.int .i64 eb]) (by simp [results,Tryz.results244,go_sem,d0,d1,d2,d3]) rfl ⟨⟨KP,rfl⟩,fun q er h=>by cases h;exact HR1.out.g.hp⟩
 | ok t qo =>
   obtain ⟨s,h0,hsp,hql,hj⟩:=HO.2 t qo rfl;rw [h0] at h
   obtain ⟨rfl,rfl,S1,D1⟩:er=0/\s=⟨p1,o1,n1,sg1,dn1⟩/\nT sg1/\dn1.length=i6 sg1+1:=by
    rcases h with ⟨he,h,h1,h2⟩ | ⟨hne,h⟩
    · cases h;exact ⟨he,rfl,h1,h2⟩
    · cases h
   simp only at hsp hj;subst hsp;have CW:=aA (EP ts (w.heap.size+1) a c p1 o1 n1 sg1 dn1 sv1 dv1 q1 w1.drew (HR1.out.below ⟨rfl,rfl,rfl,Nat.le_refl _,fun _ _=>rfl⟩) S1 D1 t hj);have HN1d:=aA (show w1.drew.heap[w.heap.size]? = some (ndG ⟨#[]⟩ ⟨#[]⟩ 0 none 0 0) from HN1.out);have HB1d:=aA (show Below w.heap.size w w1.drew from ⟨HB1.out.os,HB1.out.tape,HB1.out.output,HB1.out.size,HB1.out.block⟩);have hz1d:V.heap.size<=w1.drew.heap.size:=hz1;clear HO h h0 N1 B1 R1 k1 CS RO S1 D1 hj;go_wp2_with fail
   go_region_law (first
    | (go_simp
       go_at_call 262
       refine CW.out.mono ?_;rintro e w2 ⟨ad,cc,rfl,k2,rr,cc1⟩;have N2:=k2.heap HN1d.out (by omega);have hz2:=k2.size;have HB2:=aA (HB1d.out.trans (aC.below k2 (B:=w.heap.size) (fun k hk=>by omega) (by omega)));have HRR:=aA rr;have HN2:=aA N2;clear z0 z1 z2 z3 y0 y1 y2 y3 c0 c1 c2 c3 c4 c5 k2 rr;obtain ⟨⟨z0,z1,z2,z3⟩,y0,y1,y2,y3⟩:=aL N2;clear N2)
    | fail)
   all_goals
    go_wp2_with fail
    have KP:=((((aC.refl (· = w.heap.size) w2).setCell (p:=⟨w.heap.size,0,none⟩) (.inl rfl) (.string t.op)).setCell (p:=⟨w.heap.size,1,none⟩) (.inl rfl) (.string t.nm)).setCell (p:=⟨w.heap.size,2,none⟩) (.inl rfl) (.int .i64 t.n)).setCell (p:=⟨w.heap.size,3,none⟩) (.inl rfl) (.slice ad t.ks.len cc);obtain ⟨⟨d0,d1,d2,d3⟩, -⟩:=aL (aU (W:=w2) HN2.out (.string t.op) (.string t.nm) (.int .i64 t.n) (.slice ad t.ks.len cc));have BF:=HB2.out.trans (aC.below KP (B:=w.heap.size) (fun k hk=>by omega) (by omega));have RF:=(HRR.out.keptS KP (fun k hk hg=>by omega)).imp (H:=fun b=>w.heap.size<=b) (fun b _ hg=>by omega);exact bodyPost_ret (v:=.tuple #[eH t.op t.nm t.n ad t.ks.len cc,.int .i64 p1,.int .i64 0]) (by simp [results,Tryz.results244,go_sem,Act.put,d0,d1,d2,d3]) (by simp [Act.put]) ⟨⟨BF,ad,cc,rfl,RF⟩,fun _ _ h=>by cases h⟩
end
end
section
section
structure iT {K:Type} (less:K->K->Bool):Prop where
 irrefl:∀ a,less a a=false
 trans:∀ a b c,less a b=true->less b c=true->less a c=true
 total:∀ a b,less a b=false->less b a=false->a=b
section
variable {K : Type} {less : K -> K -> Bool}
def pos (less:K->K->Bool) (ks:List K) (x:K):Nat:=(ks.takeWhile (fun k=>less k x)).length
def aS (less:K->K->Bool) (ks:List K):Prop:=ks.Pairwise (fun a b=>less a b=true)
theorem iT.asymm (o:iT less) {a b:K} (h:less a b=true):less b a=false:=by
 cases hb:less b a with
 | false=>rfl
 | true=>have:=o.trans a b a h hb;rw [o.irrefl] at this;cases this
theorem pI (ks:List K) (x:K):pos less ks x<=ks.length:=(List.takeWhile_sublist _).length_le
theorem Bn (k:K) (r:List K) (x:K):pos less (k::r) x=if less k x=true then pos less r x+1 else 0:=by
 unfold pos;rw [List.takeWhile_cons];split <;> simp_all
theorem lR:∀ (ks:List K) (x:K) (t:Nat) (k:K),t<pos less ks x->ks[t]? = some k->less k x=true
 | [],x,t,k,h,hk=>by simp at hk
 | a :: r, x, t, k, h, hk => by
   rw [Bn] at h;by_cases ha:less a x=true
   · rw [if_pos ha] at h
     cases t with
     | zero=>simp at hk;rw [<- hk];exact ha
     | succ t=>exact lR r x t k (by omega) (by simpa using hk)
   · rw [if_neg ha] at h;omega
theorem Db:∀ (ks:List K) (x:K) (k:K),ks[pos less ks x]? = some k->less k x=false
 | [],x,k,hk=>by simp [pos] at hk
 | a :: r, x, k, hk => by
   rw [Bn] at hk;by_cases ha:less a x=true
   · rw [if_pos ha] at hk
     exact Db r x k (by simpa using hk)
   · rw [if_neg ha] at hk
     simp at hk;rw [<- hk];simpa using ha
theorem rL {ks:List K} (h:aS less ks) {i j:Nat} {a b:K} (hij:i<j) (ha:ks[i]? = some a) (hb:ks[j]? = some b):less a b=true:=by
 obtain ⟨hi,rfl⟩:=List.getElem?_eq_some_iff.1 ha;obtain ⟨hj,rfl⟩:=List.getElem?_eq_some_iff.1 hb;exact List.pairwise_iff_getElem.1 h i j hi hj hij
theorem xS (o:iT less) {ks:List K} (h:aS less ks) {x:K} {t:Nat} {k:K} (ht:pos less ks x<=t) (hk:ks[t]? = some k):less k x=false:=by
 obtain ⟨hlt,_⟩:=List.getElem?_eq_some_iff.1 hk;have hp:pos less ks x<ks.length:=by omega
 have h0:ks[pos less ks x]? = some (ks[pos less ks x]):=List.getElem?_eq_getElem hp;have h1:=Db ks x _ h0;generalize ks[pos less ks x]=y at h0 h1;rcases Nat.lt_or_ge (pos less ks x) t with hlt' | hge
 · have h2:=rL h hlt' h0 hk
   cases hb:less k x with
   | false=>rfl
   | true=>have:=o.trans _ _ _ h2 hb;rw [h1] at this;cases this
 · have:pos less ks x=t:=by omega
   rw [this] at h0;rw [h0] at hk;cases hk;exact h1
theorem uG {ks:List K} {x:K} {p:Nat} (hp:p<=ks.length) (h1:∀ t k,t<p->ks[t]? = some k->less k x=true) (h2:∀ k,ks[p]? = some k->less k x=false):pos less ks x=p:=by
 rcases Nat.lt_trichotomy (pos less ks x) p with hlt | heq | hgt
 · have hk:ks[pos less ks x]? = some (ks[pos less ks x]'(by omega)):=List.getElem?_eq_getElem (by omega)
   have:=h1 _ _ hlt hk;rw [Db ks x _ hk] at this;cases this
 · exact heq
 · have hl:=pI (less:=less) ks x
   have hk:ks[p]? = some (ks[p]'(by omega)):=List.getElem?_eq_getElem (by omega);have:=lR ks x p _ hgt hk;rw [h2 _ hk] at this;cases this
theorem d9 (o:iT less) {ks:List K} (h:aS less ks) {x:K}:x∈ks ↔ ks[pos less ks x]? = some x:=by
 constructor
 · intro hm
   obtain ⟨i,hi,rfl⟩:=List.mem_iff_getElem.1 hm;have hk:ks[i]? = some ks[i]:=List.getElem?_eq_getElem hi;have:pos less ks ks[i]=i:=uG (Nat.le_of_lt hi) (fun t k ht hkt=>rL h ht hkt hk) (fun k hkk=>by rw [hk] at hkk;cases hkk;exact o.irrefl _);rw [this];exact hk
 · intro hk
   exact List.mem_of_getElem? hk
def has [DecidableEq K] (ks:List K) (x:K):Bool:=ks.any (fun k=>decide (k=x))
theorem gI [DecidableEq K] (ks:List K) (x:K):has ks x=true ↔ x∈ks:=by simp [has]
theorem vF [DecidableEq K] {ks:List K} {x:K} (h:x ∉ ks):has ks x=false:=by
 cases hb:has ks x with
 | false=>rfl
 | true=>exact absurd ((gI ks x).1 hb) h
theorem sC [DecidableEq K] (o:iT less) {ks:List K} (h:aS less ks) {x y:K} {p:Nat} (hp:pos less ks x=p) (hy:ks[p]? = some y):has ks x=decide (y=x):=by
 subst hp;by_cases hxy:y=x
 · subst hxy
   rw [(gI _ _).2 ((d9 o h).2 hy)];simp
 · have:x ∉ ks:=fun hm=>hxy (by have:=(d9 o h).1 hm;rw [hy] at this;exact Option.some.inj this)
   rw [vF this];simp [hxy]
theorem pP [DecidableEq K] (o:iT less) {ks:List K} (h:aS less ks) {x:K} {p:Nat} (hp:pos less ks x=p) (hl:ks.length<=p):has ks x=false:=by
 subst hp
 have:x ∉ ks:=fun hm=>by
  have:=(d9 o h).1 hm;rw [List.getElem?_eq_none hl] at this;cases this
 exact vF this
theorem pF (o:iT less) {ks:List K} (h:aS less ks) (x:K) :
 Lib.bsGo (fun t=>less (ks.getD t x) x) ks.length 0 ks.length=pos less ks x:=by
 refine Lib.bsGo_spec _ _ (fun t ht=>?_) (fun t ht=>?_) _ _ _ (by omega) (Nat.zero_le _) (pI _ _)
 · have hl:=pI (less:=less) ks x
   have hk:ks[t]? = some (ks[t]'(by omega)):=List.getElem?_eq_getElem (by omega);show less (ks.getD t x) x=true;rw [List.getD_eq_getElem?_getD,hk];exact lR ks x t _ ht hk
 · show less (ks.getD t x) x=false
   rw [List.getD_eq_getElem?_getD];cases hk:ks[t]? with
   | none=>exact o.irrefl x
   | some k=>exact xS o h ht hk
theorem wT (o:iT less) {ks:List K} (h:aS less ks) {x:K} (hx:x ∉ ks):aS less (ks.take (pos less ks x)++x::ks.drop (pos less ks x)):=by
 unfold aS at *;rw [List.pairwise_append,List.pairwise_cons];refine ⟨h.take,⟨fun a ha=>?_,h.drop⟩,fun a ha b hb=>?_⟩
 · obtain ⟨i,hi⟩:=List.mem_iff_getElem?.1 ha
   rw [List.getElem?_drop] at hi;have:=xS o h (x:=x) (by omega) hi;cases hb:less x a with
   | true=>rfl
   | false=>have e:=o.total _ _ this hb;rw [e] at hi;exact absurd (List.mem_of_getElem? hi) hx
 · obtain ⟨i,hi⟩:=List.mem_iff_getElem?.1 ha
   rw [List.getElem?_take] at hi;split at hi
   · rename_i hip
     have h1:=lR ks x i a hip hi;rcases List.mem_cons.1 hb with rfl | hb
     · exact h1
     · obtain ⟨j,hj⟩:=List.mem_iff_getElem?.1 hb
       rw [List.getElem?_drop] at hj;exact rL h (by omega) hi hj
   · cases hi
variable [DecidableEq K]
def eF (less:K->K->Bool) (ks:List K) (x:K):List K:=if has ks x=true then ks else ks.take (pos less ks x)++x::ks.drop (pos less ks x)
theorem dO (o:iT less) {ks:List K} (hr:aS less ks) (x:K):aS less (eF less ks x):=by
 unfold eF;split
 · exact hr
 · rename_i hb
   exact wT o hr (fun hm=>hb ((gI ks x).2 hm))
theorem jL (ks:List K) (x y:K):y∈eF less ks x ↔ y∈ks\/y=x:=by
 unfold eF;split
 · rename_i hb
   have hx:=(gI ks x).1 hb;exact ⟨Or.inl,fun h=>h.elim id (fun e=>e ▸ hx)⟩
 · have e:y∈ks ↔ y∈ks.take (pos less ks x)\/y∈ks.drop (pos less ks x):=by
    rw [<- List.mem_append,List.take_append_drop]
   rw [List.mem_append,List.mem_cons,e];constructor
   · rintro (h | h | h)
     · exact Or.inl (Or.inl h)
     · exact Or.inr h
     · exact Or.inl (Or.inr h)
   · rintro ((h | h) | h)
     · exact Or.inl h
     · exact Or.inr (Or.inr h)
     · exact Or.inr (Or.inl h)
omit [DecidableEq K] in
theorem pG (o:iT less):∀ {a b:List K},aS less a->aS less b->(∀ x,x∈a ↔ x∈b)->a=b
 | [],[],_,_,_=>rfl
 | [],y::_,_,_,h=>by have:=(h y).2 (List.Mem.head _);cases this
 | x::_,[],_,_,h=>by have:=(h x).1 (List.Mem.head _);cases this
 | x :: r, y :: s, ha, hb, h => by
   obtain ⟨ha1,ha2⟩:=List.pairwise_cons.1 ha;obtain ⟨hb1,hb2⟩:=List.pairwise_cons.1 hb
   have hxy:x=y:=by
    rcases List.mem_cons.1 ((h x).1 (List.Mem.head _)) with e | e
    · exact e
    · rcases List.mem_cons.1 ((h y).2 (List.Mem.head _)) with e' | e'
      · exact e'.symm
      · have h1:=hb1 x e
        have h2:=ha1 y e';rw [o.asymm h1] at h2;cases h2
   subst hxy;congr 1
   refine pG o ha2 hb2 (fun z=>⟨fun hz=>?_,fun hz=>?_⟩)
   · rcases List.mem_cons.1 ((h z).1 (List.Mem.tail _ hz)) with e | e
     · subst e;have:=ha1 z hz;rw [o.irrefl] at this;cases this
     · exact e
   · rcases List.mem_cons.1 ((h z).2 (List.Mem.tail _ hz)) with e | e
     · subst e;have:=hb1 z hz;rw [o.irrefl] at this;cases this
     · exact e
end
def lsS (a b:ByteArray):Bool:=Op.bytesLess a.toList b.toList
def lsL (a b:Int):Bool:=decide (a<b)
theorem fM:iT lsL where
 irrefl a:=by simp [lsL]
 trans a b c h1 h2:=by simp [lsL] at *;omega
 total a b h1 h2:=by simp [lsL] at *;omega
theorem lF:∀ l:List UInt8,Op.bytesLess l l=false
 | []=>rfl
 | a::r=>by simp [Op.bytesLess,lF r]
theorem jR (a b:UInt8) (x y:List UInt8):Op.bytesLess (a::x) (b::y)=true ↔ a.toNat<b.toNat\/(a.toNat=b.toNat/\Op.bytesLess x y=true):=by
 rw [Op.bytesLess];simp only [Bool.or_eq_true,Bool.and_eq_true,decide_eq_true_eq,beq_iff_eq,UInt8.lt_iff_toNat_lt,UInt8.toNat_inj]
theorem mH:∀ a b c:List UInt8,Op.bytesLess a b=true->Op.bytesLess b c=true->Op.bytesLess a c=true
 | _,[],_,h,_=>by simp [Op.bytesLess] at h
 | _,_::_,[],_,h=>by simp [Op.bytesLess] at h
 | [],_::_,_::_,_,_=>by simp [Op.bytesLess]
 | a :: x, b :: y, c :: z, h1, h2 => by
   rw [jR] at *;rcases h1 with h1 | ⟨h1,h1'⟩ <;> rcases h2 with h2 | ⟨h2,h2'⟩
   · exact Or.inl (by omega)
   · exact Or.inl (by omega)
   · exact Or.inl (by omega)
   · exact Or.inr ⟨by omega,mH x y z h1' h2'⟩
theorem mI:∀ a b:List UInt8,Op.bytesLess a b=false->Op.bytesLess b a=false->a=b
 | [],[],_,_=>rfl
 | [],_::_,h,_=>by simp [Op.bytesLess] at h
 | _::_,[],_,h=>by simp [Op.bytesLess] at h
 | a :: x, b :: y, h1, h2 => by
   have n1:=mt (jR a b x y).2 (by rw [h1];simp);have n2:=mt (jR b a y x).2 (by rw [h2];simp);simp only [not_or,not_and,Bool.not_eq_true] at n1 n2;have e:a.toNat=b.toNat:=by omega
   have:=mI x y (n1.2 e) (n2.2 e.symm);rw [this,UInt8.toNat_inj.1 e]
theorem wC {a b:ByteArray} (h:a.toList=b.toList):a=b:=by
 rw [Lib.toList_data,Lib.toList_data] at h;cases a with
 | mk ad => cases b with
   | mk bd=>exact congrArg ByteArray.mk (Array.toList_inj.1 h)
theorem cN:iT lsS where
 irrefl _:=lF _
 trans _ _ _ h1 h2:=mH _ _ _ h1 h2
 total _ _ h1 h2:=wC (mI _ _ h1 h2)
end
section
open Go.RowKit
theorem uZ:∀ (f:F),f.len<=cO f
 | .nil=>Nat.le_refl _
 | .cons o m n ks r => by
   have h2:=uZ r;rw [F.len,cO];omega
end
section
open Go.RowKit
theorem fT (w:World):Below w.heap.size w w.drew:=⟨rfl,rfl,rfl,Nat.le_refl _,fun _ _=>rfl⟩
theorem mK.at {P:TN->Prop}:∀ {f:F} {j:Nat} {t:TN},mK P f->f.at j=some t->P t
 | .nil,_,_,_,h=>by cases h
 | .cons o m n ks r, 0, t, hp, h => by
   have:(⟨o,m,n,ks⟩:TN)=t:=Option.some.inj h;rw [<- this];exact hp.1
 | .cons _ _ _ _ r,j+1,t,hp,h=>mK.at (f:=r) hp.2 h
theorem Ak {P:TN->Prop} (step:∀ t:TN,mK P t.ks->P t):∀ f:F,mK P f
 | .nil=>trivial
 | .cons o m n ks r=>⟨step ⟨o,m,n,ks⟩ (Ak step ks),Ak step r⟩
theorem Ea {P:TN->Prop} (step:∀ t:TN,mK P t.ks->P t) (t:TN):P t:=step t (Ak step t.ks)
theorem kO {G:Nat->Prop} {w:World} {a:Option Addr} {ks:F} {j:Nat} {t:TN} (h:aQ G w a ks) (hj:ks.at j=some t) :
 ∃ b off a2 c2,a=some ⟨b,off,none⟩/\G b/\b<w.heap.size/\(w.cell? ⟨b,off+j*4,none⟩=some (.string t.op)/\w.cell? ⟨b,off+j*4+1,none⟩=some (.string t.nm)/\w.cell? ⟨b,off+j*4+2,none⟩=some (.int .i64 t.n)/\w.cell? ⟨b,off+j*4+3,none⟩=some (.slice a2 t.ks.len c2))/\aQ G w a2 t.ks:=by
 rcases h with rfl | ⟨b,off,ha,h⟩
 · cases hj
 · have hlt:j<ks.len:=by
    rcases Nat.lt_or_ge j ks.len with h' | h'
    · exact h'
    · exfalso
      have:∀ (f:F) (j:Nat),f.len<=j->f.at j=none:=by
       intro f;induction f with
       | nil=>intro j _;rfl
       | cons o m n k r _ ih => intro j hj; cases j with
         | zero=>simp [F.len] at hj
         | succ j=>exact ih j (by simp [F.len] at hj;omega)
      rw [this ks j h'] at hj;cases hj
   obtain ⟨t',h1,h2⟩:=F.drop_at ks j hlt;rw [hj] at h1;obtain rfl:=Option.some.inj h1;have hd:=h.drop j;rw [h2] at hd;obtain ⟨g1,g2,⟨a2,c2,hc,hk⟩,_⟩:=hd;exact ⟨b,off,a2,c2,ha,g1,g2,hc,hk⟩
theorem rD {ks:F} {j:Nat} (h:j<ks.len):∃ t,ks.at j=some t/\ks.drop j=.cons t.op t.nm t.n t.ks (ks.drop (j+1)):=F.drop_at ks j h
end
section
open Go.RowKit
def SzF:F->Prop
 | .nil=>True
 | .cons _ m _ ks r=>m.size<=281474976710656/\ks.len<=9223372036854775807/\SzF ks/\SzF r
theorem SzF.at:∀ {f:F} {j:Nat} {t:TN},SzF f->f.at j=some t->SzF t.f
 | .nil,_,_,_,h=>by cases h
 | .cons o m n ks r, 0, t, hp, h => by
   have:(⟨o,m,n,ks⟩:TN)=t:=Option.some.inj h;rw [<- this];exact ⟨hp.1,hp.2.1,hp.2.2.1,trivial⟩
 | .cons _ _ _ _ r,j+1,t,hp,h=>SzF.at (f:=r) hp.2.2.2 h
end
section
open Go.RowKit
theorem xL {f:F} {j:Nat} {t:TN} (h:f.at j=some t):cO (f.drop j)=aH t+cO (f.drop (j+1)):=by
 have hlt:j<f.len:=by
  rcases Nat.lt_or_ge j f.len with h' | h'
  · exact h'
  · exfalso
    have:∀ (f:F) (j:Nat),f.len<=j->f.at j=none:=by
     intro f;induction f with
     | nil=>intro j _;rfl
     | cons o m n k r _ ih => intro j hj; cases j with
       | zero=>simp [F.len] at hj
       | succ j=>exact ih j (by simp [F.len] at hj;omega)
    rw [this f j h'] at h;cases h
 obtain ⟨t',h1,h2⟩:=F.drop_at f j hlt;rw [h] at h1;obtain rfl:=Option.some.inj h1;rw [h2,cO];rfl
theorem Mc {f:F} {j:Nat} {t:TN} (h:f.at j=some t):j<f.len:=by
 rcases Nat.lt_or_ge j f.len with h' | h'
 · exact h'
 · exfalso
   have:∀ (f:F) (j:Nat),f.len<=j->f.at j=none:=by
    intro f;induction f with
    | nil=>intro j _;rfl
    | cons o m n k r _ ih => intro j hj; cases j with
      | zero=>simp [F.len] at hj
      | succ j=>exact ih j (by simp [F.len] at hj;omega)
   rw [this f j h'] at h;cases h
theorem lL:∀ (f:F) (j:Nat),cO (f.drop j)<=cO f
 | f,0=>by rw [F.drop_zero];exact Nat.le_refl _
 | .nil,_+1=>Nat.le_refl _
 | .cons o m n k r, j + 1 => by
   have h:=lL r j;rw [F.drop,cO];omega
theorem kV {w:World} {b:Nat} {v:Value} {t:TypeId} (h:w.heap[b]? = some (.cells #[v] t (0,0))):w.cell? ⟨b,0,none⟩=some v/\w.frozen? ⟨b,0,none⟩=false:=by
 constructor <;> simp [World.cell?,World.frozen?,h]
theorem Em {w:World} {b:Nat} {v:Value} {t:TypeId} (h:w.heap[b]? = some (.cells #[v] t (0,0))) (u:Value):(w.setCell ⟨b,0,none⟩ u).heap[b]? = some (.cells #[u] t (0,0)):=by
 have:=heap_setCell_same w b 0 _ t u h;simpa using this
end
section
open Go.RowKit
end
end
section
section
open Go.RowKit
theorem Ny:(Tryz.prog.info? 24).map (fun i=>(i.zero,i.size,i.bytes))=some (some (.int .i64 0),1,8):=by kernel_rfl
def JS (t:TN):Prop:=SzF t.f
theorem Nm {t t2:TN} {j:Nat} (h:JS t) (hj:t.ks.at j=some t2):JS t2:=SzF.at (f:=t.ks) h.2.2.1 hj
def WdE (_:Nat) (_:World):Prop:=True
theorem wdE {w w':World} {lb:Nat} (_:WdE lb w) (_:aC (· = lb) w w'):WdE lb w':=trivial
def mM (_:Nat->Prop) (_:World) (t:TN) (v:Value):Prop:=v=.int .i64 (bO t.f)
theorem kN {G H:Nat->Prop} {w:World} {t:TN} {v:Value} (h:mM G w t v) (_:∀ b,b<w.heap.size->G b->H b):mM H w t v:=h
theorem lQ {S G:Nat->Prop} {w w':World} {t:TN} {v:Value} (h:mM G w t v) (_:aC S w w') (_:∀ k,S k->¬ G k):mM G w' t v:=h
theorem Mq {G:Nat->Prop} {w:World} {t:TN} {v:Value} (h:mM G w t v):∃ z,v=.int .i64 z:=⟨_,h⟩
theorem NN {G:Nat->Prop} {w:World} {t:TN} {v:Value} (h:mM G w t v):v.oneCell'=true:=by rw [h];rfl
theorem sK (t:TN) (r:F):bO (.cons t.op t.nm t.n t.ks r)=if bO t.f=0 then bO r else bO t.f:=by
 rw [wA,bO];by_cases h1:nK t.op t.nm t.n t.ks.len=0
 · rw [if_pos h1,if_pos h1]
 · rw [if_neg h1,if_neg h1,if_neg h1]
theorem Ej {o:ByteArray} {x:List UInt8} (h:(o.data.toList == x)=true):(o.toList == x)=true:=by rw [Lib.toList_data];exact h
theorem El {o:ByteArray} {x:List UInt8} (h:(o.data.toList == x)=false):(o.toList == x)=false:=by rw [Lib.toList_data];exact h
theorem KL (t:TN) (w:World) (G:Nat->Prop) (a:Option Addr) (c:Nat) (va:Option Addr) (vc:Nat) (vs:List Value) (base:Nat) (hpre:JS t) {lb:Nat} (_:WdE lb w) (_:aQ G w a t.ks) (ho:w.ownsRow base 24 1 (.slice va t.ks.len vc) t.ks.len vs)
 (hv:∀ j t2,t.ks.at j=some t2->∃ v,vs[j]? = some v/\mM (fun b=>base<=b/\(Value.slice va t.ks.len vc).ownBlock ≠ some b) w t2 v) :
 Calls Tryz.prog 230 #[eH t.op t.nm t.n a t.ks.len c,.slice va t.ks.len vc] w fun e w'=>∃ v,e=.returned v/\mM (fun b=>w.heap.size<=b) w' t v/\Below w.heap.size w w':=by
 have BA:=bA0 w (ndG t.op t.nm t.n a t.ks.len c);have NB:=heap_alloc_new w (ndG t.op t.nm t.n a t.ks.len c);have O1:=aA (cI ho BA);generalize hW:w.alloc (ndG t.op t.nm t.n a t.ks.len c)=W at BA NB O1;have HW:=aA hW;have HB:=aA BA;have HV:=aA hv;have hm:t.nm.size<=281474976710656:=hpre.1;have hlen9:t.ks.len<=9223372036854775807:=hpre.2.1;obtain ⟨⟨m0,m1,m2,m3⟩, -⟩:=aL NB;have KO:=aA (fun w=>pM t.op w);have NM:=aA (fun w=>i8 t.nm hm w);have CT:=wA t;unfold nK at CT;have HCT:=aA CT;clear hW BA NB ho hv hpre CT;have P:=aA (p:=∀ r:Int,r=bO t.f->∀ W',Below w.heap.size w W'->∃ v,Ending.returned (.int .i64 r)=.returned v/\mM (fun b=>w.heap.size<=b) W' t v/\Below w.heap.size w W') (fun r hr W' hb=>⟨_,rfl,by rw [hr];rfl,hb⟩);by_cases h1:(dL t.op != (t.ks.len:Int))=true
 · have P2:=aA (P.out 2 (by rw [HCT.out,if_pos h1];rfl) W HB.out)
   have b1:((t.ks.len:Int) != dL t.op)=true:=by rw [bne_iff_ne] at h1 |-;exact fun e=>h1 e.symm
   clear h1 P HCT;go_enter Tryz.func230,Tryz.ntmps230
   go_upto_region 1 with fail
   rw [HW.out];go_wp2_with (go_at_call 186;refine (KO.out _).mono ?_;rintro e w' ⟨rfl,rfl⟩)
   go_ret;exact P2.out
 · have b1:((t.ks.len:Int) != dL t.op)=false:=by rw [bne_eq_false_iff_eq];simp at h1;exact h1.symm
   rw [if_neg h1] at HCT;clear h1;cases h2:bY t.op with
   | true =>
     have g2:=Ej h2
     have g1:(t.op.toList == [110,117,109])=false:=by
      have:t.op.data.toList=mJ:=by unfold bY at h2;simpa using h2
      rw [Lib.toList_data,this];rfl
     have hn:cF t.op=false:=by unfold cF rC;rw [<- Lib.toList_data];exact g1
     unfold mJ at g2;cases hg:bD t.nm.data.toList with
     | false =>
       rw [hg] at NM;have P2:=aA (P.out 5 (by rw [HCT.out,h2,hg];rfl) W HB.out);clear h2 hg hn P HCT;go_enter Tryz.func230,Tryz.ntmps230
       go_upto_region 1 with fail
       rw [HW.out];go_wp2_with (first | (go_at_call 186;refine (KO.out _).mono ?_;rintro e w' ⟨rfl,rfl⟩) | (go_at_call 54;refine (NM.out _).mono ?_;rintro e w' ⟨rfl,rfl⟩))
       go_ret;exact P2.out
     | true =>
       rw [hg] at NM;have E:=aA (show bO t.f=bO t.ks by rw [HCT.out,h2,hg,hn];rfl);clear h2 hg hn HCT;go_enter Tryz.func230,Tryz.ntmps230
       go_upto_region 1 with fail
       rw [HW.out];go_wp2_with (first | (go_at_call 186;refine (KO.out _).mono ?_;rintro e w' ⟨rfl,rfl⟩) | (go_at_call 54;refine (NM.out _).mono ?_;rintro e w' ⟨rfl,rfl⟩))
       go_loop [35] (fun i=>∃ k:Nat,i=.int .i64 k/\k<=t.ks.len/\Hid (bO (t.ks.drop k)=bO t.ks)) (fun i=>t.ks.len-(intOf i).toNat)
       case atStart=>exact ⟨0,rfl,Nat.zero_le _,aA (by rw [F.drop_zero])⟩
       case round =>
        obtain ⟨k,rfl,hk,hD⟩:=hrel;by_cases hlt:k<t.ks.len
        · obtain ⟨t2,hat,hdr⟩:=rD hlt
          obtain ⟨v,hvj,hvr⟩:=HV.out k t2 hat;obtain ⟨g,cc,hva, -, -,hcs⟩:=eT O1.out (by omega);have hx:=hcs k v hvj;have HD2:=aA (show bO t.ks=if bO t2.f=0 then bO (t.ks.drop (k+1)) else bO t2.f by have e:=sK t2 (t.ks.drop (k+1));rw [<- hdr,hD.out] at e;exact e);simp only [Value.slice.injEq,true_and] at hva;obtain ⟨rfl,rfl⟩:=hva;unfold mM at hvr;subst hvr;clear hvj hat hdr hcs;by_cases h0:bO t2.f=0
          · have b0:((bO t2.f:Int) != 0)=false:=by rw [h0];rfl
            have D2:=aA (show bO (t.ks.drop (k+1))=bO t.ks by rw [HD2.out,if_pos h0]);clear h0 HD2;go_wp2_with fail
            go_round
            case rel=>exact ⟨k+1,by go_num,by omega,D2⟩
            case measure=>simp [intOf];omega
          · have b0:((bO t2.f:Int) != 0)=true:=by simpa using h0
            have P2:=aA (P.out (bO t2.f) (by rw [E.out,HD2.out,if_neg h0]) W HB.out);clear h0 HD2;go_wp2_with fail
            go_ret;exact P2.out
        · obtain rfl:k=t.ks.len:=by omega
          have P2:=aA (P.out 0 (by rw [E.out, <- hD.out,F.drop_len _ _ (Nat.le_refl _)];rfl) W HB.out);go_wp2_with fail
          go_ret;exact P2.out
   | false =>
     have g2:=El h2;unfold mJ at g2;cases h3:cF t.op with
     | true =>
       have g3:=Ej h3;unfold rC at g3;by_cases h4:t.n<0
       · have P2:=aA (P.out 1 (by rw [HCT.out,h2,h3,decide_eq_true h4];rfl) W HB.out)
         clear h2 h3 P HCT;go_enter Tryz.func230,Tryz.ntmps230
         go_upto_region 1 with fail
         rw [HW.out];go_wp2_with (go_at_call 186;refine (KO.out _).mono ?_;rintro e w' ⟨rfl,rfl⟩)
         go_ret;exact P2.out
       · have E:=aA (show bO t.f=bO t.ks by rw [HCT.out,h2,h3,decide_eq_false h4];rfl)
         clear h2 h3 HCT;go_enter Tryz.func230,Tryz.ntmps230
         go_upto_region 1 with fail
         rw [HW.out];go_wp2_with (go_at_call 186;refine (KO.out _).mono ?_;rintro e w' ⟨rfl,rfl⟩)
         go_loop [35] (fun i=>∃ k:Nat,i=.int .i64 k/\k<=t.ks.len/\Hid (bO (t.ks.drop k)=bO t.ks)) (fun i=>t.ks.len-(intOf i).toNat)
         case atStart=>exact ⟨0,rfl,Nat.zero_le _,aA (by rw [F.drop_zero])⟩
         case round =>
          obtain ⟨k,rfl,hk,hD⟩:=hrel;by_cases hlt:k<t.ks.len
          · obtain ⟨t2,hat,hdr⟩:=rD hlt
            obtain ⟨v,hvj,hvr⟩:=HV.out k t2 hat;obtain ⟨g,cc,hva, -, -,hcs⟩:=eT O1.out (by omega);have hx:=hcs k v hvj;have HD2:=aA (show bO t.ks=if bO t2.f=0 then bO (t.ks.drop (k+1)) else bO t2.f by have e:=sK t2 (t.ks.drop (k+1));rw [<- hdr,hD.out] at e;exact e);simp only [Value.slice.injEq,true_and] at hva;obtain ⟨rfl,rfl⟩:=hva;unfold mM at hvr;subst hvr;clear hvj hat hdr hcs;by_cases h0:bO t2.f=0
            · have b0:((bO t2.f:Int) != 0)=false:=by rw [h0];rfl
              have D2:=aA (show bO (t.ks.drop (k+1))=bO t.ks by rw [HD2.out,if_pos h0]);clear h0 HD2;go_wp2_with fail
              go_round
              case rel=>exact ⟨k+1,by go_num,by omega,D2⟩
              case measure=>simp [intOf];omega
            · have b0:((bO t2.f:Int) != 0)=true:=by simpa using h0
              have P2:=aA (P.out (bO t2.f) (by rw [E.out,HD2.out,if_neg h0]) W HB.out);clear h0 HD2;go_wp2_with fail
              go_ret;exact P2.out
          · obtain rfl:k=t.ks.len:=by omega
            have P2:=aA (P.out 0 (by rw [E.out, <- hD.out,F.drop_len _ _ (Nat.le_refl _)];rfl) W HB.out);go_wp2_with fail
            go_ret;exact P2.out
     | false =>
       have g3:=El h3;unfold rC at g3;have E:=aA (show bO t.f=bO t.ks by rw [HCT.out,h2,h3];rfl);clear h2 h3 HCT;go_enter Tryz.func230,Tryz.ntmps230
       go_upto_region 1 with fail
       rw [HW.out];go_wp2_with (go_at_call 186;refine (KO.out _).mono ?_;rintro e w' ⟨rfl,rfl⟩)
       go_loop [35] (fun i=>∃ k:Nat,i=.int .i64 k/\k<=t.ks.len/\Hid (bO (t.ks.drop k)=bO t.ks)) (fun i=>t.ks.len-(intOf i).toNat)
       case atStart=>exact ⟨0,rfl,Nat.zero_le _,aA (by rw [F.drop_zero])⟩
       case round =>
        obtain ⟨k,rfl,hk,hD⟩:=hrel;by_cases hlt:k<t.ks.len
        · obtain ⟨t2,hat,hdr⟩:=rD hlt
          obtain ⟨v,hvj,hvr⟩:=HV.out k t2 hat;obtain ⟨g,cc,hva, -, -,hcs⟩:=eT O1.out (by omega);have hx:=hcs k v hvj;have HD2:=aA (show bO t.ks=if bO t2.f=0 then bO (t.ks.drop (k+1)) else bO t2.f by have e:=sK t2 (t.ks.drop (k+1));rw [<- hdr,hD.out] at e;exact e);simp only [Value.slice.injEq,true_and] at hva;obtain ⟨rfl,rfl⟩:=hva;unfold mM at hvr;subst hvr;clear hvj hat hdr hcs;by_cases h0:bO t2.f=0
          · have b0:((bO t2.f:Int) != 0)=false:=by rw [h0];rfl
            have D2:=aA (show bO (t.ks.drop (k+1))=bO t.ks by rw [HD2.out,if_pos h0]);clear h0 HD2;go_wp2_with fail
            go_round
            case rel=>exact ⟨k+1,by go_num,by omega,D2⟩
            case measure=>simp [intOf];omega
          · have b0:((bO t2.f:Int) != 0)=true:=by simpa using h0
            have P2:=aA (P.out (bO t2.f) (by rw [E.out,HD2.out,if_neg h0]) W HB.out);clear h0 HD2;go_wp2_with fail
            go_ret;exact P2.out
        · obtain rfl:k=t.ks.len:=by omega
          have P2:=aA (P.out 0 (by rw [E.out, <- hD.out,F.drop_len _ _ (Nat.le_refl _)];rfl) W HB.out);go_wp2_with fail
          go_ret;exact P2.out
end
section
open Go.RowKit
end
section
open Go.RowKit
end
section
open Go.RowKit
theorem cP {o:ByteArray} {x:List UInt8} (h:(o.data.toList == x)=true):(o.toList == x)=true:=by rw [Lib.toList_data];exact h
theorem aF {o:ByteArray} {x:List UInt8} (h:(o.data.toList == x)=false):(o.toList == x)=false:=by rw [Lib.toList_data];exact h
end
section
open Go.RowKit
theorem Nx:(Tryz.prog.info? 9).map (fun i=>(i.zero,i.size,i.bytes))=some (some (.string ⟨#[]⟩),1,16):=by kernel_rfl
def kB (w:World):Prop:=∃ t f,w.heap[1]? = some (.cells (Lib.pow10Tab.map fun z=>Value.int .u64 z).toArray t f)
theorem vJ (n:Int) (h0: -9223372036854775808<=n) (h1:n<=9223372036854775807) (w:World) (hw:kB w) :
 Calls Tryz.prog 131 #[.int .i64 n,.int .i64 10] w fun e w'=>e=.returned (.string ⟨(Lib.itoa n).toArray⟩)/\Below w.heap.size w w':=by
 obtain ⟨t,f,h2⟩:=hw;refine (Tryz.strconv_FormatInt_10 n h0 h1 w (Cu (by kernel_rfl) h2)).mono ?_;rintro e w' ⟨rfl,k,os,rfl⟩;exact ⟨rfl,Lib.below_grow _ _ (Nat.le_refl _) _ _⟩
inductive OkI:TN->Prop
 | num (o m:ByteArray) (n:Int):cF o=true->0<=n->n<=9223372036854775807->OkI ⟨o,m,n,.nil⟩
 | name (o m:ByteArray) (n:Int):cF o=false->bY o=true->bD m.data.toList=true->OkI ⟨o,m,n,.nil⟩
 | neg (o m:ByteArray) (n:Int) (a:TN):cF o=false->bY o=false->fB o=true->OkI a->OkI ⟨o,m,n,a.f⟩
 | two (o m:ByteArray) (n:Int) (a b:TN):cF o=false->bY o=false->fB o=false->k8 o=true->OkI a->OkI b->OkI ⟨o,m,n,.cons a.op a.nm a.n a.ks b.f⟩
theorem MD (t:TN) (h:OkT t) (hn:cZ t.f):OkI t :=
 gA (P:=OkI) (fun o m n a b c=>.num o m n a b c) (fun o m n a b c=>.name o m n a b c) (fun o m n t a b c ih=>.neg o m n t a b c ih) (fun o m n t u a b c d ih iu=>.two o m n t u a b c d ih iu) t h hn
def JR (t:TN):Prop:=OkI t/\(aO t).length<=4000
theorem Nl {t t2:TN} {j:Nat} (h:JR t) (hj:t.ks.at j=some t2):JR t2:=by
 obtain ⟨h,hl⟩:=h;cases h with
 | num o m n _ _ _=>cases hj
 | name o m n _ _ _=>cases hj
 | neg o m n a h1 h2 h3 h4 =>
   match j,hj with
   | 0, hj =>
     have:a=t2:=Option.some.inj hj;subst this;rw [(kI a h1 h2 h3).1,List.length_cons] at hl;exact ⟨h4,by omega⟩
   | j+1,hj=>cases hj
 | two o m n a b h1 h2 h3 h4 h5 h6 =>
   rw [(kH a b h1 h2 h3).1] at hl;simp only [List.length_cons,List.length_append,List.length_nil] at hl;match j,hj with
   | 0, hj =>
     have:a=t2:=Option.some.inj hj;subst this;exact ⟨h5,by omega⟩
   | 1, hj =>
     have:b=t2:=Option.some.inj hj;subst this;exact ⟨h6,by omega⟩
   | j+2,hj=>cases hj
def WdT (lb:Nat) (w:World):Prop:=kB w/\lb ≠ 1
theorem wdT {w w':World} {lb:Nat} (h:WdT lb w) (hk:aC (· = lb) w w'):WdT lb w':=by
 obtain ⟨⟨t,f,h1⟩,h2⟩:=h;exact ⟨⟨t,f,hk.heap h1 (fun e=>h2 e.symm)⟩,h2⟩
def mL (_:Nat->Prop) (_:World) (t:TN) (v:Value):Prop:=v=.string ⟨(aO t).toArray⟩
theorem kM {G H:Nat->Prop} {w:World} {t:TN} {v:Value} (h:mL G w t v) (_:∀ b,b<w.heap.size->G b->H b):mL H w t v:=h
theorem lP {S G:Nat->Prop} {w w':World} {t:TN} {v:Value} (h:mL G w t v) (_:aC S w w') (_:∀ k,S k->¬ G k):mL G w' t v:=h
theorem Mp {G:Nat->Prop} {w:World} {t:TN} {v:Value} (h:mL G w t v):∃ z,v=.string z:=⟨_,h⟩
theorem NL {G:Nat->Prop} {w:World} {t:TN} {v:Value} (h:mL G w t v):v.oneCell'=true:=by rw [h];rfl
theorem KJ (t:TN) (w:World) (G:Nat->Prop) (a:Option Addr) (c:Nat) (va:Option Addr) (vc:Nat) (vs:List Value) (base:Nat) (hpre:JR t) {lb:Nat} (hwd:WdT lb w) (_:aQ G w a t.ks) (ho:w.ownsRow base 9 1 (.slice va t.ks.len vc) t.ks.len vs)
 (hv:∀ j t2,t.ks.at j=some t2->∃ v,vs[j]? = some v/\mL (fun b=>base<=b/\(Value.slice va t.ks.len vc).ownBlock ≠ some b) w t2 v) :
 Calls Tryz.prog 133 #[eH t.op t.nm t.n a t.ks.len c,.slice va t.ks.len vc] w fun e w'=>∃ v,e=.returned v/\mL (fun b=>w.heap.size<=b) w' t v/\Below w.heap.size w w':=by
 have BA:=bA0 w (ndG t.op t.nm t.n a t.ks.len c);have NB:=heap_alloc_new w (ndG t.op t.nm t.n a t.ks.len c);have O1:=aA (cI ho BA)
 have LT:kB (w.alloc (ndG t.op t.nm t.n a t.ks.len c)):=by
  obtain ⟨⟨t',f,h1⟩,_⟩:=hwd;exact ⟨t',f,(BA.block _ (Array.getElem?_eq_some_iff.1 h1).1).trans h1⟩
 generalize hW:w.alloc (ndG t.op t.nm t.n a t.ks.len c)=W at BA NB O1 LT;have HW:=aA hW;have HB:=aA BA;have HLT:=aA LT;have hzw:=BA.size;have KO:=aA (fun w=>pM t.op w);have P:=aA (p:=∀ s:ByteArray,s=⟨(aO t).toArray⟩->∀ W',Below w.heap.size w W'->∃ v,Ending.returned (.string s)=.returned v/\mL (fun b=>w.heap.size<=b) W' t v/\Below w.heap.size w W') (fun s hs W' hb=>⟨_,rfl,by rw [hs];rfl,hb⟩);obtain ⟨hi,hl⟩:=hpre;clear hW BA ho LT hwd;cases hi with
 | num o m n h1 h0 h9 =>
   have g1:=cP h1;unfold rC at g1;have ha:dL o=0:=by unfold dL;rw [h1];rfl
   have hE:=(mU (m:=m) (n:=n) (ks:=.nil) h1).1;have C:=aA (vJ n (by omega) h9 W HLT.out);have P2:=aA (P.out ⟨(Lib.itoa n).toArray⟩ (by rw [hE]));obtain ⟨⟨m0,m1,m2,m3⟩, -⟩:=aL NB;dsimp only at *;rw [ha] at KO;rw [show F.nil.len=0 from rfl] at *;clear P hE ha h1 h0 h9 hl hv NB;go_enter Tryz.func133,Tryz.ntmps133
   go_upto_region 1 with fail
   rw [HW.out];go_upto_region 5 with (go_at_call 186;refine (KO.out _).mono ?_;rintro e w' ⟨rfl,rfl⟩)
   go_wp2_with fail
   refine C.out.mono ?_;rintro e w1 ⟨rfl,hb⟩;have P3:=aA (P2.out w1 (HB.out.trans (hb.mono hzw)));clear hb;go_wp2_with fail
   go_ret;exact P3.out
 | name o m n h1 h2 h3 =>
   have g1:=aF h1;have g2:=cP h2;unfold rC at g1;unfold mJ at g2;have ha:dL o=0:=by unfold dL;rw [h1,h2];rfl
   have hE:=(kJ (m:=m) (n:=n) (ks:=.nil) h1 h2).1;have P2:=aA (P.out m (by rw [hE]) W HB.out);obtain ⟨⟨m0,m1,m2,m3⟩, -⟩:=aL NB;dsimp only at *;rw [ha] at KO;rw [show F.nil.len=0 from rfl] at *;clear P hE ha h1 h2 h3 hl hv NB;go_enter Tryz.func133,Tryz.ntmps133
   go_upto_region 1 with fail
   rw [HW.out];go_wp2_with (go_at_call 186;refine (KO.out _).mono ?_;rintro e w' ⟨rfl,rfl⟩)
   go_ret;exact P2.out
 | neg o m n t1 h1 h2 h3 h4 =>
   have g1:=aF h1;have g2:=aF h2;have g3:=cP h3;unfold rC at g1;unfold mJ at g2;unfold iP at g3;have ha:dL o=1:=by unfold dL;rw [h1,h2,h3];rfl
   have hE:=(kI (m:=m) (n:=n) t1 h1 h2 h3).1;rw [hE,List.length_cons] at hl;obtain ⟨v,hv0,hvr⟩:=hv 0 t1 rfl;unfold mL at hvr;subst hvr;obtain ⟨g,cc,hva, -, -,hcs⟩:=eT O1.out (by show (1:Nat) ≠ 0;decide);have hx:=hcs 0 _ hv0;obtain ⟨S,hS⟩:∃ S:ByteArray,⟨(aO t1).toArray⟩=S:=⟨_,rfl⟩;have hSz:S.size<=4000:=by rw [<- hS];show (aO t1).toArray.size<=_;rw [List.size_toArray];omega
   have P2:=aA (P.out (⟨#[45]⟩++S) (by rw [hE, <- hS];exact eL (by simp)) W HB.out);rw [hS] at hx;obtain ⟨⟨m0,m1,m2,m3⟩, -⟩:=aL NB;dsimp only at *;rw [ha] at KO;have h1l:t1.f.len=1:=rfl;rw [h1l] at HW m3 hva |-
   simp only [Value.slice.injEq,true_and] at hva;obtain ⟨rfl,rfl⟩:=hva;clear P hE ha h1 h2 h3 h4 hl hv NB hv0 hcs hS h1l;go_enter Tryz.func133,Tryz.ntmps133
   go_upto_region 1 with fail
   rw [HW.out];go_wp2_with (go_at_call 186;refine (KO.out _).mono ?_;rintro e w' ⟨rfl,rfl⟩)
   go_ret;exact P2.out
 | two o m n t1 t2 h1 h2 h3 h4 h5 h6 =>
   have g1:=aF h1;have g2:=aF h2;have g3:=aF h3;unfold rC at g1;unfold mJ at g2;unfold iP at g3;have ha:dL o=2:=by unfold dL;rw [h1,h2,h3,h4];rfl
   have hos:o.size=1:=by
    obtain ⟨_,x,hx,_⟩:=tU h4;have:o.data.toList.length=1:=by rw [hx];rfl
    rw [<- this];simp
   have hE:=(kH (m:=m) (n:=n) t1 t2 h1 h2 h3).1;rw [hE] at hl;simp only [List.length_cons,List.length_append,List.length_nil] at hl;obtain ⟨v,hv0,hvr⟩:=hv 0 t1 rfl;unfold mL at hvr;subst hvr;obtain ⟨u,hu0,hur⟩:=hv 1 t2 rfl;unfold mL at hur;subst hur;obtain ⟨g,cc,hva, -, -,hcs⟩:=eT O1.out (by show (2:Nat) ≠ 0;decide);have hx:=hcs 0 _ hv0;have hy:=hcs 1 _ hu0;obtain ⟨S,hS⟩:∃ S:ByteArray,⟨(aO t1).toArray⟩=S:=⟨_,rfl⟩;obtain ⟨V,hV⟩:∃ S:ByteArray,⟨(aO t2).toArray⟩=S:=⟨_,rfl⟩;have hSz:S.size<=4000:=by rw [<- hS];show (aO t1).toArray.size<=_;rw [List.size_toArray];omega
   have hVz:V.size<=4000:=by rw [<- hV];show (aO t2).toArray.size<=_;rw [List.size_toArray];omega
   have P2:=aA (P.out (⟨#[40]⟩++S++⟨#[32]⟩++o++⟨#[32]⟩++V++⟨#[41]⟩) (by rw [hE, <- hS, <- hV];exact eL (by simp)));have P3:=aA (fun n=>P2.out (W.drewN n) ⟨HB.out.os,HB.out.tape,HB.out.output,HB.out.size,HB.out.block⟩);rw [hS] at hx;rw [hV] at hy;have z1:(9223372036854775807<1+S.size)=False:=by rw [eq_iff_iff,iff_false];omega
   have z2:(9223372036854775807<1+S.size+1)=False:=by rw [eq_iff_iff,iff_false];omega
   have z3:(9223372036854775807<1+S.size+1+o.size)=False:=by rw [eq_iff_iff,iff_false];omega
   have z4:(9223372036854775807<1+S.size+1+o.size+1)=False:=by rw [eq_iff_iff,iff_false];omega
   have z5:(9223372036854775807<1+S.size+1+o.size+1+V.size)=False:=by rw [eq_iff_iff,iff_false];omega
   have z6:(9223372036854775807<1+S.size+1+o.size+1+V.size+1)=False:=by rw [eq_iff_iff,iff_false];omega
   obtain ⟨⟨m0,m1,m2,m3⟩, -⟩:=aL NB;dsimp only at *;rw [ha] at KO;have h1l:(F.cons t1.op t1.nm t1.n t1.ks t2.f).len=2:=rfl;rw [h1l] at HW m3 hva |-
   simp only [Value.slice.injEq,true_and] at hva;obtain ⟨rfl,rfl⟩:=hva;clear P P2 hE ha h1 h2 h3 h4 h5 h6 hl hv NB hv0 hu0 hcs hS hV h1l hos;go_enter Tryz.func133,Tryz.ntmps133
   go_upto_region 1 with fail
   rw [HW.out];go_upto_region 10 with (go_at_call 186;refine (KO.out _).mono ?_;rintro e w' ⟨rfl,rfl⟩)
   go_wp2_with (go_quiet (fail))
   go_ret;exact P3.out _
end
section
open Go.RowKit
end
end
end Go.Proofs.YtgfkjkokmcejbaaGreatDoor
