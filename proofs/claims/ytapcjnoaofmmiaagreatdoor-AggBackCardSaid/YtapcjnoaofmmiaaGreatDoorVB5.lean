/-
 No statement: what AggBackCard needs, of the texts OE9.
-/
import Derived.Test.YtapcjnoaofmmiaaGreatDoorVB4
set_option maxHeartbeats 40000000
set_option maxRecDepth 100000
namespace Go.Proofs.YtapcjnoaofmmiaaGreatDoor
section
section
open Go.RowKit
def jX (r:List UInt8):Prop:=∀ c t,r=c::t->aX c=false
theorem Fh:jX []:=fun c t h=>by cases h
theorem AE (r:List UInt8):jX (32::r):=fun c t h=>by cases h;decide
theorem vF (r:List UInt8):jX (41::r):=fun c t h=>by cases h;decide
theorem rR {c:UInt8} (h:aX c=false):cH c=false/\aZ c=false:=by
 unfold aX at h;simpa using h
theorem zU {x r:List UInt8} (hx:dQ x=true) (hr:jX r) (p:Nat):cZ (x++r) p=(cZ r (p+x.length)).after [⟨1,x,0,p⟩]:=by
 cases x with
 | nil=>cases hx
 | cons c t =>
   rw [kX] at hx;simp only [Bool.and_eq_true,decide_eq_true_eq,List.all_eq_true] at hx;obtain ⟨⟨h1,h2⟩,h3⟩:=hx
   have hall:∀ d∈c::t,aX d=true:=fun d hd=>by
    rcases List.mem_cons.1 hd with rfl | hd
    · unfold aX;rw [h1];rfl
    · exact h3 d hd
   have hrun:=xA (c::t) r hall hr
   have hf:cQ (c::t++r)=.tok 1 (c::t).length 0:=by
    rw [List.cons_append];simp only [cQ];rw [if_pos h1, <- List.cons_append];unfold mJ;rw [hrun,if_neg (by simp;omega)]
   have h32:¬ (c::t++r).head? = some 32:=by
    intro e;have:c=32:=by simpa using e
    rw [this] at h1;cases h1
   rw [gF h32 (by simp) hf,List.drop_left,List.take_left]
theorem pR {n:Int} (h:0<=n):Lib.itoa n=Lib.decDigits n.toNat:=by unfold Lib.itoa;rw [if_neg (by omega)]
theorem Cn {n:Int} {r:List UInt8} (h0:0<=n) (h1:n<=9223372036854775807) (hr:jX r) (p:Nat):cZ (Lib.itoa n++r) p=(cZ r (p+(Lib.itoa n).length)).after [⟨2,Lib.itoa n,n,p⟩]:=by
 rw [pR h0];obtain ⟨c,t,hc,hd⟩:=pY n.toNat;have hall:∀ d∈Lib.decDigits n.toNat,aZ d=true:=fun d hd=>(qU d).2 (uA _ d hd)
 have hrun:=xA (Lib.decDigits n.toNat) r hall (fun c t e=>(rR (hr c t e)).2);have hval:=ID n.toNat
 have hz:∀ q,Lib.decDigits n.toNat=48::q->q=[]:=fun q hq=>by
  rcases Nat.eq_zero_or_pos n.toNat with h | h
  · rw [h,Aj] at hq;simpa using hq.symm
  · exact absurd hq (Gp _ h q)
 obtain ⟨D,hD⟩:∃ D,Lib.decDigits n.toNat=D:=⟨_,rfl⟩;rw [hD] at hc hall hrun hval hz |-
 have hcd:aZ c=true:=hall c (by rw [hc];simp)
 have hcs:cH c=false:=by
  unfold cH;rw [decide_eq_false (by have:=(qU c).1 hcd;unfold isD at this;omega)];rfl
 have hf:cQ (D++r)=.tok 2 D.length n:=by
  have e:cQ (D++r)=tE (D++r):=by
   rw [hc,List.cons_append];simp only [cQ];rw [if_neg (by rw [hcs];decide),if_pos hcd]
  rw [e];unfold tE;rw [hrun,List.take_left,List.drop_left,hval,if_neg,if_neg (by omega)]
  · rw [show ((n.toNat:Nat):Int)=n by omega]
  · rintro (⟨a,b⟩ | ⟨d,a,b⟩)
    · rw [hc,List.cons_append] at b
      have hc48:c=48:=by simpa using b
      have:=hz t (by rw [hc,hc48]);rw [hc,this] at a;simp at a
    · cases r with
      | nil=>cases a
      | cons c' t' =>
        have hd':c'=d:=by simpa using a
        rw [<- hd',(rR (hr c' t' rfl)).1] at b;cases b
 have h32:¬ (D++r).head? = some 32:=by
  intro e;rw [hc] at e;have:c=32:=by simpa using e
  rw [this] at hcd;cases hcd
 rw [gF h32 (by rw [hc];simp) hf,List.drop_left,List.take_left]
def qI (c:UInt8):Prop:=c=40\/c=41\/c=43\/c=45\/c=42\/c=47\/c=37
theorem mK {c:UInt8} (hc:qI c) (r:List UInt8) (p:Nat):cZ (c::r) p=(cZ r (p+1)).after [⟨3,[c],0,p⟩]:=by
 have h1:cH c=false/\aZ c=false/\fJ c=true/\(∀ d,dM c d=false)/\¬ c=32:=by
  rcases hc with rfl | rfl | rfl | rfl | rfl | rfl | rfl <;> refine ⟨by decide,by decide,by decide,fun d=>?_,by decide⟩ <;> (unfold dM;rw [Bool.and_eq_false_iff];right;decide)
 obtain ⟨s1,s2,s3,s4,s5⟩:=h1
 have hs:pC (c::r)=1:=by
  cases r with
  | nil =>
    show (if fJ c=true then 1 else 0)=1;rw [if_pos s3]
  | cons d t =>
    show (if dM c d=true then 2 else if fJ c=true then 1 else 0)=1;rw [if_neg (by rw [s4 d];decide),if_pos s3]
 have hf:cQ (c::r)=.tok 3 1 0:=by
  simp only [cQ];rw [if_neg (by rw [s1];decide),if_neg (by rw [s2];decide)];unfold kH;rw [hs];rfl
 rw [gF (by simpa using s5) (Nat.le_refl _) hf];rfl
def yP (o m:ByteArray) (n:Int) (ts:List (List (Int×List UInt8×Int))):List (Int×List UInt8×Int) :=
 if bD o=true then [(2,Lib.itoa n,n)] else if aV o=true then [(1,m.data.toList,0)]
 else if eL o=true then (3,[45],0)::ts.headD [] else (3,[40],0)::(ts.headD []++(3,o.data.toList,0)::(ts.tail.headD []++[(3,[41],0)]))
def Fc:F->List (List (Int×List UInt8×Int))
 | .nil=>[]
 | .cons o m n ks r=>yP o m n (Fc ks)::Fc r
def a8 (t:TN):List (Int×List UInt8×Int):=yP t.op t.nm t.n (Fc t.ks)
def BG:F->F
 | .nil=>.nil
 | .cons o m n ks r=>.cons o (if aV o=true then m else ⟨#[]⟩) (if bD o=true then n else 0) (BG ks) (BG r)
def iO (t:TN):TN:=⟨t.op,if aV t.op=true then t.nm else ⟨#[]⟩,if bD t.op=true then t.n else 0,BG t.ks⟩
theorem Cz:∀ f:F,(BG f).len=f.len
 | .nil=>rfl
 | .cons o m n ks r=>by rw [BG,F.len,F.len,Cz r]
theorem kI:∀ f:F,eC (BG f) f=true
 | .nil=>rfl
 | .cons o m n ks r => by
   rw [BG,eC,Cz,kI ks,kI r];cases h1:bD o <;> cases h2:aV o <;> simp
theorem AS {o m:ByteArray} {n:Int} {ks:F} (h:iX o m n ks.len=0) :
 (bD o=true/\ks=.nil/\0<=n)\/(bD o=false/\aV o=true/\ks=.nil/\dQ m.data.toList=true) \/
 (bD o=false/\aV o=false/\eL o=true/\∃ a:TN,ks=a.f) \/
 (bD o=false/\aV o=false/\eL o=false/\jR o=true/\∃ a b:TN,ks=.cons a.op a.nm a.n a.ks b.f):=by
 unfold iX at h;split at h
 · cases h
 · rename_i h1
   split at h
   · cases h
   · rename_i h2
     split at h
     · cases h
     · rename_i h3
       have ha:a7 o=(ks.len:Int):=by simpa using h1
       unfold a7 at ha;cases e1:bD o with
       | true =>
         rw [e1,Bool.true_or,if_pos rfl] at ha;rw [e1] at h3;refine .inl ⟨rfl,?_,by simpa using h3⟩;cases ks with
         | nil=>rfl
         | cons _ _ _ _ _=>rw [F.len] at ha;omega
       | false =>
         cases e2:aV o with
         | true =>
           rw [e1,e2,Bool.or_true,if_pos rfl] at ha;rw [e2] at h2;refine .inr (.inl ⟨rfl,rfl,?_,by simpa using h2⟩);cases ks with
           | nil=>rfl
           | cons _ _ _ _ _=>rw [F.len] at ha;omega
         | false =>
           rw [e1,e2,Bool.or_false,if_neg (by decide)] at ha;cases e3:eL o with
           | true =>
             rw [e3,if_pos rfl] at ha;refine .inr (.inr (.inl ⟨rfl,rfl,rfl,?_⟩));cases ks with
             | nil=>rw [F.len] at ha;omega
             | cons o' m' n' k' r' =>
               cases r' with
               | nil=>exact ⟨⟨o',m',n',k'⟩,rfl⟩
               | cons _ _ _ _ _=>rw [F.len,F.len] at ha;omega
           | false =>
             rw [e3,if_neg (by decide)] at ha;cases e4:jR o with
             | true =>
               rw [e4,if_pos rfl] at ha;refine .inr (.inr (.inr ⟨rfl,rfl,rfl,rfl,?_⟩));cases ks with
               | nil=>rw [F.len] at ha;omega
               | cons o' m' n' k' r' =>
                 cases r' with
                 | nil=>rw [F.len,F.len] at ha;omega
                 | cons o2 m2 n2 k2 r2 =>
                   cases r2 with
                   | nil=>exact ⟨⟨o',m',n',k'⟩,⟨o2,m2,n2,k2⟩,rfl⟩
                   | cons _ _ _ _ _=>rw [F.len,F.len,F.len] at ha;omega
             | false =>
               rw [e4,if_neg (by decide)] at ha;omega
theorem oU {o:ByteArray} (h:jR o=true):rF o.data.toList/\∃ c,o.data.toList=[c]/\qI c:=by
 unfold jR at h;simp only [Bool.or_eq_true,beq_iff_eq] at h;rcases h with (((h | h) | h) | h) | h
 · exact ⟨.inl h,43,h,.inr (.inr (.inl rfl))⟩
 · exact ⟨.inr (.inl h),45,h,.inr (.inr (.inr (.inl rfl)))⟩
 · exact ⟨.inr (.inr (.inl h)),42,h,.inr (.inr (.inr (.inr (.inl rfl))))⟩
 · exact ⟨.inr (.inr (.inr (.inl h))),47,h,.inr (.inr (.inr (.inr (.inr (.inl rfl)))))⟩
 · exact ⟨.inr (.inr (.inr (.inr h))),37,h,.inr (.inr (.inr (.inr (.inr (.inr rfl)))))⟩
def cX:F->Prop
 | .nil=>True
 | .cons _ _ n ks r=>n<=9223372036854775807/\cX ks/\cX r
def dV (P:TN->Prop):F->Prop
 | .nil=>True
 | .cons o m n ks r=>P ⟨o,m,n,ks⟩/\dV P r
theorem l9 {P:TN->Prop} (hnum:∀ o m n,bD o=true->0<=n->n<=9223372036854775807->P ⟨o,m,n,.nil⟩)
 (hname:∀ o m n,bD o=false->aV o=true->dQ m.data.toList=true->P ⟨o,m,n,.nil⟩)
 (hneg:∀ o m n (a:TN),bD o=false->aV o=false->eL o=true->P a->P ⟨o,m,n,a.f⟩)
 (htwo:∀ o m n (a b:TN),bD o=false->aV o=false->eL o=false->jR o=true->P a->P b->P ⟨o,m,n,.cons a.op a.nm a.n a.ks b.f⟩) :
 ∀ f:F,aT f=0->cX f->dV P f
 | .nil,_,_=>trivial
 | .cons o m n ks r, h, hn => by
   rw [aT] at h;by_cases h1:iX o m n ks.len=0
   · rw [if_pos h1] at h
     by_cases h2:aT ks=0
     · rw [if_pos h2] at h
       have ik:=l9 hnum hname hneg htwo ks h2 hn.2.1;refine ⟨?_,l9 hnum hname hneg htwo r h hn.2.2⟩;rcases AS h1 with ⟨a,rfl,b⟩ | ⟨a,b,rfl,c⟩ | ⟨a,b,c,k,rfl⟩ | ⟨a,b,c,d,k,l,rfl⟩
       · exact hnum o m n a b hn.1
       · exact hname o m n a b c
       · exact hneg o m n k a b c ik.1
       · exact htwo o m n k l a b c d ik.1 ik.2.1
     · rw [if_neg h2] at h;exact absurd h h2
   · rw [if_neg h1] at h;exact absurd h h1
theorem eZ {P:TN->Prop} (hnum:∀ o m n,bD o=true->0<=n->n<=9223372036854775807->P ⟨o,m,n,.nil⟩)
 (hname:∀ o m n,bD o=false->aV o=true->dQ m.data.toList=true->P ⟨o,m,n,.nil⟩)
 (hneg:∀ o m n (a:TN),bD o=false->aV o=false->eL o=true->P a->P ⟨o,m,n,a.f⟩)
 (htwo:∀ o m n (a b:TN),bD o=false->aV o=false->eL o=false->jR o=true->P a->P b->P ⟨o,m,n,.cons a.op a.nm a.n a.ks b.f⟩)
 (t:TN) (h:OkT t) (hn:cX t.f):P t:=(l9 hnum hname hneg htwo t.f h hn).1
theorem kE {o m:ByteArray} {n:Int} {ks:F} (h:bD o=true):aK ⟨o,m,n,ks⟩=Lib.itoa n/\a8 ⟨o,m,n,ks⟩=[(2,Lib.itoa n,n)]:=by
 unfold aK a8 yM yP;rw [if_pos h,if_pos h];exact ⟨rfl,rfl⟩
theorem i6 {o m:ByteArray} {n:Int} {ks:F} (h:bD o=false) (h2:aV o=true):aK ⟨o,m,n,ks⟩=m.data.toList/\a8 ⟨o,m,n,ks⟩=[(1,m.data.toList,0)]:=by
 unfold aK a8 yM yP;simp only;rw [if_neg (by rw [h];decide),if_pos h2,if_neg (by rw [h];decide),if_pos h2];exact ⟨rfl,rfl⟩
theorem jI {o m:ByteArray} {n:Int} (a:TN) (h:bD o=false) (h2:aV o=false) (h3:eL o=true):aK ⟨o,m,n,a.f⟩=45::aK a/\a8 ⟨o,m,n,a.f⟩=(3,[45],0)::a8 a:=by
 show yM o m n (E6 a.f)=_/\yP o m n (Fc a.f)=_;rw [yM,yP,if_neg (by rw [h];decide),if_neg (by rw [h2];decide),if_pos h3,if_neg (by rw [h];decide),if_neg (by rw [h2];decide),if_pos h3];exact ⟨rfl,rfl⟩
theorem jH {o m:ByteArray} {n:Int} (a b:TN) (h:bD o=false) (h2:aV o=false) (h3:eL o=false) :
 aK ⟨o,m,n,.cons a.op a.nm a.n a.ks b.f⟩=40::(aK a++32::(o.data.toList++32::(aK b++[41]))) /\
 a8 ⟨o,m,n,.cons a.op a.nm a.n a.ks b.f⟩=(3,[40],0)::(a8 a++(3,o.data.toList,0)::(a8 b++[(3,[41],0)])):=by
 show yM o m n (E6 (.cons a.op a.nm a.n a.ks b.f))=_/\yP o m n (Fc (.cons a.op a.nm a.n a.ks b.f))=_;rw [yM,yP,if_neg (by rw [h];decide),if_neg (by rw [h2];decide),if_neg (by rw [h3];decide),if_neg (by rw [h];decide),if_neg (by rw [h2];decide),if_neg (by rw [h3];decide)];exact ⟨rfl,rfl⟩
def IX (t:TN):Prop:=∀ r,jX r->∀ p,∃ ts,ts.map cW=a8 t/\cZ (aK t++r) p=(cZ r (p+(aK t).length)).after ts
theorem FK (t:TN) (h:OkT t) (hn:cX t.f):IX t:=by
 refine eZ (P:=IX) ?_ ?_ ?_ ?_ t h hn
 · intro o m n h1 h2 h3 r hr p
   rw [(kE h1).1,(kE h1).2];exact ⟨[⟨2,Lib.itoa n,n,p⟩],rfl,Cn h2 h3 hr p⟩
 · intro o m n h1 h2 h3 r hr p
   rw [(i6 h1 h2).1,(i6 h1 h2).2];exact ⟨[⟨1,m.data.toList,0,p⟩],rfl,zU h3 hr p⟩
 · intro o m n a h1 h2 h3 ih r hr p
   rw [(jI a h1 h2 h3).1,(jI a h1 h2 h3).2];obtain ⟨ts,e1,e2⟩:=ih r hr (p+1);refine ⟨⟨3,[45],0,p⟩::ts,by rw [List.map_cons,e1];rfl,?_⟩;rw [List.cons_append,mK (.inr (.inr (.inr (.inl rfl)))),e2,fY,List.length_cons,show p+((aK a).length+1)=p+1+(aK a).length by omega];rfl
 · intro o m n a b h1 h2 h3 h4 ia ib r hr p
   rw [(jH a b h1 h2 h3).1,(jH a b h1 h2 h3).2];obtain ⟨_,c,hc,hp⟩:=oU h4;rw [hc];obtain ⟨ta,a1,a2⟩:=ia (32::([c]++32::(aK b++[41])++r)) (AE _) (p+1);obtain ⟨tb,b1,b2⟩:=ib (41::r) (vF r) (p+1+(aK a).length+1+1+1);refine ⟨⟨3,[40],0,p⟩::(ta++⟨3,[c],0,p+1+(aK a).length+1⟩::(tb++[⟨3,[41],0,p+1+(aK a).length+1+1+1+(aK b).length⟩])),?_,?_⟩
   · simp only [List.map_cons,List.map_append,a1,b1]
     rfl
   · have e0:40::(aK a++32::([c]++32::(aK b++[41])))++r=40::(aK a++32::([c]++32::(aK b++[41])++r)):=by simp
     rw [e0,mK (.inl rfl),a2,cN];have e1:[c]++32::(aK b++[41])++r=c::32::(aK b++41::r):=by simp
     rw [e1,mK hp,cN,b2,mK (.inr (.inl rfl))];simp only [fY,List.length_cons,List.length_append,List.length_nil];have e2:p+1+(aK a).length+1+1+1+(aK b).length+1=p+((aK a).length+(0+1+((aK b).length+(0+1)+1)+1)+1):=by omega
     rw [e2];congr 1
theorem iC {L:List Tk} {pre post:List (Int×List UInt8×Int)} {c:Int×List UInt8×Int} (h:L.map cW=pre++c::post):∃ t,L[pre.length]? = some t/\t.kind=c.1/\t.text=c.2.1/\t.num=c.2.2:=by
 have e:(L.map cW)[pre.length]? = some c:=by rw [h];simp
 rw [List.getElem?_map] at e;cases hx:L[pre.length]? with
 | none=>rw [hx] at e;cases e
 | some t =>
   rw [hx] at e;have e':=Option.some.inj e;unfold cW at e';exact ⟨t,rfl,by rw [<- e'],by rw [<- e'],by rw [<- e']⟩
theorem dP {L:List Tk} {pre post:List (Int×List UInt8×Int)} {x y:List UInt8} {v:Int} (h:L.map cW=pre++(3,x,v)::post) {p:Nat} (hp:p=pre.length):isS L y p=(x == y)/\eO L p=x:=by
 obtain ⟨t,h1,h2,h3,_⟩:=iC h;subst hp;unfold isS eO;rw [h1];simp only;rw [h2,h3];exact ⟨by simp,rfl⟩
theorem rW {s:RS} (hb:s.bad=0) (h:s.cnt+1<=32):bB s=⟨s.pos+1,s.cnt+1,0,s.whr⟩:=by
 unfold bB;rw [if_pos hb,if_neg (by omega)]
theorem jD (o:ByteArray):(⟨o.data.toList.toArray⟩:ByteArray)=o:=dO (by simp)
def GQ (t:TN):Prop:=∀ (L:List Tk) (pre post:List (Int×List UInt8×Int)),L.map cW=pre++(a8 t++post)->∀ s:RS,s.pos=pre.length->s.bad=0->s.cnt+aM t<=32 ->
 pE L .fac s=(iO t,⟨s.pos+(a8 t).length,s.cnt+aM t,0,s.whr⟩)
theorem FB {o:ByteArray} (h:bD o=true):o=⟨#[110,117,109]⟩:=by
 unfold bD jV at h;exact dO (by rw [beq_iff_eq.1 h])
theorem HM {o:ByteArray} (h:aV o=true):o=⟨#[110,97,109,101]⟩:=by
 unfold aV fX at h;exact dO (by rw [beq_iff_eq.1 h])
theorem Jk {o:ByteArray} (h:eL o=true):o=⟨#[110,101,103]⟩:=by
 unfold eL gJ at h;exact dO (by rw [beq_iff_eq.1 h])
theorem Ds (t:TN) (h:OkT t) (hn:cX t.f):GQ t:=by
 refine eZ (P:=GQ) ?_ ?_ ?_ ?_ t h hn
 · intro o m n h1 h2 h3 L pre post hL s hp hb hc
   have hs:aM ⟨o,m,n,.nil⟩=1:=rfl;rw [hs] at hc |-
   rw [(kE h1).2] at hL |-
   obtain ⟨tk,k1,k2,k3,k4⟩:=iC (c:=(2,Lib.itoa n,n)) hL;rw [xG,if_pos hb,hp,k1];simp only;rw [if_pos k2,rW hb hc,k4]
   have:iO ⟨o,m,n,.nil⟩=nX n:=by
    unfold iO;simp only;rw [if_pos h1,FB h1];rfl
   rw [this,hp];rfl
 · intro o m n h1 h2 h3 L pre post hL s hp hb hc
   have hs:aM ⟨o,m,n,.nil⟩=1:=rfl;rw [hs] at hc |-
   rw [(i6 h1 h2).2] at hL |-
   obtain ⟨tk,k1,k2,k3,k4⟩:=iC (c:=(1,m.data.toList,0)) hL;have k2:tk.kind=1:=k2;rw [xG,if_pos hb,hp,k1];simp only;rw [if_neg (by rw [k2];decide),if_pos k2,rW hb hc,k3]
   have:iO ⟨o,m,n,.nil⟩=dL m.data.toList:=by
    unfold iO dL;simp only;rw [if_pos h2,if_neg (by rw [h1];decide),jD,HM h2];rfl
   rw [this,hp];rfl
 · intro o m n a h1 h2 h3 ih L pre post hL s hp hb hc
   have hs:aM ⟨o,m,n,a.f⟩=1+aM a:=by unfold aM;rw [show (⟨o,m,n,a.f⟩:TN).ks=a.f from rfl,fN];rfl
   rw [hs] at hc |-
   rw [(jI a h1 h2 h3).2] at hL |-
   obtain ⟨tk,k1,k2,k3,k4⟩:=iC (pre:=pre) (c:=(3,[45],0)) (post:=a8 a++post) (by rw [hL];rfl);rw [xG,if_pos hb,hp,k1];simp only;rw [if_neg (by rw [k2];decide),if_neg (by rw [k2];decide),if_pos k3,rW hb (by omega)];have e:=ih L (pre++[(3,[45],0)]) post (by rw [hL];simp) ⟨s.pos+1,s.cnt+1,0,s.whr⟩ (by rw [List.length_append];show s.pos+1=_;rw [hp];rfl) rfl (by show s.cnt+1+_<=32;omega);rw [e]
   have:iO ⟨o,m,n,a.f⟩=mI (iO a):=by
    unfold iO mI;simp only;rw [if_neg (by rw [h2];decide),if_neg (by rw [h1];decide),Jk h3];rfl
   rw [this];show (_,(⟨s.pos+1+(a8 a).length,s.cnt+1+aM a,0,s.whr⟩:RS))=(_,⟨pre.length+((a8 a).length+1),s.cnt+(1+aM a),0,s.whr⟩);rw [hp,show pre.length+1+(a8 a).length=pre.length+((a8 a).length+1) by omega,show s.cnt+1+aM a=s.cnt+(1+aM a) by omega]
 · intro o m n a b h1 h2 h3 h4 ia ib L pre post hL s hp hb hc
   have hs:aM ⟨o,m,n,.cons a.op a.nm a.n a.ks b.f⟩=1+aM a+aM b:=by unfold aM;simp only;rw [bL,fN];unfold aM;omega
   rw [hs] at hc |-
   rw [(jH a b h1 h2 h3).2] at hL |-
   obtain ⟨tk,k1,k2,k3,k4⟩:=iC (pre:=pre) (c:=(3,[40],0)) (post:=a8 a++(3,o.data.toList,0)::(a8 b++(3,[41],0)::post)) (by rw [hL];simp);rw [xG,if_pos hb,hp,k1];simp only;rw [if_neg (by rw [k2];decide),if_neg (by rw [k2];decide),if_neg (by rw [k3];decide),if_pos k3];have hstep:bZ s=⟨s.pos+1,s.cnt,0,s.whr⟩:=by unfold bZ;rw [hb]
   rw [hstep,Ft,xE];have ea:=ia L (pre++[(3,[40],0)]) ((3,o.data.toList,0)::(a8 b++(3,[41],0)::post)) (by rw [hL];simp) ⟨s.pos+1,s.cnt,0,s.whr⟩ (by rw [List.length_append];show s.pos+1=_;rw [hp];rfl) rfl (by show s.cnt+_<=32;omega);rw [ea];simp only;have hL2:L.map cW=(pre++(3,[40],0)::a8 a)++(3,o.data.toList,0)::(a8 b++(3,[41],0)::post):=by rw [hL];simp
   have hL3:L.map cW=(pre++(3,[40],0)::(a8 a++(3,o.data.toList,0)::a8 b))++(3,[41],0)::post:=by rw [hL];simp
   have p2:s.pos+1+(a8 a).length=(pre++(3,[40],0)::a8 a).length:=by rw [hp];simp;omega
   have p3:s.pos+1+(a8 a).length+1+(a8 b).length=(pre++(3,[40],0)::(a8 a++(3,o.data.toList,0)::a8 b)).length:=by rw [hp];simp;omega
   have eb:=ib L ((pre++(3,[40],0)::a8 a)++[(3,o.data.toList,0)]) ((3,[41],0)::post) (by rw [hL];simp) ⟨s.pos+1+(a8 a).length+1,s.cnt+aM a+1,0,s.whr⟩ (by rw [List.length_append, <- p2];rfl) rfl (by show s.cnt+aM a+1+_<=32;omega);have ht:=rW (s:=⟨s.pos+1+(a8 a).length,s.cnt+aM a,0,s.whr⟩) rfl (by show s.cnt+aM a+1<=32;omega);simp only at ht;have opE:=(dP (y:=[]) hL2 p2).2
   have shutM:isM L (s.pos+1+(a8 a).length+1+(a8 b).length)=false:=by
    unfold isM;rw [(dP (y:=[42]) hL3 p3).1,(dP (y:=[47]) hL3 p3).1,(dP (y:=[37]) hL3 p3).1];rfl
   have shutA:isA L (s.pos+1+(a8 a).length+1+(a8 b).length)=false:=by
    unfold isA;rw [(dP (y:=[43]) hL3 p3).1,(dP (y:=[45]) hL3 p3).1];rfl
   have shutS:isS L [41] (s.pos+1+(a8 a).length+1+(a8 b).length)=true:=by
    rw [(dP (y:=[41]) hL3 p3).1];rfl
   have hM:isM L (s.pos+1+(a8 a).length)=wA o:=by
    unfold isM wA;rw [(dP (y:=[42]) hL2 p2).1,(dP (y:=[47]) hL2 p2).1,(dP (y:=[37]) hL2 p2).1]
   have hA:isA L (s.pos+1+(a8 a).length)=Cs o:=by
    unfold isA Cs;rw [(dP (y:=[43]) hL2 p2).1,(dP (y:=[45]) hL2 p2).1]
   have hcan:iO ⟨o,m,n,.cons a.op a.nm a.n a.ks b.f⟩=fM o.data.toList (iO a) (iO b):=by
    unfold iO fM;simp only;rw [if_neg (by rw [h2];decide),if_neg (by rw [h1];decide),jD];rfl
   have fin:∀ X:TN,eX L ⟨s.pos+1+(a8 a).length+1+(a8 b).length,s.cnt+aM a+1+aM b,0,s.whr⟩=⟨pre.length+((a8 a).length+((a8 b).length+(0+1)+1)+1),s.cnt+(1+aM a+aM b),0,s.whr⟩:=fun _=>by
    unfold eX;simp only;rw [shutS,if_neg (by decide)];unfold bZ;simp only;rw [hp,show pre.length+1+(a8 a).length+1+(a8 b).length+1=pre.length+((a8 a).length+((a8 b).length+(0+1)+1)+1) by omega,show s.cnt+aM a+1+aM b=s.cnt+(1+aM a+aM b) by omega]
   rw [hcan];simp only [List.length_cons,List.length_append,List.length_nil]
   have hor:wA o=true\/(wA o=false/\Cs o=true):=by
    have h4':=h4;unfold jR at h4';cases hx:wA o with
    | true=>exact .inl rfl
    | false =>
      right;unfold wA at hx;unfold Cs;refine ⟨rfl,?_⟩;simp only [Bool.or_eq_false_iff] at hx;simp only [Bool.or_eq_true] at h4' |-
      rcases h4' with (((h | h) | h) | h) | h
      · exact .inl h
      · exact .inr h
      · rw [hx.1.1] at h;cases h
      · rw [hx.1.2] at h;cases h
      · rw [hx.2] at h;cases h
   rcases hor with hm | ⟨hm,hadd⟩
   · rw [mH]
     simp only;rw [if_pos (by rw [hM,hm];rfl),ht,eb];simp only;rw [mH];simp only;rw [if_neg (by rw [shutM];decide),rZ];simp only;rw [if_neg (by rw [shutA];decide),opE,fin aR]
   · rw [mH]
     simp only;rw [if_neg (by rw [hM,hm];decide),rZ];simp only;rw [if_pos (by rw [hA,hadd];rfl),ht,xE,eb];simp only;rw [mH];simp only;rw [if_neg (by rw [shutM];decide),rZ];simp only;rw [if_neg (by rw [shutA];decide),opE,fin aR]
end
section
open Go.RowKit
theorem tQ {n:Int} (h0:0<=n) (h1:n<=9223372036854775807):(Lib.itoa n).length<=19:=by
 rw [pR h0];exact sE 18 _ (by omega)
theorem tR {x:List UInt8} (h:dQ x=true):x.length<=8:=by
 cases x with
 | nil=>simp
 | cons c r =>
   rw [kX] at h;simp only [Bool.and_eq_true,decide_eq_true_eq] at h;have:=h.1.2;simp;omega
theorem sL (t:TN) (h:OkT t) (hn:cX t.f):(aK t).length<=19*aM t:=by
 refine eZ (P:=fun t=>(aK t).length<=19*aM t) ?_ ?_ ?_ ?_ t h hn
 · intro o m n h1 h2 h3
   rw [(kE h1).1];have:=tQ h2 h3;have hs:aM ⟨o,m,n,.nil⟩=1:=rfl;omega
 · intro o m n h1 h2 h3
   rw [(i6 h1 h2).1];have:=tR h3;have hs:aM ⟨o,m,n,.nil⟩=1:=rfl;omega
 · intro o m n a h1 h2 h3 ih
   rw [(jI a h1 h2 h3).1];have hs:aM ⟨o,m,n,a.f⟩=1+aM a:=by unfold aM;rw [show (⟨o,m,n,a.f⟩:TN).ks=a.f from rfl,fN];rfl
   rw [hs,List.length_cons];omega
 · intro o m n a b h1 h2 h3 h4 ia ib
   rw [(jH a b h1 h2 h3).1];obtain ⟨_,c,hc,_⟩:=oU h4;have hs:aM ⟨o,m,n,.cons a.op a.nm a.n a.ks b.f⟩=1+aM a+aM b:=by unfold aM;simp only;rw [bL,fN];unfold aM;omega
   rw [hs,hc];simp only [List.length_cons,List.length_append,List.length_nil];omega
end
section
open Go.RowKit
theorem Dp {L:List Tk} {p o n:Nat} {sg:List (List UInt8×Nat)} {dn:List TN} (hp:p<=L.length):eD L true ⟨p,o,n,sg,dn⟩ =
 if isS L [40] p=true then eD L true ⟨p+1,o+1,n,sg,dn⟩
 else if isS L [45] p=true then (if n=32 then .bad p 4 else eD L true ⟨p+1,o,n+1,(gJ,3+o*3)::sg,dn⟩)
 else if (eA L p).kind=2/\0<=(eA L p).num then (if n=32 then .bad p 4 else eD L false ⟨p+1,o,n+1,sg,nX (eA L p).num::dn⟩)
 else if (eA L p).kind=1/\dQ (eA L p).text=true then (if n=32 then .bad p 4 else eD L false ⟨p+1,o,n+1,sg,dL (eA L p).text::dn⟩)
 else .bad p 2:=by
 have h:=zD (L:=L) (s:=⟨p,o,n,sg,dn⟩) hp;simp only at h;rw [h];unfold eA;cases e:L[p]? with
 | none =>
   have hz:¬ (zTk.kind=2/\0<=zTk.num):=by decide
   have hz1:¬ (zTk.kind=1/\dQ zTk.text=true):=by decide
   simp only [if_neg hz,if_neg hz1]
 | some t=>rfl
def BP (ts:List Tk) (rb:Nat) (a:Option Addr) (c p0:Nat) (r0:rB) (w0:World) (e:Ending) (w':World):Prop :=
 bV rb w0 w'/\∃ (er:Int) (p o n:Nat) (sg:List (List UInt8×Nat)) (dn:List TN) (sv dv:Value) (q:List (Option Addr×Nat)),e=.returned (.int .i64 er)/\RG ts rb a c p o n sg dn sv dv q w' /\
  ((er=0/\r0=eD ts false ⟨p,o,n,sg,dn⟩/\mR sg/\dn.length=iY sg+1/\p0<p/\o<=p)\/(er ≠ 0/\r0=.bad p er))
theorem Bf {ts:List Tk} (hL:∀ t∈ts,cI t) (p:Nat):eA ts p=zTk\/cI (eA ts p)/\p<ts.length:=by
 by_cases h:p<ts.length
 · right;rw [sJ h];exact ⟨hL _ (List.getElem_mem h),h⟩
 · left;exact sK (Nat.le_of_not_lt h)
theorem Bn (ts:List Tk) (hL:∀ t∈ts,cI t) (rb:Nat) (a:Option Addr) (c p0 o0 n0:Nat) (sg0:List (List UInt8×Nat)) (dn:List TN) (sv0 dv:Value) (q:List (Option Addr×Nat)) (w:World) (H:RG ts rb a c p0 o0 n0 sg0 dn sv0 dv q w) (hs:mR sg0) (hd:dn.length=iY sg0) (ho:o0<=p0) :
 Calls Tryz.prog 210 #[.pointer (some ⟨rb,0,none⟩)] w (BP ts rb a c p0 (eD ts true ⟨p0,o0,n0,sg0,dn⟩) w):=by
 obtain ⟨r0,hr0⟩:∃ r,eD ts true ⟨p0,o0,n0,sg0,dn⟩=r:=⟨_,rfl⟩;rw [hr0];have K0:=aA (bV.refl rb w);have HR:=aA H;have HS:=aA hs;have HD:=aA hd;have HE:=aA hr0;have HL:=aA hL;have hn:ts.length<=100000:=H.g.hl;have hp0:=H.g.hp;clear hs hd hr0 H hL;go_enter Tryz.func210,Tryz.ntmps210
 go_wp2_with fail
 go_loopg [] ts.length (fun g wr=>∃ (p o n:Nat) (sg:List (List UInt8×Nat)) (sv:Value),p0<=p/\o<=p/\p<=ts.length/\ts.length-p<=g/\Hid (RG ts rb a c p o n sg dn sv dv q wr)/\Hid (mR sg)/\Hid (dn.length=iY sg)/\Hid (eD ts true ⟨p,o,n,sg,dn⟩=r0)/\Hid (bV rb w wr))
 case atStart=>exact ⟨p0,o0,n0,sg0,sv0,Nat.le_refl _,ho,hp0,Nat.sub_le _ _,HR,HS,HD,HE,K0⟩
 case round =>
  obtain ⟨p,o,n,sg,sv,hp,hop,hpl,hg,hR,hS,hD,hE,hK⟩:=hrel;have CN:=aA (pM ts rb a c p o n sv dv wr hR.out.g);have RF:=aA (hE.out.symm.trans (Dp (o:=o) (n:=n) (sg:=sg) (dn:=dn) hpl));have hgt:=aA (Bf HL.out p);have D:=aA (fun x w=>Cr ts x p w);obtain ⟨tk,htk⟩:∃ t,eA ts p=t:=⟨_,rfl⟩
  have LT:Hid (¬ tk=zTk->p<ts.length):=aA (fun hne=>by
   rcases hgt.out with h1 | h1
   · exact absurd (htk.symm.trans h1) hne
   · exact h1.2)
  rw [htk] at CN RF hgt D;have HTK:=aA htk;clear htk;obtain ⟨X,hX⟩:∃ X:ByteArray,⟨tk.text.toArray⟩=X:=⟨_,rfl⟩;have hag:tkG tk=.agg #[.int .i64 tk.kind,.string X,.int .i64 tk.num,.int .i64 tk.place]:=by rw [<- hX];rfl
  rw [hag] at CN D;have HX:=aA hX;clear hag hX;have hob:o<=100000:=by omega
  go_wp2_with fail
  refine CN.out.mono ?_;rintro e w1 ⟨rfl,hb1⟩;have hrw:=hR.out.lt;have hsz:=hb1.size;have R1:=hR.out.below hb1;have K1:=hK.out.trans (bV.below hb1);have BA:=(Below.refl w1.heap.size w1).alloc (Nat.le_refl _) (.cells #[.int .i64 tk.kind,.string X,.int .i64 tk.num,.int .i64 tk.place] 158);have NA:=heap_alloc_new w1 (.cells #[.int .i64 tk.kind,.string X,.int .i64 tk.num,.int .i64 tk.place] 158);have R2:=R1.below BA;have K2:=K1.trans (bV.below BA);obtain ⟨tb,htb⟩:∃ b,w1.heap.size=b:=⟨_,rfl⟩;go_upto_region 3 with fail
  generalize hW:w1.alloc (.cells #[.int .i64 tk.kind,.string X,.int .i64 tk.num,.int .i64 tk.place] 158)=W at R2 K2 NA;try rw [hW]
  rw [htb] at NA;try rw [htb]
  have HR2:=aA R2;have HK2:=aA K2;have HNA:=aA NA;obtain ⟨⟨x0,x1,x2,x3⟩, -⟩:=aO NA;clear hb1 R1 K1 BA R2 K2 NA hW htb CN;go_wp2_with fail
  refine (D.out ⟨#[40]⟩ W).mono ?_;rintro e w2 ⟨rfl,hb2⟩;have hE40:isS ts (⟨#[40]⟩:ByteArray).data.toList p=isS ts [40] p:=rfl;rw [hE40];have R3:=HR2.out.below hb2;have K3:=HK2.out.trans (bV.below hb2);have N3:=(hb2.block _ (Array.getElem?_eq_some_iff.1 HNA.out).1).trans HNA.out;have HR3:=aA R3;have HK3:=aA K3;have HN3:=aA N3;clear x0 x1 x2 x3 hb2 hE40 R3 K3 N3 HR2 HK2 HNA;by_cases h40:isS ts [40] p=true
  · have hlt:=mL h40
    have E2:=aA (show eD ts true ⟨p+1,o+1,n,sg,dn⟩=r0 by have:=RF.out;rw [if_pos h40] at this;exact this.symm);obtain ⟨⟨c0,c1,c2,c3,c4,c5⟩,f1,f2,f3,f4,f5⟩:=HR3.out.g.r.cells;have H1:=HR3.out.set (p':=p) (o':=o+1) (n':=n) (y:=2) (v:=.int .i64 ((o:Int)+1)) hpl (by omega) HR3.out.g.hn (Nat.le_refl _) rfl;have H2:=aA (H1.set (p':=p+1) (o':=o+1) (n':=n) (y:=1) (v:=.int .i64 ((p:Int)+1)) (by omega) (by omega) HR3.out.g.hn (Nat.le_refl _) rfl);have K4:=aA ((HK3.out.set 2 (.int .i64 ((o:Int)+1))).set 1 (.int .i64 ((p:Int)+1)));rw [h40];clear H1 h40 D RF;go_wp2_with fail
    go_roundg (ts.length-(p+1))
    case measure=>omega
    case rel=>exact ⟨p+1,o+1,n,sg,sv,by omega,by omega,by omega,Nat.le_refl _,H2,hS,hD,E2,K4⟩
  · rw [if_neg h40] at RF
    have h40':isS ts [40] p=false:=by simpa using h40
    rw [h40'];have H40:=aA h40';obtain ⟨⟨x0,x1,x2,x3⟩, -⟩:=aO HN3.out;clear h40 h40';go_wp2_with fail
    refine (D.out ⟨#[45]⟩ w2).mono ?_;rintro e w3 ⟨rfl,hb3⟩;have HR4:=aA (HR3.out.below hb3);have HK4:=aA (HK3.out.trans (bV.below hb3));have HN4:=aA ((hb3.block _ (Array.getElem?_eq_some_iff.1 HN3.out).1).trans HN3.out);clear x0 x1 x2 x3 hb3 HR3 HK3 HN3 D;obtain ⟨⟨x0,x1,x2,x3⟩, -⟩:=aO HN4.out;obtain ⟨⟨c0,c1,c2,c3,c4,c5⟩,f1,f2,f3,f4,f5⟩:=HR4.out.g.r.cells;by_cases h45:isS ts [45] p=true
    · have hlt:=mL h45
      have CW:=yH ts rb a c p o n sg dn sv dv q (gJ,3+o*3) w3 HR4.out hlt;rw [show (((gJ,3+o*3):List UInt8×Nat).2:Int)=3+(o:Int)*3 by simp] at CW;have HCW:=aA CW;rw [if_pos h45] at RF;rw [h45];clear h45 CW;by_cases h32:n=32
      · rw [if_pos h32] at RF
        have G32:=aA h32;clear h32;go_wp2_with fail
        refine HCW.out.mono ?_;rintro e w4 ⟨k4,hA, -⟩;obtain ⟨rfl,r4⟩:=hA G32.out;have P:=aA (show BP ts rb a c p0 r0 w (.returned (.int .i64 4)) w4 from ⟨HK4.out.trans k4,4,p,o,n,sg,dn,sv,dv,q,rfl,r4,.inr ⟨by decide,RF.out⟩⟩);clear c0 c1 c2 c3 c4 c5 f1 f2 f3 f4 f5 x0 x1 x2 x3;go_wp2_with fail
        go_ret;exact P.out
      · rw [if_neg h32] at RF
        have G32:=aA h32;clear h32;go_wp2_with fail
        refine HCW.out.mono ?_;rintro e w4 ⟨k4, -,hB⟩;obtain ⟨rfl,sv',r4⟩:=hB G32.out;have R5:=aA r4;have K5:=aA (HK4.out.trans k4);have S5:=aA (show mR ((gJ,3+o*3)::sg) from fun x hx=>(List.mem_cons.1 hx).elim (fun e=>.inl (by rw [e])) (hS.out x));have D5:=aA (show dn.length=iY ((gJ,3+o*3)::sg) by rw [iY,if_pos rfl];exact hD.out);have E5:=aA RF.out.symm;clear c0 c1 c2 c3 c4 c5 f1 f2 f3 f4 f5 x0 x1 x2 x3 hB;go_wp2_with fail
        go_roundg (ts.length-(p+1))
        case measure=>omega
        case rel=>exact ⟨p+1,o,n+1,_,sv',by omega,by omega,by omega,Nat.le_refl _,R5,S5,D5,E5,K5⟩
    · rw [if_neg h45] at RF
      have h45':isS ts [45] p=false:=by simpa using h45
      rw [h45'];clear h45 h45' H40;by_cases hk2:tk.kind=2
      · obtain ⟨hm,hlt⟩:0<=tk.num/\p<ts.length:=by
         rcases hgt.out with h1 | ⟨h1,h2⟩
         · rw [h1] at hk2;exact absurd hk2 (by decide)
         · rcases h1 with ⟨h3,_⟩ | ⟨_,h3,_⟩ | h3
           · rw [h3] at hk2;exact absurd hk2 (by decide)
           · exact ⟨h3,h2⟩
           · rw [h3] at hk2;exact absurd hk2 (by decide)
        rw [if_pos ⟨hk2,hm⟩] at RF;have CL:=aA (zW ts rb a c p o n sg dn sv dv q (nX tk.num) rfl w3 HR4.out hlt);have b1:(tk.kind == 2)=true:=by rw [hk2];rfl
        have HK:=aA hk2;clear hk2;by_cases h32:n=32
        · rw [if_pos h32] at RF
          have G32:=aA h32;clear h32;go_wp2_with fail
          refine CL.out.mono ?_;rintro e w4 ⟨k4,hA, -⟩;obtain ⟨rfl,r4⟩:=hA G32.out;have P:=aA (show BP ts rb a c p0 r0 w (.returned (.int .i64 4)) w4 from ⟨HK4.out.trans k4,4,p,o,n,sg,dn,sv,dv,q,rfl,r4,.inr ⟨by decide,RF.out⟩⟩);clear c0 c1 c2 c3 c4 c5 f1 f2 f3 f4 f5 x0 x1 x2 x3;go_wp2_with fail
          go_ret;exact P.out
        · rw [if_neg h32] at RF
          have G32:=aA h32;clear h32;go_wp2_with fail
          refine CL.out.mono ?_;rintro e w4 ⟨k4, -,hB⟩;obtain ⟨rfl,dv',q',r4⟩:=hB G32.out;have P:=aA (show BP ts rb a c p0 r0 w (.returned (.int .i64 0)) w4 from ⟨HK4.out.trans k4,0,p+1,o,n+1,sg,_,sv,dv',q',rfl,r4,.inl ⟨rfl,RF.out,hS.out,by rw [List.length_cons,hD.out],by omega,by omega⟩⟩);clear c0 c1 c2 c3 c4 c5 f1 f2 f3 f4 f5 x0 x1 x2 x3 hB;go_wp2_with fail
          go_ret;exact P.out
      · rw [if_neg (fun h=>hk2 h.1)] at RF
        have b1:(tk.kind == 2)=false:=by simpa using hk2
        by_cases hk1:tk.kind=1
        · obtain ⟨hm,hlt⟩:dQ tk.text=true/\p<ts.length:=by
           rcases hgt.out with h1 | ⟨h1,h2⟩
           · rw [h1] at hk1;exact absurd hk1 (by decide)
           · rcases h1 with ⟨_,h3⟩ | ⟨h3,_⟩ | h3
             · exact ⟨h3,h2⟩
             · rw [h3] at hk1;exact absurd hk1 (by decide)
             · rw [h3] at hk1;exact absurd hk1 (by decide)
          rw [if_pos ⟨hk1,hm⟩] at RF;have b2:(tk.kind == 1)=true:=by rw [hk1];rfl
          have CL:=fun w4 (h:RG ts rb a c p o n sg dn sv dv q w4)=>zW ts rb a c p o n sg dn sv dv q (dL tk.text) rfl w4 h hlt
          have CX:(dL tk.text).nm=X:=HX.out;rw [CX] at CL;have HCL:=aA CL;have NM:=aA (fun w=>vA X (by rw [<- HX.out];have:=tR hm;show tk.text.toArray.size<=_;rw [List.size_toArray];omega) w);have NM2:dQ X.data.toList=true:=by rw [<- HX.out];simpa using hm
          rw [NM2] at NM;clear hk1 hk2 CL CX NM2 hm;have PB:=aA (p:=∀ w4,bV rb w3 w4->RG ts rb a c p o n sg dn sv dv q w4->n=32->BP ts rb a c p0 r0 w (.returned (.int .i64 4)) w4) (fun w4 k4 r4 h32=>⟨HK4.out.trans k4,4,p,o,n,sg,dn,sv,dv,q,rfl,r4,.inr ⟨by decide,by rw [RF.out,if_pos h32]⟩⟩);have PG:=aA (p:=∀ w4 dv' q',bV rb w3 w4->¬ n=32->RG ts rb a c (p+1) o (n+1) sg (dL tk.text::dn) sv dv' q' w4->BP ts rb a c p0 r0 w (.returned (.int .i64 0)) w4) (fun w4 dv' q' k4 h32 r4=>⟨HK4.out.trans k4,0,p+1,o,n+1,sg,_,sv,dv',q',rfl,r4,.inl ⟨rfl,by rw [RF.out,if_neg h32],hS.out,by rw [List.length_cons,hD.out],by omega,by omega⟩⟩);go_wp2_with fail
          refine (NM.out _).mono ?_;rintro e w4 ⟨rfl,rfl⟩;go_wp2_with fail
          refine (HCL.out _ HR4.out).mono ?_;rintro e w4 ⟨k4,hA,hB⟩;by_cases h32:n=32
          · obtain ⟨rfl,r4⟩:=hA h32
            have P:=aA (PB.out w4 k4 r4 h32);clear c0 c1 c2 c3 c4 c5 f1 f2 f3 f4 f5 x0 x1 x2 x3 hA hB h32;go_wp2_with fail
            go_ret;exact P.out
          · obtain ⟨rfl,dv',q',r4⟩:=hB h32
            have P:=aA (PG.out w4 dv' q' k4 h32 r4);clear c0 c1 c2 c3 c4 c5 f1 f2 f3 f4 f5 x0 x1 x2 x3 hA hB h32;go_wp2_with fail
            go_ret;exact P.out
        · rw [if_neg (fun h=>hk1 h.1)] at RF
          have b2:(tk.kind == 1)=false:=by simpa using hk1
          have P:=aA (show BP ts rb a c p0 r0 w (.returned (.int .i64 2)) w3 from ⟨HK4.out,2,p,o,n,sg,dn,sv,dv,q,rfl,HR4.out,.inr ⟨by decide,RF.out⟩⟩);clear hk1 hk2;go_wp2_with fail
          go_ret;exact P.out
end
section
open Go.RowKit
def IS (ts:List Tk) (rb:Nat) (a:Option Addr) (c:Nat) (r0:rB) (w0:World) (e:Ending) (w':World):Prop :=
 bV rb w0 w'/\∃ (er:Int) (p o n:Nat) (sg:List (List UInt8×Nat)) (dn:List TN) (sv dv:Value) (q:List (Option Addr×Nat)),e=.returned (.int .i64 er)/\RG ts rb a c p o n sg dn sv dv q w' /\
  ((er=0/\r0=.ok ⟨p,o,n,sg,dn⟩/\mR sg/\dn.length=iY sg+1)\/(er ≠ 0/\r0=.bad p er))
theorem IM (ts:List Tk) (p:Nat) (w:World):Calls Tryz.prog 212 #[tkG (eA ts p)] w fun e w'=>e=.returned (.int .i64 (cR ts p:Nat))/\Below w.heap.size w w':=by
 have h:=Ar (eA ts p).kind ⟨(eA ts p).text.toArray⟩ (eA ts p).num (eA ts p).place w;have e:qB (eA ts p).kind (⟨(eA ts p).text.toArray⟩:ByteArray).data.toList=cR ts p:=Fd ts p;rw [e] at h;exact h
theorem A9 {ts:List Tk} {p:Nat} (h:¬ cR ts p=0):rF (eO ts p)/\p<ts.length/\cR ts p<=2:=by
 unfold cR at h |-
 by_cases hA:isA ts p=true
 · rw [if_pos hA];exact ⟨opA hA,oL hA,by omega⟩
 · rw [if_neg hA] at h |-
   by_cases hM:isM ts p=true
   · rw [if_pos hM];exact ⟨opM hM,oK hM,by omega⟩
   · rw [if_neg hM] at h;exact absurd rfl h
theorem Bl (k m pl:Int) (X:ByteArray) (w:World):(Instr.field 158 (.agg #[.int .i64 k,.string X,.int .i64 m,.int .i64 pl]) 1).run Tryz.prog w=.ok (.string X) w:=by
 simp [Instr.field,go_sem,asAgg]
theorem Fg (ts:List Tk) (hL:∀ t∈ts,cI t) (rb:Nat) (a:Option Addr) (c p0 o0 n0:Nat) (sg0:List (List UInt8×Nat)) (dn0:List TN) (sv0 dv0:Value) (q0:List (Option Addr×Nat)) (w:World) (H:RG ts rb a c p0 o0 n0 sg0 dn0 sv0 dv0 q0 w) (hs:mR sg0) (hd:dn0.length=iY sg0) (ho:o0<=p0) :
 Calls Tryz.prog 186 #[.pointer (some ⟨rb,0,none⟩)] w (IS ts rb a c (eD ts true ⟨p0,o0,n0,sg0,dn0⟩) w):=by
 obtain ⟨r0,hr0⟩:∃ r,eD ts true ⟨p0,o0,n0,sg0,dn0⟩=r:=⟨_,rfl⟩;rw [hr0];have K0:=aA (bV.refl rb w);have HR:=aA H;have HS:=aA hs;have HD:=aA hd;have HE:=aA hr0;have HL:=aA hL;have hn:ts.length<=100000:=H.g.hl;have hp0:=H.g.hp;clear hs hd hr0 H hL;go_enter Tryz.func186,Tryz.ntmps186
 go_wp2_with fail
 go_loopg [] ts.length (fun g wr=>∃ (p o n:Nat) (sg:List (List UInt8×Nat)) (dn:List TN) (sv dv:Value) (q:List (Option Addr×Nat)),o<=p/\p<=ts.length/\ts.length-p<=g/\Hid (RG ts rb a c p o n sg dn sv dv q wr)/\Hid (mR sg)/\Hid (dn.length=iY sg)/\Hid (eD ts true ⟨p,o,n,sg,dn⟩=r0)/\Hid (bV rb w wr))
 case atStart=>exact ⟨p0,o0,n0,sg0,dn0,sv0,dv0,q0,ho,hp0,Nat.sub_le _ _,HR,HS,HD,HE,K0⟩
 case round =>
  obtain ⟨p,o,n,sg,dn,sv,dv,q,hop,hpl,hg,hR,hS,hD,hE,hK⟩:=hrel;have CF:=aA (Bn ts HL.out rb a c p o n sg dn sv dv q wr hR.out hS.out hD.out hop);rw [hE.out] at CF;clear hR hS hD hE;go_wp2_with fail
  refine CF.out.mono ?_;rintro e w1 ⟨k1,er,p1,o1,n1,sg1,dn1,sv1,dv1,q1,rfl,R1,h⟩;rcases h with ⟨rfl,hE1,S1,D1,hp1,ho1⟩ | ⟨hne,hE1⟩
  · have HR1:=aA R1
    have HE1:=aA hE1;have HS1:=aA S1;have HD1:=aA D1;have HK1:=aA (hK.out.trans k1);clear R1 hE1 S1 D1 k1 hK CF;go_wp2_with fail
    refine (Fk ts rb a c p1 o1 n1 sg1 dn1 sv1 dv1 q1 w1 HR1.out).mono ?_;rintro e w2 ⟨rfl,k2,p2,o2,R2,hp2,ho2,hE2,hno⟩;have hpl2:p2<=ts.length:=R2.g.hp;have RF:=kJ (L:=ts) (s:=⟨p2,o2,n1,sg1,dn1⟩) hpl2;simp only at RF;rw [if_neg (fun hh=>by rw [hno hh.1] at hh;exact absurd hh.2 (by decide)),hE2, <- HE1.out] at RF;have HRF:=aA RF;have HR2:=aA R2;have HK2:=aA (HK1.out.trans k2);have CN:=aA (fun w (h:RG ts rb a c p2 o2 n1 sg1 dn1 sv1 dv1 q1 w)=>pM ts rb a c p2 o2 n1 sv1 dv1 w h.g);have CB:=aA (fun w=>IM ts p2 w);obtain ⟨hh,hhh⟩:∃ x,cR ts p2=x:=⟨_,rfl⟩;have hsg:=@A9 ts p2;rw [hhh] at HRF CB hsg;have HSG:=aA hsg;clear R2 k2 RF hE2 hno HE1 HR1 HK1 hsg hhh;go_wp2_with fail
    refine (CN.out w2 HR2.out).mono ?_;rintro e w3 ⟨rfl,b3⟩;have HR3:=aA (HR2.out.below b3);have HK3:=aA (HK2.out.trans (bV.below b3));clear b3 HR2 HK2;go_wp2_with fail
    refine (CB.out w3).mono ?_;rintro e w4 ⟨rfl,b4⟩;have HR4:=aA (HR3.out.below b4);have HK4:=aA (HK3.out.trans (bV.below b4));clear b4 HR3 HK3 CB;by_cases h0:hh=0
    · rw [if_pos h0] at HRF
      have a1:((hh:Int) == 0)=true:=by rw [h0];rfl
      have CE:=aA (IB ts rb a c p2 o2 n1 sv1 dv1 w4 HR4.out.g)
      have P:=aA (p:=∀ x:Int,x=(if 0<o2 then 2 else 0)->IS ts rb a c r0 w (.returned (.int .i64 x)) w4) (fun x hx=>⟨HK4.out,x,p2,o2,n1,sg1,dn1,sv1,dv1,q1,rfl,HR4.out,by
       by_cases h2:0<o2
       · rw [if_pos h2] at hx
         refine .inr ⟨by rw [hx];decide,?_⟩;rw [HRF.out,if_pos h2,hx]
       · rw [if_neg h2] at hx
         refine .inl ⟨hx,?_,HS1.out,HD1.out⟩;rw [HRF.out,if_neg h2]⟩)
      clear h0 CN;go_wp2_with fail
      refine CE.out.mono ?_;rintro e w5 ⟨rfl,rfl⟩;generalize hx:(if 0<o2 then (2:Int) else 0)=x at P |-
      have P2:=aA (P.out x rfl);clear P hx;go_wp2_with fail
      go_ret;exact P2.out
    · rw [if_neg h0] at HRF
      obtain ⟨hso,hlt,h2⟩:=HSG.out h0;have HSO:=aA hso;have a1:((hh:Int) == 0)=false:=by rw [beq_eq_false_iff_ne];omega
      have ho100:o2<=100000:=by omega
      have CJ:=aA (FY ts rb a c p2 o2 n1 (hh+o2*3) sg1 dn1 sv1 dv1 q1 w4 HR4.out HS1.out HD1.out);rw [show ((hh+o2*3:Nat):Int)=(hh:Int)+(o2:Int)*3 by simp] at CJ;have JB:=aA (Aa (h:=hh+o2*3) HS1.out HD1.out);obtain ⟨⟨J1,J2⟩,hJ⟩:∃ r,cP (hh+o2*3) sg1 dn1=r:=⟨_,rfl⟩;rw [hJ] at CJ JB HRF;simp only at JB HRF;obtain ⟨⟨c0,c1,c2,c3,c4,c5⟩,f1,f2,f3,f4,f5⟩:=HR4.out.g.r.cells;clear h0 hJ hso HSG;go_wp2_with fail
      refine CJ.out.mono ?_;rintro e w5 ⟨rfl,k5,sv5,dv5,q5,R5⟩;have HR5:=aA R5;have HK5:=aA (HK4.out.trans k5);have CN2:=aA (pM ts rb a c p2 o2 n1 sv5 dv5 w5 R5.g);obtain ⟨tk,htk⟩:∃ t,eA ts p2=t:=⟨_,rfl⟩;have hop2:=Hc ts p2;rw [htk] at CN2 hop2;obtain ⟨X,hX⟩:∃ X:ByteArray,⟨tk.text.toArray⟩=X:=⟨_,rfl⟩;have hag:tkG tk=.agg #[.int .i64 tk.kind,.string X,.int .i64 tk.num,.int .i64 tk.place]:=by rw [<- hX];rfl
      rw [hag] at CN2;have CW:=fun w (h:RG ts rb a c p2 o2 n1 J1 J2 sv5 dv5 q5 w)=>yH ts rb a c p2 o2 n1 J1 J2 sv5 dv5 q5 (eO ts p2,hh+o2*3) w h hlt
      have e1:(⟨(eO ts p2).toArray⟩:ByteArray)=X:=by rw [<- hop2];exact hX
      have e2:(((eO ts p2,hh+o2*3):List UInt8×Nat).2:Int)=(hh:Int)+(o2:Int)*3:=by simp
      simp only [e1,e2] at CW;have HCW:=aA CW;clear R5 k5 CJ c0 c1 c2 c3 c4 c5 f1 f2 f3 f4 f5 HR4 HK4 htk hX hop2 hag e1 e2 CW CN;go_wp2_with fail
      refine CN2.out.mono ?_;rintro e w6 ⟨rfl,b6⟩;have HR6:=aA (HR5.out.below b6);have HK6:=aA (HK5.out.trans (bV.below b6));clear b6 HR5 HK5 CN2;go_wp2_with fail
      rw [Bl];simp only [Result.andThen];rw [Oper.upon_value];go_wp2_with fail
      refine (HCW.out w6 HR6.out).mono ?_;rintro e w7 ⟨k7,hA,hB⟩;by_cases h32:n1=32
      · obtain ⟨rfl,r7⟩:=hA h32
        have P:=aA (show IS ts rb a c r0 w (.returned (.int .i64 4)) w7 from ⟨HK6.out.trans k7,4,p2,o2,n1,J1,J2,sv5,dv5,q5,rfl,r7,.inr ⟨by decide,by rw [HRF.out,if_pos h32]⟩⟩);clear hA hB h32;go_wp2_with fail
        go_ret;exact P.out
      · obtain ⟨rfl,sv',r7⟩:=hB h32
        have R8:=aA r7;have K8:=aA (HK6.out.trans k7);have S8:=aA (show mR ((eO ts p2,hh+o2*3)::J1) from fun x hx=>(List.mem_cons.1 hx).elim (fun e=>.inr (by rw [e];exact HSO.out)) (JB.out.1 x));have D8:=aA (show J2.length=iY ((eO ts p2,hh+o2*3)::J1) by rw [iY,if_neg (uJ HSO.out).2];exact JB.out.2);have E8:=aA (show eD ts true ⟨p2+1,o2,n1+1,(eO ts p2,hh+o2*3)::J1,J2⟩=r0 by rw [HRF.out,if_neg h32]);clear hA hB h32;go_wp2_with fail
        go_roundg (ts.length-(p2+1))
        case measure=>omega
        case rel=>exact ⟨p2+1,o2,n1+1,_,J2,sv',dv5,q5,by omega,by omega,Nat.le_refl _,R8,S8,D8,E8,K8⟩
  · have b1:((er:Int) != 0)=true:=by simpa using hne
    have P:=aA (show IS ts rb a c r0 w (.returned (.int .i64 er)) w1 from ⟨hK.out.trans k1,er,p1,o1,n1,sg1,dn1,sv1,dv1,q1,rfl,R1,.inr ⟨hne,hE1⟩⟩);clear hne hE1 R1 k1;go_wp2_with fail
    go_ret;exact P.out
end
section
open Go.RowKit
abbrev ndG (o m:ByteArray) (n:Int) (a:Option Addr) (l c:Nat):Obj:=.cells #[.string o,.string m,.int .i64 n,.slice a l c] 25
theorem RGx.mark {ts:List Tk} {rb:Nat} {a:Option Addr} {c p o n:Nat} {sg:List (List UInt8×Nat)} {dn:List TN} {sv dv:Value} {q:List (Option Addr×Nat)} {w:World} (h:RG ts rb a c p o n sg dn sv dv q w) (ob:Obj):RGx w.heap.size ts rb a c p o n sg dn sv dv q (w.alloc ob):=by
 have hb:=(Below.refl w.heap.size w).alloc (Nat.le_refl _) ob;have h2:=h.below hb;exact ⟨h2.g,h2.so,h2.dw,(h.dk.imp (fun b hlt hg=>(⟨hg.1,by omega,hg.2.2⟩:Gk w.heap.size rb sv dv b))).keptS (aE hb (fun _=>False)) (fun _ h=>h.elim),h2.ap,by rw [World.size_alloc];omega,h2.hs,h2.hd⟩
theorem CZ (ts:List Tk) (rb:Nat) (a:Option Addr) (c p o n:Nat) (sg:List (List UInt8×Nat)) (dn:List TN) (sv dv:Value) (q:List (Option Addr×Nat)) (w:World) (H:RG ts rb a c p o n sg dn sv dv q w) (hs:mR sg) (hd:dn.length=iY sg+1) (t:TN) (hj:cP 0 sg dn=([],[t])) :
 Calls Tryz.prog 187 #[.pointer (some ⟨rb,0,none⟩)] w fun e w'=>∃ ad cc,e=.returned (bI t.op t.nm t.n ad t.ks.len cc)/\bV rb w w'/\aI (fun b=>rb<b) w' ad t.ks/\w'.cell? ⟨rb,1,none⟩=some (.int .i64 p):=by
 have hrb:=H.lt;have HX:=H.mark (ndG ⟨#[]⟩ ⟨#[]⟩ 0 none 0 0);have KA:=bV.below (rb:=rb) ((Below.refl w.heap.size w).alloc (Nat.le_refl _) (ndG ⟨#[]⟩ ⟨#[]⟩ 0 none 0 0));have NB:=heap_alloc_new w (ndG ⟨#[]⟩ ⟨#[]⟩ 0 none 0 0);have hs0:(w.alloc (ndG ⟨#[]⟩ ⟨#[]⟩ 0 none 0 0)).heap.size=w.heap.size+1:=World.size_alloc _ _;generalize hW:w.alloc (ndG ⟨#[]⟩ ⟨#[]⟩ 0 none 0 0)=W at HX KA NB hs0;have CJ:=Cq w.heap.size ts rb a c p o n 0 sg dn sv dv q W HX hs hd;rw [hj] at CJ;have HCJ:=aA CJ;have HSV:=aA (fun (e:sv.ownBlock=some w.heap.size)=>(Nat.lt_irrefl _ (H.svNe e).2));have HDV:=aA (fun (e:dv.ownBlock=some w.heap.size)=>(Nat.lt_irrefl _ (H.dvNe e).2));have HW:=aA hW;have HNB:=aA NB;have HKA:=aA KA;clear hW HX CJ hs hd hj H NB KA;go_enter Tryz.func187,Tryz.ntmps187
 go_upto_region 1 with fail
 rw [HW.out];go_wp2_with fail
 refine HCJ.out.mono ?_;rintro e w2 ⟨rfl,⟨k2,sv2,dv2,q2,R2⟩,hf⟩;have N2:=(hf w.heap.size (by omega) (by omega) HSV.out HDV.out).trans HNB.out;obtain ⟨g,vc,hv, -, -,hcs⟩:=dB R2.dw (by simp);subst hv
 obtain ⟨qa,rfl⟩:∃ x,q2=[x]:=by
  have:=sD R2.dk;match q2,this with
  | [x],_=>exact ⟨x,rfl⟩
 have hx0:=hcs 0 _ rfl;have hx1:=hcs 1 _ rfl;have hx2:=hcs 2 _ rfl;have hx3:=hcs 3 _ rfl;have RK:=R2.dk.1;obtain ⟨⟨c0,c1,c2,c3,c4,c5⟩, -⟩:=R2.g.r.cells;obtain ⟨⟨z0,z1,z2,z3⟩,y0,y1,y2,y3⟩:=aO N2;have HN2:=aA N2;have HK2:=aA (HKA.out.trans k2);have HRK:=aA RK;have hgr:=(R2.g.r);have HGR:=aA hgr;have hl1:([t]:List TN).length=1:=rfl;rw [hl1] at c5;clear hcs R2 k2 hf N2 RK hgr HCJ hl1;go_wp2_with fail
 have h4:=bJ HN2.out (.string t.op) (.string t.nm) (.int .i64 t.n) (.slice qa.1 t.ks.len qa.2);obtain ⟨⟨d0,d1,d2,d3⟩, -⟩:=aO h4;have KP:=((((aL.refl (· = w.heap.size) w2).setCell (p:=⟨w.heap.size,0,none⟩) (.inl rfl) (.string t.op)).setCell (p:=⟨w.heap.size,1,none⟩) (.inl rfl) (.string t.nm)).setCell (p:=⟨w.heap.size,2,none⟩) (.inl rfl) (.int .i64 t.n)).setCell (p:=⟨w.heap.size,3,none⟩) (.inl rfl) (.slice qa.1 t.ks.len qa.2);have RF:=(HRK.out.keptS KP (fun k hk hg=>hg.2.1 hk)).imp (H:=fun b=>rb<b) (fun b _ hg=>hg.1);have KF:=HK2.out.trans (KP.mono (T:=fun b=>rb<=b) (fun i hi _=>by omega));have GF:IsG _ rb a ts.length c p o n sv2 (Value.slice (some ⟨g,0,none⟩) [t].length vc):=KP.heap HGR.out (by omega);exact bodyPost_ret (v:=bI t.op t.nm t.n qa.1 t.ks.len qa.2) (by simp [results,Tryz.results187,go_sem,d0,d1,d2,d3]) rfl ⟨qa.1,qa.2,rfl,KF,RF,GF.cells.1.2.1⟩
theorem Fo {ts:List Tk} {rb:Nat} {a:Option Addr} {c p:Nat} {w:World} (h:w.heap[rb]? = some (.cells #[.slice a ts.length c,.int .i64 p,.int .i64 0,.int .i64 0,.slice none 0 0,.slice none 0 0] 245 (0,0))) (ht:At rb w a ts) (hp:p<=ts.length) (hl:ts.length<=100000) :
 RG ts rb a c p 0 0 [] [] (.slice none 0 0) (.slice none 0 0) [] w :=
 ⟨⟨h,ht,hp,hl,by omega,by omega⟩,World.ownsRow_nil _ _ _ _,World.ownsRow_nil _ _ _ _,trivial,(fun _ h=>by cases h),(Array.getElem?_eq_some_iff.1 h).1,Nat.le_refl _,Nat.le_refl _⟩
theorem Hp (ts:List Tk) (hL:∀ t∈ts,cI t) (a:Option Addr) (c p:Nat) (hn:ts.length<=100000) (hp:p<=ts.length) (w:World) (hr:gZ w a ts) :
 Calls Tryz.prog 165 #[.slice a ts.length c,.int .i64 p] w fun e w'=>BM (ofL ts p) w e w'/\∀ q er,ofL ts p=.bad q er->q<=ts.length:=by
 have B1:=(Below.refl w.heap.size w).alloc (Nat.le_refl _) (ndG ⟨#[]⟩ ⟨#[]⟩ 0 none 0 0);have NB:=heap_alloc_new w (ndG ⟨#[]⟩ ⟨#[]⟩ 0 none 0 0);have hs0:(w.alloc (ndG ⟨#[]⟩ ⟨#[]⟩ 0 none 0 0)).heap.size=w.heap.size+1:=World.size_alloc _ _;generalize hW:w.alloc (ndG ⟨#[]⟩ ⟨#[]⟩ 0 none 0 0)=W at B1 NB hs0;have B2:=(Below.refl W.heap.size W).alloc (Nat.le_refl _) (.cells #[.slice a ts.length c,.int .i64 p,.int .i64 0,.int .i64 0,.slice none 0 0,.slice none 0 0] 245);have NV:=heap_alloc_new W (.cells #[.slice a ts.length c,.int .i64 p,.int .i64 0,.int .i64 0,.slice none 0 0,.slice none 0 0] 245);have hs1:(W.alloc (.cells #[.slice a ts.length c,.int .i64 p,.int .i64 0,.int .i64 0,.slice none 0 0,.slice none 0 0] 245)).heap.size=w.heap.size+2:=by rw [World.size_alloc];omega
 generalize hV:W.alloc (.cells #[.slice a ts.length c,.int .i64 p,.int .i64 0,.int .i64 0,.slice none 0 0,.slice none 0 0] 245)=V at B2 NV hs1;rw [hs0] at NV;have R0:=Fo NV ((Cb (hr.kept B1)).kept (aE B2 (fun _=>False)) (fun _ h=>h.elim) |>.imp id (fun ⟨b,off,e,hlt,hc⟩=>⟨b,off,e,by omega,hc⟩)) hp hn;have BV:=aA (B1.trans (B2.mono (by omega)));have NDV:=aA ((B2.block w.heap.size (by omega)).trans NB);have CS:=aA (Fg ts hL (w.heap.size+1) a c p 0 0 [] [] (.slice none 0 0) (.slice none 0 0) [] V R0 (fun _ hx=>by cases hx) rfl (Nat.zero_le _));have RO:=I9 hL hp;obtain ⟨rO,hrO⟩:∃ r,ofL ts p=r:=⟨_,rfl⟩;rw [hrO] at RO |-
 have RO:=aA RO;clear hrO;have HW:=aA hW;have HV:=aA hV;have a1:¬ (p:Int)<0:=by omega
 have a2:(p:Int)<=(ts.length:Int):=by omega
 have a3:min (p:Int) (ts.length:Int)=p:=by omega
 clear hW hV B1 B2 NV NB R0 hr hL;go_enter Tryz.func165,Tryz.ntmps165
 go_upto_region 1 with fail
 rw [HW.out];go_upto_region 4 with fail
 rw [HV.out];clear a1 a2 a3 HW HV;go_wp2_with fail
 refine CS.out.mono ?_;rintro e w1 ⟨k1,er,p1,o1,n1,sg1,dn1,sv1,dv1,q1,rfl,R1,h⟩;have hz1:=k1.size;have N1:=k1.heap NDV.out (by omega);have B1:=BV.out.trans (aL.below k1 (B:=w.heap.size) (fun k hk=>by omega) (by omega));obtain ⟨⟨c0,c1,c2,c3,c4,c5⟩, -⟩:=R1.g.r.cells;obtain ⟨⟨z0,z1,z2,z3⟩,y0,y1,y2,y3⟩:=aO N1;have HN1:=aA N1;have HB1:=aA B1;have HR1:=aA R1;have HO:=RO.out;cases rO with
 | bad qb eb =>
   have h0:=HO.1 qb eb rfl;rw [h0] at h
   obtain ⟨hne,rfl,rfl⟩:er ≠ 0/\qb=p1/\eb=er:=by
    rcases h with ⟨_,h,_⟩ | ⟨hne,h⟩
    · cases h
    · cases h;exact ⟨hne,rfl,rfl⟩
   have b1:((eb:Int) != 0)=true:=by simpa using hne
   clear HO h h0 hne N1 B1 R1 k1 CS RO;go_wp2_with fail
   go_region
   go_wp2_with fail
   have h4:=bJ (W:=w1) HN1.out (.string ⟨#[]⟩) (.string ⟨#[]⟩) (.int .i64 0) (.slice none 0 0);obtain ⟨⟨d0,d1,d2,d3⟩, -⟩:=aO h4;have KP:=jU (b:=w.heap.size) HB1.out (Nat.le_refl _) (by omega) 1 (.string ⟨#[]⟩) (.string ⟨#[]⟩) (.int .i64 0) (.slice none 0 0);exact bodyPost_ret (v:=.tuple #[bI ⟨#[]⟩ ⟨#[]⟩ 0 none 0 0,.int .i64 (qb:Nat),.int .i64 eb]) (by simp [results,Tryz.results165,go_sem,d0,d1,d2,d3]) rfl ⟨⟨KP,rfl⟩,fun q er h=>by cases h;exact HR1.out.g.hp⟩
 | ok t qo =>
   obtain ⟨s,h0,hsp,hql,hj⟩:=HO.2 t qo rfl;rw [h0] at h
   obtain ⟨rfl,rfl,S1,D1⟩:er=0/\s=⟨p1,o1,n1,sg1,dn1⟩/\mR sg1/\dn1.length=iY sg1+1:=by
    rcases h with ⟨he,h,h1,h2⟩ | ⟨hne,h⟩
    · cases h;exact ⟨he,rfl,h1,h2⟩
    · cases h
   simp only at hsp hj;subst hsp;have CW:=aA (CZ ts (w.heap.size+1) a c p1 o1 n1 sg1 dn1 sv1 dv1 q1 w1.drew (HR1.out.below ⟨rfl,rfl,rfl,Nat.le_refl _,fun _ _=>rfl⟩) S1 D1 t hj);have HN1d:=aA (show w1.drew.heap[w.heap.size]? = some (ndG ⟨#[]⟩ ⟨#[]⟩ 0 none 0 0) from HN1.out);have HB1d:=aA (show Below w.heap.size w w1.drew from ⟨HB1.out.os,HB1.out.tape,HB1.out.output,HB1.out.size,HB1.out.block⟩);have hz1d:V.heap.size<=w1.drew.heap.size:=hz1;clear HO h h0 N1 B1 R1 k1 CS RO S1 D1 hj;go_wp2_with fail
   go_region_law (first
    | (go_simp
       go_at_call 187
       refine CW.out.mono ?_;rintro e w2 ⟨ad,cc,rfl,k2,rr,cc1⟩;have N2:=k2.heap HN1d.out (by omega);have hz2:=k2.size;have HB2:=aA (HB1d.out.trans (aL.below k2 (B:=w.heap.size) (fun k hk=>by omega) (by omega)));have HRR:=aA rr;have HN2:=aA N2;clear z0 z1 z2 z3 y0 y1 y2 y3 c0 c1 c2 c3 c4 c5 k2 rr;obtain ⟨⟨z0,z1,z2,z3⟩,y0,y1,y2,y3⟩:=aO N2;clear N2)
    | fail)
   all_goals
    go_wp2_with fail
    have KP:=((((aL.refl (· = w.heap.size) w2).setCell (p:=⟨w.heap.size,0,none⟩) (.inl rfl) (.string t.op)).setCell (p:=⟨w.heap.size,1,none⟩) (.inl rfl) (.string t.nm)).setCell (p:=⟨w.heap.size,2,none⟩) (.inl rfl) (.int .i64 t.n)).setCell (p:=⟨w.heap.size,3,none⟩) (.inl rfl) (.slice ad t.ks.len cc);obtain ⟨⟨d0,d1,d2,d3⟩, -⟩:=aO (bJ (W:=w2) HN2.out (.string t.op) (.string t.nm) (.int .i64 t.n) (.slice ad t.ks.len cc));have BF:=HB2.out.trans (aL.below KP (B:=w.heap.size) (fun k hk=>by omega) (by omega));have RF:=(HRR.out.keptS KP (fun k hk hg=>by omega)).imp (H:=fun b=>w.heap.size<=b) (fun b _ hg=>by omega);exact bodyPost_ret (v:=.tuple #[bI t.op t.nm t.n ad t.ks.len cc,.int .i64 p1,.int .i64 0]) (by simp [results,Tryz.results165,go_sem,Act.put,d0,d1,d2,d3]) (by simp [Act.put]) ⟨⟨BF,ad,cc,rfl,RF⟩,fun _ _ h=>by cases h⟩
end
end
end Go.Proofs.YtapcjnoaofmmiaaGreatDoor
