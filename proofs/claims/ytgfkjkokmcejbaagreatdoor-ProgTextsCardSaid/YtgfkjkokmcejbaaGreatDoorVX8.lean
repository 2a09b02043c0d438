/-
 No statement: what ProgTextsLift needs, of the texts OE9, OE10.
-/
import Derived.Test.YtgfkjkokmcejbaaGreatDoorVX7
set_option maxHeartbeats 40000000
set_option maxRecDepth 100000
open List renaming length_append -> Tb, length_cons -> Te, mem_iff_getElem -> Tn
open Go.World renaming size_alloc -> Tc
open Nat renaming le_refl -> Td
open Go.Value renaming slice -> Tj
open Go.Lib renaming decDigits -> Tl, toList_data -> Tm
namespace Go.Proofs.YtgfkjkokmcejbaaGreatDoor
open Go.RowKit Tryz
def lL (r:Tq):Prop:=∀ c t,r=c::t->a8 c=false
theorem DL:lL []:=fun c t h=>by cases h
theorem FB (r:Tq):lL (32::r):=fun c t h=>by cases h;decide
theorem t7 (r:Tq):lL (41::r):=fun c t h=>by cases h;decide
theorem wJ {c:UInt8} (h:a8 c=false):bH c=false/\aZ c=false:=by
 unfold a8 at h;simpa using h
theorem Ew {x r:Tq} (hx:cD x=true) (hr:lL r) (p:Nat):cR (x++r) p=(cR r (p+x.length)).after [⟨1,x,0,p⟩]:=by
 cases x with
 | nil=>cases hx
 | cons c t =>
   rw [mV] at hx;simp only [Bool.and_eq_true,decide_eq_true_eq,List.all_eq_true] at hx;obtain ⟨⟨f,k⟩,j⟩:=hx
   have b:∀ d∈c::t,a8 d=true:=fun d hd=>by
    rcases List.mem_cons.1 hd with rfl | hd
    · unfold a8;rw [f];rfl
    · exact j d hd
   have a:=Cm (c::t) r b hr
   have h:bV (c::t++r)=.tok 1 (c::t).length 0:=by
    rw [List.cons_append];simp only [bV];rw [if_pos f, <- List.cons_append];unfold jM;rw [a,if_neg (by simp;omega)]
   have g:¬ (c::t++r).head? = some 32:=by
    intro e;have:c=32:=by simpa using e
    rw [this] at f;cases f
   rw [gX g (by simp) h,List.drop_left,List.take_left]
theorem tN {n:Int} (h:0<=n):Lib.itoa n=Tl n.toNat:=by unfold Lib.itoa;rw [if_neg (by omega)]
theorem Hw {n:Int} {r:Tq} (A:0<=n) (B:n<=9223372036854775807) (hr:lL r) (p:Nat):cR (Lib.itoa n++r) p=(cR r (p+(Lib.itoa n).length)).after [⟨2,Lib.itoa n,n,p⟩]:=by
 rw [tN A];obtain ⟨c,t,l,hd⟩:=pP n.toNat;have f:∀ d∈Tl n.toNat,aZ d=true:=fun d hd=>(rC d).2 (sH _ d hd)
 have k:=Cm (Tl n.toNat) r f (fun c t e=>(wJ (hr c t e)).2);have j:=De n.toNat
 have hz:∀ q,Tl n.toNat=48::q->q=[]:=fun q o=>by
  rcases Nat.eq_zero_or_pos n.toNat with h | h
  · rw [h,tS] at o;simpa using o.symm
  · exact absurd o (Fa _ h q)
 obtain ⟨D,z⟩:∃ D,Tl n.toNat=D:=⟨_,rfl⟩;rw [z] at l f k j hz |-
 have g:aZ c=true:=f c (by rw [l];simp)
 have u:bH c=false:=by
  unfold bH;rw [decide_eq_false (by have:=(rC c).1 g;unfold isD at this;omega)];rfl
 have y:bV (D++r)=.tok 2 D.length n:=by
  have e:bV (D++r)=l5 (D++r):=by
   rw [l,List.cons_append];simp only [bV];rw [if_neg (by rw [u];decide),if_pos g]
  rw [e];unfold l5;rw [k,List.take_left,List.drop_left,j,if_neg,if_neg (by omega)]
  · rw [show ((n.toNat:Nat):Int)=n by omega]
  · rintro (⟨a,b⟩ | ⟨d,a,b⟩)
    · rw [l,List.cons_append] at b
      have m:c=48:=by simpa using b
      have:=hz t (by rw [l,m]);rw [l,this] at a;simp at a
    · cases r with
      | nil=>cases a
      | cons c' t' =>
        have s:c'=d:=by simpa using a
        rw [<- s,(wJ (hr c' t' rfl)).1] at b;cases b
 have x:¬ (D++r).head? = some 32:=by
  intro e;rw [l] at e;have:c=32:=by simpa using e
  rw [this] at g;cases g
 rw [gX x (by rw [l];simp) y,List.drop_left,List.take_left]
def uI (c:UInt8):Prop:=c=40\/c=41\/c=43\/c=45\/c=42\/c=47\/c=37
theorem pH {c:UInt8} (h:uI c) (r:Tq) (p:Nat):cR (c::r) p=(cR r (p+1)).after [⟨3,[c],0,p⟩]:=by
 have j:bH c=false/\aZ c=false/\cU c=true/\(∀ d,cT c d=false)/\¬ c=32:=by
  rcases h with rfl | rfl | rfl | rfl | rfl | rfl | rfl <;> refine ⟨by decide,by decide,by decide,fun d=>?_,by decide⟩ <;> (unfold cT;rw [Bool.and_eq_false_iff];right;decide)
 obtain ⟨s1,f,a,s4,b⟩:=j
 have hs:iB (c::r)=1:=by
  cases r with
  | nil =>
    show (if cU c=true then 1 else 0)=1;rw [if_pos a]
  | cons d t =>
    show (if cT c d=true then 2 else if cU c=true then 1 else 0)=1;rw [if_neg (by rw [s4 d];decide),if_pos a]
 have g:bV (c::r)=.tok 3 1 0:=by
  simp only [bV];rw [if_neg (by rw [s1];decide),if_neg (by rw [f];decide)];unfold iF;rw [hs];rfl
 rw [gX (by simpa using b) (Td _) g];rfl
def DB (o m:Tr) (n:Int) (ts:List (List (Int×Tq×Int))):List (Int×Tq×Int) :=
 if bZ o=true then [(2,Lib.itoa n,n)] else if bT o=true then [(1,m.data.toList,0)]
 else if fM o=true then (3,[45],0)::ts.headD [] else (3,[40],0)::(ts.headD []++(3,o.data.toList,0)::(ts.tail.headD []++[(3,[41],0)]))
def KY:F->List (List (Int×Tq×Int))
 | .nil=>[]
 | .cons o m n ks r=>DB o m n (KY ks)::KY r
def bM (t:TN):List (Int×Tq×Int):=DB t.op t.nm t.n (KY t.ks)
def GY:F->F
 | .nil=>.nil
 | .cons o m n ks r=>.cons o (if bT o=true then m else ⟨#[]⟩) (if bZ o=true then n else 0) (GY ks) (GY r)
def jR (t:TN):TN:=⟨t.op,if bT t.op=true then t.nm else ⟨#[]⟩,if bZ t.op=true then t.n else 0,GY t.ks⟩
theorem In:∀ f:F,(GY f).len=f.len
 | .nil=>rfl
 | .cons o m n ks r=>by rw [GY,F.len,F.len,In r]
theorem mH:∀ f:F,fJ (GY f) f=true
 | .nil=>rfl
 | .cons o m n ks r => by
   rw [GY,fJ,In,mH ks,mH r];cases b:bZ o <;> cases a:bT o <;> simp
theorem F9 {o m:Tr} {n:Int} {ks:F} (h:mZ o m n ks.len=0) :
 (bZ o=true/\ks=.nil/\0<=n)\/(bZ o=false/\bT o=true/\ks=.nil/\cD m.data.toList=true) \/
 (bZ o=false/\bT o=false/\fM o=true/\∃ a:TN,ks=a.f) \/
 (bZ o=false/\bT o=false/\fM o=false/\lF o=true/\∃ a b:TN,ks=.cons a.op a.nm a.n a.ks b.f):=by
 unfold mZ at h;split at h
 · cases h
 · rename_i p
   split at h
   · cases h
   · rename_i j
     split at h
     · cases h
     · rename_i g
       have ha:cV o=(ks.len:Int):=by simpa using p
       unfold cV at ha;cases c:bZ o with
       | true =>
         rw [c,Bool.true_or,if_pos rfl] at ha;rw [c] at g;refine .inl ⟨rfl,?_,by simpa using g⟩;cases ks with
         | nil=>rfl
         | cons _ _ _ _ _=>rw [F.len] at ha;omega
       | false =>
         cases d:bT o with
         | true =>
           rw [c,d,Bool.or_true,if_pos rfl] at ha;rw [d] at j;refine .inr (.inl ⟨rfl,rfl,?_,by simpa using j⟩);cases ks with
           | nil=>rfl
           | cons _ _ _ _ _=>rw [F.len] at ha;omega
         | false =>
           rw [c,d,Bool.or_false,if_neg (by decide)] at ha;cases l:fM o with
           | true =>
             rw [l,if_pos rfl] at ha;refine .inr (.inr (.inl ⟨rfl,rfl,rfl,?_⟩));cases ks with
             | nil=>rw [F.len] at ha;omega
             | cons o' m' n' k' r' =>
               cases r' with
               | nil=>exact ⟨⟨o',m',n',k'⟩,rfl⟩
               | cons _ _ _ _ _=>rw [F.len,F.len] at ha;omega
           | false =>
             rw [l,if_neg (by decide)] at ha;cases k:lF o with
             | true =>
               rw [k,if_pos rfl] at ha;refine .inr (.inr (.inr ⟨rfl,rfl,rfl,rfl,?_⟩));cases ks with
               | nil=>rw [F.len] at ha;omega
               | cons o' m' n' k' r' =>
                 cases r' with
                 | nil=>rw [F.len,F.len] at ha;omega
                 | cons o2 m2 n2 k2 r2 =>
                   cases r2 with
                   | nil=>exact ⟨⟨o',m',n',k'⟩,⟨o2,m2,n2,k2⟩,rfl⟩
                   | cons _ _ _ _ _=>rw [F.len,F.len,F.len] at ha;omega
             | false =>
               rw [k,if_neg (by decide)] at ha;omega
theorem sQ {o:Tr} (h:lF o=true):vL o.data.toList/\∃ c,o.data.toList=[c]/\uI c:=by
 unfold lF at h;simp only [Bool.or_eq_true,beq_iff_eq] at h;rcases h with (((h | h) | h) | h) | h
 · exact ⟨.inl h,43,h,.inr (.inr (.inl rfl))⟩
 · exact ⟨.inr (.inl h),45,h,.inr (.inr (.inr (.inl rfl)))⟩
 · exact ⟨.inr (.inr (.inl h)),42,h,.inr (.inr (.inr (.inr (.inl rfl))))⟩
 · exact ⟨.inr (.inr (.inr (.inl h))),47,h,.inr (.inr (.inr (.inr (.inr (.inl rfl)))))⟩
 · exact ⟨.inr (.inr (.inr (.inr h))),37,h,.inr (.inr (.inr (.inr (.inr (.inr rfl)))))⟩
def dU:F->Prop
 | .nil=>True
 | .cons _ _ n ks r=>n<=9223372036854775807/\dU ks/\dU r
def fU (P:TN->Prop):F->Prop
 | .nil=>True
 | .cons o m n ks r=>P ⟨o,m,n,ks⟩/\fU P r
theorem oV {P:TN->Prop} (p:∀ o m n,bZ o=true->0<=n->n<=9223372036854775807->P ⟨o,m,n,.nil⟩)
 (g:∀ o m n,bZ o=false->bT o=true->cD m.data.toList=true->P ⟨o,m,n,.nil⟩)
 (q:∀ o m n (a:TN),bZ o=false->bT o=false->fM o=true->P a->P ⟨o,m,n,a.f⟩)
 (j:∀ o m n (a b:TN),bZ o=false->bT o=false->fM o=false->lF o=true->P a->P b->P ⟨o,m,n,.cons a.op a.nm a.n a.ks b.f⟩) :
 ∀ f:F,bK f=0->dU f->fU P f
 | .nil,_,_=>trivial
 | .cons o m n ks r, h, hn => by
   rw [bK] at h;by_cases t:mZ o m n ks.len=0
   · rw [if_pos t] at h
     by_cases s:bK ks=0
     · rw [if_pos s] at h
       have u:=oV p g q j ks s hn.2.1;refine ⟨?_,oV p g q j r h hn.2.2⟩;rcases F9 t with ⟨a,rfl,b⟩ | ⟨a,b,rfl,c⟩ | ⟨a,b,c,k,rfl⟩ | ⟨a,b,c,d,k,l,rfl⟩
       · exact p o m n a b hn.1
       · exact g o m n a b c
       · exact q o m n k a b c u.1
       · exact j o m n k l a b c d u.1 u.2.1
     · rw [if_neg s] at h;exact absurd h s
   · rw [if_neg t] at h;exact absurd h t
theorem gF {P:TN->Prop} (g:∀ o m n,bZ o=true->0<=n->n<=9223372036854775807->P ⟨o,m,n,.nil⟩)
 (c:∀ o m n,bZ o=false->bT o=true->cD m.data.toList=true->P ⟨o,m,n,.nil⟩)
 (j:∀ o m n (a:TN),bZ o=false->bT o=false->fM o=true->P a->P ⟨o,m,n,a.f⟩)
 (d:∀ o m n (a b:TN),bZ o=false->bT o=false->fM o=false->lF o=true->P a->P b->P ⟨o,m,n,.cons a.op a.nm a.n a.ks b.f⟩)
 (t:TN) (h:OkT t) (hn:dU t.f):P t:=(oV g c j d t.f h hn).1
theorem mB {o m:Tr} {n:Int} {ks:F} (h:bZ o=true):aV ⟨o,m,n,ks⟩=Lib.itoa n/\bM ⟨o,m,n,ks⟩=[(2,Lib.itoa n,n)]:=by
 unfold aV bM Dx DB;rw [if_pos h,if_pos h];exact ⟨rfl,rfl⟩
theorem kK {o m:Tr} {n:Int} {ks:F} (h:bZ o=false) (a:bT o=true):aV ⟨o,m,n,ks⟩=m.data.toList/\bM ⟨o,m,n,ks⟩=[(1,m.data.toList,0)]:=by
 unfold aV bM Dx DB;simp only;rw [if_neg (by rw [h];decide),if_pos a,if_neg (by rw [h];decide),if_pos a];exact ⟨rfl,rfl⟩
theorem kW {o m:Tr} {n:Int} (a:TN) (h:bZ o=false) (c:bT o=false) (b:fM o=true):aV ⟨o,m,n,a.f⟩=45::aV a/\bM ⟨o,m,n,a.f⟩=(3,[45],0)::bM a:=by
 show Dx o m n (KJ a.f)=_/\DB o m n (KY a.f)=_;rw [Dx,DB,if_neg (by rw [h];decide),if_neg (by rw [c];decide),if_pos b,if_neg (by rw [h];decide),if_neg (by rw [c];decide),if_pos b];exact ⟨rfl,rfl⟩
theorem kV {o m:Tr} {n:Int} (a b:TN) (h:bZ o=false) (d:bT o=false) (c:fM o=false) :
 aV ⟨o,m,n,.cons a.op a.nm a.n a.ks b.f⟩=40::(aV a++32::(o.data.toList++32::(aV b++[41]))) /\
 bM ⟨o,m,n,.cons a.op a.nm a.n a.ks b.f⟩=(3,[40],0)::(bM a++(3,o.data.toList,0)::(bM b++[(3,[41],0)])):=by
 show Dx o m n (KJ (.cons a.op a.nm a.n a.ks b.f))=_/\DB o m n (KY (.cons a.op a.nm a.n a.ks b.f))=_;rw [Dx,DB,if_neg (by rw [h];decide),if_neg (by rw [d];decide),if_neg (by rw [c];decide),if_neg (by rw [h];decide),if_neg (by rw [d];decide),if_neg (by rw [c];decide)];exact ⟨rfl,rfl⟩
def QB (t:TN):Prop:=∀ r,lL r->∀ p,∃ ts,ts.map dM=bM t/\cR (aV t++r) p=(cR r (p+(aV t).length)).after ts
theorem Mm (t:TN) (h:OkT t) (hn:dU t.f):QB t:=by
 refine gF (P:=QB) ?_ ?_ ?_ ?_ t h hn
 · intro o m n d g j r hr p
   rw [(mB d).1,(mB d).2];exact ⟨[⟨2,Lib.itoa n,n,p⟩],rfl,Hw g j hr p⟩
 · intro o m n d g j r hr p
   rw [(kK d g).1,(kK d g).2];exact ⟨[⟨1,m.data.toList,0,p⟩],rfl,Ew j hr p⟩
 · intro o m n a d g j q r hr p
   rw [(kW a d g j).1,(kW a d g j).2];obtain ⟨ts,l,k⟩:=q r hr (p+1);refine ⟨⟨3,[45],0,p⟩::ts,by rw [List.map_cons,l];rfl,?_⟩;rw [List.cons_append,pH (.inr (.inr (.inr (.inl rfl)))),k,gD,Te,show p+((aV a).length+1)=p+1+(aV a).length by omega];rfl
 · intro o m n a b d g j y u s r hr p
   rw [(kV a b d g j).1,(kV a b d g j).2];obtain ⟨_,c,x,hp⟩:=sQ y;rw [x];obtain ⟨ta,a1,a2⟩:=u (32::([c]++32::(aV b++[41])++r)) (FB _) (p+1);obtain ⟨tb,B,A⟩:=s (41::r) (t7 r) (p+1+(aV a).length+1+1+1);refine ⟨⟨3,[40],0,p⟩::(ta++⟨3,[c],0,p+1+(aV a).length+1⟩::(tb++[⟨3,[41],0,p+1+(aV a).length+1+1+1+(aV b).length⟩])),?_,?_⟩
   · simp only [List.map_cons,List.map_append,a1,B]
     rfl
   · have z:40::(aV a++32::([c]++32::(aV b++[41])))++r=40::(aV a++32::([c]++32::(aV b++[41])++r)):=by simp
     rw [z,pH (.inl rfl),a2,e8];have l:[c]++32::(aV b++[41])++r=c::32::(aV b++41::r):=by simp
     rw [l,pH hp,e8,A,pH (.inr (.inl rfl))];simp only [gD,Te,Tb,List.length_nil];have k:p+1+(aV a).length+1+1+1+(aV b).length+1=p+((aV a).length+(0+1+((aV b).length+(0+1)+1)+1)+1):=by omega
     rw [k];congr 1
theorem jI {L:List Tk} {pre post:List (Int×Tq×Int)} {c:Int×Tq×Int} (h:L.map dM=pre++c::post):∃ t,L[pre.length]? = some t/\t.kind=c.1/\t.text=c.2.1/\t.num=c.2.2:=by
 have e:(L.map dM)[pre.length]? = some c:=by rw [h];simp
 rw [List.getElem?_map] at e;cases hx:L[pre.length]? with
 | none=>rw [hx] at e;cases e
 | some t =>
   rw [hx] at e;have a:=Option.some.inj e;unfold dM at a;exact ⟨t,rfl,by rw [<- a],by rw [<- a],by rw [<- a]⟩
theorem eO {L:List Tk} {pre post:List (Int×Tq×Int)} {x y:Tq} {v:Int} (h:L.map dM=pre++(3,x,v)::post) {p:Nat} (hp:p=pre.length):isS L y p=(x == y)/\eA L p=x:=by
 obtain ⟨t,c,b,a,_⟩:=jI h;subst hp;unfold isS eA;rw [c];simp only;rw [b,a];exact ⟨by simp,rfl⟩
theorem wS {s:RS} (a:s.bad=0) (h:s.cnt+1<=32):aJ s=⟨s.pos+1,s.cnt+1,0,s.whr⟩:=by
 unfold aJ;rw [if_pos a,if_neg (by omega)]
theorem kS (o:Tr):(⟨o.data.toList.toArray⟩:Tr)=o:=dO (by simp)
def NL (t:TN):Prop:=∀ (L:List Tk) (pre post:List (Int×Tq×Int)),L.map dM=pre++(bM t++post)->∀ s:RS,s.pos=pre.length->s.bad=0->s.cnt+aR t<=32 ->
 pE L .fac s=(jR t,⟨s.pos+(bM t).length,s.cnt+aR t,0,s.whr⟩)
theorem Rh {o:Tr} (h:bZ o=true):o=⟨#[110,117,109]⟩:=by
 unfold bZ l6 at h;exact dO (by rw [beq_iff_eq.1 h])
theorem Ph {o:Tr} (h:bT o=true):o=⟨#[110,97,109,101]⟩:=by
 unfold bT iR at h;exact dO (by rw [beq_iff_eq.1 h])
theorem Ri {o:Tr} (h:fM o=true):o=⟨#[110,101,103]⟩:=by
 unfold fM iQ at h;exact dO (by rw [beq_iff_eq.1 h])
theorem IY (t:TN) (h:OkT t) (hn:dU t.f):NL t:=by
 refine gF (P:=NL) ?_ ?_ ?_ ?_ t h hn
 · intro o m n l u H L pre post d s hp r x
   have hs:aR ⟨o,m,n,.nil⟩=1:=rfl;rw [hs] at x |-
   rw [(mB l).2] at d |-
   obtain ⟨tk,C,k,B,R⟩:=jI (c:=(2,Lib.itoa n,n)) d;rw [iZ,if_pos r,hp,C];simp only;rw [if_pos k,wS r x,R]
   have:jR ⟨o,m,n,.nil⟩=tH n:=by
    unfold jR;simp only;rw [if_pos l,Rh l];rfl
   rw [this,hp];rfl
 · intro o m n l u H L pre post d s hp r x
   have hs:aR ⟨o,m,n,.nil⟩=1:=rfl;rw [hs] at x |-
   rw [(kK l u).2] at d |-
   obtain ⟨tk,C,k,B,R⟩:=jI (c:=(1,m.data.toList,0)) d;have k:tk.kind=1:=k;rw [iZ,if_pos r,hp,C];simp only;rw [if_neg (by rw [k];decide),if_pos k,wS r x,B]
   have:jR ⟨o,m,n,.nil⟩=fE m.data.toList:=by
    unfold jR fE;simp only;rw [if_pos u,if_neg (by rw [l];decide),kS,Ph u];rfl
   rw [this,hp];rfl
 · intro o m n a l u H Z L pre post d s hp r x
   have hs:aR ⟨o,m,n,a.f⟩=1+aR a:=by unfold aR;rw [show (⟨o,m,n,a.f⟩:TN).ks=a.f from rfl,iW];rfl
   rw [hs] at x |-
   rw [(kW a l u H).2] at d |-
   obtain ⟨tk,C,k,B,R⟩:=jI (pre:=pre) (c:=(3,[45],0)) (post:=bM a++post) (by rw [d];rfl);rw [iZ,if_pos r,hp,C];simp only;rw [if_neg (by rw [k];decide),if_neg (by rw [k];decide),if_pos B,wS r (by omega)];have e:=Z L (pre++[(3,[45],0)]) post (by rw [d];simp) ⟨s.pos+1,s.cnt+1,0,s.whr⟩ (by rw [Tb];show s.pos+1=_;rw [hp];rfl) rfl (by show s.cnt+1+_<=32;omega);rw [e]
   have:jR ⟨o,m,n,a.f⟩=pG (jR a):=by
    unfold jR pG;simp only;rw [if_neg (by rw [u];decide),if_neg (by rw [l];decide),Ri H];rfl
   rw [this];show (_,(⟨s.pos+1+(bM a).length,s.cnt+1+aR a,0,s.whr⟩:RS))=(_,⟨pre.length+((bM a).length+1),s.cnt+(1+aR a),0,s.whr⟩);rw [hp,show pre.length+1+(bM a).length=pre.length+((bM a).length+1) by omega,show s.cnt+1+aR a=s.cnt+(1+aR a) by omega]
 · intro o m n a b l u H h4 ia ib L pre post d s hp r x
   have hs:aR ⟨o,m,n,.cons a.op a.nm a.n a.ks b.f⟩=1+aR a+aR b:=by unfold aR;simp only;rw [dC,iW];unfold aR;omega
   rw [hs] at x |-
   rw [(kV a b l u H).2] at d |-
   obtain ⟨tk,C,k,B,R⟩:=jI (pre:=pre) (c:=(3,[40],0)) (post:=bM a++(3,o.data.toList,0)::(bM b++(3,[41],0)::post)) (by rw [d];simp);rw [iZ,if_pos r,hp,C];simp only;rw [if_neg (by rw [k];decide),if_neg (by rw [k];decide),if_neg (by rw [B];decide),if_pos B];have D:aM s=⟨s.pos+1,s.cnt,0,s.whr⟩:=by unfold aM;rw [r]
   rw [D,FX,wT];have ea:=ia L (pre++[(3,[40],0)]) ((3,o.data.toList,0)::(bM b++(3,[41],0)::post)) (by rw [d];simp) ⟨s.pos+1,s.cnt,0,s.whr⟩ (by rw [Tb];show s.pos+1=_;rw [hp];rfl) rfl (by show s.cnt+_<=32;omega);rw [ea];simp only;have j:L.map dM=(pre++(3,[40],0)::bM a)++(3,o.data.toList,0)::(bM b++(3,[41],0)::post):=by rw [d];simp
   have g:L.map dM=(pre++(3,[40],0)::(bM a++(3,o.data.toList,0)::bM b))++(3,[41],0)::post:=by rw [d];simp
   have A:s.pos+1+(bM a).length=(pre++(3,[40],0)::bM a).length:=by rw [hp];simp;omega
   have G:s.pos+1+(bM a).length+1+(bM b).length=(pre++(3,[40],0)::(bM a++(3,o.data.toList,0)::bM b)).length:=by rw [hp];simp;omega
   have Y:=ib L ((pre++(3,[40],0)::bM a)++[(3,o.data.toList,0)]) ((3,[41],0)::post) (by rw [d];simp) ⟨s.pos+1+(bM a).length+1,s.cnt+aR a+1,0,s.whr⟩ (by rw [Tb, <- A];rfl) rfl (by show s.cnt+aR a+1+_<=32;omega);have S:=wS (s:=⟨s.pos+1+(bM a).length,s.cnt+aR a,0,s.whr⟩) rfl (by show s.cnt+aR a+1<=32;omega);simp only at S;have I:=(eO (y:=[]) j A).2
   have p:isM L (s.pos+1+(bM a).length+1+(bM b).length)=false:=by
    unfold isM;rw [(eO (y:=[42]) g G).1,(eO (y:=[47]) g G).1,(eO (y:=[37]) g G).1];rfl
   have q:isA L (s.pos+1+(bM a).length+1+(bM b).length)=false:=by
    unfold isA;rw [(eO (y:=[43]) g G).1,(eO (y:=[45]) g G).1];rfl
   have z:isS L [41] (s.pos+1+(bM a).length+1+(bM b).length)=true:=by
    rw [(eO (y:=[41]) g G).1];rfl
   have V:isM L (s.pos+1+(bM a).length)=Bs o:=by
    unfold isM Bs;rw [(eO (y:=[42]) j A).1,(eO (y:=[47]) j A).1,(eO (y:=[37]) j A).1]
   have hA:isA L (s.pos+1+(bM a).length)=H7 o:=by
    unfold isA H7;rw [(eO (y:=[43]) j A).1,(eO (y:=[45]) j A).1]
   have M:jR ⟨o,m,n,.cons a.op a.nm a.n a.ks b.f⟩=fG o.data.toList (jR a) (jR b):=by
    unfold jR fG;simp only;rw [if_neg (by rw [u];decide),if_neg (by rw [l];decide),kS];rfl
   have O:∀ X:TN,dS L ⟨s.pos+1+(bM a).length+1+(bM b).length,s.cnt+aR a+1+aR b,0,s.whr⟩=⟨pre.length+((bM a).length+((bM b).length+(0+1)+1)+1),s.cnt+(1+aR a+aR b),0,s.whr⟩:=fun _=>by
    unfold dS;simp only;rw [z,if_neg (by decide)];unfold aM;simp only;rw [hp,show pre.length+1+(bM a).length+1+(bM b).length+1=pre.length+((bM a).length+((bM b).length+(0+1)+1)+1) by omega,show s.cnt+aR a+1+aR b=s.cnt+(1+aR a+aR b) by omega]
   rw [M];simp only [Te,Tb,List.length_nil]
   have T:Bs o=true\/(Bs o=false/\H7 o=true):=by
    have E:=h4;unfold lF at E;cases hx:Bs o with
    | true=>exact .inl rfl
    | false =>
      right;unfold Bs at hx;unfold H7;refine ⟨rfl,?_⟩;simp only [Bool.or_eq_false_iff] at hx;simp only [Bool.or_eq_true] at E |-
      rcases E with (((h | h) | h) | h) | h
      · exact .inl h
      · exact .inr h
      · rw [hx.1.1] at h;cases h
      · rw [hx.1.2] at h;cases h
      · rw [hx.2] at h;cases h
   rcases T with U | ⟨U,N⟩
   · rw [gR]
     simp only;rw [if_pos (by rw [V,U];rfl),S,Y];simp only;rw [gR];simp only;rw [if_neg (by rw [p];decide),lO];simp only;rw [if_neg (by rw [q];decide),I,O aD]
   · rw [gR]
     simp only;rw [if_neg (by rw [V,U];decide),lO];simp only;rw [if_pos (by rw [hA,N];rfl),S,wT,Y];simp only;rw [gR];simp only;rw [if_neg (by rw [p];decide),lO];simp only;rw [if_neg (by rw [q];decide),I,O aD]
theorem zA {n:Int} (a:0<=n) (b:n<=9223372036854775807):(Lib.itoa n).length<=19:=by
 rw [tN a];exact rD 18 _ (by omega)
theorem zE {x:Tq} (h:cD x=true):x.length<=8:=by
 cases x with
 | nil=>simp
 | cons c r =>
   rw [mV] at h;simp only [Bool.and_eq_true,decide_eq_true_eq] at h;have:=h.1.2;simp;omega
theorem DE (t:TN) (h:OkT t) (hn:dU t.f):(aV t).length<=19*aR t:=by
 refine gF (P:=fun t=>(aV t).length<=19*aR t) ?_ ?_ ?_ ?_ t h hn
 · intro o m n j g d
   rw [(mB j).1];have:=zA g d;have hs:aR ⟨o,m,n,.nil⟩=1:=rfl;omega
 · intro o m n j g d
   rw [(kK j g).1];have:=zE d;have hs:aR ⟨o,m,n,.nil⟩=1:=rfl;omega
 · intro o m n a j g d p
   rw [(kW a j g d).1];have hs:aR ⟨o,m,n,a.f⟩=1+aR a:=by unfold aR;rw [show (⟨o,m,n,a.f⟩:TN).ks=a.f from rfl,iW];rfl
   rw [hs,Te];omega
 · intro o m n a b j g d l r q
   rw [(kV a b j g d).1];obtain ⟨_,c,k,_⟩:=sQ l;have hs:aR ⟨o,m,n,.cons a.op a.nm a.n a.ks b.f⟩=1+aR a+aR b:=by unfold aR;simp only;rw [dC,iW];unfold aR;omega
   rw [hs,k];simp only [Te,Tb,List.length_nil];omega
theorem IT {L:List Tk} {p o n:Nat} {sg:List (Tq×Nat)} {dn:List TN} (hp:p<=L.length):fH L true ⟨p,o,n,sg,dn⟩ =
 if isS L [40] p=true then fH L true ⟨p+1,o+1,n,sg,dn⟩
 else if isS L [45] p=true then (if n=32 then .bad p 4 else fH L true ⟨p+1,o,n+1,(iQ,3+o*3)::sg,dn⟩)
 else if (fB L p).kind=2/\0<=(fB L p).num then (if n=32 then .bad p 4 else fH L false ⟨p+1,o,n+1,sg,tH (fB L p).num::dn⟩)
 else if (fB L p).kind=1/\cD (fB L p).text=true then (if n=32 then .bad p 4 else fH L false ⟨p+1,o,n+1,sg,fE (fB L p).text::dn⟩)
 else .bad p 2:=by
 have h:=DV (L:=L) (s:=⟨p,o,n,sg,dn⟩) hp;simp only at h;rw [h];unfold fB;cases e:L[p]? with
 | none =>
   have hz:¬ (zTk.kind=2/\0<=zTk.num):=by decide
   have a:¬ (zTk.kind=1/\cD zTk.text=true):=by decide
   simp only [if_neg hz,if_neg a]
 | some t=>rfl
def Hd (ts:List Tk) (rb:Nat) (a:Tp) (c p0:Nat) (r0:vG) (w0:World) (e:Ending) (w':World):Prop :=
 cJ rb w0 w'/\∃ (er:Int) (p o n:Nat) (sg:List (Tq×Nat)) (dn:List TN) (sv dv:Value) (q:List (Tp×Nat)),e=.returned (.int .i64 er)/\RG ts rb a c p o n sg dn sv dv q w' /\
  ((er=0/\r0=fH ts false ⟨p,o,n,sg,dn⟩/\pU sg/\dn.length=kG sg+1/\p0<p/\o<=p)\/(er ≠ 0/\r0=.bad p er))
theorem Gx {ts:List Tk} (a:∀ t∈ts,cS t) (p:Nat):fB ts p=zTk\/cS (fB ts p)/\p<ts.length:=by
 by_cases h:p<ts.length
 · right;rw [xK h];exact ⟨a _ (List.getElem_mem h),h⟩
 · left;exact xL (Nat.le_of_not_lt h)
theorem GI (ts:List Tk) (hL:∀ t∈ts,cS t) (rb:Nat) (a:Tp) (c G o0 n0:Nat) (E:List (Tq×Nat)) (dn:List TN) (ji dv:Value) (q:List (Tp×Nat)) (w:World) (H:RG ts rb a c G o0 n0 E dn ji dv q w) (hs:pU E) (hd:dn.length=kG E) (ho:o0<=G) :
 Calls prog 275 #[.pointer (some ⟨rb,0,none⟩)] w (Hd ts rb a c G (fH ts true ⟨G,o0,n0,E,dn⟩) w):=by
 obtain ⟨r0,jf⟩:∃ r,fH ts true ⟨G,o0,n0,E,dn⟩=r:=⟨_,rfl⟩;rw [jf];have K0:=aA (cJ.refl rb w);have HR:=aA H;have HS:=aA hs;have HD:=aA hd;have HE:=aA jf;have HL:=aA hL;have hn:ts.length<=100000:=H.g.hl;have jq:=H.g.hp;clear hs hd jf H hL;go_enter func275,ntmps275
 go_wp2_with fail
 go_loopg [] ts.length (fun g wr=>∃ (p o n:Nat) (sg:List (Tq×Nat)) (sv:Value),G<=p/\o<=p/\p<=ts.length/\ts.length-p<=g/\Hid (RG ts rb a c p o n sg dn sv dv q wr)/\Hid (pU sg)/\Hid (dn.length=kG sg)/\Hid (fH ts true ⟨p,o,n,sg,dn⟩=r0)/\Hid (cJ rb w wr))
 case atStart=>exact ⟨G,o0,n0,E,ji,Td _,ho,jq,Nat.sub_le _ _,HR,HS,HD,HE,K0⟩
 case round =>
  obtain ⟨p,o,n,sg,sv,hp,jx,jj,hg,hR,hS,hD,hE,hK⟩:=hrel;have CN:=aA (tJ ts rb a c p o n sv dv wr hR.out.g);have l:=aA (hE.out.symm.trans (IT (o:=o) (n:=n) (sg:=sg) (dn:=dn) jj));have V:=aA (Gx HL.out p);have D:=aA (fun x w=>Hz ts x p w);obtain ⟨tk,U⟩:∃ t,fB ts p=t:=⟨_,rfl⟩
  have LT:Hid (¬ tk=zTk->p<ts.length):=aA (fun jr=>by
   rcases V.out with h1 | h1
   · exact absurd (U.symm.trans h1) jr
   · exact h1.2)
  rw [U] at CN l V D;have jz:=aA U;clear U;obtain ⟨X,hX⟩:∃ X:Tr,⟨tk.text.toArray⟩=X:=⟨_,rfl⟩;have jk:tkG tk=.agg #[.int .i64 tk.kind,.string X,.int .i64 tk.num,.int .i64 tk.place]:=by rw [<- hX];rfl
  rw [jk] at CN D;have HX:=aA hX;clear jk hX;have jy:o<=100000:=by omega
  go_wp2_with fail
  refine CN.out.mono ?_;rintro e w1 ⟨rfl,ja⟩;have jw:=hR.out.lt;have jv:=ja.size;have R1:=hR.out.below ja;have K1:=hK.out.trans (cJ.below ja);have BA:=bA0 w1 (.cells #[.int .i64 tk.kind,.string X,.int .i64 tk.num,.int .i64 tk.place] 261);have NA:=heap_alloc_new w1 (.cells #[.int .i64 tk.kind,.string X,.int .i64 tk.num,.int .i64 tk.place] 261);have R2:=R1.below BA;have K2:=K1.trans (cJ.below BA);obtain ⟨tb,je⟩:∃ b,w1.heap.size=b:=⟨_,rfl⟩;go_upto_region 3 with fail
  generalize hW:w1.alloc (.cells #[.int .i64 tk.kind,.string X,.int .i64 tk.num,.int .i64 tk.place] 261)=W at R2 K2 NA;try rw [hW]
  rw [je] at NA;try rw [je]
  have jm:=aA R2;have jn:=aA K2;have jg:=aA NA;obtain ⟨⟨T,S,R,O⟩, -⟩:=aL NA;clear ja R1 K1 BA R2 K2 NA hW je CN;go_wp2_with fail
  refine (D.out ⟨#[40]⟩ W).mono ?_;rintro e w2 ⟨rfl,Z⟩;have jc:isS ts (⟨#[40]⟩:Tr).data.toList p=isS ts [40] p:=rfl;rw [jc];have R3:=jm.out.below Z;have K3:=jn.out.trans (cJ.below Z);have N3:=(Z.block _ (Array.getElem?_eq_some_iff.1 jg.out).1).trans jg.out;have L:=aA R3;have jh:=aA K3;have jb:=aA N3;clear T S R O Z jc R3 K3 N3 jm jn jg;by_cases u:isS ts [40] p=true
  · have I:=gN u
    have E2:=aA (show fH ts true ⟨p+1,o+1,n,sg,dn⟩=r0 by have:=l.out;rw [if_pos u] at this;exact this.symm);obtain ⟨⟨c0,c1,c2,c3,c4,c5⟩,f1,f2,f3,f4,f5⟩:=L.out.g.r.cells;have H1:=L.out.set (p':=p) (o':=o+1) (n':=n) (y:=2) (v:=.int .i64 ((o:Int)+1)) jj (by omega) L.out.g.hn (Td _) rfl;have H2:=aA (H1.set (p':=p+1) (o':=o+1) (n':=n) (y:=1) (v:=.int .i64 ((p:Int)+1)) (by omega) (by omega) L.out.g.hn (Td _) rfl);have K4:=aA ((jh.out.set 2 (.int .i64 ((o:Int)+1))).set 1 (.int .i64 ((p:Int)+1)));rw [u];clear H1 u D l;go_wp2_with fail
    go_roundg (ts.length-(p+1))
    case measure=>omega
    case rel=>exact ⟨p+1,o+1,n,sg,sv,by omega,by omega,by omega,Td _,H2,hS,hD,E2,K4⟩
  · rw [if_neg u] at l
    have M:isS ts [40] p=false:=by simpa using u
    rw [M];have ju:=aA M;obtain ⟨⟨T,S,R,O⟩, -⟩:=aL jb.out;clear u M;go_wp2_with fail
    refine (D.out ⟨#[45]⟩ w2).mono ?_;rintro e w3 ⟨rfl,Y⟩;have N:=aA (L.out.below Y);have A:=aA (jh.out.trans (cJ.below Y));have js:=aA ((Y.block _ (Array.getElem?_eq_some_iff.1 jb.out).1).trans jb.out);clear T S R O Y L jh jb D;obtain ⟨⟨T,S,R,O⟩, -⟩:=aL js.out;obtain ⟨⟨c0,c1,c2,c3,c4,c5⟩,f1,f2,f3,f4,f5⟩:=N.out.g.r.cells;by_cases s:isS ts [45] p=true
    · have I:=gN s
      have CW:=Dr ts rb a c p o n sg dn sv dv q (iQ,3+o*3) w3 N.out I;rw [show (((iQ,3+o*3):Tq×Nat).2:Int)=3+(o:Int)*3 by simp] at CW;have jo:=aA CW;rw [if_pos s] at l;rw [s];clear s CW;by_cases d:n=32
      · rw [if_pos d] at l
        have B:=aA d;clear d;go_wp2_with fail
        refine jo.out.mono ?_;rintro e k ⟨C,hA, -⟩;obtain ⟨rfl,m⟩:=hA B.out;have P:=aA (show Hd ts rb a c G r0 w (.returned (.int .i64 4)) k from ⟨A.out.trans C,4,p,o,n,sg,dn,sv,dv,q,rfl,m,.inr ⟨by decide,l.out⟩⟩);clear c0 c1 c2 c3 c4 c5 f1 f2 f3 f4 f5 T S R O;go_wp2_with fail
        go_ret;exact P.out
      · rw [if_neg d] at l
        have B:=aA d;clear d;go_wp2_with fail
        refine jo.out.mono ?_;rintro e k ⟨C, -,hB⟩;obtain ⟨rfl,jp,m⟩:=hB B.out;have R5:=aA m;have K5:=aA (A.out.trans C);have S5:=aA (show pU ((iQ,3+o*3)::sg) from fun x hx=>(List.mem_cons.1 hx).elim (fun e=>.inl (by rw [e])) (hS.out x));have D5:=aA (show dn.length=kG ((iQ,3+o*3)::sg) by rw [kG,if_pos rfl];exact hD.out);have E5:=aA l.out.symm;clear c0 c1 c2 c3 c4 c5 f1 f2 f3 f4 f5 T S R O hB;go_wp2_with fail
        go_roundg (ts.length-(p+1))
        case measure=>omega
        case rel=>exact ⟨p+1,o,n+1,_,jp,by omega,by omega,by omega,Td _,R5,S5,D5,E5,K5⟩
    · rw [if_neg s] at l
      have jd:isS ts [45] p=false:=by simpa using s
      rw [jd];clear s jd ju;by_cases f:tk.kind=2
      · obtain ⟨hm,I⟩:0<=tk.num/\p<ts.length:=by
         rcases V.out with h1 | ⟨h1,h2⟩
         · rw [h1] at f;exact absurd f (by decide)
         · rcases h1 with ⟨h3,_⟩ | ⟨_,h3,_⟩ | h3
           · rw [h3] at f;exact absurd f (by decide)
           · exact ⟨h3,h2⟩
           · rw [h3] at f;exact absurd f (by decide)
        rw [if_pos ⟨f,hm⟩] at l;have CL:=aA (Ey ts rb a c p o n sg dn sv dv q (tH tk.num) rfl w3 N.out I);have b1:(tk.kind == 2)=true:=by rw [f];rfl
        have HK:=aA f;clear f;by_cases d:n=32
        · rw [if_pos d] at l
          have B:=aA d;clear d;go_wp2_with fail
          refine CL.out.mono ?_;rintro e k ⟨C,hA, -⟩;obtain ⟨rfl,m⟩:=hA B.out;have P:=aA (show Hd ts rb a c G r0 w (.returned (.int .i64 4)) k from ⟨A.out.trans C,4,p,o,n,sg,dn,sv,dv,q,rfl,m,.inr ⟨by decide,l.out⟩⟩);clear c0 c1 c2 c3 c4 c5 f1 f2 f3 f4 f5 T S R O;go_wp2_with fail
          go_ret;exact P.out
        · rw [if_neg d] at l
          have B:=aA d;clear d;go_wp2_with fail
          refine CL.out.mono ?_;rintro e k ⟨C, -,hB⟩;obtain ⟨rfl,z,q',m⟩:=hB B.out;have P:=aA (show Hd ts rb a c G r0 w (.returned (.int .i64 0)) k from ⟨A.out.trans C,0,p+1,o,n+1,sg,_,sv,z,q',rfl,m,.inl ⟨rfl,l.out,hS.out,by rw [Te,hD.out],by omega,by omega⟩⟩);clear c0 c1 c2 c3 c4 c5 f1 f2 f3 f4 f5 T S R O hB;go_wp2_with fail
          go_ret;exact P.out
      · rw [if_neg (fun h=>f h.1)] at l
        have b1:(tk.kind == 2)=false:=by simpa using f
        by_cases j:tk.kind=1
        · obtain ⟨hm,I⟩:cD tk.text=true/\p<ts.length:=by
           rcases V.out with h1 | ⟨h1,h2⟩
           · rw [h1] at j;exact absurd j (by decide)
           · rcases h1 with ⟨_,h3⟩ | ⟨h3,_⟩ | h3
             · exact ⟨h3,h2⟩
             · rw [h3] at j;exact absurd j (by decide)
             · rw [h3] at j;exact absurd j (by decide)
          rw [if_pos ⟨j,hm⟩] at l;have b2:(tk.kind == 1)=true:=by rw [j];rfl
          have CL:=fun k (h:RG ts rb a c p o n sg dn sv dv q k)=>Ey ts rb a c p o n sg dn sv dv q (fE tk.text) rfl k h I
          have CX:(fE tk.text).nm=X:=HX.out;rw [CX] at CL;have jt:=aA CL;have NM:=aA (fun w=>kJ X (by rw [<- HX.out];have:=zE hm;show tk.text.toArray.size<=_;rw [List.size_toArray];omega) w);have jl:cD X.data.toList=true:=by rw [<- HX.out];simpa using hm
          rw [jl] at NM;clear j f CL CX jl hm;have PB:=aA (p:=∀ k,cJ rb w3 k->RG ts rb a c p o n sg dn sv dv q k->n=32->Hd ts rb a c G r0 w (.returned (.int .i64 4)) k) (fun k C m d=>⟨A.out.trans C,4,p,o,n,sg,dn,sv,dv,q,rfl,m,.inr ⟨by decide,by rw [l.out,if_pos d]⟩⟩);have PG:=aA (p:=∀ k z q',cJ rb w3 k->¬ n=32->RG ts rb a c (p+1) o (n+1) sg (fE tk.text::dn) sv z q' k->Hd ts rb a c G r0 w (.returned (.int .i64 0)) k) (fun k z q' C d m=>⟨A.out.trans C,0,p+1,o,n+1,sg,_,sv,z,q',rfl,m,.inl ⟨rfl,by rw [l.out,if_neg d],hS.out,by rw [Te,hD.out],by omega,by omega⟩⟩);go_wp2_with fail
          refine (NM.out _).mono ?_;rintro e k ⟨rfl,rfl⟩;go_wp2_with fail
          refine (jt.out _ N.out).mono ?_;rintro e k ⟨C,hA,hB⟩;by_cases d:n=32
          · obtain ⟨rfl,m⟩:=hA d
            have P:=aA (PB.out k C m d);clear c0 c1 c2 c3 c4 c5 f1 f2 f3 f4 f5 T S R O hA hB d;go_wp2_with fail
            go_ret;exact P.out
          · obtain ⟨rfl,z,q',m⟩:=hB d
            have P:=aA (PG.out k z q' C d m);clear c0 c1 c2 c3 c4 c5 f1 f2 f3 f4 f5 T S R O hA hB d;go_wp2_with fail
            go_ret;exact P.out
        · rw [if_neg (fun h=>j h.1)] at l
          have b2:(tk.kind == 1)=false:=by simpa using j
          have P:=aA (show Hd ts rb a c G r0 w (.returned (.int .i64 2)) w3 from ⟨A.out,2,p,o,n,sg,dn,sv,dv,q,rfl,N.out,.inr ⟨by decide,l.out⟩⟩);clear j f;go_wp2_with fail
          go_ret;exact P.out
def Qo (ts:List Tk) (rb:Nat) (a:Tp) (c:Nat) (r0:vG) (w0:World) (e:Ending) (w':World):Prop :=
 cJ rb w0 w'/\∃ (er:Int) (p o n:Nat) (sg:List (Tq×Nat)) (dn:List TN) (sv dv:Value) (q:List (Tp×Nat)),e=.returned (.int .i64 er)/\RG ts rb a c p o n sg dn sv dv q w' /\
  ((er=0/\r0=.ok ⟨p,o,n,sg,dn⟩/\pU sg/\dn.length=kG sg+1)\/(er ≠ 0/\r0=.bad p er))
theorem Qk (ts:List Tk) (p:Nat) (w:World):Calls prog 277 #[tkG (fB ts p)] w fun e w'=>e=.returned (.int .i64 (dB ts p:Nat))/\Below w.heap.size w w':=by
 have h:=Fh (fB ts p).kind ⟨(fB ts p).text.toArray⟩ (fB ts p).num (fB ts p).place w;have e:tW (fB ts p).kind (⟨(fB ts p).text.toArray⟩:Tr).data.toList=dB ts p:=KZ ts p;rw [e] at h;exact h
theorem Gs {ts:List Tk} {p:Nat} (h:¬ dB ts p=0):vL (eA ts p)/\p<ts.length/\dB ts p<=2:=by
 unfold dB at h |-
 by_cases b:isA ts p=true
 · rw [if_pos b];exact ⟨opA b,pK b,by omega⟩
 · rw [if_neg b] at h |-
   by_cases a:isM ts p=true
   · rw [if_pos a];exact ⟨opM a,pJ a,by omega⟩
   · rw [if_neg a] at h;exact absurd rfl h
theorem GH (k m a:Int) (X:Tr) (w:World):(Instr.field 261 (.agg #[.int .i64 k,.string X,.int .i64 m,.int .i64 a]) 1).run prog w=.ok (.string X) w:=by
 simp [Instr.field,go_sem,asAgg]
theorem Lb (ts:List Tk) (hL:∀ t∈ts,cS t) (rb:Nat) (a:Tp) (c p0 o0 n0:Nat) (y:List (Tq×Nat)) (D:List TN) (ja ji:Value) (q0:List (Tp×Nat)) (w:World) (H:RG ts rb a c p0 o0 n0 y D ja ji q0 w) (hs:pU y) (hd:D.length=kG y) (ho:o0<=p0) :
 Calls prog 261 #[.pointer (some ⟨rb,0,none⟩)] w (Qo ts rb a c (fH ts true ⟨p0,o0,n0,y,D⟩) w):=by
 obtain ⟨r0,N⟩:∃ r,fH ts true ⟨p0,o0,n0,y,D⟩=r:=⟨_,rfl⟩;rw [N];have K0:=aA (cJ.refl rb w);have HR:=aA H;have HS:=aA hs;have HD:=aA hd;have HE:=aA N;have HL:=aA hL;have hn:ts.length<=100000:=H.g.hl;have jv:=H.g.hp;clear hs hd N H hL;go_enter func261,ntmps261
 go_wp2_with fail
 go_loopg [] ts.length (fun g wr=>∃ (p o n:Nat) (sg:List (Tq×Nat)) (dn:List TN) (sv dv:Value) (q:List (Tp×Nat)),o<=p/\p<=ts.length/\ts.length-p<=g/\Hid (RG ts rb a c p o n sg dn sv dv q wr)/\Hid (pU sg)/\Hid (dn.length=kG sg)/\Hid (fH ts true ⟨p,o,n,sg,dn⟩=r0)/\Hid (cJ rb w wr))
 case atStart=>exact ⟨p0,o0,n0,y,D,ja,ji,q0,ho,jv,Nat.sub_le _ _,HR,HS,HD,HE,K0⟩
 case round =>
  obtain ⟨p,o,n,sg,dn,sv,dv,q,jw,ke,hg,hR,hS,hD,hE,hK⟩:=hrel;have CF:=aA (GI ts HL.out rb a c p o n sg dn sv dv q wr hR.out hS.out hD.out jw);rw [hE.out] at CF;clear hR hS hD hE;go_wp2_with fail
  refine CF.out.mono ?_;rintro e w1 ⟨k1,er,p1,o1,n1,l,u,k,m,q1,rfl,R1,h⟩;rcases h with ⟨rfl,B,S1,D1,kh,kj⟩ | ⟨O,B⟩
  · have jn:=aA R1
    have jt:=aA B;have R:=aA S1;have U:=aA D1;have js:=aA (hK.out.trans k1);clear R1 B S1 D1 k1 hK CF;go_wp2_with fail
    refine (Le ts rb a c p1 o1 n1 l u k m q1 w1 jn.out).mono ?_;rintro e w2 ⟨rfl,k2,d,b,R2,kf,ki,jh,je⟩;have jd:d<=ts.length:=R2.g.hp;have RF:=mK (L:=ts) (s:=⟨d,b,n1,l,u⟩) jd;simp only at RF;rw [if_neg (fun j=>by rw [je j.1] at j;exact absurd j.2 (by decide)),jh, <- jt.out] at RF;have f:=aA RF;have S:=aA R2;have jr:=aA (js.out.trans k2);have CN:=aA (fun w (h:RG ts rb a c d b n1 l u k m q1 w)=>tJ ts rb a c d b n1 k m w h.g);have CB:=aA (fun w=>Qk ts d w);obtain ⟨j,jf⟩:∃ x,dB ts d=x:=⟨_,rfl⟩;have M:=@Gs ts d;rw [jf] at f CB M;have jk:=aA M;clear R2 k2 RF jh je jt jn js M jf;go_wp2_with fail
    refine (CN.out w2 S.out).mono ?_;rintro e w3 ⟨rfl,b3⟩;have jm:=aA (S.out.below b3);have jq:=aA (jr.out.trans (cJ.below b3));clear b3 S jr;go_wp2_with fail
    refine (CB.out w3).mono ?_;rintro e w4 ⟨rfl,b4⟩;have E:=aA (jm.out.below b4);have T:=aA (jq.out.trans (cJ.below b4));clear b4 jm jq CB;by_cases V:j=0
    · rw [if_pos V] at f
      have a1:((j:Int) == 0)=true:=by rw [V];rfl
      have CE:=aA (Qb ts rb a c d b n1 k m w4 E.out.g)
      have P:=aA (p:=∀ x:Int,x=(if 0<b then 2 else 0)->Qo ts rb a c r0 w (.returned (.int .i64 x)) w4) (fun x hx=>⟨T.out,x,d,b,n1,l,u,k,m,q1,rfl,E.out,by
       by_cases h2:0<b
       · rw [if_pos h2] at hx
         refine .inr ⟨by rw [hx];decide,?_⟩;rw [f.out,if_pos h2,hx]
       · rw [if_neg h2] at hx
         refine .inl ⟨hx,?_,R.out,U.out⟩;rw [f.out,if_neg h2]⟩)
      clear V CN;go_wp2_with fail
      refine CE.out.mono ?_;rintro e w5 ⟨rfl,rfl⟩;generalize hx:(if 0<b then (2:Int) else 0)=x at P |-
      have P2:=aA (P.out x rfl);clear P hx;go_wp2_with fail
      go_ret;exact P2.out
    · rw [if_neg V] at f
      obtain ⟨jc,jy,h2⟩:=jk.out V;have jj:=aA jc;have a1:((j:Int) == 0)=false:=by rw [beq_eq_false_iff_ne];omega
      have jx:b<=100000:=by omega
      have CJ:=aA (MH ts rb a c d b n1 (j+b*3) l u k m q1 w4 E.out R.out U.out);rw [show ((j+b*3:Nat):Int)=(j:Int)+(b:Int)*3 by simp] at CJ;have JB:=aA (ED (h:=j+b*3) R.out U.out);obtain ⟨⟨Z,Y⟩,hJ⟩:∃ r,cX (j+b*3) l u=r:=⟨_,rfl⟩;rw [hJ] at CJ JB f;simp only at JB f;obtain ⟨⟨c0,c1,c2,c3,c4,c5⟩,f1,f2,f3,f4,f5⟩:=E.out.g.r.cells;clear V hJ jc jk;go_wp2_with fail
      refine CJ.out.mono ?_;rintro e w5 ⟨rfl,k5,G,C,q5,R5⟩;have jl:=aA R5;have jp:=aA (T.out.trans k5);have I:=aA (tJ ts rb a c d b n1 G C w5 R5.g);obtain ⟨tk,jb⟩:∃ t,fB ts d=t:=⟨_,rfl⟩;have A:=Ot ts d;rw [jb] at I A;obtain ⟨X,hX⟩:∃ X:Tr,⟨tk.text.toArray⟩=X:=⟨_,rfl⟩;have jg:tkG tk=.agg #[.int .i64 tk.kind,.string X,.int .i64 tk.num,.int .i64 tk.place]:=by rw [<- hX];rfl
      rw [jg] at I;have CW:=fun w (h:RG ts rb a c d b n1 Z Y G C q5 w)=>Dr ts rb a c d b n1 Z Y G C q5 (eA ts d,j+b*3) w h jy
      have e1:(⟨(eA ts d).toArray⟩:Tr)=X:=by rw [<- A];exact hX
      have e2:(((eA ts d,j+b*3):Tq×Nat).2:Int)=(j:Int)+(b:Int)*3:=by simp
      simp only [e1,e2] at CW;have kb:=aA CW;clear R5 k5 CJ c0 c1 c2 c3 c4 c5 f1 f2 f3 f4 f5 E T jb hX A jg e1 e2 CW CN;go_wp2_with fail
      refine I.out.mono ?_;rintro e w6 ⟨rfl,b6⟩;have jz:=aA (jl.out.below b6);have jo:=aA (jp.out.trans (cJ.below b6));clear b6 jl jp I;go_wp2_with fail
      rw [GH];simp only [Result.andThen];rw [Oper.upon_value];go_wp2_with fail
      refine (kb.out w6 jz.out).mono ?_;rintro e w7 ⟨k7,hA,hB⟩;by_cases z:n1=32
      · obtain ⟨rfl,r7⟩:=hA z
        have P:=aA (show Qo ts rb a c r0 w (.returned (.int .i64 4)) w7 from ⟨jo.out.trans k7,4,d,b,n1,Z,Y,G,C,q5,rfl,r7,.inr ⟨by decide,by rw [f.out,if_pos z]⟩⟩);clear hA hB z;go_wp2_with fail
        go_ret;exact P.out
      · obtain ⟨rfl,ju,r7⟩:=hB z
        have R8:=aA r7;have K8:=aA (jo.out.trans k7);have S8:=aA (show pU ((eA ts d,j+b*3)::Z) from fun x hx=>(List.mem_cons.1 hx).elim (fun e=>.inr (by rw [e];exact jj.out)) (JB.out.1 x));have D8:=aA (show Y.length=kG ((eA ts d,j+b*3)::Z) by rw [kG,if_neg (Ae jj.out).2];exact JB.out.2);have E8:=aA (show fH ts true ⟨d+1,b,n1+1,(eA ts d,j+b*3)::Z,Y⟩=r0 by rw [f.out,if_neg z]);clear hA hB z;go_wp2_with fail
        go_roundg (ts.length-(d+1))
        case measure=>omega
        case rel=>exact ⟨d+1,b,n1+1,_,Y,ju,C,q5,by omega,by omega,Td _,R8,S8,D8,E8,K8⟩
  · have b1:((er:Int) != 0)=true:=by simpa using O
    have P:=aA (show Qo ts rb a c r0 w (.returned (.int .i64 er)) w1 from ⟨hK.out.trans k1,er,p1,o1,n1,l,u,k,m,q1,rfl,R1,.inr ⟨O,B⟩⟩);clear O B R1 k1;go_wp2_with fail
    go_ret;exact P.out
abbrev ndG (o m:Tr) (n:Int) (a:Tp) (l c:Nat):Obj:=.cells #[.string o,.string m,.int .i64 n,.slice a l c] 67
theorem RGx.mark {ts:List Tk} {rb:Nat} {a:Tp} {c p o n:Nat} {sg:List (Tq×Nat)} {dn:List TN} {sv dv:Value} {q:List (Tp×Nat)} {w:World} (h:RG ts rb a c p o n sg dn sv dv q w) (f:Obj):RGx w.heap.size ts rb a c p o n sg dn sv dv q (w.alloc f):=by
 have k:=bA0 w f;have d:=h.below k;exact ⟨d.g,d.so,d.dw,(h.dk.imp (fun b l j=>(⟨j.1,by omega,j.2.2⟩:Gk w.heap.size rb sv dv b))).keptS (aF k (fun _=>False)) (fun _ h=>h.elim),d.ap,by rw [Tc];omega,d.hs,d.hd⟩
theorem It (ts:List Tk) (rb:Nat) (a:Tp) (c p o n:Nat) (sg:List (Tq×Nat)) (dn:List TN) (sv dv:Value) (q:List (Tp×Nat)) (w:World) (H:RG ts rb a c p o n sg dn sv dv q w) (hs:pU sg) (hd:dn.length=kG sg+1) (t:TN) (S:cX 0 sg dn=([],[t])) :
 Calls prog 262 #[.pointer (some ⟨rb,0,none⟩)] w fun e w'=>∃ ad cc,e=.returned (bN t.op t.nm t.n ad t.ks.len cc)/\cJ rb w w'/\aK (fun b=>rb<b) w' ad t.ks/\w'.cell? ⟨rb,1,none⟩=some (.int .i64 p):=by
 have jd:=H.lt;have B:=H.mark (ndG ⟨#[]⟩ ⟨#[]⟩ 0 none 0 0);have KA:=cJ.below (rb:=rb) (bA0 w (ndG ⟨#[]⟩ ⟨#[]⟩ 0 none 0 0));have y:=heap_alloc_new w (ndG ⟨#[]⟩ ⟨#[]⟩ 0 none 0 0);have s:(w.alloc (ndG ⟨#[]⟩ ⟨#[]⟩ 0 none 0 0)).heap.size=w.heap.size+1:=Tc _ _;generalize V:w.alloc (ndG ⟨#[]⟩ ⟨#[]⟩ 0 none 0 0)=W at B KA y s;have O:=Hy w.heap.size ts rb a c p o n 0 sg dn sv dv q W B hs hd;rw [S] at O;have m:=aA O;have C:=aA (fun (e:sv.ownBlock=some w.heap.size)=>(Nat.lt_irrefl _ (H.svNe e).2));have N:=aA (fun (e:dv.ownBlock=some w.heap.size)=>(Nat.lt_irrefl _ (H.dvNe e).2));have HW:=aA V;have E:=aA y;have I:=aA KA;clear V B O hs hd S H y KA;go_enter func262,ntmps262
 go_upto_region 1 with fail
 rw [HW.out];go_wp2_with fail
 refine m.out.mono ?_;rintro e Y ⟨rfl,⟨R,sv2,dv2,P,h⟩,U⟩;have z:=(U w.heap.size (by omega) (by omega) C.out N.out).trans E.out;obtain ⟨g,vc,hv, -, -,d⟩:=fL h.dw (by simp);subst hv
 obtain ⟨f,rfl⟩:∃ x,P=[x]:=by
  have:=wZ h.dk;match P,this with
  | [x],_=>exact ⟨x,rfl⟩
 have jc:=d 0 _ rfl;have jb:=d 1 _ rfl;have ja:=d 2 _ rfl;have Z:=d 3 _ rfl;have X:=h.dk.1;obtain ⟨⟨c0,c1,c2,c3,c4,c5⟩, -⟩:=h.g.r.cells;obtain ⟨⟨z0,z1,z2,z3⟩,y0,y1,y2,y3⟩:=aL z;have G:=aA z;have L:=aA (I.out.trans R);have D:=aA X;have l:=(h.g.r);have M:=aA l;have j:([t]:List TN).length=1:=rfl;rw [j] at c5;clear d h R U z X l m j;go_wp2_with fail
 have h4:=aY G.out (.string t.op) (.string t.nm) (.int .i64 t.n) (.slice f.1 t.ks.len f.2);obtain ⟨⟨d0,d1,d2,d3⟩, -⟩:=aL h4;have A:=((((aC.refl (· = w.heap.size) Y).setCell (p:=⟨w.heap.size,0,none⟩) (.inl rfl) (.string t.op)).setCell (p:=⟨w.heap.size,1,none⟩) (.inl rfl) (.string t.nm)).setCell (p:=⟨w.heap.size,2,none⟩) (.inl rfl) (.int .i64 t.n)).setCell (p:=⟨w.heap.size,3,none⟩) (.inl rfl) (.slice f.1 t.ks.len f.2);have RF:=(D.out.keptS A (fun k hk u=>u.2.1 hk)).imp (H:=fun b=>rb<b) (fun b _ u=>u.1);have KF:=L.out.trans (A.mono (T:=fun b=>rb<=b) (fun i hi _=>by omega));have GF:IsG _ rb a ts.length c p o n sv2 (Tj (some ⟨g,0,none⟩) [t].length vc):=A.heap M.out (by omega);exact bodyPost_ret (v:=bN t.op t.nm t.n f.1 t.ks.len f.2) (by simp [results,results262,go_sem,d0,d1,d2,d3]) rfl ⟨f.1,f.2,rfl,KF,RF,GF.cells.1.2.1⟩
theorem Lm {ts:List Tk} {rb:Nat} {a:Tp} {c p:Nat} {w:World} (h:w.heap[rb]? = some (.cells #[.slice a ts.length c,.int .i64 p,.int .i64 0,.int .i64 0,.slice none 0 0,.slice none 0 0] 333 (0,0))) (b:Dl rb w a ts) (hp:p<=ts.length) (hl:ts.length<=100000) :
 RG ts rb a c p 0 0 [] [] (.slice none 0 0) (.slice none 0 0) [] w :=
 ⟨⟨h,b,hp,hl,by omega,by omega⟩,World.ownsRow_nil _ _ _ _,World.ownsRow_nil _ _ _ _,trivial,(fun _ h=>by cases h),(Array.getElem?_eq_some_iff.1 h).1,Td _,Td _⟩
theorem O0 (ts:List Tk) (hL:∀ t∈ts,cS t) (a:Tp) (c p:Nat) (hn:ts.length<=100000) (hp:p<=ts.length) (w:World) (hr:fQ w a ts) :
 Calls prog 244 #[.slice a ts.length c,.int .i64 p] w fun e w'=>Hb (ofL ts p) w e w'/\∀ q er,ofL ts p=.bad q er->q<=ts.length:=by
 have l:=bA0 w (ndG ⟨#[]⟩ ⟨#[]⟩ 0 none 0 0);have NB:=heap_alloc_new w (ndG ⟨#[]⟩ ⟨#[]⟩ 0 none 0 0);have y:(w.alloc (ndG ⟨#[]⟩ ⟨#[]⟩ 0 none 0 0)).heap.size=w.heap.size+1:=Tc _ _;generalize hW:w.alloc (ndG ⟨#[]⟩ ⟨#[]⟩ 0 none 0 0)=W at l NB y;have I:=bA0 W (.cells #[.slice a ts.length c,.int .i64 p,.int .i64 0,.int .i64 0,.slice none 0 0,.slice none 0 0] 333);have O:=heap_alloc_new W (.cells #[.slice a ts.length c,.int .i64 p,.int .i64 0,.int .i64 0,.slice none 0 0,.slice none 0 0] 333);have X:(W.alloc (.cells #[.slice a ts.length c,.int .i64 p,.int .i64 0,.int .i64 0,.slice none 0 0,.slice none 0 0] 333)).heap.size=w.heap.size+2:=by rw [Tc];omega
 generalize hV:W.alloc (.cells #[.slice a ts.length c,.int .i64 p,.int .i64 0,.int .i64 0,.slice none 0 0,.slice none 0 0] 333)=V at I O X;rw [y] at O;have R0:=Lm O ((wR (hr.kept l)).kept (aF I (fun _=>False)) (fun _ h=>h.elim) |>.imp id (fun ⟨b,off,e,hlt,hc⟩=>⟨b,off,e,by omega,hc⟩)) hp hn;have BV:=aA (l.trans (I.mono (by omega)));have jb:=aA ((I.block w.heap.size (by omega)).trans NB);have CS:=aA (Lb ts hL (w.heap.size+1) a c p 0 0 [] [] (.slice none 0 0) (.slice none 0 0) [] V R0 (fun _ hx=>by cases hx) rfl (Nat.zero_le _));have RO:=QN hL hp;obtain ⟨rO,z⟩:∃ r,ofL ts p=r:=⟨_,rfl⟩;rw [z] at RO |-
 have RO:=aA RO;clear z;have HW:=aA hW;have HV:=aA hV;have a1:¬ (p:Int)<0:=by omega
 have a2:(p:Int)<=(ts.length:Int):=by omega
 have a3:min (p:Int) (ts.length:Int)=p:=by omega
 clear hW hV l I O NB R0 hr hL;go_enter func244,ntmps244
 go_upto_region 1 with fail
 rw [HW.out];go_upto_region 4 with fail
 rw [HV.out];clear a1 a2 a3 HW HV;go_wp2_with fail
 refine CS.out.mono ?_;rintro e o ⟨u,er,L,o1,n1,j,m,T,ja,q1,rfl,N,h⟩;have U:=u.size;have P:=u.heap jb.out (by omega);have l:=BV.out.trans (aC.below u (B:=w.heap.size) (fun k Y=>by omega) (by omega));obtain ⟨⟨c0,c1,c2,c3,c4,c5⟩, -⟩:=N.g.r.cells;obtain ⟨⟨z0,z1,z2,z3⟩,y0,y1,y2,y3⟩:=aL P;have E:=aA P;have d:=aA l;have C:=aA N;have S:=RO.out;cases rO with
 | bad qb eb =>
   have A:=S.1 qb eb rfl;rw [A] at h
   obtain ⟨f,rfl,rfl⟩:er ≠ 0/\qb=L/\eb=er:=by
    rcases h with ⟨_,h,_⟩ | ⟨f,h⟩
    · cases h
    · cases h;exact ⟨f,rfl,rfl⟩
   have b1:((eb:Int) != 0)=true:=by simpa using f
   clear S h A f P l N u CS RO;go_wp2_with fail
   go_region
   go_wp2_with fail
   have h4:=aY (W:=o) E.out (.string ⟨#[]⟩) (.string ⟨#[]⟩) (.int .i64 0) (.slice none 0 0);obtain ⟨⟨d0,d1,d2,d3⟩, -⟩:=aL h4;have R:=lJ (b:=w.heap.size) d.out (Td _) (by omega) 1 (.string ⟨#[]⟩) (.string ⟨#[]⟩) (.int .i64 0) (.slice none 0 0);exact bodyPost_ret (v:=.tuple #[bN ⟨#[]⟩ ⟨#[]⟩ 0 none 0 0,.int .i64 (qb:Nat),.int .i64 eb]) (by simp [results,results244,go_sem,d0,d1,d2,d3]) rfl ⟨⟨R,rfl⟩,fun q er h=>by cases h;exact C.out.g.hp⟩
 | ok t qo =>
   obtain ⟨s,A,x,jh,Z⟩:=S.2 t qo rfl;rw [A] at h
   obtain ⟨rfl,rfl,S1,D1⟩:er=0/\s=⟨L,o1,n1,j,m⟩/\pU j/\m.length=kG j+1:=by
    rcases h with ⟨he,h,h1,h2⟩ | ⟨f,h⟩
    · cases h;exact ⟨he,rfl,h1,h2⟩
    · cases h
   simp only at x Z;subst x;have CW:=aA (It ts (w.heap.size+1) a c L o1 n1 j m T ja q1 o.drew (C.out.below ⟨rfl,rfl,rfl,Td _,fun _ _=>rfl⟩) S1 D1 t Z);have D:=aA (show o.drew.heap[w.heap.size]? = some (ndG ⟨#[]⟩ ⟨#[]⟩ 0 none 0 0) from E.out);have G:=aA (show Below w.heap.size w o.drew from ⟨d.out.os,d.out.tape,d.out.output,d.out.size,d.out.block⟩);have jf:V.heap.size<=o.drew.heap.size:=U;clear S h A P l N u CS RO S1 D1 Z;go_wp2_with fail
   go_region_law (first
    | (go_simp
       go_at_call 262
       refine CW.out.mono ?_;rintro e w2 ⟨ad,cc,rfl,M,rr,ji⟩;have N2:=M.heap D.out (by omega);have jg:=M.size;have je:=aA (G.out.trans (aC.below M (B:=w.heap.size) (fun k Y=>by omega) (by omega)));have jc:=aA rr;have jd:=aA N2;clear z0 z1 z2 z3 y0 y1 y2 y3 c0 c1 c2 c3 c4 c5 M rr;obtain ⟨⟨z0,z1,z2,z3⟩,y0,y1,y2,y3⟩:=aL N2;clear N2)
    | fail)
   all_goals
    go_wp2_with fail
    have R:=((((aC.refl (· = w.heap.size) w2).setCell (p:=⟨w.heap.size,0,none⟩) (.inl rfl) (.string t.op)).setCell (p:=⟨w.heap.size,1,none⟩) (.inl rfl) (.string t.nm)).setCell (p:=⟨w.heap.size,2,none⟩) (.inl rfl) (.int .i64 t.n)).setCell (p:=⟨w.heap.size,3,none⟩) (.inl rfl) (.slice ad t.ks.len cc);obtain ⟨⟨d0,d1,d2,d3⟩, -⟩:=aL (aY (W:=w2) jd.out (.string t.op) (.string t.nm) (.int .i64 t.n) (.slice ad t.ks.len cc));have BF:=je.out.trans (aC.below R (B:=w.heap.size) (fun k Y=>by omega) (by omega));have RF:=(jc.out.keptS R (fun k Y hg=>by omega)).imp (H:=fun b=>w.heap.size<=b) (fun b _ hg=>by omega);exact bodyPost_ret (v:=.tuple #[bN t.op t.nm t.n ad t.ks.len cc,.int .i64 L,.int .i64 0]) (by simp [results,results244,go_sem,Act.put,d0,d1,d2,d3]) (by simp [Act.put]) ⟨⟨BF,ad,cc,rfl,RF⟩,fun _ _ h=>by cases h⟩
structure oG {K:Type} (less:K->K->Bool):Prop where
 irrefl:∀ a,less a a=false
 trans:∀ a b c,less a b=true->less b c=true->less a c=true
 total:∀ a b,less a b=false->less b a=false->a=b
section
variable {K : Type} {less : K -> K -> Bool}
def pos (less:K->K->Bool) (ks:List K) (x:K):Nat:=(ks.takeWhile (fun k=>less k x)).length
def dI (less:K->K->Bool) (ks:List K):Prop:=ks.Pairwise (fun a b=>less a b=true)
theorem uH (ks:List K) (x:K):pos less ks x<=ks.length:=(List.takeWhile_sublist _).length_le
theorem Eg (k:K) (r:List K) (x:K):pos less (k::r) x=if less k x=true then pos less r x+1 else 0:=by
 unfold pos;rw [List.takeWhile_cons];split <;> simp_all
theorem nP:∀ (ks:List K) (x:K) (t:Nat) (k:K),t<pos less ks x->ks[t]? = some k->less k x=true
 | [],x,t,k,h,hk=>by simp at hk
 | a :: r, x, t, k, h, hk => by
   rw [Eg] at h;by_cases ha:less a x=true
   · rw [if_pos ha] at h
     cases t with
     | zero=>simp at hk;rw [<- hk];exact ha
     | succ t=>exact nP r x t k (by omega) (by simpa using hk)
   · rw [if_neg ha] at h;omega
theorem FV:∀ (ks:List K) (x:K) (k:K),ks[pos less ks x]? = some k->less k x=false
 | [],x,k,hk=>by simp [pos] at hk
 | a :: r, x, k, hk => by
   rw [Eg] at hk;by_cases ha:less a x=true
   · rw [if_pos ha] at hk
     exact FV r x k (by simpa using hk)
   · rw [if_neg ha] at hk
     simp at hk;rw [<- hk];simpa using ha
theorem uF {ks:List K} (h:dI less ks) {i j:Nat} {a b:K} (c:i<j) (ha:ks[i]? = some a) (g:ks[j]? = some b):less a b=true:=by
 obtain ⟨f,rfl⟩:=List.getElem?_eq_some_iff.1 ha;obtain ⟨d,rfl⟩:=List.getElem?_eq_some_iff.1 g;exact List.pairwise_iff_getElem.1 h i j f d c
theorem Bf (o:oG less) {ks:List K} (h:dI less ks) {x:K} {t:Nat} {k:K} (l:pos less ks x<=t) (c:ks[t]? = some k):less k x=false:=by
 obtain ⟨f,_⟩:=List.getElem?_eq_some_iff.1 c;have hp:pos less ks x<ks.length:=by omega
 have b:ks[pos less ks x]? = some (ks[pos less ks x]):=List.getElem?_eq_getElem hp;have d:=FV ks x _ b;generalize ks[pos less ks x]=y at b d;rcases Nat.lt_or_ge (pos less ks x) t with a | hge
 · have j:=uF h a b c
   cases g:less k x with
   | false=>rfl
   | true=>have:=o.trans _ _ _ j g;rw [d] at this;cases this
 · have:pos less ks x=t:=by omega
   rw [this] at b;rw [b] at c;cases c;exact d
theorem yB {ks:List K} {x:K} {p:Nat} (hp:p<=ks.length) (d:∀ t k,t<p->ks[t]? = some k->less k x=true) (c:∀ k,ks[p]? = some k->less k x=false):pos less ks x=p:=by
 rcases Nat.lt_trichotomy (pos less ks x) p with b | heq | hgt
 · have a:ks[pos less ks x]? = some (ks[pos less ks x]'(by omega)):=List.getElem?_eq_getElem (by omega)
   have:=d _ _ b a;rw [FV ks x _ a] at this;cases this
 · exact heq
 · have hl:=uH (less:=less) ks x
   have a:ks[p]? = some (ks[p]'(by omega)):=List.getElem?_eq_getElem (by omega);have:=nP ks x p _ hgt a;rw [c _ a] at this;cases this
theorem fF (o:oG less) {ks:List K} (h:dI less ks) {x:K}:x∈ks ↔ ks[pos less ks x]? = some x:=by
 constructor
 · intro g
   obtain ⟨i,d,rfl⟩:=Tn.1 g;have b:ks[i]? = some ks[i]:=List.getElem?_eq_getElem d;have:pos less ks ks[i]=i:=yB (Nat.le_of_lt d) (fun t k f c=>uF h f c b) (fun k a=>by rw [b] at a;cases a;exact o.irrefl _);rw [this];exact b
 · intro b
   exact List.mem_of_getElem? b
def has [DecidableEq K] (ks:List K) (x:K):Bool:=ks.any (fun k=>decide (k=x))
theorem iN [DecidableEq K] (ks:List K) (x:K):has ks x=true ↔ x∈ks:=by simp [has]
theorem zD [DecidableEq K] {ks:List K} {x:K} (h:x ∉ ks):has ks x=false:=by
 cases a:has ks x with
 | false=>rfl
 | true=>exact absurd ((iN ks x).1 a) h
theorem Bz [DecidableEq K] (o:oG less) {ks:List K} (h:dI less ks) {x y:K} {p:Nat} (hp:pos less ks x=p) (b:ks[p]? = some y):has ks x=decide (y=x):=by
 subst hp;by_cases a:y=x
 · subst a
   rw [(iN _ _).2 ((fF o h).2 b)];simp
 · have:x ∉ ks:=fun c=>a (by have:=(fF o h).1 c;rw [b] at this;exact Option.some.inj this)
   rw [zD this];simp [a]
theorem zH [DecidableEq K] (o:oG less) {ks:List K} (h:dI less ks) {x:K} {p:Nat} (hp:pos less ks x=p) (hl:ks.length<=p):has ks x=false:=by
 subst hp
 have:x ∉ ks:=fun a=>by
  have:=(fF o h).1 a;rw [List.getElem?_eq_none hl] at this;cases this
 exact zD this
theorem xP (o:oG less) {ks:List K} (h:dI less ks) (x:K) :
 Lib.bsGo (fun t=>less (ks.getD t x) x) ks.length 0 ks.length=pos less ks x:=by
 refine Lib.bsGo_spec _ _ (fun t b=>?_) (fun t b=>?_) _ _ _ (by omega) (Nat.zero_le _) (uH _ _)
 · have hl:=uH (less:=less) ks x
   have a:ks[t]? = some (ks[t]'(by omega)):=List.getElem?_eq_getElem (by omega);show less (ks.getD t x) x=true;rw [List.getD_eq_getElem?_getD,a];exact nP ks x t _ b a
 · show less (ks.getD t x) x=false
   rw [List.getD_eq_getElem?_getD];cases a:ks[t]? with
   | none=>exact o.irrefl x
   | some k=>exact Bf o h b a
theorem Ar (o:oG less) {ks:List K} (h:dI less ks) {x:K} (hx:x ∉ ks):dI less (ks.take (pos less ks x)++x::ks.drop (pos less ks x)):=by
 unfold dI at *;rw [List.pairwise_append,List.pairwise_cons];refine ⟨h.take,⟨fun a ha=>?_,h.drop⟩,fun a ha b hb=>?_⟩
 · obtain ⟨i,c⟩:=List.mem_iff_getElem?.1 ha
   rw [List.getElem?_drop] at c;have:=Bf o h (x:=x) (by omega) c;cases hb:less x a with
   | true=>rfl
   | false=>have e:=o.total _ _ this hb;rw [e] at c;exact absurd (List.mem_of_getElem? c) hx
 · obtain ⟨i,c⟩:=List.mem_iff_getElem?.1 ha
   rw [List.getElem?_take] at c;split at c
   · rename_i d
     have g:=nP ks x i a d c;rcases List.mem_cons.1 hb with rfl | hb
     · exact g
     · obtain ⟨j,f⟩:=List.mem_iff_getElem?.1 hb
       rw [List.getElem?_drop] at f;exact uF h (by omega) c f
   · cases c
variable [DecidableEq K]
def oP (less:K->K->Bool) (ks:List K) (x:K):List K:=if has ks x=true then ks else ks.take (pos less ks x)++x::ks.drop (pos less ks x)
theorem pC (o:oG less) {ks:List K} (hr:dI less ks) (x:K):dI less (oP less ks x):=by
 unfold oP;split
 · exact hr
 · rename_i b
   exact Ar o hr (fun a=>b ((iN ks x).2 a))
theorem L9 (ks:List K) (x y:K):y∈oP less ks x ↔ y∈ks\/y=x:=by
 unfold oP;split
 · rename_i a
   have hx:=(iN ks x).1 a;exact ⟨Or.inl,fun h=>h.elim id (fun e=>e ▸ hx)⟩
 · have e:y∈ks ↔ y∈ks.take (pos less ks x)\/y∈ks.drop (pos less ks x):=by
    rw [<- List.mem_append,List.take_append_drop]
   rw [List.mem_append,List.mem_cons,e];constructor
   · rintro (h | h | h)
     · exact Or.inl (Or.inl h)
     · exact Or.inr h
     · exact Or.inl (Or.inr h)
   · rintro ((h | h) | h)
     · exact Or.inl h
     · exact Or.inr (Or.inr h)
     · exact Or.inr (Or.inl h)
omit [DecidableEq K] in
end
def lsS (a b:Tr):Bool:=Op.bytesLess a.toList b.toList
def lsL (a b:Int):Bool:=decide (a<b)
theorem Ow:oG lsL where
 irrefl a:=by simp [lsL]
 trans a b c h1 h2:=by simp [lsL] at *;omega
 total a b h1 h2:=by simp [lsL] at *;omega
theorem nC:∀ l:Tq,Op.bytesLess l l=false
 | []=>rfl
 | a::r=>by simp [Op.bytesLess,nC r]
theorem lI (a b:UInt8) (x y:Tq):Op.bytesLess (a::x) (b::y)=true ↔ a.toNat<b.toNat\/(a.toNat=b.toNat/\Op.bytesLess x y=true):=by
 rw [Op.bytesLess];simp only [Bool.or_eq_true,Bool.and_eq_true,decide_eq_true_eq,beq_iff_eq,UInt8.lt_iff_toNat_lt,UInt8.toNat_inj]
theorem oL:∀ a b c:Tq,Op.bytesLess a b=true->Op.bytesLess b c=true->Op.bytesLess a c=true
 | _,[],_,h,_=>by simp [Op.bytesLess] at h
 | _,_::_,[],_,h=>by simp [Op.bytesLess] at h
 | [],_::_,_::_,_,_=>by simp [Op.bytesLess]
 | a :: x, b :: y, c :: z, j, f => by
   rw [lI] at *;rcases j with j | ⟨j,g⟩ <;> rcases f with f | ⟨f,d⟩
   · exact Or.inl (by omega)
   · exact Or.inl (by omega)
   · exact Or.inl (by omega)
   · exact Or.inr ⟨by omega,oL x y z g d⟩
theorem oM:∀ a b:Tq,Op.bytesLess a b=false->Op.bytesLess b a=false->a=b
 | [],[],_,_=>rfl
 | [],_::_,h,_=>by simp [Op.bytesLess] at h
 | _::_,[],_,h=>by simp [Op.bytesLess] at h
 | a :: x, b :: y, h1, h2 => by
   have n1:=mt (lI a b x y).2 (by rw [h1];simp);have n2:=mt (lI b a y x).2 (by rw [h2];simp);simp only [not_or,not_and,Bool.not_eq_true] at n1 n2;have e:a.toNat=b.toNat:=by omega
   have:=oM x y (n1.2 e) (n2.2 e.symm);rw [this,UInt8.toNat_inj.1 e]
theorem zZ {a b:Tr} (h:a.toList=b.toList):a=b:=by
 rw [Tm,Tm] at h;cases a with
 | mk ad => cases b with
   | mk bd=>exact congrArg ByteArray.mk (Array.toList_inj.1 h)
theorem fT:oG lsS where
 irrefl _:=nC _
 trans _ _ _ h1 h2:=oL _ _ _ h1 h2
 total _ _ h1 h2:=zZ (oM _ _ h1 h2)
theorem Mq {f:F} (h:f.len=0):f=.nil:=by
 cases f with
 | nil=>rfl
 | cons o m n k r=>simp [F.len] at h
theorem tM:∀ (f:F),f.len<=dC f
 | .nil=>Td _
 | .cons o m n ks r => by
   have a:=tM r;rw [F.len,dC];omega
theorem aT (w:World):Below w.heap.size w w.drew:=⟨rfl,rfl,rfl,Td _,fun _ _=>rfl⟩
theorem fU.at {P:TN->Prop}:∀ {f:F} {j:Nat} {t:TN},fU P f->f.at j=some t->P t
 | .nil,_,_,_,h=>by cases h
 | .cons o m n ks r, 0, t, hp, h => by
   have:(⟨o,m,n,ks⟩:TN)=t:=Option.some.inj h;rw [<- this];exact hp.1
 | .cons _ _ _ _ r,j+1,t,hp,h=>fU.at (f:=r) hp.2 h
theorem Dc {P:TN->Prop} (step:∀ t:TN,fU P t.ks->P t):∀ f:F,fU P f
 | .nil=>trivial
 | .cons o m n ks r=>⟨step ⟨o,m,n,ks⟩ (Dc step ks),Dc step r⟩
theorem qA {P:TN->Prop} (a:∀ t:TN,fU P t.ks->P t) (t:TN):P t:=a t (Dc a t.ks)
theorem cP {G:Nat->Prop} {w:World} {a:Tp} {ks:F} {j:Nat} {t:TN} (h:aK G w a ks) (c:ks.at j=some t) :
 ∃ b off a2 c2,a=some ⟨b,off,none⟩/\G b/\b<w.heap.size/\(w.cell? ⟨b,off+j*4,none⟩=some (.string t.op)/\w.cell? ⟨b,off+j*4+1,none⟩=some (.string t.nm)/\w.cell? ⟨b,off+j*4+2,none⟩=some (.int .i64 t.n)/\w.cell? ⟨b,off+j*4+3,none⟩=some (.slice a2 t.ks.len c2))/\aK G w a2 t.ks:=by
 rcases h with rfl | ⟨b,off,ha,h⟩
 · cases c
 · have d:j<ks.len:=by
    rcases Nat.lt_or_ge j ks.len with h' | h'
    · exact h'
    · exfalso
      have:∀ (f:F) (j:Nat),f.len<=j->f.at j=none:=by
       intro f;induction f with
       | nil=>intro j _;rfl
       | cons o m n k r _ ih => intro j c; cases j with
         | zero=>simp [F.len] at c
         | succ j=>exact ih j (by simp [F.len] at c;omega)
      rw [this ks j h'] at c;cases c
   obtain ⟨x,g,q⟩:=F.drop_at ks j d;rw [c] at g;obtain rfl:=Option.some.inj g;have hd:=h.drop j;rw [q] at hd;obtain ⟨u,s,⟨a2,c2,p,l⟩,_⟩:=hd;exact ⟨b,off,a2,c2,ha,u,s,p,l⟩
theorem eV {ks:F} {j:Nat} (h:j<ks.len):∃ t,ks.at j=some t/\ks.drop j=.cons t.op t.nm t.n t.ks (ks.drop (j+1)):=F.drop_at ks j h
theorem Mv (o:Tr) (w:World):Calls prog 182 #[.string o] w fun e w'=>e=.returned (.int .i64 (cV o))/\w=w':=by
 have E:cV o=if (o.toList == [110,117,109] || o.toList == [110,97,109,101])=true then 0 else if (o.toList == [110,101,103])=true then 1 else if (o.toList == [43] || o.toList == [45] || o.toList == [42] || o.toList == [47] || o.toList == [37])=true then 2 else -1:=by
  unfold cV bZ bT fM lF l6 iR iQ;rw [Tm]
 cases a:(o.toList == [110,117,109]) with
 | true =>
   have R:=aA (show cV o=0 by rw [E];simp [a]);clear E;go_enter func182,ntmps182
   go_wp2_with fail
   go_ret;rw [R.out];exact ⟨rfl,rfl⟩
 | false =>
   cases b:(o.toList == [110,97,109,101]) with
   | true =>
     have R:=aA (show cV o=0 by rw [E];simp [a,b]);clear E;go_enter func182,ntmps182
     go_wp2_with fail
     go_ret;rw [R.out];exact ⟨rfl,rfl⟩
   | false =>
     cases c:(o.toList == [110,101,103]) with
     | true =>
       have R:=aA (show cV o=1 by rw [E];simp [a,b,c]);clear E;go_enter func182,ntmps182
       go_wp2_with fail
       go_ret;rw [R.out];exact ⟨rfl,rfl⟩
     | false =>
       cases d:(o.toList == [43]) with
       | true =>
         have R:=aA (show cV o=2 by rw [E];simp [a,b,c,d]);clear E;go_enter func182,ntmps182
         go_wp2_with fail
         go_ret;rw [R.out];exact ⟨rfl,rfl⟩
       | false =>
         cases f:(o.toList == [45]) with
         | true =>
           have R:=aA (show cV o=2 by rw [E];simp [a,b,c,d,f]);clear E;go_enter func182,ntmps182
           go_wp2_with fail
           go_ret;rw [R.out];exact ⟨rfl,rfl⟩
         | false =>
           cases g:(o.toList == [42]) with
           | true =>
             have R:=aA (show cV o=2 by rw [E];simp [a,b,c,d,f,g]);clear E;go_enter func182,ntmps182
             go_wp2_with fail
             go_ret;rw [R.out];exact ⟨rfl,rfl⟩
           | false =>
             cases h:(o.toList == [47]) with
             | true =>
               have R:=aA (show cV o=2 by rw [E];simp [a,b,c,d,f,g,h]);clear E;go_enter func182,ntmps182
               go_wp2_with fail
               go_ret;rw [R.out];exact ⟨rfl,rfl⟩
             | false =>
               cases j:(o.toList == [37]) with
               | true =>
                 have R:=aA (show cV o=2 by rw [E];simp [a,b,c,d,f,g,h,j]);clear E;go_enter func182,ntmps182
                 go_wp2_with fail
                 go_ret;rw [R.out];exact ⟨rfl,rfl⟩
               | false =>
                 have R:=aA (show cV o= -1 by rw [E];simp [a,b,c,d,f,g,h,j]);clear E;go_enter func182,ntmps182
                 go_wp2_with fail
                 go_ret;rw [R.out];exact ⟨rfl,rfl⟩
def Dn:F->Prop
 | .nil=>True
 | .cons _ _ _ ks r=>ks.len<=9223372036854775807/\Dn ks/\Dn r
theorem Dn.at:∀ {f:F} {j:Nat} {t:TN},Dn f->f.at j=some t->Dn t.f
 | .nil,_,_,_,h=>by cases h
 | .cons o m n ks r, 0, t, hp, h => by
   have:(⟨o,m,n,ks⟩:TN)=t:=Option.some.inj h;rw [<- this];exact ⟨hp.1,hp.2.1,trivial⟩
 | .cons _ _ _ _ r,j+1,t,hp,h=>Dn.at (f:=r) hp.2.2 h
theorem GS:∀ (f:F) (l:Int), -1<=l -> -1<=jD f l
 | .nil,l,h=>h
 | .cons _ _ _ ks r, l, h => by
   rw [jD];split
   · exact h
   · exact GS r _ (GS ks _ (by omega))
def Ob (t:TN):Prop:=∀ (G:Nat->Prop) (w:World) (a:Tp) (c:Nat) (l:Int),0<=l->l<=1000->Dn t.f->aK G w a t.ks->Calls prog 126 #[bN t.op t.nm t.n a t.ks.len c,.int .i64 l] w fun e w'=>e=.returned (.int .i64 (jD t.ks (l-1)))/\Below w.heap.size w w'
theorem Np (t:TN) (A:fU Ob t.ks):Ob t:=by
 intro G w a c l U T X hr;have R:=aA hr;have IH:=aA A;obtain ⟨hm,h, -⟩:=X;have LK:=aA h;obtain ⟨r,q⟩:∃ r,jD t.ks (l-1)=r:=⟨_,rfl⟩;rw [q];have H0:=aA (show jD (t.ks.drop 0) (l-1)=r by rw [F.drop_zero];exact q);have H:=aA (heap_alloc_new w (ndO t.op t.nm t.n a t.ks.len c));have L:=aA (bA0 w (ndO t.op t.nm t.n a t.ks.len c));clear hr A q h;go_enter func126,ntmps126
 go_wp2_with fail
 generalize w.alloc (ndO t.op t.nm t.n a t.ks.len c)=W at H L |-
 go_loopw [1,5] (fun v i wr=>∃ (k:Nat) (x:Int),i=.int .i64 k/\v=.int .i64 x/\k<=t.ks.len /\ -1<=x/\x<=1000/\Hid (jD (t.ks.drop k) x=r)/\Hid (Below w.heap.size w wr)/\Hid (wr.heap[w.heap.size]? = some (ndO t.op t.nm t.n a t.ks.len c))) (fun _ i _=>t.ks.len-(intOf i).toNat)
 case atStart=>exact ⟨0,l-1,rfl,rfl,Nat.zero_le _,by omega,by omega,H0,L,H⟩
 case round =>
  obtain ⟨k,x,rfl,rfl,hk,S,m,u,j,s⟩:=hrel;obtain ⟨⟨P,O,N,M⟩, -⟩:=aL s.out;by_cases o:k<t.ks.len
  · obtain ⟨t2,d,f⟩:=eV o
    by_cases hx:x<0
    · have z:=aA (show x=r by rw [<- u.out,f,jD,if_pos hx])
      have E:¬ (0:Int)<=x:=by omega
      clear d f hx;go_wp2_with fail
      go_ret;rw [z.out];exact ⟨rfl,j.out⟩
    · have E:(0:Int)<=x:=by omega
      obtain ⟨b,off,a2,c2,ha,hG,V,⟨p0,p1,p2,p3⟩,g⟩:=cP (R.out.kept j.out) d;have I:=aA (show jD (t.ks.drop (k+1)) (jD t2.ks (x-1))=r by rw [<- u.out,f,jD,if_neg hx]);have C:=aA ((fU.at IH.out d) G wr a2 c2 x E m (LK.out.at d) g);have D:=GS t2.ks (x-1) (by omega);have Y:=uY t2.ks (x-1);subst ha;obtain ⟨y,B⟩:∃ y,jD t2.ks (x-1)=y:=⟨_,rfl⟩;rw [B] at C I D Y;clear d f hx g B;go_wp2_with fail
      refine C.out.mono ?_;rintro e w1 ⟨rfl,p⟩;have hz:=j.out.size;have B1:=aA (j.out.trans (p.mono hz));have Z:=aA ((p.block _ (aG s.out)).trans s.out);clear p C P O N M;go_wp2_with fail
      go_roundw
      case rel=>exact ⟨k+1,y,by go_num,rfl,by omega,D,by omega,I,B1,Z⟩
      case measure=>simp [intOf];omega
  · have z:=aA (show x=r by rw [<- u.out,F.drop_len _ _ (by omega)];rfl)
    go_wp2_with fail
    go_ret;rw [z.out];exact ⟨rfl,j.out⟩
theorem Qh (t:TN):Ob t:=qA Np t
def SzF:F->Prop
 | .nil=>True
 | .cons _ m _ ks r=>m.size<=281474976710656/\ks.len<=9223372036854775807/\SzF ks/\SzF r
theorem SzF.at:∀ {f:F} {j:Nat} {t:TN},SzF f->f.at j=some t->SzF t.f
 | .nil,_,_,_,h=>by cases h
 | .cons o m n ks r, 0, t, hp, h => by
   have:(⟨o,m,n,ks⟩:TN)=t:=Option.some.inj h;rw [<- this];exact ⟨hp.1,hp.2.1,hp.2.2.1,trivial⟩
 | .cons _ _ _ _ r,j+1,t,hp,h=>SzF.at (f:=r) hp.2.2.2 h
theorem SzF.lens:∀ {f:F},SzF f->Dn f
 | .nil,_=>trivial
 | .cons _ _ _ _ _,h=>⟨h.2.1,h.2.2.1.lens,h.2.2.2.lens⟩
theorem zX {f:F} {t:TN} {r:F} (h:f=.cons t.op t.nm t.n t.ks r):bK f=if bK t.f=0 then bK r else bK t.f:=by
 rw [h,bK,pR];by_cases a:mZ t.op t.nm t.n t.ks.len=0
 · rw [if_pos a,if_pos a]
 · rw [if_neg a,if_neg a,if_neg a]
def Oc (t:TN):Prop:=∀ (G:Nat->Prop) (w:World) (a:Tp) (c:Nat),SzF t.f->aK G w a t.ks->Calls prog 127 #[bN t.op t.nm t.n a t.ks.len c] w fun e w'=>e=.returned (.int .i64 (bK t.f))/\Below w.heap.size w w'
theorem Nq (t:TN) (ih:fU Oc t.ks):Oc t:=by
 intro G w a c hS hr;have R:=aA hr;have IH:=aA ih;obtain ⟨hn,hm,jb, -⟩:=hS;have LK:=aA jb;obtain ⟨r,I⟩:∃ r,bK t.f=r:=⟨_,rfl⟩;rw [I];rw [pR] at I;have o:=aA (heap_alloc_new w (ndO t.op t.nm t.n a t.ks.len c));have D:=aA (bA0 w (ndO t.op t.nm t.n a t.ks.len c))
 have g:mZ t.op t.nm t.n t.ks.len=if (cV t.op != (t.ks.len:Int))=true then 2 else if ((t.op.toList == [110,97,109,101]) && !cD t.nm.data.toList)=true then 5 else if ((t.op.toList == [110,117,109]) && decide (t.n<0))=true then 1 else 0:=by
  unfold mZ bT bZ l6 iR;rw [Tm]
 obtain ⟨ar,ja⟩:∃ ar,cV t.op=ar:=⟨_,rfl⟩;have X:=aA (fun V=>Mv t.op V);rw [ja] at X g;obtain ⟨gd,Y⟩:∃ gd,cD t.nm.data.toList=gd:=⟨_,rfl⟩;have NC:=aA (fun V=>A9 t.nm hn V);rw [Y] at NC g;clear hr ih jb Y ja;obtain ⟨p,hp⟩:∃ p,(t.op.toList == [110,97,109,101])=p:=⟨_,rfl⟩;obtain ⟨q,hq⟩:∃ q,(t.op.toList == [110,117,109])=q:=⟨_,rfl⟩;rw [hp,hq] at g;by_cases h1:ar=(t.ks.len:Int)
 · subst h1
   rw [if_neg (by simp)] at g;cases p with
   | true =>
     obtain rfl:q=false:=by
      rw [<- hq,eq_of_beq hp];rfl
     cases gd with
     | false =>
       have z:=aA (show (5:Int)=r by rw [<- I,g];rfl);clear I g;go_enter func127,ntmps127
       go_wp2_with fail
       generalize w.alloc (ndO t.op t.nm t.n a t.ks.len c)=W at o D |-
       obtain ⟨⟨m,l,j,h⟩, -⟩:=aL o.out;go_wp2_with (go_quiet ((first | (go_at_call 182;refine (X.out _).mono ?_;rintro e T ⟨M,rfl⟩;exact ⟨M,_,rfl⟩) | fail)))
       have A:=aA (show (W.drewN nq).heap[w.heap.size]? = some (ndO t.op t.nm t.n a t.ks.len c) from o.out);have H:=aA (cL D.out nq);generalize W.drewN nq=W1 at A H |-
       clear o D m l j h;obtain ⟨⟨m,l,j,h⟩, -⟩:=aL A.out;go_wp2_with fail
       refine (NC.out _).mono ?_;rintro e T ⟨rfl,rfl⟩;go_wp2_with fail
       go_ret;rw [z.out];exact ⟨rfl,H.out⟩
     | true =>
       have H0:=aA (show bK (t.ks.drop 0)=r by rw [F.drop_zero, <- I,g];rfl);clear I g;go_enter func127,ntmps127
       go_wp2_with fail
       generalize w.alloc (ndO t.op t.nm t.n a t.ks.len c)=W at o D |-
       obtain ⟨⟨m,l,j,h⟩, -⟩:=aL o.out;go_wp2_with (go_quiet ((first | (go_at_call 182;refine (X.out _).mono ?_;rintro e T ⟨M,rfl⟩;exact ⟨M,_,rfl⟩) | fail)))
       have A:=aA (show (W.drewN nq).heap[w.heap.size]? = some (ndO t.op t.nm t.n a t.ks.len c) from o.out);have H:=aA (cL D.out nq);generalize W.drewN nq=W1 at A H |-
       clear o D m l j h;obtain ⟨⟨m,l,j,h⟩, -⟩:=aL A.out;go_wp2_with fail
       refine (NC.out _).mono ?_;rintro e T ⟨rfl,rfl⟩;go_wp2_with fail
       go_loopw [3] (fun i wr=>∃ (k:Nat),i=.int .i64 k/\k<=t.ks.len/\Hid (bK (t.ks.drop k)=r)/\Hid (Below w.heap.size w wr)/\Hid (wr.heap[w.heap.size]? = some (ndO t.op t.nm t.n a t.ks.len c))) (fun i _=>t.ks.len-(intOf i).toNat)
       case atStart=>exact ⟨0,rfl,Nat.zero_le _,H0,H,A⟩
       case round =>
        obtain ⟨k,rfl,hk,g,E,O⟩:=hrel;clear m l j h;obtain ⟨⟨m,l,j,h⟩, -⟩:=aL O.out;by_cases L:k<t.ks.len
        · obtain ⟨t2,d,x⟩:=eV L
          obtain ⟨b,off,a2,c2,ha,hG,Z,⟨p0,p1,p2,p3⟩,u⟩:=cP (R.out.kept E.out) d;have B:=aA (show (if bK t2.f=0 then bK (t.ks.drop (k+1)) else bK t2.f)=r from (zX x).symm.trans g.out);have C:=aA ((fU.at IH.out d) G wr a2 c2 (LK.out.at d) u);subst ha;obtain ⟨y,s⟩:∃ y,bK t2.f=y:=⟨_,rfl⟩;rw [s] at C B;clear d x u s;go_wp2_with fail
          refine C.out.mono ?_;rintro e w2 ⟨rfl,N⟩;have hz:=E.out.size;have S:=aA (E.out.trans (N.mono hz));have N2:=aA ((N.block _ (aG O.out)).trans O.out);clear N C m l j h;by_cases s:y=0
          · subst s
            have P:=aA (B.out.symm.trans (if_pos rfl)).symm;clear B;go_wp2_with fail
            go_roundw
            case rel=>exact ⟨k+1,by go_num,by omega,P,S,N2⟩
            case measure=>simp [intOf];omega
          · have z:=aA (show y=r by rw [<- B.out,if_neg s])
            clear B;go_wp2_with fail
            go_ret;rw [z.out];exact ⟨rfl,S.out⟩
        · have z:=aA (show (0:Int)=r by rw [<- g.out,F.drop_len _ _ (by omega)];rfl)
          go_wp2_with fail
          go_ret;rw [z.out];exact ⟨rfl,E.out⟩
   | false =>
     by_cases U:(q && decide (t.n<0))=true
     · obtain ⟨rfl,h3⟩:q=true/\t.n<0:=by simpa using U
       have z:=aA (show (1:Int)=r by rw [<- I,g,if_neg (show ¬ (false && !gd)=true by simp),if_pos U,if_neg (by decide)]);clear I g U;go_enter func127,ntmps127
       go_wp2_with fail
       generalize w.alloc (ndO t.op t.nm t.n a t.ks.len c)=W at o D |-
       obtain ⟨⟨m,l,j,h⟩, -⟩:=aL o.out;go_wp2_with (go_quiet ((first | (go_at_call 182;refine (X.out _).mono ?_;rintro e T ⟨M,rfl⟩;exact ⟨M,_,rfl⟩) | fail)))
       have A:=aA (show (W.drewN nq).heap[w.heap.size]? = some (ndO t.op t.nm t.n a t.ks.len c) from o.out);have H:=aA (cL D.out nq);generalize W.drewN nq=W1 at A H |-
       clear o D m l j h;obtain ⟨⟨m,l,j,h⟩, -⟩:=aL A.out;go_wp2_with fail
       go_ret;rw [z.out];exact ⟨rfl,H.out⟩
     · rw [if_neg (show ¬ (false && !gd)=true by simp),if_neg U] at g
       have H0:=aA (show bK (t.ks.drop 0)=r by rw [F.drop_zero, <- I,g];rfl);cases q with
       | false =>
         clear I g U;go_enter func127,ntmps127
         go_wp2_with fail
         generalize w.alloc (ndO t.op t.nm t.n a t.ks.len c)=W at o D |-
         obtain ⟨⟨m,l,j,h⟩, -⟩:=aL o.out;go_wp2_with (go_quiet ((first | (go_at_call 182;refine (X.out _).mono ?_;rintro e T ⟨M,rfl⟩;exact ⟨M,_,rfl⟩) | fail)))
         have A:=aA (show (W.drewN nq).heap[w.heap.size]? = some (ndO t.op t.nm t.n a t.ks.len c) from o.out);have H:=aA (cL D.out nq);generalize W.drewN nq=W1 at A H |-
         clear o D m l j h;obtain ⟨⟨m,l,j,h⟩, -⟩:=aL A.out;go_wp2_with fail
         go_loopw [3] (fun i wr=>∃ (k:Nat),i=.int .i64 k/\k<=t.ks.len/\Hid (bK (t.ks.drop k)=r)/\Hid (Below w.heap.size w wr)/\Hid (wr.heap[w.heap.size]? = some (ndO t.op t.nm t.n a t.ks.len c))) (fun i _=>t.ks.len-(intOf i).toNat)
         case atStart=>exact ⟨0,rfl,Nat.zero_le _,H0,H,A⟩
         case round =>
          obtain ⟨k,rfl,hk,g,E,O⟩:=hrel;clear m l j h;obtain ⟨⟨m,l,j,h⟩, -⟩:=aL O.out;by_cases L:k<t.ks.len
          · obtain ⟨t2,d,x⟩:=eV L
            obtain ⟨b,off,a2,c2,ha,hG,Z,⟨p0,p1,p2,p3⟩,u⟩:=cP (R.out.kept E.out) d;have B:=aA (show (if bK t2.f=0 then bK (t.ks.drop (k+1)) else bK t2.f)=r from (zX x).symm.trans g.out);have C:=aA ((fU.at IH.out d) G wr a2 c2 (LK.out.at d) u);subst ha;obtain ⟨y,s⟩:∃ y,bK t2.f=y:=⟨_,rfl⟩;rw [s] at C B;clear d x u s;go_wp2_with fail
            refine C.out.mono ?_;rintro e w2 ⟨rfl,N⟩;have hz:=E.out.size;have S:=aA (E.out.trans (N.mono hz));have N2:=aA ((N.block _ (aG O.out)).trans O.out);clear N C m l j h;by_cases s:y=0
            · subst s
              have P:=aA (B.out.symm.trans (if_pos rfl)).symm;clear B;go_wp2_with fail
              go_roundw
              case rel=>exact ⟨k+1,by go_num,by omega,P,S,N2⟩
              case measure=>simp [intOf];omega
            · have z:=aA (show y=r by rw [<- B.out,if_neg s])
              clear B;go_wp2_with fail
              go_ret;rw [z.out];exact ⟨rfl,S.out⟩
          · have z:=aA (show (0:Int)=r by rw [<- g.out,F.drop_len _ _ (by omega)];rfl)
            go_wp2_with fail
            go_ret;rw [z.out];exact ⟨rfl,E.out⟩
       | true =>
         have h3:¬ t.n<0:=by simpa using U
         clear I g U;go_enter func127,ntmps127
         go_wp2_with fail
         generalize w.alloc (ndO t.op t.nm t.n a t.ks.len c)=W at o D |-
         obtain ⟨⟨m,l,j,h⟩, -⟩:=aL o.out;go_wp2_with (go_quiet ((first | (go_at_call 182;refine (X.out _).mono ?_;rintro e T ⟨M,rfl⟩;exact ⟨M,_,rfl⟩) | fail)))
         have A:=aA (show (W.drewN nq).heap[w.heap.size]? = some (ndO t.op t.nm t.n a t.ks.len c) from o.out);have H:=aA (cL D.out nq);generalize W.drewN nq=W1 at A H |-
         clear o D m l j h;obtain ⟨⟨m,l,j,h⟩, -⟩:=aL A.out;go_wp2_with fail
         go_loopw [3] (fun i wr=>∃ (k:Nat),i=.int .i64 k/\k<=t.ks.len/\Hid (bK (t.ks.drop k)=r)/\Hid (Below w.heap.size w wr)/\Hid (wr.heap[w.heap.size]? = some (ndO t.op t.nm t.n a t.ks.len c))) (fun i _=>t.ks.len-(intOf i).toNat)
         case atStart=>exact ⟨0,rfl,Nat.zero_le _,H0,H,A⟩
         case round =>
          obtain ⟨k,rfl,hk,g,E,O⟩:=hrel;clear m l j h;obtain ⟨⟨m,l,j,h⟩, -⟩:=aL O.out;by_cases L:k<t.ks.len
          · obtain ⟨t2,d,x⟩:=eV L
            obtain ⟨b,off,a2,c2,ha,hG,Z,⟨p0,p1,p2,p3⟩,u⟩:=cP (R.out.kept E.out) d;have B:=aA (show (if bK t2.f=0 then bK (t.ks.drop (k+1)) else bK t2.f)=r from (zX x).symm.trans g.out);have C:=aA ((fU.at IH.out d) G wr a2 c2 (LK.out.at d) u);subst ha;obtain ⟨y,s⟩:∃ y,bK t2.f=y:=⟨_,rfl⟩;rw [s] at C B;clear d x u s;go_wp2_with fail
            refine C.out.mono ?_;rintro e w2 ⟨rfl,N⟩;have hz:=E.out.size;have S:=aA (E.out.trans (N.mono hz));have N2:=aA ((N.block _ (aG O.out)).trans O.out);clear N C m l j h;by_cases s:y=0
            · subst s
              have P:=aA (B.out.symm.trans (if_pos rfl)).symm;clear B;go_wp2_with fail
              go_roundw
              case rel=>exact ⟨k+1,by go_num,by omega,P,S,N2⟩
              case measure=>simp [intOf];omega
            · have z:=aA (show y=r by rw [<- B.out,if_neg s])
              clear B;go_wp2_with fail
              go_ret;rw [z.out];exact ⟨rfl,S.out⟩
          · have z:=aA (show (0:Int)=r by rw [<- g.out,F.drop_len _ _ (by omega)];rfl)
            go_wp2_with fail
            go_ret;rw [z.out];exact ⟨rfl,E.out⟩
 · have z:=aA (show (2:Int)=r by rw [<- I,g,if_pos (show (ar != (t.ks.len:Int))=true by simpa using h1),if_neg (by decide)])
   clear I g;go_enter func127,ntmps127
   go_wp2_with fail
   generalize w.alloc (ndO t.op t.nm t.n a t.ks.len c)=W at o D |-
   obtain ⟨⟨m,l,j,h⟩, -⟩:=aL o.out;go_wp2_with (go_quiet ((first | (go_at_call 182;refine (X.out _).mono ?_;rintro e T ⟨M,rfl⟩;exact ⟨M,_,rfl⟩) | fail)))
   go_ret;rw [z.out];exact ⟨rfl,cL D.out _⟩
-- behind check
theorem Qj (t:TN):Oc t:=qA Nq t
theorem nN {G:Nat->Prop} {w:World} {a:Tp} {t:TN} (c:Nat) (u:SzF t.f) (hr:aK G w a t.ks):Calls prog 68 #[bN t.op t.nm t.n a t.ks.len c] w fun e w'=>e=.returned (.int .i64 (aW t))/\Below w.heap.size w w':=by
 have R:=aA hr;have A:=aA (fun V (s:Below w.heap.size w V)=>Qh t G V a c 32 (by decide) (by decide) u.lens (hr.kept s));have C:=aA (fun V (s:Below w.heap.size w V)=>Qj t G V a c u (hr.kept s));obtain ⟨r,g⟩:∃ r,aW t=r:=⟨_,rfl⟩;rw [g];unfold aW at g;obtain ⟨x,hx⟩:∃ x,jD t.ks 31=x:=⟨_,rfl⟩;obtain ⟨y,q⟩:∃ y,bK t.f=y:=⟨_,rfl⟩;rw [show (32:Int)-1=31 from rfl,hx] at A;rw [hx,q] at g;rw [q] at C;have d:=aA (bA0 w (ndO t.op t.nm t.n a t.ks.len c));have j:=aA (heap_alloc_new w (ndO t.op t.nm t.n a t.ks.len c));clear hx q u hr;by_cases h:x<0
 · have z:=aA (show (4:Int)=r by rw [<- g,if_pos h])
   clear g;go_enter func68,ntmps68
   go_wp2_with fail
   generalize w.alloc (ndO t.op t.nm t.n a t.ks.len c)=W at j d |-
   obtain ⟨⟨p,o,m,l⟩, -⟩:=aL j.out;go_wp2_with fail
   refine (A.out W d.out).mono ?_;rintro e B ⟨rfl,b⟩;have k:=aA (d.out.trans (b.mono d.out.size));clear b;go_wp2_with fail
   go_ret;rw [z.out];exact ⟨rfl,k.out⟩
 · have z:=aA (show y=r by rw [<- g,if_neg h])
   clear g;go_enter func68,ntmps68
   go_wp2_with fail
   generalize w.alloc (ndO t.op t.nm t.n a t.ks.len c)=W at j d |-
   obtain ⟨⟨p,o,m,l⟩, -⟩:=aL j.out;go_wp2_with fail
   refine (A.out W d.out).mono ?_;rintro e B ⟨rfl,b⟩;have k:=aA (d.out.trans (b.mono d.out.size));have D:=aA ((b.block _ (aG j.out)).trans j.out);clear b p o m l;obtain ⟨⟨p,o,m,l⟩, -⟩:=aL D.out;go_wp2_with fail
   refine (C.out B k.out).mono ?_;rintro e H ⟨rfl,b⟩;have E:=aA (k.out.trans (b.mono k.out.size));clear b;go_wp2_with fail
   go_ret;rw [z.out];exact ⟨rfl,E.out⟩
theorem t8 {f:F} {j:Nat} {t:TN} (h:f.at j=some t):dC (f.drop j)=aR t+dC (f.drop (j+1)):=by
 have a:j<f.len:=by
  rcases Nat.lt_or_ge j f.len with h' | h'
  · exact h'
  · exfalso
    have:∀ (f:F) (j:Nat),f.len<=j->f.at j=none:=by
     intro f;induction f with
     | nil=>intro j _;rfl
     | cons o m n k r _ ih => intro j b; cases j with
       | zero=>simp [F.len] at b
       | succ j=>exact ih j (by simp [F.len] at b;omega)
    rw [this f j h'] at h;cases h
 obtain ⟨g,c,d⟩:=F.drop_at f j a;rw [h] at c;obtain rfl:=Option.some.inj c;rw [d,dC];rfl
theorem QA {f:F} {j:Nat} {t:TN} (h:f.at j=some t):j<f.len:=by
 rcases Nat.lt_or_ge j f.len with h' | h'
 · exact h'
 · exfalso
   have:∀ (f:F) (j:Nat),f.len<=j->f.at j=none:=by
    intro f;induction f with
    | nil=>intro j _;rfl
    | cons o m n k r _ ih => intro j a; cases j with
      | zero=>simp [F.len] at a
      | succ j=>exact ih j (by simp [F.len] at a;omega)
   rw [this f j h'] at h;cases h
theorem jX:∀ (f:F) (j:Nat),dC (f.drop j)<=dC f
 | f,0=>by rw [F.drop_zero];exact Td _
 | .nil,_+1=>Td _
 | .cons o m n k r, j + 1 => by
   have h:=jX r j;rw [F.drop,dC];omega
theorem mR {w:World} {b:Nat} {v:Value} {t:TypeId} (h:w.heap[b]? = some (.cells #[v] t (0,0))):w.cell? ⟨b,0,none⟩=some v/\w.frozen? ⟨b,0,none⟩=false:=by
 constructor <;> simp [World.cell?,World.frozen?,h]
theorem Hp {w:World} {b:Nat} {v:Value} {t:TypeId} (h:w.heap[b]? = some (.cells #[v] t (0,0))) (u:Value):(w.setCell ⟨b,0,none⟩ u).heap[b]? = some (.cells #[u] t (0,0)):=by
 have:=heap_setCell_same w b 0 _ t u h;simpa using this
def uN:List TN->List (Tp×Nat)->List Value
 | t::r,q::s=>ndL t q++uN r s
 | _,_=>[]
theorem Eu:∀ (l m:List TN) (q p:List (Tp×Nat)),q.length=l.length->uN (l++m) (q++p)=uN l q++uN m p
 | [],_,[],_,_=>rfl
 | [],_,_::_,_,h=>by simp at h
 | _::r,m,_::s,p,h=>by rw [List.cons_append,List.cons_append,uN,uN,Eu r m s p (by simpa using h),List.append_assoc]
 | _::_,_,[],_,h=>by simp at h
end Go.Proofs.YtgfkjkokmcejbaaGreatDoor
