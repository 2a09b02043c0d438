/-
 No statement: what ProgTwoLift needs, of the texts OE7.
-/
import Derived.Test.YtgfkjkokmcejbaaGreatDoorVT5
set_option maxHeartbeats 40000000
set_option maxRecDepth 100000
namespace Go.Proofs.YtgfkjkokmcejbaaGreatDoor
open Go.RowKit
section
section
open Go.RowKit
structure SR where
 pos:Nat
 opn:Nat
 cnt:Nat
 sg:List (List UInt8×Nat)
 dn:List TN
inductive uR | bad (p:Nat) (e:Int) | ok (s:SR)
def qM (o:List UInt8) (dn:List TN):List TN :=
 if o=jE then (match dn with
  | a::r=>oY a::r
  | []=>[])
 else match dn with
  | b::a::r=>fB o a b::r
  | _=>[]
def cP (h:Nat):List (List UInt8×Nat)->List TN->List (List UInt8×Nat)×List TN
 | [],dn=>([],dn)
 | (o,k)::sg,dn=>if h<=k then cP h sg (qM o dn) else ((o,k)::sg,dn)
def cW (L:List Tk) (p:Nat):Nat:=if isA L p=true then 1 else if isM L p=true then 2 else 0
def run (L:List Tk):Nat->Bool->SR->uR
 | 0,_,s=>.bad s.pos 2
 | f + 1, true, s =>
   if isS L [40] s.pos=true then run L f true ⟨s.pos+1,s.opn+1,s.cnt,s.sg,s.dn⟩
   else if isS L [45] s.pos=true then (if s.cnt=32 then .bad s.pos 4 else run L f true ⟨s.pos+1,s.opn,s.cnt+1,(jE,3+s.opn*3)::s.sg,s.dn⟩)
   else match L[s.pos]? with
    | none=>.bad s.pos 2
    | some t =>
      if t.kind=2/\0<=t.num then (if s.cnt=32 then .bad s.pos 4 else run L f false ⟨s.pos+1,s.opn,s.cnt+1,s.sg,sU t.num::s.dn⟩)
      else if t.kind=1/\bH t.text=true then (if s.cnt=32 then .bad s.pos 4 else run L f false ⟨s.pos+1,s.opn,s.cnt+1,s.sg,e9 t.text::s.dn⟩)
      else .bad s.pos 2
 | f + 1, false, s =>
   if 0<s.opn/\isS L [41] s.pos=true then run L f false ⟨s.pos+1,s.opn-1,s.cnt,s.sg,s.dn⟩
   else if cW L s.pos=0 then (if 0<s.opn then .bad s.pos 2 else .ok s)
   else if s.cnt=32 then .bad s.pos 4
   else run L f true ⟨s.pos+1,s.opn,s.cnt+1,(dW L s.pos,cW L s.pos+s.opn*3)::(cP (cW L s.pos+s.opn*3) s.sg s.dn).1,(cP (cW L s.pos+s.opn*3) s.sg s.dn).2⟩
def fC (L:List Tk) (m:Bool) (s:SR):uR:=run L (L.length+1-s.pos) m s
theorem Dx {L:List Tk} {s:SR} (hp:s.pos<=L.length):fC L true s =
 if isS L [40] s.pos=true then fC L true ⟨s.pos+1,s.opn+1,s.cnt,s.sg,s.dn⟩
 else if isS L [45] s.pos=true then (if s.cnt=32 then .bad s.pos 4 else fC L true ⟨s.pos+1,s.opn,s.cnt+1,(jE,3+s.opn*3)::s.sg,s.dn⟩)
 else match L[s.pos]? with
  | none=>.bad s.pos 2
  | some t =>
    if t.kind=2/\0<=t.num then (if s.cnt=32 then .bad s.pos 4 else fC L false ⟨s.pos+1,s.opn,s.cnt+1,s.sg,sU t.num::s.dn⟩)
    else if t.kind=1/\bH t.text=true then (if s.cnt=32 then .bad s.pos 4 else fC L false ⟨s.pos+1,s.opn,s.cnt+1,s.sg,e9 t.text::s.dn⟩)
    else .bad s.pos 2:=by
 unfold fC;rw [show L.length+1-s.pos=(L.length-s.pos)+1 by omega,run];simp only [show L.length+1-(s.pos+1)=L.length-s.pos by omega]
theorem mA {L:List Tk} {s:SR} (hp:s.pos<=L.length):fC L false s =
 if 0<s.opn/\isS L [41] s.pos=true then fC L false ⟨s.pos+1,s.opn-1,s.cnt,s.sg,s.dn⟩
 else if cW L s.pos=0 then (if 0<s.opn then .bad s.pos 2 else .ok s)
 else if s.cnt=32 then .bad s.pos 4
 else fC L true ⟨s.pos+1,s.opn,s.cnt+1,(dW L s.pos,cW L s.pos+s.opn*3)::(cP (cW L s.pos+s.opn*3) s.sg s.dn).1,(cP (cW L s.pos+s.opn*3) s.sg s.dn).2⟩:=by
 unfold fC;rw [show L.length+1-s.pos=(L.length-s.pos)+1 by omega,run];simp only [show L.length+1-(s.pos+1)=L.length-s.pos by omega]
theorem mM {h:Nat} {sg:List (List UInt8×Nat)} (dn:List TN) (H:∀ x∈sg,x.2<h):cP h sg dn=(sg,dn):=by
 cases sg with
 | nil=>rfl
 | cons x sg =>
   obtain ⟨o,k⟩:=x;rw [cP,if_neg (by have:=H (o,k) (by simp);simp only at this;omega)]
theorem uH {h h':Nat} (hh:h<=h'):∀ (sg:List (List UInt8×Nat)) (dn:List TN),cP h (cP h' sg dn).1 (cP h' sg dn).2=cP h sg dn
 | [],dn=>rfl
 | (o, k) :: sg, dn => by
   rw [cP];by_cases hk:h'<=k
   · rw [if_pos hk,uH hh sg,cP,if_pos (by omega)]
   · rw [if_neg hk]
theorem qL {h h':Nat} (hh:h<=h') {sg sg2:List (List UInt8×Nat)} {dn dn2:List TN} (H:cP h' sg2 dn2=cP h' sg dn):cP h sg2 dn2=cP h sg dn:=by
 rw [<- uH hh sg2, <- uH hh sg,H]
def Sim (L:List Tk) (h d:Nat) (sg:List (List UInt8×Nat)) (dn:List TN) (C:Nat->Prop) (R:uR) (x:TN×RS):Prop :=
 (¬ x.2.bad=0->R=.bad x.2.whr x.2.bad) /\
 (x.2.bad=0->C x.2.pos/\x.2.pos<=L.length/\x.2.cnt<=32/\∃ sg3 dn3,R=fC L false ⟨x.2.pos,d,x.2.cnt,sg3,dn3⟩/\cP h sg3 dn3=cP h sg (x.1::dn))
def RH (L:List Tk) (s:RS):Md->TN×RS->Prop
 | .fac,x=>∀ d sg dn,(∀ y∈sg,y.2<=3*d+3)->Sim L (3*d+3) d sg dn (fun _=>True) (fC L true ⟨s.pos,d,s.cnt,sg,dn⟩) x
 | .prod,x=>∀ d sg dn,(∀ y∈sg,y.2<3*d+2)->Sim L (3*d+2) d sg dn (fun p=>isM L p=false) (fC L true ⟨s.pos,d,s.cnt,sg,dn⟩) x
 | .sum,x=>∀ d sg dn,(∀ y∈sg,y.2<3*d+1)->Sim L (3*d+1) d sg dn (fun p=>isM L p=false/\isA L p=false) (fC L true ⟨s.pos,d,s.cnt,sg,dn⟩) x
 | .prodL n,x=>∀ d sg dn sg2 dn2,(∀ y∈sg,y.2<3*d+2)->cP (3*d+2) sg2 dn2=(sg,n::dn)->Sim L (3*d+2) d sg dn (fun p=>isM L p=false) (fC L false ⟨s.pos,d,s.cnt,sg2,dn2⟩) x
 | .sumL n,x=>isM L s.pos=false->∀ d sg dn sg2 dn2,(∀ y∈sg,y.2<3*d+1)->cP (3*d+1) sg2 dn2=(sg,n::dn)->Sim L (3*d+1) d sg dn (fun p=>isM L p=false/\isA L p=false) (fC L false ⟨s.pos,d,s.cnt,sg2,dn2⟩) x
theorem jG {L:List Tk} {x:List UInt8} {p:Nat} {t:Tk} (h:L[p]? = some t):isS L x p=(t.kind == 3 && t.text == x):=by
 unfold isS;rw [h]
theorem Cd {L:List Tk} {p:Nat} (h:isA L p=true):isS L [41] p=false/\isM L p=false:=by
 have hlt:=pB h;unfold isM;unfold isA at h;rw [jG (List.getElem?_eq_getElem hlt)] at h |-
 rw [jG (List.getElem?_eq_getElem hlt)] at h;rw [jG (List.getElem?_eq_getElem hlt),jG (List.getElem?_eq_getElem hlt),jG (List.getElem?_eq_getElem hlt)];simp only [Bool.or_eq_true,Bool.and_eq_true,beq_iff_eq] at h;rcases h with ⟨h1,h2⟩ | ⟨h1,h2⟩ <;> rw [h1,h2] <;> exact ⟨rfl,rfl⟩
theorem Cc {L:List Tk} {p:Nat} (h:isM L p=true):isS L [41] p=false/\isA L p=false:=by
 have hlt:=pA h;unfold isA;unfold isM at h;rw [jG (List.getElem?_eq_getElem hlt)] at h |-
 rw [jG (List.getElem?_eq_getElem hlt)] at h;rw [jG (List.getElem?_eq_getElem hlt)] at h;rw [jG (List.getElem?_eq_getElem hlt),jG (List.getElem?_eq_getElem hlt)];simp only [Bool.or_eq_true,Bool.and_eq_true,beq_iff_eq] at h;rcases h with (⟨h1,h2⟩ | ⟨h1,h2⟩) | ⟨h1,h2⟩ <;> rw [h1,h2] <;> exact ⟨rfl,rfl⟩
theorem iM {s:RS} (hb:s.bad=0) (h:s.cnt=32):(aH s).bad=4/\(aH s).whr=s.pos:=by
 unfold aH;rw [if_pos hb,if_pos (by omega)];exact ⟨rfl,rfl⟩
theorem lX {s:RS} (hb:s.bad=0) (h:s.cnt<=32) (h':¬ s.cnt=32):aH s=⟨s.pos+1,s.cnt+1,0,s.whr⟩:=by
 unfold aH;rw [if_pos hb,if_neg (by omega)]
theorem oT {L:List Tk} {h d:Nat} {sg:List (List UInt8×Nat)} {dn:List TN} {C:Nat->Prop} {t:TN} {p:Nat} {q:RS} (hb:q.bad=4) (hw:q.whr=p):Sim L h d sg dn C (.bad p 4) (t,q) :=
 ⟨fun _=>by simp only;rw [hb,hw],fun h0=>by simp only at h0;rw [hb] at h0;exact absurd h0 (by decide)⟩
theorem Du {L:List Tk} {h d:Nat} {sg:List (List UInt8×Nat)} {dn:List TN} {C:Nat->Prop} {t:TN} {s:RS} (hb:s.bad=0):Sim L h d sg dn C (.bad s.pos 2) (t,aM 2 s):=by
 have e:aM 2 s=⟨s.pos,s.cnt,2,s.pos⟩:=by unfold aM;rw [if_pos hb]
 rw [e];exact ⟨fun _=>rfl,fun h0=>by cases h0⟩
theorem sK {L:List Tk} {h h' d d':Nat} {sg sg':List (List UInt8×Nat)} {dn dn':List TN} {C C':Nat->Prop} {R:uR} {x y:TN×RS} (hx:¬ x.2.bad=0) (H:Sim L h d sg dn C R x) (hy:y.2=x.2):Sim L h' d' sg' dn' C' R y :=
 ⟨fun _=>by rw [hy];exact H.1 hx,fun h0=>absurd (by rw [<- hy];exact h0) hx⟩
theorem sim (L:List Tk) (hL:∀ t∈L,cK t):∀ (f:Nat) (md:Md) (s:RS),bJ (L.length-s.pos) md<=f->s.bad=0->s.pos<=L.length->s.cnt<=32->RH L s md (pr L f md s)
 | 0,md,s,h,_,_,_=>by cases md <;> simp [bJ] at h
 | f + 1, .fac, s, h, hb, hp, hc => by
   intro d sg dn hsg;simp only [bJ] at h;rw [pr,if_pos hb,Dx hp];simp only;cases e:L[s.pos]? with
   | none =>
     have hge:L.length<=s.pos:=List.getElem?_eq_none_iff.1 e;rw [if_neg (by rw [lK hge];decide),if_neg (by rw [lK hge];decide)];exact Du hb
   | some t =>
     have hlt:=(List.getElem?_eq_some_iff.1 e).1;have hg:=hL t (by rw [<- (List.getElem?_eq_some_iff.1 e).2];exact List.getElem_mem hlt);simp only;rw [jG e,jG e];rcases hg with ⟨k1,kg⟩ | ⟨k2,kn,_⟩ | k3
     · rw [k1,show ((1:Int) == 3)=false from rfl,Bool.false_and,Bool.false_and,if_neg Bool.false_ne_true,if_neg Bool.false_ne_true,if_neg (show ¬ ((1:Int)=2/\0<=t.num) from fun h=>absurd h.1 (by decide)),if_pos (⟨rfl,kg⟩:(1:Int)=1/\bH t.text=true),if_neg (show ¬ (1:Int)=2 by decide),if_pos (rfl:(1:Int)=1)]
       by_cases h32:s.cnt=32
       · rw [if_pos h32]
         exact oT (iM hb h32).1 (iM hb h32).2
       · rw [if_neg h32,lX hb hc h32]
         exact ⟨fun h0=>absurd rfl h0,fun _=>⟨trivial,by simp only;omega,by simp only;omega,_,_,rfl,rfl⟩⟩
     · rw [k2,show ((2:Int) == 3)=false from rfl,Bool.false_and,Bool.false_and,if_neg Bool.false_ne_true,if_neg Bool.false_ne_true,if_pos (⟨rfl,kn⟩:(2:Int)=2/\0<=t.num),if_pos (rfl:(2:Int)=2)]
       by_cases h32:s.cnt=32
       · rw [if_pos h32]
         exact oT (iM hb h32).1 (iM hb h32).2
       · rw [if_neg h32,lX hb hc h32]
         exact ⟨fun h0=>absurd rfl h0,fun _=>⟨trivial,by simp only;omega,by simp only;omega,_,_,rfl,rfl⟩⟩
     · rw [k3,if_neg (show ¬ (3:Int)=2 by decide),if_neg (show ¬ (3:Int)=1 by decide)]
       by_cases h45:t.text=[45]
       · rw [h45,if_neg (show ¬ ((3:Int) == 3 && ([45]:List UInt8) == [40])=true by decide),if_pos (show ((3:Int) == 3 && ([45]:List UInt8) == [45])=true by decide),if_pos (rfl:([45]:List UInt8)=[45])]
         by_cases h32:s.cnt=32
         · rw [if_pos h32]
           have ht:=iM hb h32;have hst:(pr L f .fac (aH s)).2=aH s:=cZ L f .fac _ (by rw [ht.1];decide);exact oT (by rw [hst];exact ht.1) (by rw [hst];exact ht.2)
         · rw [if_neg h32,lX hb hc h32]
           have ih:=sim L hL f .fac ⟨s.pos+1,s.cnt+1,0,s.whr⟩ (by simp only [bJ];omega) rfl (by simp only;omega) (by simp only;omega) d ((jE,3+d*3)::sg) dn
            (by intro y hy; rcases List.mem_cons.1 hy with rfl | hy
                · show 3+d*3<=_;omega
                · exact hsg y hy)
           refine ⟨ih.1,fun h0=>?_⟩;obtain ⟨c1,c2,c3,sg3,dn3,e1,e2⟩:=ih.2 h0;refine ⟨c1,c2,c3,sg3,dn3,e1,?_⟩;rw [e2,cP,if_pos (by omega)];rfl
       · rw [if_neg h45]
         by_cases h40:t.text=[40]
         · rw [h40,if_pos (show ((3:Int) == 3 && ([40]:List UInt8) == [40])=true by decide),if_pos (rfl:([40]:List UInt8)=[40])]
           have ih:=sim L hL f .sum (aJ s) (by show bJ (L.length-(s.pos+1)) _<=f;simp only [bJ];omega) hb (by show s.pos+1<=_;omega) hc (d+1) sg dn (by intro y hy;have:=hsg y hy;omega);have hst:(⟨(aJ s).pos,d+1,(aJ s).cnt,sg,dn⟩:SR)=⟨s.pos+1,d+1,s.cnt,sg,dn⟩:=rfl;rw [hst] at ih;generalize hX:pr L f .sum (aJ s)=X at ih |-
           by_cases hx:X.2.bad=0
           · obtain ⟨⟨cM,cA⟩,c2,c3,sg3,dn3,e1,e2⟩:=ih.2 hx
             rw [e1,mA c2];simp only;by_cases hs:isS L [41] X.2.pos=true
             · have hcl:dN L X.2=aJ X.2:=by unfold dN;rw [hs,Bool.not_true,Bool.and_false,if_neg (by decide)]
               rw [if_pos ⟨by omega,hs⟩,hcl];refine ⟨fun h0=>absurd hx h0,fun _=>⟨trivial,?_,c3,sg3,dn3,rfl,?_⟩⟩
               · have:=gC hs;show X.2.pos+1<=_;omega
               · exact qL (by omega) e2
             · have hcl:dN L X.2=⟨X.2.pos+1,X.2.cnt,2,X.2.pos⟩:=by
                unfold dN;rw [if_pos (by rw [hx];simp [hs])];unfold aM aJ;rw [if_pos hx]
               have hh:cW L X.2.pos=0:=by unfold cW;rw [cA,cM];rfl
               rw [if_neg (fun hh=>hs hh.2),if_pos hh,if_pos (by omega),hcl];exact ⟨fun _=>rfl,fun h0=>by cases h0⟩
           · have hcl:dN L X.2=aJ X.2:=by
              unfold dN;rw [if_neg];simp [hx]
             rw [hcl];refine ⟨fun _=>ih.1 hx,fun h0=>absurd h0 hx⟩
         · rw [if_neg (show ¬ ((3:Int) == 3 && t.text == [40])=true by simp [h40]),if_neg (show ¬ ((3:Int) == 3 && t.text == [45])=true by simp [h45]),if_neg (show ¬ ((3:Int)=2/\0<=t.num) from fun h=>absurd h.1 (by decide)),if_neg (show ¬ ((3:Int)=1/\bH t.text=true) from fun h=>absurd h.1 (by decide)),if_neg h40]
           exact Du hb
 | f + 1, .prod, s, h, hb, hp, hc => by
   intro d sg dn hsg;simp only [bJ] at h;rw [pr];have ih:=sim L hL f .fac s (by simp only [bJ];omega) hb hp hc d sg dn (by intro y hy;have:=hsg y hy;omega);have hpos:=dM L f .fac s;generalize pr L f .fac s=X at ih hpos |-
   by_cases hx:X.2.bad=0
   · obtain ⟨-,c2,c3,sg3,dn3,e1,e2⟩:=ih.2 hx
     have ih2:=sim L hL f (.prodL X.1) X.2 (by simp only [bJ];omega) hx c2 c3 d sg dn sg3 dn3 hsg (by rw [qL (show 3*d+2<=3*d+3 by omega) e2,mM _ hsg]);rw [e1];exact ih2
   · exact sK hx ih (cZ L f _ _ hx)
 | f + 1, .prodL n, s, h, hb, hp, hc => by
   intro d sg dn sg2 dn2 hsg hj;simp only [bJ] at h;rw [pr];by_cases hm:isM L s.pos=true
   · have hlt:=pA hm
     rw [if_pos (by rw [hb,hm];rfl),mA hp];simp only;obtain ⟨n1,n2⟩:=Cc hm;have hh:cW L s.pos=2:=by unfold cW;rw [n2,hm];rfl
     rw [if_neg (by rw [n1];simp),hh,if_neg (by decide)];by_cases h32:s.cnt=32
     · rw [if_pos h32]
       have ht:=iM hb h32;have hst:(pr L f .fac (aH s)).2=aH s:=cZ L f .fac _ (by rw [ht.1];decide);have hst2:∀ md,(pr L f md (aH s)).2=aH s:=fun md=>cZ L f md _ (by rw [ht.1];decide)
       rw [hst];exact oT (by rw [hst2];exact ht.1) (by rw [hst2];exact ht.2)
     · rw [if_neg h32,lX hb hc h32,show 2+d*3=3*d+2 by omega,hj]
       simp only
       have ih:=sim L hL f .fac ⟨s.pos+1,s.cnt+1,0,s.whr⟩ (by simp only [bJ];omega) rfl (by simp only;omega) (by simp only;omega) d ((dW L s.pos,3*d+2)::sg) (n::dn)
        (by intro y hy; rcases List.mem_cons.1 hy with rfl | hy
            · show 3*d+2<=_;omega
            · have:=hsg y hy;omega)
       have hpos:=dM L f .fac ⟨s.pos+1,s.cnt+1,0,s.whr⟩;simp only at ih hpos;generalize pr L f .fac ⟨s.pos+1,s.cnt+1,0,s.whr⟩=X at ih hpos |-
       by_cases hx:X.2.bad=0
       · obtain ⟨-,c2,c3,sg3,dn3,e1,e2⟩:=ih.2 hx
         have hop:dW L s.pos ≠ jE:=by
          intro hn;rcases opM hm with h | h | h | h | h <;> rw [h] at hn <;> cases hn
         have e3:cP (3*d+2) sg3 dn3=(sg,fB (dW L s.pos) n X.1::dn):=by
          rw [qL (show 3*d+2<=3*d+3 by omega) e2,cP,if_pos (Nat.le_refl _),qM,if_neg hop];exact mM _ hsg
         have ih2:=sim L hL f (.prodL (fB (dW L s.pos) n X.1)) X.2 (by simp only [bJ];omega) hx c2 c3 d sg dn sg3 dn3 hsg e3;rw [e1];exact ih2
       · exact sK hx ih (cZ L f _ _ hx)
   · rw [if_neg (by rw [Bool.and_eq_true];exact fun hh=>hm hh.2)]
     refine ⟨fun h0=>absurd hb h0,fun _=>⟨by simpa using hm,hp,hc,sg2,dn2,rfl,?_⟩⟩;rw [hj,mM _ hsg]
 | f + 1, .sum, s, h, hb, hp, hc => by
   intro d sg dn hsg;simp only [bJ] at h;rw [pr];have ih:=sim L hL f .prod s (by simp only [bJ];omega) hb hp hc d sg dn (by intro y hy;have:=hsg y hy;omega);have hpos:=dM L f .prod s;generalize pr L f .prod s=X at ih hpos |-
   by_cases hx:X.2.bad=0
   · obtain ⟨c1,c2,c3,sg3,dn3,e1,e2⟩:=ih.2 hx
     have ih2:=sim L hL f (.sumL X.1) X.2 (by simp only [bJ];omega) hx c2 c3 c1 d sg dn sg3 dn3 hsg (by rw [qL (show 3*d+1<=3*d+2 by omega) e2,mM _ hsg]);rw [e1];exact ih2
   · exact sK hx ih (cZ L f _ _ hx)
 | f + 1, .sumL n, s, h, hb, hp, hc => by
   intro hnm d sg dn sg2 dn2 hsg hj;simp only [bJ] at h;rw [pr];by_cases hm:isA L s.pos=true
   · have hlt:=pB hm
     rw [if_pos (by rw [hb,hm];rfl),mA hp];simp only;obtain ⟨n1,n2⟩:=Cd hm;have hh:cW L s.pos=1:=by unfold cW;rw [hm];rfl
     rw [if_neg (by rw [n1];simp),hh,if_neg (by decide)];by_cases h32:s.cnt=32
     · rw [if_pos h32]
       have ht:=iM hb h32;have hst2:∀ md,(pr L f md (aH s)).2=aH s:=fun md=>cZ L f md _ (by rw [ht.1];decide)
       rw [hst2];exact oT (by rw [hst2];exact ht.1) (by rw [hst2];exact ht.2)
     · rw [if_neg h32,lX hb hc h32,show 1+d*3=3*d+1 by omega,hj]
       simp only
       have ih:=sim L hL f .prod ⟨s.pos+1,s.cnt+1,0,s.whr⟩ (by simp only [bJ];omega) rfl (by simp only;omega) (by simp only;omega) d ((dW L s.pos,3*d+1)::sg) (n::dn)
        (by intro y hy; rcases List.mem_cons.1 hy with rfl | hy
            · show 3*d+1<_;omega
            · have:=hsg y hy;omega)
       have hpos:=dM L f .prod ⟨s.pos+1,s.cnt+1,0,s.whr⟩;simp only at ih hpos;generalize pr L f .prod ⟨s.pos+1,s.cnt+1,0,s.whr⟩=X at ih hpos |-
       by_cases hx:X.2.bad=0
       · obtain ⟨c1,c2,c3,sg3,dn3,e1,e2⟩:=ih.2 hx
         have hop:dW L s.pos ≠ jE:=by
          intro hn;rcases opA hm with h | h | h | h | h <;> rw [h] at hn <;> cases hn
         have e3:cP (3*d+1) sg3 dn3=(sg,fB (dW L s.pos) n X.1::dn):=by
          rw [qL (show 3*d+1<=3*d+2 by omega) e2,cP,if_pos (Nat.le_refl _),qM,if_neg hop];exact mM _ hsg
         have ih2:=sim L hL f (.sumL (fB (dW L s.pos) n X.1)) X.2 (by simp only [bJ];omega) hx c2 c3 c1 d sg dn sg3 dn3 hsg e3;rw [e1];exact ih2
       · exact sK hx ih (cZ L f _ _ hx)
   · rw [if_neg (by rw [Bool.and_eq_true];exact fun hh=>hm hh.2)]
     refine ⟨fun h0=>absurd hb h0,fun _=>⟨⟨hnm,by simpa using hm⟩,hp,hc,sg2,dn2,rfl,?_⟩⟩;rw [hj,mM _ hsg]
theorem Qg {L:List Tk} (hL:∀ t∈L,cK t) {p:Nat} (hp:p<=L.length) :
 (∀ q e,ofL L p=.bad q e->fC L true ⟨p,0,0,[],[]⟩=.bad q e) /\
 (∀ t q,ofL L p=.ok t q->∃ s:SR,fC L true ⟨p,0,0,[],[]⟩=.ok s/\s.pos=q/\q<=L.length/\cP 0 s.sg s.dn=([],[t])):=by
 have h:=sim L hL (4*(L.length-p)+4) .sum ⟨p,0,0,0⟩ (by simp only [bJ];omega) rfl hp (by simp only;omega) 0 [] [] (by intro y hy;cases hy);have h:Sim L 1 0 [] [] (fun p=>isM L p=false/\isA L p=false) (fC L true ⟨p,0,0,[],[]⟩) (pE L .sum ⟨p,0,0,0⟩):=h;unfold ofL;generalize pE L .sum ⟨p,0,0,0⟩=X at h |-
 by_cases hx:X.2.bad=0
 · rw [if_pos hx]
   refine ⟨fun q e h0=>(by cases h0),fun t q h0=>?_⟩;cases h0;obtain ⟨⟨cM,cA⟩,c2,c3,sg3,dn3,e1,e2⟩:=h.2 hx;have hh:cW L X.2.pos=0:=by unfold cW;rw [cA,cM];rfl
   refine ⟨⟨X.2.pos,0,X.2.cnt,sg3,dn3⟩,?_,rfl,c2,?_⟩
   · rw [e1,mA c2]
     simp only;rw [if_neg (by simp),if_pos hh,if_neg (by decide)]
   · exact qL (Nat.zero_le 1) e2
 · rw [if_neg hx]
   refine ⟨fun q e h0=>?_,fun t q h0=>(by cases h0)⟩;cases h0;exact h.1 hx
end
section
open Go.RowKit
theorem rU (o:ByteArray) (w:World):Calls Tryz.prog 186 #[.string o] w fun e w'=>e=.returned (.int .i64 (eC o))/\w=w':=by
 have E:eC o=if (o.toList == [110,117,109] || o.toList == [110,97,109,101])=true then 0 else if (o.toList == [110,101,103])=true then 1 else if (o.toList == [43] || o.toList == [45] || o.toList == [42] || o.toList == [47] || o.toList == [37])=true then 2 else -1:=by
  unfold eC cO cG gA mN tJ oA jE;rw [Lib.toList_data]
 cases h0:(o.toList == [110,117,109]) with
 | true =>
   have R:=aA (show eC o=0 by rw [E];simp [h0]);clear E;go_enter Tryz.func186,Tryz.ntmps186
   go_wp2_with fail
   go_ret;rw [R.out];exact ⟨rfl,rfl⟩
 | false =>
   cases h1:(o.toList == [110,97,109,101]) with
   | true =>
     have R:=aA (show eC o=0 by rw [E];simp [h0,h1]);clear E;go_enter Tryz.func186,Tryz.ntmps186
     go_wp2_with fail
     go_ret;rw [R.out];exact ⟨rfl,rfl⟩
   | false =>
     cases h2:(o.toList == [110,101,103]) with
     | true =>
       have R:=aA (show eC o=1 by rw [E];simp [h0,h1,h2]);clear E;go_enter Tryz.func186,Tryz.ntmps186
       go_wp2_with fail
       go_ret;rw [R.out];exact ⟨rfl,rfl⟩
     | false =>
       cases h3:(o.toList == [43]) with
       | true =>
         have R:=aA (show eC o=2 by rw [E];simp [h0,h1,h2,h3]);clear E;go_enter Tryz.func186,Tryz.ntmps186
         go_wp2_with fail
         go_ret;rw [R.out];exact ⟨rfl,rfl⟩
       | false =>
         cases h4:(o.toList == [45]) with
         | true =>
           have R:=aA (show eC o=2 by rw [E];simp [h0,h1,h2,h3,h4]);clear E;go_enter Tryz.func186,Tryz.ntmps186
           go_wp2_with fail
           go_ret;rw [R.out];exact ⟨rfl,rfl⟩
         | false =>
           cases h5:(o.toList == [42]) with
           | true =>
             have R:=aA (show eC o=2 by rw [E];simp [h0,h1,h2,h3,h4,h5]);clear E;go_enter Tryz.func186,Tryz.ntmps186
             go_wp2_with fail
             go_ret;rw [R.out];exact ⟨rfl,rfl⟩
           | false =>
             cases h6:(o.toList == [47]) with
             | true =>
               have R:=aA (show eC o=2 by rw [E];simp [h0,h1,h2,h3,h4,h5,h6]);clear E;go_enter Tryz.func186,Tryz.ntmps186
               go_wp2_with fail
               go_ret;rw [R.out];exact ⟨rfl,rfl⟩
             | false =>
               cases h7:(o.toList == [37]) with
               | true =>
                 have R:=aA (show eC o=2 by rw [E];simp [h0,h1,h2,h3,h4,h5,h6,h7]);clear E;go_enter Tryz.func186,Tryz.ntmps186
                 go_wp2_with fail
                 go_ret;rw [R.out];exact ⟨rfl,rfl⟩
               | false =>
                 have R:=aA (show eC o= -1 by rw [E];simp [h0,h1,h2,h3,h4,h5,h6,h7]);clear E;go_enter Tryz.func186,Tryz.ntmps186
                 go_wp2_with fail
                 go_ret;rw [R.out];exact ⟨rfl,rfl⟩
theorem F9 (k:Int) (X x:ByteArray) (n p:Int) (w:World) :
 Calls Tryz.prog 290 #[.agg #[.int .i64 k,.string X,.int .i64 n,.int .i64 p],.string x] w fun e w'=>e=.returned (.bool (k == 3 && X.data.toList == x.data.toList))/\Below w.heap.size w w':=by
 have bl:∀ o,Below w.heap.size w (w.alloc o):=fun o=>bA0 _ _
 have BL:=aA bl;clear bl;rw [<- Lib.toList_data, <- Lib.toList_data];cases hk3:(k == 3) with
 | true =>
   have z:(k == 3)=true:=hk3;rw [Bool.true_and];clear hk3;go_enter Tryz.func290,Tryz.ntmps290
   go_wp2_with fail
   go_ret;exact ⟨rfl,BL.out _⟩
 | false =>
   have z:(k == 3)=false:=hk3;rw [Bool.false_and];clear hk3;go_enter Tryz.func290,Tryz.ntmps290
   go_wp2_with fail
   go_ret;exact ⟨rfl,BL.out _⟩
def tH (k:Int) (X:List UInt8):Nat:=if (k == 3)=true then (if (X == [43] || X == [45])=true then 1 else if (X == [42] || X == [47] || X == [37])=true then 2 else 0) else 0
theorem EM (k:Int) (X:ByteArray) (n p:Int) (w:World) :
 Calls Tryz.prog 277 #[.agg #[.int .i64 k,.string X,.int .i64 n,.int .i64 p]] w fun e w'=>e=.returned (.int .i64 (tH k X.data.toList:Nat))/\Below w.heap.size w w':=by
 have bl:∀ o,Below w.heap.size w (w.alloc o):=fun o=>bA0 _ _
 have BL:=aA bl;clear bl;obtain ⟨L,hL⟩:∃ L,X.data.toList=L:=⟨_,rfl⟩;have E:tH k L=tH k L:=rfl;have hX:X.toList=L:=by rw [Lib.toList_data,hL]
 rw [hL];conv at E=>rhs;unfold tH
 cases hk3:(k == 3) with
 | false =>
   have z:(k == 3)=false:=hk3;have R:=aA (show tH k L=0 by rw [E,hk3];rfl);clear hk3 E hX;go_enter Tryz.func277,Tryz.ntmps277
   go_wp2_with fail
   go_ret;rw [R.out];exact ⟨rfl,BL.out _⟩
 | true =>
   have z:(k == 3)=true:=hk3;rw [hk3,if_pos rfl] at E;clear hk3;cases h0:(L == [43]) with
   | true =>
     have R:=aA (show tH k L=1 by rw [E];simp [h0]);rw [<- hX] at h0;clear E hX;go_enter Tryz.func277,Tryz.ntmps277
     go_wp2_with fail
     go_ret;rw [R.out];exact ⟨rfl,BL.out _⟩
   | false =>
     cases h1:(L == [45]) with
     | true =>
       have R:=aA (show tH k L=1 by rw [E];simp [h0,h1]);rw [<- hX] at h0 h1;clear E hX;go_enter Tryz.func277,Tryz.ntmps277
       go_wp2_with fail
       go_ret;rw [R.out];exact ⟨rfl,BL.out _⟩
     | false =>
       cases h2:(L == [42]) with
       | true =>
         have R:=aA (show tH k L=2 by rw [E];simp [h0,h1,h2]);rw [<- hX] at h0 h1 h2;clear E hX;go_enter Tryz.func277,Tryz.ntmps277
         go_wp2_with fail
         go_ret;rw [R.out];exact ⟨rfl,BL.out _⟩
       | false =>
         cases h3:(L == [47]) with
         | true =>
           have R:=aA (show tH k L=2 by rw [E];simp [h0,h1,h2,h3]);rw [<- hX] at h0 h1 h2 h3;clear E hX;go_enter Tryz.func277,Tryz.ntmps277
           go_wp2_with fail
           go_ret;rw [R.out];exact ⟨rfl,BL.out _⟩
         | false =>
           cases h4:(L == [37]) with
           | true =>
             have R:=aA (show tH k L=2 by rw [E];simp [h0,h1,h2,h3,h4]);rw [<- hX] at h0 h1 h2 h3 h4;clear E hX;go_enter Tryz.func277,Tryz.ntmps277
             go_wp2_with fail
             go_ret;rw [R.out];exact ⟨rfl,BL.out _⟩
           | false =>
             have R:=aA (show tH k L=0 by rw [E];simp [h0,h1,h2,h3,h4]);rw [<- hX] at h0 h1 h2 h3 h4;clear E hX;go_enter Tryz.func277,Tryz.ntmps277
             go_wp2_with fail
             go_ret;rw [R.out];exact ⟨rfl,BL.out _⟩
end
section
open Go.RowKit
def IsG (w:World) (b:Nat) (a:Option Addr) (l c:Nat) (p o n:Nat) (sv dv:Value):Prop:=w.heap[b]? = some (.cells #[.slice a l c,.int .i64 p,.int .i64 o,.int .i64 n,sv,dv] 333 (0,0))
theorem IsG.cells {w:World} {b:Nat} {a:Option Addr} {l c p o n:Nat} {sv dv:Value} (h:IsG w b a l c p o n sv dv) :
 (w.cell? ⟨b,0,none⟩=some (.slice a l c)/\w.cell? ⟨b,1,none⟩=some (.int .i64 p)/\w.cell? ⟨b,2,none⟩=some (.int .i64 o)/\w.cell? ⟨b,3,none⟩=some (.int .i64 n)/\w.cell? ⟨b,4,none⟩=some sv/\w.cell? ⟨b,5,none⟩=some dv) /\
 (w.frozen? ⟨b,1,none⟩=false/\w.frozen? ⟨b,2,none⟩=false/\w.frozen? ⟨b,3,none⟩=false/\w.frozen? ⟨b,4,none⟩=false/\w.frozen? ⟨b,5,none⟩=false):=by
 unfold IsG at h;refine ⟨⟨?_,?_,?_,?_,?_,?_⟩,?_,?_,?_,?_,?_⟩ <;> simp [World.cell?,World.frozen?,h]
structure PG (ts:List Tk) (rb:Nat) (a:Option Addr) (c:Nat) (p o n:Nat) (sv dv:Value) (w:World):Prop where
 r:IsG w rb a ts.length c p o n sv dv
 t:Cz rb w a ts
 hp:p<=ts.length
 hl:ts.length<=100000
 ho:o<=100001
 hn:n<=32
theorem PG.kept {ts:List Tk} {rb:Nat} {a:Option Addr} {c p o n:Nat} {sv dv:Value} {w w':World} (h:PG ts rb a c p o n sv dv w) {S:Nat->Prop} (hk:aD S w w') (hS:∀ k,S k->rb<k):PG ts rb a c p o n sv dv w' :=
 ⟨hk.heap h.r (fun hs=>by have:=hS rb hs;omega),h.t.kept hk (fun k hs=>by have:=hS k hs;omega),h.hp,h.hl,h.ho,h.hn⟩
theorem PG.below {ts:List Tk} {rb:Nat} {a:Option Addr} {c p o n:Nat} {sv dv:Value} {w w':World} (h:PG ts rb a c p o n sv dv w) (hb:Below w.heap.size w w'):PG ts rb a c p o n sv dv w' :=
 h.kept (aE hb (fun _=>False)) (fun _ h=>h.elim)
theorem six {w:World} {b:Nat} {v0 v1 v2 v3 v4 v5:Value} {t:TypeId} (h:w.heap[b]? = some (.cells #[v0,v1,v2,v3,v4,v5] t (0,0))) (o:Nat) (v:Value) :
 (w.setCell ⟨b,o,none⟩ v).heap[b]? = some (.cells ((#[v0,v1,v2,v3,v4,v5]:Array Value).setIfInBounds o v) t (0,0)):=heap_setCell_same w b o _ t v h
theorem PG.set {ts:List Tk} {rb:Nat} {a:Option Addr} {c p o n p' o' n':Nat} {sv dv sv' dv':Value} {w:World} (h:PG ts rb a c p o n sv dv w) {q:Nat} {v:Value} (hp:p'<=ts.length) (ho:o'<=100001) (hn:n'<=32)
 (hv:(#[.slice a ts.length c,.int .i64 p,.int .i64 o,.int .i64 n,sv,dv]:Array Value).setIfInBounds q v=#[.slice a ts.length c,.int .i64 p',.int .i64 o',.int .i64 n',sv',dv']):PG ts rb a c p' o' n' sv' dv' (w.setCell ⟨rb,q,none⟩ v):=by
 refine ⟨?_,h.t.kept ((aD.refl (· = rb) w).setCell (p:=⟨rb,q,none⟩) (.inl rfl) v) (fun k hk=>by omega),hp,h.hl,ho,hn⟩;have:=six h.r q v;rw [hv] at this;exact this
def tkG (t:Tk):Value:=.agg #[.int .i64 t.kind,.string ⟨t.text.toArray⟩,.int .i64 t.num,.int .i64 t.place]
def zTk:Tk:=⟨0,[],0,0⟩
def eZ (L:List Tk) (p:Nat):Tk:=match L[p]? with
 | some t=>t
 | none=>zTk
theorem wT {L:List Tk} {p:Nat} (h:p<L.length):eZ L p=L[p]:=by unfold eZ;rw [List.getElem?_eq_getElem h]
theorem wU {L:List Tk} {p:Nat} (h:L.length<=p):eZ L p=zTk:=by unfold eZ;rw [List.getElem?_eq_none h]
theorem lW (L:List Tk) (x:List UInt8) (p:Nat):((eZ L p).kind == 3 && (eZ L p).text == x)=isS L x p:=by
 unfold eZ isS;cases L[p]? with
 | none=>rfl
 | some t=>rfl
theorem Ks (L:List Tk) (p:Nat):tH (eZ L p).kind (eZ L p).text=cW L p:=by
 unfold tH cW isA isM;rw [<- lW, <- lW, <- lW, <- lW, <- lW];cases (eZ L p).kind == 3 <;> simp
theorem Nw (L:List Tk) (p:Nat):(eZ L p).text=dW L p:=by
 unfold eZ dW;cases L[p]? with
 | none=>rfl
 | some t=>rfl
theorem lA {B b:Nat} {w W:World} (h:Below B w W) (hb:B<=b) (hB:B<=W.heap.size) (n:Nat) (v0 v1 v2 v3:Value):Below B w (((((W.drewN n).setCell ⟨b,0,none⟩ v0).setCell ⟨b,1,none⟩ v1).setCell ⟨b,2,none⟩ v2).setCell ⟨b,3,none⟩ v3):=by
 have k:=(((((aD.refl (· = b) W).drewN n).setCell (p:=⟨b,0,none⟩) (.inl rfl) v0).setCell (p:=⟨b,1,none⟩) (.inl rfl) v1).setCell (p:=⟨b,2,none⟩) (.inl rfl) v2).setCell (p:=⟨b,3,none⟩) (.inl rfl) v3;exact h.trans (k.below (fun i hi=>by omega) hB)
theorem sV (ts:List Tk) (rb:Nat) (a:Option Addr) (c p o n:Nat) (sv dv:Value) (w:World) (h:PG ts rb a c p o n sv dv w) :
 Calls Tryz.prog 278 #[.pointer (some ⟨rb,0,none⟩)] w fun e w'=>e=.returned (tkG (eZ ts p))/\Below w.heap.size w w':=by
 have hpos:=h.hp;have hn:=h.hl;have BA:=bA0 w (tkO 0 ⟨#[]⟩ 0 0);have NB:=heap_alloc_new w (tkO 0 ⟨#[]⟩ 0 0);have hP:=h.below BA;have hsz:(w.alloc (tkO 0 ⟨#[]⟩ 0 0)).heap.size=w.heap.size+1:=World.size_alloc _ _;obtain ⟨⟨c0,c1,c2,c3,c4,c5⟩, -⟩:=hP.r.cells;obtain ⟨⟨x0,x1,x2,x3⟩,f0,f1,f2,f3⟩:=aL NB;by_cases hlt:p<ts.length
 · obtain ⟨b,off,ha, -,p0,p1,p2,p3⟩:=aY hP.t hlt
   subst ha;obtain ⟨X,hX⟩:∃ X,tkG (eZ ts p)=X:=⟨_,rfl⟩;have hX':=hX;rw [wT hlt] at hX';unfold tkG at hX';rw [hX];generalize ts[p]=t at p0 p1 p2 p3 hX';obtain ⟨k,s,nn,pp⟩:=t;simp only at p0 p1 p2 p3 hX';have a1:((p:Int) == (ts.length:Int))=false:=by rw [beq_eq_false_iff_ne];omega
   have a2:(p:Int)<(ts.length:Int):=by omega
   have a4:(0:Int)<=(p:Int):=by omega
   have a3:((p:Int)).toNat=p:=by omega
   subst hX';clear hX h hP;have HN:=aA NB;have HB:=aA BA;clear NB BA;go_enter Tryz.func278,Tryz.ntmps278
   go_upto_region 1 with fail
   generalize w.alloc (tkO 0 ⟨#[]⟩ 0 0)=W at *;go_upto_region 3 with (go_quiet (fail))
   go_region
   go_wp2_with fail
   obtain ⟨⟨d0,d1,d2,d3⟩, -⟩:=aL (aU (W:=W.drewN (nq+1)) HN.out (.int .i64 k) (.string ⟨s.toArray⟩) (.int .i64 nn) (.int .i64 pp));exact bodyPost_ret (v:=.agg #[.int .i64 k,.string ⟨s.toArray⟩,.int .i64 nn,.int .i64 pp]) (by simp [results,Tryz.results278,go_sem,d0,d1,d2,d3]) rfl ⟨rfl,lA HB.out (Nat.le_refl _) (by omega) (nq+1) _ _ _ _⟩
 · obtain rfl:p=ts.length:=by omega
   rw [wU (Nat.le_refl _)];clear h hP;have HN:=aA NB;have HB:=aA BA;clear NB BA;go_enter Tryz.func278,Tryz.ntmps278
   go_upto_region 1 with fail
   generalize w.alloc (tkO 0 ⟨#[]⟩ 0 0)=W at *;go_upto_region 2 with (go_quiet (fail))
   go_wp2_with fail
   obtain ⟨⟨d0,d1,d2,d3⟩, -⟩:=aL (aU (W:=W.drewN nq) HN.out (.int .i64 0) (.string ⟨#[]⟩) (.int .i64 0) (.int .i64 0));exact bodyPost_ret (v:=.agg #[.int .i64 0,.string ⟨#[]⟩,.int .i64 0,.int .i64 0]) (by simp [results,Tryz.results278,go_sem,d0,d1,d2,d3]) rfl ⟨rfl,lA HB.out (Nat.le_refl _) (by omega) nq _ _ _ _⟩
theorem Bm (ts:List Tk) (rb:Nat) (a:Option Addr) (c p o n:Nat) (sv dv:Value) (w:World) (h:PG ts rb a c p o n sv dv w) (hlt:p<ts.length) :
 Calls Tryz.prog 293 #[.pointer (some ⟨rb,0,none⟩)] w fun e w' =>
  (n=32->e=.returned (.int .i64 4)/\w'=w)/\(¬ n=32->e=.returned (.int .i64 0)/\PG ts rb a c (p+1) o (n+1) sv dv w'/\aD (· = rb) w w'):=by
 obtain ⟨⟨c0,c1,c2,c3,c4,c5⟩,f1,f2,f3,f4,f5⟩:=h.r.cells;have hpos:=h.hp;have hl:=h.hl;have hnn:=h.hn;have ho:=h.ho;by_cases h32:n=32
 · have a1:((n:Int) == 32)=true:=by rw [h32];rfl
   have H:=aA h32;clear h h32;go_enter Tryz.func293,Tryz.ntmps293
   go_wp2_with fail
   go_ret;exact ⟨fun _=>⟨rfl,rfl⟩,fun hn=>absurd H.out hn⟩
 · have a1:((n:Int) == 32)=false:=by rw [beq_eq_false_iff_ne];omega
   have H1:PG ts rb a c p o (n+1) sv dv (w.setCell ⟨rb,3,none⟩ (.int .i64 ((n:Int)+1))):=h.set hpos ho (by omega) rfl;have H2:=aA (show PG ts rb a c (p+1) o (n+1) sv dv ((w.setCell ⟨rb,3,none⟩ (.int .i64 ((n:Int)+1))).setCell ⟨rb,1,none⟩ (.int .i64 ((p:Int)+1))) from H1.set (by omega) (by omega) (by omega) rfl);have K:=aA (cS (cS (aD.refl (· = rb) w) 3 (.int .i64 ((n:Int)+1))) 1 (.int .i64 ((p:Int)+1)));have H:=aA h32;clear h h32 H1;go_enter Tryz.func293,Tryz.ntmps293
   go_wp2_with fail
   go_ret;exact ⟨fun hn=>absurd hn H.out,fun _=>⟨rfl,H2.out,K.out⟩⟩
theorem Ph (ts:List Tk) (rb:Nat) (a:Option Addr) (c p o n:Nat) (sv dv:Value) (w:World) (h:PG ts rb a c p o n sv dv w) :
 Calls Tryz.prog 279 #[.pointer (some ⟨rb,0,none⟩)] w fun e w'=>e=.returned (.int .i64 (if 0<o then 2 else 0))/\w'=w:=by
 obtain ⟨⟨c0,c1,c2,c3,c4,c5⟩,f1,f2,f3,f4,f5⟩:=h.r.cells;clear h;by_cases h0:0<o
 · have a1:(0:Int)<(o:Int):=by omega
   rw [if_pos h0];go_enter Tryz.func279,Tryz.ntmps279
   go_wp2_with fail
   go_ret;exact ⟨rfl,rfl⟩
 · have a1:¬ (0:Int)<(o:Int):=by omega
   rw [if_neg h0];go_enter Tryz.func279,Tryz.ntmps279
   go_wp2_with fail
   go_ret;exact ⟨rfl,rfl⟩
end
section
open Go.RowKit
def wsL (x:List UInt8×Nat):List Value:=[.string ⟨x.1.toArray⟩,.int .i64 x.2]
def zV:List (List UInt8×Nat)->List Value
 | []=>[]
 | x::r=>zV r++wsL x
def ndL (t:TN) (q:Option Addr×Nat):List Value:=[.string t.op,.string t.nm,.int .i64 t.n,.slice q.1 t.ks.len q.2]
def dnL:List TN->List (Option Addr×Nat)->List Value
 | t::r,q::s=>dnL r s++ndL t q
 | _,_=>[]
def DnK (G:Nat->Prop) (w:World):List TN->List (Option Addr×Nat)->Prop
 | [],[]=>True
 | t::r,q::s=>aN G w q.1 t.ks/\DnK G w r s
 | _,_=>False
theorem kH:∀ sg:List (List UInt8×Nat),(zV sg).length=sg.length*2
 | []=>rfl
 | x::r=>by rw [zV,List.length_append,kH r,List.length_cons];simp [wsL];omega
theorem wI {G:Nat->Prop} {w:World}:∀ {dn:List TN} {q:List (Option Addr×Nat)},DnK G w dn q->q.length=dn.length
 | [],[],_=>rfl
 | _::r,_::s,h=>by rw [List.length_cons,List.length_cons,wI h.2]
 | [],_::_,h=>h.elim
 | _::_,[],h=>h.elim
theorem tB:∀ {dn:List TN} {q:List (Option Addr×Nat)},q.length=dn.length->(dnL dn q).length=dn.length*4
 | [],_,_=>by rw [dnL];rfl;intro t r q s h;cases h
 | _ :: r, _ :: s, h => by
   rw [dnL,List.length_append,tB (by simpa using h),List.length_cons];simp [ndL];omega
 | _::_,[],h=>by simp at h
theorem Nn (x:List UInt8×Nat):∀ u∈wsL x,u.oneCell'=true:=by
 intro u hu;simp [wsL] at hu;rcases hu with rfl | rfl <;> rfl
theorem qF (t:TN) (q:Option Addr×Nat):∀ u∈ndL t q,u.oneCell'=true:=by
 intro u hu;simp [ndL] at hu;rcases hu with rfl | rfl | rfl | rfl <;> rfl
theorem DnK.imp {G H:Nat->Prop} {w:World} (hG:∀ b,b<w.heap.size->G b->H b):∀ {dn:List TN} {q:List (Option Addr×Nat)},DnK G w dn q->DnK H w dn q
 | [],[],_=>trivial
 | _::_,_::_,h=>⟨h.1.imp hG,h.2.imp hG⟩
 | [],_::_,h=>h.elim
 | _::_,[],h=>h.elim
theorem DnK.keptS {S G:Nat->Prop} {w w':World} (hk:aD S w w') (hS:∀ k,S k->¬ G k):∀ {dn:List TN} {q:List (Option Addr×Nat)},DnK G w dn q->DnK G w' dn q
 | [],[],_=>trivial
 | _::_,_::_,h=>⟨h.1.keptS hk hS,h.2.keptS hk hS⟩
 | [],_::_,h=>h.elim
 | _::_,[],h=>h.elim
def Gk (x rb:Nat) (sv dv:Value) (b:Nat):Prop:=rb<b/\b ≠ x/\sv.ownBlock ≠ some b/\dv.ownBlock ≠ some b
structure RGx (x:Nat) (ts:List Tk) (rb:Nat) (a:Option Addr) (c p o n:Nat) (sg:List (List UInt8×Nat)) (dn:List TN) (sv dv:Value) (q:List (Option Addr×Nat)) (w:World):Prop where
 g:PG ts rb a c p o n sv dv w
 so:w.ownsRow (rb+1) 347 2 sv sg.length (zV sg)
 dw:w.ownsRow (rb+1) 67 4 dv dn.length (dnL dn q)
 dk:DnK (Gk x rb sv dv) w dn q
 ap:∀ x,sv.ownBlock=some x->dv.ownBlock=some x->False
 hx:x<w.heap.size
 hs:sg.length<=n
 hd:dn.length<=n
abbrev RG (ts:List Tk) (rb:Nat) (a:Option Addr) (c p o n:Nat) (sg:List (List UInt8×Nat)) (dn:List TN) (sv dv:Value) (q:List (Option Addr×Nat)) (w:World):Prop:=RGx rb ts rb a c p o n sg dn sv dv q w
section
variable {x : Nat} {ts : List Tk} {rb : Nat} {a : Option Addr} {c p o n : Nat} {sg : List (List UInt8 × Nat)} {dn : List TN} {sv dv : Value} {q : List (Option Addr × Nat)} {w w' : World}
theorem RGx.below (h:RGx x ts rb a c p o n sg dn sv dv q w) (hb:Below w.heap.size w w'):RGx x ts rb a c p o n sg dn sv dv q w' :=
 ⟨h.g.below hb,cQ h.so hb,cQ h.dw hb,h.dk.keptS (aE hb (fun _=>False)) (fun _ h=>h.elim),h.ap,Nat.lt_of_lt_of_le h.hx hb.size,h.hs,h.hd⟩
theorem RGx.lt (h:RGx x ts rb a c p o n sg dn sv dv q w):rb<w.heap.size:=(Array.getElem?_eq_some_iff.1 h.g.r).1
theorem RGx.svNe (h:RGx x ts rb a c p o n sg dn sv dv q w) {b:Nat} (hb:sv.ownBlock=some b):rb<b/\b<w.heap.size:=by have:=h.so.lt b hb;omega
theorem RGx.dvNe (h:RGx x ts rb a c p o n sg dn sv dv q w) {b:Nat} (hb:dv.ownBlock=some b):rb<b/\b<w.heap.size:=by have:=h.dw.lt b hb;omega
theorem kT {B:Nat} {e:TypeId} {size:Nat} {v:Value} {m:Nat} {xs:List Value} (h:w.ownsRow B e size v m xs) (hlt:rb<B) (y:Nat) (u:Value):(w.setCell ⟨rb,y,none⟩ u).ownsRow B e size v m xs:=by
 refine World.ownsRow.kept (row:=some rb) h (cI ((aD.refl (· = rb) w).setCell (p:=⟨rb,y,none⟩) (.inl rfl) u) (fun k hk=>by rw [hk])) (.inr ?_);intro hh;have:=h.lt rb hh;omega
theorem RGx.set (h:RGx x ts rb a c p o n sg dn sv dv q w) {p' o' n':Nat} {y:Nat} {v:Value} (hp:p'<=ts.length) (ho:o'<=100001) (hn:n'<=32) (hcn:n<=n')
 (hv:(#[.slice a ts.length c,.int .i64 p,.int .i64 o,.int .i64 n,sv,dv]:Array Value).setIfInBounds y v=#[.slice a ts.length c,.int .i64 p',.int .i64 o',.int .i64 n',sv,dv]):RGx x ts rb a c p' o' n' sg dn sv dv q (w.setCell ⟨rb,y,none⟩ v):=by
 have h1:=h.hs;have h2:=h.hd;exact ⟨h.g.set hp ho hn hv,kT h.so (by omega) _ _,kT h.dw (by omega) _ _,h.dk.keptS ((aD.refl (· = rb) w).setCell (p:=⟨rb,y,none⟩) (.inl rfl) v) (fun k hk hg=>by have:=hg.1;omega),h.ap,by rw [World.size_setCell];exact h.hx,by omega,by omega⟩
end
abbrev cD (rb:Nat) (w w':World):Prop:=aD (fun b=>rb<=b) w w'
theorem cD.refl (rb:Nat) (w:World):cD rb w w:=aD.refl _ w
theorem cD.of {rb:Nat} {w w':World} (h:aD (· = rb) w w'):cD rb w w':=h.mono (fun i hi _=>by omega)
theorem cD.trans {rb:Nat} {a b c:World} (h:cD rb a b) (k:cD rb b c):cD rb a c:=aD.trans h k (fun _ hi _=>hi)
theorem cD.below {rb:Nat} {a b:World} (h:Below a.heap.size a b):cD rb a b:=aE h _
theorem cD.set {rb:Nat} {a b:World} (h:cD rb a b) (o:Nat) (v:Value):cD rb a (b.setCell ⟨rb,o,none⟩ v):=h.setCell (p:=⟨rb,o,none⟩) (.inl (Nat.le_refl _)) v
theorem Hi (ts:List Tk) (x:ByteArray) (p:Nat) (w:World):Calls Tryz.prog 290 #[tkG (eZ ts p),.string x] w fun e w'=>e=.returned (.bool (isS ts x.data.toList p))/\Below w.heap.size w w':=by
 rw [<- lW];exact F9 (eZ ts p).kind ⟨(eZ ts p).text.toArray⟩ x (eZ ts p).num (eZ ts p).place w
theorem Kz (ts:List Tk) (rb:Nat) (a:Option Addr) (c:Nat) (p0 o0 n:Nat) (sg:List (List UInt8×Nat)) (dn:List TN) (sv dv:Value) (q:List (Option Addr×Nat)) (w:World) (h:RG ts rb a c p0 o0 n sg dn sv dv q w) :
 Calls Tryz.prog 276 #[.pointer (some ⟨rb,0,none⟩)] w fun e w'=>e=.returned (.tuple #[])/\cD rb w w' /\
  ∃ p o,RG ts rb a c p o n sg dn sv dv q w'/\p0<=p/\o<=o0/\fC ts false ⟨p,o,n,sg,dn⟩=fC ts false ⟨p0,o0,n,sg,dn⟩/\(0<o->isS ts [41] p=false):=by
 have H:=aA h;have K0:=aA (cD.refl rb w);have C:=aA (fun (p o:Nat) (w:World) (h:RG ts rb a c p o n sg dn sv dv q w)=>sV ts rb a c p o n sv dv w h.g);clear h;have hn:ts.length<=100000:=H.out.g.hl;go_enter Tryz.func276,Tryz.ntmps276
 go_wp2_with fail
 go_loopg [] ts.length (fun g wr=>∃ (p o:Nat),Hid (RG ts rb a c p o n sg dn sv dv q wr)/\p0<=p/\o<=o0/\ts.length-p<=g/\Hid (fC ts false ⟨p,o,n,sg,dn⟩=fC ts false ⟨p0,o0,n,sg,dn⟩)/\Hid (cD rb w wr))
 case atStart=>exact ⟨p0,o0,H,Nat.le_refl _,Nat.le_refl _,Nat.sub_le _ _,aA rfl,K0⟩
 case round =>
  obtain ⟨p,o,hR,hp,hoo,hg,hE,hK⟩:=hrel;obtain ⟨⟨c0,c1,c2,c3,c4,c5⟩,f1,f2,f3,f4,f5⟩:=hR.out.g.r.cells;have CN:=aA (C.out p o wr hR.out);by_cases ho:0<o
  · have a1:(0:Int)<(o:Int):=by omega
    have hob:o<=100001:=hR.out.g.ho;have hpl:p<=ts.length:=hR.out.g.hp;clear C;obtain ⟨o,rfl⟩:∃ o',o=o'+1:=⟨o-1,by omega⟩;have D:=aA (fun w=>Hi ts ⟨#[41]⟩ p w);have E:isS ts (⟨#[41]⟩:ByteArray).data.toList p=isS ts [41] p:=rfl;rw [E] at D;clear E;cases hb:isS ts [41] p with
    | false =>
      rw [hb] at D;have HB:=aA hb;clear hb;go_wp2_with fail
      refine CN.out.mono ?_;rintro e w1 ⟨rfl,b1⟩;have B1:=aA b1;clear b1;go_wp2_with fail
      refine (D.out w1).mono ?_;rintro e w2 ⟨rfl,b2⟩;have B2:=aA b2;clear b2;go_wp2_with fail
      go_end0
      exact ⟨rfl,(hK.out.trans (cD.below B1.out)).trans (cD.below B2.out),p,o+1,(hR.out.below B1.out).below B2.out,hp,hoo,hE.out,fun _=>HB.out⟩
    | true =>
      rw [hb] at D;have HB:=aA hb;clear hb;go_wp2_with fail
      refine CN.out.mono ?_;rintro e w1 ⟨rfl,b1⟩;have B1:=aA b1;clear b1;go_wp2_with fail
      refine (D.out w1).mono ?_;rintro e w2 ⟨rfl,b2⟩;have R2:=(hR.out.below B1.out).below b2;have K2:=aA ((hK.out.trans (cD.below B1.out)).trans (cD.below b2));have hlt:=gC HB.out;clear c0 c1 c2 c3 c4 c5 f1 f2 f3 f4 f5 b2 B1;obtain ⟨⟨c0,c1,c2,c3,c4,c5⟩,f1,f2,f3,f4,f5⟩:=R2.g.r.cells;have H1:=R2.set (p':=p) (o':=o) (n':=n) (y:=2) (v:=.int .i64 o) hpl (by omega) R2.g.hn (Nat.le_refl _) rfl;have H2:=aA (H1.set (p':=p+1) (o':=o) (n':=n) (y:=1) (v:=.int .i64 ((p:Int)+1)) (by omega) (by omega) R2.g.hn (Nat.le_refl _) rfl);have K3:=aA ((K2.out.set 2 (.int .i64 o)).set 1 (.int .i64 ((p:Int)+1)))
      have E2:=aA (show fC ts false ⟨p+1,o,n,sg,dn⟩=fC ts false ⟨p0,o0,n,sg,dn⟩ by
       refine Eq.trans ?_ hE.out;have e:=mA (L:=ts) (s:=⟨p,o+1,n,sg,dn⟩) hpl;simp only at e;rw [if_pos ⟨by omega,HB.out⟩] at e;exact e.symm)
      clear R2 H1;go_wp2_with fail
      go_roundg (ts.length-(p+1))
      case measure=>omega
      case rel=>exact ⟨p+1,o,H2,by omega,by omega,by omega,E2,K3⟩
  · have a1:¬ (0:Int)<(o:Int):=by omega
    clear C;go_wp2_with fail
    go_end0
    exact ⟨rfl,hK.out,p,o,hR.out,hp,hoo,hE.out,fun h=>absurd h ho⟩
end
section
open Go.RowKit
section
variable {P : Program}
theorem n4 {ops:Array Oper} {o:Oper} {a:Act} {w:World} {K:Act->World->Prop} {Q:Exit->Act->World->Prop} {E:Prop}
 (hg:o.guard=none) (s x:Operand) (t:TypeId) (hop:o.op=Op.call { callee:=Callee.builtin Builtin.append,args:=#[s,x],argTypes:=#[t,t] })
 {base size:Nat} {e:TypeId} {i:TypeInfo} {z:Value} {bytes:Nat} (ht:P.underlying t=some (.slice e)) (hi:P.info? e=some i) (hz:i.zero=some z) (hsize:i.size=size) (hby:i.bytes=bytes) (hzs:z.cells.size=size) (hpos:0<size)
 (v:Value) (n m:Nat) (xs news:List Value) (b:Addr) (c:Nat) (hs:a.eval s=v) (hx:a.eval x=.slice (some b) m c) (hown:w.ownsRow base e size v n xs) (hl:news.length=m*size) (hn:∀ j u,news[j]? = some u->w.cell? (b.add j)=some u) (h1:∀ u∈news,u.oneCell'=true)
 (h63:n+m<=maxLen) (hbytes:(n+m)*bytes<=140737488355328) (hbase:base<=w.heap.size)
 (hK:∀ v' w',w'.ownsRow base e size v' (n+m) (xs++news)->w.grownBy w' v.ownBlock->(∀ q,v'.ownBlock=some q->v.ownBlock=some q\/w.heap.size<=q)->K (a.put o.dst v') w') :
 if Region.wanted o (yielded ops a.tmps)=true then Oper.wp P o a w K Q else E:=by
 have hw:Region.wanted o (yielded ops a.tmps)=true:=by simp [Region.wanted,hg]
 rw [if_pos hw];obtain ⟨v',w',hr,ho,hgr,hq⟩:=oU (P:=P) (ty:=o.type) (c:=c) ht hi hz hsize hby hzs hpos hown hl hn h1 h63 hbytes hbase;unfold Oper.wp;simp [execOp,hop,resolve,invoke,builtin,hs,hx,hr,Result.andThen];exact hK _ _ ho hgr hq
end
theorem FR {w:World} {o:Obj} {b:Nat} (h:(w.alloc o).drew.heap.size<=b):w.heap.size<=b:=by
 have h1:(w.alloc o).heap.size<=b:=h;rw [World.size_alloc] at h1;omega
theorem fG {w w':World} {B:Nat} {e:TypeId} {size:Nat} {v:Value} {n:Nat} {xs:List Value} {row:Option Nat} (h:w.ownsRow B e size v n xs) (hk:aD (fun b=>row=some b) w w') (hne:∀ b,v.ownBlock=some b->row=some b->False):w'.ownsRow B e size v n xs:=by
 refine World.ownsRow.kept (row:=row) h (cI hk (fun k hk=>hk)) ?_;cases e:v.ownBlock with
 | none=>exact .inl rfl
 | some b=>exact .inr (fun h=>hne b e h.symm)
theorem t6 {w:World} {B:Nat} {e:TypeId} {size:Nat} {a:Option Addr} {n c m:Nat} {xs:List Value} (h:w.ownsRow B e size (.slice a n c) n xs) (hm:m<=n) (ha:a ≠ none):w.ownsRow B e size (.slice a m c) m (xs.take (m*size)):=by
 have hl:=h.1;have hms:m*size<=n*size:=Nat.mul_le_mul_right _ hm;refine ⟨by rw [List.length_take];omega,?_⟩;rcases h.2 with ⟨h1,_⟩ | ⟨g,cap,cur,h1,hb,hg,hnc,hcm,hcs,ht⟩
 · simp only [Value.slice.injEq] at h1
   exact absurd h1.1 ha
 · simp only [Value.slice.injEq,true_and] at h1
   obtain ⟨rfl,rfl⟩:=h1;refine .inr ⟨g,c,cur,rfl,hb,hg,by omega,hcm,hcs,?_⟩;rw [<- ht,List.take_take,Nat.min_eq_left hms]
section
variable {x : Nat} {ts : List Tk} {rb : Nat} {a : Option Addr} {c p o n : Nat} {sg : List (List UInt8 × Nat)} {dn : List TN} {sv dv : Value} {q : List (Option Addr × Nat)} {w w' : World}
theorem RGx.count (h:RGx x ts rb a c p o n sg dn sv dv q w) {p' n':Nat} (hg:PG ts rb a c p' o n' sv dv w') (hk:aD (· = rb) w w') (hn:n<=n'):RGx x ts rb a c p' o n' sg dn sv dv q w':=by
 have h1:=h.hs;have h2:=h.hd;have hk':aD (fun b=>some rb=some b) w w':=hk.mono (fun i hi _=>by rw [hi])
 exact ⟨hg,fG h.so hk' (fun b hb he=>by have:=(h.so.lt b hb).1;have:=Option.some.inj he;omega),fG h.dw hk' (fun b hb he=>by have:=(h.dw.lt b hb).1;have:=Option.some.inj he;omega),
  h.dk.keptS hk (fun k hk hg=>by have:=hg.1;omega),h.ap,Nat.lt_of_lt_of_le h.hx hk.size,by omega,by omega⟩
theorem RGx.put_dn (h:RGx x ts rb a c p o n sg dn sv dv q w) {w3:World} {dv':Value} {dn':List TN} {q':List (Option Addr×Nat)} (hk:aD (fun b=>dv.ownBlock=some b) w w3) (hrow:w3.ownsRow (rb+1) 67 4 dv' dn'.length (dnL dn' q'))
 (hnew:∀ b,dv'.ownBlock=some b->dv.ownBlock=some b\/w.heap.size<=b) (hdk:DnK (Gk x rb sv dv) w dn' q') (hd:dn'.length<=n):RGx x ts rb a c p o n sg dn' sv dv' q' (w3.setCell ⟨rb,5,none⟩ dv'):=by
 have hlt:=h.lt;have g3:PG ts rb a c p o n sv dv w3:=h.g.kept hk (fun k hk=>(h.dvNe hk).1)
 have hdk2:DnK (fun b=>Gk x rb sv dv b/\Gk x rb sv dv' b) w dn' q':=hdk.imp (fun b hb hg=>⟨hg,hg.1,hg.2.1,hg.2.2.1,fun e=>by
  rcases hnew b e with h1 | h1
  · exact hg.2.2.2 h1
  · omega⟩)
 refine ⟨g3.set h.g.hp h.g.ho h.g.hn rfl,kT (fG h.so hk (fun b hb he=>h.ap b hb he)) (by omega) _ _,kT hrow (by omega) _ _,?_,?_,by rw [World.size_setCell];exact Nat.lt_of_lt_of_le h.hx hk.size,h.hs,hd⟩
 · exact ((hdk2.keptS hk (fun k hk hg=>hg.1.2.2.2 hk)).keptS ((aD.refl (· = rb) w3).setCell (p:=⟨rb,5,none⟩) (.inl rfl) dv') (fun k hk hg=>by have:=hg.1.1;omega)).imp (fun b _ hg=>hg.2)
 · intro y hx hx2
   rcases hnew y hx2 with h1 | h1
   · exact h.ap y hx h1
   · have:=(h.svNe hx).2;omega
theorem RGx.put_sg (h:RGx x ts rb a c p o n sg dn sv dv q w) {w3:World} {sv':Value} {sg':List (List UInt8×Nat)} (hk:aD (fun b=>sv.ownBlock=some b) w w3) (hrow:w3.ownsRow (rb+1) 347 2 sv' sg'.length (zV sg'))
 (hnew:∀ b,sv'.ownBlock=some b->sv.ownBlock=some b\/w.heap.size<=b) (hs:sg'.length<=n):RGx x ts rb a c p o n sg' dn sv' dv q (w3.setCell ⟨rb,4,none⟩ sv'):=by
 have hlt:=h.lt;have g3:PG ts rb a c p o n sv dv w3:=h.g.kept hk (fun k hk=>(h.svNe hk).1)
 have hdk2:DnK (fun b=>Gk x rb sv dv b/\Gk x rb sv' dv b) w dn q:=h.dk.imp (fun b hb hg=>⟨hg,hg.1,hg.2.1,fun e=>by
  rcases hnew b e with h1 | h1
  · exact hg.2.2.1 h1
  · omega,hg.2.2.2⟩)
 refine ⟨g3.set h.g.hp h.g.ho h.g.hn rfl,kT hrow (by omega) _ _,kT (fG h.dw hk (fun b hb he=>h.ap b he hb)) (by omega) _ _,?_,?_,by rw [World.size_setCell];exact Nat.lt_of_lt_of_le h.hx hk.size,hs,h.hd⟩
 · exact ((hdk2.keptS hk (fun k hk hg=>hg.1.2.2.1 hk)).keptS ((aD.refl (· = rb) w3).setCell (p:=⟨rb,4,none⟩) (.inl rfl) sv') (fun k hk hg=>by have:=hg.1.1;omega)).imp (fun b _ hg=>hg.2)
 · intro y hx hx2
   rcases hnew y hx with h1 | h1
   · exact h.ap y h1 hx2
   · have:=(h.dvNe hx2).2;omega
end
theorem Qf:(Tryz.prog.info? 347).map (fun i=>(i.zero,i.size,i.bytes))=some (some (.agg #[.string ⟨#[]⟩,.int .i64 0]),2,24):=by kernel_rfl
theorem FS:(Tryz.prog.info? 67).map (fun i=>(i.zero,i.size,i.bytes))=some (some (.agg #[.string ⟨#[]⟩,.string ⟨#[]⟩,.int .i64 0,.slice none 0 0]),4,64):=by kernel_rfl
theorem Rc (w:World) (x:List UInt8×Nat) (X:ByteArray) (hX:⟨x.1.toArray⟩=X) (E:TypeId):∀ j u,(wsL x)[j]? = some u->(w.alloc (.cells #[.string X,.int .i64 x.2] E)).cell? ((⟨w.heap.size,0,none⟩:Addr).add j)=some u:=fun j u hj=>by
 unfold wsL at hj;rw [hX] at hj;rw [Addr.add_lit,Nat.zero_add,cell_of_row _ _ _ _ _ (0,0) (heap_alloc_new w _)];simpa using hj
theorem C8 (ts:List Tk) (rb:Nat) (a:Option Addr) (c p o n:Nat) (sg:List (List UInt8×Nat)) (dn:List TN) (sv dv:Value) (q:List (Option Addr×Nat)) (x:List UInt8×Nat) (w:World) (h:RG ts rb a c p o n sg dn sv dv q w) (hlt:p<ts.length) :
 Calls Tryz.prog 281 #[.pointer (some ⟨rb,0,none⟩),.agg #[.string ⟨x.1.toArray⟩,.int .i64 x.2]] w fun e w'=>cD rb w w' /\
  (n=32->e=.returned (.int .i64 4)/\RG ts rb a c p o n sg dn sv dv q w')/\(¬ n=32->e=.returned (.int .i64 0)/\∃ sv',RG ts rb a c (p+1) o (n+1) (x::sg) dn sv' dv q w'):=by
 obtain ⟨i0,hi,hz0,hz1,hz2⟩:=info_parts Qf;have und:Tryz.prog.underlying 331=some (.slice 347):=Tryz.underlying331;obtain ⟨X,hX⟩:∃ X:ByteArray,⟨x.1.toArray⟩=X:=⟨_,rfl⟩;rw [hX];have hrb:=h.lt;have BA:=bA0 w (.cells #[.string X,.int .i64 x.2] 347);have NB:=heap_alloc_new w (.cells #[.string X,.int .i64 x.2] 347);have H1:=h.below BA;have K1:=cD.below (rb:=rb) BA;generalize hW:w.alloc (.cells #[.string X,.int .i64 x.2] 347)=W at BA NB H1 K1;have HH1:=aA H1;have HNB:=aA NB;have HK1:=aA K1;have HW:=aA hW;have C:=aA (Bm ts rb a c p o n sv dv W H1.g hlt);clear h H1 NB BA K1 hW;by_cases h32:n=32
 · have G32:=aA h32
   clear h32;go_enter Tryz.func281,Tryz.ntmps281
   go_upto_region 1 with fail
   rw [HW.out];go_wp2_with fail
   refine C.out.mono ?_;rintro e w2 ⟨hA, -⟩;obtain ⟨rfl,rfl⟩:=hA G32.out;go_wp2_with fail
   go_ret;exact ⟨HK1.out,fun _=>⟨rfl,HH1.out⟩,fun hn=>absurd G32.out hn⟩
 · have G32:=aA h32
   clear h32;go_enter Tryz.func281,Tryz.ntmps281
   go_upto_region 1 with fail
   rw [HW.out];go_wp2_with fail
   refine C.out.mono ?_;rintro e w2 ⟨-,hB⟩;obtain ⟨rfl,hPG,hk⟩:=hB G32.out;have R2:=HH1.out.count hPG hk (Nat.le_succ n);have N2:=aA (hk.heap HNB.out (by omega));obtain ⟨⟨c0,c1,c2,c3,c4,c5⟩,f1,f2,f3,f4,f5⟩:=R2.g.r.cells;have b0:w2.cell? ⟨w.heap.size,0,none⟩=some (.string X):=by rw [cell_of_row _ _ _ _ _ (0,0) N2.out];rfl
   have b1:w2.cell? ⟨w.heap.size,1,none⟩=some (.int .i64 x.2):=by rw [cell_of_row _ _ _ _ _ (0,0) N2.out];rfl
   have HR2:=aA R2;have HK2:=aA (HK1.out.trans (cD.of hk));have hlen:=HH1.out.hs;have hn32:=R2.g.hn;have NEW:=aA (fun w=>Rc w x X hX 347);have hnil:=aA hX;have hsz:=R2.lt;have OD:=aA (show w2.drew.ownsRow (rb+1) 347 2 sv sg.length (zV sg) from R2.so);clear hPG hk R2 C hX hB;go_wp2_with fail
   go_region_law (first
    | (refine n4 rfl (.tmp 15) (.tmp 17) 331 rfl (base := rb + 1) und hi hz0 hz1 hz2 rfl (by decide) sv sg.length 1 (zV sg) (wsL x) ⟨w2.heap.size, 0, none⟩ 1 (by first | (simp [Act.eval]; done) | fail) (by first | (simp [Act.eval]; done) | fail) (OD.out.alloc _) rfl (NEW.out w2.drew) (Nn x) (by unfold maxLen; omega) (by omega) (by simp; omega) ?_
       intro v3 w3 ho hg hq;obtain ⟨va3,vc3,rfl⟩:=eV ho;have K3:=((aD.refl (fun b=>sv.ownBlock=some b) w2).drew.alloc (.cells #[.string X,.int .i64 x.2] 347)).grown hg (fun k hk=>.inl hk);have P3:=aA (HR2.out.put_sg (sg':=x::sg) K3 ho (fun b hb=>(hq b hb).imp id FR) (by rw [List.length_cons];omega));have KK:=aA ((HK2.out.trans (K3.mono (fun k hk _=>by have:=(HR2.out.svNe hk).1;omega))).set 4 (.slice va3 (sg.length+1) vc3));have G3:=(HR2.out.g.kept K3 (fun k hk=>(HR2.out.svNe hk).1)).r.cells;clear ho hg hq K3 c0 c1 c2 c3 c4 c5 f1 f2 f3 f4 f5 b0 b1;obtain ⟨⟨c0,c1,c2,c3,c4,c5⟩,f1,f2,f3,f4,f5⟩:=G3)
    | fail)
   all_goals
    go_wp2_with fail
    go_ret;exact ⟨KK.out,fun hn=>absurd hn G32.out,fun _=>⟨rfl,_,P3.out⟩⟩
end
end
end Go.Proofs.YtgfkjkokmcejbaaGreatDoor
