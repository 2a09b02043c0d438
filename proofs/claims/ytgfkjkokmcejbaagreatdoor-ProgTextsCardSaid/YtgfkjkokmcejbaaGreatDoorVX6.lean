/-
 No statement: what ProgTextsLift needs, of the texts OE7.
-/
import Derived.Test.YtgfkjkokmcejbaaGreatDoorVX5
set_option maxHeartbeats 40000000
set_option maxRecDepth 100000
open List renaming length_append -> Tb, length_cons -> Te, length_take -> Th
open Go.World renaming size_alloc -> Tc
open Nat renaming le_refl -> Td
open Go.Lib renaming toList_data -> Tm
namespace Go.Proofs.YtgfkjkokmcejbaaGreatDoor
open Go.RowKit Tryz
structure SR where
 pos:Nat
 opn:Nat
 cnt:Nat
 sg:List (Tq×Nat)
 dn:List TN
inductive vG | bad (p:Nat) (e:Int) | ok (s:SR)
def qW (o:Tq) (dn:List TN):List TN :=
 if o=iQ then (match dn with
  | a::r=>pG a::r
  | []=>[])
 else match dn with
  | b::a::r=>fG o a b::r
  | _=>[]
def cX (h:Nat):List (Tq×Nat)->List TN->List (Tq×Nat)×List TN
 | [],dn=>([],dn)
 | (o,k)::sg,dn=>if h<=k then cX h sg (qW o dn) else ((o,k)::sg,dn)
def dB (L:List Tk) (p:Nat):Nat:=if isA L p=true then 1 else if isM L p=true then 2 else 0
def run (L:List Tk):Nat->Bool->SR->vG
 | 0,_,s=>.bad s.pos 2
 | f + 1, true, s =>
   if isS L [40] s.pos=true then run L f true ⟨s.pos+1,s.opn+1,s.cnt,s.sg,s.dn⟩
   else if isS L [45] s.pos=true then (if s.cnt=32 then .bad s.pos 4 else run L f true ⟨s.pos+1,s.opn,s.cnt+1,(iQ,3+s.opn*3)::s.sg,s.dn⟩)
   else match L[s.pos]? with
    | none=>.bad s.pos 2
    | some t =>
      if t.kind=2/\0<=t.num then (if s.cnt=32 then .bad s.pos 4 else run L f false ⟨s.pos+1,s.opn,s.cnt+1,s.sg,tH t.num::s.dn⟩)
      else if t.kind=1/\cD t.text=true then (if s.cnt=32 then .bad s.pos 4 else run L f false ⟨s.pos+1,s.opn,s.cnt+1,s.sg,fE t.text::s.dn⟩)
      else .bad s.pos 2
 | f + 1, false, s =>
   if 0<s.opn/\isS L [41] s.pos=true then run L f false ⟨s.pos+1,s.opn-1,s.cnt,s.sg,s.dn⟩
   else if dB L s.pos=0 then (if 0<s.opn then .bad s.pos 2 else .ok s)
   else if s.cnt=32 then .bad s.pos 4
   else run L f true ⟨s.pos+1,s.opn,s.cnt+1,(eA L s.pos,dB L s.pos+s.opn*3)::(cX (dB L s.pos+s.opn*3) s.sg s.dn).1,(cX (dB L s.pos+s.opn*3) s.sg s.dn).2⟩
def fH (L:List Tk) (m:Bool) (s:SR):vG:=run L (L.length+1-s.pos) m s
theorem DV {L:List Tk} {s:SR} (hp:s.pos<=L.length):fH L true s =
 if isS L [40] s.pos=true then fH L true ⟨s.pos+1,s.opn+1,s.cnt,s.sg,s.dn⟩
 else if isS L [45] s.pos=true then (if s.cnt=32 then .bad s.pos 4 else fH L true ⟨s.pos+1,s.opn,s.cnt+1,(iQ,3+s.opn*3)::s.sg,s.dn⟩)
 else match L[s.pos]? with
  | none=>.bad s.pos 2
  | some t =>
    if t.kind=2/\0<=t.num then (if s.cnt=32 then .bad s.pos 4 else fH L false ⟨s.pos+1,s.opn,s.cnt+1,s.sg,tH t.num::s.dn⟩)
    else if t.kind=1/\cD t.text=true then (if s.cnt=32 then .bad s.pos 4 else fH L false ⟨s.pos+1,s.opn,s.cnt+1,s.sg,fE t.text::s.dn⟩)
    else .bad s.pos 2:=by
 unfold fH;rw [show L.length+1-s.pos=(L.length-s.pos)+1 by omega,run];simp only [show L.length+1-(s.pos+1)=L.length-s.pos by omega]
theorem mK {L:List Tk} {s:SR} (hp:s.pos<=L.length):fH L false s =
 if 0<s.opn/\isS L [41] s.pos=true then fH L false ⟨s.pos+1,s.opn-1,s.cnt,s.sg,s.dn⟩
 else if dB L s.pos=0 then (if 0<s.opn then .bad s.pos 2 else .ok s)
 else if s.cnt=32 then .bad s.pos 4
 else fH L true ⟨s.pos+1,s.opn,s.cnt+1,(eA L s.pos,dB L s.pos+s.opn*3)::(cX (dB L s.pos+s.opn*3) s.sg s.dn).1,(cX (dB L s.pos+s.opn*3) s.sg s.dn).2⟩:=by
 unfold fH;rw [show L.length+1-s.pos=(L.length-s.pos)+1 by omega,run];simp only [show L.length+1-(s.pos+1)=L.length-s.pos by omega]
theorem mU {h:Nat} {sg:List (Tq×Nat)} (dn:List TN) (H:∀ x∈sg,x.2<h):cX h sg dn=(sg,dn):=by
 cases sg with
 | nil=>rfl
 | cons x sg =>
   obtain ⟨o,k⟩:=x;rw [cX,if_neg (by have:=H (o,k) (by simp);simp only at this;omega)]
theorem uU {h h':Nat} (hh:h<=h'):∀ (sg:List (Tq×Nat)) (dn:List TN),cX h (cX h' sg dn).1 (cX h' sg dn).2=cX h sg dn
 | [],dn=>rfl
 | (o, k) :: sg, dn => by
   rw [cX];by_cases a:h'<=k
   · rw [if_pos a,uU hh sg,cX,if_pos (by omega)]
   · rw [if_neg a]
theorem qV {h c:Nat} (d:h<=c) {sg a:List (Tq×Nat)} {dn b:List TN} (H:cX c a b=cX c sg dn):cX h a b=cX h sg dn:=by
 rw [<- uU d a, <- uU d sg,H]
def Sim (L:List Tk) (h d:Nat) (sg:List (Tq×Nat)) (dn:List TN) (C:Nat->Prop) (R:vG) (x:TN×RS):Prop :=
 (¬ x.2.bad=0->R=.bad x.2.whr x.2.bad) /\
 (x.2.bad=0->C x.2.pos/\x.2.pos<=L.length/\x.2.cnt<=32/\∃ sg3 dn3,R=fH L false ⟨x.2.pos,d,x.2.cnt,sg3,dn3⟩/\cX h sg3 dn3=cX h sg (x.1::dn))
def SD (L:List Tk) (s:RS):Md->TN×RS->Prop
 | .fac,x=>∀ d sg dn,(∀ y∈sg,y.2<=3*d+3)->Sim L (3*d+3) d sg dn (fun _=>True) (fH L true ⟨s.pos,d,s.cnt,sg,dn⟩) x
 | .prod,x=>∀ d sg dn,(∀ y∈sg,y.2<3*d+2)->Sim L (3*d+2) d sg dn (fun p=>isM L p=false) (fH L true ⟨s.pos,d,s.cnt,sg,dn⟩) x
 | .sum,x=>∀ d sg dn,(∀ y∈sg,y.2<3*d+1)->Sim L (3*d+1) d sg dn (fun p=>isM L p=false/\isA L p=false) (fH L true ⟨s.pos,d,s.cnt,sg,dn⟩) x
 | .prodL n,x=>∀ d sg dn sg2 dn2,(∀ y∈sg,y.2<3*d+2)->cX (3*d+2) sg2 dn2=(sg,n::dn)->Sim L (3*d+2) d sg dn (fun p=>isM L p=false) (fH L false ⟨s.pos,d,s.cnt,sg2,dn2⟩) x
 | .sumL n,x=>isM L s.pos=false->∀ d sg dn sg2 dn2,(∀ y∈sg,y.2<3*d+1)->cX (3*d+1) sg2 dn2=(sg,n::dn)->Sim L (3*d+1) d sg dn (fun p=>isM L p=false/\isA L p=false) (fH L false ⟨s.pos,d,s.cnt,sg2,dn2⟩) x
theorem jQ {L:List Tk} {x:Tq} {p:Nat} {t:Tk} (h:L[p]? = some t):isS L x p=(t.kind == 3 && t.text == x):=by
 unfold isS;rw [h]
theorem CR {L:List Tk} {p:Nat} (h:isA L p=true):isS L [41] p=false/\isM L p=false:=by
 have a:=pK h;unfold isM;unfold isA at h;rw [jQ (List.getElem?_eq_getElem a)] at h |-
 rw [jQ (List.getElem?_eq_getElem a)] at h;rw [jQ (List.getElem?_eq_getElem a),jQ (List.getElem?_eq_getElem a),jQ (List.getElem?_eq_getElem a)];simp only [Bool.or_eq_true,Bool.and_eq_true,beq_iff_eq] at h;rcases h with ⟨c,b⟩ | ⟨c,b⟩ <;> rw [c,b] <;> exact ⟨rfl,rfl⟩
theorem CQ {L:List Tk} {p:Nat} (h:isM L p=true):isS L [41] p=false/\isA L p=false:=by
 have a:=pJ h;unfold isA;unfold isM at h;rw [jQ (List.getElem?_eq_getElem a)] at h |-
 rw [jQ (List.getElem?_eq_getElem a)] at h;rw [jQ (List.getElem?_eq_getElem a)] at h;rw [jQ (List.getElem?_eq_getElem a),jQ (List.getElem?_eq_getElem a)];simp only [Bool.or_eq_true,Bool.and_eq_true,beq_iff_eq] at h;rcases h with (⟨c,b⟩ | ⟨c,b⟩) | ⟨c,b⟩ <;> rw [c,b] <;> exact ⟨rfl,rfl⟩
theorem iT {s:RS} (a:s.bad=0) (h:s.cnt=32):(aJ s).bad=4/\(aJ s).whr=s.pos:=by
 unfold aJ;rw [if_pos a,if_pos (by omega)];exact ⟨rfl,rfl⟩
theorem mA {s:RS} (a:s.bad=0) (h:s.cnt<=32) (b:¬ s.cnt=32):aJ s=⟨s.pos+1,s.cnt+1,0,s.whr⟩:=by
 unfold aJ;rw [if_pos a,if_neg (by omega)]
theorem pA {L:List Tk} {h d:Nat} {sg:List (Tq×Nat)} {dn:List TN} {C:Nat->Prop} {t:TN} {p:Nat} {q:RS} (b:q.bad=4) (c:q.whr=p):Sim L h d sg dn C (.bad p 4) (t,q) :=
 ⟨fun _=>by simp only;rw [b,c],fun a=>by simp only at a;rw [b] at a;exact absurd a (by decide)⟩
theorem DR {L:List Tk} {h d:Nat} {sg:List (Tq×Nat)} {dn:List TN} {C:Nat->Prop} {t:TN} {s:RS} (a:s.bad=0):Sim L h d sg dn C (.bad s.pos 2) (t,aQ 2 s):=by
 have e:aQ 2 s=⟨s.pos,s.cnt,2,s.pos⟩:=by unfold aQ;rw [if_pos a]
 rw [e];exact ⟨fun _=>rfl,fun b=>by cases b⟩
theorem sX {L:List Tk} {h c d f:Nat} {sg sg':List (Tq×Nat)} {dn dn':List TN} {C g:Nat->Prop} {R:vG} {x y:TN×RS} (hx:¬ x.2.bad=0) (H:Sim L h d sg dn C R x) (a:y.2=x.2):Sim L c f sg' dn' g R y :=
 ⟨fun _=>by rw [a];exact H.1 hx,fun b=>absurd (by rw [<- a];exact b) hx⟩
theorem sim (L:List Tk) (z:∀ t∈L,cS t):∀ (f:Nat) (md:Md) (s:RS),bO (L.length-s.pos) md<=f->s.bad=0->s.pos<=L.length->s.cnt<=32->SD L s md (pr L f md s)
 | 0,md,s,h,_,_,_=>by cases md <;> simp [bO] at h
 | f + 1, .fac, s, h, hb, hp, hc => by
   intro d sg dn b;simp only [bO] at h;rw [pr,if_pos hb,DV hp];simp only;cases e:L[s.pos]? with
   | none =>
     have N:L.length<=s.pos:=List.getElem?_eq_none_iff.1 e;rw [if_neg (by rw [lR N];decide),if_neg (by rw [lR N];decide)];exact DR hb
   | some t =>
     have E:=(List.getElem?_eq_some_iff.1 e).1;have V:=z t (by rw [<- (List.getElem?_eq_some_iff.1 e).2];exact List.getElem_mem E);simp only;rw [jQ e,jQ e];rcases V with ⟨U,S⟩ | ⟨T,R,_⟩ | k3
     · rw [U,show ((1:Int) == 3)=false from rfl,Bool.false_and,Bool.false_and,if_neg Bool.false_ne_true,if_neg Bool.false_ne_true,if_neg (show ¬ ((1:Int)=2/\0<=t.num) from fun h=>absurd h.1 (by decide)),if_pos (⟨rfl,S⟩:(1:Int)=1/\cD t.text=true),if_neg (show ¬ (1:Int)=2 by decide),if_pos (rfl:(1:Int)=1)]
       by_cases a:s.cnt=32
       · rw [if_pos a]
         exact pA (iT hb a).1 (iT hb a).2
       · rw [if_neg a,mA hb hc a]
         exact ⟨fun p=>absurd rfl p,fun _=>⟨trivial,by simp only;omega,by simp only;omega,_,_,rfl,rfl⟩⟩
     · rw [T,show ((2:Int) == 3)=false from rfl,Bool.false_and,Bool.false_and,if_neg Bool.false_ne_true,if_neg Bool.false_ne_true,if_pos (⟨rfl,R⟩:(2:Int)=2/\0<=t.num),if_pos (rfl:(2:Int)=2)]
       by_cases a:s.cnt=32
       · rw [if_pos a]
         exact pA (iT hb a).1 (iT hb a).2
       · rw [if_neg a,mA hb hc a]
         exact ⟨fun p=>absurd rfl p,fun _=>⟨trivial,by simp only;omega,by simp only;omega,_,_,rfl,rfl⟩⟩
     · rw [k3,if_neg (show ¬ (3:Int)=2 by decide),if_neg (show ¬ (3:Int)=1 by decide)]
       by_cases G:t.text=[45]
       · rw [G,if_neg (show ¬ ((3:Int) == 3 && ([45]:Tq) == [40])=true by decide),if_pos (show ((3:Int) == 3 && ([45]:Tq) == [45])=true by decide),if_pos (rfl:([45]:Tq)=[45])]
         by_cases a:s.cnt=32
         · rw [if_pos a]
           have r:=iT hb a;have q:(pr L f .fac (aJ s)).2=aJ s:=dG L f .fac _ (by rw [r.1];decide);exact pA (by rw [q];exact r.1) (by rw [q];exact r.2)
         · rw [if_neg a,mA hb hc a]
           have k:=sim L z f .fac ⟨s.pos+1,s.cnt+1,0,s.whr⟩ (by simp only [bO];omega) rfl (by simp only;omega) (by simp only;omega) d ((iQ,3+d*3)::sg) dn
            (by intro y hy; rcases List.mem_cons.1 hy with rfl | hy
                · show 3+d*3<=_;omega
                · exact b y hy)
           refine ⟨k.1,fun p=>?_⟩;obtain ⟨c1,c2,c3,g,j,B,A⟩:=k.2 p;refine ⟨c1,c2,c3,g,j,B,?_⟩;rw [A,cX,if_pos (by omega)];rfl
       · rw [if_neg G]
         by_cases H:t.text=[40]
         · rw [H,if_pos (show ((3:Int) == 3 && ([40]:Tq) == [40])=true by decide),if_pos (rfl:([40]:Tq)=[40])]
           have k:=sim L z f .sum (aM s) (by show bO (L.length-(s.pos+1)) _<=f;simp only [bO];omega) hb (by show s.pos+1<=_;omega) hc (d+1) sg dn (by intro y hy;have:=b y hy;omega);have q:(⟨(aM s).pos,d+1,(aM s).cnt,sg,dn⟩:SR)=⟨s.pos+1,d+1,s.cnt,sg,dn⟩:=rfl;rw [q] at k;generalize hX:pr L f .sum (aM s)=X at k |-
           by_cases hx:X.2.bad=0
           · obtain ⟨⟨Y,Z⟩,c2,c3,g,j,B,A⟩:=k.2 hx
             rw [B,mK c2];simp only;by_cases hs:isS L [41] X.2.pos=true
             · have x:dS L X.2=aM X.2:=by unfold dS;rw [hs,Bool.not_true,Bool.and_false,if_neg (by decide)]
               rw [if_pos ⟨by omega,hs⟩,x];refine ⟨fun p=>absurd hx p,fun _=>⟨trivial,?_,c3,g,j,rfl,?_⟩⟩
               · have:=gN hs;show X.2.pos+1<=_;omega
               · exact qV (by omega) A
             · have x:dS L X.2=⟨X.2.pos+1,X.2.cnt,2,X.2.pos⟩:=by
                unfold dS;rw [if_pos (by rw [hx];simp [hs])];unfold aQ aM;rw [if_pos hx]
               have u:dB L X.2.pos=0:=by unfold dB;rw [Z,Y];rfl
               rw [if_neg (fun u=>hs u.2),if_pos u,if_pos (by omega),x];exact ⟨fun _=>rfl,fun p=>by cases p⟩
           · have x:dS L X.2=aM X.2:=by
              unfold dS;rw [if_neg];simp [hx]
             rw [x];refine ⟨fun _=>k.1 hx,fun p=>absurd p hx⟩
         · rw [if_neg (show ¬ ((3:Int) == 3 && t.text == [40])=true by simp [H]),if_neg (show ¬ ((3:Int) == 3 && t.text == [45])=true by simp [G]),if_neg (show ¬ ((3:Int)=2/\0<=t.num) from fun h=>absurd h.1 (by decide)),if_neg (show ¬ ((3:Int)=1/\cD t.text=true) from fun h=>absurd h.1 (by decide)),if_neg H]
           exact DR hb
 | f + 1, .prod, s, h, hb, hp, hc => by
   intro d sg dn b;simp only [bO] at h;rw [pr];have k:=sim L z f .fac s (by simp only [bO];omega) hb hp hc d sg dn (by intro y hy;have:=b y hy;omega);have c:=dR L f .fac s;generalize pr L f .fac s=X at k c |-
   by_cases hx:X.2.bad=0
   · obtain ⟨-,c2,c3,g,j,B,A⟩:=k.2 hx
     have m:=sim L z f (.prodL X.1) X.2 (by simp only [bO];omega) hx c2 c3 d sg dn g j b (by rw [qV (show 3*d+2<=3*d+3 by omega) A,mU _ b]);rw [B];exact m
   · exact sX hx k (dG L f _ _ hx)
 | f + 1, .prodL n, s, h, hb, hp, hc => by
   intro d sg dn C I b M;simp only [bO] at h;rw [pr];by_cases o:isM L s.pos=true
   · have E:=pJ o
     rw [if_pos (by rw [hb,o];rfl),mK hp];simp only;obtain ⟨n1,n2⟩:=CQ o;have u:dB L s.pos=2:=by unfold dB;rw [n2,o];rfl
     rw [if_neg (by rw [n1];simp),u,if_neg (by decide)];by_cases a:s.cnt=32
     · rw [if_pos a]
       have r:=iT hb a;have q:(pr L f .fac (aJ s)).2=aJ s:=dG L f .fac _ (by rw [r.1];decide);have l:∀ md,(pr L f md (aJ s)).2=aJ s:=fun md=>dG L f md _ (by rw [r.1];decide)
       rw [q];exact pA (by rw [l];exact r.1) (by rw [l];exact r.2)
     · rw [if_neg a,mA hb hc a,show 2+d*3=3*d+2 by omega,M]
       simp only
       have k:=sim L z f .fac ⟨s.pos+1,s.cnt+1,0,s.whr⟩ (by simp only [bO];omega) rfl (by simp only;omega) (by simp only;omega) d ((eA L s.pos,3*d+2)::sg) (n::dn)
        (by intro y hy; rcases List.mem_cons.1 hy with rfl | hy
            · show 3*d+2<=_;omega
            · have:=b y hy;omega)
       have c:=dR L f .fac ⟨s.pos+1,s.cnt+1,0,s.whr⟩;simp only at k c;generalize pr L f .fac ⟨s.pos+1,s.cnt+1,0,s.whr⟩=X at k c |-
       by_cases hx:X.2.bad=0
       · obtain ⟨-,c2,c3,g,j,B,A⟩:=k.2 hx
         have D:eA L s.pos ≠ iQ:=by
          intro hn;rcases opM o with h | h | h | h | h <;> rw [h] at hn <;> cases hn
         have P:cX (3*d+2) g j=(sg,fG (eA L s.pos) n X.1::dn):=by
          rw [qV (show 3*d+2<=3*d+3 by omega) A,cX,if_pos (Td _),qW,if_neg D];exact mU _ b
         have m:=sim L z f (.prodL (fG (eA L s.pos) n X.1)) X.2 (by simp only [bO];omega) hx c2 c3 d sg dn g j b P;rw [B];exact m
       · exact sX hx k (dG L f _ _ hx)
   · rw [if_neg (by rw [Bool.and_eq_true];exact fun u=>o u.2)]
     refine ⟨fun p=>absurd hb p,fun _=>⟨by simpa using o,hp,hc,C,I,rfl,?_⟩⟩;rw [M,mU _ b]
 | f + 1, .sum, s, h, hb, hp, hc => by
   intro d sg dn b;simp only [bO] at h;rw [pr];have k:=sim L z f .prod s (by simp only [bO];omega) hb hp hc d sg dn (by intro y hy;have:=b y hy;omega);have c:=dR L f .prod s;generalize pr L f .prod s=X at k c |-
   by_cases hx:X.2.bad=0
   · obtain ⟨c1,c2,c3,g,j,B,A⟩:=k.2 hx
     have m:=sim L z f (.sumL X.1) X.2 (by simp only [bO];omega) hx c2 c3 c1 d sg dn g j b (by rw [qV (show 3*d+1<=3*d+2 by omega) A,mU _ b]);rw [B];exact m
   · exact sX hx k (dG L f _ _ hx)
 | f + 1, .sumL n, s, h, hb, hp, hc => by
   intro O d sg dn C I b M;simp only [bO] at h;rw [pr];by_cases o:isA L s.pos=true
   · have E:=pK o
     rw [if_pos (by rw [hb,o];rfl),mK hp];simp only;obtain ⟨n1,n2⟩:=CR o;have u:dB L s.pos=1:=by unfold dB;rw [o];rfl
     rw [if_neg (by rw [n1];simp),u,if_neg (by decide)];by_cases a:s.cnt=32
     · rw [if_pos a]
       have r:=iT hb a;have l:∀ md,(pr L f md (aJ s)).2=aJ s:=fun md=>dG L f md _ (by rw [r.1];decide)
       rw [l];exact pA (by rw [l];exact r.1) (by rw [l];exact r.2)
     · rw [if_neg a,mA hb hc a,show 1+d*3=3*d+1 by omega,M]
       simp only
       have k:=sim L z f .prod ⟨s.pos+1,s.cnt+1,0,s.whr⟩ (by simp only [bO];omega) rfl (by simp only;omega) (by simp only;omega) d ((eA L s.pos,3*d+1)::sg) (n::dn)
        (by intro y hy; rcases List.mem_cons.1 hy with rfl | hy
            · show 3*d+1<_;omega
            · have:=b y hy;omega)
       have c:=dR L f .prod ⟨s.pos+1,s.cnt+1,0,s.whr⟩;simp only at k c;generalize pr L f .prod ⟨s.pos+1,s.cnt+1,0,s.whr⟩=X at k c |-
       by_cases hx:X.2.bad=0
       · obtain ⟨c1,c2,c3,g,j,B,A⟩:=k.2 hx
         have D:eA L s.pos ≠ iQ:=by
          intro hn;rcases opA o with h | h | h | h | h <;> rw [h] at hn <;> cases hn
         have P:cX (3*d+1) g j=(sg,fG (eA L s.pos) n X.1::dn):=by
          rw [qV (show 3*d+1<=3*d+2 by omega) A,cX,if_pos (Td _),qW,if_neg D];exact mU _ b
         have m:=sim L z f (.sumL (fG (eA L s.pos) n X.1)) X.2 (by simp only [bO];omega) hx c2 c3 c1 d sg dn g j b P;rw [B];exact m
       · exact sX hx k (dG L f _ _ hx)
   · rw [if_neg (by rw [Bool.and_eq_true];exact fun u=>o u.2)]
     refine ⟨fun p=>absurd hb p,fun _=>⟨⟨O,by simpa using o⟩,hp,hc,C,I,rfl,?_⟩⟩;rw [M,mU _ b]
theorem QN {L:List Tk} (g:∀ t∈L,cS t) {p:Nat} (hp:p<=L.length) :
 (∀ q e,ofL L p=.bad q e->fH L true ⟨p,0,0,[],[]⟩=.bad q e) /\
 (∀ t q,ofL L p=.ok t q->∃ s:SR,fH L true ⟨p,0,0,[],[]⟩=.ok s/\s.pos=q/\q<=L.length/\cX 0 s.sg s.dn=([],[t])):=by
 have h:=sim L g (4*(L.length-p)+4) .sum ⟨p,0,0,0⟩ (by simp only [bO];omega) rfl hp (by simp only;omega) 0 [] [] (by intro y d;cases d);have h:Sim L 1 0 [] [] (fun p=>isM L p=false/\isA L p=false) (fH L true ⟨p,0,0,[],[]⟩) (pE L .sum ⟨p,0,0,0⟩):=h;unfold ofL;generalize pE L .sum ⟨p,0,0,0⟩=X at h |-
 by_cases hx:X.2.bad=0
 · rw [if_pos hx]
   refine ⟨fun q e a=>(by cases a),fun t q a=>?_⟩;cases a;obtain ⟨⟨l,m⟩,c2,c3,b,c,k,j⟩:=h.2 hx;have f:dB L X.2.pos=0:=by unfold dB;rw [m,l];rfl
   refine ⟨⟨X.2.pos,0,X.2.cnt,b,c⟩,?_,rfl,c2,?_⟩
   · rw [k,mK c2]
     simp only;rw [if_neg (by simp),if_pos f,if_neg (by decide)]
   · exact qV (Nat.zero_le 1) j
 · rw [if_neg hx]
   refine ⟨fun q e a=>?_,fun t q a=>(by cases a)⟩;cases a;exact h.1 hx
theorem sF (o:Tr) (w:World):Calls prog 186 #[.string o] w fun e w'=>e=.returned (.int .i64 (cV o))/\w=w':=by
 have E:cV o=if (o.toList == [110,117,109] || o.toList == [110,97,109,101])=true then 0 else if (o.toList == [110,101,103])=true then 1 else if (o.toList == [43] || o.toList == [45] || o.toList == [42] || o.toList == [47] || o.toList == [37])=true then 2 else -1:=by
  unfold cV bZ bT fM lF l6 iR iQ;rw [Tm]
 cases a:(o.toList == [110,117,109]) with
 | true =>
   have R:=aA (show cV o=0 by rw [E];simp [a]);clear E;go_enter func186,ntmps186
   go_wp2_with fail
   go_ret;rw [R.out];exact ⟨rfl,rfl⟩
 | false =>
   cases b:(o.toList == [110,97,109,101]) with
   | true =>
     have R:=aA (show cV o=0 by rw [E];simp [a,b]);clear E;go_enter func186,ntmps186
     go_wp2_with fail
     go_ret;rw [R.out];exact ⟨rfl,rfl⟩
   | false =>
     cases c:(o.toList == [110,101,103]) with
     | true =>
       have R:=aA (show cV o=1 by rw [E];simp [a,b,c]);clear E;go_enter func186,ntmps186
       go_wp2_with fail
       go_ret;rw [R.out];exact ⟨rfl,rfl⟩
     | false =>
       cases d:(o.toList == [43]) with
       | true =>
         have R:=aA (show cV o=2 by rw [E];simp [a,b,c,d]);clear E;go_enter func186,ntmps186
         go_wp2_with fail
         go_ret;rw [R.out];exact ⟨rfl,rfl⟩
       | false =>
         cases f:(o.toList == [45]) with
         | true =>
           have R:=aA (show cV o=2 by rw [E];simp [a,b,c,d,f]);clear E;go_enter func186,ntmps186
           go_wp2_with fail
           go_ret;rw [R.out];exact ⟨rfl,rfl⟩
         | false =>
           cases g:(o.toList == [42]) with
           | true =>
             have R:=aA (show cV o=2 by rw [E];simp [a,b,c,d,f,g]);clear E;go_enter func186,ntmps186
             go_wp2_with fail
             go_ret;rw [R.out];exact ⟨rfl,rfl⟩
           | false =>
             cases h:(o.toList == [47]) with
             | true =>
               have R:=aA (show cV o=2 by rw [E];simp [a,b,c,d,f,g,h]);clear E;go_enter func186,ntmps186
               go_wp2_with fail
               go_ret;rw [R.out];exact ⟨rfl,rfl⟩
             | false =>
               cases j:(o.toList == [37]) with
               | true =>
                 have R:=aA (show cV o=2 by rw [E];simp [a,b,c,d,f,g,h,j]);clear E;go_enter func186,ntmps186
                 go_wp2_with fail
                 go_ret;rw [R.out];exact ⟨rfl,rfl⟩
               | false =>
                 have R:=aA (show cV o= -1 by rw [E];simp [a,b,c,d,f,g,h,j]);clear E;go_enter func186,ntmps186
                 go_wp2_with fail
                 go_ret;rw [R.out];exact ⟨rfl,rfl⟩
theorem Gp (k:Int) (X x:Tr) (n p:Int) (w:World) :
 Calls prog 290 #[.agg #[.int .i64 k,.string X,.int .i64 n,.int .i64 p],.string x] w fun e w'=>e=.returned (.bool (k == 3 && X.data.toList == x.data.toList))/\Below w.heap.size w w':=by
 have b:∀ o,Below w.heap.size w (w.alloc o):=fun o=>bA0 _ _
 have c:=aA b;clear b;rw [<- Tm, <- Tm];cases a:(k == 3) with
 | true =>
   have z:(k == 3)=true:=a;rw [Bool.true_and];clear a;go_enter func290,ntmps290
   go_wp2_with fail
   go_ret;exact ⟨rfl,c.out _⟩
 | false =>
   have z:(k == 3)=false:=a;rw [Bool.false_and];clear a;go_enter func290,ntmps290
   go_wp2_with fail
   go_ret;exact ⟨rfl,c.out _⟩
def tW (k:Int) (X:Tq):Nat:=if (k == 3)=true then (if (X == [43] || X == [45])=true then 1 else if (X == [42] || X == [47] || X == [37])=true then 2 else 0) else 0
theorem Fh (k:Int) (X:Tr) (n p:Int) (w:World) :
 Calls prog 277 #[.agg #[.int .i64 k,.string X,.int .i64 n,.int .i64 p]] w fun e w'=>e=.returned (.int .i64 (tW k X.data.toList:Nat))/\Below w.heap.size w w':=by
 have m:∀ o,Below w.heap.size w (w.alloc o):=fun o=>bA0 _ _
 have g:=aA m;clear m;obtain ⟨L,l⟩:∃ L,X.data.toList=L:=⟨_,rfl⟩;have E:tW k L=tW k L:=rfl;have b:X.toList=L:=by rw [Tm,l]
 rw [l];conv at E=>rhs;unfold tW
 cases a:(k == 3) with
 | false =>
   have z:(k == 3)=false:=a;have R:=aA (show tW k L=0 by rw [E,a];rfl);clear a E b;go_enter func277,ntmps277
   go_wp2_with fail
   go_ret;rw [R.out];exact ⟨rfl,g.out _⟩
 | true =>
   have z:(k == 3)=true:=a;rw [a,if_pos rfl] at E;clear a;cases c:(L == [43]) with
   | true =>
     have R:=aA (show tW k L=1 by rw [E];simp [c]);rw [<- b] at c;clear E b;go_enter func277,ntmps277
     go_wp2_with fail
     go_ret;rw [R.out];exact ⟨rfl,g.out _⟩
   | false =>
     cases d:(L == [45]) with
     | true =>
       have R:=aA (show tW k L=1 by rw [E];simp [c,d]);rw [<- b] at c d;clear E b;go_enter func277,ntmps277
       go_wp2_with fail
       go_ret;rw [R.out];exact ⟨rfl,g.out _⟩
     | false =>
       cases f:(L == [42]) with
       | true =>
         have R:=aA (show tW k L=2 by rw [E];simp [c,d,f]);rw [<- b] at c d f;clear E b;go_enter func277,ntmps277
         go_wp2_with fail
         go_ret;rw [R.out];exact ⟨rfl,g.out _⟩
       | false =>
         cases h:(L == [47]) with
         | true =>
           have R:=aA (show tW k L=2 by rw [E];simp [c,d,f,h]);rw [<- b] at c d f h;clear E b;go_enter func277,ntmps277
           go_wp2_with fail
           go_ret;rw [R.out];exact ⟨rfl,g.out _⟩
         | false =>
           cases j:(L == [37]) with
           | true =>
             have R:=aA (show tW k L=2 by rw [E];simp [c,d,f,h,j]);rw [<- b] at c d f h j;clear E b;go_enter func277,ntmps277
             go_wp2_with fail
             go_ret;rw [R.out];exact ⟨rfl,g.out _⟩
           | false =>
             have R:=aA (show tW k L=0 by rw [E];simp [c,d,f,h,j]);rw [<- b] at c d f h j;clear E b;go_enter func277,ntmps277
             go_wp2_with fail
             go_ret;rw [R.out];exact ⟨rfl,g.out _⟩
def IsG (w:World) (b:Nat) (a:Tp) (l c:Nat) (p o n:Nat) (sv dv:Value):Prop:=w.heap[b]? = some (.cells #[.slice a l c,.int .i64 p,.int .i64 o,.int .i64 n,sv,dv] 333 (0,0))
theorem IsG.cells {w:World} {b:Nat} {a:Tp} {l c p o n:Nat} {sv dv:Value} (h:IsG w b a l c p o n sv dv) :
 (w.cell? ⟨b,0,none⟩=some (.slice a l c)/\w.cell? ⟨b,1,none⟩=some (.int .i64 p)/\w.cell? ⟨b,2,none⟩=some (.int .i64 o)/\w.cell? ⟨b,3,none⟩=some (.int .i64 n)/\w.cell? ⟨b,4,none⟩=some sv/\w.cell? ⟨b,5,none⟩=some dv) /\
 (w.frozen? ⟨b,1,none⟩=false/\w.frozen? ⟨b,2,none⟩=false/\w.frozen? ⟨b,3,none⟩=false/\w.frozen? ⟨b,4,none⟩=false/\w.frozen? ⟨b,5,none⟩=false):=by
 unfold IsG at h;refine ⟨⟨?_,?_,?_,?_,?_,?_⟩,?_,?_,?_,?_,?_⟩ <;> simp [World.cell?,World.frozen?,h]
structure PG (ts:List Tk) (rb:Nat) (a:Tp) (c:Nat) (p o n:Nat) (sv dv:Value) (w:World):Prop where
 r:IsG w rb a ts.length c p o n sv dv
 t:Dl rb w a ts
 hp:p<=ts.length
 hl:ts.length<=100000
 ho:o<=100001
 hn:n<=32
theorem PG.kept {ts:List Tk} {rb:Nat} {a:Tp} {c p o n:Nat} {sv dv:Value} {w w':World} (h:PG ts rb a c p o n sv dv w) {S:Nat->Prop} (b:aC S w w') (d:∀ k,S k->rb<k):PG ts rb a c p o n sv dv w' :=
 ⟨b.heap h.r (fun hs=>by have:=d rb hs;omega),h.t.kept b (fun k hs=>by have:=d k hs;omega),h.hp,h.hl,h.ho,h.hn⟩
theorem PG.below {ts:List Tk} {rb:Nat} {a:Tp} {c p o n:Nat} {sv dv:Value} {w w':World} (h:PG ts rb a c p o n sv dv w) (b:Below w.heap.size w w'):PG ts rb a c p o n sv dv w' :=
 h.kept (aF b (fun _=>False)) (fun _ h=>h.elim)
theorem six {w:World} {b:Nat} {j g f d c a:Value} {t:TypeId} (h:w.heap[b]? = some (.cells #[j,g,f,d,c,a] t (0,0))) (o:Nat) (v:Value) :
 (w.setCell ⟨b,o,none⟩ v).heap[b]? = some (.cells ((#[j,g,f,d,c,a]:Array Value).setIfInBounds o v) t (0,0)):=heap_setCell_same w b o _ t v h
theorem PG.set {ts:List Tk} {rb:Nat} {a:Tp} {c p o n p' o' n':Nat} {sv dv b d:Value} {w:World} (h:PG ts rb a c p o n sv dv w) {q:Nat} {v:Value} (hp:p'<=ts.length) (ho:o'<=100001) (hn:n'<=32)
 (f:(#[.slice a ts.length c,.int .i64 p,.int .i64 o,.int .i64 n,sv,dv]:Array Value).setIfInBounds q v=#[.slice a ts.length c,.int .i64 p',.int .i64 o',.int .i64 n',b,d]):PG ts rb a c p' o' n' b d (w.setCell ⟨rb,q,none⟩ v):=by
 refine ⟨?_,h.t.kept ((aC.refl (· = rb) w).setCell (p:=⟨rb,q,none⟩) (.inl rfl) v) (fun k g=>by omega),hp,h.hl,ho,hn⟩;have:=six h.r q v;rw [f] at this;exact this
def tkG (t:Tk):Value:=.agg #[.int .i64 t.kind,.string ⟨t.text.toArray⟩,.int .i64 t.num,.int .i64 t.place]
def zTk:Tk:=⟨0,[],0,0⟩
def fB (L:List Tk) (p:Nat):Tk:=match L[p]? with
 | some t=>t
 | none=>zTk
theorem xK {L:List Tk} {p:Nat} (h:p<L.length):fB L p=L[p]:=by unfold fB;rw [List.getElem?_eq_getElem h]
theorem xL {L:List Tk} {p:Nat} (h:L.length<=p):fB L p=zTk:=by unfold fB;rw [List.getElem?_eq_none h]
theorem l9 (L:List Tk) (x:Tq) (p:Nat):((fB L p).kind == 3 && (fB L p).text == x)=isS L x p:=by
 unfold fB isS;cases L[p]? with
 | none=>rfl
 | some t=>rfl
theorem KZ (L:List Tk) (p:Nat):tW (fB L p).kind (fB L p).text=dB L p:=by
 unfold tW dB isA isM;rw [<- l9, <- l9, <- l9, <- l9, <- l9];cases (fB L p).kind == 3 <;> simp
theorem Ot (L:List Tk) (p:Nat):(fB L p).text=eA L p:=by
 unfold fB eA;cases L[p]? with
 | none=>rfl
 | some t=>rfl
theorem lJ {B b:Nat} {w W:World} (h:Below B w W) (l:B<=b) (g:B<=W.heap.size) (n:Nat) (f d c a:Value):Below B w (((((W.drewN n).setCell ⟨b,0,none⟩ f).setCell ⟨b,1,none⟩ d).setCell ⟨b,2,none⟩ c).setCell ⟨b,3,none⟩ a):=by
 have k:=(((((aC.refl (· = b) W).drewN n).setCell (p:=⟨b,0,none⟩) (.inl rfl) f).setCell (p:=⟨b,1,none⟩) (.inl rfl) d).setCell (p:=⟨b,2,none⟩) (.inl rfl) c).setCell (p:=⟨b,3,none⟩) (.inl rfl) a;exact h.trans (k.below (fun i j=>by omega) g)
theorem tJ (ts:List Tk) (rb:Nat) (a:Tp) (c p o n:Nat) (sv dv:Value) (w:World) (h:PG ts rb a c p o n sv dv w) :
 Calls prog 278 #[.pointer (some ⟨rb,0,none⟩)] w fun e w'=>e=.returned (tkG (fB ts p))/\Below w.heap.size w w':=by
 have I:=h.hp;have hn:=h.hl;have j:=bA0 w (tkO 0 ⟨#[]⟩ 0 0);have g:=heap_alloc_new w (tkO 0 ⟨#[]⟩ 0 0);have l:=h.below j;have L:(w.alloc (tkO 0 ⟨#[]⟩ 0 0)).heap.size=w.heap.size+1:=Tc _ _;obtain ⟨⟨Y,c1,c2,c3,c4,V⟩, -⟩:=l.r.cells;obtain ⟨⟨P,O,N,M⟩,U,T,S,R⟩:=aL g;by_cases f:p<ts.length
 · obtain ⟨b,off,ha, -,G,E,D,C⟩:=bB l.t f
   subst ha;obtain ⟨X,m⟩:∃ X,tkG (fB ts p)=X:=⟨_,rfl⟩;have d:=m;rw [xK f] at d;unfold tkG at d;rw [m];generalize ts[p]=t at G E D C d;obtain ⟨k,s,H,B⟩:=t;simp only at G E D C d;have a1:((p:Int) == (ts.length:Int))=false:=by rw [beq_eq_false_iff_ne];omega
   have a2:(p:Int)<(ts.length:Int):=by omega
   have a4:(0:Int)<=(p:Int):=by omega
   have a3:((p:Int)).toNat=p:=by omega
   subst d;clear m h l;have z:=aA g;have A:=aA j;clear g j;go_enter func278,ntmps278
   go_upto_region 1 with fail
   generalize w.alloc (tkO 0 ⟨#[]⟩ 0 0)=W at *;go_upto_region 3 with (go_quiet (fail))
   go_region
   go_wp2_with fail
   obtain ⟨⟨y,x,u,q⟩, -⟩:=aL (aY (W:=W.drewN (nq+1)) z.out (.int .i64 k) (.string ⟨s.toArray⟩) (.int .i64 H) (.int .i64 B));exact bodyPost_ret (v:=.agg #[.int .i64 k,.string ⟨s.toArray⟩,.int .i64 H,.int .i64 B]) (by simp [results,results278,go_sem,y,x,u,q]) rfl ⟨rfl,lJ A.out (Td _) (by omega) (nq+1) _ _ _ _⟩
 · obtain rfl:p=ts.length:=by omega
   rw [xL (Td _)];clear h l;have z:=aA g;have A:=aA j;clear g j;go_enter func278,ntmps278
   go_upto_region 1 with fail
   generalize w.alloc (tkO 0 ⟨#[]⟩ 0 0)=W at *;go_upto_region 2 with (go_quiet (fail))
   go_wp2_with fail
   obtain ⟨⟨y,x,u,q⟩, -⟩:=aL (aY (W:=W.drewN nq) z.out (.int .i64 0) (.string ⟨#[]⟩) (.int .i64 0) (.int .i64 0));exact bodyPost_ret (v:=.agg #[.int .i64 0,.string ⟨#[]⟩,.int .i64 0,.int .i64 0]) (by simp [results,results278,go_sem,y,x,u,q]) rfl ⟨rfl,lJ A.out (Td _) (by omega) nq _ _ _ _⟩
theorem BK (ts:List Tk) (rb:Nat) (a:Tp) (c p o n:Nat) (sv dv:Value) (w:World) (h:PG ts rb a c p o n sv dv w) (j:p<ts.length) :
 Calls prog 293 #[.pointer (some ⟨rb,0,none⟩)] w fun e w' =>
  (n=32->e=.returned (.int .i64 4)/\w'=w)/\(¬ n=32->e=.returned (.int .i64 0)/\PG ts rb a c (p+1) o (n+1) sv dv w'/\aC (· = rb) w w'):=by
 obtain ⟨⟨x,c1,c2,c3,c4,u⟩,t,s,q,m,l⟩:=h.r.cells;have d:=h.hp;have hl:=h.hl;have g:=h.hn;have ho:=h.ho;by_cases b:n=32
 · have a1:((n:Int) == 32)=true:=by rw [b];rfl
   have H:=aA b;clear h b;go_enter func293,ntmps293
   go_wp2_with fail
   go_ret;exact ⟨fun _=>⟨rfl,rfl⟩,fun hn=>absurd H.out hn⟩
 · have a1:((n:Int) == 32)=false:=by rw [beq_eq_false_iff_ne];omega
   have f:PG ts rb a c p o (n+1) sv dv (w.setCell ⟨rb,3,none⟩ (.int .i64 ((n:Int)+1))):=h.set d ho (by omega) rfl;have k:=aA (show PG ts rb a c (p+1) o (n+1) sv dv ((w.setCell ⟨rb,3,none⟩ (.int .i64 ((n:Int)+1))).setCell ⟨rb,1,none⟩ (.int .i64 ((p:Int)+1))) from f.set (by omega) (by omega) (by omega) rfl);have K:=aA (cZ (cZ (aC.refl (· = rb) w) 3 (.int .i64 ((n:Int)+1))) 1 (.int .i64 ((p:Int)+1)));have H:=aA b;clear h b f;go_enter func293,ntmps293
   go_wp2_with fail
   go_ret;exact ⟨fun hn=>absurd hn H.out,fun _=>⟨rfl,k.out,K.out⟩⟩
theorem Qb (ts:List Tk) (rb:Nat) (a:Tp) (c p o n:Nat) (sv dv:Value) (w:World) (h:PG ts rb a c p o n sv dv w) :
 Calls prog 279 #[.pointer (some ⟨rb,0,none⟩)] w fun e w'=>e=.returned (.int .i64 (if 0<o then 2 else 0))/\w'=w:=by
 obtain ⟨⟨m,c1,c2,c3,c4,l⟩,k,j,g,f,d⟩:=h.r.cells;clear h;by_cases b:0<o
 · have a1:(0:Int)<(o:Int):=by omega
   rw [if_pos b];go_enter func279,ntmps279
   go_wp2_with fail
   go_ret;exact ⟨rfl,rfl⟩
 · have a1:¬ (0:Int)<(o:Int):=by omega
   rw [if_neg b];go_enter func279,ntmps279
   go_wp2_with fail
   go_ret;exact ⟨rfl,rfl⟩
def wsL (x:Tq×Nat):List Value:=[.string ⟨x.1.toArray⟩,.int .i64 x.2]
def Ao:List (Tq×Nat)->List Value
 | []=>[]
 | x::r=>Ao r++wsL x
def ndL (t:TN) (q:Tp×Nat):List Value:=[.string t.op,.string t.nm,.int .i64 t.n,.slice q.1 t.ks.len q.2]
def dnL:List TN->List (Tp×Nat)->List Value
 | t::r,q::s=>dnL r s++ndL t q
 | _,_=>[]
def DnK (G:Nat->Prop) (w:World):List TN->List (Tp×Nat)->Prop
 | [],[]=>True
 | t::r,q::s=>aK G w q.1 t.ks/\DnK G w r s
 | _,_=>False
theorem kT:∀ sg:List (Tq×Nat),(Ao sg).length=sg.length*2
 | []=>rfl
 | x::r=>by rw [Ao,Tb,kT r,Te];simp [wsL];omega
theorem wZ {G:Nat->Prop} {w:World}:∀ {dn:List TN} {q:List (Tp×Nat)},DnK G w dn q->q.length=dn.length
 | [],[],_=>rfl
 | _::r,_::s,h=>by rw [Te,Te,wZ h.2]
 | [],_::_,h=>h.elim
 | _::_,[],h=>h.elim
theorem tR:∀ {dn:List TN} {q:List (Tp×Nat)},q.length=dn.length->(dnL dn q).length=dn.length*4
 | [],_,_=>by rw [dnL];rfl;intro t r q s h;cases h
 | _ :: r, _ :: s, h => by
   rw [dnL,Tb,tR (by simpa using h),Te];simp [ndL];omega
 | _::_,[],h=>by simp at h
theorem Oe (x:Tq×Nat):∀ u∈wsL x,u.oneCell'=true:=by
 intro u a;simp [wsL] at a;rcases a with rfl | rfl <;> rfl
theorem nW (t:TN) (q:Tp×Nat):∀ u∈ndL t q,u.oneCell'=true:=by
 intro u a;simp [ndL] at a;rcases a with rfl | rfl | rfl | rfl <;> rfl
theorem DnK.imp {G H:Nat->Prop} {w:World} (hG:∀ b,b<w.heap.size->G b->H b):∀ {dn:List TN} {q:List (Tp×Nat)},DnK G w dn q->DnK H w dn q
 | [],[],_=>trivial
 | _::_,_::_,h=>⟨h.1.imp hG,h.2.imp hG⟩
 | [],_::_,h=>h.elim
 | _::_,[],h=>h.elim
theorem DnK.keptS {S G:Nat->Prop} {w w':World} (hk:aC S w w') (hS:∀ k,S k->¬ G k):∀ {dn:List TN} {q:List (Tp×Nat)},DnK G w dn q->DnK G w' dn q
 | [],[],_=>trivial
 | _::_,_::_,h=>⟨h.1.keptS hk hS,h.2.keptS hk hS⟩
 | [],_::_,h=>h.elim
 | _::_,[],h=>h.elim
def Gk (x rb:Nat) (sv dv:Value) (b:Nat):Prop:=rb<b/\b ≠ x/\sv.ownBlock ≠ some b/\dv.ownBlock ≠ some b
structure RGx (x:Nat) (ts:List Tk) (rb:Nat) (a:Tp) (c p o n:Nat) (sg:List (Tq×Nat)) (dn:List TN) (sv dv:Value) (q:List (Tp×Nat)) (w:World):Prop where
 g:PG ts rb a c p o n sv dv w
 so:w.ownsRow (rb+1) 347 2 sv sg.length (Ao sg)
 dw:w.ownsRow (rb+1) 67 4 dv dn.length (dnL dn q)
 dk:DnK (Gk x rb sv dv) w dn q
 ap:∀ x,sv.ownBlock=some x->dv.ownBlock=some x->False
 hx:x<w.heap.size
 hs:sg.length<=n
 hd:dn.length<=n
abbrev RG (ts:List Tk) (rb:Nat) (a:Tp) (c p o n:Nat) (sg:List (Tq×Nat)) (dn:List TN) (sv dv:Value) (q:List (Tp×Nat)) (w:World):Prop:=RGx rb ts rb a c p o n sg dn sv dv q w
section
variable {x : Nat} {ts : List Tk} {rb : Nat} {a : Tp} {c p o n : Nat} {sg : List (Tq × Nat)} {dn : List TN} {sv dv : Value} {q : List (Tp × Nat)} {w w' : World}
theorem RGx.below (h:RGx x ts rb a c p o n sg dn sv dv q w) (b:Below w.heap.size w w'):RGx x ts rb a c p o n sg dn sv dv q w' :=
 ⟨h.g.below b,cK h.so b,cK h.dw b,h.dk.keptS (aF b (fun _=>False)) (fun _ h=>h.elim),h.ap,Nat.lt_of_lt_of_le h.hx b.size,h.hs,h.hd⟩
theorem RGx.lt (h:RGx x ts rb a c p o n sg dn sv dv q w):rb<w.heap.size:=(Array.getElem?_eq_some_iff.1 h.g.r).1
theorem RGx.svNe (h:RGx x ts rb a c p o n sg dn sv dv q w) {b:Nat} (d:sv.ownBlock=some b):rb<b/\b<w.heap.size:=by have:=h.so.lt b d;omega
theorem RGx.dvNe (h:RGx x ts rb a c p o n sg dn sv dv q w) {b:Nat} (d:dv.ownBlock=some b):rb<b/\b<w.heap.size:=by have:=h.dw.lt b d;omega
theorem iI {B:Nat} {e:TypeId} {size:Nat} {v:Value} {m:Nat} {xs:List Value} (h:w.ownsRow B e size v m xs) (a:rb<B) (y:Nat) (u:Value):(w.setCell ⟨rb,y,none⟩ u).ownsRow B e size v m xs:=by
 refine World.ownsRow.kept (row:=some rb) h (cO ((aC.refl (· = rb) w).setCell (p:=⟨rb,y,none⟩) (.inl rfl) u) (fun k b=>by rw [b])) (.inr ?_);intro c;have:=h.lt rb c;omega
theorem RGx.set (h:RGx x ts rb a c p o n sg dn sv dv q w) {p' o' n':Nat} {y:Nat} {v:Value} (hp:p'<=ts.length) (ho:o'<=100001) (hn:n'<=32) (f:n<=n')
 (b:(#[.slice a ts.length c,.int .i64 p,.int .i64 o,.int .i64 n,sv,dv]:Array Value).setIfInBounds y v=#[.slice a ts.length c,.int .i64 p',.int .i64 o',.int .i64 n',sv,dv]):RGx x ts rb a c p' o' n' sg dn sv dv q (w.setCell ⟨rb,y,none⟩ v):=by
 have m:=h.hs;have l:=h.hd;exact ⟨h.g.set hp ho hn b,iI h.so (by omega) _ _,iI h.dw (by omega) _ _,h.dk.keptS ((aC.refl (· = rb) w).setCell (p:=⟨rb,y,none⟩) (.inl rfl) v) (fun k j d=>by have:=d.1;omega),h.ap,by rw [World.size_setCell];exact h.hx,by omega,by omega⟩
end
abbrev cJ (rb:Nat) (w w':World):Prop:=aC (fun b=>rb<=b) w w'
theorem cJ.refl (rb:Nat) (w:World):cJ rb w w:=aC.refl _ w
theorem cJ.of {rb:Nat} {w w':World} (h:aC (· = rb) w w'):cJ rb w w':=h.mono (fun i a _=>by omega)
theorem cJ.trans {rb:Nat} {a b c:World} (h:cJ rb a b) (k:cJ rb b c):cJ rb a c:=aC.trans h k (fun _ d _=>d)
theorem cJ.below {rb:Nat} {a b:World} (h:Below a.heap.size a b):cJ rb a b:=aF h _
theorem cJ.set {rb:Nat} {a b:World} (h:cJ rb a b) (o:Nat) (v:Value):cJ rb a (b.setCell ⟨rb,o,none⟩ v):=h.setCell (p:=⟨rb,o,none⟩) (.inl (Td _)) v
theorem Hz (ts:List Tk) (x:Tr) (p:Nat) (w:World):Calls prog 290 #[tkG (fB ts p),.string x] w fun e w'=>e=.returned (.bool (isS ts x.data.toList p))/\Below w.heap.size w w':=by
 rw [<- l9];exact Gp (fB ts p).kind ⟨(fB ts p).text.toArray⟩ x (fB ts p).num (fB ts p).place w
theorem Le (ts:List Tk) (rb:Nat) (a:Tp) (c:Nat) (b d n:Nat) (sg:List (Tq×Nat)) (dn:List TN) (sv dv:Value) (q:List (Tp×Nat)) (w:World) (h:RG ts rb a c b d n sg dn sv dv q w) :
 Calls prog 276 #[.pointer (some ⟨rb,0,none⟩)] w fun e w'=>e=.returned (.tuple #[])/\cJ rb w w' /\
  ∃ p o,RG ts rb a c p o n sg dn sv dv q w'/\b<=p/\o<=d/\fH ts false ⟨p,o,n,sg,dn⟩=fH ts false ⟨b,d,n,sg,dn⟩/\(0<o->isS ts [41] p=false):=by
 have H:=aA h;have K0:=aA (cJ.refl rb w);have C:=aA (fun (p o:Nat) (w:World) (h:RG ts rb a c p o n sg dn sv dv q w)=>tJ ts rb a c p o n sv dv w h.g);clear h;have hn:ts.length<=100000:=H.out.g.hl;go_enter func276,ntmps276
 go_wp2_with fail
 go_loopg [] ts.length (fun g wr=>∃ (p o:Nat),Hid (RG ts rb a c p o n sg dn sv dv q wr)/\b<=p/\o<=d/\ts.length-p<=g/\Hid (fH ts false ⟨p,o,n,sg,dn⟩=fH ts false ⟨b,d,n,sg,dn⟩)/\Hid (cJ rb w wr))
 case atStart=>exact ⟨b,d,H,Td _,Td _,Nat.sub_le _ _,aA rfl,K0⟩
 case round =>
  obtain ⟨p,o,f,hp,t,hg,B,hK⟩:=hrel;obtain ⟨⟨R,c1,c2,c3,c4,P⟩,O,N,M,I,G⟩:=f.out.g.r.cells;have T:=aA (C.out p o wr f.out);by_cases ho:0<o
  · have a1:(0:Int)<(o:Int):=by omega
    have X:o<=100001:=f.out.g.ho;have m:p<=ts.length:=f.out.g.hp;clear C;obtain ⟨o,rfl⟩:∃ o',o=o'+1:=⟨o-1,by omega⟩;have D:=aA (fun w=>Hz ts ⟨#[41]⟩ p w);have E:isS ts (⟨#[41]⟩:Tr).data.toList p=isS ts [41] p:=rfl;rw [E] at D;clear E;cases j:isS ts [41] p with
    | false =>
      rw [j] at D;have z:=aA j;clear j;go_wp2_with fail
      refine T.out.mono ?_;rintro e A ⟨rfl,u⟩;have l:=aA u;clear u;go_wp2_with fail
      refine (D.out A).mono ?_;rintro e V ⟨rfl,k⟩;have U:=aA k;clear k;go_wp2_with fail
      go_end0
      exact ⟨rfl,(hK.out.trans (cJ.below l.out)).trans (cJ.below U.out),p,o+1,(f.out.below l.out).below U.out,hp,t,B.out,fun _=>z.out⟩
    | true =>
      rw [j] at D;have z:=aA j;clear j;go_wp2_with fail
      refine T.out.mono ?_;rintro e A ⟨rfl,u⟩;have l:=aA u;clear u;go_wp2_with fail
      refine (D.out A).mono ?_;rintro e V ⟨rfl,k⟩;have x:=(f.out.below l.out).below k;have K2:=aA ((hK.out.trans (cJ.below l.out)).trans (cJ.below k));have Y:=gN z.out;clear R c1 c2 c3 c4 P O N M I G k l;obtain ⟨⟨R,c1,c2,c3,c4,P⟩,O,N,M,I,G⟩:=x.g.r.cells;have S:=x.set (p':=p) (o':=o) (n':=n) (y:=2) (v:=.int .i64 o) m (by omega) x.g.hn (Td _) rfl;have H2:=aA (S.set (p':=p+1) (o':=o) (n':=n) (y:=1) (v:=.int .i64 ((p:Int)+1)) (by omega) (by omega) x.g.hn (Td _) rfl);have Z:=aA ((K2.out.set 2 (.int .i64 o)).set 1 (.int .i64 ((p:Int)+1)))
      have E2:=aA (show fH ts false ⟨p+1,o,n,sg,dn⟩=fH ts false ⟨b,d,n,sg,dn⟩ by
       refine Eq.trans ?_ B.out;have e:=mK (L:=ts) (s:=⟨p,o+1,n,sg,dn⟩) m;simp only at e;rw [if_pos ⟨by omega,z.out⟩] at e;exact e.symm)
      clear x S;go_wp2_with fail
      go_roundg (ts.length-(p+1))
      case measure=>omega
      case rel=>exact ⟨p+1,o,H2,by omega,by omega,by omega,E2,Z⟩
  · have a1:¬ (0:Int)<(o:Int):=by omega
    clear C;go_wp2_with fail
    go_end0
    exact ⟨rfl,hK.out,p,o,f.out,hp,t,B.out,fun h=>absurd h ho⟩
section
variable {P : Program}
theorem dK {ops:Array Oper} {o:Oper} {a:Act} {w:World} {K:Act->World->Prop} {Q:Exit->Act->World->Prop} {E:Prop}
 (l:o.guard=none) (s x:Operand) (t:TypeId) (f:o.op=Op.call { callee:=Callee.builtin Builtin.append,args:=#[s,x],argTypes:=#[t,t] })
 {base size:Nat} {e:TypeId} {i:TypeInfo} {z:Value} {bytes:Nat} (ht:P.underlying t=some (.slice e)) (hi:P.info? e=some i) (hz:i.zero=some z) (hsize:i.size=size) (hby:i.bytes=bytes) (hzs:z.cells.size=size) (hpos:0<size)
 (v:Value) (n m:Nat) (xs news:List Value) (b:Addr) (c:Nat) (hs:a.eval s=v) (hx:a.eval x=.slice (some b) m c) (hown:w.ownsRow base e size v n xs) (hl:news.length=m*size) (hn:∀ j u,news[j]? = some u->w.cell? (b.add j)=some u) (h1:∀ u∈news,u.oneCell'=true)
 (h63:n+m<=maxLen) (hbytes:(n+m)*bytes<=140737488355328) (hbase:base<=w.heap.size)
 (hK:∀ d w',w'.ownsRow base e size d (n+m) (xs++news)->w.grownBy w' v.ownBlock->(∀ q,d.ownBlock=some q->v.ownBlock=some q\/w.heap.size<=q)->K (a.put o.dst d) w') :
 if Region.wanted o (yielded ops a.tmps)=true then Oper.wp P o a w K Q else E:=by
 have h:Region.wanted o (yielded ops a.tmps)=true:=by simp [Region.wanted,l]
 rw [if_pos h];obtain ⟨d,w',hr,ho,g,k⟩:=pB (P:=P) (ty:=o.type) (c:=c) ht hi hz hsize hby hzs hpos hown hl hn h1 h63 hbytes hbase;unfold Oper.wp;simp [execOp,f,resolve,invoke,builtin,hs,hx,hr,Result.andThen];exact hK _ _ ho g k
end
theorem Gb {w:World} {o:Obj} {b:Nat} (h:(w.alloc o).drew.heap.size<=b):w.heap.size<=b:=by
 have a:(w.alloc o).heap.size<=b:=h;rw [Tc] at a;omega
theorem eZ {w w':World} {B:Nat} {e:TypeId} {size:Nat} {v:Value} {n:Nat} {xs:List Value} {row:Option Nat} (h:w.ownsRow B e size v n xs) (c:aC (fun b=>row=some b) w w') (a:∀ b,v.ownBlock=some b->row=some b->False):w'.ownsRow B e size v n xs:=by
 refine World.ownsRow.kept (row:=row) h (cO c (fun k c=>c)) ?_;cases e:v.ownBlock with
 | none=>exact .inl rfl
 | some b=>exact .inr (fun h=>a b e h.symm)
theorem uK {w:World} {B:Nat} {e:TypeId} {size:Nat} {a:Tp} {n c m:Nat} {xs:List Value} (h:w.ownsRow B e size (.slice a n c) n xs) (p:m<=n) (ha:a ≠ none):w.ownsRow B e size (.slice a m c) m (xs.take (m*size)):=by
 have hl:=h.1;have d:m*size<=n*size:=Nat.mul_le_mul_right _ p;refine ⟨by rw [Th];omega,?_⟩;rcases h.2 with ⟨b,_⟩ | ⟨g,s,k,b,r,q,o,j,f,l⟩
 · simp only [Value.slice.injEq] at b
   exact absurd b.1 ha
 · simp only [Value.slice.injEq,true_and] at b
   obtain ⟨rfl,rfl⟩:=b;refine .inr ⟨g,c,k,rfl,r,q,by omega,j,f,?_⟩;rw [<- l,List.take_take,Nat.min_eq_left d]
section
variable {x : Nat} {ts : List Tk} {rb : Nat} {a : Tp} {c p o n : Nat} {sg : List (Tq × Nat)} {dn : List TN} {sv dv : Value} {q : List (Tp × Nat)} {w w' : World}
theorem RGx.count (h:RGx x ts rb a c p o n sg dn sv dv q w) {p' n':Nat} (g:PG ts rb a c p' o n' sv dv w') (f:aC (· = rb) w w') (hn:n<=n'):RGx x ts rb a c p' o n' sg dn sv dv q w':=by
 have s:=h.hs;have r:=h.hd;have d:aC (fun b=>some rb=some b) w w':=f.mono (fun i m _=>by rw [m])
 exact ⟨g,eZ h.so d (fun b l j=>by have:=(h.so.lt b l).1;have:=Option.some.inj j;omega),eZ h.dw d (fun b l j=>by have:=(h.dw.lt b l).1;have:=Option.some.inj j;omega),
  h.dk.keptS f (fun k f g=>by have:=g.1;omega),h.ap,Nat.lt_of_lt_of_le h.hx f.size,by omega,by omega⟩
theorem RGx.put_dn (h:RGx x ts rb a c p o n sg dn sv dv q w) {m:World} {d:Value} {dn':List TN} {q':List (Tp×Nat)} (j:aC (fun b=>dv.ownBlock=some b) w m) (r:m.ownsRow (rb+1) 67 4 d dn'.length (dnL dn' q'))
 (l:∀ b,d.ownBlock=some b->dv.ownBlock=some b\/w.heap.size<=b) (u:DnK (Gk x rb sv dv) w dn' q') (hd:dn'.length<=n):RGx x ts rb a c p o n sg dn' sv d q' (m.setCell ⟨rb,5,none⟩ d):=by
 have A:=h.lt;have C:PG ts rb a c p o n sv dv m:=h.g.kept j (fun k j=>(h.dvNe j).1)
 have s:DnK (fun b=>Gk x rb sv dv b/\Gk x rb sv d b) w dn' q':=u.imp (fun b z f=>⟨f,f.1,f.2.1,f.2.2.1,fun e=>by
  rcases l b e with h1 | h1
  · exact f.2.2.2 h1
  · omega⟩)
 refine ⟨C.set h.g.hp h.g.ho h.g.hn rfl,iI (eZ h.so j (fun b z B=>h.ap b z B)) (by omega) _ _,iI r (by omega) _ _,?_,?_,by rw [World.size_setCell];exact Nat.lt_of_lt_of_le h.hx j.size,h.hs,hd⟩
 · exact ((s.keptS j (fun k j f=>f.1.2.2.2 j)).keptS ((aC.refl (· = rb) m).setCell (p:=⟨rb,5,none⟩) (.inl rfl) d) (fun k j f=>by have:=f.1.1;omega)).imp (fun b _ f=>f.2)
 · intro y hx t
   rcases l y t with h1 | h1
   · exact h.ap y hx h1
   · have:=(h.svNe hx).2;omega
theorem RGx.put_sg (h:RGx x ts rb a c p o n sg dn sv dv q w) {m:World} {d:Value} {sg':List (Tq×Nat)} (j:aC (fun b=>sv.ownBlock=some b) w m) (s:m.ownsRow (rb+1) 347 2 d sg'.length (Ao sg'))
 (l:∀ b,d.ownBlock=some b->sv.ownBlock=some b\/w.heap.size<=b) (hs:sg'.length<=n):RGx x ts rb a c p o n sg' dn d dv q (m.setCell ⟨rb,4,none⟩ d):=by
 have z:=h.lt;have B:PG ts rb a c p o n sv dv m:=h.g.kept j (fun k j=>(h.svNe j).1)
 have t:DnK (fun b=>Gk x rb sv dv b/\Gk x rb d dv b) w dn q:=h.dk.imp (fun b u f=>⟨f,f.1,f.2.1,fun e=>by
  rcases l b e with h1 | h1
  · exact f.2.2.1 h1
  · omega,f.2.2.2⟩)
 refine ⟨B.set h.g.hp h.g.ho h.g.hn rfl,iI s (by omega) _ _,iI (eZ h.dw j (fun b u A=>h.ap b A u)) (by omega) _ _,?_,?_,by rw [World.size_setCell];exact Nat.lt_of_lt_of_le h.hx j.size,hs,h.hd⟩
 · exact ((t.keptS j (fun k j f=>f.1.2.2.1 j)).keptS ((aC.refl (· = rb) m).setCell (p:=⟨rb,4,none⟩) (.inl rfl) d) (fun k j f=>by have:=f.1.1;omega)).imp (fun b _ f=>f.2)
 · intro y hx r
   rcases l y hx with h1 | h1
   · exact h.ap y h1 r
   · have:=(h.dvNe r).2;omega
end
theorem QM:(prog.info? 347).map (fun i=>(i.zero,i.size,i.bytes))=some (some (.agg #[.string ⟨#[]⟩,.int .i64 0]),2,24):=by kernel_rfl
theorem Gc:(prog.info? 67).map (fun i=>(i.zero,i.size,i.bytes))=some (some (.agg #[.string ⟨#[]⟩,.string ⟨#[]⟩,.int .i64 0,.slice none 0 0]),4,64):=by kernel_rfl
theorem Sc (w:World) (x:Tq×Nat) (X:Tr) (b:⟨x.1.toArray⟩=X) (E:TypeId):∀ j u,(wsL x)[j]? = some u->(w.alloc (.cells #[.string X,.int .i64 x.2] E)).cell? ((⟨w.heap.size,0,none⟩:Addr).add j)=some u:=fun j u a=>by
 unfold wsL at a;rw [b] at a;rw [Addr.add_lit,Nat.zero_add,cell_of_row _ _ _ _ _ (0,0) (heap_alloc_new w _)];simpa using a
theorem Dr (ts:List Tk) (rb:Nat) (a:Tp) (c p o n:Nat) (sg:List (Tq×Nat)) (dn:List TN) (sv dv:Value) (q:List (Tp×Nat)) (x:Tq×Nat) (w:World) (h:RG ts rb a c p o n sg dn sv dv q w) (O:p<ts.length) :
 Calls prog 281 #[.pointer (some ⟨rb,0,none⟩),.agg #[.string ⟨x.1.toArray⟩,.int .i64 x.2]] w fun e w'=>cJ rb w w' /\
  (n=32->e=.returned (.int .i64 4)/\RG ts rb a c p o n sg dn sv dv q w')/\(¬ n=32->e=.returned (.int .i64 0)/\∃ I,RG ts rb a c (p+1) o (n+1) (x::sg) dn I dv q w'):=by
 obtain ⟨i0,hi,N,M,L⟩:=info_parts QM;have H:prog.underlying 331=some (.slice 347):=underlying331;obtain ⟨X,z⟩:∃ X:Tr,⟨x.1.toArray⟩=X:=⟨_,rfl⟩;rw [z];have jc:=h.lt;have D:=bA0 w (.cells #[.string X,.int .i64 x.2] 347);have R:=heap_alloc_new w (.cells #[.string X,.int .i64 x.2] 347);have B:=h.below D;have S:=cJ.below (rb:=rb) D;generalize hW:w.alloc (.cells #[.string X,.int .i64 x.2] 347)=W at D R B S;have s:=aA B;have T:=aA R;have y:=aA S;have HW:=aA hW;have C:=aA (BK ts rb a c p o n sv dv W B.g O);clear h B R D S hW;by_cases j:n=32
 · have d:=aA j
   clear j;go_enter func281,ntmps281
   go_upto_region 1 with fail
   rw [HW.out];go_wp2_with fail
   refine C.out.mono ?_;rintro e m ⟨hA, -⟩;obtain ⟨rfl,rfl⟩:=hA d.out;go_wp2_with fail
   go_ret;exact ⟨y.out,fun _=>⟨rfl,s.out⟩,fun hn=>absurd d.out hn⟩
 · have d:=aA j
   clear j;go_enter func281,ntmps281
   go_upto_region 1 with fail
   rw [HW.out];go_wp2_with fail
   refine C.out.mono ?_;rintro e m ⟨-,hB⟩;obtain ⟨rfl,u,f⟩:=hB d.out;have t:=s.out.count u f (Nat.le_succ n);have N2:=aA (f.heap T.out (by omega));obtain ⟨⟨c0,c1,c2,c3,c4,c5⟩,f1,f2,f3,f4,f5⟩:=t.g.r.cells;have b0:m.cell? ⟨w.heap.size,0,none⟩=some (.string X):=by rw [cell_of_row _ _ _ _ _ (0,0) N2.out];rfl
   have b1:m.cell? ⟨w.heap.size,1,none⟩=some (.int .i64 x.2):=by rw [cell_of_row _ _ _ _ _ (0,0) N2.out];rfl
   have l:=aA t;have U:=aA (y.out.trans (cJ.of f));have ja:=s.out.hs;have Z:=t.g.hn;have P:=aA (fun w=>Sc w x X z 347);have Y:=aA z;have jb:=t.lt;have OD:=aA (show m.drew.ownsRow (rb+1) 347 2 sv sg.length (Ao sg) from t.so);clear u f t C z hB;go_wp2_with fail
   go_region_law (first
    | (refine dK rfl (.tmp 15) (.tmp 17) 331 rfl (base := rb + 1) H hi N M L rfl (by decide) sv sg.length 1 (Ao sg) (wsL x) ⟨m.heap.size, 0, none⟩ 1 (by first | (simp [Act.eval]; done) | fail) (by first | (simp [Act.eval]; done) | fail) (OD.out.alloc _) rfl (P.out m.drew) (Oe x) (by unfold maxLen; omega) (by omega) (by simp; omega) ?_
       intro v3 w3 ho hg V;obtain ⟨G,E,rfl⟩:=eL ho;have A:=((aC.refl (fun b=>sv.ownBlock=some b) m).drew.alloc (.cells #[.string X,.int .i64 x.2] 347)).grown hg (fun k f=>.inl f);have P3:=aA (l.out.put_sg (sg':=x::sg) A ho (fun b hb=>(V b hb).imp id Gb) (by rw [Te];omega));have KK:=aA ((U.out.trans (A.mono (fun k f _=>by have:=(l.out.svNe f).1;omega))).set 4 (.slice G (sg.length+1) E));have G3:=(l.out.g.kept A (fun k f=>(l.out.svNe f).1)).r.cells;clear ho hg V A c0 c1 c2 c3 c4 c5 f1 f2 f3 f4 f5 b0 b1;obtain ⟨⟨c0,c1,c2,c3,c4,c5⟩,f1,f2,f3,f4,f5⟩:=G3)
    | fail)
   all_goals
    go_wp2_with fail
    go_ret;exact ⟨KK.out,fun hn=>absurd hn d.out,fun _=>⟨rfl,_,P3.out⟩⟩
end Go.Proofs.YtgfkjkokmcejbaaGreatDoor
