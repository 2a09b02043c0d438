/-
 No statement: what ProgLinesLift needs, of the texts OE7, OE8.
-/
import Derived.Test.YtgfkjkokmcejbaaGreatDoorVL2
set_option maxHeartbeats 40000000
set_option maxRecDepth 100000
namespace Go.Proofs.YtgfkjkokmcejbaaGreatDoor
open Go.RowKit
section
section
open Go.RowKit
structure SR where
 pos:Nat
 opn:Nat
 cnt:Nat
 sg:List (List UInt8×Nat)
 dn:List TN
inductive s9 | bad (p:Nat) (e:Int) | ok (s:SR)
def oK (o:List UInt8) (dn:List TN):List TN :=
 if o=iQ then (match dn with
  | a::r=>oU a::r
  | []=>[])
 else match dn with
  | b::a::r=>gP o a b::r
  | _=>[]
def cG (h:Nat):List (List UInt8×Nat)->List TN->List (List UInt8×Nat)×List TN
 | [],dn=>([],dn)
 | (o,k)::sg,dn=>if h<=k then cG h sg (oK o dn) else ((o,k)::sg,dn)
def cK (L:List Tk) (p:Nat):Nat:=if isA L p=true then 1 else if isM L p=true then 2 else 0
def run (L:List Tk):Nat->Bool->SR->s9
 | 0,_,s=>.bad s.pos 2
 | f + 1, true, s =>
   if isS L [40] s.pos=true then run L f true ⟨s.pos+1,s.opn+1,s.cnt,s.sg,s.dn⟩
   else if isS L [45] s.pos=true then (if s.cnt=32 then .bad s.pos 4 else run L f true ⟨s.pos+1,s.opn,s.cnt+1,(iQ,3+s.opn*3)::s.sg,s.dn⟩)
   else match L[s.pos]? with
    | none=>.bad s.pos 2
    | some t =>
      if t.kind=2/\0<=t.num then (if s.cnt=32 then .bad s.pos 4 else run L f false ⟨s.pos+1,s.opn,s.cnt+1,s.sg,tT t.num::s.dn⟩)
      else if t.kind=1/\aW t.text=true then (if s.cnt=32 then .bad s.pos 4 else run L f false ⟨s.pos+1,s.opn,s.cnt+1,s.sg,eT t.text::s.dn⟩)
      else .bad s.pos 2
 | f + 1, false, s =>
   if 0<s.opn/\isS L [41] s.pos=true then run L f false ⟨s.pos+1,s.opn-1,s.cnt,s.sg,s.dn⟩
   else if cK L s.pos=0 then (if 0<s.opn then .bad s.pos 2 else .ok s)
   else if s.cnt=32 then .bad s.pos 4
   else run L f true ⟨s.pos+1,s.opn,s.cnt+1,(eN L s.pos,cK L s.pos+s.opn*3)::(cG (cK L s.pos+s.opn*3) s.sg s.dn).1,(cG (cK L s.pos+s.opn*3) s.sg s.dn).2⟩
def eA (L:List Tk) (m:Bool) (s:SR):s9:=run L (L.length+1-s.pos) m s
theorem Bj {L:List Tk} {s:SR} (hp:s.pos<=L.length):eA L true s =
 if isS L [40] s.pos=true then eA L true ⟨s.pos+1,s.opn+1,s.cnt,s.sg,s.dn⟩
 else if isS L [45] s.pos=true then (if s.cnt=32 then .bad s.pos 4 else eA L true ⟨s.pos+1,s.opn,s.cnt+1,(iQ,3+s.opn*3)::s.sg,s.dn⟩)
 else match L[s.pos]? with
  | none=>.bad s.pos 2
  | some t =>
    if t.kind=2/\0<=t.num then (if s.cnt=32 then .bad s.pos 4 else eA L false ⟨s.pos+1,s.opn,s.cnt+1,s.sg,tT t.num::s.dn⟩)
    else if t.kind=1/\aW t.text=true then (if s.cnt=32 then .bad s.pos 4 else eA L false ⟨s.pos+1,s.opn,s.cnt+1,s.sg,eT t.text::s.dn⟩)
    else .bad s.pos 2:=by
 unfold eA;rw [show L.length+1-s.pos=(L.length-s.pos)+1 by omega,run];simp only [show L.length+1-(s.pos+1)=L.length-s.pos by omega]
theorem kM {L:List Tk} {s:SR} (hp:s.pos<=L.length):eA L false s =
 if 0<s.opn/\isS L [41] s.pos=true then eA L false ⟨s.pos+1,s.opn-1,s.cnt,s.sg,s.dn⟩
 else if cK L s.pos=0 then (if 0<s.opn then .bad s.pos 2 else .ok s)
 else if s.cnt=32 then .bad s.pos 4
 else eA L true ⟨s.pos+1,s.opn,s.cnt+1,(eN L s.pos,cK L s.pos+s.opn*3)::(cG (cK L s.pos+s.opn*3) s.sg s.dn).1,(cG (cK L s.pos+s.opn*3) s.sg s.dn).2⟩:=by
 unfold eA;rw [show L.length+1-s.pos=(L.length-s.pos)+1 by omega,run];simp only [show L.length+1-(s.pos+1)=L.length-s.pos by omega]
theorem lB {h:Nat} {sg:List (List UInt8×Nat)} (dn:List TN) (H:∀ x∈sg,x.2<h):cG h sg dn=(sg,dn):=by
 cases sg with
 | nil=>rfl
 | cons x sg =>
   obtain ⟨o,k⟩:=x;rw [cG,if_neg (by have:=H (o,k) (by simp);simp only at this;omega)]
theorem sK {h h':Nat} (hh:h<=h'):∀ (sg:List (List UInt8×Nat)) (dn:List TN),cG h (cG h' sg dn).1 (cG h' sg dn).2=cG h sg dn
 | [],dn=>rfl
 | (o, k) :: sg, dn => by
   rw [cG];by_cases hk:h'<=k
   · rw [if_pos hk,sK hh sg,cG,if_pos (by omega)]
   · rw [if_neg hk]
theorem oJ {h h':Nat} (hh:h<=h') {sg sg2:List (List UInt8×Nat)} {dn dn2:List TN} (H:cG h' sg2 dn2=cG h' sg dn):cG h sg2 dn2=cG h sg dn:=by
 rw [<- sK hh sg2, <- sK hh sg,H]
def Sim (L:List Tk) (h d:Nat) (sg:List (List UInt8×Nat)) (dn:List TN) (C:Nat->Prop) (R:s9) (x:TN×RS):Prop :=
 (¬ x.2.bad=0->R=.bad x.2.whr x.2.bad) /\
 (x.2.bad=0->C x.2.pos/\x.2.pos<=L.length/\x.2.cnt<=32/\∃ sg3 dn3,R=eA L false ⟨x.2.pos,d,x.2.cnt,sg3,dn3⟩/\cG h sg3 dn3=cG h sg (x.1::dn))
def NP (L:List Tk) (s:RS):Md->TN×RS->Prop
 | .fac,x=>∀ d sg dn,(∀ y∈sg,y.2<=3*d+3)->Sim L (3*d+3) d sg dn (fun _=>True) (eA L true ⟨s.pos,d,s.cnt,sg,dn⟩) x
 | .prod,x=>∀ d sg dn,(∀ y∈sg,y.2<3*d+2)->Sim L (3*d+2) d sg dn (fun p=>isM L p=false) (eA L true ⟨s.pos,d,s.cnt,sg,dn⟩) x
 | .sum,x=>∀ d sg dn,(∀ y∈sg,y.2<3*d+1)->Sim L (3*d+1) d sg dn (fun p=>isM L p=false/\isA L p=false) (eA L true ⟨s.pos,d,s.cnt,sg,dn⟩) x
 | .prodL n,x=>∀ d sg dn sg2 dn2,(∀ y∈sg,y.2<3*d+2)->cG (3*d+2) sg2 dn2=(sg,n::dn)->Sim L (3*d+2) d sg dn (fun p=>isM L p=false) (eA L false ⟨s.pos,d,s.cnt,sg2,dn2⟩) x
 | .sumL n,x=>isM L s.pos=false->∀ d sg dn sg2 dn2,(∀ y∈sg,y.2<3*d+1)->cG (3*d+1) sg2 dn2=(sg,n::dn)->Sim L (3*d+1) d sg dn (fun p=>isM L p=false/\isA L p=false) (eA L false ⟨s.pos,d,s.cnt,sg2,dn2⟩) x
theorem iS {L:List Tk} {x:List UInt8} {p:Nat} {t:Tk} (h:L[p]? = some t):isS L x p=(t.kind == 3 && t.text == x):=by
 unfold isS;rw [h]
theorem Am {L:List Tk} {p:Nat} (h:isA L p=true):isS L [41] p=false/\isM L p=false:=by
 have hlt:=pT h;unfold isM;unfold isA at h;rw [iS (List.getElem?_eq_getElem hlt)] at h |-
 rw [iS (List.getElem?_eq_getElem hlt)] at h;rw [iS (List.getElem?_eq_getElem hlt),iS (List.getElem?_eq_getElem hlt),iS (List.getElem?_eq_getElem hlt)];simp only [Bool.or_eq_true,Bool.and_eq_true,beq_iff_eq] at h;rcases h with ⟨h1,h2⟩ | ⟨h1,h2⟩ <;> rw [h1,h2] <;> exact ⟨rfl,rfl⟩
theorem Al {L:List Tk} {p:Nat} (h:isM L p=true):isS L [41] p=false/\isA L p=false:=by
 have hlt:=pS h;unfold isA;unfold isM at h;rw [iS (List.getElem?_eq_getElem hlt)] at h |-
 rw [iS (List.getElem?_eq_getElem hlt)] at h;rw [iS (List.getElem?_eq_getElem hlt)] at h;rw [iS (List.getElem?_eq_getElem hlt),iS (List.getElem?_eq_getElem hlt)];simp only [Bool.or_eq_true,Bool.and_eq_true,beq_iff_eq] at h;rcases h with (⟨h1,h2⟩ | ⟨h1,h2⟩) | ⟨h1,h2⟩ <;> rw [h1,h2] <;> exact ⟨rfl,rfl⟩
theorem gT {s:RS} (hb:s.bad=0) (h:s.cnt=32):(a8 s).bad=4/\(a8 s).whr=s.pos:=by
 unfold a8;rw [if_pos hb,if_pos (by omega)];exact ⟨rfl,rfl⟩
theorem kH {s:RS} (hb:s.bad=0) (h:s.cnt<=32) (h':¬ s.cnt=32):a8 s=⟨s.pos+1,s.cnt+1,0,s.whr⟩:=by
 unfold a8;rw [if_pos hb,if_neg (by omega)]
theorem nB {L:List Tk} {h d:Nat} {sg:List (List UInt8×Nat)} {dn:List TN} {C:Nat->Prop} {t:TN} {p:Nat} {q:RS} (hb:q.bad=4) (hw:q.whr=p):Sim L h d sg dn C (.bad p 4) (t,q) :=
 ⟨fun _=>by simp only;rw [hb,hw],fun h0=>by simp only at h0;rw [hb] at h0;exact absurd h0 (by decide)⟩
theorem Bh {L:List Tk} {h d:Nat} {sg:List (List UInt8×Nat)} {dn:List TN} {C:Nat->Prop} {t:TN} {s:RS} (hb:s.bad=0):Sim L h d sg dn C (.bad s.pos 2) (t,bV 2 s):=by
 have e:bV 2 s=⟨s.pos,s.cnt,2,s.pos⟩:=by unfold bV;rw [if_pos hb]
 rw [e];exact ⟨fun _=>rfl,fun h0=>by cases h0⟩
theorem qM {L:List Tk} {h h' d d':Nat} {sg sg':List (List UInt8×Nat)} {dn dn':List TN} {C C':Nat->Prop} {R:s9} {x y:TN×RS} (hx:¬ x.2.bad=0) (H:Sim L h d sg dn C R x) (hy:y.2=x.2):Sim L h' d' sg' dn' C' R y :=
 ⟨fun _=>by rw [hy];exact H.1 hx,fun h0=>absurd (by rw [<- hy];exact h0) hx⟩
theorem sim (L:List Tk) (hL:∀ t∈L,cD t):∀ (f:Nat) (md:Md) (s:RS),bZ (L.length-s.pos) md<=f->s.bad=0->s.pos<=L.length->s.cnt<=32->NP L s md (pr L f md s)
 | 0,md,s,h,_,_,_=>by cases md <;> simp [bZ] at h
 | f + 1, .fac, s, h, hb, hp, hc => by
   intro d sg dn hsg;simp only [bZ] at h;rw [pr,if_pos hb,Bj hp];simp only;cases e:L[s.pos]? with
   | none =>
     have hge:L.length<=s.pos:=List.getElem?_eq_none_iff.1 e;rw [if_neg (by rw [l7 hge];decide),if_neg (by rw [l7 hge];decide)];exact Bh hb
   | some t =>
     have hlt:=(List.getElem?_eq_some_iff.1 e).1;have hg:=hL t (by rw [<- (List.getElem?_eq_some_iff.1 e).2];exact List.getElem_mem hlt);simp only;rw [iS e,iS e];rcases hg with ⟨k1,kg⟩ | ⟨k2,kn,_⟩ | k3
     · rw [k1,show ((1:Int) == 3)=false from rfl,Bool.false_and,Bool.false_and,if_neg Bool.false_ne_true,if_neg Bool.false_ne_true,if_neg (show ¬ ((1:Int)=2/\0<=t.num) from fun h=>absurd h.1 (by decide)),if_pos (⟨rfl,kg⟩:(1:Int)=1/\aW t.text=true),if_neg (show ¬ (1:Int)=2 by decide),if_pos (rfl:(1:Int)=1)]
       by_cases h32:s.cnt=32
       · rw [if_pos h32]
         exact nB (gT hb h32).1 (gT hb h32).2
       · rw [if_neg h32,kH hb hc h32]
         exact ⟨fun h0=>absurd rfl h0,fun _=>⟨trivial,by simp only;omega,by simp only;omega,_,_,rfl,rfl⟩⟩
     · rw [k2,show ((2:Int) == 3)=false from rfl,Bool.false_and,Bool.false_and,if_neg Bool.false_ne_true,if_neg Bool.false_ne_true,if_pos (⟨rfl,kn⟩:(2:Int)=2/\0<=t.num),if_pos (rfl:(2:Int)=2)]
       by_cases h32:s.cnt=32
       · rw [if_pos h32]
         exact nB (gT hb h32).1 (gT hb h32).2
       · rw [if_neg h32,kH hb hc h32]
         exact ⟨fun h0=>absurd rfl h0,fun _=>⟨trivial,by simp only;omega,by simp only;omega,_,_,rfl,rfl⟩⟩
     · rw [k3,if_neg (show ¬ (3:Int)=2 by decide),if_neg (show ¬ (3:Int)=1 by decide)]
       by_cases h45:t.text=[45]
       · rw [h45,if_neg (show ¬ ((3:Int) == 3 && ([45]:List UInt8) == [40])=true by decide),if_pos (show ((3:Int) == 3 && ([45]:List UInt8) == [45])=true by decide),if_pos (rfl:([45]:List UInt8)=[45])]
         by_cases h32:s.cnt=32
         · rw [if_pos h32]
           have ht:=gT hb h32;have hst:(pr L f .fac (a8 s)).2=a8 s:=eZ L f .fac _ (by rw [ht.1];decide);exact nB (by rw [hst];exact ht.1) (by rw [hst];exact ht.2)
         · rw [if_neg h32,kH hb hc h32]
           have ih:=sim L hL f .fac ⟨s.pos+1,s.cnt+1,0,s.whr⟩ (by simp only [bZ];omega) rfl (by simp only;omega) (by simp only;omega) d ((iQ,3+d*3)::sg) dn
            (by intro y hy; rcases List.mem_cons.1 hy with rfl | hy
                · show 3+d*3<=_;omega
                · exact hsg y hy)
           refine ⟨ih.1,fun h0=>?_⟩;obtain ⟨c1,c2,c3,sg3,dn3,e1,e2⟩:=ih.2 h0;refine ⟨c1,c2,c3,sg3,dn3,e1,?_⟩;rw [e2,cG,if_pos (by omega)];rfl
       · rw [if_neg h45]
         by_cases h40:t.text=[40]
         · rw [h40,if_pos (show ((3:Int) == 3 && ([40]:List UInt8) == [40])=true by decide),if_pos (rfl:([40]:List UInt8)=[40])]
           have ih:=sim L hL f .sum (bW s) (by show bZ (L.length-(s.pos+1)) _<=f;simp only [bZ];omega) hb (by show s.pos+1<=_;omega) hc (d+1) sg dn (by intro y hy;have:=hsg y hy;omega);have hst:(⟨(bW s).pos,d+1,(bW s).cnt,sg,dn⟩:SR)=⟨s.pos+1,d+1,s.cnt,sg,dn⟩:=rfl;rw [hst] at ih;generalize hX:pr L f .sum (bW s)=X at ih |-
           by_cases hx:X.2.bad=0
           · obtain ⟨⟨cM,cA⟩,c2,c3,sg3,dn3,e1,e2⟩:=ih.2 hx
             rw [e1,kM c2];simp only;by_cases hs:isS L [41] X.2.pos=true
             · have hcl:eX L X.2=bW X.2:=by unfold eX;rw [hs,Bool.not_true,Bool.and_false,if_neg (by decide)]
               rw [if_pos ⟨by omega,hs⟩,hcl];refine ⟨fun h0=>absurd hx h0,fun _=>⟨trivial,?_,c3,sg3,dn3,rfl,?_⟩⟩
               · have:=nI hs;show X.2.pos+1<=_;omega
               · exact oJ (by omega) e2
             · have hcl:eX L X.2=⟨X.2.pos+1,X.2.cnt,2,X.2.pos⟩:=by
                unfold eX;rw [if_pos (by rw [hx];simp [hs])];unfold bV bW;rw [if_pos hx]
               have hh:cK L X.2.pos=0:=by unfold cK;rw [cA,cM];rfl
               rw [if_neg (fun hh=>hs hh.2),if_pos hh,if_pos (by omega),hcl];exact ⟨fun _=>rfl,fun h0=>by cases h0⟩
           · have hcl:eX L X.2=bW X.2:=by
              unfold eX;rw [if_neg];simp [hx]
             rw [hcl];refine ⟨fun _=>ih.1 hx,fun h0=>absurd h0 hx⟩
         · rw [if_neg (show ¬ ((3:Int) == 3 && t.text == [40])=true by simp [h40]),if_neg (show ¬ ((3:Int) == 3 && t.text == [45])=true by simp [h45]),if_neg (show ¬ ((3:Int)=2/\0<=t.num) from fun h=>absurd h.1 (by decide)),if_neg (show ¬ ((3:Int)=1/\aW t.text=true) from fun h=>absurd h.1 (by decide)),if_neg h40]
           exact Bh hb
 | f + 1, .prod, s, h, hb, hp, hc => by
   intro d sg dn hsg;simp only [bZ] at h;rw [pr];have ih:=sim L hL f .fac s (by simp only [bZ];omega) hb hp hc d sg dn (by intro y hy;have:=hsg y hy;omega);have hpos:=dH L f .fac s;generalize pr L f .fac s=X at ih hpos |-
   by_cases hx:X.2.bad=0
   · obtain ⟨-,c2,c3,sg3,dn3,e1,e2⟩:=ih.2 hx
     have ih2:=sim L hL f (.prodL X.1) X.2 (by simp only [bZ];omega) hx c2 c3 d sg dn sg3 dn3 hsg (by rw [oJ (show 3*d+2<=3*d+3 by omega) e2,lB _ hsg]);rw [e1];exact ih2
   · exact qM hx ih (eZ L f _ _ hx)
 | f + 1, .prodL n, s, h, hb, hp, hc => by
   intro d sg dn sg2 dn2 hsg hj;simp only [bZ] at h;rw [pr];by_cases hm:isM L s.pos=true
   · have hlt:=pS hm
     rw [if_pos (by rw [hb,hm];rfl),kM hp];simp only;obtain ⟨n1,n2⟩:=Al hm;have hh:cK L s.pos=2:=by unfold cK;rw [n2,hm];rfl
     rw [if_neg (by rw [n1];simp),hh,if_neg (by decide)];by_cases h32:s.cnt=32
     · rw [if_pos h32]
       have ht:=gT hb h32;have hst:(pr L f .fac (a8 s)).2=a8 s:=eZ L f .fac _ (by rw [ht.1];decide);have hst2:∀ md,(pr L f md (a8 s)).2=a8 s:=fun md=>eZ L f md _ (by rw [ht.1];decide)
       rw [hst];exact nB (by rw [hst2];exact ht.1) (by rw [hst2];exact ht.2)
     · rw [if_neg h32,kH hb hc h32,show 2+d*3=3*d+2 by omega,hj]
       simp only
       have ih:=sim L hL f .fac ⟨s.pos+1,s.cnt+1,0,s.whr⟩ (by simp only [bZ];omega) rfl (by simp only;omega) (by simp only;omega) d ((eN L s.pos,3*d+2)::sg) (n::dn)
        (by intro y hy; rcases List.mem_cons.1 hy with rfl | hy
            · show 3*d+2<=_;omega
            · have:=hsg y hy;omega)
       have hpos:=dH L f .fac ⟨s.pos+1,s.cnt+1,0,s.whr⟩;simp only at ih hpos;generalize pr L f .fac ⟨s.pos+1,s.cnt+1,0,s.whr⟩=X at ih hpos |-
       by_cases hx:X.2.bad=0
       · obtain ⟨-,c2,c3,sg3,dn3,e1,e2⟩:=ih.2 hx
         have hop:eN L s.pos ≠ iQ:=by
          intro hn;rcases opM hm with h | h | h | h | h <;> rw [h] at hn <;> cases hn
         have e3:cG (3*d+2) sg3 dn3=(sg,gP (eN L s.pos) n X.1::dn):=by
          rw [oJ (show 3*d+2<=3*d+3 by omega) e2,cG,if_pos (Nat.le_refl _),oK,if_neg hop];exact lB _ hsg
         have ih2:=sim L hL f (.prodL (gP (eN L s.pos) n X.1)) X.2 (by simp only [bZ];omega) hx c2 c3 d sg dn sg3 dn3 hsg e3;rw [e1];exact ih2
       · exact qM hx ih (eZ L f _ _ hx)
   · rw [if_neg (by rw [Bool.and_eq_true];exact fun hh=>hm hh.2)]
     refine ⟨fun h0=>absurd hb h0,fun _=>⟨by simpa using hm,hp,hc,sg2,dn2,rfl,?_⟩⟩;rw [hj,lB _ hsg]
 | f + 1, .sum, s, h, hb, hp, hc => by
   intro d sg dn hsg;simp only [bZ] at h;rw [pr];have ih:=sim L hL f .prod s (by simp only [bZ];omega) hb hp hc d sg dn (by intro y hy;have:=hsg y hy;omega);have hpos:=dH L f .prod s;generalize pr L f .prod s=X at ih hpos |-
   by_cases hx:X.2.bad=0
   · obtain ⟨c1,c2,c3,sg3,dn3,e1,e2⟩:=ih.2 hx
     have ih2:=sim L hL f (.sumL X.1) X.2 (by simp only [bZ];omega) hx c2 c3 c1 d sg dn sg3 dn3 hsg (by rw [oJ (show 3*d+1<=3*d+2 by omega) e2,lB _ hsg]);rw [e1];exact ih2
   · exact qM hx ih (eZ L f _ _ hx)
 | f + 1, .sumL n, s, h, hb, hp, hc => by
   intro hnm d sg dn sg2 dn2 hsg hj;simp only [bZ] at h;rw [pr];by_cases hm:isA L s.pos=true
   · have hlt:=pT hm
     rw [if_pos (by rw [hb,hm];rfl),kM hp];simp only;obtain ⟨n1,n2⟩:=Am hm;have hh:cK L s.pos=1:=by unfold cK;rw [hm];rfl
     rw [if_neg (by rw [n1];simp),hh,if_neg (by decide)];by_cases h32:s.cnt=32
     · rw [if_pos h32]
       have ht:=gT hb h32;have hst2:∀ md,(pr L f md (a8 s)).2=a8 s:=fun md=>eZ L f md _ (by rw [ht.1];decide)
       rw [hst2];exact nB (by rw [hst2];exact ht.1) (by rw [hst2];exact ht.2)
     · rw [if_neg h32,kH hb hc h32,show 1+d*3=3*d+1 by omega,hj]
       simp only
       have ih:=sim L hL f .prod ⟨s.pos+1,s.cnt+1,0,s.whr⟩ (by simp only [bZ];omega) rfl (by simp only;omega) (by simp only;omega) d ((eN L s.pos,3*d+1)::sg) (n::dn)
        (by intro y hy; rcases List.mem_cons.1 hy with rfl | hy
            · show 3*d+1<_;omega
            · have:=hsg y hy;omega)
       have hpos:=dH L f .prod ⟨s.pos+1,s.cnt+1,0,s.whr⟩;simp only at ih hpos;generalize pr L f .prod ⟨s.pos+1,s.cnt+1,0,s.whr⟩=X at ih hpos |-
       by_cases hx:X.2.bad=0
       · obtain ⟨c1,c2,c3,sg3,dn3,e1,e2⟩:=ih.2 hx
         have hop:eN L s.pos ≠ iQ:=by
          intro hn;rcases opA hm with h | h | h | h | h <;> rw [h] at hn <;> cases hn
         have e3:cG (3*d+1) sg3 dn3=(sg,gP (eN L s.pos) n X.1::dn):=by
          rw [oJ (show 3*d+1<=3*d+2 by omega) e2,cG,if_pos (Nat.le_refl _),oK,if_neg hop];exact lB _ hsg
         have ih2:=sim L hL f (.sumL (gP (eN L s.pos) n X.1)) X.2 (by simp only [bZ];omega) hx c2 c3 c1 d sg dn sg3 dn3 hsg e3;rw [e1];exact ih2
       · exact qM hx ih (eZ L f _ _ hx)
   · rw [if_neg (by rw [Bool.and_eq_true];exact fun hh=>hm hh.2)]
     refine ⟨fun h0=>absurd hb h0,fun _=>⟨⟨hnm,by simpa using hm⟩,hp,hc,sg2,dn2,rfl,?_⟩⟩;rw [hj,lB _ hsg]
theorem MA {L:List Tk} (hL:∀ t∈L,cD t) {p:Nat} (hp:p<=L.length) :
 (∀ q e,ofL L p=.bad q e->eA L true ⟨p,0,0,[],[]⟩=.bad q e) /\
 (∀ t q,ofL L p=.ok t q->∃ s:SR,eA L true ⟨p,0,0,[],[]⟩=.ok s/\s.pos=q/\q<=L.length/\cG 0 s.sg s.dn=([],[t])):=by
 have h:=sim L hL (4*(L.length-p)+4) .sum ⟨p,0,0,0⟩ (by simp only [bZ];omega) rfl hp (by simp only;omega) 0 [] [] (by intro y hy;cases hy);have h:Sim L 1 0 [] [] (fun p=>isM L p=false/\isA L p=false) (eA L true ⟨p,0,0,[],[]⟩) (pE L .sum ⟨p,0,0,0⟩):=h;unfold ofL;generalize pE L .sum ⟨p,0,0,0⟩=X at h |-
 by_cases hx:X.2.bad=0
 · rw [if_pos hx]
   refine ⟨fun q e h0=>(by cases h0),fun t q h0=>?_⟩;cases h0;obtain ⟨⟨cM,cA⟩,c2,c3,sg3,dn3,e1,e2⟩:=h.2 hx;have hh:cK L X.2.pos=0:=by unfold cK;rw [cA,cM];rfl
   refine ⟨⟨X.2.pos,0,X.2.cnt,sg3,dn3⟩,?_,rfl,c2,?_⟩
   · rw [e1,kM c2]
     simp only;rw [if_neg (by simp),if_pos hh,if_neg (by decide)]
   · exact oJ (Nat.zero_le 1) e2
 · rw [if_neg hx]
   refine ⟨fun q e h0=>?_,fun t q h0=>(by cases h0)⟩;cases h0;exact h.1 hx
end
section
open Go.RowKit
theorem pR (o:ByteArray) (w:World):Calls Tryz.prog 186 #[.string o] w fun e w'=>e=.returned (.int .i64 (dK o))/\w=w':=by
 have E:dK o=if (o.toList == [110,117,109] || o.toList == [110,97,109,101])=true then 0 else if (o.toList == [110,101,103])=true then 1 else if (o.toList == [43] || o.toList == [45] || o.toList == [42] || o.toList == [47] || o.toList == [37])=true then 2 else -1:=by
  unfold dK cF bY fA lC rJ mL iQ;rw [Lib.toList_data]
 cases h0:(o.toList == [110,117,109]) with
 | true =>
   have R:=aA (show dK o=0 by rw [E];simp [h0]);clear E;go_enter Tryz.func186,Tryz.ntmps186
   go_wp2_with fail
   go_ret;rw [R.out];exact ⟨rfl,rfl⟩
 | false =>
   cases h1:(o.toList == [110,97,109,101]) with
   | true =>
     have R:=aA (show dK o=0 by rw [E];simp [h0,h1]);clear E;go_enter Tryz.func186,Tryz.ntmps186
     go_wp2_with fail
     go_ret;rw [R.out];exact ⟨rfl,rfl⟩
   | false =>
     cases h2:(o.toList == [110,101,103]) with
     | true =>
       have R:=aA (show dK o=1 by rw [E];simp [h0,h1,h2]);clear E;go_enter Tryz.func186,Tryz.ntmps186
       go_wp2_with fail
       go_ret;rw [R.out];exact ⟨rfl,rfl⟩
     | false =>
       cases h3:(o.toList == [43]) with
       | true =>
         have R:=aA (show dK o=2 by rw [E];simp [h0,h1,h2,h3]);clear E;go_enter Tryz.func186,Tryz.ntmps186
         go_wp2_with fail
         go_ret;rw [R.out];exact ⟨rfl,rfl⟩
       | false =>
         cases h4:(o.toList == [45]) with
         | true =>
           have R:=aA (show dK o=2 by rw [E];simp [h0,h1,h2,h3,h4]);clear E;go_enter Tryz.func186,Tryz.ntmps186
           go_wp2_with fail
           go_ret;rw [R.out];exact ⟨rfl,rfl⟩
         | false =>
           cases h5:(o.toList == [42]) with
           | true =>
             have R:=aA (show dK o=2 by rw [E];simp [h0,h1,h2,h3,h4,h5]);clear E;go_enter Tryz.func186,Tryz.ntmps186
             go_wp2_with fail
             go_ret;rw [R.out];exact ⟨rfl,rfl⟩
           | false =>
             cases h6:(o.toList == [47]) with
             | true =>
               have R:=aA (show dK o=2 by rw [E];simp [h0,h1,h2,h3,h4,h5,h6]);clear E;go_enter Tryz.func186,Tryz.ntmps186
               go_wp2_with fail
               go_ret;rw [R.out];exact ⟨rfl,rfl⟩
             | false =>
               cases h7:(o.toList == [37]) with
               | true =>
                 have R:=aA (show dK o=2 by rw [E];simp [h0,h1,h2,h3,h4,h5,h6,h7]);clear E;go_enter Tryz.func186,Tryz.ntmps186
                 go_wp2_with fail
                 go_ret;rw [R.out];exact ⟨rfl,rfl⟩
               | false =>
                 have R:=aA (show dK o= -1 by rw [E];simp [h0,h1,h2,h3,h4,h5,h6,h7]);clear E;go_enter Tryz.func186,Tryz.ntmps186
                 go_wp2_with fail
                 go_ret;rw [R.out];exact ⟨rfl,rfl⟩
theorem DF (k:Int) (X x:ByteArray) (n p:Int) (w:World) :
 Calls Tryz.prog 290 #[.agg #[.int .i64 k,.string X,.int .i64 n,.int .i64 p],.string x] w fun e w'=>e=.returned (.bool (k == 3 && X.data.toList == x.data.toList))/\Below w.heap.size w w':=by
 have bl:∀ o,Below w.heap.size w (w.alloc o):=fun o=>bA0 _ _
 have BL:=aA bl;clear bl;rw [<- Lib.toList_data, <- Lib.toList_data];cases hk3:(k == 3) with
 | true =>
   have z:(k == 3)=true:=hk3;rw [Bool.true_and];clear hk3;go_enter Tryz.func290,Tryz.ntmps290
   go_wp2_with fail
   go_ret;exact ⟨rfl,BL.out _⟩
 | false =>
   have z:(k == 3)=false:=hk3;rw [Bool.false_and];clear hk3;go_enter Tryz.func290,Tryz.ntmps290
   go_wp2_with fail
   go_ret;exact ⟨rfl,BL.out _⟩
def rH (k:Int) (X:List UInt8):Nat:=if (k == 3)=true then (if (X == [43] || X == [45])=true then 1 else if (X == [42] || X == [47] || X == [37])=true then 2 else 0) else 0
theorem Cx (k:Int) (X:ByteArray) (n p:Int) (w:World) :
 Calls Tryz.prog 277 #[.agg #[.int .i64 k,.string X,.int .i64 n,.int .i64 p]] w fun e w'=>e=.returned (.int .i64 (rH k X.data.toList:Nat))/\Below w.heap.size w w':=by
 have bl:∀ o,Below w.heap.size w (w.alloc o):=fun o=>bA0 _ _
 have BL:=aA bl;clear bl;obtain ⟨L,hL⟩:∃ L,X.data.toList=L:=⟨_,rfl⟩;have E:rH k L=rH k L:=rfl;have hX:X.toList=L:=by rw [Lib.toList_data,hL]
 rw [hL];conv at E=>rhs;unfold rH
 cases hk3:(k == 3) with
 | false =>
   have z:(k == 3)=false:=hk3;have R:=aA (show rH k L=0 by rw [E,hk3];rfl);clear hk3 E hX;go_enter Tryz.func277,Tryz.ntmps277
   go_wp2_with fail
   go_ret;rw [R.out];exact ⟨rfl,BL.out _⟩
 | true =>
   have z:(k == 3)=true:=hk3;rw [hk3,if_pos rfl] at E;clear hk3;cases h0:(L == [43]) with
   | true =>
     have R:=aA (show rH k L=1 by rw [E];simp [h0]);rw [<- hX] at h0;clear E hX;go_enter Tryz.func277,Tryz.ntmps277
     go_wp2_with fail
     go_ret;rw [R.out];exact ⟨rfl,BL.out _⟩
   | false =>
     cases h1:(L == [45]) with
     | true =>
       have R:=aA (show rH k L=1 by rw [E];simp [h0,h1]);rw [<- hX] at h0 h1;clear E hX;go_enter Tryz.func277,Tryz.ntmps277
       go_wp2_with fail
       go_ret;rw [R.out];exact ⟨rfl,BL.out _⟩
     | false =>
       cases h2:(L == [42]) with
       | true =>
         have R:=aA (show rH k L=2 by rw [E];simp [h0,h1,h2]);rw [<- hX] at h0 h1 h2;clear E hX;go_enter Tryz.func277,Tryz.ntmps277
         go_wp2_with fail
         go_ret;rw [R.out];exact ⟨rfl,BL.out _⟩
       | false =>
         cases h3:(L == [47]) with
         | true =>
           have R:=aA (show rH k L=2 by rw [E];simp [h0,h1,h2,h3]);rw [<- hX] at h0 h1 h2 h3;clear E hX;go_enter Tryz.func277,Tryz.ntmps277
           go_wp2_with fail
           go_ret;rw [R.out];exact ⟨rfl,BL.out _⟩
         | false =>
           cases h4:(L == [37]) with
           | true =>
             have R:=aA (show rH k L=2 by rw [E];simp [h0,h1,h2,h3,h4]);rw [<- hX] at h0 h1 h2 h3 h4;clear E hX;go_enter Tryz.func277,Tryz.ntmps277
             go_wp2_with fail
             go_ret;rw [R.out];exact ⟨rfl,BL.out _⟩
           | false =>
             have R:=aA (show rH k L=0 by rw [E];simp [h0,h1,h2,h3,h4]);rw [<- hX] at h0 h1 h2 h3 h4;clear E hX;go_enter Tryz.func277,Tryz.ntmps277
             go_wp2_with fail
             go_ret;rw [R.out];exact ⟨rfl,BL.out _⟩
end
section
open Go.RowKit
def IsG (w:World) (b:Nat) (a:Option Addr) (l c:Nat) (p o n:Nat) (sv dv:Value):Prop:=w.heap[b]? = some (.cells #[.slice a l c,.int .i64 p,.int .i64 o,.int .i64 n,sv,dv] 333 (0,0))
theorem IsG.cells {w:World} {b:Nat} {a:Option Addr} {l c p o n:Nat} {sv dv:Value} (h:IsG w b a l c p o n sv dv) :
 (w.cell? ⟨b,0,none⟩=some (.slice a l c)/\w.cell? ⟨b,1,none⟩=some (.int .i64 p)/\w.cell? ⟨b,2,none⟩=some (.int .i64 o)/\w.cell? ⟨b,3,none⟩=some (.int .i64 n)/\w.cell? ⟨b,4,none⟩=some sv/\w.cell? ⟨b,5,none⟩=some dv) /\
 (w.frozen? ⟨b,1,none⟩=false/\w.frozen? ⟨b,2,none⟩=false/\w.frozen? ⟨b,3,none⟩=false/\w.frozen? ⟨b,4,none⟩=false/\w.frozen? ⟨b,5,none⟩=false):=by
 unfold IsG at h;refine ⟨⟨?_,?_,?_,?_,?_,?_⟩,?_,?_,?_,?_,?_⟩ <;> simp [World.cell?,World.frozen?,h]
structure PG (ts:List Tk) (rb:Nat) (a:Option Addr) (c:Nat) (p o n:Nat) (sv dv:Value) (w:World):Prop where
 r:IsG w rb a ts.length c p o n sv dv
 t:CG rb w a ts
 hp:p<=ts.length
 hl:ts.length<=100000
 ho:o<=100001
 hn:n<=32
theorem PG.kept {ts:List Tk} {rb:Nat} {a:Option Addr} {c p o n:Nat} {sv dv:Value} {w w':World} (h:PG ts rb a c p o n sv dv w) {S:Nat->Prop} (hk:aC S w w') (hS:∀ k,S k->rb<k):PG ts rb a c p o n sv dv w' :=
 ⟨hk.heap h.r (fun hs=>by have:=hS rb hs;omega),h.t.kept hk (fun k hs=>by have:=hS k hs;omega),h.hp,h.hl,h.ho,h.hn⟩
theorem PG.below {ts:List Tk} {rb:Nat} {a:Option Addr} {c p o n:Nat} {sv dv:Value} {w w':World} (h:PG ts rb a c p o n sv dv w) (hb:Below w.heap.size w w'):PG ts rb a c p o n sv dv w' :=
 h.kept (aE hb (fun _=>False)) (fun _ h=>h.elim)
theorem six {w:World} {b:Nat} {v0 v1 v2 v3 v4 v5:Value} {t:TypeId} (h:w.heap[b]? = some (.cells #[v0,v1,v2,v3,v4,v5] t (0,0))) (o:Nat) (v:Value) :
 (w.setCell ⟨b,o,none⟩ v).heap[b]? = some (.cells ((#[v0,v1,v2,v3,v4,v5]:Array Value).setIfInBounds o v) t (0,0)):=heap_setCell_same w b o _ t v h
theorem PG.set {ts:List Tk} {rb:Nat} {a:Option Addr} {c p o n p' o' n':Nat} {sv dv sv' dv':Value} {w:World} (h:PG ts rb a c p o n sv dv w) {q:Nat} {v:Value} (hp:p'<=ts.length) (ho:o'<=100001) (hn:n'<=32)
 (hv:(#[.slice a ts.length c,.int .i64 p,.int .i64 o,.int .i64 n,sv,dv]:Array Value).setIfInBounds q v=#[.slice a ts.length c,.int .i64 p',.int .i64 o',.int .i64 n',sv',dv']):PG ts rb a c p' o' n' sv' dv' (w.setCell ⟨rb,q,none⟩ v):=by
 refine ⟨?_,h.t.kept ((aC.refl (· = rb) w).setCell (p:=⟨rb,q,none⟩) (.inl rfl) v) (fun k hk=>by omega),hp,h.hl,ho,hn⟩;have:=six h.r q v;rw [hv] at this;exact this
def tkG (t:Tk):Value:=.agg #[.int .i64 t.kind,.string ⟨t.text.toArray⟩,.int .i64 t.num,.int .i64 t.place]
def zTk:Tk:=⟨0,[],0,0⟩
def dY (L:List Tk) (p:Nat):Tk:=match L[p]? with
 | some t=>t
 | none=>zTk
theorem uH {L:List Tk} {p:Nat} (h:p<L.length):dY L p=L[p]:=by unfold dY;rw [List.getElem?_eq_getElem h]
theorem uI {L:List Tk} {p:Nat} (h:L.length<=p):dY L p=zTk:=by unfold dY;rw [List.getElem?_eq_none h]
theorem kG (L:List Tk) (x:List UInt8) (p:Nat):((dY L p).kind == 3 && (dY L p).text == x)=isS L x p:=by
 unfold dY isS;cases L[p]? with
 | none=>rfl
 | some t=>rfl
theorem Hy (L:List Tk) (p:Nat):rH (dY L p).kind (dY L p).text=cK L p:=by
 unfold rH cK isA isM;rw [<- kG, <- kG, <- kG, <- kG, <- kG];cases (dY L p).kind == 3 <;> simp
theorem Kk (L:List Tk) (p:Nat):(dY L p).text=eN L p:=by
 unfold dY eN;cases L[p]? with
 | none=>rfl
 | some t=>rfl
theorem jV {B b:Nat} {w W:World} (h:Below B w W) (hb:B<=b) (hB:B<=W.heap.size) (n:Nat) (v0 v1 v2 v3:Value):Below B w (((((W.drewN n).setCell ⟨b,0,none⟩ v0).setCell ⟨b,1,none⟩ v1).setCell ⟨b,2,none⟩ v2).setCell ⟨b,3,none⟩ v3):=by
 have k:=(((((aC.refl (· = b) W).drewN n).setCell (p:=⟨b,0,none⟩) (.inl rfl) v0).setCell (p:=⟨b,1,none⟩) (.inl rfl) v1).setCell (p:=⟨b,2,none⟩) (.inl rfl) v2).setCell (p:=⟨b,3,none⟩) (.inl rfl) v3;exact h.trans (k.below (fun i hi=>by omega) hB)
theorem qT (ts:List Tk) (rb:Nat) (a:Option Addr) (c p o n:Nat) (sv dv:Value) (w:World) (h:PG ts rb a c p o n sv dv w) :
 Calls Tryz.prog 278 #[.pointer (some ⟨rb,0,none⟩)] w fun e w'=>e=.returned (tkG (dY ts p))/\Below w.heap.size w w':=by
 have hpos:=h.hp;have hn:=h.hl;have BA:=bA0 w (tkO 0 ⟨#[]⟩ 0 0);have NB:=heap_alloc_new w (tkO 0 ⟨#[]⟩ 0 0);have hP:=h.below BA;have hsz:(w.alloc (tkO 0 ⟨#[]⟩ 0 0)).heap.size=w.heap.size+1:=World.size_alloc _ _;obtain ⟨⟨c0,c1,c2,c3,c4,c5⟩, -⟩:=hP.r.cells;obtain ⟨⟨x0,x1,x2,x3⟩,f0,f1,f2,f3⟩:=aL NB;by_cases hlt:p<ts.length
 · obtain ⟨b,off,ha, -,p0,p1,p2,p3⟩:=xV hP.t hlt
   subst ha;obtain ⟨X,hX⟩:∃ X,tkG (dY ts p)=X:=⟨_,rfl⟩;have hX':=hX;rw [uH hlt] at hX';unfold tkG at hX';rw [hX];generalize ts[p]=t at p0 p1 p2 p3 hX';obtain ⟨k,s,nn,pp⟩:=t;simp only at p0 p1 p2 p3 hX';have a1:((p:Int) == (ts.length:Int))=false:=by rw [beq_eq_false_iff_ne];omega
   have a2:(p:Int)<(ts.length:Int):=by omega
   have a4:(0:Int)<=(p:Int):=by omega
   have a3:((p:Int)).toNat=p:=by omega
   subst hX';clear hX h hP;have HN:=aA NB;have HB:=aA BA;clear NB BA;go_enter Tryz.func278,Tryz.ntmps278
   go_upto_region 1 with fail
   generalize w.alloc (tkO 0 ⟨#[]⟩ 0 0)=W at *;go_upto_region 3 with (go_quiet (fail))
   go_region
   go_wp2_with fail
   obtain ⟨⟨d0,d1,d2,d3⟩, -⟩:=aL (aU (W:=W.drewN (nq+1)) HN.out (.int .i64 k) (.string ⟨s.toArray⟩) (.int .i64 nn) (.int .i64 pp));exact bodyPost_ret (v:=.agg #[.int .i64 k,.string ⟨s.toArray⟩,.int .i64 nn,.int .i64 pp]) (by simp [results,Tryz.results278,go_sem,d0,d1,d2,d3]) rfl ⟨rfl,jV HB.out (Nat.le_refl _) (by omega) (nq+1) _ _ _ _⟩
 · obtain rfl:p=ts.length:=by omega
   rw [uI (Nat.le_refl _)];clear h hP;have HN:=aA NB;have HB:=aA BA;clear NB BA;go_enter Tryz.func278,Tryz.ntmps278
   go_upto_region 1 with fail
   generalize w.alloc (tkO 0 ⟨#[]⟩ 0 0)=W at *;go_upto_region 2 with (go_quiet (fail))
   go_wp2_with fail
   obtain ⟨⟨d0,d1,d2,d3⟩, -⟩:=aL (aU (W:=W.drewN nq) HN.out (.int .i64 0) (.string ⟨#[]⟩) (.int .i64 0) (.int .i64 0));exact bodyPost_ret (v:=.agg #[.int .i64 0,.string ⟨#[]⟩,.int .i64 0,.int .i64 0]) (by simp [results,Tryz.results278,go_sem,d0,d1,d2,d3]) rfl ⟨rfl,jV HB.out (Nat.le_refl _) (by omega) nq _ _ _ _⟩
theorem zE (ts:List Tk) (rb:Nat) (a:Option Addr) (c p o n:Nat) (sv dv:Value) (w:World) (h:PG ts rb a c p o n sv dv w) (hlt:p<ts.length) :
 Calls Tryz.prog 293 #[.pointer (some ⟨rb,0,none⟩)] w fun e w' =>
  (n=32->e=.returned (.int .i64 4)/\w'=w)/\(¬ n=32->e=.returned (.int .i64 0)/\PG ts rb a c (p+1) o (n+1) sv dv w'/\aC (· = rb) w w'):=by
 obtain ⟨⟨c0,c1,c2,c3,c4,c5⟩,f1,f2,f3,f4,f5⟩:=h.r.cells;have hpos:=h.hp;have hl:=h.hl;have hnn:=h.hn;have ho:=h.ho;by_cases h32:n=32
 · have a1:((n:Int) == 32)=true:=by rw [h32];rfl
   have H:=aA h32;clear h h32;go_enter Tryz.func293,Tryz.ntmps293
   go_wp2_with fail
   go_ret;exact ⟨fun _=>⟨rfl,rfl⟩,fun hn=>absurd H.out hn⟩
 · have a1:((n:Int) == 32)=false:=by rw [beq_eq_false_iff_ne];omega
   have H1:PG ts rb a c p o (n+1) sv dv (w.setCell ⟨rb,3,none⟩ (.int .i64 ((n:Int)+1))):=h.set hpos ho (by omega) rfl;have H2:=aA (show PG ts rb a c (p+1) o (n+1) sv dv ((w.setCell ⟨rb,3,none⟩ (.int .i64 ((n:Int)+1))).setCell ⟨rb,1,none⟩ (.int .i64 ((p:Int)+1))) from H1.set (by omega) (by omega) (by omega) rfl);have K:=aA (qX (qX (aC.refl (· = rb) w) 3 (.int .i64 ((n:Int)+1))) 1 (.int .i64 ((p:Int)+1)));have H:=aA h32;clear h h32 H1;go_enter Tryz.func293,Tryz.ntmps293
   go_wp2_with fail
   go_ret;exact ⟨fun hn=>absurd hn H.out,fun _=>⟨rfl,H2.out,K.out⟩⟩
theorem LQ (ts:List Tk) (rb:Nat) (a:Option Addr) (c p o n:Nat) (sv dv:Value) (w:World) (h:PG ts rb a c p o n sv dv w) :
 Calls Tryz.prog 279 #[.pointer (some ⟨rb,0,none⟩)] w fun e w'=>e=.returned (.int .i64 (if 0<o then 2 else 0))/\w'=w:=by
 obtain ⟨⟨c0,c1,c2,c3,c4,c5⟩,f1,f2,f3,f4,f5⟩:=h.r.cells;clear h;by_cases h0:0<o
 · have a1:(0:Int)<(o:Int):=by omega
   rw [if_pos h0];go_enter Tryz.func279,Tryz.ntmps279
   go_wp2_with fail
   go_ret;exact ⟨rfl,rfl⟩
 · have a1:¬ (0:Int)<(o:Int):=by omega
   rw [if_neg h0];go_enter Tryz.func279,Tryz.ntmps279
   go_wp2_with fail
   go_ret;exact ⟨rfl,rfl⟩
end
section
open Go.RowKit
def wsL (x:List UInt8×Nat):List Value:=[.string ⟨x.1.toArray⟩,.int .i64 x.2]
def xF:List (List UInt8×Nat)->List Value
 | []=>[]
 | x::r=>xF r++wsL x
def ndL (t:TN) (q:Option Addr×Nat):List Value:=[.string t.op,.string t.nm,.int .i64 t.n,.slice q.1 t.ks.len q.2]
def dnL:List TN->List (Option Addr×Nat)->List Value
 | t::r,q::s=>dnL r s++ndL t q
 | _,_=>[]
def DnK (G:Nat->Prop) (w:World):List TN->List (Option Addr×Nat)->Prop
 | [],[]=>True
 | t::r,q::s=>aQ G w q.1 t.ks/\DnK G w r s
 | _,_=>False
theorem jG:∀ sg:List (List UInt8×Nat),(xF sg).length=sg.length*2
 | []=>rfl
 | x::r=>by rw [xF,List.length_append,jG r,List.length_cons];simp [wsL];omega
theorem t8 {G:Nat->Prop} {w:World}:∀ {dn:List TN} {q:List (Option Addr×Nat)},DnK G w dn q->q.length=dn.length
 | [],[],_=>rfl
 | _::r,_::s,h=>by rw [List.length_cons,List.length_cons,t8 h.2]
 | [],_::_,h=>h.elim
 | _::_,[],h=>h.elim
theorem rD:∀ {dn:List TN} {q:List (Option Addr×Nat)},q.length=dn.length->(dnL dn q).length=dn.length*4
 | [],_,_=>by rw [dnL];rfl;intro t r q s h;cases h
 | _ :: r, _ :: s, h => by
   rw [dnL,List.length_append,rD (by simpa using h),List.length_cons];simp [ndL];omega
 | _::_,[],h=>by simp at h
theorem Ka (x:List UInt8×Nat):∀ u∈wsL x,u.oneCell'=true:=by
 intro u hu;simp [wsL] at hu;rcases hu with rfl | rfl <;> rfl
theorem oE (t:TN) (q:Option Addr×Nat):∀ u∈ndL t q,u.oneCell'=true:=by
 intro u hu;simp [ndL] at hu;rcases hu with rfl | rfl | rfl | rfl <;> rfl
theorem DnK.imp {G H:Nat->Prop} {w:World} (hG:∀ b,b<w.heap.size->G b->H b):∀ {dn:List TN} {q:List (Option Addr×Nat)},DnK G w dn q->DnK H w dn q
 | [],[],_=>trivial
 | _::_,_::_,h=>⟨h.1.imp hG,h.2.imp hG⟩
 | [],_::_,h=>h.elim
 | _::_,[],h=>h.elim
theorem DnK.keptS {S G:Nat->Prop} {w w':World} (hk:aC S w w') (hS:∀ k,S k->¬ G k):∀ {dn:List TN} {q:List (Option Addr×Nat)},DnK G w dn q->DnK G w' dn q
 | [],[],_=>trivial
 | _::_,_::_,h=>⟨h.1.keptS hk hS,h.2.keptS hk hS⟩
 | [],_::_,h=>h.elim
 | _::_,[],h=>h.elim
def Gk (x rb:Nat) (sv dv:Value) (b:Nat):Prop:=rb<b/\b ≠ x/\sv.ownBlock ≠ some b/\dv.ownBlock ≠ some b
structure RGx (x:Nat) (ts:List Tk) (rb:Nat) (a:Option Addr) (c p o n:Nat) (sg:List (List UInt8×Nat)) (dn:List TN) (sv dv:Value) (q:List (Option Addr×Nat)) (w:World):Prop where
 g:PG ts rb a c p o n sv dv w
 so:w.ownsRow (rb+1) 347 2 sv sg.length (xF sg)
 dw:w.ownsRow (rb+1) 67 4 dv dn.length (dnL dn q)
 dk:DnK (Gk x rb sv dv) w dn q
 ap:∀ x,sv.ownBlock=some x->dv.ownBlock=some x->False
 hx:x<w.heap.size
 hs:sg.length<=n
 hd:dn.length<=n
abbrev RG (ts:List Tk) (rb:Nat) (a:Option Addr) (c p o n:Nat) (sg:List (List UInt8×Nat)) (dn:List TN) (sv dv:Value) (q:List (Option Addr×Nat)) (w:World):Prop:=RGx rb ts rb a c p o n sg dn sv dv q w
section
variable {x : Nat} {ts : List Tk} {rb : Nat} {a : Option Addr} {c p o n : Nat} {sg : List (List UInt8 × Nat)} {dn : List TN} {sv dv : Value} {q : List (Option Addr × Nat)} {w w' : World}
theorem RGx.below (h:RGx x ts rb a c p o n sg dn sv dv q w) (hb:Below w.heap.size w w'):RGx x ts rb a c p o n sg dn sv dv q w' :=
 ⟨h.g.below hb,cI h.so hb,cI h.dw hb,h.dk.keptS (aE hb (fun _=>False)) (fun _ h=>h.elim),h.ap,Nat.lt_of_lt_of_le h.hx hb.size,h.hs,h.hd⟩
theorem RGx.lt (h:RGx x ts rb a c p o n sg dn sv dv q w):rb<w.heap.size:=(Array.getElem?_eq_some_iff.1 h.g.r).1
theorem RGx.svNe (h:RGx x ts rb a c p o n sg dn sv dv q w) {b:Nat} (hb:sv.ownBlock=some b):rb<b/\b<w.heap.size:=by have:=h.so.lt b hb;omega
theorem RGx.dvNe (h:RGx x ts rb a c p o n sg dn sv dv q w) {b:Nat} (hb:dv.ownBlock=some b):rb<b/\b<w.heap.size:=by have:=h.dw.lt b hb;omega
theorem kU {B:Nat} {e:TypeId} {size:Nat} {v:Value} {m:Nat} {xs:List Value} (h:w.ownsRow B e size v m xs) (hlt:rb<B) (y:Nat) (u:Value):(w.setCell ⟨rb,y,none⟩ u).ownsRow B e size v m xs:=by
 refine World.ownsRow.kept (row:=some rb) h (aV ((aC.refl (· = rb) w).setCell (p:=⟨rb,y,none⟩) (.inl rfl) u) (fun k hk=>by rw [hk])) (.inr ?_);intro hh;have:=h.lt rb hh;omega
theorem RGx.set (h:RGx x ts rb a c p o n sg dn sv dv q w) {p' o' n':Nat} {y:Nat} {v:Value} (hp:p'<=ts.length) (ho:o'<=100001) (hn:n'<=32) (hcn:n<=n')
 (hv:(#[.slice a ts.length c,.int .i64 p,.int .i64 o,.int .i64 n,sv,dv]:Array Value).setIfInBounds y v=#[.slice a ts.length c,.int .i64 p',.int .i64 o',.int .i64 n',sv,dv]):RGx x ts rb a c p' o' n' sg dn sv dv q (w.setCell ⟨rb,y,none⟩ v):=by
 have h1:=h.hs;have h2:=h.hd;exact ⟨h.g.set hp ho hn hv,kU h.so (by omega) _ _,kU h.dw (by omega) _ _,h.dk.keptS ((aC.refl (· = rb) w).setCell (p:=⟨rb,y,none⟩) (.inl rfl) v) (fun k hk hg=>by have:=hg.1;omega),h.ap,by rw [World.size_setCell];exact h.hx,by omega,by omega⟩
end
abbrev bQ (rb:Nat) (w w':World):Prop:=aC (fun b=>rb<=b) w w'
theorem bQ.refl (rb:Nat) (w:World):bQ rb w w:=aC.refl _ w
theorem bQ.of {rb:Nat} {w w':World} (h:aC (· = rb) w w'):bQ rb w w':=h.mono (fun i hi _=>by omega)
theorem bQ.trans {rb:Nat} {a b c:World} (h:bQ rb a b) (k:bQ rb b c):bQ rb a c:=aC.trans h k (fun _ hi _=>hi)
theorem bQ.below {rb:Nat} {a b:World} (h:Below a.heap.size a b):bQ rb a b:=aE h _
theorem bQ.set {rb:Nat} {a b:World} (h:bQ rb a b) (o:Nat) (v:Value):bQ rb a (b.setCell ⟨rb,o,none⟩ v):=h.setCell (p:=⟨rb,o,none⟩) (.inl (Nat.le_refl _)) v
theorem EJ (ts:List Tk) (x:ByteArray) (p:Nat) (w:World):Calls Tryz.prog 290 #[tkG (dY ts p),.string x] w fun e w'=>e=.returned (.bool (isS ts x.data.toList p))/\Below w.heap.size w w':=by
 rw [<- kG];exact DF (dY ts p).kind ⟨(dY ts p).text.toArray⟩ x (dY ts p).num (dY ts p).place w
theorem Ia (ts:List Tk) (rb:Nat) (a:Option Addr) (c:Nat) (p0 o0 n:Nat) (sg:List (List UInt8×Nat)) (dn:List TN) (sv dv:Value) (q:List (Option Addr×Nat)) (w:World) (h:RG ts rb a c p0 o0 n sg dn sv dv q w) :
 Calls Tryz.prog 276 #[.pointer (some ⟨rb,0,none⟩)] w fun e w'=>e=.returned (.tuple #[])/\bQ rb w w' /\
  ∃ p o,RG ts rb a c p o n sg dn sv dv q w'/\p0<=p/\o<=o0/\eA ts false ⟨p,o,n,sg,dn⟩=eA ts false ⟨p0,o0,n,sg,dn⟩/\(0<o->isS ts [41] p=false):=by
 have H:=aA h;have K0:=aA (bQ.refl rb w);have C:=aA (fun (p o:Nat) (w:World) (h:RG ts rb a c p o n sg dn sv dv q w)=>qT ts rb a c p o n sv dv w h.g);clear h;have hn:ts.length<=100000:=H.out.g.hl;go_enter Tryz.func276,Tryz.ntmps276
 go_wp2_with fail
 go_loopg [] ts.length (fun g wr=>∃ (p o:Nat),Hid (RG ts rb a c p o n sg dn sv dv q wr)/\p0<=p/\o<=o0/\ts.length-p<=g/\Hid (eA ts false ⟨p,o,n,sg,dn⟩=eA ts false ⟨p0,o0,n,sg,dn⟩)/\Hid (bQ rb w wr))
 case atStart=>exact ⟨p0,o0,H,Nat.le_refl _,Nat.le_refl _,Nat.sub_le _ _,aA rfl,K0⟩
 case round =>
  obtain ⟨p,o,hR,hp,hoo,hg,hE,hK⟩:=hrel;obtain ⟨⟨c0,c1,c2,c3,c4,c5⟩,f1,f2,f3,f4,f5⟩:=hR.out.g.r.cells;have CN:=aA (C.out p o wr hR.out);by_cases ho:0<o
  · have a1:(0:Int)<(o:Int):=by omega
    have hob:o<=100001:=hR.out.g.ho;have hpl:p<=ts.length:=hR.out.g.hp;clear C;obtain ⟨o,rfl⟩:∃ o',o=o'+1:=⟨o-1,by omega⟩;have D:=aA (fun w=>EJ ts ⟨#[41]⟩ p w);have E:isS ts (⟨#[41]⟩:ByteArray).data.toList p=isS ts [41] p:=rfl;rw [E] at D;clear E;cases hb:isS ts [41] p with
    | false =>
      rw [hb] at D;have HB:=aA hb;clear hb;go_wp2_with fail
      refine CN.out.mono ?_;rintro e w1 ⟨rfl,b1⟩;have B1:=aA b1;clear b1;go_wp2_with fail
      refine (D.out w1).mono ?_;rintro e w2 ⟨rfl,b2⟩;have B2:=aA b2;clear b2;go_wp2_with fail
      go_end0
      exact ⟨rfl,(hK.out.trans (bQ.below B1.out)).trans (bQ.below B2.out),p,o+1,(hR.out.below B1.out).below B2.out,hp,hoo,hE.out,fun _=>HB.out⟩
    | true =>
      rw [hb] at D;have HB:=aA hb;clear hb;go_wp2_with fail
      refine CN.out.mono ?_;rintro e w1 ⟨rfl,b1⟩;have B1:=aA b1;clear b1;go_wp2_with fail
      refine (D.out w1).mono ?_;rintro e w2 ⟨rfl,b2⟩;have R2:=(hR.out.below B1.out).below b2;have K2:=aA ((hK.out.trans (bQ.below B1.out)).trans (bQ.below b2));have hlt:=nI HB.out;clear c0 c1 c2 c3 c4 c5 f1 f2 f3 f4 f5 b2 B1;obtain ⟨⟨c0,c1,c2,c3,c4,c5⟩,f1,f2,f3,f4,f5⟩:=R2.g.r.cells;have H1:=R2.set (p':=p) (o':=o) (n':=n) (y:=2) (v:=.int .i64 o) hpl (by omega) R2.g.hn (Nat.le_refl _) rfl;have H2:=aA (H1.set (p':=p+1) (o':=o) (n':=n) (y:=1) (v:=.int .i64 ((p:Int)+1)) (by omega) (by omega) R2.g.hn (Nat.le_refl _) rfl);have K3:=aA ((K2.out.set 2 (.int .i64 o)).set 1 (.int .i64 ((p:Int)+1)))
      have E2:=aA (show eA ts false ⟨p+1,o,n,sg,dn⟩=eA ts false ⟨p0,o0,n,sg,dn⟩ by
       refine Eq.trans ?_ hE.out;have e:=kM (L:=ts) (s:=⟨p,o+1,n,sg,dn⟩) hpl;simp only at e;rw [if_pos ⟨by omega,HB.out⟩] at e;exact e.symm)
      clear R2 H1;go_wp2_with fail
      go_roundg (ts.length-(p+1))
      case measure=>omega
      case rel=>exact ⟨p+1,o,H2,by omega,by omega,by omega,E2,K3⟩
  · have a1:¬ (0:Int)<(o:Int):=by omega
    clear C;go_wp2_with fail
    go_end0
    exact ⟨rfl,hK.out,p,o,hR.out,hp,hoo,hE.out,fun h=>absurd h ho⟩
end
section
open Go.RowKit
section
variable {P : Program}
theorem mG {ops:Array Oper} {o:Oper} {a:Act} {w:World} {K:Act->World->Prop} {Q:Exit->Act->World->Prop} {E:Prop}
 (hg:o.guard=none) (s x:Operand) (t:TypeId) (hop:o.op=Op.call { callee:=Callee.builtin Builtin.append,args:=#[s,x],argTypes:=#[t,t] })
 {base size:Nat} {e:TypeId} {i:TypeInfo} {z:Value} {bytes:Nat} (ht:P.underlying t=some (.slice e)) (hi:P.info? e=some i) (hz:i.zero=some z) (hsize:i.size=size) (hby:i.bytes=bytes) (hzs:z.cells.size=size) (hpos:0<size)
 (v:Value) (n m:Nat) (xs news:List Value) (b:Addr) (c:Nat) (hs:a.eval s=v) (hx:a.eval x=.slice (some b) m c) (hown:w.ownsRow base e size v n xs) (hl:news.length=m*size) (hn:∀ j u,news[j]? = some u->w.cell? (b.add j)=some u) (h1:∀ u∈news,u.oneCell'=true)
 (h63:n+m<=maxLen) (hbytes:(n+m)*bytes<=140737488355328) (hbase:base<=w.heap.size)
 (hK:∀ v' w',w'.ownsRow base e size v' (n+m) (xs++news)->w.grownBy w' v.ownBlock->(∀ q,v'.ownBlock=some q->v.ownBlock=some q\/w.heap.size<=q)->K (a.put o.dst v') w') :
 if Region.wanted o (yielded ops a.tmps)=true then Oper.wp P o a w K Q else E:=by
 have hw:Region.wanted o (yielded ops a.tmps)=true:=by simp [Region.wanted,hg]
 rw [if_pos hw];obtain ⟨v',w',hr,ho,hgr,hq⟩:=nD (P:=P) (ty:=o.type) (c:=c) ht hi hz hsize hby hzs hpos hown hl hn h1 h63 hbytes hbase;unfold Oper.wp;simp [execOp,hop,resolve,invoke,builtin,hs,hx,hr,Result.andThen];exact hK _ _ ho hgr hq
end
theorem Dx {w:World} {o:Obj} {b:Nat} (h:(w.alloc o).drew.heap.size<=b):w.heap.size<=b:=by
 have h1:(w.alloc o).heap.size<=b:=h;rw [World.size_alloc] at h1;omega
theorem e7 {w w':World} {B:Nat} {e:TypeId} {size:Nat} {v:Value} {n:Nat} {xs:List Value} {row:Option Nat} (h:w.ownsRow B e size v n xs) (hk:aC (fun b=>row=some b) w w') (hne:∀ b,v.ownBlock=some b->row=some b->False):w'.ownsRow B e size v n xs:=by
 refine World.ownsRow.kept (row:=row) h (aV hk (fun k hk=>hk)) ?_;cases e:v.ownBlock with
 | none=>exact .inl rfl
 | some b=>exact .inr (fun h=>hne b e h.symm)
theorem rY {w:World} {B:Nat} {e:TypeId} {size:Nat} {a:Option Addr} {n c m:Nat} {xs:List Value} (h:w.ownsRow B e size (.slice a n c) n xs) (hm:m<=n) (ha:a ≠ none):w.ownsRow B e size (.slice a m c) m (xs.take (m*size)):=by
 have hl:=h.1;have hms:m*size<=n*size:=Nat.mul_le_mul_right _ hm;refine ⟨by rw [List.length_take];omega,?_⟩;rcases h.2 with ⟨h1,_⟩ | ⟨g,cap,cur,h1,hb,hg,hnc,hcm,hcs,ht⟩
 · simp only [Value.slice.injEq] at h1
   exact absurd h1.1 ha
 · simp only [Value.slice.injEq,true_and] at h1
   obtain ⟨rfl,rfl⟩:=h1;refine .inr ⟨g,c,cur,rfl,hb,hg,by omega,hcm,hcs,?_⟩;rw [<- ht,List.take_take,Nat.min_eq_left hms]
section
variable {x : Nat} {ts : List Tk} {rb : Nat} {a : Option Addr} {c p o n : Nat} {sg : List (List UInt8 × Nat)} {dn : List TN} {sv dv : Value} {q : List (Option Addr × Nat)} {w w' : World}
theorem RGx.count (h:RGx x ts rb a c p o n sg dn sv dv q w) {p' n':Nat} (hg:PG ts rb a c p' o n' sv dv w') (hk:aC (· = rb) w w') (hn:n<=n'):RGx x ts rb a c p' o n' sg dn sv dv q w':=by
 have h1:=h.hs;have h2:=h.hd;have hk':aC (fun b=>some rb=some b) w w':=hk.mono (fun i hi _=>by rw [hi])
 exact ⟨hg,e7 h.so hk' (fun b hb he=>by have:=(h.so.lt b hb).1;have:=Option.some.inj he;omega),e7 h.dw hk' (fun b hb he=>by have:=(h.dw.lt b hb).1;have:=Option.some.inj he;omega),
  h.dk.keptS hk (fun k hk hg=>by have:=hg.1;omega),h.ap,Nat.lt_of_lt_of_le h.hx hk.size,by omega,by omega⟩
theorem RGx.put_dn (h:RGx x ts rb a c p o n sg dn sv dv q w) {w3:World} {dv':Value} {dn':List TN} {q':List (Option Addr×Nat)} (hk:aC (fun b=>dv.ownBlock=some b) w w3) (hrow:w3.ownsRow (rb+1) 67 4 dv' dn'.length (dnL dn' q'))
 (hnew:∀ b,dv'.ownBlock=some b->dv.ownBlock=some b\/w.heap.size<=b) (hdk:DnK (Gk x rb sv dv) w dn' q') (hd:dn'.length<=n):RGx x ts rb a c p o n sg dn' sv dv' q' (w3.setCell ⟨rb,5,none⟩ dv'):=by
 have hlt:=h.lt;have g3:PG ts rb a c p o n sv dv w3:=h.g.kept hk (fun k hk=>(h.dvNe hk).1)
 have hdk2:DnK (fun b=>Gk x rb sv dv b/\Gk x rb sv dv' b) w dn' q':=hdk.imp (fun b hb hg=>⟨hg,hg.1,hg.2.1,hg.2.2.1,fun e=>by
  rcases hnew b e with h1 | h1
  · exact hg.2.2.2 h1
  · omega⟩)
 refine ⟨g3.set h.g.hp h.g.ho h.g.hn rfl,kU (e7 h.so hk (fun b hb he=>h.ap b hb he)) (by omega) _ _,kU hrow (by omega) _ _,?_,?_,by rw [World.size_setCell];exact Nat.lt_of_lt_of_le h.hx hk.size,h.hs,hd⟩
 · exact ((hdk2.keptS hk (fun k hk hg=>hg.1.2.2.2 hk)).keptS ((aC.refl (· = rb) w3).setCell (p:=⟨rb,5,none⟩) (.inl rfl) dv') (fun k hk hg=>by have:=hg.1.1;omega)).imp (fun b _ hg=>hg.2)
 · intro y hx hx2
   rcases hnew y hx2 with h1 | h1
   · exact h.ap y hx h1
   · have:=(h.svNe hx).2;omega
theorem RGx.put_sg (h:RGx x ts rb a c p o n sg dn sv dv q w) {w3:World} {sv':Value} {sg':List (List UInt8×Nat)} (hk:aC (fun b=>sv.ownBlock=some b) w w3) (hrow:w3.ownsRow (rb+1) 347 2 sv' sg'.length (xF sg'))
 (hnew:∀ b,sv'.ownBlock=some b->sv.ownBlock=some b\/w.heap.size<=b) (hs:sg'.length<=n):RGx x ts rb a c p o n sg' dn sv' dv q (w3.setCell ⟨rb,4,none⟩ sv'):=by
 have hlt:=h.lt;have g3:PG ts rb a c p o n sv dv w3:=h.g.kept hk (fun k hk=>(h.svNe hk).1)
 have hdk2:DnK (fun b=>Gk x rb sv dv b/\Gk x rb sv' dv b) w dn q:=h.dk.imp (fun b hb hg=>⟨hg,hg.1,hg.2.1,fun e=>by
  rcases hnew b e with h1 | h1
  · exact hg.2.2.1 h1
  · omega,hg.2.2.2⟩)
 refine ⟨g3.set h.g.hp h.g.ho h.g.hn rfl,kU hrow (by omega) _ _,kU (e7 h.dw hk (fun b hb he=>h.ap b he hb)) (by omega) _ _,?_,?_,by rw [World.size_setCell];exact Nat.lt_of_lt_of_le h.hx hk.size,hs,h.hd⟩
 · exact ((hdk2.keptS hk (fun k hk hg=>hg.1.2.2.1 hk)).keptS ((aC.refl (· = rb) w3).setCell (p:=⟨rb,4,none⟩) (.inl rfl) sv') (fun k hk hg=>by have:=hg.1.1;omega)).imp (fun b _ hg=>hg.2)
 · intro y hx hx2
   rcases hnew y hx with h1 | h1
   · exact h.ap y h1 hx2
   · have:=(h.dvNe hx2).2;omega
end
theorem Mz:(Tryz.prog.info? 347).map (fun i=>(i.zero,i.size,i.bytes))=some (some (.agg #[.string ⟨#[]⟩,.int .i64 0]),2,24):=by kernel_rfl
theorem Dy:(Tryz.prog.info? 67).map (fun i=>(i.zero,i.size,i.bytes))=some (some (.agg #[.string ⟨#[]⟩,.string ⟨#[]⟩,.int .i64 0,.slice none 0 0]),4,64):=by kernel_rfl
theorem No (w:World) (x:List UInt8×Nat) (X:ByteArray) (hX:⟨x.1.toArray⟩=X) (E:TypeId):∀ j u,(wsL x)[j]? = some u->(w.alloc (.cells #[.string X,.int .i64 x.2] E)).cell? ((⟨w.heap.size,0,none⟩:Addr).add j)=some u:=fun j u hj=>by
 unfold wsL at hj;rw [hX] at hj;rw [Addr.add_lit,Nat.zero_add,cell_of_row _ _ _ _ _ (0,0) (heap_alloc_new w _)];simpa using hj
theorem AJ (ts:List Tk) (rb:Nat) (a:Option Addr) (c p o n:Nat) (sg:List (List UInt8×Nat)) (dn:List TN) (sv dv:Value) (q:List (Option Addr×Nat)) (x:List UInt8×Nat) (w:World) (h:RG ts rb a c p o n sg dn sv dv q w) (hlt:p<ts.length) :
 Calls Tryz.prog 281 #[.pointer (some ⟨rb,0,none⟩),.agg #[.string ⟨x.1.toArray⟩,.int .i64 x.2]] w fun e w'=>bQ rb w w' /\
  (n=32->e=.returned (.int .i64 4)/\RG ts rb a c p o n sg dn sv dv q w')/\(¬ n=32->e=.returned (.int .i64 0)/\∃ sv',RG ts rb a c (p+1) o (n+1) (x::sg) dn sv' dv q w'):=by
 obtain ⟨i0,hi,hz0,hz1,hz2⟩:=info_parts Mz;have und:Tryz.prog.underlying 331=some (.slice 347):=Tryz.underlying331;obtain ⟨X,hX⟩:∃ X:ByteArray,⟨x.1.toArray⟩=X:=⟨_,rfl⟩;rw [hX];have hrb:=h.lt;have BA:=bA0 w (.cells #[.string X,.int .i64 x.2] 347);have NB:=heap_alloc_new w (.cells #[.string X,.int .i64 x.2] 347);have H1:=h.below BA;have K1:=bQ.below (rb:=rb) BA;generalize hW:w.alloc (.cells #[.string X,.int .i64 x.2] 347)=W at BA NB H1 K1;have HH1:=aA H1;have HNB:=aA NB;have HK1:=aA K1;have HW:=aA hW;have C:=aA (zE ts rb a c p o n sv dv W H1.g hlt);clear h H1 NB BA K1 hW;by_cases h32:n=32
 · have G32:=aA h32
   clear h32;go_enter Tryz.func281,Tryz.ntmps281
   go_upto_region 1 with fail
   rw [HW.out];go_wp2_with fail
   refine C.out.mono ?_;rintro e w2 ⟨hA, -⟩;obtain ⟨rfl,rfl⟩:=hA G32.out;go_wp2_with fail
   go_ret;exact ⟨HK1.out,fun _=>⟨rfl,HH1.out⟩,fun hn=>absurd G32.out hn⟩
 · have G32:=aA h32
   clear h32;go_enter Tryz.func281,Tryz.ntmps281
   go_upto_region 1 with fail
   rw [HW.out];go_wp2_with fail
   refine C.out.mono ?_;rintro e w2 ⟨-,hB⟩;obtain ⟨rfl,hPG,hk⟩:=hB G32.out;have R2:=HH1.out.count hPG hk (Nat.le_succ n);have N2:=aA (hk.heap HNB.out (by omega));obtain ⟨⟨c0,c1,c2,c3,c4,c5⟩,f1,f2,f3,f4,f5⟩:=R2.g.r.cells;have b0:w2.cell? ⟨w.heap.size,0,none⟩=some (.string X):=by rw [cell_of_row _ _ _ _ _ (0,0) N2.out];rfl
   have b1:w2.cell? ⟨w.heap.size,1,none⟩=some (.int .i64 x.2):=by rw [cell_of_row _ _ _ _ _ (0,0) N2.out];rfl
   have HR2:=aA R2;have HK2:=aA (HK1.out.trans (bQ.of hk));have hlen:=HH1.out.hs;have hn32:=R2.g.hn;have NEW:=aA (fun w=>No w x X hX 347);have hnil:=aA hX;have hsz:=R2.lt;have OD:=aA (show w2.drew.ownsRow (rb+1) 347 2 sv sg.length (xF sg) from R2.so);clear hPG hk R2 C hX hB;go_wp2_with fail
   go_region_law (first
    | (refine mG rfl (.tmp 15) (.tmp 17) 331 rfl (base := rb + 1) und hi hz0 hz1 hz2 rfl (by decide) sv sg.length 1 (xF sg) (wsL x) ⟨w2.heap.size, 0, none⟩ 1 (by first | (simp [Act.eval]; done) | fail) (by first | (simp [Act.eval]; done) | fail) (OD.out.alloc _) rfl (NEW.out w2.drew) (Ka x) (by unfold maxLen; omega) (by omega) (by simp; omega) ?_
       intro v3 w3 ho hg hq;obtain ⟨va3,vc3,rfl⟩:=kW ho;have K3:=((aC.refl (fun b=>sv.ownBlock=some b) w2).drew.alloc (.cells #[.string X,.int .i64 x.2] 347)).grown hg (fun k hk=>.inl hk);have P3:=aA (HR2.out.put_sg (sg':=x::sg) K3 ho (fun b hb=>(hq b hb).imp id Dx) (by rw [List.length_cons];omega));have KK:=aA ((HK2.out.trans (K3.mono (fun k hk _=>by have:=(HR2.out.svNe hk).1;omega))).set 4 (.slice va3 (sg.length+1) vc3));have G3:=(HR2.out.g.kept K3 (fun k hk=>(HR2.out.svNe hk).1)).r.cells;clear ho hg hq K3 c0 c1 c2 c3 c4 c5 f1 f2 f3 f4 f5 b0 b1;obtain ⟨⟨c0,c1,c2,c3,c4,c5⟩,f1,f2,f3,f4,f5⟩:=G3)
    | fail)
   all_goals
    go_wp2_with fail
    go_ret;exact ⟨KK.out,fun hn=>absurd hn G32.out,fun _=>⟨rfl,_,P3.out⟩⟩
end
end
section
section
open Go.RowKit
theorem uY {w:World} {B m size:Nat} {e:TypeId} {v:Value} {xs:List Value} (h:w.ownsRow B e size v m xs) (hm:m ≠ 0):∃ g c,v=.slice (some ⟨g,0,none⟩) m c:=by
 rcases h.2 with ⟨rfl,h0⟩ | ⟨g,cap,_,rfl,_⟩
 · exact absurd h0 hm
 · exact ⟨_,_,rfl⟩
theorem FM {w:World} {B:Nat} {e:TypeId} {g n cap:Nat} {xs:List Value} {z0 z1 z2 z3:Value} (h:w.ownsRow B e 4 (.slice (some ⟨g,0,none⟩) (n+1) cap) (n+1) (xs++[z0,z1,z2,z3])) (hl:xs.length=n*4) (v0 v1 v2 v3:Value) :
 ((((w.setCell ⟨g,n*4,none⟩ v0).setCell ⟨g,n*4+1,none⟩ v1).setCell ⟨g,n*4+2,none⟩ v2).setCell ⟨g,n*4+3,none⟩ v3).ownsRow B e 4 (.slice (some ⟨g,0,none⟩) (n+1) cap) (n+1) (xs++[v0,v1,v2,v3]):=by
 refine ⟨by rw [List.length_append,hl];simp;omega,?_⟩;rcases h.2 with ⟨h1,_⟩ | ⟨g',cap',cur,h1,hb,hg,hnc,hcm,hcs,ht⟩
 · cases h1
 · simp only [Value.slice.injEq,Option.some.injEq,Addr.mk.injEq,and_true,true_and] at h1
   obtain ⟨rfl,rfl⟩:=h1;obtain ⟨cur',hc,hcl⟩:=aN g e [v0,v1,v2,v3] (n*4) w cur hg (by simp;omega);have hw:w.setCells g (n*4) [v0,v1,v2,v3]=(((w.setCell ⟨g,n*4,none⟩ v0).setCell ⟨g,n*4+1,none⟩ v1).setCell ⟨g,n*4+2,none⟩ v2).setCell ⟨g,n*4+3,none⟩ v3:=rfl;rw [hw] at hc
   have hcs':cur'.size=cur.size:=by
    have e1:cur'.toList.length=cur'.size:=Array.length_toList;have e2:cur.toList.length=cur.size:=Array.length_toList;rw [hcl] at e1;simp only [List.length_append,List.length_take,List.length_drop,List.length_cons,List.length_nil] at e1;omega
   refine .inr ⟨g,cap,cur',rfl,hb,hc,hnc,hcm,by rw [hcs',hcs],?_⟩
   have e1:cur.toList.take (n*4)=xs:=by
    have h2:cur.toList.take (n*4)=(cur.toList.take ((n+1)*4)).take (n*4):=by rw [List.take_take,Nat.min_eq_left (by omega)]
    rw [h2,ht,List.take_append_of_le_length (by omega),List.take_of_length_le (by omega)]
   rw [hcl,e1,List.take_append_of_le_length (by simp [hl];omega),List.take_of_length_le (by simp [hl];omega)]
theorem BG {w:World} {B:Nat} {e:TypeId} {g n cap:Nat} {xs:List Value} {z0 z1 z2 z3:Value} (h:w.ownsRow B e 4 (.slice (some ⟨g,0,none⟩) (n+1) cap) (n+1) (xs++[z0,z1,z2,z3])) (hl:xs.length=n*4) :
 (w.cell? ⟨g,n*4,none⟩=some z0/\w.cell? ⟨g,n*4+1,none⟩=some z1/\w.cell? ⟨g,n*4+2,none⟩=some z2/\w.cell? ⟨g,n*4+3,none⟩=some z3) /\
 (w.frozen? ⟨g,n*4,none⟩=false/\w.frozen? ⟨g,n*4+1,none⟩=false/\w.frozen? ⟨g,n*4+2,none⟩=false/\w.frozen? ⟨g,n*4+3,none⟩=false):=by
 have at_:∀ i,(xs++[z0,z1,z2,z3])[n*4+i]? = [z0,z1,z2,z3][i]? := fun i=>by rw [<- hl,List.getElem?_append_right (Nat.le_add_right _ _),Nat.add_sub_cancel_left]
 have c:∀ i u,[z0,z1,z2,z3][i]? = some u->w.cell? ⟨g,n*4+i,none⟩=some u:=fun i u hu=>by
  obtain ⟨g',h1,h2⟩:=oC h ((at_ i).trans hu);simp only [Addr.mk.injEq,and_true] at h1;subst h1;exact h2
 refine ⟨⟨c 0 _ rfl,c 1 _ rfl,c 2 _ rfl,c 3 _ rfl⟩,?_⟩;rcases h.2 with ⟨h1,_⟩ | ⟨g',cap',cur,h1,hb,hg,hnc,hcm,hcs,ht⟩
 · cases h1
 · simp only [Value.slice.injEq,Option.some.injEq,Addr.mk.injEq,and_true,true_and] at h1
   obtain ⟨rfl,rfl⟩:=h1;refine ⟨?_,?_,?_,?_⟩ <;> simp [World.frozen?,hg]
theorem i6 (w:World) (a b:Addr) (h:a.block ≠ b.block) (u v:Value):(w.setCell a u).setCell b v=(w.setCell b v).setCell a u:=by
 unfold World.setCell;simp only [World.mk.injEq,and_true];apply Array.ext_getElem?
 intro i;simp only [Array.getElem?_modify];by_cases h1:a.block=i
 · have h2:¬ b.block=i:=fun e=>h (h1.trans e.symm)
   simp [h1,h2]
 · simp [h1]
theorem Fq (w:World) (rb g o x:Nat) (h:rb ≠ g) (u v0 v1 v2 v3:Value):(((((w.setCell ⟨rb,x,none⟩ u).setCell ⟨g,o,none⟩ v0).setCell ⟨g,o+1,none⟩ v1).setCell ⟨g,o+2,none⟩ v2).setCell ⟨g,o+3,none⟩ v3) =
 (((((w.setCell ⟨g,o,none⟩ v0).setCell ⟨g,o+1,none⟩ v1).setCell ⟨g,o+2,none⟩ v2).setCell ⟨g,o+3,none⟩ v3).setCell ⟨rb,x,none⟩ u):=by
 rw [i6 w ⟨rb,x,none⟩ ⟨g,o,none⟩ h,i6 _ ⟨rb,x,none⟩ ⟨g,o+1,none⟩ h,i6 _ ⟨rb,x,none⟩ ⟨g,o+2,none⟩ h,i6 _ ⟨rb,x,none⟩ ⟨g,o+3,none⟩ h]
theorem MT (w:World) (E:TypeId):∀ j u,(ndL aI (none,0))[j]? = some u->(w.alloc (.cells #[.string ⟨#[]⟩,.string ⟨#[]⟩,.int .i64 0,.slice none 0 0] E)).cell? ((⟨w.heap.size,0,none⟩:Addr).add j)=some u:=fun j u hj=>by
 have e:ndL aI (none,0)=[.string ⟨#[]⟩,.string ⟨#[]⟩,.int .i64 0,.slice none 0 0]:=rfl;rw [e] at hj;rw [Addr.add_lit,Nat.zero_add,cell_of_row _ _ _ _ _ (0,0) (heap_alloc_new w _)];simpa using hj
theorem B8 (ts:List Tk) (rb:Nat) (a:Option Addr) (c p o n:Nat) (sg:List (List UInt8×Nat)) (dn:List TN) (sv dv:Value) (q:List (Option Addr×Nat)) (t:TN) (ht:t.ks=.nil) (w:World) (h:RG ts rb a c p o n sg dn sv dv q w) (hlt:p<ts.length) :
 Calls Tryz.prog 291 #[.pointer (some ⟨rb,0,none⟩),.agg #[.string t.op,.string t.nm,.int .i64 t.n,.slice none 0 0]] w fun e w'=>bQ rb w w' /\
  (n=32->e=.returned (.int .i64 4)/\RG ts rb a c p o n sg dn sv dv q w')/\(¬ n=32->e=.returned (.int .i64 0)/\∃ dv' q',RG ts rb a c (p+1) o (n+1) sg (t::dn) sv dv' q' w'):=by
 obtain ⟨i0,hi,hz0,hz1,hz2⟩:=info_parts Dy;have und:Tryz.prog.underlying 65=some (.slice 67):=Tryz.underlying65;have hrb:=h.lt;have BA:=bA0 w (.cells #[.string t.op,.string t.nm,.int .i64 t.n,.slice none 0 0] 67);have NB:=heap_alloc_new w (.cells #[.string t.op,.string t.nm,.int .i64 t.n,.slice none 0 0] 67);have H1:=h.below BA;have K1:=bQ.below (rb:=rb) BA;generalize hW:w.alloc (.cells #[.string t.op,.string t.nm,.int .i64 t.n,.slice none 0 0] 67)=W at BA NB H1 K1;have HH1:=aA H1;have HNB:=aA NB;have HK1:=aA K1;have HW:=aA hW;have HT:=aA ht;have C:=aA (zE ts rb a c p o n sv dv W H1.g hlt);clear h H1 NB BA K1 hW ht;by_cases h32:n=32
 · have G32:=aA h32
   clear h32;go_enter Tryz.func291,Tryz.ntmps291
   go_upto_region 1 with fail
   rw [HW.out];go_wp2_with fail
   refine C.out.mono ?_;rintro e w2 ⟨hA, -⟩;obtain ⟨rfl,rfl⟩:=hA G32.out;go_wp2_with fail
   go_ret;exact ⟨HK1.out,fun _=>⟨rfl,HH1.out⟩,fun hn=>absurd G32.out hn⟩
 · have G32:=aA h32
   clear h32;go_enter Tryz.func291,Tryz.ntmps291
   go_upto_region 1 with fail
   rw [HW.out];go_wp2_with fail
   refine C.out.mono ?_;rintro e w2 ⟨-,hB⟩;obtain ⟨rfl,hPG,hk⟩:=hB G32.out;have R2:=HH1.out.count hPG hk (Nat.le_succ n);have N2:=aA (hk.heap HNB.out (by omega));obtain ⟨⟨c0,c1,c2,c3,c4,c5⟩,f1,f2,f3,f4,f5⟩:=R2.g.r.cells;have hb4:=(aL N2.out).1;have HR2:=aA R2;have HK2:=aA (HK1.out.trans (bQ.of hk));have hlen:=HH1.out.hd;have hlq:=aA (t8 R2.dk);have hn32:=R2.g.hn;have hsz:=R2.lt;have hw2:w.heap.size<w2.heap.size:=(Array.getElem?_eq_some_iff.1 N2.out).1;have OD:=aA (show w2.drew.ownsRow (rb+1) 67 4 dv dn.length (dnL dn q) from R2.dw);obtain ⟨va,vc,hv⟩:=kW R2.dw;subst hv;have a1:(0:Int)<=(dn.length:Int):=by omega
   have a2:(dn.length:Int)<(dn.length:Int)+1:=by omega
   have a3:((dn.length:Int)).toNat=dn.length:=by omega
   clear hPG hk R2 C hB;go_upto_region 4 with fail
   obtain ⟨b0,b1,b2,b3⟩:=hb4
   go_region_law (first
    | (refine mG rfl (.tmp 14) (.tmp 17) 65 rfl (base := rb + 1) und hi hz0 hz1 hz2 rfl (by decide) (.slice va dn.length vc) dn.length 1 (dnL dn q) (ndL aI (none, 0)) ⟨w2.heap.size, 0, none⟩ 1 (by first | (simp [Act.eval]; done) | (simp [Act.eval, Act.put]; done) | fail) (by first | (simp [Act.eval]; done) | (simp [Act.eval, Act.put]; done) | fail) (OD.out.alloc _) rfl (MT w2.drew 67) (oE aI _) (by unfold maxLen; omega) (by omega) (by simp; omega) ?_
       intro v3 w3 ho hg hq;obtain ⟨g3,vc3,rfl⟩:=uY ho (Nat.succ_ne_zero _);have Z3:=BG ho (rD hlq.out);have K3:=((aC.refl (fun b=>(Value.slice va dn.length vc).ownBlock=some b) w2).drew.alloc (.cells #[.string ⟨#[]⟩,.string ⟨#[]⟩,.int .i64 0,.slice none 0 0] 67)).grown hg (fun k hk=>.inl hk);have O4:=FM ho (rD hlq.out) (.string t.op) (.string t.nm) (.int .i64 t.n) (.slice none 0 0);have hg3:=(hq g3 rfl).imp id Dx;have K4:=(((K3.setCell (p:=⟨g3,dn.length*4,none⟩) hg3 (.string t.op)).setCell (p:=⟨g3,dn.length*4+1,none⟩) hg3 (.string t.nm)).setCell (p:=⟨g3,dn.length*4+2,none⟩) hg3 (.int .i64 t.n)).setCell (p:=⟨g3,dn.length*4+3,none⟩) hg3 (.slice none 0 0);have P3:=aA (HR2.out.put_dn (dn':=t::dn) (q':=(none,0)::q) K4 (by rw [dnL,ndL,HT.out];exact O4) (fun b hb=>(hq b hb).imp id Dx) ⟨.inl HT.out,HR2.out.dk⟩ (by rw [List.length_cons];omega));have KK:=aA ((HK2.out.trans (K4.mono (fun k hk _=>by have:=(HR2.out.dvNe hk).1;omega))).set 5 (.slice (some ⟨g3,0,none⟩) (dn.length+1) vc3));have hgb:=(ho.lt g3 rfl).1;have CM:=aA (Fq w3 rb g3 (dn.length*4) 5 (by omega) (.slice (some ⟨g3,0,none⟩) (dn.length+1) vc3) (.string t.op) (.string t.nm) (.int .i64 t.n) (.slice none 0 0));have G3:=(HR2.out.g.kept K3 (fun k hk=>(HR2.out.dvNe hk).1)).r.cells;clear ho hg hq K3 K4 O4 c0 c1 c2 c3 c4 c5 f1 f2 f3 f4 f5 b0 b1 b2 b3;obtain ⟨⟨c0,c1,c2,c3,c4,c5⟩,f1,f2,f3,f4,f5⟩:=G3;obtain ⟨⟨z0,z1,z2,z3⟩,y0,y1,y2,y3⟩:=Z3)
    | fail)
   all_goals
    first | rw [CM.out] | skip
    clear CM;generalize (((((w3.setCell ⟨g3,dn.length*4,none⟩ (.string t.op)).setCell ⟨g3,dn.length*4+1,none⟩ (.string t.nm)).setCell ⟨g3,dn.length*4+2,none⟩ (.int .i64 t.n)).setCell ⟨g3,dn.length*4+3,none⟩ (.slice none 0 0)).setCell ⟨rb,5,none⟩ (.slice (some ⟨g3,0,none⟩) (dn.length+1) vc3))=V at P3 KK |-
    go_wp2_with fail
    go_ret;exact ⟨KK.out,fun hn=>absurd hn G32.out,fun _=>⟨rfl,_,_,P3.out⟩⟩
end
section
open Go.RowKit
theorem Iw (w:World) (E:TypeId) (size:Nat):(w.alloc (.cells #[] E)).ownsRow w.heap.size E size (.slice (some ⟨w.heap.size,0,none⟩) 0 0) 0 [] :=
 World.ownsRow_made w #[] 0 (Nat.le_refl _) (Nat.zero_le _) (by simp)
theorem vG (b:Addr) (n c:Nat) (xs:List Value) (hl:xs.length=n*4) (hn:n<=100) (w:World) (hc:∀ j u,xs[j]? = some u->w.cell? (b.add j)=some u) (h1:∀ u∈xs,u.oneCell'=true) :
 Calls Tryz.prog 292 #[.slice (some b) n c] w fun e w'=>∃ v',e=.returned v'/\w'.ownsRow w.heap.size 67 4 v' n xs/\Below w.heap.size w w':=by
 obtain ⟨i0,hi,hz0,hz1,hz2⟩:=info_parts Dy;have und:Tryz.prog.underlying 65=some (.slice 67):=Tryz.underlying65;have OA:=aA (Iw w 67 4);have BA:=aA (bA0 w (.cells #[] 67));have HC:=aA (p:=∀ j u,xs[j]? = some u->(w.alloc (.cells #[] 67)).cell? (b.add j)=some u) (fun j u hj=>Lib.cell?_alloc_some _ (hc j u hj));have HL:=aA hl;have H1:=aA h1;clear hc hl h1;go_enter Tryz.func292,Tryz.ntmps292
 go_wp2
 rw [Lib.run_eql_slice_nil w _ _ _ _ _ _ _ und];simp only [Result.andThen];rw [Oper.upon_value];go_wp2_with (at_builtin;refine bC rfl _ _ 65 rfl und hi hz0 hz1 hz2 rfl (by decide) _ 0 n c b [] xs rfl rfl OA.out HL.out HC.out H1.out (by unfold maxLen;omega) (by omega) (by simp) ?_)
 intro v' w2 ho hg _;have O2:=aA ho;have B2:=aA (BA.out.grown hg (by simp) (fun k hk=>by simp [Value.ownBlock] at hk;omega));clear ho hg;go_wp2_with fail
 go_ret;exact ⟨v',rfl,by simpa using O2.out,B2.out⟩
def i8:List (List UInt8×Nat)->Nat
 | []=>0
 | x::r=>i8 r+(if x.1=iQ then 0 else 1)
def nV (sg:List (List UInt8×Nat)):Prop:=∀ x∈sg,x.1=iQ\/tC x.1
theorem He:dK ⟨iQ.toArray⟩=1:=by decide
theorem wV {o:List UInt8} (h:tC o):dK ⟨o.toArray⟩=2/\o ≠ iQ:=by
 rcases h with rfl | rfl | rfl | rfl | rfl <;> decide
theorem Cb {h:Nat}:∀ {sg:List (List UInt8×Nat)} {dn:List TN},nV sg->dn.length=i8 sg+1->nV (cG h sg dn).1/\(cG h sg dn).2.length=i8 (cG h sg dn).1+1
 | [],dn,_,hd=>⟨fun _ hx=>(by cases hx),hd⟩
 | (o, k) :: sg, dn, hs, hd => by
   rw [cG];by_cases hk:h<=k
   · rw [if_pos hk]
     refine Cb (fun x hx=>hs x (List.mem_cons_of_mem _ hx)) ?_;rw [i8] at hd;unfold oK;by_cases ho:o=iQ
     · rw [if_pos ho] at hd |-
       cases dn with
       | nil=>simp at hd
       | cons a r=>simpa using hd
     · rw [if_neg ho] at hd |-
       match dn,hd with
       | [],hd=>simp at hd
       | [a],hd=>simp at hd
       | b::a::r,hd=>simp at hd |-;omega
   · rw [if_neg hk];exact ⟨hs,hd⟩
theorem eR {w:World} {B m size:Nat} {e:TypeId} {v:Value} {xs:List Value} (h:w.ownsRow B e size v m xs) (hm:m ≠ 0):∃ g c,v=.slice (some ⟨g,0,none⟩) m c/\m<=c/\c<=maxLen/\∀ j u,xs[j]? = some u->w.cell? ⟨g,j,none⟩=some u:=by
 rcases h.2 with ⟨rfl,h0⟩ | ⟨g,cap,_,rfl,_,_,h1,h2,_⟩
 · exact absurd h0 hm
 · refine ⟨g,cap,rfl,h1,h2,fun j u hj=>?_⟩
   obtain ⟨g',h1,h2⟩:=oC h hj;simp only [Addr.mk.injEq,and_true] at h1;subst h1;exact h2
theorem rV {G:Nat->Prop} {w:World} {g:Nat} {t:TN} {q:Option Addr×Nat} {r:F} {off:Nat} (hG:G g) (hlt:g<w.heap.size) (hc:∀ j u,(ndL t q)[j]? = some u->w.cell? ⟨g,off+j,none⟩=some u) (hk:aQ G w q.1 t.ks) (hr:eY G w r g (off+4)):eY G w (.cons t.op t.nm t.n t.ks r) g off :=
 ⟨hG,hlt,⟨q.1,q.2,⟨hc 0 _ rfl,hc 1 _ rfl,hc 2 _ rfl,hc 3 _ rfl⟩,hk⟩,hr⟩
section
variable {x : Nat} {ts : List Tk} {rb : Nat} {a : Option Addr} {c p o n : Nat} {sg : List (List UInt8 × Nat)} {dn : List TN} {sv dv : Value} {q : List (Option Addr × Nat)} {w w' : World}
theorem RGx.pop {y:List UInt8×Nat} {g vc:Nat} (h:RGx x ts rb a c p o n (y::sg) dn (.slice (some ⟨g,0,none⟩) (sg.length+1) vc) dv q w):RGx x ts rb a c p o n sg dn (.slice (some ⟨g,0,none⟩) sg.length vc) dv q (w.setCell ⟨rb,4,none⟩ (.slice (some ⟨g,0,none⟩) sg.length vc)):=by
 have ho:=rY (m:=sg.length) h.so (by simp) (by simp);rw [xF,List.take_append_of_le_length (by rw [jG];exact Nat.le_refl _),List.take_of_length_le (by rw [jG];exact Nat.le_refl _)] at ho;exact h.put_sg (aC.refl _ w) ho (fun b hb=>.inl hb) (by have:=h.hs;simp at this;omega)
theorem RGx.take {w1 w3:World} {dn1:List TN} {q1:List (Option Addr×Nat)} {t:TN} {dv':Value} {gk ck:Nat} {obj:Obj} (h:RGx x ts rb a c p o n sg dn sv dv q w1)
 (hg:(w1.alloc obj).grownBy w3 dv.ownBlock) (hrow:w3.ownsRow (rb+1) 67 4 dv' (dn1.length+1) (dnL dn1 q1++ndL t (some ⟨gk,0,none⟩,ck)))
 (hnew:∀ b,dv'.ownBlock=some b->dv.ownBlock=some b\/w1.heap.size+1<=b) (hk1:DnK (Gk x rb sv dv) w1 dn1 q1) (hkt:aQ (Gk x rb sv dv) w1 (some ⟨gk,0,none⟩) t.ks) (hd:dn1.length+1<=n) :
 RGx x ts rb a c p o n sg (t::dn1) sv dv' ((some ⟨gk,0,none⟩,ck)::q1) (w3.setCell ⟨rb,5,none⟩ dv')/\bQ rb w1 (w3.setCell ⟨rb,5,none⟩ dv'):=by
 have K3:=((aC.refl (fun b=>dv.ownBlock=some b) w1).alloc obj).grown hg (fun k hk=>.inl hk)
 exact ⟨h.put_dn (dn':=t::dn1) K3 hrow (fun b hb=>(hnew b hb).imp id (fun hle=>by omega)) ⟨hkt,hk1⟩ (by rw [List.length_cons];omega),
  (K3.mono (T:=fun b=>rb<=b) (fun k hk _=>Nat.le_of_lt (h.dvNe hk).1)).setCell (p:=⟨rb,5,none⟩) (.inl (Nat.le_refl _)) dv'⟩
end
def Mn (x:Nat) (ts:List Tk) (rb:Nat) (a:Option Addr) (c p o n:Nat) (r:List (List UInt8×Nat)×List TN) (w0 w':World):Prop:=bQ rb w0 w'/\∃ sv dv q,RGx x ts rb a c p o n r.1 r.2 sv dv q w'
structure Fr (rb:Nat) (sv dv:Value) (w:World) (sv1 dv1:Value) (w1:World):Prop where
 b:∀ b,b<w.heap.size->b ≠ rb->sv.ownBlock ≠ some b->dv.ownBlock ≠ some b->w1.heap[b]? = w.heap[b]?
 s:∀ b,sv1.ownBlock=some b->sv.ownBlock=some b\/w.heap.size<=b
 d:∀ b,dv1.ownBlock=some b->dv.ownBlock=some b\/w.heap.size<=b
 z:w.heap.size<=w1.heap.size
theorem Fr.step {rb:Nat} {sv dv sv1 dv1 sv2 dv2:Value} {w wr w1 w3:World} (h:Fr rb sv dv w sv1 dv1 wr) (hb:Below wr.heap.size wr w1) (hk:aC (fun b=>dv1.ownBlock=some b) w1 w3) (hs:sv2.ownBlock=sv1.ownBlock) (hd:∀ b,dv2.ownBlock=some b->dv1.ownBlock=some b\/w1.heap.size+1<=b) (x y:Nat) (u v:Value) :
 Fr rb sv dv w sv2 dv2 ((w3.setCell ⟨rb,x,none⟩ u).setCell ⟨rb,y,none⟩ v):=by
 have hz:=h.z;have hz1:=hb.size;have hz3:=hk.size;have ks:=(((aC.refl (· = rb) w3).setCell (p:=⟨rb,x,none⟩) (.inl rfl) u).setCell (p:=⟨rb,y,none⟩) (.inl rfl) v);have hz4:=ks.size;refine ⟨fun b h1 h2 h3 h4=>?_,fun b hb2=>h.s b (by rw [<- hs];exact hb2),fun b hb2=>?_,by omega⟩
 · rw [ks.block b (by omega) h2,hk.block b (by omega) (fun e=>(h.d b e).elim h4 (fun hle=>by omega)),hb.block b (by omega)]
   exact h.b b h1 h2 h3 h4
 · rcases hd b hb2 with h1 | h1
   · exact h.d b h1
   · exact .inr (by omega)
theorem EI (x:Nat) (ts:List Tk) (rb:Nat) (a:Option Addr) (c p o n h:Nat) (sg:List (List UInt8×Nat)) (dn:List TN) (sv dv:Value) (q:List (Option Addr×Nat)) (w:World) (H:RGx x ts rb a c p o n sg dn sv dv q w) (hs:nV sg) (hd:dn.length=i8 sg+1) :
 Calls Tryz.prog 280 #[.pointer (some ⟨rb,0,none⟩),.int .i64 h] w fun e w'=>e=.returned (.tuple #[])/\Mn x ts rb a c p o n (cG h sg dn) w w'/\(∀ b,b<w.heap.size->b ≠ rb->sv.ownBlock ≠ some b->dv.ownBlock ≠ some b->w'.heap[b]? = w.heap[b]?):=by
 obtain ⟨i0,hi,hz0,hz1,hz2⟩:=info_parts Dy;have und:Tryz.prog.underlying 65=some (.slice 67):=Tryz.underlying65;obtain ⟨r0,hr0⟩:∃ r,cG h sg dn=r:=⟨_,rfl⟩;rw [hr0];have K0:=aA (bQ.refl rb w);have HR:=aA H;have HS:=aA hs;have HD:=aA hd;have HE:=aA hr0;have hslen:=H.hs;have hn32:=H.g.hn;obtain ⟨va,vc,hv⟩:=kW H.so;subst hv;obtain ⟨⟨c0,c1,c2,c3,c4,c5⟩,f1,f2,f3,f4,f5⟩:=H.g.r.cells;clear hs hd hr0 H;go_enter Tryz.func280,Tryz.ntmps280
 go_wp2_with fail
 go_loopg [4] sg.length (fun g v wr=>∃ (z:Int) (sg1:List (List UInt8×Nat)) (dn1:List TN) (sv1 dv1:Value) (q1:List (Option Addr×Nat)),v=.int .i64 z/\z=(sg1.length:Int)-1/\sg1.length<=g/\Hid (RGx x ts rb a c p o n sg1 dn1 sv1 dv1 q1 wr)/\Hid (nV sg1)/\Hid (dn1.length=i8 sg1+1)/\Hid (cG h sg1 dn1=r0)/\Hid (bQ rb w wr)/\Hid (Fr rb (.slice va sg.length vc) dv w sv1 dv1 wr))
 case atStart=>exact ⟨_,sg,dn,_,dv,q,rfl,by first | rfl | (simp;done) | omega,Nat.le_refl _,HR,HS,HD,HE,K0,aA ⟨fun _ _ _ _ _=>rfl,fun _ h=>.inl h,fun _ h=>.inl h,Nat.le_refl _⟩⟩
 case round =>
  obtain ⟨z,sg1,dn1,sv1,dv1,q1,rfl,hz,hg,hR,hS,hD,hE,hK,hF⟩:=hrel;clear c0 c1 c2 c3 c4 c5 f1 f2 f3 f4 f5;cases sg1 with
  | nil =>
    have a0:¬ (0:Int)<=z:=by rw [hz];simp
    clear hz;have E:=aA (show r0=([],dn1) by rw [<- hE.out];rfl);go_wp2_with fail
    go_end0
    rw [E.out];exact ⟨rfl,⟨hK.out,_,_,_,hR.out⟩,hF.out.b⟩
  | cons y r =>
    obtain ⟨o',k⟩:=y;obtain rfl:z=(r.length:Int):=by rw [hz,List.length_cons];omega
    have R1:=hR.out;obtain ⟨g,vc1,hv,hvc,hvm,hcs⟩:=eR R1.so (by simp);have s0:=hcs (r.length*2) (.string ⟨o'.toArray⟩) (by rw [xF,List.getElem?_append_right (by rw [jG];exact Nat.le_refl _),jG,Nat.sub_self];rfl);have s1:=hcs (r.length*2+1) (.int .i64 k) (by rw [xF,List.getElem?_append_right (by rw [jG];omega),jG,show r.length*2+1-r.length*2=1 by omega];rfl);subst hv;have hrl:=R1.hs;rw [List.length_cons] at hrl hvc hg;obtain ⟨⟨c0,c1,c2,c3,c4,c5⟩,f1,f2,f3,f4,f5⟩:=R1.g.r.cells;rw [List.length_cons] at c4;have a1:(0:Int)<=(r.length:Int):=by omega
    have a2:(r.length:Int)<(r.length:Int)+1:=by omega
    have a3:((r.length:Int)).toNat=r.length:=by omega
    clear hcs R1 hz;by_cases hk:h<=k
    · have b1:(h:Int)<=(k:Int):=by omega
      have KO:=aA (fun w=>pR ⟨o'.toArray⟩ w);have hlq:=t8 hR.out.dk;by_cases ho:o'=iQ
      · subst ho
        rw [He] at KO
        obtain ⟨t1,r1,rfl⟩:∃ t r,dn1=t::r:=by
         cases dn1 with
         | nil=>exact absurd hD.out (by simp)
         | cons t r=>exact ⟨t,r,rfl⟩
        obtain ⟨qa,q2,rfl⟩:∃ a b,q1=a::b:=by
         cases q1 with
         | nil=>simp at hlq
         | cons a b=>exact ⟨a,b,rfl⟩
        obtain ⟨d,vd,hv,hvd,hvm2,hcs⟩:=eR hR.out.dw (by simp);subst hv;have hl2:q2.length=r1.length:=by simpa using hlq
        have hdl:=rD hl2
        have HC:=aA (p:=∀ j u,(ndL t1 qa)[j]? = some u->wr.cell? ((⟨d,r1.length*4,none⟩:Addr).add j)=some u) (fun j u hj=>by
         rw [Addr.add_lit];refine hcs _ _ ?_;rw [dnL,List.getElem?_append_right (by omega),hdl,Nat.add_sub_cancel_left];exact hj)
        have CL:=aA (fun nq c=>vG ⟨d,r1.length*4,none⟩ 1 c (ndL t1 qa) rfl (by omega) (wr.drewN nq) HC.out (oE t1 qa));rw [List.length_cons] at c5 hvd;have d1:(0:Int)<=(r1.length:Int):=by omega
        have d2:(r1.length:Int)<=(r1.length:Int)+1:=by omega
        have d3:((r1.length:Int)).toNat=r1.length:=by omega
        have d4:(r1.length:Int)<=(vd:Int):=by omega
        have hdn:=hR.out.hd;rw [List.length_cons] at hdn;have OT:=rY (m:=r1.length) hR.out.dw (by rw [List.length_cons];omega) (by simp);rw [dnL,List.take_append_of_le_length (by rw [hdl];exact Nat.le_refl _),List.take_of_length_le (by rw [hdl];exact Nat.le_refl _)] at OT;have OT2:=aA OT;clear hcs hlq OT;go_upto_region 4 with fail
        go_upto_region 5 with (go_quiet ((go_at_call 186;refine (KO.out _).mono ?_;rintro e w' ⟨he,rfl⟩;exact ⟨he,_,rfl⟩)))
        go_wp2_with fail
        refine (CL.out _ _).mono ?_;rintro e w1 ⟨v1,rfl,hro,hb⟩;obtain ⟨gk1,ck,rfl, -, -,hcell⟩:=eR hro (by decide);have hbb:Below wr.heap.size wr w1:=⟨hb.os,hb.tape,hb.output,hb.size,hb.block⟩;have R2:=hR.out.below hbb;have hgk:=(hro.lt gk1 rfl);have hwr:=hR.out.lt
        have GK:Gk x rb (.slice (some ⟨g,0,none⟩) (r.length+1) vc1) (.slice (some ⟨d,0,none⟩) (r1.length+1) vd) gk1:=by
         have hz:(wr.drewN nq).heap.size=wr.heap.size:=rfl;have k1:g<wr.heap.size:=(hR.out.svNe rfl).2;have k2:d<wr.heap.size:=(hR.out.dvNe rfl).2;have k3:x<wr.heap.size:=hR.out.hx;exact ⟨by omega,by omega,fun e=>by have:=Option.some.inj (show some g=some gk1 from e);omega,fun e=>by have:=Option.some.inj (show some d=some gk1 from e);omega⟩
        have KT:aQ (Gk x rb (.slice (some ⟨g,0,none⟩) (r.length+1) vc1) (.slice (some ⟨d,0,none⟩) (r1.length+1) vd)) w1 (some ⟨gk1,0,none⟩) (oU t1).ks:=.inr ⟨gk1,0,rfl,rV (q:=qa) (t:=t1) GK hgk.2 (fun j u hj=>by rw [Nat.zero_add];exact hcell j u hj) R2.dk.1 trivial⟩;have DK2:=R2.dk.2;have OT3:=aA (cI OT2.out hbb)
        have NEW:=aA (p:=∀ j u,(ndL (oU t1) (some ⟨gk1,0,none⟩,ck))[j]? = some u->(w1.alloc (.cells #[.string ⟨iQ.toArray⟩,.string ⟨#[]⟩,.int .i64 0,.slice (some ⟨gk1,0,none⟩) 1 ck] 67)).cell? ((⟨w1.heap.size,0,none⟩:Addr).add j)=some u) (fun j u hj=>by
         have e:ndL (oU t1) (some ⟨gk1,0,none⟩,ck)=(#[.string ⟨iQ.toArray⟩,.string ⟨#[]⟩,.int .i64 0,.slice (some ⟨gk1,0,none⟩) 1 ck]:Array Value).toList:=rfl;rw [e] at hj;rw [Addr.add_lit,Nat.zero_add,cell_of_row _ _ _ _ _ (0,0) (heap_alloc_new w1 _)];simpa using hj)
        clear c0 c1 c2 c3 c4 c5 f1 f2 f3 f4 f5 s0 s1;obtain ⟨⟨c0,c1,c2,c3,c4,c5⟩,f1,f2,f3,f4,f5⟩:=R2.g.r.cells;rw [List.length_cons] at c4;rw [List.length_cons] at c5;have HR2:=aA R2;have HKT:=aA KT;have HDK:=aA DK2;have HBB:=aA hbb;have hsz2:=R2.lt;clear hro hb hcell R2 KT DK2 GK hbb CL HC;go_wp2_with (at_builtin;refine bC rfl _ _ 65 rfl und hi hz0 hz1 hz2 rfl (by decide) (.slice (some ⟨d,0,none⟩) r1.length vd) r1.length 1 1 ⟨w1.heap.size,0,none⟩ (dnL r1 q2) (ndL (oU t1) (some ⟨gk1,0,none⟩,ck)) rfl rfl (OT3.out.alloc _) rfl NEW.out (oE _ _) (by unfold maxLen;omega) (by omega) (by simp;omega) ?_)
        intro v3 w3 ho3 hg3 hq3;obtain ⟨gg,cc3,rfl⟩:=uY ho3 (Nat.succ_ne_zero _);obtain ⟨P3,K3⟩:=HR2.out.take hg3 ho3 hq3 HDK.out HKT.out (by omega);have KD:=(((aC.refl (fun b=>(Value.slice (some ⟨d,0,none⟩) (r1.length+1) vd).ownBlock=some b) w1).alloc _).grown hg3 (fun k hk=>.inl hk));have F4:=aA (hF.out.step (sv2:=.slice (some ⟨g,0,none⟩) r.length vc1) (dv2:=.slice (some ⟨gg,0,none⟩) (r1.length+1) cc3) HBB.out KD rfl hq3 5 4 (.slice (some ⟨gg,0,none⟩) (r1.length+1) cc3) (.slice (some ⟨g,0,none⟩) r.length vc1));clear KD;have G3:=((HR2.out.g.kept (((aC.refl (fun b=>(Value.slice (some ⟨d,0,none⟩) (r1.length+1) vd).ownBlock=some b) w1).alloc _).grown hg3 (fun k hk=>.inl hk)) (fun k hk=>(HR2.out.dvNe hk).1)).r.cells);have P4:=aA P3.pop;have K4:=aA (((hK.out.trans (bQ.below HBB.out)).trans K3).set 4 (.slice (some ⟨g,0,none⟩) r.length vc1));clear c0 c1 c2 c3 c4 c5 f1 f2 f3 f4 f5 ho3 hg3 hq3 P3 K3;obtain ⟨⟨c0,c1,c2,c3,c4,c5⟩,f1,f2,f3,f4,f5⟩:=G3;rw [List.length_cons] at c4;rw [List.length_cons] at c5;have S5:=aA (show nV r from fun x hx=>hS.out x (List.mem_cons_of_mem _ hx));have D5:=aA (show ((oU t1)::r1).length=i8 r+1 by have:=hD.out;rw [i8,if_pos rfl] at this;simp at this |-;omega);have E5:=aA (show cG h r ((oU t1)::r1)=r0 by rw [<- hE.out];conv=>rhs;rw [cG,if_pos hk,oK,if_pos rfl]);have r1a:(r.length:Int)<=(r.length:Int)+1:=by omega
        have r1b:(r.length:Int)<=(vc1:Int):=by omega
        clear hk;go_wp2_with fail
        go_roundg r.length
        case measure=>omega
        case rel=>exact ⟨(r.length:Int)-1,r,(oU t1)::r1,_,_,_,rfl,rfl,Nat.le_refl _,P4,S5,D5,E5,K4,F4⟩
      · have hso:tC o':=(hS.out _ List.mem_cons_self).resolve_left ho
        rw [(wV hso).1] at KO
        obtain ⟨t2,t1,r1,rfl⟩:∃ t s r,dn1=t::s::r:=by
         have h0:=hD.out;rw [i8,if_neg ho] at h0;match dn1,h0 with
         | [],h0=>simp at h0
         | [_],h0=>simp at h0
         | t::s::r,_=>exact ⟨t,s,r,rfl⟩
        obtain ⟨qb,qa,q2,rfl⟩:∃ a b c,q1=a::b::c:=by
         match q1,hlq with
         | [],h0=>simp at h0
         | [_],h0=>simp at h0
         | a::b::c,_=>exact ⟨a,b,c,rfl⟩
        obtain ⟨d,vd,hv,hvd,hvm2,hcs⟩:=eR hR.out.dw (by simp);subst hv;have hl2:q2.length=r1.length:=by simpa using hlq
        have hdl:=rD hl2
        have HC:=aA (p:=∀ j u,(ndL t1 qa++ndL t2 qb)[j]? = some u->wr.cell? ((⟨d,r1.length*4,none⟩:Addr).add j)=some u) (fun j u hj=>by
         rw [Addr.add_lit];refine hcs _ _ ?_;rw [dnL,dnL,List.append_assoc,List.getElem?_append_right (by omega),hdl,Nat.add_sub_cancel_left];exact hj)
        have CL:=aA (fun nq c=>vG ⟨d,r1.length*4,none⟩ 2 c (ndL t1 qa++ndL t2 qb) rfl (by omega) (wr.drewN nq) HC.out (fun u hu=>(List.mem_append.1 hu).elim (oE t1 qa u) (oE t2 qb u)));rw [List.length_cons,List.length_cons] at c5 hvd;have d1:(0:Int)<=(r1.length:Int):=by omega
        have d2:(r1.length:Int)<=(r1.length:Int)+2:=by omega
        have d3:((r1.length:Int)).toNat=r1.length:=by omega
        have d4:(r1.length:Int)<=(vd:Int):=by omega
        have d5:(r1.length:Int)<=(r1.length:Int)+1+1:=by omega
        have d6:(r1.length:Int)+1+1-2=(r1.length:Int):=by omega
        have d7:r1.length+1+1-r1.length=2:=by omega
        have hdn:=hR.out.hd;rw [List.length_cons,List.length_cons] at hdn;have OT:=rY (m:=r1.length) hR.out.dw (by rw [List.length_cons,List.length_cons];omega) (by simp);rw [dnL,dnL,List.append_assoc,List.take_append_of_le_length (by rw [hdl];exact Nat.le_refl _),List.take_of_length_le (by rw [hdl];exact Nat.le_refl _)] at OT;have OT2:=aA OT;clear hcs hlq OT;go_upto_region 4 with fail
        go_upto_region 5 with (go_quiet ((go_at_call 186;refine (KO.out _).mono ?_;rintro e w' ⟨he,rfl⟩;exact ⟨he,_,rfl⟩)))
        go_wp2_with fail
        refine (CL.out _ _).mono ?_;rintro e w1 ⟨v1,rfl,hro,hb⟩;obtain ⟨gk1,ck,rfl, -, -,hcell⟩:=eR hro (by decide);have hbb:Below wr.heap.size wr w1:=⟨hb.os,hb.tape,hb.output,hb.size,hb.block⟩;have R2:=hR.out.below hbb;have hgk:=(hro.lt gk1 rfl);have hwr:=hR.out.lt
        have GK:Gk x rb (.slice (some ⟨g,0,none⟩) (r.length+1) vc1) (.slice (some ⟨d,0,none⟩) (r1.length+1+1) vd) gk1:=by
         have hz:(wr.drewN nq).heap.size=wr.heap.size:=rfl;have k1:g<wr.heap.size:=(hR.out.svNe rfl).2;have k2:d<wr.heap.size:=(hR.out.dvNe rfl).2;have k3:x<wr.heap.size:=hR.out.hx;exact ⟨by omega,by omega,fun e=>by have:=Option.some.inj (show some g=some gk1 from e);omega,fun e=>by have:=Option.some.inj (show some d=some gk1 from e);omega⟩
        have KT:aQ (Gk x rb (.slice (some ⟨g,0,none⟩) (r.length+1) vc1) (.slice (some ⟨d,0,none⟩) (r1.length+1+1) vd)) w1 (some ⟨gk1,0,none⟩) (gP o' t1 t2).ks:=.inr ⟨gk1,0,rfl,rV (q:=qa) (t:=t1) GK hgk.2 (fun j u hj=>by
         have hj4:j<4:=(List.getElem?_eq_some_iff.1 hj).1;rw [Nat.zero_add];exact hcell j u (by rw [List.getElem?_append_left (by exact hj4)];exact hj)) R2.dk.2.1 (rV (q:=qb) (t:=t2) GK hgk.2 (fun j u hj=>hcell (0+4+j) u (by rw [List.getElem?_append_right (by show 4<=_;omega),show 0+4+j-(ndL t1 qa).length=j by show 0+4+j-4=j;omega];exact hj)) R2.dk.1 trivial)⟩
        have DK2:=R2.dk.2.2;have OT3:=aA (cI OT2.out hbb)
        have NEW:=aA (p:=∀ j u,(ndL (gP o' t1 t2) (some ⟨gk1,0,none⟩,ck))[j]? = some u->(w1.alloc (.cells #[.string ⟨o'.toArray⟩,.string ⟨#[]⟩,.int .i64 0,.slice (some ⟨gk1,0,none⟩) 2 ck] 67)).cell? ((⟨w1.heap.size,0,none⟩:Addr).add j)=some u) (fun j u hj=>by
         have e:ndL (gP o' t1 t2) (some ⟨gk1,0,none⟩,ck)=(#[.string ⟨o'.toArray⟩,.string ⟨#[]⟩,.int .i64 0,.slice (some ⟨gk1,0,none⟩) 2 ck]:Array Value).toList:=rfl;rw [e] at hj;rw [Addr.add_lit,Nat.zero_add,cell_of_row _ _ _ _ _ (0,0) (heap_alloc_new w1 _)];simpa using hj)
        clear c0 c1 c2 c3 c4 c5 f1 f2 f3 f4 f5 s0 s1;obtain ⟨⟨c0,c1,c2,c3,c4,c5⟩,f1,f2,f3,f4,f5⟩:=R2.g.r.cells;rw [List.length_cons] at c4;rw [List.length_cons,List.length_cons] at c5;have HR2:=aA R2;have HKT:=aA KT;have HDK:=aA DK2;have HBB:=aA hbb;have hsz2:=R2.lt;clear hro hb hcell R2 KT DK2 GK hbb CL HC;go_wp2_with (at_builtin;refine bC rfl _ _ 65 rfl und hi hz0 hz1 hz2 rfl (by decide) (.slice (some ⟨d,0,none⟩) r1.length vd) r1.length 1 1 ⟨w1.heap.size,0,none⟩ (dnL r1 q2) (ndL (gP o' t1 t2) (some ⟨gk1,0,none⟩,ck)) rfl rfl (OT3.out.alloc _) rfl NEW.out (oE _ _) (by unfold maxLen;omega) (by omega) (by simp;omega) ?_)
        intro v3 w3 ho3 hg3 hq3;obtain ⟨gg,cc3,rfl⟩:=uY ho3 (Nat.succ_ne_zero _);obtain ⟨P3,K3⟩:=HR2.out.take hg3 ho3 hq3 HDK.out HKT.out (by omega);have KD:=(((aC.refl (fun b=>(Value.slice (some ⟨d,0,none⟩) (r1.length+1+1) vd).ownBlock=some b) w1).alloc _).grown hg3 (fun k hk=>.inl hk));have F4:=aA (hF.out.step (sv2:=.slice (some ⟨g,0,none⟩) r.length vc1) (dv2:=.slice (some ⟨gg,0,none⟩) (r1.length+1) cc3) HBB.out KD rfl hq3 5 4 (.slice (some ⟨gg,0,none⟩) (r1.length+1) cc3) (.slice (some ⟨g,0,none⟩) r.length vc1));clear KD;have G3:=((HR2.out.g.kept (((aC.refl (fun b=>(Value.slice (some ⟨d,0,none⟩) (r1.length+1+1) vd).ownBlock=some b) w1).alloc _).grown hg3 (fun k hk=>.inl hk)) (fun k hk=>(HR2.out.dvNe hk).1)).r.cells);have P4:=aA P3.pop;have K4:=aA (((hK.out.trans (bQ.below HBB.out)).trans K3).set 4 (.slice (some ⟨g,0,none⟩) r.length vc1));clear c0 c1 c2 c3 c4 c5 f1 f2 f3 f4 f5 ho3 hg3 hq3 P3 K3;obtain ⟨⟨c0,c1,c2,c3,c4,c5⟩,f1,f2,f3,f4,f5⟩:=G3;rw [List.length_cons] at c4;rw [List.length_cons,List.length_cons] at c5;have S5:=aA (show nV r from fun x hx=>hS.out x (List.mem_cons_of_mem _ hx));have D5:=aA (show ((gP o' t1 t2)::r1).length=i8 r+1 by have:=hD.out;rw [i8,if_neg ho] at this;simp at this |-;omega);have E5:=aA (show cG h r ((gP o' t1 t2)::r1)=r0 by rw [<- hE.out];conv=>rhs;rw [cG,if_pos hk,oK,if_neg ho]);have r1a:(r.length:Int)<=(r.length:Int)+1:=by omega
        have r1b:(r.length:Int)<=(vc1:Int):=by omega
        clear hk;go_wp2_with fail
        go_roundg r.length
        case measure=>omega
        case rel=>exact ⟨(r.length:Int)-1,r,(gP o' t1 t2)::r1,_,_,_,rfl,rfl,Nat.le_refl _,P4,S5,D5,E5,K4,F4⟩
    · have b1:¬ (h:Int)<=(k:Int):=by omega
      have E:=aA (show r0=((o',k)::r,dn1) by rw [<- hE.out,cG,if_neg hk]);clear hk;go_wp2_with fail
      go_end0
      rw [E.out];exact ⟨rfl,⟨hK.out,_,_,_,hR.out⟩,hF.out.b⟩
theorem Jc (ts:List Tk) (rb:Nat) (a:Option Addr) (c p o n h:Nat) (sg:List (List UInt8×Nat)) (dn:List TN) (sv dv:Value) (q:List (Option Addr×Nat)) (w:World) (H:RG ts rb a c p o n sg dn sv dv q w) (hs:nV sg) (hd:dn.length=i8 sg+1) :
 Calls Tryz.prog 280 #[.pointer (some ⟨rb,0,none⟩),.int .i64 h] w fun e w'=>e=.returned (.tuple #[])/\Mn rb ts rb a c p o n (cG h sg dn) w w' :=
 (EI rb ts rb a c p o n h sg dn sv dv q w H hs hd).mono fun _ _ hP=>⟨hP.1,hP.2.1⟩
end
section
open Go.RowKit
theorem EQ {s:ByteArray} (h:s.size<1\/8<s.size):aW s.data.toList=false:=by
 have hl:s.data.toList.length=s.size:=by simp
 cases e:s.data.toList with
 | nil=>rfl
 | cons c r =>
   rw [e] at hl;rw [lD,decide_eq_false (by simp at hl;omega),Bool.and_false,Bool.false_and]
theorem LF {s:ByteArray} (h:1<=s.size) (h8:s.size<=8):aW s.data.toList=(cH s[0] && s.data.toList.all a6):=by
 have hl:s.data.toList.length=s.size:=by simp
 have h0:s.data.toList[0]? = some s[0]:=List.getElem?_eq_getElem (by omega);cases e:s.data.toList with
 | nil=>rw [e] at hl;simp at hl;omega
 | cons c r =>
   rw [e] at hl h0;have:c=s[0]:=by simpa using h0
   subst this;rw [lD,decide_eq_true (by simp at hl;omega),Bool.and_true,List.all_cons];unfold a6;cases cH s[0] <;> simp
theorem Ni {s:ByteArray} {j:Nat} (hj:j<s.size) (h:a6 s[j]=false):s.data.toList.all a6=false:=by
 rw [List.all_eq_false];exact ⟨s[j],List.mem_iff_getElem.2 ⟨j,by simpa using hj,rfl⟩,by rw [h];simp⟩
theorem Me {s:ByteArray} (h:∀ j (hj:j<s.size),a6 s[j]=true):s.data.toList.all a6=true:=by
 rw [List.all_eq_true];intro c hc;obtain ⟨j,hj,rfl⟩:=List.mem_iff_getElem.1 hc;exact h j (by simpa using hj)
end
section
open Go.RowKit
theorem lM (c:UInt8) (w:World):Calls Tryz.prog 112 #[.int .u8 c.toNat] w fun e w'=>e=.returned (.bool (cH c))/\w=w':=by
 obtain ⟨x,hx⟩:∃ x:Int,(c.toNat:Int)=x:=⟨_,rfl⟩;unfold cH;rw [hx];by_cases h:97<=x
 · go_enter Tryz.func112,Tryz.ntmps112
   go_wp2
   go_ret;exact ⟨jJ (a:=decide (x<=122)) (by rw [decide_eq_true h];rfl),rfl⟩
 · go_enter Tryz.func112,Tryz.ntmps112
   go_wp2
   go_ret;exact ⟨jJ (a:=false) (by rw [decide_eq_false (by omega)];rfl),rfl⟩
theorem uD (c:UInt8) (w:World):Calls Tryz.prog 113 #[.int .u8 c.toNat] w fun e w'=>e=.returned (.bool (aZ c))/\w=w':=by
 obtain ⟨x,hx⟩:∃ x:Int,(c.toNat:Int)=x:=⟨_,rfl⟩;unfold aZ;rw [hx];by_cases h:48<=x
 · go_enter Tryz.func113,Tryz.ntmps113
   go_wp2
   go_ret;exact ⟨jJ (a:=decide (x<=57)) (by rw [decide_eq_true h];rfl),rfl⟩
 · go_enter Tryz.func113,Tryz.ntmps113
   go_wp2
   go_ret;exact ⟨jJ (a:=false) (by rw [decide_eq_false (by omega)];rfl),rfl⟩
theorem jB (s:ByteArray) (hm:s.size<=281474976710656) (w:World):Calls Tryz.prog 54 #[.string s] w fun e w'=>e=.returned (.bool (aW s.data.toList))/\w=w':=by
 have hne:1<=s.size->(s.toList == [])=false:=fun h=>by
  rw [beq_eq_false_iff_ne,Lib.toList_data];intro e;have hl:s.data.toList.length=s.size:=by simp
  rw [e] at hl;simp at hl;omega
 by_cases h1:s.size<1
 · have R:=aA (EQ (.inl h1))
   obtain rfl:s=⟨#[]⟩:=(by simpa using h1:s=ByteArray.empty);clear hne h1 hm;go_enter Tryz.func54,Tryz.ntmps54
   go_wp2_with fail
   go_ret;exact ⟨jJ (a:=false) R.out.symm,rfl⟩
 have h2:1<=s.size:=by omega
 have he:=hne h2;clear hne h1;by_cases h8:8<s.size
 · have R:=aA (EQ (.inr h8))
   go_enter Tryz.func54,Tryz.ntmps54
   go_wp2_with fail
   go_ret;exact ⟨jJ (a:=false) R.out.symm,rfl⟩
 have h3:s.size<=8:=by omega
 have R:=aA (LF h2 h3);have hs0:0<s.size:=by omega
 cases hc:cH s[0] with
 | false =>
   have R2:=aA (R.out.trans (by rw [hc];rfl:_=false));have C:=aA (p:=∀ w,Calls Tryz.prog 112 #[.int .u8 s[0].toNat] w fun e w'=>e=.returned (.bool false)/\w=w') (fun w=>by have:=lM s[0] w;rwa [hc] at this);clear R hc h3;go_enter Tryz.func54,Tryz.ntmps54
   go_wp2_with (go_at_call 112;refine (C.out _).mono ?_;rintro e w' ⟨rfl,rfl⟩)
   go_ret;exact ⟨jJ (a:=false) R2.out.symm,rfl⟩
 | true =>
   have R2:=aA (R.out.trans (by rw [hc];rfl:_=s.data.toList.all a6));have C:=aA (p:=∀ w,Calls Tryz.prog 112 #[.int .u8 s[0].toNat] w fun e w'=>e=.returned (.bool true)/\w=w') (fun w=>by have:=lM s[0] w;rwa [hc] at this);have h0:=aA (show a6 s[0]=true by unfold a6;rw [hc];rfl);clear R hc;go_enter Tryz.func54,Tryz.ntmps54
   go_wp2_with (go_at_call 112;refine (C.out _).mono ?_;rintro e w' ⟨rfl,rfl⟩)
   go_loop [3] (fun i=>∃ k:Nat,1<=k/\k<=s.size/\i=.int .i64 k/\Hid (∀ j (hj:j<s.size),j<k->a6 s[j]=true)) (fun i=>s.size-(intOf i).toNat)
   case atStart=>exact ⟨1,Nat.le_refl _,h2,rfl,aA (fun j _ h=>by
    obtain rfl:j=0:=(by omega);exact h0.out)⟩
   case round =>
    obtain ⟨k,hk1,hk,rfl,hok⟩:=hrel;by_cases hlt:k<s.size
    · cases ha:cH s[k] with
      | true =>
        have hok1:=aA (show ∀ j (hj:j<s.size),j<k+1->a6 s[j]=true from fun j hj hjk=>by
         by_cases e:j=k
         · subst e;unfold a6;rw [ha];rfl
         · exact hok.out j hj (by omega))
        have D:=aA (p:=∀ w,Calls Tryz.prog 112 #[.int .u8 s[k].toNat] w fun e w'=>e=.returned (.bool true)/\w=w') (fun w=>by have:=lM s[k] w;rwa [ha] at this);clear ha C;go_wp2_with (go_at_call 112;refine (D.out _).mono ?_;rintro e w' ⟨rfl,rfl⟩)
        go_round
        case rel=>exact ⟨k+1,by omega,by omega,by go_num,hok1⟩
        case measure=>simp [intOf];omega
      | false =>
        have D:=aA (p:=∀ w,Calls Tryz.prog 112 #[.int .u8 s[k].toNat] w fun e w'=>e=.returned (.bool false)/\w=w') (fun w=>by have:=lM s[k] w;rwa [ha] at this);cases hd:aZ s[k] with
        | true =>
          have hok1:=aA (show ∀ j (hj:j<s.size),j<k+1->a6 s[j]=true from fun j hj hjk=>by
           by_cases e:j=k
           · subst e;unfold a6;rw [ha,hd];rfl
           · exact hok.out j hj (by omega))
          have E:=aA (p:=∀ w,Calls Tryz.prog 113 #[.int .u8 s[k].toNat] w fun e w'=>e=.returned (.bool true)/\w=w') (fun w=>by have:=uD s[k] w;rwa [hd] at this);clear ha hd C;go_wp2_with (first | (go_at_call 112;refine (D.out _).mono ?_;rintro e w' ⟨rfl,rfl⟩) | (go_at_call 113;refine (E.out _).mono ?_;rintro e w' ⟨rfl,rfl⟩))
          go_round
          case rel=>exact ⟨k+1,by omega,by omega,by go_num,hok1⟩
          case measure=>simp [intOf];omega
        | false =>
          have E:=aA (p:=∀ w,Calls Tryz.prog 113 #[.int .u8 s[k].toNat] w fun e w'=>e=.returned (.bool false)/\w=w') (fun w=>by have:=uD s[k] w;rwa [hd] at this);have R3:=aA (R2.out.trans (Ni hlt (by unfold a6;rw [ha,hd];rfl)));clear ha hd C;go_wp2_with (first | (go_at_call 112;refine (D.out _).mono ?_;rintro e w' ⟨rfl,rfl⟩) | (go_at_call 113;refine (E.out _).mono ?_;rintro e w' ⟨rfl,rfl⟩))
          go_ret;exact ⟨jJ (a:=false) R3.out.symm,rfl⟩
    · have R3:=aA (R2.out.trans (Me fun j hj=>hok.out j hj (by omega)))
      go_wp2_with fail
      go_ret;exact ⟨jJ (a:=true) R3.out.symm,rfl⟩
end
end
end Go.Proofs.YtgfkjkokmcejbaaGreatDoor
