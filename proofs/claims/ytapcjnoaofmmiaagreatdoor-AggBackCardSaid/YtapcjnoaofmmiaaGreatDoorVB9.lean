/-
 No statement: what AggBackCard needs, of the texts HHolds, QMath, OMath, QFine, QMem, QFew, OParts, QExpr, QBox.
-/
import Derived.Test.YtapcjnoaofmmiaaGreatDoorVB8
set_option maxHeartbeats 40000000
set_option maxRecDepth 100000
namespace Go.Proofs.YtapcjnoaofmmiaaGreatDoor
section
open Go.RowKit
theorem Cy (o:ByteArray) (x:List UInt8):(o.toList == x)=decide (o=⟨x.toArray⟩):=by
 rw [Lib.toList_data];by_cases h:o=⟨x.toArray⟩
 · subst h;simp
 · rw [decide_eq_false h]
   rw [beq_eq_false_iff_ne];intro e;exact h (dO (by simpa using e))
theorem fK {o:ByteArray} {x:List UInt8} (h:o=⟨x.toArray⟩):(o.toList == x)=true:=by rw [Cy];exact decide_eq_true h
theorem bH {o:ByteArray} {x:List UInt8} (h:¬ o=⟨x.toArray⟩):(o.toList == x)=false:=by rw [Cy];exact decide_eq_false h
def aS (o:ByteArray) (a b:Int):Option Bool :=
 if o=⟨#[61]⟩ then some (a == b) else if o=⟨#[33,61]⟩ then some (a != b) else if o=⟨#[60]⟩ then some (decide (a<b))
 else if o=⟨#[60,61]⟩ then some (decide (a<=b)) else if o=⟨#[62]⟩ then some (decide (b<a)) else if o=⟨#[62,61]⟩ then some (decide (b<=a)) else none
theorem sZ (o:ByteArray) (a b:Int) (w:World):Calls Tryz.prog 142 #[.string o,.int .i64 a,.int .i64 b] w fun e w'=>e=.returned (.tuple #[.bool ((aS o a b).getD false),.bool (aS o a b).isSome])/\w=w':=by
 by_cases h0:o=⟨#[61]⟩
 · have g0:=fK (x:=[61]) h0
   unfold aS;rw [if_pos h0];clear h0;go_enter Tryz.func142,Tryz.ntmps142
   go_wp2_with fail
   go_ret2;exact ⟨rfl,rfl⟩
 · by_cases h1:o=⟨#[33,61]⟩
   · have g0:=bH (x:=[61]) h0
     have g1:=fK (x:=[33,61]) h1;unfold aS;rw [if_neg h0];rw [if_pos h1];clear h0 h1;go_enter Tryz.func142,Tryz.ntmps142
     go_wp2_with fail
     go_ret2;exact ⟨rfl,rfl⟩
   · by_cases h2:o=⟨#[60]⟩
     · have g0:=bH (x:=[61]) h0
       have g1:=bH (x:=[33,61]) h1;have g2:=fK (x:=[60]) h2;unfold aS;rw [if_neg h0];rw [if_neg h1];rw [if_pos h2];clear h0 h1 h2;go_enter Tryz.func142,Tryz.ntmps142
       go_wp2_with fail
       go_ret2;exact ⟨rfl,rfl⟩
     · by_cases h3:o=⟨#[60,61]⟩
       · have g0:=bH (x:=[61]) h0
         have g1:=bH (x:=[33,61]) h1;have g2:=bH (x:=[60]) h2;have g3:=fK (x:=[60,61]) h3;unfold aS;rw [if_neg h0];rw [if_neg h1];rw [if_neg h2];rw [if_pos h3];clear h0 h1 h2 h3;go_enter Tryz.func142,Tryz.ntmps142
         go_wp2_with fail
         go_ret2;exact ⟨rfl,rfl⟩
       · by_cases h4:o=⟨#[62]⟩
         · have g0:=bH (x:=[61]) h0
           have g1:=bH (x:=[33,61]) h1;have g2:=bH (x:=[60]) h2;have g3:=bH (x:=[60,61]) h3;have g4:=fK (x:=[62]) h4;unfold aS;rw [if_neg h0];rw [if_neg h1];rw [if_neg h2];rw [if_neg h3];rw [if_pos h4];clear h0 h1 h2 h3 h4;go_enter Tryz.func142,Tryz.ntmps142
           go_wp2_with fail
           go_ret2;exact ⟨rfl,rfl⟩
         · by_cases h5:o=⟨#[62,61]⟩
           · have g0:=bH (x:=[61]) h0
             have g1:=bH (x:=[33,61]) h1;have g2:=bH (x:=[60]) h2;have g3:=bH (x:=[60,61]) h3;have g4:=bH (x:=[62]) h4;have g5:=fK (x:=[62,61]) h5;unfold aS;rw [if_neg h0];rw [if_neg h1];rw [if_neg h2];rw [if_neg h3];rw [if_neg h4];rw [if_pos h5];clear h0 h1 h2 h3 h4 h5;go_enter Tryz.func142,Tryz.ntmps142
             go_wp2_with fail
             go_ret2;exact ⟨rfl,rfl⟩
           · have g0:=bH (x:=[61]) h0
             have g1:=bH (x:=[33,61]) h1;have g2:=bH (x:=[60]) h2;have g3:=bH (x:=[60,61]) h3;have g4:=bH (x:=[62]) h4;have g5:=bH (x:=[62,61]) h5;unfold aS;rw [if_neg h0];rw [if_neg h1];rw [if_neg h2];rw [if_neg h3];rw [if_neg h4];rw [if_neg h5];clear h0 h1 h2 h3 h4 h5;go_enter Tryz.func142,Tryz.ntmps142
             go_wp2_with fail
             go_ret2;exact ⟨rfl,rfl⟩
theorem lG (o:ByteArray) (a b:Int) (w:World):Calls Tryz.prog 40 #[.string o,.int .i64 a,.int .i64 b] w fun e w'=>e=.returned (.tuple #[.bool ((aS o a b).getD false),.bool (aS o a b).isSome])/\w=w':=by
 by_cases h0:o=⟨#[61]⟩
 · have g0:=fK (x:=[61]) h0
   unfold aS;rw [if_pos h0];clear h0;go_enter Tryz.func40,Tryz.ntmps40
   go_wp2_with fail
   go_ret2;exact ⟨rfl,rfl⟩
 · by_cases h1:o=⟨#[33,61]⟩
   · have g0:=bH (x:=[61]) h0
     have g1:=fK (x:=[33,61]) h1;unfold aS;rw [if_neg h0];rw [if_pos h1];clear h0 h1;go_enter Tryz.func40,Tryz.ntmps40
     go_wp2_with fail
     go_ret2;exact ⟨rfl,rfl⟩
   · by_cases h2:o=⟨#[60]⟩
     · have g0:=bH (x:=[61]) h0
       have g1:=bH (x:=[33,61]) h1;have g2:=fK (x:=[60]) h2;unfold aS;rw [if_neg h0];rw [if_neg h1];rw [if_pos h2];clear h0 h1 h2;go_enter Tryz.func40,Tryz.ntmps40
       go_wp2_with fail
       go_ret2;exact ⟨rfl,rfl⟩
     · by_cases h3:o=⟨#[60,61]⟩
       · have g0:=bH (x:=[61]) h0
         have g1:=bH (x:=[33,61]) h1;have g2:=bH (x:=[60]) h2;have g3:=fK (x:=[60,61]) h3;unfold aS;rw [if_neg h0];rw [if_neg h1];rw [if_neg h2];rw [if_pos h3];clear h0 h1 h2 h3;go_enter Tryz.func40,Tryz.ntmps40
         go_wp2_with fail
         go_ret2;exact ⟨rfl,rfl⟩
       · by_cases h4:o=⟨#[62]⟩
         · have g0:=bH (x:=[61]) h0
           have g1:=bH (x:=[33,61]) h1;have g2:=bH (x:=[60]) h2;have g3:=bH (x:=[60,61]) h3;have g4:=fK (x:=[62]) h4;unfold aS;rw [if_neg h0];rw [if_neg h1];rw [if_neg h2];rw [if_neg h3];rw [if_pos h4];clear h0 h1 h2 h3 h4;go_enter Tryz.func40,Tryz.ntmps40
           go_wp2_with fail
           go_ret2;exact ⟨rfl,rfl⟩
         · by_cases h5:o=⟨#[62,61]⟩
           · have g0:=bH (x:=[61]) h0
             have g1:=bH (x:=[33,61]) h1;have g2:=bH (x:=[60]) h2;have g3:=bH (x:=[60,61]) h3;have g4:=bH (x:=[62]) h4;have g5:=fK (x:=[62,61]) h5;unfold aS;rw [if_neg h0];rw [if_neg h1];rw [if_neg h2];rw [if_neg h3];rw [if_neg h4];rw [if_pos h5];clear h0 h1 h2 h3 h4 h5;go_enter Tryz.func40,Tryz.ntmps40
             go_wp2_with fail
             go_ret2;exact ⟨rfl,rfl⟩
           · have g0:=bH (x:=[61]) h0
             have g1:=bH (x:=[33,61]) h1;have g2:=bH (x:=[60]) h2;have g3:=bH (x:=[60,61]) h3;have g4:=bH (x:=[62]) h4;have g5:=bH (x:=[62,61]) h5;unfold aS;rw [if_neg h0];rw [if_neg h1];rw [if_neg h2];rw [if_neg h3];rw [if_neg h4];rw [if_neg h5];clear h0 h1 h2 h3 h4 h5;go_enter Tryz.func40,Tryz.ntmps40
             go_wp2_with fail
             go_ret2;exact ⟨rfl,rfl⟩
structure CD where
 op:ByteArray
 a:TN
 b:TN
structure AG where
 fn:ByteArray
 k:Int
 e:TN
 g:TN
 wh:List CD
def aP:List UInt8:=[99,111,117,110,116]
def jY:List UInt8:=[109,105,110]
def kA:List UInt8:=[109,97,120]
def lA:List UInt8:=[115,117,109]
def aQ:List UInt8:=[102,105,114,115,116]
def cU:List UInt8:=[116,111,112]
def fL:List UInt8:=[119,104,101,114,101]
def l8:List UInt8:=[97,110,100]
def dD (x:List UInt8):Bool:=x == aP || x == jY || x == kA || x == lA || x == aQ || x == cU
def bK (L:List Tk) (x:List UInt8) (s:RS):RS:=if s.bad=0 then (if isS L x s.pos then bZ s else bY 2 s) else s
def bC (L:List Tk) (s:RS):TN×RS:=if s.bad=0 then (match ofL L s.pos with | .ok t q=>(t,⟨q,s.cnt,0,s.whr⟩) | .bad p e=>(aR,⟨p,s.cnt,e,p⟩)) else (aR,s)
def eQ (L:List Tk) (x:List UInt8) (p:Nat):Bool:=match L[p]? with | some t=>t.kind == 1 && t.text == x | none=>false
def nU (L:List Tk) (s:RS):Int×RS :=
 if s.bad=0 then (match L[s.pos]? with
  | some t=>if t.kind=2 then (t.num,if t.num<1\/16<t.num then bZ (bY 1 s) else bZ s) else (0,bY 2 s)
  | none=>(0,bY 2 s)) else (0,s)
def dR (L:List Tk) (fn:List UInt8) (s:RS):(Int×TN×TN)×RS :=
 if fn=aP then ((0,aR,aR),s) else
 let p:=if fn=cU then ((nU L s).1,bK L [44] (nU L s).2) else (0,s)
 let e:=bC L p.2
 if fn=aQ then (let g:=bC L (bK L [44] e.2);((p.1,e.1,g.1),g.2)) else ((p.1,e.1,aR),e.2)
def opB (L:List Tk) (p:Nat):Bool:=match L[p]? with | some t=>(aS ⟨t.text.toArray⟩ 0 0).isSome | none=>false
def dF (L:List Tk) (s:RS):CD×RS :=
 let a:=bC L s
 if a.2.bad=0 then
  if opB L a.2.pos=true then (let b:=bC L (bZ a.2);(⟨⟨(eO L a.2.pos).toArray⟩,a.1,b.1⟩,b.2))
  else (⟨⟨#[]⟩,a.1,aR⟩,bY 2 a.2)
 else (⟨⟨#[]⟩,a.1,aR⟩,a.2)
def gI (L:List Tk):Nat->List CD->RS->List CD×RS
 | 0,acc,s=>(acc,s)
 | f + 1, acc, s => if acc.length = 4 then (acc, bY 4 s) else
   let c:=dF L (bZ s)
   if (c.2.bad == 0 && eQ L l8 c.2.pos)=true then gI L f (acc++[c.1]) c.2 else (acc++[c.1],c.2)
inductive uO | bad (p:Nat) (e:Int) | ok (a:AG)
def agL (L:List Tk):uO :=
 match L[0]? with
 | none=>.bad 0 2
 | some t =>
   if ¬ t.kind=1 then .bad 0 2 else
   if dD t.text=false then .bad 0 5 else
   let s1:=bK L [40] ⟨1,0,0,0⟩
   if ¬ s1.bad=0 then .bad s1.whr s1.bad else
   let r:=dR L t.text s1
   let s3:=bK L [41] r.2
   if ¬ s3.bad=0 then .bad s3.whr s3.bad else
   if L.length<=s3.pos then .ok ⟨⟨t.text.toArray⟩,r.1.1,r.1.2.1,r.1.2.2,[]⟩ else
   if eQ L fL s3.pos=false then .bad s3.pos 2 else
   let c:=gI L 5 [] s3
   if ¬ c.2.bad=0 then .bad c.2.whr c.2.bad else
   if c.2.pos<L.length then .bad c.2.pos 2 else .ok ⟨⟨t.text.toArray⟩,r.1.1,r.1.2.1,r.1.2.2,c.1⟩
def agX (l:List UInt8):uO:=match gR l with
 | .bad p e=>.bad p e
 | .ok L => match agL L with
   | .bad p e=>.bad (j8 l.length L p) e
   | .ok a=>.ok a
def cL:List CD->Int
 | []=>0
 | c::r=>if (aS c.op 0 0).isSome=false then 5 else if aF c.a=0 then (if aF c.b=0 then cL r else aF c.b) else aF c.a
def gW (a:AG):Int:=if a.fn.data.toList=aP then 0 else if aF a.e=0 then (if a.fn.data.toList=aQ then aF a.g else 0) else aF a.e
def eM (a:AG):Int :=
 if dD a.fn.data.toList=false then 5 else
 if a.fn.data.toList=cU/\(a.k<1\/16<a.k) then 1 else
 if gW a=0 then (if 4<a.wh.length then 4 else cL a.wh) else gW a
def eI:List CD->List CD->Bool
 | [],[]=>true
 | c::r,d::q=>(c.op.toList == d.op.toList) && bW c.a d.a && bW c.b d.b && eI r q
 | _,_=>false
def j0 (a b:AG):Bool :=
 (a.fn.toList == b.fn.toList) && !((a.fn.data.toList == cU) && a.k != b.k) && !((a.fn.data.toList != aP) && !bW a.e b.e) && !((a.fn.data.toList == aQ) && !bW a.g b.g) && (a.wh.length == b.wh.length) && eI a.wh b.wh
def cE:List CD->List UInt8
 | []=>[]
 | c::r=>[32,97,110,100,32]++(aK c.a++32::(c.op.data.toList++32::aK c.b))++cE r
def oB:List CD->List UInt8
 | []=>[]
 | c::r=>[32,119,104,101,114,101,32]++(aK c.a++32::(c.op.data.toList++32::aK c.b))++cE r
def fR (a:AG):List UInt8 :=
 if a.fn.data.toList=aP then [] else
 if a.fn.data.toList=cU then Lib.itoa a.k++44::32::aK a.e else
 if a.fn.data.toList=aQ then aK a.e++44::32::aK a.g else aK a.e
def cJ (a:AG):List UInt8:=a.fn.data.toList++40::(fR a++41::oB a.wh)
theorem iD {L:List Tk} {x:List UInt8} {s:RS} (h:¬ s.bad=0):bK L x s=s:=if_neg h
theorem gH {L:List Tk} {s:RS} (h:¬ s.bad=0):bC L s=(aR,s):=if_neg h
def kP (x:List UInt8):Bool:=x == cU
def bP (x:List UInt8):Bool:=x == aQ
def eP (x:List UInt8):Bool:=dD x && !(x == aP)
def bE (L:List Tk) (p:Nat):Tk:=(L[p]?).getD ⟨0,[],0,0⟩
def atR (s:RS):Nat:=if s.bad=0 then s.pos else s.whr
def bQ (so:Bool) (e:Int) (s:RS):RS:=if so=true then s else bY e s
def goR (s:RS):RS:=if s.bad=0 then bZ s else s
theorem jW {s:RS} (h:s.bad=0):atR s=s.pos:=if_pos h
theorem oN {s:RS} (h:¬ s.bad=0):atR s=s.whr:=if_neg h
theorem nQ {e:Int} {s:RS} (h:¬ s.bad=0):bY e s=s:=if_neg h
theorem Iw (e:Int) (he:¬ e=0) (s:RS):atR (bY e s)=atR s:=by
 unfold bY;by_cases h:s.bad=0
 · rw [if_pos h,jW h,oN he]
 · rw [if_neg h]
theorem Ad {s:RS} (h:s.bad=0):goR s=bZ s:=if_pos h
theorem fQ {s:RS} (h:¬ s.bad=0):goR s=s:=if_neg h
theorem jO (e:Int) (s:RS):bQ true e s=s:=rfl
theorem gD (e:Int) (s:RS):bQ false e s=bY e s:=rfl
theorem Ir (L:List Tk) (x:List UInt8) (p:Nat):isS L x p=((bE L p).kind == 3 && (bE L p).text == x):=by
 unfold isS bE;cases L[p]? with
 | none=>rfl
 | some t=>rfl
theorem ET (L:List Tk) (x:List UInt8) (p:Nat):eQ L x p=((bE L p).kind == 1 && (bE L p).text == x):=by
 unfold eQ bE;cases L[p]? with
 | none=>rfl
 | some t=>rfl
theorem Hf (L:List Tk) (x:List UInt8) (s:RS):goR (bQ ((bE L (atR s)).kind == 3 && (bE L (atR s)).text == x) 2 s)=bK L x s:=by
 unfold bK;by_cases h:s.bad=0
 · rw [if_pos h,jW h, <- Ir]
   cases hs:isS L x s.pos with
   | true=>rw [jO,Ad h,if_pos rfl]
   | false =>
     rw [gD,if_neg (by decide)];refine fQ ?_;unfold bY;rw [if_pos h];show ¬ (2:Int)=0;decide
 · rw [if_neg h]
   have:bQ ((bE L (atR s)).kind == 3 && (bE L (atR s)).text == x) 2 s=s:=by
    unfold bQ;split
    · rfl
    · exact nQ h
   rw [this,fQ h]
def oV (L:List Tk) (s:RS):RS:=goR (bQ (decide (1<=(bE L (atR s)).num) && decide ((bE L (atR s)).num<=16)) 1 (bQ ((bE L (atR s)).kind == 2) 2 s))
theorem gE {so:Bool} {e:Int} {s:RS} (h:¬ s.bad=0):bQ so e s=s:=by
 unfold bQ;split
 · rfl
 · exact nQ h
theorem cV {e:Int} (he:¬ e=0) {s:RS} (h:s.bad=0):¬ (bY e s).bad=0:=by unfold bY;rw [if_pos h];exact he
def l6 (s t:RS):Prop:=atR s=atR t/\s.bad=t.bad
theorem l6.refl (s:RS):l6 s s:=⟨rfl,rfl⟩
theorem Fb (L:List Tk) (s:RS):l6 (oV L s) (nU L s).2/\((oV L s).bad=0->oV L s=(nU L s).2/\(nU L s).1=(bE L (atR s)).num):=by
 unfold oV nU;by_cases h:s.bad=0
 · rw [if_pos h,jW h]
   unfold bE;cases ht:L[s.pos]? with
   | none =>
     have e:bQ ((none.getD (⟨0,[],0,0⟩:Tk)).kind == 2) 2 s=bY 2 s:=rfl;rw [e,gE (cV (by decide) h),fQ (cV (by decide) h)];exact ⟨l6.refl _,fun h'=>absurd h' (cV (by decide) h)⟩
   | some t =>
     show l6 (goR (bQ (decide (1<=t.num) && decide (t.num<=16)) 1 (bQ (t.kind == 2) 2 s))) _/\_;by_cases hk:t.kind=2
     · have e:(t.kind == 2)=true:=by rw [hk];rfl
       simp only [Option.getD_some];rw [e,jO];try simp only
       rw [if_pos hk];by_cases hn:t.num<1\/16<t.num
       · have e2:(decide (1<=t.num) && decide (t.num<=16))=false:=by
          rcases hn with hn | hn
          · rw [decide_eq_false (by omega),Bool.false_and]
          · rw [decide_eq_false (p:=t.num<=16) (by omega),Bool.and_false]
         rw [e2,gD,fQ (cV (by decide) h)];try simp only
         rw [if_pos hn];refine ⟨⟨?_,rfl⟩,fun h'=>absurd h' (cV (by decide) h)⟩;have hb:¬ (bZ (bY 1 s)).bad=0:=cV (by decide) h;rw [oN (cV (by decide) h),oN hb];rfl
       · have e2:(decide (1<=t.num) && decide (t.num<=16))=true:=by rw [decide_eq_true (by omega),decide_eq_true (by omega)];rfl
         rw [e2,jO,Ad h];try simp only
         rw [if_neg hn];exact ⟨l6.refl _,fun _=>by first | exact ⟨rfl,rfl⟩ | exact ⟨trivial,rfl⟩ | exact ⟨rfl,trivial⟩⟩
     · have e:(t.kind == 2)=false:=beq_eq_false_iff_ne.2 hk
       simp only [Option.getD_some];rw [e,gD,gE (cV (by decide) h),fQ (cV (by decide) h)];try simp only
       rw [if_neg hk];exact ⟨l6.refl _,fun h'=>absurd h' (cV (by decide) h)⟩
 · rw [if_neg h,gE h,gE h,fQ h]
   exact ⟨l6.refl _,fun h'=>absurd h' h⟩
theorem uZ {L:List Tk} {x:List UInt8} {s:RS} (h:¬ s.bad=0):¬ (bK L x s).bad=0:=by rw [iD h];exact h
theorem En {L:List Tk} {s:RS} (h:¬ s.bad=0):¬ (bC L s).2.bad=0:=by rw [gH h];exact h
theorem vQ {L:List Tk} {x:List UInt8} {s t:RS} (h:l6 s t) (he:s.bad=0->s=t):l6 (bK L x s) (bK L x t)/\((bK L x s).bad=0->bK L x s=bK L x t):=by
 by_cases hb:s.bad=0
 · rw [he hb];exact ⟨l6.refl _,fun _=>rfl⟩
 · have hc:¬ t.bad=0:=by rw [<- h.2];exact hb
   rw [iD hb,iD hc];exact ⟨h,fun h'=>absurd h' hb⟩
theorem DI {L:List Tk} {s t:RS} (h:l6 s t) (he:s.bad=0->s=t):l6 (bC L s).2 (bC L t).2/\((bC L s).2.bad=0->bC L s=bC L t):=by
 by_cases hb:s.bad=0
 · rw [he hb];exact ⟨l6.refl _,fun _=>rfl⟩
 · have hc:¬ t.bad=0:=by rw [<- h.2];exact hb
   rw [gH hb,gH hc];exact ⟨h,fun h'=>absurd h' hb⟩
def nZ (L:List Tk) (fn:List UInt8) (s:RS):RS:=if kP fn=true then bK L [44] (oV L s) else s
def oO (L:List Tk) (fn:List UInt8) (s:RS):TN×RS:=if eP fn=true then bC L s else (aR,s)
def q9 (L:List Tk) (fn:List UInt8) (s:RS):TN×RS:=if bP fn=true then bC L (bK L [44] s) else (aR,s)
def iT (L:List Tk) (fn:List UInt8) (s:RS):RS:=(q9 L fn (oO L fn (nZ L fn s)).2).2
theorem wR (L:List Tk) (fn:List UInt8) {s:RS} (h:¬ s.bad=0):iT L fn s=s:=by
 have h1:oV L s=s:=by unfold oV;rw [gE h,gE h,fQ h]
 have e1:nZ L fn s=s:=by
  unfold nZ;split
  · rw [h1,iD h]
  · rfl
 have e2:(oO L fn s).2=s:=by
  unfold oO;split
  · rw [gH h]
  · rfl
 have e3:(q9 L fn s).2=s:=by
  unfold q9;split
  · rw [iD h,gH h]
  · rfl
 unfold iT;rw [e1,e2,e3]
theorem EJ (L:List Tk) (fn:List UInt8) (hf:dD fn=true) (s:RS):l6 (iT L fn s) (dR L fn s).2/\((iT L fn s).bad=0->iT L fn s=(dR L fn s).2 /\
 (dR L fn s).1=((if kP fn=true then (bE L (atR s)).num else 0),(oO L fn (nZ L fn s)).1,(q9 L fn (oO L fn (nZ L fn s)).2).1)):=by
 by_cases hc:fn=aP
 · subst hc
   have e1:dR L aP s=((0,aR,aR),s):=if_pos rfl;rw [e1];exact ⟨l6.refl _,fun _=>by first | exact ⟨rfl,rfl⟩ | exact ⟨trivial,rfl⟩ | exact ⟨rfl,trivial⟩⟩
 have he:eP fn=true:=by unfold eP;rw [hf,beq_eq_false_iff_ne.2 hc];rfl
 have A1:dR L fn s=(let p:=if fn=cU then ((nU L s).1,bK L [44] (nU L s).2) else (0,s);let e:=bC L p.2;if fn=aQ then (let g:=bC L (bK L [44] e.2);((p.1,e.1,g.1),g.2)) else ((p.1,e.1,aR),e.2)):=if_neg hc;rw [A1];have hE:∀ u,oO L fn u=bC L u:=fun u=>if_pos he
 by_cases ht:fn=cU
 · have hb:¬ fn=aQ:=by rw [ht];decide
   have k1:kP fn=true:=by unfold kP;rw [ht];decide
   have b1:¬ bP fn=true:=by unfold bP;rw [ht];decide
   have hB:∀ u,q9 L fn u=(aR,u):=fun u=>if_neg b1
   have hK:nZ L fn s=bK L [44] (oV L s):=if_pos k1;simp only [if_pos ht,if_neg hb,if_pos k1];unfold iT;rw [hB,hE,hK];obtain ⟨l1,h1⟩:=Fb L s;obtain ⟨l2,h2⟩:=vQ (L:=L) (x:=[44]) l1 (fun h=>(h1 h).1);obtain ⟨l3,h3⟩:=DI (L:=L) l2 h2;refine ⟨l3,fun h=>⟨by rw [h3 h],?_⟩⟩;have hw:(bK L [44] (oV L s)).bad=0:=Decidable.byContradiction fun hx=>En hx h
   have ht0:(oV L s).bad=0:=Decidable.byContradiction fun hx=>uZ hx hw
   rw [(h1 ht0).2,h3 h]
 · have k1:¬ kP fn=true:=by unfold kP;rw [beq_eq_false_iff_ne.2 ht];decide
   have hK:nZ L fn s=s:=if_neg k1;simp only [if_neg ht,if_neg k1];unfold iT;rw [hK,hE];by_cases hb:fn=aQ
   · have b1:bP fn=true:=by unfold bP;rw [hb];decide
     have hB:∀ u,q9 L fn u=bC L (bK L [44] u):=fun u=>if_pos b1
     rw [hB,if_pos hb];exact ⟨l6.refl _,fun _=>by first | exact ⟨rfl,rfl⟩ | exact ⟨trivial,rfl⟩ | exact ⟨rfl,trivial⟩⟩
   · have b1:¬ bP fn=true:=by unfold bP;rw [beq_eq_false_iff_ne.2 hb];decide
     have hB:∀ u,q9 L fn u=(aR,u):=fun u=>if_neg b1
     rw [hB,if_neg hb];exact ⟨l6.refl _,fun _=>by first | exact ⟨rfl,rfl⟩ | exact ⟨trivial,rfl⟩ | exact ⟨rfl,trivial⟩⟩
inductive Aw | bad (p:Nat) (e:Int) | ok (l:List CD)
def d9 (L:List Tk):Nat->List CD->RS->Aw
 | 0,_,_=>.bad 0 0
 | f + 1, acc, s =>
   if ¬ s.bad=0 then .bad s.whr s.bad else
   if L.length<=s.pos then .ok acc else
   if eQ L (if acc.length=0 then fL else l8) s.pos=false then .bad s.pos 2 else
   if 4<=acc.length then .bad s.pos 4 else
   d9 L f (acc++[(dF L (bZ s)).1]) (dF L (bZ s)).2
def xW (L:List Tk) (c:List CD×RS):Aw:=if ¬ c.2.bad=0 then .bad c.2.whr c.2.bad else if c.2.pos<L.length then .bad c.2.pos 2 else .ok c.1
theorem BY {L:List Tk} {x:List UInt8} {p:Nat} (h:eQ L x p=true):p<L.length:=by
 unfold eQ at h;cases hp:L[p]? with
 | none=>rw [hp] at h;cases h
 | some t=>exact (List.getElem?_eq_some_iff.1 hp).1
theorem Am (L:List Tk):∀ (f:Nat) (acc:List CD) (s:RS),acc.length+f=5->acc.length<=4->s.bad=0->eQ L (if acc.length=0 then fL else l8) s.pos=true->xW L (gI L f acc s)=d9 L (f+1) acc s
 | 0,acc,s,hl,h4,hb,hw=>by omega
 | f + 1, acc, s, hl, h44, hb, hw => by
   have hlt:=BY hw;rw [d9,if_neg (not_not_intro hb),if_neg (show ¬ L.length<=s.pos by omega),hw,if_neg (by decide)];rw [gI];by_cases h4:acc.length=4
   · rw [if_pos h4,if_pos (show 4<=acc.length by omega)]
     unfold xW;rw [if_pos (cV (by decide) hb)];unfold bY;rw [if_pos hb]
   · rw [if_neg h4,if_neg (show ¬ 4<=acc.length by omega)]
     try simp only
     obtain ⟨c,t,hc⟩:∃ c t,dF L (bZ s)=(c,t):=⟨_,_,rfl⟩;rw [hc];try simp only
     by_cases hg:(t.bad == 0 && eQ L l8 t.pos)=true
     · rw [if_pos hg]
       rw [Bool.and_eq_true,beq_iff_eq] at hg;refine Am L f _ _ (by rw [List.length_append,List.length_singleton];omega) (by rw [List.length_append,List.length_singleton];omega) hg.1 ?_;rw [if_neg (by rw [List.length_append,List.length_singleton];omega)];exact hg.2
     · rw [if_neg hg]
       cases f with
       | zero=>omega
       | succ f =>
         rw [d9];unfold xW;try simp only
         by_cases ht:t.bad=0
         · rw [if_neg (not_not_intro ht),if_neg (not_not_intro ht)]
           have hw2:eQ L l8 t.pos=false:=by
            cases h:eQ L l8 t.pos with
            | false=>rfl
            | true=>exact absurd (by rw [h,Bool.and_true,beq_iff_eq];exact ht) hg
           by_cases hp:t.pos<L.length
           · rw [if_pos hp,if_neg (show ¬ L.length<=t.pos by omega),if_neg (c:=(acc++[c]).length=0) (by rw [List.length_append,List.length_singleton];omega),hw2,if_pos rfl]
           · rw [if_neg hp,if_pos (show L.length<=t.pos by omega)]
         · rw [if_pos ht,if_pos ht]
def gC (L:List Tk):RS:=goR (bQ (dD (bE L 0).text) 5 (bQ ((bE L 0).kind == 1) 2 ⟨0,0,0,0⟩))
def pS (L:List Tk):RS:=bK L [40] (gC L)
def mE (L:List Tk):RS:=bK L [41] (iT L (bE L 0).text (pS L))
def vK (L:List Tk) (l:List CD):AG :=
 let fn:=(bE L 0).text
 let s:=pS L
 ⟨⟨fn.toArray⟩,if kP fn=true then (bE L (atR s)).num else 0,(oO L fn (nZ L fn s)).1,(q9 L fn (oO L fn (nZ L fn s)).2).1,l⟩
def agS (L:List Tk):uO:=match d9 L 6 [] (mE L) with | .bad p e=>.bad p e | .ok l=>.ok (vK L l)
theorem eW {L:List Tk} {f:Nat} {acc:List CD} {s:RS} (h:¬ s.bad=0):d9 L (f+1) acc s=.bad s.whr s.bad:=by rw [d9,if_pos h]
theorem yE {L:List Tk} (h:¬ (gC L).bad=0):agS L=.bad (gC L).whr (gC L).bad:=by
 have e1:pS L=gC L:=iD h;have e2:mE L=gC L:=by unfold mE;rw [e1,wR L _ h,iD h]
 unfold agS;rw [e2,eW h]
theorem JF (L:List Tk):agL L=agS L:=by
 unfold agL;cases h0:L[0]? with
 | none =>
   have e:gC L=bY 2 ⟨0,0,0,0⟩:=by
    unfold gC bE;rw [h0];rfl
   have hb:¬ (gC L).bad=0:=by rw [e];exact cV (by decide) rfl
   rw [yE hb,e];rfl
 | some t =>
   have ht:bE L 0=t:=by unfold bE;rw [h0];rfl
   simp only;by_cases hk:t.kind=1
   · have e1:(t.kind == 1)=true:=by rw [hk];rfl
     rw [if_neg (not_not_intro hk)];cases hf:dD t.text with
     | false =>
       have e:gC L=bY 5 ⟨0,0,0,0⟩:=by
        unfold gC;rw [ht,e1,hf];rfl
       have hb:¬ (gC L).bad=0:=by rw [e];exact cV (by decide) rfl
       rw [yE hb,e,if_pos rfl];rfl
     | true =>
       have e:gC L=⟨1,0,0,0⟩:=by
        unfold gC;rw [ht,e1,hf];rfl
       have eh:pS L=bK L [40] ⟨1,0,0,0⟩:=by unfold pS;rw [e]
       rw [if_neg (by decide)];obtain ⟨s1,h1⟩:∃ s,bK L [40] ⟨1,0,0,0⟩=s:=⟨_,rfl⟩;rw [h1] at eh |-
       by_cases hb:s1.bad=0
       · rw [if_neg (not_not_intro hb)]
         obtain ⟨l2,h2⟩:=EJ L t.text hf s1;obtain ⟨l3,h3⟩:=vQ (L:=L) (x:=[41]) l2 (fun h=>(h2 h).1);have et:mE L=bK L [41] (iT L t.text s1):=by unfold mE;rw [eh,ht]
         by_cases hb3:(bK L [41] (iT L t.text s1)).bad=0
         · have ha:(iT L t.text s1).bad=0:=Decidable.byContradiction fun hx=>uZ hx hb3
           have es:=h3 hb3;have ev:=(h2 ha).2;obtain ⟨s3,hs3⟩:∃ s,bK L [41] (iT L t.text s1)=s:=⟨_,rfl⟩;rw [hs3] at es et hb3;try simp only
           rw [<- es,if_neg (not_not_intro hb3)];unfold agS;rw [et,ev]
           have er:∀ l,vK L l=⟨⟨t.text.toArray⟩,if kP t.text=true then (bE L (atR s1)).num else 0,(oO L t.text (nZ L t.text s1)).1,(q9 L t.text (oO L t.text (nZ L t.text s1)).2).1,l⟩:=fun l=>by
            unfold vK;rw [ht,eh]
           simp only [er];by_cases hl:L.length<=s3.pos
           · rw [if_pos hl,d9,if_neg (not_not_intro hb3),if_pos hl]
           · rw [if_neg hl]
             cases hw:eQ L fL s3.pos with
             | false =>
               rw [if_pos rfl,d9,if_neg (not_not_intro hb3),if_neg hl,if_pos (show ([]:List CD).length=0 from rfl),hw,if_pos rfl]
             | true =>
               rw [if_neg (by decide), <- Am L 5 [] s3 rfl (by decide) hb3 (by rw [if_pos (show ([]:List CD).length=0 from rfl)];exact hw)];unfold xW;obtain ⟨c,hc⟩:∃ c,gI L 5 [] s3=c:=⟨_,rfl⟩;rw [hc];by_cases h5:c.2.bad=0
               · rw [if_neg (not_not_intro h5),if_neg (not_not_intro h5)]
                 by_cases h6:c.2.pos<L.length
                 · rw [if_pos h6,if_pos h6]
                 · rw [if_neg h6,if_neg h6]
               · rw [if_pos h5,if_pos h5]
         · have hb4:¬ (bK L [41] (dR L t.text s1).2).bad=0:=by rw [<- l3.2];exact hb3
           try simp only
           rw [if_pos hb4];unfold agS;rw [et,eW hb3,l3.2];have:=l3.1;rw [oN hb3,oN hb4] at this;rw [this]
       · rw [if_pos hb]
         have et:mE L=s1:=by unfold mE;rw [eh,wR L _ hb,iD hb]
         unfold agS;rw [et,eW hb]
   · have e1:(t.kind == 1)=false:=beq_eq_false_iff_ne.2 hk
     have e:gC L=bY 2 ⟨0,0,0,0⟩:=by
      unfold gC;rw [ht,e1,gD,gE (cV (by decide) rfl),fQ (cV (by decide) rfl)]
     have hb:¬ (gC L).bad=0:=by rw [e];exact cV (by decide) rfl
     rw [if_pos hk,yE hb,e];rfl
def i1 (n:Nat) (s:RS):Prop:=(s.bad=0->s.pos<=n)/\s.whr<=n
theorem jS {n:Nat} {s:RS} {e:Int} (he:¬ e=0) (h:i1 n s):i1 n (bY e s):=by
 unfold bY;by_cases hb:s.bad=0
 · rw [if_pos hb];exact ⟨fun h'=>absurd h' he,h.1 hb⟩
 · rw [if_neg hb];exact h
theorem mN {n:Nat} {s:RS} (h:i1 n s) (hlt:s.bad=0->s.pos<n):i1 n (bB s):=by
 unfold bB;by_cases hb:s.bad=0
 · rw [if_pos hb]
   split
   · exact ⟨fun h'=>absurd h' (by show ¬ (4:Int)=0;decide),h.1 hb⟩
   · exact ⟨fun _=>hlt hb,h.2⟩
 · rw [if_neg hb];exact ⟨fun h'=>absurd h' hb,h.2⟩
theorem gG {n:Nat} {s:RS} (h:i1 n s) (hlt:s.bad=0->s.pos<n):i1 n (bZ s):=⟨fun hb=>hlt hb,h.2⟩
theorem Em {L:List Tk} {s:RS} (h:i1 L.length s):i1 L.length (eX L s):=by
 unfold eX;by_cases hb:s.bad=0
 · cases hs:isS L [41] s.pos with
   | true =>
     have e:(s.bad == 0 && !true)=false:=by simp
     rw [if_neg (by rw [e];decide)];exact gG h (fun _=>mL hs)
   | false =>
     have e:(s.bad == 0 && !false)=true:=by rw [hb];rfl
     rw [if_pos e];refine gG (jS (by decide) h) (fun h'=>?_);unfold bY at h';rw [if_pos hb] at h';exact absurd h' (by show ¬ (2:Int)=0;decide)
 · have e:(s.bad == 0 && !isS L [41] s.pos)=false:=by
    have:(s.bad == 0)=false:=by simpa using hb
    rw [this];rfl
   rw [if_neg (by rw [e];decide)];exact gG h (fun h'=>absurd h' hb)
theorem jN (L:List Tk):∀ (f:Nat) (md:Md) (s:RS),i1 L.length s->i1 L.length (pr L f md s).2
 | 0,_,s,h=>h
 | f + 1, .fac, s, h => by
   rw [pr];by_cases hb:s.bad=0
   · rw [if_pos hb]
     cases ht:L[s.pos]? with
     | none=>exact jS (by decide) h
     | some t =>
       have hlt:s.bad=0->s.pos<L.length:=fun _=>(List.getElem?_eq_some_iff.1 ht).1
       simp only;by_cases h2:t.kind=2
       · rw [if_pos h2];exact mN h hlt
       rw [if_neg h2];by_cases h1:t.kind=1
       · rw [if_pos h1];exact mN h hlt
       rw [if_neg h1];by_cases h45:t.text=[45]
       · rw [if_pos h45];exact jN L f .fac _ (mN h hlt)
       rw [if_neg h45];by_cases h40:t.text=[40]
       · rw [if_pos h40];exact Em (jN L f .sum _ (gG h hlt))
       rw [if_neg h40];exact jS (by decide) h
   · rw [if_neg hb];exact h
 | f + 1, .prod, s, h => by
   rw [pr];exact jN L f _ _ (jN L f .fac s h)
 | f + 1, .prodL n, s, h => by
   rw [pr];split
   · rename_i hc
     simp only [Bool.and_eq_true] at hc;exact jN L f _ _ (jN L f .fac _ (mN h (fun _=>oK hc.2)))
   · exact h
 | f + 1, .sum, s, h => by
   rw [pr];exact jN L f _ _ (jN L f .prod s h)
 | f + 1, .sumL n, s, h => by
   rw [pr];split
   · rename_i hc
     simp only [Bool.and_eq_true] at hc;exact jN L f _ _ (jN L f .prod _ (mN h (fun _=>oL hc.2)))
   · exact h
theorem tD {L:List Tk} {p:Nat} (hp:p<=L.length):(∀ t q,ofL L p=.ok t q->q<=L.length)/\(∀ q e,ofL L p=.bad q e->q<=L.length/\¬ e=0):=by
 have h:i1 L.length (pE L .sum ⟨p,0,0,0⟩).2:=jN L _ _ _ ⟨fun _=>hp,Nat.zero_le _⟩;unfold ofL;by_cases hb:(pE L .sum ⟨p,0,0,0⟩).2.bad=0
 · rw [if_pos hb]
   refine ⟨fun t q e=>?_,fun q e he=>by cases he⟩;cases e;exact h.1 hb
 · rw [if_neg hb]
   refine ⟨fun t q e=>(by cases e),fun q e he=>?_⟩;cases he;exact ⟨h.2,hb⟩
theorem oS {L:List Tk} {x:List UInt8} {s:RS} (h:i1 L.length s):i1 L.length (bK L x s):=by
 unfold bK;by_cases hb:s.bad=0
 · rw [if_pos hb]
   cases hs:isS L x s.pos with
   | true=>rw [if_pos rfl];exact gG h (fun _=>mL hs)
   | false=>rw [if_neg (by decide)];exact jS (by decide) h
 · rw [if_neg hb];exact h
theorem kY {L:List Tk} {s:RS} (h:i1 L.length s):i1 L.length (bC L s).2:=by
 unfold bC;by_cases hb:s.bad=0
 · rw [if_pos hb]
   have:=tD (h.1 hb);cases ho:ofL L s.pos with
   | ok t q=>exact ⟨fun _=>this.1 t q ho,h.2⟩
   | bad q e=>exact ⟨fun h'=>absurd h' (this.2 q e ho).2,(this.2 q e ho).1⟩
 · rw [if_neg hb];exact h
theorem JT {L:List Tk} {p:Nat} (h:opB L p=true):p<L.length:=by
 unfold opB at h;split at h
 · rename_i t ht
   exact (List.getElem?_eq_some_iff.1 ht).1
 · cases h
theorem G6 {L:List Tk} {s:RS} (h:i1 L.length s):i1 L.length (nU L s).2:=by
 unfold nU;by_cases hb:s.bad=0
 · rw [if_pos hb]
   cases ht:L[s.pos]? with
   | none=>exact jS (by decide) h
   | some t =>
     have hlt:s.pos<L.length:=(List.getElem?_eq_some_iff.1 ht).1;simp only;by_cases h2:t.kind=2
     · rw [if_pos h2]
       simp only;by_cases hk:t.num<1\/16<t.num
       · rw [if_pos hk]
         refine gG (jS (by decide) h) (fun h'=>?_);unfold bY at h';rw [if_pos hb] at h';exact absurd h' (by show ¬ (1:Int)=0;decide)
       · rw [if_neg hk];exact gG h (fun _=>hlt)
     · rw [if_neg h2];exact jS (by decide) h
 · rw [if_neg hb];exact h
def eN (G:Nat->Prop) (w:World) (a:Option Addr) (l:List CD):Prop:=l=[]\/∃ b off,a=some ⟨b,off,none⟩/\G b/\b<w.heap.size/\∀ j x,l[j]? = some x ->
 ∃ a1 c1 a2 c2, (w.cell? ⟨b, off + j * 9, none⟩ = some (.string x.op) /\ w.cell? ⟨b, off + j * 9 + 1, none⟩ = some (.string x.a.op) /\ w.cell? ⟨b, off + j * 9 + 1 + 1, none⟩ = some (.string x.a.nm) /\ w.cell? ⟨b, off + j * 9 + 1 + 2, none⟩ = some (.int .i64 x.a.n) /\
   w.cell? ⟨b,off+j*9+1+3,none⟩=some (.slice a1 x.a.ks.len c1)/\w.cell? ⟨b,off+j*9+5,none⟩=some (.string x.b.op)/\w.cell? ⟨b,off+j*9+5+1,none⟩=some (.string x.b.nm)/\w.cell? ⟨b,off+j*9+5+2,none⟩=some (.int .i64 x.b.n) /\
   w.cell? ⟨b,off+j*9+5+3,none⟩=some (.slice a2 x.b.ks.len c2))/\aI G w a1 x.a.ks/\aI G w a2 x.b.ks
theorem eN.keptS {S G:Nat->Prop} {w w':World} {a:Option Addr} {l:List CD} (h:eN G w a l) (hk:aL S w w') (hS:∀ k,S k->¬ G k):eN G w' a l :=
 Or.imp id (fun ⟨b,off,e,hg,hlt,hc⟩=>⟨b,off,e,hg,Nat.lt_of_lt_of_le hlt hk.size,fun j x hj=>by
  have hb:¬ S b:=fun hs=>hS b hs hg
  obtain ⟨a1,c1,a2,c2,⟨h0,h1,h2,h3,h4,h5,h6,h7,h8⟩,r1,r2⟩:=hc j x hj;exact ⟨a1,c1,a2,c2,⟨hk.cell h0 hb,hk.cell h1 hb,hk.cell h2 hb,hk.cell h3 hb,hk.cell h4 hb,hk.cell h5 hb,hk.cell h6 hb,hk.cell h7 hb,hk.cell h8 hb⟩,r1.keptS hk hS,r2.keptS hk hS⟩⟩) h
theorem eN.kept {G:Nat->Prop} {w w':World} {a:Option Addr} {l:List CD} (h:eN G w a l) (hb:Below w.heap.size w w'):eN G w' a l:=h.keptS (S:=fun _=>False) (aE hb _) (fun _ h=>h.elim)
theorem eN.imp {G H:Nat->Prop} {w:World} {a:Option Addr} {l:List CD} (h:eN G w a l) (hG:∀ b,b<w.heap.size->G b->H b):eN H w a l :=
 Or.imp id (fun ⟨b,off,e,hg,hlt,hc⟩=>⟨b,off,e,hG b hlt hg,hlt,fun j x hj=>by
  obtain ⟨a1,c1,a2,c2,h0,r1,r2⟩:=hc j x hj;exact ⟨a1,c1,a2,c2,h0,r1.imp hG,r2.imp hG⟩⟩) h
structure PA where
 ea:Option Addr
 ec:Nat
 ga:Option Addr
 gc:Nat
 wa:Option Addr
 wc:Nat
abbrev agC (x:AG) (p:PA):Array Value:=#[.string x.fn,.int .i64 x.k,.string x.e.op,.string x.e.nm,.int .i64 x.e.n,.slice p.ea x.e.ks.len p.ec,.string x.g.op,.string x.g.nm,.int .i64 x.g.n,.slice p.ga x.g.ks.len p.gc,.slice p.wa x.wh.length p.wc]
abbrev agV (x:AG) (p:PA):Value:=.agg (agC x p)
abbrev agO (x:AG) (p:PA):Obj:=.cells (agC x p) 37
structure aJ (G:Nat->Prop) (w:World) (x:AG) (p:PA):Prop where
 e:aI G w p.ea x.e.ks
 g:aI G w p.ga x.g.ks
 c:eN G w p.wa x.wh
theorem aJ.kept {G:Nat->Prop} {w w':World} {x:AG} {p:PA} (h:aJ G w x p) (hb:Below w.heap.size w w'):aJ G w' x p:=⟨h.e.kept hb,h.g.kept hb,h.c.kept hb⟩
theorem aJ.keptS {S G:Nat->Prop} {w w':World} {x:AG} {p:PA} (h:aJ G w x p) (hk:aL S w w') (hS:∀ k,S k->¬ G k):aJ G w' x p:=⟨h.e.keptS hk hS,h.g.keptS hk hS,h.c.keptS hk hS⟩
theorem aJ.imp {G H:Nat->Prop} {w:World} {x:AG} {p:PA} (h:aJ G w x p) (hG:∀ b,b<w.heap.size->G b->H b):aJ H w x p:=⟨h.e.imp hG,h.g.imp hG,h.c.imp hG⟩
theorem aD {W:World} {B:Nat} {v0 v1 v2 v3 v4 v5 v6 v7 v8 v9 v10:Value} {t:TypeId} (h:W.heap[B]? = some (.cells #[v0,v1,v2,v3,v4,v5,v6,v7,v8,v9,v10] t (0,0))) :
 W.cell? ⟨B,0,none⟩=some v0/\W.cell? ⟨B,1,none⟩=some v1/\W.cell? ⟨B,2,none⟩=some v2/\W.cell? ⟨B,3,none⟩=some v3/\W.cell? ⟨B,4,none⟩=some v4/\W.cell? ⟨B,5,none⟩=some v5/\W.cell? ⟨B,6,none⟩=some v6/\W.cell? ⟨B,7,none⟩=some v7/\W.cell? ⟨B,8,none⟩=some v8/\W.cell? ⟨B,9,none⟩=some v9/\W.cell? ⟨B,10,none⟩=some v10:=by
 refine ⟨?_,?_,?_,?_,?_,?_,?_,?_,?_,?_,?_⟩ <;> simp [World.cell?,h]
structure SzG (x:AG):Prop where
 e:SzF x.e.f
 g:SzF x.g.f
 c:∀ d∈x.wh,SzF d.a.f/\SzF d.b.f
structure KA (G:Nat->Prop) (w:World) (x:AG) (p:PA) (V:World):Prop where
 b:Below w.heap.size w V
 z:w.heap.size<=V.heap.size
 n:V.heap[w.heap.size]? = some (agO x p)
 r:aJ G V x p
theorem KA.step {G:Nat->Prop} {w V V':World} {x:AG} {p:PA} (h:KA G w x p V) (hb:Below V.heap.size V V'):KA G w x p V' :=
 ⟨h.b.trans (hb.mono h.z),Nat.le_trans h.z hb.size,(hb.block _ (aC h.n)).trans h.n,h.r.kept hb⟩
theorem tP {G:Nat->Prop} {w:World} {x:AG} {p:PA} (hr:aJ G w x p):KA G w x p (w.alloc (agO x p)) :=
 ⟨(Below.refl _ _).alloc (Nat.le_refl _) _,by rw [World.size_alloc];omega,heap_alloc_new w _,hr.kept ((Below.refl _ _).alloc (Nat.le_refl _) _)⟩
theorem Du (o:ByteArray) (w:World):Calls Tryz.prog 33 #[.string o] w fun e w'=>e=.returned (.bool (dD o.data.toList))/\w=w':=by
 cases h0:(o.data.toList == aP) with
 | true =>
   have g0:=bG h0;unfold aP at g0;have R:dD o.data.toList=true:=by unfold dD;rw [h0];simp
   rw [R];clear R h0;go_enter Tryz.func33,Tryz.ntmps33
   go_wp2_with fail
   go_ret;exact ⟨rfl,rfl⟩
 | false =>
   cases h1:(o.data.toList == jY) with
   | true =>
     have g0:=aG h0;unfold aP at g0;have g1:=bG h1;unfold jY at g1;have R:dD o.data.toList=true:=by unfold dD;rw [h1];simp
     rw [R];clear R h0 h1;go_enter Tryz.func33,Tryz.ntmps33
     go_wp2_with fail
     go_ret;exact ⟨rfl,rfl⟩
   | false =>
     cases h2:(o.data.toList == kA) with
     | true =>
       have g0:=aG h0;unfold aP at g0;have g1:=aG h1;unfold jY at g1;have g2:=bG h2;unfold kA at g2;have R:dD o.data.toList=true:=by unfold dD;rw [h2];simp
       rw [R];clear R h0 h1 h2;go_enter Tryz.func33,Tryz.ntmps33
       go_wp2_with fail
       go_ret;exact ⟨rfl,rfl⟩
     | false =>
       cases h3:(o.data.toList == lA) with
       | true =>
         have g0:=aG h0;unfold aP at g0;have g1:=aG h1;unfold jY at g1;have g2:=aG h2;unfold kA at g2;have g3:=bG h3;unfold lA at g3;have R:dD o.data.toList=true:=by unfold dD;rw [h3];simp
         rw [R];clear R h0 h1 h2 h3;go_enter Tryz.func33,Tryz.ntmps33
         go_wp2_with fail
         go_ret;exact ⟨rfl,rfl⟩
       | false =>
         cases h4:(o.data.toList == aQ) with
         | true =>
           have g0:=aG h0;unfold aP at g0;have g1:=aG h1;unfold jY at g1;have g2:=aG h2;unfold kA at g2;have g3:=aG h3;unfold lA at g3;have g4:=bG h4;unfold aQ at g4;have R:dD o.data.toList=true:=by unfold dD;rw [h4];simp
           rw [R];clear R h0 h1 h2 h3 h4;go_enter Tryz.func33,Tryz.ntmps33
           go_wp2_with fail
           go_ret;exact ⟨rfl,rfl⟩
         | false =>
           cases h5:(o.data.toList == cU) with
           | true =>
             have g0:=aG h0;unfold aP at g0;have g1:=aG h1;unfold jY at g1;have g2:=aG h2;unfold kA at g2;have g3:=aG h3;unfold lA at g3;have g4:=aG h4;unfold aQ at g4;have g5:=bG h5;unfold cU at g5;have R:dD o.data.toList=true:=by unfold dD;rw [h5];simp
             rw [R];clear R h0 h1 h2 h3 h4 h5;go_enter Tryz.func33,Tryz.ntmps33
             go_wp2_with fail
             go_ret;exact ⟨rfl,rfl⟩
           | false =>
             have g0:=aG h0;have g1:=aG h1;have g2:=aG h2;have g3:=aG h3;have g4:=aG h4;have g5:=aG h5;unfold aP at g0;unfold jY at g1;unfold kA at g2;unfold lA at g3;unfold aQ at g4;unfold cU at g5;rw [show dD o.data.toList=false by unfold dD;rw [h0,h1,h2,h3,h4,h5];rfl];clear h0 h1 h2 h3 h4 h5;go_enter Tryz.func33,Tryz.ntmps33
             go_wp2_with fail
             go_ret;exact ⟨rfl,rfl⟩
abbrev agP (x:AG) (p:PA):Obj:=.cells (agC x p) 28
def qT (t:TN):Bool:=decide (0<=jQ t 60)
def rV:List CD->Bool
 | []=>true
 | d::r=>decide (d.op.size<=20) && qT d.a && qT d.b && rV r
def Bm (x:AG):Bool:=decide (x.fn.size<=20) && qT x.e && qT x.g && decide (x.wh.length<=8) && rV x.wh
structure LnG (x:AG):Prop where
 e:mS x.e.f
 g:mS x.g.f
 c:∀ d∈x.wh,mS d.a.f/\mS d.b.f
 fn:x.fn.size<=9223372036854775807
 op:∀ d∈x.wh,d.op.size<=9223372036854775807
 wh:x.wh.length<=9223372036854775807
structure KP9 (G:Nat->Prop) (w:World) (x:AG) (p:PA) (V:World):Prop where
 b:Below w.heap.size w V
 z:w.heap.size<=V.heap.size
 n:V.heap[w.heap.size]? = some (agP x p)
 r:aJ G V x p
theorem KP9.step {G:Nat->Prop} {w V V':World} {x:AG} {p:PA} (h:KP9 G w x p V) (hb:Below V.heap.size V V'):KP9 G w x p V' :=
 ⟨h.b.trans (hb.mono h.z),Nat.le_trans h.z hb.size,(hb.block _ (aC h.n)).trans h.n,h.r.kept hb⟩
theorem lQ {G:Nat->Prop} {w:World} {x:AG} {p:PA} (hr:aJ G w x p):KP9 G w x p (w.alloc (agP x p)) :=
 ⟨(Below.refl _ _).alloc (Nat.le_refl _) _,by rw [World.size_alloc];omega,heap_alloc_new w _,hr.kept ((Below.refl _ _).alloc (Nat.le_refl _) _)⟩
theorem Af {G:Nat->Prop} (x:AG) (p:PA) (w:World) (hL:LnG x) (hr:aJ G w x p):Calls Tryz.prog 14 #[agV x p] w fun e w'=>e=.returned (.bool (Bm x))/\Below w.heap.size w w':=by
 have K0:=lQ hr;generalize hW:w.alloc (agP x p)=W at K0;have HW:=aA hW;have HK:=aA K0;have HL:=aA hL;obtain ⟨r,hR⟩:∃ r,Bm x=r:=⟨_,rfl⟩;rw [hR];unfold Bm at hR;have hfs:=hL.fn;have hwl:=hL.wh;obtain ⟨z1,hz1⟩:∃ z,qT x.e=z:=⟨_,rfl⟩;obtain ⟨z2,hz2⟩:∃ z,qT x.g=z:=⟨_,rfl⟩;rw [hz1,hz2] at hR;have C1:=aA (fun V (hV:Below W.heap.size W V)=>sC p.ec hL.e (HK.out.r.e.kept hV));have C2:=aA (fun V (hV:Below W.heap.size W V)=>sC p.gc hL.g (HK.out.r.g.kept hV));unfold qT at hz1 hz2;rw [hz1] at C1;rw [hz2] at C2;have HR:=aA hR;clear hW K0 hL hr hR hz1 hz2;obtain ⟨m0,m1,m2,m3,m4,m5,m6,m7,m8,m9,m10⟩:=aD HK.out.n;go_enter Tryz.func14,Tryz.ntmps14
 go_upto_region 1 with fail
 rw [HW.out];by_cases ho:x.fn.size<=20
 · have o1:¬ (20:Int)<(x.fn.size:Int):=by omega
   have o2:decide (20<x.fn.size)=false:=decide_eq_false (by omega);have HR0:=aA (show (z1 && z2 && decide (x.wh.length<=8) && rV x.wh)=r by rw [<- HR.out,decide_eq_true ho,Bool.true_and]);clear ho HR;go_wp2_with fail
   refine (C1.out W (Below.refl _ _)).mono ?_;rintro e v1 ⟨rfl,hb⟩;have K1:=aA (HK.out.step hb);have B1:=aA hb;clear hb m0 m1 m2 m3 m4 m5 m6 m7 m8 m9 m10;obtain ⟨m0,m1,m2,m3,m4,m5,m6,m7,m8,m9,m10⟩:=aD K1.out.n;cases z1 with
   | false =>
     have TR:=aA (show false=r by rw [<- HR0.out];rfl);go_wp2_with fail
     go_ret;exact ⟨congrArg (fun z=>Ending.returned (.bool z)) TR.out,K1.out.b⟩
   | true =>
     have HR1:=aA (show (z2 && decide (x.wh.length<=8) && rV x.wh)=r by rw [<- HR0.out,Bool.true_and]);go_wp2_with fail
     refine (C2.out v1 B1.out).mono ?_;rintro e v2 ⟨rfl,hb⟩;have K3:=aA (K1.out.step hb);clear hb m0 m1 m2 m3 m4 m5 m6 m7 m8 m9 m10;obtain ⟨m0,m1,m2,m3,m4,m5,m6,m7,m8,m9,m10⟩:=aD K3.out.n;cases z2 with
     | false =>
       have TR:=aA (show false=r by rw [<- HR1.out];rfl);go_wp2_with fail
       go_ret;exact ⟨congrArg (fun z=>Ending.returned (.bool z)) TR.out,K3.out.b⟩
     | true =>
       by_cases hl:x.wh.length<=8
       · have l1:¬ (8:Int)<(x.wh.length:Int):=by omega
         have l2:decide (8<x.wh.length)=false:=decide_eq_false (by omega);have T0:=aA (show rV (x.wh.drop 0)=r by rw [List.drop_zero, <- HR1.out,decide_eq_true hl];rfl);clear hl HR1 HR0;go_wp2_with fail
         clear m0 m1 m2 m3 m4 m5 m6 m7 m8 m9 m10;go_loopw [3] (fun i wr=>∃ (k:Nat),i=.int .i64 k/\k<=x.wh.length/\Hid (rV (x.wh.drop k)=r)/\Hid (KP9 G w x p wr)) (fun i _=>x.wh.length-(intOf i).toNat)
         case atStart=>exact ⟨0,rfl,Nat.zero_le _,T0,K3⟩
         case round =>
          obtain ⟨k,rfl,hk,HC,HK⟩:=hrel;obtain ⟨m0,m1,m2,m3,m4,m5,m6,m7,m8,m9,m10⟩:=aD HK.out.n;by_cases hlt:k<x.wh.length
          · obtain ⟨d,hd⟩:∃ d,x.wh[k]? = some d:=⟨_,List.getElem?_eq_getElem hlt⟩
            have hne:¬ x.wh=[]:=fun e=>by rw [e] at hlt;simp at hlt
            obtain ⟨b,off,hwa', -,hbl,hcc⟩:=HK.out.r.c.resolve_left hne;have hwa:=aA hwa';clear hwa';obtain ⟨a1,c1,a2,c2,⟨p0,p1,p2,p3,p4,p5,p6,p7,p8⟩,r1,r2⟩:=hcc k d hd
            have hdr:x.wh.drop k=d::x.wh.drop (k+1):=by
             rw [List.drop_eq_getElem_cons hlt];have:=List.getElem?_eq_getElem hlt;rw [this] at hd;rw [Option.some.inj hd]
            have hC:=HC.out;rw [hdr,rV] at hC;have hsz:=HL.out.c d (List.mem_of_getElem? hd);have hos:=HL.out.op d (List.mem_of_getElem? hd);have A1:=aA (fun V (hV:Below wr.heap.size wr V)=>sC c1 hsz.1 (r1.kept hV));have A2:=aA (fun V (hV:Below wr.heap.size wr V)=>sC c2 hsz.2 (r2.kept hV))
            have CE:=aA (p:=∀ V,Below wr.heap.size wr V->(V.cell? ⟨b,off+k*9,none⟩=some (.string d.op)/\V.cell? ⟨b,off+k*9+1,none⟩=some (.string d.a.op)/\V.cell? ⟨b,off+k*9+1+1,none⟩=some (.string d.a.nm)/\V.cell? ⟨b,off+k*9+1+2,none⟩=some (.int .i64 d.a.n)/\V.cell? ⟨b,off+k*9+1+3,none⟩=some (.slice a1 d.a.ks.len c1)/\V.cell? ⟨b,off+k*9+5,none⟩=some (.string d.b.op)/\V.cell? ⟨b,off+k*9+5+1,none⟩=some (.string d.b.nm)/\V.cell? ⟨b,off+k*9+5+2,none⟩=some (.int .i64 d.b.n)/\V.cell? ⟨b,off+k*9+5+3,none⟩=some (.slice a2 d.b.ks.len c2))) (fun V hV =>
             ⟨(hV.cell (p:=⟨b,_,none⟩) hbl).trans p0,(hV.cell (p:=⟨b,_,none⟩) hbl).trans p1,(hV.cell (p:=⟨b,_,none⟩) hbl).trans p2,(hV.cell (p:=⟨b,_,none⟩) hbl).trans p3,(hV.cell (p:=⟨b,_,none⟩) hbl).trans p4,(hV.cell (p:=⟨b,_,none⟩) hbl).trans p5,(hV.cell (p:=⟨b,_,none⟩) hbl).trans p6,(hV.cell (p:=⟨b,_,none⟩) hbl).trans p7,(hV.cell (p:=⟨b,_,none⟩) hbl).trans p8⟩)
            obtain ⟨z1,hz1⟩:∃ z,qT d.a=z:=⟨_,rfl⟩;obtain ⟨z2,hz2⟩:∃ z,qT d.b=z:=⟨_,rfl⟩;rw [hz1,hz2] at hC;unfold qT at hz1 hz2;rw [hz1] at A1;rw [hz2] at A2;have HD:=aA hC;rw [hwa.out] at m10;have b1:(k:Int)<(x.wh.length:Int):=by omega
            have b2:(0:Int)<=(k:Int):=by omega
            have b3:((k:Int)).toNat=k:=by omega
            clear hd hne hcc hdr hsz r1 r2 hz1 hz2 hC;by_cases ho:d.op.size<=20
            · have o1:¬ (20:Int)<(d.op.size:Int):=by omega
              have o2:decide (20<d.op.size)=false:=decide_eq_false (by omega);have HD0:=aA (show (z1 && z2 && rV (x.wh.drop (k+1)))=r by rw [<- HD.out,decide_eq_true ho,Bool.true_and]);clear ho HD;go_wp2_with fail
              refine (A1.out wr (Below.refl _ _)).mono ?_;rintro e v2 ⟨rfl,hb⟩;have K4:=aA (HK.out.step hb);have B2:=aA hb;clear hb p0 p1 p2 p3 p4 p5 p6 p7 p8 m0 m1 m2 m3 m4 m5 m6 m7 m8 m9 m10;obtain ⟨m0,m1,m2,m3,m4,m5,m6,m7,m8,m9,m10⟩:=aD K4.out.n;obtain ⟨p0,p1,p2,p3,p4,p5,p6,p7,p8⟩:=CE.out v2 B2.out;rw [hwa.out] at m10;cases z1 with
              | false =>
                have TR:=aA (show false=r by rw [<- HD0.out];rfl);go_wp2_with fail
                go_ret;exact ⟨congrArg (fun z=>Ending.returned (.bool z)) TR.out,K4.out.b⟩
              | true =>
                have HD1:=aA (show (z2 && rV (x.wh.drop (k+1)))=r by rw [<- HD0.out,Bool.true_and]);go_wp2_with fail
                refine (A2.out v2 B2.out).mono ?_;rintro e v3 ⟨rfl,hb⟩;have K5:=aA (K4.out.step hb);clear hb;cases z2 with
                | false =>
                  have TR:=aA (show false=r by rw [<- HD1.out];rfl);go_wp2_with fail
                  go_ret;exact ⟨congrArg (fun z=>Ending.returned (.bool z)) TR.out,K5.out.b⟩
                | true =>
                  have HD2:=aA (show rV (x.wh.drop (k+1))=r by rw [<- HD1.out,Bool.true_and]);go_wp2_with fail
                  go_roundw
                  case rel=>exact ⟨k+1,by go_num,by omega,HD2,K5⟩
                  case measure=>simp [intOf];omega
            · have o1:(20:Int)<(d.op.size:Int):=by omega
              have o2:decide (20<d.op.size)=true:=decide_eq_true (by omega);have TR:=aA (show false=r by rw [<- HD.out,decide_eq_false ho];rfl);go_wp2_with fail
              go_ret;exact ⟨congrArg (fun z=>Ending.returned (.bool z)) TR.out,HK.out.b⟩
          · have TR:=aA (show true=r by rw [<- HC.out,List.drop_of_length_le (by omega)];rfl)
            have b1:¬ (k:Int)<(x.wh.length:Int):=by omega
            go_wp2_with fail
            go_ret;exact ⟨congrArg (fun z=>Ending.returned (.bool z)) TR.out,HK.out.b⟩
       · have l1:(8:Int)<(x.wh.length:Int):=by omega
         have l2:decide (8<x.wh.length)=true:=decide_eq_true (by omega);have TR:=aA (show false=r by rw [<- HR1.out,decide_eq_false hl];rfl);go_wp2_with fail
         go_ret;exact ⟨congrArg (fun z=>Ending.returned (.bool z)) TR.out,K3.out.b⟩
 · have o1:(20:Int)<(x.fn.size:Int):=by omega
   have o2:decide (20<x.fn.size)=true:=decide_eq_true (by omega);have TR:=aA (show false=r by rw [<- HR.out,decide_eq_false ho];rfl);go_wp2_with fail
   go_ret;exact ⟨congrArg (fun z=>Ending.returned (.bool z)) TR.out,HK.out.b⟩
abbrev ptV (x:List UInt8):Value:=.agg #[.bool (kP x),.bool (eP x),.bool (bP x)]
abbrev ptO (k e b:Bool):Obj:=.cells #[.bool k,.bool e,.bool b] 102
theorem cS {W:World} {B:Nat} {x0 x1 x2:Value} {t:TypeId} (h:W.heap[B]? = some (.cells #[x0,x1,x2] t (0,0))) :
 (W.cell? ⟨B,0,none⟩=some x0/\W.cell? ⟨B,1,none⟩=some x1/\W.cell? ⟨B,2,none⟩=some x2)/\W.frozen? ⟨B,0,none⟩=false/\W.frozen? ⟨B,1,none⟩=false/\W.frozen? ⟨B,2,none⟩=false:=by
 refine ⟨⟨?_,?_,?_⟩,?_,?_,?_⟩ <;> simp [World.cell?,World.frozen?,h]
theorem gN {W:World} {B:Nat} {x0 x1 x2:Value} {t:TypeId} (h:W.heap[B]? = some (.cells #[x0,x1,x2] t (0,0))) (v0 v1 v2:Value) :
 (((W.setCell ⟨B,0,none⟩ v0).setCell ⟨B,1,none⟩ v1).setCell ⟨B,2,none⟩ v2).heap[B]? = some (.cells #[v0,v1,v2] t (0,0)):=by
 have h0:=heap_setCell_same W B 0 _ t v0 h;have g0:(W.setCell ⟨B,0,none⟩ v0).heap[B]? = some (.cells #[v0,x1,x2] t (0,0)):=by simpa using h0
 have h1:=heap_setCell_same _ B 1 _ t v1 g0;have g1:((W.setCell ⟨B,0,none⟩ v0).setCell ⟨B,1,none⟩ v1).heap[B]? = some (.cells #[v0,v1,x2] t (0,0)):=by simpa using h1
 have h2:=heap_setCell_same _ B 2 _ t v2 g1;simpa using h2
theorem gT (W:World) (B:Nat) (v0 v1 v2:Value):aL (· = B) W (((W.setCell ⟨B,0,none⟩ v0).setCell ⟨B,1,none⟩ v1).setCell ⟨B,2,none⟩ v2) :=
 (((aL.refl (· = B) W).setCell (p:=⟨B,0,none⟩) (.inl rfl) v0).setCell (p:=⟨B,1,none⟩) (.inl rfl) v1).setCell (p:=⟨B,2,none⟩) (.inl rfl) v2
theorem i8 (o:ByteArray) (w:World):Calls Tryz.prog 44 #[.string o] w fun e w'=>e=.returned (.tuple #[ptV o.data.toList,.bool (dD o.data.toList)])/\Below w.heap.size w w':=by
 unfold ptV;have B1:=(Below.refl w.heap.size w).alloc (Nat.le_refl _) (ptO false false false);have N1:=heap_alloc_new w (ptO false false false);have hs0:(w.alloc (ptO false false false)).heap.size=w.heap.size+1:=World.size_alloc _ _;generalize hW:w.alloc (ptO false false false)=W at *;have HW:=aA hW;have HB:=aA B1;have HN:=aA N1;obtain ⟨⟨m0,m1,m2⟩,f0,f1,f2⟩:=cS N1;clear hW B1 N1;cases h0:(o.data.toList == aP) with
 | true =>
   have g0:=bG h0;unfold aP at g0;have hE:o.data.toList=aP:=by simpa using h0
   rw [show kP o.data.toList=false by rw [hE];decide,show eP o.data.toList=false by rw [hE];decide,show bP o.data.toList=false by rw [hE];decide,show dD o.data.toList=true by rw [hE];decide];clear hE;clear h0;go_enter Tryz.func44,Tryz.ntmps44
   go_upto_region 1 with fail
   rw [HW.out];go_wp2_with fail
   obtain ⟨⟨d0,d1,d2⟩, -⟩:=cS (gN HN.out (.bool false) (.bool false) (.bool false));exact bodyPost_ret (v:=.tuple #[.agg #[.bool false,.bool false,.bool false],.bool true]) (by simp [results,Tryz.results44,go_sem,d0,d1,d2]) rfl ⟨rfl,HB.out.trans ((gT W w.heap.size _ _ _).below (fun i hi=>by omega) (by omega))⟩
 | false =>
   cases h1:(o.data.toList == jY) with
   | true =>
     have g0:=aG h0;unfold aP at g0;have g1:=bG h1;unfold jY at g1;have hE:o.data.toList=jY:=by simpa using h1
     rw [show kP o.data.toList=false by rw [hE];decide,show eP o.data.toList=true by rw [hE];decide,show bP o.data.toList=false by rw [hE];decide,show dD o.data.toList=true by rw [hE];decide];clear hE;clear h0 h1;go_enter Tryz.func44,Tryz.ntmps44
     go_upto_region 1 with fail
     rw [HW.out];go_wp2_with fail
     obtain ⟨⟨d0,d1,d2⟩, -⟩:=cS (gN HN.out (.bool false) (.bool true) (.bool false));exact bodyPost_ret (v:=.tuple #[.agg #[.bool false,.bool true,.bool false],.bool true]) (by simp [results,Tryz.results44,go_sem,d0,d1,d2]) rfl ⟨rfl,HB.out.trans ((gT W w.heap.size _ _ _).below (fun i hi=>by omega) (by omega))⟩
   | false =>
     cases h2:(o.data.toList == kA) with
     | true =>
       have g0:=aG h0;unfold aP at g0;have g1:=aG h1;unfold jY at g1;have g2:=bG h2;unfold kA at g2;have hE:o.data.toList=kA:=by simpa using h2
       rw [show kP o.data.toList=false by rw [hE];decide,show eP o.data.toList=true by rw [hE];decide,show bP o.data.toList=false by rw [hE];decide,show dD o.data.toList=true by rw [hE];decide];clear hE;clear h0 h1 h2;go_enter Tryz.func44,Tryz.ntmps44
       go_upto_region 1 with fail
       rw [HW.out];go_wp2_with fail
       obtain ⟨⟨d0,d1,d2⟩, -⟩:=cS (gN HN.out (.bool false) (.bool true) (.bool false));exact bodyPost_ret (v:=.tuple #[.agg #[.bool false,.bool true,.bool false],.bool true]) (by simp [results,Tryz.results44,go_sem,d0,d1,d2]) rfl ⟨rfl,HB.out.trans ((gT W w.heap.size _ _ _).below (fun i hi=>by omega) (by omega))⟩
     | false =>
       cases h3:(o.data.toList == lA) with
       | true =>
         have g0:=aG h0;unfold aP at g0;have g1:=aG h1;unfold jY at g1;have g2:=aG h2;unfold kA at g2;have g3:=bG h3;unfold lA at g3;have hE:o.data.toList=lA:=by simpa using h3
         rw [show kP o.data.toList=false by rw [hE];decide,show eP o.data.toList=true by rw [hE];decide,show bP o.data.toList=false by rw [hE];decide,show dD o.data.toList=true by rw [hE];decide];clear hE;clear h0 h1 h2 h3;go_enter Tryz.func44,Tryz.ntmps44
         go_upto_region 1 with fail
         rw [HW.out];go_wp2_with fail
         obtain ⟨⟨d0,d1,d2⟩, -⟩:=cS (gN HN.out (.bool false) (.bool true) (.bool false));exact bodyPost_ret (v:=.tuple #[.agg #[.bool false,.bool true,.bool false],.bool true]) (by simp [results,Tryz.results44,go_sem,d0,d1,d2]) rfl ⟨rfl,HB.out.trans ((gT W w.heap.size _ _ _).below (fun i hi=>by omega) (by omega))⟩
       | false =>
         cases h4:(o.data.toList == aQ) with
         | true =>
           have g0:=aG h0;unfold aP at g0;have g1:=aG h1;unfold jY at g1;have g2:=aG h2;unfold kA at g2;have g3:=aG h3;unfold lA at g3;have g4:=bG h4;unfold aQ at g4;have hE:o.data.toList=aQ:=by simpa using h4
           rw [show kP o.data.toList=false by rw [hE];decide,show eP o.data.toList=true by rw [hE];decide,show bP o.data.toList=true by rw [hE];decide,show dD o.data.toList=true by rw [hE];decide];clear hE;clear h0 h1 h2 h3 h4;go_enter Tryz.func44,Tryz.ntmps44
           go_upto_region 1 with fail
           rw [HW.out];go_wp2_with fail
           obtain ⟨⟨d0,d1,d2⟩, -⟩:=cS (gN HN.out (.bool false) (.bool true) (.bool true));exact bodyPost_ret (v:=.tuple #[.agg #[.bool false,.bool true,.bool true],.bool true]) (by simp [results,Tryz.results44,go_sem,d0,d1,d2]) rfl ⟨rfl,HB.out.trans ((gT W w.heap.size _ _ _).below (fun i hi=>by omega) (by omega))⟩
         | false =>
           cases h5:(o.data.toList == cU) with
           | true =>
             have g0:=aG h0;unfold aP at g0;have g1:=aG h1;unfold jY at g1;have g2:=aG h2;unfold kA at g2;have g3:=aG h3;unfold lA at g3;have g4:=aG h4;unfold aQ at g4;have g5:=bG h5;unfold cU at g5;have hE:o.data.toList=cU:=by simpa using h5
             rw [show kP o.data.toList=true by rw [hE];decide,show eP o.data.toList=true by rw [hE];decide,show bP o.data.toList=false by rw [hE];decide,show dD o.data.toList=true by rw [hE];decide];clear hE;clear h0 h1 h2 h3 h4 h5;go_enter Tryz.func44,Tryz.ntmps44
             go_upto_region 1 with fail
             rw [HW.out];go_wp2_with fail
             obtain ⟨⟨d0,d1,d2⟩, -⟩:=cS (gN HN.out (.bool true) (.bool true) (.bool false));exact bodyPost_ret (v:=.tuple #[.agg #[.bool true,.bool true,.bool false],.bool true]) (by simp [results,Tryz.results44,go_sem,d0,d1,d2]) rfl ⟨rfl,HB.out.trans ((gT W w.heap.size _ _ _).below (fun i hi=>by omega) (by omega))⟩
           | false =>
             have g0:=aG h0;unfold aP at g0;have g1:=aG h1;unfold jY at g1;have g2:=aG h2;unfold kA at g2;have g3:=aG h3;unfold lA at g3;have g4:=aG h4;unfold aQ at g4;have g5:=aG h5;unfold cU at g5;have hF:dD o.data.toList=false:=by unfold dD;rw [h0,h1,h2,h3,h4,h5];rfl
             rw [show kP o.data.toList=false from h5,show eP o.data.toList=false by unfold eP;rw [hF];rfl,show bP o.data.toList=false from h4,hF];clear hF;clear h0 h1 h2 h3 h4 h5;go_enter Tryz.func44,Tryz.ntmps44
             go_upto_region 1 with fail
             rw [HW.out];go_wp2_with fail
             obtain ⟨⟨d0,d1,d2⟩, -⟩:=cS (gN HN.out (.bool false) (.bool false) (.bool false));exact bodyPost_ret (v:=.tuple #[.agg #[.bool false,.bool false,.bool false],.bool false]) (by simp [results,Tryz.results44,go_sem,d0,d1,d2]) rfl ⟨rfl,HB.out.trans ((gT W w.heap.size _ _ _).below (fun i hi=>by omega) (by omega))⟩
theorem zT (k:Int) (w:World):Calls Tryz.prog 95 #[.int .i64 k] w fun e w'=>e=.returned (.bool (decide (1<=k) && decide (k<=16)))/\w=w':=by
 by_cases h:1<=k
 · rw [decide_eq_true h,Bool.true_and]
   go_enter Tryz.func95,Tryz.ntmps95
   go_wp2_with fail
   go_ret;exact ⟨rfl,rfl⟩
 · rw [decide_eq_false h,Bool.false_and]
   have h2:decide (1<=k)=false:=decide_eq_false h;go_enter Tryz.func95,Tryz.ntmps95
   go_wp2_with fail
   go_ret;exact ⟨rfl,rfl⟩
theorem vN (o:ByteArray) (w:World):Calls Tryz.prog 97 #[.string o] w fun e w'=>e=.returned (.bool (aS o 0 0).isSome)/\w=w':=by
 have C:=aA (sZ o 0 0 w);obtain ⟨z,hz⟩:∃ z,(aS o 0 0).isSome=z:=⟨_,rfl⟩;obtain ⟨y,hy⟩:∃ y,(aS o 0 0).getD false=y:=⟨_,rfl⟩;rw [hz,hy] at C;rw [hz];clear hz hy;go_enter Tryz.func97,Tryz.ntmps97
 go_wp2_with fail
 refine C.out.mono ?_;rintro e w1 ⟨rfl,rfl⟩;clear C;go_wp2_with fail
 go_ret;exact ⟨rfl,rfl⟩
theorem vY {rb:Nat} {w X Y:World} (hb:Below w.heap.size w X) (hk:aL (· = rb) X Y) (_:w.heap.size+1<=X.heap.size):aL (· = rb) w Y :=
 (aE hb (· = rb)).trans hk (fun _ hi _=>hi)
theorem F9 {W:World} {B:Nat} {x0 x1 x2 x3:Value} {t:TypeId} (h:W.heap[B]? = some (.cells #[x0,x1,x2,x3] t (0,0))) (o m:ByteArray) (n:Int) (a:Option Addr) (l c:Nat) :
 (AI W B o m n a l c).heap[B]? = some (.cells #[.string o,.string m,.int .i64 n,.slice a l c] t (0,0)):=bJ h (.string o) (.string m) (.int .i64 n) (.slice a l c)
def aU:AG:=⟨⟨#[]⟩,0,aR,aR,[]⟩
def aW:PA:=⟨none,0,none,0,none,0⟩
abbrev f8 (W:World) (B:Nat) (x:AG) (p:PA):World:=((((((((((W.setCell ⟨B,0,none⟩ (.string x.fn)).setCell ⟨B,1,none⟩ (.int .i64 x.k)).setCell ⟨B,2,none⟩ (.string x.e.op)).setCell ⟨B,3,none⟩ (.string x.e.nm)).setCell ⟨B,4,none⟩ (.int .i64 x.e.n)).setCell ⟨B,5,none⟩ (.slice p.ea x.e.ks.len p.ec)).setCell ⟨B,6,none⟩ (.string x.g.op)).setCell ⟨B,7,none⟩ (.string x.g.nm)).setCell ⟨B,8,none⟩ (.int .i64 x.g.n)).setCell ⟨B,9,none⟩ (.slice p.ga x.g.ks.len p.gc)).setCell ⟨B,10,none⟩ (.slice p.wa x.wh.length p.wc)
theorem eG (W:World) (B:Nat) (x:AG) (p:PA):aL (· = B) W (f8 W B x p) :=
 ((((((((((((aL.refl (· = B) W).setCell (p:=⟨B,0,none⟩) (.inl rfl) _).setCell (p:=⟨B,1,none⟩) (.inl rfl) _).setCell (p:=⟨B,2,none⟩) (.inl rfl) _).setCell (p:=⟨B,3,none⟩) (.inl rfl) _).setCell (p:=⟨B,4,none⟩) (.inl rfl) _).setCell (p:=⟨B,5,none⟩) (.inl rfl) _).setCell (p:=⟨B,6,none⟩) (.inl rfl) _).setCell (p:=⟨B,7,none⟩) (.inl rfl) _).setCell (p:=⟨B,8,none⟩) (.inl rfl) _).setCell (p:=⟨B,9,none⟩) (.inl rfl) _).setCell (p:=⟨B,10,none⟩) (.inl rfl) _)
theorem gU {W:World} {B:Nat} {u0 u1 u2 u3 u4 u5 u6 u7 u8 u9 u10:Value} {t:TypeId} (h:W.heap[B]? = some (.cells #[u0,u1,u2,u3,u4,u5,u6,u7,u8,u9,u10] t (0,0))) (x:AG) (p:PA):(f8 W B x p).heap[B]? = some (.cells (agC x p) t (0,0)):=by
 have h0:=heap_setCell_same (W) B 0 _ t (.string x.fn) h;have g0:((W).setCell ⟨B,0,none⟩ (.string x.fn)).heap[B]? = some (.cells #[.string x.fn,u1,u2,u3,u4,u5,u6,u7,u8,u9,u10] t (0,0)):=by simpa using h0
 have h1:=heap_setCell_same ((W).setCell ⟨B,0,none⟩ (.string x.fn)) B 1 _ t (.int .i64 x.k) g0;have g1:(((W).setCell ⟨B,0,none⟩ (.string x.fn)).setCell ⟨B,1,none⟩ (.int .i64 x.k)).heap[B]? = some (.cells #[.string x.fn,.int .i64 x.k,u2,u3,u4,u5,u6,u7,u8,u9,u10] t (0,0)):=by simpa using h1
 have h2:=heap_setCell_same (((W).setCell ⟨B,0,none⟩ (.string x.fn)).setCell ⟨B,1,none⟩ (.int .i64 x.k)) B 2 _ t (.string x.e.op) g1;have g2:((((W).setCell ⟨B,0,none⟩ (.string x.fn)).setCell ⟨B,1,none⟩ (.int .i64 x.k)).setCell ⟨B,2,none⟩ (.string x.e.op)).heap[B]? = some (.cells #[.string x.fn,.int .i64 x.k,.string x.e.op,u3,u4,u5,u6,u7,u8,u9,u10] t (0,0)):=by simpa using h2
 have h3:=heap_setCell_same ((((W).setCell ⟨B,0,none⟩ (.string x.fn)).setCell ⟨B,1,none⟩ (.int .i64 x.k)).setCell ⟨B,2,none⟩ (.string x.e.op)) B 3 _ t (.string x.e.nm) g2;have g3:(((((W).setCell ⟨B,0,none⟩ (.string x.fn)).setCell ⟨B,1,none⟩ (.int .i64 x.k)).setCell ⟨B,2,none⟩ (.string x.e.op)).setCell ⟨B,3,none⟩ (.string x.e.nm)).heap[B]? = some (.cells #[.string x.fn,.int .i64 x.k,.string x.e.op,.string x.e.nm,u4,u5,u6,u7,u8,u9,u10] t (0,0)):=by simpa using h3
 have h4:=heap_setCell_same (((((W).setCell ⟨B,0,none⟩ (.string x.fn)).setCell ⟨B,1,none⟩ (.int .i64 x.k)).setCell ⟨B,2,none⟩ (.string x.e.op)).setCell ⟨B,3,none⟩ (.string x.e.nm)) B 4 _ t (.int .i64 x.e.n) g3;have g4:((((((W).setCell ⟨B,0,none⟩ (.string x.fn)).setCell ⟨B,1,none⟩ (.int .i64 x.k)).setCell ⟨B,2,none⟩ (.string x.e.op)).setCell ⟨B,3,none⟩ (.string x.e.nm)).setCell ⟨B,4,none⟩ (.int .i64 x.e.n)).heap[B]? = some (.cells #[.string x.fn,.int .i64 x.k,.string x.e.op,.string x.e.nm,.int .i64 x.e.n,u5,u6,u7,u8,u9,u10] t (0,0)):=by simpa using h4
 have h5:=heap_setCell_same ((((((W).setCell ⟨B,0,none⟩ (.string x.fn)).setCell ⟨B,1,none⟩ (.int .i64 x.k)).setCell ⟨B,2,none⟩ (.string x.e.op)).setCell ⟨B,3,none⟩ (.string x.e.nm)).setCell ⟨B,4,none⟩ (.int .i64 x.e.n)) B 5 _ t (.slice p.ea x.e.ks.len p.ec) g4;have g5:(((((((W).setCell ⟨B,0,none⟩ (.string x.fn)).setCell ⟨B,1,none⟩ (.int .i64 x.k)).setCell ⟨B,2,none⟩ (.string x.e.op)).setCell ⟨B,3,none⟩ (.string x.e.nm)).setCell ⟨B,4,none⟩ (.int .i64 x.e.n)).setCell ⟨B,5,none⟩ (.slice p.ea x.e.ks.len p.ec)).heap[B]? = some (.cells #[.string x.fn,.int .i64 x.k,.string x.e.op,.string x.e.nm,.int .i64 x.e.n,.slice p.ea x.e.ks.len p.ec,u6,u7,u8,u9,u10] t (0,0)):=by simpa using h5
 have h6:=heap_setCell_same (((((((W).setCell ⟨B,0,none⟩ (.string x.fn)).setCell ⟨B,1,none⟩ (.int .i64 x.k)).setCell ⟨B,2,none⟩ (.string x.e.op)).setCell ⟨B,3,none⟩ (.string x.e.nm)).setCell ⟨B,4,none⟩ (.int .i64 x.e.n)).setCell ⟨B,5,none⟩ (.slice p.ea x.e.ks.len p.ec)) B 6 _ t (.string x.g.op) g5;have g6:((((((((W).setCell ⟨B,0,none⟩ (.string x.fn)).setCell ⟨B,1,none⟩ (.int .i64 x.k)).setCell ⟨B,2,none⟩ (.string x.e.op)).setCell ⟨B,3,none⟩ (.string x.e.nm)).setCell ⟨B,4,none⟩ (.int .i64 x.e.n)).setCell ⟨B,5,none⟩ (.slice p.ea x.e.ks.len p.ec)).setCell ⟨B,6,none⟩ (.string x.g.op)).heap[B]? = some (.cells #[.string x.fn,.int .i64 x.k,.string x.e.op,.string x.e.nm,.int .i64 x.e.n,.slice p.ea x.e.ks.len p.ec,.string x.g.op,u7,u8,u9,u10] t (0,0)):=by simpa using h6
 have h7:=heap_setCell_same ((((((((W).setCell ⟨B,0,none⟩ (.string x.fn)).setCell ⟨B,1,none⟩ (.int .i64 x.k)).setCell ⟨B,2,none⟩ (.string x.e.op)).setCell ⟨B,3,none⟩ (.string x.e.nm)).setCell ⟨B,4,none⟩ (.int .i64 x.e.n)).setCell ⟨B,5,none⟩ (.slice p.ea x.e.ks.len p.ec)).setCell ⟨B,6,none⟩ (.string x.g.op)) B 7 _ t (.string x.g.nm) g6;have g7:(((((((((W).setCell ⟨B,0,none⟩ (.string x.fn)).setCell ⟨B,1,none⟩ (.int .i64 x.k)).setCell ⟨B,2,none⟩ (.string x.e.op)).setCell ⟨B,3,none⟩ (.string x.e.nm)).setCell ⟨B,4,none⟩ (.int .i64 x.e.n)).setCell ⟨B,5,none⟩ (.slice p.ea x.e.ks.len p.ec)).setCell ⟨B,6,none⟩ (.string x.g.op)).setCell ⟨B,7,none⟩ (.string x.g.nm)).heap[B]? = some (.cells #[.string x.fn,.int .i64 x.k,.string x.e.op,.string x.e.nm,.int .i64 x.e.n,.slice p.ea x.e.ks.len p.ec,.string x.g.op,.string x.g.nm,u8,u9,u10] t (0,0)):=by simpa using h7
 have h8:=heap_setCell_same (((((((((W).setCell ⟨B,0,none⟩ (.string x.fn)).setCell ⟨B,1,none⟩ (.int .i64 x.k)).setCell ⟨B,2,none⟩ (.string x.e.op)).setCell ⟨B,3,none⟩ (.string x.e.nm)).setCell ⟨B,4,none⟩ (.int .i64 x.e.n)).setCell ⟨B,5,none⟩ (.slice p.ea x.e.ks.len p.ec)).setCell ⟨B,6,none⟩ (.string x.g.op)).setCell ⟨B,7,none⟩ (.string x.g.nm)) B 8 _ t (.int .i64 x.g.n) g7;have g8:((((((((((W).setCell ⟨B,0,none⟩ (.string x.fn)).setCell ⟨B,1,none⟩ (.int .i64 x.k)).setCell ⟨B,2,none⟩ (.string x.e.op)).setCell ⟨B,3,none⟩ (.string x.e.nm)).setCell ⟨B,4,none⟩ (.int .i64 x.e.n)).setCell ⟨B,5,none⟩ (.slice p.ea x.e.ks.len p.ec)).setCell ⟨B,6,none⟩ (.string x.g.op)).setCell ⟨B,7,none⟩ (.string x.g.nm)).setCell ⟨B,8,none⟩ (.int .i64 x.g.n)).heap[B]? = some (.cells #[.string x.fn,.int .i64 x.k,.string x.e.op,.string x.e.nm,.int .i64 x.e.n,.slice p.ea x.e.ks.len p.ec,.string x.g.op,.string x.g.nm,.int .i64 x.g.n,u9,u10] t (0,0)):=by simpa using h8
 have h9:=heap_setCell_same ((((((((((W).setCell ⟨B,0,none⟩ (.string x.fn)).setCell ⟨B,1,none⟩ (.int .i64 x.k)).setCell ⟨B,2,none⟩ (.string x.e.op)).setCell ⟨B,3,none⟩ (.string x.e.nm)).setCell ⟨B,4,none⟩ (.int .i64 x.e.n)).setCell ⟨B,5,none⟩ (.slice p.ea x.e.ks.len p.ec)).setCell ⟨B,6,none⟩ (.string x.g.op)).setCell ⟨B,7,none⟩ (.string x.g.nm)).setCell ⟨B,8,none⟩ (.int .i64 x.g.n)) B 9 _ t (.slice p.ga x.g.ks.len p.gc) g8;have g9:(((((((((((W).setCell ⟨B,0,none⟩ (.string x.fn)).setCell ⟨B,1,none⟩ (.int .i64 x.k)).setCell ⟨B,2,none⟩ (.string x.e.op)).setCell ⟨B,3,none⟩ (.string x.e.nm)).setCell ⟨B,4,none⟩ (.int .i64 x.e.n)).setCell ⟨B,5,none⟩ (.slice p.ea x.e.ks.len p.ec)).setCell ⟨B,6,none⟩ (.string x.g.op)).setCell ⟨B,7,none⟩ (.string x.g.nm)).setCell ⟨B,8,none⟩ (.int .i64 x.g.n)).setCell ⟨B,9,none⟩ (.slice p.ga x.g.ks.len p.gc)).heap[B]? = some (.cells #[.string x.fn,.int .i64 x.k,.string x.e.op,.string x.e.nm,.int .i64 x.e.n,.slice p.ea x.e.ks.len p.ec,.string x.g.op,.string x.g.nm,.int .i64 x.g.n,.slice p.ga x.g.ks.len p.gc,u10] t (0,0)):=by simpa using h9
 have h10:=heap_setCell_same (((((((((((W).setCell ⟨B,0,none⟩ (.string x.fn)).setCell ⟨B,1,none⟩ (.int .i64 x.k)).setCell ⟨B,2,none⟩ (.string x.e.op)).setCell ⟨B,3,none⟩ (.string x.e.nm)).setCell ⟨B,4,none⟩ (.int .i64 x.e.n)).setCell ⟨B,5,none⟩ (.slice p.ea x.e.ks.len p.ec)).setCell ⟨B,6,none⟩ (.string x.g.op)).setCell ⟨B,7,none⟩ (.string x.g.nm)).setCell ⟨B,8,none⟩ (.int .i64 x.g.n)).setCell ⟨B,9,none⟩ (.slice p.ga x.g.ks.len p.gc)) B 10 _ t (.slice p.wa x.wh.length p.wc) g9;have g10:((((((((((((W).setCell ⟨B,0,none⟩ (.string x.fn)).setCell ⟨B,1,none⟩ (.int .i64 x.k)).setCell ⟨B,2,none⟩ (.string x.e.op)).setCell ⟨B,3,none⟩ (.string x.e.nm)).setCell ⟨B,4,none⟩ (.int .i64 x.e.n)).setCell ⟨B,5,none⟩ (.slice p.ea x.e.ks.len p.ec)).setCell ⟨B,6,none⟩ (.string x.g.op)).setCell ⟨B,7,none⟩ (.string x.g.nm)).setCell ⟨B,8,none⟩ (.int .i64 x.g.n)).setCell ⟨B,9,none⟩ (.slice p.ga x.g.ks.len p.gc)).setCell ⟨B,10,none⟩ (.slice p.wa x.wh.length p.wc)).heap[B]? = some (.cells #[.string x.fn,.int .i64 x.k,.string x.e.op,.string x.e.nm,.int .i64 x.e.n,.slice p.ea x.e.ks.len p.ec,.string x.g.op,.string x.g.nm,.int .i64 x.g.n,.slice p.ga x.g.ks.len p.gc,.slice p.wa x.wh.length p.wc] t (0,0)):=by simpa using h10
 exact g10
abbrev putE (W:World) (B:Nat) (t:TN) (ad:Option Addr) (cc:Nat):World:=(((W.setCell ⟨B,2,none⟩ (.string t.op)).setCell ⟨B,3,none⟩ (.string t.nm)).setCell ⟨B,4,none⟩ (.int .i64 t.n)).setCell ⟨B,5,none⟩ (.slice ad t.ks.len cc)
theorem vX (W:World) (B:Nat) (t:TN) (ad:Option Addr) (cc:Nat):aL (· = B) W (putE W B t ad cc) :=
 (((((aL.refl (· = B) W).setCell (p:=⟨B,2,none⟩) (.inl rfl) _).setCell (p:=⟨B,3,none⟩) (.inl rfl) _).setCell (p:=⟨B,4,none⟩) (.inl rfl) _).setCell (p:=⟨B,5,none⟩) (.inl rfl) _)
abbrev putG (W:World) (B:Nat) (t:TN) (ad:Option Addr) (cc:Nat):World:=(((W.setCell ⟨B,6,none⟩ (.string t.op)).setCell ⟨B,7,none⟩ (.string t.nm)).setCell ⟨B,8,none⟩ (.int .i64 t.n)).setCell ⟨B,9,none⟩ (.slice ad t.ks.len cc)
theorem DU (W:World) (B:Nat) (t:TN) (ad:Option Addr) (cc:Nat):aL (· = B) W (putG W B t ad cc) :=
 (((((aL.refl (· = B) W).setCell (p:=⟨B,6,none⟩) (.inl rfl) _).setCell (p:=⟨B,7,none⟩) (.inl rfl) _).setCell (p:=⟨B,8,none⟩) (.inl rfl) _).setCell (p:=⟨B,9,none⟩) (.inl rfl) _)
theorem dX {W:World} {B:Nat} {v0 v1 v2 v3 v4 v5 v6 v7 v8 v9 v10:Value} {t:TypeId} (h:W.heap[B]? = some (.cells #[v0,v1,v2,v3,v4,v5,v6,v7,v8,v9,v10] t (0,0))) :
 W.frozen? ⟨B,0,none⟩=false/\W.frozen? ⟨B,1,none⟩=false/\W.frozen? ⟨B,2,none⟩=false/\W.frozen? ⟨B,3,none⟩=false/\W.frozen? ⟨B,4,none⟩=false/\W.frozen? ⟨B,5,none⟩=false/\W.frozen? ⟨B,6,none⟩=false/\W.frozen? ⟨B,7,none⟩=false/\W.frozen? ⟨B,8,none⟩=false/\W.frozen? ⟨B,9,none⟩=false/\W.frozen? ⟨B,10,none⟩=false:=by
 refine ⟨?_,?_,?_,?_,?_,?_,?_,?_,?_,?_,?_⟩ <;> simp [World.frozen?,h]
end
end Go.Proofs.YtapcjnoaofmmiaaGreatDoor
