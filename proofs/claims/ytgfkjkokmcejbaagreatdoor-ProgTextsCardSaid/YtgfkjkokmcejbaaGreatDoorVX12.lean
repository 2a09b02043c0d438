/-
 No statement: what ProgTextsLift needs, of the texts QOk, QGw, QBack, QEval, ZMath, ZOwn, ZCut, ZBack.
-/
import Derived.Test.YtgfkjkokmcejbaaGreatDoorVX11
set_option maxHeartbeats 40000000
set_option maxRecDepth 100000
open List renaming length_append -> Tb, length_cons -> Te, length_eq_zero_iff -> Tg
open Nat renaming le_refl -> Td
open Go.Value renaming slice -> Tj
open Go.Lib renaming toList_data -> Tm
namespace Go.Proofs.YtgfkjkokmcejbaaGreatDoor
open Go.RowKit Tryz
section
theorem mY {L:List Tk} (b:∀ t∈L,cS t) {s:RS} (hp:kH L.length s) (h:(bC L s).2.bad=0):s.bad=0/\aW (bC L s).1=0:=by
 unfold bC at h |-
 by_cases a:s.bad=0
 · rw [if_pos a] at h |-
   cases ho:ofL L s.pos with
   | ok t q=>exact ⟨a,(Eo b ho).1⟩
   | bad q e =>
     rw [ho] at h;exact absurd h ((sE (hp.1 a)).2 q e ho).2
 · rw [if_neg a] at h
   exact absurd h a
theorem jP {e:Int} (a:¬ e=0) (s:RS):¬ (aQ e s).bad=0:=mW e a s
theorem xF {L:List Tk} {x:Tq} {s:RS} (h:(aU L x s).bad=0):s.bad=0:=by
 unfold aU at h;by_cases a:s.bad=0
 · exact a
 · rw [if_neg a] at h;exact h
theorem Om {L:List Tk} {s:RS} (h:(jW L s).2.bad=0):s.bad=0/\¬ ((jW L s).1<1\/16<(jW L s).1):=by
 unfold jW at h |-
 by_cases a:s.bad=0
 · rw [if_pos a] at h |-
   refine ⟨a,?_⟩;cases b:L[s.pos]? with
   | none=>rw [b] at h;exact absurd h (jP (by decide) s)
   | some t =>
     rw [b] at h;simp only at h |-
     by_cases d:t.kind=2
     · rw [if_pos d] at h |-
       simp only at h |-
       by_cases c:t.num<1\/16<t.num
       · rw [if_pos c] at h
         exact absurd h (jP (by decide) s)
       · exact c
     · rw [if_neg d] at h
       exact absurd h (jP (by decide) s)
 · rw [if_neg a] at h;exact absurd h a
theorem Nu {L:List Tk} (f:∀ t∈L,cS t) {fn:Tq} {s:RS} (hs:kH L.length s) (h:(bJ L fn s).2.bad=0) :
 s.bad=0/\kH L.length (bJ L fn s).2/\(fn=cH->¬ ((bJ L fn s).1.1<1\/16<(bJ L fn s).1.1))/\(¬ fn=aN->aW (bJ L fn s).1.2.1=0)/\(fn=aP->aW (bJ L fn s).1.2.2=0):=by
 unfold bJ at h |-
 by_cases g:fn=aN
 · rw [if_pos g] at h |-
   subst g;exact ⟨h,hs,fun e=>absurd e (by decide),fun e=>absurd rfl e,fun e=>absurd e (by decide)⟩
 rw [if_neg g] at h |-
 by_cases c:fn=cH
 · subst c
   have a:¬ cH=aP:=by decide
   simp only [if_pos,if_neg a] at h |-
   have j:=Ol (L:=L) hs;have b:=sP (x:=[44]) j;have e:=mY f b h;have t:=Om (xF e.1);exact ⟨t.1,mX b,fun _=>t.2,fun _=>e.2,fun e=>absurd e a⟩
 · simp only [if_neg c] at h |-
   by_cases a:fn=aP
   · simp only [if_pos a] at h |-
     have j:=mX (L:=L) hs;have b:=sP (x:=[44]) j;have e:=mY f b h;have d:=mY f hs (xF e.1);exact ⟨d.1,mX b,fun x=>absurd x c,fun _=>d.2,fun _=>e.2⟩
   · simp only [if_neg a] at h |-
     have d:=mY f hs h;exact ⟨d.1,mX hs,fun x=>absurd x c,fun _=>d.2,fun x=>absurd x a⟩
theorem O9 {L:List Tk} {p:Nat} (h:opB L p=true):(bE ⟨(eA L p).toArray⟩ 0 0).isSome=true:=by
 unfold opB at h;unfold eA;cases a:L[p]? with
 | none=>rw [a] at h;cases h
 | some t=>rw [a] at h;exact h
theorem Ff {L:List Tk} (b:∀ t∈L,cS t) {s:RS} (hs:kH L.length s) (h:(cB L s).2.bad=0):s.bad=0/\kH L.length (cB L s).2/\gO [(cB L s).1]=0:=by
 unfold cB at h |-
 simp only at h |-
 by_cases a:(bC L s).2.bad=0
 · rw [if_pos a] at h |-
   have f:=mX (L:=L) hs;have e:=mY b hs a;by_cases ho:opB L (bC L s).2.pos=true
   · rw [if_pos ho] at h |-
     have c:=iO f (fun _=>Sj ho);have d:=mY b c h;refine ⟨e.1,mX c,?_⟩;unfold gO;simp only;rw [if_neg (by rw [O9 ho];decide),if_pos e.2,if_pos d.2];rfl
   · rw [if_neg ho] at h
     exact absurd h (jP (by decide) _)
 · rw [if_neg a] at h;exact absurd h a
theorem zO (c:CD):∀ l:List CD,gO l=0->gO [c]=0->gO (l++[c])=0
 | [],_,h=>h
 | d :: l, h, hc => by
   rw [List.cons_append];rw [gO] at h |-
   by_cases j:(bE d.op 0 0).isSome=false
   · rw [if_pos j] at h;cases h
   rw [if_neg j] at h |-
   by_cases g:aW d.a=0
   · rw [if_pos g] at h |-
     by_cases f:aW d.b=0
     · rw [if_pos f] at h |-;exact zO c l h hc
     · rw [if_neg f] at h;exact absurd h f
   · rw [if_neg g] at h;exact absurd h g
theorem BM {L:List Tk} (b:∀ t∈L,cS t):∀ (f:Nat) (acc:List CD) (s:RS),kH L.length s->(s.bad=0->s.pos<L.length)->acc.length<=4->gO acc=0->(eT L f acc s).2.bad=0->gO (eT L f acc s).1=0/\(eT L f acc s).1.length<=4
 | 0,acc,s,_,_,hl,ha,_=>⟨ha,hl⟩
 | f + 1, acc, s, hs, hp, hl, ha, h => by
   rw [eT] at h |-
   by_cases d:acc.length=4
   · rw [if_pos d] at h
     exact absurd h (jP (by decide) _)
   rw [if_neg d] at h |-
   simp only at h |-
   have g:=iO hs hp;by_cases a:((cB L (aM s)).2.bad == 0 && dX L l8 (cB L (aM s)).2.pos)=true
   · rw [if_pos a] at h |-
     simp only [Bool.and_eq_true,beq_iff_eq] at a;have c:=Ff b g a.1;exact BM b f _ _ c.2.1 (fun _=>Cb a.2) (by rw [Tb];show acc.length+1<=4;omega) (zO _ _ ha c.2.2) h
   · rw [if_neg a] at h |-
     have c:=Ff b g h;exact ⟨zO _ _ ha c.2.2,by rw [Tb];show acc.length+1<=4;omega⟩
theorem NI {L:List Tk} (n:∀ t∈L,cS t) {a:AG} (h:agL L=.ok a):gA a=0:=by
 unfold agL at h;cases k:L[0]? with
 | none=>rw [k] at h;cases h
 | some t =>
   rw [k] at h;have d:1<=L.length:=by have:=(List.getElem?_eq_some_iff.1 k).1;omega
   simp only at h;by_cases m:t.kind=1
   · rw [if_neg (by simpa using m)] at h
     cases f:dZ t.text with
     | false=>rw [f,if_pos rfl] at h;cases h
     | true =>
       rw [f,if_neg (by decide)] at h;by_cases p:(aU L [40] ⟨1,0,0,0⟩).bad=0
       · rw [if_neg (by simpa using p)] at h
         have u:kH L.length (aU L [40] ⟨1,0,0,0⟩):=sP ⟨fun _=>d,Nat.zero_le _⟩;by_cases j:(aU L [41] (bJ L t.text (aU L [40] ⟨1,0,0,0⟩)).2).bad=0
         · rw [if_neg (by simpa using j)] at h
           obtain ⟨-,s,a1,a2,a3⟩:=Nu n u (xF j);have r:=sP (x:=[41]) s
           have b:∀ wh:List CD,gO wh=0->wh.length<=4->gA ⟨⟨t.text.toArray⟩,(bJ L t.text (aU L [40] ⟨1,0,0,0⟩)).1.1,(bJ L t.text (aU L [40] ⟨1,0,0,0⟩)).1.2.1,(bJ L t.text (aU L [40] ⟨1,0,0,0⟩)).1.2.2,wh⟩=0:=fun wh y z=>by
            have q:EZ ⟨⟨t.text.toArray⟩,(bJ L t.text (aU L [40] ⟨1,0,0,0⟩)).1.1,(bJ L t.text (aU L [40] ⟨1,0,0,0⟩)).1.2.1,(bJ L t.text (aU L [40] ⟨1,0,0,0⟩)).1.2.2,wh⟩=0:=by
             unfold EZ;simp only;by_cases c1:t.text=aN
             · rw [if_pos c1]
             · rw [if_neg c1,if_pos (a2 c1)]
               by_cases c2:t.text=aP
               · rw [if_pos c2];exact a3 c2
               · rw [if_neg c2]
            unfold gA;simp only;rw [if_neg (by rw [f];decide),if_neg (fun x=>a1 x.1 x.2),if_pos q,if_neg (by omega)];exact y
           by_cases o:L.length<=(aU L [41] (bJ L t.text (aU L [40] ⟨1,0,0,0⟩)).2).pos
           · rw [if_pos o] at h
             cases h;exact b [] rfl (by simp)
           · rw [if_neg o] at h
             cases l:dX L eW (aU L [41] (bJ L t.text (aU L [40] ⟨1,0,0,0⟩)).2).pos with
             | false=>rw [l,if_pos rfl] at h;cases h
             | true =>
               rw [l,if_neg (by decide)] at h;by_cases g:(eT L 5 [] (aU L [41] (bJ L t.text (aU L [40] ⟨1,0,0,0⟩)).2)).2.bad=0
               · rw [if_neg (by simpa using g)] at h
                 have c:=BM n 5 [] _ r (fun _=>by omega) (by simp) rfl g;split at h
                 · cases h
                 · cases h
                   exact b _ c.1 c.2
               · rw [if_pos g] at h;cases h
         · rw [if_pos j] at h;cases h
       · rw [if_pos p] at h;cases h
   · rw [if_pos m] at h;cases h
theorem NE {l:Tq} {a:AG} (h:agX l=.ok a):gA a=0:=by
 unfold agX at h;cases hx:gY l with
 | bad p e=>rw [hx] at h;cases h
 | ok L =>
   rw [hx] at h;simp only at h;cases ha:agL L with
   | bad p e=>rw [ha] at h;cases h
   | ok b =>
     rw [ha] at h;cases h;exact NI (qO hx) ha
def l7 (r:oN) (w0:World) (e:Ending) (w':World):Prop:=Below w0.heap.size w0 w' /\
 match r with
 | .bad p er=>e=.returned (.tuple #[agV aO aI,.int .i64 (p:Nat),.int .i64 er])
 | .ok a=>∃ p,e=.returned (.tuple #[agV a p,.int .i64 0,.int .i64 0])/\aX (fun b=>w0.heap.size<=b) w' a p
def kF (x:AG) (s:RS):oN:=if ¬ s.bad=0 then .bad s.whr s.bad else .ok x
def kE (L:List Tk) (x:AG) (c:List CD×RS):oN:=kF { x with wh:=c.1 } (if c.2.bad=0/\c.2.pos<L.length then aQ 2 c.2 else c.2)
def kLo (L:List Tk) (f:Nat) (more:Bool) (acc:List CD) (s:RS):List CD×RS:=if more=true/\s.bad=0 then eT L f acc s else (acc,s)
def kC (L:List Tk) (x:AG) (s:RS):oN:=if s.bad=0/\s.pos<L.length then kE L x (kLo L 5 true [] (if dX L eW s.pos=true then s else aQ 2 s)) else kF x s
def kB (L:List Tk) (x:AG) (s:RS):oN:=kC L x (aU L [41] s)
def kA (L:List Tk) (fn:Tr) (s:RS):oN :=
 let s1:=aU L [40] s
 if s1.bad=0 then (let r:=bJ L fn.data.toList s1;kB L ⟨fn,r.1.1,r.1.2.1,r.1.2.2,[]⟩ r.2) else kB L ⟨fn,0,aD,aD,[]⟩ s1
theorem uP {x:AG} {s:RS} (h:¬ s.bad=0):kF x s=.bad s.whr s.bad:=if_pos h
theorem My {x:AG} {s:RS} (h:s.bad=0):kF x s=.ok x:=if_neg (by simpa using h)
theorem Mz {L:List Tk} {x:AG} {s:RS} (h:¬ s.bad=0):kB L x s=.bad s.whr s.bad:=by
 unfold kB kC;rw [fW h,if_neg (fun k=>h k.1),uP h]
theorem Gm {L:List Tk} {fn:Tr} {s:RS} (h:¬ s.bad=0):kA L fn s=.bad s.whr s.bad:=by
 unfold kA;simp only;rw [fW h,if_neg h,Mz h]
theorem Gj {L:List Tk} {f:Nat} {acc:List CD} {s:RS} (h:s.bad=0):kLo L f true acc s=eT L f acc s:=if_pos ⟨rfl,h⟩
theorem Sp (L:List Tk) (x:AG) (c:List CD×RS):kE L x c=if ¬ c.2.bad=0 then .bad c.2.whr c.2.bad else if c.2.pos<L.length then .bad c.2.pos 2 else .ok { x with wh:=c.1 }:=by
 unfold kE;by_cases a:c.2.bad=0
 · rw [if_neg (show ¬ ¬ c.2.bad=0 from fun k=>k a)]
   by_cases b:c.2.pos<L.length
   · have d:=And.intro a b
     rw [if_pos b,if_pos d,uP (jP (by decide) _)];unfold aQ;rw [if_pos a]
   · rw [if_neg b,if_neg (show ¬ (c.2.bad=0/\c.2.pos<L.length) from fun k=>b k.2),My a]
 · rw [if_pos a,if_neg (show ¬ (c.2.bad=0/\c.2.pos<L.length) from fun k=>a k.1),uP a]
theorem NG {L:List Tk} (h:L[0]? = none):agL L=kA L ⟨#[]⟩ (aQ 2 ⟨0,0,0,0⟩):=by
 rw [Gm (by decide)];unfold agL;rw [h];rfl
theorem NH {L:List Tk} {t:Tk} (h:L[0]? = some t) (a:¬ t.kind=1):agL L=kA L ⟨#[]⟩ (aQ 2 ⟨0,0,0,0⟩):=by
 rw [Gm (by decide)];unfold agL;rw [h];simp only;rw [if_pos a];rfl
theorem RX {L:List Tk} {t:Tk} (h:L[0]? = some t) (a:t.kind=1) (b:dZ t.text=false):agL L=kA L ⟨#[]⟩ (aQ 5 ⟨0,0,0,0⟩):=by
 rw [Gm (by decide)];unfold agL;rw [h];simp only;rw [if_neg (fun k=>k a),if_pos b];rfl
theorem RV {L:List Tk} {t:Tk} (h:L[0]? = some t) (f:t.kind=1) (g:dZ t.text=true):agL L=kA L ⟨t.text.toArray⟩ ⟨1,0,0,0⟩:=by
 unfold agL kA;rw [h];simp only;rw [if_neg (fun k=>k f),if_neg (by rw [g];decide)];by_cases b:(aU L [40] ⟨1,0,0,0⟩).bad=0
 · rw [if_neg (fun k=>k b),if_pos b]
   unfold kB kC;by_cases a:(aU L [41] (bJ L t.text (aU L [40] ⟨1,0,0,0⟩)).2).bad=0
   · rw [if_neg (fun k=>k a)]
     by_cases d:L.length<=(aU L [41] (bJ L t.text (aU L [40] ⟨1,0,0,0⟩)).2).pos
     · rw [if_pos d,if_neg (fun k=>absurd k.2 (by omega)),My a]
     · have j:(aU L [41] (bJ L t.text (aU L [40] ⟨1,0,0,0⟩)).2).bad=0/\(aU L [41] (bJ L t.text (aU L [40] ⟨1,0,0,0⟩)).2).pos<L.length:=⟨a,by omega⟩
       rw [if_neg d,if_pos j];cases l:dX L eW (aU L [41] (bJ L t.text (aU L [40] ⟨1,0,0,0⟩)).2).pos with
       | false =>
         rw [if_pos rfl,if_neg (show ¬ (false=true) by decide)];have c:¬ (aQ 2 (aU L [41] (bJ L t.text (aU L [40] ⟨1,0,0,0⟩)).2)).bad=0:=jP (by decide) _;unfold kE kLo;rw [if_neg (fun k=>c k.2)];simp only;rw [if_neg (fun k=>c k.1),uP c];unfold aQ;rw [if_pos a]
       | true =>
         rw [if_neg (by decide),if_pos rfl,Gj a,Sp]
   · rw [if_pos a,if_neg (fun k=>a k.1),uP a]
 · rw [if_pos b,if_neg b,Mz b]
section
variable {w : World} {ts : List Tk} {rb ab : Nat} {a : Tp} {c : Nat} {x : AG} {p : PA} {qs : List QC} {s s' : RS} {V V' : World}
theorem GW.lo (h:GW w ts rb ab a c x p qs s V) {b:Nat} (d:(Tj p.wa x.wh.length p.wc).ownBlock=some b):ab+1<=b:=(h.own.lt b d).1
theorem GW.sz (h:GW w ts rb ab a c x p qs s V):w.heap.size<V.heap.size:=by have:=h.hr;have:=h.ha;have:=h.hz;omega
theorem GW.step (h:GW w ts rb ab a c x p qs s V) (hp:PW ts rb a c s' V') (d:aC (· = rb) V V'):GW w ts rb ab a c x p qs s' V':=by
 have r:=h.hr;have q:=h.ha;refine ⟨hp,h.b.trans (d.below (fun b j=>by omega) (by have:=h.sz;omega)),d.heap h.n (by omega),d.heap h.o (by omega),h.e.keptS d (fun k d f=>f.2.1 d),h.g.keptS d (fun k d f=>f.2.1 d),?_,h.ql,h.kd.keptS d (fun k d f=>f.2.1 d),r,q,Nat.lt_of_lt_of_le h.hz d.size,h.tk⟩;exact eZ (row:=some rb) h.own (d.mono (fun i l _=>by rw [l])) (fun b j m=>by have:=h.lo j;have:=Option.some.inj m;omega)
theorem GW.below (h:GW w ts rb ab a c x p qs s V) (b:Below V.heap.size V V'):GW w ts rb ab a c x p qs s V':=h.step (h.r.below b) (aF b _)
theorem GW.box {y:AG} {q:PA} (h:GW w ts rb ab a c x p qs s V) (d:aC (· = ab) V V') (hn:V'.heap[ab]? = some (agO y q)) (l:y.wh=x.wh) (f:q.wa=p.wa) (m:q.wc=p.wc)
 (n:aK (GG w.heap.size rb ab p.wa) V q.ea y.e.ks) (j:aK (GG w.heap.size rb ab p.wa) V q.ga y.g.ks):GW w ts rb ab a c y q qs s V':=by
 have A:=h.hr;have z:=h.ha;refine ⟨h.r.other d (by omega),h.b.trans (d.below (fun b t=>by omega) (by have:=h.sz;omega)),hn,d.heap h.o (by omega),by rw [f];exact n.keptS d (fun k d j=>j.2.2.1 d),by rw [f];exact j.keptS d (fun k d j=>j.2.2.1 d),?_,by rw [l];exact h.ql,?_,A,z,Nat.lt_of_lt_of_le h.hz d.size,h.tk⟩
 · rw [l,f,m]
   exact eZ (row:=some ab) h.own (d.mono (fun i u _=>by rw [u])) (fun b t n=>by have:=h.lo t;have:=Option.some.inj n;omega)
 · rw [l,f]
   exact h.kd.keptS d (fun k d j=>j.2.2.1 d)
theorem GW.push (h:GW w ts rb ab a c x p qs s V) {d:CD} {q:QC} {m:Tp} {y:Nat} (l:aC (fun b=>(Tj p.wa x.wh.length p.wc).ownBlock=some b) V V')
 (C:V'.ownsRow (ab+1) 133 9 (.slice m (x.wh.length+1) y) (x.wh.length+1) (cdL x.wh qs++e7 d q))
 (A:∀ b,(Tj m (x.wh.length+1) y).ownBlock=some b->(Tj p.wa x.wh.length p.wc).ownBlock=some b\/V.heap.size<=b)
 (G:aK (GG w.heap.size rb ab p.wa) V q.a1 d.a.ks) (E:aK (GG w.heap.size rb ab p.wa) V q.a2 d.b.ks) :
 GW w ts rb ab a c { x with wh:=x.wh++[d] } { p with wa:=m,wc:=y } (qs++[q]) s (V'.setCell ⟨ab,10,none⟩ (.slice m (x.wh.length+1) y)):=by
 have L:=h.hr;have I:=h.ha
 have own:∀ b,(Tj p.wa x.wh.length p.wc).ownBlock=some b->p.wa=some ⟨b,0,none⟩:=fun b u=>by
  rcases h.own.2 with ⟨B,_⟩ | ⟨g,N,M,B,_⟩
  · rw [B] at u;cases u
  · rw [B] at u
    cases u;simp only [Value.slice.injEq] at B;exact B.1
 have z:∀ b,m=some ⟨b,0,none⟩->(Tj m (x.wh.length+1) y).ownBlock=some b:=fun b u=>by rw [u];rfl
 have lo:=fun b u=>h.lo (b:=b) u
 have r1:PW ts rb a c s V':=⟨l.heap h.r.r (fun e=>by have:=lo _ e;omega),h.r.t.kept l (fun k l=>by have:=lo k l;omega),h.r.f⟩;have KS:=(aC.refl (· = ab) V').setCell (p:=⟨ab,10,none⟩) (.inl rfl) (.slice m (x.wh.length+1) y);have n1:=l.heap h.n (fun e=>by have:=lo _ e;omega);have len:(x.wh++[d]).length=x.wh.length+1:=by simp
 have D:(V'.setCell ⟨ab,10,none⟩ (.slice m (x.wh.length+1) y)).heap[ab]? = some (agO { x with wh:=x.wh++[d] } { p with wa:=m,wc:=y }):=by
  have:=heap_setCell_same V' ab 10 _ _ (.slice m (x.wh.length+1) y) n1;rw [show agO { x with wh:=x.wh++[d] } { p with wa:=m,wc:=y }=.cells #[.string x.fn,.int .i64 x.k,.string x.e.op,.string x.e.nm,.int .i64 x.e.n,.slice p.ea x.e.ks.len p.ec,.string x.g.op,.string x.g.nm,.int .i64 x.g.n,.slice p.ga x.g.ks.len p.gc,.slice m (x.wh.length+1) y] 82 by show Obj.cells #[_,_,_,_,_,_,_,_,_,_,.slice m (x.wh++[d]).length y] _=_;rw [len]];simpa using this
 have kd:=h.kd.snoc h.ql G E
 refine ⟨r1.other KS (by omega),(h.b.trans (l.below (fun b u=>by have:=lo b u;omega) (by have:=h.sz;omega))).trans (KS.below (fun b u=>by omega) (by have:=h.sz;have:=l.size;omega)),D,
  KS.heap (l.heap h.o (fun e=>by have:=lo _ e;omega)) (by omega),?_,?_,?_,by rw [Tb,Tb,h.ql];rfl,?_,L,I,by rw [World.size_setCell];exact Nat.lt_of_lt_of_le h.hz l.size,h.tk⟩
 · exact ((h.e.imp (H:=fun b=>GG w.heap.size rb ab p.wa b/\m ≠ some ⟨b,0,none⟩) (fun b u j=>⟨j,fun e=>by
    rcases A b (z b e) with h | h
    · exact j.2.2.2 (own b h)
    · omega⟩)).keptS l (fun k l j=>j.1.2.2.2 (own k l))).keptS KS (fun k l j=>j.1.2.2.1 l) |>.imp (fun b _ j=>⟨j.1.1,j.1.2.1,j.1.2.2.1,j.2⟩)
 · exact ((h.g.imp (H:=fun b=>GG w.heap.size rb ab p.wa b/\m ≠ some ⟨b,0,none⟩) (fun b u j=>⟨j,fun e=>by
    rcases A b (z b e) with h | h
    · exact j.2.2.2 (own b h)
    · omega⟩)).keptS l (fun k l j=>j.1.2.2.2 (own k l))).keptS KS (fun k l j=>j.1.2.2.1 l) |>.imp (fun b _ j=>⟨j.1.1,j.1.2.1,j.1.2.2.1,j.2⟩)
 · show (V'.setCell ⟨ab,10,none⟩ (.slice m (x.wh.length+1) y)).ownsRow (ab+1) 133 9 (.slice m (x.wh++[d]).length y) (x.wh++[d]).length (cdL (x.wh++[d]) (qs++[q]))
   rw [len,xA _ _ _ _ h.ql];have e:cdL [d] [q]=e7 d q:=by simp [cdL]
   rw [e];exact iI C (by omega) _ _
 · exact ((kd.imp (H:=fun b=>GG w.heap.size rb ab p.wa b/\m ≠ some ⟨b,0,none⟩) (fun b u j=>⟨j,fun e=>by
    rcases A b (z b e) with h | h
    · exact j.2.2.2 (own b h)
    · omega⟩)).keptS l (fun k l j=>j.1.2.2.2 (own k l))).keptS KS (fun k l j=>j.1.2.2.1 l) |>.imp (fun b _ j=>⟨j.1.1,j.1.2.1,j.1.2.2.1,j.2⟩)
end
def Kg (c:CD):CD:=⟨c.op,jR c.a,jR c.b⟩
def wO (a:AG):AG:=⟨a.fn,if a.fn.data.toList=cH then a.k else 0,if a.fn.data.toList=aN then aD else jR a.e,if a.fn.data.toList=aP then jR a.g else aD,a.wh.map Kg⟩
abbrev Co:=Int×Tq×Int
def rL (c:CD):List Co:=bM c.a++(3,c.op.data.toList,0)::bM c.b
def oW:List CD->List Co
 | []=>[]
 | c::r=>(1,l8,0)::(rL c++oW r)
def xJ:List CD->List Co
 | []=>[]
 | c::r=>(1,eW,0)::(rL c++oW r)
def rK (a:AG):List Co :=
 if a.fn.data.toList=aN then [] else
 if a.fn.data.toList=cH then (2,Lib.itoa a.k,a.k)::(3,[44],0)::bM a.e else
 if a.fn.data.toList=aP then bM a.e++(3,[44],0)::bM a.g else bM a.e
def KV (a:AG):List Co:=(1,a.fn.data.toList,0)::(3,[40],0)::(rK a++(3,[41],0)::xJ a.wh)
def jG (x:Tq) (cs:List Co):Prop:=∀ r p,∃ ts,ts.map dM=cs/\cR (x++r) p=(cR r (p+x.length)).after ts
def jF (x:Tq) (cs:List Co):Prop:=∀ r,lL r->∀ p,∃ ts,ts.map dM=cs/\cR (x++r) p=(cR r (p+x.length)).after ts
theorem jG.s {x:Tq} {a:List Co} (h:jG x a):jF x a:=fun r _ p=>h r p
theorem yV:jG [] []:=fun r p=>⟨[],rfl,by rw [rI];rfl⟩
theorem jG.appS {x y:Tq} {b a:List Co} (h:jG x b) (k:jF y a):jF (x++y) (b++a):=fun r hr p=>by
 obtain ⟨ts,a1,a2⟩:=h (y++r) p;obtain ⟨c,f,d⟩:=k r hr (p+x.length);exact ⟨ts++c,by rw [List.map_append,a1,f],by rw [List.append_assoc,a2,d,gD,Tb,Nat.add_assoc]⟩
theorem jF.appF {x y:Tq} {b a:List Co} (h:jF x b) (k:jG y a) (d:∀ r,lL (y++r)):jG (x++y) (b++a):=fun r p=>by
 obtain ⟨ts,a1,a2⟩:=h (y++r) (d r) p;obtain ⟨c,g,f⟩:=k r (p+x.length);exact ⟨ts++c,by rw [List.map_append,a1,g],by rw [List.append_assoc,a2,f,gD,Tb,Nat.add_assoc]⟩
theorem jF.app {x y:Tq} {b a:List Co} (h:jF x b) (k:jF y a) (d:∀ r,lL r->lL (y++r)):jF (x++y) (b++a):=fun r hr p=>by
 obtain ⟨ts,a1,a2⟩:=h (y++r) (d r hr) p;obtain ⟨c,g,f⟩:=k r hr (p+x.length);exact ⟨ts++c,by rw [List.map_append,a1,g],by rw [List.append_assoc,a2,f,gD,Tb,Nat.add_assoc]⟩
theorem gG {c:UInt8} (h:a8 c=false) (r:Tq):lL (c::r):=fun _ _ e=>by cases e;exact h
theorem f7:jG [32] []:=fun r p=>⟨[],rfl,by rw [rI];exact e8 r p⟩
theorem qQ {x:Tq} (h:cD x=true):jF x [(1,x,0)]:=fun _ hr p=>⟨[⟨1,x,0,p⟩],rfl,Ew h hr p⟩
theorem qP (t:TN) (h:OkT t) (hn:dU t.f):jF (aV t) (bM t):=fun r hr p=>Mm t h hn r hr p
theorem Mp {n:Int} (b:0<=n) (a:n<=9223372036854775807):jF (Lib.itoa n) [(2,Lib.itoa n,n)]:=fun _ hr p=>⟨[⟨2,Lib.itoa n,n,p⟩],rfl,Hw b a hr p⟩
theorem qR {c:UInt8} (a:uI c):jG [c] [(3,[c],0)]:=fun r p=>⟨[⟨3,[c],0,p⟩],rfl,pH a r p⟩
theorem Po {x:Tq} (hx:1<=x.length) (h:∀ r,bV (x++r)=.tok 3 x.length 0) (a:∀ r,¬ (x++r).head? = some 32):jG x [(3,x,0)]:=fun r p =>
 ⟨[⟨3,x,0,p⟩],rfl,by rw [gX (a r) hx (h r),List.drop_left,List.take_left]⟩
theorem yW:jG [44] [(3,[44],0)]:=Po (by simp) (fun r=>by
 show iF (44::r)=.tok 3 1 0;unfold iF
 have:iB (44::r)=1:=by
  cases r with
  | nil=>rfl
  | cons d t =>
    show (if cT 44 d=true then 2 else if cU 44=true then 1 else 0)=1;rw [if_neg (by unfold cT;simp),if_pos (by decide)]
 rw [this];rfl) (fun r=>by simp)
theorem F3 {o:Tr} (h:(bE o 0 0).isSome=true):o.data.toList=[61]\/o.data.toList=[33,61]\/o.data.toList=[60]\/o.data.toList=[60,61]\/o.data.toList=[62]\/o.data.toList=[62,61]:=by
 unfold bE at h;by_cases g:o=⟨#[61]⟩
 · left;rw [g]
 rw [if_neg g] at h;by_cases f:o=⟨#[33,61]⟩
 · right;left;rw [f]
 rw [if_neg f] at h;by_cases d:o=⟨#[60]⟩
 · right;right;left;rw [d]
 rw [if_neg d] at h;by_cases c:o=⟨#[60,61]⟩
 · right;right;right;left;rw [c]
 rw [if_neg c] at h;by_cases b:o=⟨#[62]⟩
 · right;right;right;right;left;rw [b]
 rw [if_neg b] at h;by_cases a:o=⟨#[62,61]⟩
 · right;right;right;right;right;rw [a]
 rw [if_neg a] at h;cases h
theorem Pn {x:Tq} (h:x=[61]\/x=[33,61]\/x=[60]\/x=[60,61]\/x=[62]\/x=[62,61]):jG (x++[32]) [(3,x,0)]:=fun r p=>by
 have b:bV (x++32::r)=.tok 3 x.length 0:=by
  rcases h with rfl | rfl | rfl | rfl | rfl | rfl <;> rfl
 have a:¬ (x++32::r).head? = some 32:=by
  rcases h with rfl | rfl | rfl | rfl | rfl | rfl <;> simp
 have hx:1<=x.length:=by
  rcases h with rfl | rfl | rfl | rfl | rfl | rfl <;> simp
 refine ⟨[⟨3,x,0,p⟩],rfl,?_⟩;rw [show x++[32]++r=x++32::r by simp,gX a hx b,List.drop_left,List.take_left,e8,Tb];rfl
def Ak (l:List CD):Prop:=∀ d∈l,dU d.a.f/\dU d.b.f
structure gM (a:AG):Prop where
 e:dU a.e.f
 g:dU a.g.f
 c:Ak a.wh
theorem jC {c:CD} {l:List CD} (h:gO (c::l)=0):(bE c.op 0 0).isSome=true/\aW c.a=0/\aW c.b=0/\gO l=0:=by
 rw [gO] at h;by_cases g:(bE c.op 0 0).isSome=false
 · rw [if_pos g] at h;cases h
 rw [if_neg g] at h;by_cases f:aW c.a=0
 · rw [if_pos f] at h
   by_cases d:aW c.b=0
   · rw [if_pos d] at h;exact ⟨by cases hx:(bE c.op 0 0).isSome with | true=>rfl | false=>exact absurd hx g,f,d,h⟩
   · rw [if_neg d] at h;exact absurd h d
 · rw [if_neg f] at h;exact absurd h f
theorem Bn {c:CD} {l:List CD} (h:gO (c::l)=0) (hn:dU c.a.f/\dU c.b.f):jF (aV c.a++32::(c.op.data.toList++32::aV c.b)) (rL c):=by
 obtain ⟨j,g,d, -⟩:=jC h;have A:=qP c.a ((cC _).1 g).1 hn.1;have B:=qP c.b ((cC _).1 d).1 hn.2;have y:=jG.appS f7 (jG.appS (Pn (F3 j)) B);have z:=jF.app A y (fun r _=>gG (by decide) _);simpa [rL] using z
theorem yU:∀ l:List CD,gO l=0->Ak l->jF (gQ l) (oW l)
 | [],_,_=>yV.s
 | c :: r, h, hn => by
   have b:=yU r (jC h).2.2.2 (fun d hd=>hn d (List.mem_cons_of_mem _ hd));have C:=Bn h (hn c (List.mem_cons_self ..))
   have a:∀ q,lL q->lL (gQ r++q):=fun q f=>by
    cases r with
    | nil=>exact f
    | cons d t=>exact gG (by decide) _
   have y:=jF.app C b a;have n:=jG.appS f7 (jF.app (qQ (x:=l8) (by decide)) (jG.appS f7 y) (fun q _=>gG (by decide) _));simpa [gQ,oW,l8] using n
theorem yT:∀ l:List CD,gO l=0->Ak l->jF (oI l) (xJ l)
 | [],_,_=>yV.s
 | c :: r, h, hn => by
   have b:=yU r (jC h).2.2.2 (fun d hd=>hn d (List.mem_cons_of_mem _ hd));have C:=Bn h (hn c (List.mem_cons_self ..))
   have a:∀ q,lL q->lL (gQ r++q):=fun q f=>by
    cases r with
    | nil=>exact f
    | cons d t=>exact gG (by decide) _
   have y:=jF.app C b a;have n:=jG.appS f7 (jF.app (qQ (x:=eW) (by decide)) (jG.appS f7 y) (fun q _=>gG (by decide) _));simpa [oI,xJ,eW] using n
theorem Ie {x:Tq} (h:dZ x=true):cD x=true:=by
 unfold dZ at h;simp only [Bool.or_eq_true,beq_iff_eq] at h;rcases h with ((((h | h) | h) | h) | h) | h <;> rw [h] <;> decide
theorem cY {a:AG} (h:gA a=0):dZ a.fn.data.toList=true/\(a.fn.data.toList=cH->1<=a.k/\a.k<=16)/\(¬ a.fn.data.toList=aN->aW a.e=0)/\(a.fn.data.toList=aP->aW a.g=0)/\a.wh.length<=4/\gO a.wh=0:=by
 unfold gA at h;cases f:dZ a.fn.data.toList with
 | false=>rw [f,if_pos rfl] at h;cases h
 | true =>
   rw [f,if_neg (by decide)] at h;by_cases d:a.fn.data.toList=cH/\(a.k<1\/16<a.k)
   · rw [if_pos d] at h;cases h
   rw [if_neg d] at h;by_cases b:EZ a=0
   · rw [if_pos b] at h
     by_cases j:4<a.wh.length
     · rw [if_pos j] at h;cases h
     rw [if_neg j] at h;refine ⟨rfl,fun e=>?_,fun e=>?_,fun e=>?_,by omega,h⟩
     · have:¬ (a.k<1\/16<a.k):=fun x=>d ⟨e,x⟩
       omega
     · unfold EZ at b
       rw [if_neg e] at b;by_cases c:aW a.e=0
       · exact c
       · rw [if_neg c] at b;exact absurd b c
     · have l:¬ a.fn.data.toList=aN:=by rw [e];decide
       unfold EZ at b;rw [if_neg l] at b;by_cases c:aW a.e=0
       · rw [if_pos c,if_pos e] at b;exact b
       · rw [if_neg c] at b;exact absurd b c
   · rw [if_neg b] at h;exact absurd h b
theorem Hx {a:AG} (h:gA a=0) (hn:gM a):jF (gL a) (rK a):=by
 obtain ⟨m,d,c,b,l,j⟩:=cY h;unfold gL rK;by_cases c1:a.fn.data.toList=aN
 · rw [if_pos c1,if_pos c1];exact yV.s
 rw [if_neg c1,if_neg c1];have E:=qP a.e ((cC _).1 (c c1)).1 hn.e;by_cases c2:a.fn.data.toList=cH
 · rw [if_pos c2,if_pos c2]
   have f:=d c2;have N:=Mp (n:=a.k) (by omega) (by omega);have y:=jF.app N (jG.appS yW (jG.appS f7 E)) (fun q _=>gG (by decide) _);simpa using y
 rw [if_neg c2,if_neg c2];by_cases c3:a.fn.data.toList=aP
 · rw [if_pos c3,if_pos c3]
   have G:=qP a.g ((cC _).1 (b c3)).1 hn.g;have y:=jF.app E (jG.appS yW (jG.appS f7 G)) (fun q _=>gG (by decide) _);simpa using y
 rw [if_neg c3,if_neg c3];exact E
theorem SU {a:AG} (h:gA a=0) (hn:gM a):∃ ts,ts.map dM=KV a/\cR (dY a) 0=.ok ts:=by
 obtain ⟨f,n,m,l,k,d⟩:=cY h;have I:=jF.appF (Hx h hn) (qR (c:=41) (.inr (.inl rfl))) (fun r=>t7 r);have W:=jG.appS I (yT a.wh d hn.c);have y:=jF.app (qQ (Ie f)) (jG.appS (qR (c:=40) (.inl rfl)) W) (fun q _=>gG (by decide) _);obtain ⟨ts,j,b⟩:=y [] DL 0;refine ⟨ts,by rw [j];simp [KV],?_⟩;have g:dY a=a.fn.data.toList++([40]++(gL a++[41]++oI a.wh)):=by simp [dY]
 rw [g];rw [List.append_nil,j0] at b;rw [b];simp [fR.after]
def sN (post:List Co):Prop:=post=[]\/∃ k x v r,post=(k,x,v)::r/\(¬ k=3\/(([42] == x)=false/\([47] == x)=false/\([37] == x)=false/\([43] == x)=false/\([45] == x)=false))
theorem SS {L:List Tk} {q post:List Co} (j:L.map dM=q++post) (h:sN post):isM L q.length=false/\isA L q.length=false:=by
 rcases h with rfl | ⟨k,x,v,r,rfl,h⟩
 · have:L.length=q.length:=by
    have:=congrArg List.length j;simpa using this
   exact ⟨PK (by omega),PL (by omega)⟩
 · obtain ⟨t,o,n,m, -⟩:=jI j
   have f:∀ y,(¬ k=3\/(y == x)=false)->isS L y q.length=false:=fun y hy=>by
    unfold isS;rw [o];simp only;rw [n,m];simp only;rcases hy with l | hy
    · have:(k == 3)=false:=by simpa using l
      rw [this,Bool.false_and]
    · have:(x == y)=false:=by
       rw [beq_eq_false_iff_ne] at hy |-
       exact fun e=>hy e.symm
      rw [this,Bool.and_false]
   have g:∀ y,(y=[42]\/y=[47]\/y=[37]\/y=[43]\/y=[45])->(¬ k=3\/(y == x)=false):=fun y hy=>by
    rcases h with h | ⟨a,b,c,d,e⟩
    · exact .inl h
    · rcases hy with rfl | rfl | rfl | rfl | rfl
      · exact .inr a
      · exact .inr b
      · exact .inr c
      · exact .inr d
      · exact .inr e
   unfold isM isA;rw [f _ (g [42] (.inl rfl)),f _ (g [47] (.inr (.inl rfl))),f _ (g [37] (.inr (.inr (.inl rfl)))),f _ (g [43] (.inr (.inr (.inr (.inl rfl))))),f _ (g [45] (.inr (.inr (.inr (.inr rfl)))))];exact ⟨rfl,rfl⟩
theorem Pd {t:TN} (h:aW t=0) (hn:dU t.f) {L:List Tk} {pre post:List Co} (c:L.map dM=pre++(bM t++post)) (hp:sN post):ofL L pre.length=.ok (jR t) (pre.length+(bM t).length):=by
 obtain ⟨ho,hs⟩:=(cC t).1 h;have hr:=IY t ho hn L pre post c ⟨pre.length,0,0,0⟩ rfl rfl (by show 0+_<=32;omega);simp only [Nat.zero_add] at hr;obtain ⟨a,b⟩:=SS (q:=pre++bM t) (by rw [c];simp) hp;rw [Tb] at a b
 have e:pE L .sum ⟨pre.length,0,0,0⟩=(jR t,⟨pre.length+(bM t).length,aR t,0,0⟩):=by
  rw [FX,wT,hr];simp only;rw [gR];simp only;rw [if_neg (by rw [a];decide),lO];simp only;rw [if_neg (by rw [b];decide)]
 unfold ofL;rw [e];rfl
abbrev rAt (p:Nat):RS:=⟨p,0,0,0⟩
theorem kQ {t:TN} (h:aW t=0) (hn:dU t.f) {L:List Tk} {pre post:List Co} (a:L.map dM=pre++(bM t++post)) (hp:sN post) {p:Nat} (e:p=pre.length):bC L (rAt p)=(jR t,rAt (p+(bM t).length)):=by
 subst e;unfold bC;rw [if_pos rfl];simp only;rw [Pd h hn a hp]
theorem pV {L:List Tk} {pre post:List Co} {x:Tq} {v:Int} (a:L.map dM=pre++(3,x,v)::post) {p:Nat} (e:p=pre.length):aU L x (rAt p)=rAt (p+1):=by
 unfold aU;rw [if_pos rfl,if_pos (by rw [(eO a e).1];simp)];rfl
theorem Pa {o:Tr} (h:(bE o 0 0).isSome=true) (v:Int) (r:List Co):sN ((3,o.data.toList,v)::r):=by
 refine .inr ⟨_,_,_,_,rfl,.inr ?_⟩;rcases F3 h with h | h | h | h | h | h <;> rw [h] <;> decide
theorem qB (c:UInt8) (h:c=41\/c=44) (v:Int) (r:List Co):sN ((3,[c],v)::r):=by
 refine .inr ⟨_,_,_,_,rfl,.inr ?_⟩;rcases h with rfl | rfl <;> decide
theorem GQ (l:List CD):sN (oW l):=by
 cases l with
 | nil=>exact .inl rfl
 | cons c r=>exact .inr ⟨_,_,_,_,rfl,.inl (by decide)⟩
theorem Kb {c:CD} {l:List CD} (h:gO (c::l)=0) (hn:dU c.a.f/\dU c.b.f) {L:List Tk} {pre post:List Co} (u:L.map dM=pre++(rL c++post)) (hp:sN post) {p:Nat} (e:p=pre.length):cB L (rAt p)=(Kg c,rAt (p+(rL c).length)):=by
 obtain ⟨m,z,x, -⟩:=jC h;have d:L.map dM=pre++(bM c.a++(3,c.op.data.toList,0)::(bM c.b++post)):=by rw [u];simp [rL]
 have g:L.map dM=(pre++bM c.a)++(3,c.op.data.toList,0)::(bM c.b++post):=by rw [d];simp
 have j:L.map dM=(pre++bM c.a++[(3,c.op.data.toList,0)])++(bM c.b++post):=by rw [d];simp
 have k:p+(bM c.a).length=(pre++bM c.a).length:=by rw [e,Tb]
 have q:p+(bM c.a).length+1=(pre++bM c.a++[(3,c.op.data.toList,0)]).length:=by rw [e];simp;omega
 have r:=(eO (y:=[]) g k).2
 have s:opB L (p+(bM c.a).length)=true:=by
  obtain ⟨t,t1, -,n, -⟩:=jI g;unfold opB;rw [k,t1];simp only;rw [n];simp only;rw [kS];exact m
 unfold cB;simp only;rw [kQ z hn.1 d (Pa m 0 _) e];simp only;rw [if_pos trivial,if_pos s];have o:aM (rAt (p+(bM c.a).length))=rAt (p+(bM c.a).length+1):=rfl;rw [o,kQ x hn.2 j hp q,r,kS];simp only [rL,Tb,Te];rw [show p+(bM c.a).length+1+(bM c.b).length=p+((bM c.a).length+((bM c.b).length+1)) by omega];rfl
theorem Hf {L:List Tk} {pre post:List Co} {x:Tq} {v:Int} (b:L.map dM=pre++(1,x,v)::post) {p:Nat} (e:p=pre.length) (y:Tq):dX L y p=(x == y):=by
 obtain ⟨t,t1,t2,a, -⟩:=jI b;unfold dX;rw [e,t1];simp only;rw [t2,a];simp
theorem Is {L:List Tk} {p:Nat} (h:L.length<=p) (y:Tq):dX L y p=false:=by
 unfold dX;rw [List.getElem?_eq_none h]
theorem zU {L:List Tk}:∀ (l:List CD) (c:CD) (f:Nat) (acc:List CD) (pre:List Co) (x:Tq) (p:Nat),gO (c::l)=0->Ak (c::l)->acc.length+(l.length+1)<=4->l.length+1<=f ->
 L.map dM=pre++(1,x,0)::(rL c++oW l)->p=pre.length->eT L f acc (rAt p)=(acc++(c::l).map Kg,rAt L.length)
 | l,c,0,acc,pre,x,p,_,_,_,hf,_,_=>by omega
 | l, c, f + 1, acc, pre, x, p, h, hn, ha, hf, hL, e => by
   rw [eT,if_neg (by omega)];have j:aM (rAt p)=rAt (p+1):=rfl;have a:L.map dM=(pre++[(1,x,0)])++(rL c++oW l):=by rw [hL];simp
   have C:=Kb h (hn c (List.mem_cons_self ..)) a (GQ l) (p:=p+1) (by rw [e];simp);rw [j,C];simp only;cases l with
   | nil =>
     have b:L.length=p+1+(rL c).length:=by
      have:=congrArg List.length a;simp [oW] at this;omega
     rw [if_neg (by rw [Is (by omega)];simp),b];rfl
   | cons d r =>
     have g:L.map dM=(pre++[(1,x,0)]++rL c)++(1,l8,0)::(rL d++oW r):=by rw [a];simp [oW]
     have q:p+1+(rL c).length=(pre++[(1,x,0)]++rL c).length:=by rw [e];simp;omega
     rw [if_pos (by rw [Hf g q];simp)];rw [zU r d f (acc++[Kg c]) _ l8 _ (jC h).2.2.2 (fun y k=>hn y (List.mem_cons_of_mem _ k)) (by simp at ha |-;omega) (by simp at hf;omega) g q];simp
theorem KR {L:List Tk} {pre post:List Co} {x:Tq} {k:Int} (b:L.map dM=pre++(2,x,k)::post) {p:Nat} (e:p=pre.length) (d:1<=k) (c:k<=16):jW L (rAt p)=(k,rAt (p+1)):=by
 obtain ⟨t,t1,t2, -,a⟩:=jI b;unfold jW;rw [if_pos rfl];simp only;rw [e,t1];simp only;rw [if_pos t2,a,if_neg (by simp only;omega)];rfl
theorem Kn {a:AG} (h:gA a=0) (hn:gM a) {L:List Tk} {pre post:List Co} (b:L.map dM=pre++(rK a++(3,[41],0)::post)) {p:Nat} (e:p=pre.length) :
 bJ L a.fn.data.toList (rAt p)=(((wO a).k,(wO a).e,(wO a).g),rAt (p+(rK a).length)):=by
 obtain ⟨r,n,j,m,q,o⟩:=cY h;unfold bJ wO rK;unfold rK at b;simp only;by_cases c1:a.fn.data.toList=aN
 · have c2:¬ a.fn.data.toList=cH:=by rw [c1];decide
   have c3:¬ a.fn.data.toList=aP:=by rw [c1];decide
   rw [if_pos c1,if_neg c2,if_pos c1,if_neg c3,if_pos c1];rfl
 rw [if_neg c1] at b;rw [if_neg c1,if_neg c1,if_neg c1];by_cases c2:a.fn.data.toList=cH
 · have c3:¬ a.fn.data.toList=aP:=by rw [c2];decide
   rw [if_pos c2] at b;have l:=n c2;have f:L.map dM=pre++(2,Lib.itoa a.k,a.k)::((3,[44],0)::(bM a.e++(3,[41],0)::post)):=by rw [b];simp
   have d:L.map dM=(pre++[(2,Lib.itoa a.k,a.k)])++(3,[44],0)::(bM a.e++(3,[41],0)::post):=by rw [b];simp
   have c:L.map dM=(pre++[(2,Lib.itoa a.k,a.k),(3,[44],0)])++(bM a.e++(3,[41],0)::post):=by rw [b];simp
   simp only [if_pos c2,if_neg c3];rw [KR f e l.1 l.2];simp only;rw [pV d (by rw [e];simp),kQ (j c1) hn.e c (qB 41 (.inl rfl) 0 _) (by rw [e];simp)];simp only [Te];rw [show p+1+1+(bM a.e).length=p+((bM a.e).length+1+1) by omega]
 · rw [if_neg c2] at b
   simp only [if_neg c2];by_cases c3:a.fn.data.toList=aP
   · rw [if_pos c3] at b
     have f:L.map dM=pre++(bM a.e++(3,[44],0)::(bM a.g++(3,[41],0)::post)):=by rw [b];simp
     have d:L.map dM=(pre++bM a.e)++(3,[44],0)::(bM a.g++(3,[41],0)::post):=by rw [b];simp
     have c:L.map dM=(pre++bM a.e++[(3,[44],0)])++(bM a.g++(3,[41],0)::post):=by rw [b];simp
     simp only [if_pos c3];rw [kQ (j c1) hn.e f (qB 44 (.inr rfl) 0 _) e];simp only;rw [pV d (by rw [e];simp),kQ (m c3) hn.g c (qB 41 (.inl rfl) 0 _) (by rw [e];simp;omega)];simp only [Tb,Te];rw [show p+(bM a.e).length+1+(bM a.g).length=p+((bM a.e).length+((bM a.g).length+1)) by omega]
   · rw [if_neg c3] at b
     simp only [if_neg c3];rw [kQ (j c1) hn.e b (qB 41 (.inl rfl) 0 _) e]
theorem NF {a:AG} (h:gA a=0) (hn:gM a) {L:List Tk} (n:L.map dM=KV a):agL L=.ok (wO a):=by
 obtain ⟨A,D,C,B,o,s⟩:=cY h;have m:L.map dM=[]++(1,a.fn.data.toList,0)::((3,[40],0)::(rK a++(3,[41],0)::xJ a.wh)):=n;have l:L.map dM=[(1,a.fn.data.toList,0)]++(3,[40],0)::(rK a++(3,[41],0)::xJ a.wh):=n;have j:L.map dM=[(1,a.fn.data.toList,0),(3,[40],0)]++(rK a++(3,[41],0)::xJ a.wh):=n;have d:L.map dM=([(1,a.fn.data.toList,0),(3,[40],0)]++rK a)++(3,[41],0)::xJ a.wh:=by rw [j];simp
 have b:L.length=2+(rK a).length+1+(xJ a.wh).length:=by
  have:=congrArg List.length d;simp at this;omega
 obtain ⟨t,t1,t2,z, -⟩:=jI m;have y:=pV l (p:=1) rfl;have x:=Kn h hn j (p:=2) rfl;have u:=pV d (p:=2+(rK a).length) (by simp;omega);unfold agL;rw [show L[0]? = some t from t1];simp only;rw [z];simp only;rw [if_neg (by rw [t2];simp),A,if_neg (by decide),show (⟨1,0,0,0⟩:RS)=rAt 1 from rfl,y];simp only;rw [if_neg (by simp),show rAt (1+1)=rAt 2 from rfl,x];simp only;rw [u,if_neg (by simp),kS];cases f:a.wh with
 | nil =>
   rw [f] at b;rw [if_pos (by simp only [b,xJ,List.length_nil];omega)];simp [wO,f]
 | cons c r =>
   rw [f] at b d o s;have k:Ak (c::r):=by rw [<- f];exact hn.c
   have g:L.map dM=([(1,a.fn.data.toList,0),(3,[40],0)]++rK a++[(3,[41],0)])++(1,eW,0)::(rL c++oW r):=by rw [d];simp [xJ]
   have q:2+(rK a).length+1=([(1,a.fn.data.toList,0),(3,[40],0)]++rK a++[(3,[41],0)]).length:=by simp;omega
   rw [if_neg (by simp only [b,xJ,Te];omega)];simp only;rw [Hf g q,if_neg (by simp),zU r c 5 [] _ eW _ s k (by simpa using o) (by simp at o;omega) g q];simp only;rw [if_neg (by simp),if_neg (by omega)];simp [wO,f]
theorem Nz {l:Tq} (hl:1024<l.length):agX l=.bad 0 4:=by
 unfold agX gY;rw [if_pos hl]
theorem AX:∀ l:List CD,mJ (l.map Kg) l=true
 | []=>rfl
 | c :: r => by
   rw [List.map_cons,mJ];have ha:dF (jR c.a) c.a=true:=mH c.a.f;have d:dF (jR c.b) c.b=true:=mH c.b.f;show ((c.op.toList == c.op.toList) && dF (jR c.a) c.a && dF (jR c.b) c.b && mJ (r.map Kg) r)=true;rw [ha,d,AX r];simp
theorem IQ (a:AG):vM (wO a) a=true:=by
 have b:dF (jR a.e) a.e=true:=mH a.e.f;have c:dF (jR a.g) a.g=true:=mH a.g.f;unfold vM wO;simp only [List.length_map,beq_self_eq_true,AX,Bool.true_and,Bool.and_true];by_cases c1:a.fn.data.toList=aN
 · have c2:¬ a.fn.data.toList=cH:=by rw [c1];decide
   have c3:¬ a.fn.data.toList=aP:=by rw [c1];decide
   simp [c1,aN,cH,aP]
 · by_cases c3:a.fn.data.toList=aP
   · simp [c3,b,c,aN,cH,aP]
   · by_cases c2:a.fn.data.toList=cH
     · simp [c2,b,aN,cH,aP]
     · simp [c1,c2,c3,b]
def eH (g:Tr->Option Int):List CD->Bool
 | []=>true
 | c::r=>(match evT g c.a,evT g c.b with | some x,some y=>(bE c.op x y).getD false | _,_=>false) && eH g r
inductive EvR | no | num (n:Int) | list (l:List Int)
structure ES where
 n:Int
 some:Bool
 best:Int
 by':Int
 sum:Int
 top:List Int
def es0:ES:=⟨0,false,0,0,0,[]⟩
def oZ (fn:Tq) (g:Tr->Option Int) (y:TN) (s:ES) (e:Int):ES :=
 if fn=lZ then { s with best:=if s.some=false\/e<s.best then e else s.best,some:=true }
 else if fn=oO then { s with best:=if s.some=false\/s.best<e then e else s.best,some:=true }
 else if fn=lY then { s with sum:=eC (s.sum+e),some:=true }
 else if fn=cH then { s with top:=oP lsL s.top e,some:=true }
 else match evT g y with
  | none=>s
  | some b=>if s.some=false\/b<s.by' then { s with best:=e,by':=b,some:=true } else { s with some:=true }
theorem DN (g:Tr->Option Int) (y:TN) (s:ES) (e:Int):oZ aP g y s e=match evT g y with
 | none=>s
 | some b=>if s.some=false\/b<s.by' then { s with best:=e,by':=b,some:=true } else { s with some:=true }:=by
 unfold oZ;rw [if_neg (show ¬ aP=lZ by decide),if_neg (show ¬ aP=oO by decide),if_neg (show ¬ aP=lY by decide),if_neg (show ¬ aP=cH by decide)]
def r8 (a:AG) (s:ES) (g:Tr->Option Int):ES :=
 if eH g a.wh=false then s else
 if a.fn.data.toList=aN then { s with n:=s.n+1 } else
 match evT g a.e with
  | none=>{ s with n:=s.n+1 }
  | some e=>oZ a.fn.data.toList g a.g { s with n:=s.n+1 } e
def BH (a:AG) (s:ES):EvR :=
 if a.fn.data.toList=aN then .num s.n else
 if a.fn.data.toList=lY then .num s.sum else
 if a.fn.data.toList=cH then .list (s.top.drop (s.top.length-a.k.toNat)) else
 if s.some=false then .no else .num s.best
def evG (a:AG) (gs:List (Tr->Option Int)):EvR:=BH a (gs.foldl (r8 a) es0)
def iV (a:AG) (gs:List (Tr->Option Int)):List (Tr->Option Int):=gs.filter (fun g=>eH g a.wh)
def zN (a:AG) (gs:List (Tr->Option Int)):List Int:=(iV a gs).filterMap (fun g=>evT g a.e)
def yC (a:AG) (gs:List (Tr->Option Int)):List (Int×Int):=(iV a gs).filterMap (fun g=>match evT g a.e,evT g a.g with | some e,some b=>some (e,b) | _,_=>none)
def stB {K:Type} (less:K->K->Bool) (o:Option K) (e:K):Option K:=match o with | none=>some e | some b=>if less e b=true then some e else some b
def B8 {K:Type} (less:K->K->Bool) (l:List K):Option K:=l.foldl (stB less) none
theorem rZ (a:AG) (g:Tr->Option Int) (gs:List (Tr->Option Int)):iV a (g::gs)=if eH g a.wh=true then g::iV a gs else iV a gs:=by
 unfold iV;rw [List.filter_cons]
theorem MS (a:AG):∀ (gs:List (Tr->Option Int)) (s:ES),(gs.foldl (r8 a) s).n=s.n+((iV a gs).length:Int)
 | [],s=>by simp [iV]
 | g :: gs, s => by
   rw [List.foldl_cons,MS a gs,rZ];unfold r8;cases h:eH g a.wh with
   | false=>rw [if_pos rfl,if_neg (by decide)]
   | true =>
     rw [if_neg (by decide),if_pos rfl,Te]
     have:∀ (t:ES),(if a.fn.data.toList=aN then ({ t with n:=t.n+1 }:ES) else match evT g a.e with
      | none=>{ t with n:=t.n+1 }
      | some e=>oZ a.fn.data.toList g a.g { t with n:=t.n+1 } e).n=t.n+1:=fun t=>by
      split
      · rfl
      · split
        · rfl
        · unfold oZ
          split
          · rfl
          split
          · rfl
          split
          · rfl
          split
          · rfl
          split
          · rfl
          split <;> rfl
     rw [this s];omega
theorem pL {α : Type} (a:AG) (c:¬ a.fn.data.toList=aN) (f:ES -> α) (h: α -> Int -> α) (hn:∀ (s:ES) (m:Int),f { s with n:=m }=f s)
 (hs:∀ (g:Tr->Option Int) (s:ES) (e:Int),f (oZ a.fn.data.toList g a.g s e)=h (f s) e):∀ (gs:List (Tr->Option Int)) (s:ES),f (gs.foldl (r8 a) s)=(zN a gs).foldl h (f s)
 | [],s=>rfl
 | g :: gs, s => by
   rw [List.foldl_cons,pL a c f h hn hs gs];unfold zN;rw [rZ];unfold r8;cases d:eH g a.wh with
   | false=>rw [if_pos rfl,if_neg (by decide)]
   | true =>
     rw [if_neg (by decide),if_pos rfl,if_neg c];cases b:evT g a.e with
     | none=>simp only [List.filterMap_cons,b];rw [hn]
     | some e=>simp only [List.filterMap_cons,b,List.foldl_cons];rw [hs,hn]
theorem zJ {α : Type} (a:AG) (d:¬ a.fn.data.toList=aN) (f:ES -> α) (h: α -> Int×Int -> α) (hn:∀ (s:ES) (m:Int),f { s with n:=m }=f s)
 (hs:∀ (g:Tr->Option Int) (s:ES) (e:Int),f (oZ a.fn.data.toList g a.g s e)=(match evT g a.g with | some b=>h (f s) (e,b) | none=>f s)):∀ (gs:List (Tr->Option Int)) (s:ES),f (gs.foldl (r8 a) s)=(yC a gs).foldl h (f s)
 | [],s=>rfl
 | g :: gs, s => by
   rw [List.foldl_cons,zJ a d f h hn hs gs];unfold yC;rw [rZ];unfold r8;cases j:eH g a.wh with
   | false=>rw [if_pos rfl,if_neg (by decide)]
   | true =>
     rw [if_neg (by decide),if_pos rfl,if_neg d];cases c:evT g a.e with
     | none=>simp only [List.filterMap_cons,c];rw [hn]
     | some e =>
       simp only [List.filterMap_cons,c];rw [hs,hn];cases evT g a.g <;> rfl
def Em (s:ES):Option Int:=if s.some=false then none else some s.best
def O8 (s:ES):Option (Int×Int):=if s.some=false then none else some (s.best,s.by')
def lsG (a b:Int):Bool:=decide (b<a)
def lsP (a b:Int×Int):Bool:=decide (a.2<b.2)
theorem uW {a:AG} (h:a.fn.data.toList=aN) (gs:List (Tr->Option Int)):evG a gs=.num ((iV a gs).length:Int):=by
 unfold evG BH;rw [if_pos h,MS];simp [es0]
theorem Da {a:AG} (h:a.fn.data.toList=lY) (gs:List (Tr->Option Int)):evG a gs=.num ((zN a gs).foldl (fun s e=>eC (s+e)) 0):=by
 have b:¬ a.fn.data.toList=aN:=by rw [h];decide
 unfold evG BH;rw [if_neg b,if_pos h,pL a b (fun s=>s.sum) (fun s e=>eC (s+e)) (fun _ _=>rfl) (fun g s e=>by unfold oZ;rw [h];rfl)];rfl
theorem Ih {a:AG} (h:a.fn.data.toList=cH) (gs:List (Tr->Option Int)):evG a gs=.list (((zN a gs).foldl (oP lsL) []).drop (((zN a gs).foldl (oP lsL) []).length-a.k.toNat)):=by
 have b:¬ a.fn.data.toList=aN:=by rw [h];decide
 have hs:¬ a.fn.data.toList=lY:=by rw [h];decide
 unfold evG BH;rw [if_neg b,if_neg hs,if_pos h,pL a b (fun s=>s.top) (oP lsL) (fun _ _=>rfl) (fun g s e=>by unfold oZ;rw [h];rfl)];rfl
theorem C9 {a:AG} (c:¬ a.fn.data.toList=aN) (hs:¬ a.fn.data.toList=lY) (b:¬ a.fn.data.toList=cH) (s:ES):BH a s=match Em s with | none=>.no | some n=>.num n:=by
 unfold BH Em;rw [if_neg c,if_neg hs,if_neg b];cases s.some <;> rfl
theorem Ii {a:AG} (h:a.fn.data.toList=lZ) (gs:List (Tr->Option Int)):evG a gs=match B8 lsL (zN a gs) with | none=>.no | some n=>.num n:=by
 have b:¬ a.fn.data.toList=aN:=by rw [h];decide
 unfold evG B8
 rw [C9 b (by rw [h];decide) (by rw [h];decide),pL a b Em (stB lsL) (fun _ _=>rfl) (fun g s e=>by
  unfold oZ Em stB;rw [if_pos h];cases hx:s.some with
  | false=>simp
  | true =>
    by_cases hl:e<s.best
    · simp [hl,lsL]
    · simp [hl,lsL])]
 rfl
theorem Ij {a:AG} (h:a.fn.data.toList=oO) (gs:List (Tr->Option Int)):evG a gs=match B8 lsG (zN a gs) with | none=>.no | some n=>.num n:=by
 have b:¬ a.fn.data.toList=aN:=by rw [h];decide
 have c:¬ a.fn.data.toList=lZ:=by rw [h];decide
 unfold evG B8
 rw [C9 b (by rw [h];decide) (by rw [h];decide),pL a b Em (stB lsG) (fun _ _=>rfl) (fun g s e=>by
  unfold oZ Em stB;rw [if_neg c,if_pos h];cases hx:s.some with
  | false=>simp
  | true =>
    by_cases hl:s.best<e
    · simp [hl,lsG]
    · simp [hl,lsG])]
 rfl
theorem BI {a:AG} (h:a.fn.data.toList=aP) (gs:List (Tr->Option Int)):evG a gs=match B8 lsP (yC a gs) with | none=>.no | some n=>.num n.1:=by
 have c:¬ a.fn.data.toList=aN:=by rw [h];decide
 have e:∀ s:ES,Em s=(O8 s).map (fun n=>n.1):=fun s=>by unfold Em O8;cases s.some <;> rfl
 unfold evG B8
 rw [C9 c (by rw [h];decide) (by rw [h];decide),e,zJ a c O8 (stB lsP) (fun _ _=>rfl) (fun g s e=>by
  rw [h,DN];unfold O8 stB;cases evT g a.g with
  | none=>rfl
  | some b =>
    simp only;cases hx:s.some with
    | false=>simp
    | true =>
      by_cases hl:b<s.by'
      · simp [hl,lsP]
      · simp [hl,lsP])]
 show (match Option.map (fun n:Int×Int=>n.1) (List.foldl (stB lsP) none (yC a gs)) with | none=>EvR.no | some n=>.num n)=_;cases List.foldl (stB lsP) none (yC a gs) <;> rfl
theorem DA:∀ (l k:List Int),dI lsL k->dI lsL (l.foldl (oP lsL) k)/\∀ x,x∈l.foldl (oP lsL) k ↔ x∈k\/x∈l
 | [],k,h=>⟨h,fun x=>by simp⟩
 | e :: l, k, h => by
   obtain ⟨a,b⟩:=DA l (oP lsL k e) (pC Ow h e);refine ⟨a,fun x=>?_⟩;rw [List.foldl_cons,b,L9,List.mem_cons];constructor
   · rintro ((h | h) | h)
     · exact .inl h
     · exact .inr (.inl h)
     · exact .inr (.inr h)
   · rintro (h | h | h)
     · exact .inl (.inl h)
     · exact .inl (.inr h)
     · exact .inr h
structure LN where
 nm:Tr
 a:AG
def cE:Tq->List (Tq)
 | []=>[]
 | c :: r => if c = 10 then [] :: cE r else match cE r with
   | []=>[[c]]
   | x::q=>(c::x)::q
def mG:Tq->List (Tq)
 | []=>[[]]
 | c :: r => if c = 10 then [] :: mG r else match mG r with
   | []=>[[c]]
   | x::q=>(c::x)::q
theorem sY:∀ l:Tq,∃ x q,mG l=x::q
 | []=>⟨[],[],rfl⟩
 | c :: r => by
   obtain ⟨x,q,e⟩:=sY r;unfold mG;by_cases h:c=10
   · rw [if_pos h];exact ⟨_,_,rfl⟩
   · rw [if_neg h,e];exact ⟨_,_,rfl⟩
theorem mF (l:Tq):mG (10::l)=[]::mG l:=rfl
theorem fO {c:UInt8} (h:¬ c=10) {l:Tq} {x:Tq} {q:List (Tq)} (e:mG l=x::q):mG (c::l)=(c::x)::q:=by
 unfold mG;rw [if_neg h,e]
theorem Jj (l:Tq):cE (10::l)=[]::cE l:=rfl
theorem yR {c:UInt8} (h:¬ c=10) {l x:Tq} {q:List (Tq)} (e:cE l=x::q):cE (c::l)=(c::x)::q:=by
 conv=>lhs;unfold cE
 rw [if_neg h,e]
theorem mE:∀ l:Tq,(mG l=cE l/\¬ (mG l).getLast? = some [] )\/mG l=cE l++[[]]
 | []=>.inr rfl
 | c :: r => by
   by_cases h:c=10
   · subst h
     rw [mF,Jj];rcases mE r with ⟨e,n⟩ | e
     · refine .inl ⟨by rw [e],?_⟩
       obtain ⟨x,q,a⟩:=sY r;rw [a] at n |-
       rw [List.getLast?_cons_cons];exact n
     · exact .inr (by rw [e];rfl)
   · obtain ⟨x,q,a⟩:=sY r
     rw [fO h a];rcases mE r with ⟨e,n⟩ | e
     · rw [a] at e n
       refine .inl ⟨?_,?_⟩
       · unfold cE;rw [if_neg h, <- e]
       · cases q with
         | nil=>simp
         | cons y q=>rw [List.getLast?_cons_cons] at n |-;exact n
     · rw [a] at e
       unfold cE;rw [if_neg h];cases hl:cE r with
       | nil =>
         rw [hl] at e;simp at e;obtain ⟨rfl,rfl⟩:=e;exact .inl ⟨rfl,by simp⟩
       | cons y q' =>
         rw [hl] at e;simp at e;obtain ⟨rfl,rfl⟩:=e;exact .inr rfl
theorem uA:∀ l:Tq,∃ q a,mG l=q++[a]/\mG (l++[10])=q++[a]++[[]]/\∀ c,¬ c=10->mG (l++[c])=q++[a++[c]]
 | []=>⟨[],[],rfl,rfl,fun c f=>by rw [List.nil_append,fO f (l:=[]) rfl];rfl⟩
 | d :: l => by
   obtain ⟨q,a,j,h,g⟩:=uA l;by_cases hd:d=10
   · subst hd
     refine ⟨[]::q,a,?_,?_,fun c f=>?_⟩
     · rw [mF,j];rfl
     · rw [List.cons_append,mF,h];rfl
     · rw [List.cons_append,mF,g c f];rfl
   · cases q with
     | nil =>
       refine ⟨[],d::a,?_,?_,fun c f=>?_⟩
       · rw [fO hd j];rfl
       · rw [List.cons_append,fO hd h];rfl
       · rw [List.cons_append,fO hd (g c f)];rfl
     | cons b q =>
       refine ⟨(d::b)::q,a,?_,?_,fun c f=>?_⟩
       · rw [fO hd j];rfl
       · rw [List.cons_append,fO hd h];rfl
       · rw [List.cons_append,fO hd (g c f)];rfl
theorem sZ (l:Tq):(mG l).length<=l.length+1:=by
 induction l with
 | nil=>simp [mG]
 | cons c l ih =>
   by_cases h:c=10
   · subst h;rw [mF];simp;omega
   · obtain ⟨a,q,e⟩:=sY l
     rw [fO h e];rw [e] at ih;simp at ih |-;omega
theorem kN:∀ (l:Tq),∀ x∈mG l,x.length<=l.length
 | [],x,h=>by simp [mG] at h;subst h;simp
 | c :: l, x, h => by
   by_cases b:c=10
   · subst b
     rw [mF] at h;rcases List.mem_cons.1 h with rfl | h
     · simp
     · have:=kN l x h;simp;omega
   · obtain ⟨a,q,e⟩:=sY l
     rw [fO b e] at h;rcases List.mem_cons.1 h with rfl | h
     · have:=kN l a (by rw [e];simp);simp;omega
     · have:=kN l x (by rw [e];simp [h]);simp;omega
theorem Ge (l:Tq):∀ x∈cE l,x.length<=l.length:=fun x h=>by
 rcases mE l with ⟨e, -⟩ | e
 · exact kN l x (by rw [e];exact h)
 · exact kN l x (by rw [e];simp [h])
theorem Ji (l:Tq):(cE l).length<=l.length+1:=by
 rcases mE l with ⟨e, -⟩ | e
 · rw [<- e];exact sZ l
 · have:=sZ l
   rw [e] at this;simp at this;omega
theorem uO:∀ (x l:Tq),(∀ c∈x,¬ c=10)->cE (x++10::l)=x::cE l
 | [],l,_=>rfl
 | c :: x, l, h => by
   rw [List.cons_append];exact yR (h c (by simp)) (uO x l (fun d hd=>h d (by simp [hd])))
theorem yQ:∀ (x:Tq),¬ x=[]->(∀ c∈x,¬ c=10)->cE x=[x]
 | [],h,_=>absurd rfl h
 | [c], _, h => by
   unfold cE;rw [if_neg (h c (by simp))];rfl
 | c::d::x,_,h=>yR (h c (by simp)) (yQ (d::x) (by simp) (fun e a=>h e (by simp [a])))
def jS (c:UInt8):Bool:=c == 32
def eM (c:UInt8):Bool:=c != 32 && c != 61
def fN (l:Tq):Option (Tq×Tq) :=
 let a:=l.dropWhile jS
 if a.takeWhile eM=[] then none else match (a.dropWhile eM).dropWhile jS with
  | 61::r=>some (a.takeWhile eM,r)
  | _=>none
def dD (x:Tq):Bool:=x == [114,101,112] || x == [108,111,97,100] || x == [110] || x == [118,101,114]
inductive Ip | bad (p:Nat) (e:Int) | ok (l:List LN)
inductive Fo | bad (e:Int) | ok (x:LN)
def eU (acc:List LN) (s:Tq):Fo:=match fN s with
 | none=>.bad 2
 | some (nm, r) => if cD nm = false \/ dD nm = true then .bad 5 else
   if acc.any (fun x=>x.nm.data.toList == nm)=true then .bad 6 else match agX r with
    | .bad _ e=>.bad e
    | .ok a=>.ok ⟨⟨nm.toArray⟩,a⟩
def fD:List (Tq)->List LN->Ip
 | [],acc=>.ok acc
 | s :: q, acc => if acc.length = 8 then .bad acc.length 4 else match eU acc s with
   | .bad e=>.bad acc.length e
   | .ok x=>fD q (acc++[x])
def fX (l:Tq):Ip:=fD (cE l) []
def oJ (x:LN):Tq:=x.nm.data.toList++32::61::32::(dY x.a++[10])
def fK:List LN->Tq
 | []=>[]
 | x::r=>oJ x++fK r
theorem vY {acc:List LN} {s:Tq} {e:Int} (b:∀ (l:Tq) (p:Nat) (e:Int),agX l=.bad p e->¬ e=0) (h:eU acc s=.bad e):¬ e=0:=by
 unfold eU at h;split at h
 · cases h;decide
 · split at h
   · cases h;decide
   · split at h
     · cases h;decide
     · split at h
       · rename_i p c a
         cases h;exact b _ _ _ a
       · cases h
theorem Pl {acc:List LN} {s:Tq} {x:LN} (h:eU acc s=.ok x):∃ r,fN s=some (x.nm.data.toList,r)/\cD x.nm.data.toList=true/\dD x.nm.data.toList=false/\acc.any (fun y=>y.nm.data.toList == x.nm.data.toList)=false/\agX r=.ok x.a:=by
 unfold eU at h;split at h
 · cases h
 · rename_i nm r f
   split at h
   · cases h
   · rename_i n2
     split at h
     · cases h
     · rename_i b
       split at h
       · cases h
       · rename_i a ea
         cases h;refine ⟨r,f,?_,?_,?_,ea⟩
         · cases d:cD nm with
           | true=>rfl
           | false=>exact absurd (.inl d) n2
         · cases c:dD nm with
           | false=>rfl
           | true=>exact absurd (.inr c) n2
         · simpa using b
structure OkP (l:List LN):Prop where
 len:l.length<=8
 nm:∀ x∈l,cD x.nm.data.toList=true/\dD x.nm.data.toList=false
 nd:(l.map (fun x=>x.nm.data.toList)).Nodup
 ag:∀ x∈l,∃ r,agX r=.ok x.a
theorem OkP.snoc {l:List LN} (h:OkP l) (hl:¬ l.length=8) {x:LN} {r:Tq} (j:cD x.nm.data.toList=true) (g:dD x.nm.data.toList=false) (d:l.any (fun y=>y.nm.data.toList == x.nm.data.toList)=false) (f:agX r=.ok x.a):OkP (l++[x]):=by
 refine ⟨by have:=h.len;simp;omega,fun y hy=>?_,?_,fun y hy=>?_⟩
 · rcases List.mem_append.1 hy with hy | hy
   · exact h.nm y hy
   · simp at hy;subst hy;exact ⟨j,g⟩
 · rw [List.map_append,List.nodup_append]
   refine ⟨h.nd,by simp,fun a ha b c e=>?_⟩;simp at c;subst c;subst e;obtain ⟨y,hy,e⟩:=List.mem_map.1 ha;have:l.any (fun y=>y.nm.data.toList == x.nm.data.toList)=true:=List.any_eq_true.2 ⟨y,hy,by simpa using e⟩;rw [this] at d;cases d
 · rcases List.mem_append.1 hy with hy | hy
   · exact h.ag y hy
   · simp at hy;subst hy;exact ⟨r,f⟩
theorem Ee:∀ (q:List (Tq)) (acc l:List LN),OkP acc->fD q acc=.ok l->OkP l
 | [],acc,l,h,e=>by unfold fD at e;cases e;exact h
 | s :: q, acc, l, h, e => by
   unfold fD at e;split at e
   · cases e
   · rename_i hl
     split at e
     · cases e
     · rename_i x hx
       obtain ⟨r, -,d,c,b,a⟩:=Pl hx;exact Ee q _ l (h.snoc hl d c b a) e
theorem Pc:OkP []:=⟨by simp,fun _ h=>(nomatch h),by simp,fun _ h=>(nomatch h)⟩
theorem xX {s:Tq} {l:List LN} (h:fX s=.ok l):OkP l:=Ee _ _ _ Pc h
theorem Be (hA:∀ (l:Tq) (p:Nat) (e:Int),agX l=.bad p e->¬ e=0):∀ (q:List (Tq)) (acc:List LN) (p:Nat) (e:Int),acc.length<=8->fD q acc=.bad p e->¬ e=0/\p<=8
 | [],acc,p,e,_,h=>by unfold fD at h;cases h
 | s :: q, acc, p, e, hl, h => by
   unfold fD at h;split at h
   · cases h;exact ⟨by decide,by omega⟩
   · split at h
     · rename_i b a
       cases h;exact ⟨vY hA a,hl⟩
     · exact Be hA q _ p e (by simp;omega) h
abbrev lnL (x:LN) (p:PA):List Value:=[.string x.nm,.string x.a.fn,.int .i64 x.a.k,.string x.a.e.op,.string x.a.e.nm,.int .i64 x.a.e.n,.slice p.ea x.a.e.ks.len p.ec,.string x.a.g.op,.string x.a.g.nm,.int .i64 x.a.g.n,.slice p.ga x.a.g.ks.len p.gc,.slice p.wa x.a.wh.length p.wc]
def oH (w:World) (b o:Nat) (x:LN) (p:PA):Prop :=
 w.cell? ⟨b,o,none⟩=some (.string x.nm)/\w.cell? ⟨b,o+1,none⟩=some (.string x.a.fn)/\w.cell? ⟨b,o+1+1,none⟩=some (.int .i64 x.a.k)/\w.cell? ⟨b,o+1+2,none⟩=some (.string x.a.e.op)/\w.cell? ⟨b,o+1+3,none⟩=some (.string x.a.e.nm)/\w.cell? ⟨b,o+1+4,none⟩=some (.int .i64 x.a.e.n)/\w.cell? ⟨b,o+1+5,none⟩=some (.slice p.ea x.a.e.ks.len p.ec) /\
  w.cell? ⟨b,o+1+6,none⟩=some (.string x.a.g.op)/\w.cell? ⟨b,o+1+7,none⟩=some (.string x.a.g.nm)/\w.cell? ⟨b,o+1+8,none⟩=some (.int .i64 x.a.g.n)/\w.cell? ⟨b,o+1+9,none⟩=some (.slice p.ga x.a.g.ks.len p.gc)/\w.cell? ⟨b,o+1+10,none⟩=some (.slice p.wa x.a.wh.length p.wc)
theorem oH.keptS {S:Nat->Prop} {w w':World} {b o:Nat} {x:LN} {p:PA} (h:oH w b o x p) (a:aC S w w') (c:¬ S b):oH w' b o x p:=by
 obtain ⟨t,s,r,q,n,m,l,k,j,g,f,d⟩:=h;exact ⟨a.cell t c,a.cell s c,a.cell r c,a.cell q c,a.cell n c,a.cell m c,a.cell l c,a.cell k c,a.cell j c,a.cell g c,a.cell f c,a.cell d c⟩
theorem GT {w:World} {b o:Nat} {x:LN} {p:PA} (h:∀ i u,(lnL x p)[i]? = some u->w.cell? ⟨b,o+i,none⟩=some u):oH w b o x p :=
 ⟨h 0 _ rfl,h 1 _ rfl,h 2 _ rfl,h 3 _ rfl,h 4 _ rfl,h 5 _ rfl,h 6 _ rfl,h 7 _ rfl,h 8 _ rfl,h 9 _ rfl,h 10 _ rfl,h 11 _ rfl⟩
def cQ (G:Nat->Prop) (w:World) (a:Tp) (l:List LN):Prop:=l=[]\/∃ b off,a=some ⟨b,off,none⟩/\G b/\b<w.heap.size/\∀ (j:Nat) x,l[j]? = some x->∃ p,oH w b (off+j*12) x p/\aX G w x.a p
theorem cQ.keptS {S G:Nat->Prop} {w w':World} {a:Tp} {l:List LN} (h:cQ G w a l) (c:aC S w w') (d:∀ k,S k->¬ G k):cQ G w' a l :=
 Or.imp id (fun ⟨b,off,e,hg,hlt,hc⟩=>⟨b,off,e,hg,Nat.lt_of_lt_of_le hlt c.size,fun j x f=>by
  obtain ⟨p,m,g⟩:=hc j x f;exact ⟨p,m.keptS c (fun hs=>d b hs hg),g.keptS c d⟩⟩) h
theorem cQ.kept {G:Nat->Prop} {w w':World} {a:Tp} {l:List LN} (h:cQ G w a l) (b:Below w.heap.size w w'):cQ G w' a l:=h.keptS (S:=fun _=>False) (aF b _) (fun _ h=>h.elim)
theorem cQ.imp {G H:Nat->Prop} {w:World} {a:Tp} {l:List LN} (h:cQ G w a l) (c:∀ b,b<w.heap.size->G b->H b):cQ H w a l :=
 Or.imp id (fun ⟨b,off,e,hg,hlt,hc⟩=>⟨b,off,e,c b hlt hg,hlt,fun j x d=>by
  obtain ⟨p,g,f⟩:=hc j x d;exact ⟨p,g,f.imp c⟩⟩) h
theorem cQ.at {G:Nat->Prop} {w:World} {a:Tp} {l:List LN} (h:cQ G w a l) {j:Nat} {x:LN} (c:l[j]? = some x):∃ b off p,a=some ⟨b,off,none⟩/\b<w.heap.size/\G b/\oH w b (off+j*12) x p/\aX G w x.a p:=by
 rcases h with rfl | ⟨b,off,rfl,f,hl,d⟩
 · cases c
 · obtain ⟨p,k,g⟩:=d j x c
   exact ⟨b,off,p,rfl,hl,f,k,g⟩
def jO:List LN->List PA->List Value
 | x::r,p::s=>lnL x p++jO r s
 | _,_=>[]
def SJ (G:Nat->Prop) (w:World) (l:List LN) (ps:List PA):Prop:=∀ (j:Nat) (x:LN) (p:PA),l[j]? = some x->ps[j]? = some p->aX G w x.a p
theorem tK:∀ (l:List LN) (q:List PA),∀ u∈jO l q,u.oneCell'=true
 | [],_,u,h=>by simp [jO] at h
 | _::_,[],u,h=>by simp [jO] at h
 | d :: r, p :: s, u, h => by
   rw [jO] at h;rcases List.mem_append.1 h with h | h
   · simp only [lnL,List.mem_cons,List.not_mem_nil,or_false] at h
     rcases h with rfl | rfl | rfl | rfl | rfl | rfl | rfl | rfl | rfl | rfl | rfl | rfl <;> rfl
   · exact tK r s u h
theorem Ev:∀ (l m:List LN) (q p:List PA),q.length=l.length->jO (l++m) (q++p)=jO l q++jO m p
 | [],m,[],p,_=>rfl
 | [],_,_::_,_,h=>by simp at h
 | _::_,_,[],_,h=>by simp at h
 | d::r,m,q::s,p,h=>by rw [List.cons_append,List.cons_append,jO,jO,Ev r m s p (by simpa using h),List.append_assoc]
theorem wX:∀ (l:List LN) (q:List PA) {k:Nat} {d:LN} (_:q.length=l.length) (_:l[k]? = some d),∃ p,q[k]? = some p/\∀ i u,(lnL d p)[i]? = some u->(jO l q)[k*12+i]? = some u
 | [],_,k,d,_,hk=>by simp at hk
 | _::_,[],k,d,h,_=>by simp at h
 | d :: r, p :: s, 0, d', h, hk => by
   cases hk;refine ⟨p,rfl,fun i u a=>?_⟩;have b:i<12:=(List.getElem?_eq_some_iff.1 a).1;rw [jO,Nat.zero_mul,Nat.zero_add,List.getElem?_append_left (by simpa [lnL] using b)];exact a
 | d :: r, p :: s, k + 1, d', h, hk => by
   obtain ⟨p',f,c⟩:=wX r s (k:=k) (d:=d') (by simpa using h) (by simpa using hk);refine ⟨p',by simpa using f,fun i u a=>?_⟩;rw [jO,List.getElem?_append_right (by simp [lnL];omega)];have:(k+1)*12+i-(lnL d p).length=k*12+i:=by simp [lnL];omega
   rw [this];exact c i u a
theorem FM {G:Nat->Prop} {w:World} {B:Nat} {e:TypeId} {a:Tp} {c:Nat} {l:List LN} {qs:List PA} (ho:w.ownsRow B e 12 (.slice a l.length c) l.length (jO l qs)) (hl:qs.length=l.length) (s:SJ G w l qs) (x:∀ b,a=some ⟨b,0,none⟩->G b):cQ G w a l:=by
 by_cases hn:l=[]
 · exact .inl hn
 right
 have y:∃ d,l[0]? = some d:=by
  cases l with
  | nil=>exact absurd rfl hn
  | cons d r=>exact ⟨d,rfl⟩
 obtain ⟨D,n⟩:=y;obtain ⟨A, -,h⟩:=wX l qs hl n;obtain ⟨g,m,z⟩:=lD ho (h 0 _ rfl);have k:g<w.heap.size:=by have:=World.block_lt_of_cell? w _ z;simpa using this
 refine ⟨g,0,m,x g m,k,fun j d o=>?_⟩;obtain ⟨p,hp,t⟩:=wX l qs hl o;refine ⟨p,GT fun i u q=>?_,s j d p o hp⟩;obtain ⟨C,f,c⟩:=lD ho (t i u q);rw [m] at f;cases f;rw [Nat.zero_add];exact c
def Aj (r:Ip) (w0:World) (e:Ending) (w':World):Prop:=Below w0.heap.size w0 w'/\match r with
 | .bad p er=>e=.returned (.tuple #[.slice none 0 0,.int .i64 (p:Nat),.int .i64 er])
 | .ok l=>∃ a c,e=.returned (.tuple #[.slice a l.length c,.int .i64 0,.int .i64 0])/\cQ (fun b=>w0.heap.size<=b) w' a l
open Wr (tv Bi tF Hm AK H8)
def Ai (G:Nat->Prop) (w:World) (a:Tp) (L:List (Tq)):Prop:=L=[]\/∃ b off,a=some ⟨b,off,none⟩/\G b/\b<w.heap.size/\∀ (j:Nat) x,L[j]? = some x->w.cell? ⟨b,off+j,none⟩=some (.string ⟨x.toArray⟩)
theorem Ai.at {G:Nat->Prop} {w:World} {a:Tp} {L:List (Tq)} (h:Ai G w a L) {j:Nat} {x:Tq} (c:L[j]? = some x):∃ b off,a=some ⟨b,off,none⟩/\b<w.heap.size/\w.cell? ⟨b,off+j,none⟩=some (.string ⟨x.toArray⟩):=by
 rcases h with rfl | ⟨b,off,rfl,f,hl,d⟩
 · cases c
 · exact ⟨b,off,rfl,hl,d j x c⟩
def wL (l:Tq):List Value:=(mG l).map tv
theorem xU {w:World} {B:Nat} {a:Tp} {n c:Nat} {L M:List (Tq)} (h:w.ownsRow B 9 1 (.slice a n c) n (M.map tv)) (m:∃ r,L++r=M):Ai (fun b=>B<=b) w a L:=by
 obtain ⟨r,hr⟩:=m;rcases h.2 with ⟨d, -⟩ | ⟨g,s,q,d,p,o,z,y,u,t⟩
 · left
   injection d with _ d _;have:=h.1;rw [List.length_map, <- hr,Tb] at this;exact Tg.1 (by omega)
 · injection d with ha _ _
   subst ha;refine .inr ⟨g,0,rfl,p,lt_of_block o,fun j x f=>?_⟩
   have k:(M.map tv)[j]? = some (tv x):=by
    rw [List.getElem?_map, <- hr,List.getElem?_append_left (List.getElem?_eq_some_iff.1 f).1,f];rfl
   have l:=tF h k;obtain ⟨c1, -⟩:=l;simpa [tv] using c1
theorem FT (s:Tr) (U:1<=s.size) (hm:s.size<=5000) (w:World):Calls prog 29 #[.string s] w fun e w'=>(∃ a c,e=.returned (.slice a (cE s.data.toList).length c)/\Ai (fun b=>w.heap.size<=b) w' a (cE s.data.toList))/\Below w.heap.size w w':=by
 have e1:=Bi (s:=s) (by omega)
 have e3:(s.toList == (⟨#[]⟩:Tr).toList)=false:=by
  rw [beq_eq_false_iff_ne];intro h;have:=congrArg List.length h;rw [Tm,Tm] at this;have h2:s.data.toList.length=s.size:=by simp
  have h3:(⟨#[]⟩:Tr).data.toList.length=0:=rfl;omega
 obtain ⟨B,hB⟩:∃ B,w.heap.size=B:=⟨_,rfl⟩;obtain ⟨i0,jf,jc,jb,ja⟩:=info_parts H8
 have G:(w.alloc (.cells #[.string ⟨#[]⟩] 9)).ownsRow B 9 1 (.slice (some ⟨B,0,none⟩) 1 1) (wL (s.data.toList.take 0)).length (wL (s.data.toList.take 0)):=by
  rw [List.take_zero];refine ⟨rfl,.inr ⟨B,1,#[.string ⟨#[]⟩],rfl,by omega,by rw [<- hB];exact World.alloc_heap_new w _,Td _,by unfold maxLen;omega,rfl,rfl⟩⟩
 have O:=aA G;have BL:=aA (show Below B w (w.alloc (.cells #[.string ⟨#[]⟩] 9)) from (Below.refl _ _).alloc (by omega) _);clear G;rw [hB];go_enter func29,ntmps29
 go_wp2_with fail
 go_loopw [3,4] (fun v i wr=>∃ k:Nat,k<=s.size/\i=.int .i64 k/\Hid (wr.ownsRow B 9 1 v (wL (s.data.toList.take k)).length (wL (s.data.toList.take k)))/\Hid (Below B w wr)) (fun _ i _=>s.size-(intOf i).toNat)
 case atStart=>exact ⟨0,by omega,rfl,O,BL⟩
 case round =>
  obtain ⟨k,hk,rfl,ho,R⟩:=hrel;have P:B<=wr.heap.size:=by have:=R.out.size;omega
  by_cases M:k<s.size
  · obtain ⟨q,a,A,g1,g2⟩:=uA (s.data.toList.take k)
    have C:s.data.toList.take (k+1)=s.data.toList.take k++[s[k]]:=by
     have je:k<s.data.toList.length:=by simpa using M
     rw [List.take_succ_eq_append_getElem je];rfl
    have x:q.length<=5001:=by
     have:=sZ (s.data.toList.take k);rw [A] at this;simp at this;omega
    have S:a.length<=5001:=by
     have h:=kN (s.data.toList.take k) a (by rw [A];simp);simp at h;omega
    have d:=ho.out;obtain ⟨Q,L⟩:∃ Q,q.map tv=Q:=⟨_,rfl⟩;have jg:Q.length<=5001:=by rw [<- L,List.length_map];exact x
    have f:wL (s.data.toList.take k)=Q++[tv a]:=by unfold wL;rw [A,List.map_append,L];rfl
    rw [f] at d;obtain ⟨N,t⟩:∃ N,Q.length=N:=⟨_,rfl⟩;rw [Tb,t,show [tv a].length=1 from rfl] at d;obtain ⟨g,u,rfl⟩:=ownsRow_succ d;have I:=aA d;rw [t] at jg;by_cases D:s[k]=10
    · have m:=aA (show wL (s.data.toList.take (k+1))=Q++[tv a]++[.string ⟨#[]⟩] by unfold wL;rw [C,D,g1,List.map_append,List.map_append,L];rfl)
      have jd:=aA (show N+1+1<=maxLen by unfold maxLen;omega);have o:=aA (show (Q++[tv a]++[Value.string ⟨#[]⟩]).length=N+1+1 by simp [t]);have X:((s[k].toNat:Int) == 10)=true:=by rw [D];decide
      clear d A g1 g2 C f L t D x ho;go_wp2_with (at_builtin;refine wpList_append_own _ rfl _ _ 55 rfl B 9 i0 (.string ⟨#[]⟩) 1 16 underlying55 jf jc jb ja rfl (by decide) _ _ _ rfl (I.out.alloc _) ⟨wr.heap.size,0,none⟩ 1 1 [.string ⟨#[]⟩] rfl rfl (cell_one_new _ _ _) (by simp [Value.oneCell']) jd.out (by omega) (by simp;omega) ?_;intro v2 w2 y r _;have H:=aA y;have G2:=aA r;clear y r)
      have z:=aA ((R.out.alloc P _).grown G2.out (by simp;omega) (fun j e=>by
       rcases I.out.2 with ⟨U,_⟩ | ⟨g,u,jp,U,hg,_⟩
       · rw [U] at e;cases e
       · rw [U] at e;cases e;exact hg))
      go_roundw
      case rel=>exact ⟨k+1,by omega,by go_num,aA (by rw [m.out,o.out];exact H.out),z⟩
      case measure=>simp [intOf];omega
    · have m:=aA (show wL (s.data.toList.take (k+1))=(Q++[tv a]).set N (.string (⟨a.toArray⟩++s.extract k (k+1))) by
       unfold wL;rw [C,g2 _ D,List.map_append,L,AK a s k M,List.set_append_right _ _ (by omega),t,Nat.sub_self];rfl)
      have o:=aA (show ((Q++[tv a]).set N (.string (⟨a.toArray⟩++s.extract k (k+1)))).length=N+1 by simp [t])
      have X:((s[k].toNat:Int) == 10)=false:=by
       rw [beq_eq_false_iff_ne];intro e;apply D;apply UInt8.toNat_inj.1
       have:s[k].toNat=10:=by omega
       rw [this];rfl
      obtain ⟨c1,c2⟩:=tF I.out (j:=N) (v:=tv a) (by rw [List.getElem?_append_right (by omega),t,Nat.sub_self];rfl);obtain ⟨H,jh⟩:=Hm I.out N (by omega) (.string (⟨a.toArray⟩++s.extract k (k+1)));have H:=aA H;obtain ⟨T,hT⟩:∃ T:Tr,⟨a.toArray⟩=T:=⟨_,rfl⟩;have jn:T.size<=5001:=by rw [<- hT];show a.toArray.size<=5001;simpa using S
      have z:=aA (R.out.setCell (p:=⟨g,N,none⟩) jh (.string (⟨a.toArray⟩++s.extract k (k+1))));unfold tv at c1;rw [hT] at c1 H z m o;clear d A g1 g2 C f L t D x ho S hT;go_wp2_with fail
      have j1:IntKind.i64.wrap (N:Int)=(N:Int):=IntWalk.i64_in _ (by omega);have j2:IntKind.i64.wrap ((k:Int)+1)=(k:Int)+1:=IntWalk.i64_in _ (by omega);have j3:(0:Int)<=(k:Int)+1:=by omega
      have j4:((k:Int)+1).toNat=k+1:=by omega
      have j5:(0:Int)<=(N:Int):=by omega
      have j6:(N:Int)<(N:Int)+1:=by omega
      have j7:N<N+1:=by omega
      have j8:((N:Int)).toNat=N:=by omega
      have j9:(N:Int)<((N+1:Nat):Int):=by omega
      have Z:(k:Int)<=(k:Int)+1:=by omega
      have Y:(k:Int)+1<=(s.size:Int):=by omega
      have jm:k<=k+1:=by omega
      have jl:k+1<=s.size:=by omega
      have jk:(0:Int)<=(k:Int):=by omega
      have jj:((k:Int)).toNat=k:=by omega
      obtain ⟨E,hE⟩:∃ E,s.extract k (k+1)=E:=⟨_,rfl⟩;have jo:E.size<=1:=by rw [<- hE];simp;omega
      rw [hE] at H z m o;have ji:(9223372036854775807<T.size+E.size)=False:=by simp;omega
      go_still_tail 17,(by kernel_rfl)
      change wpList _ _ _ _ _ wr.drew;go_wp2_with fail
      exact ⟨⟨k+1,by omega,by go_num,aA (by rw [m.out,o.out];exact LG H.out),aA z.out.drew⟩,by simp [intOf];omega⟩
  · obtain rfl:k=s.size:=by omega
    rw [List.take_of_length_le (l:=s.data.toList) (by simp)] at ho;obtain ⟨q,a,A, -, -⟩:=uA s.data.toList
    have x:q.length<=5001:=by
     have:=sZ s.data.toList;rw [A] at this;simp at this;omega
    have d:=ho.out;have f:wL s.data.toList=(q++[a]).map tv:=by unfold wL;rw [A]
    rw [f] at d;obtain ⟨N,t⟩:∃ N,q.length=N:=⟨_,rfl⟩;rw [show ((q++[a]).map tv).length=N+1 by simp [t]] at d;obtain ⟨g,u,rfl⟩:=ownsRow_succ d;have I:=aA d;have D:=aA (El d);obtain ⟨c1,c2⟩:=tF d (j:=N) (v:=tv a) (by rw [List.getElem?_map,List.getElem?_append_right (by omega),t,Nat.sub_self];rfl);have j1:IntKind.i64.wrap (N:Int)=(N:Int):=IntWalk.i64_in _ (by omega);have j5:(0:Int)<=(N:Int):=by omega
    have j6:(N:Int)<(N:Int)+1:=by omega
    have j9:(N:Int)<((N+1:Nat):Int):=by omega
    have j8:((N:Int)).toNat=N:=by omega
    have Z:(N:Int)<=(u:Int):=by have:=D.out;omega
    have Y:N<=u:=by have:=D.out;omega
    unfold tv at c1;have SL:=aA (mE s.data.toList);have HB:=aA (P);rw [t] at x;have HN:=aA t;have V:=aA A;clear f ho d A t e1;by_cases ha:a=[]
    · subst ha
      have hl:cE s.data.toList=q:=by
       rcases SL.out with ⟨e,n⟩ | e
       · rw [V.out] at n;simp at n
       · rw [V.out] at e
         exact (List.append_inj_left' e rfl).symm
      have q0:(([]:Tq).toArray:Array UInt8)=#[]:=rfl;go_wp2_with fail
      go_ret;exact ⟨⟨some ⟨g,0,none⟩,⟨u,by rw [HN.out];rfl⟩,xU I.out ⟨[[]],rfl⟩⟩,R.out⟩
    · have hl:cE s.data.toList=q++[a]:=by
       rcases SL.out with ⟨e,n⟩ | e
       · rw [<- e,V.out]
       · rw [V.out] at e
         have:=(List.append_inj_right' e rfl);simp at this;exact absurd this ha
      have q0:a.isEmpty=false:=by
       cases a with
       | nil=>exact absurd rfl ha
       | cons _ _=>rfl
      go_wp2_with fail
      go_ret;exact ⟨⟨some ⟨g,0,none⟩,u,by rw [hl,Tb,HN.out];rfl,by rw [hl];exact xU I.out ⟨[],by simp⟩⟩,R.out⟩
theorem rH {c:UInt8} (h:a8 c=true):¬ c=10/\¬ c=32/\¬ c=61:=by
 refine ⟨?_,?_,?_⟩ <;> (rintro rfl;revert h;decide)
theorem J7 {c:UInt8} (h:aZ c=true):¬ c=10:=by
 rintro rfl;revert h;decide
theorem xO {q:UInt8->Bool}:∀ (l:Tq),∀ c∈l.take (bR q l),q c=true:=fun l c h=>by
 rw [mC] at h;exact List.all_eq_true.1 List.all_takeWhile c h
theorem GD {l:Tq} {k v:Int} {n:Nat} (h:bV l=.tok k n v):∀ c∈l.take n,¬ c=10:=by
 cases l with
 | nil=>cases h
 | cons d r =>
   simp only [bV] at h;split at h
   · unfold jM at h
     split at h
     · cases h
     · injection h with e1 e2 e3
       subst e2;exact fun c a=>(rH (xO _ c a)).1
   · split at h
     · unfold l5 at h
       split at h
       · cases h
       · split at h
         · cases h
         · injection h with e1 e2 e3
           subst e2;exact fun c a=>J7 (xO _ c a)
     · unfold iF at h
       split at h
       · cases h
       · rename_i hs
         injection h with e1 e2 e3;subst e2;intro c a g;subst g;cases r with
         | nil =>
           by_cases ho:cU d=true
           · simp only [iB,ho,if_true,List.take_succ_cons,List.take_nil,List.mem_singleton] at a
             subst a;revert ho;decide
           · simp only [iB,ho] at hs;exact hs rfl
         | cons f r =>
           by_cases b:cT d f=true
           · simp only [iB,b,if_true,List.take_succ_cons,List.take_zero,List.mem_cons,List.not_mem_nil,or_false] at a
             unfold cT at b;rcases a with rfl | rfl
             · simp at b
             · simp at b
           · by_cases ho:cU d=true
             · simp only [iB,b,ho,if_true] at a
               simp at a;subst a;revert ho;decide
             · simp only [iB,b,ho] at hs;exact hs rfl
theorem yS:∀ (m:Nat) (l:Tq) (p:Nat) (ts:List Tk),l.length<=m->cR l p=.ok ts->∀ c∈l,¬ c=10
 | 0, l, _, _, hl, _ => fun c hc => by
   have:=Tg.1 (Nat.le_zero.1 hl);subst this;cases hc
 | m+1,[],_,_,_,_=>fun c hc=>by cases hc
 | m + 1, d :: r, p, ts, hl, h => by
   by_cases a:d=32
   · subst a
     rw [e8] at h;have f:=yS m r _ _ (by simpa using hl) h;intro c hc;rcases List.mem_cons.1 hc with rfl | hc
     · decide
     · exact f c hc
   · cases b:bV (d::r) with
     | bad e=>rw [nZ (by simp) (by simpa using a) b] at h;cases h
     | tok k n v =>
       obtain ⟨n1,n2⟩:=BE b;rw [gX (by simpa using a) n1 b] at h;cases hr:cR ((d::r).drop n) (p+n) with
       | bad q e=>rw [hr] at h;cases h
       | ok us =>
         have f:=yS m _ _ _ (by rw [List.length_drop];omega) hr;have g:=GD b;intro c hc;rw [<- List.take_append_drop n (d::r)] at hc;rcases List.mem_append.1 hc with hc | hc
         · exact g c hc
         · exact f c hc
theorem Fx {a:AG} (h:gA a=0) (hn:gM a):∀ c∈dY a,¬ c=10:=by
 obtain ⟨ts, -,b⟩:=SU h hn;exact yS _ _ _ _ (Td _) b
theorem Ca {a:AG} (h:gA a=0) (hn:gM a) (hl:(dY a).length+1<=1024):agX (32::dY a)=.ok (wO a):=by
 obtain ⟨f,o,n,m,l,d⟩:=cY h;have I:=jF.appF (Hx h hn) (qR (c:=41) (.inr (.inl rfl))) (fun r=>t7 r);have W:=jG.appS I (yT a.wh d hn.c);have y:=jG.appS f7 (jF.app (qQ (Ie f)) (jG.appS (qR (c:=40) (.inl rfl)) W) (fun q _=>gG (by decide) _));obtain ⟨ts,k,b⟩:=y [] DL 0;have j:(32::dY a)=[32]++(a.fn.data.toList++([40]++(gL a++[41]++oI a.wh))):=by simp [dY]
 have g:ts.map dM=KV a:=by rw [k];simp [KV]
 rw [List.append_nil,j0, <- j] at b;unfold agX gY;rw [if_neg (by simp;omega),b];simp only [fR.after,List.append_nil];rw [NF h hn g]
theorem sG {x:Tq} (h:cD x=true):∃ c r,x=c::r/\bH c=true/\r.length<=7/\∀ d∈x,a8 d=true:=by
 cases x with
 | nil=>cases h
 | cons c r =>
   simp only [cD,Bool.and_eq_true,decide_eq_true_eq] at h;obtain ⟨⟨a,f⟩,b⟩:=h;refine ⟨c,r,rfl,a,f,fun d hd=>?_⟩;rcases List.mem_cons.1 hd with rfl | hd
   · unfold a8;rw [a];rfl
   · exact List.all_eq_true.1 b d hd
theorem AI {q:UInt8->Bool}:∀ (x:Tq) (d:UInt8) (y:Tq),(∀ c∈x,q c=true)->q d=false->(x++d::y).takeWhile q=x/\(x++d::y).dropWhile q=d::y
 | [],d,y,_,h=>⟨by rw [List.nil_append,List.takeWhile_cons_of_neg (by simp [h])],by rw [List.nil_append,List.dropWhile_cons_of_neg (by simp [h])]⟩
 | c :: x, d, y, hx, h => by
   have a:=AI x d y (fun e b=>hx e (by simp [b])) h;rw [List.cons_append,List.takeWhile_cons_of_pos (hx c (by simp)),List.dropWhile_cons_of_pos (hx c (by simp)),a.1,a.2];exact ⟨rfl,rfl⟩
theorem qZ {x r:Tq} (h:cD x=true):fN (x++32::61::r)=some (x,r):=by
 obtain ⟨c,t,e,f, -,a⟩:=sG h
 have b:jS c=false:=by
  have:=(rH (a c (by rw [e];simp))).2.1;simpa [jS] using this
 have a1:(x++32::61::r).dropWhile jS=x++32::61::r:=by
  rw [e,List.cons_append,List.dropWhile_cons_of_neg (by simp [b])]
 have a2:=AI (q:=eM) x 32 (61::r) (fun d hd=>by
  obtain ⟨-,n1,n2⟩:=rH (a d hd);simp [eM,n1,n2]) (by decide)
 have a3:(32::61::r).dropWhile jS=61::r:=by
  rw [List.dropWhile_cons_of_pos (by decide),List.dropWhile_cons_of_neg (by decide)]
 unfold fN;simp only;rw [a1,a2.1,a2.2,a3,if_neg (by rw [e];simp)];rfl
def vB (x:LN):LN:=⟨x.nm,wO x.a⟩
def rX (x:LN):Tq:=x.nm.data.toList++32::61::32::dY x.a
theorem yP:∀ l:List LN,(∀ x∈l,cD x.nm.data.toList=true/\gA x.a=0/\gM x.a)->cE (fK l)=l.map rX
 | [],_=>rfl
 | x :: l, h => by
   obtain ⟨g,f,d⟩:=h x (by simp);have e:fK (x::l)=rX x++10::fK l:=by simp [fK,oJ,rX]
   rw [e,uO,yP l (fun y b=>h y (by simp [b])),List.map_cons];intro c hc;simp only [rX,List.mem_append,List.mem_cons] at hc;obtain ⟨-, -, -, -, -,ha⟩:=sG g;rcases hc with hc | rfl | rfl | rfl | hc
   · exact (rH (ha c hc)).1
   · decide
   · decide
   · decide
   · exact Fx f d c hc
theorem BZ (l:List LN) (x:Tq):(l.map vB).any (fun y=>y.nm.data.toList == x)=l.any (fun y=>y.nm.data.toList == x):=by
 rw [List.any_map];rfl
theorem xZ:∀ (l acc:List LN),(∀ x∈l,cD x.nm.data.toList=true/\dD x.nm.data.toList=false/\gA x.a=0/\gM x.a)->((acc++l).map (fun x=>x.nm.data.toList)).Nodup->(acc++l).length<=8 ->
 fD (l.map rX) (acc.map vB)=.ok ((acc++l).map vB)\/(∃ p,fD (l.map rX) (acc.map vB)=.bad p 4)
 | [],acc,_,_,_=>.inl (by rw [List.map_nil,List.append_nil];rfl)
 | x :: l, acc, h, hd, hl => by
   obtain ⟨b,d,k,j⟩:=h x (by simp)
   have ha:acc.any (fun y=>y.nm.data.toList == x.nm.data.toList)=false:=by
    rw [Bool.eq_false_iff];intro g;obtain ⟨y,c,e⟩:=List.any_eq_true.1 g;rw [List.map_append,List.nodup_append] at hd;exact hd.2.2 _ (List.mem_map.2 ⟨y,c,rfl⟩) _ (List.mem_map.2 ⟨x,by simp,rfl⟩) (by simpa using e)
   rw [List.map_cons];unfold fD;rw [if_neg (by simp at hl |-;omega)];by_cases hx:(dY x.a).length+1<=1024
   · have e:eU (acc.map vB) (rX x)=.ok (vB x):=by
      unfold eU rX;rw [qZ b];simp only;rw [if_neg (by simp [b,d]),BZ,ha,if_neg (by decide),Ca k j hx];rfl
     rw [e];simp only;have f:=xZ l (acc++[x]) (fun y c=>h y (by simp [c])) (by simpa using hd) (by simpa using hl);simpa using f
   · have e:eU (acc.map vB) (rX x)=.bad 4:=by
      unfold eU rX;rw [qZ b];simp only;rw [if_neg (by simp [b,d]),BZ,ha,if_neg (by decide),Nz (by simp;omega)]
     rw [e];exact .inr ⟨_,rfl⟩
theorem FU {l:List LN} (h:OkP l) (hn:∀ x∈l,gA x.a=0/\gM x.a):fX (fK l)=.ok (l.map vB)\/∃ p,fX (fK l)=.bad p 4:=by
 unfold fX;rw [yP l (fun x hx=>⟨(h.nm x hx).1,hn x hx⟩)];exact xZ l [] (fun x hx=>⟨(h.nm x hx).1,(h.nm x hx).2,hn x hx⟩) (by simpa using h.nd) (by simpa using h.len)
end
end Go.Proofs.YtgfkjkokmcejbaaGreatDoor
