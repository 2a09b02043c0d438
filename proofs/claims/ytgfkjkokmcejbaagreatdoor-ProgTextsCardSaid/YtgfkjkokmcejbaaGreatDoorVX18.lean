/-
 No statement: what ProgTextsLift needs, of the texts OConds, OArgs, OParse, OPx.
-/
import Derived.Test.YtgfkjkokmcejbaaGreatDoorVX17
set_option maxHeartbeats 40000000
set_option maxRecDepth 100000
open List renaming length_append -> Tb
open Go.World renaming size_alloc -> Tc
open Go.Value renaming slice -> Tj
open Go.Lib renaming toList_data -> Tm
namespace Go.Proofs.YtgfkjkokmcejbaaGreatDoor
open Go.RowKit Tryz
theorem uX {L:List Tk} {s:RS} (h:¬ s.bad=0):(cB L s).2=s:=by
 unfold cB;rw [f8 h];simp only;rw [if_neg h]
def oU (L:List Tk) (n:Nat) (s:RS):RS:=goR (bY (decide (n<4)) 4 (bY (dX L (if n=0 then eW else l8) s.pos) 2 s))
theorem GO {L:List Tk} {acc:List CD} {s:RS} {R:Fq} (a:s.bad=0) (k:s.pos<L.length) (n:acc.length<=4) (h:fA L (6-acc.length) acc s=R) {d:CD}
 (hd:(cB L (oU L acc.length s)).2.bad=0->(cB L (oU L acc.length s)).1=d):fA L (6-(acc++[d]).length) (acc++[d]) (cB L (oU L acc.length s)).2=R:=by
 obtain ⟨f,l⟩:∃ f,6-acc.length=f+1+1:=⟨4-acc.length,by omega⟩;have b:6-(acc++[d]).length=f+1:=by rw [Tb,List.length_singleton];omega
 have m:fA L (f+1+1) acc s=(if dX L (if acc.length=0 then eW else l8) s.pos=false then .bad s.pos 2 else if 4<=acc.length then .bad s.pos 4 else fA L (f+1) (acc++[(cB L (aM s)).1]) (cB L (aM s)).2):=by
  rw [fA,if_neg (not_not_intro a),if_neg (show ¬ L.length<=s.pos by omega)]
 rw [l,m] at h;rw [b, <- h];unfold oU at hd |-
 cases j:dX L (if acc.length=0 then eW else l8) s.pos with
 | false =>
   rw [if_pos rfl]
   have e:goR (bY (decide (acc.length<4)) 4 (bY false 2 s))=aQ 2 s:=by
    rw [iL,iM (dN (by decide) a),gZ (dN (by decide) a)]
   rw [e,uX (dN (by decide) a),gC (dN (by decide) a)];unfold aQ;rw [if_pos a]
 | true =>
   rw [if_neg (by decide)];rw [j] at hd;by_cases g:4<=acc.length
   · rw [if_pos g]
     have e:goR (bY (decide (acc.length<4)) 4 (bY true 2 s))=aQ 4 s:=by
      rw [decide_eq_false (by omega),iL,lE,gZ (dN (by decide) a)]
     rw [e,uX (dN (by decide) a),gC (dN (by decide) a)];unfold aQ;rw [if_pos a]
   · rw [if_neg g]
     have e:goR (bY (decide (acc.length<4)) 4 (bY true 2 s))=aM s:=by
      rw [decide_eq_true (by omega),lE,lE,EO a]
     rw [e] at hd |-
     by_cases c:(cB L (aM s)).2.bad=0
     · rw [hd c]
     · rw [gC c,gC c]
theorem PQ {s:RS} (h:(goR s).bad=0):s.bad=0:=Decidable.byContradiction fun hx=>by rw [gZ hx] at h;exact hx h
theorem Kw {L:List Tk} {n:Nat} {s:RS} (h:(cB L (oU L n s)).2.bad=0):n<4:=by
 have a:(oU L n s).bad=0:=Decidable.byContradiction fun hx=>by rw [uX hx] at h;exact hx h
 unfold oU at a;have b:=PQ a;have:=(lQ (by decide) b).1;simpa using this
abbrev GC (n:Nat) (wa:Tp) (b:Nat):Prop:=n<=b/\wa ≠ some ⟨b,0,none⟩
structure OCW (ts:List Tk) (rb:Nat) (a:Tp) (c:Nat) (w:World) (acc:List CD) (wa:Tp) (wc:Nat) (qs:List QC) (s:RS) (V:World):Prop where
 r:PS ts rb a c s V
 k:aC (· = rb) w V
 own:V.ownsRow w.heap.size 144 9 (.slice wa acc.length wc) acc.length (cdL acc qs)
 ql:qs.length=acc.length
 kd:nE (GC w.heap.size wa) V acc qs
 h:rb<w.heap.size
section
variable {ts : List Tk} {rb : Nat} {a : Tp} {c : Nat} {w V V' : World} {acc : List CD} {wa : Tp} {wc : Nat} {qs : List QC} {s s' : RS}
theorem OCW.lo (h:OCW ts rb a c w acc wa wc qs s V) {b:Nat} (d:(Tj wa acc.length wc).ownBlock=some b):w.heap.size<=b/\b<V.heap.size:=h.own.lt b d
theorem OCW.own' (h:OCW ts rb a c w acc wa wc qs s V) {b:Nat} (f:(Tj wa acc.length wc).ownBlock=some b):wa=some ⟨b,0,none⟩:=by
 rcases h.own.2 with ⟨d,_⟩ | ⟨g,k,j,d,_⟩
 · rw [d] at f;cases f
 · rw [d] at f
   cases f;simp only [Value.slice.injEq] at d;exact d.1
theorem OCW.step (h:OCW ts rb a c w acc wa wc qs s V) (hp:PS ts rb a c s' V') (d:aC (· = rb) V V'):OCW ts rb a c w acc wa wc qs s' V':=by
 have m:=h.h;exact ⟨hp,h.k.trans d (fun i f _=>f),eZ (row:=some rb) h.own (d.mono (fun i f _=>by rw [f])) (fun b l j=>by have:=(h.lo l).1;have:=Option.some.inj j;omega),h.ql,h.kd.keptS d (fun k d g=>by have:=g.1;omega),m⟩
theorem OCW.below (h:OCW ts rb a c w acc wa wc qs s V) (b:Below V.heap.size V V'):OCW ts rb a c w acc wa wc qs s V':=h.step (h.r.below b) (aF b _)
theorem OCW.drewN (h:OCW ts rb a c w acc wa wc qs s V) (n:Nat):OCW ts rb a c w acc wa wc qs s (V.drewN n):=h.step (h.r.drewN n) ((aC.refl _ V).drewN n)
theorem OCW.push (h:OCW ts rb a c w acc wa wc qs s V) {d:CD} {q:QC} {j:Tp} {n:Nat} (f:aC (fun b=>(Tj wa acc.length wc).ownBlock=some b) V V')
 (l:V'.ownsRow w.heap.size 144 9 (.slice j (acc.length+1) n) (acc.length+1) (cdL acc qs++e7 d q))
 (m:∀ b,(Tj j (acc.length+1) n).ownBlock=some b->(Tj wa acc.length wc).ownBlock=some b\/V.heap.size<=b)
 (u:aK (GC w.heap.size wa) V q.a1 d.a.ks) (t:aK (GC w.heap.size wa) V q.a2 d.b.ks) :
 OCW ts rb a c w (acc++[d]) j n (qs++[q]) s V':=by
 have x:=h.h;have own':∀ b,j=some ⟨b,0,none⟩->(Tj j (acc.length+1) n).ownBlock=some b:=fun b p=>by rw [p];rfl
 have len:(acc++[d]).length=acc.length+1:=by simp
 have kd:=h.kd.snoc h.ql u t;refine ⟨h.r.kept f (fun k f=>by have:=(h.lo f).1;omega),h.k.trans (f.mono (T:=fun i=>w.heap.size<=i) (fun i o _=>(h.lo o).1)) (fun i o hl=>by omega),?_,by rw [Tb,Tb,h.ql];rfl,?_,x⟩
 · rw [len,xA _ _ _ _ h.ql]
   have e:cdL [d] [q]=e7 d q:=by simp [cdL]
   rw [e];exact l
 · exact ((kd.imp (H:=fun b=>GC w.heap.size wa b/\j ≠ some ⟨b,0,none⟩) (fun b p g=>⟨g,fun e=>by
    rcases m b (own' b e) with h' | h'
    · exact g.2 (h.own' h')
    · omega⟩)).keptS f (fun k f g=>g.1.2 (h.own' f))).imp (fun b _ g=>⟨g.1.1,g.2⟩)
theorem OCW.fresh (h:OCW ts rb a c w acc wa wc qs s V) {b:Nat} (d:V.heap.size<=b):GC w.heap.size wa b:=by
 have:=h.k.size;refine ⟨by omega,fun e=>?_⟩;have:=(h.own.lt b (by rw [e];rfl)).2;omega
end
def Sn:Value->Nat
 | .slice _ n _=>n
 | _=>0
theorem JK:∃ i z,prog.info? 144=some i/\i.zero=some z/\i.size=9/\i.bytes=144/\z.cells.size=9:=by
 have h:(prog.info? 144).map (fun i=>(i.zero.map (fun z=>z.cells.size),i.size,i.bytes))=some (some 9,9,144):=by kernel_rfl
 cases hx:prog.info? 144 with
 | none=>rw [hx] at h;cases h
 | some i =>
   rw [hx] at h;simp only [Option.map_some,Option.some.injEq,Prod.mk.injEq] at h;obtain ⟨a,c,b⟩:=h;cases hz:i.zero with
   | none=>rw [hz] at a;cases a
   | some z =>
     rw [hz] at a;exact ⟨i,z,rfl,hz,c,b,by simpa using a⟩
theorem Jc (W:World) (d:CD) (q:QC):∀ j u,(e7 d q)[j]? = some u->(W.alloc (.cells #[.string d.op,.string d.a.op,.string d.a.nm,.int .i64 d.a.n,.slice q.a1 d.a.ks.len q.c1,.string d.b.op,.string d.b.nm,.int .i64 d.b.n,.slice q.a2 d.b.ks.len q.c2] 144)).cell? ((⟨W.heap.size,0,none⟩:Addr).add j)=some u:=fun j u s=>by
 obtain ⟨r,p,o,m,l,k,g,f,c⟩:=iD (heap_alloc_new W (cdP d q.a1 q.c1 q.a2 q.c2));rw [Addr.add_lit];match j,s with
 | 0,h=>cases h;exact r
 | 1,h=>cases h;exact p
 | 2,h=>cases h;exact o
 | 3,h=>cases h;exact m
 | 4,h=>cases h;exact l
 | 5,h=>cases h;exact k
 | 6,h=>cases h;exact g
 | 7,h=>cases h;exact f
 | 8,h=>cases h;exact c
 | n+9,h=>simp at h
def Sb (ts:List Tk) (rb:Nat) (a:Tp) (c:Nat) (R:Fq) (w:World) (e:Ending) (w':World):Prop :=
 ∃ (acc:List CD) (wa:Tp) (wc:Nat) (qs:List QC) (s:RS),e=.returned (.slice wa acc.length wc)/\OCW ts rb a c w acc wa wc qs s w'/\(match R with | .bad p er=>¬ s.bad=0/\atR s=p/\s.bad=er | .ok l=>s.bad=0/\acc=l)
def xC (n:Nat):Tr:=if n=0 then ⟨#[119,104,101,114,101]⟩ else ⟨#[97,110,100]⟩
theorem Ft (n:Nat):(xC n).data.toList=(if n=0 then eW else l8):=by unfold xC;split <;> rfl
theorem GR (ts:List Tk) (hL:∀ t∈ts,cS t) (hO:∀ t∈ts,Fn t) (rb:Nat) (a:Tp) (c:Nat) (S:RS) (w:World) (h:PS ts rb a c S w) {R:Fq} (hR:fA ts 6 [] S=R) :
 Calls prog 180 #[.pointer (some ⟨rb,0,none⟩)] w (Sb ts rb a c R w):=by
 have K0:=aA (show OCW ts rb a c w [] none 0 [] S w from ⟨h,aC.refl _ _,⟨rfl,.inl ⟨rfl,rfl⟩⟩,rfl,fun j d q h1 _=>by simp at h1,h.lt⟩);have HR:=aA (show fA ts (6-([]:List CD).length) [] S=R from hR);clear h hR;go_enter func180,ntmps180
 go_wp2_with fail
 go_loopw [3,4,5] (fun v3 v4 v5 wr=>∃ (acc:List CD) (wa:Tp) (g:Nat) (qs:List QC) (s:RS) (y:Value),v3=.slice wa acc.length g/\v4=.string (xC acc.length)/\v5=y/\acc.length<=5/\Hid (s.bad=0->acc.length<=4)/\Hid (fA ts (6-acc.length) acc s=R)/\Hid (OCW ts rb a c w acc wa g qs s wr)) (fun v3 _ _ _=>10-Sn v3)
 case atStart=>exact ⟨[],none,0,[],S,_,rfl,rfl,rfl,by decide,aA (fun _=>by decide),HR,K0⟩
 case round =>
  obtain ⟨acc,wa,g,qs,s,y,rfl,rfl,rfl,h5,H4,HE,H⟩:=hrel;clear K0 HR;obtain ⟨⟨c0,c1,c2⟩,f0,f1,f2⟩:=d9 H.out.r.r;have jr:=H.out.r.n;have jl:=H.out.r.p;by_cases l:s.bad=0
  · have q:((s.bad:Int) == 0)=true:=by rw [l];rfl
    have D:=lK l;obtain ⟨p,hp⟩:∃ p,atR s=p:=⟨_,rfl⟩;rw [hp] at c1 jl;by_cases U:p<ts.length
    · have a1:(p:Int)<(ts.length:Int):=by omega
      have T:s.pos=p:=by rw [<- D,hp]
      have h4:=H4.out l;have NX:=mT ts rb a c (atR s) s.bad;obtain ⟨t,ht⟩:∃ t,bQ ts (atR s)=t:=⟨_,rfl⟩;have M:=Ku ts (xC acc.length).data.toList (atR s);rw [ht] at M;rw [ht,sU] at NX;obtain ⟨X,hX⟩:∃ X:Tr,⟨t.text.toArray⟩=X:=⟨_,rfl⟩;have Y:t.text=X.data.toList:=by rw [<- hX]
      rw [hX] at NX;rw [Y, <- Tm, <- Tm] at M;obtain ⟨k,s',nn,pp⟩:=t;simp only at NX M;have TL:k=1->p<ts.length:=fun _=>U
      obtain ⟨x,B⟩:∃ z,dX ts (if acc.length=0 then eW else l8) s.pos=z:=⟨_,rfl⟩;have e0:dX ts (xC acc.length).toList (atR s)=x:=by rw [Tm,Ft,hp, <- T];exact B
      rw [e0] at M;have jc:=aA M;have jn:=aA B;have HN:=aA NX;have N:=aA l;have jd:=aA (show s.pos<ts.length by omega);have HP:=aA hp;have jq:=aA h4;clear D hp NX ht M hX Y B TL l T e0;go_upto_region 4 with (go_quiet (fail))
      have K1:=aA (H.out.drewN nq);have N1:=aA (HN.out _ K1.out.r);clear H c0 c1 c2 f0 f1 f2 HN;generalize wr.drewN nq=W0 at *;go_wp2_with fail
      refine N1.out.mono ?_;rintro e w1 ⟨rfl,V⟩;have K2:=K1.out.below V;have BA:=bA0 w1 (tkO k X nn pp);have NA:=heap_alloc_new w1 (tkO k X nn pp);have K3:=aA (K2.below BA);obtain ⟨⟨x0,x1,x2,x3⟩, -⟩:=aL NA;clear V K2 BA N1 K1 NA;go_upto_region 5 with fail
      generalize w1.alloc (tkO k X nn pp)=W1 at *;go_cut [] (fun wc=>Hid (OCW ts rb a c w acc wa g qs (bY x 2 s) wc))
      case first =>
       have CM:=aA (fun so=>iC ts rb a c s so 2 (by decide) W1 K3.out.r);cases m:(k == 1) with
       | true =>
         have q1:(k == 1)=true:=m;have hz:(X.toList == (xC acc.length).toList)=x:=by rw [jc.out,m,Bool.true_and]
         clear m;go_wp2_with fail
         refine (CM.out x).mono ?_;rintro e w2 ⟨rfl,P,o⟩;have E:=aA (K3.out.step P o);clear P o;go_wp2_with fail
         go_meet;case rel=>exact E
       | false =>
         have q1:(k == 1)=false:=m;have hz:x=false:=by rw [jc.out,m,Bool.false_and]
         subst hz;clear m;go_wp2_with fail
         refine (CM.out false).mono ?_;rintro e w2 ⟨rfl,P,o⟩;have E:=aA (K3.out.step P o);clear P o;go_wp2_with fail
         go_meet;case rel=>exact E
      case rest =>
       have E:=hcut;clear x0 x1 x2 x3 K3 hcut;obtain ⟨z4,A⟩:∃ z,decide (acc.length<4)=z:=⟨_,rfl⟩;have jg:decide ((acc.length:Int)<4)=z4:=by rw [<- A];exact decide_eq_decide.2 (by omega)
       have jo:=aA (show goR (bY z4 4 (bY x 2 s))=oU ts acc.length s by unfold oU;rw [jn.out,A]);have CM:=aA (iC ts rb a c (bY x 2 s) z4 4 (by decide) wc E.out.r);go_wp2_with fail
       refine CM.out.mono ?_;rintro e w2 ⟨rfl,P,o⟩;have K5:=aA (E.out.step P o);have CS:=aA (kM ts rb a c (bY z4 4 (bY x 2 s)) (fun _=>by rw [jN,jN];exact jd.out) w2 P);clear P o CM E A jg;go_wp2_with fail
       refine CS.out.mono ?_;rintro e w3 ⟨rfl,P,o⟩;rw [jo.out] at P;have K6:=aA (K5.out.step P o);have CO:=aA (Kd ts hL hO rb a c (oU ts acc.length s) w3 P);clear P o CS K5;have I:=aA (fun d hd=>GO (d:=d) N.out jd.out jq.out HE.out hd);obtain ⟨⟨cd,s5⟩,C⟩:∃ q:CD×RS,cB ts (oU ts acc.length s)=q:=⟨_,rfl⟩;have HF:=aA (fun h:s5.bad=0=>Kw (L:=ts) (n:=acc.length) (s:=s) (by rw [C];exact h));rw [C] at CO I;clear C;go_wp2_with fail
       refine CO.out.mono ?_;rintro e O ⟨d,a1,c1,a2,c2,rfl,hp,hk,h1,h2,hd⟩;have BU:=bA0 O (.cells #[.string d.op,.string d.a.op,.string d.a.nm,.int .i64 d.a.n,.slice a1 d.a.ks.len c1,.string d.b.op,.string d.b.nm,.int .i64 d.b.n,.slice a2 d.b.ks.len c2] 144);have K7:=K6.out.step hp hk;have K8:=aA (K7.below BU);have R1:=aA ((aK.imp (G:=fun b=>w3.heap.size<=b) h1 (fun b _ l=>K6.out.fresh l)).kept BU);have R2:=aA ((aK.imp (G:=fun b=>w3.heap.size<=b) h2 (fun b _ l=>K6.out.fresh l)).kept BU);have jp:=aA (I.out d hd);have jf:=underlying68;obtain ⟨i,zv,hi,jk,jj,ji,jh⟩:=JK;have Z:=aA (show (O.alloc (.cells #[.string d.op,.string d.a.op,.string d.a.nm,.int .i64 d.a.n,.slice a1 d.a.ks.len c1,.string d.b.op,.string d.b.nm,.int .i64 d.b.n,.slice a2 d.b.ks.len c2] 144)).ownsRow w.heap.size 144 9 (.slice wa acc.length g) acc.length (cdL acc qs) from K8.out.own);have jb:=aA (Jc O d ⟨a1,c1,a2,c2⟩);have ja:=aA (fun u (hu:u∈e7 d ⟨a1,c1,a2,c2⟩)=>rF [d] [⟨a1,c1,a2,c2⟩] u (by simpa [cdL] using hu));have je:=aA (show w.heap.size<=(O.alloc (.cells #[.string d.op,.string d.a.op,.string d.a.nm,.int .i64 d.a.n,.slice a1 d.a.ks.len c1,.string d.b.op,.string d.b.nm,.int .i64 d.b.n,.slice a2 d.b.ks.len c2] 144)).heap.size from K8.out.k.size);clear hp hk h1 h2 hd BU K7 CO K6 I
       go_upto_region 9 with (first
        | (at_builtin
           refine aS rfl _ _ 68 rfl (base:=w.heap.size) jf hi jk jj ji jh (by decide) (.slice wa acc.length g) acc.length 1 1 ⟨O.heap.size,0,none⟩ (cdL acc qs) (e7 d ⟨a1,c1,a2,c2⟩) rfl rfl Z.out rfl jb.out ja.out (by unfold maxLen;omega) (by omega) je.out ?_;intro v4 w4 ho hg hn;obtain ⟨a',c',hv⟩:=eQ ho;subst hv;have KA:=(aC.refl (fun b=>(Tj wa acc.length g).ownBlock=some b) _).grown hg (fun k hk=>.inl hk);have jm:=aA (K8.out.push KA ho hn R1.out R2.out);clear ho hg hn KA K8 R1 R2 Z jb ja je)
        | fail)
       have l1:(acc++[d]).length=acc.length+1:=by simp
       go_wp2_with fail
       go_roundw
       case rel =>
        refine ⟨acc++[d],a',c',qs++[⟨a1,c1,a2,c2⟩],s5,_,by rw [l1],by rw [l1];unfold xC;rw [if_neg (by omega)],rfl,by omega,aA (fun h=>by rw [l1];exact HF.out h),jp,jm⟩
       case measure=>simp only [Sn];omega
    · have a1:¬ (p:Int)<(ts.length:Int):=by omega
      have a2:decide (p<ts.length)=false:=decide_eq_false U
      have HX:=aA (show R=.ok acc by
       have:=HE.out;obtain ⟨f,hf⟩:∃ f,6-acc.length=f+1:=⟨5-acc.length,by omega⟩;rw [hf,fA,if_neg (not_not_intro l),if_pos (show ts.length<=s.pos by omega)] at this;exact this.symm)
      have N:=aA l;clear D hp l;go_wp2_with (go_quiet (fail))
      go_ret;refine ⟨acc,wa,g,qs,s,rfl,H.out.drewN _,?_⟩;rw [HX.out];exact ⟨N.out,rfl⟩
  · have q:((s.bad:Int) == 0)=false:=beq_eq_false_iff_ne.2 l
    have HX:=aA (show R=.bad s.whr s.bad by
     have:=HE.out;obtain ⟨f,hf⟩:∃ f,6-acc.length=f+1:=⟨5-acc.length,by omega⟩;rw [hf,gC l] at this;exact this.symm)
    have N:=aA l;clear l;go_wp2_with (go_quiet (fail))
    go_ret;refine ⟨acc,wa,g,qs,s,rfl,H.out.drewN _,?_⟩;rw [HX.out];exact ⟨N.out,sK N.out,rfl⟩
theorem Gw {W:World} {B:Nat} {x:AG} {p:PA} (h:W.heap[B]? = some (agP x p)) (t:TN) (ad:Tp) (cc:Nat):(putE W B t ad cc).heap[B]? = some (agP { x with e:=t } { p with ea:=ad,ec:=cc }):=by
 have d:=heap_setCell_same (W) B 2 _ 70 (.string t.op) h;have m:((W).setCell ⟨B,2,none⟩ (.string t.op)).heap[B]? = some (.cells #[.string x.fn,.int .i64 x.k,.string t.op,.string x.e.nm,.int .i64 x.e.n,.slice p.ea x.e.ks.len p.ec,.string x.g.op,.string x.g.nm,.int .i64 x.g.n,.slice p.ga x.g.ks.len p.gc,.slice p.wa x.wh.length p.wc] 70 (0,0)):=by simpa using d
 have c:=heap_setCell_same ((W).setCell ⟨B,2,none⟩ (.string t.op)) B 3 _ 70 (.string t.nm) m;have l:(((W).setCell ⟨B,2,none⟩ (.string t.op)).setCell ⟨B,3,none⟩ (.string t.nm)).heap[B]? = some (.cells #[.string x.fn,.int .i64 x.k,.string t.op,.string t.nm,.int .i64 x.e.n,.slice p.ea x.e.ks.len p.ec,.string x.g.op,.string x.g.nm,.int .i64 x.g.n,.slice p.ga x.g.ks.len p.gc,.slice p.wa x.wh.length p.wc] 70 (0,0)):=by simpa using c
 have b:=heap_setCell_same (((W).setCell ⟨B,2,none⟩ (.string t.op)).setCell ⟨B,3,none⟩ (.string t.nm)) B 4 _ 70 (.int .i64 t.n) l;have j:((((W).setCell ⟨B,2,none⟩ (.string t.op)).setCell ⟨B,3,none⟩ (.string t.nm)).setCell ⟨B,4,none⟩ (.int .i64 t.n)).heap[B]? = some (.cells #[.string x.fn,.int .i64 x.k,.string t.op,.string t.nm,.int .i64 t.n,.slice p.ea x.e.ks.len p.ec,.string x.g.op,.string x.g.nm,.int .i64 x.g.n,.slice p.ga x.g.ks.len p.gc,.slice p.wa x.wh.length p.wc] 70 (0,0)):=by simpa using b
 have a:=heap_setCell_same ((((W).setCell ⟨B,2,none⟩ (.string t.op)).setCell ⟨B,3,none⟩ (.string t.nm)).setCell ⟨B,4,none⟩ (.int .i64 t.n)) B 5 _ 70 (.slice ad t.ks.len cc) j;have f:(((((W).setCell ⟨B,2,none⟩ (.string t.op)).setCell ⟨B,3,none⟩ (.string t.nm)).setCell ⟨B,4,none⟩ (.int .i64 t.n)).setCell ⟨B,5,none⟩ (.slice ad t.ks.len cc)).heap[B]? = some (.cells #[.string x.fn,.int .i64 x.k,.string t.op,.string t.nm,.int .i64 t.n,.slice ad t.ks.len cc,.string x.g.op,.string x.g.nm,.int .i64 x.g.n,.slice p.ga x.g.ks.len p.gc,.slice p.wa x.wh.length p.wc] 70 (0,0)):=by simpa using a
 exact f
theorem Gv {W:World} {B:Nat} {x:AG} {p:PA} (h:W.heap[B]? = some (agP x p)) (t:TN) (ad:Tp) (cc:Nat):(putG W B t ad cc).heap[B]? = some (agP { x with g:=t } { p with ga:=ad,gc:=cc }):=by
 have d:=heap_setCell_same (W) B 6 _ 70 (.string t.op) h;have m:((W).setCell ⟨B,6,none⟩ (.string t.op)).heap[B]? = some (.cells #[.string x.fn,.int .i64 x.k,.string x.e.op,.string x.e.nm,.int .i64 x.e.n,.slice p.ea x.e.ks.len p.ec,.string t.op,.string x.g.nm,.int .i64 x.g.n,.slice p.ga x.g.ks.len p.gc,.slice p.wa x.wh.length p.wc] 70 (0,0)):=by simpa using d
 have c:=heap_setCell_same ((W).setCell ⟨B,6,none⟩ (.string t.op)) B 7 _ 70 (.string t.nm) m;have l:(((W).setCell ⟨B,6,none⟩ (.string t.op)).setCell ⟨B,7,none⟩ (.string t.nm)).heap[B]? = some (.cells #[.string x.fn,.int .i64 x.k,.string x.e.op,.string x.e.nm,.int .i64 x.e.n,.slice p.ea x.e.ks.len p.ec,.string t.op,.string t.nm,.int .i64 x.g.n,.slice p.ga x.g.ks.len p.gc,.slice p.wa x.wh.length p.wc] 70 (0,0)):=by simpa using c
 have b:=heap_setCell_same (((W).setCell ⟨B,6,none⟩ (.string t.op)).setCell ⟨B,7,none⟩ (.string t.nm)) B 8 _ 70 (.int .i64 t.n) l;have j:((((W).setCell ⟨B,6,none⟩ (.string t.op)).setCell ⟨B,7,none⟩ (.string t.nm)).setCell ⟨B,8,none⟩ (.int .i64 t.n)).heap[B]? = some (.cells #[.string x.fn,.int .i64 x.k,.string x.e.op,.string x.e.nm,.int .i64 x.e.n,.slice p.ea x.e.ks.len p.ec,.string t.op,.string t.nm,.int .i64 t.n,.slice p.ga x.g.ks.len p.gc,.slice p.wa x.wh.length p.wc] 70 (0,0)):=by simpa using b
 have a:=heap_setCell_same ((((W).setCell ⟨B,6,none⟩ (.string t.op)).setCell ⟨B,7,none⟩ (.string t.nm)).setCell ⟨B,8,none⟩ (.int .i64 t.n)) B 9 _ 70 (.slice ad t.ks.len cc) j;have f:(((((W).setCell ⟨B,6,none⟩ (.string t.op)).setCell ⟨B,7,none⟩ (.string t.nm)).setCell ⟨B,8,none⟩ (.int .i64 t.n)).setCell ⟨B,9,none⟩ (.slice ad t.ks.len cc)).heap[B]? = some (.cells #[.string x.fn,.int .i64 x.k,.string x.e.op,.string x.e.nm,.int .i64 x.e.n,.slice p.ea x.e.ks.len p.ec,.string t.op,.string t.nm,.int .i64 t.n,.slice ad t.ks.len cc,.slice p.wa x.wh.length p.wc] 70 (0,0)):=by simpa using a
 exact f
theorem Gu {W:World} {B:Nat} {x:AG} {p:PA} (h:W.heap[B]? = some (agP x p)) (k:Int):(W.setCell ⟨B,1,none⟩ (.int .i64 k)).heap[B]? = some (agP { x with k:=k } p):=by
 have a:=heap_setCell_same W B 1 _ 70 (.int .i64 k) h;simpa using a
structure AQ (ts:List Tk) (rb ab:Nat) (a:Tp) (c:Nat) (w:World) (x:AG) (p:PA) (s:RS) (V:World):Prop where
 r:PS ts rb a c s V
 n:V.heap[ab]? = some (agP x p)
 k:aC (fun b=>b=rb\/b=ab) w V
 e:bD w.heap.size V p.ea x.e.ks
 g:bD w.heap.size V p.ga x.g.ks
 wa:p.wa=none
 wc:p.wc=0
 h:rb<ab
 z:ab<w.heap.size
section
variable {ts : List Tk} {rb ab : Nat} {a : Tp} {c : Nat} {w V V' : World} {x : AG} {p : PA} {s s' : RS}
theorem AQ.step (h:AQ ts rb ab a c w x p s V) (hp:PS ts rb a c s' V') (b:aC (· = rb) V V'):AQ ts rb ab a c w x p s' V':=by
 have j:=h.h;have f:=h.z;exact ⟨hp,b.heap h.n (by omega),h.k.trans b (fun i d _=>.inl d),h.e.keptS b (fun k b=>by omega),h.g.keptS b (fun k b=>by omega),h.wa,h.wc,j,f⟩
theorem AQ.below (h:AQ ts rb ab a c w x p s V) (b:Below V.heap.size V V'):AQ ts rb ab a c w x p s V':=h.step (h.r.below b) (aF b _)
theorem AQ.setK (h:AQ ts rb ab a c w x p s V) (k:Int):AQ ts rb ab a c w { x with k:=k } p s (V.setCell ⟨ab,1,none⟩ (.int .i64 k)):=by
 have j:=h.h;have f:=h.z;have b:=(aC.refl (· = ab) V).setCell (p:=⟨ab,1,none⟩) (.inl rfl) (.int .i64 k);exact ⟨h.r.kept b (fun k b=>by omega),Gu h.n k,h.k.trans b (fun i d _=>.inr d),h.e.keptS b (fun k b=>by omega),h.g.keptS b (fun k b=>by omega),h.wa,h.wc,j,f⟩
theorem AQ.putE (h:AQ ts rb ab a c w x p s V) {t:TN} {ad:Tp} {cc:Nat} (hr:bD w.heap.size V ad t.ks):AQ ts rb ab a c w { x with e:=t } { p with ea:=ad,ec:=cc } s (putE V ab t ad cc):=by
 have j:=h.h;have f:=h.z;have b:=gJ V ab t ad cc;exact ⟨h.r.kept b (fun k b=>by omega),Gw h.n t ad cc,h.k.trans b (fun i d _=>.inr d),hr.keptS b (fun k b=>by omega),h.g.keptS b (fun k b=>by omega),h.wa,h.wc,j,f⟩
theorem AQ.putG (h:AQ ts rb ab a c w x p s V) {t:TN} {ad:Tp} {cc:Nat} (hr:bD w.heap.size V ad t.ks):AQ ts rb ab a c w { x with g:=t } { p with ga:=ad,gc:=cc } s (putG V ab t ad cc):=by
 have j:=h.h;have f:=h.z;have b:=Bp V ab t ad cc;exact ⟨h.r.kept b (fun k b=>by omega),Gv h.n t ad cc,h.k.trans b (fun i d _=>.inr d),h.e.keptS b (fun k b=>by omega),hr.keptS b (fun k b=>by omega),h.wa,h.wc,j,f⟩
theorem AQ.box (h:AQ ts rb ab a c w x p s V) {B:Nat} {o:Obj} (g:V.heap[B]? = some o) (b:w.heap.size<=B) {S:Nat->Prop} (d:aC S V V') (f:∀ k,S k->k=rb\/k=ab):V'.heap[B]? = some o:=by
 have l:=h.h;have j:=h.z;exact d.heap g (fun hs=>by rcases f B hs with e | e <;> omega)
end
theorem RP {ts:List Tk} {rb ab:Nat} {a:Tp} {c:Nat} {w:World} {s:RS} {fn:Tr} (h:PS ts rb a c s w) (hn:w.heap[ab]? = some (agP ⟨fn,0,aD,aD,[]⟩ aI)) (b:rb<ab):AQ ts rb ab a c w ⟨fn,0,aD,aD,[]⟩ aI s w :=
 ⟨h,hn,aC.refl _ _,.inl rfl,.inl rfl,rfl,rfl,b,aG hn⟩
theorem Kq (ts:List Tk) (hL:∀ t∈ts,cS t) (rb ab:Nat) (a:Tp) (c:Nat) (s:RS) (fn:Tr) (w:World) (h:PS ts rb a c s w) (hn:w.heap[ab]? = some (agP ⟨fn,0,aD,aD,[]⟩ aI)) (jb:rb<ab) :
 Calls prog 179 #[.pointer (some ⟨rb,0,none⟩),.pointer (some ⟨ab,0,none⟩)] w fun e w'=>e=.returned (.tuple #[]) /\
  ∃ p,AQ ts rb ab a c w ⟨fn,if kP fn.data.toList=true then (bQ ts (atR s)).num else 0,(sL ts fn.data.toList (rP ts fn.data.toList s)).1,(vD ts fn.data.toList (sL ts fn.data.toList (rP ts fn.data.toList s)).2).1,[]⟩ p (jU ts fn.data.toList s) w':=by
 have Q0:=aA (RP h hn jb);have CP:=aA (mO fn w);unfold jU;obtain ⟨F,hF⟩:∃ F,fn.data.toList=F:=⟨_,rfl⟩;rw [hF] at CP |-
 unfold ptV at CP;obtain ⟨C,d⟩:∃ b,kP F=b:=⟨_,rfl⟩;obtain ⟨O,he⟩:∃ b,eP F=b:=⟨_,rfl⟩;obtain ⟨P,N⟩:∃ b,bP F=b:=⟨_,rfl⟩;obtain ⟨ff,hf⟩:∃ b,dZ F=b:=⟨_,rfl⟩;rw [d,he,N,hf] at CP;have EK:∀ u,rP ts F u=if C=true then aU ts [44] (sS ts u) else u:=fun u=>by unfold rP;rw [d]
 have EE:∀ u,sL ts F u=if O=true then bC ts u else (aD,u):=fun u=>by unfold sL;rw [he]
 have EB:∀ u,vD ts F u=if P=true then bC ts (aU ts [44] u) else (aD,u):=fun u=>by unfold vD;rw [N]
 rw [d];obtain ⟨s1,x⟩:∃ u,rP ts F s=u:=⟨_,rfl⟩;obtain ⟨t1,I,q⟩:∃ t u,sL ts F s1=(t,u):=⟨_,_,rfl⟩;obtain ⟨t2,s3,o⟩:∃ t u,vD ts F I=(t,u):=⟨_,_,rfl⟩;rw [x,q];simp only;rw [o];simp only;rw [EK] at x;rw [EE] at q;rw [EB] at o;obtain ⟨A,L⟩:∃ n,(if C=true then (bQ ts (atR s)).num else 0)=n:=⟨_,rfl⟩;rw [L];have U:=aA x;have T:=aA q;have ja:=aA o;have X:=aA L;clear EK EE EB x q o L d he N hf hF h hn;have jc:=Q0.out.z;obtain ⟨m0,m1,m2,m3,m4,m5,m6,m7,m8,m9,g⟩:=aE Q0.out.n;go_enter func179,ntmps179
 go_wp2_with fail
 refine CP.out.mono ?_;rintro e Z ⟨rfl,M⟩;have Q1:=Q0.out.below M;have BA:=bA0 Z (ptO C O P);have D:=aA (Q1.below BA);have NB:=heap_alloc_new Z (ptO C O P);have l:w.heap.size<=Z.heap.size:=M.size;clear M Q1 BA CP Q0 m0 m1 m2 m3 m4 m5 m6 m7 m8 m9 g;go_upto_region 1 with fail
 generalize Z.alloc (ptO C O P)=W at *;generalize Z.heap.size=B at *;have HN:=aA NB;obtain ⟨⟨y0,y1,y2⟩, -⟩:=d9 NB;clear NB;go_upto_if 15 with fail
 go_cut [] (fun wc=>∃ p,Hid (AQ ts rb ab a c w ⟨fn,A,aD,aD,[]⟩ p s1 wc)/\Hid (wc.heap[B]? = some (ptO C O P)))
 case first =>
  cases C with
  | true =>
    have CK:=aA (Rt ts rb a c s W D.out.r);have m:(bQ ts (atR s)).num=A:=X.out;rw [m] at CK;go_wp2_with fail
    refine CK.out.mono ?_;rintro e H ⟨rfl,hp,d⟩;have S:=D.out.box HN.out l d (fun k h=>.inl h);have y:=(D.out.step hp d).setK A;have f:=aA y;have KS:=(aC.refl (· = ab) H).setCell (p:=⟨ab,1,none⟩) (.inl rfl) (.int .i64 A);have E:=aA ((D.out.step hp d).box (V:=H) (V':=H.setCell ⟨ab,1,none⟩ (.int .i64 A)) S l KS (fun k h=>.inr h));obtain ⟨m0,m1,m2,m3,m4,m5,m6,m7,m8,m9,g⟩:=aE (D.out.step hp d).n;obtain ⟨z0,z1,z2,z3,z4,z5,z6,z7,z8,z9,G⟩:=bI (D.out.step hp d).n;clear hp d S y KS CK;go_upto_region 3 with fail
    clear m0 m1 m2 m3 m4 m5 m6 m7 m8 m9 g z0 z1 z2 z3 z4 z5 z6 z7 z8 z9 G;obtain ⟨V,hV⟩:∃ V,H.setCell ⟨ab,1,none⟩ (.int .i64 A)=V:=⟨_,rfl⟩;rw [hV] at f E |-
    clear hV;have CS:=aA (qC ts rb a c (sS ts s) ⟨#[44]⟩ V f.out.r);go_wp2_with fail
    refine CS.out.mono ?_;rintro e w3 ⟨rfl,hp,d⟩;have N5:=aA (f.out.box E.out l d (fun k h=>.inl h));have R:=aA (f.out.step hp d);clear hp d CS;go_wp2_with fail
    go_meet;case rel=>exact ⟨_,by have:=R;rw [<- U.out];exact this,N5⟩
  | false =>
    have m:(0:Int)=A:=X.out;have HZ:s=s1:=U.out;subst m;subst HZ;go_wp2_with fail
    go_meet;case rel=>exact ⟨_,D,HN⟩
 case rest =>
  obtain ⟨p,y,S⟩:=hcut;clear D HN y0 y1 y2 X U;obtain ⟨⟨y0,y1,y2⟩, -⟩:=d9 S.out;go_upto_if 24 with fail
  go_cut [] (fun wc=>∃ p,Hid (AQ ts rb ab a c w ⟨fn,A,t1,aD,[]⟩ p I wc)/\Hid (wc.heap[B]? = some (ptO C O P)))
  case first =>
   cases O with
   | true =>
     have Y:=aA (qM ts hL rb a c s1 wc y.out.r);have m:bC ts s1=(t1,I):=T.out;rw [m] at Y;go_wp2_with fail
     refine Y.out.mono ?_;rintro e H ⟨ad,cc,rfl,hp,d,hr⟩;have E:=y.out.box S.out l d (fun k h=>.inl h);have f:=y.out.step hp d;have j:bD w.heap.size H ad t1.ks:=aK.imp hr (fun b _ N=>Nat.le_trans y.out.k.size N);have R:=aA (f.putE (cc:=cc) j);have N5:=aA (f.box E l (gJ H ab t1 ad cc) (fun k h=>.inr h));obtain ⟨m0,m1,m2,m3,m4,m5,m6,m7,m8,m9,g⟩:=aE f.n;obtain ⟨z0,z1,z2,z3,z4,z5,z6,z7,z8,z9,G⟩:=bI f.n;clear hp d hr j E f Y;go_wp2_with fail
     go_meet;case rel=>exact ⟨_,R,N5⟩
   | false =>
     have m:(aD,s1)=(t1,I):=T.out;cases m;go_wp2_with fail
     go_meet;case rel=>exact ⟨_,y,S⟩
  case rest =>
   obtain ⟨p,f,E⟩:=hcut;clear y S y0 y1 y2 T;obtain ⟨⟨y0,y1,y2⟩, -⟩:=d9 E.out;cases P with
   | true =>
     have CS:=aA (qC ts rb a c I ⟨#[44]⟩ wc f.out.r);go_wp2_with fail
     refine CS.out.mono ?_;rintro e w3 ⟨rfl,hp,d⟩;have R:=aA (f.out.step hp d);clear hp d CS f E;have Y:=aA (qM ts hL rb a c _ w3 R.out.r);have m:bC ts (aU ts [44] I)=(t2,s3):=ja.out;rw [m] at Y;go_wp2_with fail
     refine Y.out.mono ?_;rintro e w4 ⟨ad,cc,rfl,hp,d,hr⟩;have Q6:=R.out.step hp d;have j:bD w.heap.size w4 ad t2.ks:=aK.imp hr (fun b _ N=>Nat.le_trans R.out.k.size N);have Q7:=aA (Q6.putG (cc:=cc) j);obtain ⟨m0,m1,m2,m3,m4,m5,m6,m7,m8,m9,g⟩:=aE Q6.n;obtain ⟨z0,z1,z2,z3,z4,z5,z6,z7,z8,z9,G⟩:=bI Q6.n;clear hp d hr j Q6 Y;go_wp2_with fail
     go_end0
     exact ⟨rfl,_,Q7.out⟩
   | false =>
     have m:(aD,I)=(t2,s3):=ja.out;cases m;go_wp2_with fail
     go_end0
     exact ⟨rfl,_,f.out⟩
theorem Ea {ts:List Tk} {rb:Nat} {a:Tp} {c:Nat} {w V:World} {acc:List CD} {wa:Tp} {wc:Nat} {qs:List QC} {s:RS} (h:OCW ts rb a c w acc wa wc qs s V):jE (fun b=>w.heap.size<=b) V wa acc :=
 sA h.own h.ql (h.kd.imp (fun b _ d=>d.1)) (fun b f=>(h.own.lt b (by rw [f];rfl)).1)
def SO (ts:List Tk) (rb:Nat) (a:Tp) (c:Nat) (R:oN) (w:World) (e:Ending) (w':World):Prop :=
 ∃ (x:AG) (p:PA) (pos:Nat) (er:Int),e=.returned (agV x p)/\PR ts rb a c pos er w'/\aC (· = rb) w w'/\(match R with | .bad q f=>¬ f=0/\pos=q/\er=f | .ok y=>er=0/\x=y/\aX (fun b=>w.heap.size<=b) w' x p)
theorem JL {W:World} {B:Nat} {x:AG} {p:PA} (h:W.heap[B]? = some (agP x p)) (l:List CD) (wa:Tp) (wc:Nat):(W.setCell ⟨B,10,none⟩ (.slice wa l.length wc)).heap[B]? = some (agP { x with wh:=l } { p with wa:=wa,wc:=wc }):=by
 have a:=heap_setCell_same W B 10 _ 70 (.slice wa l.length wc) h;simpa using a
theorem Nx (ts:List Tk) (hL:∀ t∈ts,cS t) (hO:∀ t∈ts,Fn t) (rb:Nat) (a:Tp) (c:Nat) (w:World) (h:PR ts rb a c 0 0 w) :
 Calls prog 116 #[.pointer (some ⟨rb,0,none⟩)] w (SO ts rb a c (agS ts) w):=by
 have jh:=h.lt;have B1:=bA0 w (agP aO aI);have NB:=heap_alloc_new w (agP aO aI);have jc:(w.alloc (agP aO aI)).heap.size=w.heap.size+1:=Tc _ _;have P1:=aA (show PS ts rb a c ⟨0,0,0,0⟩ (w.alloc (agP aO aI)) from h.below B1);have K1:=aA (aF B1 (· = rb));generalize hW:w.alloc (agP aO aI)=W at *;have HW:=aA hW;have N0:=aA NB;have CN:=Jf ts rb a c ⟨0,0,0,0⟩ W P1.out;have y:Calls prog 177 #[.pointer (some ⟨rb,0,none⟩)] W fun e w'=>e=.returned (.string ⟨(bQ ts 0).text.toArray⟩)/\PS ts rb a c (iK ts) w'/\aC (· = rb) W w':=CN
 obtain ⟨fn,u⟩:∃ fn:Tr,⟨(bQ ts 0).text.toArray⟩=fn:=⟨_,rfl⟩;rw [u] at y;have V:=aA u;have C1:=aA y;clear h B1 NB hW CN y u;go_enter func116,ntmps116
 go_upto_region 1 with fail
 rw [show w.alloc (.cells #[.string ⟨#[]⟩,.int .i64 0,.string ⟨#[]⟩,.string ⟨#[]⟩,.int .i64 0,.slice none 0 0,.string ⟨#[]⟩,.string ⟨#[]⟩,.int .i64 0,.slice none 0 0,.slice none 0 0] 70)=W from HW.out];go_wp2_with fail
 refine C1.out.mono ?_;rintro e C ⟨rfl,hp,d⟩;have BA:=bA0 C (agP ⟨fn,0,aD,aD,[]⟩ aI);have NA:=heap_alloc_new C (agP ⟨fn,0,aD,aD,[]⟩ aI);have jb:=d.size;have P2:=aA (hp.below BA);have K2:=aA ((K1.out.trans d (fun i j _=>j)).trans (aF BA (· = rb)) (fun i j _=>j));have N1:=aA ((BA.block w.heap.size (by omega)).trans (d.heap N0.out (by omega)));clear hp d BA C1 P1 K1 N0;go_upto_region 2 with fail
 rw [show C.alloc (.cells #[.string fn,.int .i64 0,.string ⟨#[]⟩,.string ⟨#[]⟩,.int .i64 0,.slice none 0 0,.string ⟨#[]⟩,.string ⟨#[]⟩,.int .i64 0,.slice none 0 0,.slice none 0 0] 70)=C.alloc (agP ⟨fn,0,aD,aD,[]⟩ aI) from rfl];generalize C.alloc (agP ⟨fn,0,aD,aD,[]⟩ aI)=W1 at *;generalize C.heap.size=ab at *;have jk:w.heap.size<ab:=by omega
 have S:=aA NA;clear NA jb jc;have C2:=aA (qC ts rb a c (iK ts) ⟨#[40]⟩ W1 P2.out);go_wp2_with fail
 refine C2.out.mono ?_;rintro e B ⟨rfl,hp,d⟩;have P3:=aA (show PS ts rb a c (tP ts) B from hp);have K3:=aA (K2.out.trans d (fun i j _=>j));have N2:=aA (d.heap N1.out (by omega));have O:=aA (d.heap S.out (by omega));clear hp d C2 P2 K2 N1 S;have C3:=aA (Kq ts hL rb ab a c (tP ts) fn B P3.out O.out (by omega));go_wp2_with fail
 refine C3.out.mono ?_;rintro e w3 ⟨rfl,p,Q⟩;have H:fn.data.toList=(bQ ts 0).text:=by rw [<- V.out]
 have Q2:=aA (show AQ ts rb ab a c B (A8 ts []) p (jU ts (bQ ts 0).text (tP ts)) w3 by
  rw [H, <- V.out] at Q;exact Q)
 have N3:=aA (Q.k.heap N2.out (by omega));clear Q H C3 O N2;have C4:=aA (qC ts rb a c (jU ts (bQ ts 0).text (tP ts)) ⟨#[41]⟩ w3 Q2.out.r);go_wp2_with fail
 refine C4.out.mono ?_;rintro e w4 ⟨rfl,hp,d⟩;have X:=aA (show AQ ts rb ab a c B (A8 ts []) p (oX ts) w4 from Q2.out.step hp d);have N4:=aA (d.heap N3.out (by omega));clear hp d C4 N3 Q2;have C5:=aA (GR ts hL hO rb a c (oX ts) w4 X.out.r (R:=fA ts 6 [] (oX ts)) rfl);go_wp2_with fail
 refine C5.out.mono ?_;rintro e A ⟨acc,wa,wc,qs,s,rfl,f,o⟩;have m:=aA (X.out.step f.r f.k);have RC:=aA (Ea f);have N5:=aA (f.k.heap N4.out (by omega));have HR:=aA o;have jd:=f.k.size;have je:=X.out.k.size;clear f C5 X N4 o;obtain ⟨m0,m1,m2,m3,m4,m5,m6,m7,m8,m9,E⟩:=aE m.out.n;obtain ⟨z0,z1,z2,z3,z4,z5,z6,z7,z8,z9,D⟩:=bI m.out.n;go_upto_region 6 with fail
 clear m0 m1 m2 m3 m4 m5 m6 m7 m8 m9 E z0 z1 z2 z3 z4 z5 z6 z7 z8 z9 D;have KS:=(aC.refl (· = ab) A).setCell (p:=⟨ab,10,none⟩) (.inl rfl) (.slice wa acc.length wc);have NW:=JL m.out.n acc wa wc;have jj:=m.out.z;have P6:=aA (m.out.r.kept KS (fun k d=>by omega));have K6:=aA ((K3.out.trans m.out.k (fun i j ji=>by rcases j with h | h <;> omega)).trans (KS.mono (T:=fun i=>w.heap.size<=i) (fun i j _=>by omega)) (fun i j hl=>by omega));have Z:=aA (KS.heap N5.out (by omega));have RE:=aA (m.out.e.keptS KS (fun k d=>by omega));have RG:=aA (m.out.g.keptS KS (fun k d=>by omega));have jg:=m.out.k.size;have XP:=aA (show ∃ (x:AG) (q:PA),A8 ts acc=x/\{ p with wa:=wa,wc:=wc }=q from ⟨_,_,rfl,rfl⟩);obtain ⟨x,q,hx,G⟩:=XP.out;have N:=aA (show (A.setCell ⟨ab,10,none⟩ (.slice wa acc.length wc)).heap[ab]? = some (agP x q) by rw [<- hx, <- G];exact NW);have L:=aA (show bD B.heap.size (A.setCell ⟨ab,10,none⟩ (.slice wa acc.length wc)) q.ea x.e.ks by rw [<- hx, <- G];exact RE.out);have I:=aA (show bD B.heap.size (A.setCell ⟨ab,10,none⟩ (.slice wa acc.length wc)) q.ga x.g.ks by rw [<- hx, <- G];exact RG.out);have M:=aA (show jE (fun b=>w4.heap.size<=b) (A.setCell ⟨ab,10,none⟩ (.slice wa acc.length wc)) q.wa x.wh by rw [<- hx, <- G];exact RC.out.keptS KS (fun k d=>by omega));have HX:=aA hx;have jf:=K3.out.size;clear hx G XP NW RE RG RC KS m K3 P3;obtain ⟨Y,hY⟩:∃ Y,A.setCell ⟨ab,10,none⟩ (.slice wa acc.length wc)=Y:=⟨_,rfl⟩;rw [hY] at P6 K6 Z N L I M;try rw [hY]
 clear hY;obtain ⟨m0,m1,m2,m3,m4,m5,m6,m7,m8,m9,E⟩:=aE N.out;obtain ⟨b0,b1,b2,b3,b4,b5,b6,b7,b8,b9,jl⟩:=aE Z.out;obtain ⟨z0,z1,z2,z3,z4,z5,z6,z7,z8,z9,D⟩:=bI Z.out;go_wp2_with fail
 have U:=bL Y w.heap.size x q;obtain ⟨y0,y1,y2,y3,y4,y5,y6,y7,y8,y9,ja⟩:=aE (cF (t:=70) Z.out x q)
 have P:SO ts rb a c (agS ts) w (.returned (agV x q)) (eJ Y w.heap.size x q):=by
  refine ⟨x,q,atR s,s.bad,rfl,P6.out.kept U (fun k d=>by omega),K6.out.trans (U.mono (T:=fun i=>w.heap.size<=i) (fun i j _=>by omega)) (fun i j hl=>by omega),?_⟩;have hr:=HR.out;unfold agS;cases hc:fA ts 6 [] (oX ts) with
  | bad pq eq =>
    rw [hc] at hr;simp only at hr |-
    exact ⟨fun h=>hr.1 (hr.2.2.trans h),hr.2.1,hr.2.2⟩
  | ok l =>
    rw [hc] at hr;simp only at hr |-
    refine ⟨hr.1,?_,?_⟩
    · rw [<- hr.2];exact HX.out.symm
    · exact ⟨(L.out.keptS U (fun k d=>by omega)).imp (fun b _ hb=>by omega),(I.out.keptS U (fun k d=>by omega)).imp (fun b _ hb=>by omega),(M.out.keptS U (fun k d=>by omega)).imp (fun b _ hb=>by omega)⟩
 exact bodyPost_ret (v:=agV x q) (by simp [results,results116,go_sem,y0,y1,y2,y3,y4,y5,y6,y7,y8,y9,ja]) rfl P
theorem Kh (s:Tr) (ts:List Tk) (a:Tp) (c p:Nat) (hp:p<=ts.length) (w:World) (hr:fQ w a ts) :
 Calls prog 117 #[.string s,.slice a ts.length c,.int .i64 p] w fun e w'=>e=.returned (.int .i64 ((eY s.size ts p:Nat):Int))/\w=w':=by
 by_cases d:p<ts.length
 · obtain ⟨b,off,ha, -,f⟩:=hr.resolve_left (by intro e;rw [e] at d;simp at d)
   obtain ⟨-, -, -,g⟩:=f p d;subst ha;have e:eY s.size ts p=ts[p].place:=by unfold eY;rw [List.getElem?_eq_getElem d]
   rw [e];have a1:((p:Int) == (ts.length:Int))=false:=by rw [beq_eq_false_iff_ne];omega
   have a2:(p:Int)<(ts.length:Int):=by omega
   have a3:(0:Int)<=(p:Int):=by omega
   have a4:((p:Int)).toNat=p:=by omega
   clear f;go_enter func117,ntmps117
   go_wp2_with fail
   go_ret;exact ⟨rfl,rfl⟩
 · have e:eY s.size ts p=s.size:=by unfold eY;rw [List.getElem?_eq_none (by omega)]
   rw [e];have a1:((p:Int) == (ts.length:Int))=true:=by rw [beq_iff_eq];omega
   clear hr;go_enter func117,ntmps117
   go_wp2_with fail
   go_ret;exact ⟨rfl,rfl⟩
theorem PR.drew {ts:List Tk} {rb:Nat} {a:Tp} {c p:Nat} {er:Int} {w:World} (h:PR ts rb a c p er w):PR ts rb a c p er w.drew:=h.drewN 1
theorem Lp {ts:List Tk} {rb:Nat} {a:Tp} {c pos:Nat} {er:Int} {W:World} (h:PR ts rb a c pos er W) {B:Nat} (x:B<rb) (m:ts=[]\/∃ b off,a=some ⟨b,off,none⟩/\B<b) :
 (eJ W B aO aI).drew.cell? ⟨rb,1,none⟩=some (.int .i64 (pos:Nat))/\(eJ W B aO aI).drew.cell? ⟨rb,2,none⟩=some (.int .i64 er)/\fQ (eJ W B aO aI).drew a ts:=by
 have d:=bL W B aO aI
 have l:PR ts rb a c pos er (eJ W B aO aI):=by
  refine ⟨d.heap h.r (by omega),?_,h.p,h.n⟩;rcases h.t with g | ⟨b,off,rfl,f,q⟩
  · exact .inl g
  · rcases m with g | ⟨y,k,e,u⟩
    · exact .inl g
    · cases e
      refine .inr ⟨b,off,rfl,f,fun j o=>?_⟩;obtain ⟨s,c1,c2,c3⟩:=q j o;exact ⟨d.cell s (by show ¬ b=B;omega),d.cell c1 (by show ¬ b=B;omega),d.cell c2 (by show ¬ b=B;omega),d.cell c3 (by show ¬ b=B;omega)⟩
 obtain ⟨⟨u0,u1,u2⟩, -⟩:=d9 l.r;exact ⟨rE u1,rE u2,l.drew.reads⟩
theorem I2 {W:World} {B:Nat} (h:W.heap[B]? = some (agP aO aI)):(eJ W B aO aI).drew.heap[B]? = some (agP aO aI):=Bv (cF (t:=70) h aO aI)
theorem OO {ts:List Tk} {rb:Nat} {a:Tp} {c pos:Nat} {er:Int} {w W:World} {s:Tr} (_h:PR ts rb a c pos er W) (b:Below w.heap.size w W) :
 l7 (agQ s.size ts (.bad pos er)) w (.returned (.tuple #[agV aO aI,.int .i64 ((eY s.size ts pos:Nat):Int),.int .i64 er])) (eJ W w.heap.size aO aI).drew :=
 ⟨Ac (b.trans ((bL W w.heap.size aO aI).below (B:=w.heap.size) (fun k d=>by omega) b.size)),rfl⟩
theorem QW (b:Tr) (G:b.size<=281474976710656) (w:World) (s:iE w) {p:Nat} {er:Int} (x:gY b.data.toList=.bad p er):Calls prog 57 #[.string b] w (l7 (.bad p er) w):=by
 obtain ⟨-,qe⟩:=pI x;have z:=bA0 w (agP aO aI);have I:=heap_alloc_new w (agP aO aI);have E:(w.alloc (agP aO aI)).heap.size=w.heap.size+1:=Tc _ _;have N:=aA (s.step z);generalize u:w.alloc (agP aO aI)=W at *;have y:=aA u;have C:=aA (vZ b G W N.out);rw [x] at C;clear u s;go_enter func57,ntmps57
 go_upto_region 1 with fail
 rw [show w.alloc (.cells #[.string ⟨#[]⟩,.int .i64 0,.string ⟨#[]⟩,.string ⟨#[]⟩,.int .i64 0,.slice none 0 0,.string ⟨#[]⟩,.string ⟨#[]⟩,.int .i64 0,.slice none 0 0,.slice none 0 0] 70)=W from y.out];go_wp2_with fail
 refine C.out.mono ?_;rintro e D ⟨c,rfl⟩;have d:=(c.block w.heap.size (by omega)).trans I;have hz:=c.size;have O:=aA (z.trans (c.mono (by omega)));obtain ⟨z0,Z,Y,X,V,U,T,S,R,P,A⟩:=bI d;obtain ⟨b0,b1,b2,b3,b4,b5,b6,b7,b8,b9,H⟩:=aE d;have L:=aA d;clear c d C y;go_wp2_with fail
 have M:=bL D w.heap.size aO aI;obtain ⟨r,q,o,n,m,l,j,h,g,f,a⟩:=aE (cF (t:=70) L.out aO aI);dsimp only [eJ,aO,aI,aD,F.len,List.length_nil] at r q o n m l j h g f a;exact bodyPost_ret (v:=.tuple #[agV aO aI,.int .i64 (p:Nat),.int .i64 er]) (by simp [results,results57,go_sem,r,q,o,n,m,l,j,h,g,f,a,aO,aI,aD,F.len]) rfl ⟨O.out.trans (M.below (B:=w.heap.size) (fun k hk=>by omega) (by omega)),rfl⟩
theorem QV (g:Tr) (hm:g.size<=281474976710656) (w:World) (hw:iE w) {ts:List Tk} (N:gY g.data.toList=.ok ts):Calls prog 57 #[.string g] w (l7 (agQ g.size ts (agL ts)) w):=by
 rw [RQ];have jk:=Ex N;have B1:=bA0 w (agP aO aI);have NB:=heap_alloc_new w (agP aO aI);have jo:(w.alloc (agP aO aI)).heap.size=w.heap.size+1:=Tc _ _;have HL:=aA (hw.step B1);generalize hW:w.alloc (agP aO aI)=W at *;have HW:=aA hW;have C:=aA (vZ g hm W HL.out);rw [N] at C;have T:=aA B1;have P:=aA NB;have jh:=aA (qO N);have jf:=aA (Pm N);obtain ⟨R,hR⟩:∃ R,agS ts=R:=⟨_,rfl⟩;rw [hR];have jc:=aA hR;clear hW hw hR B1 NB HL N;go_enter func57,ntmps57
 go_upto_region 1 with fail
 rw [show w.alloc (.cells #[.string ⟨#[]⟩,.int .i64 0,.string ⟨#[]⟩,.string ⟨#[]⟩,.int .i64 0,.slice none 0 0,.string ⟨#[]⟩,.string ⟨#[]⟩,.int .i64 0,.slice none 0 0,.slice none 0 0] 70)=W from HW.out];go_wp2_with fail
 refine C.out.mono ?_;rintro e u ⟨M,a,c,rfl,ho⟩;have hz:=M.size;have N1:=(M.block w.heap.size (by omega)).trans P.out;have B2:=T.out.trans (M.mono (by omega));have R1:=r9 ho;have TK:=aA (Qq (n:=w.heap.size) (m:=ts.length) (c:=c) R1 (fun q hq=>by have:=(ho.lt q hq).1;omega));have j:=bA0 u (.cells #[.slice a ts.length c,.int .i64 0,.int .i64 0] 202);have O:=heap_alloc_new u (.cells #[.slice a ts.length c,.int .i64 0,.int .i64 0] 202);have jn:(u.alloc (.cells #[.slice a ts.length c,.int .i64 0,.int .i64 0] 202)).heap.size=u.heap.size+1:=Tc _ _
 have P1:=aA (show PR ts u.heap.size a c 0 0 (u.alloc (.cells #[.slice a ts.length c,.int .i64 0,.int .i64 0] 202)) from
  ⟨O,(wR R1).kept (aF j (fun _=>False)) (fun _ h=>h.elim),Nat.zero_le _,by omega⟩)
 have N2:=aA ((j.block w.heap.size (by omega)).trans N1);have B3:=aA (B2.trans (j.mono (by omega)));clear M N1 B2 R1 j O ho C HW T P;go_upto_region 5 with fail
 generalize u.alloc (.cells #[.slice a ts.length c,.int .i64 0,.int .i64 0] 202)=W1 at *;generalize u.heap.size=rb at *;have CA:=aA (Nx ts jh.out jf.out rb a c W1 P1.out);rw [jc.out] at CA;go_wp2_with fail
 refine CA.out.mono ?_;rintro e G ⟨x,q,pos,er,rfl,P2,K2,A⟩;have j:=bA0 G (agP x q);have O:=heap_alloc_new G (agP x q);have jm:(G.alloc (agP x q)).heap.size=G.heap.size+1:=Tc _ _;have ja:=K2.size;have P3:=aA (P2.below j);have H:=aA ((j.block w.heap.size (by omega)).trans (K2.heap N2.out (by omega)));have B4:=aA ((B3.out.trans (K2.below (B:=w.heap.size) (fun k hk=>by omega) (by omega))).trans (j.mono (by omega)));have jd:=aA A;have ji:=aA j;clear P2 K2 j CA P1 N2 B3 A;go_upto_region 6 with fail
 generalize G.alloc (agP x q)=W2 at *;generalize jb:G.heap.size=ab at *;have P4:=aA P3.out;obtain ⟨⟨c0,c1,c2⟩, -⟩:=d9 P3.out.r;have jg:=aA O;clear P3 O;have hh:=jd.out;cases R with
 | bad pq eq =>
   simp only at hh;obtain ⟨L,rfl,rfl⟩:=hh;have q1:((er:Int) != 0)=true:=by simpa using L
   have RT:fQ W2.drew a ts:=P4.out.drew.reads;have je:=aA P4.out.p;have D:=Lp P4.out (B:=w.heap.size) (by omega) TK.out;dsimp only [eJ,aO,aI,aD,F.len,List.length_nil] at D;have jj:=aA D;clear D;have YY:=aA (I2 (W:=W2) H.out);have pf:=OO (s:=g) (er:=er) P4.out B4.out;dsimp only [eJ,aO,aI,aD,F.len,List.length_nil] at pf;have PF:=aA pf;clear pf;clear L;go_upto_region 7 with fail
   obtain ⟨z0,z1,z2,z3,z4,z5,z6,z7,z8,z9,I⟩:=bI H.out;obtain ⟨b0,b1,b2,b3,b4,b5,b6,b7,b8,b9,E⟩:=aE H.out;dsimp only [aO,aI,aD,F.len,List.length_nil] at b0 b1 b2 b3 b4 b5 b6 b7 b8 b9 E;refine wp_region_held_drew (S:=fun V=>V.cell? ⟨rb,1,none⟩=some (.int .i64 (pos:Nat))/\V.cell? ⟨rb,2,none⟩=some (.int .i64 er)/\fQ V a ts) (by kernel_rfl) ⟨c1,c2,RT⟩ (fun hHeld=>?_);refine aB (i:=0) (d:=some 27) (v:=.agg #[.string ⟨#[]⟩,.int .i64 0,.string ⟨#[]⟩,.string ⟨#[]⟩,.int .i64 0,.slice none 0 0,.string ⟨#[]⟩,.string ⟨#[]⟩,.int .i64 0,.slice none 0 0,.slice none 0 0]) rfl rfl (by kernel_rfl) (by kernel_rfl) (by kernel_rfl) (fun _ _ _ h=>h) (Or.inl ⟨by rfl,by rintro w ⟨c1,c2,z⟩;go_simp⟩) hHeld ?_;simp only [Act.put,S7,S9,Ta];refine aB (i:=1) (d:=some 28) (v:=.string g) rfl rfl (by kernel_rfl) (by kernel_rfl) (by kernel_rfl) (fun _ _ _ h=>h) (Or.inl ⟨by rfl,by rintro w ⟨c1,c2,z⟩;go_simp⟩) hHeld ?_;simp only [Act.put,S7,S9,Ta];refine aB (i:=2) (d:=some 29) (v:=.slice a ts.length c) rfl rfl (by kernel_rfl) (by kernel_rfl) (by kernel_rfl) (fun _ _ _ h=>h) (Or.inl ⟨by rfl,by rintro w ⟨c1,c2,z⟩;go_simp⟩) hHeld ?_;simp only [Act.put,S7,S9,Ta];refine aB (i:=3) (d:=some 30) (v:=.pointer (some ⟨rb,1,none⟩)) rfl rfl (by kernel_rfl) (by kernel_rfl) (by kernel_rfl) (fun _ _ _ h=>h) (Or.inl ⟨by rfl,by rintro w ⟨c1,c2,z⟩;go_simp⟩) hHeld ?_;simp only [Act.put,S7,S9,Ta];refine aB (i:=4) (d:=some 31) (v:=.int .i64 (pos:Nat)) rfl rfl (by kernel_rfl) (by kernel_rfl) (by kernel_rfl) (fun _ _ _ h=>h) (Or.inl ⟨by rfl,by rintro w ⟨c1,c2,z⟩;go_simp⟩) hHeld ?_
   simp only [Act.put,S7,S9,Ta];refine aB (i:=6) (d:=some 33) (v:=.pointer (some ⟨rb,2,none⟩)) rfl rfl (by kernel_rfl) (by kernel_rfl) (by kernel_rfl) (fun _ _ _ h=>h) (Or.inl ⟨by rfl,by rintro w ⟨c1,c2,z⟩;go_simp⟩) hHeld ?_;simp only [Act.put,S7,S9,Ta];refine aB (i:=7) (d:=some 34) (v:=.int .i64 er) rfl rfl (by kernel_rfl) (by kernel_rfl) (by kernel_rfl) (fun _ _ _ h=>h) (Or.inl ⟨by rfl,by rintro w ⟨c1,c2,z⟩;go_simp⟩) hHeld ?_;simp only [Act.put,S7,S9,Ta];refine wpAnyH_ready (rs:=[5]) (by kernel_rfl) (by simp) ?_;refine AllReadyH.cons (o:=_) rfl (fun K hK=>?_) AllReadyH.nil;go_simp
   refine (Kh g ts a c pos je.out W2.drew RT).mono ?_;rintro e w5 ⟨rfl,rfl⟩;refine hK.out _ _ hHeld (fun hHeld2=>?_);try simp only [Act.put,S7,S9,Ta]
   clear hK K;have CC:=jj.out;refine wpAnyH_ready (rs:=[8]) (by kernel_rfl) (by simp) ?_;refine AllReadyH.cons (o:=_) rfl (fun K hK=>?_) AllReadyH.nil;go_simp
   refine hK.out _ _ CC (fun hHeld3=>?_);try simp only [Act.put,S7,S9,Ta]
   clear hK K;refine aB (i:=9) (d:=some 3) (v:=.int .i64 ((eY g.size ts pos:Nat):Int)) rfl rfl (by kernel_rfl) (by kernel_rfl) (by kernel_rfl) (fun _ _ _ h=>h) (Or.inl ⟨by rfl,by rintro w ⟨c1,c2,z⟩;go_simp⟩) hHeld3 ?_;simp only [Act.put,S7,S9,Ta];refine aB (i:=10) (d:=some 4) (v:=.int .i64 er) rfl rfl (by kernel_rfl) (by kernel_rfl) (by kernel_rfl) (fun _ _ _ h=>h) (Or.inl ⟨by rfl,by rintro w ⟨c1,c2,z⟩;go_simp⟩) hHeld3 ?_;simp only [Act.put,S7,S9,Ta];refine wpAnyH_done (by kernel_rfl) ?_ _;obtain ⟨y0,y1,y2,y3,y4,y5,Z,Y,X,U,l⟩:=aE YY.out;dsimp only [eJ,aO,aI,aD,F.len,List.length_nil] at y0 y1 y2 y3 y4 y5 Z Y X U l;clear hHeld hHeld2 hHeld3 CC c0 c1 c2 RT z0 z1 z2 z3 z4 z5 z6 z7 z8 z9 I b0 b1 b2 b3 b4 b5 b6 b7 b8 b9 E;go_wp2
   exact bodyPost_ret (v:=.tuple #[agV aO aI,.int .i64 ((eY g.size ts pos:Nat):Int),.int .i64 er]) (by simp [results,results57,go_sem,y0,y1,y2,y3,y4,y5,Z,Y,X,U,l,aO,aI,aD,F.len]) rfl PF.out
 | ok y =>
   simp only at hh;obtain ⟨rfl,rfl,rd⟩:=hh;obtain ⟨m0,m1,m2,m3,m4,m5,m6,m7,m8,m9,jl⟩:=aE jg.out;obtain ⟨z0,z1,z2,z3,z4,z5,z6,z7,z8,z9,I⟩:=bI H.out;obtain ⟨b0,b1,b2,b3,b4,b5,b6,b7,b8,b9,E⟩:=aE H.out;have RD:=aA (rd.kept (by rw [jb];exact ji.out));have jp:w.heap.size<ab:=by have:=ja;omega
   clear rd;go_wp2_with fail
   have KP:=bL W2 w.heap.size x q;obtain ⟨y0,y1,y2,y3,y4,y5,Z,Y,X,U,l⟩:=aE (cF (t:=70) H.out x q)
   have PF:=aA (show l7 (agQ g.size ts (.ok x)) w (.returned (.tuple #[agV x q,.int .i64 0,.int .i64 0])) (eJ W2 w.heap.size x q) from
    ⟨B4.out.trans (KP.below (B:=w.heap.size) (fun k hk=>by omega) B4.out.size),q,rfl,(RD.out.keptS KP (fun k hk=>by omega)).imp (fun b _ M=>by omega)⟩)
   exact bodyPost_ret (v:=.tuple #[agV x q,.int .i64 0,.int .i64 0]) (by simp [results,results57,go_sem,y0,y1,y2,y3,y4,y5,Z,Y,X,U,l]) rfl PF.out
theorem Av (a:Tr) (d:a.size<=281474976710656) (w:World) (c:iE w):Calls prog 57 #[.string a] w (l7 (agX a.data.toList) w):=by
 have hl:a.data.toList.length=a.size:=by simp
 cases b:gY a.data.toList with
 | bad p er =>
   have e:agX a.data.toList=.bad p er:=by unfold agX;rw [b]
   rw [e];exact QW a d w c b
 | ok ts =>
   have e:agX a.data.toList=agQ a.size ts (agL ts):=by
    unfold agX agQ;rw [b,hl];simp only;cases agL ts <;> rfl
   rw [e];exact QV a d w c b
end Go.Proofs.YtgfkjkokmcejbaaGreatDoor
