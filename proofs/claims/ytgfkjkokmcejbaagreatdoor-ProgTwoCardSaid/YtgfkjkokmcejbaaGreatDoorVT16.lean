/-
 No statement: what ProgTwoLift needs, of the texts OConds, OArgs, OParse, OPx.
-/
import Derived.Test.YtgfkjkokmcejbaaGreatDoorVT15
set_option maxHeartbeats 40000000
set_option maxRecDepth 100000
namespace Go.Proofs.YtgfkjkokmcejbaaGreatDoor
section
open Go.RowKit
theorem uL {L:List Tk} {s:RS} (h:¬ s.bad=0):(bV L s).2=s:=by
 unfold bV;rw [fT h];simp only;rw [if_neg h]
def oJ (L:List Tk) (n:Nat) (s:RS):RS:=goR (bT (decide (n<4)) 4 (bT (dS L (if n=0 then eT else lV) s.pos) 2 s))
theorem Gt {L:List Tk} {acc:List CD} {s:RS} {R:E4} (hb:s.bad=0) (hlt:s.pos<L.length) (hk:acc.length<=4) (h:eY L (6-acc.length) acc s=R) {d:CD}
 (hd:(bV L (oJ L acc.length s)).2.bad=0->(bV L (oJ L acc.length s)).1=d):eY L (6-(acc++[d]).length) (acc++[d]) (bV L (oJ L acc.length s)).2=R:=by
 obtain ⟨f,hf⟩:∃ f,6-acc.length=f+1+1:=⟨4-acc.length,by omega⟩;have hf2:6-(acc++[d]).length=f+1:=by rw [List.length_append,List.length_singleton];omega
 have e0:eY L (f+1+1) acc s=(if dS L (if acc.length=0 then eT else lV) s.pos=false then .bad s.pos 2 else if 4<=acc.length then .bad s.pos 4 else eY L (f+1) (acc++[(bV L (aJ s)).1]) (bV L (aJ s)).2):=by
  rw [eY,if_neg (not_not_intro hb),if_neg (show ¬ L.length<=s.pos by omega)]
 rw [hf,e0] at h;rw [hf2, <- h];unfold oJ at hd |-
 cases hw:dS L (if acc.length=0 then eT else lV) s.pos with
 | false =>
   rw [if_pos rfl]
   have e:goR (bT (decide (acc.length<4)) 4 (bT false 2 s))=aM 2 s:=by
    rw [iA,iB (dG (by decide) hb),gN (dG (by decide) hb)]
   rw [e,uL (dG (by decide) hb),fW (dG (by decide) hb)];unfold aM;rw [if_pos hb]
 | true =>
   rw [if_neg (by decide)];rw [hw] at hd;by_cases h4:4<=acc.length
   · rw [if_pos h4]
     have e:goR (bT (decide (acc.length<4)) 4 (bT true 2 s))=aM 4 s:=by
      rw [decide_eq_false (by omega),iA,kV,gN (dG (by decide) hb)]
     rw [e,uL (dG (by decide) hb),fW (dG (by decide) hb)];unfold aM;rw [if_pos hb]
   · rw [if_neg h4]
     have e:goR (bT (decide (acc.length<4)) 4 (bT true 2 s))=aJ s:=by
      rw [decide_eq_true (by omega),kV,kV,Et hb]
     rw [e] at hd |-
     by_cases hc:(bV L (aJ s)).2.bad=0
     · rw [hd hc]
     · rw [fW hc,fW hc]
theorem O7 {s:RS} (h:(goR s).bad=0):s.bad=0:=Decidable.byContradiction fun hx=>by rw [gN hx] at h;exact hx h
theorem Kg {L:List Tk} {n:Nat} {s:RS} (h:(bV L (oJ L n s)).2.bad=0):n<4:=by
 have h1:(oJ L n s).bad=0:=Decidable.byContradiction fun hx=>by rw [uL hx] at h;exact hx h
 unfold oJ at h1;have h2:=O7 h1;have:=(lI (by decide) h2).1;simpa using this
abbrev GC (n:Nat) (wa:Option Addr) (b:Nat):Prop:=n<=b/\wa ≠ some ⟨b,0,none⟩
structure OCW (ts:List Tk) (rb:Nat) (a:Option Addr) (c:Nat) (w:World) (acc:List CD) (wa:Option Addr) (wc:Nat) (qs:List QC) (s:RS) (V:World):Prop where
 r:PS ts rb a c s V
 k:aD (· = rb) w V
 own:V.ownsRow w.heap.size 144 9 (.slice wa acc.length wc) acc.length (cdL acc qs)
 ql:qs.length=acc.length
 kd:oB (GC w.heap.size wa) V acc qs
 h:rb<w.heap.size
section
variable {ts : List Tk} {rb : Nat} {a : Option Addr} {c : Nat} {w V V' : World} {acc : List CD} {wa : Option Addr} {wc : Nat} {qs : List QC} {s s' : RS}
theorem OCW.lo (h:OCW ts rb a c w acc wa wc qs s V) {b:Nat} (hb:(Value.slice wa acc.length wc).ownBlock=some b):w.heap.size<=b/\b<V.heap.size:=h.own.lt b hb
theorem OCW.own' (h:OCW ts rb a c w acc wa wc qs s V) {b:Nat} (hb:(Value.slice wa acc.length wc).ownBlock=some b):wa=some ⟨b,0,none⟩:=by
 rcases h.own.2 with ⟨q1,_⟩ | ⟨g,cap,cur,q1,_⟩
 · rw [q1] at hb;cases hb
 · rw [q1] at hb
   cases hb;simp only [Value.slice.injEq] at q1;exact q1.1
theorem OCW.step (h:OCW ts rb a c w acc wa wc qs s V) (hp:PS ts rb a c s' V') (hk:aD (· = rb) V V'):OCW ts rb a c w acc wa wc qs s' V':=by
 have h1:=h.h;exact ⟨hp,h.k.trans hk (fun i hi _=>hi),fG (row:=some rb) h.own (hk.mono (fun i hi _=>by rw [hi])) (fun b hb he=>by have:=(h.lo hb).1;have:=Option.some.inj he;omega),h.ql,h.kd.keptS hk (fun k hk hg=>by have:=hg.1;omega),h1⟩
theorem OCW.below (h:OCW ts rb a c w acc wa wc qs s V) (hb:Below V.heap.size V V'):OCW ts rb a c w acc wa wc qs s V':=h.step (h.r.below hb) (aE hb _)
theorem OCW.drewN (h:OCW ts rb a c w acc wa wc qs s V) (n:Nat):OCW ts rb a c w acc wa wc qs s (V.drewN n):=h.step (h.r.drewN n) ((aD.refl _ V).drewN n)
theorem OCW.push (h:OCW ts rb a c w acc wa wc qs s V) {d:CD} {q:QC} {a':Option Addr} {c':Nat} (hk:aD (fun b=>(Value.slice wa acc.length wc).ownBlock=some b) V V')
 (hrow:V'.ownsRow w.heap.size 144 9 (.slice a' (acc.length+1) c') (acc.length+1) (cdL acc qs++iK d q))
 (hnew:∀ b,(Value.slice a' (acc.length+1) c').ownBlock=some b->(Value.slice wa acc.length wc).ownBlock=some b\/V.heap.size<=b)
 (h1:aN (GC w.heap.size wa) V q.a1 d.a.ks) (h2:aN (GC w.heap.size wa) V q.a2 d.b.ks) :
 OCW ts rb a c w (acc++[d]) a' c' (qs++[q]) s V':=by
 have e1:=h.h;have own':∀ b,a'=some ⟨b,0,none⟩->(Value.slice a' (acc.length+1) c').ownBlock=some b:=fun b hb=>by rw [hb];rfl
 have len:(acc++[d]).length=acc.length+1:=by simp
 have kd:=h.kd.snoc h.ql h1 h2;refine ⟨h.r.kept hk (fun k hk=>by have:=(h.lo hk).1;omega),h.k.trans (hk.mono (T:=fun i=>w.heap.size<=i) (fun i hi _=>(h.lo hi).1)) (fun i hi hl=>by omega),?_,by rw [List.length_append,List.length_append,h.ql];rfl,?_,e1⟩
 · rw [len,Ct _ _ _ _ h.ql]
   have e:cdL [d] [q]=iK d q:=by simp [cdL]
   rw [e];exact hrow
 · exact ((kd.imp (H:=fun b=>GC w.heap.size wa b/\a' ≠ some ⟨b,0,none⟩) (fun b hb hg=>⟨hg,fun e=>by
    rcases hnew b (own' b e) with h' | h'
    · exact hg.2 (h.own' h')
    · omega⟩)).keptS hk (fun k hk hg=>hg.1.2 (h.own' hk))).imp (fun b _ hg=>⟨hg.1.1,hg.2⟩)
theorem OCW.fresh (h:OCW ts rb a c w acc wa wc qs s V) {b:Nat} (hb:V.heap.size<=b):GC w.heap.size wa b:=by
 have:=h.k.size;refine ⟨by omega,fun e=>?_⟩;have:=(h.own.lt b (by rw [e];rfl)).2;omega
end
def Rn:Value->Nat
 | .slice _ n _=>n
 | _=>0
theorem Jt:∃ i z,Tryz.prog.info? 144=some i/\i.zero=some z/\i.size=9/\i.bytes=144/\z.cells.size=9:=by
 have h:(Tryz.prog.info? 144).map (fun i=>(i.zero.map (fun z=>z.cells.size),i.size,i.bytes))=some (some 9,9,144):=by kernel_rfl
 cases hx:Tryz.prog.info? 144 with
 | none=>rw [hx] at h;cases h
 | some i =>
   rw [hx] at h;simp only [Option.map_some,Option.some.injEq,Prod.mk.injEq] at h;obtain ⟨h1,h2,h3⟩:=h;cases hz:i.zero with
   | none=>rw [hz] at h1;cases h1
   | some z =>
     rw [hz] at h1;exact ⟨i,z,rfl,hz,h2,h3,by simpa using h1⟩
theorem IY (W:World) (d:CD) (q:QC):∀ j u,(iK d q)[j]? = some u->(W.alloc (.cells #[.string d.op,.string d.a.op,.string d.a.nm,.int .i64 d.a.n,.slice q.a1 d.a.ks.len q.c1,.string d.b.op,.string d.b.nm,.int .i64 d.b.n,.slice q.a2 d.b.ks.len q.c2] 144)).cell? ((⟨W.heap.size,0,none⟩:Addr).add j)=some u:=fun j u hu=>by
 obtain ⟨p0,p1,p2,p3,p4,p5,p6,p7,p8⟩:=gT (heap_alloc_new W (cdP d q.a1 q.c1 q.a2 q.c2));rw [Addr.add_lit];match j,hu with
 | 0,h=>cases h;exact p0
 | 1,h=>cases h;exact p1
 | 2,h=>cases h;exact p2
 | 3,h=>cases h;exact p3
 | 4,h=>cases h;exact p4
 | 5,h=>cases h;exact p5
 | 6,h=>cases h;exact p6
 | 7,h=>cases h;exact p7
 | 8,h=>cases h;exact p8
 | n+9,h=>simp at h
def Rb (ts:List Tk) (rb:Nat) (a:Option Addr) (c:Nat) (R:E4) (w:World) (e:Ending) (w':World):Prop :=
 ∃ (acc:List CD) (wa:Option Addr) (wc:Nat) (qs:List QC) (s:RS),e=.returned (.slice wa acc.length wc)/\OCW ts rb a c w acc wa wc qs s w'/\(match R with | .bad p er=>¬ s.bad=0/\atR s=p/\s.bad=er | .ok l=>s.bad=0/\acc=l)
def wK (n:Nat):ByteArray:=if n=0 then ⟨#[119,104,101,114,101]⟩ else ⟨#[97,110,100]⟩
theorem E9 (n:Nat):(wK n).data.toList=(if n=0 then eT else lV):=by unfold wK;split <;> rfl
theorem Gv (ts:List Tk) (hL:∀ t∈ts,cK t) (hO:∀ t∈ts,EW t) (rb:Nat) (a:Option Addr) (c:Nat) (s0:RS) (w:World) (h:PS ts rb a c s0 w) {R:E4} (hR:eY ts 6 [] s0=R) :
 Calls Tryz.prog 180 #[.pointer (some ⟨rb,0,none⟩)] w (Rb ts rb a c R w):=by
 have K0:=aA (show OCW ts rb a c w [] none 0 [] s0 w from ⟨h,aD.refl _ _,⟨rfl,.inl ⟨rfl,rfl⟩⟩,rfl,fun j d q h1 _=>by simp at h1,h.lt⟩);have HR:=aA (show eY ts (6-([]:List CD).length) [] s0=R from hR);clear h hR;go_enter Tryz.func180,Tryz.ntmps180
 go_wp2_with fail
 go_loopw [3,4,5] (fun v3 v4 v5 wr=>∃ (acc:List CD) (wa:Option Addr) (wc':Nat) (qs:List QC) (s:RS) (y:Value),v3=.slice wa acc.length wc'/\v4=.string (wK acc.length)/\v5=y/\acc.length<=5/\Hid (s.bad=0->acc.length<=4)/\Hid (eY ts (6-acc.length) acc s=R)/\Hid (OCW ts rb a c w acc wa wc' qs s wr)) (fun v3 _ _ _=>10-Rn v3)
 case atStart=>exact ⟨[],none,0,[],s0,_,rfl,rfl,rfl,by decide,aA (fun _=>by decide),HR,K0⟩
 case round =>
  obtain ⟨acc,wa,wc',qs,s,y,rfl,rfl,rfl,h5,H4,HE,HK⟩:=hrel;clear K0 HR;obtain ⟨⟨c0,c1,c2⟩,f0,f1,f2⟩:=dV HK.out.r.r;have hnn:=HK.out.r.n;have hpp:=HK.out.r.p;by_cases hb:s.bad=0
  · have q:((s.bad:Int) == 0)=true:=by rw [hb];rfl
    have hat:=lB hb;obtain ⟨p,hp⟩:∃ p,atR s=p:=⟨_,rfl⟩;rw [hp] at c1 hpp;by_cases hlt:p<ts.length
    · have a1:(p:Int)<(ts.length:Int):=by omega
      have hps:s.pos=p:=by rw [<- hat,hp]
      have h4:=H4.out hb;have NX:=mL ts rb a c (atR s) s.bad;obtain ⟨t,ht⟩:∃ t,bK ts (atR s)=t:=⟨_,rfl⟩;have WT:=Ke ts (wK acc.length).data.toList (atR s);rw [ht] at WT;rw [ht,sH] at NX;obtain ⟨X,hX⟩:∃ X:ByteArray,⟨t.text.toArray⟩=X:=⟨_,rfl⟩;have hXl:t.text=X.data.toList:=by rw [<- hX]
      rw [hX] at NX;rw [hXl, <- Lib.toList_data, <- Lib.toList_data] at WT;obtain ⟨k,s',nn,pp⟩:=t;simp only at NX WT;have TL:k=1->p<ts.length:=fun _=>hlt
      obtain ⟨wb,hwb⟩:∃ z,dS ts (if acc.length=0 then eT else lV) s.pos=z:=⟨_,rfl⟩;have e0:dS ts (wK acc.length).toList (atR s)=wb:=by rw [Lib.toList_data,E9,hp, <- hps];exact hwb
      rw [e0] at WT;have HWT:=aA WT;have HWB:=aA hwb;have HN:=aA NX;have HB:=aA hb;have HLT:=aA (show s.pos<ts.length by omega);have HP:=aA hp;have H44:=aA h4;clear hat hp NX ht WT hX hXl hwb TL hb hps e0;go_upto_region 4 with (go_quiet (fail))
      have K1:=aA (HK.out.drewN nq);have N1:=aA (HN.out _ K1.out.r);clear HK c0 c1 c2 f0 f1 f2 HN;generalize wr.drewN nq=W0 at *;go_wp2_with fail
      refine N1.out.mono ?_;rintro e w1 ⟨rfl,hb1⟩;have K2:=K1.out.below hb1;have BA:=bA0 w1 (tkO k X nn pp);have NA:=heap_alloc_new w1 (tkO k X nn pp);have K3:=aA (K2.below BA);obtain ⟨⟨x0,x1,x2,x3⟩, -⟩:=aL NA;clear hb1 K2 BA N1 K1 NA;go_upto_region 5 with fail
      generalize w1.alloc (tkO k X nn pp)=W1 at *;go_cut [] (fun wc=>Hid (OCW ts rb a c w acc wa wc' qs (bT wb 2 s) wc))
      case first =>
       have CM:=aA (fun so=>gS ts rb a c s so 2 (by decide) W1 K3.out.r);cases hk1:(k == 1) with
       | true =>
         have q1:(k == 1)=true:=hk1;have hz:(X.toList == (wK acc.length).toList)=wb:=by rw [HWT.out,hk1,Bool.true_and]
         clear hk1;go_wp2_with fail
         refine (CM.out wb).mono ?_;rintro e w2 ⟨rfl,P,k5⟩;have K4:=aA (K3.out.step P k5);clear P k5;go_wp2_with fail
         go_meet;case rel=>exact K4
       | false =>
         have q1:(k == 1)=false:=hk1;have hz:wb=false:=by rw [HWT.out,hk1,Bool.false_and]
         subst hz;clear hk1;go_wp2_with fail
         refine (CM.out false).mono ?_;rintro e w2 ⟨rfl,P,k5⟩;have K4:=aA (K3.out.step P k5);clear P k5;go_wp2_with fail
         go_meet;case rel=>exact K4
      case rest =>
       have K4:=hcut;clear x0 x1 x2 x3 K3 hcut;obtain ⟨z4,hz4⟩:∃ z,decide (acc.length<4)=z:=⟨_,rfl⟩;have hz5:decide ((acc.length:Int)<4)=z4:=by rw [<- hz4];exact decide_eq_decide.2 (by omega)
       have HS3:=aA (show goR (bT z4 4 (bT wb 2 s))=oJ ts acc.length s by unfold oJ;rw [HWB.out,hz4]);have CM:=aA (gS ts rb a c (bT wb 2 s) z4 4 (by decide) wc K4.out.r);go_wp2_with fail
       refine CM.out.mono ?_;rintro e w2 ⟨rfl,P,k5⟩;have K5:=aA (K4.out.step P k5);have CS:=aA (jY ts rb a c (bT z4 4 (bT wb 2 s)) (fun _=>by rw [jC,jC];exact HLT.out) w2 P);clear P k5 CM K4 hz4 hz5;go_wp2_with fail
       refine CS.out.mono ?_;rintro e w3 ⟨rfl,P,k5⟩;rw [HS3.out] at P;have K6:=aA (K5.out.step P k5);have CO:=aA (JW ts hL hO rb a c (oJ ts acc.length s) w3 P);clear P k5 CS K5;have HCS:=aA (fun d hd=>Gt (d:=d) HB.out HLT.out H44.out HE.out hd);obtain ⟨⟨cd,s5⟩,hds⟩:∃ q:CD×RS,bV ts (oJ ts acc.length s)=q:=⟨_,rfl⟩;have HF:=aA (fun h:s5.bad=0=>Kg (L:=ts) (n:=acc.length) (s:=s) (by rw [hds];exact h));rw [hds] at CO HCS;clear hds;go_wp2_with fail
       refine CO.out.mono ?_;rintro e v1 ⟨d,a1,c1,a2,c2,rfl,hp,hk,h1,h2,hd⟩;have BU:=bA0 v1 (.cells #[.string d.op,.string d.a.op,.string d.a.nm,.int .i64 d.a.n,.slice a1 d.a.ks.len c1,.string d.b.op,.string d.b.nm,.int .i64 d.b.n,.slice a2 d.b.ks.len c2] 144);have K7:=K6.out.step hp hk;have K8:=aA (K7.below BU);have R1:=aA ((aN.imp (G:=fun b=>w3.heap.size<=b) h1 (fun b _ hb=>K6.out.fresh hb)).kept BU);have R2:=aA ((aN.imp (G:=fun b=>w3.heap.size<=b) h2 (fun b _ hb=>K6.out.fresh hb)).kept BU);have HE2:=aA (HCS.out d hd);have und:=Tryz.underlying68;obtain ⟨i,zv,hi,hz0,hz1,hz2,hz3⟩:=Jt;have OWN:=aA (show (v1.alloc (.cells #[.string d.op,.string d.a.op,.string d.a.nm,.int .i64 d.a.n,.slice a1 d.a.ks.len c1,.string d.b.op,.string d.b.nm,.int .i64 d.b.n,.slice a2 d.b.ks.len c2] 144)).ownsRow w.heap.size 144 9 (.slice wa acc.length wc') acc.length (cdL acc qs) from K8.out.own);have NEW:=aA (IY v1 d ⟨a1,c1,a2,c2⟩);have ONE:=aA (fun u (hu:u∈iK d ⟨a1,c1,a2,c2⟩)=>Cs [d] [⟨a1,c1,a2,c2⟩] u (by simpa [cdL] using hu));have HBS:=aA (show w.heap.size<=(v1.alloc (.cells #[.string d.op,.string d.a.op,.string d.a.nm,.int .i64 d.a.n,.slice a1 d.a.ks.len c1,.string d.b.op,.string d.b.nm,.int .i64 d.b.n,.slice a2 d.b.ks.len c2] 144)).heap.size from K8.out.k.size);clear hp hk h1 h2 hd BU K7 CO K6 HCS
       go_upto_region 9 with (first
        | (at_builtin
           refine aQ rfl _ _ 68 rfl (base:=w.heap.size) und hi hz0 hz1 hz2 hz3 (by decide) (.slice wa acc.length wc') acc.length 1 1 ⟨v1.heap.size,0,none⟩ (cdL acc qs) (iK d ⟨a1,c1,a2,c2⟩) rfl rfl OWN.out rfl NEW.out ONE.out (by unfold maxLen;omega) (by omega) HBS.out ?_;intro v4 w4 ho hg hn;obtain ⟨a',c',hv⟩:=gM ho;subst hv;have KA:=(aD.refl (fun b=>(Value.slice wa acc.length wc').ownBlock=some b) _).grown hg (fun k hk=>.inl hk);have K11:=aA (K8.out.push KA ho hn R1.out R2.out);clear ho hg hn KA K8 R1 R2 OWN NEW ONE HBS)
        | fail)
       have l1:(acc++[d]).length=acc.length+1:=by simp
       go_wp2_with fail
       go_roundw
       case rel =>
        refine ⟨acc++[d],a',c',qs++[⟨a1,c1,a2,c2⟩],s5,_,by rw [l1],by rw [l1];unfold wK;rw [if_neg (by omega)],rfl,by omega,aA (fun h=>by rw [l1];exact HF.out h),HE2,K11⟩
       case measure=>simp only [Rn];omega
    · have a1:¬ (p:Int)<(ts.length:Int):=by omega
      have a2:decide (p<ts.length)=false:=decide_eq_false hlt
      have HX:=aA (show R=.ok acc by
       have:=HE.out;obtain ⟨f,hf⟩:∃ f,6-acc.length=f+1:=⟨5-acc.length,by omega⟩;rw [hf,eY,if_neg (not_not_intro hb),if_pos (show ts.length<=s.pos by omega)] at this;exact this.symm)
      have HB:=aA hb;clear hat hp hb;go_wp2_with (go_quiet (fail))
      go_ret;refine ⟨acc,wa,wc',qs,s,rfl,HK.out.drewN _,?_⟩;rw [HX.out];exact ⟨HB.out,rfl⟩
  · have q:((s.bad:Int) == 0)=false:=beq_eq_false_iff_ne.2 hb
    have HX:=aA (show R=.bad s.whr s.bad by
     have:=HE.out;obtain ⟨f,hf⟩:∃ f,6-acc.length=f+1:=⟨5-acc.length,by omega⟩;rw [hf,fW hb] at this;exact this.symm)
    have HB:=aA hb;clear hb;go_wp2_with (go_quiet (fail))
    go_ret;refine ⟨acc,wa,wc',qs,s,rfl,HK.out.drewN _,?_⟩;rw [HX.out];exact ⟨HB.out,rZ HB.out,rfl⟩
theorem Gg {W:World} {B:Nat} {x:AG} {p:PA} (h:W.heap[B]? = some (agP x p)) (t:TN) (ad:Option Addr) (cc:Nat):(putE W B t ad cc).heap[B]? = some (agP { x with e:=t } { p with ea:=ad,ec:=cc }):=by
 have h0:=heap_setCell_same (W) B 2 _ 70 (.string t.op) h;have g0:((W).setCell ⟨B,2,none⟩ (.string t.op)).heap[B]? = some (.cells #[.string x.fn,.int .i64 x.k,.string t.op,.string x.e.nm,.int .i64 x.e.n,.slice p.ea x.e.ks.len p.ec,.string x.g.op,.string x.g.nm,.int .i64 x.g.n,.slice p.ga x.g.ks.len p.gc,.slice p.wa x.wh.length p.wc] 70 (0,0)):=by simpa using h0
 have h1:=heap_setCell_same ((W).setCell ⟨B,2,none⟩ (.string t.op)) B 3 _ 70 (.string t.nm) g0;have g1:(((W).setCell ⟨B,2,none⟩ (.string t.op)).setCell ⟨B,3,none⟩ (.string t.nm)).heap[B]? = some (.cells #[.string x.fn,.int .i64 x.k,.string t.op,.string t.nm,.int .i64 x.e.n,.slice p.ea x.e.ks.len p.ec,.string x.g.op,.string x.g.nm,.int .i64 x.g.n,.slice p.ga x.g.ks.len p.gc,.slice p.wa x.wh.length p.wc] 70 (0,0)):=by simpa using h1
 have h2:=heap_setCell_same (((W).setCell ⟨B,2,none⟩ (.string t.op)).setCell ⟨B,3,none⟩ (.string t.nm)) B 4 _ 70 (.int .i64 t.n) g1;have g2:((((W).setCell ⟨B,2,none⟩ (.string t.op)).setCell ⟨B,3,none⟩ (.string t.nm)).setCell ⟨B,4,none⟩ (.int .i64 t.n)).heap[B]? = some (.cells #[.string x.fn,.int .i64 x.k,.string t.op,.string t.nm,.int .i64 t.n,.slice p.ea x.e.ks.len p.ec,.string x.g.op,.string x.g.nm,.int .i64 x.g.n,.slice p.ga x.g.ks.len p.gc,.slice p.wa x.wh.length p.wc] 70 (0,0)):=by simpa using h2
 have h3:=heap_setCell_same ((((W).setCell ⟨B,2,none⟩ (.string t.op)).setCell ⟨B,3,none⟩ (.string t.nm)).setCell ⟨B,4,none⟩ (.int .i64 t.n)) B 5 _ 70 (.slice ad t.ks.len cc) g2;have g3:(((((W).setCell ⟨B,2,none⟩ (.string t.op)).setCell ⟨B,3,none⟩ (.string t.nm)).setCell ⟨B,4,none⟩ (.int .i64 t.n)).setCell ⟨B,5,none⟩ (.slice ad t.ks.len cc)).heap[B]? = some (.cells #[.string x.fn,.int .i64 x.k,.string t.op,.string t.nm,.int .i64 t.n,.slice ad t.ks.len cc,.string x.g.op,.string x.g.nm,.int .i64 x.g.n,.slice p.ga x.g.ks.len p.gc,.slice p.wa x.wh.length p.wc] 70 (0,0)):=by simpa using h3
 exact g3
theorem Gf {W:World} {B:Nat} {x:AG} {p:PA} (h:W.heap[B]? = some (agP x p)) (t:TN) (ad:Option Addr) (cc:Nat):(putG W B t ad cc).heap[B]? = some (agP { x with g:=t } { p with ga:=ad,gc:=cc }):=by
 have h0:=heap_setCell_same (W) B 6 _ 70 (.string t.op) h;have g0:((W).setCell ⟨B,6,none⟩ (.string t.op)).heap[B]? = some (.cells #[.string x.fn,.int .i64 x.k,.string x.e.op,.string x.e.nm,.int .i64 x.e.n,.slice p.ea x.e.ks.len p.ec,.string t.op,.string x.g.nm,.int .i64 x.g.n,.slice p.ga x.g.ks.len p.gc,.slice p.wa x.wh.length p.wc] 70 (0,0)):=by simpa using h0
 have h1:=heap_setCell_same ((W).setCell ⟨B,6,none⟩ (.string t.op)) B 7 _ 70 (.string t.nm) g0;have g1:(((W).setCell ⟨B,6,none⟩ (.string t.op)).setCell ⟨B,7,none⟩ (.string t.nm)).heap[B]? = some (.cells #[.string x.fn,.int .i64 x.k,.string x.e.op,.string x.e.nm,.int .i64 x.e.n,.slice p.ea x.e.ks.len p.ec,.string t.op,.string t.nm,.int .i64 x.g.n,.slice p.ga x.g.ks.len p.gc,.slice p.wa x.wh.length p.wc] 70 (0,0)):=by simpa using h1
 have h2:=heap_setCell_same (((W).setCell ⟨B,6,none⟩ (.string t.op)).setCell ⟨B,7,none⟩ (.string t.nm)) B 8 _ 70 (.int .i64 t.n) g1;have g2:((((W).setCell ⟨B,6,none⟩ (.string t.op)).setCell ⟨B,7,none⟩ (.string t.nm)).setCell ⟨B,8,none⟩ (.int .i64 t.n)).heap[B]? = some (.cells #[.string x.fn,.int .i64 x.k,.string x.e.op,.string x.e.nm,.int .i64 x.e.n,.slice p.ea x.e.ks.len p.ec,.string t.op,.string t.nm,.int .i64 t.n,.slice p.ga x.g.ks.len p.gc,.slice p.wa x.wh.length p.wc] 70 (0,0)):=by simpa using h2
 have h3:=heap_setCell_same ((((W).setCell ⟨B,6,none⟩ (.string t.op)).setCell ⟨B,7,none⟩ (.string t.nm)).setCell ⟨B,8,none⟩ (.int .i64 t.n)) B 9 _ 70 (.slice ad t.ks.len cc) g2;have g3:(((((W).setCell ⟨B,6,none⟩ (.string t.op)).setCell ⟨B,7,none⟩ (.string t.nm)).setCell ⟨B,8,none⟩ (.int .i64 t.n)).setCell ⟨B,9,none⟩ (.slice ad t.ks.len cc)).heap[B]? = some (.cells #[.string x.fn,.int .i64 x.k,.string x.e.op,.string x.e.nm,.int .i64 x.e.n,.slice p.ea x.e.ks.len p.ec,.string t.op,.string t.nm,.int .i64 t.n,.slice ad t.ks.len cc,.slice p.wa x.wh.length p.wc] 70 (0,0)):=by simpa using h3
 exact g3
theorem Ge {W:World} {B:Nat} {x:AG} {p:PA} (h:W.heap[B]? = some (agP x p)) (k:Int):(W.setCell ⟨B,1,none⟩ (.int .i64 k)).heap[B]? = some (agP { x with k:=k } p):=by
 have h0:=heap_setCell_same W B 1 _ 70 (.int .i64 k) h;simpa using h0
structure AQ (ts:List Tk) (rb ab:Nat) (a:Option Addr) (c:Nat) (w:World) (x:AG) (p:PA) (s:RS) (V:World):Prop where
 r:PS ts rb a c s V
 n:V.heap[ab]? = some (agP x p)
 k:aD (fun b=>b=rb\/b=ab) w V
 e:a8 w.heap.size V p.ea x.e.ks
 g:a8 w.heap.size V p.ga x.g.ks
 wa:p.wa=none
 wc:p.wc=0
 h:rb<ab
 z:ab<w.heap.size
section
variable {ts : List Tk} {rb ab : Nat} {a : Option Addr} {c : Nat} {w V V' : World} {x : AG} {p : PA} {s s' : RS}
theorem AQ.step (h:AQ ts rb ab a c w x p s V) (hp:PS ts rb a c s' V') (hk:aD (· = rb) V V'):AQ ts rb ab a c w x p s' V':=by
 have h1:=h.h;have h2:=h.z;exact ⟨hp,hk.heap h.n (by omega),h.k.trans hk (fun i hi _=>.inl hi),h.e.keptS hk (fun k hk=>by omega),h.g.keptS hk (fun k hk=>by omega),h.wa,h.wc,h1,h2⟩
theorem AQ.below (h:AQ ts rb ab a c w x p s V) (hb:Below V.heap.size V V'):AQ ts rb ab a c w x p s V':=h.step (h.r.below hb) (aE hb _)
theorem AQ.setK (h:AQ ts rb ab a c w x p s V) (k:Int):AQ ts rb ab a c w { x with k:=k } p s (V.setCell ⟨ab,1,none⟩ (.int .i64 k)):=by
 have h1:=h.h;have h2:=h.z;have hk:=(aD.refl (· = ab) V).setCell (p:=⟨ab,1,none⟩) (.inl rfl) (.int .i64 k);exact ⟨h.r.kept hk (fun k hk=>by omega),Ge h.n k,h.k.trans hk (fun i hi _=>.inr hi),h.e.keptS hk (fun k hk=>by omega),h.g.keptS hk (fun k hk=>by omega),h.wa,h.wc,h1,h2⟩
theorem AQ.putE (h:AQ ts rb ab a c w x p s V) {t:TN} {ad:Option Addr} {cc:Nat} (hr:a8 w.heap.size V ad t.ks):AQ ts rb ab a c w { x with e:=t } { p with ea:=ad,ec:=cc } s (putE V ab t ad cc):=by
 have h1:=h.h;have h2:=h.z;have hk:=f8 V ab t ad cc;exact ⟨h.r.kept hk (fun k hk=>by omega),Gg h.n t ad cc,h.k.trans hk (fun i hi _=>.inr hi),hr.keptS hk (fun k hk=>by omega),h.g.keptS hk (fun k hk=>by omega),h.wa,h.wc,h1,h2⟩
theorem AQ.putG (h:AQ ts rb ab a c w x p s V) {t:TN} {ad:Option Addr} {cc:Nat} (hr:a8 w.heap.size V ad t.ks):AQ ts rb ab a c w { x with g:=t } { p with ga:=ad,gc:=cc } s (putG V ab t ad cc):=by
 have h1:=h.h;have h2:=h.z;have hk:=AX V ab t ad cc;exact ⟨h.r.kept hk (fun k hk=>by omega),Gf h.n t ad cc,h.k.trans hk (fun i hi _=>.inr hi),h.e.keptS hk (fun k hk=>by omega),hr.keptS hk (fun k hk=>by omega),h.wa,h.wc,h1,h2⟩
theorem AQ.box (h:AQ ts rb ab a c w x p s V) {B:Nat} {o:Obj} (hB:V.heap[B]? = some o) (hlo:w.heap.size<=B) {S:Nat->Prop} (hk:aD S V V') (hS:∀ k,S k->k=rb\/k=ab):V'.heap[B]? = some o:=by
 have h1:=h.h;have h2:=h.z;exact hk.heap hB (fun hs=>by rcases hS B hs with e | e <;> omega)
end
theorem QT {ts:List Tk} {rb ab:Nat} {a:Option Addr} {c:Nat} {w:World} {s:RS} {fn:ByteArray} (h:PS ts rb a c s w) (hn:w.heap[ab]? = some (agP ⟨fn,0,aC,aC,[]⟩ aG)) (hlt:rb<ab):AQ ts rb ab a c w ⟨fn,0,aC,aC,[]⟩ aG s w :=
 ⟨h,hn,aD.refl _ _,.inl rfl,.inl rfl,rfl,rfl,hlt,aK hn⟩
theorem Ka (ts:List Tk) (hL:∀ t∈ts,cK t) (rb ab:Nat) (a:Option Addr) (c:Nat) (s:RS) (fn:ByteArray) (w:World) (h:PS ts rb a c s w) (hn:w.heap[ab]? = some (agP ⟨fn,0,aC,aC,[]⟩ aG)) (hlt:rb<ab) :
 Calls Tryz.prog 179 #[.pointer (some ⟨rb,0,none⟩),.pointer (some ⟨ab,0,none⟩)] w fun e w'=>e=.returned (.tuple #[]) /\
  ∃ p,AQ ts rb ab a c w ⟨fn,if kP fn.data.toList=true then (bK ts (atR s)).num else 0,(r8 ts fn.data.toList (rB ts fn.data.toList s)).1,(uP ts fn.data.toList (r8 ts fn.data.toList (rB ts fn.data.toList s)).2).1,[]⟩ p (jN ts fn.data.toList s) w':=by
 have Q0:=aA (QT h hn hlt);have CP:=aA (mE fn w);unfold jN;obtain ⟨F,hF⟩:∃ F,fn.data.toList=F:=⟨_,rfl⟩;rw [hF] at CP |-
 unfold ptV at CP;obtain ⟨kk,hk⟩:∃ b,kP F=b:=⟨_,rfl⟩;obtain ⟨ee,he⟩:∃ b,eP F=b:=⟨_,rfl⟩;obtain ⟨bb,hb⟩:∃ b,bP F=b:=⟨_,rfl⟩;obtain ⟨ff,hf⟩:∃ b,dX F=b:=⟨_,rfl⟩;rw [hk,he,hb,hf] at CP;have EK:∀ u,rB ts F u=if kk=true then aS ts [44] (sG ts u) else u:=fun u=>by unfold rB;rw [hk]
 have EE:∀ u,r8 ts F u=if ee=true then aZ ts u else (aC,u):=fun u=>by unfold r8;rw [he]
 have EB:∀ u,uP ts F u=if bb=true then aZ ts (aS ts [44] u) else (aC,u):=fun u=>by unfold uP;rw [hb]
 rw [hk];obtain ⟨s1,hs1⟩:∃ u,rB ts F s=u:=⟨_,rfl⟩;obtain ⟨t1,s2,hs2⟩:∃ t u,r8 ts F s1=(t,u):=⟨_,_,rfl⟩;obtain ⟨t2,s3,hs3⟩:∃ t u,uP ts F s2=(t,u):=⟨_,_,rfl⟩;rw [hs1,hs2];simp only;rw [hs3];simp only;rw [EK] at hs1;rw [EE] at hs2;rw [EB] at hs3;obtain ⟨kn,hkn⟩:∃ n,(if kk=true then (bK ts (atR s)).num else 0)=n:=⟨_,rfl⟩;rw [hkn];have HS1:=aA hs1;have HS2:=aA hs2;have HS3:=aA hs3;have HKN:=aA hkn;clear EK EE EB hs1 hs2 hs3 hkn hk he hb hf hF h hn;have hal:=Q0.out.z;obtain ⟨m0,m1,m2,m3,m4,m5,m6,m7,m8,m9,m10⟩:=aF Q0.out.n;go_enter Tryz.func179,Tryz.ntmps179
 go_wp2_with fail
 refine CP.out.mono ?_;rintro e w1 ⟨rfl,hb1⟩;have Q1:=Q0.out.below hb1;have BA:=bA0 w1 (ptO kk ee bb);have Q2:=aA (Q1.below BA);have NB:=heap_alloc_new w1 (ptO kk ee bb);have hlo:w.heap.size<=w1.heap.size:=hb1.size;clear hb1 Q1 BA CP Q0 m0 m1 m2 m3 m4 m5 m6 m7 m8 m9 m10;go_upto_region 1 with fail
 generalize w1.alloc (ptO kk ee bb)=W at *;generalize w1.heap.size=B at *;have HN:=aA NB;obtain ⟨⟨y0,y1,y2⟩, -⟩:=dV NB;clear NB;go_upto_if 15 with fail
 go_cut [] (fun wc=>∃ p,Hid (AQ ts rb ab a c w ⟨fn,kn,aC,aC,[]⟩ p s1 wc)/\Hid (wc.heap[B]? = some (ptO kk ee bb)))
 case first =>
  cases kk with
  | true =>
    have CK:=aA (QI ts rb a c s W Q2.out.r);have HE:(bK ts (atR s)).num=kn:=HKN.out;rw [HE] at CK;go_wp2_with fail
    refine CK.out.mono ?_;rintro e w2 ⟨rfl,hp,hk⟩;have N3:=Q2.out.box HN.out hlo hk (fun k h=>.inl h);have Q3:=(Q2.out.step hp hk).setK kn;have Q4:=aA Q3;have KS:=(aD.refl (· = ab) w2).setCell (p:=⟨ab,1,none⟩) (.inl rfl) (.int .i64 kn);have N4:=aA ((Q2.out.step hp hk).box (V:=w2) (V':=w2.setCell ⟨ab,1,none⟩ (.int .i64 kn)) N3 hlo KS (fun k h=>.inr h));obtain ⟨m0,m1,m2,m3,m4,m5,m6,m7,m8,m9,m10⟩:=aF (Q2.out.step hp hk).n;obtain ⟨z0,z1,z2,z3,z4,z5,z6,z7,z8,z9,z10⟩:=bO (Q2.out.step hp hk).n;clear hp hk N3 Q3 KS CK;go_upto_region 3 with fail
    clear m0 m1 m2 m3 m4 m5 m6 m7 m8 m9 m10 z0 z1 z2 z3 z4 z5 z6 z7 z8 z9 z10;obtain ⟨V,hV⟩:∃ V,w2.setCell ⟨ab,1,none⟩ (.int .i64 kn)=V:=⟨_,rfl⟩;rw [hV] at Q4 N4 |-
    clear hV;have CS:=aA (pS ts rb a c (sG ts s) ⟨#[44]⟩ V Q4.out.r);go_wp2_with fail
    refine CS.out.mono ?_;rintro e w3 ⟨rfl,hp,hk⟩;have N5:=aA (Q4.out.box N4.out hlo hk (fun k h=>.inl h));have Q5:=aA (Q4.out.step hp hk);clear hp hk CS;go_wp2_with fail
    go_meet;case rel=>exact ⟨_,by have:=Q5;rw [<- HS1.out];exact this,N5⟩
  | false =>
    have HE:(0:Int)=kn:=HKN.out;have HZ:s=s1:=HS1.out;subst HE;subst HZ;go_wp2_with fail
    go_meet;case rel=>exact ⟨_,Q2,HN⟩
 case rest =>
  obtain ⟨p,Q3,N3⟩:=hcut;clear Q2 HN y0 y1 y2 HKN HS1;obtain ⟨⟨y0,y1,y2⟩, -⟩:=dV N3.out;go_upto_if 24 with fail
  go_cut [] (fun wc=>∃ p,Hid (AQ ts rb ab a c w ⟨fn,kn,t1,aC,[]⟩ p s2 wc)/\Hid (wc.heap[B]? = some (ptO kk ee bb)))
  case first =>
   cases ee with
   | true =>
     have CE:=aA (qD ts hL rb a c s1 wc Q3.out.r);have HE:aZ ts s1=(t1,s2):=HS2.out;rw [HE] at CE;go_wp2_with fail
     refine CE.out.mono ?_;rintro e w2 ⟨ad,cc,rfl,hp,hk,hr⟩;have N4:=Q3.out.box N3.out hlo hk (fun k h=>.inl h);have Q4:=Q3.out.step hp hk;have hr2:a8 w.heap.size w2 ad t1.ks:=aN.imp hr (fun b _ hb=>Nat.le_trans Q3.out.k.size hb);have Q5:=aA (Q4.putE (cc:=cc) hr2);have N5:=aA (Q4.box N4 hlo (f8 w2 ab t1 ad cc) (fun k h=>.inr h));obtain ⟨m0,m1,m2,m3,m4,m5,m6,m7,m8,m9,m10⟩:=aF Q4.n;obtain ⟨z0,z1,z2,z3,z4,z5,z6,z7,z8,z9,z10⟩:=bO Q4.n;clear hp hk hr hr2 N4 Q4 CE;go_wp2_with fail
     go_meet;case rel=>exact ⟨_,Q5,N5⟩
   | false =>
     have HE:(aC,s1)=(t1,s2):=HS2.out;cases HE;go_wp2_with fail
     go_meet;case rel=>exact ⟨_,Q3,N3⟩
  case rest =>
   obtain ⟨p,Q4,N4⟩:=hcut;clear Q3 N3 y0 y1 y2 HS2;obtain ⟨⟨y0,y1,y2⟩, -⟩:=dV N4.out;cases bb with
   | true =>
     have CS:=aA (pS ts rb a c s2 ⟨#[44]⟩ wc Q4.out.r);go_wp2_with fail
     refine CS.out.mono ?_;rintro e w3 ⟨rfl,hp,hk⟩;have Q5:=aA (Q4.out.step hp hk);clear hp hk CS Q4 N4;have CE:=aA (qD ts hL rb a c _ w3 Q5.out.r);have HE:aZ ts (aS ts [44] s2)=(t2,s3):=HS3.out;rw [HE] at CE;go_wp2_with fail
     refine CE.out.mono ?_;rintro e w4 ⟨ad,cc,rfl,hp,hk,hr⟩;have Q6:=Q5.out.step hp hk;have hr2:a8 w.heap.size w4 ad t2.ks:=aN.imp hr (fun b _ hb=>Nat.le_trans Q5.out.k.size hb);have Q7:=aA (Q6.putG (cc:=cc) hr2);obtain ⟨m0,m1,m2,m3,m4,m5,m6,m7,m8,m9,m10⟩:=aF Q6.n;obtain ⟨z0,z1,z2,z3,z4,z5,z6,z7,z8,z9,z10⟩:=bO Q6.n;clear hp hk hr hr2 Q6 CE;go_wp2_with fail
     go_end0
     exact ⟨rfl,_,Q7.out⟩
   | false =>
     have HE:(aC,s2)=(t2,s3):=HS3.out;cases HE;go_wp2_with fail
     go_end0
     exact ⟨rfl,_,Q4.out⟩
theorem DC {ts:List Tk} {rb:Nat} {a:Option Addr} {c:Nat} {w V:World} {acc:List CD} {wa:Option Addr} {wc:Nat} {qs:List QC} {s:RS} (h:OCW ts rb a c w acc wa wc qs s V):i1 (fun b=>w.heap.size<=b) V wa acc :=
 xE h.own h.ql (h.kd.imp (fun b _ hg=>hg.1)) (fun b hb=>(h.own.lt b (by rw [hb];rfl)).1)
def RP (ts:List Tk) (rb:Nat) (a:Option Addr) (c:Nat) (R:oD) (w:World) (e:Ending) (w':World):Prop :=
 ∃ (x:AG) (p:PA) (pos:Nat) (er:Int),e=.returned (agV x p)/\PR ts rb a c pos er w'/\aD (· = rb) w w'/\(match R with | .bad q f=>¬ f=0/\pos=q/\er=f | .ok y=>er=0/\x=y/\bC (fun b=>w.heap.size<=b) w' x p)
theorem Ju {W:World} {B:Nat} {x:AG} {p:PA} (h:W.heap[B]? = some (agP x p)) (l:List CD) (wa:Option Addr) (wc:Nat):(W.setCell ⟨B,10,none⟩ (.slice wa l.length wc)).heap[B]? = some (agP { x with wh:=l } { p with wa:=wa,wc:=wc }):=by
 have h0:=heap_setCell_same W B 10 _ 70 (.slice wa l.length wc) h;simpa using h0
theorem MX (ts:List Tk) (hL:∀ t∈ts,cK t) (hO:∀ t∈ts,EW t) (rb:Nat) (a:Option Addr) (c:Nat) (w:World) (h:PR ts rb a c 0 0 w) :
 Calls Tryz.prog 116 #[.pointer (some ⟨rb,0,none⟩)] w (RP ts rb a c (agS ts) w):=by
 have hrb:=h.lt;have B1:=bA0 w (agP aP aG);have NB:=heap_alloc_new w (agP aP aG);have hs0:(w.alloc (agP aP aG)).heap.size=w.heap.size+1:=World.size_alloc _ _;have P1:=aA (show PS ts rb a c ⟨0,0,0,0⟩ (w.alloc (agP aP aG)) from h.below B1);have K1:=aA (aE B1 (· = rb));generalize hW:w.alloc (agP aP aG)=W at *;have HW:=aA hW;have N0:=aA NB;have CN:=I1 ts rb a c ⟨0,0,0,0⟩ W P1.out;have CN2:Calls Tryz.prog 177 #[.pointer (some ⟨rb,0,none⟩)] W fun e w'=>e=.returned (.string ⟨(bK ts 0).text.toArray⟩)/\PS ts rb a c (gZ ts) w'/\aD (· = rb) W w':=CN
 obtain ⟨fn,hfn⟩:∃ fn:ByteArray,⟨(bK ts 0).text.toArray⟩=fn:=⟨_,rfl⟩;rw [hfn] at CN2;have HFN:=aA hfn;have C1:=aA CN2;clear h B1 NB hW CN CN2 hfn;go_enter Tryz.func116,Tryz.ntmps116
 go_upto_region 1 with fail
 rw [show w.alloc (.cells #[.string ⟨#[]⟩,.int .i64 0,.string ⟨#[]⟩,.string ⟨#[]⟩,.int .i64 0,.slice none 0 0,.string ⟨#[]⟩,.string ⟨#[]⟩,.int .i64 0,.slice none 0 0,.slice none 0 0] 70)=W from HW.out];go_wp2_with fail
 refine C1.out.mono ?_;rintro e w1 ⟨rfl,hp,hk⟩;have BA:=bA0 w1 (agP ⟨fn,0,aC,aC,[]⟩ aG);have NA:=heap_alloc_new w1 (agP ⟨fn,0,aC,aC,[]⟩ aG);have hz1:=hk.size;have P2:=aA (hp.below BA);have K2:=aA ((K1.out.trans hk (fun i hi _=>hi)).trans (aE BA (· = rb)) (fun i hi _=>hi));have N1:=aA ((BA.block w.heap.size (by omega)).trans (hk.heap N0.out (by omega)));clear hp hk BA C1 P1 K1 N0;go_upto_region 2 with fail
 rw [show w1.alloc (.cells #[.string fn,.int .i64 0,.string ⟨#[]⟩,.string ⟨#[]⟩,.int .i64 0,.slice none 0 0,.string ⟨#[]⟩,.string ⟨#[]⟩,.int .i64 0,.slice none 0 0,.slice none 0 0] 70)=w1.alloc (agP ⟨fn,0,aC,aC,[]⟩ aG) from rfl];generalize w1.alloc (agP ⟨fn,0,aC,aC,[]⟩ aG)=W1 at *;generalize w1.heap.size=ab at *;have hab:w.heap.size<ab:=by omega
 have NA1:=aA NA;clear NA hz1 hs0;have C2:=aA (pS ts rb a c (gZ ts) ⟨#[40]⟩ W1 P2.out);go_wp2_with fail
 refine C2.out.mono ?_;rintro e w2 ⟨rfl,hp,hk⟩;have P3:=aA (show PS ts rb a c (sZ ts) w2 from hp);have K3:=aA (K2.out.trans hk (fun i hi _=>hi));have N2:=aA (hk.heap N1.out (by omega));have NA2:=aA (hk.heap NA1.out (by omega));clear hp hk C2 P2 K2 N1 NA1;have C3:=aA (Ka ts hL rb ab a c (sZ ts) fn w2 P3.out NA2.out (by omega));go_wp2_with fail
 refine C3.out.mono ?_;rintro e w3 ⟨rfl,p,Q⟩;have hfl:fn.data.toList=(bK ts 0).text:=by rw [<- HFN.out]
 have Q2:=aA (show AQ ts rb ab a c w2 (Ay ts []) p (jN ts (bK ts 0).text (sZ ts)) w3 by
  rw [hfl, <- HFN.out] at Q;exact Q)
 have N3:=aA (Q.k.heap N2.out (by omega));clear Q hfl C3 NA2 N2;have C4:=aA (pS ts rb a c (jN ts (bK ts 0).text (sZ ts)) ⟨#[41]⟩ w3 Q2.out.r);go_wp2_with fail
 refine C4.out.mono ?_;rintro e w4 ⟨rfl,hp,hk⟩;have Q3:=aA (show AQ ts rb ab a c w2 (Ay ts []) p (oQ ts) w4 from Q2.out.step hp hk);have N4:=aA (hk.heap N3.out (by omega));clear hp hk C4 N3 Q2;have C5:=aA (Gv ts hL hO rb a c (oQ ts) w4 Q3.out.r (R:=eY ts 6 [] (oQ ts)) rfl);go_wp2_with fail
 refine C5.out.mono ?_;rintro e w5 ⟨acc,wa,wc,qs,s,rfl,CW5,hres⟩;have Q4:=aA (Q3.out.step CW5.r CW5.k);have RC:=aA (DC CW5);have N5:=aA (CW5.k.heap N4.out (by omega));have HR:=aA hres;have hz45:=CW5.k.size;have hz34:=Q3.out.k.size;clear CW5 C5 Q3 N4 hres;obtain ⟨m0,m1,m2,m3,m4,m5,m6,m7,m8,m9,m10⟩:=aF Q4.out.n;obtain ⟨z0,z1,z2,z3,z4,z5,z6,z7,z8,z9,z10⟩:=bO Q4.out.n;go_upto_region 6 with fail
 clear m0 m1 m2 m3 m4 m5 m6 m7 m8 m9 m10 z0 z1 z2 z3 z4 z5 z6 z7 z8 z9 z10;have KS:=(aD.refl (· = ab) w5).setCell (p:=⟨ab,10,none⟩) (.inl rfl) (.slice wa acc.length wc);have NW:=Ju Q4.out.n acc wa wc;have hl1:=Q4.out.z;have P6:=aA (Q4.out.r.kept KS (fun k hk=>by omega));have K6:=aA ((K3.out.trans Q4.out.k (fun i hi hlt=>by rcases hi with h | h <;> omega)).trans (KS.mono (T:=fun i=>w.heap.size<=i) (fun i hi _=>by omega)) (fun i hi hl=>by omega));have N6:=aA (KS.heap N5.out (by omega));have RE:=aA (Q4.out.e.keptS KS (fun k hk=>by omega));have RG:=aA (Q4.out.g.keptS KS (fun k hk=>by omega));have hz24:=Q4.out.k.size;have XP:=aA (show ∃ (x:AG) (q:PA),Ay ts acc=x/\{ p with wa:=wa,wc:=wc }=q from ⟨_,_,rfl,rfl⟩);obtain ⟨x,q,hx,hq⟩:=XP.out;have NW2:=aA (show (w5.setCell ⟨ab,10,none⟩ (.slice wa acc.length wc)).heap[ab]? = some (agP x q) by rw [<- hx, <- hq];exact NW);have RE2:=aA (show a8 w2.heap.size (w5.setCell ⟨ab,10,none⟩ (.slice wa acc.length wc)) q.ea x.e.ks by rw [<- hx, <- hq];exact RE.out);have RG2:=aA (show a8 w2.heap.size (w5.setCell ⟨ab,10,none⟩ (.slice wa acc.length wc)) q.ga x.g.ks by rw [<- hx, <- hq];exact RG.out);have RC2:=aA (show i1 (fun b=>w4.heap.size<=b) (w5.setCell ⟨ab,10,none⟩ (.slice wa acc.length wc)) q.wa x.wh by rw [<- hx, <- hq];exact RC.out.keptS KS (fun k hk=>by omega));have HX:=aA hx;have hz2w:=K3.out.size;clear hx hq XP NW RE RG RC KS Q4 K3 P3;obtain ⟨Y,hY⟩:∃ Y,w5.setCell ⟨ab,10,none⟩ (.slice wa acc.length wc)=Y:=⟨_,rfl⟩;rw [hY] at P6 K6 N6 NW2 RE2 RG2 RC2
 try rw [hY]
 clear hY;obtain ⟨m0,m1,m2,m3,m4,m5,m6,m7,m8,m9,m10⟩:=aF NW2.out;obtain ⟨b0,b1,b2,b3,b4,b5,b6,b7,b8,b9,b10⟩:=aF N6.out;obtain ⟨z0,z1,z2,z3,z4,z5,z6,z7,z8,z9,z10⟩:=bO N6.out;go_wp2_with fail
 have KP:=bR Y w.heap.size x q;obtain ⟨y0,y1,y2,y3,y4,y5,y6,y7,y8,y9,y10⟩:=aF (cJ (t:=70) N6.out x q)
 have P:RP ts rb a c (agS ts) w (.returned (agV x q)) (fL Y w.heap.size x q):=by
  refine ⟨x,q,atR s,s.bad,rfl,P6.out.kept KP (fun k hk=>by omega),K6.out.trans (KP.mono (T:=fun i=>w.heap.size<=i) (fun i hi _=>by omega)) (fun i hi hl=>by omega),?_⟩;have hr:=HR.out;unfold agS;cases hc:eY ts 6 [] (oQ ts) with
  | bad pq eq =>
    rw [hc] at hr;simp only at hr |-
    exact ⟨fun h=>hr.1 (hr.2.2.trans h),hr.2.1,hr.2.2⟩
  | ok l =>
    rw [hc] at hr;simp only at hr |-
    refine ⟨hr.1,?_,?_⟩
    · rw [<- hr.2];exact HX.out.symm
    · exact ⟨(RE2.out.keptS KP (fun k hk=>by omega)).imp (fun b _ hb=>by omega),(RG2.out.keptS KP (fun k hk=>by omega)).imp (fun b _ hb=>by omega),(RC2.out.keptS KP (fun k hk=>by omega)).imp (fun b _ hb=>by omega)⟩
 exact bodyPost_ret (v:=agV x q) (by simp [results,Tryz.results116,go_sem,y0,y1,y2,y3,y4,y5,y6,y7,y8,y9,y10]) rfl P
theorem JZ (s:ByteArray) (ts:List Tk) (a:Option Addr) (c p:Nat) (hp:p<=ts.length) (w:World) (hr:fI w a ts) :
 Calls Tryz.prog 117 #[.string s,.slice a ts.length c,.int .i64 p] w fun e w'=>e=.returned (.int .i64 ((eU s.size ts p:Nat):Int))/\w=w':=by
 by_cases hlt:p<ts.length
 · obtain ⟨b,off,ha, -,hc⟩:=hr.resolve_left (by intro e;rw [e] at hlt;simp at hlt)
   obtain ⟨-, -, -,p3⟩:=hc p hlt;subst ha;have e:eU s.size ts p=ts[p].place:=by unfold eU;rw [List.getElem?_eq_getElem hlt]
   rw [e];have a1:((p:Int) == (ts.length:Int))=false:=by rw [beq_eq_false_iff_ne];omega
   have a2:(p:Int)<(ts.length:Int):=by omega
   have a3:(0:Int)<=(p:Int):=by omega
   have a4:((p:Int)).toNat=p:=by omega
   clear hc;go_enter Tryz.func117,Tryz.ntmps117
   go_wp2_with fail
   go_ret;exact ⟨rfl,rfl⟩
 · have e:eU s.size ts p=s.size:=by unfold eU;rw [List.getElem?_eq_none (by omega)]
   rw [e];have a1:((p:Int) == (ts.length:Int))=true:=by rw [beq_iff_eq];omega
   clear hr;go_enter Tryz.func117,Tryz.ntmps117
   go_wp2_with fail
   go_ret;exact ⟨rfl,rfl⟩
theorem PR.drew {ts:List Tk} {rb:Nat} {a:Option Addr} {c p:Nat} {er:Int} {w:World} (h:PR ts rb a c p er w):PR ts rb a c p er w.drew:=h.drewN 1
theorem KV {ts:List Tk} {rb:Nat} {a:Option Addr} {c pos:Nat} {er:Int} {W:World} (h:PR ts rb a c pos er W) {B:Nat} (hB:B<rb) (ht:ts=[]\/∃ b off,a=some ⟨b,off,none⟩/\B<b) :
 (fL W B aP aG).drew.cell? ⟨rb,1,none⟩=some (.int .i64 (pos:Nat))/\(fL W B aP aG).drew.cell? ⟨rb,2,none⟩=some (.int .i64 er)/\fI (fL W B aP aG).drew a ts:=by
 have KP:=bR W B aP aG
 have P0:PR ts rb a c pos er (fL W B aP aG):=by
  refine ⟨KP.heap h.r (by omega),?_,h.p,h.n⟩;rcases h.t with h0 | ⟨b,off,rfl,hlt,hc⟩
  · exact .inl h0
  · rcases ht with h0 | ⟨b',off',e,hb⟩
    · exact .inl h0
    · cases e
      refine .inr ⟨b,off,rfl,hlt,fun j hj=>?_⟩;obtain ⟨c0,c1,c2,c3⟩:=hc j hj;exact ⟨KP.cell c0 (by show ¬ b=B;omega),KP.cell c1 (by show ¬ b=B;omega),KP.cell c2 (by show ¬ b=B;omega),KP.cell c3 (by show ¬ b=B;omega)⟩
 obtain ⟨⟨u0,u1,u2⟩, -⟩:=dV P0.r;exact ⟨qS u1,qS u2,P0.drew.reads⟩
theorem IF {W:World} {B:Nat} (h:W.heap[B]? = some (agP aP aG)):(fL W B aP aG).drew.heap[B]? = some (agP aP aG):=Bb (cJ (t:=70) h aP aG)
theorem NS {ts:List Tk} {rb:Nat} {a:Option Addr} {c pos:Nat} {er:Int} {w W:World} {s:ByteArray} (_h:PR ts rb a c pos er W) (hb:Below w.heap.size w W) :
 lS (agQ s.size ts (.bad pos er)) w (.returned (.tuple #[agV aP aG,.int .i64 ((eU s.size ts pos:Nat):Int),.int .i64 er])) (fL W w.heap.size aP aG).drew :=
 ⟨zM (hb.trans ((bR W w.heap.size aP aG).below (B:=w.heap.size) (fun k hk=>by omega) hb.size)),rfl⟩
theorem Qo (s0:ByteArray) (hm:s0.size<=281474976710656) (w:World) (hw:iG w) {p:Nat} {er:Int} (hL:gU s0.data.toList=.bad p er):Calls Tryz.prog 57 #[.string s0] w (lS (.bad p er) w):=by
 obtain ⟨-,qe⟩:=o9 hL;have B1:=bA0 w (agP aP aG);have NB:=heap_alloc_new w (agP aP aG);have hs0:(w.alloc (agP aP aG)).heap.size=w.heap.size+1:=World.size_alloc _ _;have HL:=aA (hw.step B1);generalize hW:w.alloc (agP aP aG)=W at *;have HW:=aA hW;have C:=aA (vH s0 hm W HL.out);rw [hL] at C;clear hW hw;go_enter Tryz.func57,Tryz.ntmps57
 go_upto_region 1 with fail
 rw [show w.alloc (.cells #[.string ⟨#[]⟩,.int .i64 0,.string ⟨#[]⟩,.string ⟨#[]⟩,.int .i64 0,.slice none 0 0,.string ⟨#[]⟩,.string ⟨#[]⟩,.int .i64 0,.slice none 0 0,.slice none 0 0] 70)=W from HW.out];go_wp2_with fail
 refine C.out.mono ?_;rintro e w1 ⟨hb,rfl⟩;have N1:=(hb.block w.heap.size (by omega)).trans NB;have hz:=hb.size;have B2:=aA (B1.trans (hb.mono (by omega)));obtain ⟨z0,z1,z2,z3,z4,z5,z6,z7,z8,z9,z10⟩:=bO N1;obtain ⟨b0,b1,b2,b3,b4,b5,b6,b7,b8,b9,b10⟩:=aF N1;have N2:=aA N1;clear hb N1 C HW;go_wp2_with fail
 have KP:=bR w1 w.heap.size aP aG;obtain ⟨y0,y1,y2,y3,y4,y5,y6,y7,y8,y9,y10⟩:=aF (cJ (t:=70) N2.out aP aG);dsimp only [fL,aP,aG,aC,F.len,List.length_nil] at y0 y1 y2 y3 y4 y5 y6 y7 y8 y9 y10;exact bodyPost_ret (v:=.tuple #[agV aP aG,.int .i64 (p:Nat),.int .i64 er]) (by simp [results,Tryz.results57,go_sem,y0,y1,y2,y3,y4,y5,y6,y7,y8,y9,y10,aP,aG,aC,F.len]) rfl ⟨B2.out.trans (KP.below (B:=w.heap.size) (fun k hk=>by omega) (by omega)),rfl⟩
theorem Qn (s0:ByteArray) (hm:s0.size<=281474976710656) (w:World) (hw:iG w) {ts:List Tk} (hL:gU s0.data.toList=.ok ts):Calls Tryz.prog 57 #[.string s0] w (lS (agQ s0.size ts (agL ts)) w):=by
 rw [QU];have hlen:=Ec hL;have B1:=bA0 w (agP aP aG);have NB:=heap_alloc_new w (agP aP aG);have hs0:(w.alloc (agP aP aG)).heap.size=w.heap.size+1:=World.size_alloc _ _;have HL:=aA (hw.step B1);generalize hW:w.alloc (agP aP aG)=W at *;have HW:=aA hW;have C:=aA (vH s0 hm W HL.out);rw [hL] at C;have HB1:=aA B1;have HNB:=aA NB;have HGT:=aA (qI hL);have HOT:=aA (Oy hL);obtain ⟨R,hR⟩:∃ R,agS ts=R:=⟨_,rfl⟩;rw [hR];have HRR:=aA hR;clear hW hw hR B1 NB HL hL;go_enter Tryz.func57,Tryz.ntmps57
 go_upto_region 1 with fail
 rw [show w.alloc (.cells #[.string ⟨#[]⟩,.int .i64 0,.string ⟨#[]⟩,.string ⟨#[]⟩,.int .i64 0,.slice none 0 0,.string ⟨#[]⟩,.string ⟨#[]⟩,.int .i64 0,.slice none 0 0,.slice none 0 0] 70)=W from HW.out];go_wp2_with fail
 refine C.out.mono ?_;rintro e w1 ⟨hb,a,c,rfl,ho⟩;have hz:=hb.size;have N1:=(hb.block w.heap.size (by omega)).trans HNB.out;have B2:=HB1.out.trans (hb.mono (by omega));have R1:=rP ho;have TK:=aA (Py (n:=w.heap.size) (m:=ts.length) (c:=c) R1 (fun q hq=>by have:=(ho.lt q hq).1;omega));have BA:=bA0 w1 (.cells #[.slice a ts.length c,.int .i64 0,.int .i64 0] 202);have NA:=heap_alloc_new w1 (.cells #[.slice a ts.length c,.int .i64 0,.int .i64 0] 202);have hs1:(w1.alloc (.cells #[.slice a ts.length c,.int .i64 0,.int .i64 0] 202)).heap.size=w1.heap.size+1:=World.size_alloc _ _
 have P1:=aA (show PR ts w1.heap.size a c 0 0 (w1.alloc (.cells #[.slice a ts.length c,.int .i64 0,.int .i64 0] 202)) from
  ⟨NA,(vZ R1).kept (aE BA (fun _=>False)) (fun _ h=>h.elim),Nat.zero_le _,by omega⟩)
 have N2:=aA ((BA.block w.heap.size (by omega)).trans N1);have B3:=aA (B2.trans (BA.mono (by omega)));clear hb N1 B2 R1 BA NA ho C HW HB1 HNB;go_upto_region 5 with fail
 generalize w1.alloc (.cells #[.slice a ts.length c,.int .i64 0,.int .i64 0] 202)=W1 at *;generalize w1.heap.size=rb at *;have CA:=aA (MX ts HGT.out HOT.out rb a c W1 P1.out);rw [HRR.out] at CA;go_wp2_with fail
 refine CA.out.mono ?_;rintro e w2 ⟨x,q,pos,er,rfl,P2,K2,hres⟩;have BA:=bA0 w2 (agP x q);have NA:=heap_alloc_new w2 (agP x q);have hs2:(w2.alloc (agP x q)).heap.size=w2.heap.size+1:=World.size_alloc _ _;have hz2:=K2.size;have P3:=aA (P2.below BA);have N3:=aA ((BA.block w.heap.size (by omega)).trans (K2.heap N2.out (by omega)));have B4:=aA ((B3.out.trans (K2.below (B:=w.heap.size) (fun k hk=>by omega) (by omega))).trans (BA.mono (by omega)));have HRE:=aA hres;have HBA:=aA BA;clear P2 K2 BA CA P1 N2 B3 hres;go_upto_region 6 with fail
 generalize w2.alloc (agP x q)=W2 at *;generalize hab:w2.heap.size=ab at *;have P4:=aA P3.out;obtain ⟨⟨c0,c1,c2⟩, -⟩:=dV P3.out.r;have HNA:=aA NA;clear P3 NA;have hh:=HRE.out;cases R with
 | bad pq eq =>
   simp only at hh;obtain ⟨hne,rfl,rfl⟩:=hh;have q1:((er:Int) != 0)=true:=by simpa using hne
   have RT:fI W2.drew a ts:=P4.out.drew.reads;have HPP:=aA P4.out.p;have cch:=KV P4.out (B:=w.heap.size) (by omega) TK.out;dsimp only [fL,aP,aG,aC,F.len,List.length_nil] at cch;have CCH:=aA cch;clear cch;have YY:=aA (IF (W:=W2) N3.out);have pf:=NS (s:=s0) (er:=er) P4.out B4.out;dsimp only [fL,aP,aG,aC,F.len,List.length_nil] at pf;have PF:=aA pf;clear pf;clear hne;go_upto_region 7 with fail
   obtain ⟨z0,z1,z2,z3,z4,z5,z6,z7,z8,z9,z10⟩:=bO N3.out;obtain ⟨b0,b1,b2,b3,b4,b5,b6,b7,b8,b9,b10⟩:=aF N3.out;dsimp only [aP,aG,aC,F.len,List.length_nil] at b0 b1 b2 b3 b4 b5 b6 b7 b8 b9 b10;refine wp_region_held_drew (S:=fun V=>V.cell? ⟨rb,1,none⟩=some (.int .i64 (pos:Nat))/\V.cell? ⟨rb,2,none⟩=some (.int .i64 er)/\fI V a ts) (by kernel_rfl) ⟨c1,c2,RT⟩ (fun hHeld=>?_);refine aB (i:=0) (d:=some 27) (v:=.agg #[.string ⟨#[]⟩,.int .i64 0,.string ⟨#[]⟩,.string ⟨#[]⟩,.int .i64 0,.slice none 0 0,.string ⟨#[]⟩,.string ⟨#[]⟩,.int .i64 0,.slice none 0 0,.slice none 0 0]) rfl rfl (by kernel_rfl) (by kernel_rfl) (by kernel_rfl) (fun _ _ _ h=>h) (Or.inl ⟨by rfl,by rintro w ⟨c1,c2,rt⟩;go_simp⟩) hHeld ?_;simp only [Act.put,Sf,Sg,Sh];refine aB (i:=1) (d:=some 28) (v:=.string s0) rfl rfl (by kernel_rfl) (by kernel_rfl) (by kernel_rfl) (fun _ _ _ h=>h) (Or.inl ⟨by rfl,by rintro w ⟨c1,c2,rt⟩;go_simp⟩) hHeld ?_;simp only [Act.put,Sf,Sg,Sh];refine aB (i:=2) (d:=some 29) (v:=.slice a ts.length c) rfl rfl (by kernel_rfl) (by kernel_rfl) (by kernel_rfl) (fun _ _ _ h=>h) (Or.inl ⟨by rfl,by rintro w ⟨c1,c2,rt⟩;go_simp⟩) hHeld ?_;simp only [Act.put,Sf,Sg,Sh];refine aB (i:=3) (d:=some 30) (v:=.pointer (some ⟨rb,1,none⟩)) rfl rfl (by kernel_rfl) (by kernel_rfl) (by kernel_rfl) (fun _ _ _ h=>h) (Or.inl ⟨by rfl,by rintro w ⟨c1,c2,rt⟩;go_simp⟩) hHeld ?_;simp only [Act.put,Sf,Sg,Sh];refine aB (i:=4) (d:=some 31) (v:=.int .i64 (pos:Nat)) rfl rfl (by kernel_rfl) (by kernel_rfl) (by kernel_rfl) (fun _ _ _ h=>h) (Or.inl ⟨by rfl,by rintro w ⟨c1,c2,rt⟩;go_simp⟩) hHeld ?_
   simp only [Act.put,Sf,Sg,Sh];refine aB (i:=6) (d:=some 33) (v:=.pointer (some ⟨rb,2,none⟩)) rfl rfl (by kernel_rfl) (by kernel_rfl) (by kernel_rfl) (fun _ _ _ h=>h) (Or.inl ⟨by rfl,by rintro w ⟨c1,c2,rt⟩;go_simp⟩) hHeld ?_;simp only [Act.put,Sf,Sg,Sh];refine aB (i:=7) (d:=some 34) (v:=.int .i64 er) rfl rfl (by kernel_rfl) (by kernel_rfl) (by kernel_rfl) (fun _ _ _ h=>h) (Or.inl ⟨by rfl,by rintro w ⟨c1,c2,rt⟩;go_simp⟩) hHeld ?_;simp only [Act.put,Sf,Sg,Sh];refine wpAnyH_ready (rs:=[5]) (by kernel_rfl) (by simp) ?_;refine AllReadyH.cons (o:=_) rfl (fun K hK=>?_) AllReadyH.nil;go_simp
   refine (JZ s0 ts a c pos HPP.out W2.drew RT).mono ?_;rintro e w5 ⟨rfl,rfl⟩;refine hK.out _ _ hHeld (fun hHeld2=>?_);try simp only [Act.put,Sf,Sg,Sh]
   clear hK K;have CC:=CCH.out;refine wpAnyH_ready (rs:=[8]) (by kernel_rfl) (by simp) ?_;refine AllReadyH.cons (o:=_) rfl (fun K hK=>?_) AllReadyH.nil;go_simp
   refine hK.out _ _ CC (fun hHeld3=>?_);try simp only [Act.put,Sf,Sg,Sh]
   clear hK K;refine aB (i:=9) (d:=some 3) (v:=.int .i64 ((eU s0.size ts pos:Nat):Int)) rfl rfl (by kernel_rfl) (by kernel_rfl) (by kernel_rfl) (fun _ _ _ h=>h) (Or.inl ⟨by rfl,by rintro w ⟨c1,c2,rt⟩;go_simp⟩) hHeld3 ?_;simp only [Act.put,Sf,Sg,Sh];refine aB (i:=10) (d:=some 4) (v:=.int .i64 er) rfl rfl (by kernel_rfl) (by kernel_rfl) (by kernel_rfl) (fun _ _ _ h=>h) (Or.inl ⟨by rfl,by rintro w ⟨c1,c2,rt⟩;go_simp⟩) hHeld3 ?_;simp only [Act.put,Sf,Sg,Sh];refine wpAnyH_done (by kernel_rfl) ?_ _;obtain ⟨y0,y1,y2,y3,y4,y5,y6,y7,y8,y9,y10⟩:=aF YY.out;dsimp only [fL,aP,aG,aC,F.len,List.length_nil] at y0 y1 y2 y3 y4 y5 y6 y7 y8 y9 y10;clear hHeld hHeld2 hHeld3 CC c0 c1 c2 RT z0 z1 z2 z3 z4 z5 z6 z7 z8 z9 z10 b0 b1 b2 b3 b4 b5 b6 b7 b8 b9 b10;go_wp2
   exact bodyPost_ret (v:=.tuple #[agV aP aG,.int .i64 ((eU s0.size ts pos:Nat):Int),.int .i64 er]) (by simp [results,Tryz.results57,go_sem,y0,y1,y2,y3,y4,y5,y6,y7,y8,y9,y10,aP,aG,aC,F.len]) rfl PF.out
 | ok y =>
   simp only at hh;obtain ⟨rfl,rfl,rd⟩:=hh;obtain ⟨m0,m1,m2,m3,m4,m5,m6,m7,m8,m9,m10⟩:=aF HNA.out;obtain ⟨z0,z1,z2,z3,z4,z5,z6,z7,z8,z9,z10⟩:=bO N3.out;obtain ⟨b0,b1,b2,b3,b4,b5,b6,b7,b8,b9,b10⟩:=aF N3.out;have RD:=aA (rd.kept (by rw [hab];exact HBA.out));have hlt:w.heap.size<ab:=by have:=hz2;omega
   clear rd;go_wp2_with fail
   have KP:=bR W2 w.heap.size x q;obtain ⟨y0,y1,y2,y3,y4,y5,y6,y7,y8,y9,y10⟩:=aF (cJ (t:=70) N3.out x q)
   have PF:=aA (show lS (agQ s0.size ts (.ok x)) w (.returned (.tuple #[agV x q,.int .i64 0,.int .i64 0])) (fL W2 w.heap.size x q) from
    ⟨B4.out.trans (KP.below (B:=w.heap.size) (fun k hk=>by omega) B4.out.size),q,rfl,(RD.out.keptS KP (fun k hk=>by omega)).imp (fun b _ hb=>by omega)⟩)
   exact bodyPost_ret (v:=.tuple #[agV x q,.int .i64 0,.int .i64 0]) (by simp [results,Tryz.results57,go_sem,y0,y1,y2,y3,y4,y5,y6,y7,y8,y9,y10]) rfl PF.out
theorem Ab (s0:ByteArray) (hm:s0.size<=281474976710656) (w:World) (hw:iG w):Calls Tryz.prog 57 #[.string s0] w (lS (agX s0.data.toList) w):=by
 have hl:s0.data.toList.length=s0.size:=by simp
 cases hL:gU s0.data.toList with
 | bad p er =>
   have e:agX s0.data.toList=.bad p er:=by unfold agX;rw [hL]
   rw [e];exact Qo s0 hm w hw hL
 | ok ts =>
   have e:agX s0.data.toList=agQ s0.size ts (agL ts):=by
    unfold agX agQ;rw [hL,hl];simp only;cases agL ts <;> rfl
   rw [e];exact Qn s0 hm w hw hL
end
end Go.Proofs.YtgfkjkokmcejbaaGreatDoor
