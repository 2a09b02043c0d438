/-
 No statement: what AggTextsCard needs, of the texts QParse, OPx, OKn1, OKn2.
-/
import Derived.Test.YtapcjnoaofmmiaaGreatDoorVT16
set_option maxHeartbeats 40000000
set_option maxRecDepth 100000
namespace Go.Proofs.YtapcjnoaofmmiaaGreatDoor
section
open Go.RowKit
def agQ (n:Nat) (L:List Tk):mA->mA
 | .bad p e=>.bad (eD n L p) e
 | .ok a=>.ok a
theorem nZ {X:World} {p:Addr} {v:Option Value} (h:X.cell? p=v):X.drew.cell? p=v:=h
theorem vZ {X:World} {B:Nat} {v:Option Obj} (h:X.heap[B]? = v):X.drew.heap[B]? = v:=h
theorem uI {B:Nat} {w w':World} (h:Below B w w'):Below B w w'.drew:=⟨h.os,h.tape,h.output,h.size,h.block⟩
section
variable {w:World} {ts:List Tk} {rb ab:Nat} {a:Option Addr} {c:Nat} {x:AG} {p:PA} {qs:List QC} {s:RS} {V:World}
theorem Kt (h:GW w ts rb ab a c x p qs s V) {n:Nat}:kD (.bad (eD n ts s.whr) s.bad) w (.returned (.tuple #[agV aN aI,.int .i64 ((eD n ts s.whr:Nat):Int),.int .i64 s.bad])) (dX V w.heap.size aN aI).drew:=by
 have KP:=bH V w.heap.size aN aI;have hb:=h.b.trans (KP.below (fun b hb=>by omega) (by have:=h.sz;omega));exact ⟨uI hb,rfl⟩
theorem GH (h:GW w ts rb ab a c x p qs s V):(dX V w.heap.size aN aI).drew.cell? ⟨rb,3,none⟩=some (.int .i64 s.bad)/\(dX V w.heap.size aN aI).drew.cell? ⟨rb,4,none⟩=some (.int .i64 s.whr):=by
 have KP:=bH V w.heap.size aN aI;obtain ⟨⟨c0,c1,c2,c3,c4⟩, -⟩:=h.r.r.cells;have hne:¬ rb=w.heap.size:=by have:=h.hr;omega
 exact ⟨nZ (KP.cell c3 hne),nZ (KP.cell c4 hne)⟩
theorem Ez (h:GW w ts rb ab a c x p qs s V):(dX V w.heap.size aN aI).drew.heap[w.heap.size]? = some (agO aN aI):=vZ (cB (t:=37) h.o aN aI)
theorem Lk (h:GW w ts rb ab a c x p qs s V):kD (.ok x) w (.returned (.tuple #[agV x p,.int .i64 0,.int .i64 0])) (dX V w.heap.size x p):=by
 have KP:=bH V w.heap.size x p;refine ⟨h.b.trans (KP.below (fun b hb=>by omega) (by have:=h.sz;omega)),p,rfl,?_⟩;have own:∀ b,p.wa=some ⟨b,0,none⟩->ab+1<=b:=fun b hb=>h.lo (b:=b) (by rw [hb];rfl)
 have e1:=h.hr;have e2:=h.ha;refine ⟨(h.e.keptS KP (fun k hk hg=>by have:=hg.1;omega)).imp (fun b _ hg=>by have:=hg.1;omega),(h.g.keptS KP (fun k hk hg=>by have:=hg.1;omega)).imp (fun b _ hg=>by have:=hg.1;omega),?_⟩;refine oU (dH (row:=some w.heap.size) h.own (KP.mono (fun i hi _=>by rw [hi])) (fun b hb he=>by have:=h.lo hb;have:=Option.some.inj he;omega)) h.ql ((h.kd.keptS KP (fun k hk hg=>by have:=hg.1;omega)).imp (fun b _ hg=>by have:=hg.1;omega)) (fun b hb=>by have:=own b hb;omega)
theorem GE (h:GW w ts rb (rb+1) a c aN aI [] ⟨0,0,0,0⟩ V) (fn:ByteArray) (hl:1<=ts.length):GW w ts rb (rb+1) a c ⟨fn,0,aD,aD,[]⟩ aI [] ⟨1,0,0,0⟩ ((V.setCell ⟨rb+1,0,none⟩ (.string fn)).setCell ⟨rb,1,none⟩ (.int .i64 1)):=by
 have KS:=(aE.refl (· = rb+1) V).setCell (p:=⟨rb+1,0,none⟩) (.inl rfl) (.string fn)
 have hn:(V.setCell ⟨rb+1,0,none⟩ (.string fn)).heap[rb+1]? = some (agO ⟨fn,0,aD,aD,[]⟩ aI):=by
  have:=heap_setCell_same V (rb+1) 0 _ _ (.string fn) h.n;exact this
 have g:=h.box KS hn rfl rfl rfl (.inl rfl) (.inl rfl);exact g.step (g.r.set ⟨fun _=>hl,by show 1<=_;omega,by show 0<=33;omega,h.r.f.2.2.2⟩ rfl) ((aE.refl (· = rb) _).setCell (p:=⟨rb,1,none⟩) (.inl rfl) _)
def Kg:Option Value->Nat
 | some (.slice _ n _)=>n
 | _=>0
theorem I9 {fn:ByteArray} {v1:World} {k:Int} {t u:TN} {p2:PA} (h:GW w ts rb (rb+1) a c ⟨fn,0,aD,aD,[]⟩ aI [] s V) (h1:a7 v1.heap.size V p2.ea t.ks) (h2:a7 v1.heap.size V p2.ga u.ks) (hw:p2.wa=none) (hc:p2.wc=0) (hz:rb+1<v1.heap.size) :
 GW w ts rb (rb+1) a c ⟨fn,k,t,u,[]⟩ p2 [] s (dX V (rb+1) ⟨fn,k,t,u,[]⟩ p2):=by
 have e1:=h.hr;refine h.box (bH V (rb+1) ⟨fn,k,t,u,[]⟩ p2) (cB h.n _ _) rfl hw hc ?_ ?_
 · exact aH.imp (G:=fun b=>v1.heap.size<=b) h1 (fun b _ hb=>⟨by omega,by omega,by omega,fun e=>by cases e⟩)
 · exact aH.imp (G:=fun b=>v1.heap.size<=b) h2 (fun b _ hb=>⟨by omega,by omega,by omega,fun e=>by cases e⟩)
theorem Aq (h:GW w ts rb ab a c x p qs s V) {b:Nat} (hb:V.heap.size<=b):GG w.heap.size rb ab p.wa b:=by
 have e1:=h.hr;have e2:=h.ha;have e3:=h.hz;refine ⟨by omega,by omega,by omega,fun e=>?_⟩;have:=(h.own.lt b (by rw [e];rfl)).2;omega
theorem Ap:∃ i z,Tryz.prog.info? 90=some i/\i.zero=some z/\i.size=9/\i.bytes=144/\z.cells.size=9:=by
 have h:(Tryz.prog.info? 90).map (fun i=>(i.zero.map (fun z=>z.cells.size),i.size,i.bytes))=some (some 9,9,144):=by kernel_rfl
 cases hx:Tryz.prog.info? 90 with
 | none=>rw [hx] at h;cases h
 | some i =>
   rw [hx] at h;simp only [Option.map_some,Option.some.injEq,Prod.mk.injEq] at h;obtain ⟨h1,h2,h3⟩:=h;cases hz:i.zero with
   | none=>rw [hz] at h1;cases h1
   | some z =>
     rw [hz] at h1;exact ⟨i,z,rfl,hz,h2,h3,by simpa using h1⟩
theorem pY (W:World) (d:CD) (q:QC):∀ j u,(eF d q)[j]? = some u->(W.alloc (.cells #[.string d.op,.string d.a.op,.string d.a.nm,.int .i64 d.a.n,.slice q.a1 d.a.ks.len q.c1,.string d.b.op,.string d.b.nm,.int .i64 d.b.n,.slice q.a2 d.b.ks.len q.c2] 90)).cell? ((⟨W.heap.size,0,none⟩:Addr).add j)=some u:=fun j u hu=>by
 obtain ⟨p0,p1,p2,p3,p4,p5,p6,p7,p8⟩:=eZ (heap_alloc_new W (cdO d q.a1 q.c1 q.a2 q.c2));rw [Addr.add_lit];match j,hu with
 | 0,h=>cases h;exact p0
 | 1,h=>cases h;exact p1
 | 2,h=>cases h;exact p2
 | 3,h=>cases h;exact p3
 | 4,h=>cases h;exact p4
 | 5,h=>cases h;exact p5
 | 6,h=>cases h;exact p6
 | 7,h=>cases h;exact p7
 | 8,h=>cases h;exact p8
 | n+9,h=>simp at h
theorem JC {w1:World} {n m:Nat} {a:Option Addr} {c:Nat} {ts:List Tk} (h:eW w1 a ts) (hq:∀ q,(Value.slice a m c).ownBlock=some q->n<q):ts=[]\/∃ b off,a=some ⟨b,off,none⟩/\n<b:=by
 rcases h with h | ⟨b,off,e, -, -⟩
 · exact .inl h
 · exact .inr ⟨b,off,e,hq b (by rw [e];rfl)⟩
theorem Ks {w1:World} (hb:Below w.heap.size w w1) (n1:w1.heap[w.heap.size]? = some (agO aN aI)) (hz:w.heap.size<w1.heap.size) (hr:eW w1 a ts) (hn:ts.length<=100000) (tk:ts=[]\/∃ b off,a=some ⟨b,off,none⟩/\w.heap.size<b) :
 GW w ts w1.heap.size (w1.heap.size+1) a c aN aI [] ⟨0,0,0,0⟩ ((w1.alloc (.cells #[.slice a ts.length c,.int .i64 0,.int .i64 0,.int .i64 0,.int .i64 0] 83)).alloc (agO aN aI)):=by
 have B1:=(Below.refl w1.heap.size w1).alloc (Nat.le_refl _) (.cells #[.slice a ts.length c,.int .i64 0,.int .i64 0,.int .i64 0,.int .i64 0] 83);have hs1:(w1.alloc (.cells #[.slice a ts.length c,.int .i64 0,.int .i64 0,.int .i64 0,.int .i64 0] 83)).heap.size=w1.heap.size+1:=World.size_alloc _ _
 have PV:PW ts w1.heap.size a c ⟨0,0,0,0⟩ (w1.alloc (.cells #[.slice a ts.length c,.int .i64 0,.int .i64 0,.int .i64 0,.int .i64 0] 83)) :=
  ⟨heap_alloc_new w1 _,(r9 hr).kept (aF B1 (fun _=>False)) (fun _ h=>h.elim),⟨fun _=>Nat.zero_le _,by show 0<=_;omega,by show 0<=33;omega,hn⟩⟩
 have N1:=(B1.block w.heap.size hz).trans n1;generalize w1.alloc (.cells #[.slice a ts.length c,.int .i64 0,.int .i64 0,.int .i64 0,.int .i64 0] 83)=U at *;have B2:=(Below.refl U.heap.size U).alloc (Nat.le_refl _) (agO aN aI);have n2:=heap_alloc_new U (agO aN aI);rw [hs1] at n2;exact ⟨PV.below B2,(hb.trans (B1.mono (by omega))).trans (B2.mono (by omega)),n2,(B2.block _ (by omega)).trans N1,.inl rfl,.inl rfl,⟨rfl,.inl ⟨rfl,rfl⟩⟩,rfl,fun j d q h1 _=>by simp [aN] at h1,hz,by omega,by rw [World.size_alloc];omega,tk⟩
end
theorem J3 (s0:ByteArray) (w:World) {p:Nat} {er:Int} (hL:fJ s0.data.toList=.bad p er):Calls Tryz.prog 10 #[.string s0] w (kD (.bad p er) w):=by
 obtain ⟨-,qe⟩:=mS hL;have B1:=(Below.refl w.heap.size w).alloc (Nat.le_refl _) (agO aN aI);have NB:=heap_alloc_new w (agO aN aI);have hs0:(w.alloc (agO aN aI)).heap.size=w.heap.size+1:=World.size_alloc _ _;generalize hW:w.alloc (agO aN aI)=W at *;have HW:=aA hW;have C:=aA (rG s0 W);rw [hL] at C;clear hW;go_enter Tryz.func10,Tryz.ntmps10
 go_upto_region 1 with fail
 rw [show w.alloc (.cells #[.string ⟨#[]⟩,.int .i64 0,.string ⟨#[]⟩,.string ⟨#[]⟩,.int .i64 0,.slice none 0 0,.string ⟨#[]⟩,.string ⟨#[]⟩,.int .i64 0,.slice none 0 0,.slice none 0 0] 37)=W from HW.out];go_wp2_with fail
 refine C.out.mono ?_;rintro e w1 ⟨hb,rfl⟩;have N1:=(hb.block w.heap.size (by omega)).trans NB;have hz:=hb.size;have B2:=aA (B1.trans (hb.mono (by omega)));obtain ⟨z0,z1,z2,z3,z4,z5,z6,z7,z8,z9,z10⟩:=bE N1;obtain ⟨b0,b1,b2,b3,b4,b5,b6,b7,b8,b9,b10⟩:=aC N1;have N2:=aA N1;clear hb N1 C HW;go_wp2_with fail
 have KP:=bH w1 w.heap.size aN aI;obtain ⟨y0,y1,y2,y3,y4,y5,y6,y7,y8,y9,y10⟩:=aC (cB (t:=37) N2.out aN aI);dsimp only [dX,aN,aI,aD,F.len,List.length_nil] at y0 y1 y2 y3 y4 y5 y6 y7 y8 y9 y10;exact bodyPost_ret (v:=.tuple #[agV aN aI,.int .i64 (p:Nat),.int .i64 er]) (by simp [results,Tryz.results10,go_sem,y0,y1,y2,y3,y4,y5,y6,y7,y8,y9,y10,aN,aI,aD,F.len]) rfl ⟨B2.out.trans (KP.below (B:=w.heap.size) (fun k hk=>by omega) (by omega)),rfl⟩
theorem J0 (s0:ByteArray) (w:World) {ts:List Tk} (hL:fJ s0.data.toList=.ok ts):Calls Tryz.prog 10 #[.string s0] w (kD (agQ s0.size ts (agL ts)) w):=by
 have hlen:=Ah hL;have B1:=(Below.refl w.heap.size w).alloc (Nat.le_refl _) (agO aN aI);have NB:=heap_alloc_new w (agO aN aI);have hs0:(w.alloc (agO aN aI)).heap.size=w.heap.size+1:=World.size_alloc _ _;generalize hW:w.alloc (agO aN aI)=W at *;have HW:=aA hW;have C:=aA (rG s0 W);rw [hL] at C;obtain ⟨r,hr⟩:∃ r,agQ s0.size ts (agL ts)=r:=⟨_,rfl⟩;rw [hr];have HR0:=aA hr;clear hW hr hL;go_enter Tryz.func10,Tryz.ntmps10
 go_upto_region 1 with fail
 rw [show w.alloc (.cells #[.string ⟨#[]⟩,.int .i64 0,.string ⟨#[]⟩,.string ⟨#[]⟩,.int .i64 0,.slice none 0 0,.string ⟨#[]⟩,.string ⟨#[]⟩,.int .i64 0,.slice none 0 0,.slice none 0 0] 37)=W from HW.out];go_wp2_with fail
 refine C.out.mono ?_;rintro e w1 ⟨hb,a,c,rfl,ho⟩;have G0:=Ks (c:=c) (B1.trans (hb.mono (by omega))) ((hb.block w.heap.size (by omega)).trans NB) (by have:=hb.size;omega) (oT ho) (by omega) (JC (oT ho) (fun q hq=>by have:=(ho.lt q hq).1;omega));generalize hU:w1.alloc (.cells #[.slice a ts.length c,.int .i64 0,.int .i64 0,.int .i64 0,.int .i64 0] 83)=U at G0;have hUs:U.heap.size=w1.heap.size+1:=by rw [<- hU];exact World.size_alloc _ _
 generalize hV:U.alloc (agO aN aI)=V at G0;generalize hrb:w1.heap.size=rb at G0 hUs;have HU:=aA hU;have HV:=aA hV;have HRB:=aA hrb;have HUS:=aA hUs;have K0:=aA G0;clear hb ho B1 NB hs0 hU hV hrb hUs G0 C HW;go_upto_block 0 with fail
 rw [HU.out,show U.alloc (.cells #[.string ⟨#[]⟩,.int .i64 0,.string ⟨#[]⟩,.string ⟨#[]⟩,.int .i64 0,.slice none 0 0,.string ⟨#[]⟩,.string ⟨#[]⟩,.int .i64 0,.slice none 0 0,.slice none 0 0] 37)=V from HV.out,HRB.out];clear HU HV HUS HRB;go_cut [] (fun wc=>∃ (fn:ByteArray) (s:RS),Hid (agQ s0.size ts (kA ts fn s)=r)/\Hid (GW w ts rb (rb+1) a c ⟨fn,0,aD,aD,[]⟩ aI [] s wc))
 case first =>
  by_cases hlt:0<ts.length
  · obtain ⟨b,off,ha, -,p0,p1, -, -⟩:=aY K0.out.r.t hlt
    obtain ⟨k,hk⟩:∃ k,ts[0].kind=k:=⟨_,rfl⟩;obtain ⟨X,hX⟩:∃ X:ByteArray,⟨ts[0].text.toArray⟩=X:=⟨_,rfl⟩;have hXl:ts[0].text=X.data.toList:=by rw [<- hX]
    have hg:ts[0]? = some ts[0]:=List.getElem?_eq_getElem hlt;rw [hk] at p0;rw [hX] at p1;have FN:=aA (fun U=>vL X U);have a1:((ts.length:Int) == 0)=false:=by rw [beq_eq_false_iff_ne];omega
    have a2:(0:Int)<(ts.length:Int):=by omega
    have e0:off+0*4=off:=by omega
    rw [e0] at p0 p1;subst ha;by_cases h1:k=1
    · cases hf:dM X.data.toList with
      | true =>
        have HR1:=aA (show agQ s0.size ts (kA ts X ⟨1,0,0,0⟩)=r by rw [<- HR0.out,Kz hg (hk.trans h1) (by rw [hXl];exact hf),hX]);rw [hf] at FN;have k1:(k == 1)=true:=by rw [h1];rfl
        have k2:(k != 1)=false:=by rw [h1];rfl
        clear hk hX hXl hg h1 hf HR0;obtain ⟨z0,z1,z2,z3,z4,z5,z6,z7,z8,z9,z10⟩:=bE K0.out.n;obtain ⟨m0,m1,m2,m3,m4,m5,m6,m7,m8,m9,m10⟩:=aC K0.out.n;obtain ⟨⟨c0,c1,c2,c3,c4⟩,f1,f2,f3,f4⟩:=K0.out.r.r.cells;go_wp2_with fail
        refine (FN.out V).mono ?_;rintro e w2 ⟨rfl,rfl⟩;go_wp2_with fail
        go_meet;case rel=>exact ⟨X,⟨1,0,0,0⟩,HR1,aA (GE K0.out X (by omega))⟩
      | false =>
        have HR1:=aA (show agQ s0.size ts (kA ts ⟨#[]⟩ (aR 5 ⟨0,0,0,0⟩))=r by rw [<- HR0.out,KH hg (hk.trans h1) (by rw [hXl];exact hf)]);rw [hf] at FN;have k1:(k == 1)=true:=by rw [h1];rfl
        have k2:(k != 1)=false:=by rw [h1];rfl
        have FA:=aA (cZ ts rb _ c ⟨0,0,0,0⟩ 5 (by decide) V K0.out.r);clear hk hX hXl hg h1 hf HR0;go_wp2_with fail
        refine (FN.out V).mono ?_;rintro e w2 ⟨rfl,rfl⟩;go_wp2_with fail
        refine FA.out.mono ?_;rintro e w3 ⟨rfl,hp,hk⟩;have K1:=aA (K0.out.step hp hk);clear hp hk;go_wp2_with fail
        go_meet;case rel=>exact ⟨⟨#[]⟩,_,HR1,K1⟩
    · have HR1:=aA (show agQ s0.size ts (kA ts ⟨#[]⟩ (aR 2 ⟨0,0,0,0⟩))=r by rw [<- HR0.out,Hr hg (by rw [hk];exact h1)])
      have k1:(k == 1)=false:=by simpa using h1
      have k2:(k != 1)=true:=by rw [bne,k1];rfl
      have FA:=aA (cZ ts rb _ c ⟨0,0,0,0⟩ 2 (by decide) V K0.out.r);clear hk hX hXl hg h1 HR0 FN;go_wp2_with fail
      refine FA.out.mono ?_;rintro e w3 ⟨rfl,hp,hk⟩;have K1:=aA (K0.out.step hp hk);clear hp hk;go_wp2_with fail
      go_meet;case rel=>exact ⟨⟨#[]⟩,_,HR1,K1⟩
  · have h0:ts[0]? = none:=List.getElem?_eq_none (by omega)
    have HR1:=aA (show agQ s0.size ts (kA ts ⟨#[]⟩ (aR 2 ⟨0,0,0,0⟩))=r by rw [<- HR0.out,Hp h0]);have a1:((ts.length:Int) == 0)=true:=by rw [beq_iff_eq];omega
    have FA:=aA (cZ ts rb a c ⟨0,0,0,0⟩ 2 (by decide) V K0.out.r);clear h0 HR0;go_wp2_with fail
    refine FA.out.mono ?_;rintro e w3 ⟨rfl,hp,hk⟩;have K1:=aA (K0.out.step hp hk);clear hp hk;go_wp2_with fail
    go_meet;case rel=>exact ⟨⟨#[]⟩,_,HR1,K1⟩
 case rest =>
  obtain ⟨fn,s,HR,K1⟩:=hcut;clear K0 HR0;have WN:=aA (iB ts rb a c s ⟨#[40]⟩ wc K1.out.r);have HRA:=aA (p:=agQ s0.size ts (if (aU ts (⟨#[40]⟩:ByteArray).data.toList s).bad=0 then kB ts ⟨fn,(bG ts fn.data.toList (aU ts (⟨#[40]⟩:ByteArray).data.toList s)).1.1,(bG ts fn.data.toList (aU ts (⟨#[40]⟩:ByteArray).data.toList s)).1.2.1,(bG ts fn.data.toList (aU ts (⟨#[40]⟩:ByteArray).data.toList s)).1.2.2,[]⟩ (bG ts fn.data.toList (aU ts (⟨#[40]⟩:ByteArray).data.toList s)).2 else kB ts ⟨fn,0,aD,aD,[]⟩ (aU ts (⟨#[40]⟩:ByteArray).data.toList s))=r) HR.out;obtain ⟨s1,hs1⟩:∃ q,aU ts (⟨#[40]⟩:ByteArray).data.toList s=q:=⟨_,rfl⟩;rw [hs1] at WN HRA;clear hs1 HR;go_wp2_with fail
  refine WN.out.mono ?_;rintro e v1 ⟨rfl,hp,hk⟩;have K2:=aA (K1.out.step hp hk);clear hp hk WN K1;obtain ⟨⟨c0,c1,c2,c3,c4⟩,f1,f2,f3,f4⟩:=K2.out.r.r.cells;go_upto_if 63 with fail
  go_cut [] (fun wc=>∃ (x:AG) (p:PA) (s:RS),Hid (agQ s0.size ts (kB ts x s)=r)/\Hid (x.wh=[])/\Hid (GW w ts rb (rb+1) a c x p [] s wc))
  case first =>
   by_cases hb:s1.bad=0
   · have q1:((s1.bad:Int) == 0)=true:=by rw [hb];rfl
     have HR1:=aA (HRA.out.symm.trans (congrArg (agQ s0.size ts) (if_pos hb))).symm;have AR:=aA (Hj ts rb a c s1 fn v1 K2.out.r hb);obtain ⟨m0,m1,m2,m3,m4,m5,m6,m7,m8,m9,m10⟩:=aC K2.out.n;clear hb HRA;go_wp2_with fail
     refine AR.out.mono ?_;rintro e v2 ⟨p2,rfl,hp,hk,h1,h2,hw,hc⟩;have K3:=aA (K2.out.step hp hk);have RD:=aA (And.intro h1 (And.intro h2 (And.intro hw hc)));have HZ:=aA (K2.out.hz);clear hp hk h1 h2 hw hc AR m0 m1 m2 m3 m4 m5 m6 m7 m8 m9 m10 c0 c1 c2 c3 c4 f1 f2 f3 f4;obtain ⟨m0,m1,m2,m3,m4,m5,m6,m7,m8,m9,m10⟩:=aC K3.out.n;obtain ⟨z0,z1,z2,z3,z4,z5,z6,z7,z8,z9,z10⟩:=bE K3.out.n;go_wp2_with fail
     go_meet;case rel=>exact ⟨_,p2,_,HR1,aA rfl,aA (I9 K3.out RD.out.1 RD.out.2.1 RD.out.2.2.1 RD.out.2.2.2 HZ.out)⟩
   · have q1:((s1.bad:Int) == 0)=false:=beq_eq_false_iff_ne.2 hb
     have HR1:=aA (HRA.out.symm.trans (congrArg (agQ s0.size ts) (if_neg hb))).symm;clear hb HRA;go_wp2_with fail
     go_meet;case rel=>exact ⟨_,aI,s1,HR1,aA rfl,K2⟩
  case rest =>
   obtain ⟨x,p,s2,HR,HX,K3⟩:=hcut;clear K2 HRA c0 c1 c2 c3 c4 f1 f2 f3 f4;have WN:=aA (iB ts rb a c s2 ⟨#[41]⟩ wc K3.out.r);have HRB:=aA (p:=agQ s0.size ts (kC ts x (aU ts (⟨#[41]⟩:ByteArray).data.toList s2))=r) HR.out;obtain ⟨s3,hs3⟩:∃ q,aU ts (⟨#[41]⟩:ByteArray).data.toList s2=q:=⟨_,rfl⟩;rw [hs3] at WN HRB;clear hs3 HR;go_wp2_with fail
   refine WN.out.mono ?_;rintro e v3 ⟨rfl,hp,hk⟩;have K4:=aA (K3.out.step hp hk);clear hp hk WN K3;obtain ⟨⟨c0,c1,c2,c3,c4⟩,f1,f2,f3,f4⟩:=K4.out.r.r.cells;obtain ⟨zz,hzz⟩:∃ z:Bool,((s3.bad == 0) && decide (s3.pos<ts.length))=z:=⟨_,rfl⟩;have HZZ:=aA hzz;go_upto_region 16 with fail
   go_cut [82] (fun v82 wc=>v82=.bool zz/\wc=v3)
   case first =>
    by_cases hb:s3.bad=0
    · have q1:((s3.bad:Int) == 0)=true:=by rw [hb];rfl
      by_cases hp:s3.pos<ts.length
      · have q2:(s3.pos:Int)<(ts.length:Int):=by omega
        obtain rfl:zz=true:=by rw [<- hzz,hb,decide_eq_true hp];rfl
        clear hzz hb;go_wp2_with fail
        go_meet;case rel=>exact ⟨rfl,rfl⟩
      · have q2:¬ (s3.pos:Int)<(ts.length:Int):=by omega
        obtain rfl:zz=false:=by rw [<- hzz,decide_eq_false hp];simp
        clear hzz hb;go_wp2_with fail
        go_meet;case rel=>exact ⟨rfl,rfl⟩
    · have q1:((s3.bad:Int) == 0)=false:=beq_eq_false_iff_ne.2 hb
      obtain rfl:zz=false:=by rw [<- hzz,show (s3.bad == 0)=false from q1];rfl
      clear hzz;go_wp2_with fail
      go_meet;case rel=>exact ⟨rfl,rfl⟩
   case rest =>
    obtain ⟨rfl,rfl⟩:=hcut;clear hzz c0 c1 c2 c3 c4 f1 f2 f3 f4;go_upto_if 82 with fail
    go_cut [] (fun wc=>∃ (x:AG) (p:PA) (qs:List QC) (s:RS),Hid (agQ s0.size ts (kF x s)=r)/\Hid (GW w ts rb (rb+1) a c x p qs s wc))
    case first =>
     cases zz with
     | false =>
       have HR1:=aA (show agQ s0.size ts (kF x s3)=r by
        have hz:=HZZ.out;rw [<- HRB.out];unfold kC;rw [if_neg (fun k=>by rw [k.1,decide_eq_true k.2] at hz;cases hz)])
       go_wp2_with fail
       go_meet;case rel=>exact ⟨x,p,[],s3,HR1,K4⟩
     | true =>
       have hz:s3.bad=0/\s3.pos<ts.length:=by
        have hz:=HZZ.out;simp only [Bool.and_eq_true,beq_iff_eq,decide_eq_true_eq] at hz;exact hz
       have HRC:=aA (show agQ s0.size ts (kE ts x (kLo ts 5 true [] (if dU ts fU s3.pos=true then s3 else aR 2 s3)))=r by
        rw [<- HRB.out];unfold kC;rw [if_pos hz])
       have HZ3:=aA hz.2;have WD:=aA (yI ts rb a c s3 ⟨#[119,104,101,114,101]⟩ wc K4.out.r);obtain ⟨wb,hwb⟩:∃ z,dU ts fU s3.pos=z:=⟨_,rfl⟩;rw [show (⟨#[119,104,101,114,101]⟩:ByteArray).data.toList=fU from rfl,hwb] at WD;rw [hwb] at HRC;clear hz hwb HZZ HRB;go_wp2_with fail
       refine WD.out.mono ?_;rintro e v4 ⟨rfl,hk⟩;have K5:=aA (K4.out.step (K4.out.r.kept hk) (hk.mono (fun _ h _=>h.elim)));clear hk WD K4;go_upto_if 85 with fail
       go_cut [] (fun wc=>∃ (s:RS),Hid (agQ s0.size ts (kE ts x (kLo ts 5 true [] s))=r)/\Hid (s.bad=0->s.pos<ts.length)/\Hid (GW w ts rb (rb+1) a c x p [] s wc))
       case first =>
        cases wb with
        | true =>
          go_wp2_with fail
          go_meet;case rel=>exact ⟨s3,HRC,aA (fun _=>HZ3.out),K5⟩
        | false =>
          have FA:=aA (cZ ts rb a c s3 2 (by decide) v4 K5.out.r);go_wp2_with fail
          refine FA.out.mono ?_;rintro e v5 ⟨rfl,hp,hk⟩;have K6:=aA (K5.out.step hp hk);clear hp hk;go_wp2_with fail
          go_meet;case rel=>exact ⟨aR 2 s3,HRC,aA (fun h=>absurd h (iH (by decide) _)),K6⟩
       case rest =>
        obtain ⟨s4,HR,HP4,K6⟩:=hcut;clear K5 HRC;obtain ⟨xf,xk,xe,xg,xw⟩:=x;obtain rfl:xw=[]:=HX.out;obtain ⟨RL,hRL⟩:∃ q,kLo ts 5 true [] s4=q:=⟨_,rfl⟩;rw [hRL] at HR;have HL0:=aA (show kLo ts (5-([]:List CD).length) true [] s4=RL from hRL);clear hRL HX;go_upto_block 1 with fail
        go_cut [] (fun wc=>∃ (pa:PA) (qs:List QC),Hid (GW w ts rb (rb+1) a c ⟨xf,xk,xe,xg,RL.1⟩ pa qs RL.2 wc))
        case first =>
         go_wp2_with fail
         go_loopw [10,11] (fun v10 v11 wr=>∃ (more:Bool) (y:Value) (acc:List CD) (pa:PA) (qs:List QC) (s:RS),v10=.bool more/\v11=y/\acc.length<=4/\(more=true->s.bad=0->s.pos<ts.length)/\Hid (kLo ts (5-acc.length) more acc s=RL)/\Hid (GW w ts rb (rb+1) a c ⟨xf,xk,xe,xg,acc⟩ pa qs s wr)) (fun _ _ wr=>5-Kg (wr.cell? ⟨rb+1,10,none⟩))
         case atStart=>exact ⟨true,_,[],p,[],s4,rfl,rfl,Nat.zero_le _,fun _ h=>HP4.out h,HL0,K6⟩
         case round =>
          obtain ⟨more,y,acc,pa,qs,s,rfl,rfl,hacc,hpos,HL,HK⟩:=hrel;clear K6 HL0 HP4;obtain ⟨⟨c0,c1,c2,c3,c4⟩,f1,f2,f3,f4⟩:=HK.out.r.r.cells;by_cases hgo:more=true/\s.bad=0
          · obtain ⟨rfl,hb⟩:=hgo
            have q1:((s.bad:Int) == 0)=true:=by rw [hb];rfl
            have hlt:=hpos rfl hb;have HC:=aA (show eU ts (5-acc.length) acc s=RL by rw [<- HL.out,By hb]);obtain ⟨m0,m1,m2,m3,m4,m5,m6,m7,m8,m9,m10⟩:=aC HK.out.n;clear hpos HL;by_cases h4:acc.length=4
            · have HC1:=aA (show RL=(acc,aR 4 s) by
               rw [<- HC.out,h4];show eU ts (0+1) acc s=_;rw [eU,if_pos h4])
              have l1:((acc.length:Int) == 4)=true:=by rw [h4];rfl
              have FA:=aA (cZ ts rb a c s 4 (by decide) wr HK.out.r);clear HC hb hlt h4;go_wp2_with fail
              refine FA.out.mono ?_;rintro e v5 ⟨rfl,hp,hk⟩;have K7:=aA (HK.out.step hp hk);clear hp hk FA;go_wp2_with fail
              go_meet;case rel=>exact ⟨pa,qs,aA (by rw [HC1.out];exact K7.out)⟩
            · have l1:((acc.length:Int) == 4)=false:=by rw [beq_eq_false_iff_ne];omega
              have HC1:=aA (show (if ((cE ts (aO s)).2.bad == 0 && dU ts oP (cE ts (aO s)).2.pos)=true then eU ts (5-(acc.length+1)) (acc++[(cE ts (aO s)).1]) (cE ts (aO s)).2 else (acc++[(cE ts (aO s)).1],(cE ts (aO s)).2))=RL by
               rw [<- HC.out];have e:5-acc.length=(5-(acc.length+1))+1:=by omega
               rw [e];rw [eU,if_neg h4])
              have HKB:=aA (show acc.length<=3 by omega);have KS:=(aE.refl (· = rb) wr).setCell (p:=⟨rb,1,none⟩) (.inl rfl) (.int .i64 ((s.pos:Int)+1));obtain ⟨X,hX⟩:∃ X,wr.setCell ⟨rb,1,none⟩ (.int .i64 ((s.pos:Int)+1))=X:=⟨_,rfl⟩
              have K7:=aA (show GW w ts rb (rb+1) a c ⟨xf,xk,xe,xg,acc⟩ pa qs (aO s) X by
               rw [<- hX];exact HK.out.step (mM HK.out.r hlt) KS)
              have hps:(s.pos:Int)+1<=200000:=by have:=HK.out.r.f.2.2.2;omega
              clear KS HC hb h4 hacc;go_upto_region 25 with fail
              try rw [hX]
              have MB:=aA m10;clear hX c0 c1 c2 c3 c4 f1 f2 f3 f4 m0 m1 m2 m3 m4 m5 m6 m7 m8 m9 m10 HK hlt;have CO:=aA (Hb ts rb a c (aO s) X K7.out.r);obtain ⟨⟨d,s5⟩,hds⟩:∃ q:CD×RS,cE ts (aO s)=q:=⟨_,rfl⟩;rw [hds] at CO HC1;clear hds;go_wp2_with fail
              refine CO.out.mono ?_;rintro e v1 ⟨a1,c1,a2,c2,rfl,hp,hk,h1,h2⟩;have BA:=(Below.refl v1.heap.size v1).alloc (Nat.le_refl _) (cdO d a1 c1 a2 c2);have K8:=K7.out.step hp hk;have K9:=aA (K8.below BA);have NC:=aA (heap_alloc_new v1 (cdO d a1 c1 a2 c2));have R1:=aA ((aH.imp (G:=fun b=>X.heap.size<=b) h1 (fun b _ hb=>Aq K7.out hb)).kept BA);have R2:=aA ((aH.imp (G:=fun b=>X.heap.size<=b) h2 (fun b _ hb=>Aq K7.out hb)).kept BA);generalize hU:v1.alloc (cdO d a1 c1 a2 c2)=U at K9 NC R1 R2;generalize hB:v1.heap.size=B at NC;have HU:=aA hU;have HB:=aA hB;clear hp hk h1 h2 BA K8 hU hB CO K7 hps;go_upto_region 26 with fail
              rw [show v1.alloc (.cells #[.string d.op,.string d.a.op,.string d.a.nm,.int .i64 d.a.n,.slice a1 d.a.ks.len c1,.string d.b.op,.string d.b.nm,.int .i64 d.b.n,.slice a2 d.b.ks.len c2] 90)=U from HU.out,HB.out];clear HU HB;obtain ⟨m0,m1,m2,m3,m4,m5,m6,m7,m8,m9,m10⟩:=aC K9.out.n;obtain ⟨p0,p1,p2,p3,p4,p5,p6,p7,p8⟩:=eZ NC.out;have und:=Tryz.underlying35;obtain ⟨i,zv,hi,hz0,hz1,hz2,hz3⟩:=Ap;have OWN:=aA (show (U.alloc (.cells #[.string d.op,.string d.a.op,.string d.a.nm,.int .i64 d.a.n,.slice a1 d.a.ks.len c1,.string d.b.op,.string d.b.nm,.int .i64 d.b.n,.slice a2 d.b.ks.len c2] 90)).ownsRow (rb+1+1) 90 9 (.slice pa.wa acc.length pa.wc) acc.length (cdL acc qs) from K9.out.own.alloc _);have NEW:=aA (pY U d ⟨a1,c1,a2,c2⟩);have BU:=aA ((Below.refl U.heap.size U).alloc (Nat.le_refl _) (.cells #[.string d.op,.string d.a.op,.string d.a.nm,.int .i64 d.a.n,.slice a1 d.a.ks.len c1,.string d.b.op,.string d.b.nm,.int .i64 d.b.n,.slice a2 d.b.ks.len c2] 90));have K10:=aA (K9.out.below BU.out);have R3:=aA (R1.out.kept BU.out);have R4:=aA (R2.out.kept BU.out);have ONE:=aA (fun u (hu:u∈eF d ⟨a1,c1,a2,c2⟩)=>oA [d] [⟨a1,c1,a2,c2⟩] u (by simpa [cdL] using hu));have HBS:=aA (show rb+1+1<=(U.alloc (.cells #[.string d.op,.string d.a.op,.string d.a.nm,.int .i64 d.a.n,.slice a1 d.a.ks.len c1,.string d.b.op,.string d.b.nm,.int .i64 d.b.n,.slice a2 d.b.ks.len c2] 90)).heap.size from K10.out.hz);clear K9 NC R1 R2 BU
              go_upto_region 21 with (first
               | (at_builtin
                  refine aS rfl _ _ 35 rfl (base:=rb+1+1) und hi hz0 hz1 hz2 hz3 (by decide) (.slice pa.wa acc.length pa.wc) acc.length 1 1 ⟨U.heap.size,0,none⟩ (cdL acc qs) (eF d ⟨a1,c1,a2,c2⟩) rfl rfl OWN.out rfl NEW.out ONE.out (by have:=HKB.out;unfold maxLen;omega) (by have:=HKB.out;omega) HBS.out ?_;intro v4 w4 ho hg hn;obtain ⟨a',c',hv⟩:=cX ho;subst hv;have KA:=(aE.refl (fun b=>(Value.slice pa.wa acc.length pa.wc).ownBlock=some b) _).grown hg (fun k hk=>.inl hk);have N4:=KA.heap K10.out.n (fun e=>by have:=K10.out.lo e;omega);have K11:=aA (K10.out.push KA ho hn R3.out R4.out);have HN4:=aA N4;obtain ⟨m0,m1,m2,m3,m4,m5,m6,m7,m8,m9,m10⟩:=aC N4;obtain ⟨z0,z1,z2,z3,z4,z5,z6,z7,z8,z9,z10⟩:=bE N4;clear ho hg hn KA N4 K10 R3 R4 OWN NEW ONE HBS)
               | fail)
              obtain ⟨Y,hY⟩:∃ Y,w4.setCell ⟨rb+1,10,none⟩ (.slice a' (acc.length+1) c')=Y:=⟨_,rfl⟩;have K12:=aA (show GW w ts rb (rb+1) a c ⟨xf,xk,xe,xg,acc++[d]⟩ { pa with wa:=a',wc:=c' } (qs++[⟨a1,c1,a2,c2⟩]) s5 Y by rw [<- hY];exact K11.out);try rw [hY]
              clear hY K11 m0 m1 m2 m3 m4 m5 m6 m7 m8 m9 m10 z0 z1 z2 z3 z4 z5 z6 z7 z8 z9 z10 p0 p1 p2 p3 p4 p5 p6 p7 p8 und hi hz0 hz1 hz2 hz3 HN4;obtain ⟨⟨c0,c1',c2',c3,c4⟩,f1,f2,f3,f4⟩:=K12.out.r.r.cells;by_cases hb5:s5.bad=0
              · have q5:((s5.bad:Int) == 0)=true:=by rw [hb5];rfl
                have WD:=aA (yI ts rb a c s5 ⟨#[97,110,100]⟩ Y K12.out.r);obtain ⟨wb,hwb⟩:∃ z,dU ts oP s5.pos=z:=⟨_,rfl⟩;rw [show (⟨#[97,110,100]⟩:ByteArray).data.toList=oP from rfl,hwb] at WD;have HWP:=aA (fun h:wb=true=>wS (hwb.trans h))
                have HL2:=aA (show kLo ts (5-(acc++[d]).length) wb (acc++[d]) s5=RL by
                 rw [<- HC1.out,hb5,hwb,List.length_append];cases wb with
                 | true=>rw [By hb5];rfl
                 | false=>unfold kLo;rfl)
                clear hwb HC1 hb5;go_wp2_with fail
                refine WD.out.mono ?_;rintro e v7 ⟨rfl,hk⟩;have K13:=aA (K12.out.step (K12.out.r.kept hk) (hk.mono (fun _ h _=>h.elim)));clear hk WD K12 c0 c1' c2' c3 c4 f1 f2 f3 f4;obtain ⟨-, -, -, -, -, -, -, -, -, -,m10⟩:=aC K13.out.n;go_wp2_with fail
                go_roundw
                case rel=>exact ⟨wb,_,acc++[d],_,_,s5,rfl,rfl,by have:=HKB.out;simp;omega,fun h _=>HWP.out h,HL2,K13⟩
                case measure =>
                 rw [m10,MB.out];have:=HKB.out;simp [Kg];omega
              · have q5:((s5.bad:Int) == 0)=false:=beq_eq_false_iff_ne.2 hb5
                have HL2:=aA (show kLo ts (5-(acc++[d]).length) false (acc++[d]) s5=RL by
                 rw [<- HC1.out,show (s5.bad == 0)=false from q5];unfold kLo;rfl)
                clear HC1 hb5;obtain ⟨-, -, -, -, -, -, -, -, -, -,m10⟩:=aC K12.out.n;go_wp2_with fail
                go_roundw
                case rel=>exact ⟨false,_,acc++[d],_,_,s5,rfl,rfl,by have:=HKB.out;simp;omega,fun h _=>(by cases h),HL2,K12⟩
                case measure =>
                 rw [m10,MB.out];have:=HKB.out;simp [Kg];omega
          · have HC1:=aA (show RL=(acc,s) by rw [<- HL.out];exact if_neg hgo)
            cases more with
            | false =>
              clear hgo hpos;go_wp2_with fail
              go_meet;case rel=>exact ⟨pa,qs,aA (by rw [HC1.out];exact HK.out)⟩
            | true =>
              have q1:((s.bad:Int) == 0)=false:=beq_eq_false_iff_ne.2 (fun h=>hgo ⟨rfl,h⟩);clear hgo hpos;go_wp2_with fail
              go_meet;case rel=>exact ⟨pa,qs,aA (by rw [HC1.out];exact HK.out)⟩
        case rest =>
         obtain ⟨pa,qs,K7⟩:=hcut;clear K6 HL0 HP4;obtain ⟨⟨c0,c1,c2,c3,c4⟩,f1,f2,f3,f4⟩:=K7.out.r.r.cells;obtain ⟨acc,s⟩:=RL;dsimp only at K7 c0 c1 c2 c3 c4 f1 f2 f3 f4;have HRE:=aA (p:=agQ s0.size ts (kF ⟨xf,xk,xe,xg,acc⟩ (if s.bad=0/\s.pos<ts.length then aR 2 s else s))=r) HR.out;clear HR;by_cases hb:s.bad=0
         · have q1:((s.bad:Int) == 0)=true:=by rw [hb];rfl
           by_cases hp:s.pos<ts.length
           · have q2:(s.pos:Int)<(ts.length:Int):=by omega
             have HR1:=aA (HRE.out.symm.trans (congrArg (fun z=>agQ s0.size ts (kF ⟨xf,xk,xe,xg,acc⟩ z)) (if_pos (And.intro hb hp)))).symm;have FA:=aA (cZ ts rb a c s 2 (by decide) wc K7.out.r);clear hb HRE;go_wp2_with fail
             refine FA.out.mono ?_;rintro e v5 ⟨rfl,hp,hk⟩;have K8:=aA (K7.out.step hp hk);clear hp hk FA;go_wp2_with fail
             go_meet;case rel=>exact ⟨_,pa,qs,_,HR1,K8⟩
           · have q2:¬ (s.pos:Int)<(ts.length:Int):=by omega
             have HR1:=aA (HRE.out.symm.trans (congrArg (fun z=>agQ s0.size ts (kF ⟨xf,xk,xe,xg,acc⟩ z)) (if_neg (fun k=>hp k.2)))).symm;clear hb HRE;go_wp2_with fail
             go_meet;case rel=>exact ⟨_,pa,qs,_,HR1,K7⟩
         · have q1:((s.bad:Int) == 0)=false:=beq_eq_false_iff_ne.2 hb
           have HR1:=aA (HRE.out.symm.trans (congrArg (fun z=>agQ s0.size ts (kF ⟨xf,xk,xe,xg,acc⟩ z)) (if_neg (fun k=>hb k.1)))).symm;clear hb HRE;go_wp2_with fail
           go_meet;case rel=>exact ⟨_,pa,qs,_,HR1,K7⟩
    case rest =>
     obtain ⟨x,p,qs,s,HR,K0⟩:=hcut;clear K4 HRB HX HZZ;generalize wc=V at K0 |-
     by_cases hb:s.bad=0
     · have qb1:((s.bad:Int) == 0)=true:=by rw [hb];rfl
       have qb2:((s.bad:Int) != 0)=false:=by rw [hb];rfl
       have HRES:=aA (show r=.ok x by rw [<- HR.out,Gs hb];rfl);obtain ⟨⟨c0,c1,c2,c3,c4⟩,f1,f2,f3,f4⟩:=K0.out.r.r.cells;obtain ⟨m0,m1,m2,m3,m4,m5,m6,m7,m8,m9,m10⟩:=aC K0.out.n;obtain ⟨z0,z1,z2,z3,z4,z5,z6,z7,z8,z9,z10⟩:=bE K0.out.o;obtain ⟨b0,b1,b2,b3,b4,b5,b6,b7,b8,b9,b10⟩:=aC K0.out.o;clear hb;go_wp2_with fail
       obtain ⟨y0,y1,y2,y3,y4,y5,y6,y7,y8,y9,y10⟩:=aC (cB (t:=37) K0.out.o x p);exact bodyPost_ret (v:=.tuple #[agV x p,.int .i64 0,.int .i64 0]) (by simp [results,Tryz.results10,go_sem,y0,y1,y2,y3,y4,y5,y6,y7,y8,y9,y10]) rfl (by rw [HRES.out];exact Lk K0.out)
     · have qb1:((s.bad:Int) == 0)=false:=beq_eq_false_iff_ne.2 hb
       have qb2:((s.bad:Int) != 0)=true:=by rw [bne,qb1];rfl
       have HRES:=aA (show r=.bad (eD s0.size ts s.whr) s.bad by rw [<- HR.out,qT hb];rfl);have RT:=aA (fun U (hU:Below V.heap.size V U)=>(K0.out.r.below hU).reads);have CP:=aA (fun U (hU:eW U a ts)=>Bf s0 ts a c s.whr (by have:=K0.out.r.f.2.2.2;omega) U hU);obtain ⟨⟨c0,c1,c2,c3,c4⟩,f1,f2,f3,f4⟩:=K0.out.r.r.cells;obtain ⟨z0,z1,z2,z3,z4,z5,z6,z7,z8,z9,z10⟩:=bE K0.out.o;obtain ⟨b0,b1,b2,b3,b4,b5,b6,b7,b8,b9,b10⟩:=aC K0.out.o;have hne1:¬ rb=w.heap.size:=by have:=K0.out.hr;omega
       have hne2:¬ w.heap.size=rb:=by have:=K0.out.hr;omega
       have CZ0:=GH K0.out;dsimp only [dX,aN,aI,aD,F.len,List.length_nil] at CZ0;have CZ:=aA CZ0;clear hb CZ0;go_upto_region 30 with fail
       refine wp_region_held (S:=fun U=>U.cell? ⟨rb,3,none⟩=some (.int .i64 s.bad)/\U.cell? ⟨rb,4,none⟩=some (.int .i64 s.whr)) (by kernel_rfl) ?_;have hHeld:(fun U:World=>U.cell? ⟨rb,3,none⟩=some (.int .i64 s.bad)/\U.cell? ⟨rb,4,none⟩=some (.int .i64 s.whr)) V.drew:=⟨c3,c4⟩;refine aB (i:=0) (d:=some 147) (v:=.agg #[.string ⟨#[]⟩,.int .i64 0,.string ⟨#[]⟩,.string ⟨#[]⟩,.int .i64 0,.slice none 0 0,.string ⟨#[]⟩,.string ⟨#[]⟩,.int .i64 0,.slice none 0 0,.slice none 0 0]) rfl rfl (by kernel_rfl) (by kernel_rfl) (by kernel_rfl) (fun _ _ _ h=>h) (Or.inl ⟨by rfl,by rintro w ⟨c3,c4⟩;go_simp⟩) hHeld ?_;simp only [Act.put,LG,LH,LI];refine aB (i:=1) (d:=some 148) (v:=.string s0) rfl rfl (by kernel_rfl) (by kernel_rfl) (by kernel_rfl) (fun _ _ _ h=>h) (Or.inl ⟨by rfl,by rintro w ⟨c3,c4⟩;go_simp⟩) hHeld ?_;simp only [Act.put,LG,LH,LI];refine aB (i:=2) (d:=some 149) (v:=.slice a ts.length c) rfl rfl (by kernel_rfl) (by kernel_rfl) (by kernel_rfl) (fun _ _ _ h=>h) (Or.inl ⟨by rfl,by rintro w ⟨c3,c4⟩;go_simp⟩) hHeld ?_;simp only [Act.put,LG,LH,LI];refine aB (i:=3) (d:=some 150) (v:=.pointer (some ⟨rb,0,none⟩)) rfl rfl (by kernel_rfl) (by kernel_rfl) (by kernel_rfl) (fun _ _ _ h=>h) (Or.inl ⟨by rfl,by rintro w ⟨c3,c4⟩;go_simp⟩) hHeld ?_;simp only [Act.put,LG,LH,LI];refine aB (i:=4) (d:=some 151) (v:=.pointer (some ⟨rb,0,none⟩)) rfl rfl (by kernel_rfl) (by kernel_rfl) (by kernel_rfl) (fun _ _ _ h=>h) (Or.inl ⟨by rfl,by rintro w ⟨c3,c4⟩;go_simp⟩) hHeld ?_;simp only [Act.put,LG,LH,LI];refine aB (i:=5) (d:=some 152) (v:=.pointer (some ⟨rb,4,none⟩)) rfl rfl (by kernel_rfl) (by kernel_rfl) (by kernel_rfl) (fun _ _ _ h=>h) (Or.inl ⟨by rfl,by rintro w ⟨c3,c4⟩;go_simp⟩) hHeld ?_
       simp only [Act.put,LG,LH,LI];refine aB (i:=6) (d:=some 153) (v:=.int .i64 s.whr) rfl rfl (by kernel_rfl) (by kernel_rfl) (by kernel_rfl) (fun _ _ _ h=>h) (Or.inl ⟨by rfl,by rintro w ⟨c3,c4⟩;go_simp⟩) hHeld ?_;simp only [Act.put,LG,LH,LI];refine aB (i:=8) (d:=some 155) (v:=.pointer (some ⟨rb,0,none⟩)) rfl rfl (by kernel_rfl) (by kernel_rfl) (by kernel_rfl) (fun _ _ _ h=>h) (Or.inl ⟨by rfl,by rintro w ⟨c3,c4⟩;go_simp⟩) hHeld ?_;simp only [Act.put,LG,LH,LI];refine aB (i:=9) (d:=some 156) (v:=.pointer (some ⟨rb,0,none⟩)) rfl rfl (by kernel_rfl) (by kernel_rfl) (by kernel_rfl) (fun _ _ _ h=>h) (Or.inl ⟨by rfl,by rintro w ⟨c3,c4⟩;go_simp⟩) hHeld ?_;simp only [Act.put,LG,LH,LI];refine aB (i:=10) (d:=some 157) (v:=.pointer (some ⟨rb,3,none⟩)) rfl rfl (by kernel_rfl) (by kernel_rfl) (by kernel_rfl) (fun _ _ _ h=>h) (Or.inl ⟨by rfl,by rintro w ⟨c3,c4⟩;go_simp⟩) hHeld ?_;simp only [Act.put,LG,LH,LI];refine aB (i:=11) (d:=some 158) (v:=.int .i64 s.bad) rfl rfl (by kernel_rfl) (by kernel_rfl) (by kernel_rfl) (fun _ _ _ h=>h) (Or.inl ⟨by rfl,by rintro w ⟨c3,c4⟩;go_simp⟩) hHeld ?_;simp only [Act.put,LG,LH,LI];refine wpAnyH_ready (rs:=[7]) (by kernel_rfl) (by simp) ?_;refine AllReadyH.cons (o:=_) rfl (fun K hK=>?_) AllReadyH.nil;go_simp
       refine (CP.out _ (RT.out _ (bK V))).mono ?_;rintro e w6 ⟨rfl,rfl⟩;refine hK.out _ _ hHeld (fun hHeld5=>?_);try simp only [Act.put,LG,LH,LI]
       clear hK K;refine wpAnyH_ready (rs:=[12]) (by kernel_rfl) (by simp) ?_;refine AllReadyH.cons (o:=_) rfl (fun K hK=>?_) AllReadyH.nil;go_simp
       refine hK.out _ _ CZ.out (fun hHeld6=>?_);try simp only [Act.put,LG,LH,LI]
       clear hK K hHeld5;refine aB (i:=13) (d:=some 3) (v:=.int .i64 ((eD s0.size ts s.whr:Nat):Int)) rfl rfl (by kernel_rfl) (by kernel_rfl) (by kernel_rfl) (fun _ _ _ h=>h) (Or.inl ⟨by rfl,by rintro w ⟨c3,c4⟩;go_simp⟩) hHeld6 ?_;simp only [Act.put,LG,LH,LI];refine aB (i:=14) (d:=some 4) (v:=.int .i64 s.bad) rfl rfl (by kernel_rfl) (by kernel_rfl) (by kernel_rfl) (fun _ _ _ h=>h) (Or.inl ⟨by rfl,by rintro w ⟨c3,c4⟩;go_simp⟩) hHeld6 ?_;simp only [Act.put,LG,LH,LI];refine wpAnyH_done (by kernel_rfl) ?_ _;clear hHeld6;go_wp2_with fail
       obtain ⟨y0,y1,y2,y3,y4,y5,y6,y7,y8,y9,y10⟩:=aC (Ez K0.out);dsimp only [dX,aN,aI,aD,F.len,List.length_nil] at y0 y1 y2 y3 y4 y5 y6 y7 y8 y9 y10;exact bodyPost_ret (v:=.tuple #[agV aN aI,.int .i64 ((eD s0.size ts s.whr:Nat):Int),.int .i64 s.bad]) (by simp [results,Tryz.results10,go_sem,y0,y1,y2,y3,y4,y5,y6,y7,y8,y9,y10,aN,aI,aD,F.len]) rfl (by rw [HRES.out];exact Kt K0.out)
theorem uS (s0:ByteArray) (w:World):Calls Tryz.prog 10 #[.string s0] w (kD (agX s0.data.toList) w):=by
 unfold agX;cases hL:fJ s0.data.toList with
 | bad p er=>exact J3 s0 w hL
 | ok ts =>
   have h:=J0 s0 w hL;have hs:s0.size=s0.data.toList.length:=by simp
   rw [hs] at h;simp only;cases ha:agL ts with
   | bad p er=>rw [ha] at h;exact h
   | ok a=>rw [ha] at h;exact h
theorem Fd (s:ByteArray) (ts:List Tk) (a:Option Addr) (c p:Nat) (hp:p<=ts.length) (w:World) (hr:eW w a ts) :
 Calls Tryz.prog 30 #[.string s,.slice a ts.length c,.int .i64 p] w fun e w'=>e=.returned (.int .i64 ((eD s.size ts p:Nat):Int))/\w=w':=by
 by_cases hlt:p<ts.length
 · obtain ⟨b,off,ha, -,hc⟩:=hr.resolve_left (by intro e;rw [e] at hlt;simp at hlt)
   obtain ⟨-, -, -,p3⟩:=hc p hlt;subst ha;have e:eD s.size ts p=ts[p].place:=by unfold eD;rw [List.getElem?_eq_getElem hlt]
   rw [e];have a1:((p:Int) == (ts.length:Int))=false:=by rw [beq_eq_false_iff_ne];omega
   have a2:(p:Int)<(ts.length:Int):=by omega
   have a3:(0:Int)<=(p:Int):=by omega
   have a4:((p:Int)).toNat=p:=by omega
   clear hc;go_enter Tryz.func30,Tryz.ntmps30
   go_wp2_with fail
   go_ret;exact ⟨rfl,rfl⟩
 · have e:eD s.size ts p=s.size:=by unfold eD;rw [List.getElem?_eq_none (by omega)]
   rw [e];have a1:((p:Int) == (ts.length:Int))=true:=by rw [beq_iff_eq];omega
   clear hr;go_enter Tryz.func30,Tryz.ntmps30
   go_wp2_with fail
   go_ret;exact ⟨rfl,rfl⟩
theorem PR.drew {ts:List Tk} {rb:Nat} {a:Option Addr} {c p:Nat} {er:Int} {w:World} (h:PR ts rb a c p er w):PR ts rb a c p er w.drew:=h.drewN 1
theorem FX {ts:List Tk} {rb:Nat} {a:Option Addr} {c pos:Nat} {er:Int} {W:World} (h:PR ts rb a c pos er W) {B:Nat} (hB:B<rb) (ht:ts=[]\/∃ b off,a=some ⟨b,off,none⟩/\B<b) :
 (dX W B aN aI).drew.cell? ⟨rb,1,none⟩=some (.int .i64 (pos:Nat))/\(dX W B aN aI).drew.cell? ⟨rb,2,none⟩=some (.int .i64 er)/\eW (dX W B aN aI).drew a ts:=by
 have KP:=bH W B aN aI
 have P0:PR ts rb a c pos er (dX W B aN aI):=by
  refine ⟨KP.heap h.r (by omega),?_,h.p,h.n⟩;rcases h.t with h0 | ⟨b,off,rfl,hlt,hc⟩
  · exact .inl h0
  · rcases ht with h0 | ⟨b',off',e,hb⟩
    · exact .inl h0
    · cases e
      refine .inr ⟨b,off,rfl,hlt,fun j hj=>?_⟩;obtain ⟨c0,c1,c2,c3⟩:=hc j hj;exact ⟨KP.cell c0 (by show ¬ b=B;omega),KP.cell c1 (by show ¬ b=B;omega),KP.cell c2 (by show ¬ b=B;omega),KP.cell c3 (by show ¬ b=B;omega)⟩
 obtain ⟨⟨u0,u1,u2⟩, -⟩:=cV P0.r;exact ⟨nZ u1,nZ u2,P0.drew.reads⟩
theorem DS {W:World} {B:Nat} (h:W.heap[B]? = some (agP aN aI)):(dX W B aN aI).drew.heap[B]? = some (agP aN aI):=vZ (cB (t:=28) h aN aI)
theorem Iv {ts:List Tk} {rb:Nat} {a:Option Addr} {c pos:Nat} {er:Int} {w W:World} {s:ByteArray} (_h:PR ts rb a c pos er W) (hb:Below w.heap.size w W) :
 kD (agQ s.size ts (.bad pos er)) w (.returned (.tuple #[agV aN aI,.int .i64 ((eD s.size ts pos:Nat):Int),.int .i64 er])) (dX W w.heap.size aN aI).drew :=
 ⟨uI (hb.trans ((bH W w.heap.size aN aI).below (B:=w.heap.size) (fun k hk=>by omega) hb.size)),rfl⟩
theorem J5 (s0:ByteArray) (hm:s0.size<=281474976710656) (w:World) (hw:iJ w) {p:Nat} {er:Int} (hL:fJ s0.data.toList=.bad p er):Calls Tryz.prog 9 #[.string s0] w (kD (.bad p er) w):=by
 obtain ⟨-,qe⟩:=mS hL;have B1:=(Below.refl w.heap.size w).alloc (Nat.le_refl _) (agP aN aI);have NB:=heap_alloc_new w (agP aN aI);have hs0:(w.alloc (agP aN aI)).heap.size=w.heap.size+1:=World.size_alloc _ _;have HL:=aA (hw.step B1);generalize hW:w.alloc (agP aN aI)=W at *;have HW:=aA hW;have C:=aA (rM s0 hm W HL.out);rw [hL] at C;clear hW hw;go_enter Tryz.func9,Tryz.ntmps9
 go_upto_region 1 with fail
 rw [show w.alloc (.cells #[.string ⟨#[]⟩,.int .i64 0,.string ⟨#[]⟩,.string ⟨#[]⟩,.int .i64 0,.slice none 0 0,.string ⟨#[]⟩,.string ⟨#[]⟩,.int .i64 0,.slice none 0 0,.slice none 0 0] 28)=W from HW.out];go_wp2_with fail
 refine C.out.mono ?_;rintro e w1 ⟨hb,rfl⟩;have N1:=(hb.block w.heap.size (by omega)).trans NB;have hz:=hb.size;have B2:=aA (B1.trans (hb.mono (by omega)));obtain ⟨z0,z1,z2,z3,z4,z5,z6,z7,z8,z9,z10⟩:=bE N1;obtain ⟨b0,b1,b2,b3,b4,b5,b6,b7,b8,b9,b10⟩:=aC N1;have N2:=aA N1;clear hb N1 C HW;go_wp2_with fail
 have KP:=bH w1 w.heap.size aN aI;obtain ⟨y0,y1,y2,y3,y4,y5,y6,y7,y8,y9,y10⟩:=aC (cB (t:=28) N2.out aN aI);dsimp only [dX,aN,aI,aD,F.len,List.length_nil] at y0 y1 y2 y3 y4 y5 y6 y7 y8 y9 y10;exact bodyPost_ret (v:=.tuple #[agV aN aI,.int .i64 (p:Nat),.int .i64 er]) (by simp [results,Tryz.results9,go_sem,y0,y1,y2,y3,y4,y5,y6,y7,y8,y9,y10,aN,aI,aD,F.len]) rfl ⟨B2.out.trans (KP.below (B:=w.heap.size) (fun k hk=>by omega) (by omega)),rfl⟩
theorem J4 (s0:ByteArray) (hm:s0.size<=281474976710656) (w:World) (hw:iJ w) {ts:List Tk} (hL:fJ s0.data.toList=.ok ts):Calls Tryz.prog 9 #[.string s0] w (kD (agQ s0.size ts (agL ts)) w):=by
 rw [Ky];have hlen:=Ah hL;have B1:=(Below.refl w.heap.size w).alloc (Nat.le_refl _) (agP aN aI);have NB:=heap_alloc_new w (agP aN aI);have hs0:(w.alloc (agP aN aI)).heap.size=w.heap.size+1:=World.size_alloc _ _;have HL:=aA (hw.step B1);generalize hW:w.alloc (agP aN aI)=W at *;have HW:=aA hW;have C:=aA (rM s0 hm W HL.out);rw [hL] at C;have HB1:=aA B1;have HNB:=aA NB;have HGT:=aA (qR hL);have HOT:=aA (IR hL);obtain ⟨R,hR⟩:∃ R,agS ts=R:=⟨_,rfl⟩;rw [hR];have HRR:=aA hR;clear hW hw hR B1 NB HL hL;go_enter Tryz.func9,Tryz.ntmps9
 go_upto_region 1 with fail
 rw [show w.alloc (.cells #[.string ⟨#[]⟩,.int .i64 0,.string ⟨#[]⟩,.string ⟨#[]⟩,.int .i64 0,.slice none 0 0,.string ⟨#[]⟩,.string ⟨#[]⟩,.int .i64 0,.slice none 0 0,.slice none 0 0] 28)=W from HW.out];go_wp2_with fail
 refine C.out.mono ?_;rintro e w1 ⟨hb,a,c,rfl,ho⟩;have hz:=hb.size;have N1:=(hb.block w.heap.size (by omega)).trans HNB.out;have B2:=HB1.out.trans (hb.mono (by omega));have R1:=oT ho;have TK:=aA (JC (n:=w.heap.size) (m:=ts.length) (c:=c) R1 (fun q hq=>by have:=(ho.lt q hq).1;omega));have BA:=(Below.refl w1.heap.size w1).alloc (Nat.le_refl _) (.cells #[.slice a ts.length c,.int .i64 0,.int .i64 0] 75);have NA:=heap_alloc_new w1 (.cells #[.slice a ts.length c,.int .i64 0,.int .i64 0] 75);have hs1:(w1.alloc (.cells #[.slice a ts.length c,.int .i64 0,.int .i64 0] 75)).heap.size=w1.heap.size+1:=World.size_alloc _ _
 have P1:=aA (show PR ts w1.heap.size a c 0 0 (w1.alloc (.cells #[.slice a ts.length c,.int .i64 0,.int .i64 0] 75)) from
  ⟨NA,(r9 R1).kept (aF BA (fun _=>False)) (fun _ h=>h.elim),Nat.zero_le _,by omega⟩)
 have N2:=aA ((BA.block w.heap.size (by omega)).trans N1);have B3:=aA (B2.trans (BA.mono (by omega)));clear hb N1 B2 R1 BA NA ho C HW HB1 HNB;go_upto_region 5 with fail
 generalize w1.alloc (.cells #[.slice a ts.length c,.int .i64 0,.int .i64 0] 75)=W1 at *;generalize w1.heap.size=rb at *;have CA:=aA (Hm ts HGT.out HOT.out rb a c W1 P1.out);rw [HRR.out] at CA;go_wp2_with fail
 refine CA.out.mono ?_;rintro e w2 ⟨x,q,pos,er,rfl,P2,K2,hres⟩;have BA:=(Below.refl w2.heap.size w2).alloc (Nat.le_refl _) (agP x q);have NA:=heap_alloc_new w2 (agP x q);have hs2:(w2.alloc (agP x q)).heap.size=w2.heap.size+1:=World.size_alloc _ _;have hz2:=K2.size;have P3:=aA (P2.below BA);have N3:=aA ((BA.block w.heap.size (by omega)).trans (K2.heap N2.out (by omega)));have B4:=aA ((B3.out.trans (K2.below (B:=w.heap.size) (fun k hk=>by omega) (by omega))).trans (BA.mono (by omega)));have HRE:=aA hres;have HBA:=aA BA;clear P2 K2 BA CA P1 N2 B3 hres;go_upto_region 6 with fail
 generalize w2.alloc (agP x q)=W2 at *;generalize hab:w2.heap.size=ab at *;have P4:=aA P3.out;obtain ⟨⟨c0,c1,c2⟩, -⟩:=cV P3.out.r;have HNA:=aA NA;clear P3 NA;have hh:=HRE.out;cases R with
 | bad pq eq =>
   simp only at hh;obtain ⟨hne,rfl,rfl⟩:=hh;have q1:((er:Int) != 0)=true:=by simpa using hne
   have RT:eW W2.drew a ts:=P4.out.drew.reads;have HPP:=aA P4.out.p;have cch:=FX P4.out (B:=w.heap.size) (by omega) TK.out;dsimp only [dX,aN,aI,aD,F.len,List.length_nil] at cch;have CCH:=aA cch;clear cch;have YY:=aA (DS (W:=W2) N3.out);have pf:=Iv (s:=s0) (er:=er) P4.out B4.out;dsimp only [dX,aN,aI,aD,F.len,List.length_nil] at pf;have PF:=aA pf;clear pf;clear hne;go_upto_region 7 with fail
   obtain ⟨z0,z1,z2,z3,z4,z5,z6,z7,z8,z9,z10⟩:=bE N3.out;obtain ⟨b0,b1,b2,b3,b4,b5,b6,b7,b8,b9,b10⟩:=aC N3.out;dsimp only [aN,aI,aD,F.len,List.length_nil] at b0 b1 b2 b3 b4 b5 b6 b7 b8 b9 b10;refine wp_region_held_drew (S:=fun V=>V.cell? ⟨rb,1,none⟩=some (.int .i64 (pos:Nat))/\V.cell? ⟨rb,2,none⟩=some (.int .i64 er)/\eW V a ts) (by kernel_rfl) ⟨c1,c2,RT⟩ (fun hHeld=>?_);refine aB (i:=0) (d:=some 27) (v:=.agg #[.string ⟨#[]⟩,.int .i64 0,.string ⟨#[]⟩,.string ⟨#[]⟩,.int .i64 0,.slice none 0 0,.string ⟨#[]⟩,.string ⟨#[]⟩,.int .i64 0,.slice none 0 0,.slice none 0 0]) rfl rfl (by kernel_rfl) (by kernel_rfl) (by kernel_rfl) (fun _ _ _ h=>h) (Or.inl ⟨by rfl,by rintro w ⟨c1,c2,rt⟩;go_simp⟩) hHeld ?_;simp only [Act.put,LG,LH,LI];refine aB (i:=1) (d:=some 28) (v:=.string s0) rfl rfl (by kernel_rfl) (by kernel_rfl) (by kernel_rfl) (fun _ _ _ h=>h) (Or.inl ⟨by rfl,by rintro w ⟨c1,c2,rt⟩;go_simp⟩) hHeld ?_;simp only [Act.put,LG,LH,LI];refine aB (i:=2) (d:=some 29) (v:=.slice a ts.length c) rfl rfl (by kernel_rfl) (by kernel_rfl) (by kernel_rfl) (fun _ _ _ h=>h) (Or.inl ⟨by rfl,by rintro w ⟨c1,c2,rt⟩;go_simp⟩) hHeld ?_;simp only [Act.put,LG,LH,LI];refine aB (i:=3) (d:=some 30) (v:=.pointer (some ⟨rb,1,none⟩)) rfl rfl (by kernel_rfl) (by kernel_rfl) (by kernel_rfl) (fun _ _ _ h=>h) (Or.inl ⟨by rfl,by rintro w ⟨c1,c2,rt⟩;go_simp⟩) hHeld ?_;simp only [Act.put,LG,LH,LI];refine aB (i:=4) (d:=some 31) (v:=.int .i64 (pos:Nat)) rfl rfl (by kernel_rfl) (by kernel_rfl) (by kernel_rfl) (fun _ _ _ h=>h) (Or.inl ⟨by rfl,by rintro w ⟨c1,c2,rt⟩;go_simp⟩) hHeld ?_
   simp only [Act.put,LG,LH,LI];refine aB (i:=6) (d:=some 33) (v:=.pointer (some ⟨rb,2,none⟩)) rfl rfl (by kernel_rfl) (by kernel_rfl) (by kernel_rfl) (fun _ _ _ h=>h) (Or.inl ⟨by rfl,by rintro w ⟨c1,c2,rt⟩;go_simp⟩) hHeld ?_;simp only [Act.put,LG,LH,LI];refine aB (i:=7) (d:=some 34) (v:=.int .i64 er) rfl rfl (by kernel_rfl) (by kernel_rfl) (by kernel_rfl) (fun _ _ _ h=>h) (Or.inl ⟨by rfl,by rintro w ⟨c1,c2,rt⟩;go_simp⟩) hHeld ?_;simp only [Act.put,LG,LH,LI];refine wpAnyH_ready (rs:=[5]) (by kernel_rfl) (by simp) ?_;refine AllReadyH.cons (o:=_) rfl (fun K hK=>?_) AllReadyH.nil;go_simp
   refine (Fd s0 ts a c pos HPP.out W2.drew RT).mono ?_;rintro e w5 ⟨rfl,rfl⟩;refine hK.out _ _ hHeld (fun hHeld2=>?_);try simp only [Act.put,LG,LH,LI]
   clear hK K;have CC:=CCH.out;refine wpAnyH_ready (rs:=[8]) (by kernel_rfl) (by simp) ?_;refine AllReadyH.cons (o:=_) rfl (fun K hK=>?_) AllReadyH.nil;go_simp
   refine hK.out _ _ CC (fun hHeld3=>?_);try simp only [Act.put,LG,LH,LI]
   clear hK K;refine aB (i:=9) (d:=some 3) (v:=.int .i64 ((eD s0.size ts pos:Nat):Int)) rfl rfl (by kernel_rfl) (by kernel_rfl) (by kernel_rfl) (fun _ _ _ h=>h) (Or.inl ⟨by rfl,by rintro w ⟨c1,c2,rt⟩;go_simp⟩) hHeld3 ?_;simp only [Act.put,LG,LH,LI];refine aB (i:=10) (d:=some 4) (v:=.int .i64 er) rfl rfl (by kernel_rfl) (by kernel_rfl) (by kernel_rfl) (fun _ _ _ h=>h) (Or.inl ⟨by rfl,by rintro w ⟨c1,c2,rt⟩;go_simp⟩) hHeld3 ?_;simp only [Act.put,LG,LH,LI];refine wpAnyH_done (by kernel_rfl) ?_ _;obtain ⟨y0,y1,y2,y3,y4,y5,y6,y7,y8,y9,y10⟩:=aC YY.out;dsimp only [dX,aN,aI,aD,F.len,List.length_nil] at y0 y1 y2 y3 y4 y5 y6 y7 y8 y9 y10;clear hHeld hHeld2 hHeld3 CC c0 c1 c2 RT z0 z1 z2 z3 z4 z5 z6 z7 z8 z9 z10 b0 b1 b2 b3 b4 b5 b6 b7 b8 b9 b10;go_wp2
   exact bodyPost_ret (v:=.tuple #[agV aN aI,.int .i64 ((eD s0.size ts pos:Nat):Int),.int .i64 er]) (by simp [results,Tryz.results9,go_sem,y0,y1,y2,y3,y4,y5,y6,y7,y8,y9,y10,aN,aI,aD,F.len]) rfl PF.out
 | ok y =>
   simp only at hh;obtain ⟨rfl,rfl,rd⟩:=hh;obtain ⟨m0,m1,m2,m3,m4,m5,m6,m7,m8,m9,m10⟩:=aC HNA.out;obtain ⟨z0,z1,z2,z3,z4,z5,z6,z7,z8,z9,z10⟩:=bE N3.out;obtain ⟨b0,b1,b2,b3,b4,b5,b6,b7,b8,b9,b10⟩:=aC N3.out;have RD:=aA (rd.kept (by rw [hab];exact HBA.out));have hlt:w.heap.size<ab:=by have:=hz2;omega
   clear rd;go_wp2_with fail
   have KP:=bH W2 w.heap.size x q;obtain ⟨y0,y1,y2,y3,y4,y5,y6,y7,y8,y9,y10⟩:=aC (cB (t:=28) N3.out x q)
   have PF:=aA (show kD (agQ s0.size ts (.ok x)) w (.returned (.tuple #[agV x q,.int .i64 0,.int .i64 0])) (dX W2 w.heap.size x q) from
    ⟨B4.out.trans (KP.below (B:=w.heap.size) (fun k hk=>by omega) B4.out.size),q,rfl,(RD.out.keptS KP (fun k hk=>by omega)).imp (fun b _ hb=>by omega)⟩)
   exact bodyPost_ret (v:=.tuple #[agV x q,.int .i64 0,.int .i64 0]) (by simp [results,Tryz.results9,go_sem,y0,y1,y2,y3,y4,y5,y6,y7,y8,y9,y10]) rfl PF.out
theorem gY (s0:ByteArray) (hm:s0.size<=281474976710656) (w:World) (hw:iJ w):Calls Tryz.prog 9 #[.string s0] w (kD (agX s0.data.toList) w):=by
 have hl:s0.data.toList.length=s0.size:=by simp
 cases hL:fJ s0.data.toList with
 | bad p er =>
   have e:agX s0.data.toList=.bad p er:=by unfold agX;rw [hL]
   rw [e];exact J5 s0 hm w hw hL
 | ok ts =>
   have e:agX s0.data.toList=agQ s0.size ts (agL ts):=by
    unfold agX agQ;rw [hL,hl];simp only;cases agL ts <;> rfl
   rw [e];exact J4 s0 hm w hw hL
def Kq:List Tk:=[⟨1,[115,117,109],0,0⟩,⟨3,[40],0,3⟩,⟨1,[120],0,4⟩,⟨3,[41],0,5⟩,⟨1,[119,104,101,114,101],0,7⟩,⟨1,[121],0,13⟩,⟨3,[62],0,15⟩,⟨2,[49],1,17⟩,⟨1,[97,110,100],0,19⟩,⟨1,[120],0,23⟩,⟨3,[33,61],0,25⟩,⟨2,[51],3,28⟩]
def Kp:List Tk:=[⟨1,[97,118,103],0,0⟩,⟨3,[40],0,3⟩,⟨1,[120],0,4⟩,⟨3,[41],0,5⟩]
def Kr:List Tk:=[⟨1,[116,111,112],0,0⟩,⟨3,[40],0,3⟩,⟨2,[50],2,4⟩,⟨3,[44],0,5⟩,⟨1,[120],0,7⟩,⟨3,[41],0,8⟩]
def fV:AG:=⟨⟨#[115,117,109]⟩,0,dO [120],aD,[⟨⟨#[62]⟩,dO [121],mR 1⟩,⟨⟨#[33,61]⟩,dO [120],mR 3⟩]⟩
def lX:AG:=⟨⟨#[116,111,112]⟩,2,dO [120],aD,[]⟩
theorem cJ {l:List UInt8} {p:Nat} {k v:Int} {n:Nat} {ts:List Tk} (h1:¬ l.head? = some 32) (hn:1<=n) (h:cU l=.tok k n v) (hr:c8 (l.drop n) (p+n)=.ok ts):c8 l p=.ok (⟨k,l.take n,v,p⟩::ts):=by
 rw [lS h1 hn h,hr];rfl
theorem I4:c8 [115,117,109,40,120,41,32,119,104,101,114,101,32,121,32,62,32,49,32,97,110,100,32,120,32,33,61,32,51] 0=.ok Kq:=by
 refine cJ (n:=3) (k:=1) (v:=0) (by decide) (by decide) (by rfl) ?_;refine cJ (n:=1) (k:=3) (v:=0) (by decide) (by decide) (by rfl) ?_;refine cJ (n:=1) (k:=1) (v:=0) (by decide) (by decide) (by rfl) ?_;refine cJ (n:=1) (k:=3) (v:=0) (by decide) (by decide) (by rfl) ?_;refine (dC _ _).trans ?_;refine cJ (n:=5) (k:=1) (v:=0) (by decide) (by decide) (by rfl) ?_;refine (dC _ _).trans ?_;refine cJ (n:=1) (k:=1) (v:=0) (by decide) (by decide) (by rfl) ?_;refine (dC _ _).trans ?_;refine cJ (n:=1) (k:=3) (v:=0) (by decide) (by decide) (by rfl) ?_;refine (dC _ _).trans ?_;refine cJ (n:=1) (k:=2) (v:=1) (by decide) (by decide) (by rfl) ?_;refine (dC _ _).trans ?_;refine cJ (n:=3) (k:=1) (v:=0) (by decide) (by decide) (by rfl) ?_;refine (dC _ _).trans ?_;refine cJ (n:=1) (k:=1) (v:=0) (by decide) (by decide) (by rfl) ?_;refine (dC _ _).trans ?_;refine cJ (n:=2) (k:=3) (v:=0) (by decide) (by decide) (by rfl) ?_;refine (dC _ _).trans ?_;refine cJ (n:=1) (k:=2) (v:=3) (by decide) (by decide) (by rfl) ?_;exact iA _
theorem I3:c8 [97,118,103,40,120,41] 0=.ok Kp:=by
 refine cJ (n:=3) (k:=1) (v:=0) (by decide) (by decide) (by rfl) ?_;refine cJ (n:=1) (k:=3) (v:=0) (by decide) (by decide) (by rfl) ?_;refine cJ (n:=1) (k:=1) (v:=0) (by decide) (by decide) (by rfl) ?_;refine cJ (n:=1) (k:=3) (v:=0) (by decide) (by decide) (by rfl) ?_;exact iA _
theorem I2:c8 [116,111,112,40,50,44,32,120,41] 0=.ok Kr:=by
 refine cJ (n:=3) (k:=1) (v:=0) (by decide) (by decide) (by rfl) ?_;refine cJ (n:=1) (k:=3) (v:=0) (by decide) (by decide) (by rfl) ?_;refine cJ (n:=1) (k:=2) (v:=2) (by decide) (by decide) (by rfl) ?_;refine cJ (n:=1) (k:=3) (v:=0) (by decide) (by decide) (by rfl) ?_;refine (dC _ _).trans ?_;refine cJ (n:=1) (k:=1) (v:=0) (by decide) (by decide) (by rfl) ?_;refine cJ (n:=1) (k:=3) (v:=0) (by decide) (by decide) (by rfl) ?_;exact iA _
theorem Ko:agX (⟨#[115,117,109,40,120,41,32,119,104,101,114,101,32,121,32,62,32,49,32,97,110,100,32,120,32,33,61,32,51]⟩:ByteArray).data.toList=.ok fV:=by
 have h:fJ (⟨#[115,117,109,40,120,41,32,119,104,101,114,101,32,121,32,62,32,49,32,97,110,100,32,120,32,33,61,32,51]⟩:ByteArray).data.toList=.ok Kq:=by
  unfold fJ;rw [if_neg (by decide)];exact I4
 unfold agX;rw [h];simp only;rw [show agL Kq=.ok fV by rfl];all_goals rfl
theorem Kn:agX (⟨#[97,118,103,40,120,41]⟩:ByteArray).data.toList=.bad 0 5:=by
 have h:fJ (⟨#[97,118,103,40,120,41]⟩:ByteArray).data.toList=.ok Kp:=by
  unfold fJ;rw [if_neg (by decide)];exact I3
 unfold agX;rw [h];simp only;rw [show agL Kp=.bad 0 5 by rfl];all_goals rfl
theorem Km:agX (⟨#[116,111,112,40,50,44,32,120,41]⟩:ByteArray).data.toList=.ok lX:=by
 have h:fJ (⟨#[116,111,112,40,50,44,32,120,41]⟩:ByteArray).data.toList=.ok Kr:=by
  unfold fJ;rw [if_neg (by decide)];exact I2
 unfold agX;rw [h];simp only;rw [show agL Kr=.ok lX by rfl];all_goals rfl
theorem kY:jT fV=0:=by rfl
theorem Al:jT lX=0:=by rfl
theorem kX:oL fV:=⟨by simp [fV,dO,TN.f,eV],by simp [fV,aD,TN.f,eV],fun d hd=>by
 simp only [fV,List.mem_cons,List.not_mem_nil,or_false] at hd;rcases hd with rfl | rfl <;> simp [dO,mR,TN.f,eV]⟩
theorem vW:oL lX:=⟨by simp [lX,dO,TN.f,eV],by simp [lX,aD,TN.f,eV],fun d hd=>by simp [lX] at hd⟩
theorem Dc:SzG fV:=⟨by simp [fV,dO,TN.f,SzF,F.len,ByteArray.size],by simp [fV,aD,TN.f,SzF,F.len,ByteArray.size],fun d hd=>by
 simp only [fV,List.mem_cons,List.not_mem_nil,or_false] at hd;rcases hd with rfl | rfl <;> simp [dO,mR,TN.f,SzF,F.len,ByteArray.size]⟩
theorem I6:SzG lX:=⟨by simp [lX,dO,TN.f,SzF,F.len,ByteArray.size],by simp [lX,aD,TN.f,SzF,F.len,ByteArray.size],fun d hd=>by simp [lX] at hd⟩
theorem Gu:yX fV=[115,117,109,40,120,41,32,119,104,101,114,101,32,121,32,62,32,49,32,97,110,100,32,120,32,33,61,32,51]:=by
 have h1:Lib.itoa 1=[49]:=by simp [Lib.itoa,Lib.decDigits]
 have h3:Lib.itoa 3=[51]:=by simp [Lib.itoa,Lib.decDigits]
 have:yX fV=[115,117,109,40,120,41,32,119,104,101,114,101,32,121,32,62,32]++(Lib.itoa 1++([32,97,110,100,32,120,32,33,61,32]++(Lib.itoa 3++[]))):=by rfl
 rw [this,h1,h3];rfl
theorem Gv:mO fV fV=true:=by
 simp only [mO,fV,eX,Lib.toList_data];rfl
theorem Ep:mO fV lX=false:=by
 simp only [mO,fV,lX,eX,Lib.toList_data];rfl
def A11 (x y:Int) (j:Nat):Wr.AD:=if j=0 then ⟨⟨#[120]⟩,1,x,⟨#[]⟩,0,fun _=>0⟩ else ⟨⟨#[121]⟩,1,y,⟨#[]⟩,0,fun _=>0⟩
def g11 (x y:Int) (m:ByteArray):Option Int:=if m=⟨#[120]⟩ then some x else if m=⟨#[121]⟩ then some y else none
theorem Ia (x y:Int) (hx:bQ x) (hy:bQ y):j5 (A11 x y) 2 (g11 x y) where
 ok:={
  yes:=fun j hj=>by
   have:j=0\/j=1:=by omega
   rcases this with rfl | rfl <;> rfl
  no:=fun z h=>by
   unfold g11;rw [if_neg fun e=>h 0 (by decide) (by rw [e];rfl),if_neg fun e=>h 1 (by decide) (by rw [e];rfl)]
  fit:=fun z v h=>by
   unfold g11 at h;split at h
   · cases h;exact hx
   · split at h
     · cases h;exact hy
     · cases h }
 ri:=fun i j hij hj=>by
  obtain rfl:i=0:=by omega
  obtain rfl:j=1:=by omega
  show Op.bytesLess (⟨#[120]⟩:ByteArray).toList (⟨#[121]⟩:ByteArray).toList=true;rw [Lib.toList_data,Lib.toList_data];decide
 few:=by decide
 sm:=fun j hj=>by
  have:j=0\/j=1:=by omega
  rcases this with rfl | rfl <;> exact Nat.zero_le _
abbrev o11 (x y:Int):Obj:=.cells #[.string ⟨#[120]⟩,.int .i64 1,.int .i64 x,.string ⟨#[]⟩,.slice none 0 0,.string ⟨#[121]⟩,.int .i64 1,.int .i64 y,.string ⟨#[]⟩,.slice none 0 0] 67
theorem sA {w:World} {b:Nat} {x y:Int} (h:w.heap[b]? = some (o11 x y)):Wr.ReadsA w (some ⟨b,0,none⟩) 2 (A11 x y):=by
 refine ⟨by unfold maxLen;omega,.inr ⟨b,0,rfl,fun j hj=>?_⟩⟩;have:j=0\/j=1:=by omega
 rcases this with rfl | rfl
 · exact ⟨none,0,⟨by simp [World.cell?,h,A11],by simp [World.cell?,h,A11],by simp [World.cell?,h,A11],by simp [World.cell?,h,A11],by simp [World.cell?,h,A11]⟩,Nat.zero_le _,.inl rfl⟩
 · exact ⟨none,0,⟨by simp [World.cell?,h,A11],by simp [World.cell?,h,A11],by simp [World.cell?,h,A11],by simp [World.cell?,h,A11],by simp [World.cell?,h,A11]⟩,Nat.zero_le _,.inl rfl⟩
def r11 (x y:Int):RW:=⟨2,A11 x y,g11 x y⟩
def tC:List RW:=[r11 5 2,r11 3 2,r11 7 1,r11 2 9]
theorem tB:∀ r∈tC,j5 r.A r.n r.g:=by
 intro r hr;simp only [tC,List.mem_cons,List.not_mem_nil,or_false] at hr;rcases hr with rfl | rfl | rfl | rfl <;> exact Ia _ _ (by unfold bQ;omega) (by unfold bQ;omega)
theorem JW:evG fV (tC.map RW.g)=.num 7:=by rfl
theorem JV:evG lX (tC.map RW.g)=.list [5,7]:=by rfl
theorem pQ (x y:Int) (w:World):Calls Tryz.prog 27 #[.int .i64 x,.int .i64 y] w fun e w'=>e=.returned (.slice (some ⟨w.heap.size,0,none⟩) 2 2)/\w'=w.alloc (o11 x y):=by
 go_enter Tryz.func27,Tryz.ntmps27
 go_wp2
 go_ret;exact ⟨rfl,rfl⟩
structure K11 (w:World) (x:AG) (n1:Nat) (p1:PA) (V:World):Prop where
 b:Below w.heap.size w V
 l:oM V
 z:w.heap.size<=V.heap.size
 n:V.heap[n1]? = some (agP x p1)
 r:aP (fun b=>w.heap.size<=b) V x p1
theorem K11.step {w V V':World} {x:AG} {n1:Nat} {p1:PA} (h:K11 w x n1 p1 V) (hb:Below V.heap.size V V'):K11 w x n1 p1 V' :=
 ⟨h.b.trans (hb.mono h.z),h.l.step hb,Nat.le_trans h.z hb.size,(hb.block _ (aG h.n)).trans h.n,h.r.kept hb⟩
theorem I5 {w w1:World} {x:AG} {p:PA} (hl:oM w) (hb:Below w.heap.size w w1) (hr:aP (fun b=>w.heap.size<=b) w1 x p):K11 w x w1.heap.size p (w1.alloc (agP x p)):=by
 have B:=(Below.refl w1.heap.size w1).alloc (Nat.le_refl _) (agP x p);exact ⟨hb.trans (B.mono hb.size),(hl.step hb).step B,Nat.le_trans hb.size B.size,heap_alloc_new w1 _,hr.kept B⟩
structure L11 (x:AG) (n1:Nat) (p1:PA) (V:World):Prop where
 n:V.heap[n1]? = some (agP x p1)
 r:aP (fun _=>True) V x p1
theorem L11.step {V V':World} {x:AG} {n1:Nat} {p1:PA} (h:L11 x n1 p1 V) (hb:Below V.heap.size V V'):L11 x n1 p1 V' :=
 ⟨(hb.block _ (aG h.n)).trans h.n,h.r.kept hb⟩
structure S11 (w:World) (x y:AG) (p q:PA) (n1 n8 n10 n13 lb lo lc:Nat) (V:World):Prop where
 k:K11 w x n1 p V
 y:L11 y n10 q V
 v:V.heap[n8]? = some (vlA 1 7 none 0 0)
 l:V.heap[n13]? = some (vlA 3 0 (some ⟨lb,lo,none⟩) 2 lc)
 lt:lb<V.heap.size
 c0:V.cell? ⟨lb,lo,none⟩=some (.int .i64 5)
 c1:V.cell? ⟨lb,lo+1,none⟩=some (.int .i64 7)
theorem S11.step {w V V':World} {x y:AG} {p q:PA} {n1 n8 n10 n13 lb lo lc:Nat} (h:S11 w x y p q n1 n8 n10 n13 lb lo lc V) (hb:Below V.heap.size V V'):S11 w x y p q n1 n8 n10 n13 lb lo lc V' :=
 ⟨h.k.step hb,h.y.step hb,(hb.block _ (aG h.v)).trans h.v,(hb.block _ (aG h.l)).trans h.l,Nat.lt_of_lt_of_le h.lt hb.size,(hb.cell (p:=⟨lb,lo,none⟩) h.lt).trans h.c0,(hb.cell (p:=⟨lb,lo+1,none⟩) h.lt).trans h.c1⟩
abbrev zL (a:Nat):Obj:=.cells #[.slice (some ⟨a,0,none⟩) 2 2,.slice (some ⟨a+1,0,none⟩) 2 2,.slice (some ⟨a+2,0,none⟩) 2 2,.slice (some ⟨a+3,0,none⟩) 2 2] 64
abbrev W11 (w:World):World:=(((w.alloc (o11 5 2)).alloc (o11 3 2)).alloc (o11 7 1)).alloc (o11 2 9)
theorem JX (w:World):dR ((W11 w).alloc (zL w.heap.size)) (some ⟨w.heap.size+4,0,none⟩) tC/\Below w.heap.size w ((W11 w).alloc (zL w.heap.size)):=by
 have N0:=heap_alloc_new w (o11 5 2);have B0:=(Below.refl w.heap.size w).alloc (Nat.le_refl _) (o11 5 2);have s0:(w.alloc (o11 5 2)).heap.size=w.heap.size+1:=World.size_alloc _ _;unfold W11;generalize w.alloc (o11 5 2)=w1 at *;have N1:=heap_alloc_new w1 (o11 3 2);have B1:=(Below.refl w1.heap.size w1).alloc (Nat.le_refl _) (o11 3 2);have s1:(w1.alloc (o11 3 2)).heap.size=w1.heap.size+1:=World.size_alloc _ _;generalize w1.alloc (o11 3 2)=w2 at *;have N2:=heap_alloc_new w2 (o11 7 1);have B2:=(Below.refl w2.heap.size w2).alloc (Nat.le_refl _) (o11 7 1);have s2:(w2.alloc (o11 7 1)).heap.size=w2.heap.size+1:=World.size_alloc _ _;generalize w2.alloc (o11 7 1)=w3 at *;have N3:=heap_alloc_new w3 (o11 2 9);have B3:=(Below.refl w3.heap.size w3).alloc (Nat.le_refl _) (o11 2 9);have s3:(w3.alloc (o11 2 9)).heap.size=w3.heap.size+1:=World.size_alloc _ _;generalize w3.alloc (o11 2 9)=w4 at *;have N4:=heap_alloc_new w4 (zL w.heap.size);have B4:=(Below.refl w4.heap.size w4).alloc (Nat.le_refl _) (zL w.heap.size);have s4:(w4.alloc (zL w.heap.size)).heap.size=w4.heap.size+1:=World.size_alloc _ _;generalize w4.alloc (zL w.heap.size)=w5 at *;have C34:=B3.trans (B4.mono (by omega));have C24:=B2.trans (C34.mono (by omega));have C14:=B1.trans (C24.mono (by omega));have C04:=B0.trans (C14.mono (by omega));have M3:=(B4.block _ (by omega)).trans N3;have M2:=(C34.block _ (by omega)).trans N2;have M1:=(C24.block _ (by omega)).trans N1;have M0:=(C14.block _ (by omega)).trans N0;rw [show w1.heap.size=w.heap.size+1 by omega] at M1
 rw [show w2.heap.size=w.heap.size+2 by omega] at M2;rw [show w3.heap.size=w.heap.size+3 by omega] at M3;rw [show w4.heap.size=w.heap.size+4 by omega] at N4;refine ⟨.inr ⟨w.heap.size+4,0,rfl,aG N4,fun j r hj=>?_⟩,C04⟩;have hl:=(List.getElem?_eq_some_iff.1 hj).1;have hl4:j<4:=hl;have:j=0\/j=1\/j=2\/j=3:=by omega
 rcases this with rfl | rfl | rfl | rfl <;> cases hj
 · exact ⟨_,2,by simp [World.cell?,N4,r11],sA M0⟩
 · exact ⟨_,2,by simp [World.cell?,N4,r11],sA M1⟩
 · exact ⟨_,2,by simp [World.cell?,N4,r11],sA M2⟩
 · exact ⟨_,2,by simp [World.cell?,N4,r11],sA M3⟩
theorem Ak (w:World) (hw:oM w):Calls Tryz.prog 8 #[] w fun e w'=>e=.returned (.bool true)/\Below w.heap.size w w':=by
 have A1:=fun (w:World) (hw:iJ w)=>gY ⟨#[115,117,109,40,120,41,32,119,104,101,114,101,32,121,32,62,32,49,32,97,110,100,32,120,32,33,61,32,51]⟩ (by decide) w hw
 have A2:=fun (w:World) (hw:iJ w)=>gY ⟨#[97,118,103,40,120,41]⟩ (by decide) w hw
 have A3:=fun (w:World) (hw:iJ w)=>gY ⟨#[116,111,112,40,50,44,32,120,41]⟩ (by decide) w hw
 rw [Ko] at A1;rw [Kn] at A2;rw [Km] at A3;have E1:=fun (G:Nat->Prop) (p:PA) (ya:Option Addr) (V:World) (hr:aP G V fV p) (hy:dR V ya tC)=>IE fV p tC ya 4 V kY kX Dc tB (by decide) hr hy (by rfl)
 have E2:=fun (G:Nat->Prop) (p:PA) (ya:Option Addr) (V:World) (hr:aP G V lX p) (hy:dR V ya tC)=>ID lX p tC ya 4 V Al vW I6 tB (by decide) hr hy (by rfl)
 rw [JW] at E1;rw [JV] at E2;rw [show tC.length=4 by rfl] at E1 E2;have TX:=fun (G:Nat->Prop) (p:PA) (V:World) (hl:j6 V) (hr:aP G V fV p)=>xG fV p V kY kX hl hr
 rw [Gu] at TX;have CK:=fun (G:Nat->Prop) (p:PA) (V:World) (hr:aP G V fV p)=>gZ fV p V Dc (by decide) hr
 rw [kY] at CK;have SM:=fun (G:Nat->Prop) (p:PA) (V:World) (hr:aP G V fV p)=>pW G G fV p fV p V kY kX kY kX hr hr
 rw [Gv] at SM;have SO:=fun (G G':Nat->Prop) (p q:PA) (V:World) (hr:aP G V fV p) (hq:aP G' V lX q)=>pW G G' fV p lX q V kY kX Al vW hr hq
 rw [Ep] at SO;obtain ⟨rs,hrs⟩:∃ r,tC=r:=⟨_,rfl⟩;have RW:=aA (fun w=>JX w);rw [hrs] at E1 E2 RW;generalize fV=x at *;generalize lX=y at *;have A1':=aA A1;have A2':=aA A2;have A3':=aA A3;have E1':=aA E1;have E2':=aA E2;have TX':=aA TX;have CK':=aA CK;have SM':=aA SM;have SO':=aA SO;have LD:=aA hw;clear A1 A2 A3 E1 E2 TX CK SM SO hw hrs;go_enter Tryz.func8,Tryz.ntmps8
 go_wp2_with fail
 refine (A1'.out w LD.out.1).mono ?_;rintro e w1 ⟨hb1,p,rfl,hr1⟩;have S1:=I5 LD.out hb1 hr1;generalize hn1:w1.heap.size=n1 at S1;generalize hV1:w1.alloc (agP x p)=V1 at S1;have HS1:=aA S1;have HN1:=aA hn1;have HV1:=aA hV1;clear hb1 hr1 S1 hn1 hV1 A1';go_upto_region 2 with fail
 rw [show w1.alloc (.cells #[.string x.fn,.int .i64 x.k,.string x.e.op,.string x.e.nm,.int .i64 x.e.n,.slice p.ea x.e.ks.len p.ec,.string x.g.op,.string x.g.nm,.int .i64 x.g.n,.slice p.ga x.g.ks.len p.gc,.slice p.wa x.wh.length p.wc] 28)=V1 from HV1.out,HN1.out];clear HV1 HN1;go_wp2_with fail
 refine (A2'.out V1 HS1.out.l.1).mono ?_;rintro e w2 ⟨hb2,rfl⟩;have S2:=(HS1.out.step hb2).step ((Below.refl w2.heap.size w2).alloc (Nat.le_refl _) (agP aN aI));generalize hn2:w2.heap.size=n2;generalize hV2:w2.alloc (agP aN aI)=V2 at S2;have HS2:=aA S2;have HN2:=aA hn2;have HV2:=aA hV2;clear hb2 S2 hn2 hV2 A2' HS1;go_upto_region 3 with fail
 rw [show w2.alloc (.cells #[.string aN.fn,.int .i64 aN.k,.string aN.e.op,.string aN.e.nm,.int .i64 aN.e.n,.slice aI.ea aN.e.ks.len aI.ec,.string aN.g.op,.string aN.g.nm,.int .i64 aN.g.n,.slice aI.ga aN.g.ks.len aI.gc,.slice aI.wa aN.wh.length aI.wc] 28)=V2 from HV2.out];clear HV2;go_wp2_with fail
 refine (pQ _ _ _).mono ?_;rintro e _ ⟨rfl,rfl⟩;go_wp2_with fail
 refine (pQ _ _ _).mono ?_;rintro e _ ⟨rfl,rfl⟩;go_wp2_with fail
 refine (pQ _ _ _).mono ?_;rintro e _ ⟨rfl,rfl⟩;go_wp2_with fail
 refine (pQ _ _ _).mono ?_;rintro e _ ⟨rfl,rfl⟩;obtain ⟨hrr,hbb⟩:=RW.out V2;have S3:=HS2.out.step hbb;obtain ⟨rb,hrb⟩:∃ rb,V2.heap.size+1+1+1+1=rb:=⟨_,rfl⟩;have hrr2:dR ((W11 V2).alloc (zL V2.heap.size)) (some ⟨rb,0,none⟩) rs:=by rw [<- hrb];exact hrr
 generalize hV3:(W11 V2).alloc (zL V2.heap.size)=V3 at S3 hrr2;have HS3:=aA S3;have HRR:=aA hrr2;have HV3:=aA hV3;have HRB:=aA hrb;clear hrr hbb S3 hrr2 hV3 hrb RW;go_upto_region 4 with fail
 rw [show ((((V2.alloc (o11 5 2)).alloc (o11 3 2)).alloc (o11 7 1)).alloc (o11 2 9)).alloc (.cells #[.slice (some ⟨V2.heap.size,0,none⟩) 2 2,.slice (some ⟨V2.heap.size+1,0,none⟩) 2 2,.slice (some ⟨V2.heap.size+1+1,0,none⟩) 2 2,.slice (some ⟨V2.heap.size+1+1+1,0,none⟩) 2 2] 64)=V3 from HV3.out,HRB.out];clear HV3 HRB HS2;obtain ⟨m0,m1,m2,m3,m4,m5,m6,m7,m8,m9,m10⟩:=aC HS3.out.n;have EV:=aA (E1'.out _ p (some ⟨rb,0,none⟩) V3 HS3.out.r HRR.out);go_wp2_with fail
 refine EV.out.mono ?_;rintro e w4 ⟨hb4,rfl⟩;have BA:=(Below.refl w4.heap.size w4).alloc (Nat.le_refl _) (vlA 1 7 none 0 0);have S4:=(HS3.out.step hb4).step BA;have R4:=fF (fF HRR.out hb4) BA;have N8:=heap_alloc_new w4 (vlA 1 7 none 0 0);generalize hn8:w4.heap.size=n8 at N8;generalize hV4:w4.alloc (vlA 1 7 none 0 0)=V4 at S4 R4 N8;have HS4:=aA S4;have HR4:=aA R4;have HN8:=aA N8;have HE8:=aA hn8;have HV4:=aA hV4;clear hb4 BA S4 R4 N8 hn8 hV4 EV HS3 HRR m0 m1 m2 m3 m4 m5 m6 m7 m8 m9 m10;go_upto_region 5 with fail
 rw [show w4.alloc (.cells #[.int .i64 1,.int .i64 7,.string ⟨#[]⟩,.slice none 0 0] 53)=V4 from HV4.out,HE8.out];clear HV4 HE8;go_wp2_with fail
 refine (A3'.out V4 HS4.out.l.1).mono ?_;rintro e w5 ⟨hb5,q,rfl,hr5⟩;have BA:=(Below.refl w5.heap.size w5).alloc (Nat.le_refl _) (agP y q);have S5:=(HS4.out.step hb5).step BA;have R5:=fF (fF HR4.out hb5) BA;have N8:=(BA.block _ (aG ((hb5.block _ (aG HN8.out)).trans HN8.out))).trans ((hb5.block _ (aG HN8.out)).trans HN8.out);have L5:L11 y w5.heap.size q (w5.alloc (agP y q)):=⟨heap_alloc_new w5 _,(hr5.kept BA).imp (fun _ _ _=>trivial)⟩;generalize hn10:w5.heap.size=n10 at L5;generalize hV5:w5.alloc (agP y q)=V5 at S5 R5 N8 L5;have HS5:=aA S5;have HR5:=aA R5;have HN8':=aA N8;have HL5:=aA L5;have HE10:=aA hn10;have HV5:=aA hV5;clear hb5 hr5 BA S5 R5 N8 L5 hn10 hV5 A3' HS4 HR4 HN8;go_upto_region 6 with fail
 rw [show w5.alloc (.cells #[.string y.fn,.int .i64 y.k,.string y.e.op,.string y.e.nm,.int .i64 y.e.n,.slice q.ea y.e.ks.len q.ec,.string y.g.op,.string y.g.nm,.int .i64 y.g.n,.slice q.ga y.g.ks.len q.gc,.slice q.wa y.wh.length q.wc] 28)=V5 from HV5.out,HE10.out];clear HV5 HE10;obtain ⟨y0,y1,y2,y3,y4,y5,y6,y7,y8,y9,y10⟩:=aC HL5.out.n;have EV:=aA (E2'.out _ q (some ⟨rb,0,none⟩) V5 HL5.out.r HR5.out);go_wp2_with fail
 refine EV.out.mono ?_;rintro e w6 ⟨hb6,la,lc,rfl,hle⟩;obtain ⟨lb,lo,rfl,hl1,hl2,hl3⟩:=hle.resolve_left (by decide);have BA:=(Below.refl w6.heap.size w6).alloc (Nat.le_refl _) (vlA 3 0 (some ⟨lb,lo,none⟩) 2 lc);have C0:=(BA.cell (p:=⟨lb,lo+0,none⟩) hl2).trans (hl3 0 5 rfl);have C1:=(BA.cell (p:=⟨lb,lo+1,none⟩) hl2).trans (hl3 1 7 rfl);rw [Nat.add_zero] at C0;have S6:=(HS5.out.step hb6).step BA;have L6:=(HL5.out.step hb6).step BA;have N8:=(BA.block _ (aG ((hb6.block _ (aG HN8'.out)).trans HN8'.out))).trans ((hb6.block _ (aG HN8'.out)).trans HN8'.out);have N13:=heap_alloc_new w6 (vlA 3 0 (some ⟨lb,lo,none⟩) 2 lc);have T6:=aA (show S11 w x y p q n1 n8 n10 w6.heap.size lb lo lc _ from ⟨S6,L6,N8,N13,Nat.lt_of_lt_of_le hl2 BA.size,C0,C1⟩);clear hb6 hl1 hl2 hl3 BA C0 C1 S6 L6 N8 N13 EV HS5 HL5 HR5 HN8' y0 y1 y2 y3 y4 y5 y6 y7 y8 y9 y10;obtain ⟨m0,m1,m2,m3,m4,m5,m6,m7,m8,m9,m10⟩:=aC T6.out.k.n;have TX:=aA (TX'.out _ p _ T6.out.k.l.2 T6.out.k.r);go_wp2_with fail
 refine TX.out.mono ?_;rintro e w7 ⟨rfl,hb7⟩;have T7:=aA (T6.out.step hb7);clear hb7 TX TX' T6 m0 m1 m2 m3 m4 m5 m6 m7 m8 m9 m10;obtain ⟨m0,m1,m2,m3,m4,m5,m6,m7,m8,m9,m10⟩:=aC T7.out.k.n;obtain ⟨⟨v0,v1,v2,v3⟩, -⟩:=aK T7.out.v;obtain ⟨⟨l0,l1,l2,l3⟩, -⟩:=aK T7.out.l;have c0:=T7.out.c0;have c1:=T7.out.c1;have CK:=aA (CK'.out _ p w7 T7.out.k.r);go_wp2_with fail
 refine CK.out.mono ?_;rintro e w8 ⟨rfl,hb8⟩;have T8:=aA (T7.out.step hb8);clear hb8 CK CK' T7 m0 m1 m2 m3 m4 m5 m6 m7 m8 m9 m10 v0 v1 v2 v3 l0 l1 l2 l3 c0 c1;obtain ⟨m0,m1,m2,m3,m4,m5,m6,m7,m8,m9,m10⟩:=aC T8.out.k.n;have SM:=aA (SM'.out _ p w8 T8.out.k.r);go_wp2_with fail
 refine SM.out.mono ?_;rintro e w9 ⟨rfl,hb9⟩;have T9:=aA (T8.out.step hb9);clear hb9 SM SM' T8 m0 m1 m2 m3 m4 m5 m6 m7 m8 m9 m10;obtain ⟨m0,m1,m2,m3,m4,m5,m6,m7,m8,m9,m10⟩:=aC T9.out.k.n;obtain ⟨y0,y1,y2,y3,y4,y5,y6,y7,y8,y9,y10⟩:=aC T9.out.y.n;have SO:=aA (SO'.out _ _ p q w9 T9.out.k.r T9.out.y.r);go_wp2_with fail
 refine SO.out.mono ?_;rintro e wa ⟨rfl,hba⟩;have TA:=aA (T9.out.step hba);clear hba SO SO' T9 m0 m1 m2 m3 m4 m5 m6 m7 m8 m9 m10 y0 y1 y2 y3 y4 y5 y6 y7 y8 y9 y10;go_wp2_with fail
 go_ret;exact ⟨rfl,TA.out.k.b⟩
end
end Go.Proofs.YtapcjnoaofmmiaaGreatDoor
