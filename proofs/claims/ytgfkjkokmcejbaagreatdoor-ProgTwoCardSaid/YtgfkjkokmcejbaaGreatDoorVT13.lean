/-
 No statement: what ProgTwoLift needs, of the texts QParse, QFew, QLawOf, ZTp, ZParse, ZProg, ZPSmall, OW3.
-/
import Derived.Test.YtgfkjkokmcejbaaGreatDoorVT12
set_option maxHeartbeats 40000000
set_option maxRecDepth 100000
namespace Go.Proofs.YtgfkjkokmcejbaaGreatDoor
open Go.RowKit
section
open Go.RowKit
def agQ (n:Nat) (L:List Tk):oD->oD
 | .bad p e=>.bad (eU n L p) e
 | .ok a=>.ok a
theorem qS {X:World} {p:Addr} {v:Option Value} (h:X.cell? p=v):X.drew.cell? p=v:=h
theorem Bb {X:World} {B:Nat} {v:Option Obj} (h:X.heap[B]? = v):X.drew.heap[B]? = v:=h
theorem zM {B:Nat} {w w':World} (h:Below B w w'):Below B w w'.drew:=⟨h.os,h.tape,h.output,h.size,h.block⟩
section
variable {w : World} {ts : List Tk} {rb ab : Nat} {a : Option Addr} {c : Nat} {x : AG} {p : PA} {qs : List QC} {s : RS} {V : World}
theorem QN (h:GW w ts rb ab a c x p qs s V) {n:Nat}:lS (.bad (eU n ts s.whr) s.bad) w (.returned (.tuple #[agV aP aG,.int .i64 ((eU n ts s.whr:Nat):Int),.int .i64 s.bad])) (fL V w.heap.size aP aG).drew:=by
 have KP:=bR V w.heap.size aP aG;have hb:=h.b.trans (KP.below (fun b hb=>by omega) (by have:=h.sz;omega));exact ⟨zM hb,rfl⟩
theorem Mm (h:GW w ts rb ab a c x p qs s V):(fL V w.heap.size aP aG).drew.cell? ⟨rb,3,none⟩=some (.int .i64 s.bad)/\(fL V w.heap.size aP aG).drew.cell? ⟨rb,4,none⟩=some (.int .i64 s.whr):=by
 have KP:=bR V w.heap.size aP aG;obtain ⟨⟨c0,c1,c2,c3,c4⟩, -⟩:=h.r.r.cells;have hne:¬ rb=w.heap.size:=by have:=h.hr;omega
 exact ⟨qS (KP.cell c3 hne),qS (KP.cell c4 hne)⟩
theorem Jz (h:GW w ts rb ab a c x p qs s V):(fL V w.heap.size aP aG).drew.heap[w.heap.size]? = some (agO aP aG):=Bb (cJ (t:=82) h.o aP aG)
theorem Ru (h:GW w ts rb ab a c x p qs s V):lS (.ok x) w (.returned (.tuple #[agV x p,.int .i64 0,.int .i64 0])) (fL V w.heap.size x p):=by
 have KP:=bR V w.heap.size x p;refine ⟨h.b.trans (KP.below (fun b hb=>by omega) (by have:=h.sz;omega)),p,rfl,?_⟩;have own:∀ b,p.wa=some ⟨b,0,none⟩->ab+1<=b:=fun b hb=>h.lo (b:=b) (by rw [hb];rfl)
 have e1:=h.hr;have e2:=h.ha;refine ⟨(h.e.keptS KP (fun k hk hg=>by have:=hg.1;omega)).imp (fun b _ hg=>by have:=hg.1;omega),(h.g.keptS KP (fun k hk hg=>by have:=hg.1;omega)).imp (fun b _ hg=>by have:=hg.1;omega),?_⟩;refine xE (fG (row:=some w.heap.size) h.own (KP.mono (fun i hi _=>by rw [hi])) (fun b hb he=>by have:=h.lo hb;have:=Option.some.inj he;omega)) h.ql ((h.kd.keptS KP (fun k hk hg=>by have:=hg.1;omega)).imp (fun b _ hg=>by have:=hg.1;omega)) (fun b hb=>by have:=own b hb;omega)
theorem Ml (h:GW w ts rb (rb+1) a c aP aG [] ⟨0,0,0,0⟩ V) (fn:ByteArray) (hl:1<=ts.length):GW w ts rb (rb+1) a c ⟨fn,0,aC,aC,[]⟩ aG [] ⟨1,0,0,0⟩ ((V.setCell ⟨rb+1,0,none⟩ (.string fn)).setCell ⟨rb,1,none⟩ (.int .i64 1)):=by
 have KS:=(aD.refl (· = rb+1) V).setCell (p:=⟨rb+1,0,none⟩) (.inl rfl) (.string fn)
 have hn:(V.setCell ⟨rb+1,0,none⟩ (.string fn)).heap[rb+1]? = some (agO ⟨fn,0,aC,aC,[]⟩ aG):=by
  have:=heap_setCell_same V (rb+1) 0 _ _ (.string fn) h.n;exact this
 have g:=h.box KS hn rfl rfl rfl (.inl rfl) (.inl rfl);exact g.step (g.r.set ⟨fun _=>hl,by show 1<=_;omega,by show 0<=33;omega,h.r.f.2.2.2⟩ rfl) ((aD.refl (· = rb) _).setCell (p:=⟨rb,1,none⟩) (.inl rfl) _)
def QF:Option Value->Nat
 | some (.slice _ n _)=>n
 | _=>0
theorem O0 {fn:ByteArray} {v1:World} {k:Int} {t u:TN} {p2:PA} (h:GW w ts rb (rb+1) a c ⟨fn,0,aC,aC,[]⟩ aG [] s V) (h1:a8 v1.heap.size V p2.ea t.ks) (h2:a8 v1.heap.size V p2.ga u.ks) (hw:p2.wa=none) (hc:p2.wc=0) (hz:rb+1<v1.heap.size) :
 GW w ts rb (rb+1) a c ⟨fn,k,t,u,[]⟩ p2 [] s (fL V (rb+1) ⟨fn,k,t,u,[]⟩ p2):=by
 have e1:=h.hr;refine h.box (bR V (rb+1) ⟨fn,k,t,u,[]⟩ p2) (cJ h.n _ _) rfl hw hc ?_ ?_
 · exact aN.imp (G:=fun b=>v1.heap.size<=b) h1 (fun b _ hb=>⟨by omega,by omega,by omega,fun e=>by cases e⟩)
 · exact aN.imp (G:=fun b=>v1.heap.size<=b) h2 (fun b _ hb=>⟨by omega,by omega,by omega,fun e=>by cases e⟩)
theorem Es (h:GW w ts rb ab a c x p qs s V) {b:Nat} (hb:V.heap.size<=b):GG w.heap.size rb ab p.wa b:=by
 have e1:=h.hr;have e2:=h.ha;have e3:=h.hz;refine ⟨by omega,by omega,by omega,fun e=>?_⟩;have:=(h.own.lt b (by rw [e];rfl)).2;omega
theorem Mj:∃ i z,Tryz.prog.info? 133=some i/\i.zero=some z/\i.size=9/\i.bytes=144/\z.cells.size=9:=by
 have h:(Tryz.prog.info? 133).map (fun i=>(i.zero.map (fun z=>z.cells.size),i.size,i.bytes))=some (some 9,9,144):=by kernel_rfl
 cases hx:Tryz.prog.info? 133 with
 | none=>rw [hx] at h;cases h
 | some i =>
   rw [hx] at h;simp only [Option.map_some,Option.some.injEq,Prod.mk.injEq] at h;obtain ⟨h1,h2,h3⟩:=h;cases hz:i.zero with
   | none=>rw [hz] at h1;cases h1
   | some z =>
     rw [hz] at h1;exact ⟨i,z,rfl,hz,h2,h3,by simpa using h1⟩
theorem Lw (W:World) (d:CD) (q:QC):∀ j u,(iK d q)[j]? = some u->(W.alloc (.cells #[.string d.op,.string d.a.op,.string d.a.nm,.int .i64 d.a.n,.slice q.a1 d.a.ks.len q.c1,.string d.b.op,.string d.b.nm,.int .i64 d.b.n,.slice q.a2 d.b.ks.len q.c2] 133)).cell? ((⟨W.heap.size,0,none⟩:Addr).add j)=some u:=fun j u hu=>by
 obtain ⟨p0,p1,p2,p3,p4,p5,p6,p7,p8⟩:=gT (heap_alloc_new W (cdO d q.a1 q.c1 q.a2 q.c2));rw [Addr.add_lit];match j,hu with
 | 0,h=>cases h;exact p0
 | 1,h=>cases h;exact p1
 | 2,h=>cases h;exact p2
 | 3,h=>cases h;exact p3
 | 4,h=>cases h;exact p4
 | 5,h=>cases h;exact p5
 | 6,h=>cases h;exact p6
 | 7,h=>cases h;exact p7
 | 8,h=>cases h;exact p8
 | n+9,h=>simp at h
theorem Py {w1:World} {n m:Nat} {a:Option Addr} {c:Nat} {ts:List Tk} (h:fI w1 a ts) (hq:∀ q,(Value.slice a m c).ownBlock=some q->n<q):ts=[]\/∃ b off,a=some ⟨b,off,none⟩/\n<b:=by
 rcases h with h | ⟨b,off,e, -, -⟩
 · exact .inl h
 · exact .inr ⟨b,off,e,hq b (by rw [e];rfl)⟩
theorem QM {w1:World} (hb:Below w.heap.size w w1) (n1:w1.heap[w.heap.size]? = some (agO aP aG)) (hz:w.heap.size<w1.heap.size) (hr:fI w1 a ts) (hn:ts.length<=100000) (tk:ts=[]\/∃ b off,a=some ⟨b,off,none⟩/\w.heap.size<b) :
 GW w ts w1.heap.size (w1.heap.size+1) a c aP aG [] ⟨0,0,0,0⟩ ((w1.alloc (.cells #[.slice a ts.length c,.int .i64 0,.int .i64 0,.int .i64 0,.int .i64 0] 126)).alloc (agO aP aG)):=by
 have B1:=bA0 w1 (.cells #[.slice a ts.length c,.int .i64 0,.int .i64 0,.int .i64 0,.int .i64 0] 126);have hs1:(w1.alloc (.cells #[.slice a ts.length c,.int .i64 0,.int .i64 0,.int .i64 0,.int .i64 0] 126)).heap.size=w1.heap.size+1:=World.size_alloc _ _
 have PV:PW ts w1.heap.size a c ⟨0,0,0,0⟩ (w1.alloc (.cells #[.slice a ts.length c,.int .i64 0,.int .i64 0,.int .i64 0,.int .i64 0] 126)) :=
  ⟨heap_alloc_new w1 _,(vZ hr).kept (aE B1 (fun _=>False)) (fun _ h=>h.elim),⟨fun _=>Nat.zero_le _,by show 0<=_;omega,by show 0<=33;omega,hn⟩⟩
 have N1:=(B1.block w.heap.size hz).trans n1;generalize w1.alloc (.cells #[.slice a ts.length c,.int .i64 0,.int .i64 0,.int .i64 0,.int .i64 0] 126)=U at *;have B2:=bA0 U (agO aP aG);have n2:=heap_alloc_new U (agO aP aG);rw [hs1] at n2;exact ⟨PV.below B2,(hb.trans (B1.mono (by omega))).trans (B2.mono (by omega)),n2,(B2.block _ (by omega)).trans N1,.inl rfl,.inl rfl,⟨rfl,.inl ⟨rfl,rfl⟩⟩,rfl,fun j d q h1 _=>by simp [aP] at h1,hz,by omega,by rw [World.size_alloc];omega,tk⟩
end
theorem Qm (s0:ByteArray) (w:World) {p:Nat} {er:Int} (hL:gU s0.data.toList=.bad p er):Calls Tryz.prog 32 #[.string s0] w (lS (.bad p er) w):=by
 obtain ⟨-,qe⟩:=o9 hL;have B1:=bA0 w (agO aP aG);have NB:=heap_alloc_new w (agO aP aG);have hs0:(w.alloc (agO aP aG)).heap.size=w.heap.size+1:=World.size_alloc _ _;generalize hW:w.alloc (agO aP aG)=W at *;have HW:=aA hW;have C:=aA (uX s0 W);rw [hL] at C;clear hW;go_enter Tryz.func32,Tryz.ntmps32
 go_upto_region 1 with fail
 rw [show w.alloc (.cells #[.string ⟨#[]⟩,.int .i64 0,.string ⟨#[]⟩,.string ⟨#[]⟩,.int .i64 0,.slice none 0 0,.string ⟨#[]⟩,.string ⟨#[]⟩,.int .i64 0,.slice none 0 0,.slice none 0 0] 82)=W from HW.out];go_wp2_with fail
 refine C.out.mono ?_;rintro e w1 ⟨hb,rfl⟩;have N1:=(hb.block w.heap.size (by omega)).trans NB;have hz:=hb.size;have B2:=aA (B1.trans (hb.mono (by omega)));obtain ⟨z0,z1,z2,z3,z4,z5,z6,z7,z8,z9,z10⟩:=bO N1;obtain ⟨b0,b1,b2,b3,b4,b5,b6,b7,b8,b9,b10⟩:=aF N1;have N2:=aA N1;clear hb N1 C HW;go_wp2_with fail
 have KP:=bR w1 w.heap.size aP aG;obtain ⟨y0,y1,y2,y3,y4,y5,y6,y7,y8,y9,y10⟩:=aF (cJ (t:=82) N2.out aP aG);dsimp only [fL,aP,aG,aC,F.len,List.length_nil] at y0 y1 y2 y3 y4 y5 y6 y7 y8 y9 y10;exact bodyPost_ret (v:=.tuple #[agV aP aG,.int .i64 (p:Nat),.int .i64 er]) (by simp [results,Tryz.results32,go_sem,y0,y1,y2,y3,y4,y5,y6,y7,y8,y9,y10,aP,aG,aC,F.len]) rfl ⟨B2.out.trans (KP.below (B:=w.heap.size) (fun k hk=>by omega) (by omega)),rfl⟩
theorem Ql (s0:ByteArray) (w:World) {ts:List Tk} (hL:gU s0.data.toList=.ok ts):Calls Tryz.prog 32 #[.string s0] w (lS (agQ s0.size ts (agL ts)) w):=by
 have hlen:=Ec hL;have B1:=bA0 w (agO aP aG);have NB:=heap_alloc_new w (agO aP aG);have hs0:(w.alloc (agO aP aG)).heap.size=w.heap.size+1:=World.size_alloc _ _;generalize hW:w.alloc (agO aP aG)=W at *;have HW:=aA hW;have C:=aA (uX s0 W);rw [hL] at C;obtain ⟨r,hr⟩:∃ r,agQ s0.size ts (agL ts)=r:=⟨_,rfl⟩;rw [hr];have HR0:=aA hr;clear hW hr hL;go_enter Tryz.func32,Tryz.ntmps32
 go_upto_region 1 with fail
 rw [show w.alloc (.cells #[.string ⟨#[]⟩,.int .i64 0,.string ⟨#[]⟩,.string ⟨#[]⟩,.int .i64 0,.slice none 0 0,.string ⟨#[]⟩,.string ⟨#[]⟩,.int .i64 0,.slice none 0 0,.slice none 0 0] 82)=W from HW.out];go_wp2_with fail
 refine C.out.mono ?_;rintro e w1 ⟨hb,a,c,rfl,ho⟩;have G0:=QM (c:=c) (B1.trans (hb.mono (by omega))) ((hb.block w.heap.size (by omega)).trans NB) (by have:=hb.size;omega) (rP ho) (by omega) (Py (rP ho) (fun q hq=>by have:=(ho.lt q hq).1;omega));generalize hU:w1.alloc (.cells #[.slice a ts.length c,.int .i64 0,.int .i64 0,.int .i64 0,.int .i64 0] 126)=U at G0;have hUs:U.heap.size=w1.heap.size+1:=by rw [<- hU];exact World.size_alloc _ _
 generalize hV:U.alloc (agO aP aG)=V at G0;generalize hrb:w1.heap.size=rb at G0 hUs;have HU:=aA hU;have HV:=aA hV;have HRB:=aA hrb;have HUS:=aA hUs;have K0:=aA G0;clear hb ho B1 NB hs0 hU hV hrb hUs G0 C HW;go_upto_block 0 with fail
 rw [HU.out,show U.alloc (.cells #[.string ⟨#[]⟩,.int .i64 0,.string ⟨#[]⟩,.string ⟨#[]⟩,.int .i64 0,.slice none 0 0,.string ⟨#[]⟩,.string ⟨#[]⟩,.int .i64 0,.slice none 0 0,.slice none 0 0] 82)=V from HV.out,HRB.out];clear HU HV HUS HRB;go_cut [] (fun wc=>∃ (fn:ByteArray) (s:RS),Hid (agQ s0.size ts (kA ts fn s)=r)/\Hid (GW w ts rb (rb+1) a c ⟨fn,0,aC,aC,[]⟩ aG [] s wc))
 case first =>
  by_cases hlt:0<ts.length
  · obtain ⟨b,off,ha, -,p0,p1, -, -⟩:=aY K0.out.r.t hlt
    obtain ⟨k,hk⟩:∃ k,ts[0].kind=k:=⟨_,rfl⟩;obtain ⟨X,hX⟩:∃ X:ByteArray,⟨ts[0].text.toArray⟩=X:=⟨_,rfl⟩;have hXl:ts[0].text=X.data.toList:=by rw [<- hX]
    have hg:ts[0]? = some ts[0]:=List.getElem?_eq_getElem hlt;rw [hk] at p0;rw [hX] at p1;have FN:=aA (fun U=>IC X U);have a1:((ts.length:Int) == 0)=false:=by rw [beq_eq_false_iff_ne];omega
    have a2:(0:Int)<(ts.length:Int):=by omega
    have e0:off+0*4=off:=by omega
    rw [e0] at p0 p1;subst ha;by_cases h1:k=1
    · cases hf:dX X.data.toList with
      | true =>
        have HR1:=aA (show agQ s0.size ts (kA ts X ⟨1,0,0,0⟩)=r by rw [<- HR0.out,QV hg (hk.trans h1) (by rw [hXl];exact hf),hX]);rw [hf] at FN;have k1:(k == 1)=true:=by rw [h1];rfl
        have k2:(k != 1)=false:=by rw [h1];rfl
        clear hk hX hXl hg h1 hf HR0;obtain ⟨z0,z1,z2,z3,z4,z5,z6,z7,z8,z9,z10⟩:=bO K0.out.n;obtain ⟨m0,m1,m2,m3,m4,m5,m6,m7,m8,m9,m10⟩:=aF K0.out.n;obtain ⟨⟨c0,c1,c2,c3,c4⟩,f1,f2,f3,f4⟩:=K0.out.r.r.cells;go_wp2_with fail
        refine (FN.out V).mono ?_;rintro e w2 ⟨rfl,rfl⟩;go_wp2_with fail
        go_meet;case rel=>exact ⟨X,⟨1,0,0,0⟩,HR1,aA (Ml K0.out X (by omega))⟩
      | false =>
        have HR1:=aA (show agQ s0.size ts (kA ts ⟨#[]⟩ (aM 5 ⟨0,0,0,0⟩))=r by rw [<- HR0.out,QW hg (hk.trans h1) (by rw [hXl];exact hf)]);rw [hf] at FN;have k1:(k == 1)=true:=by rw [h1];rfl
        have k2:(k != 1)=false:=by rw [h1];rfl
        have FA:=aA (dB ts rb _ c ⟨0,0,0,0⟩ 5 (by decide) V K0.out.r);clear hk hX hXl hg h1 hf HR0;go_wp2_with fail
        refine (FN.out V).mono ?_;rintro e w2 ⟨rfl,rfl⟩;go_wp2_with fail
        refine FA.out.mono ?_;rintro e w3 ⟨rfl,hp,hk⟩;have K1:=aA (K0.out.step hp hk);clear hp hk;go_wp2_with fail
        go_meet;case rel=>exact ⟨⟨#[]⟩,_,HR1,K1⟩
    · have HR1:=aA (show agQ s0.size ts (kA ts ⟨#[]⟩ (aM 2 ⟨0,0,0,0⟩))=r by rw [<- HR0.out,Na hg (by rw [hk];exact h1)])
      have k1:(k == 1)=false:=by simpa using h1
      have k2:(k != 1)=true:=by rw [bne,k1];rfl
      have FA:=aA (dB ts rb _ c ⟨0,0,0,0⟩ 2 (by decide) V K0.out.r);clear hk hX hXl hg h1 HR0 FN;go_wp2_with fail
      refine FA.out.mono ?_;rintro e w3 ⟨rfl,hp,hk⟩;have K1:=aA (K0.out.step hp hk);clear hp hk;go_wp2_with fail
      go_meet;case rel=>exact ⟨⟨#[]⟩,_,HR1,K1⟩
  · have h0:ts[0]? = none:=List.getElem?_eq_none (by omega)
    have HR1:=aA (show agQ s0.size ts (kA ts ⟨#[]⟩ (aM 2 ⟨0,0,0,0⟩))=r by rw [<- HR0.out,M9 h0]);have a1:((ts.length:Int) == 0)=true:=by rw [beq_iff_eq];omega
    have FA:=aA (dB ts rb a c ⟨0,0,0,0⟩ 2 (by decide) V K0.out.r);clear h0 HR0;go_wp2_with fail
    refine FA.out.mono ?_;rintro e w3 ⟨rfl,hp,hk⟩;have K1:=aA (K0.out.step hp hk);clear hp hk;go_wp2_with fail
    go_meet;case rel=>exact ⟨⟨#[]⟩,_,HR1,K1⟩
 case rest =>
  obtain ⟨fn,s,HR,K1⟩:=hcut;clear K0 HR0;have WN:=aA (i8 ts rb a c s ⟨#[40]⟩ wc K1.out.r);have HRA:=aA (p:=agQ s0.size ts (if (aS ts (⟨#[40]⟩:ByteArray).data.toList s).bad=0 then kB ts ⟨fn,(bG ts fn.data.toList (aS ts (⟨#[40]⟩:ByteArray).data.toList s)).1.1,(bG ts fn.data.toList (aS ts (⟨#[40]⟩:ByteArray).data.toList s)).1.2.1,(bG ts fn.data.toList (aS ts (⟨#[40]⟩:ByteArray).data.toList s)).1.2.2,[]⟩ (bG ts fn.data.toList (aS ts (⟨#[40]⟩:ByteArray).data.toList s)).2 else kB ts ⟨fn,0,aC,aC,[]⟩ (aS ts (⟨#[40]⟩:ByteArray).data.toList s))=r) HR.out;obtain ⟨s1,hs1⟩:∃ q,aS ts (⟨#[40]⟩:ByteArray).data.toList s=q:=⟨_,rfl⟩;rw [hs1] at WN HRA;clear hs1 HR;go_wp2_with fail
  refine WN.out.mono ?_;rintro e v1 ⟨rfl,hp,hk⟩;have K2:=aA (K1.out.step hp hk);clear hp hk WN K1;obtain ⟨⟨c0,c1,c2,c3,c4⟩,f1,f2,f3,f4⟩:=K2.out.r.r.cells;go_upto_if 63 with fail
  go_cut [] (fun wc=>∃ (x:AG) (p:PA) (s:RS),Hid (agQ s0.size ts (kB ts x s)=r)/\Hid (x.wh=[])/\Hid (GW w ts rb (rb+1) a c x p [] s wc))
  case first =>
   by_cases hb:s1.bad=0
   · have q1:((s1.bad:Int) == 0)=true:=by rw [hb];rfl
     have HR1:=aA (HRA.out.symm.trans (congrArg (agQ s0.size ts) (if_pos hb))).symm;have AR:=aA (MV ts rb a c s1 fn v1 K2.out.r hb);obtain ⟨m0,m1,m2,m3,m4,m5,m6,m7,m8,m9,m10⟩:=aF K2.out.n;clear hb HRA;go_wp2_with fail
     refine AR.out.mono ?_;rintro e v2 ⟨p2,rfl,hp,hk,h1,h2,hw,hc⟩;have K3:=aA (K2.out.step hp hk);have RD:=aA (And.intro h1 (And.intro h2 (And.intro hw hc)));have HZ:=aA (K2.out.hz);clear hp hk h1 h2 hw hc AR m0 m1 m2 m3 m4 m5 m6 m7 m8 m9 m10 c0 c1 c2 c3 c4 f1 f2 f3 f4;obtain ⟨m0,m1,m2,m3,m4,m5,m6,m7,m8,m9,m10⟩:=aF K3.out.n;obtain ⟨z0,z1,z2,z3,z4,z5,z6,z7,z8,z9,z10⟩:=bO K3.out.n;go_wp2_with fail
     go_meet;case rel=>exact ⟨_,p2,_,HR1,aA rfl,aA (O0 K3.out RD.out.1 RD.out.2.1 RD.out.2.2.1 RD.out.2.2.2 HZ.out)⟩
   · have q1:((s1.bad:Int) == 0)=false:=beq_eq_false_iff_ne.2 hb
     have HR1:=aA (HRA.out.symm.trans (congrArg (agQ s0.size ts) (if_neg hb))).symm;clear hb HRA;go_wp2_with fail
     go_meet;case rel=>exact ⟨_,aG,s1,HR1,aA rfl,K2⟩
  case rest =>
   obtain ⟨x,p,s2,HR,HX,K3⟩:=hcut;clear K2 HRA c0 c1 c2 c3 c4 f1 f2 f3 f4;have WN:=aA (i8 ts rb a c s2 ⟨#[41]⟩ wc K3.out.r);have HRB:=aA (p:=agQ s0.size ts (kC ts x (aS ts (⟨#[41]⟩:ByteArray).data.toList s2))=r) HR.out;obtain ⟨s3,hs3⟩:∃ q,aS ts (⟨#[41]⟩:ByteArray).data.toList s2=q:=⟨_,rfl⟩;rw [hs3] at WN HRB;clear hs3 HR;go_wp2_with fail
   refine WN.out.mono ?_;rintro e v3 ⟨rfl,hp,hk⟩;have K4:=aA (K3.out.step hp hk);clear hp hk WN K3;obtain ⟨⟨c0,c1,c2,c3,c4⟩,f1,f2,f3,f4⟩:=K4.out.r.r.cells;obtain ⟨zz,hzz⟩:∃ z:Bool,((s3.bad == 0) && decide (s3.pos<ts.length))=z:=⟨_,rfl⟩;have HZZ:=aA hzz;go_upto_region 16 with fail
   go_cut [82] (fun v82 wc=>v82=.bool zz/\wc=v3)
   case first =>
    by_cases hb:s3.bad=0
    · have q1:((s3.bad:Int) == 0)=true:=by rw [hb];rfl
      by_cases hp:s3.pos<ts.length
      · have q2:(s3.pos:Int)<(ts.length:Int):=by omega
        obtain rfl:zz=true:=by rw [<- hzz,hb,decide_eq_true hp];rfl
        clear hzz hb;go_wp2_with fail
        go_meet;case rel=>exact ⟨rfl,rfl⟩
      · have q2:¬ (s3.pos:Int)<(ts.length:Int):=by omega
        obtain rfl:zz=false:=by rw [<- hzz,decide_eq_false hp];simp
        clear hzz hb;go_wp2_with fail
        go_meet;case rel=>exact ⟨rfl,rfl⟩
    · have q1:((s3.bad:Int) == 0)=false:=beq_eq_false_iff_ne.2 hb
      obtain rfl:zz=false:=by rw [<- hzz,show (s3.bad == 0)=false from q1];rfl
      clear hzz;go_wp2_with fail
      go_meet;case rel=>exact ⟨rfl,rfl⟩
   case rest =>
    obtain ⟨rfl,rfl⟩:=hcut;clear hzz c0 c1 c2 c3 c4 f1 f2 f3 f4;go_upto_if 82 with fail
    go_cut [] (fun wc=>∃ (x:AG) (p:PA) (qs:List QC) (s:RS),Hid (agQ s0.size ts (kF x s)=r)/\Hid (GW w ts rb (rb+1) a c x p qs s wc))
    case first =>
     cases zz with
     | false =>
       have HR1:=aA (show agQ s0.size ts (kF x s3)=r by
        have hz:=HZZ.out;rw [<- HRB.out];unfold kC;rw [if_neg (fun k=>by rw [k.1,decide_eq_true k.2] at hz;cases hz)])
       go_wp2_with fail
       go_meet;case rel=>exact ⟨x,p,[],s3,HR1,K4⟩
     | true =>
       have hz:s3.bad=0/\s3.pos<ts.length:=by
        have hz:=HZZ.out;simp only [Bool.and_eq_true,beq_iff_eq,decide_eq_true_eq] at hz;exact hz
       have HRC:=aA (show agQ s0.size ts (kE ts x (kLo ts 5 true [] (if dS ts eT s3.pos=true then s3 else aM 2 s3)))=r by
        rw [<- HRB.out];unfold kC;rw [if_pos hz])
       have HZ3:=aA hz.2;have WD:=aA (CY ts rb a c s3 ⟨#[119,104,101,114,101]⟩ wc K4.out.r);obtain ⟨wb,hwb⟩:∃ z,dS ts eT s3.pos=z:=⟨_,rfl⟩;rw [show (⟨#[119,104,101,114,101]⟩:ByteArray).data.toList=eT from rfl,hwb] at WD;rw [hwb] at HRC;clear hz hwb HZZ HRB;go_wp2_with fail
       refine WD.out.mono ?_;rintro e v4 ⟨rfl,hk⟩;have K5:=aA (K4.out.step (K4.out.r.kept hk) (hk.mono (fun _ h _=>h.elim)));clear hk WD K4;go_upto_if 85 with fail
       go_cut [] (fun wc=>∃ (s:RS),Hid (agQ s0.size ts (kE ts x (kLo ts 5 true [] s))=r)/\Hid (s.bad=0->s.pos<ts.length)/\Hid (GW w ts rb (rb+1) a c x p [] s wc))
       case first =>
        cases wb with
        | true =>
          go_wp2_with fail
          go_meet;case rel=>exact ⟨s3,HRC,aA (fun _=>HZ3.out),K5⟩
        | false =>
          have FA:=aA (dB ts rb a c s3 2 (by decide) v4 K5.out.r);go_wp2_with fail
          refine FA.out.mono ?_;rintro e v5 ⟨rfl,hp,hk⟩;have K6:=aA (K5.out.step hp hk);clear hp hk;go_wp2_with fail
          go_meet;case rel=>exact ⟨aM 2 s3,HRC,aA (fun h=>absurd h (jD (by decide) _)),K6⟩
       case rest =>
        obtain ⟨s4,HR,HP4,K6⟩:=hcut;clear K5 HRC;obtain ⟨xf,xk,xe,xg,xw⟩:=x;obtain rfl:xw=[]:=HX.out;obtain ⟨RL,hRL⟩:∃ q,kLo ts 5 true [] s4=q:=⟨_,rfl⟩;rw [hRL] at HR;have HL0:=aA (show kLo ts (5-([]:List CD).length) true [] s4=RL from hRL);clear hRL HX;go_upto_block 1 with fail
        go_cut [] (fun wc=>∃ (pa:PA) (qs:List QC),Hid (GW w ts rb (rb+1) a c ⟨xf,xk,xe,xg,RL.1⟩ pa qs RL.2 wc))
        case first =>
         go_wp2_with fail
         go_loopw [10,11] (fun v10 v11 wr=>∃ (more:Bool) (y:Value) (acc:List CD) (pa:PA) (qs:List QC) (s:RS),v10=.bool more/\v11=y/\acc.length<=4/\(more=true->s.bad=0->s.pos<ts.length)/\Hid (kLo ts (5-acc.length) more acc s=RL)/\Hid (GW w ts rb (rb+1) a c ⟨xf,xk,xe,xg,acc⟩ pa qs s wr)) (fun _ _ wr=>5-QF (wr.cell? ⟨rb+1,10,none⟩))
         case atStart=>exact ⟨true,_,[],p,[],s4,rfl,rfl,Nat.zero_le _,fun _ h=>HP4.out h,HL0,K6⟩
         case round =>
          obtain ⟨more,y,acc,pa,qs,s,rfl,rfl,hacc,hpos,HL,HK⟩:=hrel;clear K6 HL0 HP4;obtain ⟨⟨c0,c1,c2,c3,c4⟩,f1,f2,f3,f4⟩:=HK.out.r.r.cells;by_cases hgo:more=true/\s.bad=0
          · obtain ⟨rfl,hb⟩:=hgo
            have q1:((s.bad:Int) == 0)=true:=by rw [hb];rfl
            have hlt:=hpos rfl hb;have HC:=aA (show eQ ts (5-acc.length) acc s=RL by rw [<- HL.out,F5 hb]);obtain ⟨m0,m1,m2,m3,m4,m5,m6,m7,m8,m9,m10⟩:=aF HK.out.n;clear hpos HL;by_cases h4:acc.length=4
            · have HC1:=aA (show RL=(acc,aM 4 s) by
               rw [<- HC.out,h4];show eQ ts (0+1) acc s=_;rw [eQ,if_pos h4])
              have l1:((acc.length:Int) == 4)=true:=by rw [h4];rfl
              have FA:=aA (dB ts rb a c s 4 (by decide) wr HK.out.r);clear HC hb hlt h4;go_wp2_with fail
              refine FA.out.mono ?_;rintro e v5 ⟨rfl,hp,hk⟩;have K7:=aA (HK.out.step hp hk);clear hp hk FA;go_wp2_with fail
              go_meet;case rel=>exact ⟨pa,qs,aA (by rw [HC1.out];exact K7.out)⟩
            · have l1:((acc.length:Int) == 4)=false:=by rw [beq_eq_false_iff_ne];omega
              have HC1:=aA (show (if ((bV ts (aJ s)).2.bad == 0 && dS ts lV (bV ts (aJ s)).2.pos)=true then eQ ts (5-(acc.length+1)) (acc++[(bV ts (aJ s)).1]) (bV ts (aJ s)).2 else (acc++[(bV ts (aJ s)).1],(bV ts (aJ s)).2))=RL by
               rw [<- HC.out];have e:5-acc.length=(5-(acc.length+1))+1:=by omega
               rw [e];rw [eQ,if_neg h4])
              have HKB:=aA (show acc.length<=3 by omega);have KS:=(aD.refl (· = rb) wr).setCell (p:=⟨rb,1,none⟩) (.inl rfl) (.int .i64 ((s.pos:Int)+1));obtain ⟨X,hX⟩:∃ X,wr.setCell ⟨rb,1,none⟩ (.int .i64 ((s.pos:Int)+1))=X:=⟨_,rfl⟩
              have K7:=aA (show GW w ts rb (rb+1) a c ⟨xf,xk,xe,xg,acc⟩ pa qs (aJ s) X by
               rw [<- hX];exact HK.out.step (oR HK.out.r hlt) KS)
              have hps:(s.pos:Int)+1<=200000:=by have:=HK.out.r.f.2.2.2;omega
              clear KS HC hb h4 hacc;go_upto_region 25 with fail
              try rw [hX]
              have MB:=aA m10;clear hX c0 c1 c2 c3 c4 f1 f2 f3 f4 m0 m1 m2 m3 m4 m5 m6 m7 m8 m9 m10 HK hlt;have CO:=aA (MN ts rb a c (aJ s) X K7.out.r);obtain ⟨⟨d,s5⟩,hds⟩:∃ q:CD×RS,bV ts (aJ s)=q:=⟨_,rfl⟩;rw [hds] at CO HC1;clear hds;go_wp2_with fail
              refine CO.out.mono ?_;rintro e v1 ⟨a1,c1,a2,c2,rfl,hp,hk,h1,h2⟩;have BA:=bA0 v1 (cdO d a1 c1 a2 c2);have K8:=K7.out.step hp hk;have K9:=aA (K8.below BA);have NC:=aA (heap_alloc_new v1 (cdO d a1 c1 a2 c2));have R1:=aA ((aN.imp (G:=fun b=>X.heap.size<=b) h1 (fun b _ hb=>Es K7.out hb)).kept BA);have R2:=aA ((aN.imp (G:=fun b=>X.heap.size<=b) h2 (fun b _ hb=>Es K7.out hb)).kept BA);generalize hU:v1.alloc (cdO d a1 c1 a2 c2)=U at K9 NC R1 R2;generalize hB:v1.heap.size=B at NC;have HU:=aA hU;have HB:=aA hB;clear hp hk h1 h2 BA K8 hU hB CO K7 hps;go_upto_region 26 with fail
              rw [show v1.alloc (.cells #[.string d.op,.string d.a.op,.string d.a.nm,.int .i64 d.a.n,.slice a1 d.a.ks.len c1,.string d.b.op,.string d.b.nm,.int .i64 d.b.n,.slice a2 d.b.ks.len c2] 133)=U from HU.out,HB.out];clear HU HB;obtain ⟨m0,m1,m2,m3,m4,m5,m6,m7,m8,m9,m10⟩:=aF K9.out.n;obtain ⟨p0,p1,p2,p3,p4,p5,p6,p7,p8⟩:=gT NC.out;have und:=Tryz.underlying80;obtain ⟨i,zv,hi,hz0,hz1,hz2,hz3⟩:=Mj;have OWN:=aA (show (U.alloc (.cells #[.string d.op,.string d.a.op,.string d.a.nm,.int .i64 d.a.n,.slice a1 d.a.ks.len c1,.string d.b.op,.string d.b.nm,.int .i64 d.b.n,.slice a2 d.b.ks.len c2] 133)).ownsRow (rb+1+1) 133 9 (.slice pa.wa acc.length pa.wc) acc.length (cdL acc qs) from K9.out.own.alloc _);have NEW:=aA (Lw U d ⟨a1,c1,a2,c2⟩);have BU:=aA (bA0 U (.cells #[.string d.op,.string d.a.op,.string d.a.nm,.int .i64 d.a.n,.slice a1 d.a.ks.len c1,.string d.b.op,.string d.b.nm,.int .i64 d.b.n,.slice a2 d.b.ks.len c2] 133));have K10:=aA (K9.out.below BU.out);have R3:=aA (R1.out.kept BU.out);have R4:=aA (R2.out.kept BU.out);have ONE:=aA (fun u (hu:u∈iK d ⟨a1,c1,a2,c2⟩)=>Cs [d] [⟨a1,c1,a2,c2⟩] u (by simpa [cdL] using hu));have HBS:=aA (show rb+1+1<=(U.alloc (.cells #[.string d.op,.string d.a.op,.string d.a.nm,.int .i64 d.a.n,.slice a1 d.a.ks.len c1,.string d.b.op,.string d.b.nm,.int .i64 d.b.n,.slice a2 d.b.ks.len c2] 133)).heap.size from K10.out.hz);clear K9 NC R1 R2 BU
              go_upto_region 21 with (first
               | (at_builtin
                  refine aQ rfl _ _ 80 rfl (base:=rb+1+1) und hi hz0 hz1 hz2 hz3 (by decide) (.slice pa.wa acc.length pa.wc) acc.length 1 1 ⟨U.heap.size,0,none⟩ (cdL acc qs) (iK d ⟨a1,c1,a2,c2⟩) rfl rfl OWN.out rfl NEW.out ONE.out (by have:=HKB.out;unfold maxLen;omega) (by have:=HKB.out;omega) HBS.out ?_;intro v4 w4 ho hg hn;obtain ⟨a',c',hv⟩:=gM ho;subst hv;have KA:=(aD.refl (fun b=>(Value.slice pa.wa acc.length pa.wc).ownBlock=some b) _).grown hg (fun k hk=>.inl hk);have N4:=KA.heap K10.out.n (fun e=>by have:=K10.out.lo e;omega);have K11:=aA (K10.out.push KA ho hn R3.out R4.out);have HN4:=aA N4;obtain ⟨m0,m1,m2,m3,m4,m5,m6,m7,m8,m9,m10⟩:=aF N4;obtain ⟨z0,z1,z2,z3,z4,z5,z6,z7,z8,z9,z10⟩:=bO N4;clear ho hg hn KA N4 K10 R3 R4 OWN NEW ONE HBS)
               | fail)
              obtain ⟨Y,hY⟩:∃ Y,w4.setCell ⟨rb+1,10,none⟩ (.slice a' (acc.length+1) c')=Y:=⟨_,rfl⟩;have K12:=aA (show GW w ts rb (rb+1) a c ⟨xf,xk,xe,xg,acc++[d]⟩ { pa with wa:=a',wc:=c' } (qs++[⟨a1,c1,a2,c2⟩]) s5 Y by rw [<- hY];exact K11.out);try rw [hY]
              clear hY K11 m0 m1 m2 m3 m4 m5 m6 m7 m8 m9 m10 z0 z1 z2 z3 z4 z5 z6 z7 z8 z9 z10 p0 p1 p2 p3 p4 p5 p6 p7 p8 und hi hz0 hz1 hz2 hz3 HN4;obtain ⟨⟨c0,c1',c2',c3,c4⟩,f1,f2,f3,f4⟩:=K12.out.r.r.cells;by_cases hb5:s5.bad=0
              · have q5:((s5.bad:Int) == 0)=true:=by rw [hb5];rfl
                have WD:=aA (CY ts rb a c s5 ⟨#[97,110,100]⟩ Y K12.out.r);obtain ⟨wb,hwb⟩:∃ z,dS ts lV s5.pos=z:=⟨_,rfl⟩;rw [show (⟨#[97,110,100]⟩:ByteArray).data.toList=lV from rfl,hwb] at WD;have HWP:=aA (fun h:wb=true=>By (hwb.trans h))
                have HL2:=aA (show kLo ts (5-(acc++[d]).length) wb (acc++[d]) s5=RL by
                 rw [<- HC1.out,hb5,hwb,List.length_append];cases wb with
                 | true=>rw [F5 hb5];rfl
                 | false=>unfold kLo;rfl)
                clear hwb HC1 hb5;go_wp2_with fail
                refine WD.out.mono ?_;rintro e v7 ⟨rfl,hk⟩;have K13:=aA (K12.out.step (K12.out.r.kept hk) (hk.mono (fun _ h _=>h.elim)));clear hk WD K12 c0 c1' c2' c3 c4 f1 f2 f3 f4;obtain ⟨-, -, -, -, -, -, -, -, -, -,m10⟩:=aF K13.out.n;go_wp2_with fail
                go_roundw
                case rel=>exact ⟨wb,_,acc++[d],_,_,s5,rfl,rfl,by have:=HKB.out;simp;omega,fun h _=>HWP.out h,HL2,K13⟩
                case measure =>
                 rw [m10,MB.out];have:=HKB.out;simp [QF];omega
              · have q5:((s5.bad:Int) == 0)=false:=beq_eq_false_iff_ne.2 hb5
                have HL2:=aA (show kLo ts (5-(acc++[d]).length) false (acc++[d]) s5=RL by
                 rw [<- HC1.out,show (s5.bad == 0)=false from q5];unfold kLo;rfl)
                clear HC1 hb5;obtain ⟨-, -, -, -, -, -, -, -, -, -,m10⟩:=aF K12.out.n;go_wp2_with fail
                go_roundw
                case rel=>exact ⟨false,_,acc++[d],_,_,s5,rfl,rfl,by have:=HKB.out;simp;omega,fun h _=>(by cases h),HL2,K12⟩
                case measure =>
                 rw [m10,MB.out];have:=HKB.out;simp [QF];omega
          · have HC1:=aA (show RL=(acc,s) by rw [<- HL.out];exact if_neg hgo)
            cases more with
            | false =>
              clear hgo hpos;go_wp2_with fail
              go_meet;case rel=>exact ⟨pa,qs,aA (by rw [HC1.out];exact HK.out)⟩
            | true =>
              have q1:((s.bad:Int) == 0)=false:=beq_eq_false_iff_ne.2 (fun h=>hgo ⟨rfl,h⟩);clear hgo hpos;go_wp2_with fail
              go_meet;case rel=>exact ⟨pa,qs,aA (by rw [HC1.out];exact HK.out)⟩
        case rest =>
         obtain ⟨pa,qs,K7⟩:=hcut;clear K6 HL0 HP4;obtain ⟨⟨c0,c1,c2,c3,c4⟩,f1,f2,f3,f4⟩:=K7.out.r.r.cells;obtain ⟨acc,s⟩:=RL;dsimp only at K7 c0 c1 c2 c3 c4 f1 f2 f3 f4;have HRE:=aA (p:=agQ s0.size ts (kF ⟨xf,xk,xe,xg,acc⟩ (if s.bad=0/\s.pos<ts.length then aM 2 s else s))=r) HR.out;clear HR;by_cases hb:s.bad=0
         · have q1:((s.bad:Int) == 0)=true:=by rw [hb];rfl
           by_cases hp:s.pos<ts.length
           · have q2:(s.pos:Int)<(ts.length:Int):=by omega
             have HR1:=aA (HRE.out.symm.trans (congrArg (fun z=>agQ s0.size ts (kF ⟨xf,xk,xe,xg,acc⟩ z)) (if_pos (And.intro hb hp)))).symm;have FA:=aA (dB ts rb a c s 2 (by decide) wc K7.out.r);clear hb HRE;go_wp2_with fail
             refine FA.out.mono ?_;rintro e v5 ⟨rfl,hp,hk⟩;have K8:=aA (K7.out.step hp hk);clear hp hk FA;go_wp2_with fail
             go_meet;case rel=>exact ⟨_,pa,qs,_,HR1,K8⟩
           · have q2:¬ (s.pos:Int)<(ts.length:Int):=by omega
             have HR1:=aA (HRE.out.symm.trans (congrArg (fun z=>agQ s0.size ts (kF ⟨xf,xk,xe,xg,acc⟩ z)) (if_neg (fun k=>hp k.2)))).symm;clear hb HRE;go_wp2_with fail
             go_meet;case rel=>exact ⟨_,pa,qs,_,HR1,K7⟩
         · have q1:((s.bad:Int) == 0)=false:=beq_eq_false_iff_ne.2 hb
           have HR1:=aA (HRE.out.symm.trans (congrArg (fun z=>agQ s0.size ts (kF ⟨xf,xk,xe,xg,acc⟩ z)) (if_neg (fun k=>hb k.1)))).symm;clear hb HRE;go_wp2_with fail
           go_meet;case rel=>exact ⟨_,pa,qs,_,HR1,K7⟩
    case rest =>
     obtain ⟨x,p,qs,s,HR,K0⟩:=hcut;clear K4 HRB HX HZZ;generalize wc=V at K0 |-
     by_cases hb:s.bad=0
     · have qb1:((s.bad:Int) == 0)=true:=by rw [hb];rfl
       have qb2:((s.bad:Int) != 0)=false:=by rw [hb];rfl
       have HRES:=aA (show r=.ok x by rw [<- HR.out,L7 hb];rfl);obtain ⟨⟨c0,c1,c2,c3,c4⟩,f1,f2,f3,f4⟩:=K0.out.r.r.cells;obtain ⟨m0,m1,m2,m3,m4,m5,m6,m7,m8,m9,m10⟩:=aF K0.out.n;obtain ⟨z0,z1,z2,z3,z4,z5,z6,z7,z8,z9,z10⟩:=bO K0.out.o;obtain ⟨b0,b1,b2,b3,b4,b5,b6,b7,b8,b9,b10⟩:=aF K0.out.o;clear hb;go_wp2_with fail
       obtain ⟨y0,y1,y2,y3,y4,y5,y6,y7,y8,y9,y10⟩:=aF (cJ (t:=82) K0.out.o x p);exact bodyPost_ret (v:=.tuple #[agV x p,.int .i64 0,.int .i64 0]) (by simp [results,Tryz.results32,go_sem,y0,y1,y2,y3,y4,y5,y6,y7,y8,y9,y10]) rfl (by rw [HRES.out];exact Ru K0.out)
     · have qb1:((s.bad:Int) == 0)=false:=beq_eq_false_iff_ne.2 hb
       have qb2:((s.bad:Int) != 0)=true:=by rw [bne,qb1];rfl
       have HRES:=aA (show r=.bad (eU s0.size ts s.whr) s.bad by rw [<- HR.out,uC hb];rfl);have RT:=aA (fun U (hU:Below V.heap.size V U)=>(K0.out.r.below hU).reads);have CP:=aA (fun U (hU:fI U a ts)=>Ft s0 ts a c s.whr (by have:=K0.out.r.f.2.2.2;omega) U hU);obtain ⟨⟨c0,c1,c2,c3,c4⟩,f1,f2,f3,f4⟩:=K0.out.r.r.cells;obtain ⟨z0,z1,z2,z3,z4,z5,z6,z7,z8,z9,z10⟩:=bO K0.out.o;obtain ⟨b0,b1,b2,b3,b4,b5,b6,b7,b8,b9,b10⟩:=aF K0.out.o;have hne1:¬ rb=w.heap.size:=by have:=K0.out.hr;omega
       have hne2:¬ w.heap.size=rb:=by have:=K0.out.hr;omega
       have CZ0:=Mm K0.out;dsimp only [fL,aP,aG,aC,F.len,List.length_nil] at CZ0;have CZ:=aA CZ0;clear hb CZ0;go_upto_region 30 with fail
       refine wp_region_held (S:=fun U=>U.cell? ⟨rb,3,none⟩=some (.int .i64 s.bad)/\U.cell? ⟨rb,4,none⟩=some (.int .i64 s.whr)) (by kernel_rfl) ?_;have hHeld:(fun U:World=>U.cell? ⟨rb,3,none⟩=some (.int .i64 s.bad)/\U.cell? ⟨rb,4,none⟩=some (.int .i64 s.whr)) V.drew:=⟨c3,c4⟩;refine aB (i:=0) (d:=some 147) (v:=.agg #[.string ⟨#[]⟩,.int .i64 0,.string ⟨#[]⟩,.string ⟨#[]⟩,.int .i64 0,.slice none 0 0,.string ⟨#[]⟩,.string ⟨#[]⟩,.int .i64 0,.slice none 0 0,.slice none 0 0]) rfl rfl (by kernel_rfl) (by kernel_rfl) (by kernel_rfl) (fun _ _ _ h=>h) (Or.inl ⟨by rfl,by rintro w ⟨c3,c4⟩;go_simp⟩) hHeld ?_;simp only [Act.put,Sf,Sg,Sh];refine aB (i:=1) (d:=some 148) (v:=.string s0) rfl rfl (by kernel_rfl) (by kernel_rfl) (by kernel_rfl) (fun _ _ _ h=>h) (Or.inl ⟨by rfl,by rintro w ⟨c3,c4⟩;go_simp⟩) hHeld ?_;simp only [Act.put,Sf,Sg,Sh];refine aB (i:=2) (d:=some 149) (v:=.slice a ts.length c) rfl rfl (by kernel_rfl) (by kernel_rfl) (by kernel_rfl) (fun _ _ _ h=>h) (Or.inl ⟨by rfl,by rintro w ⟨c3,c4⟩;go_simp⟩) hHeld ?_;simp only [Act.put,Sf,Sg,Sh];refine aB (i:=3) (d:=some 150) (v:=.pointer (some ⟨rb,0,none⟩)) rfl rfl (by kernel_rfl) (by kernel_rfl) (by kernel_rfl) (fun _ _ _ h=>h) (Or.inl ⟨by rfl,by rintro w ⟨c3,c4⟩;go_simp⟩) hHeld ?_;simp only [Act.put,Sf,Sg,Sh];refine aB (i:=4) (d:=some 151) (v:=.pointer (some ⟨rb,0,none⟩)) rfl rfl (by kernel_rfl) (by kernel_rfl) (by kernel_rfl) (fun _ _ _ h=>h) (Or.inl ⟨by rfl,by rintro w ⟨c3,c4⟩;go_simp⟩) hHeld ?_;simp only [Act.put,Sf,Sg,Sh];refine aB (i:=5) (d:=some 152) (v:=.pointer (some ⟨rb,4,none⟩)) rfl rfl (by kernel_rfl) (by kernel_rfl) (by kernel_rfl) (fun _ _ _ h=>h) (Or.inl ⟨by rfl,by rintro w ⟨c3,c4⟩;go_simp⟩) hHeld ?_
       simp only [Act.put,Sf,Sg,Sh];refine aB (i:=6) (d:=some 153) (v:=.int .i64 s.whr) rfl rfl (by kernel_rfl) (by kernel_rfl) (by kernel_rfl) (fun _ _ _ h=>h) (Or.inl ⟨by rfl,by rintro w ⟨c3,c4⟩;go_simp⟩) hHeld ?_;simp only [Act.put,Sf,Sg,Sh];refine aB (i:=8) (d:=some 155) (v:=.pointer (some ⟨rb,0,none⟩)) rfl rfl (by kernel_rfl) (by kernel_rfl) (by kernel_rfl) (fun _ _ _ h=>h) (Or.inl ⟨by rfl,by rintro w ⟨c3,c4⟩;go_simp⟩) hHeld ?_;simp only [Act.put,Sf,Sg,Sh];refine aB (i:=9) (d:=some 156) (v:=.pointer (some ⟨rb,0,none⟩)) rfl rfl (by kernel_rfl) (by kernel_rfl) (by kernel_rfl) (fun _ _ _ h=>h) (Or.inl ⟨by rfl,by rintro w ⟨c3,c4⟩;go_simp⟩) hHeld ?_;simp only [Act.put,Sf,Sg,Sh];refine aB (i:=10) (d:=some 157) (v:=.pointer (some ⟨rb,3,none⟩)) rfl rfl (by kernel_rfl) (by kernel_rfl) (by kernel_rfl) (fun _ _ _ h=>h) (Or.inl ⟨by rfl,by rintro w ⟨c3,c4⟩;go_simp⟩) hHeld ?_;simp only [Act.put,Sf,Sg,Sh];refine aB (i:=11) (d:=some 158) (v:=.int .i64 s.bad) rfl rfl (by kernel_rfl) (by kernel_rfl) (by kernel_rfl) (fun _ _ _ h=>h) (Or.inl ⟨by rfl,by rintro w ⟨c3,c4⟩;go_simp⟩) hHeld ?_;simp only [Act.put,Sf,Sg,Sh];refine wpAnyH_ready (rs:=[7]) (by kernel_rfl) (by simp) ?_;refine AllReadyH.cons (o:=_) rfl (fun K hK=>?_) AllReadyH.nil;go_simp
       refine (CP.out _ (RT.out _ (eO V))).mono ?_;rintro e w6 ⟨rfl,rfl⟩;refine hK.out _ _ hHeld (fun hHeld5=>?_);try simp only [Act.put,Sf,Sg,Sh]
       clear hK K;refine wpAnyH_ready (rs:=[12]) (by kernel_rfl) (by simp) ?_;refine AllReadyH.cons (o:=_) rfl (fun K hK=>?_) AllReadyH.nil;go_simp
       refine hK.out _ _ CZ.out (fun hHeld6=>?_);try simp only [Act.put,Sf,Sg,Sh]
       clear hK K hHeld5;refine aB (i:=13) (d:=some 3) (v:=.int .i64 ((eU s0.size ts s.whr:Nat):Int)) rfl rfl (by kernel_rfl) (by kernel_rfl) (by kernel_rfl) (fun _ _ _ h=>h) (Or.inl ⟨by rfl,by rintro w ⟨c3,c4⟩;go_simp⟩) hHeld6 ?_;simp only [Act.put,Sf,Sg,Sh];refine aB (i:=14) (d:=some 4) (v:=.int .i64 s.bad) rfl rfl (by kernel_rfl) (by kernel_rfl) (by kernel_rfl) (fun _ _ _ h=>h) (Or.inl ⟨by rfl,by rintro w ⟨c3,c4⟩;go_simp⟩) hHeld6 ?_;simp only [Act.put,Sf,Sg,Sh];refine wpAnyH_done (by kernel_rfl) ?_ _;clear hHeld6;go_wp2_with fail
       obtain ⟨y0,y1,y2,y3,y4,y5,y6,y7,y8,y9,y10⟩:=aF (Jz K0.out);dsimp only [fL,aP,aG,aC,F.len,List.length_nil] at y0 y1 y2 y3 y4 y5 y6 y7 y8 y9 y10;exact bodyPost_ret (v:=.tuple #[agV aP aG,.int .i64 ((eU s0.size ts s.whr:Nat):Int),.int .i64 s.bad]) (by simp [results,Tryz.results32,go_sem,y0,y1,y2,y3,y4,y5,y6,y7,y8,y9,y10,aP,aG,aC,F.len]) rfl (by rw [HRES.out];exact QN K0.out)
theorem zZ (s0:ByteArray) (w:World):Calls Tryz.prog 32 #[.string s0] w (lS (agX s0.data.toList) w):=by
 unfold agX;cases hL:gU s0.data.toList with
 | bad p er=>exact Qm s0 w hL
 | ok ts =>
   have h:=Ql s0 w hL;have hs:s0.size=s0.data.toList.length:=by simp
   rw [hs] at h;simp only;cases ha:agL ts with
   | bad p er=>rw [ha] at h;exact h
   | ok a=>rw [ha] at h;exact h
abbrev agP (x:AG) (p:PA):Obj:=.cells (agC x p) 70
structure KP9 (G:Nat->Prop) (w:World) (x:AG) (p:PA) (V:World):Prop where
 b:Below w.heap.size w V
 z:w.heap.size<=V.heap.size
 n:V.heap[w.heap.size]? = some (agP x p)
 r:bC G V x p
theorem KP9.step {G:Nat->Prop} {w V V':World} {x:AG} {p:PA} (h:KP9 G w x p V) (hb:Below V.heap.size V V'):KP9 G w x p V' :=
 ⟨h.b.trans (hb.mono h.z),Nat.le_trans h.z hb.size,(hb.block _ (aK h.n)).trans h.n,h.r.kept hb⟩
theorem sX {G:Nat->Prop} {w:World} {x:AG} {p:PA} (hr:bC G w x p):KP9 G w x p (w.alloc (agP x p)) :=
 ⟨bA0 _ _,by rw [World.size_alloc];omega,heap_alloc_new w _,hr.kept (bA0 _ _)⟩
structure SmG (x:AG):Prop where
 e:aR x.e<=1000
 g:aR x.g<=1000
 c:∀ d∈x.wh,aR d.a<=1000/\aR d.b<=1000
 wh:x.wh.length<=1000
section
variable {G : Nat -> Prop} {w : World} {x : AG} {pa p : PA} {X k : Nat} {qs : List QC} {V V' : World}
end
section
variable {G : Nat -> Prop} {w W V : World} {x : AG} {pa : PA} {X : Nat} {a3 a4 : Option Addr} {c3 c4 : Nat}
end
theorem xZ:∀ {f:F},MdF f->dR f
 | .nil,_=>trivial
 | .cons _ _ _ _ _,h=>⟨h.2.1,xZ h.2.2.2.1,xZ h.2.2.2.2⟩
def jB (t:TN):Prop:=aR t<=32/\SzF t.f/\dR t.f
theorem iT:jB aC:=⟨by decide,by simp [aC,TN.f,SzF,F.len,ByteArray.size],by simp [aC,TN.f,dR]⟩
theorem Ln {L:List Tk} (hL:∀ t∈L,cK t) {p q:Nat} {t:TN} (h:ofL L p=.ok t q):jB t:=⟨(DW hL h).2,LG (DV hL h),xZ (DV hL h)⟩
theorem iX {L:List Tk} (hL:∀ t∈L,cK t) (s:RS):jB (aZ L s).1:=by
 unfold aZ;split
 · cases ho:ofL L s.pos with
   | ok t q=>exact Ln hL ho
   | bad q e=>exact iT
 · exact iT
theorem qT {L:List Tk} (hL:∀ t∈L,cK t) (fn:List UInt8) (s:RS):jB (bG L fn s).1.2.1/\jB (bG L fn s).1.2.2:=by
 unfold bG;split
 · exact ⟨iT,iT⟩
 · simp only
   split
   · exact ⟨iX hL _,iX hL _⟩
   · exact ⟨iX hL _,iT⟩
theorem JV {L:List Tk} (hL:∀ t∈L,cK t) (s:RS):jB (bV L s).1.a/\jB (bV L s).1.b:=by
 unfold bV;simp only;split
 · split
   · exact ⟨iX hL _,iX hL _⟩
   · exact ⟨iX hL _,iT⟩
 · exact ⟨iX hL _,iT⟩
theorem zE {L:List Tk} (hL:∀ t∈L,cK t):∀ (f:Nat) (acc:List CD) (s:RS),(∀ d∈acc,jB d.a/\jB d.b)->∀ d∈(eQ L f acc s).1,jB d.a/\jB d.b
 | 0,acc,s,h=>h
 | f + 1, acc, s, h => by
   have h2:∀ d∈acc++[(bV L (aJ s)).1],jB d.a/\jB d.b:=fun d hd=>by
    rcases List.mem_append.1 hd with hd | hd
    · exact h d hd
    · rw [List.mem_singleton.1 hd];exact JV hL _
   rw [eQ];split
   · exact h
   · simp only
     split
     · exact zE hL f _ _ h2
     · exact h2
theorem ER {L:List Tk} (hL:∀ t∈L,cK t) {a:AG} (h:agL L=.ok a):jB a.e/\jB a.g/\∀ d∈a.wh,jB d.a/\jB d.b:=by
 unfold agL at h;cases h0:L[0]? with
 | none=>rw [h0] at h;cases h
 | some t =>
   rw [h0] at h;simp only at h;split at h
   · cases h
   split at h
   · cases h
   split at h
   · cases h
   split at h
   · cases h
   split at h
   · cases h
     exact ⟨(qT hL _ _).1,(qT hL _ _).2,fun d hd=>by cases hd⟩
   split at h
   · cases h
   split at h
   · cases h
   split at h
   · cases h
   · cases h
     exact ⟨(qT hL _ _).1,(qT hL _ _).2,zE hL 5 [] _ (fun d hd=>by cases hd)⟩
theorem tL {l:List UInt8} {a:AG} (h:agX l=.ok a):SmG a/\SzG a/\iY a=0:=by
 have he:=MZ h;have h4:=(dU he).2.2.2.2.1;unfold agX at h;cases hx:gU l with
 | bad p e=>rw [hx] at h;cases h
 | ok L =>
   rw [hx] at h;simp only at h;cases ha:agL L with
   | bad p e=>rw [ha] at h;cases h
   | ok b =>
     rw [ha] at h;cases h;obtain ⟨n1,n2,n3⟩:=ER (qI hx) ha;refine ⟨⟨Nat.le_trans n1.1 (by decide),Nat.le_trans n2.1 (by decide),fun d hd=>⟨Nat.le_trans (n3 d hd).1.1 (by decide),Nat.le_trans (n3 d hd).2.1 (by decide)⟩,by omega⟩,⟨n1.2.1,n2.2.1,fun d hd=>⟨(n3 d hd).1.2.1,(n3 d hd).2.2.1⟩⟩,he⟩
theorem MY {l:List UInt8} {a:AG} (h:agX l=.ok a):jP a:=by
 unfold agX at h;cases hx:gU l with
 | bad p e=>rw [hx] at h;cases h
 | ok L =>
   rw [hx] at h;simp only at h;cases ha:agL L with
   | bad p e=>rw [ha] at h;cases h
   | ok b =>
     rw [ha] at h;cases h;obtain ⟨n1,n2,n3⟩:=ER (qI hx) ha;exact ⟨n1.2.2,n2.2.2,fun d hd=>⟨(n3 d hd).1.2.2,(n3 d hd).2.2.2⟩⟩
theorem GE {L:List Tk} {p:Nat} {e:Int} (h:agL L=.bad p e):¬ e=0:=by
 unfold agL at h;cases h0:L[0]? with
 | none=>rw [h0] at h;cases h;decide
 | some t =>
   rw [h0] at h;simp only at h;split at h
   · cases h;decide
   split at h
   · cases h;decide
   split at h
   · rename_i hb;cases h;exact hb
   split at h
   · rename_i hb;cases h;exact hb
   split at h
   · cases h
   split at h
   · cases h;decide
   split at h
   · rename_i hb;cases h;exact hb
   split at h
   · cases h;decide
   · cases h
theorem sA {l:List UInt8} {p:Nat} {e:Int} (h:agX l=.bad p e):(e == 0)=false/\(e != 0)=true:=by
 unfold agX at h;cases hx:gU l with
 | bad q f=>rw [hx] at h;cases h;exact o9 hx
 | ok L =>
   rw [hx] at h;simp only at h;cases ha:agL L with
   | bad q f =>
     rw [ha] at h;cases h;have:=GE ha;exact ⟨by simpa using this,by simpa using this⟩
   | ok b=>rw [ha] at h;cases h
theorem Mi:∃ i z,Tryz.prog.info? 84=some i/\i.zero=some z/\i.size=12/\i.bytes=192/\z.cells.size=12:=by
 have h:(Tryz.prog.info? 84).map (fun i=>(i.zero.map (fun z=>z.cells.size),i.size,i.bytes))=some (some 12,12,192):=by kernel_rfl
 cases hx:Tryz.prog.info? 84 with
 | none=>rw [hx] at h;cases h
 | some i =>
   rw [hx] at h;simp only [Option.map_some,Option.some.injEq,Prod.mk.injEq] at h;obtain ⟨h1,h2,h3⟩:=h;cases hz:i.zero with
   | none=>rw [hz] at h1;cases h1
   | some z =>
     rw [hz] at h1;exact ⟨i,z,rfl,hz,h2,h3,by simpa using h1⟩
structure LBK (w:World) (B:Nat) (E:TypeId) (l:List LN) (oa:Option Addr) (oc:Nat) (ps:List PA) (V:World):Prop where
 b:Below w.heap.size w V
 lo:w.heap.size<=B
 hz:B<=V.heap.size
 own:V.ownsRow B E 12 (.slice oa l.length oc) l.length (kW l ps)
 ql:ps.length=l.length
 rd:∀ (j:Nat) (x:LN) (p:PA),l[j]? = some x->ps[j]? = some p->∀ w3,aD (fun b=>(Value.slice oa l.length oc).ownBlock=some b) V w3->bC (fun b=>B<=b) w3 x.a p
theorem LBK.step {w:World} {B:Nat} {E:TypeId} {l:List LN} {oa:Option Addr} {oc:Nat} {ps:List PA} {V V':World} (h:LBK w B E l oa oc ps V) (hb:Below V.heap.size V V'):LBK w B E l oa oc ps V' :=
 ⟨h.b.trans (hb.mono h.b.size),h.lo,Nat.le_trans h.hz hb.size,cQ h.own hb,h.ql,fun j x p h1 h2 w3 k3=>h.rd j x p h1 h2 w3 ((aE hb _).trans k3 (fun _ hi _=>hi))⟩
theorem Ee {w:World} {B:Nat} {E:TypeId} {l:List LN} {oa:Option Addr} {oc:Nat} {ps:List PA} {V V2 V3:World} (h:LBK w B E l oa oc ps V) {x:LN} {p:PA} {oa':Option Addr} {oc':Nat}
 (hb:Below V.heap.size V V2) (hq:∀ w3,aD (fun b=>B<=b/\b<V.heap.size) V2 w3->bC (fun b=>B<=b) w3 x.a p) (hk:aD (fun b=>(Value.slice oa l.length oc).ownBlock=some b) V2 V3)
 (ho:V3.ownsRow B E 12 (.slice oa' (l.length+1) oc') (l.length+1) (kW l ps++lnL x p)) (hn:∀ b,(Value.slice oa' (l.length+1) oc').ownBlock=some b->(Value.slice oa l.length oc).ownBlock=some b\/V2.heap.size<=b) :
 LBK w B E (l++[x]) oa' oc' (ps++[p]) V3:=by
 have lo:=fun b (hb:(Value.slice oa l.length oc).ownBlock=some b)=>h.own.lt b hb
 have hz:=hb.size;have hlo:=h.lo;have hhz:=h.hz;have hl:(l++[x]).length=l.length+1:=by simp
 refine ⟨(h.b.trans (hb.mono h.b.size)).trans (hk.below (fun b e=>by have:=(lo b e).1;omega) (by have:=h.b.size;omega)),hlo,by have:=hk.size;omega,?_,by rw [List.length_append,List.length_append,h.ql];rfl,fun j x' q' e1 e2 w3 k3=>?_⟩
 · rw [hl,D9 _ _ _ _ h.ql]
   simpa [kW] using ho
 · rw [hl] at k3
   rcases Nat.lt_or_ge j l.length with hj | hj
   · rw [List.getElem?_append_left hj] at e1
     rw [List.getElem?_append_left (by rw [h.ql];exact hj)] at e2;refine h.rd j x' q' e1 e2 w3 (((aE hb _).trans hk (fun i hi _=>hi)).trans k3 (fun i hi hlt=>?_));rcases hn i hi with h1 | h1
     · exact h1
     · omega
   · rw [List.getElem?_append_right hj] at e1
     rw [List.getElem?_append_right (by rw [h.ql];exact hj),h.ql] at e2;cases hm:j-l.length with
     | zero =>
       rw [hm] at e1 e2;cases e1;cases e2;refine hq w3 ((hk.mono (fun i hi _=>lo i hi)).trans k3 (fun i hi hlt=>?_));rcases hn i hi with h1 | h1
       · exact lo i h1
       · omega
     | succ m=>rw [hm] at e2;simp at e2
theorem LBK.reads {w:World} {B:Nat} {E:TypeId} {l:List LN} {oa:Option Addr} {oc:Nat} {ps:List PA} {V:World} (h:LBK w B E l oa oc ps V):dH (fun b=>w.heap.size<=b) V oa l :=
 Fn h.own h.ql (fun j x p h1 h2=>(h.rd j x p h1 h2 V (aD.refl _ _)).imp (fun b _ hb=>Nat.le_trans h.lo hb)) (fun b hb=>by
  have:=(h.own.lt b (by rw [hb];rfl)).1;have:=h.lo;omega)
theorem Hg {w V:World} {E:TypeId} (hb:Below w.heap.size w V):LBK w V.heap.size E [] none 0 [] V :=
 ⟨hb,hb.size,Nat.le_refl _,⟨rfl,.inl ⟨rfl,rfl⟩⟩,rfl,fun j x p h=>by cases h⟩
theorem LBK.cell {w:World} {B:Nat} {E:TypeId} {l:List LN} {oa:Option Addr} {oc:Nat} {ps:List PA} {V:World} (h:LBK w B E l oa oc ps V) {j:Nat} {x:LN} (hj:l[j]? = some x):∃ g,oa=some ⟨g,0,none⟩/\V.cell? ⟨g,j*12,none⟩=some (.string x.nm):=by
 obtain ⟨p,hp,hc⟩:=wF l ps h.ql hj;obtain ⟨g,hg,c⟩:=kU h.own (hc 0 _ rfl);exact ⟨g,hg,c⟩
theorem LP (W:World) (x:LN) (p:PA):∀ j u,(lnL x p)[j]? = some u->(W.alloc (.cells #[.string x.nm,.string x.a.fn,.int .i64 x.a.k,.string x.a.e.op,.string x.a.e.nm,.int .i64 x.a.e.n,.slice p.ea x.a.e.ks.len p.ec,.string x.a.g.op,.string x.a.g.nm,.int .i64 x.a.g.n,.slice p.ga x.a.g.ks.len p.gc,.slice p.wa x.a.wh.length p.wc] 84)).cell? ((⟨W.heap.size,0,none⟩:Addr).add j)=some u:=fun j u hu=>by
 have h:=heap_alloc_new W (.cells #[.string x.nm,.string x.a.fn,.int .i64 x.a.k,.string x.a.e.op,.string x.a.e.nm,.int .i64 x.a.e.n,.slice p.ea x.a.e.ks.len p.ec,.string x.a.g.op,.string x.a.g.nm,.int .i64 x.a.g.n,.slice p.ga x.a.g.ks.len p.gc,.slice p.wa x.a.wh.length p.wc] 84);rw [Addr.add_lit,Nat.zero_add,cell_of_row _ _ _ _ _ (0,0) h];have hj:j<12:=(List.getElem?_eq_some_iff.1 hu).1;match j,hj,hu with
 | 0,_,h=>exact h
 | 1,_,h=>exact h
 | 2,_,h=>exact h
 | 3,_,h=>exact h
 | 4,_,h=>exact h
 | 5,_,h=>exact h
 | 6,_,h=>exact h
 | 7,_,h=>exact h
 | 8,_,h=>exact h
 | 9,_,h=>exact h
 | 10,_,h=>exact h
 | 11,_,h=>exact h
theorem NR (s:ByteArray) (hm:s.size<=5000) (w:World):Calls Tryz.prog 29 #[.string s] w fun e w'=>(∃ a c,e=.returned (.slice a (cE s.data.toList).length c)/\zS (fun b=>w.heap.size<=b) w' a (cE s.data.toList))/\Below w.heap.size w w':=by
 by_cases h1:1<=s.size
 · exact Fx s h1 hm w
 · have e:s=⟨#[]⟩:=by
    apply dI
    have h2:s.data.toList.length=s.size:=by simp
    exact List.length_eq_zero_iff.1 (by omega)
   subst e;clear h1 hm;go_enter Tryz.func29,Tryz.ntmps29
   go_wp2_with fail
   go_ret;exact ⟨⟨none,0,rfl,.inl rfl⟩,Below.refl _ _⟩
theorem IB (s:ByteArray) (hm:s.size<=281474976710656) (w:World) {x:ByteArray} {r:ByteArray} (h:fE s.data.toList=some (x.data.toList,r.data.toList)) :
 Calls Tryz.prog 30 #[.string s] w fun e w'=>e=.returned (.tuple #[.string x,.string r,.bool true])/\Below w.heap.size w w':=by
 have H:=AB s hm w;rw [h] at H;exact H.mono fun e w' ⟨hb,he⟩=>⟨he,hb⟩
theorem KQ (s:ByteArray) (hm:s.size<=281474976710656) (w:World) (h:fE s.data.toList=none) :
 Calls Tryz.prog 30 #[.string s] w fun e w'=>e=.returned (.tuple #[.string ⟨#[]⟩,.string ⟨#[]⟩,.bool false])/\Below w.heap.size w w':=by
 have H:=AB s hm w;rw [h] at H;exact H.mono fun e w' ⟨hb,he⟩=>⟨he,hb⟩
theorem Eo {l:List UInt8} {nm r:List UInt8} (h:fE l=some (nm,r)):∃ (x y:ByteArray),fE l=some (x.data.toList,y.data.toList)/\x.data.toList=nm/\y.data.toList=r:=⟨⟨nm.toArray⟩,⟨r.toArray⟩,h,rfl,rfl⟩
theorem wM (q:UInt8->Bool) (l:List UInt8):(l.takeWhile q).length<=l.length/\(l.dropWhile q).length<=l.length:=by
 have h:=congrArg List.length (List.takeWhile_append_dropWhile (p:=q) (l:=l));rw [List.length_append] at h;omega
theorem Ep {l nm r:List UInt8} (h:fE l=some (nm,r)):nm.length<=l.length/\r.length<=l.length:=by
 have h1:=wM jI l;have h2:=wM eI (l.dropWhile jI);have h3:=wM jI ((l.dropWhile jI).dropWhile eI);unfold fE at h;simp only at h;split at h
 · cases h
 · split at h
   · rename_i r' hr
     cases h;rw [hr] at h3;simp at h3;exact ⟨by omega,by omega⟩
   · cases h
theorem wG {acc:List LN} {s nm r:List UInt8} (h:fE s=some (nm,r)):fM acc s=if bH nm=false\/cT nm=true then .bad 5 else if acc.any (fun x=>x.nm.data.toList == nm)=true then .bad 6 else match agX r with
 | .bad _ e=>.bad e
 | .ok a=>.ok ⟨⟨nm.toArray⟩,a⟩:=by
 unfold fM;rw [h];all_goals rfl
theorem kM {acc:List LN} {s:List UInt8} {q:List (List UInt8)} {e:Int} (h8:¬ acc.length=8) (h:fM acc s=.bad e):gR (s::q) acc=.bad acc.length e:=by
 unfold gR;rw [if_neg h8,h]
theorem pX {acc:List LN} {s:List UInt8} {q:List (List UInt8)} {x:LN} (h8:¬ acc.length=8) (h:fM acc s=.ok x):gR (s::q) acc=gR q (acc++[x]):=by
 conv=>lhs;unfold gR
 rw [if_neg h8,h]
theorem AC {acc:List LN} {s:List UInt8} {q:List (List UInt8)} (h8:acc.length=8):gR (s::q) acc=.bad acc.length 4:=by
 unfold gR;rw [if_pos h8]
theorem xF (s:ByteArray) (hm:s.size<=5000) (w:World):Calls Tryz.prog 10 #[.string s] w (CQ (iJ s.data.toList) w):=by
 obtain ⟨r,hr⟩:∃ r,iJ s.data.toList=r:=⟨_,rfl⟩;have HLN:=aA (FU s.data.toList);have hll:=I3 s.data.toList;have hsz:s.data.toList.length=s.size:=by simp
 have CU:=aA (NR s hm w);unfold iJ at hr;obtain ⟨L,hL⟩:∃ L,cE s.data.toList=L:=⟨_,rfl⟩;rw [hL] at hr HLN hll CU;rw [show iJ s.data.toList=r by unfold iJ;rw [hL];exact hr];have HR:=aA hr;clear hr hL;have und:=Tryz.underlying27;obtain ⟨i,zv,hi,hz0,hz1,hz2,hz3⟩:=Mi;go_enter Tryz.func10,Tryz.ntmps10
 go_wp2_with fail
 refine CU.out.mono ?_;rintro e w1 ⟨⟨la,lc,rfl,hx⟩,hb⟩;have HX:=aA hx;have HB1:=aA hb;have K0:=aA (Hg (E:=84) hb);obtain ⟨B,hB⟩:∃ B,w1.heap.size=B:=⟨_,rfl⟩;rw [hB] at K0;have HBB:=aA hB;clear hx hb hB CU;go_wp2_with fail
 go_loopw [6,7] (fun v i wr=>∃ (acc:List LN) (oa:Option Addr) (oc:Nat) (ps:List PA),v=.slice oa acc.length oc/\i=.int .i64 (acc.length:Nat)/\acc.length<=L.length/\acc.length<=8/\Hid (gR (L.drop acc.length) acc=r)/\Hid (LBK w B 84 acc oa oc ps wr)/\Hid (Below B w1 wr)) (fun _ i _=>L.length-(intOf i).toNat)
 case atStart=>exact ⟨[],none,0,[],rfl,rfl,Nat.zero_le _,Nat.zero_le _,HR,K0,aA (Below.refl _ _)⟩
 case round =>
  obtain ⟨acc,oa,oc,ps,rfl,rfl,hk,hk8,HP,HK,HBW⟩:=hrel;clear K0 HR;obtain ⟨k,hkk⟩:∃ k,acc.length=k:=⟨_,rfl⟩;have HKK:=aA hkk;rw [hkk] at hk hk8;have hk10:k<=10:=by omega
  by_cases hlt:k<L.length
  · obtain ⟨x,hx⟩:∃ x,L[k]? = some x:=⟨_,List.getElem?_eq_getElem hlt⟩
    have hd:L.drop acc.length=x::L.drop (acc.length+1):=by
     rw [hkk,List.drop_eq_getElem_cons hlt];rw [List.getElem?_eq_getElem hlt] at hx;rw [Option.some.inj hx]
    have hxl:x.length<=5000:=by have:=HLN.out x (List.mem_of_getElem? hx);omega
    have HP2:=HP.out;rw [hd] at HP2;by_cases h8:k=8
    · have q8:((k:Int) == 8)=true:=by rw [h8];rfl
      have RR:=aA (show r=.bad k 4 by rw [<- HP2,AC (by omega),hkk]);rw [hkk];clear HP2 hd hx hkk h8;go_wp2_with fail
      exact bodyPost_ret (v:=.tuple #[.slice none 0 0,.int .i64 (k:Nat),.int .i64 4]) (by simp [results,Tryz.results10,go_sem]) rfl (by rw [RR.out];exact ⟨HK.out.b,rfl⟩)
    · have q8:((k:Int) == 8)=false:=by rw [beq_eq_false_iff_ne];omega
      obtain ⟨lb,lo,hla,hlb,hlc⟩:=HX.out.at hx;subst hla;have lcell:=(HBW.out.cell (p:=⟨lb,lo+k,none⟩) (by rw [<- HBB.out];exact hlb)).trans hlc;obtain ⟨X,hX⟩:∃ X:ByteArray,(⟨x.toArray⟩:ByteArray)=X:=⟨_,rfl⟩;have hxX:X.data.toList=x:=by rw [<- hX]
      rw [hX] at lcell
      have hXs:X.size<=5000:=by
       have:X.data.toList.length=X.size:=by simp
       rw [<- this,hxX];exact hxl
      have HQ:=aA HP2;have HH:=aA (by rw [hkk];exact h8:¬ acc.length=8);have HXX:=aA hxX;clear HP2 hd hx hX hlc hlb hxl h8;cases hh:fE x with
      | none =>
        have HD:=aA (fun V=>KQ X (by omega) V (by rw [HXX.out];exact hh));have RR:=aA (show r=.bad k 2 by rw [<- HQ.out,kM HH.out (show fM acc x=.bad 2 by unfold fM;rw [hh]),hkk]);rw [hkk];clear hh hkk hxX;go_wp2_with fail
        refine (HD.out _).mono ?_;rintro e w2 ⟨rfl,hb⟩;have HB2:=aA (HK.out.step hb);clear hb;go_wp2_with fail
        exact bodyPost_ret (v:=.tuple #[.slice none 0 0,.int .i64 (k:Nat),.int .i64 2]) (by simp [results,Tryz.results10,go_sem]) rfl (by rw [RR.out];exact ⟨HB2.out.b,rfl⟩)
      | some nr =>
        obtain ⟨nm0,rs0⟩:=nr;obtain ⟨nm,rs,hh2,hnm,hrs⟩:=Eo hh;have hln:=Ep hh
        have hnms:nm.size<=5000:=by
         have:nm.data.toList.length=nm.size:=by simp
         rw [<- this,hnm];have:X.data.toList.length=X.size:=by simp
         rw [hxX] at this;omega
        have HD:=aA (fun V=>IB X (by omega) V (x:=nm) (r:=rs) (by rw [HXX.out];exact hh2));have NX:=aA (fun V=>Az nm (by omega) V);have KX:=aA (fun V=>AA nm V);have LX:=aA (wG (acc:=acc) hh2);rw [hkk];clear hh hh2 hnm hrs hln hxX hkk;go_wp2_with fail
        refine (HD.out _).mono ?_;rintro e w2 ⟨rfl,hb⟩;have K2:=aA (HK.out.step hb);have B2:=aA (HBW.out.trans (hb.mono HK.out.hz));clear hb HD lcell HK HBW;go_wp2_with fail
        refine (NX.out _).mono ?_;rintro e w3 ⟨rfl,rfl⟩;cases hg:bH nm.data.toList with
        | false =>
          have RR:=aA (show r=.bad k 5 by rw [<- HQ.out,kM HH.out (show fM acc x=.bad 5 by rw [LX.out,if_pos (.inl hg)]),HKK.out]);clear hg;go_wp2_with fail
          exact bodyPost_ret (v:=.tuple #[.slice none 0 0,.int .i64 (k:Nat),.int .i64 5]) (by simp [results,Tryz.results10,go_sem]) rfl (by rw [RR.out];exact ⟨K2.out.b,rfl⟩)
        | true =>
          have HG:=aA hg;clear hg;go_wp2_with fail
          refine (KX.out _).mono ?_;rintro e w4 ⟨rfl,rfl⟩;cases hkp:cT nm.data.toList with
          | true =>
            have RR:=aA (show r=.bad k 5 by rw [<- HQ.out,kM HH.out (show fM acc x=.bad 5 by rw [LX.out,if_pos (.inr hkp)]),HKK.out]);clear hkp;go_wp2_with fail
            exact bodyPost_ret (v:=.tuple #[.slice none 0 0,.int .i64 (k:Nat),.int .i64 5]) (by simp [results,Tryz.results10,go_sem]) rfl (by rw [RR.out];exact ⟨K2.out.b,rfl⟩)
          | false =>
            have LX2:=aA (show fM acc x=if acc.any (fun x=>x.nm.data.toList == nm.data.toList)=true then .bad 6 else match agX rs.data.toList with
             | .bad _ e=>.bad e
             | .ok a=>.ok ⟨⟨nm.data.toList.toArray⟩,a⟩ by rw [LX.out,if_neg (by rw [HG.out,hkp];simp)])
            clear hkp LX HG NX KX;go_wp2_with fail
            go_loop [11] (fun i=>∃ j:Nat,j<=k/\i=.int .i64 (j:Nat)/\Hid (∀ (t:Nat) y,t<j->acc[t]? = some y->(y.nm.data.toList == nm.data.toList)=false)) (fun i=>k-(intOf i).toNat)
            case atStart=>exact ⟨0,Nat.zero_le _,rfl,aA (fun t y h _=>by omega)⟩
            case round =>
             obtain ⟨j,hj,rfl,HN⟩:=hrel;by_cases hjl:j<k
             · obtain ⟨y,hy⟩:∃ y,acc[j]? = some y:=⟨_,List.getElem?_eq_getElem (by rw [HKK.out];exact hjl)⟩
               obtain ⟨g,hg,cj⟩:=K2.out.cell hy;subst hg;have HY:=aA hy;clear hy;cases hq:(y.nm.data.toList == nm.data.toList) with
               | true =>
                 have q1:(y.nm.toList == nm.toList)=true:=by rw [Lib.toList_data,Lib.toList_data];exact hq
                 have RR:=aA (show r=.bad k 6 by rw [<- HQ.out,kM HH.out (show fM acc x=.bad 6 by rw [LX2.out,if_pos (List.any_eq_true.2 ⟨y,List.mem_of_getElem? HY.out,hq⟩)]),HKK.out]);clear hq;go_wp2_with fail
                 exact bodyPost_ret (v:=.tuple #[.slice none 0 0,.int .i64 (k:Nat),.int .i64 6]) (by simp [results,Tryz.results10,go_sem]) rfl (by rw [RR.out];exact ⟨K2.out.b,rfl⟩)
               | false =>
                 have q1:(y.nm.toList == nm.toList)=false:=by rw [Lib.toList_data,Lib.toList_data];exact hq
                 have HN2:=aA (show ∀ (t:Nat) y',t<j+1->acc[t]? = some y'->(y'.nm.data.toList == nm.data.toList)=false from fun t y' ht hy'=>by
                  by_cases e:t=j
                  · subst e
                    rw [HY.out] at hy';cases hy';exact hq
                  · exact HN.out t y' (by omega) hy')
                 clear hq;go_wp2_with fail
                 go_round
                 case rel=>exact ⟨j+1,by omega,by go_num,HN2⟩
                 case measure=>simp [intOf];omega
             · obtain rfl:j=k:=by omega
               have LX3:=aA (show fM acc x=match agX rs.data.toList with
                | .bad _ e=>.bad e
                | .ok a=>.ok ⟨⟨nm.data.toList.toArray⟩,a⟩ by
                rw [LX2.out,if_neg];intro ht;obtain ⟨y,hy,e⟩:=List.any_eq_true.1 ht;obtain ⟨t,ht,e2⟩:=List.mem_iff_getElem.1 hy;have:=HN.out t y (by rw [<- HKK.out];exact ht) (by rw [List.getElem?_eq_getElem ht,e2]);rw [this] at e;cases e)
               have PG:=aA (zZ rs w2);clear HN LX2 hjl hj;cases hp:agX rs.data.toList with
               | bad p er =>
                 rw [hp] at PG LX3;obtain ⟨qe,qn⟩:=sA hp;have RR:=aA (show r=.bad j er by rw [<- HQ.out,kM HH.out (show fM acc x=.bad er by rw [LX3.out]),HKK.out]);clear hp LX3;go_wp2_with fail
                 refine PG.out.mono ?_;rintro e w5 ⟨hb,rfl⟩;have BA:=aA (bA0 w5 (agO aP aG));have K3:=K2.out.step hb;have K4:=aA (K3.step BA.out);generalize hW:w5.alloc (agO aP aG)=W at K4;have HW:=aA hW;clear hb BA K3 hW PG;go_upto_region 19 with fail
                 rw [show w5.alloc (.cells #[.string aP.fn,.int .i64 aP.k,.string aP.e.op,.string aP.e.nm,.int .i64 aP.e.n,.slice aG.ea aP.e.ks.len aG.ec,.string aP.g.op,.string aP.g.nm,.int .i64 aP.g.n,.slice aG.ga aP.g.ks.len aG.gc,.slice aG.wa aP.wh.length aG.wc] 82)=W from HW.out];clear HW;go_wp2_with fail
                 exact bodyPost_ret (v:=.tuple #[.slice none 0 0,.int .i64 (j:Nat),.int .i64 er]) (by simp [results,Tryz.results10,go_sem]) rfl (by rw [RR.out];exact ⟨K4.out.b,rfl⟩)
               | ok a =>
                 rw [hp] at PG LX3;have HP3:=aA (show gR (L.drop (acc.length+1)) (acc++[⟨nm,a⟩])=r by rw [<- HQ.out,pX HH.out (show fM acc x=.ok ⟨nm,a⟩ by rw [LX3.out])]);clear hp LX3;go_wp2_with fail
                 refine PG.out.mono ?_;rintro e w5 ⟨hb,p,rfl,hr⟩;have hz5:=hb.size;have BA:=bA0 w5 (agO a p);have NB:=heap_alloc_new w5 (agO a p);have HB5:=hb.trans (BA.mono hz5);have HR5:=hr.kept BA;generalize hW:w5.alloc (agO a p)=W at BA NB HB5 HR5;generalize hD:w5.heap.size=D at NB;have HW:=aA hW;have HD:=aA hD;have HNB:=aA NB;have HB6:=aA HB5;have HR6:=aA HR5;have B3:=aA (B2.out.trans (HB5.mono K2.out.hz));clear hb BA NB HB5 HR5 hW hD PG hr hz5;go_upto_region 19 with fail
                 rw [show w5.alloc (.cells #[.string a.fn,.int .i64 a.k,.string a.e.op,.string a.e.nm,.int .i64 a.e.n,.slice p.ea a.e.ks.len p.ec,.string a.g.op,.string a.g.nm,.int .i64 a.g.n,.slice p.ga a.g.ks.len p.gc,.slice p.wa a.wh.length p.wc] 82)=W from HW.out,HD.out];clear HW HD;obtain ⟨m0,m1,m2,m3,m4,m5,m6,m7,m8,m9,m10⟩:=aF HNB.out;have K5:=aA (K2.out.step HB6.out);have BU:=aA (bA0 W (.cells #[.string nm,.string a.fn,.int .i64 a.k,.string a.e.op,.string a.e.nm,.int .i64 a.e.n,.slice p.ea a.e.ks.len p.ec,.string a.g.op,.string a.g.nm,.int .i64 a.g.n,.slice p.ga a.g.ks.len p.gc,.slice p.wa a.wh.length p.wc] 84));have OWN:=aA (show (W.alloc (.cells #[.string nm,.string a.fn,.int .i64 a.k,.string a.e.op,.string a.e.nm,.int .i64 a.e.n,.slice p.ea a.e.ks.len p.ec,.string a.g.op,.string a.g.nm,.int .i64 a.g.n,.slice p.ga a.g.ks.len p.gc,.slice p.wa a.wh.length p.wc] 84)).ownsRow B 84 12 (.slice oa acc.length oc) acc.length (kW acc ps) from K5.out.own.alloc _);have NEW:=aA (show ∀ j u,(lnL ⟨nm,a⟩ p)[j]? = some u->(W.alloc (.cells #[.string nm,.string a.fn,.int .i64 a.k,.string a.e.op,.string a.e.nm,.int .i64 a.e.n,.slice p.ea a.e.ks.len p.ec,.string a.g.op,.string a.g.nm,.int .i64 a.g.n,.slice p.ga a.g.ks.len p.gc,.slice p.wa a.wh.length p.wc] 84)).cell? ((⟨W.heap.size,0,none⟩:Addr).add j)=some u from LP W ⟨nm,a⟩ p);have ONE:=aA (fun u (hu:u∈lnL ⟨nm,a⟩ p)=>yA [⟨nm,a⟩] [p] u (by simpa [kW] using hu));have HBS:=aA (show B<=(W.alloc (.cells #[.string nm,.string a.fn,.int .i64 a.k,.string a.e.op,.string a.e.nm,.int .i64 a.e.n,.slice p.ea a.e.ks.len p.ec,.string a.g.op,.string a.g.nm,.int .i64 a.g.n,.slice p.ga a.g.ks.len p.gc,.slice p.wa a.wh.length p.wc] 84)).heap.size by have h1:=K5.out.hz;have h2:=BU.out.size;omega)
                 rw [HKK.out] at OWN
                 go_upto_region 5 with (first
                  | (at_builtin
                     refine aQ rfl _ _ 27 rfl (base:=B) und hi hz0 hz1 hz2 hz3 (by decide) (.slice oa j oc) j 1 1 ⟨W.heap.size,0,none⟩ (kW acc ps) (lnL ⟨nm,a⟩ p) rfl rfl OWN.out rfl NEW.out ONE.out (by unfold maxLen;omega) (by omega) HBS.out ?_;intro v4 w6 ho hg hn;obtain ⟨a',c',hv⟩:=gM ho;subst hv;have KA:=(aD.refl (fun b=>(Value.slice oa j oc).ownBlock=some b) _).grown hg (fun k hk=>.inl hk);have K6:=aA (Ee (x:=⟨nm,a⟩) (p:=p) K2.out (V2:=W.alloc (.cells #[.string nm,.string a.fn,.int .i64 a.k,.string a.e.op,.string a.e.nm,.int .i64 a.e.n,.slice p.ea a.e.ks.len p.ec,.string a.g.op,.string a.g.nm,.int .i64 a.g.n,.slice p.ga a.g.ks.len p.gc,.slice p.wa a.wh.length p.wc] 84)) (HB6.out.trans (BU.out.mono HB6.out.size)) (fun w7 k7=>((HR6.out.kept BU.out).keptS k7 (fun b hb hg=>by have:=hb.2;omega)).imp (fun b _ hb=>by have:=K2.out.hz;omega)) (by rw [HKK.out];exact KA) (by rw [HKK.out];exact ho) (by rw [HKK.out];exact hn));have B4:=aA ((B3.out.trans (BU.out.mono (by have:=K5.out.hz;exact this))).trans (KA.below (fun b hb=>(K2.out.own.lt b (by rw [HKK.out];exact hb)).1) (by have:=HBS.out;omega)));clear ho hg hn KA OWN NEW ONE HBS BU)
                  | fail)
                 clear m0 m1 m2 m3 m4 m5 m6 m7 m8 m9 m10;go_wp2_with fail
                 go_roundw
                 case rel=>exact ⟨acc++[⟨nm,a⟩],a',c',ps++[p],by rw [List.length_append,HKK.out];rfl,by rw [List.length_append,HKK.out];go_num,by rw [List.length_append,HKK.out];simp;omega,by have h8:=HH.out;rw [HKK.out] at h8;rw [List.length_append,HKK.out];simp;omega,by rw [List.length_append];exact HP3,K6,B4⟩
                 case measure=>simp [intOf];omega
  · obtain rfl:k=L.length:=by omega
    have RR:=aA (show r=.ok acc by rw [<- HP.out,HKK.out,List.drop_length];rfl);rw [HKK.out];clear hkk;go_wp2_with fail
    exact bodyPost_ret (v:=.tuple #[.slice oa L.length oc,.int .i64 0,.int .i64 0]) (by simp [results,Tryz.results10,go_sem]) rfl (by rw [RR.out];exact ⟨HK.out.b,oa,oc,by rw [HKK.out],HK.out.reads⟩)
structure PD where
 v:Int
 o:ByteArray
 t:ByteArray
abbrev pdV (x:PD):Value:=.agg #[.int .i64 x.v,.string x.o,.string x.t]
abbrev pdO (x:PD) (T:TypeId):Obj:=.cells #[.int .i64 x.v,.string x.o,.string x.t] T
theorem gB {W:World} {B:Nat} {v0 v1 v2:Value} {t:TypeId} (h:W.heap[B]? = some (.cells #[v0,v1,v2] t (0,0))):W.cell? ⟨B,0,none⟩=some v0/\W.cell? ⟨B,1,none⟩=some v1/\W.cell? ⟨B,2,none⟩=some v2:=by
 refine ⟨?_,?_,?_⟩ <;> simp [World.cell?,h]
def Rw:Hx->Int
 | .bad _ e=>e
 | .ok _=>0
def tA (x:PD):Int :=
 if Wr.countB x.v=false then 1 else if x.v=0 then (if x.o.toList.isEmpty=true/\x.t.toList.isEmpty=true then 0 else 2) else
 if lH x.o.data.toList=false then 5 else if 4096<x.t.size then 4 else Rw (iJ x.t.data.toList)
def rT (x y:PD):Bool:=if x.v=y.v then (!lsS x.o y.o && !(x.o.toList == y.o.toList)) else decide (y.v<x.v)
theorem xG (x y:PD) (w:World):Calls Tryz.prog 24 #[pdV x,pdV y] w fun e w'=>e=.returned (.bool (rT x y))/\Below w.heap.size w w':=by
 have B1:=bA0 w (pdO x 49);have B2:=aA (B1.alloc (by rw [World.size_alloc];omega) (pdO y 49));clear B1;by_cases h:x.v=y.v
 · have R:=aA (show rT x y=(!lsS x.o y.o && !(x.o.toList == y.o.toList)) by unfold rT;rw [if_pos h])
   have q1:((x.v:Int) != (y.v:Int))=false:=by rw [h];simp
   clear h;go_enter Tryz.func24,Tryz.ntmps24
   go_wp2_with fail
   go_ret;exact ⟨by rw [R.out];rfl,B2.out⟩
 · have R:=aA (show rT x y=decide (y.v<x.v) by unfold rT;rw [if_neg h])
   have q1:((x.v:Int) != (y.v:Int))=true:=by rw [bne_iff_ne];exact h
   clear h;go_enter Tryz.func24,Tryz.ntmps24
   go_wp2_with fail
   go_ret;exact ⟨by rw [R.out];rfl,B2.out⟩
theorem xH (x:PD) (ho:x.o.size<=1000) (ht:x.t.size<=5000) (w:World):Calls Tryz.prog 21 #[pdV x] w fun e w'=>e=.returned (.int .i64 (tA x))/\Below w.heap.size w w':=by
 have B1:=bA0 w (pdO x 49);have N1:=heap_alloc_new w (pdO x 49);have z1:(w.alloc (pdO x 49)).heap.size=w.heap.size+1:=World.size_alloc _ _;generalize hW:w.alloc (pdO x 49)=W at B1 N1 z1;have HW:=aA hW;have HB:=aA B1;have HN:=aA N1;have IN:=aA (Wr.rIn_any x.v W);obtain ⟨r,hr⟩:∃ r,tA x=r:=⟨_,rfl⟩;rw [hr];unfold tA at hr;clear hW B1 N1;go_enter Tryz.func21,Tryz.ntmps21
 go_upto_region 1 with fail
 rw [show w.alloc (.cells #[.int .i64 x.v,.string x.o,.string x.t] 49)=W from HW.out];clear HW;obtain ⟨c0,c1,c2⟩:=gB HN.out;go_wp2_with fail
 refine IN.out.mono ?_;rintro e w1 ⟨rfl,rfl⟩;cases hv:Wr.countB x.v with
 | false =>
   rw [if_pos hv] at hr;subst hr;clear hv;go_wp2_with fail
   go_ret;exact ⟨rfl,HB.out⟩
 | true =>
   rw [if_neg (by rw [hv];decide)] at hr;clear hv;by_cases h0:x.v=0
   · rw [if_pos h0] at hr
     have q0:((x.v:Int) == 0)=true:=by rw [h0];rfl
     clear h0;cases h1:x.o.toList.isEmpty with
     | false =>
       rw [h1,if_neg (by simp)] at hr;subst hr;go_wp2_with fail
       go_ret;exact ⟨rfl,HB.out⟩
     | true =>
       cases h2:x.t.toList.isEmpty with
       | false =>
         rw [h2,if_neg (by simp)] at hr;subst hr;go_wp2_with fail
         go_ret;exact ⟨rfl,HB.out⟩
       | true =>
         rw [h1,h2,if_pos ⟨rfl,rfl⟩] at hr;subst hr;go_wp2_with fail
         go_ret;exact ⟨rfl,HB.out⟩
   · rw [if_neg h0] at hr
     have q0:((x.v:Int) == 0)=false:=by rw [beq_eq_false_iff_ne];exact h0
     have ND:=aA (Wr.rNode_any x.o ho W);clear h0;go_wp2_with fail
     refine ND.out.mono ?_;rintro e w2 ⟨rfl,hb⟩;have HN2:=aA ((hb.block _ (by omega)).trans HN.out);have HB2:=aA (HB.out.trans (hb.mono (by omega)));have z2:=hb.size;clear hb HN HB ND c0 c1 c2;obtain ⟨c0,c1,c2⟩:=gB HN2.out;cases hn:lH x.o.data.toList with
     | false =>
       rw [if_pos hn] at hr;subst hr;clear hn;go_wp2_with fail
       go_ret;exact ⟨rfl,HB2.out⟩
     | true =>
       rw [if_neg (by rw [hn];decide)] at hr;clear hn;by_cases hl:4096<x.t.size
       · rw [if_pos hl] at hr
         subst hr;have q2:(4096:Int)<(x.t.size:Int):=by omega
         clear hl;go_wp2_with fail
         go_ret;exact ⟨rfl,HB2.out⟩
       · rw [if_neg hl] at hr
         have q2:¬ (4096:Int)<(x.t.size:Int):=by omega
         have PP:=aA (xF x.t ht w2);clear hl;cases hp:iJ x.t.data.toList with
         | bad p er =>
           rw [hp] at PP hr;subst hr;clear hp;go_wp2_with fail
           refine PP.out.mono ?_;rintro e w3 ⟨hb,rfl⟩;have HB3:=aA (HB2.out.trans (hb.mono (by omega)));clear hb;go_wp2_with fail
           go_ret;exact ⟨rfl,HB3.out⟩
         | ok l =>
           rw [hp] at PP hr;subst hr;clear hp;go_wp2_with fail
           refine PP.out.mono ?_;rintro e w3 ⟨hb,a,c,rfl,hrd⟩;have HB3:=aA (HB2.out.trans (hb.mono (by omega)));clear hb hrd;go_wp2_with fail
           go_ret;exact ⟨rfl,HB3.out⟩
theorem pZ (s:ByteArray) (w:World):Calls Tryz.prog 25 #[.string s] w fun e w'=>e=.returned (.bool (cT s.data.toList))/\Below w.heap.size w w':=by
 cases h0:(s.data.toList == [114,101,112]) with
 | true =>
   have g0:=bQ h0;have R:cT s.data.toList=true:=by unfold cT;rw [h0];simp
   rw [R];clear R  h0;go_enter Tryz.func25,Tryz.ntmps25
   go_wp2_with fail
   go_ret;exact ⟨rfl,Below.refl _ _⟩
 | false =>
   cases h1:(s.data.toList == [108,111,97,100]) with
   | true =>
     have g0:=aI h0;have g1:=bQ h1;have R:cT s.data.toList=true:=by unfold cT;rw [h1];simp
     rw [R];clear R h0 h1;go_enter Tryz.func25,Tryz.ntmps25
     go_wp2_with fail
     go_ret;exact ⟨rfl,Below.refl _ _⟩
   | false =>
     cases h2:(s.data.toList == [110]) with
     | true =>
       have g0:=aI h0;have g1:=aI h1;have g2:=bQ h2;have R:cT s.data.toList=true:=by unfold cT;rw [h2];simp
       rw [R];clear R h0 h1 h2;go_enter Tryz.func25,Tryz.ntmps25
       go_wp2_with fail
       go_ret;exact ⟨rfl,Below.refl _ _⟩
     | false =>
       cases h3:(s.data.toList == [118,101,114]) with
       | true =>
         have g0:=aI h0;have g1:=aI h1;have g2:=aI h2;have g3:=bQ h3;have R:cT s.data.toList=true:=by unfold cT;rw [h3];simp
         rw [R];clear R h0 h1 h2 h3;go_enter Tryz.func25,Tryz.ntmps25
         go_wp2_with fail
         go_ret;exact ⟨rfl,Below.refl _ _⟩
       | false =>
         have g0:=aI h0;have g1:=aI h1;have g2:=aI h2;have g3:=aI h3;have R:cT s.data.toList=false:=by unfold cT;rw [h0,h1,h2,h3];rfl
         rw [R];clear R h0 h1 h2 h3;go_enter Tryz.func25,Tryz.ntmps25
         go_wp2_with fail
         go_ret;exact ⟨rfl,Below.refl _ _⟩
theorem nH (x y:PD) (w:World):Calls Tryz.prog 23 #[pdV x,pdV y] w fun e w'=>e=.returned (.bool (rT x y))/\Below w.heap.size w w':=by
 have B1:=bA0 w (pdO x 46);have B2:=aA (B1.alloc (by rw [World.size_alloc];omega) (pdO y 46));clear B1;by_cases h:x.v=y.v
 · have R:=aA (show rT x y=(!lsS x.o y.o && !(x.o.toList == y.o.toList)) by unfold rT;rw [if_pos h])
   have q1:((x.v:Int) != (y.v:Int))=false:=by rw [h];simp
   clear h;go_enter Tryz.func23,Tryz.ntmps23
   go_wp2_with fail
   go_ret;exact ⟨by rw [R.out];rfl,B2.out⟩
 · have R:=aA (show rT x y=decide (y.v<x.v) by unfold rT;rw [if_neg h])
   have q1:((x.v:Int) != (y.v:Int))=true:=by rw [bne_iff_ne];exact h
   clear h;go_enter Tryz.func23,Tryz.ntmps23
   go_wp2_with fail
   go_ret;exact ⟨by rw [R.out];rfl,B2.out⟩
theorem IL (x:PD) (w:World):Calls Tryz.prog 48 #[pdV x] w fun e w'=>e=.returned (.int .i64 (if x.o.toList.isEmpty=true/\x.t.toList.isEmpty=true then 0 else 2))/\Below w.heap.size w w':=by
 have B1:=aA (bA0 w (pdO x 46));obtain ⟨r,hr⟩:∃ r:Int,(if x.o.toList.isEmpty=true/\x.t.toList.isEmpty=true then 0 else 2)=r:=⟨_,rfl⟩;rw [hr];cases h1:x.o.toList.isEmpty with
 | false =>
   rw [h1,if_neg (by simp)] at hr;subst hr;go_enter Tryz.func48,Tryz.ntmps48
   go_wp2_with fail
   go_ret;exact ⟨rfl,B1.out⟩
 | true =>
   cases h2:x.t.toList.isEmpty with
   | false =>
     rw [h2,if_neg (by simp)] at hr;subst hr;go_enter Tryz.func48,Tryz.ntmps48
     go_wp2_with fail
     go_ret;exact ⟨rfl,B1.out⟩
   | true =>
     rw [h1,h2,if_pos ⟨rfl,rfl⟩] at hr;subst hr;go_enter Tryz.func48,Tryz.ntmps48
     go_wp2_with fail
     go_ret;exact ⟨rfl,B1.out⟩
end
end Go.Proofs.YtgfkjkokmcejbaaGreatDoor
namespace Go.Proofs.YtgfkjkokmcejbaaGreatDoor.Wr
open Go.RowKit
section
section
open Go.RowKit
end
section
open Go.RowKit
def Mr (x:AD) (y:Option Addr) (c:Nat):List Value:=[.string x.m,.int .i64 x.k,.int .i64 x.n,.string x.s,.slice y x.len c]
def pL (A:Nat->AD) (Y:Nat->Option Addr) (C:Nat->Nat):Nat->List Value
 | 0=>[]
 | k+1=>pL A Y C k++Mr (A k) (Y k) (C k)
theorem zI (A:Nat->AD) (Y:Nat->Option Addr) (C:Nat->Nat):∀ k,(pL A Y C k).length=k*5
 | 0=>rfl
 | k+1=>by rw [pL,List.length_append,zI A Y C k];show k*5+5=_;omega
theorem Bs (A:Nat->AD) (Y:Nat->Option Addr) (C:Nat->Nat) {i:Nat} (hi:i<5):∀ {k j:Nat},j<k->(pL A Y C k)[j*5+i]? = (Mr (A j) (Y j) (C j))[i]?
 | 0,j,h=>by omega
 | k + 1, j, h => by
   have hl:=zI A Y C k;rw [pL];by_cases hj:j<k
   · rw [List.getElem?_append_left (by omega)]
     exact Bs A Y C hi hj
   · obtain rfl:j=k:=by omega
     rw [List.getElem?_append_right (by omega),hl,show j*5+i-j*5=i by omega]
theorem Fq {w:World} {base:Nat} {e:TypeId} {v:Value} {n:Nat} {A:Nat->AD} {Y:Nat->Option Addr} {C:Nat->Nat} (h:w.ownsRow base e 5 v n (pL A Y C n)) (hr:∀ j,j<n->Reads w (Y j) (A j).len (A j).z) :
 ∃ a c,v=.slice a n c/\ReadsA w a n A:=by
 rcases h.2 with ⟨rfl,rfl⟩ | ⟨g,cap,cur,rfl,_,hg,hnc,hcm,_,ht⟩
 · exact ⟨none,0,rfl,Nat.zero_le _,.inl rfl⟩
 · refine ⟨_,_,rfl,Nat.le_trans hnc hcm,.inr ⟨g,0,rfl,fun j hj=>⟨Y j,C j,?_,hr j hj⟩⟩⟩
   have cell:∀ i u,i<5->(Mr (A j) (Y j) (C j))[i]? = some u->w.cell? ⟨g,0+j*5+i,none⟩=some u:=fun i u hi hu=>by
    rw [Nat.zero_add];obtain ⟨g',hg',hc⟩:=qB h (by rw [Bs A Y C hi hj];exact hu);simp only [Addr.mk.injEq] at hg';obtain ⟨rfl,_⟩:=hg';exact hc
   exact ⟨cell 0 _ (by omega) rfl,cell 1 _ (by omega) rfl,cell 2 _ (by omega) rfl,cell 3 _ (by omega) rfl,cell 4 _ (by omega) rfl⟩
theorem IV {w:World} {base:Nat} {e:TypeId} {size:Nat} {v:Value} {n:Nat} {xs:List Value} (h:w.ownsRow base e size v n xs):∃ a l c,v=.slice a l c:=by
 rcases h.2 with ⟨h,_⟩ | ⟨g,cap,_,h,_⟩
 · exact ⟨_,_,_,h⟩
 · exact ⟨_,_,_,h⟩
end
section
open Go.RowKit
def nmD (D:List AD):List ByteArray:=D.map (·.m)
end
section
open Go.RowKit
theorem Ry:∀ x y:List UInt8,decide (Lib.compareBytes x y<0)=Op.bytesLess x y
 | [],[]=>rfl
 | [],_::_=>rfl
 | _::_,[]=>rfl
 | a :: r, b :: t => by
   have ih:=Ry r t;unfold Lib.compareBytes Op.bytesLess;by_cases h:a<b
   · simp [h]
   · by_cases h':b<a
     · have:(a == b)=false:=by rw [beq_eq_false_iff_ne];rintro rfl;exact h h'
       simp [h,h',this]
     · have:a=b:=UInt8.le_antisymm (UInt8.not_lt.1 h') (UInt8.not_lt.1 h)
       subst this;simp [h,ih]
theorem Rz:∀ x y:List UInt8,decide (Lib.compareBytes x y=0)=decide (x=y)
 | [],[]=>rfl
 | [],_::_=>rfl
 | _::_,[]=>rfl
 | a :: r, b :: t => by
   have ih:=Rz r t;unfold Lib.compareBytes;by_cases h:a<b
   · have:a ≠ b:=by rintro rfl;exact absurd h (UInt8.lt_irrefl a)
     simp [h,this]
   · by_cases h':b<a
     · have:a ≠ b:=by rintro rfl;exact h h'
       simp [h,h',this]
     · have:a=b:=UInt8.le_antisymm (UInt8.not_lt.1 h') (UInt8.not_lt.1 h)
       subst this;simpa [h] using ih
theorem n6 (x:AD) (y:Option Addr) (c:Nat) (s:ByteArray) (w:World) :
 Calls Tryz.prog 283 #[.agg #[.string x.m,.int .i64 x.k,.int .i64 x.n,.string x.s,.slice y x.len c],.string s] w fun e w'=>e=.returned (.int .i64 (Lib.compareBytes x.m.data.toList s.data.toList))/\Below w.heap.size w w':=by
 have bl:∀ o,Below w.heap.size w (w.alloc o):=fun o=>bA0 _ _
 have BL:=aA bl;clear bl;go_enter Tryz.func283,Tryz.ntmps283
 go_wp2_with fail
 refine (Tryz.strings_Compare _ _ _).mono ?_;rintro e w' ⟨rfl,rfl⟩;have P:=aA (BL.out (.cells #[.string x.m,.int .i64 x.k,.int .i64 x.n,.string x.s,.slice y x.len c] 62));go_wp2_with fail
 go_ret;exact ⟨rfl,P.out⟩
theorem rising_nm {A:Nat->AD} {n:Nat} (hR:RiseA A n):dC lsS (nmD (twsA A n)):=by
 have:nmD (twsA A n)=(List.range n).map (fun j=>(A j).m):=by simp [nmD,twsA,twA]
 rw [this];unfold dC;rw [List.pairwise_map];exact List.Pairwise.imp_of_mem (fun {i j} hi hj h=>hR i j h (List.mem_range.1 hj)) List.pairwise_lt_range
theorem nm_at (A:Nat->AD) {n t:Nat} (ht:t<n):(nmD (twsA A n))[t]? = some (A t).m:=by
 have:nmD (twsA A n)=(List.range n).map (fun j=>(A j).m):=by simp [nmD,twsA,twA]
 rw [this,List.getElem?_map,List.getElem?_range ht];rfl
theorem BJ (a:Option Addr) (c:Nat) (f:Value) (x:ByteArray) (w:World) :
 Calls Tryz.prog 282 #[.slice a 0 c,.string x,f] w fun e w'=>e=.returned (.tuple #[.int .i64 (0:Nat),.bool false])/\w'=w:=by
 go_enter Tryz.func282,Tryz.ntmps282
 go_wp2
 go_loop [9,10] (fun s7 s8=>s7=.int .i64 0/\s8=.int .i64 0) (fun _ _=>0)
 case atStart=>exact ⟨rfl,rfl⟩
 case round =>
  obtain ⟨rfl,rfl⟩:=hrel;go_wp2
  go_ret2;exact ⟨rfl,rfl⟩
theorem BI (b off:Nat) (n c:Nat) (A:Nat->AD) (x:ByteArray) (hn:n<=1000) (hR:RiseA A n) (w:World) (h:∀ j,j<n->∃ y c,lD w b (off+j*5) (A j) y c) :
 Calls Tryz.prog 282 #[.slice (some ⟨b,off,none⟩) n c,.string x,.func (.func 283) #[] #[]] w fun e w' =>
  e=.returned (.tuple #[.int .i64 (pos lsS (nmD (twsA A n)) x:Nat),.bool (has (nmD (twsA A n)) x)])/\Below w.heap.size w w':=by
 have hr:=rising_nm hR;have hl:(nmD (twsA A n)).length=n:=by simp [nmD,twsA]
 have hat:∀ t,t<n->(nmD (twsA A n))[t]? = some (A t).m:=fun t ht=>nm_at A ht
 generalize nmD (twsA A n)=ks at hr hl hat;have hS:=wY fK hr x;rw [hl] at hS;obtain ⟨I,hI⟩:∃ I,pos lsS ks x=I:=⟨_,rfl⟩;obtain ⟨B,hB⟩:∃ B,B=has ks x:=⟨_,rfl⟩;have hIn:I<=n:=by rw [<- hI, <- hl];exact tY _ _
 rw [hI] at hS;rw [hI, <- hB];have HE:=aA (p:=I<n->decide ((A I).m=x)=B) (fun hy=>by rw [hB,Bg fK hr hI (hat I hy)]);have HN:=aA (p:=n<=I->false=B) (fun h=>by rw [hB];exact (yQ fK hr hI (by omega)).symm);have HG:=aA (p:=∀ t,t<n->ks.getD t x=(A t).m) (fun t ht=>by rw [List.getD_eq_getElem?_getD,hat t ht];rfl);have HS:=aA hS;have HC:=aA h;clear hS hI hB hr hl hat h hR;go_enter Tryz.func282,Tryz.ntmps282
 go_wp2_with fail
 go_loopg [9,10] n (fun g s7 s8 wr=>∃ lo hi:Nat,s7=.int .i64 lo/\s8=.int .i64 hi/\lo<=hi/\hi<=n/\hi-lo<=g/\Hid (Below w.heap.size w wr)/\Hid (Lib.bsGo (fun t=>lsS (ks.getD t x) x) g lo hi=I))
 case atStart=>exact ⟨0,n,rfl,rfl,Nat.zero_le _,Nat.le_refl _,by omega,aA (Below.refl _ _),HS⟩
 case round =>
  obtain ⟨lo,hi,rfl,rfl,hlh,hin,hg,hBl,hb⟩:=hrel;by_cases hlt:lo<hi
  · obtain ⟨y,cy,h50⟩:=HC.out ((lo+hi) / 2) (by omega)
    have h5:=h50.kept hBl.out;obtain ⟨g',rfl⟩:∃ g',gk=g'+1:=⟨gk-1,by omega⟩;have hb1:=hb.out;have hgt:=HG.out ((lo+hi) / 2) (by omega);clear hb h50;simp only [Lib.bsGo,hlt,if_true] at hb1;obtain ⟨z,hz⟩:∃ z,A ((lo+hi) / 2)=z:=⟨_,rfl⟩;rw [hz] at h5 hgt;simp only [hgt] at hb1;have hcb:=Ry z.m.data.toList x.data.toList;rw [<- Lib.toList_data, <- Lib.toList_data,show Op.bytesLess z.m.toList x.toList=lsS z.m x from rfl,Lib.toList_data,Lib.toList_data] at hcb;have CN:=aA (fun w'=>n6 z y cy x w');obtain ⟨d0,d1,d2,d3,d4⟩:=h5;have hsz:=hBl.out.size;clear hz hgt;cases hyx:lsS z.m x <;> simp only [hyx,if_true,Bool.false_eq_true,if_false] at hb1 hcb
    · have HB:=aA hb1
      clear hb1 hyx;go_wp2_with fail
      refine (CN.out _).mono ?_;rintro e w2 ⟨rfl,hb2⟩;have B2:=aA (hBl.out.trans (hb2.mono hsz));clear hb2;go_wp2_with fail
      go_roundg ((lo+hi) / 2-lo)
      case measure=>omega
      case rel=>exact ⟨lo,(lo+hi) / 2,rfl,by rw [show ((lo:Int)+(hi:Int)) / 2=(((lo+hi) / 2:Nat):Int) by omega],by omega,by omega,Nat.le_refl _,B2,aA (by rw [<- HB.out];exact Lib.bsGo_fuel _ _ _ _ _ (Nat.le_refl _) (by omega))⟩
    · have HB:=aA hb1
      clear hb1 hyx;go_wp2_with fail
      refine (CN.out _).mono ?_;rintro e w2 ⟨rfl,hb2⟩;have B2:=aA (hBl.out.trans (hb2.mono hsz));clear hb2;go_wp2_with fail
      go_roundg (hi-((lo+hi) / 2+1))
      case measure=>omega
      case rel=>exact ⟨(lo+hi) / 2+1,hi,by rw [show ((lo:Int)+(hi:Int)) / 2+1=(((lo+hi) / 2+1:Nat):Int) by omega],rfl,by omega,hin,Nat.le_refl _,B2,aA (by rw [<- HB.out];exact Lib.bsGo_fuel _ _ _ _ _ (Nat.le_refl _) (by omega))⟩
  · obtain rfl:hi=lo:=by omega
    obtain rfl:hi=I:=by
     rw [<- hb.out];cases gk <;> simp [Lib.bsGo]
    clear hb HS;by_cases hn:hi<n
    · obtain ⟨y,cy,h50⟩:=HC.out hi hn
      have h5:=h50.kept hBl.out;have hBx:=HE.out hn;obtain ⟨z,hz⟩:∃ z,A hi=z:=⟨_,rfl⟩;rw [hz] at h5 hBx;have hcb:=Rz z.m.data.toList x.data.toList
      rw [show decide (z.m.data.toList=x.data.toList)=decide (z.m=x) from by
       by_cases hq:z.m=x
       · simp [hq]
       · rw [decide_eq_false hq];exact decide_eq_false (fun h=>hq (zJ (by rw [Lib.toList_data,Lib.toList_data];exact h))),hBx,show decide (Lib.compareBytes z.m.data.toList x.data.toList=0)=(Lib.compareBytes z.m.data.toList x.data.toList == 0) from rfl] at hcb
      have CN:=aA (fun w'=>n6 z y cy x w');obtain ⟨d0,d1,d2,d3,d4⟩:=h5;have hsz:=hBl.out.size;clear HE HN HC HG hz hBx h50;go_wp2_with fail
      refine (CN.out _).mono ?_;rintro e w2 ⟨rfl,hb2⟩;have B2:=aA (hBl.out.trans (hb2.mono hsz));clear hb2;go_wp2_with fail
      go_ret2;exact ⟨rfl,B2.out⟩
    · have HB:=HN.out (by omega)
      subst HB;clear HE HN HC HG;go_wp2_with fail
      go_ret2;exact ⟨rfl,hBl.out⟩
theorem Dw (a:Option Addr) (n c:Nat) (A:Nat->AD) (x:ByteArray) (hn:n<=1000) (hR:RiseA A n) (w:World) (h:ReadsA w a n A) :
 Calls Tryz.prog 282 #[.slice a n c,.string x,.func (.func 283) #[] #[]] w fun e w' =>
  e=.returned (.tuple #[.int .i64 (pos lsS (nmD (twsA A n)) x:Nat),.bool (has (nmD (twsA A n)) x)])/\Below w.heap.size w w':=by
 rcases h.2 with rfl | ⟨b,off,rfl,hc⟩
 · exact (BJ a c _ x w).mono fun e w' ⟨he,hw⟩=>⟨he,by rw [hw];exact Below.refl _ _⟩
 · exact BI b off n c A x hn hR w (fun j hj=>by obtain ⟨y,c,h,_⟩:=hc j hj;exact ⟨y,c,h⟩)
def Hz (w:World) (A:Nat->AD) (n:Nat) (x:ByteArray) (e:Ending) (w':World):Prop :=
 (if has (nmD (twsA A n)) x=true then ∃ v a c,pos lsS (nmD (twsA A n)) x<n/\A (pos lsS (nmD (twsA A n)) x)=v/\e=.returned (.tuple #[.agg #[.int .i64 v.k,.int .i64 (twN v.k v.n),.string (twS v.k v.s),.slice a (twL v.k v.len) c],.bool true])/\Reads w' a (twL v.k v.len) v.z
  else e=.returned (.tuple #[.agg #[.int .i64 0,.int .i64 0,.string ⟨#[]⟩,.slice none 0 0],.bool false]))/\Below w.heap.size w w'
theorem getL_any (a:Option Addr) (n c:Nat) (A:Nat->AD) (x:ByteArray) (hn:n<=1000) (hl:∀ j,j<n->(A j).len<=1000000) (hR:RiseA A n) (w:World) (h:ReadsA w a n A) :
 Calls Tryz.prog 266 #[.slice a n c,.string x] w (Hz w A n x):=by
 have BL:∀ o,Below w.heap.size w (w.alloc o):=fun o=>bA0 _ _
 have SF:=aA (fun o=>Dw a n c A x hn hR (w.alloc o) (h.kept (BL o)));obtain ⟨W,hW⟩:∃ W,w.alloc (.cells #[.int .i64 0,.int .i64 0,.string ⟨#[]⟩,.slice none 0 0] 60)=W:=⟨_,rfl⟩;have hWb:Below w.heap.size w W:=by rw [<- hW];exact BL _
 have hWs:W.heap.size=w.heap.size+1:=by rw [<- hW];simp
 have hW4:W.heap[w.heap.size]? = some (.cells #[.int .i64 0,.int .i64 0,.string ⟨#[]⟩,.slice none 0 0] 60 (0,0)):=by rw [<- hW];exact heap_alloc_new w _
 have HW:=aA hW;have HX:=aA (And.intro hWb hW4);have RA:=aA h;have HLn:=aA hl;have hrn:=rising_nm hR;have hnl:(nmD (twsA A n)).length=n:=by simp [nmD,twsA]
 have HRN:=aA (And.intro hrn hnl);clear hWb hW4 hW h hl hR BL hrn hnl;by_cases hh:has (nmD (twsA A n)) x=true
 · have hp:pos lsS (nmD (twsA A n)) x<n:=by
    have:=(fA fK HRN.out.1).1 ((iD _ _).1 hh);have:=(List.getElem?_eq_some_iff.1 this).1;rwa [HRN.out.2] at this
   rw [hh] at SF;have HH:=aA hh;obtain ⟨I,hI⟩:∃ I,pos lsS (nmD (twsA A n)) x=I:=⟨_,rfl⟩;obtain ⟨v,hv⟩:∃ v,A I=v:=⟨_,rfl⟩;rw [hI] at SF hp
   have GP:=aA (p:=∀ a' c' w',Reads w' a' (twL v.k v.len) v.z->Below w.heap.size w w'->Hz w A n x (.returned (.tuple #[.agg #[.int .i64 v.k,.int .i64 (twN v.k v.n),.string (twS v.k v.s),.slice a' (twL v.k v.len) c'],.bool true])) w') (fun a' c' w' hr hb=>⟨by
    rw [if_pos HH.out,hI];exact ⟨v,a',c',hp,hv,rfl,hr⟩,hb⟩)
   obtain ⟨b,off,rfl,hc⟩:=RA.out.2.resolve_left (by omega);obtain ⟨y,cy,h5,hry⟩:=hc I hp;have hlv:=HLn.out I hp;rw [hv] at h5 hry hlv;have H5:=aA (And.intro h5 hry);clear hc hv h5 hry hI hh;go_enter Tryz.func266,Tryz.ntmps266
   go_wp2_with fail
   refine (SF.out _).mono ?_;rw [HW.out];rintro e w2 ⟨rfl,hb2⟩;have B2:=aA (HX.out.1.trans (hb2.mono HX.out.1.size));have V2:=aA ((hb2.block w.heap.size (by omega)).trans HX.out.2);have hz2:=hb2.size;obtain ⟨d0,d1,d2,d3,d4⟩:=H5.out.1.kept B2.out;have TW:=aA (wR v.k v.n v.s y v.len cy v.z hlv w2 (H5.out.2.kept B2.out));clear hb2;go_wp2_with fail
   refine TW.out.mono ?_;rintro e w3 ⟨⟨a3,c3,rfl,hn3,hr3⟩,hb3⟩;have B3:=aA (B2.out.trans (hb3.mono (by omega)));have V3:=(hb3.block w.heap.size (by omega)).trans V2.out;obtain ⟨⟨c0,c1,c2,c3'⟩,⟨f0,f1,f2,f3⟩⟩:=aL V3;have R3:=aA (And.intro (hr3 w3 (aD.refl _ _)) hn3);clear hb3 V3 hr3 hn3 d0 d1 d2 d3 d4;go_wp2_with fail
   have hb4:=aA (lL B3.out (Nat.le_refl _) (.int .i64 v.k) (.int .i64 (twN v.k v.n)) (.string (twS v.k v.s)) (.slice a3 (twL v.k v.len) c3));have hk4:=aA (R3.out.1.keptS (Bf w3 w.heap.size (.int .i64 v.k) (.int .i64 (twN v.k v.n)) (.string (twS v.k v.s)) (.slice a3 (twL v.k v.len) c3)) (fun q hq h=>by have:=R3.out.2 q hq;omega));exact bodyPost_ret (v:=.tuple #[.agg #[.int .i64 v.k,.int .i64 (twN v.k v.n),.string (twS v.k v.s),.slice a3 (twL v.k v.len) c3],.bool true]) (by simp [results,Tryz.results266,go_sem, *]) rfl (GP.out _ _ _ hk4.out hb4.out)
 · have hh':has (nmD (twsA A n)) x=false:=by simpa using hh
   rw [hh'] at SF;have HH:=aA hh;clear hh hh';go_enter Tryz.func266,Tryz.ntmps266
   go_wp2_with fail
   refine (SF.out _).mono ?_;rw [HW.out];rintro e w2 ⟨rfl,hb2⟩;have B2:=aA (HX.out.1.trans (hb2.mono HX.out.1.size));have V2:=(hb2.block w.heap.size (by omega)).trans HX.out.2;obtain ⟨⟨c0,c1,c2,c3⟩,⟨f0,f1,f2,f3⟩⟩:=aL V2;clear hb2 V2;go_wp2_with fail
   have hb4:=aA (lL B2.out (Nat.le_refl _) (.int .i64 0) (.int .i64 0) (.string ⟨#[]⟩) (.slice none 0 0));exact bodyPost_ret (v:=.tuple #[.agg #[.int .i64 0,.int .i64 0,.string ⟨#[]⟩,.slice none 0 0],.bool false]) (by simp [results,Tryz.results266,go_sem, *]) rfl ⟨by rw [if_neg HH.out],hb4.out⟩
end
section
open Go.RowKit
end
section
open Go.RowKit
end
section
open Go.RowKit Go.ChangeShapes Go.WideShapes Go.Deep
end
end
end Go.Proofs.YtgfkjkokmcejbaaGreatDoor.Wr
