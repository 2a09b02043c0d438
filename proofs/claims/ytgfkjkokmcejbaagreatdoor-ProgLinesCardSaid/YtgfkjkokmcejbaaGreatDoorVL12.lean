/-
 No statement: what ProgLinesLift needs, of the texts ZPCheck, OHold, OTake, OIter, OAll, OBase, InsL, DelL, SearchL, OKeep, OKeepA.
-/
import Derived.Test.YtgfkjkokmcejbaaGreatDoorVL11
import Derived.RangeFuncKeeps
set_option maxHeartbeats 40000000
set_option maxRecDepth 100000
namespace Go.Proofs.YtgfkjkokmcejbaaGreatDoor
section
open Go.RowKit
theorem Jz (c:UInt8) (r:List UInt8):Wr.depthP (c::r)=if c=47 then (if r=[] then 0 else if (dF r).all aW=true then if (dF r).length<=4 then ((dF r).length:Int) else -1 else -1) else -1:=by
 by_cases hc:c=47
 · subst hc
   rw [if_pos rfl];by_cases hr:r=[]
   · subst hr;rfl
   · have hs:Wr.cutL (47::r)=some (dF r):=by
      show (if (47:UInt8)=47 then if r=[] then some [] else some (dF r) else none)=_;rw [if_pos rfl,if_neg hr]
     have hE:Wr.errP (47::r)=Wr.errQ (dF r):=by unfold Wr.errP;rw [hs]
     have hP:Wr.partsP (47::r)=if Wr.errQ (dF r)=0 then dF r else []:=by unfold Wr.partsP;rw [hs]
     rw [if_neg hr];by_cases h1:(dF r).all aW=true
     · by_cases h2:(dF r).length<=4
       · have hq:Wr.errQ (dF r)=0:=by unfold Wr.errQ;rw [if_pos h1,if_pos h2]
         unfold Wr.depthP;rw [hE,hP,hq,if_pos rfl,if_pos rfl,if_pos h1,if_pos h2]
       · have hq:Wr.errQ (dF r)=4:=by unfold Wr.errQ;rw [if_pos h1,if_neg h2]
         unfold Wr.depthP;rw [hE,hq,if_neg (by decide),if_pos h1,if_neg h2]
     · have hq:Wr.errQ (dF r)=2:=by unfold Wr.errQ;rw [if_neg h1]
       unfold Wr.depthP;rw [hE,hq,if_neg (by decide),if_neg h1]
 · have hs:Wr.errP (c::r)=2:=by
    have:Wr.cutL (c::r)=none:=by
     show (if c=47 then if r=[] then some [] else some (dF r) else none)=_;rw [if_neg hc]
    unfold Wr.errP;rw [this]
   unfold Wr.depthP;rw [hs,if_neg (by decide),if_neg hc]
theorem Du (l:List UInt8):IC l=decide (1<=Wr.depthP l):=by
 cases l with
 | nil=>rfl
 | cons c r =>
   unfold IC;rw [FP,Jz];by_cases hc:c=47
   · subst hc
     by_cases hr:r=[]
     · subst hr;rfl
     · obtain ⟨a,q,e⟩:=zR r
       have hl:1<=(dF r).length:=by rw [e];simp
       by_cases h1:(dF r).all aW=true
       · by_cases h2:(dF r).length<=4
         · simp [hr,h1,h2];omega
         · simp [hr,h1,h2]
       · simp [hr,h1]
   · simp [hc]
theorem uX (x:PD) (ho:x.o.size<=1000) (ht:x.t.size<=5000) (w:World) (hw:gO w):Calls Tryz.prog 20 #[pdV x] w fun e w'=>e=.returned (.int .i64 (Cl x))/\Below w.heap.size w w':=by
 have B1:=bA0 w (pdO x 46);have N1:=heap_alloc_new w (pdO x 46);have z1:(w.alloc (pdO x 46)).heap.size=w.heap.size+1:=World.size_alloc _ _;generalize hW:w.alloc (pdO x 46)=W at B1 N1 z1;have HW:=aA hW;have HB:=aA B1;have HN:=aA N1;have HL:=aA (hw.step B1);obtain ⟨r,hr⟩:∃ r,Cl x=r:=⟨_,rfl⟩;rw [hr];unfold Cl at hr;clear hW B1 N1 hw;obtain ⟨c0,c1,c2⟩:=uJ HN.out;go_enter Tryz.func20,Tryz.ntmps20
 go_upto_region 1 with fail
 rw [show w.alloc (.cells #[.int .i64 x.v,.string x.o,.string x.t] 46)=W from HW.out];clear HW;by_cases h1:x.v<0
 · rw [if_pos (by unfold Wr.countB;simp;omega)] at hr
   subst hr;go_wp2_with fail
   go_ret;exact ⟨rfl,HB.out⟩
 by_cases h2:(1000000000:Int)<x.v
 · rw [if_pos (by unfold Wr.countB;simp;omega)] at hr
   subst hr;go_wp2_with fail
   go_ret;exact ⟨rfl,HB.out⟩
 rw [if_neg (by unfold Wr.countB;simp;omega)] at hr;by_cases h0:x.v=0
 · rw [if_pos h0] at hr
   have q0:((x.v:Int) == 0)=true:=by rw [h0];rfl
   have PN:=aA (FG x W);rw [hr] at PN;clear h0 hr;go_wp2_with fail
   refine PN.out.mono ?_;rintro e w2 ⟨rfl,hb⟩;have HB2:=aA (HB.out.trans (hb.mono (by omega)));clear hb;go_wp2_with fail
   go_ret;exact ⟨rfl,HB2.out⟩
 · rw [if_neg h0] at hr
   have q0:((x.v:Int) == 0)=false:=by rw [beq_eq_false_iff_ne];exact h0
   have ND:=aA (Wr.depth_any x.o (by omega) W);obtain ⟨dp,hdp⟩:∃ d,Wr.depthP x.o.data.toList=d:=⟨_,rfl⟩;rw [hdp] at ND;rw [Du,hdp] at hr;clear h0 hdp;go_wp2_with fail
   refine ND.out.mono ?_;rintro e w2 ⟨rfl,hb⟩;have HN2:=aA ((hb.block _ (by omega)).trans HN.out);have HB2:=aA (HB.out.trans (hb.mono (by omega)));have HL2:=aA (HL.out.step hb);have z2:=hb.size;clear hb HN HB ND c0 c1 c2 HL;obtain ⟨c0,c1,c2⟩:=uJ HN2.out;by_cases hn:dp<1
   · rw [if_pos (by rw [decide_eq_false (by omega)])] at hr
     subst hr;go_wp2_with fail
     go_ret;exact ⟨rfl,HB2.out⟩
   · rw [if_neg (by rw [decide_eq_true (by omega)];decide)] at hr
     by_cases hl:4096<x.t.size
     · rw [if_pos hl] at hr
       subst hr;have q2:(4096:Int)<(x.t.size:Int):=by omega
       clear hl;go_wp2_with fail
       go_ret;exact ⟨rfl,HB2.out⟩
     · rw [if_neg hl] at hr
       have q2:¬ (4096:Int)<(x.t.size:Int):=by omega
       have PP:=aA (gE x.t ht w2 HL2.out);clear hl;cases hp:jL x.t.data.toList with
       | bad p er =>
         rw [hp] at PP hr;subst hr;clear hp;go_wp2_with fail
         refine PP.out.mono ?_;rintro e w3 ⟨hb,rfl⟩;have HB3:=aA (HB2.out.trans (hb.mono (by omega)));clear hb;go_wp2_with fail
         go_ret;exact ⟨rfl,HB3.out⟩
       | ok l =>
         rw [hp] at PP hr;subst hr;clear hp;go_wp2_with fail
         refine PP.out.mono ?_;rintro e w3 ⟨hb,a,c,rfl,hrd⟩;have HB3:=aA (HB2.out.trans (hb.mono (by omega)));clear hb hrd;go_wp2_with fail
         go_ret;exact ⟨rfl,HB3.out⟩
def zG (g:ByteArray->Option Int) (c:CD):Bool:=match evT g c.a,evT g c.b with | some x,some y=>(bH c.op x y).getD false | _,_=>false
theorem Fh (g:ByteArray->Option Int) (c:CD) (r:List CD):cZ g (c::r)=(zG g c && cZ g r):=rfl
theorem JF (g:ByteArray->Option Int) (c:CD):zG g c=((evT g c.a).isSome && (evT g c.b).isSome && (bH c.op ((evT g c.a).getD 0) ((evT g c.b).getD 0)).getD false):=by
 unfold zG;cases evT g c.a with
 | none=>rfl
 | some x=>cases evT g c.b <;> rfl
structure OkE (t:TN):Prop where
 c:aK t=0
 n:cY t.f
 s:SzF t.f
theorem DK {A:Nat->Wr.AD} {n:Nat} {g:ByteArray->Option Int} (U:gN A n g) (d:CD) (hA:OkE d.a) (hB:OkE d.b) (G:Nat->Prop) (a1:Option Addr) (c1:Nat) (a2:Option Addr) (c2:Nat) (y:Option Addr) (cy:Nat) (w:World)
 (r1:aQ G w a1 d.a.ks) (r2:aQ G w a2 d.b.ks) (hy:Wr.ReadsA w y n A) :
 Calls Tryz.prog 190 #[cdV d a1 c1 a2 c2,.slice y n cy] w fun e w'=>e=.returned (.bool (zG g d))/\Below w.heap.size w w':=by
 have B0:=bA0 w (cdX d a1 c1 a2 c2);have N0:=heap_alloc_new w (cdX d a1 c1 a2 c2);generalize hW:w.alloc (cdX d a1 c1 a2 c2)=W at *;have HW:=aA hW;have HB:=aA B0;have HN:=aA N0;have CA:=aA (fun V (hV:Below w.heap.size w V)=>oB U d.a hA.c hA.n hA.s G V a1 c1 y cy (r1.kept hV) (hy.kept hV));have CB:=aA (fun V (hV:Below w.heap.size w V)=>oB U d.b hB.c hB.n hB.s G V a2 c2 y cy (r2.kept hV) (hy.kept hV));obtain ⟨va,hva⟩:∃ v,evT g d.a=v:=⟨_,rfl⟩;obtain ⟨vb,hvb⟩:∃ v,evT g d.b=v:=⟨_,rfl⟩;rw [JF,hva,hvb];rw [hva] at CA;rw [hvb] at CB;obtain ⟨xa,hxa⟩:∃ n,va.getD 0=n:=⟨_,rfl⟩;obtain ⟨xb,hxb⟩:∃ n,vb.getD 0=n:=⟨_,rfl⟩;obtain ⟨za,hza⟩:∃ n,va.isSome=n:=⟨_,rfl⟩;obtain ⟨zb,hzb⟩:∃ n,vb.isSome=n:=⟨_,rfl⟩;rw [hxa,hza] at CA;rw [hxb,hzb] at CB;have HO:=aA (fun V=>uW d.op xa xb V);obtain ⟨zo,hzo⟩:∃ z,(bH d.op xa xb).getD false=z:=⟨_,rfl⟩;obtain ⟨zs,hzs⟩:∃ z,(bH d.op xa xb).isSome=z:=⟨_,rfl⟩;rw [hzo,hzs] at HO;rw [hxa,hza,hxb,hzb,hzo];obtain ⟨r,hr⟩:∃ r,(za && zb && zo)=r:=⟨_,rfl⟩;rw [hr];have HR:=aA hr;obtain ⟨p0,p1,p2,p3,p4,p5,p6,p7,p8⟩:=r9 N0;clear hW B0 N0 r1 r2 hy hva hvb hxa hxb hza hzb hzo hzs hr;go_enter Tryz.func190,Tryz.ntmps190
 go_upto_region 1 with fail
 rw [show w.alloc (.cells #[.string d.op,.string d.a.op,.string d.a.nm,.int .i64 d.a.n,.slice a1 d.a.ks.len c1,.string d.b.op,.string d.b.nm,.int .i64 d.b.n,.slice a2 d.b.ks.len c2] 144)=W from HW.out];go_wp2_with fail
 refine (CA.out W HB.out).mono ?_;rintro e w1 ⟨rfl,hb⟩;have HB1:=aA (HB.out.trans (hb.mono HB.out.size));have N1:=aA ((hb.block _ (aB HN.out)).trans HN.out);clear hb CA p0 p1 p2 p3 p4 p5 p6 p7 p8;obtain ⟨p0,p1,p2,p3,p4,p5,p6,p7,p8⟩:=r9 N1.out;go_wp2_with fail
 refine (CB.out w1 HB1.out).mono ?_;rintro e w2 ⟨rfl,hb⟩;have HB2:=aA (HB1.out.trans (hb.mono HB1.out.size));have N2:=(hb.block _ (aB N1.out)).trans N1.out;clear hb CB p0 p1 p2 p3 p4 p5 p6 p7 p8;obtain ⟨p0,p1,p2,p3,p4,p5,p6,p7,p8⟩:=r9 N2;clear N2;go_wp2_with fail
 refine (HO.out w2).mono ?_;rintro e w3 ⟨rfl,rfl⟩;cases za with
 | false =>
   have TR:=aA (show false=r from HR.out);go_wp2_with fail
   go_ret;exact ⟨congrArg (fun z=>Ending.returned (.bool z)) TR.out,HB2.out⟩
 | true =>
   cases zb with
   | false =>
     have TR:=aA (show false=r from HR.out);go_wp2_with fail
     go_ret;exact ⟨congrArg (fun z=>Ending.returned (.bool z)) TR.out,HB2.out⟩
   | true =>
     have TR:=aA (show zo=r from HR.out);go_wp2_with fail
     go_ret;exact ⟨congrArg (fun z=>Ending.returned (.bool z)) TR.out,HB2.out⟩
theorem two {W:World} {B:Nat} {x0 x1:Value} {t:TypeId} (h:W.heap[B]? = some (.cells #[x0,x1] t (0,0))) :
 (W.cell? ⟨B,0,none⟩=some x0/\W.cell? ⟨B,1,none⟩=some x1)/\W.frozen? ⟨B,0,none⟩=false/\W.frozen? ⟨B,1,none⟩=false:=by
 refine ⟨⟨?_,?_⟩,?_,?_⟩ <;> simp [World.cell?,World.frozen?,h]
theorem iF {W:World} {B:Nat} {x0 x1:Value} {t:TypeId} (h:W.heap[B]? = some (.cells #[x0,x1] t (0,0))) (v0 v1:Value) :
 ((W.setCell ⟨B,0,none⟩ v0).setCell ⟨B,1,none⟩ v1).heap[B]? = some (.cells #[v0,v1] t (0,0)):=by
 have h0:=heap_setCell_same W B 0 _ t v0 h;have g0:(W.setCell ⟨B,0,none⟩ v0).heap[B]? = some (.cells #[v0,x1] t (0,0)):=by simpa using h0
 have h1:=heap_setCell_same _ B 1 _ t v1 g0;simpa using h1
theorem AV {W:World} {B:Nat} {x0 x1:Value} {t:TypeId} (h:W.heap[B]? = some (.cells #[x0,x1] t (0,0))) (v:Value):(W.setCell ⟨B,0,none⟩ v).heap[B]? = some (.cells #[v,x1] t (0,0)):=by
 have h0:=heap_setCell_same W B 0 _ t v h;simpa using h0
theorem AU {W:World} {B:Nat} {x0 x1:Value} {t:TypeId} (h:W.heap[B]? = some (.cells #[x0,x1] t (0,0))) (v:Value):(W.setCell ⟨B,1,none⟩ v).heap[B]? = some (.cells #[x0,v] t (0,0)):=by
 have h0:=heap_setCell_same W B 1 _ t v h;simpa using h0
abbrev aG (u v:Int):Obj:=.cells #[.int .i64 u,.int .i64 v] 163
abbrev jZ (q:Int×Int):Value:=.agg #[.int .i64 q.1,.int .i64 q.2]
def Dc:Bool->Int->Option Int->Option (Int×Int)
 | true,_,none=>none
 | true,e,some b=>some (e,b)
 | false,e,_=>some (e,0)
def Kl:Bool->Bool->Bool->Option Int->Option Int->Option (Int×Int)
 | false,_,_,_,_=>none
 | true,true,_,none,_=>none
 | true,true,bb,some e,vb=>Dc bb e vb
 | true,false,bb,_,vb=>Dc bb 0 vb
def jH (x:AG) (g:ByteArray->Option Int):Option (Int×Int):=Kl (cZ g x.wh) (eP x.fn.data.toList) (bP x.fn.data.toList) (evT g x.e) (evT g x.g)
def Nk (q:Option (Int×Int)) (u v:Int):Prop:=∀ z,q=some z->z=(u,v)
theorem n8 (u v:Int):Nk none u v:=fun z h=>by cases h
theorem yB (u v:Int):Nk (some (u,v)) u v:=fun _ h=>(Option.some.inj h).symm
structure TKW (w:World) (x:AG) (p:PA) (V:World):Prop where
 k:KP9 (fun b=>b<w.heap.size) w x p V
 t:V.heap[w.heap.size+1]? = some (ptO (kP x.fn.data.toList) (eP x.fn.data.toList) (bP x.fn.data.toList))
 o:V.heap[w.heap.size+2]? = some (aG 0 0)
theorem TKW.step {w:World} {x:AG} {p:PA} {V V':World} (h:TKW w x p V) (hb:Below V.heap.size V V'):TKW w x p V' :=
 ⟨h.k.step hb,(hb.block _ (aB h.t)).trans h.t,(hb.block _ (aB h.o)).trans h.o⟩
theorem TKW.set {w:World} {x:AG} {p:PA} {V:World} (h:TKW w x p V) {D:Nat} (hD:w.heap.size+3<=D) (i:Nat) (v:Value):TKW w x p (V.setCell ⟨D,i,none⟩ v):=by
 have hk:=(aC.refl (· = D) V).setCell (p:=⟨D,i,none⟩) (.inl rfl) v;exact ⟨⟨h.k.b.trans (hk.below (B:=w.heap.size) (fun b hb=>by omega) h.k.z),Nat.le_trans h.k.z hk.size,hk.heap h.k.n (by omega),h.k.r.keptS hk (fun b hb hg=>by omega)⟩,hk.heap h.t (by omega),hk.heap h.o (by omega)⟩
theorem TKW.put {w:World} {x:AG} {p:PA} {V:World} (h:TKW w x p V) (v0 v1:Value):Below w.heap.size w ((V.setCell ⟨w.heap.size+2,0,none⟩ v0).setCell ⟨w.heap.size+2,1,none⟩ v1) :=
 h.k.b.trans ((((aC.refl (· = w.heap.size+2) V).setCell (p:=⟨w.heap.size+2,0,none⟩) (.inl rfl) v0).setCell (p:=⟨w.heap.size+2,1,none⟩) (.inl rfl) v1).below (B:=w.heap.size) (fun b hb=>by omega) h.k.z)
theorem Ki {w:World} {x:AG} {p:PA} (hr:aJ (fun b=>b<w.heap.size) w x p):TKW w x p (((w.alloc (agP x p)).alloc (ptO (kP x.fn.data.toList) (eP x.fn.data.toList) (bP x.fn.data.toList))).alloc (aG 0 0)):=by
 have K:=qW hr;have hs0:(w.alloc (agP x p)).heap.size=w.heap.size+1:=World.size_alloc _ _;generalize w.alloc (agP x p)=W0 at *;have B1:=bA0 W0 (ptO (kP x.fn.data.toList) (eP x.fn.data.toList) (bP x.fn.data.toList));have N1:=heap_alloc_new W0 (ptO (kP x.fn.data.toList) (eP x.fn.data.toList) (bP x.fn.data.toList));have hs1:(W0.alloc (ptO (kP x.fn.data.toList) (eP x.fn.data.toList) (bP x.fn.data.toList))).heap.size=W0.heap.size+1:=World.size_alloc _ _;generalize W0.alloc (ptO (kP x.fn.data.toList) (eP x.fn.data.toList) (bP x.fn.data.toList))=W1 at *;have B2:=bA0 W1 (aG 0 0);have N2:=heap_alloc_new W1 (aG 0 0);rw [hs0] at N1;rw [hs1,hs0] at N2;exact ⟨(K.step B1).step B2,(B2.block _ (by omega)).trans N1,N2⟩
theorem Fi {A:Nat->Wr.AD} {n:Nat} {g:ByteArray->Option Int} (U:gN A n g) (x:AG) (p:PA) (y:Option Addr) (cy:Nat) (w:World) {G:Nat->Prop} (hE:eP x.fn.data.toList=true->OkE x.e) (hG:bP x.fn.data.toList=true->OkE x.g)
 (hC:∀ d∈x.wh,OkE d.a/\OkE d.b) (hl:x.wh.length<=1000) (hr:aJ G w x p) (hy:Wr.ReadsA w y n A) :
 Calls Tryz.prog 140 #[agV x p,ptV x.fn.data.toList,.slice y n cy] w fun e w'=>∃ u v,e=.returned (.tuple #[.agg #[.int .i64 u,.int .i64 v],.bool (jH x g).isSome])/\Nk (jH x g) u v/\Below w.heap.size w w':=by
 have hr':aJ (fun b=>b<w.heap.size) w x p:=hr.imp (fun b hb _=>hb);have K0:=Ki hr';have HY:=aA (fun V (hV:Below w.heap.size w V)=>hy.kept hV);have EVE:=aA (fun (he:eP x.fn.data.toList=true) V (rd:aQ (fun b=>b<w.heap.size) V p.ea x.e.ks) (ry:Wr.ReadsA V y n A)=>oB U x.e (hE he).c (hE he).n (hE he).s (fun b=>b<w.heap.size) V p.ea p.ec y cy rd ry);have EVG:=aA (fun (he:bP x.fn.data.toList=true) V (rd:aQ (fun b=>b<w.heap.size) V p.ga x.g.ks) (ry:Wr.ReadsA V y n A)=>oB U x.g (hG he).c (hG he).n (hG he).s (fun b=>b<w.heap.size) V p.ga p.gc y cy rd ry);have HC:=aA (fun d hd V a1 c1 a2 c2 (r1:aQ (fun b=>b<w.heap.size) V a1 d.a.ks) (r2:aQ (fun b=>b<w.heap.size) V a2 d.b.ks) (ry:Wr.ReadsA V y n A)=>DK U d (hC d hd).1 (hC d hd).2 (fun b=>b<w.heap.size) a1 c1 a2 c2 y cy V r1 r2 ry);unfold jH ptV;have DT:=aA (fun V (h:TKW w x p V)=>h.t);obtain ⟨kk,hkk⟩:∃ b,kP x.fn.data.toList=b:=⟨_,rfl⟩;obtain ⟨ee,hee⟩:∃ b,eP x.fn.data.toList=b:=⟨_,rfl⟩;obtain ⟨bb,hbb⟩:∃ b,bP x.fn.data.toList=b:=⟨_,rfl⟩;rw [hkk,hee,hbb] at DT K0;rw [hee] at EVE;rw [hbb] at EVG;rw [hkk,hee,hbb];obtain ⟨ve,hve⟩:∃ v,evT g x.e=v:=⟨_,rfl⟩;obtain ⟨vb,hvb⟩:∃ v,evT g x.g=v:=⟨_,rfl⟩;rw [hve] at EVE;rw [hvb] at EVG;rw [hve,hvb];obtain ⟨tk,htk⟩:∃ v,cZ g x.wh=v:=⟨_,rfl⟩;rw [htk];obtain ⟨q,hq⟩:∃ q,Kl tk ee bb ve vb=q:=⟨_,rfl⟩;rw [hq];have HQ:=aA hq;have T0:=aA (show cZ g (x.wh.drop 0)=tk by rw [List.drop_zero];exact htk);generalize hW:((w.alloc (agP x p)).alloc (ptO kk ee bb)).alloc (aG 0 0)=W at K0;have HW:=aA hW;have K1:=aA K0;clear hW K0 hr hr' hy hE hG hC hkk hee hbb hve hvb htk hq
 obtain ⟨m0,m1,m2,m3,m4,m5,m6,m7,m8,m9,m10⟩:=aP K1.out.k.n;go_enter Tryz.func140,Tryz.ntmps140
 go_upto_region 1 with fail
 rw [show ((w.alloc (.cells #[.string x.fn,.int .i64 x.k,.string x.e.op,.string x.e.nm,.int .i64 x.e.n,.slice p.ea x.e.ks.len p.ec,.string x.g.op,.string x.g.nm,.int .i64 x.g.n,.slice p.ga x.g.ks.len p.gc,.slice p.wa x.wh.length p.wc] 70)).alloc (.cells #[.bool kk,.bool ee,.bool bb] 212)).alloc (.cells #[.int .i64 0,.int .i64 0] 163)=W from HW.out];go_wp2_with fail
 clear m0 m1 m2 m3 m4 m5 m6 m7 m8 m9 m10;go_loopw [9,15] (fun v9 i wr=>∃ (k:Nat) (u:Value),v9=u/\i=.int .i64 k/\k<=x.wh.length/\Hid (cZ g (x.wh.drop k)=tk)/\Hid (TKW w x p wr)) (fun _ i _=>x.wh.length-(intOf i).toNat)
 case atStart=>exact ⟨0,_,rfl,rfl,Nat.zero_le _,T0,K1⟩
 case round =>
  obtain ⟨k,u,rfl,rfl,hk,HT,HK⟩:=hrel;clear T0 K1;by_cases hlt:k<x.wh.length
  · obtain ⟨d,hd⟩:∃ d,x.wh[k]? = some d:=⟨_,List.getElem?_eq_getElem hlt⟩
    have hne:¬ x.wh=[]:=fun e=>by rw [e] at hlt;simp at hlt
    obtain ⟨b,off,hwa, -,hbl,hcc⟩:=HK.out.k.r.c.resolve_left hne;obtain ⟨a1,c1,a2,c2,⟨p0,p1,p2,p3,p4,p5,p6,p7,p8⟩,r1,r2⟩:=hcc k d hd
    have hdr:x.wh.drop k=d::x.wh.drop (k+1):=by
     rw [List.drop_eq_getElem_cons hlt];have:=List.getElem?_eq_getElem hlt;rw [this] at hd;rw [Option.some.inj hd]
    have HD:=aA (show (zG g d && cZ g (x.wh.drop (k+1)))=tk by rw [<- HT.out,hdr,Fh]);have BD:=bA0 wr (cdX d a1 c1 a2 c2);have ND:=heap_alloc_new wr (cdX d a1 c1 a2 c2);have K4:=aA (HK.out.step BD);have CC:=aA (HC.out d (List.mem_of_getElem? hd) (wr.alloc (cdX d a1 c1 a2 c2)) a1 c1 a2 c2 (r1.kept BD) (r2.kept BD) (HY.out _ K4.out.k.b));obtain ⟨z,hz⟩:∃ z,zG g d=z:=⟨_,rfl⟩;rw [hz] at CC HD;rw [hwa];have b1:(k:Int)<(x.wh.length:Int):=by omega
    have b2:(0:Int)<=(k:Int):=by omega
    have b3:((k:Int)).toNat=k:=by omega
    clear hne hcc hdr hd r1 r2 BD hz hwa HT HK;go_upto_region 4 with fail
    rw [show wr.alloc (.cells #[.string d.op,.string d.a.op,.string d.a.nm,.int .i64 d.a.n,.slice a1 d.a.ks.len c1,.string d.b.op,.string d.b.nm,.int .i64 d.b.n,.slice a2 d.b.ks.len c2] 144)=wr.alloc (cdX d a1 c1 a2 c2) from rfl];generalize wr.alloc (cdX d a1 c1 a2 c2)=V1 at *;clear p0 p1 p2 p3 p4 p5 p6 p7 p8;obtain ⟨p0,p1,p2,p3,p4,p5,p6,p7,p8⟩:=r9 ND;clear ND;go_wp2_with fail
    refine CC.out.mono ?_;rintro e w5 ⟨rfl,hb5⟩;have K5:=aA (K4.out.step hb5);clear hb5 CC K4 p0 p1 p2 p3 p4 p5 p6 p7 p8;cases z with
    | true =>
      have HT2:=aA (show cZ g (x.wh.drop (k+1))=tk from HD.out);go_wp2_with fail
      go_roundw
      case rel=>exact ⟨k+1,_,rfl,by go_num,by omega,HT2,K5⟩
      case measure=>simp [intOf];omega
    | false =>
      have HT2:=aA (show false=tk from HD.out);have TR:=aA (show q=none by rw [<- HQ.out, <- HT2.out];rfl);obtain ⟨⟨o0,o1⟩,g0,g1⟩:=two K5.out.o;go_wp2_with fail
      obtain ⟨⟨d0,d1⟩, -⟩:=two (iF K5.out.o (.int .i64 0) (.int .i64 0));have P:=K5.out.put (.int .i64 0) (.int .i64 0);have E:=TR.out;subst E;exact bodyPost_ret (v:=.tuple #[.agg #[.int .i64 0,.int .i64 0],.bool false]) (by simp [results,Tryz.results140,go_sem,d0,d1]) rfl ⟨0,0,rfl,n8 _ _,P⟩
  · have HT2:=aA (show tk=true by rw [<- HT.out,List.drop_of_length_le (by omega)];rfl)
    have b1:¬ (k:Int)<(x.wh.length:Int):=by omega
    have b2:decide (k<x.wh.length)=false:=decide_eq_false hlt;have HQ2:=aA (show Kl true ee bb ve vb=q by rw [<- HT2.out];exact HQ.out);have BA:=bA0 wr (aG 0 0);have NA:=heap_alloc_new wr (aG 0 0);have K2:=aA (HK.out.step BA);have hD:=aB HK.out.o;clear HT HK BA HQ HT2;go_upto_region 8 with fail
    rw [show wr.alloc (.cells #[.int .i64 0,.int .i64 0] 163)=wr.alloc (aG 0 0) from rfl];generalize wr.alloc (aG 0 0)=V at *;generalize wr.heap.size=D at *;have hD3:w.heap.size+3<=D:=by omega
    have Q2:=aA NA;clear NA;obtain ⟨⟨y0,y1,y2⟩, -⟩:=dB (DT.out _ K2.out);obtain ⟨m0,m1,m2,m3,m4,m5,m6,m7,m8,m9,m10⟩:=aP K2.out.k.n;obtain ⟨⟨s0,s1⟩,f0,f1⟩:=two Q2.out;go_upto_if 26 with fail
    go_cut [11] (fun v11 wc=>∃ (u:Int) (z:Bool),v11=.bool z/\Hid (TKW w x p wc)/\Hid (wc.heap[D]? = some (aG u 0))/\Hid ((z=true->Dc bb u vb=q)/\(z=false->q=none)))
    case first =>
     cases ee with
     | false =>
       have TS:=aA (show Dc bb 0 vb=q from HQ2.out);go_wp2_with fail
       go_meet;case rel=>exact ⟨0,true,rfl,K2,Q2,aA ⟨fun _=>TS.out,fun h=>by cases h⟩⟩
     | true =>
       have CE:=aA (EVE.out (by first | rfl | trivial) V K2.out.k.r.e (HY.out _ K2.out.k.b));go_wp2_with fail
       refine CE.out.mono ?_;rintro e w6 ⟨rfl,hb6⟩;have K6:=aA (K2.out.step hb6);have Q6:=aA ((hb6.block _ (aB Q2.out)).trans Q2.out);clear hb6 CE m0 m1 m2 m3 m4 m5 m6 m7 m8 m9 m10 y0 y1 y2 s0 s1 f0 f1;obtain ⟨⟨s0,s1⟩,f0,f1⟩:=two Q6.out;cases ve with
       | none =>
         have TS:=aA (show none=q from HQ2.out);have K7:=aA (K6.out.set hD3 0 (.int .i64 0));have Q7:=aA (AV Q6.out (.int .i64 0));go_wp2_with fail
         go_meet;case rel=>exact ⟨0,false,rfl,K7,Q7,aA ⟨fun h=>(by cases h),fun _=>TS.out.symm⟩⟩
       | some e1 =>
         have TS:=aA (show Dc bb e1 vb=q from HQ2.out);have K7:=aA (K6.out.set hD3 0 (.int .i64 e1));have Q7:=aA (AV Q6.out (.int .i64 e1));go_wp2_with fail
         go_meet;case rel=>exact ⟨e1,true,rfl,K7,Q7,aA ⟨fun _=>TS.out,fun h=>by cases h⟩⟩
    case rest =>
     obtain ⟨u,z,rfl,K3,Q3,HS⟩:=hcut;clear K2 Q2 HQ2 m0 m1 m2 m3 m4 m5 m6 m7 m8 m9 m10 y0 y1 y2 s0 s1 f0 f1;obtain ⟨⟨y0,y1,y2⟩, -⟩:=dB (DT.out _ K3.out);obtain ⟨m0,m1,m2,m3,m4,m5,m6,m7,m8,m9,m10⟩:=aP K3.out.k.n;cases z with
     | false =>
       have HS2:=aA (show q=none from HS.out.2 rfl);cases bb with
       | false =>
         have TR:=aA (show none=q from HS2.out.symm);obtain ⟨⟨o0,o1⟩,g0,g1⟩:=two K3.out.o;obtain ⟨⟨s0,s1⟩,f0,f1⟩:=two Q3.out;go_wp2_with fail
         obtain ⟨⟨d0,d1⟩, -⟩:=two (iF K3.out.o (.int .i64 u) (.int .i64 0));have P:=K3.out.put (.int .i64 u) (.int .i64 0);have E:=TR.out;subst E;exact bodyPost_ret (v:=.tuple #[.agg #[.int .i64 u,.int .i64 0],.bool false]) (by simp [results,Tryz.results140,go_sem,d0,d1]) rfl ⟨u,0,rfl,n8 _ _,P⟩
       | true =>
         have TR:=aA (show none=q from HS2.out.symm);obtain ⟨⟨o0,o1⟩,g0,g1⟩:=two K3.out.o;obtain ⟨⟨s0,s1⟩,f0,f1⟩:=two Q3.out;go_wp2_with fail
         obtain ⟨⟨d0,d1⟩, -⟩:=two (iF K3.out.o (.int .i64 u) (.int .i64 0));have P:=K3.out.put (.int .i64 u) (.int .i64 0);have E:=TR.out;subst E;exact bodyPost_ret (v:=.tuple #[.agg #[.int .i64 u,.int .i64 0],.bool false]) (by simp [results,Tryz.results140,go_sem,d0,d1]) rfl ⟨u,0,rfl,n8 _ _,P⟩
     | true =>
       have HS2:=aA (show Dc bb u vb=q from HS.out.1 rfl);cases bb with
       | false =>
         have HS3:=aA (show some (u,(0:Int))=q from HS2.out);have TR:=aA (show some (u,(0:Int))=q from HS3.out);obtain ⟨⟨o0,o1⟩,g0,g1⟩:=two K3.out.o;obtain ⟨⟨s0,s1⟩,f0,f1⟩:=two Q3.out;go_wp2_with fail
         obtain ⟨⟨d0,d1⟩, -⟩:=two (iF K3.out.o (.int .i64 u) (.int .i64 0));have P:=K3.out.put (.int .i64 u) (.int .i64 0);have E:=TR.out;subst E;exact bodyPost_ret (v:=.tuple #[.agg #[.int .i64 u,.int .i64 0],.bool true]) (by simp [results,Tryz.results140,go_sem,d0,d1]) rfl ⟨u,0,rfl,yB _ _,P⟩
       | true =>
         have CB:=aA (EVG.out (by first | rfl | trivial) wc K3.out.k.r.g (HY.out _ K3.out.k.b));go_wp2_with fail
         refine CB.out.mono ?_;rintro e w8 ⟨rfl,hb8⟩;have K8:=aA (K3.out.step hb8);have Q8:=aA ((hb8.block _ (aB Q3.out)).trans Q3.out);clear hb8 CB m0 m1 m2 m3 m4 m5 m6 m7 m8 m9 m10 y0 y1 y2;obtain ⟨⟨s0,s1⟩,f0,f1⟩:=two Q8.out;cases vb with
         | none =>
           have HS3:=aA (show none=q from HS2.out);have K9:=aA (K8.out.set hD3 1 (.int .i64 0));have Q9:=aA (AU Q8.out (.int .i64 0));go_upto_region 13 with fail
           obtain ⟨Y,hY⟩:∃ Y,w8.setCell ⟨D,1,none⟩ (.int .i64 0)=Y:=⟨_,rfl⟩;rw [hY] at K9 Q9 |-
           clear hY s0 s1 f0 f1;have TR:=aA (show none=q from HS3.out);obtain ⟨⟨o0,o1⟩,g0,g1⟩:=two K9.out.o;obtain ⟨⟨s0,s1⟩,f0,f1⟩:=two Q9.out;go_wp2_with fail
           obtain ⟨⟨d0,d1⟩, -⟩:=two (iF K9.out.o (.int .i64 u) (.int .i64 0));have P:=K9.out.put (.int .i64 u) (.int .i64 0);have E:=TR.out;subst E;exact bodyPost_ret (v:=.tuple #[.agg #[.int .i64 u,.int .i64 0],.bool false]) (by simp [results,Tryz.results140,go_sem,d0,d1]) rfl ⟨u,0,rfl,n8 _ _,P⟩
         | some b1 =>
           have HS3:=aA (show some (u,b1)=q from HS2.out);have K9:=aA (K8.out.set hD3 1 (.int .i64 b1));have Q9:=aA (AU Q8.out (.int .i64 b1));go_upto_region 13 with fail
           obtain ⟨Y,hY⟩:∃ Y,w8.setCell ⟨D,1,none⟩ (.int .i64 b1)=Y:=⟨_,rfl⟩;rw [hY] at K9 Q9 |-
           clear hY s0 s1 f0 f1;have TR:=aA (show some (u,b1)=q from HS3.out);obtain ⟨⟨o0,o1⟩,g0,g1⟩:=two K9.out.o;obtain ⟨⟨s0,s1⟩,f0,f1⟩:=two Q9.out;go_wp2_with fail
           obtain ⟨⟨d0,d1⟩, -⟩:=two (iF K9.out.o (.int .i64 u) (.int .i64 b1));have P:=K9.out.put (.int .i64 u) (.int .i64 b1);have E:=TR.out;subst E;exact bodyPost_ret (v:=.tuple #[.agg #[.int .i64 u,.int .i64 b1],.bool true]) (by simp [results,Tryz.results140,go_sem,d0,d1]) rfl ⟨u,b1,rfl,yB _ _,P⟩
end
section
open Go.RowKit Go.Shelf
attribute [local go_sem] Oper.semAt_some
def gB (x:AG) (gs:List (ByteArray->Option Int)):List (Int×Int):=gs.filterMap (jH x)
theorem Fj (x:AG) (gs:List (ByteArray->Option Int)) (g:ByteArray->Option Int):gB x (gs++[g])=gB x gs++(match jH x g with | none=>[] | some q=>[q]):=by
 unfold gB;rw [List.filterMap_append];congr 1
 simp only [List.filterMap_cons,List.filterMap_nil];cases jH x g <;> rfl
theorem Ba (x:AG) {gs:List (ByteArray->Option Int)} (k:Nat):gB x (gs.take k) <+: gB x gs:=by
 unfold gB;exact ((List.take_prefix k gs).filterMap _)
theorem fX {w w':World} {a:Option Addr} {rs:List RW} (h:bL w a rs) (hb:Below w.heap.size w w'):bL w' a rs :=
 h.imp id fun ⟨b,off,e,hlt,hc⟩=>⟨b,off,e,Nat.lt_of_lt_of_le hlt hb.size,fun j r hj=>by
  obtain ⟨y,cy,c0,rd⟩:=hc j r hj;exact ⟨y,cy,(hb.cell (p:=⟨b,off+j,none⟩) hlt).trans c0,rd.kept hb⟩⟩
structure OkX (x:AG):Prop where
 e:eP x.fn.data.toList=true->OkE x.e
 g:bP x.fn.data.toList=true->OkE x.g
 c:∀ d∈x.wh,OkE d.a/\OkE d.b
 l:x.wh.length<=1000
theorem Bb {x:AG} (h:OkX x) {A:Nat->Wr.AD} {n:Nat} {g:ByteArray->Option Int} (U:gN A n g) {q:Int×Int} (hq:jH x g=some q):bU q.1/\bU q.2:=by
 have z:bU 0:=by unfold bU;omega
 unfold jH at hq;have hE:eP x.fn.data.toList=true->∀ v,evT g x.e=some v->bU v:=fun he=>(Aa U x.e ((cW _).1 (h.e he).c).1 (h.e he).n).2
 have hG:bP x.fn.data.toList=true->∀ v,evT g x.g=some v->bU v:=fun he=>(Aa U x.g ((cW _).1 (h.g he).c).1 (h.g he).n).2
 generalize cZ g x.wh=tk at hq;generalize evT g x.e=oe at hq hE;generalize evT g x.g=ob at hq hG;generalize eP x.fn.data.toList=ee at hq hE;generalize bP x.fn.data.toList=bb at hq hG;cases tk <;> cases ee <;> cases bb <;> cases oe <;> cases ob <;> simp only [Kl,Dc,Option.some.injEq,reduceCtorEq] at hq <;> subst hq <;> refine ⟨?_,?_⟩ <;> first | exact z | exact hE rfl _ rfl | exact hG rfl _ rfl
abbrev rwO (ya:Option Addr) (l yc:Nat):Obj:=.cells #[.slice ya l yc] 34
theorem Hz (n l bl ba bp:Nat) (x:AG) (p:PA) (rs:List RW) (ya:Option Addr) (yc:Nat) (W0:World) (hX:OkX x) (hU:∀ r∈rs,gN r.A r.n r.g) (hl:rs.length<=1000)
 (hr:aJ (fun b=>b<W0.heap.size) W0 x p) (hy:bL W0 ya rs) (hbl:W0.heap[bl]? = some (rwO ya rs.length yc)) (hba:W0.heap[ba]? = some (agP x p))
 (hbp:W0.heap[bp]? = some (ptO (kP x.fn.data.toList) (eP x.fn.data.toList) (bP x.fn.data.toList))) (J Jx:List (Int×Int)->World->Prop) (W:World) (hJ:AbidesFrom W.heap.size J)
 (hY:∀ pre q W1,bU q.1->bU q.2->J pre W1->pre.length<(gB x (rs.map RW.g)).length->YieldAt Fence.wide n Tryz.prog l #[jZ q] W1 fun e W'=>(e=.returned (.bool true)/\J (pre++[q]) W'/\Below W0.heap.size W1 W')\/(e=.returned (.bool false)/\Jx (pre++[q]) W'))
 (hW:Below W0.heap.size W0 W) (h0:J [] W) :
 CallsIn Fence.wide (n+1) Tryz.prog 139 #[.func (.yield l) #[] #[],.pointer (some ⟨bl,0,none⟩),.pointer (some ⟨ba,0,none⟩),.pointer (some ⟨bp,0,none⟩)] W fun e W' =>
  (∃ v,e=.returned v)/\((∃ ys,ys=gB x (rs.map RW.g)/\J ys W')\/(∃ pre,pre <+: gB x (rs.map RW.g)/\Jx pre W')):=by
 refine callsIn_of_wp Tryz.func139 rfl trivial ?_ rfl;simp only [Tryz.ntmps139,List.size_toArray,List.length_cons,List.length_nil,Nat.reduceAdd,Nat.reduceSub,Array.replicate_succ,Array.replicate_zero,List.push_toArray,List.append_toArray,List.nil_append,List.cons_append]
 have cl:W.cell? ⟨bl,0,none⟩=some (.slice ya rs.length yc):=by
  have:=(hW.block bl (aB hbl)).trans hbl;simp [World.cell?,this]
 gi_wp2
 clear cl;gi_loopw [6,7,8,11] (fun v6 v7 v8 i wr=>∃ (k:Nat) (y6 y7 y8:Value),v6=y6/\v7=y7/\v8=y8/\i=.int .i64 k/\k<=rs.length/\Below W0.heap.size W0 wr/\W.heap.size<=wr.heap.size/\J (gB x ((rs.map RW.g).take k)) wr) (fun _ _ _ i _=>rs.length-(intOf i).toNat)
 case atStart=>exact ⟨0,_,_,_,rfl,rfl,rfl,rfl,Nat.zero_le _,hW,Nat.le_refl _,h0⟩
 case round =>
  obtain ⟨k,y6,y7,y8,rfl,rfl,rfl,rfl,hk,hb,hz,hJs⟩:=hrel;by_cases hlt:k<rs.length
  · obtain ⟨r,hrk⟩:∃ r,rs[k]? = some r:=⟨_,List.getElem?_eq_getElem hlt⟩
    have hne:¬ rs=[]:=fun e=>by rw [e] at hlt;simp at hlt
    obtain ⟨b,off,rfl,hbs,hcc⟩:=(fX hy hb).resolve_left hne;obtain ⟨yr,cyr,c0,rd⟩:=hcc k r hrk;have hba1:=(hb.block ba (aB hba)).trans hba;have hbp1:=(hb.block bp (aB hbp)).trans hbp;obtain ⟨m0,m1,m2,m3,m4,m5,m6,m7,m8,m9,m10⟩:=aP hba1;obtain ⟨q0,q1,q2⟩:=dB hbp1;have hrA:aJ (fun b=>b<W0.heap.size) wr x p:=hr.kept hb;have TK:=aA (Fi (hU r (List.mem_of_getElem? hrk)) x p yr cyr wr hX.e hX.g hX.c hX.l hrA rd)
    have hgs:(rs.map RW.g).take (k+1)=(rs.map RW.g).take k++[r.g]:=by
     rw [List.take_add_one];simp [hrk]
    have hsn:=Fj x ((rs.map RW.g).take k) r.g;rw [<- hgs] at hsn;have hgr:∀ W3,Below wr.heap.size wr W3->wr.grownBy W3 none:=fun W3 h=>⟨h.os,h.tape,h.output,h.size,fun k hk _=>h.block k hk⟩
    cases htk:jH x r.g with
    | none =>
      rw [htk] at TK hsn;gi_wp2_with (refine ⟨trivial,?_⟩;gi_at_call 140;refine (callsIn_wide.2 TK.out).mono ?_;rintro e w1 ⟨u,v,rfl,hsay,hb1⟩)
      refine ⟨fun _ h=>(by cases h),?_⟩;gi_wp2
      go_roundw
      case rel=>exact ⟨k+1,_,_,_,rfl,rfl,rfl,by go_num,hlt,(hb.trans (hb1.mono hb.size)).alloc (Nat.le_trans hb.size hb1.size) _,by have:=hb1.size;simp;omega,by
       rw [hsn,List.append_nil];exact hJ _ _ _ _ (hJ _ _ _ _ hJs (hgr _ hb1) (fun r e=>by cases e)) (World.grownBy_alloc _ _ none) (fun r e=>by cases e)⟩
      case measure=>simp [intOf];omega
    | some q =>
      rw [htk] at TK hsn;have hin:=Bb hX (hU r (List.mem_of_getElem? hrk)) htk
      have hlen:(gB x ((rs.map RW.g).take k)).length<(gB x (rs.map RW.g)).length:=by
       have h1:=(Ba x (gs:=rs.map RW.g) (k+1)).length_le;rw [hsn,List.length_append] at h1;simp at h1;omega
      have hyl:=fun w1 (hb1:Below wr.heap.size wr w1)=>hY (gB x ((rs.map RW.g).take k)) q (w1.alloc (aG q.1 q.2)) hin.1 hin.2 (hJ _ _ _ _ (hJ _ _ _ _ hJs (hgr _ hb1) (fun r e=>by cases e)) (World.grownBy_alloc _ _ none) (fun r e=>by cases e)) hlen
      gi_wp2_with (refine ⟨trivial,?_⟩;gi_at_call 140;refine (callsIn_wide.2 TK.out).mono ?_;rintro e w1 ⟨u,v,rfl,hsay,hb1⟩;obtain rfl:=hsay _ rfl;obtain ⟨fn,tmps,assign,body,hyy,hR⟩:=hyl w1 hb1;dsimp only at hyy)
      refine hR.mono ?_;clear hR;rintro e W3 (⟨rfl,hJ3,hk3⟩ | ⟨rfl,hJx3⟩)
      · gi_wp2
        go_roundw
        case rel=>exact ⟨k+1,_,_,_,rfl,rfl,rfl,by go_num,hlt,((hb.trans (hb1.mono hb.size)).alloc (Nat.le_trans hb.size hb1.size) _).trans hk3,by have:=hb1.size;have:=hk3.size;simp at this;omega,by rw [hsn];exact hJ3⟩
        case measure=>simp [intOf];omega
      · gi_wp2
        refine bodyPost_ret (results_none rfl _ _ _) rfl ?_;exact ⟨⟨_,rfl⟩,.inr ⟨gB x ((rs.map RW.g).take (k+1)),Ba x _,by rw [hsn];exact hJx3⟩⟩
  · obtain rfl:k=rs.length:=by omega
    rw [List.take_of_length_le (by simp)] at hJs;gi_wp2
    go_end0
    exact ⟨⟨_,rfl⟩,.inl ⟨_,rfl,hJs⟩⟩
end
section
open Go.RowKit Go.Shelf
abbrev Q64:Type:={ q:Int×Int // bU q.1/\bU q.2 }
abbrev tkE (q:Q64):Array Value:=#[jZ q.1]
theorem jK:∀ (l:List (Int×Int)),(∀ q∈l,bU q.1/\bU q.2)->∃ L:List Q64,L.map Subtype.val=l
 | [],_=>⟨[],rfl⟩
 | q :: l, h => by
   obtain ⟨L,rfl⟩:=jK l (fun z hz=>h z (List.mem_cons_of_mem _ hz));exact ⟨⟨q,h q (List.mem_cons_self ..)⟩::L,rfl⟩
theorem nZ {x:AG} (h:OkX x) {rs:List RW} (hU:∀ r∈rs,gN r.A r.n r.g):∀ q∈gB x (rs.map RW.g),bU q.1/\bU q.2:=by
 intro q hq;unfold gB at hq;rw [List.mem_filterMap] at hq;obtain ⟨g,hg,hz⟩:=hq;rw [List.mem_map] at hg;obtain ⟨r,hr,rfl⟩:=hg;exact Bb h (hU r hr) hz
structure AF (B:Nat) (W:World) (x:AG) (p:PA) (rs:List RW) (ya:Option Addr) (yc bl ba bp:Nat):Prop where
 l:W.heap[bl]? = some (rwO ya rs.length yc)
 a:W.heap[ba]? = some (agP x p)
 q:W.heap[bp]? = some (ptO (kP x.fn.data.toList) (eP x.fn.data.toList) (bP x.fn.data.toList))
 rd:aJ (fun b=>b<W.heap.size) W x p
 ry:bL W ya rs
abbrev tkF (bl ba bp:Nat):Array Value:=#[.pointer (some ⟨bl,0,none⟩),.pointer (some ⟨ba,0,none⟩),.pointer (some ⟨bp,0,none⟩)]
theorem tI {l m:List Q64} (h:l.map Subtype.val=m.map Subtype.val):l=m:=(List.map_inj_right (fun _ _ e=>Subtype.ext e)).1 h
theorem fT (n:Nat) {B bl ba bp yc:Nat} {x:AG} {p:PA} {rs:List RW} {ya:Option Addr} {w:World} (hX:OkX x) (hU:∀ r∈rs,gN r.A r.n r.g) (hl:rs.length<=1000) (h:AF B w x p rs ya yc bl ba bp)
 (L:List Q64) (hL:L.map Subtype.val=gB x (rs.map RW.g)) :
 SeqStopsK Fence.wide (n+1) Tryz.prog 139 (tkF bl ba bp) tkE (Below w.heap.size) (fun ys=>ys=L) (fun pre=>pre <+: L) L.length w:=fun l J Jx W hW hJ _ hY h0=>by
 refine (Hz n l bl ba bp x p rs ya yc w hX hU hl h.rd h.ry h.l h.a h.q (fun pre V=>∃ pre',pre'.map Subtype.val=pre/\J pre' V) (fun pre V=>∃ pre',pre'.map Subtype.val=pre/\Jx pre' V) W ?_ ?_ hW ⟨[],rfl,h0⟩).mono ?_
 · rintro s X Y row ⟨s',e,hs⟩ hg hr
   exact ⟨s',e,hJ s' X Y row hs hg hr⟩
 · rintro pre q W1 h1 h2 ⟨pre',rfl,hj⟩ hlen
   rw [<- hL,List.length_map,List.length_map] at hlen;refine (hY pre' ⟨q,h1,h2⟩ W1 hj hlen).mono ?_;rintro e W' (⟨he,hj',hk⟩ | ⟨he,hj'⟩)
   · exact .inl ⟨he,⟨_,by simp,hj'⟩,hk⟩
   · exact .inr ⟨he,⟨_,by simp,hj'⟩⟩
 · rintro e W' ⟨hv,(⟨ys,rfl,pre',e',hj⟩ | ⟨pre,hp,pre',rfl,hj⟩)⟩
   · exact ⟨hv,.inl ⟨pre',tI (e'.trans hL.symm),hj⟩⟩
   · refine ⟨hv,.inr ⟨pre',?_,hj⟩⟩
     rw [<- hL] at hp;show pre' <+: L;rw [List.prefix_iff_eq_take] at hp |-
     rw [List.length_map, <- List.map_take] at hp;exact tI hp
theorem A7 {w:World} {x:AG} {p:PA} {rs:List RW} {ya:Option Addr} {yc:Nat} {G:Nat->Prop} (hr:aJ G w x p) (hy:bL w ya rs) {V:World} (hV:Below ((w.alloc (agP x p)).alloc (rwO ya rs.length yc)).heap.size ((w.alloc (agP x p)).alloc (rwO ya rs.length yc)) V) :
 AF w.heap.size (V.alloc (ptO (kP x.fn.data.toList) (eP x.fn.data.toList) (bP x.fn.data.toList))) x p rs ya yc (w.heap.size+1) w.heap.size V.heap.size/\Below w.heap.size w (V.alloc (ptO (kP x.fn.data.toList) (eP x.fn.data.toList) (bP x.fn.data.toList))):=by
 have B1:=bA0 w (agP x p);have N1:=heap_alloc_new w (agP x p);have hs1:(w.alloc (agP x p)).heap.size=w.heap.size+1:=World.size_alloc _ _;generalize w.alloc (agP x p)=W1 at *;have B2:=bA0 W1 (rwO ya rs.length yc);have N2:=heap_alloc_new W1 (rwO ya rs.length yc);have hs2:(W1.alloc (rwO ya rs.length yc)).heap.size=W1.heap.size+1:=World.size_alloc _ _;generalize W1.alloc (rwO ya rs.length yc)=W2 at *;have B3:=bA0 V (ptO (kP x.fn.data.toList) (eP x.fn.data.toList) (bP x.fn.data.toList));have N3:=heap_alloc_new V (ptO (kP x.fn.data.toList) (eP x.fn.data.toList) (bP x.fn.data.toList));generalize V.alloc (ptO (kP x.fn.data.toList) (eP x.fn.data.toList) (bP x.fn.data.toList))=W3 at *;have hz:=hV.size;have hz3:=B3.size;have B13:Below W1.heap.size W1 W3:=B2.trans ((hV.trans (B3.mono hz)).mono (by omega));have B03:Below w.heap.size w W3:=B1.trans (B13.mono (by omega));rw [hs1] at N2;refine ⟨⟨?_,?_,N3,(hr.kept B03).imp (fun b hb _=>?_),fX hy B03⟩,B03⟩
 · exact ((hV.trans (B3.mono hz)).block _ (by omega)).trans N2
 · exact (B13.block _ (by omega)).trans N1
 · exact hb
theorem fU {G:Nat->Prop} (x:AG) (p:PA) (rs:List RW) (ya:Option Addr) (yc:Nat) (w:World) (hr:aJ G w x p) (hy:bL w ya rs) :
 Calls Tryz.prog 82 #[agV x p,.slice ya rs.length yc] w fun e w'=>∃ bl ba bp,e=.returned (.func (.func 139) #[] (tkF bl ba bp))/\AF w.heap.size w' x p rs ya yc bl ba bp/\Below w.heap.size w w':=by
 have TN:=aA (fun V hV=>A7 (yc:=yc) (V:=V) hr hy hV);have hs0:((w.alloc (agP x p)).alloc (rwO ya rs.length yc)).heap.size=w.heap.size+2:=by simp
 have B1:=bA0 w (agP x p)
 have N0:((w.alloc (agP x p)).alloc (rwO ya rs.length yc)).heap[w.heap.size]? = some (agP x p):=by
  have h1:=heap_alloc_new w (agP x p);exact (((Below.refl _ (w.alloc (agP x p))).alloc (Nat.le_refl _) (rwO ya rs.length yc)).block _ (by simp)).trans h1
 have CP:=aA (kT x.fn ((w.alloc (agP x p)).alloc (rwO ya rs.length yc)));generalize hW:(w.alloc (agP x p)).alloc (rwO ya rs.length yc)=W at *;have HW:=aA hW;obtain ⟨m0,m1,m2,m3,m4,m5,m6,m7,m8,m9,m10⟩:=aP N0;unfold ptV at CP;clear hr hy B1 hW N0;go_enter Tryz.func82,Tryz.ntmps82
 go_upto_region 1 with fail
 rw [show (w.alloc (.cells #[.string x.fn,.int .i64 x.k,.string x.e.op,.string x.e.nm,.int .i64 x.e.n,.slice p.ea x.e.ks.len p.ec,.string x.g.op,.string x.g.nm,.int .i64 x.g.n,.slice p.ga x.g.ks.len p.gc,.slice p.wa x.wh.length p.wc] 70)).alloc (.cells #[.slice ya rs.length yc] 34)=W from HW.out];go_wp2_with fail
 refine CP.out.mono ?_;rintro e w1 ⟨rfl,hb⟩;go_wp2_with fail
 go_ret;obtain ⟨T1,T2⟩:=TN.out w1 hb;exact ⟨_,_,_,rfl,T1,T2⟩
theorem eF {w:World} {e:TypeId} {v:Value} {n:Nat} {xs:List Value} (h:w.ownsRow 0 e 1 v n xs) :
 (v=.slice none 0 0/\n=0/\xs=[]) \/
 ∃ g cap cur,v=.slice (some ⟨g,0,none⟩) n cap/\v.ownBlock=some g/\w.heap[g]? = some (.cells cur e (0,0))/\n<=cap/\cap<=maxLen/\cur.size=cap/\cur.toList.take n=xs/\xs.length=n/\g<w.heap.size:=by
 obtain ⟨h1,h2⟩:=h;rw [Nat.mul_one] at h1;rcases h2 with ⟨rfl,rfl⟩ | ⟨g,cap,cur,rfl,_,hg,a,b,c,d⟩
 · exact .inl ⟨rfl,rfl,List.length_eq_zero_iff.1 h1⟩
 · rw [Nat.mul_one] at c d
   exact .inr ⟨g,cap,cur,rfl,rfl,hg,a,b,c,d,h1,lt_of_block hg⟩
theorem j4 {w:World} {e:TypeId} {g cap n:Nat} {cur:Array Value} {xs:List Value} (hg:w.heap[g]? = some (.cells cur e (0,0))) (hn:n<=cap) (hm:cap<=maxLen) (hs:cur.size=cap) (ht:cur.toList.take n=xs) :
 w.ownsRow 0 e 1 (.slice (some ⟨g,0,none⟩) n cap) n xs:=by
 refine ⟨?_,.inr ⟨g,cap,cur,rfl,Nat.zero_le _,hg,hn,hm,by rw [Nat.mul_one];exact hs,by rw [Nat.mul_one];exact ht⟩⟩;rw [<- ht,List.length_take,Array.length_toList,Nat.mul_one];omega
theorem aM (b:Nat):∀ (vs:List Value) (o:Nat) (w:World),aC (· = b) w (w.setCells b o vs)
 | [],_,w=>aC.refl _ w
 | v::r,o,w=>((aC.refl (fun i=>i=b) w).setCell (p:=⟨b,o,none⟩) (Or.inl rfl) v).trans (aM b r (o+1) _) (fun _ h _=>h)
def e9 (w w':World) (E:TypeId) (v:Value) (xs:List Value) (e:Ending):Prop :=
 ∃ v',e=.returned v'/\w'.ownsRow 0 E 1 v' xs.length xs/\w.grownBy w' v.ownBlock/\(v'.ownBlock=v.ownBlock\/∃ b,v'.ownBlock=some b/\w.heap.size<=b)
theorem kF {w:World} {e:TypeId} {g cap n i:Nat} {cur:Array Value} {xs:List Value} {x:Value} (hg:w.heap[g]? = some (.cells cur e (0,0))) (hs:cur.size=cap) (ht:cur.toList.take n=xs)
 (hx:xs.length=n) (hi:i<n) (hr:n+1<=cap) (hm:cap<=maxLen) (e':Ending) (he:e'=.returned (.slice (some ⟨g,0,none⟩) (n+1) cap)) :
 e9 w ((w.drew.setCells g (i+1) (xs.drop i)).setCells g i [x]) e (.slice (some ⟨g,0,none⟩) n cap) (xs.take i++x::xs.drop i) e':=by
 obtain ⟨c1,h1,t1⟩:=aN g e (xs.drop i) (i+1) w.drew cur hg (by rw [List.length_drop];omega)
 have s1:c1.size=cap:=by
  rw [<- Array.length_toList,t1];simp [List.length_take];omega
 obtain ⟨c2,h2,t2⟩:=aN g e [x] i _ c1 h1 (by simp;omega)
 have s2:c2.size=cap:=by
  rw [<- Array.length_toList,t2];simp [List.length_take];omega
 have hl:(xs.take i++x::xs.drop i).length=n+1:=by simp [List.length_take];omega
 refine ⟨_,he,?_,aV (S:=(· = g)) (((aC.refl (· = g) w).drew.trans (aM g _ _ _) (fun _ h _=>h)).trans (aM g _ _ _) (fun _ h _=>h)) (fun k hk=>by subst hk;rfl),Or.inl rfl⟩;rw [hl];refine j4 h2 hr hm s2 ?_;rw [t2,t1]
 have e1:(cur.toList.take (i+1)++xs.drop i++cur.toList.drop (i+1+(xs.drop i).length)).take i=xs.take i:=by
  rw [List.append_assoc,List.take_append_of_le_length (by rw [List.length_take,Array.length_toList];omega),List.take_take, <- ht,List.take_take];congr 1;omega
 have e2:(cur.toList.take (i+1)++xs.drop i++cur.toList.drop (i+1+(xs.drop i).length)).drop (i+[x].length)=xs.drop i++cur.toList.drop (n+1):=by
  rw [List.append_assoc,List.drop_append_of_le_length (by rw [List.length_take,Array.length_toList];simp;omega),List.drop_take];have:i+1+(xs.drop i).length=n+1:=by rw [List.length_drop];omega
  rw [this];simp
 rw [e1,e2];have e3:xs.take i++[x]++(xs.drop i++cur.toList.drop (n+1))=(xs.take i++x::xs.drop i)++cur.toList.drop (n+1):=by simp
 rw [e3, <- hl,List.take_append_of_le_length (Nat.le_refl _),List.take_length]
theorem l8 {w:World} {e:TypeId} {g cap n:Nat} {cur:Array Value} {xs:List Value} {x:Value} (hg:w.heap[g]? = some (.cells cur e (0,0))) (hs:cur.size=cap) (ht:cur.toList.take n=xs)
 (hx:xs.length=n) (hr:n+1<=cap) (hm:cap<=maxLen) (e':Ending) (he:e'=.returned (.slice (some ⟨g,0,none⟩) (n+1) cap)) :
 e9 w (w.setCells g n [x]) e (.slice (some ⟨g,0,none⟩) n cap) (xs.take n++x::xs.drop n) e':=by
 obtain ⟨c2,h2,t2⟩:=aN g e [x] n w cur hg (by simp;omega)
 have s2:c2.size=cap:=by
  rw [<- Array.length_toList,t2];simp [List.length_take];omega
 have hl:(xs.take n++x::xs.drop n).length=n+1:=by simp [List.length_take];omega
 refine ⟨_,he,?_,aV (S:=(· = g)) (aM g _ _ _) (fun k hk=>by subst hk;rfl),Or.inl rfl⟩;rw [hl];refine j4 h2 hr hm s2 ?_;rw [t2,ht,List.take_of_length_le (by omega:xs.length<=n),List.drop_of_length_le (by omega:xs.length<=n),List.take_append_of_le_length (by simp;omega),List.take_of_length_le (by simp;omega)]
theorem iO {w w':World} {e:TypeId} {G n i:Nat} {v:Value} {ROW:Array Value} {xs:List Value} {x:Value} (hx:xs.length=n) (hi:i<=n) (hG:n+1<=G) (hm:G<=maxLen)
 (hw:aC (fun _=>False) w w') (hrow:w'.heap[w.heap.size]? = some (.cells ROW e (0,0))) (hs:ROW.size=G) (ht:ROW.toList.take (n+1)=xs.take i++x::xs.drop i) (e':Ending) (he:e'=.returned (.slice (some ⟨w.heap.size,0,none⟩) (n+1) G)) :
 e9 w w' e v (xs.take i++x::xs.drop i) e':=by
 have hl:(xs.take i++x::xs.drop i).length=n+1:=by simp [List.length_take];omega
 refine ⟨_,he,?_,aV hw (fun _ h=>h.elim),Or.inr ⟨_,rfl,Nat.le_refl _⟩⟩;rw [hl];exact j4 hrow hG hm hs ht
theorem iP {w:World} {e:TypeId} {G n:Nat} {v:Value} {Z:Array Value} {xs:List Value} {x:Value} (hx:xs.length=n) (hG:n+1<=G) (hm:G<=maxLen) (hZ:Z.size=G-(n+1))
 (e':Ending) (he:e'=.returned (.slice (some ⟨w.heap.size,0,none⟩) (n+1) G)) :
 e9 w (w.drew.alloc (.cells ((xs++[x]).toArray++Z) e)) e v (xs.take n++x::xs.drop n) e':=by
 refine iO (i:=n) (ROW:=(xs++[x]).toArray++Z) hx (Nat.le_refl _) hG hm ((aC.refl _ w).drew.alloc _) (heap_alloc_new w.drew _) (by simp;omega) ?_ e' he;rw [Array.toList_append,List.take_append_of_le_length (by simp;omega),List.take_of_length_le (by simp;omega),List.take_of_length_le (by omega:xs.length<=n),List.drop_of_length_le (by omega:xs.length<=n)]
theorem l9 {w:World} {e:TypeId} {G n i:Nat} {v:Value} {Y Z:Array Value} {xs:List Value} {x:Value} (hx:xs.length=n) (hi:i<n) (hG:n+1<=G) (hm:G<=maxLen) (hY:Y.size=n+1-i) (hZ:Z.size=G-(n+1))
 (e':Ending) (he:e'=.returned (.slice (some ⟨w.heap.size,0,none⟩) (n+1) G)) :
 e9 w ((((w.alloc (.cells ((xs.take i).toArray++Y++Z) e)).drew.setCells w.heap.size i [x]).drew).setCells w.heap.size (i+1) (xs.drop i)) e v (xs.take i++x::xs.drop i) e':=by
 have hti:(xs.take i).length=i:=by rw [List.length_take];omega
 have h0:((w.alloc (.cells ((xs.take i).toArray++Y++Z) e)).drew).heap[w.heap.size]? = some (.cells ((xs.take i).toArray++Y++Z) e (0,0)):=heap_alloc_new w _;have s0:((xs.take i).toArray++Y++Z).size=G:=by simp [List.length_take];omega
 obtain ⟨c1,h1,t1⟩:=aN w.heap.size e [x] i _ _ h0 (by rw [s0];simp;omega)
 have s1:c1.size=G:=by
  rw [<- Array.length_toList,t1];simp [List.length_take];omega
 obtain ⟨c2,h2,t2⟩:=aN w.heap.size e (xs.drop i) (i+1) (((w.alloc (.cells ((xs.take i).toArray++Y++Z) e)).drew.setCells w.heap.size i [x]).drew) c1 h1 (by rw [s1,List.length_drop];omega)
 have s2:c2.size=G:=by
  rw [<- Array.length_toList,t2];simp [List.length_take];omega
 have k0:aC (fun k=>k=w.heap.size) w ((((w.alloc (.cells ((xs.take i).toArray++Y++Z) e)).drew.setCells w.heap.size i [x]).drew).setCells w.heap.size (i+1) (xs.drop i)) :=
  ((((aC.refl (fun k=>k=w.heap.size) w).alloc _).drew.trans (aM w.heap.size _ _ _) (fun _ h _=>h)).drew).trans (aM w.heap.size _ _ _) (fun _ h _=>h)
 refine iO (ROW:=c2) hx (Nat.le_of_lt hi) hG hm (k0.mono (fun k hk hl=>by omega)) h2 s2 ?_ e' he;rw [t2,t1]
 have e1:((((xs.take i).toArray++Y++Z).toList.take i++[x]++((xs.take i).toArray++Y++Z).toList.drop (i+[x].length))).take (i+1)=xs.take i++[x]:=by
  have e0:((xs.take i).toArray++Y++Z).toList.take i=xs.take i:=by
   rw [Array.toList_append,Array.toList_append,List.append_assoc,List.take_append_of_le_length (by simp [List.length_take];omega)];exact List.take_of_length_le (by simp [List.length_take];omega)
  rw [e0,List.take_append_of_le_length (by simp [List.length_take];omega),List.take_of_length_le (by simp [List.length_take];omega)]
 have hl:(xs.take i++x::xs.drop i).length=n+1:=by simp [List.length_take];omega
 rw [e1];have e3:∀ R:List Value,xs.take i++[x]++xs.drop i++R=(xs.take i++x::xs.drop i)++R:=fun R=>by simp
 rw [e3, <- hl,List.take_append_of_le_length (Nat.le_refl _),List.take_length]
def AI (w w':World) (E:TypeId) (v:Value) (xs:List Value) (e:Ending):Prop :=
 ∃ v',e=.returned v'/\w'.ownsRow 0 E 1 v' xs.length xs/\w.grownBy w' v.ownBlock/\v'.ownBlock=v.ownBlock
theorem LR {w:World} {e:TypeId} {g cap n i:Nat} {cur:Array Value} {xs:List Value} {z:Value} (hg:w.heap[g]? = some (.cells cur e (0,0))) (hs:cur.size=cap) (ht:cur.toList.take n=xs)
 (hx:xs.length=n) (hi:i<n) (hn:n<=cap) (hm:cap<=maxLen) (e':Ending) (he:e'=.returned (.slice (some ⟨g,0,none⟩) (n-1) cap)) :
 AI w ((w.drew.setCells g i (xs.drop (i+1))).setCells g (n-1) [z]) e (.slice (some ⟨g,0,none⟩) n cap) (xs.eraseIdx i) e':=by
 obtain ⟨c1,h1,t1⟩:=aN g e (xs.drop (i+1)) i w.drew cur hg (by rw [List.length_drop];omega)
 have s1:c1.size=cap:=by
  rw [<- Array.length_toList,t1];simp [List.length_take];omega
 obtain ⟨c2,h2,t2⟩:=aN g e [z] (n-1) _ c1 h1 (by simp;omega)
 have s2:c2.size=cap:=by
  rw [<- Array.length_toList,t2];simp [List.length_take];omega
 have hl:(xs.eraseIdx i).length=n-1:=by rw [List.length_eraseIdx,if_pos (by omega),hx]
 refine ⟨_,he,?_,aV (S:=(· = g)) (((aC.refl (· = g) w).drew.trans (aM g _ _ _) (fun _ h _=>h)).trans (aM g _ _ _) (fun _ h _=>h)) (fun k hk=>by subst hk;rfl),rfl⟩;rw [hl];refine j4 h2 (by omega) hm s2 ?_
 have hte:cur.toList.take i=xs.take i:=by
  rw [<- ht,List.take_take];congr 1;omega
 have hti:(xs.take i).length=i:=by rw [List.length_take];omega
 rw [t2,t1,hte,List.eraseIdx_eq_take_drop_succ];have hb:(xs.take i++xs.drop (i+1)).length=n-1:=by rw [List.length_append,hti,List.length_drop];omega
 rw [List.append_assoc,List.take_append_of_le_length (by simp [List.length_take];omega),List.take_take,Nat.min_self, <- hb,List.take_append_of_le_length (Nat.le_refl _),List.take_length]
section
variable {K : Type} {less : K -> K -> Bool}
variable [DecidableEq K]
end
end
section
open Go.RowKit Go.Lib
theorem oN:(Tryz.prog.info? 2).map (fun i=>(i.zero,i.size,i.bytes))=some (some (Value.int .i64 0),1,8):=by kernel_rfl
theorem Gw (w:World):(Go.sizeOf 2).run Tryz.prog w=.ok 1 w:=by kernel_rfl
theorem Jf:Tryz.prog.underlying 3=some (.int .i64):=by kernel_rfl
theorem fI:Tryz.prog.underlying 58=some (.slice 2):=by kernel_rfl
theorem DI (b n c i vb:Nat) (cur:Array Value) (cs:List Value) (x:Value) (w:World) (hi:i<n) (hroom:n+1<=c) (hc63:c<=9223372036854775807) (hvb:vb ≠ b)
 (hb:w.heap[b]? = some (.cells cur 2 (0,0))) (hcur:cur.size=c) (hcl:cs.length=n) (ht:cur.toList.take n=cs) (hv:w.heap[vb]? = some (.cells #[x] 2 (0,0))) (h1c:∀ v∈cs,v.oneCell'=true) (h1v:x.oneCell'=true) :
 Calls Tryz.prog 143 #[.slice (some ⟨b,0,none⟩) n c,.int .i64 i,.slice (some ⟨vb,0,none⟩) 1 1] w fun e w' =>
  e=.returned (.slice (some ⟨b,0,none⟩) (n+1) c)/\w'=(w.drew.setCells b (i+1) (cs.drop i)).setCells b i [x]:=by
 have hcs:∀ j v,cs[j]? = some v->w.cell? ⟨b,j,none⟩=some v:=fun j v h=>bJ hb ht h
 have hsp:∀ j,j<n+1->(w.cell? ⟨b,j,none⟩).isSome=true:=fun j h=>by
  rw [cell_of_row w b j cur _ (0,0) hb,Array.getElem?_eq_getElem (by omega)];rfl
 have hfz:∀ j,w.frozen? ⟨b,j,none⟩=false:=fun j=>frozen_of_row w b j cur _ hb
 have hvs:∀ j v,[x][j]? = some v->w.cell? ⟨vb,j,none⟩=some v:=fun j v h=>bJ (n:=1) hv rfl h
 have hz2:¬ ((i:Int)=(n:Int)):=by omega
 have hsz:(Tryz.prog.info? 2).map (·.size)=some 1:=by
  obtain ⟨i0,hi0,h0,h1,h2⟩:=info_parts oN;rw [hi0];simp [h1]
 have hsa:w.shape? vb=some (2,1):=by simp [World.shape?,hv]
 have hsb:w.shape? b=some (2,c):=by simp [World.shape?,hb,hcur]
 have hov:∀ lb cb,(callFunc 194 #[.slice (some ⟨vb,0,none⟩) 1 1,.slice (some ⟨b,i+1,none⟩) lb cb]).run Tryz.prog w=.ok (.value (.bool false)) w:=fun lb cb=>by
  rw [run_callFunc_extern Tryz.func194 (by kernel_rfl) (by kernel_rfl) (by kernel_rfl) (e:=Extern.SlicesOverlaps.overlaps #[58,58] #[4]) (by kernel_rfl),
   Lib.run_overlaps_apart w 58 4 2 fI 1 Gw ⟨vb,0,none⟩ ⟨b,i+1,none⟩ 1 1 lb cb hvb 2 2 1 c hsa hsb (by omega) (frozen_of_row w vb 0 _ _ hv) (frozen_of_row w vb 1 _ _ hv)]
  rfl
 have hdl:(cs.drop i).length=n-i:=by rw [List.length_drop,hcl]
 have hw1:IntKind.i64.wrap ((i:Int)+1)=(i:Int)+1:=by rw [IntKind.wrap_i64];omega
 have hin:i<=n:=by omega
 have hb1:(0:Int)<=(i:Int)+1:=by omega
 have htn:((i:Int)+1).toNat=i+1:=by omega
 have hb3:(i:Int)<=(n:Int)+1:=by omega
 have hb2:¬ (c=i+1):=by omega
 have hb4:¬ (c=i):=by omega
 have hcp1:∀ ty dc sc,(Builtin.copy_ #[58,58] ty #[.slice (some ⟨b,i+1,none⟩) (n-i) dc,.slice (some ⟨b,i,none⟩) (n+1-i) sc]).run Tryz.prog w.drew=.ok (goInt (cs.drop i).length) (w.drew.setCells b (i+1) (cs.drop i)):=fun ty dc sc =>
  run_copy_cells w.drew _ _ ty 2 b (i+1) (n-i) dc ⟨b,i,none⟩ (n+1-i) sc (cs.drop i) fI hsz (by rw [hdl];simp only [Nat.min_def];split <;> omega)
   (fun j v hj=>by rw [Addr.add_lit];exact hcs (i+j) v (by rwa [List.getElem?_drop] at hj))
   (fun j hj=>hsp _ (by omega)) (fun j hj=>hfz _) (fun v hv=>h1c v (List.mem_of_mem_drop hv))
 obtain ⟨W1,hW1⟩:∃ W1,W1=w.drew.setCells b (i+1) (cs.drop i):=⟨_,rfl⟩
 have hsp1:∀ k,k<n+1->(W1.cell? ⟨b,k,none⟩).isSome=true:=fun k hk=>by
  rw [hW1];exact isSome_setCells b (cs.drop i) (i+1) w.drew (fun j hj=>hsp _ (by omega)) _ (hsp k hk)
 have hcp2:∀ (W:World),(∀ x,W.cell? x=W1.cell? x)->(∀ x,W.frozen? x=W1.frozen? x)->∀ ty dc,(Builtin.copy_ #[58,58] ty #[.slice (some ⟨b,i,none⟩) (n+1-i) dc,.slice (some ⟨vb,0,none⟩) 1 1]).run Tryz.prog W=.ok (goInt [x].length) (W.setCells b i [x]):=fun W hWc hWf ty dc =>
  run_copy_cells W _ _ ty 2 b i (n+1-i) dc ⟨vb,0,none⟩ 1 1 [x] fI hsz (by simp only [List.length_singleton,Nat.min_def];split <;> omega)
   (fun j v hj=>by
    rw [Addr.add_lit,Nat.zero_add,hWc,hW1,World.cell?_setCells_out b _ _ _ _ (fun h _=>absurd h hvb)];exact hvs j v hj)
   (fun j hj=>by rw [hWc];exact hsp1 _ (by simp at hj;omega)) (fun j hj=>by rw [hWf,hW1,World.frozen?_setCells];exact hfz _) (by simpa using h1v)
 rw [<- hW1] at hcp1;clear hcs hsp hfz hvs hsz hsa hsb hdl hsp1 hb hcur ht hv h1c h1v;go_enter Tryz.func143,Tryz.ntmps143
 go_wp2_with (simp only [hov])
 go_region_law (refine step_copy_runI rfl _ _ 58 58 rfl _ _ (by simp [Act.eval,Act.put]) (by simp [Act.eval,Act.put]) (hcp1 _ _ _) ?_)
 go_wp2_with (at_builtin;refine wpList_copy_runI _ rfl _ _ 58 58 rfl _ _ rfl rfl (hcp2 _ (fun _=>rfl) (fun _=>rfl) _ _) ?_)
 go_ret;first | exact ⟨rfl,rfl⟩ | exact ⟨rfl,by rw [hW1]⟩
theorem Gx (b n c vb:Nat) (cur:Array Value) (x:Value) (w:World) (hroom:n+1<=c) (hc63:c<=9223372036854775807)
 (hb:w.heap[b]? = some (.cells cur 2 (0,0))) (hcur:cur.size=c) (hv:w.heap[vb]? = some (.cells #[x] 2 (0,0))) (h1v:x.oneCell'=true) :
 Calls Tryz.prog 143 #[.slice (some ⟨b,0,none⟩) n c,.int .i64 n,.slice (some ⟨vb,0,none⟩) 1 1] w fun e w' =>
  e=.returned (.slice (some ⟨b,0,none⟩) (n+1) c)/\w'=w.setCells b n [x]:=by
 have hsrc:Src Tryz.prog 1 58 (.slice (some ⟨vb,0,none⟩) 1 1) 1 [x] w:=Src.ofSlice w fI ⟨vb,0,none⟩ 1 1 [x] rfl (fun j u hj=>by rw [Addr.add_lit,Nat.zero_add];exact bJ (n:=1) hv rfl hj) (by simpa using h1v)
 have hsp:∀ j,j<1->(w.cell? ⟨b,0+n+j,none⟩).isSome=true:=fun j h=>by
  rw [cell_of_row w b _ cur _ (0,0) hb,Array.getElem?_eq_getElem (by omega)];rfl
 have hfz:∀ j,j<1->w.frozen? ⟨b,0+n+j,none⟩=false:=fun j _=>frozen_of_row w b _ cur _ hb
 clear hb hcur hv h1v;go_enter Tryz.func143,Tryz.ntmps143
 go_wp2_with (at_builtin;refine wpList_append_room1 _ rfl _ _ 58 58 rfl 2 _ _ fI oN b 0 n c rfl _ rfl 1 [x] hsrc hroom hsp hfz ?_)
 go_ret;exact ⟨rfl,rfl⟩
theorem Ci (base:Option Addr) (n c vb:Nat) (cs:List Value) (x:Value) (w:World) (hnc:n<=c) (hroom:c<n+1) (hbig:(n+1)*8<=140737488355328)
 (hcl:cs.length=n) (hnil:base=none->n=0) (hcs:∀ a,base=some a->∀ j v,cs[j]? = some v->w.cell? (a.add j)=some v) (hv:w.heap[vb]? = some (.cells #[x] 2 (0,0))) (h1v:x.oneCell'=true) :
 Calls Tryz.prog 143 #[.slice base n c,.int .i64 n,.slice (some ⟨vb,0,none⟩) 1 1] w fun e w' =>
  e=.returned (.slice (some ⟨w.heap.size,0,none⟩) (n+1) (grownCap w (n+1) c 2)) /\
  w'=w.drew.alloc (.cells ((cs++[x]).toArray++Builtin.zeroCells (Value.int .i64 0).cells (grownCap w (n+1) c 2-(n+1))) 2):=by
 obtain ⟨i0,hi0,hz0,hzs,hzb⟩:=info_parts oN
 have hsrc:Src Tryz.prog i0.size 58 (.slice (some ⟨vb,0,none⟩) 1 1) 1 [x] w:=by
  rw [hzs];exact Src.ofSlice w fI ⟨vb,0,none⟩ 1 1 [x] rfl (fun j u hj=>by rw [Addr.add_lit,Nat.zero_add];exact bJ (n:=1) hv rfl hj) (by simpa using h1v)
 have hold:(Builtin.firstCells i0.size n (.slice base n c)).run Tryz.prog w.drew=.ok cs.toArray w.drew:=by
  rw [hzs];cases base with
  | none =>
    have h0:=hnil rfl;subst h0;rw [List.length_eq_zero_iff.1 hcl];exact run_firstCells_none w.drew 1 0 0 c
  | some a=>exact run_firstCells_some w.drew 1 n a n c cs (by omega) (fun j v hj=>hcs a rfl j v hj)
 have hrun:∀ ty,(Builtin.append_ #[58,58] ty #[.slice base n c,.slice (some ⟨vb,0,none⟩) 1 1]).run Tryz.prog w=_:=fun ty =>
  run_append_grow_src w 58 58 ty 2 i0 _ fI hi0 hz0 base n c cs hold _ 1 [x] hsrc hroom (by omega) (by rw [hzb];exact growslice_fits hroom hbig)
 clear hv h1v hcs hold hsrc;go_enter Tryz.func143,Tryz.ntmps143
 cases base with
 | none =>
   have h0:=hnil rfl;subst h0;go_wp2_with (at_builtin;refine Lib.wpList_append_run _ rfl _ _ _ _ rfl _ _ rfl rfl _ _ (hrun _) ?_)
   go_ret;exact ⟨rfl,rfl⟩
 | some a =>
   obtain ⟨ab,ao,asp⟩:=a;go_wp2_with (at_builtin;refine Lib.wpList_append_run _ rfl _ _ _ _ rfl _ _ rfl rfl _ _ (hrun _) ?_)
   all_goals (go_ret;exact ⟨rfl,rfl⟩)
theorem Gy (b n c i vb:Nat) (cur:Array Value) (cs:List Value) (x:Value) (w:World) (hi:i<n) (hnc:n<=c) (hroom:c<n+1) (hbig:(n+1)*8<=140737488355328)
 (hb:w.heap[b]? = some (.cells cur 2 (0,0))) (hcl:cs.length=n) (ht:cur.toList.take n=cs) (hv:w.heap[vb]? = some (.cells #[x] 2 (0,0))) (h1c:∀ v∈cs,v.oneCell'=true) (h1v:x.oneCell'=true) :
 Calls Tryz.prog 143 #[.slice (some ⟨b,0,none⟩) n c,.int .i64 i,.slice (some ⟨vb,0,none⟩) 1 1] w fun e w' =>
  e=.returned (.slice (some ⟨w.heap.size,0,none⟩) (n+1) (grownCap w (n+1) c 2)) /\
  w'=(((w.alloc (.cells ((cs.take i).toArray++Builtin.zeroCells (Value.int .i64 0).cells (n+1-i)++Builtin.zeroCells (Value.int .i64 0).cells (grownCap w (n+1) c 2-(n+1))) 2)).drew.setCells w.heap.size i [x]).drew).setCells w.heap.size (i+1) (cs.drop i):=by
 have hcs:∀ j v,cs[j]? = some v->w.cell? ⟨b,j,none⟩=some v:=fun j v h=>bJ hb ht h
 have hvs:∀ j v,[x][j]? = some v->w.cell? ⟨vb,j,none⟩=some v:=fun j v h=>bJ (n:=1) hv rfl h
 obtain ⟨i0,hi0,hz0,hzs,hzb⟩:=info_parts oN;have hz2:¬ ((i:Int)=(n:Int)):=by omega
 have hz3:(c:Int)<(n:Int)+1:=by omega
 have hsz:(Tryz.prog.info? 2).map (·.size)=some 1:=by rw [hi0];simp [hzs]
 have hbw:b<w.heap.size:=lt_of_block hb;have hvw:vb<w.heap.size:=lt_of_block hv;have hkk:(n:Int)+1-(i:Int)=((n+1-i:Nat):Int):=by omega
 have hik:i+(n+1-i)=n+1:=by omega
 have hold:(Builtin.firstCells i0.size i (.slice (some ⟨b,0,none⟩) i c)).run Tryz.prog w.drew=.ok (cs.take i).toArray w.drew:=by
  rw [hzs]
  exact run_firstCells_some w.drew 1 i ⟨b,0,none⟩ i c (cs.take i) (by rw [List.length_take];omega) (fun j v hj=>by
   rw [Addr.add_lit,Nat.zero_add];rw [List.getElem?_take] at hj;split at hj
   · exact hcs j v hj
   · cases hj)
 have hrz:∀ ty,(Builtin.append_ #[58,3] ty #[.slice (some ⟨b,0,none⟩) i c,.int .i64 ((n:Int)+1-(i:Int))]).run Tryz.prog w =
  .ok (.slice (some ⟨w.heap.size,0,none⟩) (n+1) (grownCap w (n+1) c 2)) (w.drew.alloc (.cells ((cs.take i).toArray++Builtin.zeroCells (Value.int .i64 0).cells (n+1-i)++Builtin.zeroCells (Value.int .i64 0).cells (grownCap w (n+1) c 2-(n+1))) 2)):=fun ty=>by
  have h:=Lib.run_append_grow_zeros w 58 3 ty 2 i0 _ .i64 .i64 fI Jf hi0 hz0 (some ⟨b,0,none⟩) i c (cs.take i) hold (n+1-i) (by omega) (by omega) (by omega) (by omega) (by rw [hzb];omega) (by rw [hzb,hik];exact growslice_fits hroom hbig);rw [hik] at h;rw [hkk];exact h
 obtain ⟨G,hG⟩:∃ G,G=grownCap w (n+1) c 2:=⟨_,rfl⟩;obtain ⟨ROW,hROW⟩:∃ ROW:Array Value,ROW=(cs.take i).toArray++Builtin.zeroCells (Value.int .i64 0).cells (n+1-i)++Builtin.zeroCells (Value.int .i64 0).cells (G-(n+1)):=⟨_,rfl⟩;rw [<- hG] at hrz |-
 rw [<- hROW] at hrz |-
 have hRl:n+1<=ROW.size:=by
  rw [hROW];simp [Builtin.zeroCells,Value.cells];omega
 obtain ⟨W1,hW1⟩:∃ W1,W1=w.drew.alloc (.cells ROW 2):=⟨_,rfl⟩;rw [<- hW1] at hrz
 have hN:∀ j,j<n+1->(W1.cell? ⟨w.heap.size,j,none⟩).isSome=true:=fun j hj=>by
  rw [hW1,World.cell?_alloc_at (w:=w.drew) ROW _ w.heap.size j rfl,Array.getElem?_eq_getElem (by omega)];rfl
 have hNf:∀ j,W1.frozen? ⟨w.heap.size,j,none⟩=false:=fun j=>by rw [hW1];exact World.frozen?_alloc_at (w:=w.drew) ROW _ w.heap.size j rfl
 have hOb:∀ j v,w.cell? ⟨b,j,none⟩=some v->W1.cell? ⟨b,j,none⟩=some v:=fun j v h=>by rw [hW1,World.cell?_alloc_past (w:=w.drew) _ b j hbw];exact h
 have hOv:∀ j v,w.cell? ⟨vb,j,none⟩=some v->W1.cell? ⟨vb,j,none⟩=some v:=fun j v h=>by rw [hW1,World.cell?_alloc_past (w:=w.drew) _ vb j hvw];exact h
 have hcpA:∀ (W:World),(∀ x,W.cell? x=W1.cell? x)->(∀ x,W.frozen? x=W1.frozen? x)->∀ ty dc,(Builtin.copy_ #[58,58] ty #[.slice (some ⟨w.heap.size,i,none⟩) (n+1-i) dc,.slice (some ⟨vb,0,none⟩) 1 1]).run Tryz.prog W=.ok (goInt [x].length) (W.setCells w.heap.size i [x]):=fun W hWc hWf ty dc =>
  run_copy_cells W _ _ ty 2 w.heap.size i (n+1-i) dc ⟨vb,0,none⟩ 1 1 [x] fI hsz (by simp only [List.length_singleton,Nat.min_def];split <;> omega)
   (fun j v hj=>by rw [Addr.add_lit,Nat.zero_add,hWc];exact hOv _ v (hvs j v hj))
   (fun j hj=>by rw [hWc];exact hN _ (by simp at hj;omega)) (fun j hj=>by rw [hWf];exact hNf _) (by simpa using h1v)
 have hGn:n+1<=G:=by rw [hG];exact grownCap_ge w _ _ _
 have hG63:G<=9223372036854775807:=by
  have:=grownCap_le_maxLen w (n+1) c 2 (by unfold maxLen;omega);rw [<- hG] at this;unfold maxLen at this;omega
 have hGi:¬ (G=i):=by omega
 have hGim:¬ (G=i+1):=by omega
 have hci:¬ (c=i):=by omega
 have hbN:b ≠ w.heap.size:=by omega
 have hdl:(cs.drop i).length=n-i:=by rw [List.length_drop,hcl]
 have hcpB:∀ (W:World),(∀ y,W.cell? y=(W1.setCells w.heap.size i [x]).cell? y)->(∀ y,W.frozen? y=(W1.setCells w.heap.size i [x]).frozen? y)->∀ ty dc sc,(Builtin.copy_ #[58,58] ty #[.slice (some ⟨w.heap.size,i+1,none⟩) (n-i) dc,.slice (some ⟨b,i,none⟩) (n-i) sc]).run Tryz.prog W=.ok (goInt (cs.drop i).length) (W.setCells w.heap.size (i+1) (cs.drop i)):=fun W hWc hWf ty dc sc =>
  run_copy_cells W _ _ ty 2 w.heap.size (i+1) (n-i) dc ⟨b,i,none⟩ (n-i) sc (cs.drop i) fI hsz (by rw [hdl];simp only [Nat.min_def];split <;> omega)
   (fun j v hj=>by
    rw [Addr.add_lit,hWc,World.cell?_setCells_out _ _ _ _ _ (fun h _=>absurd h hbN)];exact hOb _ v (hcs (i+j) v (by rwa [List.getElem?_drop] at hj)))
   (fun j hj=>by rw [hWc];exact isSome_setCells _ [x] i W1 (fun t ht=>hN _ (by simp at ht;omega)) _ (hN _ (by omega)))
   (fun j hj=>by rw [hWf,World.frozen?_setCells];exact hNf _) (fun v hv=>h1c v (List.mem_of_mem_drop hv))
 subst hW1;have hE1:∀ x,((w.alloc (.cells ROW 2)).drew).cell? x=(w.drew.alloc (.cells ROW 2)).cell? x:=fun x=>rfl
 have hE2:∀ x,((w.alloc (.cells ROW 2)).drew).frozen? x=(w.drew.alloc (.cells ROW 2)).frozen? x:=fun x=>rfl
 have hF1:∀ y,(((w.alloc (.cells ROW 2)).drew.setCells w.heap.size i [x]).drew).cell? y=((w.drew.alloc (.cells ROW 2)).setCells w.heap.size i [x]).cell? y:=fun y=>rfl
 have hF2:∀ y,(((w.alloc (.cells ROW 2)).drew.setCells w.heap.size i [x]).drew).frozen? y=((w.drew.alloc (.cells ROW 2)).setCells w.heap.size i [x]).frozen? y:=fun y=>rfl
 have hw1:IntKind.i64.wrap ((i:Int)+1)=(i:Int)+1:=by rw [IntKind.wrap_i64];omega
 have hb1:(0:Int)<=(i:Int)+1:=by omega
 have hin:i<=n:=by omega
 have htn:((i:Int)+1).toNat=i+1:=by omega
 have hb3:(i:Int)<=(n:Int):=by omega
 have hb5:(i:Int)<=(n:Int)+1:=by omega
 clear hkk hik hold hROW hG hRl hb ht hv h1c h1v hcs hvs hN hNf hOb hOv;go_enter Tryz.func143,Tryz.ntmps143
 go_wp2_with (first
  | (at_builtin;refine Lib.wpList_append_run _ rfl _ _ _ _ rfl _ _ rfl rfl _ _ (hrz _) ?_)
  | (at_builtin;refine wpList_copy_runI _ rfl _ _ 58 58 rfl _ _ rfl rfl (hcpA _ hE1 hE2 _ _) ?_)
  | (at_builtin;refine wpList_copy_runI _ rfl _ _ 58 58 rfl _ _ rfl rfl (hcpB _ (fun _=>rfl) (fun _=>rfl) _ _ _) ?_))
 go_region_law (refine step_copy_runI rfl _ _ 58 58 rfl (.slice (some ⟨w.heap.size,i+1,none⟩) (n-i) (G-(i+1))) (.slice (some ⟨b,i,none⟩) (n-i) (c-i)) (by simp [Act.eval,Act.put]) (by simp [Act.eval,Act.put]) (hcpB _ hF1 hF2 3 (G-(i+1)) (c-i)) ?_)
 go_wp2
 go_ret;exact ⟨rfl,rfl⟩
theorem Od (v:Value) (n i vb:Nat) (xs:List Value) (x:Value) (w:World) (hn:n<=1000000) (hi:i<=n) (ho:w.ownsRow 0 2 1 v n xs) (hv:w.heap[vb]? = some (.cells #[x] 2 (0,0))) (hne:v.ownBlock ≠ some vb)
 (h1c:∀ u∈xs,u.oneCell'=true) (h1v:x.oneCell'=true) :
 Calls Tryz.prog 143 #[v,.int .i64 i,.slice (some ⟨vb,0,none⟩) 1 1] w fun e w'=>e9 w w' 2 v (xs.take i++x::xs.drop i) e:=by
 rcases eF ho with ⟨rfl,rfl,rfl⟩ | ⟨g,cap,cur,rfl,hob,hg,hnc,hm,hs,ht,hx,_⟩
 · obtain rfl:i=0:=by omega
   refine (Ci none 0 0 vb [] x w (Nat.le_refl _) (by omega) (by omega) rfl (fun _=>rfl) (fun a h=>by cases h) hv h1v).mono fun e w' ⟨he,hw⟩=>?_
   subst hw;exact iP (xs:=[]) rfl (grownCap_ge w (0+1) 0 2) (grownCap_le_maxLen w (0+1) 0 2 (by unfold maxLen;omega)) (by simp [Builtin.zeroCells,Value.cells]) e he
 · have hne':vb ≠ g:=fun h=>hne (by rw [hob,h])
   have hm':cap<=9223372036854775807:=by unfold maxLen at hm;omega
   by_cases hr:n+1<=cap
   · by_cases hin:i=n
     · subst hin
       refine (Gx g i cap vb cur x w hr hm' hg hs hv h1v).mono fun e w' ⟨he,hw⟩=>?_
       subst hw;exact l8 hg hs ht hx hr hm e he
     · refine (DI g n cap i vb cur xs x w (by omega) hr hm' hne' hg hs hx ht hv h1c h1v).mono fun e w' ⟨he,hw⟩=>?_
       subst hw;exact kF hg hs ht hx (by omega) hr hm e he
   · have hG1:=grownCap_ge w (n+1) cap 2
     have hG2:=grownCap_le_maxLen w (n+1) cap 2 (by unfold maxLen;omega);by_cases hin:i=n
     · subst hin
       refine (Ci (some ⟨g,0,none⟩) i cap vb xs x w hnc (by omega) (by omega) hx (fun h=>by cases h) (fun a ha j u hj=>by cases ha;rw [Addr.add_lit,Nat.zero_add];exact bJ hg ht hj) hv h1v).mono fun e w' ⟨he,hw⟩=>?_
       subst hw;exact iP hx hG1 hG2 (by simp [Builtin.zeroCells,Value.cells]) e he
     · refine (Gy g n cap i vb cur xs x w (by omega) hnc (by omega) (by omega) hg hx ht hv h1c h1v).mono fun e w' ⟨he,hw⟩=>?_
       subst hw;exact l9 hx (by omega) hG1 hG2 (by simp [Builtin.zeroCells,Value.cells]) (by simp [Builtin.zeroCells,Value.cells]) e he
end
section
open Go.RowKit Go.Lib
theorem GZ:(Tryz.prog.info? 2).map (fun i=>(i.zero,i.size,i.bytes))=some (some (Value.int .i64 0),1,8):=by kernel_rfl
theorem Cp:Tryz.prog.underlying 58=some (.slice 2):=by kernel_rfl
theorem GW (w:World):(zeroValue 2).run Tryz.prog w=.ok (Value.int .i64 0) w:=by kernel_rfl
theorem GX (g n cap i:Nat) (cur:Array Value) (xs:List Value) (w:World) (hi:i<n) (hn:n<=cap) (_:cap<=9223372036854775807)
 (hg:w.heap[g]? = some (.cells cur 2 (0,0))) (hs:cur.size=cap) (hx:xs.length=n) (ht:cur.toList.take n=xs) (h1:∀ v∈xs,v.oneCell'=true) :
 Calls Tryz.prog 144 #[.slice (some ⟨g,0,none⟩) n cap,.int .i64 i,.int .i64 ((i:Int)+1)] w fun e w' =>
  e=.returned (.slice (some ⟨g,0,none⟩) (n-1) cap)/\w'=(w.drew.setCells g i (xs.drop (i+1))).setCells g (n-1) [Value.int .i64 0]:=by
 obtain ⟨i0,hi0,hz0,hz1,hz2⟩:=info_parts GZ;obtain ⟨news,hnews⟩:∃ news,news=xs.drop (i+1):=⟨_,rfl⟩;have hlen:news.length=n-(i+1):=by rw [hnews,List.length_drop,hx]
 have hcs:∀ j v,xs[j]? = some v->w.cell? ⟨g,j,none⟩=some v:=fun j v h=>bJ hg ht h
 have hsp:∀ j,j<cap->(w.cell? ⟨g,j,none⟩).isSome=true:=fun j h=>by
  rw [cell_of_row w g j cur _ (0,0) hg,Array.getElem?_eq_getElem (by omega)];rfl
 have hfz:∀ j,w.frozen? ⟨g,j,none⟩=false:=fun j=>frozen_of_row w g j cur _ hg
 obtain ⟨A,hA,hsrc⟩:∃ A:Addr,(if cap=i+1 then some (⟨g,0,none⟩:Addr) else some ⟨g,i+1,none⟩)=some A/\Hid (∀ t u,news[t]? = some u->w.drew.cell? (A.add t)=some u):=by
  by_cases h:cap=i+1
  · refine ⟨⟨g,0,none⟩,by simp [h],fun t u hu=>?_⟩
    have h0:news.length=0:=by rw [hlen];omega
    rw [List.length_eq_zero_iff.1 h0] at hu;simp at hu
  · refine ⟨⟨g,i+1,none⟩,by simp [h],fun t u hu=>?_⟩
    rw [hnews,List.getElem?_drop] at hu;rw [Addr.add_lit];exact hcs _ _ hu
 have s1:Hid (news.length=(n-(i+1))*1):=by rw [Nat.mul_one];exact hlen
 have s2:Hid (∀ u∈news,u.oneCell'=true):=fun u hu=>h1 u (by rw [hnews] at hu;exact List.mem_of_mem_drop hu)
 have s3:Hid (∀ t,t<news.length->(w.drew.cell? ⟨g,0+i*1+t,none⟩).isSome=true/\w.drew.frozen? ⟨g,0+i*1+t,none⟩=false):=fun t ht=>by
  rw [hlen] at ht;exact ⟨hsp _ (by omega),hfz _⟩
 obtain ⟨W1,hW1⟩:∃ W1,W1=w.drew.setCells g (0+i*1) news:=⟨_,rfl⟩
 have hsp1:∀ j,j<cap->(W1.cell? ⟨g,j,none⟩).isSome=true:=fun j hj=>by
  rw [hW1];obtain ⟨c1,q1,t1⟩:=aN g 2 news (0+i*1) w.drew cur hg (by omega);rw [cell_of_row _ g j c1 _ (0,0) q1,Array.getElem?_eq_getElem (by rw [<- Array.length_toList,t1];simp [List.length_take];omega)];rfl
 have hfz1:∀ j,W1.frozen? ⟨g,j,none⟩=false:=fun j=>by rw [hW1,World.frozen?_setCells];exact hfz j
 have e1:n-(i+(n-(i+1)))=1:=by omega
 have hcl:∀ ty,(Builtin.clear_ #[58] ty #[.slice (some ⟨g,i+(n-(i+1)),none⟩) (n-(i+(n-(i+1)))) (cap-(i+(n-(i+1))))]).run Tryz.prog W1=.ok (.tuple #[]) (W1.setCells g (i+(n-(i+1))) (List.replicate (n-(i+(n-(i+1)))) (Value.int .i64 0))) :=
  fun ty=>Lib.run_clear_slice W1 _ _ ty _ Cp GW rfl rfl g (i+(n-(i+1))) _ _ (by omega) (fun t ht=>hsp1 _ (by omega)) (fun t ht=>hfz1 _)
 have X:Hid (W1=w.drew.setCells g i news):=by
  show W1=_;rw [hW1,Nat.zero_add,Nat.mul_one]
 have hW:Hid (W1=w.drew.setCells g (0+i*1) news):=hW1;have N:Hid (news=xs.drop (i+1)):=hnews;have hic:i<=cap:=by omega
 have hjc:i+1<=cap:=by omega
 have hb1:(0:Int)<=(i:Int)+1:=by omega
 have hb2:(i:Int)+1<=(n:Int):=by omega
 have E1:Hid (n-(i+(n-(i+1)))=1):=e1;clear e1 hW1 hsp hsp1 hfz hfz1 hcs hnews hlen hg hs hx ht h1;go_enter Tryz.func144,Tryz.ntmps144
 go_wp2_with fail
 go_region_law (refine step_append_room rfl (.tmp 22) (.tmp 25) 58 rfl 2 i0 1 Cp hi0 hz1 g 0 i cap (by simp [Act.eval,Act.put]) A (n-(i+1)) (cap-(i+1)) news (by simp [Act.eval,Act.put]) s1.out hsrc.out s2.out (by omega) s3.out ?_;rw [<- hW.out])
 go_wp2
 go_ret;refine ⟨by rw [show n-1=i+(n-(i+1)) by omega];rfl,?_⟩;rw [E1.out,X.out,N.out,show n-1=i+(n-(i+1)) by omega];rfl
theorem Oh (v:Value) (n i:Nat) (xs:List Value) (w:World) (hn:n<=1000000) (hi:i<n) (ho:w.ownsRow 0 2 1 v n xs) (h1:∀ u∈xs,u.oneCell'=true) :
 Calls Tryz.prog 144 #[v,.int .i64 i,.int .i64 ((i:Int)+1)] w fun e w'=>AI w w' 2 v (xs.eraseIdx i) e:=by
 rcases eF ho with ⟨rfl,rfl,rfl⟩ | ⟨g,cap,cur,rfl,hob,hg,hnc,hm,hs,ht,hx,_⟩
 · omega
 · refine (GX g n cap i cur xs w hi hnc (by unfold maxLen at hm;omega) hg hs hx ht h1).mono fun e w' ⟨he,hw⟩=>?_
   subst hw;exact LR hg hs ht hx hi hnc hm e he
theorem L6 (x:Int) (w:World):Calls Tryz.prog 233 #[.int .i64 x] w fun e w'=>e=.returned (.bool false)/\w=w':=by
 go_enter Tryz.func233,Tryz.ntmps233
 go_wp2
 go_ret;exact ⟨by simp,rfl⟩
theorem qL (x:Int) (w:World):Calls Tryz.prog 193 #[.int .i64 x] w fun e w'=>e=.returned (.bool false)/\w=w':=by
 go_enter Tryz.func193,Tryz.ntmps193
 go_wp2
 go_ret;exact ⟨by simp,rfl⟩
theorem Mj (x y:Int) (b:Bool) (h:lsL x y=b) (w:World):Calls Tryz.prog 192 #[.int .i64 x,.int .i64 y] w fun e w'=>e=.returned (.bool b)/\w=w':=by
 subst h;go_enter Tryz.func192,Tryz.ntmps192
 go_wp2_with (go_at_call 233;refine (L6 _ _).mono ?_;rintro e w' ⟨rfl,rfl⟩)
 go_ret;exact ⟨rfl,rfl⟩
theorem Og {ks:List Int} (hr:aS lsL ks) {x y:Int} {p:Nat} (hp:pos lsL ks x=p) (hy:ks[p]? = some y) (b:Bool) (hb:decide (y=x)=b):b=has ks x:=by
 rw [sM fL hr hp hy,hb]
/-- At a row that rises, of at least one element. -/
theorem zU (g n cap:Nat) (ks:List Int) (x:Int) (w:World) (hn:n<=1000000) (hl:ks.length=n) (hr:aS lsL ks) (hc:∀ j v,(ks.map (Value.int .i64))[j]? = some v->w.cell? ⟨g,j,none⟩=some v) :
 Calls Tryz.prog 142 #[.slice (some ⟨g,0,none⟩) n cap,.int .i64 x] w fun e w' =>
  e=.returned (.tuple #[.int .i64 (pos lsL ks x:Nat),.bool (has ks x)])/\∃ q,w'=w.drewN q:=by
 have hS:=pK fL hr x;rw [hl] at hS;obtain ⟨I,hI⟩:∃ I,pos lsL ks x=I:=⟨_,rfl⟩;obtain ⟨B,hB⟩:∃ B,B=has ks x:=⟨_,rfl⟩;have hIn:I<=n:=by rw [<- hI, <- hl];exact pO _ _
 rw [hI] at hS;rw [hI, <- hB];have HE:=aA (p:=∀ y b,ks[I]? = some y->decide (y=x)=b->b=B) (fun y b hy hb=>by rw [hB];exact Og hr hI hy b hb);have HN:=aA (p:=n<=I->false=B) (fun h=>by rw [hB];exact (pV fL hr hI (by omega)).symm);have HC:=aA (p:=∀ t,t<n->w.cell? ⟨g,t,none⟩=some (.int .i64 (ks.getD t x))) (fun t ht=>hc t _ (by rw [List.getElem?_map,List.getD_eq_getElem?_getD,List.getElem?_eq_getElem (by omega)];rfl));have HG:=aA (p:=∀ t,t<n->ks[t]? = some (ks.getD t x)) (fun t ht=>by rw [List.getD_eq_getElem?_getD,List.getElem?_eq_getElem (by omega)];rfl);have HS:=aA hS;clear hS hI hB hc hr hl;go_enter Tryz.func142,Tryz.ntmps142
 go_wp2
 go_loopg [7,8] n (fun g s7 s8 wr=>∃ lo hi q:Nat,s7=.int .i64 lo/\s8=.int .i64 hi/\lo<=hi/\hi<=n/\hi-lo<=g/\wr=w.drewN q/\Hid (Lib.bsGo (fun t=>lsL (ks.getD t x) x) g lo hi=I))
 case atStart=>exact ⟨0,n,0,rfl,rfl,Nat.zero_le _,Nat.le_refl _,by omega,rfl,HS⟩
 case round =>
  obtain ⟨lo,hi,q,rfl,rfl,hlh,hin,hg,rfl,hb⟩:=hrel;by_cases hlt:lo<hi
  · have cm:=HC.out ((lo+hi) / 2) (by omega)
    obtain ⟨g',rfl⟩:∃ g',gk=g'+1:=⟨gk-1,by omega⟩;have hb1:=hb.out;clear hb;simp only [Lib.bsGo,hlt,if_true] at hb1;obtain ⟨y,hy⟩:∃ y,ks.getD ((lo+hi) / 2) x=y:=⟨_,rfl⟩;rw [hy] at cm;simp only [hy] at hb1;clear hy;cases hyx:lsL y x <;> simp only [hyx,if_true,Bool.false_eq_true,if_false] at hb1
    · have HB:=aA hb1
      have HY:=aA hyx;clear hb1 hyx;go_wp2_with (first | (go_at_call 192;refine (Mj _ _ _ HY.out _).mono ?_;rintro e w' ⟨rfl,rfl⟩) | (go_at_call 193;refine (qL _ _).mono ?_;rintro e w' ⟨rfl,rfl⟩))
      go_roundg ((lo+hi) / 2-lo)
      case measure=>omega
      case rel=>exact ⟨lo,(lo+hi) / 2,_,rfl,by rw [show ((lo:Int)+(hi:Int)) / 2=(((lo+hi) / 2:Nat):Int) by omega],by omega,by omega,Nat.le_refl _,rfl,aA (by rw [<- HB.out];exact Lib.bsGo_fuel _ _ _ _ _ (Nat.le_refl _) (by omega))⟩
    · have HB:=aA hb1
      have HY:=aA hyx;clear hb1 hyx;go_wp2_with (first | (go_at_call 192;refine (Mj _ _ _ HY.out _).mono ?_;rintro e w' ⟨rfl,rfl⟩) | (go_at_call 193;refine (qL _ _).mono ?_;rintro e w' ⟨rfl,rfl⟩))
      go_roundg (hi-((lo+hi) / 2+1))
      case measure=>omega
      case rel=>exact ⟨(lo+hi) / 2+1,hi,_,by rw [show ((lo:Int)+(hi:Int)) / 2+1=(((lo+hi) / 2+1:Nat):Int) by omega],rfl,by omega,hin,Nat.le_refl _,rfl,aA (by rw [<- HB.out];exact Lib.bsGo_fuel _ _ _ _ _ (Nat.le_refl _) (by omega))⟩
  · obtain rfl:hi=lo:=by omega
    obtain rfl:hi=I:=by
     rw [<- hb.out];cases gk <;> simp [Lib.bsGo]
    clear hb HS;by_cases hn:hi<n
    · have cl:=HC.out hi hn
      have hy:=HG.out hi hn;obtain ⟨y,hyd⟩:∃ y,ks.getD hi x=y:=⟨_,rfl⟩;rw [hyd] at cl hy;clear hyd;have HY:=aA hy;clear hy;by_cases hyx:y=x
      · subst hyx
        have HB:=HE.out y true HY.out (by simp);subst HB;clear HE HN HC HG;go_wp2_with (first | (go_at_call 193;refine (qL _ _).mono ?_;rintro e w' ⟨rfl,rfl⟩))
        go_ret2;exact ⟨rfl,_,rfl⟩
      · have hne:(y == x)=false:=by simpa using hyx
        have HB:=HE.out y false HY.out (by simpa using hyx);subst HB;have HX:=aA hyx;clear HE HN HC HG hyx;go_wp2_with (first | (go_at_call 193;refine (qL _ _).mono ?_;rintro e w' ⟨rfl,rfl⟩))
        all_goals (go_ret2;exact ⟨rfl,_,rfl⟩)
    · have HB:=HN.out (by omega)
      subst HB;clear HE HN HC HG;go_wp2_with (first | (go_at_call 193;refine (qL _ _).mono ?_;rintro e w' ⟨rfl,rfl⟩))
      go_ret2;exact ⟨rfl,_,rfl⟩
theorem zV (x:Int) (w:World) :
 Calls Tryz.prog 142 #[.slice none 0 0,.int .i64 x] w fun e w'=>e=.returned (.tuple #[.int .i64 (0:Nat),.bool false])/\w'=w:=by
 go_enter Tryz.func142,Tryz.ntmps142
 go_wp2
 go_loop [7,8] (fun s7 s8=>s7=.int .i64 0/\s8=.int .i64 0) (fun _ _=>0)
 case atStart=>exact ⟨rfl,rfl⟩
 case round =>
  obtain ⟨rfl,rfl⟩:=hrel;go_wp2
  go_ret2;exact ⟨rfl,rfl⟩
theorem Kr (v:Value) (n:Nat) (ks:List Int) (x:Int) (w:World) (hn:n<=1000000) (ho:w.ownsRow 0 2 1 v n (ks.map (Value.int .i64))) (hr:aS lsL ks) :
 Calls Tryz.prog 142 #[v,.int .i64 x] w fun e w' =>
  e=.returned (.tuple #[.int .i64 (pos lsL ks x:Nat),.bool (has ks x)])/\∃ q,w'=w.drewN q:=by
 rcases eF ho with ⟨rfl,rfl,hx⟩ | ⟨g,cap,cur,rfl,hob,hg,hnc,hm,hs,ht,hx,_⟩
 · obtain rfl:ks=[]:=List.map_eq_nil_iff.1 hx
   refine (zV x w).mono fun e w' ⟨he,hw⟩=>⟨he,0,hw⟩
 · exact zU g n cap ks x w hn (by simpa using hx) hr (fun j v hj=>bJ hg ht hj)
def fF (most:Nat) (ks:List Int) (n:Int):List Int:=if has ks n=true then ks else (eD lsL ks n).drop ((eD lsL ks n).length-most)
theorem Bs {ks:List Int} {n:Int} (h:¬ has ks n=true):eD lsL ks n=ks.take (pos lsL ks n)++n::ks.drop (pos lsL ks n):=by unfold eD;rw [if_neg h]
theorem Ev (ks:List Int) (x:Int):pos lsL ks x<=ks.length:=by
 unfold pos;exact (List.takeWhile_sublist _).length_le
theorem qO {ks:List Int} {n:Int} (h:¬ has ks n=true):(eD lsL ks n).length=ks.length+1:=by
 rw [Bs h,List.length_append,List.length_cons,List.length_take,List.length_drop];have:=Ev ks n;omega
theorem Bl {l:List Int} (h:aS lsL l) (k:Nat):aS lsL (l.drop k):=List.Pairwise.sublist (List.drop_sublist k l) h
theorem Aj {most:Nat} {ks:List Int} (h:aS lsL ks) (n:Int):aS lsL (fF most ks n):=by
 unfold fF;split
 · exact h
 · exact Bl (dN fL h n) _
theorem Gg {most:Nat} {ks:List Int} (h:ks.length<=most) (n:Int):(fF most ks n).length<=most:=by
 unfold fF;split
 · exact h
 · rw [List.length_drop];omega
def iN (k:Nat) (l:List Int):List Int:=l.drop (l.length-k)
theorem yS (k:Nat) (l:List Int):(iN k l).length=min k l.length:=by unfold iN;rw [List.length_drop];omega
theorem j7 {k:Nat} {l:List Int} (h:l.length<=k):iN k l=l:=by unfold iN;rw [show l.length-k=0 by omega,List.drop_zero]
theorem jI {a b:List Int}:aS lsL (a++b) ↔ aS lsL a/\aS lsL b/\∀ x∈a,∀ y∈b,x<y:=by
 unfold aS;rw [List.pairwise_append];constructor
 · rintro ⟨h1,h2,h3⟩
   exact ⟨h1,h2,fun x hx y hy=>by have:=h3 x hx y hy;simpa [lsL] using this⟩
 · rintro ⟨h1,h2,h3⟩
   exact ⟨h1,h2,fun x hx y hy=>by have:=h3 x hx y hy;simpa [lsL] using this⟩
theorem sE {k:Nat} {a c:List Int} (h:k<=c.length):iN k (a++c)=iN k c:=by
 unfold iN;rw [List.length_append,show a.length+c.length-k=a.length+(c.length-k) by omega,List.drop_append,List.drop_of_length_le (by omega),List.nil_append];congr 1
 omega
theorem Bu (b:List Int) (n:Int):b.length<=(eD lsL b n).length:=by
 by_cases h:has b n=true
 · unfold eD;rw [if_pos h];exact Nat.le_refl _
 · rw [qO h];omega
theorem Kw {a b:List Int} (h:aS lsL (a++b)) {n y:Int} (hy:y∈b) (hn:y<=n):eD lsL (a++b) n=a++eD lsL b n:=by
 obtain ⟨h1,h2,h3⟩:=jI.1 h;refine pL fL (dN fL h n) (jI.2 ⟨h1,dN fL h2 n,fun x hx z hz=>?_⟩) (fun x=>?_)
 · rcases (jO b n z).1 hz with hz | rfl
   · exact h3 x hx z hz
   · have:=h3 x hx y hy;omega
 · rw [jO,List.mem_append,List.mem_append,jO]
   constructor
   · rintro ((h | h) | h)
     · exact .inl h
     · exact .inr (.inl h)
     · exact .inr (.inr h)
   · rintro (h | h | h)
     · exact .inl (.inl h)
     · exact .inl (.inr h)
     · exact .inr h
theorem Bt {a b:List Int} (h:aS lsL (a++b)) {n:Int} (hn:∀ y∈b,n<y):eD lsL (a++b) n=eD lsL a n++b:=by
 obtain ⟨h1,h2,h3⟩:=jI.1 h;refine pL fL (dN fL h n) (jI.2 ⟨dN fL h1 n,h2,fun x hx z hz=>?_⟩) (fun x=>?_)
 · rcases (jO a n x).1 hx with hx | rfl
   · exact h3 x hx z hz
   · exact hn z hz
 · rw [jO,List.mem_append,List.mem_append,jO]
   constructor
   · rintro ((h | h) | h)
     · exact .inl (.inl h)
     · exact .inr h
     · exact .inl (.inr h)
   · rintro ((h | h) | h)
     · exact .inl (.inl h)
     · exact .inr h
     · exact .inl (.inr h)
theorem I2 {l:List Int} (h:aS lsL l) (k:Nat) (n:Int):iN k (eD lsL (iN k l) n)=iN k (eD lsL l n):=by
 by_cases hk:l.length<=k
 · rw [j7 hk]
 obtain ⟨a,b,hab,hb⟩:∃ a b,l=a++b/\b=iN k l:=⟨l.take (l.length-k),_,(List.take_append_drop _ _).symm,rfl⟩;have hbl:b.length=k:=by rw [hb,yS];omega
 rw [<- hb,hab];rw [hab] at h;by_cases hA:∃ y∈b,y<=n
 · obtain ⟨y,hy,hn⟩:=hA
   rw [Kw h hy hn,sE (by rw [<- hbl];exact Bu b n)]
 · have hn:∀ y∈b,n<y:=fun y hy=>by
    by_cases hl:y<=n
    · exact absurd ⟨y,hy,hl⟩ hA
    · omega
   rw [Bt h hn,sE (by omega),j7 (by omega:b.length<=k)];have e:=Bt (a:=[]) (b:=b) (by simpa using (jI.1 h).2.1) hn;rw [List.nil_append] at e;rw [e,sE (by omega),j7 (by omega)]
theorem DE {most:Nat} {ks:List Int} (h:ks.length<=most) (n:Int):fF most ks n=iN most (eD lsL ks n):=by
 unfold fF;by_cases hh:has ks n=true
 · rw [if_pos hh]
   unfold eD;rw [if_pos hh,j7 h]
 · rw [if_neg hh];rfl
theorem Gf (most:Nat) (l:List Int):∀ (ks:List Int),aS lsL ks->l.foldl (fF most) (iN most ks)=iN most (l.foldl (eD lsL) ks):=by
 induction l with
 | nil=>intro ks _;rfl
 | cons n r ih =>
   intro ks h;rw [List.foldl_cons,List.foldl_cons,DE (by rw [yS];omega),I2 h,ih _ (dN fL h n)]
theorem GY (v:Value) (n:Nat) (xs:List Value) (w:World) (hn:n<=1000000) (ho:w.ownsRow 0 2 1 v n xs) :
 Calls Tryz.prog 144 #[v,.int .i64 0,.int .i64 0] w fun e w'=>e=.returned v/\w=w':=by
 rcases eF ho with ⟨rfl,rfl,rfl⟩ | ⟨g,cap,cur,rfl,hob,hg,hnc,hm,hs,ht,hx,_⟩
 · go_enter Tryz.func144,Tryz.ntmps144
   go_wp2_with fail
   go_ret;exact ⟨rfl,rfl⟩
 · have a1:(0:Int)<=(n:Int):=by omega
   have a2:(n:Int)<=(cap:Int):=by omega
   clear ho hob hg hs ht hx;go_enter Tryz.func144,Tryz.ntmps144
   go_wp2_with fail
   go_ret;exact ⟨rfl,rfl⟩
theorem Ew {w:World} {B n:Nat} {e:TypeId} {size:Nat} {v:Value} {xs:List Value} (h:w.ownsRow 0 e size v n xs) (hb:∀ b,v.ownBlock=some b->B<=b):w.ownsRow B e size v n xs:=by
 refine ⟨h.1,?_⟩;rcases h.2 with h2 | ⟨g,cap,cur,h1,h2,h3⟩
 · exact .inl h2
 · exact .inr ⟨g,cap,cur,h1,hb g (by rw [h1];rfl),h3⟩
theorem Cf (l:List Int):∀ u∈l.map (Value.int .i64),u.oneCell'=true:=fun u hu=>by
 obtain ⟨n, -,rfl⟩:=List.mem_map.1 hu;rfl
theorem Gh (B:Nat) (v:Value) (ks:List Int) (n:Int) (most:Nat) (w:World) (hm:1<=most) (hm16:most<=1000) (hk:ks.length<=most) (hr:aS lsL ks) (hB:B<=w.heap.size) (ho:w.ownsRow B 2 1 v ks.length (ks.map (Value.int .i64))) :
 Calls Tryz.prog 90 #[v,.int .i64 n,.int .i64 (most:Nat)] w fun e w'=>∃ v',e=.returned v'/\w'.ownsRow B 2 1 v' (fF most ks n).length ((fF most ks n).map (Value.int .i64))/\aC (fun b=>v.ownBlock=some b) w w':=by
 have o0:=fZ ho (Nat.zero_le B);have SR:=aA (Kr v ks.length ks n w (by omega) o0 hr);have HO:=aA ho;have HR:=aA hr;obtain ⟨av,cv,hv⟩:=eC ho;subst hv;clear o0 ho hr;cases hh:has ks n with
 | true =>
   rw [hh] at SR;have E:=aA (show fF most ks n=ks by unfold fF;rw [if_pos hh]);clear hh;go_enter Tryz.func90,Tryz.ntmps90
   go_wp2_with fail
   refine SR.out.mono ?_;rintro e w1 ⟨rfl,q,rfl⟩;go_wp2_with fail
   go_ret;refine ⟨_,rfl,?_,(aC.refl _ w).drewN q⟩;rw [E.out];exact e7 (row:=none) HO.out ((aC.refl _ w).drewN q) (fun b hb=>by simp)
 | false =>
   rw [hh] at SR;have hh':¬ has ks n=true:=by rw [hh];decide
   have E:=aA (show fF most ks n=(eD lsL ks n).drop ((eD lsL ks n).length-most) by unfold fF;rw [if_neg hh']);have EL:=aA (qO hh');have EM:=aA (show (ks.map (Value.int .i64)).take (pos lsL ks n)++Value.int .i64 n::(ks.map (Value.int .i64)).drop (pos lsL ks n)=(eD lsL ks n).map (Value.int .i64) by rw [Bs hh',List.map_append,List.map_cons,List.map_take,List.map_drop]);have HP:=aA (Ev ks n);obtain ⟨pk,hpk⟩:∃ l,eD lsL ks n=l:=⟨_,rfl⟩;rw [hpk] at E EL EM;obtain ⟨ps,hps⟩:∃ p,pos lsL ks n=p:=⟨_,rfl⟩;rw [hps] at SR HP EM;clear hh hh' hpk hps;go_enter Tryz.func90,Tryz.ntmps90
   go_wp2_with fail
   refine SR.out.mono ?_;rintro e w1 ⟨rfl,q,rfl⟩;have KD:=(aC.refl (fun b=>(Value.slice av ks.length cv).ownBlock=some b) w).drewN q;have o1:=e7 (row:=none) HO.out ((aC.refl (fun i=>(none:Option Nat)=some i) w).drewN q) (fun b hb=>by simp);have hs1:(w.drewN q).heap.size=w.heap.size:=rfl;generalize w.drewN q=W at *;have NB:=heap_alloc_new W (.cells #[.int .i64 n] 2);have BA:=bA0 W (.cells #[.int .i64 n] 2);have o2:=cI o1 BA;have IL:=aA (Od (.slice av ks.length cv) ks.length ps W.heap.size (ks.map (Value.int .i64)) (.int .i64 n) (W.alloc (.cells #[.int .i64 n] 2)) (by omega) HP.out (fZ o2 (Nat.zero_le _)) NB (fun e=>by have:=(o1.lt _ e).2;omega) (Cf ks) rfl);have KA:=aA (KD.trans (aE BA (fun b=>(Value.slice av ks.length cv).ownBlock=some b)) (fun i hi _=>hi));have HLB:=aA (fun b (hb:(Value.slice av ks.length cv).ownBlock=some b)=>(o1.lt b hb));rw [hs1] at IL;clear SR NB BA o1 o2 KD;go_wp2_with fail
   refine IL.out.mono ?_;rintro e w2 ⟨v1,rfl,o3,hg3,hb3⟩;rw [EM.out] at o3;have hlen:(pk.map (Value.int .i64)).length=ks.length+1:=by rw [List.length_map,EL.out]
   rw [hlen] at o3;obtain ⟨a1,c1,hv1⟩:=eC o3;subst hv1;have K3:=aA (KA.out.grown hg3 (fun k hk=>.inl hk))
   have HB1:=aA (show ∀ b,(Value.slice a1 (ks.length+1) c1).ownBlock=some b->B<=b by
    intro b hb;rcases hb3 with hb3 | ⟨b',hb',hle⟩
    · exact (HLB.out b (hb3.symm.trans hb)).1
    · rw [hb'] at hb
      cases hb;rw [World.size_alloc] at hle;omega)
   have HB2:=aA (show ∀ b,(Value.slice a1 (ks.length+1) c1).ownBlock=some b->(Value.slice av ks.length cv).ownBlock=some b\/w.heap.size<=b by
    intro b hb;rcases hb3 with hb3 | ⟨b',hb',hle⟩
    · exact .inl (hb3.symm.trans hb)
    · rw [hb'] at hb
      cases hb;rw [World.size_alloc] at hle;exact .inr (by omega))
   have O3:=aA o3;clear o3 hg3 hb3 IL KA;have m1:((ks.length+1:Nat):Int)=(ks.length:Int)+1:=rfl;by_cases hle:ks.length+1<=most
   · have CD:=aA (GY (.slice a1 (ks.length+1) c1) (ks.length+1) _ w2 (by omega) O3.out)
     have a2:max (0:Int) ((ks.length:Int)+1-(most:Int))=0:=by omega
     have EE:=aA (show fF most ks n=pk by rw [E.out,EL.out,show ks.length+1-most=0 by omega,List.drop_zero]);go_wp2_with fail
     refine CD.out.mono ?_;rintro e w3 ⟨rfl,rfl⟩;go_wp2_with fail
     go_ret;refine ⟨_,rfl,?_,K3.out⟩;rw [EE.out,EL.out];exact Ew O3.out HB1.out
   · have CD:=Oh (.slice a1 (ks.length+1) c1) (ks.length+1) 0 (pk.map (Value.int .i64)) w2 (by omega) (by omega) O3.out (Cf pk)
     have CD2:=aA (show Calls Tryz.prog 144 #[.slice a1 (ks.length+1) c1,.int .i64 0,.int .i64 1] w2 fun e w'=>AI w2 w' 2 (.slice a1 (ks.length+1) c1) ((pk.map (Value.int .i64)).eraseIdx 0) e from CD);have a2:max (0:Int) ((ks.length:Int)+1-(most:Int))=1:=by omega
     have EE:=aA (show fF most ks n=pk.drop 1 by rw [E.out,EL.out,show ks.length+1-most=1 by omega]);clear CD;go_wp2_with fail
     refine CD2.out.mono ?_;rintro e w3 ⟨v2,rfl,o4,hg4,hb4⟩
     have e1:(pk.map (Value.int .i64)).eraseIdx 0=(pk.drop 1).map (Value.int .i64):=by
      cases pk with
      | nil=>rfl
      | cons x r=>rfl
     rw [e1] at o4;have hlen2:((pk.drop 1).map (Value.int .i64)).length=(pk.drop 1).length:=by simp
     rw [hlen2] at o4;have O4:=aA o4;have K4:=aA (K3.out.grown hg4 (fun k hk=>HB2.out k hk));have HB4:=aA (fun b (hb:v2.ownBlock=some b)=>HB1.out b (hb4.symm.trans hb));clear o4 hg4 hb4;go_wp2_with fail
     go_ret;refine ⟨_,rfl,?_,K4.out⟩;rw [EE.out];exact Ew O4.out HB4.out
end
end Go.Proofs.YtgfkjkokmcejbaaGreatDoor
