/-
 No statement: the lifted proof of ProgTwo.
-/
import Derived.Test.YtgfkjkokmcejbaaGreatDoorVT18
import Derived.RangeFuncKeeps
import Derived.Test.YtgfkjkokmcejbaaGreatDoorTie
import Derived.ProofKit
import Derived.OpenShut
import Derived.LaidMore
import Derived.Lay
import Derived.SevenTiedAt
import Derived.Stop.Joined
import Derived.Stop.LaidErr
import Derived.Lib.LaidTab
import Derived.Carry
import Derived.Test.YtgfkjkokmcejbaaGreatDoorCards
import Derived.ShutString
import Derived.ChangeOld
set_option maxHeartbeats 40000000
set_option maxRecDepth 100000
namespace Go.Proofs.YtgfkjkokmcejbaaGreatDoor
section
open Go.RowKit
def Bo (g:ByteArray->Option Int) (c:CD):Bool:=match evT g c.a,evT g c.b with | some x,some y=>(bD c.op x y).getD false | _,_=>false
theorem Ig (g:ByteArray->Option Int) (c:CD) (r:List CD):eD g (c::r)=(Bo g c && eD g r):=rfl
theorem MM (g:ByteArray->Option Int) (c:CD):Bo g c=((evT g c.a).isSome && (evT g c.b).isSome && (bD c.op ((evT g c.a).getD 0) ((evT g c.b).getD 0)).getD false):=by
 unfold Bo;cases evT g c.a with
 | none=>rfl
 | some x=>cases evT g c.b <;> rfl
structure OkE (t:TN):Prop where
 c:aT t=0
 n:dR t.f
 s:SzF t.f
theorem Gd {A:Nat->Wr.AD} {n:Nat} {g:ByteArray->Option Int} (U:mW A n g) (d:CD) (hA:OkE d.a) (hB:OkE d.b) (G:Nat->Prop) (a1:Option Addr) (c1:Nat) (a2:Option Addr) (c2:Nat) (y:Option Addr) (cy:Nat) (w:World)
 (r1:aN G w a1 d.a.ks) (r2:aN G w a2 d.b.ks) (hy:Wr.ReadsA w y n A) :
 Calls Tryz.prog 190 #[cdV d a1 c1 a2 c2,.slice y n cy] w fun e w'=>e=.returned (.bool (Bo g d))/\Below w.heap.size w w':=by
 have B0:=bA0 w (cdX d a1 c1 a2 c2);have N0:=heap_alloc_new w (cdX d a1 c1 a2 c2);generalize hW:w.alloc (cdX d a1 c1 a2 c2)=W at *;have HW:=aA hW;have HB:=aA B0;have HN:=aA N0;have CA:=aA (fun V (hV:Below w.heap.size w V)=>qA U d.a hA.c hA.n hA.s G V a1 c1 y cy (r1.kept hV) (hy.kept hV));have CB:=aA (fun V (hV:Below w.heap.size w V)=>qA U d.b hB.c hB.n hB.s G V a2 c2 y cy (r2.kept hV) (hy.kept hV));obtain ⟨va,hva⟩:∃ v,evT g d.a=v:=⟨_,rfl⟩;obtain ⟨vb,hvb⟩:∃ v,evT g d.b=v:=⟨_,rfl⟩;rw [MM,hva,hvb];rw [hva] at CA;rw [hvb] at CB;obtain ⟨xa,hxa⟩:∃ n,va.getD 0=n:=⟨_,rfl⟩;obtain ⟨xb,hxb⟩:∃ n,vb.getD 0=n:=⟨_,rfl⟩;obtain ⟨za,hza⟩:∃ n,va.isSome=n:=⟨_,rfl⟩;obtain ⟨zb,hzb⟩:∃ n,vb.isSome=n:=⟨_,rfl⟩;rw [hxa,hza] at CA;rw [hxb,hzb] at CB;have HO:=aA (fun V=>xO d.op xa xb V);obtain ⟨zo,hzo⟩:∃ z,(bD d.op xa xb).getD false=z:=⟨_,rfl⟩;obtain ⟨zs,hzs⟩:∃ z,(bD d.op xa xb).isSome=z:=⟨_,rfl⟩;rw [hzo,hzs] at HO;rw [hxa,hza,hxb,hzb,hzo];obtain ⟨r,hr⟩:∃ r,(za && zb && zo)=r:=⟨_,rfl⟩;rw [hr];have HR:=aA hr;obtain ⟨p0,p1,p2,p3,p4,p5,p6,p7,p8⟩:=gT N0;clear hW B0 N0 r1 r2 hy hva hvb hxa hxb hza hzb hzo hzs hr;go_enter Tryz.func190,Tryz.ntmps190
 go_upto_region 1 with fail
 rw [show w.alloc (.cells #[.string d.op,.string d.a.op,.string d.a.nm,.int .i64 d.a.n,.slice a1 d.a.ks.len c1,.string d.b.op,.string d.b.nm,.int .i64 d.b.n,.slice a2 d.b.ks.len c2] 144)=W from HW.out];go_wp2_with fail
 refine (CA.out W HB.out).mono ?_;rintro e w1 ⟨rfl,hb⟩;have HB1:=aA (HB.out.trans (hb.mono HB.out.size));have N1:=aA ((hb.block _ (aK HN.out)).trans HN.out);clear hb CA p0 p1 p2 p3 p4 p5 p6 p7 p8;obtain ⟨p0,p1,p2,p3,p4,p5,p6,p7,p8⟩:=gT N1.out;go_wp2_with fail
 refine (CB.out w1 HB1.out).mono ?_;rintro e w2 ⟨rfl,hb⟩;have HB2:=aA (HB1.out.trans (hb.mono HB1.out.size));have N2:=(hb.block _ (aK N1.out)).trans N1.out;clear hb CB p0 p1 p2 p3 p4 p5 p6 p7 p8;obtain ⟨p0,p1,p2,p3,p4,p5,p6,p7,p8⟩:=gT N2;clear N2;go_wp2_with fail
 refine (HO.out w2).mono ?_;rintro e w3 ⟨rfl,rfl⟩;cases za with
 | false =>
   have TR:=aA (show false=r from HR.out);go_wp2_with fail
   go_ret;exact ⟨congrArg (fun z=>Ending.returned (.bool z)) TR.out,HB2.out⟩
 | true =>
   cases zb with
   | false =>
     have TR:=aA (show false=r from HR.out);go_wp2_with fail
     go_ret;exact ⟨congrArg (fun z=>Ending.returned (.bool z)) TR.out,HB2.out⟩
   | true =>
     have TR:=aA (show zo=r from HR.out);go_wp2_with fail
     go_ret;exact ⟨congrArg (fun z=>Ending.returned (.bool z)) TR.out,HB2.out⟩
theorem two {W:World} {B:Nat} {x0 x1:Value} {t:TypeId} (h:W.heap[B]? = some (.cells #[x0,x1] t (0,0))) :
 (W.cell? ⟨B,0,none⟩=some x0/\W.cell? ⟨B,1,none⟩=some x1)/\W.frozen? ⟨B,0,none⟩=false/\W.frozen? ⟨B,1,none⟩=false:=by
 refine ⟨⟨?_,?_⟩,?_,?_⟩ <;> simp [World.cell?,World.frozen?,h]
theorem pP {W:World} {B:Nat} {x0 x1:Value} {t:TypeId} (h:W.heap[B]? = some (.cells #[x0,x1] t (0,0))) (v0 v1:Value) :
 ((W.setCell ⟨B,0,none⟩ v0).setCell ⟨B,1,none⟩ v1).heap[B]? = some (.cells #[v0,v1] t (0,0)):=by
 have h0:=heap_setCell_same W B 0 _ t v0 h;have g0:(W.setCell ⟨B,0,none⟩ v0).heap[B]? = some (.cells #[v0,x1] t (0,0)):=by simpa using h0
 have h1:=heap_setCell_same _ B 1 _ t v1 g0;simpa using h1
theorem Dg {W:World} {B:Nat} {x0 x1:Value} {t:TypeId} (h:W.heap[B]? = some (.cells #[x0,x1] t (0,0))) (v:Value):(W.setCell ⟨B,0,none⟩ v).heap[B]? = some (.cells #[v,x1] t (0,0)):=by
 have h0:=heap_setCell_same W B 0 _ t v h;simpa using h0
theorem Df {W:World} {B:Nat} {x0 x1:Value} {t:TypeId} (h:W.heap[B]? = some (.cells #[x0,x1] t (0,0))) (v:Value):(W.setCell ⟨B,1,none⟩ v).heap[B]? = some (.cells #[x0,v] t (0,0)):=by
 have h0:=heap_setCell_same W B 1 _ t v h;simpa using h0
abbrev qY (u v:Int):Obj:=.cells #[.int .i64 u,.int .i64 v] 163
abbrev Ic (q:Int×Int):Value:=.agg #[.int .i64 q.1,.int .i64 q.2]
def Fd:Bool->Int->Option Int->Option (Int×Int)
 | true,_,none=>none
 | true,e,some b=>some (e,b)
 | false,e,_=>some (e,0)
def Nx:Bool->Bool->Bool->Option Int->Option Int->Option (Int×Int)
 | false,_,_,_,_=>none
 | true,true,_,none,_=>none
 | true,true,bb,some e,vb=>Fd bb e vb
 | true,false,bb,_,vb=>Fd bb 0 vb
def l5 (x:AG) (g:ByteArray->Option Int):Option (Int×Int):=Nx (eD g x.wh) (eP x.fn.data.toList) (bP x.fn.data.toList) (evT g x.e) (evT g x.g)
def QX (q:Option (Int×Int)) (u v:Int):Prop:=∀ z,q=some z->z=(u,v)
theorem pV (u v:Int):QX none u v:=fun z h=>by cases h
theorem At (u v:Int):QX (some (u,v)) u v:=fun _ h=>(Option.some.inj h).symm
structure TKW (w:World) (x:AG) (p:PA) (V:World):Prop where
 k:KP9 (fun b=>b<w.heap.size) w x p V
 t:V.heap[w.heap.size+1]? = some (ptO (kP x.fn.data.toList) (eP x.fn.data.toList) (bP x.fn.data.toList))
 o:V.heap[w.heap.size+2]? = some (qY 0 0)
theorem TKW.step {w:World} {x:AG} {p:PA} {V V':World} (h:TKW w x p V) (hb:Below V.heap.size V V'):TKW w x p V' :=
 ⟨h.k.step hb,(hb.block _ (aK h.t)).trans h.t,(hb.block _ (aK h.o)).trans h.o⟩
theorem TKW.set {w:World} {x:AG} {p:PA} {V:World} (h:TKW w x p V) {D:Nat} (hD:w.heap.size+3<=D) (i:Nat) (v:Value):TKW w x p (V.setCell ⟨D,i,none⟩ v):=by
 have hk:=(aD.refl (· = D) V).setCell (p:=⟨D,i,none⟩) (.inl rfl) v;exact ⟨⟨h.k.b.trans (hk.below (B:=w.heap.size) (fun b hb=>by omega) h.k.z),Nat.le_trans h.k.z hk.size,hk.heap h.k.n (by omega),h.k.r.keptS hk (fun b hb hg=>by omega)⟩,hk.heap h.t (by omega),hk.heap h.o (by omega)⟩
theorem TKW.put {w:World} {x:AG} {p:PA} {V:World} (h:TKW w x p V) (v0 v1:Value):Below w.heap.size w ((V.setCell ⟨w.heap.size+2,0,none⟩ v0).setCell ⟨w.heap.size+2,1,none⟩ v1) :=
 h.k.b.trans ((((aD.refl (· = w.heap.size+2) V).setCell (p:=⟨w.heap.size+2,0,none⟩) (.inl rfl) v0).setCell (p:=⟨w.heap.size+2,1,none⟩) (.inl rfl) v1).below (B:=w.heap.size) (fun b hb=>by omega) h.k.z)
theorem Nv {w:World} {x:AG} {p:PA} (hr:bC (fun b=>b<w.heap.size) w x p):TKW w x p (((w.alloc (agP x p)).alloc (ptO (kP x.fn.data.toList) (eP x.fn.data.toList) (bP x.fn.data.toList))).alloc (qY 0 0)):=by
 have K:=sX hr;have hs0:(w.alloc (agP x p)).heap.size=w.heap.size+1:=World.size_alloc _ _;generalize w.alloc (agP x p)=W0 at *;have B1:=bA0 W0 (ptO (kP x.fn.data.toList) (eP x.fn.data.toList) (bP x.fn.data.toList));have N1:=heap_alloc_new W0 (ptO (kP x.fn.data.toList) (eP x.fn.data.toList) (bP x.fn.data.toList));have hs1:(W0.alloc (ptO (kP x.fn.data.toList) (eP x.fn.data.toList) (bP x.fn.data.toList))).heap.size=W0.heap.size+1:=World.size_alloc _ _;generalize W0.alloc (ptO (kP x.fn.data.toList) (eP x.fn.data.toList) (bP x.fn.data.toList))=W1 at *;have B2:=bA0 W1 (qY 0 0);have N2:=heap_alloc_new W1 (qY 0 0);rw [hs0] at N1;rw [hs1,hs0] at N2;exact ⟨(K.step B1).step B2,(B2.block _ (by omega)).trans N1,N2⟩
theorem Ih {A:Nat->Wr.AD} {n:Nat} {g:ByteArray->Option Int} (U:mW A n g) (x:AG) (p:PA) (y:Option Addr) (cy:Nat) (w:World) {G:Nat->Prop} (hE:eP x.fn.data.toList=true->OkE x.e) (hG:bP x.fn.data.toList=true->OkE x.g)
 (hC:∀ d∈x.wh,OkE d.a/\OkE d.b) (hl:x.wh.length<=1000) (hr:bC G w x p) (hy:Wr.ReadsA w y n A) :
 Calls Tryz.prog 140 #[agV x p,ptV x.fn.data.toList,.slice y n cy] w fun e w'=>∃ u v,e=.returned (.tuple #[.agg #[.int .i64 u,.int .i64 v],.bool (l5 x g).isSome])/\QX (l5 x g) u v/\Below w.heap.size w w':=by
 have hr':bC (fun b=>b<w.heap.size) w x p:=hr.imp (fun b hb _=>hb);have K0:=Nv hr';have HY:=aA (fun V (hV:Below w.heap.size w V)=>hy.kept hV);have EVE:=aA (fun (he:eP x.fn.data.toList=true) V (rd:aN (fun b=>b<w.heap.size) V p.ea x.e.ks) (ry:Wr.ReadsA V y n A)=>qA U x.e (hE he).c (hE he).n (hE he).s (fun b=>b<w.heap.size) V p.ea p.ec y cy rd ry);have EVG:=aA (fun (he:bP x.fn.data.toList=true) V (rd:aN (fun b=>b<w.heap.size) V p.ga x.g.ks) (ry:Wr.ReadsA V y n A)=>qA U x.g (hG he).c (hG he).n (hG he).s (fun b=>b<w.heap.size) V p.ga p.gc y cy rd ry);have HC:=aA (fun d hd V a1 c1 a2 c2 (r1:aN (fun b=>b<w.heap.size) V a1 d.a.ks) (r2:aN (fun b=>b<w.heap.size) V a2 d.b.ks) (ry:Wr.ReadsA V y n A)=>Gd U d (hC d hd).1 (hC d hd).2 (fun b=>b<w.heap.size) a1 c1 a2 c2 y cy V r1 r2 ry);unfold l5 ptV;have DT:=aA (fun V (h:TKW w x p V)=>h.t);obtain ⟨kk,hkk⟩:∃ b,kP x.fn.data.toList=b:=⟨_,rfl⟩;obtain ⟨ee,hee⟩:∃ b,eP x.fn.data.toList=b:=⟨_,rfl⟩;obtain ⟨bb,hbb⟩:∃ b,bP x.fn.data.toList=b:=⟨_,rfl⟩;rw [hkk,hee,hbb] at DT K0;rw [hee] at EVE;rw [hbb] at EVG;rw [hkk,hee,hbb];obtain ⟨ve,hve⟩:∃ v,evT g x.e=v:=⟨_,rfl⟩;obtain ⟨vb,hvb⟩:∃ v,evT g x.g=v:=⟨_,rfl⟩;rw [hve] at EVE;rw [hvb] at EVG;rw [hve,hvb];obtain ⟨tk,htk⟩:∃ v,eD g x.wh=v:=⟨_,rfl⟩;rw [htk];obtain ⟨q,hq⟩:∃ q,Nx tk ee bb ve vb=q:=⟨_,rfl⟩;rw [hq];have HQ:=aA hq;have T0:=aA (show eD g (x.wh.drop 0)=tk by rw [List.drop_zero];exact htk);generalize hW:((w.alloc (agP x p)).alloc (ptO kk ee bb)).alloc (qY 0 0)=W at K0;have HW:=aA hW;have K1:=aA K0;clear hW K0 hr hr' hy hE hG hC hkk hee hbb hve hvb htk hq
 obtain ⟨m0,m1,m2,m3,m4,m5,m6,m7,m8,m9,m10⟩:=aF K1.out.k.n;go_enter Tryz.func140,Tryz.ntmps140
 go_upto_region 1 with fail
 rw [show ((w.alloc (.cells #[.string x.fn,.int .i64 x.k,.string x.e.op,.string x.e.nm,.int .i64 x.e.n,.slice p.ea x.e.ks.len p.ec,.string x.g.op,.string x.g.nm,.int .i64 x.g.n,.slice p.ga x.g.ks.len p.gc,.slice p.wa x.wh.length p.wc] 70)).alloc (.cells #[.bool kk,.bool ee,.bool bb] 212)).alloc (.cells #[.int .i64 0,.int .i64 0] 163)=W from HW.out];go_wp2_with fail
 clear m0 m1 m2 m3 m4 m5 m6 m7 m8 m9 m10;go_loopw [9,15] (fun v9 i wr=>∃ (k:Nat) (u:Value),v9=u/\i=.int .i64 k/\k<=x.wh.length/\Hid (eD g (x.wh.drop k)=tk)/\Hid (TKW w x p wr)) (fun _ i _=>x.wh.length-(intOf i).toNat)
 case atStart=>exact ⟨0,_,rfl,rfl,Nat.zero_le _,T0,K1⟩
 case round =>
  obtain ⟨k,u,rfl,rfl,hk,HT,HK⟩:=hrel;clear T0 K1;by_cases hlt:k<x.wh.length
  · obtain ⟨d,hd⟩:∃ d,x.wh[k]? = some d:=⟨_,List.getElem?_eq_getElem hlt⟩
    have hne:¬ x.wh=[]:=fun e=>by rw [e] at hlt;simp at hlt
    obtain ⟨b,off,hwa, -,hbl,hcc⟩:=HK.out.k.r.c.resolve_left hne;obtain ⟨a1,c1,a2,c2,⟨p0,p1,p2,p3,p4,p5,p6,p7,p8⟩,r1,r2⟩:=hcc k d hd
    have hdr:x.wh.drop k=d::x.wh.drop (k+1):=by
     rw [List.drop_eq_getElem_cons hlt];have:=List.getElem?_eq_getElem hlt;rw [this] at hd;rw [Option.some.inj hd]
    have HD:=aA (show (Bo g d && eD g (x.wh.drop (k+1)))=tk by rw [<- HT.out,hdr,Ig]);have BD:=bA0 wr (cdX d a1 c1 a2 c2);have ND:=heap_alloc_new wr (cdX d a1 c1 a2 c2);have K4:=aA (HK.out.step BD);have CC:=aA (HC.out d (List.mem_of_getElem? hd) (wr.alloc (cdX d a1 c1 a2 c2)) a1 c1 a2 c2 (r1.kept BD) (r2.kept BD) (HY.out _ K4.out.k.b));obtain ⟨z,hz⟩:∃ z,Bo g d=z:=⟨_,rfl⟩;rw [hz] at CC HD;rw [hwa];have b1:(k:Int)<(x.wh.length:Int):=by omega
    have b2:(0:Int)<=(k:Int):=by omega
    have b3:((k:Int)).toNat=k:=by omega
    clear hne hcc hdr hd r1 r2 BD hz hwa HT HK;go_upto_region 4 with fail
    rw [show wr.alloc (.cells #[.string d.op,.string d.a.op,.string d.a.nm,.int .i64 d.a.n,.slice a1 d.a.ks.len c1,.string d.b.op,.string d.b.nm,.int .i64 d.b.n,.slice a2 d.b.ks.len c2] 144)=wr.alloc (cdX d a1 c1 a2 c2) from rfl];generalize wr.alloc (cdX d a1 c1 a2 c2)=V1 at *;clear p0 p1 p2 p3 p4 p5 p6 p7 p8;obtain ⟨p0,p1,p2,p3,p4,p5,p6,p7,p8⟩:=gT ND;clear ND;go_wp2_with fail
    refine CC.out.mono ?_;rintro e w5 ⟨rfl,hb5⟩;have K5:=aA (K4.out.step hb5);clear hb5 CC K4 p0 p1 p2 p3 p4 p5 p6 p7 p8;cases z with
    | true =>
      have HT2:=aA (show eD g (x.wh.drop (k+1))=tk from HD.out);go_wp2_with fail
      go_roundw
      case rel=>exact ⟨k+1,_,rfl,by go_num,by omega,HT2,K5⟩
      case measure=>simp [intOf];omega
    | false =>
      have HT2:=aA (show false=tk from HD.out);have TR:=aA (show q=none by rw [<- HQ.out, <- HT2.out];rfl);obtain ⟨⟨o0,o1⟩,g0,g1⟩:=two K5.out.o;go_wp2_with fail
      obtain ⟨⟨d0,d1⟩, -⟩:=two (pP K5.out.o (.int .i64 0) (.int .i64 0));have P:=K5.out.put (.int .i64 0) (.int .i64 0);have E:=TR.out;subst E;exact bodyPost_ret (v:=.tuple #[.agg #[.int .i64 0,.int .i64 0],.bool false]) (by simp [results,Tryz.results140,go_sem,d0,d1]) rfl ⟨0,0,rfl,pV _ _,P⟩
  · have HT2:=aA (show tk=true by rw [<- HT.out,List.drop_of_length_le (by omega)];rfl)
    have b1:¬ (k:Int)<(x.wh.length:Int):=by omega
    have b2:decide (k<x.wh.length)=false:=decide_eq_false hlt;have HQ2:=aA (show Nx true ee bb ve vb=q by rw [<- HT2.out];exact HQ.out);have BA:=bA0 wr (qY 0 0);have NA:=heap_alloc_new wr (qY 0 0);have K2:=aA (HK.out.step BA);have hD:=aK HK.out.o;clear HT HK BA HQ HT2;go_upto_region 8 with fail
    rw [show wr.alloc (.cells #[.int .i64 0,.int .i64 0] 163)=wr.alloc (qY 0 0) from rfl];generalize wr.alloc (qY 0 0)=V at *;generalize wr.heap.size=D at *;have hD3:w.heap.size+3<=D:=by omega
    have Q2:=aA NA;clear NA;obtain ⟨⟨y0,y1,y2⟩, -⟩:=dV (DT.out _ K2.out);obtain ⟨m0,m1,m2,m3,m4,m5,m6,m7,m8,m9,m10⟩:=aF K2.out.k.n;obtain ⟨⟨s0,s1⟩,f0,f1⟩:=two Q2.out;go_upto_if 26 with fail
    go_cut [11] (fun v11 wc=>∃ (u:Int) (z:Bool),v11=.bool z/\Hid (TKW w x p wc)/\Hid (wc.heap[D]? = some (qY u 0))/\Hid ((z=true->Fd bb u vb=q)/\(z=false->q=none)))
    case first =>
     cases ee with
     | false =>
       have TS:=aA (show Fd bb 0 vb=q from HQ2.out);go_wp2_with fail
       go_meet;case rel=>exact ⟨0,true,rfl,K2,Q2,aA ⟨fun _=>TS.out,fun h=>by cases h⟩⟩
     | true =>
       have CE:=aA (EVE.out (by first | rfl | trivial) V K2.out.k.r.e (HY.out _ K2.out.k.b));go_wp2_with fail
       refine CE.out.mono ?_;rintro e w6 ⟨rfl,hb6⟩;have K6:=aA (K2.out.step hb6);have Q6:=aA ((hb6.block _ (aK Q2.out)).trans Q2.out);clear hb6 CE m0 m1 m2 m3 m4 m5 m6 m7 m8 m9 m10 y0 y1 y2 s0 s1 f0 f1;obtain ⟨⟨s0,s1⟩,f0,f1⟩:=two Q6.out;cases ve with
       | none =>
         have TS:=aA (show none=q from HQ2.out);have K7:=aA (K6.out.set hD3 0 (.int .i64 0));have Q7:=aA (Dg Q6.out (.int .i64 0));go_wp2_with fail
         go_meet;case rel=>exact ⟨0,false,rfl,K7,Q7,aA ⟨fun h=>(by cases h),fun _=>TS.out.symm⟩⟩
       | some e1 =>
         have TS:=aA (show Fd bb e1 vb=q from HQ2.out);have K7:=aA (K6.out.set hD3 0 (.int .i64 e1));have Q7:=aA (Dg Q6.out (.int .i64 e1));go_wp2_with fail
         go_meet;case rel=>exact ⟨e1,true,rfl,K7,Q7,aA ⟨fun _=>TS.out,fun h=>by cases h⟩⟩
    case rest =>
     obtain ⟨u,z,rfl,K3,Q3,HS⟩:=hcut;clear K2 Q2 HQ2 m0 m1 m2 m3 m4 m5 m6 m7 m8 m9 m10 y0 y1 y2 s0 s1 f0 f1;obtain ⟨⟨y0,y1,y2⟩, -⟩:=dV (DT.out _ K3.out);obtain ⟨m0,m1,m2,m3,m4,m5,m6,m7,m8,m9,m10⟩:=aF K3.out.k.n;cases z with
     | false =>
       have HS2:=aA (show q=none from HS.out.2 rfl);cases bb with
       | false =>
         have TR:=aA (show none=q from HS2.out.symm);obtain ⟨⟨o0,o1⟩,g0,g1⟩:=two K3.out.o;obtain ⟨⟨s0,s1⟩,f0,f1⟩:=two Q3.out;go_wp2_with fail
         obtain ⟨⟨d0,d1⟩, -⟩:=two (pP K3.out.o (.int .i64 u) (.int .i64 0));have P:=K3.out.put (.int .i64 u) (.int .i64 0);have E:=TR.out;subst E;exact bodyPost_ret (v:=.tuple #[.agg #[.int .i64 u,.int .i64 0],.bool false]) (by simp [results,Tryz.results140,go_sem,d0,d1]) rfl ⟨u,0,rfl,pV _ _,P⟩
       | true =>
         have TR:=aA (show none=q from HS2.out.symm);obtain ⟨⟨o0,o1⟩,g0,g1⟩:=two K3.out.o;obtain ⟨⟨s0,s1⟩,f0,f1⟩:=two Q3.out;go_wp2_with fail
         obtain ⟨⟨d0,d1⟩, -⟩:=two (pP K3.out.o (.int .i64 u) (.int .i64 0));have P:=K3.out.put (.int .i64 u) (.int .i64 0);have E:=TR.out;subst E;exact bodyPost_ret (v:=.tuple #[.agg #[.int .i64 u,.int .i64 0],.bool false]) (by simp [results,Tryz.results140,go_sem,d0,d1]) rfl ⟨u,0,rfl,pV _ _,P⟩
     | true =>
       have HS2:=aA (show Fd bb u vb=q from HS.out.1 rfl);cases bb with
       | false =>
         have HS3:=aA (show some (u,(0:Int))=q from HS2.out);have TR:=aA (show some (u,(0:Int))=q from HS3.out);obtain ⟨⟨o0,o1⟩,g0,g1⟩:=two K3.out.o;obtain ⟨⟨s0,s1⟩,f0,f1⟩:=two Q3.out;go_wp2_with fail
         obtain ⟨⟨d0,d1⟩, -⟩:=two (pP K3.out.o (.int .i64 u) (.int .i64 0));have P:=K3.out.put (.int .i64 u) (.int .i64 0);have E:=TR.out;subst E;exact bodyPost_ret (v:=.tuple #[.agg #[.int .i64 u,.int .i64 0],.bool true]) (by simp [results,Tryz.results140,go_sem,d0,d1]) rfl ⟨u,0,rfl,At _ _,P⟩
       | true =>
         have CB:=aA (EVG.out (by first | rfl | trivial) wc K3.out.k.r.g (HY.out _ K3.out.k.b));go_wp2_with fail
         refine CB.out.mono ?_;rintro e w8 ⟨rfl,hb8⟩;have K8:=aA (K3.out.step hb8);have Q8:=aA ((hb8.block _ (aK Q3.out)).trans Q3.out);clear hb8 CB m0 m1 m2 m3 m4 m5 m6 m7 m8 m9 m10 y0 y1 y2;obtain ⟨⟨s0,s1⟩,f0,f1⟩:=two Q8.out;cases vb with
         | none =>
           have HS3:=aA (show none=q from HS2.out);have K9:=aA (K8.out.set hD3 1 (.int .i64 0));have Q9:=aA (Df Q8.out (.int .i64 0));go_upto_region 13 with fail
           obtain ⟨Y,hY⟩:∃ Y,w8.setCell ⟨D,1,none⟩ (.int .i64 0)=Y:=⟨_,rfl⟩;rw [hY] at K9 Q9 |-
           clear hY s0 s1 f0 f1;have TR:=aA (show none=q from HS3.out);obtain ⟨⟨o0,o1⟩,g0,g1⟩:=two K9.out.o;obtain ⟨⟨s0,s1⟩,f0,f1⟩:=two Q9.out;go_wp2_with fail
           obtain ⟨⟨d0,d1⟩, -⟩:=two (pP K9.out.o (.int .i64 u) (.int .i64 0));have P:=K9.out.put (.int .i64 u) (.int .i64 0);have E:=TR.out;subst E;exact bodyPost_ret (v:=.tuple #[.agg #[.int .i64 u,.int .i64 0],.bool false]) (by simp [results,Tryz.results140,go_sem,d0,d1]) rfl ⟨u,0,rfl,pV _ _,P⟩
         | some b1 =>
           have HS3:=aA (show some (u,b1)=q from HS2.out);have K9:=aA (K8.out.set hD3 1 (.int .i64 b1));have Q9:=aA (Df Q8.out (.int .i64 b1));go_upto_region 13 with fail
           obtain ⟨Y,hY⟩:∃ Y,w8.setCell ⟨D,1,none⟩ (.int .i64 b1)=Y:=⟨_,rfl⟩;rw [hY] at K9 Q9 |-
           clear hY s0 s1 f0 f1;have TR:=aA (show some (u,b1)=q from HS3.out);obtain ⟨⟨o0,o1⟩,g0,g1⟩:=two K9.out.o;obtain ⟨⟨s0,s1⟩,f0,f1⟩:=two Q9.out;go_wp2_with fail
           obtain ⟨⟨d0,d1⟩, -⟩:=two (pP K9.out.o (.int .i64 u) (.int .i64 b1));have P:=K9.out.put (.int .i64 u) (.int .i64 b1);have E:=TR.out;subst E;exact bodyPost_ret (v:=.tuple #[.agg #[.int .i64 u,.int .i64 b1],.bool true]) (by simp [results,Tryz.results140,go_sem,d0,d1]) rfl ⟨u,b1,rfl,At _ _,P⟩
end
section
open Go.RowKit Go.Shelf
attribute [local go_sem] Oper.semAt_some
def kJ (x:AG) (gs:List (ByteArray->Option Int)):List (Int×Int):=gs.filterMap (l5 x)
theorem Ii (x:AG) (gs:List (ByteArray->Option Int)) (g:ByteArray->Option Int):kJ x (gs++[g])=kJ x gs++(match l5 x g with | none=>[] | some q=>[q]):=by
 unfold kJ;rw [List.filterMap_append];congr 1
 simp only [List.filterMap_cons,List.filterMap_nil];cases l5 x g <;> rfl
theorem Do (x:AG) {gs:List (ByteArray->Option Int)} (k:Nat):kJ x (gs.take k) <+: kJ x gs:=by
 unfold kJ;exact ((List.take_prefix k gs).filterMap _)
theorem pW {w w':World} {a:Option Addr} {rs:List RW} (h:dD w a rs) (hb:Below w.heap.size w w'):dD w' a rs :=
 h.imp id fun ⟨b,off,e,hlt,hc⟩=>⟨b,off,e,Nat.lt_of_lt_of_le hlt hb.size,fun j r hj=>by
  obtain ⟨y,cy,c0,rd⟩:=hc j r hj;exact ⟨y,cy,(hb.cell (p:=⟨b,off+j,none⟩) hlt).trans c0,rd.kept hb⟩⟩
structure OkX (x:AG):Prop where
 e:eP x.fn.data.toList=true->OkE x.e
 g:bP x.fn.data.toList=true->OkE x.g
 c:∀ d∈x.wh,OkE d.a/\OkE d.b
 l:x.wh.length<=1000
theorem Dp {x:AG} (h:OkX x) {A:Nat->Wr.AD} {n:Nat} {g:ByteArray->Option Int} (U:mW A n g) {q:Int×Int} (hq:l5 x g=some q):bN q.1/\bN q.2:=by
 have z:bN 0:=by unfold bN;omega
 unfold l5 at hq;have hE:eP x.fn.data.toList=true->∀ v,evT g x.e=some v->bN v:=fun he=>(BQ U x.e ((dO _).1 (h.e he).c).1 (h.e he).n).2
 have hG:bP x.fn.data.toList=true->∀ v,evT g x.g=some v->bN v:=fun he=>(BQ U x.g ((dO _).1 (h.g he).c).1 (h.g he).n).2
 generalize eD g x.wh=tk at hq;generalize evT g x.e=oe at hq hE;generalize evT g x.g=ob at hq hG;generalize eP x.fn.data.toList=ee at hq hE;generalize bP x.fn.data.toList=bb at hq hG;cases tk <;> cases ee <;> cases bb <;> cases oe <;> cases ob <;> simp only [Nx,Fd,Option.some.injEq,reduceCtorEq] at hq <;> subst hq <;> refine ⟨?_,?_⟩ <;> first | exact z | exact hE rfl _ rfl | exact hG rfl _ rfl
abbrev rwO (ya:Option Addr) (l yc:Nat):Obj:=.cells #[.slice ya l yc] 34
theorem Kt (n l bl ba bp:Nat) (x:AG) (p:PA) (rs:List RW) (ya:Option Addr) (yc:Nat) (W0:World) (hX:OkX x) (hU:∀ r∈rs,mW r.A r.n r.g) (hl:rs.length<=1000)
 (hr:bC (fun b=>b<W0.heap.size) W0 x p) (hy:dD W0 ya rs) (hbl:W0.heap[bl]? = some (rwO ya rs.length yc)) (hba:W0.heap[ba]? = some (agP x p))
 (hbp:W0.heap[bp]? = some (ptO (kP x.fn.data.toList) (eP x.fn.data.toList) (bP x.fn.data.toList))) (J Jx:List (Int×Int)->World->Prop) (W:World) (hJ:AbidesFrom W.heap.size J)
 (hY:∀ pre q W1,bN q.1->bN q.2->J pre W1->pre.length<(kJ x (rs.map RW.g)).length->YieldAt Fence.wide n Tryz.prog l #[Ic q] W1 fun e W'=>(e=.returned (.bool true)/\J (pre++[q]) W'/\Below W0.heap.size W1 W')\/(e=.returned (.bool false)/\Jx (pre++[q]) W'))
 (hW:Below W0.heap.size W0 W) (h0:J [] W) :
 CallsIn Fence.wide (n+1) Tryz.prog 139 #[.func (.yield l) #[] #[],.pointer (some ⟨bl,0,none⟩),.pointer (some ⟨ba,0,none⟩),.pointer (some ⟨bp,0,none⟩)] W fun e W' =>
  (∃ v,e=.returned v)/\((∃ ys,ys=kJ x (rs.map RW.g)/\J ys W')\/(∃ pre,pre <+: kJ x (rs.map RW.g)/\Jx pre W')):=by
 refine callsIn_of_wp Tryz.func139 rfl trivial ?_ rfl;simp only [Tryz.ntmps139,List.size_toArray,List.length_cons,List.length_nil,Nat.reduceAdd,Nat.reduceSub,Array.replicate_succ,Array.replicate_zero,List.push_toArray,List.append_toArray,List.nil_append,List.cons_append]
 have cl:W.cell? ⟨bl,0,none⟩=some (.slice ya rs.length yc):=by
  have:=(hW.block bl (aK hbl)).trans hbl;simp [World.cell?,this]
 gi_wp2
 clear cl;gi_loopw [6,7,8,11] (fun v6 v7 v8 i wr=>∃ (k:Nat) (y6 y7 y8:Value),v6=y6/\v7=y7/\v8=y8/\i=.int .i64 k/\k<=rs.length/\Below W0.heap.size W0 wr/\W.heap.size<=wr.heap.size/\J (kJ x ((rs.map RW.g).take k)) wr) (fun _ _ _ i _=>rs.length-(intOf i).toNat)
 case atStart=>exact ⟨0,_,_,_,rfl,rfl,rfl,rfl,Nat.zero_le _,hW,Nat.le_refl _,h0⟩
 case round =>
  obtain ⟨k,y6,y7,y8,rfl,rfl,rfl,rfl,hk,hb,hz,hJs⟩:=hrel;by_cases hlt:k<rs.length
  · obtain ⟨r,hrk⟩:∃ r,rs[k]? = some r:=⟨_,List.getElem?_eq_getElem hlt⟩
    have hne:¬ rs=[]:=fun e=>by rw [e] at hlt;simp at hlt
    obtain ⟨b,off,rfl,hbs,hcc⟩:=(pW hy hb).resolve_left hne;obtain ⟨yr,cyr,c0,rd⟩:=hcc k r hrk;have hba1:=(hb.block ba (aK hba)).trans hba;have hbp1:=(hb.block bp (aK hbp)).trans hbp;obtain ⟨m0,m1,m2,m3,m4,m5,m6,m7,m8,m9,m10⟩:=aF hba1;obtain ⟨q0,q1,q2⟩:=dV hbp1;have hrA:bC (fun b=>b<W0.heap.size) wr x p:=hr.kept hb;have TK:=aA (Ih (hU r (List.mem_of_getElem? hrk)) x p yr cyr wr hX.e hX.g hX.c hX.l hrA rd)
    have hgs:(rs.map RW.g).take (k+1)=(rs.map RW.g).take k++[r.g]:=by
     rw [List.take_add_one];simp [hrk]
    have hsn:=Ii x ((rs.map RW.g).take k) r.g;rw [<- hgs] at hsn;have hgr:∀ W3,Below wr.heap.size wr W3->wr.grownBy W3 none:=fun W3 h=>⟨h.os,h.tape,h.output,h.size,fun k hk _=>h.block k hk⟩
    cases htk:l5 x r.g with
    | none =>
      rw [htk] at TK hsn;gi_wp2_with (refine ⟨trivial,?_⟩;gi_at_call 140;refine (callsIn_wide.2 TK.out).mono ?_;rintro e w1 ⟨u,v,rfl,hsay,hb1⟩)
      refine ⟨fun _ h=>(by cases h),?_⟩;gi_wp2
      go_roundw
      case rel=>exact ⟨k+1,_,_,_,rfl,rfl,rfl,by go_num,hlt,(hb.trans (hb1.mono hb.size)).alloc (Nat.le_trans hb.size hb1.size) _,by have:=hb1.size;simp;omega,by
       rw [hsn,List.append_nil];exact hJ _ _ _ _ (hJ _ _ _ _ hJs (hgr _ hb1) (fun r e=>by cases e)) (World.grownBy_alloc _ _ none) (fun r e=>by cases e)⟩
      case measure=>simp [intOf];omega
    | some q =>
      rw [htk] at TK hsn;have hin:=Dp hX (hU r (List.mem_of_getElem? hrk)) htk
      have hlen:(kJ x ((rs.map RW.g).take k)).length<(kJ x (rs.map RW.g)).length:=by
       have h1:=(Do x (gs:=rs.map RW.g) (k+1)).length_le;rw [hsn,List.length_append] at h1;simp at h1;omega
      have hyl:=fun w1 (hb1:Below wr.heap.size wr w1)=>hY (kJ x ((rs.map RW.g).take k)) q (w1.alloc (qY q.1 q.2)) hin.1 hin.2 (hJ _ _ _ _ (hJ _ _ _ _ hJs (hgr _ hb1) (fun r e=>by cases e)) (World.grownBy_alloc _ _ none) (fun r e=>by cases e)) hlen
      gi_wp2_with (refine ⟨trivial,?_⟩;gi_at_call 140;refine (callsIn_wide.2 TK.out).mono ?_;rintro e w1 ⟨u,v,rfl,hsay,hb1⟩;obtain rfl:=hsay _ rfl;obtain ⟨fn,tmps,assign,body,hyy,hR⟩:=hyl w1 hb1;dsimp only at hyy)
      refine hR.mono ?_;clear hR;rintro e W3 (⟨rfl,hJ3,hk3⟩ | ⟨rfl,hJx3⟩)
      · gi_wp2
        go_roundw
        case rel=>exact ⟨k+1,_,_,_,rfl,rfl,rfl,by go_num,hlt,((hb.trans (hb1.mono hb.size)).alloc (Nat.le_trans hb.size hb1.size) _).trans hk3,by have:=hb1.size;have:=hk3.size;simp at this;omega,by rw [hsn];exact hJ3⟩
        case measure=>simp [intOf];omega
      · gi_wp2
        refine bodyPost_ret (results_none rfl _ _ _) rfl ?_;exact ⟨⟨_,rfl⟩,.inr ⟨kJ x ((rs.map RW.g).take (k+1)),Do x _,by rw [hsn];exact hJx3⟩⟩
  · obtain rfl:k=rs.length:=by omega
    rw [List.take_of_length_le (by simp)] at hJs;gi_wp2
    go_end0
    exact ⟨⟨_,rfl⟩,.inl ⟨_,rfl,hJs⟩⟩
end
section
open Go.RowKit Go.Shelf
abbrev Q64:Type:={ q:Int×Int // bN q.1/\bN q.2 }
abbrev tkE (q:Q64):Array Value:=#[Ic q.1]
theorem xI:∀ (l:List (Int×Int)),(∀ q∈l,bN q.1/\bN q.2)->∃ L:List Q64,L.map Subtype.val=l
 | [],_=>⟨[],rfl⟩
 | q :: l, h => by
   obtain ⟨L,rfl⟩:=xI l (fun z hz=>h z (List.mem_cons_of_mem _ hz));exact ⟨⟨q,h q (List.mem_cons_self ..)⟩::L,rfl⟩
theorem GT {x:AG} (h:OkX x) {rs:List RW} (hU:∀ r∈rs,mW r.A r.n r.g):∀ q∈kJ x (rs.map RW.g),bN q.1/\bN q.2:=by
 intro q hq;unfold kJ at hq;rw [List.mem_filterMap] at hq;obtain ⟨g,hg,hz⟩:=hq;rw [List.mem_map] at hg;obtain ⟨r,hr,rfl⟩:=hg;exact Dp h (hU r hr) hz
structure CG (B:Nat) (W:World) (x:AG) (p:PA) (rs:List RW) (ya:Option Addr) (yc bl ba bp:Nat):Prop where
 l:W.heap[bl]? = some (rwO ya rs.length yc)
 a:W.heap[ba]? = some (agP x p)
 q:W.heap[bp]? = some (ptO (kP x.fn.data.toList) (eP x.fn.data.toList) (bP x.fn.data.toList))
 rd:bC (fun b=>b<W.heap.size) W x p
 ry:dD W ya rs
abbrev tkF (bl ba bp:Nat):Array Value:=#[.pointer (some ⟨bl,0,none⟩),.pointer (some ⟨ba,0,none⟩),.pointer (some ⟨bp,0,none⟩)]
theorem vG {l m:List Q64} (h:l.map Subtype.val=m.map Subtype.val):l=m:=(List.map_inj_right (fun _ _ e=>Subtype.ext e)).1 h
theorem uU (n:Nat) {B bl ba bp yc:Nat} {x:AG} {p:PA} {rs:List RW} {ya:Option Addr} {w:World} (hX:OkX x) (hU:∀ r∈rs,mW r.A r.n r.g) (hl:rs.length<=1000) (h:CG B w x p rs ya yc bl ba bp)
 (L:List Q64) (hL:L.map Subtype.val=kJ x (rs.map RW.g)) :
 SeqStopsK Fence.wide (n+1) Tryz.prog 139 (tkF bl ba bp) tkE (Below w.heap.size) (fun ys=>ys=L) (fun pre=>pre <+: L) L.length w:=fun l J Jx W hW hJ _ hY h0=>by
 refine (Kt n l bl ba bp x p rs ya yc w hX hU hl h.rd h.ry h.l h.a h.q (fun pre V=>∃ pre',pre'.map Subtype.val=pre/\J pre' V) (fun pre V=>∃ pre',pre'.map Subtype.val=pre/\Jx pre' V) W ?_ ?_ hW ⟨[],rfl,h0⟩).mono ?_
 · rintro s X Y row ⟨s',e,hs⟩ hg hr
   exact ⟨s',e,hJ s' X Y row hs hg hr⟩
 · rintro pre q W1 h1 h2 ⟨pre',rfl,hj⟩ hlen
   rw [<- hL,List.length_map,List.length_map] at hlen;refine (hY pre' ⟨q,h1,h2⟩ W1 hj hlen).mono ?_;rintro e W' (⟨he,hj',hk⟩ | ⟨he,hj'⟩)
   · exact .inl ⟨he,⟨_,by simp,hj'⟩,hk⟩
   · exact .inr ⟨he,⟨_,by simp,hj'⟩⟩
 · rintro e W' ⟨hv,(⟨ys,rfl,pre',e',hj⟩ | ⟨pre,hp,pre',rfl,hj⟩)⟩
   · exact ⟨hv,.inl ⟨pre',vG (e'.trans hL.symm),hj⟩⟩
   · refine ⟨hv,.inr ⟨pre',?_,hj⟩⟩
     rw [<- hL] at hp;show pre' <+: L;rw [List.prefix_iff_eq_take] at hp |-
     rw [List.length_map, <- List.map_take] at hp;exact vG hp
theorem Dm {w:World} {x:AG} {p:PA} {rs:List RW} {ya:Option Addr} {yc:Nat} {G:Nat->Prop} (hr:bC G w x p) (hy:dD w ya rs) {V:World} (hV:Below ((w.alloc (agP x p)).alloc (rwO ya rs.length yc)).heap.size ((w.alloc (agP x p)).alloc (rwO ya rs.length yc)) V) :
 CG w.heap.size (V.alloc (ptO (kP x.fn.data.toList) (eP x.fn.data.toList) (bP x.fn.data.toList))) x p rs ya yc (w.heap.size+1) w.heap.size V.heap.size/\Below w.heap.size w (V.alloc (ptO (kP x.fn.data.toList) (eP x.fn.data.toList) (bP x.fn.data.toList))):=by
 have B1:=bA0 w (agP x p);have N1:=heap_alloc_new w (agP x p);have hs1:(w.alloc (agP x p)).heap.size=w.heap.size+1:=World.size_alloc _ _;generalize w.alloc (agP x p)=W1 at *;have B2:=bA0 W1 (rwO ya rs.length yc);have N2:=heap_alloc_new W1 (rwO ya rs.length yc);have hs2:(W1.alloc (rwO ya rs.length yc)).heap.size=W1.heap.size+1:=World.size_alloc _ _;generalize W1.alloc (rwO ya rs.length yc)=W2 at *;have B3:=bA0 V (ptO (kP x.fn.data.toList) (eP x.fn.data.toList) (bP x.fn.data.toList));have N3:=heap_alloc_new V (ptO (kP x.fn.data.toList) (eP x.fn.data.toList) (bP x.fn.data.toList));generalize V.alloc (ptO (kP x.fn.data.toList) (eP x.fn.data.toList) (bP x.fn.data.toList))=W3 at *;have hz:=hV.size;have hz3:=B3.size;have B13:Below W1.heap.size W1 W3:=B2.trans ((hV.trans (B3.mono hz)).mono (by omega));have B03:Below w.heap.size w W3:=B1.trans (B13.mono (by omega));rw [hs1] at N2;refine ⟨⟨?_,?_,N3,(hr.kept B03).imp (fun b hb _=>?_),pW hy B03⟩,B03⟩
 · exact ((hV.trans (B3.mono hz)).block _ (by omega)).trans N2
 · exact (B13.block _ (by omega)).trans N1
 · exact hb
theorem uV {G:Nat->Prop} (x:AG) (p:PA) (rs:List RW) (ya:Option Addr) (yc:Nat) (w:World) (hr:bC G w x p) (hy:dD w ya rs) :
 Calls Tryz.prog 82 #[agV x p,.slice ya rs.length yc] w fun e w'=>∃ bl ba bp,e=.returned (.func (.func 139) #[] (tkF bl ba bp))/\CG w.heap.size w' x p rs ya yc bl ba bp/\Below w.heap.size w w':=by
 have TN:=aA (fun V hV=>Dm (yc:=yc) (V:=V) hr hy hV);have hs0:((w.alloc (agP x p)).alloc (rwO ya rs.length yc)).heap.size=w.heap.size+2:=by simp
 have B1:=bA0 w (agP x p)
 have N0:((w.alloc (agP x p)).alloc (rwO ya rs.length yc)).heap[w.heap.size]? = some (agP x p):=by
  have h1:=heap_alloc_new w (agP x p);exact (((Below.refl _ (w.alloc (agP x p))).alloc (Nat.le_refl _) (rwO ya rs.length yc)).block _ (by simp)).trans h1
 have CP:=aA (mE x.fn ((w.alloc (agP x p)).alloc (rwO ya rs.length yc)));generalize hW:(w.alloc (agP x p)).alloc (rwO ya rs.length yc)=W at *;have HW:=aA hW;obtain ⟨m0,m1,m2,m3,m4,m5,m6,m7,m8,m9,m10⟩:=aF N0;unfold ptV at CP;clear hr hy B1 hW N0;go_enter Tryz.func82,Tryz.ntmps82
 go_upto_region 1 with fail
 rw [show (w.alloc (.cells #[.string x.fn,.int .i64 x.k,.string x.e.op,.string x.e.nm,.int .i64 x.e.n,.slice p.ea x.e.ks.len p.ec,.string x.g.op,.string x.g.nm,.int .i64 x.g.n,.slice p.ga x.g.ks.len p.gc,.slice p.wa x.wh.length p.wc] 70)).alloc (.cells #[.slice ya rs.length yc] 34)=W from HW.out];go_wp2_with fail
 refine CP.out.mono ?_;rintro e w1 ⟨rfl,hb⟩;go_wp2_with fail
 go_ret;obtain ⟨T1,T2⟩:=TN.out w1 hb;exact ⟨_,_,_,rfl,T1,T2⟩
set_option maxHeartbeats 2000000
theorem Im (n u v:Int) (w:World) (h0:0<=n) (h1:n<=1000000):Calls Tryz.prog 85 #[.int .i64 n,.agg #[.int .i64 u,.int .i64 v]] w fun e w'=>e=.returned (.int .i64 (n+1))/\Below w.heap.size w w':=by
 go_enter Tryz.func85,Tryz.ntmps85
 go_wp2
 go_ret;exact ⟨rfl,bA0 w _⟩
theorem Il (n u v:Int) (w:World) (h0:bN n) (h1:bN u):Calls Tryz.prog 86 #[.int .i64 n,.agg #[.int .i64 u,.int .i64 v]] w fun e w'=>e=.returned (.int .i64 (dY (n+u)))/\Below w.heap.size w w':=by
 have VA:=aA (fun w=>Dc n u w h0 h1);have B1:=aA (bA0 w (qY u v));have N1:=heap_alloc_new w (qY u v);generalize hW:w.alloc (qY u v)=W at *;have HW:=aA hW;obtain ⟨⟨m0,m1⟩, -⟩:=two N1;clear hW N1 h0 h1;go_enter Tryz.func86,Tryz.ntmps86
 go_upto_region 1 with fail
 rw [show w.alloc (.cells #[.int .i64 u,.int .i64 v] 163)=W from HW.out];go_wp2_with fail
 refine (VA.out _).mono ?_;rintro e w1 ⟨rfl,rfl⟩;go_wp2_with fail
 go_ret;exact ⟨rfl,B1.out⟩
abbrev vlA (k n:Int) (a:Option Addr) (l c:Nat):Obj:=.cells #[.int .i64 k,.int .i64 n,.string ⟨#[]⟩,.slice a l c] 60
theorem vC (n:Int) (w:World):Calls Tryz.prog 83 #[.int .i64 n] w fun e w'=>e=.returned (vlV 1 n none 0 0)/\Below w.heap.size w w':=by
 go_enter Tryz.func83,Tryz.ntmps83
 go_wp2_with fail
 obtain ⟨⟨y0,y1,y2,y3⟩, -⟩:=aL (heap_alloc_new w (vlA 1 n none 0 0));exact bodyPost_ret (v:=vlV 1 n none 0 0) (by simp [results,Tryz.results83,go_sem,y0,y1,y2,y3]) rfl ⟨rfl,bA0 _ _⟩
end
section
open Go.RowKit Go.Shelf
attribute [local go_sem] Oper.semAt_some
theorem Br {B:Nat} {vs:Array Value} {t:TypeId} {fz:Nat×Nat} {W W':World} {row:Option Nat} (h:W.heap[B]? = some (.cells vs t fz)) (hg:W.grownBy W' row) (hr:∀ r,row=some r->∃ o:Obj,W.heap[r]? = some o/\o.isCells=false):W'.heap[B]? = some (.cells vs t fz) :=
 (hg.block B (aK h) (fun e=>by obtain ⟨o,ho,hc⟩:=hr B e.symm;rw [h] at ho;cases ho;cases hc)).trans h
theorem vQ {W W':World} (h:Below W.heap.size W W') (D:Nat):KeepsFrom D W W' :=
 (KeepsOthers.of_grownBy (row:=none) ⟨h.os,h.tape,h.output,h.size,fun k hk _=>h.block k hk⟩ (fun j o e=>by cases e)).from D
abbrev RJ (bl ba bp:Nat) (L:List Q64) (w0:World):Prop:=SeqStopsK Fence.wide 3 Tryz.prog 139 (tkF bl ba bp) tkE (Below w0.heap.size) (fun ys=>ys=L) (fun pre=>pre <+: L) L.length w0
theorem EN {n₀ : Nat} {w:World} (hn:n₀ <= w.heap.size) (W:World) (l:Nat) (o o':Obj) (hl:w.heap.size<=l) (h:W.heap[l]? = some o):Below n₀ W (W.putObj l o') :=
 (Below.refl n₀ W).grown (grownBy_putObj' W l o') (by have:=(Array.getElem?_eq_some_iff.1 h).1;omega) (fun k e=>by cases e;omega)
theorem Mp (bl ba bp:Nat) (L:List Q64) (w0 w:World) (hL:L.length<=1000) (hseq:RJ bl ba bp L w0) (hb0:Below w0.heap.size w0 w) (F:List Q64->Int) (hF0:F []=0)
 (hst:∀ (pre:List Q64) (q:Q64) (W:World),pre.length<L.length->Calls Tryz.prog 85 #[.int .i64 (F pre),Ic q.1] W fun e W'=>e=.returned (.int .i64 (F (pre++[q])))/\Below W.heap.size W W') :
 CallsIn Fence.wide 4 Tryz.prog 84 #[.func (.func 139) #[] (tkF bl ba bp),.int .i64 0,.func (.func 85) #[] #[]] w fun e w'=>e=.returned (.int .i64 (F L))/\Below w.heap.size w w':=by
 refine callsIn_of_wp_marks Tryz.func84 rfl trivial ?_ rfl;simp only [Tryz.ntmps84,List.size_toArray,List.length_cons,List.length_nil,Nat.reduceAdd,Nat.reduceSub,Array.replicate_succ,Array.replicate_zero,List.push_toArray,List.append_toArray,List.nil_append,List.cons_append];gi_wp2
 obtain ⟨B,hB0⟩:∃ B,w.heap.size=B:=⟨_,rfl⟩;have bF:=(Boxed.new w 164 (.func (.func 85) #[] #[])).alloc (.cells #[.int .i64 0] 2);have bS:=Boxed.new (w.alloc (.cells #[.func (.func 85) #[] #[]] 164)) 2 (.int .i64 0);have hBw:Below B w ((w.alloc (.cells #[.func (.func 85) #[] #[]] 164)).alloc (.cells #[.int .i64 0] 2)):=((Below.refl _ w).alloc (by omega) _).alloc (by simp;omega) _;have hsz:((w.alloc (.cells #[.func (.func 85) #[] #[]] 164)).alloc (.cells #[.int .i64 0] 2)).heap.size=B+2:=by simp;omega
 simp only [World.size_alloc,hB0] at bF bS |-
 obtain ⟨W0,hW0⟩:∃ W0,(w.alloc (.cells #[.func (.func 85) #[] #[]] 164)).alloc (.cells #[.int .i64 0] 2)=W0:=⟨_,rfl⟩;rw [hW0] at bF bS hBw hsz |-
 have hz0:w0.heap.size<=B:=by have:=hb0.size;omega
 clear hW0
 refine wpIn_rangeFunc_ownH rfl (by decide) (gf:=139) (lb:=tkF bl ba bp) rfl trivial (enters_of Tryz.func139 (by kernel_rfl) rfl)
  hseq belowK_t (belowK_b (by omega)) (hb0.trans (hBw.mono hz0)) (fun _=>rfl)
  (fun pre W=>(Boxed W (B+1) 2 (.int .i64 (F pre))/\Boxed W B 164 (.func (.func 85) #[] #[]))/\Below B w W)
  (fun _ _ _=>False)
  (OwnFrom.and (OwnFrom.and (Own.from (boxed_own _ _ _) _) (Own.from (boxed_own _ _ _) _)) (ownFrom_below (by omega) (by omega)))
  (fun _ _ _ _ _ hs _ _=>hs)
  ⟨⟨by rw [hF0];exact bS,bF⟩,hBw⟩
  (fun x a' W=>∃ Bx,B+1<Bx/\W.heap[Bx]? = some (qY x.1.1 x.1.2)/\a'={ tmps:=#[.func (.func 139) #[] (tkF bl ba bp),.int .i64 0,.func (.func 85) #[] #[],undef,undef,.pointer (some ⟨B,0,none⟩),.int .i64 0,.pointer (some ⟨B+1,0,none⟩),.pointer (some ⟨Bx,0,none⟩),.int .i64 0,.func (.func 139) #[] (tkF bl ba bp),Ic x.1,undef,undef,undef,undef,undef],defers:=[] })
  (fun x a' _ X Y row hs hg hr=>by obtain ⟨Bx,h1,h2,h3⟩:=hs;exact ⟨Bx,h1,Br h2 hg (fun r e=>(hr r e).2),h3⟩)
  ?assign ?body ?done ?stop
 case assign =>
  rintro l pre x W K ⟨⟨bS1,bF1⟩,hB1⟩ hK;have h2:=bS1.lt;gi_wp2
  exact hK _ _ ((KeepsOthers.alloc _ _).from _) ((Below.refl _ W).alloc (by omega) _) ⟨⟨bS1.alloc _,bF1.alloc _⟩,hB1.alloc (by omega) _⟩ ⟨W.heap.size,bS1.lt,heap_alloc_new W _,rfl⟩
 case body =>
  rintro l pre x a' W hl ⟨r,hr⟩ ⟨⟨bS1,bF1⟩,hB1⟩ ⟨Bx,hBx,bX,rfl⟩ hlt;obtain ⟨⟨x0,x1⟩, -⟩:=two bX;have c1:=bS1.cell;have c2:=bF1.cell;have ST:=aA (hst pre x W hlt);have hz:=bS1.lt;gi_wp2_with (refine ⟨trivial,?_⟩;gi_at_call 85;refine (CallsIn.inRound l (callsIn_wide.2 ST.out)).mono ?_;rintro e W2 ⟨rfl,hb2⟩;have bS2:Boxed W2 (B+1) 2 (.int .i64 (F pre)):=(hb2.block _ bS1.lt).trans bS1;have bF2:Boxed W2 B 164 (.func (.func 85) #[] #[]):=(hb2.block _ bF1.lt).trans bF1;have d1:=bS2.cell;have d2:=bF2.cell;have f1:=bS2.frozen)
  exact ⟨(vQ hb2 _).trans ((KeepsOthers.setCell _ _ _).from _),(hb2.mono (by omega)).setCell (p:=⟨B+1,0,none⟩) (by simp;omega) _,⟨bS2.set _,bF2.other (by omega) _⟩,(hB1.trans (hb2.mono (by omega))).setCell (p:=⟨B+1,0,none⟩) (by simp) _⟩
 case done =>
  rintro D ys W hD rfl ⟨⟨bS1,bF1⟩,hB1⟩ hK;have c1:=bS1.cell;gi_wp2
  refine ⟨by simp,.inl ⟨_,_,rfl,run_takeDeferred hK,?_⟩⟩;exact ⟨_,results_tmp rfl _ _ _,rfl,by rw [hB0];exact hB1.trans (EN (w:=W0) (by omega) W D _ _ hD hK)⟩
 case stop =>
  rintro D c pre W _ _ h _;exact h.elim
theorem Mo (bl ba bp:Nat) (L:List Q64) (w0 w:World) (hL:L.length<=1000) (hseq:RJ bl ba bp L w0) (hb0:Below w0.heap.size w0 w) (F:List Q64->Int) (hF0:F []=0)
 (hst:∀ (pre:List Q64) (q:Q64) (W:World),pre.length<L.length->Calls Tryz.prog 86 #[.int .i64 (F pre),Ic q.1] W fun e W'=>e=.returned (.int .i64 (F (pre++[q])))/\Below W.heap.size W W') :
 CallsIn Fence.wide 4 Tryz.prog 84 #[.func (.func 139) #[] (tkF bl ba bp),.int .i64 0,.func (.func 86) #[] #[]] w fun e w'=>e=.returned (.int .i64 (F L))/\Below w.heap.size w w':=by
 refine callsIn_of_wp_marks Tryz.func84 rfl trivial ?_ rfl;simp only [Tryz.ntmps84,List.size_toArray,List.length_cons,List.length_nil,Nat.reduceAdd,Nat.reduceSub,Array.replicate_succ,Array.replicate_zero,List.push_toArray,List.append_toArray,List.nil_append,List.cons_append];gi_wp2
 obtain ⟨B,hB0⟩:∃ B,w.heap.size=B:=⟨_,rfl⟩;have bF:=(Boxed.new w 164 (.func (.func 86) #[] #[])).alloc (.cells #[.int .i64 0] 2);have bS:=Boxed.new (w.alloc (.cells #[.func (.func 86) #[] #[]] 164)) 2 (.int .i64 0);have hBw:Below B w ((w.alloc (.cells #[.func (.func 86) #[] #[]] 164)).alloc (.cells #[.int .i64 0] 2)):=((Below.refl _ w).alloc (by omega) _).alloc (by simp;omega) _;have hsz:((w.alloc (.cells #[.func (.func 86) #[] #[]] 164)).alloc (.cells #[.int .i64 0] 2)).heap.size=B+2:=by simp;omega
 simp only [World.size_alloc,hB0] at bF bS |-
 obtain ⟨W0,hW0⟩:∃ W0,(w.alloc (.cells #[.func (.func 86) #[] #[]] 164)).alloc (.cells #[.int .i64 0] 2)=W0:=⟨_,rfl⟩;rw [hW0] at bF bS hBw hsz |-
 have hz0:w0.heap.size<=B:=by have:=hb0.size;omega
 clear hW0
 refine wpIn_rangeFunc_ownH rfl (by decide) (gf:=139) (lb:=tkF bl ba bp) rfl trivial (enters_of Tryz.func139 (by kernel_rfl) rfl)
  hseq belowK_t (belowK_b (by omega)) (hb0.trans (hBw.mono hz0)) (fun _=>rfl)
  (fun pre W=>(Boxed W (B+1) 2 (.int .i64 (F pre))/\Boxed W B 164 (.func (.func 86) #[] #[]))/\Below B w W)
  (fun _ _ _=>False)
  (OwnFrom.and (OwnFrom.and (Own.from (boxed_own _ _ _) _) (Own.from (boxed_own _ _ _) _)) (ownFrom_below (by omega) (by omega)))
  (fun _ _ _ _ _ hs _ _=>hs)
  ⟨⟨by rw [hF0];exact bS,bF⟩,hBw⟩
  (fun x a' W=>∃ Bx,B+1<Bx/\W.heap[Bx]? = some (qY x.1.1 x.1.2)/\a'={ tmps:=#[.func (.func 139) #[] (tkF bl ba bp),.int .i64 0,.func (.func 86) #[] #[],undef,undef,.pointer (some ⟨B,0,none⟩),.int .i64 0,.pointer (some ⟨B+1,0,none⟩),.pointer (some ⟨Bx,0,none⟩),.int .i64 0,.func (.func 139) #[] (tkF bl ba bp),Ic x.1,undef,undef,undef,undef,undef],defers:=[] })
  (fun x a' _ X Y row hs hg hr=>by obtain ⟨Bx,h1,h2,h3⟩:=hs;exact ⟨Bx,h1,Br h2 hg (fun r e=>(hr r e).2),h3⟩)
  ?assign ?body ?done ?stop
 case assign =>
  rintro l pre x W K ⟨⟨bS1,bF1⟩,hB1⟩ hK;have h2:=bS1.lt;gi_wp2
  exact hK _ _ ((KeepsOthers.alloc _ _).from _) ((Below.refl _ W).alloc (by omega) _) ⟨⟨bS1.alloc _,bF1.alloc _⟩,hB1.alloc (by omega) _⟩ ⟨W.heap.size,bS1.lt,heap_alloc_new W _,rfl⟩
 case body =>
  rintro l pre x a' W hl ⟨r,hr⟩ ⟨⟨bS1,bF1⟩,hB1⟩ ⟨Bx,hBx,bX,rfl⟩ hlt;obtain ⟨⟨x0,x1⟩, -⟩:=two bX;have c1:=bS1.cell;have c2:=bF1.cell;have ST:=aA (hst pre x W hlt);have hz:=bS1.lt;gi_wp2_with (refine ⟨trivial,?_⟩;gi_at_call 86;refine (CallsIn.inRound l (callsIn_wide.2 ST.out)).mono ?_;rintro e W2 ⟨rfl,hb2⟩;have bS2:Boxed W2 (B+1) 2 (.int .i64 (F pre)):=(hb2.block _ bS1.lt).trans bS1;have bF2:Boxed W2 B 164 (.func (.func 86) #[] #[]):=(hb2.block _ bF1.lt).trans bF1;have d1:=bS2.cell;have d2:=bF2.cell;have f1:=bS2.frozen)
  exact ⟨(vQ hb2 _).trans ((KeepsOthers.setCell _ _ _).from _),(hb2.mono (by omega)).setCell (p:=⟨B+1,0,none⟩) (by simp;omega) _,⟨bS2.set _,bF2.other (by omega) _⟩,(hB1.trans (hb2.mono (by omega))).setCell (p:=⟨B+1,0,none⟩) (by simp) _⟩
 case done =>
  rintro D ys W hD rfl ⟨⟨bS1,bF1⟩,hB1⟩ hK;have c1:=bS1.cell;gi_wp2
  refine ⟨by simp,.inl ⟨_,_,rfl,run_takeDeferred hK,?_⟩⟩;exact ⟨_,results_tmp rfl _ _ _,rfl,by rw [hB0];exact hB1.trans (EN (w:=W0) (by omega) W D _ _ hD hK)⟩
 case stop =>
  rintro D c pre W _ _ h _;exact h.elim
theorem Fe {x:AG} (h:x.fn.data.toList=aO) (gs:List (ByteArray->Option Int)):kJ x gs=(iO x gs).map (fun _=>((0:Int),(0:Int))):=by
 have hE:eP x.fn.data.toList=false:=by rw [h];decide
 have hB:bP x.fn.data.toList=false:=by rw [h];decide
 unfold kJ iO;induction gs with
 | nil=>rfl
 | cons g gs ih =>
   have h1:l5 x g=if eD g x.wh=true then some (0,0) else none:=by unfold l5;rw [hE,hB];cases eD g x.wh <;> rfl
   rw [List.filterMap_cons,List.filter_cons,h1];cases eD g x.wh
   · simpa using ih
   · simp [ih]
theorem Qb {x:AG} (hE:eP x.fn.data.toList=true) (hB:bP x.fn.data.toList=false) (gs:List (ByteArray->Option Int)):kJ x gs=(yW x gs).map (fun e=>(e,(0:Int))):=by
 unfold kJ yW iO;induction gs with
 | nil=>rfl
 | cons g gs ih =>
   have h1:l5 x g=if eD g x.wh=true then (evT g x.e).map (fun e=>(e,0)) else none:=by unfold l5;rw [hE,hB];cases eD g x.wh <;> cases evT g x.e <;> rfl
   rw [List.filterMap_cons,List.filter_cons,h1];cases eD g x.wh
   · simpa using ih
   · cases he:evT g x.e <;> simp [he,ih]
abbrev zW (pre:List Q64):Int:=pre.foldl (fun s q=>dY (s+q.1.1)) 0
theorem Ij (pre:List Q64) (q:Q64):zW (pre++[q])=dY (zW pre+q.1.1):=by simp [zW]
theorem Ny:∀ (pre:List Q64),bN (zW pre):=by
 intro pre;have z:bN 0:=by unfold bN;omega
 have:∀ (l:List Q64) (s:Int),bN s->bN (l.foldl (fun s q=>dY (s+q.1.1)) s):=by
  intro l;induction l with
  | nil=>exact fun s h=>h
  | cons q l ih=>exact fun s _=>ih _ (mT _)
 exact this pre 0 z
theorem QO {L:List Q64} {evs:List Int} (h:L.map Subtype.val=evs.map (fun e=>(e,(0:Int)))):L.map (fun q=>q.1.1)=evs:=by
 have h2:=congrArg (List.map Prod.fst) h;simpa [List.map_map,Function.comp_def] using h2
theorem Qc {L:List Q64} {evs:List Int} (h:L.map (fun q=>q.1.1)=evs):zW L=evs.foldl (fun s e=>dY (s+e)) 0:=by rw [<- h,List.foldl_map]
theorem Ll {x:AG} (h:iY x=0) (hn:jP x) (hS:SzG x):OkX x:=by
 obtain ⟨h1,h2,h3,h4,h5,h6⟩:=dU h;refine ⟨fun he=>?_,fun he=>?_,fun d hd=>?_,by omega⟩
 · have hc:¬ x.fn.data.toList=aO:=fun hc=>by unfold eP at he;rw [hc] at he;simp at he
   exact ⟨h3 hc,hn.e,hS.e⟩
 · have hc:x.fn.data.toList=aW:=by unfold bP at he;simpa using he
   exact ⟨h4 hc,hn.g,hS.g⟩
 · have:=yY x.wh h6 d hd
   exact ⟨⟨(this.2.1),(hn.c d hd).1,(hS.c d hd).1⟩,⟨(this.2.2),(hn.c d hd).2,(hS.c d hd).2⟩⟩
structure EPW (w:World) (x:AG) (p:PA) (V:World):Prop where
 k:KP9 (fun b=>b<w.heap.size) w x p V
 o:V.heap[w.heap.size+1]? = some (vlA 0 0 none 0 0)
theorem EPW.step {w V V':World} {x:AG} {p:PA} (h:EPW w x p V) (hb:Below V.heap.size V V'):EPW w x p V' :=
 ⟨h.k.step hb,(hb.block _ (aK h.o)).trans h.o⟩
theorem Hv {w:World} {x:AG} {p:PA} (hr:bC (fun b=>b<w.heap.size) w x p):EPW w x p ((w.alloc (agP x p)).alloc (vlA 0 0 none 0 0)):=by
 have hz:(w.alloc (agP x p)).heap.size=w.heap.size+1:=World.size_alloc _ _;have n2:=heap_alloc_new (w.alloc (agP x p)) (vlA 0 0 none 0 0);rw [hz] at n2;exact ⟨(sX hr).step (bA0 _ _),n2⟩
theorem EPW.put {w V:World} {x:AG} {p:PA} (h:EPW w x p V) (u0 u1 u2 u3:Value) :
 Below w.heap.size w ((((V.setCell ⟨w.heap.size+1,0,none⟩ u0).setCell ⟨w.heap.size+1,1,none⟩ u1).setCell ⟨w.heap.size+1,2,none⟩ u2).setCell ⟨w.heap.size+1,3,none⟩ u3) :=
 h.k.b.trans ((((((aD.refl (· = w.heap.size+1) V).setCell (p:=⟨w.heap.size+1,0,none⟩) (.inl rfl) _).setCell (p:=⟨w.heap.size+1,1,none⟩) (.inl rfl) _).setCell (p:=⟨w.heap.size+1,2,none⟩) (.inl rfl) _).setCell (p:=⟨w.heap.size+1,3,none⟩) (.inl rfl) _).below (fun b hb=>by omega) h.k.z)
theorem PL {f:Nat} {args:Array Value} {w:World} {Q:Ending->World->Prop} (h:CallsIn Fence.wide 4 Tryz.prog f args w Q):Calls Tryz.prog f args w Q:=callsIn_wide.1 h
theorem IP {G:Nat->Prop} (x:AG) (p:PA) (rs:List RW) (ya:Option Addr) (yc:Nat) (w:World) (h:iY x=0) (hn:jP x) (hS:SzG x) (hU:∀ r∈rs,mW r.A r.n r.g) (hl:rs.length<=1000) (hr:bC G w x p) (hy:dD w ya rs) (hc:x.fn.data.toList=aO) :
 Calls Tryz.prog 43 #[agV x p,.slice ya rs.length yc] w (CR (evG x (rs.map RW.g)) w):=by
 have hX:=Ll h hn hS;have gCount:(x.fn.toList == [99,111,117,110,116])=true:=bQ (by rw [hc];decide);have gSum:(x.fn.toList == [115,117,109])=false:=aI (by rw [hc];decide);have gTop:(x.fn.toList == [116,111,112])=false:=aI (by rw [hc];decide);have gMin:(x.fn.toList == [109,105,110])=false:=aI (by rw [hc];decide);have gMax:(x.fn.toList == [109,97,120])=false:=aI (by rw [hc];decide);have gFirst:(x.fn.toList == [102,105,114,115,116])=false:=aI (by rw [hc];decide);have hr':bC (fun b=>b<w.heap.size) w x p:=hr.imp (fun b hb _=>hb);have E0:=Hv hr';have K1:=hX.l;obtain ⟨L,hL⟩:=xI _ (GT hX hU)
 have hLl:L.length<=1000:=by
  have h1:(kJ x (rs.map RW.g)).length<=(rs.map RW.g).length:=List.length_filterMap_le ..;rw [<- hL,List.length_map,List.length_map] at h1;omega
 have hcl:=uJ hc (rs.map RW.g)
 rw [show ((iO x (rs.map RW.g)).length:Int)=(L.length:Int) by
  have h1:=congrArg List.length (hL.trans (Fe hc _));rw [List.length_map,List.length_map] at h1;rw [h1]] at hcl
 rw [hcl];have HX:=aA hX;have HU:=aA hU;have HL:=aA hL;have HLl:=aA hLl;have HY:=aA (fun V (hV:Below w.heap.size w V)=>pW hy hV);have CK:=aA (fun V (rd:bC (fun b=>b<w.heap.size) V x p)=>rG x p V hS (by omega) rd);rw [h] at CK;generalize hW1:w.alloc (agP x p)=W1 at E0;generalize hW:W1.alloc (vlA 0 0 none 0 0)=W at E0;have HW1:=aA hW1;have HW:=aA hW;have HK:=aA E0;clear hW1 hW E0 h hn hS hU hr hr' hy hX hL hLl hcl;obtain ⟨m0,m1,m2,m3,m4,m5,m6,m7,m8,m9,m10⟩:=aF HK.out.k.n;go_enter Tryz.func43,Tryz.ntmps43
 go_upto_region 1 with fail
 rw [show w.alloc (.cells #[.string x.fn,.int .i64 x.k,.string x.e.op,.string x.e.nm,.int .i64 x.e.n,.slice p.ea x.e.ks.len p.ec,.string x.g.op,.string x.g.nm,.int .i64 x.g.n,.slice p.ga x.g.ks.len p.gc,.slice p.wa x.wh.length p.wc] 70)=W1 from HW1.out,show W1.alloc (.cells #[.int .i64 0,.int .i64 0,.string ⟨#[]⟩,.slice none 0 0] 60)=W from HW.out];go_wp2_with fail
 refine (CK.out _ HK.out.k.r).mono ?_;rintro e w1 ⟨rfl,hb1⟩;have K1:=aA (HK.out.step hb1);clear hb1 m0 m1 m2 m3 m4 m5 m6 m7 m8 m9 m10;obtain ⟨m0,m1,m2,m3,m4,m5,m6,m7,m8,m9,m10⟩:=aF K1.out.k.n;have TO:=aA (uV x p rs ya yc w1 K1.out.k.r (HY.out _ K1.out.k.b));go_wp2_with fail
 refine TO.out.mono ?_;rintro e w2 ⟨bl,ba,bp,rfl,ta,hb2⟩;have TA:=aA ta;have K2:=aA (K1.out.step hb2);clear hb2 ta TO m0 m1 m2 m3 m4 m5 m6 m7 m8 m9 m10;obtain ⟨m0,m1,m2,m3,m4,m5,m6,m7,m8,m9,m10⟩:=aF K2.out.k.n
 have FD:=aA (PL (Mp bl ba bp L w2 w2 HLl.out (uU 2 HX.out HU.out (by omega) TA.out L HL.out) (Below.refl _ _) (fun pre:List Q64=>(pre.length:Int)) rfl (fun pre q V hlt=>by
  have h9:=HLl.out;refine (Im (pre.length:Int) q.1.1 q.1.2 V (by omega) (by omega)).mono ?_;rintro e V' ⟨rfl,hb⟩;exact ⟨by simp,hb⟩)))
 go_wp2_with fail
 refine FD.out.mono ?_;rintro e w3 ⟨rfl,hb3⟩;have K3:=aA (K2.out.step hb3);clear hb3 FD m0 m1 m2 m3 m4 m5 m6 m7 m8 m9 m10;obtain ⟨m0,m1,m2,m3,m4,m5,m6,m7,m8,m9,m10⟩:=aF K3.out.k.n;have NU:=aA (fun V=>vC ((L.length:Int)) V);go_wp2_with fail
 refine (NU.out _).mono ?_;rintro e w4 ⟨rfl,hb4⟩;have K4:=aA (K3.out.step hb4);clear hb4 NU m0 m1 m2 m3 m4 m5 m6 m7 m8 m9 m10;obtain ⟨⟨o0,o1,o2,o3⟩,z0,z1,z2,z3⟩:=aL K4.out.o;go_wp2_with fail
 obtain ⟨⟨y0,y1,y2,y3⟩, -⟩:=aL (aU K4.out.o (.int .i64 1) (.int .i64 ((L.length:Int))) (.string ⟨#[]⟩) (.slice none 0 0));exact bodyPost_ret (v:=.tuple #[vlV 1 ((L.length:Int)) none 0 0,.bool true]) (by simp [results,Tryz.results43,go_sem,y0,y1,y2,y3]) rfl ⟨K4.out.put _ _ _ _,rfl⟩
theorem Og {G:Nat->Prop} (x:AG) (p:PA) (rs:List RW) (ya:Option Addr) (yc:Nat) (w:World) (h:iY x=0) (hn:jP x) (hS:SzG x) (hU:∀ r∈rs,mW r.A r.n r.g) (hl:rs.length<=1000) (hr:bC G w x p) (hy:dD w ya rs) (hc:x.fn.data.toList=lT) :
 Calls Tryz.prog 43 #[agV x p,.slice ya rs.length yc] w (CR (evG x (rs.map RW.g)) w):=by
 have hX:=Ll h hn hS;have gCount:(x.fn.toList == [99,111,117,110,116])=false:=aI (by rw [hc];decide);have gSum:(x.fn.toList == [115,117,109])=true:=bQ (by rw [hc];decide);have gTop:(x.fn.toList == [116,111,112])=false:=aI (by rw [hc];decide);have gMin:(x.fn.toList == [109,105,110])=false:=aI (by rw [hc];decide);have gMax:(x.fn.toList == [109,97,120])=false:=aI (by rw [hc];decide);have gFirst:(x.fn.toList == [102,105,114,115,116])=false:=aI (by rw [hc];decide);have hr':bC (fun b=>b<w.heap.size) w x p:=hr.imp (fun b hb _=>hb);have E0:=Hv hr';have K1:=hX.l;obtain ⟨L,hL⟩:=xI _ (GT hX hU)
 have hLl:L.length<=1000:=by
  have h1:(kJ x (rs.map RW.g)).length<=(rs.map RW.g).length:=List.length_filterMap_le ..;rw [<- hL,List.length_map,List.length_map] at h1;omega
 have hcl:=Cj hc (rs.map RW.g);rw [<- Qc (QO (hL.trans (Qb (by rw [hc];decide) (by rw [hc];decide) _)))] at hcl;rw [hcl];have HX:=aA hX;have HU:=aA hU;have HL:=aA hL;have HLl:=aA hLl;have HY:=aA (fun V (hV:Below w.heap.size w V)=>pW hy hV);have CK:=aA (fun V (rd:bC (fun b=>b<w.heap.size) V x p)=>rG x p V hS (by omega) rd);rw [h] at CK;generalize hW1:w.alloc (agP x p)=W1 at E0;generalize hW:W1.alloc (vlA 0 0 none 0 0)=W at E0;have HW1:=aA hW1;have HW:=aA hW;have HK:=aA E0;clear hW1 hW E0 h hn hS hU hr hr' hy hX hL hLl hcl;obtain ⟨m0,m1,m2,m3,m4,m5,m6,m7,m8,m9,m10⟩:=aF HK.out.k.n;go_enter Tryz.func43,Tryz.ntmps43
 go_upto_region 1 with fail
 rw [show w.alloc (.cells #[.string x.fn,.int .i64 x.k,.string x.e.op,.string x.e.nm,.int .i64 x.e.n,.slice p.ea x.e.ks.len p.ec,.string x.g.op,.string x.g.nm,.int .i64 x.g.n,.slice p.ga x.g.ks.len p.gc,.slice p.wa x.wh.length p.wc] 70)=W1 from HW1.out,show W1.alloc (.cells #[.int .i64 0,.int .i64 0,.string ⟨#[]⟩,.slice none 0 0] 60)=W from HW.out];go_wp2_with fail
 refine (CK.out _ HK.out.k.r).mono ?_;rintro e w1 ⟨rfl,hb1⟩;have K1:=aA (HK.out.step hb1);clear hb1 m0 m1 m2 m3 m4 m5 m6 m7 m8 m9 m10;obtain ⟨m0,m1,m2,m3,m4,m5,m6,m7,m8,m9,m10⟩:=aF K1.out.k.n;have TO:=aA (uV x p rs ya yc w1 K1.out.k.r (HY.out _ K1.out.k.b));go_wp2_with fail
 refine TO.out.mono ?_;rintro e w2 ⟨bl,ba,bp,rfl,ta,hb2⟩;have TA:=aA ta;have K2:=aA (K1.out.step hb2);clear hb2 ta TO m0 m1 m2 m3 m4 m5 m6 m7 m8 m9 m10;obtain ⟨m0,m1,m2,m3,m4,m5,m6,m7,m8,m9,m10⟩:=aF K2.out.k.n
 have FD:=aA (PL (Mo bl ba bp L w2 w2 HLl.out (uU 2 HX.out HU.out (by omega) TA.out L HL.out) (Below.refl _ _) zW rfl (fun pre q V _=>by
  refine (Il (zW pre) q.1.1 q.1.2 V (Ny pre) q.2.1).mono ?_;rintro e V' ⟨rfl,hb⟩;exact ⟨by rw [Ij],hb⟩)))
 go_wp2_with fail
 refine FD.out.mono ?_;rintro e w3 ⟨rfl,hb3⟩;have K3:=aA (K2.out.step hb3);clear hb3 FD m0 m1 m2 m3 m4 m5 m6 m7 m8 m9 m10;obtain ⟨m0,m1,m2,m3,m4,m5,m6,m7,m8,m9,m10⟩:=aF K3.out.k.n;have NU:=aA (fun V=>vC (zW L) V);go_wp2_with fail
 refine (NU.out _).mono ?_;rintro e w4 ⟨rfl,hb4⟩;have K4:=aA (K3.out.step hb4);clear hb4 NU m0 m1 m2 m3 m4 m5 m6 m7 m8 m9 m10;obtain ⟨⟨o0,o1,o2,o3⟩,z0,z1,z2,z3⟩:=aL K4.out.o;go_wp2_with fail
 obtain ⟨⟨y0,y1,y2,y3⟩, -⟩:=aL (aU K4.out.o (.int .i64 1) (.int .i64 (zW L)) (.string ⟨#[]⟩) (.slice none 0 0));exact bodyPost_ret (v:=.tuple #[vlV 1 (zW L) none 0 0,.bool true]) (by simp [results,Tryz.results43,go_sem,y0,y1,y2,y3]) rfl ⟨K4.out.put _ _ _ _,rfl⟩
theorem xY {D:List Wr.AD} {e x:Wr.AD} (h:x∈Wr.putD D e):x∈D\/x=e:=by
 unfold Wr.putD at h;split at h
 · exact List.mem_or_eq_of_mem_set h
 · rcases List.mem_append.1 h with h | h
   · exact .inl (List.mem_of_mem_take h)
   · rcases List.mem_cons.1 h with h | h
     · exact .inr h
     · exact .inl (List.mem_of_mem_drop h)
theorem Ko (nm:ByteArray) (R:EvR):Wr.twA (evA nm R)=evA nm R:=by
 cases R <;> rfl
theorem QD {a b:Int} (h:lsL a b=true):a<b:=by simpa [lsL] using h
theorem KI {l:List Int} (h:dC lsL l):Wr.risesB l=true:=by
 rw [Wr.risesB_iff];intro j hj;have:=List.pairwise_iff_getElem.1 h j (j+1) (by omega) hj (by omega);have h1:l.getD j 0=l[j]:=by simp [List.getD,List.getElem?_eq_getElem (show j<l.length by omega)]
 have h2:l.getD (j+1) 0=l[j+1]:=by simp [List.getD,List.getElem?_eq_getElem hj]
 rw [h1,h2];exact QD this
theorem Ia (l:List Int):Wr.upTo (fun j=>l.getD j 0) l.length=l:=by
 unfold Wr.upTo;apply List.ext_getElem
 · simp
 · intro i h1 h2
   simp [List.getD,List.getElem?_eq_getElem h2]
theorem QP {x:AG} (h:iY x=0) (gs:List (ByteArray->Option Int)) (hok:KE (evG x gs)=true):Wr.errV (rzK (evG x gs)) ⟨#[]⟩ (rzL (evG x gs)).length (rzZ (evG x gs))=0:=by
 have hl:=Ht h gs;obtain ⟨h1,h2, -⟩:=dU h;unfold dX at h1;simp only [Bool.or_eq_true,beq_iff_eq] at h1
 have num:∀ R:EvR,KE R=true->(∃ n,R=.num n)\/R=.no->Wr.errV (rzK R) ⟨#[]⟩ (rzL R).length (rzZ R)=0:=by
  intro R hR hc;rcases hc with ⟨n,rfl⟩ | rfl
  · rfl
  · cases hR
 rcases h1 with ((((h1 | h1) | h1) | h1) | h1) | h1
 · exact num _ hok (by rw [uJ h1];exact .inl ⟨_,rfl⟩)
 · exact num _ hok (by rw [Hr h1];split <;> first | exact .inr rfl | exact .inl ⟨_,rfl⟩)
 · exact num _ hok (by rw [Hs h1];split <;> first | exact .inr rfl | exact .inl ⟨_,rfl⟩)
 · exact num _ hok (by rw [Cj h1];exact .inl ⟨_,rfl⟩)
 · exact num _ hok (by rw [Bl h1];split <;> first | exact .inr rfl | exact .inl ⟨_,rfl⟩)
 · have ht:=Hq h1 gs
   have hr:=(Dh (yW x gs) [] List.Pairwise.nil).1;generalize (yW x gs).foldl (oE lsL) []=T at ht hr;have hr2:dC lsL (T.drop (T.length-x.k.toNat)):=List.Pairwise.sublist (List.drop_sublist _ _) hr;rw [ht] at hl |-
   generalize T.drop (T.length-x.k.toNat)=L at hl hr2;show Wr.errV 3 ⟨#[]⟩ L.length (fun j=>L.getD j 0)=0;unfold Wr.errV;rw [if_neg (by decide),if_neg (by decide),if_pos rfl,Ia];unfold Wr.errL;rw [if_neg (by simp only [rzL] at hl;omega),KI hr2];rfl
theorem Nq {D:List Wr.AD} (h:∀ x∈D,Wr.twA x=x):Wr.twsA (Wr.atD D) D.length=D:=by
 unfold Wr.twsA;apply List.ext_getElem
 · simp
 · intro i h1 h2
   have e:Wr.atD D i=D[i]:=by simp [Wr.atD,List.getD,List.getElem?_eq_getElem h2]
   simp [e,h D[i] (List.getElem_mem h2)]
theorem NI {D:List Wr.AD} (h:dC lsS (Wr.nmD D)):Wr.RiseA (Wr.atD D) D.length:=by
 intro i j hij hj;have e:∀ i,(hi:i<D.length)->Wr.atD D i=D[i]:=fun i hi=>by simp [Wr.atD,List.getD,List.getElem?_eq_getElem hi]
 rw [e i (by omega),e j hj];have hz:(Wr.nmD D).length=D.length:=by simp [Wr.nmD]
 have:=List.pairwise_iff_getElem.1 h i j (by omega) (by omega) hij;simpa [Wr.nmD] using this
structure OkQ (D:List Wr.AD):Prop where
 tw:∀ x∈D,Wr.twA x=x
 ln:∀ x∈D,x.len<=16
 ri:dC lsS (Wr.nmD D)
theorem OkQ.put {D:List Wr.AD} (h:OkQ D) (nm:ByteArray) {R:EvR} (hl:(rzL R).length<=16):OkQ (Wr.putD D (evA nm R)) where
 tw:=fun x hx=>by
  rcases xY hx with hx | rfl
  · exact h.tw x hx
  · exact Ko _ _
 ln:=fun x hx=>by
  rcases xY hx with hx | rfl
  · exact h.ln x hx
  · exact hl
 ri:=by rw [Wr.nmD_put h.ri];exact oV fK h.ri _
theorem NF {V:World} {oa:Option Addr} {oc:Nat} {D:List Wr.AD} {nm:ByteArray} {R:EvR} {va:Option Addr} {vc:Nat} (hD:OkQ D) (h8:D.length<=20) (hg:bH nm.data.toList=true) (hn:nm.size<=8) (hl:(rzL R).length<=16) (hv:Wr.errV (rzK R) ⟨#[]⟩ (rzL R).length (rzZ R)=0)
 (h:Wr.ReadsA V oa D.length (Wr.atD D)) (hy:Wr.Reads V va (rzL R).length (rzZ R)) :
 Calls Tryz.prog 44 #[.slice oa D.length oc,.string nm,.agg #[.int .i64 (rzK R),.int .i64 (rzN R),.string ⟨#[]⟩,.slice va (rzL R).length vc]] V fun e w'=>(∃ a c,e=.returned (.tuple #[.slice a (Wr.putD D (evA nm R)).length c,.int .i64 0])/\Wr.ReadsA w' a (Wr.putD D (evA nm R)).length (Wr.atD (Wr.putD D (evA nm R))))/\Below V.heap.size V w':=by
 have at_:∀ j,j<D.length->(Wr.atD D j).len<=1000000:=fun j hj=>by
  have e:Wr.atD D j=D[j]:=by simp [Wr.atD,List.getD,List.getElem?_eq_getElem hj]
  rw [e];have:=hD.ln _ (List.getElem_mem hj);omega
 have S:=Wr.setL_any oa D.length oc (Wr.atD D) (evA nm R) va vc (by omega) at_ (NI hD.ri) (by show nm.size<=_;omega) (by show (0:Nat)<=_;omega) (by show (rzL R).length<=_;omega) V h hy;refine S.mono fun e w' hp=>?_
 unfold Wr.SetPost at hp;rw [Nq hD.tw,Ko] at hp
 have he:Wr.errSet D (evA nm R)=0:=by
  unfold Wr.errSet;rw [if_neg (show ¬ bH (evA nm R).m.data.toList=false by show ¬ bH nm.data.toList=false;rw [hg];decide)];rw [if_pos (show Wr.errV (evA nm R).k (evA nm R).s (evA nm R).len (evA nm R).z=0 from hv),if_neg (fun hh=>by have:=hh.2;omega)]
 rw [if_pos he] at hp;exact hp
theorem IK {G:Nat->Prop} (l:List LN) (a:Option Addr) (c:Nat) (rs:List RW) (ya:Option Addr) (yc:Nat) (w:World) (hN:PO l) (hO:OkP l) (hr:dH G w a l) (hy:dD w ya rs)
 (EV0:∀ (x:LN),x∈l->∀ (p:PA) (V:World),bC G V x.a p->dD V ya rs->Calls Tryz.prog 43 #[agV x.a p,.slice ya rs.length yc] V (CR (evG x.a (rs.map RW.g)) V)) :
 Calls Tryz.prog 17 #[.slice a l.length c,.slice ya rs.length yc] w fun e w'=>∃ oa oc,e=.returned (.slice oa (qZ (rs.map RW.g) l []).length oc)/\Wr.ReadsA w' oa (qZ (rs.map RW.g) l []).length (Wr.atD (qZ (rs.map RW.g) l []))/\Below w.heap.size w w':=by
 obtain ⟨gs,hgs⟩:∃ gs,rs.map RW.g=gs:=⟨_,rfl⟩;obtain ⟨full,hfull⟩:∃ t,qZ gs l []=t:=⟨_,rfl⟩;have EV:=aA EV0;clear EV0;rw [hgs] at EV |-
 rw [hfull];have HE:=aA (fun (x:LN) (hx:x∈l)=>And.intro (hN.fine x hx).1 (And.intro (hN.fine x hx).2.2 (hO.nm x hx).1));have hl:l.length<=8:=hN.len;have K0:=aA (show RNW G w a l ya rs none [] w from ⟨Below.refl _ _,hr,hy,⟨Nat.zero_le _,.inl rfl⟩⟩);have HF0:=aA (show qZ gs (l.drop 0) []=full by rw [List.drop_zero];exact hfull);have R0:=aA (show OkQ ([]:List Wr.AD) from ⟨fun _ h=>(nomatch h),fun _ h=>(nomatch h),List.Pairwise.nil⟩);clear hr hy hfull hgs hN hO;go_enter Tryz.func17,Tryz.ntmps17
 go_wp2_with fail
 go_loopw [5,14] (fun v i wr=>∃ (k n:Nat) (D:List Wr.AD) (oa:Option Addr) (oc:Nat),v=.slice oa n oc/\i=.int .i64 (k:Nat)/\k<=l.length/\n<=k/\Hid (D.length=n)/\Hid (qZ gs (l.drop k) D=full)/\Hid (OkQ D)/\Hid (RNW G w a l ya rs oa D wr)) (fun _ i _=>l.length-(intOf i).toNat)
 case atStart=>exact ⟨0,0,[],none,0,rfl,rfl,Nat.zero_le _,Nat.le_refl _,aA rfl,HF0,R0,K0⟩
 case round =>
  obtain ⟨k,n,D,oa,oc,rfl,rfl,hk,hnk,HL,HF,HR,HK⟩:=hrel;clear K0 HF0 R0;by_cases hlt:k<l.length
  · obtain ⟨x,hx⟩:∃ x,l[k]? = some x:=⟨_,List.getElem?_eq_getElem hlt⟩
    have hd:l.drop k=x::l.drop (k+1):=by
     rw [List.drop_eq_getElem_cons hlt];rw [List.getElem?_eq_getElem hlt] at hx;rw [Option.some.inj hx]
    have hmem:=List.mem_of_getElem? hx;obtain ⟨b,off,p,hya,hbl,hG,⟨p0,p1,p2,p3,p4,p5,p6,p7,p8,p9,p10,p11⟩,hrd⟩:=HK.out.l.at hx;subst hya;obtain ⟨R,hR⟩:∃ R,evG x.a gs=R:=⟨_,rfl⟩;have hF:=HF.out;rw [hd,qZ,hR] at hF;have BD:=bA0 wr (lnO x p);have ND:=heap_alloc_new wr (lnO x p);have E1:=EV.out x hmem p (wr.alloc (lnO x p)) (hrd.kept BD) (oW HK.out.y BD);have hz:=Ht (HE.out x hmem).1 gs;have hfit:=QP (HE.out x hmem).1 gs;rw [hR] at E1 hz hfit;have E2:=aA (E1.mono (fun e w' h=>Pd hz h));have HF2:=aA hF;have HZ:=aA hz;have HFIT:=aA hfit;have HGN:=aA (HE.out x hmem).2;have K2:=aA (HK.out.step BD);have b1:(k:Int)<(l.length:Int):=by omega
    have b2:(0:Int)<=(k:Int):=by omega
    have b3:((k:Int)).toNat=k:=by omega
    clear hd hx hF hG hR E1 hmem hz hrd hfit BD HK;go_upto_region 5 with fail
    generalize World.alloc wr _=V at ND K2 E2;generalize wr.heap.size=B2 at ND;have HND:=aA ND;obtain ⟨q0,q1,q2,q3,q4,q5,q6,q7,q8,q9,q10,q11⟩:=sF HND.out;clear ND p0 p1 p2 p3 p4 p5 p6 p7 p8 p9 p10 p11;go_wp2_with fail
    refine E2.out.mono ?_;rintro e w5 ⟨hb,va,vc,rfl,hv⟩;have BV:=bA0 w5 (.cells #[.int .i64 (rzK R),.int .i64 (rzN R),.string ⟨#[]⟩,.slice va (rzL R).length vc] 60);have K5:=(K2.out.step hb).step BV;have V5:=hv.kept BV;have NB:=heap_alloc_new w5 (.cells #[.int .i64 (rzK R),.int .i64 (rzN R),.string ⟨#[]⟩,.slice va (rzL R).length vc] 60);have P0:=(hb.trans (BV.mono hb.size)).block _ (aK HND.out);have P1:=P0.trans HND.out;clear hb hv BV P0 E2 q0 q1 q2 q3 q4 q5 q6 q7 q8 q9 q10 q11 K2 HND;go_upto_region 6 with fail
    generalize World.alloc w5 _=W at K5 V5 NB P1;generalize w5.heap.size=B at NB;have HK5:=aA K5;have HV5:=aA V5;have HNB:=aA NB;have HP1:=aA P1;clear K5 V5 NB P1;cases hok:KE R with
    | false =>
      have HF3:=aA (show qZ gs (l.drop (k+1)) D=full by have:=HF2.out;rw [hok,if_neg (by decide)] at this;exact this);clear hok HF2;go_wp2_with fail
      go_roundw
      case rel=>exact ⟨k+1,n,D,oa,oc,rfl,by go_num,by omega,by omega,HL,HF3,HR,HK5⟩
      case measure=>simp [intOf];omega
    | true =>
      have HF3:=aA (show qZ gs (l.drop (k+1)) (Wr.putD D (evA x.nm R))=full by have:=HF2.out;rw [hok,if_pos rfl] at this;exact this);have SC:=NF (nm:=x.nm) (R:=R) (oc:=oc) (vc:=vc) HR.out (by rw [HL.out];omega) HGN.out.2 HGN.out.1 HZ.out (HFIT.out hok) HK5.out.o HV5.out;rw [HL.out] at SC;have HSC:=aA SC;obtain ⟨c0,c1,c2,c3⟩:=Rv HNB.out;obtain ⟨q0, -⟩:=sF HP1.out;have hput:(Wr.putD D (evA x.nm R)).length<=D.length+1:=by unfold Wr.putD;split <;> simp <;> omega
      have hp2:(Wr.putD D (evA x.nm R)).length<=n+1:=by rw [<- HL.out];exact hput
      have HR2:=aA (HR.out.put x.nm HZ.out);clear hok HF2 SC hput;obtain ⟨m,hm⟩:∃ m,(Wr.putD D (evA x.nm R)).length=m:=⟨_,rfl⟩;rw [hm] at hp2 HSC;have HM:=aA hm;clear hm;go_wp2_with fail
      refine HSC.out.mono ?_;rintro e w6 ⟨⟨oa2,oc2,rfl,hA⟩,hb⟩;have K6:=HK5.out.step hb;have HK6:=aA (show RNW G w (some ⟨b,off,none⟩) l ya rs oa2 (Wr.putD D (evA x.nm R)) w6 from ⟨K6.b,K6.l,K6.y,by rw [HM.out];exact hA⟩);clear hb hA K6 c0 c1 c2 c3 q0 HSC;go_wp2_with fail
      go_roundw
      case rel=>exact ⟨k+1,m,_,oa2,oc2,rfl,by go_num,by omega,by omega,HM,HF3,HR2,HK6⟩
      case measure=>simp [intOf];omega
  · have e1:l.drop k=[]:=List.drop_of_length_le (by omega)
    have HD:=aA (show D=full by rw [<- HF.out,e1];rfl);have b1:¬ (k:Int)<(l.length:Int):=by omega
    clear e1;go_wp2_with fail
    go_ret;exact ⟨oa,⟨oc,by rw [<- HD.out,HL.out];rfl⟩,by rw [<- HD.out];exact HK.out.o,HK.out.b⟩
theorem QJ (a:Option Addr) (c:Nat) (ya:Option Addr) (yc:Nat) (w:World) (hr:dH (fun _=>True) w a uD) (hy:dD w ya tU):Calls Tryz.prog 17 #[.slice a 2 c,.slice ya 2 yc] w fun e w'=>∃ oa oc,e=.returned (.slice oa 2 oc)/\Wr.ReadsA w' oa 2 (Wr.atD d12)/\Below w.heap.size w w':=by
 have hN:=xJ Cb
 have h:=IK uD a c tU ya yc w hN (DI Cb) hr hy (fun x hx p V h1 h2=>by
  have f:=hN.fine x hx;have z:=hN.sz x hx
  have hc:x.a.fn.data.toList=lT\/x.a.fn.data.toList=aO:=by
   simp only [uD,List.mem_cons,List.not_mem_nil,or_false] at hx;rcases hx with rfl | rfl
   · exact .inl rfl
   · exact .inr rfl
  rcases hc with hc | hc
  · exact Og x.a p tU ya yc V f.1 f.2.1 z.1 wZ (by decide) h1 h2 hc
  · exact IP x.a p tU ya yc V f.1 f.2.1 z.1 wZ (by decide) h1 h2 hc)
 rw [KH] at h;exact h
theorem Rq:QY where
 ps:=fun w hw=>by have h:=kR Jg (by decide) w hw;rwa [Cb] at h
 pt:=fun w hw=>by have h:=kR OO (by decide) w hw;rwa [QL] at h
 rn:=QJ
 tx:=fun a c w hw hr=>by
  have h:=Aa uD a c w (by decide) (xJ Cb).fine hw hr;rwa [L9] at h
 ck:=fun w hw=>by
  have h:=oX Ad (by decide) (by decide) w hw;rwa [OQ] at h
end
section
open Go.ChangeShapes Go.WideShapes Go.ChangeAt Go.RowKit
theorem IW:ownKnob Tryz.prog.godebug=none:=by kernel_rfl
theorem AV:laidOutB Tryz.prog=true:=by kernel_rfl
theorem vL {w:World} {n:String} {g:Nat} {cs:Array Value} (hg:Tryz.prog.globalNamed n=some g) (h:w.var? Tryz.prog n=some cs):∃ t f,w.heap[g]? = some (.cells cs t f):=by
 unfold World.var? at h;rw [hg] at h;simp only [Option.bind_some] at h;split at h
 · rename_i cs' t f e
   cases h;exact ⟨t,f,e⟩
 · cases h
abbrev rJ:List (String×DataW Unit):=Rows.progOrderRow.laid
theorem Dr: "*" ++ "errors.errorString" = "*errors.errorString" := by decide
theorem NH (u:TypeId) (h:Tryz.prog.typeName? 3 u=some "*errors.errorString"):u=361 :=
 typeName_ptr_named (nm:= "errors.errorString") (by rw [Dr];kernel_rfl) (by kernel_rfl) (by decide) u (by rw [Dr];exact h)
theorem LZ {W:World} (h:laidMetH Tryz.prog rJ W):lP W:=by
 rw [MakeChecks.laidMetH_plain _ _ _ (by kernel_rfl)] at h;have h2:=h.tail.tail;have htab:=Lib.tabIs_of_head (g:=1) (k:=.u64) (zs:=Lib.pow10Tab) (by kernel_rfl) (by kernel_rfl) Tryz.underlying316 Tryz.underlying268 (by kernel_rfl) (by kernel_rfl) h2;unfold Lib.TabIs World.var? at htab;rw [show Tryz.prog.globalNamed "internal/strconv.uint64pow10" = some 1 by kernel_rfl] at htab;simp only [Option.bind_some] at htab;split at htab
 · rename_i cs' t f e
   cases htab;exact ⟨t,f,e⟩
 · cases htab
theorem LY {W:World} (h:laidMetH Tryz.prog rJ W):iG W:=by
 rw [MakeChecks.laidMetH_plain _ _ _ (by kernel_rfl)] at h;have h4:=h.tail.tail.tail.tail;have h5:=h4.tail;have hrow:∀ u,Tryz.prog.typeName? 3 u=some "*errors.errorString" -> u=361:=NH;obtain ⟨a0,s0,v0, -, -, -⟩:=laid_sentinel (g:=7) h4 (by kernel_rfl) (by kernel_rfl) Tryz.underlying94 hrow Tryz.underlying361 Tryz.underlying363 rfl rfl Tryz.underlying9 (by kernel_rfl) (by kernel_rfl);obtain ⟨a1,s1,v1, -, -, -⟩:=laid_sentinel (g:=6) h5 (by kernel_rfl) (by kernel_rfl) Tryz.underlying94 hrow Tryz.underlying361 Tryz.underlying363 rfl rfl Tryz.underlying9 (by kernel_rfl) (by kernel_rfl);obtain ⟨t1,f1,p1⟩:=vL (g:=7) (by kernel_rfl) v0;obtain ⟨t2,f2,p2⟩:=vL (g:=6) (by kernel_rfl) v1;exact ⟨⟨_,_,t2,f2,p2⟩,⟨_,_,t1,f1,p1⟩⟩
theorem LV {W:World} (h:laidMetH Tryz.prog rJ W):vT W:=⟨LY h,LZ h⟩
theorem Fg (os:Os) (args:Array Value):laidMetH Tryz.prog rJ ((World.laidAll Tryz.prog os rJ).forCall (fun _ _=>0) ⟨#[],args,[]⟩).memory:=by
 rw [MakeChecks.laidMetH_plain _ _ _ (by kernel_rfl)];exact laidMet_laidAll _ (by kernel_rfl) (by kernel_rfl)
theorem zX (os:Os):(World.laidAll Tryz.prog os rJ).Shaped Tryz.prog:=World.shaped_of_ZipB (by kernel_rfl) (by kernel_rfl)
end
section
open Go.RowKit Go.ChangeShapes Go.WideShapes Go.Deep
theorem IG:Tryz.prog.cellsOf 46=3:=by kernel_rfl
theorem G1 {H:Type} {enc:TypeId×Value->H} {W:World} {base:Nat} {v:Value} {d:DataW H} {p:List MemPlace} (hv:Value.okWide Tryz.prog W .any base 46 v) (h:DataW.Trod enc Tryz.prog W 0 (fun _=>true) true 46 v d p) :
 ∃ x:PD,v=pdV x:=by
 obtain ⟨cs,rfl,hsz⟩:=okWide_struct Tryz.underlying46 hv;obtain ⟨fuel,hf⟩:=h;obtain ⟨l⟩:=cs;obtain ⟨zs,m', -, -,hlen,hzl,hz⟩:=DataW.trod_struct Tryz.underlying46 hf;rw [IG] at hlen;have z3:zs.length=3:=hzl;match l,hlen with
 | [c1, c2, c3], _ =>
   match zs,z3 with
   | [z0, z1, z2], _ =>
     have g0:DataW.trod enc Tryz.prog W 0 (fun _=>true) true m' 2 [c1]=some z0:=hz 0 _ rfl;have g1:DataW.trod enc Tryz.prog W 0 (fun _=>true) true m' 9 [c2]=some z1:=hz 1 _ rfl;have g2:DataW.trod enc Tryz.prog W 0 (fun _=>true) true m' 9 [c3]=some z2:=hz 2 _ rfl;obtain ⟨t,e1, -, -⟩:=DataW.trod_int Tryz.underlying2 g0;obtain ⟨o,e2, -, -⟩:=DataW.trod_string Tryz.underlying9 g1;obtain ⟨u,e3, -, -⟩:=DataW.trod_string Tryz.underlying9 g2;cases e1;cases e2;cases e3;exact ⟨⟨t,o,u⟩,rfl⟩
end
section
open Go.ChangeShapes Go.WideShapes Go.ChangeAt Go.RowKit
open Go.ChangeMaps (open_string shut_string)
theorem progTwo_lifted (os:Os) (started:os.Started) (H:Type) (enc:TypeId×Value->H) :
 ReturnsInHanded {} Tryz.checked os 5 .any (fun w args=>(Rows.progTwoSpec.pre enc Tryz.prog Tryz.f5 Rows.progTwoRow.domain false w args/\laidMetH Tryz.prog rJ w)/\sizedMet enc Tryz.prog Tryz.f5 (OpenSpec.ofChange Rows.progTwoSpec) false w args)
  (Rows.progTwoSpec.post enc Tryz.prog Tryz.f5 false true false false):=by
 refine returnsInHanded_of_change_and (C:=Tryz.checked) (X:=fun w _=>laidMetH Tryz.prog rJ w) (fun _ _ _ hh h=>h.of_heap hh) IW started (by kernel_rfl) Tryz.func5
  (ChangeSpec.witness_shaped (enc:=enc) (C:=Tryz.checked) (os:=os) (X:=fun w _=>laidMetH Tryz.prog rJ w) false (World.laidAll Tryz.prog os rJ) #[.agg #[.int .i64 0,.string ⟨#[]⟩,.string ⟨#[]⟩],.agg #[.int .i64 0,.string ⟨#[]⟩,.string ⟨#[]⟩],.string ⟨#[]⟩] 8 (World.laidAll_os _ _ _)
   (zX os) (by kernel_rfl) (by kernel_rfl) (by kernel_rfl) (Fg os _)) ?_
 intro W base args ds gs before hval0 hW _ _ hL _;have hval:∀ (j:Nat) t v,Tryz.f5.params[j]? = some t->args[j]? = some v->Value.okWide Tryz.prog W .any base t v:=hval0;have hW':=hW;obtain ⟨p,q,hA0,hV,rfl,_,_⟩:=hW;have hA:DataW.TrodAll enc Tryz.prog W 0 (fun _=>true) true Tryz.f5.params.toList args.toList ds p:=hA0;rw [Tryz.params5] at hA hval;obtain ⟨v0,vs0,d0,ds0,p0,q0,hargs,rfl,rfl,h0,r0⟩:=trodAll_cons hA;obtain ⟨v1,vs1,d1,ds1,p1,q1,rfl,rfl,rfl,h1,r1⟩:=trodAll_cons r0;obtain ⟨v2,vs2,d2,ds2,p2,q2,rfl,rfl,rfl,h2,r2⟩:=trodAll_cons r1;obtain ⟨rfl,rfl,rfl⟩:=trodAll_nil r2;obtain rfl:args=#[v0,v1,v2]:=by cases args;simp_all
 obtain ⟨rfl,rfl⟩:=trodVars_none hV;have k0:=h0;have lt0:∀ x∈p0,x.block<W.heap.size:=by obtain ⟨m,hm⟩:=k0;exact DataW.trod_lt m _ _ _ hm
 obtain ⟨x0,rfl⟩:=G1 (hval 0 46 v0 rfl rfl) h0;have k1:=h1;have lt1:∀ x∈p1,x.block<W.heap.size:=by obtain ⟨m,hm⟩:=k1;exact DataW.trod_lt m _ _ _ hm
 obtain ⟨x1,rfl⟩:=G1 (hval 1 46 v1 rfl rfl) h1;obtain ⟨s2,rfl,rfl,rfl,w2⟩:=open_string Tryz.underlying9 (hval 2 9 v2 rfl rfl) h2;have hw:=LV hL;clear hA0 hval0 hL;refine (BO Rq x0 x1 s2  W hw).mono fun e W' ⟨he,bel⟩=>?_
 subst he;exact ⟨_,rfl,_,_,_,[],_,[],hW',trodAll_mk1 (shut_bool Tryz.underlying4 _),(trodAll_cons_mk (Below.trod AV (by kernel_rfl) (of_decide_eq_true (by kernel_rfl)) k0 bel lt0) (trodAll_cons_mk (Below.trod AV (by kernel_rfl) (of_decide_eq_true (by kernel_rfl)) k1 bel lt1) (trodAll_cons_mk (shut_string Tryz.underlying9 w2) trodAll_mk0))),rfl,bel.frame _,fun h=>by cases h⟩
end
end Go.Proofs.YtgfkjkokmcejbaaGreatDoor
