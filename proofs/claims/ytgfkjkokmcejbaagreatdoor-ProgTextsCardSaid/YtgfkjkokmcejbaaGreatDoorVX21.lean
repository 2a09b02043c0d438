/-
 No statement: the lifted proof of ProgTexts.
-/
import Derived.Test.YtgfkjkokmcejbaaGreatDoorVX20
import Derived.RangeFuncKeeps
import Derived.Test.YtgfkjkokmcejbaaGreatDoorTie
import Derived.ProofKit
import Derived.OpenShut
import Derived.LaidMore
import Derived.Lay
import Derived.SevenTiedAt
import Derived.Stop.Joined
import Derived.Stop.LaidErr
import Derived.Lib.LaidTab
import Derived.Carry
import Derived.Test.YtgfkjkokmcejbaaGreatDoorCards
import Derived.ShutString
import Derived.ChangeOld
set_option maxHeartbeats 40000000
set_option maxRecDepth 100000
open List renaming length_append -> Tb, length_cons -> Te
open Go.World renaming size_alloc -> Tc
open Nat renaming le_refl -> Td
namespace Go.Proofs.YtgfkjkokmcejbaaGreatDoor
open Go.RowKit Go.Proofs.Tryz
theorem two {W:World} {B:Nat} {b a:Value} {t:TypeId} (h:W.heap[B]? = some (.cells #[b,a] t (0,0))) :
 (W.cell? ⟨B,0,none⟩=some b/\W.cell? ⟨B,1,none⟩=some a)/\W.frozen? ⟨B,0,none⟩=false/\W.frozen? ⟨B,1,none⟩=false:=by
 refine ⟨⟨?_,?_⟩,?_,?_⟩ <;> simp [World.cell?,World.frozen?,h]
theorem pY {W:World} {B:Nat} {d c:Value} {t:TypeId} (h:W.heap[B]? = some (.cells #[d,c] t (0,0))) (a b:Value) :
 ((W.setCell ⟨B,0,none⟩ a).setCell ⟨B,1,none⟩ b).heap[B]? = some (.cells #[a,b] t (0,0)):=by
 have g:=heap_setCell_same W B 0 _ t a h;have j:(W.setCell ⟨B,0,none⟩ a).heap[B]? = some (.cells #[a,c] t (0,0)):=by simpa using g
 have f:=heap_setCell_same _ B 1 _ t b j;simpa using f
theorem Dz {W:World} {B:Nat} {b a:Value} {t:TypeId} (h:W.heap[B]? = some (.cells #[b,a] t (0,0))) (v:Value):(W.setCell ⟨B,0,none⟩ v).heap[B]? = some (.cells #[v,a] t (0,0)):=by
 have c:=heap_setCell_same W B 0 _ t v h;simpa using c
theorem Dy {W:World} {B:Nat} {a b:Value} {t:TypeId} (h:W.heap[B]? = some (.cells #[a,b] t (0,0))) (v:Value):(W.setCell ⟨B,1,none⟩ v).heap[B]? = some (.cells #[a,v] t (0,0)):=by
 have c:=heap_setCell_same W B 1 _ t v h;simpa using c
abbrev rM (u v:Int):Obj:=.cells #[.int .i64 u,.int .i64 v] 163
abbrev Ix (q:Int×Int):Value:=.agg #[.int .i64 q.1,.int .i64 q.2]
def Fy:Bool->Int->Option Int->Option (Int×Int)
 | true,_,none=>none
 | true,e,some b=>some (e,b)
 | false,e,_=>some (e,0)
def Ou:Bool->Bool->Bool->Option Int->Option Int->Option (Int×Int)
 | false,_,_,_,_=>none
 | true,true,_,none,_=>none
 | true,true,bb,some e,vb=>Fy bb e vb
 | true,false,bb,_,vb=>Fy bb 0 vb
def mD (x:AG) (g:Tr->Option Int):Option (Int×Int):=Ou (eH g x.wh) (eP x.fn.data.toList) (bP x.fn.data.toList) (evT g x.e) (evT g x.g)
def RY (q:Option (Int×Int)) (u v:Int):Prop:=∀ z,q=some z->z=(u,v)
theorem qF (u v:Int):RY none u v:=fun z h=>by cases h
theorem AU (u v:Int):RY (some (u,v)) u v:=fun _ h=>(Option.some.inj h).symm
structure TKW (w:World) (x:AG) (p:PA) (V:World):Prop where
 k:KP9 (fun b=>b<w.heap.size) w x p V
 t:V.heap[w.heap.size+1]? = some (ptO (kP x.fn.data.toList) (eP x.fn.data.toList) (bP x.fn.data.toList))
 o:V.heap[w.heap.size+2]? = some (rM 0 0)
theorem TKW.step {w:World} {x:AG} {p:PA} {V V':World} (h:TKW w x p V) (a:Below V.heap.size V V'):TKW w x p V' :=
 ⟨h.k.step a,(a.block _ (aG h.t)).trans h.t,(a.block _ (aG h.o)).trans h.o⟩
theorem TKW.set {w:World} {x:AG} {p:PA} {V:World} (h:TKW w x p V) {D:Nat} (f:w.heap.size+3<=D) (i:Nat) (v:Value):TKW w x p (V.setCell ⟨D,i,none⟩ v):=by
 have a:=(aC.refl (· = D) V).setCell (p:=⟨D,i,none⟩) (.inl rfl) v;exact ⟨⟨h.k.b.trans (a.below (B:=w.heap.size) (fun b c=>by omega) h.k.z),Nat.le_trans h.k.z a.size,a.heap h.k.n (by omega),h.k.r.keptS a (fun b c d=>by omega)⟩,a.heap h.t (by omega),a.heap h.o (by omega)⟩
theorem TKW.put {w:World} {x:AG} {p:PA} {V:World} (h:TKW w x p V) (c a:Value):Below w.heap.size w ((V.setCell ⟨w.heap.size+2,0,none⟩ c).setCell ⟨w.heap.size+2,1,none⟩ a) :=
 h.k.b.trans ((((aC.refl (· = w.heap.size+2) V).setCell (p:=⟨w.heap.size+2,0,none⟩) (.inl rfl) c).setCell (p:=⟨w.heap.size+2,1,none⟩) (.inl rfl) a).below (B:=w.heap.size) (fun b d=>by omega) h.k.z)
theorem Oq {w:World} {x:AG} {p:PA} (hr:aX (fun b=>b<w.heap.size) w x p):TKW w x p (((w.alloc (agP x p)).alloc (ptO (kP x.fn.data.toList) (eP x.fn.data.toList) (bP x.fn.data.toList))).alloc (rM 0 0)):=by
 have K:=qS hr;have a:(w.alloc (agP x p)).heap.size=w.heap.size+1:=Tc _ _;generalize w.alloc (agP x p)=W0 at *;have h:=bA0 W0 (ptO (kP x.fn.data.toList) (eP x.fn.data.toList) (bP x.fn.data.toList));have f:=heap_alloc_new W0 (ptO (kP x.fn.data.toList) (eP x.fn.data.toList) (bP x.fn.data.toList));have c:(W0.alloc (ptO (kP x.fn.data.toList) (eP x.fn.data.toList) (bP x.fn.data.toList))).heap.size=W0.heap.size+1:=Tc _ _;generalize W0.alloc (ptO (kP x.fn.data.toList) (eP x.fn.data.toList) (bP x.fn.data.toList))=W1 at *;have g:=bA0 W1 (rM 0 0);have d:=heap_alloc_new W1 (rM 0 0);rw [a] at f;rw [c,a] at d;exact ⟨(K.step h).step g,(g.block _ (by omega)).trans f,d⟩
theorem IB {A:Nat->Wr.AD} {n:Nat} {g:Tr->Option Int} (U:nD A n g) (x:AG) (p:PA) (y:Tp) (cy:Nat) (w:World) {G:Nat->Prop} (hE:eP x.fn.data.toList=true->OkE x.e) (hG:bP x.fn.data.toList=true->OkE x.g)
 (hC:∀ d∈x.wh,OkE d.a/\OkE d.b) (hl:x.wh.length<=1000) (hr:aX G w x p) (hy:Wr.ReadsA w y n A) :
 Calls prog 140 #[agV x p,ptV x.fn.data.toList,.slice y n cy] w fun e w'=>∃ u v,e=.returned (.tuple #[.agg #[.int .i64 u,.int .i64 v],.bool (mD x g).isSome])/\RY (mD x g) u v/\Below w.heap.size w w':=by
 have jk:aX (fun b=>b<w.heap.size) w x p:=hr.imp (fun b hb _=>hb);have K0:=Oq jk;have HY:=aA (fun V (hV:Below w.heap.size w V)=>hy.kept hV);have ji:=aA (fun (he:eP x.fn.data.toList=true) V (rd:aK (fun b=>b<w.heap.size) V p.ea x.e.ks) (ry:Wr.ReadsA V y n A)=>qK U x.e (hE he).c (hE he).n (hE he).s (fun b=>b<w.heap.size) V p.ea p.ec y cy rd ry);have jh:=aA (fun (he:bP x.fn.data.toList=true) V (rd:aK (fun b=>b<w.heap.size) V p.ga x.g.ks) (ry:Wr.ReadsA V y n A)=>qK U x.g (hG he).c (hG he).n (hG he).s (fun b=>b<w.heap.size) V p.ga p.gc y cy rd ry);have HC:=aA (fun d hd V a1 c1 a2 c2 (r1:aK (fun b=>b<w.heap.size) V a1 d.a.ks) (r2:aK (fun b=>b<w.heap.size) V a2 d.b.ks) (ry:Wr.ReadsA V y n A)=>Gt U d (hC d hd).1 (hC d hd).2 (fun b=>b<w.heap.size) a1 c1 a2 c2 y cy V r1 r2 ry);unfold mD ptV;have DT:=aA (fun V (h:TKW w x p V)=>h.t);obtain ⟨kk,je⟩:∃ b,kP x.fn.data.toList=b:=⟨_,rfl⟩;obtain ⟨ee,T⟩:∃ b,eP x.fn.data.toList=b:=⟨_,rfl⟩;obtain ⟨S,X⟩:∃ b,bP x.fn.data.toList=b:=⟨_,rfl⟩;rw [je,T,X] at DT K0;rw [T] at ji;rw [X] at jh;rw [je,T,X];obtain ⟨ve,jb⟩:∃ v,evT g x.e=v:=⟨_,rfl⟩;obtain ⟨vb,jc⟩:∃ v,evT g x.g=v:=⟨_,rfl⟩;rw [jb] at ji;rw [jc] at jh;rw [jb,jc];obtain ⟨tk,jd⟩:∃ v,eH g x.wh=v:=⟨_,rfl⟩;rw [jd];obtain ⟨q,hq⟩:∃ q,Ou tk ee S ve vb=q:=⟨_,rfl⟩;rw [hq];have HQ:=aA hq;have T0:=aA (show eH g (x.wh.drop 0)=tk by rw [List.drop_zero];exact jd);generalize hW:((w.alloc (agP x p)).alloc (ptO kk ee S)).alloc (rM 0 0)=W at K0;have HW:=aA hW;have K1:=aA K0;clear hW K0 hr jk hy hE hG hC je T X jb jc jd hq
 obtain ⟨m0,m1,m2,m3,m4,m5,m6,m7,m8,m9,j⟩:=aE K1.out.k.n;go_enter func140,ntmps140
 go_upto_region 1 with fail
 rw [show ((w.alloc (.cells #[.string x.fn,.int .i64 x.k,.string x.e.op,.string x.e.nm,.int .i64 x.e.n,.slice p.ea x.e.ks.len p.ec,.string x.g.op,.string x.g.nm,.int .i64 x.g.n,.slice p.ga x.g.ks.len p.gc,.slice p.wa x.wh.length p.wc] 70)).alloc (.cells #[.bool kk,.bool ee,.bool S] 212)).alloc (.cells #[.int .i64 0,.int .i64 0] 163)=W from HW.out];go_wp2_with fail
 clear m0 m1 m2 m3 m4 m5 m6 m7 m8 m9 j;go_loopw [9,15] (fun v9 i wr=>∃ (k:Nat) (u:Value),v9=u/\i=.int .i64 k/\k<=x.wh.length/\Hid (eH g (x.wh.drop k)=tk)/\Hid (TKW w x p wr)) (fun _ i _=>x.wh.length-(intOf i).toNat)
 case atStart=>exact ⟨0,_,rfl,rfl,Nat.zero_le _,T0,K1⟩
 case round =>
  obtain ⟨k,u,rfl,rfl,hk,HT,HK⟩:=hrel;clear T0 K1;by_cases l:k<x.wh.length
  · obtain ⟨d,hd⟩:∃ d,x.wh[k]? = some d:=⟨_,List.getElem?_eq_getElem l⟩
    have jl:¬ x.wh=[]:=fun e=>by rw [e] at l;simp at l
    obtain ⟨b,off,jj, -,jq,jn⟩:=HK.out.k.r.c.resolve_left jl;obtain ⟨a1,c1,a2,c2,⟨p0,p1,p2,p3,p4,p5,p6,p7,p8⟩,r1,r2⟩:=jn k d hd
    have jm:x.wh.drop k=d::x.wh.drop (k+1):=by
     rw [List.drop_eq_getElem_cons l];have:=List.getElem?_eq_getElem l;rw [this] at hd;rw [Option.some.inj hd]
    have HD:=aA (show (BO g d && eH g (x.wh.drop (k+1)))=tk by rw [<- HT.out,jm,Iz]);have BD:=bA0 wr (cdX d a1 c1 a2 c2);have ND:=heap_alloc_new wr (cdX d a1 c1 a2 c2);have K4:=aA (HK.out.step BD);have CC:=aA (HC.out d (List.mem_of_getElem? hd) (wr.alloc (cdX d a1 c1 a2 c2)) a1 c1 a2 c2 (r1.kept BD) (r2.kept BD) (HY.out _ K4.out.k.b));obtain ⟨z,hz⟩:∃ z,BO g d=z:=⟨_,rfl⟩;rw [hz] at CC HD;rw [jj];have N:(k:Int)<(x.wh.length:Int):=by omega
    have b2:(0:Int)<=(k:Int):=by omega
    have b3:((k:Int)).toNat=k:=by omega
    clear jl jn jm hd r1 r2 BD hz jj HT HK;go_upto_region 4 with fail
    rw [show wr.alloc (.cells #[.string d.op,.string d.a.op,.string d.a.nm,.int .i64 d.a.n,.slice a1 d.a.ks.len c1,.string d.b.op,.string d.b.nm,.int .i64 d.b.n,.slice a2 d.b.ks.len c2] 144)=wr.alloc (cdX d a1 c1 a2 c2) from rfl];generalize wr.alloc (cdX d a1 c1 a2 c2)=V1 at *;clear p0 p1 p2 p3 p4 p5 p6 p7 p8;obtain ⟨p0,p1,p2,p3,p4,p5,p6,p7,p8⟩:=iD ND;clear ND;go_wp2_with fail
    refine CC.out.mono ?_;rintro e w5 ⟨rfl,jo⟩;have K5:=aA (K4.out.step jo);clear jo CC K4 p0 p1 p2 p3 p4 p5 p6 p7 p8;cases z with
    | true =>
      have m:=aA (show eH g (x.wh.drop (k+1))=tk from HD.out);go_wp2_with fail
      go_roundw
      case rel=>exact ⟨k+1,_,rfl,by go_num,by omega,m,K5⟩
      case measure=>simp [intOf];omega
    | false =>
      have m:=aA (show false=tk from HD.out);have O:=aA (show q=none by rw [<- HQ.out, <- m.out];rfl);obtain ⟨⟨o0,o1⟩,g0,g1⟩:=two K5.out.o;go_wp2_with fail
      obtain ⟨⟨M,L⟩, -⟩:=two (pY K5.out.o (.int .i64 0) (.int .i64 0));have P:=K5.out.put (.int .i64 0) (.int .i64 0);have E:=O.out;subst E;exact bodyPost_ret (v:=.tuple #[.agg #[.int .i64 0,.int .i64 0],.bool false]) (by simp [results,results140,go_sem,M,L]) rfl ⟨0,0,rfl,qF _ _,P⟩
  · have m:=aA (show tk=true by rw [<- HT.out,List.drop_of_length_le (by omega)];rfl)
    have N:¬ (k:Int)<(x.wh.length:Int):=by omega
    have b2:decide (k<x.wh.length)=false:=decide_eq_false l;have ja:=aA (show Ou true ee S ve vb=q by rw [<- m.out];exact HQ.out);have BA:=bA0 wr (rM 0 0);have NA:=heap_alloc_new wr (rM 0 0);have K2:=aA (HK.out.step BA);have hD:=aG HK.out.o;clear HT HK BA HQ m;go_upto_region 8 with fail
    rw [show wr.alloc (.cells #[.int .i64 0,.int .i64 0] 163)=wr.alloc (rM 0 0) from rfl];generalize wr.alloc (rM 0 0)=V at *;generalize wr.heap.size=D at *;have Z:w.heap.size+3<=D:=by omega
    have Q2:=aA NA;clear NA;obtain ⟨⟨y0,y1,y2⟩, -⟩:=d9 (DT.out _ K2.out);obtain ⟨m0,m1,m2,m3,m4,m5,m6,m7,m8,m9,j⟩:=aE K2.out.k.n;obtain ⟨⟨C,s1⟩,I,H⟩:=two Q2.out;go_upto_if 26 with fail
    go_cut [11] (fun jp wc=>∃ (u:Int) (z:Bool),jp=.bool z/\Hid (TKW w x p wc)/\Hid (wc.heap[D]? = some (rM u 0))/\Hid ((z=true->Fy S u vb=q)/\(z=false->q=none)))
    case first =>
     cases ee with
     | false =>
       have TS:=aA (show Fy S 0 vb=q from ja.out);go_wp2_with fail
       go_meet;case rel=>exact ⟨0,true,rfl,K2,Q2,aA ⟨fun _=>TS.out,fun h=>by cases h⟩⟩
     | true =>
       have CE:=aA (ji.out (by first | rfl | trivial) V K2.out.k.r.e (HY.out _ K2.out.k.b));go_wp2_with fail
       refine CE.out.mono ?_;rintro e w6 ⟨rfl,jg⟩;have K6:=aA (K2.out.step jg);have Q6:=aA ((jg.block _ (aG Q2.out)).trans Q2.out);clear jg CE m0 m1 m2 m3 m4 m5 m6 m7 m8 m9 j y0 y1 y2 C s1 I H;obtain ⟨⟨C,s1⟩,I,H⟩:=two Q6.out;cases ve with
       | none =>
         have TS:=aA (show none=q from ja.out);have K7:=aA (K6.out.set Z 0 (.int .i64 0));have Q7:=aA (Dz Q6.out (.int .i64 0));go_wp2_with fail
         go_meet;case rel=>exact ⟨0,false,rfl,K7,Q7,aA ⟨fun h=>(by cases h),fun _=>TS.out.symm⟩⟩
       | some e1 =>
         have TS:=aA (show Fy S e1 vb=q from ja.out);have K7:=aA (K6.out.set Z 0 (.int .i64 e1));have Q7:=aA (Dz Q6.out (.int .i64 e1));go_wp2_with fail
         go_meet;case rel=>exact ⟨e1,true,rfl,K7,Q7,aA ⟨fun _=>TS.out,fun h=>by cases h⟩⟩
    case rest =>
     obtain ⟨u,z,rfl,f,Q3,HS⟩:=hcut;clear K2 Q2 ja m0 m1 m2 m3 m4 m5 m6 m7 m8 m9 j y0 y1 y2 C s1 I H;obtain ⟨⟨y0,y1,y2⟩, -⟩:=d9 (DT.out _ f.out);obtain ⟨m0,m1,m2,m3,m4,m5,m6,m7,m8,m9,j⟩:=aE f.out.k.n;cases z with
     | false =>
       have B:=aA (show q=none from HS.out.2 rfl);cases S with
       | false =>
         have O:=aA (show none=q from B.out.symm);obtain ⟨⟨o0,o1⟩,g0,g1⟩:=two f.out.o;obtain ⟨⟨C,s1⟩,I,H⟩:=two Q3.out;go_wp2_with fail
         obtain ⟨⟨M,L⟩, -⟩:=two (pY f.out.o (.int .i64 u) (.int .i64 0));have P:=f.out.put (.int .i64 u) (.int .i64 0);have E:=O.out;subst E;exact bodyPost_ret (v:=.tuple #[.agg #[.int .i64 u,.int .i64 0],.bool false]) (by simp [results,results140,go_sem,M,L]) rfl ⟨u,0,rfl,qF _ _,P⟩
       | true =>
         have O:=aA (show none=q from B.out.symm);obtain ⟨⟨o0,o1⟩,g0,g1⟩:=two f.out.o;obtain ⟨⟨C,s1⟩,I,H⟩:=two Q3.out;go_wp2_with fail
         obtain ⟨⟨M,L⟩, -⟩:=two (pY f.out.o (.int .i64 u) (.int .i64 0));have P:=f.out.put (.int .i64 u) (.int .i64 0);have E:=O.out;subst E;exact bodyPost_ret (v:=.tuple #[.agg #[.int .i64 u,.int .i64 0],.bool false]) (by simp [results,results140,go_sem,M,L]) rfl ⟨u,0,rfl,qF _ _,P⟩
     | true =>
       have B:=aA (show Fy S u vb=q from HS.out.1 rfl);cases S with
       | false =>
         have R:=aA (show some (u,(0:Int))=q from B.out);have O:=aA (show some (u,(0:Int))=q from R.out);obtain ⟨⟨o0,o1⟩,g0,g1⟩:=two f.out.o;obtain ⟨⟨C,s1⟩,I,H⟩:=two Q3.out;go_wp2_with fail
         obtain ⟨⟨M,L⟩, -⟩:=two (pY f.out.o (.int .i64 u) (.int .i64 0));have P:=f.out.put (.int .i64 u) (.int .i64 0);have E:=O.out;subst E;exact bodyPost_ret (v:=.tuple #[.agg #[.int .i64 u,.int .i64 0],.bool true]) (by simp [results,results140,go_sem,M,L]) rfl ⟨u,0,rfl,AU _ _,P⟩
       | true =>
         have CB:=aA (jh.out (by first | rfl | trivial) wc f.out.k.r.g (HY.out _ f.out.k.b));go_wp2_with fail
         refine CB.out.mono ?_;rintro e w8 ⟨rfl,jf⟩;have K8:=aA (f.out.step jf);have Q8:=aA ((jf.block _ (aG Q3.out)).trans Q3.out);clear jf CB m0 m1 m2 m3 m4 m5 m6 m7 m8 m9 j y0 y1 y2;obtain ⟨⟨C,s1⟩,I,H⟩:=two Q8.out;cases vb with
         | none =>
           have R:=aA (show none=q from B.out);have K9:=aA (K8.out.set Z 1 (.int .i64 0));have Q9:=aA (Dy Q8.out (.int .i64 0));go_upto_region 13 with fail
           obtain ⟨Y,hY⟩:∃ Y,w8.setCell ⟨D,1,none⟩ (.int .i64 0)=Y:=⟨_,rfl⟩;rw [hY] at K9 Q9 |-
           clear hY C s1 I H;have O:=aA (show none=q from R.out);obtain ⟨⟨o0,o1⟩,g0,g1⟩:=two K9.out.o;obtain ⟨⟨C,s1⟩,I,H⟩:=two Q9.out;go_wp2_with fail
           obtain ⟨⟨M,L⟩, -⟩:=two (pY K9.out.o (.int .i64 u) (.int .i64 0));have P:=K9.out.put (.int .i64 u) (.int .i64 0);have E:=O.out;subst E;exact bodyPost_ret (v:=.tuple #[.agg #[.int .i64 u,.int .i64 0],.bool false]) (by simp [results,results140,go_sem,M,L]) rfl ⟨u,0,rfl,qF _ _,P⟩
         | some N =>
           have R:=aA (show some (u,N)=q from B.out);have K9:=aA (K8.out.set Z 1 (.int .i64 N));have Q9:=aA (Dy Q8.out (.int .i64 N));go_upto_region 13 with fail
           obtain ⟨Y,hY⟩:∃ Y,w8.setCell ⟨D,1,none⟩ (.int .i64 N)=Y:=⟨_,rfl⟩;rw [hY] at K9 Q9 |-
           clear hY C s1 I H;have O:=aA (show some (u,N)=q from R.out);obtain ⟨⟨o0,o1⟩,g0,g1⟩:=two K9.out.o;obtain ⟨⟨C,s1⟩,I,H⟩:=two Q9.out;go_wp2_with fail
           obtain ⟨⟨M,L⟩, -⟩:=two (pY K9.out.o (.int .i64 u) (.int .i64 N));have P:=K9.out.put (.int .i64 u) (.int .i64 N);have E:=O.out;subst E;exact bodyPost_ret (v:=.tuple #[.agg #[.int .i64 u,.int .i64 N],.bool true]) (by simp [results,results140,go_sem,M,L]) rfl ⟨u,N,rfl,AU _ _,P⟩
section
open Go.RowKit Go.Shelf
attribute [local go_sem] Oper.semAt_some
def kX (x:AG) (gs:List (Tr->Option Int)):List (Int×Int):=gs.filterMap (mD x)
theorem IC (x:AG) (gs:List (Tr->Option Int)) (g:Tr->Option Int):kX x (gs++[g])=kX x gs++(match mD x g with | none=>[] | some q=>[q]):=by
 unfold kX;rw [List.filterMap_append];congr 1
 simp only [List.filterMap_cons,List.filterMap_nil];cases mD x g <;> rfl
theorem DI (x:AG) {gs:List (Tr->Option Int)} (k:Nat):kX x (gs.take k) <+: kX x gs:=by
 unfold kX;exact ((List.take_prefix k gs).filterMap _)
theorem qG {w w':World} {a:Tp} {rs:List RW} (h:dJ w a rs) (c:Below w.heap.size w w'):dJ w' a rs :=
 h.imp id fun ⟨b,off,e,hlt,hc⟩=>⟨b,off,e,Nat.lt_of_lt_of_le hlt c.size,fun j r d=>by
  obtain ⟨y,f,g,rd⟩:=hc j r d;exact ⟨y,f,(c.cell (p:=⟨b,off+j,none⟩) hlt).trans g,rd.kept c⟩⟩
structure OkX (x:AG):Prop where
 e:eP x.fn.data.toList=true->OkE x.e
 g:bP x.fn.data.toList=true->OkE x.g
 c:∀ d∈x.wh,OkE d.a/\OkE d.b
 l:x.wh.length<=1000
theorem DJ {x:AG} (h:OkX x) {A:Nat->Wr.AD} {n:Nat} {g:Tr->Option Int} (U:nD A n g) {q:Int×Int} (a:mD x g=some q):bW q.1/\bW q.2:=by
 have z:bW 0:=by unfold bW;omega
 unfold mD at a;have f:eP x.fn.data.toList=true->∀ v,evT g x.e=some v->bW v:=fun b=>(Cs U x.e ((cC _).1 (h.e b).c).1 (h.e b).n).2
 have d:bP x.fn.data.toList=true->∀ v,evT g x.g=some v->bW v:=fun b=>(Cs U x.g ((cC _).1 (h.g b).c).1 (h.g b).n).2
 generalize eH g x.wh=tk at a;generalize evT g x.e=oe at a f;generalize evT g x.g=ob at a d;generalize eP x.fn.data.toList=ee at a f;generalize bP x.fn.data.toList=bb at a d;cases tk <;> cases ee <;> cases bb <;> cases oe <;> cases ob <;> simp only [Ou,Fy,Option.some.injEq,reduceCtorEq] at a <;> subst a <;> refine ⟨?_,?_⟩ <;> first | exact z | exact f rfl _ rfl | exact d rfl _ rfl
abbrev rwO (ya:Tp) (l yc:Nat):Obj:=.cells #[.slice ya l yc] 34
theorem La (n l P ba bp:Nat) (x:AG) (p:PA) (rs:List RW) (U:Tp) (yc:Nat) (f:World) (N:OkX x) (hU:∀ r∈rs,nD r.A r.n r.g) (hl:rs.length<=1000)
 (hr:aX (fun b=>b<f.heap.size) f x p) (hy:dJ f U rs) (I:f.heap[P]? = some (rwO U rs.length yc)) (M:f.heap[ba]? = some (agP x p))
 (H:f.heap[bp]? = some (ptO (kP x.fn.data.toList) (eP x.fn.data.toList) (bP x.fn.data.toList))) (J Jx:List (Int×Int)->World->Prop) (W:World) (O:AbidesFrom W.heap.size J)
 (hY:∀ pre q W1,bW q.1->bW q.2->J pre W1->pre.length<(kX x (rs.map RW.g)).length->YieldAt Fence.wide n prog l #[Ix q] W1 fun e z=>(e=.returned (.bool true)/\J (pre++[q]) z/\Below f.heap.size W1 z)\/(e=.returned (.bool false)/\Jx (pre++[q]) z))
 (hW:Below f.heap.size f W) (h0:J [] W) :
 CallsIn Fence.wide (n+1) prog 139 #[.func (.yield l) #[] #[],.pointer (some ⟨P,0,none⟩),.pointer (some ⟨ba,0,none⟩),.pointer (some ⟨bp,0,none⟩)] W fun e z =>
  (∃ v,e=.returned v)/\((∃ ys,ys=kX x (rs.map RW.g)/\J ys z)\/(∃ pre,pre <+: kX x (rs.map RW.g)/\Jx pre z)):=by
 refine callsIn_of_wp func139 rfl trivial ?_ rfl;simp only [ntmps139,List.size_toArray,Te,List.length_nil,Nat.reduceAdd,Nat.reduceSub,Array.replicate_succ,Array.replicate_zero,List.push_toArray,List.append_toArray,List.nil_append,List.cons_append]
 have cl:W.cell? ⟨P,0,none⟩=some (.slice U rs.length yc):=by
  have:=(hW.block P (aG I)).trans I;simp [World.cell?,this]
 gi_wp2
 clear cl;gi_loopw [6,7,8,11] (fun v6 v7 v8 i wr=>∃ (k:Nat) (y6 y7 y8:Value),v6=y6/\v7=y7/\v8=y8/\i=.int .i64 k/\k<=rs.length/\Below f.heap.size f wr/\W.heap.size<=wr.heap.size/\J (kX x ((rs.map RW.g).take k)) wr) (fun _ _ _ i _=>rs.length-(intOf i).toNat)
 case atStart=>exact ⟨0,_,_,_,rfl,rfl,rfl,rfl,Nat.zero_le _,hW,Td _,h0⟩
 case round =>
  obtain ⟨k,y6,y7,y8,rfl,rfl,rfl,rfl,hk,m,hz,s⟩:=hrel;by_cases j:k<rs.length
  · obtain ⟨r,o⟩:∃ r,rs[k]? = some r:=⟨_,List.getElem?_eq_getElem j⟩
    have Z:¬ rs=[]:=fun e=>by rw [e] at j;simp at j
    obtain ⟨b,off,rfl,jg,jb⟩:=(qG hy m).resolve_left Z;obtain ⟨yr,jc,c0,rd⟩:=jb k r o;have L:=(m.block ba (aG M)).trans M;have G:=(m.block bp (aG H)).trans H;obtain ⟨m0,m1,m2,m3,m4,m5,m6,m7,m8,m9,jf⟩:=aE L;obtain ⟨q0,q1,q2⟩:=d9 G;have Y:aX (fun b=>b<f.heap.size) wr x p:=hr.kept m;have T:=aA (IB (hU r (List.mem_of_getElem? o)) x p yr jc wr N.e N.g N.c N.l Y rd)
    have ja:(rs.map RW.g).take (k+1)=(rs.map RW.g).take k++[r.g]:=by
     rw [List.take_add_one];simp [o]
    have d:=IC x ((rs.map RW.g).take k) r.g;rw [<- ja] at d;have E:∀ S,Below wr.heap.size wr S->wr.grownBy S none:=fun S h=>⟨h.os,h.tape,h.output,h.size,fun k hk _=>h.block k hk⟩
    cases y:mD x r.g with
    | none =>
      rw [y] at T d;gi_wp2_with (refine ⟨trivial,?_⟩;gi_at_call 140;refine (callsIn_wide.2 T.out).mono ?_;rintro e B ⟨u,v,rfl,t,a⟩)
      refine ⟨fun _ h=>(by cases h),?_⟩;gi_wp2
      go_roundw
      case rel=>exact ⟨k+1,_,_,_,rfl,rfl,rfl,by go_num,j,(m.trans (a.mono m.size)).alloc (Nat.le_trans m.size a.size) _,by have:=a.size;simp;omega,by
       rw [d,List.append_nil];exact O _ _ _ _ (O _ _ _ _ s (E _ a) (fun r e=>by cases e)) (World.grownBy_alloc _ _ none) (fun r e=>by cases e)⟩
      case measure=>simp [intOf];omega
    | some q =>
      rw [y] at T d;have D:=DJ N (hU r (List.mem_of_getElem? o)) y
      have C:(kX x ((rs.map RW.g).take k)).length<(kX x (rs.map RW.g)).length:=by
       have h1:=(DI x (gs:=rs.map RW.g) (k+1)).length_le;rw [d,Tb] at h1;simp at h1;omega
      have X:=fun B (a:Below wr.heap.size wr B)=>hY (kX x ((rs.map RW.g).take k)) q (B.alloc (rM q.1 q.2)) D.1 D.2 (O _ _ _ _ (O _ _ _ _ s (E _ a) (fun r e=>by cases e)) (World.grownBy_alloc _ _ none) (fun r e=>by cases e)) C
      gi_wp2_with (refine ⟨trivial,?_⟩;gi_at_call 140;refine (callsIn_wide.2 T.out).mono ?_;rintro e B ⟨u,v,rfl,t,a⟩;obtain rfl:=t _ rfl;obtain ⟨fn,jd,R,je,V,hR⟩:=X B a;dsimp only at V)
      refine hR.mono ?_;clear hR;rintro e S (⟨rfl,hJ3,hk3⟩ | ⟨rfl,hJx3⟩)
      · gi_wp2
        go_roundw
        case rel=>exact ⟨k+1,_,_,_,rfl,rfl,rfl,by go_num,j,((m.trans (a.mono m.size)).alloc (Nat.le_trans m.size a.size) _).trans hk3,by have:=a.size;have:=hk3.size;simp at this;omega,by rw [d];exact hJ3⟩
        case measure=>simp [intOf];omega
      · gi_wp2
        refine bodyPost_ret (results_none rfl _ _ _) rfl ?_;exact ⟨⟨_,rfl⟩,.inr ⟨kX x ((rs.map RW.g).take (k+1)),DI x _,by rw [d];exact hJx3⟩⟩
  · obtain rfl:k=rs.length:=by omega
    rw [List.take_of_length_le (by simp)] at s;gi_wp2
    go_end0
    exact ⟨⟨_,rfl⟩,.inl ⟨_,rfl,s⟩⟩
end
section
open Go.RowKit Go.Shelf
abbrev Q64:Type:={ q:Int×Int // bW q.1/\bW q.2 }
abbrev tkE (q:Q64):Array Value:=#[Ix q.1]
theorem xW:∀ (l:List (Int×Int)),(∀ q∈l,bW q.1/\bW q.2)->∃ L:List Q64,L.map Subtype.val=l
 | [],_=>⟨[],rfl⟩
 | q :: l, h => by
   obtain ⟨L,rfl⟩:=xW l (fun z hz=>h z (List.mem_cons_of_mem _ hz));exact ⟨⟨q,h q (List.mem_cons_self ..)⟩::L,rfl⟩
theorem Hi {x:AG} (h:OkX x) {rs:List RW} (c:∀ r∈rs,nD r.A r.n r.g):∀ q∈kX x (rs.map RW.g),bW q.1/\bW q.2:=by
 intro q a;unfold kX at a;rw [List.mem_filterMap] at a;obtain ⟨g,b,hz⟩:=a;rw [List.mem_map] at b;obtain ⟨r,hr,rfl⟩:=b;exact DJ h (c r hr) hz
structure Dm (B:Nat) (W:World) (x:AG) (p:PA) (rs:List RW) (ya:Tp) (yc bl ba bp:Nat):Prop where
 l:W.heap[bl]? = some (rwO ya rs.length yc)
 a:W.heap[ba]? = some (agP x p)
 q:W.heap[bp]? = some (ptO (kP x.fn.data.toList) (eP x.fn.data.toList) (bP x.fn.data.toList))
 rd:aX (fun b=>b<W.heap.size) W x p
 ry:dJ W ya rs
abbrev tkF (bl ba bp:Nat):Array Value:=#[.pointer (some ⟨bl,0,none⟩),.pointer (some ⟨ba,0,none⟩),.pointer (some ⟨bp,0,none⟩)]
theorem vX {l m:List Q64} (h:l.map Subtype.val=m.map Subtype.val):l=m:=(List.map_inj_right (fun _ _ e=>Subtype.ext e)).1 h
theorem vJ (n:Nat) {B k m j yc:Nat} {x:AG} {p:PA} {rs:List RW} {t:Tp} {w:World} (z:OkX x) (D:∀ r∈rs,nD r.A r.n r.g) (hl:rs.length<=1000) (h:Dm B w x p rs t yc k m j)
 (L:List Q64) (f:L.map Subtype.val=kX x (rs.map RW.g)) :
 SeqStopsK Fence.wide (n+1) prog 139 (tkF k m j) tkE (Below w.heap.size) (fun o=>o=L) (fun pre=>pre <+: L) L.length w:=fun l J N W C E _ y I=>by
 refine (La n l k m j x p rs t yc w z D hl h.rd h.ry h.l h.a h.q (fun pre V=>∃ b,b.map Subtype.val=pre/\J b V) (fun pre V=>∃ b,b.map Subtype.val=pre/\N b V) W ?_ ?_ C ⟨[],rfl,I⟩).mono ?_
 · rintro s X Y row ⟨s',e,hs⟩ u hr
   exact ⟨s',e,E s' X Y row hs u hr⟩
 · rintro pre q M H G ⟨b,rfl,d⟩ c
   rw [<- f,List.length_map,List.length_map] at c;refine (y b ⟨q,H,G⟩ M d c).mono ?_;rintro e W' (⟨he,hj',hk⟩ | ⟨he,hj'⟩)
   · exact .inl ⟨he,⟨_,by simp,hj'⟩,hk⟩
   · exact .inr ⟨he,⟨_,by simp,hj'⟩⟩
 · rintro e W' ⟨hv,(⟨o,rfl,b,e',d⟩ | ⟨pre,hp,b,rfl,d⟩)⟩
   · exact ⟨hv,.inl ⟨b,vX (e'.trans f.symm),d⟩⟩
   · refine ⟨hv,.inr ⟨b,?_,d⟩⟩
     rw [<- f] at hp;show b <+: L;rw [List.prefix_iff_eq_take] at hp |-
     rw [List.length_map, <- List.map_take] at hp;exact vX hp
theorem DG {w:World} {x:AG} {p:PA} {rs:List RW} {a:Tp} {yc:Nat} {G:Nat->Prop} (hr:aX G w x p) (l:dJ w a rs) {V:World} (g:Below ((w.alloc (agP x p)).alloc (rwO a rs.length yc)).heap.size ((w.alloc (agP x p)).alloc (rwO a rs.length yc)) V) :
 Dm w.heap.size (V.alloc (ptO (kP x.fn.data.toList) (eP x.fn.data.toList) (bP x.fn.data.toList))) x p rs a yc (w.heap.size+1) w.heap.size V.heap.size/\Below w.heap.size w (V.alloc (ptO (kP x.fn.data.toList) (eP x.fn.data.toList) (bP x.fn.data.toList))):=by
 have s:=bA0 w (agP x p);have q:=heap_alloc_new w (agP x p);have f:(w.alloc (agP x p)).heap.size=w.heap.size+1:=Tc _ _;generalize w.alloc (agP x p)=W1 at *;have r:=bA0 W1 (rwO a rs.length yc);have j:=heap_alloc_new W1 (rwO a rs.length yc);have m:(W1.alloc (rwO a rs.length yc)).heap.size=W1.heap.size+1:=Tc _ _;generalize W1.alloc (rwO a rs.length yc)=W2 at *;have h:=bA0 V (ptO (kP x.fn.data.toList) (eP x.fn.data.toList) (bP x.fn.data.toList));have o:=heap_alloc_new V (ptO (kP x.fn.data.toList) (eP x.fn.data.toList) (bP x.fn.data.toList));generalize V.alloc (ptO (kP x.fn.data.toList) (eP x.fn.data.toList) (bP x.fn.data.toList))=W3 at *;have hz:=g.size;have k:=h.size;have d:Below W1.heap.size W1 W3:=r.trans ((g.trans (h.mono hz)).mono (by omega));have c:Below w.heap.size w W3:=s.trans (d.mono (by omega));rw [f] at j;refine ⟨⟨?_,?_,o,(hr.kept c).imp (fun b n _=>?_),qG l c⟩,c⟩
 · exact ((g.trans (h.mono hz)).block _ (by omega)).trans j
 · exact (d.block _ (by omega)).trans q
 · exact n
theorem vK {G:Nat->Prop} (x:AG) (p:PA) (rs:List RW) (a:Tp) (yc:Nat) (w:World) (hr:aX G w x p) (b:dJ w a rs) :
 Calls prog 82 #[agV x p,.slice a rs.length yc] w fun e w'=>∃ f h d,e=.returned (.func (.func 139) #[] (tkF f h d))/\Dm w.heap.size w' x p rs a yc f h d/\Below w.heap.size w w':=by
 have TN:=aA (fun V s=>DG (yc:=yc) (V:=V) hr b s);have q:((w.alloc (agP x p)).alloc (rwO a rs.length yc)).heap.size=w.heap.size+2:=by simp
 have A:=bA0 w (agP x p)
 have j:((w.alloc (agP x p)).alloc (rwO a rs.length yc)).heap[w.heap.size]? = some (agP x p):=by
  have t:=heap_alloc_new w (agP x p);exact (((Below.refl _ (w.alloc (agP x p))).alloc (Td _) (rwO a rs.length yc)).block _ (by simp)).trans t
 have l:=aA (mO x.fn ((w.alloc (agP x p)).alloc (rwO a rs.length yc)));generalize c:(w.alloc (agP x p)).alloc (rwO a rs.length yc)=W at *;have z:=aA c;obtain ⟨O,N,M,L,I,H,E,D,C,B,o⟩:=aE j;unfold ptV at l;clear hr b A c j;go_enter func82,ntmps82
 go_upto_region 1 with fail
 rw [show (w.alloc (.cells #[.string x.fn,.int .i64 x.k,.string x.e.op,.string x.e.nm,.int .i64 x.e.n,.slice p.ea x.e.ks.len p.ec,.string x.g.op,.string x.g.nm,.int .i64 x.g.n,.slice p.ga x.g.ks.len p.gc,.slice p.wa x.wh.length p.wc] 70)).alloc (.cells #[.slice a rs.length yc] 34)=W from z.out];go_wp2_with fail
 refine l.out.mono ?_;rintro e m ⟨rfl,r⟩;go_wp2_with fail
 go_ret;obtain ⟨y,u⟩:=TN.out m r;exact ⟨_,_,_,rfl,y,u⟩
set_option maxHeartbeats 2000000
theorem IG (n u v:Int) (w:World) (b:0<=n) (a:n<=1000000):Calls prog 85 #[.int .i64 n,.agg #[.int .i64 u,.int .i64 v]] w fun e w'=>e=.returned (.int .i64 (n+1))/\Below w.heap.size w w':=by
 go_enter func85,ntmps85
 go_wp2
 go_ret;exact ⟨rfl,bA0 w _⟩
theorem IF (n u v:Int) (w:World) (c:bW n) (b:bW u):Calls prog 86 #[.int .i64 n,.agg #[.int .i64 u,.int .i64 v]] w fun e w'=>e=.returned (.int .i64 (eC (n+u)))/\Below w.heap.size w w':=by
 have f:=aA (fun w=>Dv n u w c b);have h:=aA (bA0 w (rM u v));have d:=heap_alloc_new w (rM u v);generalize a:w.alloc (rM u v)=W at *;have g:=aA a;obtain ⟨⟨l,k⟩, -⟩:=two d;clear a d c b;go_enter func86,ntmps86
 go_upto_region 1 with fail
 rw [show w.alloc (.cells #[.int .i64 u,.int .i64 v] 163)=W from g.out];go_wp2_with fail
 refine (f.out _).mono ?_;rintro e j ⟨rfl,rfl⟩;go_wp2_with fail
 go_ret;exact ⟨rfl,h.out⟩
abbrev vlA (k n:Int) (a:Tp) (l c:Nat):Obj:=.cells #[.int .i64 k,.int .i64 n,.string ⟨#[]⟩,.slice a l c] 60
theorem vU (n:Int) (w:World):Calls prog 83 #[.int .i64 n] w fun e w'=>e=.returned (vlV 1 n none 0 0)/\Below w.heap.size w w':=by
 go_enter func83,ntmps83
 go_wp2_with fail
 obtain ⟨⟨d,c,b,a⟩, -⟩:=aL (heap_alloc_new w (vlA 1 n none 0 0));exact bodyPost_ret (v:=vlV 1 n none 0 0) (by simp [results,results83,go_sem,d,c,b,a]) rfl ⟨rfl,bA0 _ _⟩
end
section
open Go.RowKit Go.Shelf
attribute [local go_sem] Oper.semAt_some
theorem BR {B:Nat} {a:Array Value} {t:TypeId} {b:Nat×Nat} {W c:World} {row:Option Nat} (h:W.heap[B]? = some (.cells a t b)) (d:W.grownBy c row) (hr:∀ r,row=some r->∃ o:Obj,W.heap[r]? = some o/\o.isCells=false):c.heap[B]? = some (.cells a t b) :=
 (d.block B (aG h) (fun e=>by obtain ⟨o,ho,f⟩:=hr B e.symm;rw [h] at ho;cases ho;cases f)).trans h
theorem wH {W a:World} (h:Below W.heap.size W a) (D:Nat):KeepsFrom D W a :=
 (KeepsOthers.of_grownBy (row:=none) ⟨h.os,h.tape,h.output,h.size,fun k b _=>h.block k b⟩ (fun j o e=>by cases e)).from D
abbrev SH (bl ba bp:Nat) (L:List Q64) (w0:World):Prop:=SeqStopsK Fence.wide 3 prog 139 (tkF bl ba bp) tkE (Below w0.heap.size) (fun ys=>ys=L) (fun pre=>pre <+: L) L.length w0
theorem Fi {a:Nat} {w:World} (hn:a<=w.heap.size) (W:World) (l:Nat) (o o':Obj) (hl:w.heap.size<=l) (h:W.heap[l]? = some o):Below a W (W.putObj l o') :=
 (Below.refl a W).grown (grownBy_putObj' W l o') (by have:=(Array.getElem?_eq_some_iff.1 h).1;omega) (fun k e=>by cases e;omega)
theorem MU (u y t:Nat) (L:List Q64) (w0 w:World) (hL:L.length<=1000) (m:SH u y t L w0) (n:Below w0.heap.size w0 w) (F:List Q64->Int) (H:F []=0)
 (E:∀ (pre:List Q64) (q:Q64) (W:World),pre.length<L.length->Calls prog 85 #[.int .i64 (F pre),Ix q.1] W fun e W'=>e=.returned (.int .i64 (F (pre++[q])))/\Below W.heap.size W W') :
 CallsIn Fence.wide 4 prog 84 #[.func (.func 139) #[] (tkF u y t),.int .i64 0,.func (.func 85) #[] #[]] w fun e w'=>e=.returned (.int .i64 (F L))/\Below w.heap.size w w':=by
 refine callsIn_of_wp_marks func84 rfl trivial ?_ rfl;simp only [ntmps84,List.size_toArray,Te,List.length_nil,Nat.reduceAdd,Nat.reduceSub,Array.replicate_succ,Array.replicate_zero,List.push_toArray,List.append_toArray,List.nil_append,List.cons_append];gi_wp2
 obtain ⟨B,s⟩:∃ B,w.heap.size=B:=⟨_,rfl⟩;have M:=(Boxed.new w 164 (.func (.func 85) #[] #[])).alloc (.cells #[.int .i64 0] 2);have I:=Boxed.new (w.alloc (.cells #[.func (.func 85) #[] #[]] 164)) 2 (.int .i64 0);have g:Below B w ((w.alloc (.cells #[.func (.func 85) #[] #[]] 164)).alloc (.cells #[.int .i64 0] 2)):=((Below.refl _ w).alloc (by omega) _).alloc (by simp;omega) _;have C:((w.alloc (.cells #[.func (.func 85) #[] #[]] 164)).alloc (.cells #[.int .i64 0] 2)).heap.size=B+2:=by simp;omega
 simp only [Tc,s] at M I |-
 obtain ⟨O,o⟩:∃ O,(w.alloc (.cells #[.func (.func 85) #[] #[]] 164)).alloc (.cells #[.int .i64 0] 2)=O:=⟨_,rfl⟩;rw [o] at M I g C |-
 have A:w0.heap.size<=B:=by have:=n.size;omega
 clear o
 refine wpIn_rangeFunc_ownH rfl (by decide) (gf:=139) (lb:=tkF u y t) rfl trivial (enters_of func139 (by kernel_rfl) rfl)
  m belowK_t (belowK_b (by omega)) (n.trans (g.mono A)) (fun _=>rfl)
  (fun pre W=>(Boxed W (B+1) 2 (.int .i64 (F pre))/\Boxed W B 164 (.func (.func 85) #[] #[]))/\Below B w W)
  (fun _ _ _=>False)
  (OwnFrom.and (OwnFrom.and (Own.from (boxed_own _ _ _) _) (Own.from (boxed_own _ _ _) _)) (ownFrom_below (by omega) (by omega)))
  (fun _ _ _ _ _ hs _ _=>hs)
  ⟨⟨by rw [H];exact I,M⟩,g⟩
  (fun x N W=>∃ k,B+1<k/\W.heap[k]? = some (rM x.1.1 x.1.2)/\N={ tmps:=#[.func (.func 139) #[] (tkF u y t),.int .i64 0,.func (.func 85) #[] #[],undef,undef,.pointer (some ⟨B,0,none⟩),.int .i64 0,.pointer (some ⟨B+1,0,none⟩),.pointer (some ⟨k,0,none⟩),.int .i64 0,.func (.func 139) #[] (tkF u y t),Ix x.1,undef,undef,undef,undef,undef],defers:=[] })
  (fun x N _ X Y row hs S hr=>by obtain ⟨k,Z,P,V⟩:=hs;exact ⟨k,Z,BR P S (fun r e=>(hr r e).2),V⟩)
  ?assign ?body ?done ?stop
 case assign =>
  rintro l pre x W K ⟨⟨a,b⟩,f⟩ hK;have P:=a.lt;gi_wp2
  exact hK _ _ ((KeepsOthers.alloc _ _).from _) ((Below.refl _ W).alloc (by omega) _) ⟨⟨a.alloc _,b.alloc _⟩,f.alloc (by omega) _⟩ ⟨W.heap.size,a.lt,heap_alloc_new W _,rfl⟩
 case body =>
  rintro l pre x N W hl ⟨r,hr⟩ ⟨⟨a,b⟩,f⟩ ⟨k,U,bX,rfl⟩ G;obtain ⟨⟨x0,x1⟩, -⟩:=two bX;have c1:=a.cell;have c2:=b.cell;have ST:=aA (E pre x W G);have hz:=a.lt;gi_wp2_with (refine ⟨trivial,?_⟩;gi_at_call 85;refine (CallsIn.inRound l (callsIn_wide.2 ST.out)).mono ?_;rintro e R ⟨rfl,d⟩;have j:Boxed R (B+1) 2 (.int .i64 (F pre)):=(d.block _ a.lt).trans a;have z:Boxed R B 164 (.func (.func 85) #[] #[]):=(d.block _ b.lt).trans b;have d1:=j.cell;have d2:=z.cell;have f1:=j.frozen)
  exact ⟨(wH d _).trans ((KeepsOthers.setCell _ _ _).from _),(d.mono (by omega)).setCell (p:=⟨B+1,0,none⟩) (by simp;omega) _,⟨j.set _,z.other (by omega) _⟩,(f.trans (d.mono (by omega))).setCell (p:=⟨B+1,0,none⟩) (by simp) _⟩
 case done =>
  rintro D ys W T rfl ⟨⟨a,b⟩,f⟩ hK;have c1:=a.cell;gi_wp2
  refine ⟨by simp,.inl ⟨_,_,rfl,run_takeDeferred hK,?_⟩⟩;exact ⟨_,results_tmp rfl _ _ _,rfl,by rw [s];exact f.trans (Fi (w:=O) (by omega) W D _ _ T hK)⟩
 case stop =>
  rintro D c pre W _ _ h _;exact h.elim
theorem MT (u y t:Nat) (L:List Q64) (w0 w:World) (hL:L.length<=1000) (m:SH u y t L w0) (n:Below w0.heap.size w0 w) (F:List Q64->Int) (H:F []=0)
 (E:∀ (pre:List Q64) (q:Q64) (W:World),pre.length<L.length->Calls prog 86 #[.int .i64 (F pre),Ix q.1] W fun e W'=>e=.returned (.int .i64 (F (pre++[q])))/\Below W.heap.size W W') :
 CallsIn Fence.wide 4 prog 84 #[.func (.func 139) #[] (tkF u y t),.int .i64 0,.func (.func 86) #[] #[]] w fun e w'=>e=.returned (.int .i64 (F L))/\Below w.heap.size w w':=by
 refine callsIn_of_wp_marks func84 rfl trivial ?_ rfl;simp only [ntmps84,List.size_toArray,Te,List.length_nil,Nat.reduceAdd,Nat.reduceSub,Array.replicate_succ,Array.replicate_zero,List.push_toArray,List.append_toArray,List.nil_append,List.cons_append];gi_wp2
 obtain ⟨B,s⟩:∃ B,w.heap.size=B:=⟨_,rfl⟩;have M:=(Boxed.new w 164 (.func (.func 86) #[] #[])).alloc (.cells #[.int .i64 0] 2);have I:=Boxed.new (w.alloc (.cells #[.func (.func 86) #[] #[]] 164)) 2 (.int .i64 0);have g:Below B w ((w.alloc (.cells #[.func (.func 86) #[] #[]] 164)).alloc (.cells #[.int .i64 0] 2)):=((Below.refl _ w).alloc (by omega) _).alloc (by simp;omega) _;have C:((w.alloc (.cells #[.func (.func 86) #[] #[]] 164)).alloc (.cells #[.int .i64 0] 2)).heap.size=B+2:=by simp;omega
 simp only [Tc,s] at M I |-
 obtain ⟨O,o⟩:∃ O,(w.alloc (.cells #[.func (.func 86) #[] #[]] 164)).alloc (.cells #[.int .i64 0] 2)=O:=⟨_,rfl⟩;rw [o] at M I g C |-
 have A:w0.heap.size<=B:=by have:=n.size;omega
 clear o
 refine wpIn_rangeFunc_ownH rfl (by decide) (gf:=139) (lb:=tkF u y t) rfl trivial (enters_of func139 (by kernel_rfl) rfl)
  m belowK_t (belowK_b (by omega)) (n.trans (g.mono A)) (fun _=>rfl)
  (fun pre W=>(Boxed W (B+1) 2 (.int .i64 (F pre))/\Boxed W B 164 (.func (.func 86) #[] #[]))/\Below B w W)
  (fun _ _ _=>False)
  (OwnFrom.and (OwnFrom.and (Own.from (boxed_own _ _ _) _) (Own.from (boxed_own _ _ _) _)) (ownFrom_below (by omega) (by omega)))
  (fun _ _ _ _ _ hs _ _=>hs)
  ⟨⟨by rw [H];exact I,M⟩,g⟩
  (fun x N W=>∃ k,B+1<k/\W.heap[k]? = some (rM x.1.1 x.1.2)/\N={ tmps:=#[.func (.func 139) #[] (tkF u y t),.int .i64 0,.func (.func 86) #[] #[],undef,undef,.pointer (some ⟨B,0,none⟩),.int .i64 0,.pointer (some ⟨B+1,0,none⟩),.pointer (some ⟨k,0,none⟩),.int .i64 0,.func (.func 139) #[] (tkF u y t),Ix x.1,undef,undef,undef,undef,undef],defers:=[] })
  (fun x N _ X Y row hs S hr=>by obtain ⟨k,Z,P,V⟩:=hs;exact ⟨k,Z,BR P S (fun r e=>(hr r e).2),V⟩)
  ?assign ?body ?done ?stop
 case assign =>
  rintro l pre x W K ⟨⟨a,b⟩,f⟩ hK;have P:=a.lt;gi_wp2
  exact hK _ _ ((KeepsOthers.alloc _ _).from _) ((Below.refl _ W).alloc (by omega) _) ⟨⟨a.alloc _,b.alloc _⟩,f.alloc (by omega) _⟩ ⟨W.heap.size,a.lt,heap_alloc_new W _,rfl⟩
 case body =>
  rintro l pre x N W hl ⟨r,hr⟩ ⟨⟨a,b⟩,f⟩ ⟨k,U,bX,rfl⟩ G;obtain ⟨⟨x0,x1⟩, -⟩:=two bX;have c1:=a.cell;have c2:=b.cell;have ST:=aA (E pre x W G);have hz:=a.lt;gi_wp2_with (refine ⟨trivial,?_⟩;gi_at_call 86;refine (CallsIn.inRound l (callsIn_wide.2 ST.out)).mono ?_;rintro e R ⟨rfl,d⟩;have j:Boxed R (B+1) 2 (.int .i64 (F pre)):=(d.block _ a.lt).trans a;have z:Boxed R B 164 (.func (.func 86) #[] #[]):=(d.block _ b.lt).trans b;have d1:=j.cell;have d2:=z.cell;have f1:=j.frozen)
  exact ⟨(wH d _).trans ((KeepsOthers.setCell _ _ _).from _),(d.mono (by omega)).setCell (p:=⟨B+1,0,none⟩) (by simp;omega) _,⟨j.set _,z.other (by omega) _⟩,(f.trans (d.mono (by omega))).setCell (p:=⟨B+1,0,none⟩) (by simp) _⟩
 case done =>
  rintro D ys W T rfl ⟨⟨a,b⟩,f⟩ hK;have c1:=a.cell;gi_wp2
  refine ⟨by simp,.inl ⟨_,_,rfl,run_takeDeferred hK,?_⟩⟩;exact ⟨_,results_tmp rfl _ _ _,rfl,by rw [s];exact f.trans (Fi (w:=O) (by omega) W D _ _ T hK)⟩
 case stop =>
  rintro D c pre W _ _ h _;exact h.elim
theorem Fz {x:AG} (h:x.fn.data.toList=aN) (gs:List (Tr->Option Int)):kX x gs=(iV x gs).map (fun _=>((0:Int),(0:Int))):=by
 have a:eP x.fn.data.toList=false:=by rw [h];decide
 have b:bP x.fn.data.toList=false:=by rw [h];decide
 unfold kX iV;induction gs with
 | nil=>rfl
 | cons g gs ih =>
   have c:mD x g=if eH g x.wh=true then some (0,0) else none:=by unfold mD;rw [a,b];cases eH g x.wh <;> rfl
   rw [List.filterMap_cons,List.filter_cons,c];cases eH g x.wh
   · simpa using ih
   · simp [ih]
theorem QI {x:AG} (b:eP x.fn.data.toList=true) (c:bP x.fn.data.toList=false) (gs:List (Tr->Option Int)):kX x gs=(zN x gs).map (fun e=>(e,(0:Int))):=by
 unfold kX zN iV;induction gs with
 | nil=>rfl
 | cons g gs ih =>
   have d:mD x g=if eH g x.wh=true then (evT g x.e).map (fun e=>(e,0)) else none:=by unfold mD;rw [b,c];cases eH g x.wh <;> cases evT g x.e <;> rfl
   rw [List.filterMap_cons,List.filter_cons,d];cases eH g x.wh
   · simpa using ih
   · cases a:evT g x.e <;> simp [a,ih]
abbrev Ap (pre:List Q64):Int:=pre.foldl (fun s q=>eC (s+q.1.1)) 0
theorem ID (pre:List Q64) (q:Q64):Ap (pre++[q])=eC (Ap pre+q.1.1):=by simp [Ap]
theorem Ov:∀ (pre:List Q64),bW (Ap pre):=by
 intro pre;have z:bW 0:=by unfold bW;omega
 have:∀ (l:List Q64) (s:Int),bW s->bW (l.foldl (fun s q=>eC (s+q.1.1)) s):=by
  intro l;induction l with
  | nil=>exact fun s h=>h
  | cons q l ih=>exact fun s _=>ih _ (nB _)
 exact this pre 0 z
theorem Rz {L:List Q64} {a:List Int} (h:L.map Subtype.val=a.map (fun e=>(e,(0:Int)))):L.map (fun q=>q.1.1)=a:=by
 have b:=congrArg (List.map Prod.fst) h;simpa [List.map_map,Function.comp_def] using b
theorem QJ {L:List Q64} {a:List Int} (h:L.map (fun q=>q.1.1)=a):Ap L=a.foldl (fun s e=>eC (s+e)) 0:=by rw [<- h,List.foldl_map]
theorem LL {x:AG} (h:gA x=0) (hn:gM x) (f:SzG x):OkX x:=by
 obtain ⟨o,n,l,k,m,j⟩:=cY h;refine ⟨fun a=>?_,fun a=>?_,fun d hd=>?_,by omega⟩
 · have b:¬ x.fn.data.toList=aN:=fun b=>by unfold eP at a;rw [b] at a;simp at a
   exact ⟨l b,hn.e,f.e⟩
 · have b:x.fn.data.toList=aP:=by unfold bP at a;simpa using a
   exact ⟨k b,hn.g,f.g⟩
 · have:=pN x.wh j d hd
   exact ⟨⟨(this.2.1),(hn.c d hd).1,(f.c d hd).1⟩,⟨(this.2.2),(hn.c d hd).2,(f.c d hd).2⟩⟩
structure EPW (w:World) (x:AG) (p:PA) (V:World):Prop where
 k:KP9 (fun b=>b<w.heap.size) w x p V
 o:V.heap[w.heap.size+1]? = some (vlA 0 0 none 0 0)
theorem EPW.step {w V V':World} {x:AG} {p:PA} (h:EPW w x p V) (a:Below V.heap.size V V'):EPW w x p V' :=
 ⟨h.k.step a,(a.block _ (aG h.o)).trans h.o⟩
theorem Im {w:World} {x:AG} {p:PA} (hr:aX (fun b=>b<w.heap.size) w x p):EPW w x p ((w.alloc (agP x p)).alloc (vlA 0 0 none 0 0)):=by
 have hz:(w.alloc (agP x p)).heap.size=w.heap.size+1:=Tc _ _;have n2:=heap_alloc_new (w.alloc (agP x p)) (vlA 0 0 none 0 0);rw [hz] at n2;exact ⟨(qS hr).step (bA0 _ _),n2⟩
theorem EPW.put {w V:World} {x:AG} {p:PA} (h:EPW w x p V) (u0 u1 u2 u3:Value) :
 Below w.heap.size w ((((V.setCell ⟨w.heap.size+1,0,none⟩ u0).setCell ⟨w.heap.size+1,1,none⟩ u1).setCell ⟨w.heap.size+1,2,none⟩ u2).setCell ⟨w.heap.size+1,3,none⟩ u3) :=
 h.k.b.trans ((((((aC.refl (· = w.heap.size+1) V).setCell (p:=⟨w.heap.size+1,0,none⟩) (.inl rfl) _).setCell (p:=⟨w.heap.size+1,1,none⟩) (.inl rfl) _).setCell (p:=⟨w.heap.size+1,2,none⟩) (.inl rfl) _).setCell (p:=⟨w.heap.size+1,3,none⟩) (.inl rfl) _).below (fun b a=>by omega) h.k.z)
theorem Qz {f:Nat} {a:Array Value} {w:World} {Q:Ending->World->Prop} (h:CallsIn Fence.wide 4 prog f a w Q):Calls prog f a w Q:=callsIn_wide.1 h
theorem I7 {G:Nat->Prop} (x:AG) (p:PA) (rs:List RW) (ya:Tp) (yc:Nat) (w:World) (h:gA x=0) (hn:gM x) (hS:SzG x) (hU:∀ r∈rs,nD r.A r.n r.g) (hl:rs.length<=1000) (hr:aX G w x p) (hy:dJ w ya rs) (c:x.fn.data.toList=aN) :
 Calls prog 43 #[agV x p,.slice ya rs.length yc] w (Do (evG x (rs.map RW.g)) w):=by
 have S:=LL h hn hS;have Y:(x.fn.toList == [99,111,117,110,116])=true:=bG (by rw [c];decide);have jc:(x.fn.toList == [115,117,109])=false:=aH (by rw [c];decide);have jb:(x.fn.toList == [116,111,112])=false:=aH (by rw [c];decide);have jd:(x.fn.toList == [109,105,110])=false:=aH (by rw [c];decide);have je:(x.fn.toList == [109,97,120])=false:=aH (by rw [c];decide);have X:(x.fn.toList == [102,105,114,115,116])=false:=aH (by rw [c];decide);have D:aX (fun b=>b<w.heap.size) w x p:=hr.imp (fun b hb _=>hb);have Z:=Im D;have P:=S.l;obtain ⟨L,T⟩:=xW _ (Hi S hU)
 have O:L.length<=1000:=by
  have U:(kX x (rs.map RW.g)).length<=(rs.map RW.g).length:=List.length_filterMap_le ..;rw [<- T,List.length_map,List.length_map] at U;omega
 have C:=uW c (rs.map RW.g)
 rw [show ((iV x (rs.map RW.g)).length:Int)=(L.length:Int) by
  have U:=congrArg List.length (T.trans (Fz c _));rw [List.length_map,List.length_map] at U;rw [U]] at C
 rw [C];have HX:=aA S;have HU:=aA hU;have HL:=aA T;have R:=aA O;have HY:=aA (fun V (hV:Below w.heap.size w V)=>qG hy hV);have CK:=aA (fun V (rd:aX (fun b=>b<w.heap.size) V x p)=>rT x p V hS (by omega) rd);rw [h] at CK;generalize N:w.alloc (agP x p)=W1 at Z;generalize hW:W1.alloc (vlA 0 0 none 0 0)=W at Z;have ja:=aA N;have HW:=aA hW;have HK:=aA Z;clear N hW Z h hn hS hU hr D hy S T O C;obtain ⟨B,z,y,u,t,s,m,j,f,d,a⟩:=aE HK.out.k.n;go_enter func43,ntmps43
 go_upto_region 1 with fail
 rw [show w.alloc (.cells #[.string x.fn,.int .i64 x.k,.string x.e.op,.string x.e.nm,.int .i64 x.e.n,.slice p.ea x.e.ks.len p.ec,.string x.g.op,.string x.g.nm,.int .i64 x.g.n,.slice p.ga x.g.ks.len p.gc,.slice p.wa x.wh.length p.wc] 70)=W1 from ja.out,show W1.alloc (.cells #[.int .i64 0,.int .i64 0,.string ⟨#[]⟩,.slice none 0 0] 60)=W from HW.out];go_wp2_with fail
 refine (CK.out _ HK.out.k.r).mono ?_;rintro e w1 ⟨rfl,M⟩;have P:=aA (HK.out.step M);clear M B z y u t s m j f d a;obtain ⟨B,z,y,u,t,s,m,j,f,d,a⟩:=aE P.out.k.n;have TO:=aA (vK x p rs ya yc w1 P.out.k.r (HY.out _ P.out.k.b));go_wp2_with fail
 refine TO.out.mono ?_;rintro e w2 ⟨bl,ba,bp,rfl,ta,I⟩;have TA:=aA ta;have K2:=aA (P.out.step I);clear I ta TO B z y u t s m j f d a;obtain ⟨B,z,y,u,t,s,m,j,f,d,a⟩:=aE K2.out.k.n
 have FD:=aA (Qz (MU bl ba bp L w2 w2 R.out (vJ 2 HX.out HU.out (by omega) TA.out L HL.out) (Below.refl _ _) (fun pre:List Q64=>(pre.length:Int)) rfl (fun pre q V jf=>by
  have h9:=R.out;refine (IG (pre.length:Int) q.1.1 q.1.2 V (by omega) (by omega)).mono ?_;rintro e V' ⟨rfl,hb⟩;exact ⟨by simp,hb⟩)))
 go_wp2_with fail
 refine FD.out.mono ?_;rintro e w3 ⟨rfl,H⟩;have K3:=aA (K2.out.step H);clear H FD B z y u t s m j f d a;obtain ⟨B,z,y,u,t,s,m,j,f,d,a⟩:=aE K3.out.k.n;have NU:=aA (fun V=>vU ((L.length:Int)) V);go_wp2_with fail
 refine (NU.out _).mono ?_;rintro e w4 ⟨rfl,E⟩;have K4:=aA (K3.out.step E);clear E NU B z y u t s m j f d a;obtain ⟨⟨o0,o1,o2,o3⟩,z0,z1,z2,z3⟩:=aL K4.out.o;go_wp2_with fail
 obtain ⟨⟨y0,y1,y2,y3⟩, -⟩:=aL (aY K4.out.o (.int .i64 1) (.int .i64 ((L.length:Int))) (.string ⟨#[]⟩) (.slice none 0 0));exact bodyPost_ret (v:=.tuple #[vlV 1 ((L.length:Int)) none 0 0,.bool true]) (by simp [results,results43,go_sem,y0,y1,y2,y3]) rfl ⟨K4.out.put _ _ _ _,rfl⟩
theorem O7 {G:Nat->Prop} (x:AG) (p:PA) (rs:List RW) (Y:Tp) (yc:Nat) (w:World) (h:gA x=0) (hn:gM x) (hS:SzG x) (hU:∀ r∈rs,nD r.A r.n r.g) (hl:rs.length<=1000) (hr:aX G w x p) (hy:dJ w Y rs) (c:x.fn.data.toList=lY) :
 Calls prog 43 #[agV x p,.slice Y rs.length yc] w (Do (evG x (rs.map RW.g)) w):=by
 have R:=LL h hn hS;have U:(x.fn.toList == [99,111,117,110,116])=false:=aH (by rw [c];decide);have jd:(x.fn.toList == [115,117,109])=true:=bG (by rw [c];decide);have jc:(x.fn.toList == [116,111,112])=false:=aH (by rw [c];decide);have je:(x.fn.toList == [109,105,110])=false:=aH (by rw [c];decide);have jf:(x.fn.toList == [109,97,120])=false:=aH (by rw [c];decide);have T:(x.fn.toList == [102,105,114,115,116])=false:=aH (by rw [c];decide);have D:aX (fun b=>b<w.heap.size) w x p:=hr.imp (fun b Z _=>Z);have X:=Im D;have P:=R.l;obtain ⟨L,S⟩:=xW _ (Hi R hU)
 have O:L.length<=1000:=by
  have h1:(kX x (rs.map RW.g)).length<=(rs.map RW.g).length:=List.length_filterMap_le ..;rw [<- S,List.length_map,List.length_map] at h1;omega
 have C:=Da c (rs.map RW.g);rw [<- QJ (Rz (S.trans (QI (by rw [c];decide) (by rw [c];decide) _)))] at C;rw [C];have HX:=aA R;have HU:=aA hU;have HL:=aA S;have jb:=aA O;have HY:=aA (fun V (hV:Below w.heap.size w V)=>qG hy hV);have CK:=aA (fun V (rd:aX (fun b=>b<w.heap.size) V x p)=>rT x p V hS (by omega) rd);rw [h] at CK;generalize N:w.alloc (agP x p)=W1 at X;generalize hW:W1.alloc (vlA 0 0 none 0 0)=W at X;have ja:=aA N;have HW:=aA hW;have HK:=aA X;clear N hW X h hn hS hU hr D hy R S O C;obtain ⟨B,z,y,u,t,s,m,j,f,d,a⟩:=aE HK.out.k.n;go_enter func43,ntmps43
 go_upto_region 1 with fail
 rw [show w.alloc (.cells #[.string x.fn,.int .i64 x.k,.string x.e.op,.string x.e.nm,.int .i64 x.e.n,.slice p.ea x.e.ks.len p.ec,.string x.g.op,.string x.g.nm,.int .i64 x.g.n,.slice p.ga x.g.ks.len p.gc,.slice p.wa x.wh.length p.wc] 70)=W1 from ja.out,show W1.alloc (.cells #[.int .i64 0,.int .i64 0,.string ⟨#[]⟩,.slice none 0 0] 60)=W from HW.out];go_wp2_with fail
 refine (CK.out _ HK.out.k.r).mono ?_;rintro e w1 ⟨rfl,M⟩;have P:=aA (HK.out.step M);clear M B z y u t s m j f d a;obtain ⟨B,z,y,u,t,s,m,j,f,d,a⟩:=aE P.out.k.n;have TO:=aA (vK x p rs Y yc w1 P.out.k.r (HY.out _ P.out.k.b));go_wp2_with fail
 refine TO.out.mono ?_;rintro e w2 ⟨bl,ba,bp,rfl,ta,I⟩;have TA:=aA ta;have K2:=aA (P.out.step I);clear I ta TO B z y u t s m j f d a;obtain ⟨B,z,y,u,t,s,m,j,f,d,a⟩:=aE K2.out.k.n
 have FD:=aA (Qz (MT bl ba bp L w2 w2 jb.out (vJ 2 HX.out HU.out (by omega) TA.out L HL.out) (Below.refl _ _) Ap rfl (fun pre q V _=>by
  refine (IF (Ap pre) q.1.1 q.1.2 V (Ov pre) q.2.1).mono ?_;rintro e V' ⟨rfl,Z⟩;exact ⟨by rw [ID],Z⟩)))
 go_wp2_with fail
 refine FD.out.mono ?_;rintro e w3 ⟨rfl,H⟩;have K3:=aA (K2.out.step H);clear H FD B z y u t s m j f d a;obtain ⟨B,z,y,u,t,s,m,j,f,d,a⟩:=aE K3.out.k.n;have NU:=aA (fun V=>vU (Ap L) V);go_wp2_with fail
 refine (NU.out _).mono ?_;rintro e w4 ⟨rfl,E⟩;have K4:=aA (K3.out.step E);clear E NU B z y u t s m j f d a;obtain ⟨⟨o0,o1,o2,o3⟩,z0,z1,z2,z3⟩:=aL K4.out.o;go_wp2_with fail
 obtain ⟨⟨y0,y1,y2,y3⟩, -⟩:=aL (aY K4.out.o (.int .i64 1) (.int .i64 (Ap L)) (.string ⟨#[]⟩) (.slice none 0 0));exact bodyPost_ret (v:=.tuple #[vlV 1 (Ap L) none 0 0,.bool true]) (by simp [results,results43,go_sem,y0,y1,y2,y3]) rfl ⟨K4.out.put _ _ _ _,rfl⟩
theorem yN {D:List Wr.AD} {e x:Wr.AD} (h:x∈Wr.putD D e):x∈D\/x=e:=by
 unfold Wr.putD at h;split at h
 · exact List.mem_or_eq_of_mem_set h
 · rcases List.mem_append.1 h with h | h
   · exact .inl (List.mem_of_mem_take h)
   · rcases List.mem_cons.1 h with h | h
     · exact .inr h
     · exact .inl (List.mem_of_mem_drop h)
theorem KQ (nm:Tr) (R:EvR):Wr.twA (evA nm R)=evA nm R:=by
 cases R <;> rfl
theorem Rn {a b:Int} (h:lsL a b=true):a<b:=by simpa [lsL] using h
theorem Ll {l:List Int} (h:dI lsL l):Wr.risesB l=true:=by
 rw [Wr.risesB_iff];intro j a;have:=List.pairwise_iff_getElem.1 h j (j+1) (by omega) a (by omega);have c:l.getD j 0=l[j]:=by simp [List.getD,List.getElem?_eq_getElem (show j<l.length by omega)]
 have b:l.getD (j+1) 0=l[j+1]:=by simp [List.getD,List.getElem?_eq_getElem a]
 rw [c,b];exact Rn this
theorem Iv (l:List Int):Wr.upTo (fun j=>l.getD j 0) l.length=l:=by
 unfold Wr.upTo;apply List.ext_getElem
 · simp
 · intro i b a
   simp [List.getD,List.getElem?_eq_getElem a]
theorem RH {x:AG} (h:gA x=0) (gs:List (Tr->Option Int)) (a:Li (evG x gs)=true):Wr.errV (rzK (evG x gs)) ⟨#[]⟩ (rzL (evG x gs)).length (rzZ (evG x gs))=0:=by
 have hl:=Ik h gs;obtain ⟨h1,g, -⟩:=cY h;unfold dZ at h1;simp only [Bool.or_eq_true,beq_iff_eq] at h1
 have num:∀ R:EvR,Li R=true->(∃ n,R=.num n)\/R=.no->Wr.errV (rzK R) ⟨#[]⟩ (rzL R).length (rzZ R)=0:=by
  intro R f d;rcases d with ⟨n,rfl⟩ | rfl
  · rfl
  · cases f
 rcases h1 with ((((h1 | h1) | h1) | h1) | h1) | h1
 · exact num _ a (by rw [uW h1];exact .inl ⟨_,rfl⟩)
 · exact num _ a (by rw [Ii h1];split <;> first | exact .inr rfl | exact .inl ⟨_,rfl⟩)
 · exact num _ a (by rw [Ij h1];split <;> first | exact .inr rfl | exact .inl ⟨_,rfl⟩)
 · exact num _ a (by rw [Da h1];exact .inl ⟨_,rfl⟩)
 · exact num _ a (by rw [BI h1];split <;> first | exact .inr rfl | exact .inl ⟨_,rfl⟩)
 · have c:=Ih h1 gs
   have hr:=(DA (zN x gs) [] List.Pairwise.nil).1;generalize (zN x gs).foldl (oP lsL) []=T at c hr;have b:dI lsL (T.drop (T.length-x.k.toNat)):=List.Pairwise.sublist (List.drop_sublist _ _) hr;rw [c] at hl |-
   generalize T.drop (T.length-x.k.toNat)=L at hl b;show Wr.errV 3 ⟨#[]⟩ L.length (fun j=>L.getD j 0)=0;unfold Wr.errV;rw [if_neg (by decide),if_neg (by decide),if_pos rfl,Iv];unfold Wr.errL;rw [if_neg (by simp only [rzL] at hl;omega),Ll b];rfl
theorem Ok {D:List Wr.AD} (h:∀ x∈D,Wr.twA x=x):Wr.twsA (Wr.atD D) D.length=D:=by
 unfold Wr.twsA;apply List.ext_getElem
 · simp
 · intro i b a
   have e:Wr.atD D i=D[i]:=by simp [Wr.atD,List.getD,List.getElem?_eq_getElem a]
   simp [e,h D[i] (List.getElem_mem a)]
theorem OE {D:List Wr.AD} (h:dI lsS (Wr.nmD D)):Wr.RiseA (Wr.atD D) D.length:=by
 intro i j a c;have e:∀ i,(b:i<D.length)->Wr.atD D i=D[i]:=fun i b=>by simp [Wr.atD,List.getD,List.getElem?_eq_getElem b]
 rw [e i (by omega),e j c];have hz:(Wr.nmD D).length=D.length:=by simp [Wr.nmD]
 have:=List.pairwise_iff_getElem.1 h i j (by omega) (by omega) a;simpa [Wr.nmD] using this
structure OkQ (D:List Wr.AD):Prop where
 tw:∀ x∈D,Wr.twA x=x
 ln:∀ x∈D,x.len<=16
 ri:dI lsS (Wr.nmD D)
theorem OkQ.put {D:List Wr.AD} (h:OkQ D) (nm:Tr) {R:EvR} (hl:(rzL R).length<=16):OkQ (Wr.putD D (evA nm R)) where
 tw:=fun x hx=>by
  rcases yN hx with hx | rfl
  · exact h.tw x hx
  · exact KQ _ _
 ln:=fun x hx=>by
  rcases yN hx with hx | rfl
  · exact h.ln x hx
  · exact hl
 ri:=by rw [Wr.nmD_put h.ri];exact pC fT h.ri _
theorem Oy {V:World} {d:Tp} {oc:Nat} {D:List Wr.AD} {nm:Tr} {R:EvR} {b:Tp} {vc:Nat} (f:OkQ D) (t:D.length<=20) (q:cD nm.data.toList=true) (hn:nm.size<=8) (hl:(rzL R).length<=16) (o:Wr.errV (rzK R) ⟨#[]⟩ (rzL R).length (rzZ R)=0)
 (h:Wr.ReadsA V d D.length (Wr.atD D)) (n:Wr.Reads V b (rzL R).length (rzZ R)) :
 Calls prog 44 #[.slice d D.length oc,.string nm,.agg #[.int .i64 (rzK R),.int .i64 (rzN R),.string ⟨#[]⟩,.slice b (rzL R).length vc]] V fun e w'=>(∃ a c,e=.returned (.tuple #[.slice a (Wr.putD D (evA nm R)).length c,.int .i64 0])/\Wr.ReadsA w' a (Wr.putD D (evA nm R)).length (Wr.atD (Wr.putD D (evA nm R))))/\Below V.heap.size V w':=by
 have g:∀ j,j<D.length->(Wr.atD D j).len<=1000000:=fun j l=>by
  have e:Wr.atD D j=D[j]:=by simp [Wr.atD,List.getD,List.getElem?_eq_getElem l]
  rw [e];have:=f.ln _ (List.getElem_mem l);omega
 have S:=Wr.setL_any d D.length oc (Wr.atD D) (evA nm R) b vc (by omega) g (OE f.ri) (by show nm.size<=_;omega) (by show (0:Nat)<=_;omega) (by show (rzL R).length<=_;omega) V h n;refine S.mono fun e w' hp=>?_
 unfold Wr.SetPost at hp;rw [Ok f.tw,KQ] at hp
 have r:Wr.errSet D (evA nm R)=0:=by
  unfold Wr.errSet;rw [if_neg (show ¬ cD (evA nm R).m.data.toList=false by show ¬ cD nm.data.toList=false;rw [q];decide)];rw [if_pos (show Wr.errV (evA nm R).k (evA nm R).s (evA nm R).len (evA nm R).z=0 from o),if_neg (fun p=>by have:=p.2;omega)]
 rw [if_pos r] at hp;exact hp
theorem I4 {G:Nat->Prop} (l:List LN) (a:Tp) (c:Nat) (rs:List RW) (C:Tp) (yc:Nat) (w:World) (hN:Al l) (hO:OkP l) (hr:cQ G w a l) (hy:dJ w C rs)
 (Z:∀ (x:LN),x∈l->∀ (p:PA) (V:World),aX G V x.a p->dJ V C rs->Calls prog 43 #[agV x.a p,.slice C rs.length yc] V (Do (evG x.a (rs.map RW.g)) V)) :
 Calls prog 17 #[.slice a l.length c,.slice C rs.length yc] w fun e w'=>∃ z oc,e=.returned (.slice z (rN (rs.map RW.g) l []).length oc)/\Wr.ReadsA w' z (rN (rs.map RW.g) l []).length (Wr.atD (rN (rs.map RW.g) l []))/\Below w.heap.size w w':=by
 obtain ⟨gs,S⟩:∃ gs,rs.map RW.g=gs:=⟨_,rfl⟩;obtain ⟨f,j⟩:∃ t,rN gs l []=t:=⟨_,rfl⟩;have EV:=aA Z;clear Z;rw [S] at EV |-
 rw [j];have HE:=aA (fun (x:LN) (hx:x∈l)=>And.intro (hN.fine x hx).1 (And.intro (hN.fine x hx).2.2 (hO.nm x hx).1));have hl:l.length<=8:=hN.len;have K0:=aA (show RNW G w a l C rs none [] w from ⟨Below.refl _ _,hr,hy,⟨Nat.zero_le _,.inl rfl⟩⟩);have Y:=aA (show rN gs (l.drop 0) []=f by rw [List.drop_zero];exact j);have R0:=aA (show OkQ ([]:List Wr.AD) from ⟨fun _ h=>(nomatch h),fun _ h=>(nomatch h),List.Pairwise.nil⟩);clear hr hy j S hN hO;go_enter func17,ntmps17
 go_wp2_with fail
 go_loopw [5,14] (fun v i wr=>∃ (k n:Nat) (D:List Wr.AD) (z:Tp) (oc:Nat),v=.slice z n oc/\i=.int .i64 (k:Nat)/\k<=l.length/\n<=k/\Hid (D.length=n)/\Hid (rN gs (l.drop k) D=f)/\Hid (OkQ D)/\Hid (RNW G w a l C rs z D wr)) (fun _ i _=>l.length-(intOf i).toNat)
 case atStart=>exact ⟨0,0,[],none,0,rfl,rfl,Nat.zero_le _,Td _,aA rfl,Y,R0,K0⟩
 case round =>
  obtain ⟨k,n,D,z,oc,rfl,rfl,hk,jm,T,HF,HR,N⟩:=hrel;clear K0 Y R0;by_cases E:k<l.length
  · obtain ⟨x,hx⟩:∃ x,l[k]? = some x:=⟨_,List.getElem?_eq_getElem E⟩
    have hd:l.drop k=x::l.drop (k+1):=by
     rw [List.drop_eq_getElem_cons E];rw [List.getElem?_eq_getElem E] at hx;rw [Option.some.inj hx]
    have d:=List.mem_of_getElem? hx;obtain ⟨b,off,p,jf,jn,hG,⟨p0,p1,p2,p3,p4,p5,p6,p7,p8,p9,jd,jc⟩,P⟩:=N.out.l.at hx;subst jf;obtain ⟨R,hR⟩:∃ R,evG x.a gs=R:=⟨_,rfl⟩;have hF:=HF.out;rw [hd,rN,hR] at hF;have BD:=bA0 wr (lnO x p);have ND:=heap_alloc_new wr (lnO x p);have E1:=EV.out x d p (wr.alloc (lnO x p)) (P.kept BD) (pD N.out.y BD);have hz:=Ik (HE.out x d).1 gs;have r:=RH (HE.out x d).1 gs;rw [hR] at E1 hz r;have E2:=aA (E1.mono (fun e w' h=>PZ hz h));have u:=aA hF;have HZ:=aA hz;have X:=aA r;have U:=aA (HE.out x d).2;have K2:=aA (N.out.step BD);have b1:(k:Int)<(l.length:Int):=by omega
    have b2:(0:Int)<=(k:Int):=by omega
    have b3:((k:Int)).toNat=k:=by omega
    clear hd hx hF hG hR E1 d hz P r BD N;go_upto_region 5 with fail
    generalize World.alloc wr _=V at ND K2 E2;generalize wr.heap.size=B2 at ND;have s:=aA ND;obtain ⟨q0,q1,q2,q3,q4,q5,q6,q7,q8,q9,jb,ja⟩:=sR s.out;clear ND p0 p1 p2 p3 p4 p5 p6 p7 p8 p9 jd jc;go_wp2_with fail
    refine E2.out.mono ?_;rintro e w5 ⟨H,va,vc,rfl,hv⟩;have BV:=bA0 w5 (.cells #[.int .i64 (rzK R),.int .i64 (rzN R),.string ⟨#[]⟩,.slice va (rzL R).length vc] 60);have K5:=(K2.out.step H).step BV;have V5:=hv.kept BV;have NB:=heap_alloc_new w5 (.cells #[.int .i64 (rzK R),.int .i64 (rzN R),.string ⟨#[]⟩,.slice va (rzL R).length vc] 60);have P0:=(H.trans (BV.mono H.size)).block _ (aG s.out);have P1:=P0.trans s.out;clear H hv BV P0 E2 q0 q1 q2 q3 q4 q5 q6 q7 q8 q9 jb ja K2 s;go_upto_region 6 with fail
    generalize World.alloc w5 _=W at K5 V5 NB P1;generalize w5.heap.size=B at NB;have L:=aA K5;have jh:=aA V5;have jk:=aA NB;have jj:=aA P1;clear K5 V5 NB P1;cases q:Li R with
    | false =>
      have M:=aA (show rN gs (l.drop (k+1)) D=f by have:=u.out;rw [q,if_neg (by decide)] at this;exact this);clear q u;go_wp2_with fail
      go_roundw
      case rel=>exact ⟨k+1,n,D,z,oc,rfl,by go_num,by omega,by omega,T,M,HR,L⟩
      case measure=>simp [intOf];omega
    | true =>
      have M:=aA (show rN gs (l.drop (k+1)) (Wr.putD D (evA x.nm R))=f by have:=u.out;rw [q,if_pos rfl] at this;exact this);have SC:=Oy (nm:=x.nm) (R:=R) (oc:=oc) (vc:=vc) HR.out (by rw [T.out];omega) U.out.2 U.out.1 HZ.out (X.out q) L.out.o jh.out;rw [T.out] at SC;have I:=aA SC;obtain ⟨c0,c1,c2,c3⟩:=Sv jk.out;obtain ⟨q0, -⟩:=sR jj.out;have A:(Wr.putD D (evA x.nm R)).length<=D.length+1:=by unfold Wr.putD;split <;> simp <;> omega
      have jg:(Wr.putD D (evA x.nm R)).length<=n+1:=by rw [<- T.out];exact A
      have ji:=aA (HR.out.put x.nm HZ.out);clear q u SC A;obtain ⟨m,hm⟩:∃ m,(Wr.putD D (evA x.nm R)).length=m:=⟨_,rfl⟩;rw [hm] at jg I;have HM:=aA hm;clear hm;go_wp2_with fail
      refine I.out.mono ?_;rintro e w6 ⟨⟨O,je,rfl,hA⟩,H⟩;have K6:=L.out.step H;have jl:=aA (show RNW G w (some ⟨b,off,none⟩) l C rs O (Wr.putD D (evA x.nm R)) w6 from ⟨K6.b,K6.l,K6.y,by rw [HM.out];exact hA⟩);clear H hA K6 c0 c1 c2 c3 q0 I;go_wp2_with fail
      go_roundw
      case rel=>exact ⟨k+1,m,_,O,je,rfl,by go_num,by omega,by omega,HM,M,ji,jl⟩
      case measure=>simp [intOf];omega
  · have e1:l.drop k=[]:=List.drop_of_length_le (by omega)
    have HD:=aA (show D=f by rw [<- HF.out,e1];rfl);have b1:¬ (k:Int)<(l.length:Int):=by omega
    clear e1;go_wp2_with fail
    go_ret;exact ⟨z,⟨oc,by rw [<- HD.out,T.out];rfl⟩,by rw [<- HD.out];exact N.out.o,N.out.b⟩
theorem Ru (a:Tp) (c:Nat) (b:Tp) (yc:Nat) (w:World) (hr:cQ (fun _=>True) w a uQ) (l:dJ w b uE):Calls prog 17 #[.slice a 2 c,.slice b 2 yc] w fun e w'=>∃ g oc,e=.returned (.slice g 2 oc)/\Wr.ReadsA w' g 2 (Wr.atD d12)/\Below w.heap.size w w':=by
 have d:=nO Cz
 have h:=I4 uQ a c uE b yc w d (xX Cz) hr l (fun x hx p V k j=>by
  have f:=d.fine x hx;have z:=d.sz x hx
  have hc:x.a.fn.data.toList=lY\/x.a.fn.data.toList=aN:=by
   simp only [uQ,List.mem_cons,List.not_mem_nil,or_false] at hx;rcases hx with rfl | rfl
   · exact .inl rfl
   · exact .inr rfl
  rcases hc with hc | hc
  · exact O7 x.a p uE b yc V f.1 f.2.1 z.1 xQ (by decide) k j hc
  · exact I7 x.a p uE b yc V f.1 f.2.1 z.1 xQ (by decide) k j hc)
 rw [Lk] at h;exact h
theorem Ei (x:PD) (u:Int) (k:∀ V,Calls prog 49 #[.string x.o] V fun e w'=>e=.returned (.int .i64 u)/\Below V.heap.size V w') (h:Qv x.o.data.toList=decide (1<=u)) (X:x.t.size<=5000) (w:World) (G:iE w)
 (j:∀ V,iE V->Calls prog 9 #[.string x.t] V (Aj (fX x.t.data.toList) V)):Calls prog 20 #[pdV x] w fun e w'=>e=.returned (.int .i64 (EY x))/\Below w.heap.size w w':=by
 have q:=bA0 w (pdO x 46);have y:=heap_alloc_new w (pdO x 46);have P:(w.alloc (pdO x 46)).heap.size=w.heap.size+1:=Tc _ _;generalize H:w.alloc (pdO x 46)=W at q y P;have N:=aA H;have m:=aA q;have C:=aA y;have O:=aA (G.step q);have A:=aA k;have z:=aA j;clear k j;obtain ⟨r,hr⟩:∃ r,EY x=r:=⟨_,rfl⟩;rw [hr];unfold EY at hr;clear H q y G;obtain ⟨I,c1,c2⟩:=xN C.out;go_enter func20,ntmps20
 go_upto_region 1 with fail
 rw [show w.alloc (.cells #[.int .i64 x.v,.string x.o,.string x.t] 46)=W from N.out];clear N;by_cases Z:x.v<0
 · rw [if_pos (by unfold Wr.countB;simp;omega)] at hr
   subst hr;go_wp2_with fail
   go_ret;exact ⟨rfl,m.out⟩
 by_cases Y:(1000000000:Int)<x.v
 · rw [if_pos (by unfold Wr.countB;simp;omega)] at hr
   subst hr;go_wp2_with fail
   go_ret;exact ⟨rfl,m.out⟩
 rw [if_neg (by unfold Wr.countB;simp;omega)] at hr;by_cases g:x.v=0
 · rw [if_pos g] at hr
   have T:((x.v:Int) == 0)=true:=by rw [g];rfl
   have L:=aA (I5 x W);rw [hr] at L;clear g hr;go_wp2_with fail
   refine L.out.mono ?_;rintro e E ⟨rfl,b⟩;have d:=aA (m.out.trans (b.mono (by omega)));clear b;go_wp2_with fail
   go_ret;exact ⟨rfl,d.out⟩
 · rw [if_neg g] at hr
   have T:((x.v:Int) == 0)=false:=by rw [beq_eq_false_iff_ne];exact g
   have M:=aA (A.out W);rw [h] at hr;clear g h;go_wp2_with fail
   refine M.out.mono ?_;rintro e E ⟨rfl,b⟩;have B:=aA ((b.block _ (by omega)).trans C.out);have d:=aA (m.out.trans (b.mono (by omega)));have D:=aA (O.out.step b);have U:=b.size;clear b C m M I c1 c2 O;obtain ⟨I,c1,c2⟩:=xN B.out;by_cases hn:u<1
   · rw [if_pos (by rw [decide_eq_false (by omega)])] at hr
     subst hr;go_wp2_with fail
     go_ret;exact ⟨rfl,d.out⟩
   · rw [if_neg (by rw [decide_eq_true (by omega)];decide)] at hr
     by_cases hl:4096<x.t.size
     · rw [if_pos hl] at hr
       subst hr;have S:(4096:Int)<(x.t.size:Int):=by omega
       clear hl;go_wp2_with fail
       go_ret;exact ⟨rfl,d.out⟩
     · rw [if_neg hl] at hr
       have S:¬ (4096:Int)<(x.t.size:Int):=by omega
       have n:=aA (z.out E D.out);clear hl;cases hp:fX x.t.data.toList with
       | bad p er =>
         rw [hp] at n hr;subst hr;clear hp;go_wp2_with fail
         refine n.out.mono ?_;rintro e R ⟨b,rfl⟩;have f:=aA (d.out.trans (b.mono (by omega)));clear b;go_wp2_with fail
         go_ret;exact ⟨rfl,f.out⟩
       | ok l =>
         rw [hp] at n hr;subst hr;clear hp;go_wp2_with fail
         refine n.out.mono ?_;rintro e R ⟨b,a,c,rfl,s⟩;have f:=aA (d.out.trans (b.mono (by omega)));clear b s;go_wp2_with fail
         go_ret;exact ⟨rfl,f.out⟩
abbrev pAX:Tr:=⟨#[47,97,47,120]⟩
abbrev cuX (s:Tr) (d e1 e2:Int):Array Value:=#[.string s,.int .i64 d,.int .i64 0,.int .i64 e1,.int .i64 e2,.int .i64 0,.int .i64 0]
structure DX (w V:World) (d e1 e2:Int):Prop where
 b:Below w.heap.size w V
 r:V.heap[w.heap.size]? = some (.cells (cuX ⟨#[]⟩ 0 0 0) 190 (0,0))
 c:V.heap[w.heap.size+1]? = some (.cells (cuX pAX d e1 e2) 190 (0,0))
theorem DX.step {w V V':World} {d g f:Int} (h:DX w V d g f) (a:Below V.heap.size V V'):DX w V' d g f :=
 ⟨h.b.trans (a.mono h.b.size),(a.block _ (aG h.r)).trans h.r,(a.block _ (aG h.c)).trans h.c⟩
theorem fP {V:World} {B:Nat} {s:Tr} {d b a:Int} (h:V.heap[B]? = some (.cells (cuX s d b a) 190 (0,0))):(V.cell? ⟨B,0,none⟩=some (.string s)/\V.cell? ⟨B,1,none⟩=some (.int .i64 d)/\V.cell? ⟨B,2,none⟩=some (.int .i64 0)/\V.cell? ⟨B,3,none⟩=some (.int .i64 b)/\V.cell? ⟨B,4,none⟩=some (.int .i64 a)/\V.cell? ⟨B,5,none⟩=some (.int .i64 0)/\V.cell? ⟨B,6,none⟩=some (.int .i64 0))/\∀ j,V.frozen? ⟨B,j,none⟩=false:=by
 refine ⟨⟨?_,?_,?_,?_,?_,?_,?_⟩,fun j=>?_⟩ <;> simp [World.cell?,World.frozen?,h]
theorem DX.put {w V:World} {d l g m f a:Int} {j:Nat} {v:Value} (h:DX w V d l g) (n:(cuX pAX d l g).setIfInBounds j v=cuX pAX m f a):DX w (V.setCell ⟨w.heap.size+1,j,none⟩ v) m f a:=by
 have k:=(aC.refl (· = w.heap.size+1) V).setCell (p:=⟨w.heap.size+1,j,none⟩) (.inl rfl) v;refine ⟨h.b.trans (k.below (B:=w.heap.size) (fun k o=>by omega) h.b.size),k.heap h.r (by omega),?_⟩;rw [heap_setCell_same V _ j _ _ v h.c,n]
theorem DX.set1 {w V:World} {d b a:Int} (h:DX w V d b a) (x:Int):DX w (V.setCell ⟨w.heap.size+1,1,none⟩ (.int .i64 x)) x b a:=h.put (by simp)
theorem DX.set3 {w V:World} {d b a:Int} (h:DX w V d b a) (x:Int):DX w (V.setCell ⟨w.heap.size+1,3,none⟩ (.int .i64 x)) d x a:=h.put (by simp)
theorem DX.set4 {w V:World} {d a b:Int} (h:DX w V d a b) (x:Int):DX w (V.setCell ⟨w.heap.size+1,4,none⟩ (.int .i64 x)) d a x:=h.put (by simp)
abbrev OR (W:World) (B:Nat) (v0 v1 v2 v3 v4 v5 v6:Value):World:=((((((W.setCell ⟨B,0,none⟩ v0).setCell ⟨B,1,none⟩ v1).setCell ⟨B,2,none⟩ v2).setCell ⟨B,3,none⟩ v3).setCell ⟨B,4,none⟩ v4).setCell ⟨B,5,none⟩ v5).setCell ⟨B,6,none⟩ v6
theorem JP {W:World} {B:Nat} {u0 u1 u2 u3 u4 u5 u6:Value} {t:TypeId} (h:W.heap[B]? = some (.cells #[u0,u1,u2,u3,u4,u5,u6] t (0,0))) (j g f d c b a:Value):(OR W B j g f d c b a).heap[B]? = some (.cells #[j,g,f,d,c,b,a] t (0,0)) :=
 (heap_setCell_same _ B 6 _ t a (heap_setCell_same _ B 5 _ t b (heap_setCell_same _ B 4 _ t c (heap_setCell_same _ B 3 _ t d (heap_setCell_same _ B 2 _ t f (heap_setCell_same _ B 1 _ t g (heap_setCell_same W B 0 _ t j h))))))).trans (by simp only [S7,S9,Ta])
theorem Jw (W:World) (B:Nat) (h g f d c b a:Value):aC (· = B) W (OR W B h g f d c b a):=(((((((aC.refl (· = B) W).setCell (p:=⟨B,0,none⟩) (.inl rfl) h).setCell (p:=⟨B,1,none⟩) (.inl rfl) g).setCell (p:=⟨B,2,none⟩) (.inl rfl) f).setCell (p:=⟨B,3,none⟩) (.inl rfl) d).setCell (p:=⟨B,4,none⟩) (.inl rfl) c).setCell (p:=⟨B,5,none⟩) (.inl rfl) b).setCell (p:=⟨B,6,none⟩) (.inl rfl) a
theorem QX (w:World):Calls prog 106 #[.string pAX] w fun e w'=>e=.returned (.tuple #[.agg (cuX pAX 2 2 4),.int .i64 0])/\Below w.heap.size w w':=by
 have Z:=aA (p:=∀ V,Calls prog 161 #[.string pAX] V fun e w'=>e=.returned (.tuple #[.string ⟨#[97]⟩,.string ⟨#[47,120]⟩])/\Below V.heap.size V w') (fun V=>Wr.first_any pAX (by decide) V);have Y:=aA (p:=∀ V,Calls prog 161 #[.string ⟨#[47,120]⟩] V fun e w'=>e=.returned (.tuple #[.string ⟨#[120]⟩,.string ⟨#[]⟩])/\Below V.heap.size V w') (fun V=>Wr.first_any ⟨#[47,120]⟩ (by decide) V);have X:=aA (p:=∀ V,Calls prog 54 #[.string ⟨#[97]⟩] V fun e w'=>e=.returned (.bool true)/\V=w') (fun V=>kJ ⟨#[97]⟩ (by decide) V);have U:=aA (p:=∀ V,Calls prog 54 #[.string ⟨#[120]⟩] V fun e w'=>e=.returned (.bool true)/\V=w') (fun V=>kJ ⟨#[120]⟩ (by decide) V);have C:=bA0 w (.cells (cuX ⟨#[]⟩ 0 0 0) 190);have y:=heap_alloc_new w (.cells (cuX ⟨#[]⟩ 0 0 0) 190);have u:(w.alloc (.cells (cuX ⟨#[]⟩ 0 0 0) 190)).heap.size=w.heap.size+1:=Tc _ _;generalize N:w.alloc (.cells (cuX ⟨#[]⟩ 0 0 0) 190)=W at C y u;have P:=aA N;have A:=bA0 W (.cells (cuX pAX 0 0 0) 190);have n:=heap_alloc_new W (.cells (cuX pAX 0 0 0) 190);rw [u] at n;have t:=aA (show DX w (W.alloc (.cells (cuX pAX 0 0 0) 190)) 0 0 0 from ⟨C.trans (A.mono (by omega)),(A.block _ (by omega)).trans y,n⟩);clear N C y A n;go_enter func106,ntmps106
 go_upto_region 1 with fail
 rw [show w.alloc (.cells #[.string ⟨#[]⟩,.int .i64 0,.int .i64 0,.int .i64 0,.int .i64 0,.int .i64 0,.int .i64 0] 190)=W from P.out];clear P;go_upto_region 6 with fail
 generalize World.alloc W _=W2 at t;clear u;go_wp2_with fail
 go_loopw [5] (fun v wr=>(v=.string pAX/\Hid (DX w wr 0 0 0))\/(v=.string ⟨#[47,120]⟩/\Hid (DX w wr 1 2 0))\/(v=.string ⟨#[]⟩/\Hid (DX w wr 2 2 4))) (fun v _=>szV v)
 case atStart=>exact .inl ⟨rfl,t⟩
 case round =>
  rcases hrel with ⟨rfl,d⟩ | ⟨rfl,d⟩ | ⟨rfl,d⟩
  · clear t
    obtain ⟨⟨j,c1,c2,c3,c4,h,g⟩,a⟩:=fP d.out.c;have l:=a 1;go_wp2_with fail
    refine (Z.out _).mono ?_;rintro e x ⟨rfl,s⟩;have q:=aA (d.out.step s);clear s d j c1 c2 c3 c4 h g a l;go_wp2_with fail
    refine (X.out _).mono ?_;rintro e R ⟨rfl,rfl⟩;obtain ⟨⟨j,c1,c2,c3,c4,h,g⟩,a⟩:=fP q.out.c;have l:=a 1;go_upto_region 12 with fail
    have o:=q.out.set1 1;generalize World.setCell x _ _=W3 at o;clear j c1 c2 c3 c4 h g a l q;have f:=aA o;clear o;obtain ⟨⟨j,c1,c2,c3,c4,h,g⟩,a⟩:=fP f.out.c;have T:=a 3;go_wp2_with fail
    have z:=aA (f.out.set3 2);go_roundw
    case rel=>exact .inr (.inl ⟨rfl,z⟩)
    case measure=>decide
  · clear t
    obtain ⟨⟨j,c1,c2,c3,c4,h,g⟩,a⟩:=fP d.out.c;have l:=a 1;go_wp2_with fail
    refine (Y.out _).mono ?_;rintro e x ⟨rfl,s⟩;have q:=aA (d.out.step s);clear s d j c1 c2 c3 c4 h g a l;go_wp2_with fail
    refine (U.out _).mono ?_;rintro e R ⟨rfl,rfl⟩;obtain ⟨⟨j,c1,c2,c3,c4,h,g⟩,a⟩:=fP q.out.c;have l:=a 1;go_upto_region 12 with fail
    have o:=q.out.set1 2;generalize World.setCell x _ _=W3 at o;clear j c1 c2 c3 c4 h g a l q;have f:=aA o;clear o;obtain ⟨⟨j,c1,c2,c3,c4,h,g⟩,a⟩:=fP f.out.c;have S:=a 4;go_wp2_with fail
    have z:=aA (f.out.set4 4);go_roundw
    case rel=>exact .inr (.inr ⟨rfl,z⟩)
    case measure=>decide
  · clear t
    obtain ⟨⟨j,c1,c2,c3,c4,h,g⟩, -⟩:=fP d.out.c;obtain ⟨⟨d0,d1,d2,d3,d4,d5,d6⟩,m⟩:=fP d.out.r;have f0:=m 0;have l:=m 1;have f2:=m 2;have T:=m 3;have S:=m 4;have f5:=m 5;have f6:=m 6;clear m;go_wp2_with fail
    have O:=Jw wr w.heap.size (.string pAX) (.int .i64 2) (.int .i64 0) (.int .i64 2) (.int .i64 4) (.int .i64 0) (.int .i64 0);obtain ⟨⟨M,L,I,H,G,E,D⟩, -⟩:=fP (V:=OR wr w.heap.size (.string pAX) (.int .i64 2) (.int .i64 0) (.int .i64 2) (.int .i64 4) (.int .i64 0) (.int .i64 0)) (JP d.out.r (.string pAX) (.int .i64 2) (.int .i64 0) (.int .i64 2) (.int .i64 4) (.int .i64 0) (.int .i64 0));dsimp only [OR] at M L I H G E D O;exact bodyPost_ret (v:=.tuple #[.agg (cuX pAX 2 2 4),.int .i64 0]) (by simp [results,results106,go_sem,M,L,I,H,G,E,D]) rfl ⟨rfl,d.out.b.trans (O.below (B:=w.heap.size) (fun k hk=>by omega) d.out.b.size)⟩
theorem Ly (w:World):Calls prog 49 #[.string pAX] w fun e w'=>e=.returned (.int .i64 2)/\Below w.heap.size w w':=by
 have f:=aA (QX w);go_enter func49,ntmps49
 go_wp2_with fail
 refine f.out.mono ?_;rintro e a ⟨rfl,b⟩;have d:=b.trans ((bA0 a (.cells (cuX pAX 2 2 4) 190)).mono b.size);have c:=heap_alloc_new a (.cells (cuX pAX 2 2 4) 190);clear b f;go_upto_region 2 with fail
 generalize World.alloc a _=W at d c;have g:=aA d;obtain ⟨⟨k,c1,c2,c3,c4,j,h⟩, -⟩:=fP c;clear d c;go_wp2_with fail
 go_ret;exact ⟨rfl,g.out⟩
theorem Sq:RZ where
 ps:=fun w b=>by have h:=fY Jy (by decide) w b;rwa [Cz] at h
 pt:=fun w b=>by have h:=fY Pz (by decide) w b;rwa [Rw] at h
 rn:=Ru
 tx:=fun a c w b hr=>by
  have h:=rR uQ a c w (by decide) (nO Cz).fine b hr;rwa [MC] at h
 ck:=fun w b=>by
  have h:=Ei Ax 2 Ly (by decide) (by decide) w b (fun V d=>fY MA (by decide) V d);rwa [PH] at h
end
section
open Go.ChangeShapes Go.WideShapes Go.ChangeAt Go.RowKit
theorem Jb:ownKnob prog.godebug=none:=by kernel_rfl
theorem wD {w:World} {n:String} {g:Nat} {a:Array Value} (b:prog.globalNamed n=some g) (h:w.var? prog n=some a):∃ t f,w.heap[g]? = some (.cells a t f):=by
 unfold World.var? at h;rw [b] at h;simp only [Option.bind_some] at h;split at h
 · rename_i c t f e
   cases h;exact ⟨t,f,e⟩
 · cases h
abbrev rV:List (String×DataW Unit):=Rows.progOrderRow.laid
theorem DO: "*" ++ "errors.errorString" = "*errors.errorString" := by decide
theorem OB (u:TypeId) (h:prog.typeName? 3 u=some "*errors.errorString"):u=361 :=
 typeName_ptr_named (nm:= "errors.errorString") (by rw [DO];kernel_rfl) (by kernel_rfl) (by decide) u (by rw [DO];exact h)
theorem Mt {W:World} (h:laidMetH prog rV W):lW W:=by
 rw [MakeChecks.laidMetH_plain _ _ _ (by kernel_rfl)] at h;have h2:=h.tail.tail;have htab:=Lib.tabIs_of_head (g:=1) (k:=.u64) (zs:=Lib.pow10Tab) (by kernel_rfl) (by kernel_rfl) underlying316 underlying268 (by kernel_rfl) (by kernel_rfl) h2;unfold Lib.TabIs World.var? at htab;rw [show prog.globalNamed "internal/strconv.uint64pow10" = some 1 by kernel_rfl] at htab;simp only [Option.bind_some] at htab;split at htab
 · rename_i cs' t f e
   cases htab;exact ⟨t,f,e⟩
 · cases htab
theorem Ms {W:World} (h:laidMetH prog rV W):iE W:=by
 rw [MakeChecks.laidMetH_plain _ _ _ (by kernel_rfl)] at h;have h4:=h.tail.tail.tail.tail;have h5:=h4.tail;have hrow:∀ u,prog.typeName? 3 u=some "*errors.errorString" -> u=361:=OB;obtain ⟨a0,s0,v0, -, -, -⟩:=laid_sentinel (g:=7) h4 (by kernel_rfl) (by kernel_rfl) underlying94 hrow underlying361 underlying363 rfl rfl underlying9 (by kernel_rfl) (by kernel_rfl);obtain ⟨a1,s1,v1, -, -, -⟩:=laid_sentinel (g:=6) h5 (by kernel_rfl) (by kernel_rfl) underlying94 hrow underlying361 underlying363 rfl rfl underlying9 (by kernel_rfl) (by kernel_rfl);obtain ⟨t1,f1,p1⟩:=wD (g:=7) (by kernel_rfl) v0;obtain ⟨t2,f2,p2⟩:=wD (g:=6) (by kernel_rfl) v1;exact ⟨⟨_,_,t2,f2,p2⟩,⟨_,_,t1,f1,p1⟩⟩
theorem Mr {W:World} (h:laidMetH prog rV W):An W:=⟨Ms h,Mt h⟩
theorem FC (os:Os) (a:Array Value):laidMetH prog rV ((World.laidAll prog os rV).forCall (fun _ _=>0) ⟨#[],a,[]⟩).memory:=by
 rw [MakeChecks.laidMetH_plain _ _ _ (by kernel_rfl)];exact laidMet_laidAll _ (by kernel_rfl) (by kernel_rfl)
theorem Aq (os:Os):(World.laidAll prog os rV).Shaped prog:=World.shaped_of_ZipB (by kernel_rfl) (by kernel_rfl)
end
section
open Go.ChangeShapes Go.WideShapes Go.ChangeAt Go.RowKit
open Go.ChangeMaps (open_string shut_string)
theorem progTexts_lifted (os:Os) (b:os.Started) (H:Type) (enc:TypeId×Value->H) :
 ReturnsInHanded {} checked os 3 .any (fun w a=>(Rows.progTextsSpec.pre enc prog Tryz.f3 Rows.progTextsRow.domain false w a/\laidMetH prog rV w)/\sizedMet enc prog Tryz.f3 (OpenSpec.ofChange Rows.progTextsSpec) false w a)
  (Rows.progTextsSpec.post enc prog Tryz.f3 false true false false):=by
 refine returnsInHanded_of_change_and (C:=checked) (X:=fun w _=>laidMetH prog rV w) (fun _ _ _ z h=>h.of_heap z) Jb b (by kernel_rfl) func3
  (ChangeSpec.witness_shaped (enc:=enc) (C:=checked) (os:=os) (X:=fun w _=>laidMetH prog rV w) false (World.laidAll prog os rV) #[.string ⟨#[]⟩] 8 (World.laidAll_os _ _ _)
   (Aq os) (by kernel_rfl) (by kernel_rfl) (by kernel_rfl) (FC os _)) ?_
 intro W base a G gs g c n _ _ o _;have d:∀ (j:Nat) t v,Tryz.f3.params[j]? = some t->a[j]? = some v->Value.okWide prog W .any base t v:=c;have l:=n;obtain ⟨p,q,f,B,rfl,_,_⟩:=n;have r:DataW.TrodAll enc prog W 0 (fun _=>true) true Tryz.f3.params.toList a.toList G p:=f;rw [params3] at r d;obtain ⟨m,s,M,E,L,I,k,rfl,rfl,D,x⟩:=trodAll_cons r;obtain ⟨rfl,rfl,rfl⟩:=trodAll_nil x;obtain rfl:a=#[m]:=by cases a;simp_all
 obtain ⟨rfl,rfl⟩:=trodVars_none B;obtain ⟨u,rfl,rfl,rfl,w0⟩:=open_string underlying9 (d 0 9 m rfl rfl) D;have y:=Mr o;clear f c o;refine (xY Sq u  W y).mono fun e N ⟨A,bel⟩=>?_
 subst A;exact ⟨_,rfl,_,_,_,[],_,[],l,trodAll_mk1 (shut_bool underlying4 _),(trodAll_cons_mk (shut_string underlying9 w0) trodAll_mk0),rfl,bel.frame _,fun h=>by cases h⟩
end
end Go.Proofs.YtgfkjkokmcejbaaGreatDoor
