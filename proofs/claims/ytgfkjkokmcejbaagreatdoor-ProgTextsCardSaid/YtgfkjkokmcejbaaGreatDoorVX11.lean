/-
 No statement: what ProgTextsLift needs, of the texts QArgs, QTop, QCond, OW1, OW2, QSup, QOwn.
-/
import Derived.Test.YtgfkjkokmcejbaaGreatDoorVX10
import Derived.Deep.LoopGhost
import Derived.Shelf.Spec.SlicesInsertGrow
import Derived.Lib.SlicesDelete
import Derived.Lib.ItoaLen
import Derived.Laws.BytesString
import Derived.RangeFuncBox
import Derived.Maps.AppendAt
import Derived.Deep.Slices
import Derived.Deep.Fields
import Derived.ChangeSame
import Derived.RangeFuncNested
import Derived.RangeFuncBound
import Derived.RangeFuncCalls
import Derived.RangeFuncLeaves
import Derived.Shelf.Abstract
import Derived.Shelf.RegionOpen
import Derived.OwnWalkIn
import Derived.TacticsInMore
import Derived.LoopNIn
import Derived.LoopIn
import Derived.Lib.IndexLaws
import Derived.Maps.OwnIn
set_option maxHeartbeats 40000000
set_option maxRecDepth 100000
open Go.World renaming size_alloc -> Tc
open Nat renaming le_refl -> Td
open List renaming length_eq_zero_iff -> Tg, mem_iff_getElem -> Tn
open Go.Lib renaming toList_data -> Tm
namespace Go.Proofs.YtgfkjkokmcejbaaGreatDoor
open Go.RowKit Tryz
section
set_option linter.unusedSimpArgs false
def kI (ts:List Tk) (rb:Nat) (a:Tp) (c:Nat) (fn:Tr) (r:(Int×TN×TN)×RS) (w0:World) (e:Ending) (w':World):Prop :=
 ∃ p:PA,e=.returned (agV ⟨fn,r.1.1,r.1.2.1,r.1.2.2,[]⟩ p)/\PW ts rb a c r.2 w'/\aC (· = rb) w0 w'/\bD w0.heap.size w' p.ea r.1.2.1.ks/\bD w0.heap.size w' p.ga r.1.2.2.ks/\p.wa=none/\p.wc=0
theorem lU {w V:World} {ts:List Tk} {rb:Nat} {a:Tp} {c:Nat} {fn:Tr} {k:Int} {t u:TN} {ea ga:Tp} {ec gc:Nat} {s d:RS} (h:AW w ts rb a c ⟨fn,k,t,u,[]⟩ ⟨ea,ec,ga,gc,none,0⟩ s V) (hr:bJ ts fn.data.toList d=((k,t,u),s)) :
 kI ts rb a c fn (bJ ts fn.data.toList d) w (.returned (agV ⟨fn,k,t,u,[]⟩ ⟨ea,ec,ga,gc,none,0⟩)) (eJ V (w.heap.size+1) ⟨fn,k,t,u,[]⟩ ⟨ea,ec,ga,gc,none,0⟩):=by
 rw [hr];have b:=bL V (w.heap.size+1) ⟨fn,k,t,u,[]⟩ ⟨ea,ec,ga,gc,none,0⟩;exact ⟨_,rfl,h.r.other b (by have:=h.h;omega),h.k.trans b (fun i l f=>by omega),(h.e.keptS b (fun k j=>by omega)).mono (by omega),(h.g.keptS b (fun k j=>by omega)).mono (by omega),rfl,rfl⟩
theorem sI {w:World} {ts:List Tk} {rb:Nat} {a:Tp} {c:Nat} {s:RS} (h:PW ts rb a c s w) (fn:Tr):AW w ts rb a c ⟨fn,0,aD,aD,[]⟩ aI s ((w.alloc (agO ⟨fn,0,aD,aD,[]⟩ aI)).alloc (agO aO aI)):=by
 have f:=bA0 w (agO ⟨fn,0,aD,aD,[]⟩ aI);have j:=heap_alloc_new w (agO ⟨fn,0,aD,aD,[]⟩ aI);have g:(w.alloc (agO ⟨fn,0,aD,aD,[]⟩ aI)).heap.size=w.heap.size+1:=Tc _ _;generalize w.alloc (agO ⟨fn,0,aD,aD,[]⟩ aI)=W1 at *;have b:=bA0 W1 (agO aO aI);have d:=heap_alloc_new W1 (agO aO aI);rw [g] at d;exact ⟨(h.below f).below b,(aF (f.trans (b.mono (by omega))) _),(b.block _ (by omega)).trans j,d,.inl rfl,.inl rfl,by rw [Tc];omega,h.r.lt⟩
theorem AW.drewN {w V:World} {ts:List Tk} {rb:Nat} {a:Tp} {c:Nat} {x:AG} {p:PA} {s:RS} (h:AW w ts rb a c x p s V) (n:Nat):AW w ts rb a c x p s (V.drewN n) :=
 h.step (h.r.kept (oB (aC.refl _ _) n)) (oB (aC.refl _ _) n)
theorem G7 (ts:List Tk) (rb:Nat) (a:Tp) (c:Nat) (s:RS) (fn:Tr) (w:World) (h:PW ts rb a c s w) (_:s.bad=0) (j:fn.data.toList=aN):Calls prog 63 #[.pointer (some ⟨rb,0,none⟩),agV ⟨fn,0,aD,aD,[]⟩ aI] w (kI ts rb a c fn (bJ ts fn.data.toList s) w):=by
 have T:(fn.toList == aN)=true:=bG (by rw [j];decide);unfold aN at T;have HR:=aA (show bJ ts fn.data.toList s=((0,aD,aD),s) by unfold bJ;rw [if_pos j]);clear j;have f:=sI h fn;generalize d:w.alloc (agO ⟨fn,0,aD,aD,[]⟩ aI)=W1 at f;generalize C:W1.alloc (agO aO aI)=W at f;have l:=aA d;have HW:=aA C;have K:=aA f;clear d C f h;obtain ⟨B,A,z,y,x,u,r,q,p,m,b⟩:=aE K.out.n;go_enter func63,ntmps63
 go_upto_region 1 with fail
 rw [l.out,show W1.alloc (.cells #[.string ⟨#[]⟩,.int .i64 0,.string ⟨#[]⟩,.string ⟨#[]⟩,.int .i64 0,.slice none 0 0,.string ⟨#[]⟩,.string ⟨#[]⟩,.int .i64 0,.slice none 0 0,.slice none 0 0] 82)=W from HW.out];clear B A z y x u r q p m b;obtain ⟨B,A,z,y,x,u,r,q,p,m,b⟩:=aE K.out.n;obtain ⟨z0,z1,z2,z3,z4,z5,z6,z7,z8,z9,D⟩:=bI K.out.o;obtain ⟨b0,b1,b2,b3,b4,Z,Y,X,V,U,k⟩:=aE K.out.o;go_wp2_with fail
 have KP:=bL W (w.heap.size+1) ⟨fn,0,aD,aD,[]⟩ aI;obtain ⟨S,R,O,N,M,L,I,H,G,E,g⟩:=aE (cF (t:=82) K.out.o ⟨fn,0,aD,aD,[]⟩ aI);have P:=lU K.out HR.out;exact bodyPost_ret (v:=agV ⟨fn,0,aD,aD,[]⟩ aI) (by simp [results,results63,go_sem,S,R,O,N,M,L,I,H,G,E,g,b0,b1,b2,b3,b4,Z,Y,X,V,U,k]) rfl P
theorem G4 (ts:List Tk) (rb:Nat) (a:Tp) (c:Nat) (s:RS) (fn:Tr) (w:World) (h:PW ts rb a c s w) (_:s.bad=0) (Z:¬ fn.data.toList=aN) (X:¬ fn.data.toList=cH) (V:¬ fn.data.toList=aP):Calls prog 63 #[.pointer (some ⟨rb,0,none⟩),agV ⟨fn,0,aD,aD,[]⟩ aI] w (kI ts rb a c fn (bJ ts fn.data.toList s) w):=by
 have g0:(fn.toList == aN)=false:=aH (beq_eq_false_iff_ne.2 Z);have g1:(fn.toList == cH)=false:=aH (beq_eq_false_iff_ne.2 X);have g2:(fn.toList == aP)=false:=aH (beq_eq_false_iff_ne.2 V);have hc:=aA Z;have ht:=aA X;have Y:=aA V;unfold aN at g0;unfold cH at g1;unfold aP at g2;clear Z X V;have S:=sI h fn;generalize N:w.alloc (agO ⟨fn,0,aD,aD,[]⟩ aI)=W1 at S;generalize hW:W1.alloc (agO aO aI)=W at S;have jb:=aA N;have HW:=aA hW;have K:=aA S;clear N hW S h;obtain ⟨l,G,E,D,C,B,A,y,x,u,f⟩:=aE K.out.n;go_enter func63,ntmps63
 go_upto_region 1 with fail
 rw [jb.out,show W1.alloc (.cells #[.string ⟨#[]⟩,.int .i64 0,.string ⟨#[]⟩,.string ⟨#[]⟩,.int .i64 0,.slice none 0 0,.string ⟨#[]⟩,.string ⟨#[]⟩,.int .i64 0,.slice none 0 0,.slice none 0 0] 82)=W from HW.out];clear l G E D C B A y x u f;obtain ⟨l, -⟩:=aE K.out.n;have EX:=aA (f9 ts rb a c (s) W K.out.r);obtain ⟨t1,s1,j⟩:∃ t q,bC ts (s)=(t,q):=⟨_,_,rfl⟩;rw [j] at EX;have jc:=aA j;clear j;go_wp2_with fail
 refine EX.out.mono ?_;rintro e R ⟨b,d,rfl,L,M,I⟩;have O:=aA (K.out.step L M);have H:bD (w.heap.size+2) R b t1.ks:=I.mono K.out.z;clear L M I EX;obtain ⟨l,G,E,D,C,B,A,y,x,u,f⟩:=aE O.out.n;obtain ⟨z0,z1,z2,z3,z4,z5,z6,z7,z8,z9,p⟩:=bI O.out.n;have KX:=gJ R w.heap.size t1 b d;obtain ⟨U1,k⟩:∃ U,putE R w.heap.size t1 b d=U:=⟨_,rfl⟩
 have m:=aA (show AW w ts rb a c ⟨fn,0,t1,aD,[]⟩ ⟨b,d,none,0,none,0⟩ _ U1 by
  rw [<- k];exact O.out.box KX (jA O.out.n t1 b d) H O.out.g)
 have jd:=aA k;clear KX k H;go_upto_region 14 with fail
 rw [show ((((R.setCell ⟨w.heap.size,2,none⟩ (.string t1.op)).setCell ⟨w.heap.size,3,none⟩ (.string t1.nm)).setCell ⟨w.heap.size,4,none⟩ (.int .i64 t1.n)).setCell ⟨w.heap.size,5,none⟩ (.slice b t1.ks.len d))=U1 from jd.out];clear l G E D C B A y x u f z0 z1 z2 z3 z4 z5 z6 z7 z8 z9 p;obtain ⟨l,G,E,D,C,B,A,y,x,u,f⟩:=aE m.out.n;have HR:=aA (show bJ ts fn.data.toList s=((0,t1,aD),s1) by unfold bJ;rw [if_neg hc.out];simp only [if_neg ht.out,if_neg Y.out];rw [jc.out]);obtain ⟨l,G,E,D,C,B,A,y,x,u,f⟩:=aE m.out.n;obtain ⟨z0,z1,z2,z3,z4,z5,z6,z7,z8,z9,p⟩:=bI m.out.o;obtain ⟨b0,b1,b2,b3,b4,b5,b6,b7,b8,b9,ja⟩:=aE m.out.o;go_wp2_with fail
 have KP:=bL U1 (w.heap.size+1) ⟨fn,0,t1,aD,[]⟩ ⟨b,d,none,0,none,0⟩;obtain ⟨y0,y1,y2,y3,y4,y5,y6,y7,y8,y9,T⟩:=aE (cF (t:=82) m.out.o ⟨fn,0,t1,aD,[]⟩ ⟨b,d,none,0,none,0⟩);have P:=lU m.out HR.out;exact bodyPost_ret (v:=agV ⟨fn,0,t1,aD,[]⟩ ⟨b,d,none,0,none,0⟩) (by simp [results,results63,go_sem,y0,y1,y2,y3,y4,y5,y6,y7,y8,y9,T,b0,b1,b2,b3,b4,b5,b6,b7,b8,b9,ja]) rfl P
theorem G6 (ts:List Tk) (rb:Nat) (a:Tp) (c:Nat) (s:RS) (fn:Tr) (w:World) (h:PW ts rb a c s w) (_:s.bad=0) (hf:¬ fn.data.toList=aN) (hg:¬ fn.data.toList=cH) (hh:fn.data.toList=aP):Calls prog 63 #[.pointer (some ⟨rb,0,none⟩),agV ⟨fn,0,aD,aD,[]⟩ aI] w (kI ts rb a c fn (bJ ts fn.data.toList s) w):=by
 have g0:(fn.toList == aN)=false:=aH (beq_eq_false_iff_ne.2 hf);have g1:(fn.toList == cH)=false:=aH (beq_eq_false_iff_ne.2 hg);have g2:(fn.toList == aP)=true:=bG (by rw [hh];decide);have hc:=aA hf;have ht:=aA hg;have jb:=aA hh;unfold aN at g0;unfold cH at g1;unfold aP at g2;clear hf hg hh;have K0:=sI h fn;generalize Y:w.alloc (agO ⟨fn,0,aD,aD,[]⟩ aI)=W1 at K0;generalize hW:W1.alloc (agO aO aI)=W at K0;have jd:=aA Y;have HW:=aA hW;have K:=aA K0;clear Y hW K0 h;obtain ⟨p,G,E,D,C,B,A,y,x,u,j⟩:=aE K.out.n;go_enter func63,ntmps63
 go_upto_region 1 with fail
 rw [jd.out,show W1.alloc (.cells #[.string ⟨#[]⟩,.int .i64 0,.string ⟨#[]⟩,.string ⟨#[]⟩,.int .i64 0,.slice none 0 0,.string ⟨#[]⟩,.string ⟨#[]⟩,.int .i64 0,.slice none 0 0,.slice none 0 0] 82)=W from HW.out];clear p G E D C B A y x u j;obtain ⟨p, -⟩:=aE K.out.n;have L:=aA (f9 ts rb a c (s) W K.out.r);obtain ⟨t1,s1,k⟩:∃ t q,bC ts (s)=(t,q):=⟨_,_,rfl⟩;rw [k] at L;have jf:=aA k;clear k;go_wp2_with fail
 refine L.out.mono ?_;rintro e v1 ⟨b,d,rfl,S,X,N⟩;have K2:=aA (K.out.step S X);have l:bD (w.heap.size+2) v1 b t1.ks:=N.mono K.out.z;clear S X N L;obtain ⟨p,G,E,D,C,B,A,y,x,u,j⟩:=aE K2.out.n;obtain ⟨z0,z1,z2,z3,z4,z5,z6,z7,z8,z9,m⟩:=bI K2.out.n;have KX:=gJ v1 w.heap.size t1 b d;obtain ⟨U1,I⟩:∃ U,putE v1 w.heap.size t1 b d=U:=⟨_,rfl⟩
 have K3:=aA (show AW w ts rb a c ⟨fn,0,t1,aD,[]⟩ ⟨b,d,none,0,none,0⟩ _ U1 by
  rw [<- I];exact K2.out.box KX (jA K2.out.n t1 b d) l K2.out.g)
 have jh:=aA I;clear KX I l;go_upto_region 14 with fail
 rw [show ((((v1.setCell ⟨w.heap.size,2,none⟩ (.string t1.op)).setCell ⟨w.heap.size,3,none⟩ (.string t1.nm)).setCell ⟨w.heap.size,4,none⟩ (.int .i64 t1.n)).setCell ⟨w.heap.size,5,none⟩ (.slice b t1.ks.len d))=U1 from jh.out];clear p G E D C B A y x u j z0 z1 z2 z3 z4 z5 z6 z7 z8 z9 m;obtain ⟨p,G,E,D,C,B,A,y,x,u,j⟩:=aE K3.out.n;have WN:=aA (jJ ts rb a c s1 ⟨#[44]⟩ U1 K3.out.r);go_wp2_with fail
 refine WN.out.mono ?_;rintro e v2 ⟨rfl,R,V⟩;have K4:=aA (K3.out.step R V);clear R V WN p G E D C B A y x u j;have L:=aA (f9 ts rb a c _ v2 K4.out.r);obtain ⟨t2,s2,k⟩:∃ t q,bC ts (aU ts (⟨#[44]⟩:Tr).data.toList s1)=(t,q):=⟨_,_,rfl⟩;rw [k] at L;have je:=aA k;clear k;go_wp2_with fail
 refine L.out.mono ?_;rintro e v3 ⟨f,cc2,rfl,O,T,M⟩;have K5:=aA (K4.out.step O T);have l:bD (w.heap.size+2) v3 f t2.ks:=M.mono K4.out.z;clear O T M L;obtain ⟨p,G,E,D,C,B,A,y,x,u,j⟩:=aE K5.out.n;obtain ⟨z0,z1,z2,z3,z4,z5,z6,z7,z8,z9,m⟩:=bI K5.out.n;have KX:=Bp v3 w.heap.size t2 f cc2;obtain ⟨U2,H⟩:∃ U,putG v3 w.heap.size t2 f cc2=U:=⟨_,rfl⟩
 have Z:=aA (show AW w ts rb a c ⟨fn,0,t1,t2,[]⟩ ⟨b,d,f,cc2,none,0⟩ _ U2 by
  rw [<- H];exact K5.out.box KX (JN K5.out.n t2 f cc2) K5.out.e l)
 have jg:=aA H;clear KX H l;go_upto_region 17 with fail
 rw [show ((((v3.setCell ⟨w.heap.size,6,none⟩ (.string t2.op)).setCell ⟨w.heap.size,7,none⟩ (.string t2.nm)).setCell ⟨w.heap.size,8,none⟩ (.int .i64 t2.n)).setCell ⟨w.heap.size,9,none⟩ (.slice f t2.ks.len cc2))=U2 from jg.out];clear p G E D C B A y x u j z0 z1 z2 z3 z4 z5 z6 z7 z8 z9 m;have HR:=aA (show bJ ts fn.data.toList s=((0,t1,t2),s2) by unfold bJ;rw [if_neg hc.out];simp only [if_neg ht.out,if_pos jb.out];rw [jf.out];simp only;rw [show ([44]:Tq)=(⟨#[44]⟩:Tr).data.toList from rfl,je.out]);obtain ⟨p,G,E,D,C,B,A,y,x,u,j⟩:=aE Z.out.n;obtain ⟨z0,z1,z2,z3,z4,z5,z6,z7,z8,z9,m⟩:=bI Z.out.o;obtain ⟨b0,b1,b2,b3,b4,b5,b6,b7,b8,b9,jc⟩:=aE Z.out.o;go_wp2_with fail
 have KP:=bL U2 (w.heap.size+1) ⟨fn,0,t1,t2,[]⟩ ⟨b,d,f,cc2,none,0⟩;obtain ⟨y0,y1,y2,y3,y4,y5,y6,y7,y8,y9,ja⟩:=aE (cF (t:=82) Z.out.o ⟨fn,0,t1,t2,[]⟩ ⟨b,d,f,cc2,none,0⟩);have P:=lU Z.out HR.out;exact bodyPost_ret (v:=agV ⟨fn,0,t1,t2,[]⟩ ⟨b,d,f,cc2,none,0⟩) (by simp [results,results63,go_sem,y0,y1,y2,y3,y4,y5,y6,y7,y8,y9,ja,b0,b1,b2,b3,b4,b5,b6,b7,b8,b9,jc]) rfl P
set_option linter.unusedSimpArgs false
theorem IE {n:Nat} {s:RS} (h:lX n s) (a:s.pos<n):lX n (aM s):=⟨fun _=>a,by show s.pos+1<=_;omega,h.2.2⟩
theorem oY {ts:List Tk} {rb:Nat} {a:Tp} {c:Nat} {s:RS} {W:World} (h:PW ts rb a c s W) (b:s.pos<ts.length):PW ts rb a c (aM s) (W.setCell ⟨rb,1,none⟩ (.int .i64 ((s.pos:Int)+1))):=h.set (IE h.f b) rfl
theorem Km (ts:List Tk) (rb:Nat) (a:Tp) (c:Nat) (s:RS) (fn:Tr) (w:World) (h:PW ts rb a c s w) (hb:s.bad=0) (hf:¬ fn.data.toList=aN) (hg:fn.data.toList=cH) (hp:¬ s.pos<ts.length):Calls prog 63 #[.pointer (some ⟨rb,0,none⟩),agV ⟨fn,0,aD,aD,[]⟩ aI] w (kI ts rb a c fn (bJ ts fn.data.toList s) w):=by
 have g0:(fn.toList == aN)=false:=aH (beq_eq_false_iff_ne.2 hf);have g1:(fn.toList == cH)=true:=bG (by rw [hg];decide);have g2:(fn.toList == aP)=false:=aH (by rw [hg];decide);have ja:¬ fn.data.toList=aP:=by rw [hg];decide
 have q:((s.bad:Int) == 0)=true:=by rw [hb];rfl
 have q2:((s.bad:Int) != 0)=false:=by rw [hb];rfl
 have jh:=h.f.2.1;have ji:=h.f.2.2.2;have HC:=aA hf;have HT:=aA hg;have HF:=aA ja;unfold aN at g0;unfold cH at g1;unfold aP at g2;have FA:=aA (fun V (hV:PW ts rb a c s V)=>dH ts rb a c s 2 (by decide) V hV);have p:=aA (show jW ts s=(0,aQ 2 s) by unfold jW;rw [if_pos hb,List.getElem?_eq_none (by omega)]);have k:¬ (aQ 2 s).bad=0:=by unfold aQ;rw [if_pos hb];show ¬ (2:Int)=0;decide
 obtain ⟨s1,hs⟩:∃ s1,aQ 2 s=s1:=⟨_,rfl⟩;rw [hs] at k FA p;have r1:((s1.bad:Int) == 0)=false:=beq_eq_false_iff_ne.2 k;have r2:((s1.bad:Int) != 0)=true:=by simpa using k
 clear hs k hf hg ja;have a1:decide (ts.length<=s.pos)=true:=decide_eq_true (by omega);have a2:decide ((ts.length:Int)<=(s.pos:Int))=true:=decide_eq_true (by omega);have K0:=sI h fn;generalize jb:w.alloc (agO ⟨fn,0,aD,aD,[]⟩ aI)=W1 at K0;generalize hW:W1.alloc (agO aO aI)=W at K0;have je:=aA jb;have HW:=aA hW;have K:=aA K0;clear jb hW K0 h;obtain ⟨m,G,E,D,C,B,A,y,x,u,j⟩:=aE K.out.n;go_enter func63,ntmps63
 go_upto_region 1 with fail
 rw [je.out,show W1.alloc (.cells #[.string ⟨#[]⟩,.int .i64 0,.string ⟨#[]⟩,.string ⟨#[]⟩,.int .i64 0,.slice none 0 0,.string ⟨#[]⟩,.string ⟨#[]⟩,.int .i64 0,.slice none 0 0,.slice none 0 0] 82)=W from HW.out];obtain ⟨c0,c1,c2,c3,c4⟩:=K.out.r.r.cells.1;go_wp2_with (go_quiet (fail))
 refine (FA.out _ (K.out.drewN _).r).mono ?_;rintro e v0 ⟨rfl,T,Z⟩;have K1:=aA ((K.out.drewN _).step T Z);clear T Z FA m G E D C B A y x u j c0 c1 c2 c3 c4;obtain ⟨m,G,E,D,C,B,A,y,x,u,j⟩:=aE K1.out.n;obtain ⟨c0,c1,c2,c3,c4⟩:=K1.out.r.r.cells.1;have WN:=aA (jJ ts rb a c s1 ⟨#[44]⟩ v0 K1.out.r);go_wp2_with fail
 refine WN.out.mono ?_;rintro e v9 ⟨rfl,R,X⟩;have l:=aA (K1.out.step R X);clear R X WN;clear m G E D C B A y x u j;obtain ⟨m, -⟩:=aE l.out.n;have EX:=aA (f9 ts rb a c (aU ts (⟨#[44]⟩:Tr).data.toList s1) v9 l.out.r);obtain ⟨t1,s1,H⟩:∃ t q,bC ts (aU ts (⟨#[44]⟩:Tr).data.toList s1)=(t,q):=⟨_,_,rfl⟩;rw [H] at EX;have jf:=aA H;clear H;go_wp2_with fail
 refine EX.out.mono ?_;rintro e v1 ⟨b,d,rfl,S,Y,O⟩;have K2:=aA (l.out.step S Y);have N:bD (w.heap.size+2) v1 b t1.ks:=O.mono l.out.z;clear S Y O EX;obtain ⟨m,G,E,D,C,B,A,y,x,u,j⟩:=aE K2.out.n;obtain ⟨z0,z1,z2,z3,z4,z5,z6,z7,z8,z9,M⟩:=bI K2.out.n;have KX:=gJ v1 w.heap.size t1 b d;obtain ⟨U1,I⟩:∃ U,putE v1 w.heap.size t1 b d=U:=⟨_,rfl⟩
 have L:=aA (show AW w ts rb a c ⟨fn,0,t1,aD,[]⟩ ⟨b,d,none,0,none,0⟩ _ U1 by
  rw [<- I];exact K2.out.box KX (jA K2.out.n t1 b d) N K2.out.g)
 have jg:=aA I;clear KX I N;go_upto_region 14 with fail
 rw [show ((((v1.setCell ⟨w.heap.size,2,none⟩ (.string t1.op)).setCell ⟨w.heap.size,3,none⟩ (.string t1.nm)).setCell ⟨w.heap.size,4,none⟩ (.int .i64 t1.n)).setCell ⟨w.heap.size,5,none⟩ (.slice b t1.ks.len d))=U1 from jg.out];clear m G E D C B A y x u j z0 z1 z2 z3 z4 z5 z6 z7 z8 z9 M;obtain ⟨m,G,E,D,C,B,A,y,x,u,j⟩:=aE L.out.n;have HR:=aA (show bJ ts fn.data.toList s=((0,t1,aD),s1) by unfold bJ;rw [if_neg HC.out];simp only [if_pos HT.out,if_neg HF.out];rw [p.out];simp only;rw [show ([44]:Tq)=(⟨#[44]⟩:Tr).data.toList from rfl,jf.out]);obtain ⟨m,G,E,D,C,B,A,y,x,u,j⟩:=aE L.out.n;obtain ⟨z0,z1,z2,z3,z4,z5,z6,z7,z8,z9,M⟩:=bI L.out.o;obtain ⟨b0,b1,b2,b3,b4,b5,b6,b7,b8,b9,jd⟩:=aE L.out.o;go_wp2_with fail
 have KP:=bL U1 (w.heap.size+1) ⟨fn,0,t1,aD,[]⟩ ⟨b,d,none,0,none,0⟩;obtain ⟨y0,y1,y2,y3,y4,y5,y6,y7,y8,y9,jc⟩:=aE (cF (t:=82) L.out.o ⟨fn,0,t1,aD,[]⟩ ⟨b,d,none,0,none,0⟩);have P:=lU L.out HR.out;exact bodyPost_ret (v:=agV ⟨fn,0,t1,aD,[]⟩ ⟨b,d,none,0,none,0⟩) (by simp [results,results63,go_sem,y0,y1,y2,y3,y4,y5,y6,y7,y8,y9,jc,b0,b1,b2,b3,b4,b5,b6,b7,b8,b9,jd]) rfl P
theorem Kl (ts:List Tk) (rb:Nat) (a:Tp) (c:Nat) (s:RS) (fn:Tr) (w:World) (h:PW ts rb a c s w) (hb:s.bad=0) (hf:¬ fn.data.toList=aN) (hg:fn.data.toList=cH) (hp:s.pos<ts.length) (hk:¬ ts[s.pos].kind=2):Calls prog 63 #[.pointer (some ⟨rb,0,none⟩),agV ⟨fn,0,aD,aD,[]⟩ aI] w (kI ts rb a c fn (bJ ts fn.data.toList s) w):=by
 have g0:(fn.toList == aN)=false:=aH (beq_eq_false_iff_ne.2 hf);have g1:(fn.toList == cH)=true:=bG (by rw [hg];decide);have g2:(fn.toList == aP)=false:=aH (by rw [hg];decide);have jc:¬ fn.data.toList=aP:=by rw [hg];decide
 have q:((s.bad:Int) == 0)=true:=by rw [hb];rfl
 have q2:((s.bad:Int) != 0)=false:=by rw [hb];rfl
 have jj:=h.f.2.1;have jk:=h.f.2.2.2;have HC:=aA hf;have HT:=aA hg;have HF:=aA jc;unfold aN at g0;unfold cH at g1;unfold aP at g2;have FA:=aA (fun V (hV:PW ts rb a c s V)=>dH ts rb a c s 2 (by decide) V hV);have x:=aA (show jW ts s=(0,aQ 2 s) by unfold jW;rw [if_pos hb,List.getElem?_eq_getElem hp];simp only;rw [if_neg hk]);have l:¬ (aQ 2 s).bad=0:=by unfold aQ;rw [if_pos hb];show ¬ (2:Int)=0;decide
 obtain ⟨s1,hs⟩:∃ s1,aQ 2 s=s1:=⟨_,rfl⟩;rw [hs] at l FA x;have r1:((s1.bad:Int) == 0)=false:=beq_eq_false_iff_ne.2 l;have r2:((s1.bad:Int) != 0)=true:=by simpa using l
 clear hs l hf hg jc;have a1:decide (ts.length<=s.pos)=false:=decide_eq_false (by omega);have a2:decide ((ts.length:Int)<=(s.pos:Int))=false:=decide_eq_false (by omega);have a4:(s.pos:Int)<(ts.length:Int):=by omega
 have a5:(0:Int)<=(s.pos:Int):=by omega
 have a6:((s.pos:Int)).toNat=s.pos:=by omega
 obtain ⟨kd,m⟩:∃ kd,ts[s.pos].kind=kd:=⟨_,rfl⟩;have n1:(kd == 2)=false:=by rw [<- m];simpa using hk
 have n2:(kd != 2)=true:=by rw [<- m];simpa using hk
 clear hk;have K0:=sI h fn;generalize jd:w.alloc (agO ⟨fn,0,aD,aD,[]⟩ aI)=W1 at K0;generalize hW:W1.alloc (agO aO aI)=W at K0;have jg:=aA jd;have HW:=aA hW;have K:=aA K0;clear jd hW K0 h;obtain ⟨u,I,H,G,E,D,C,B,A,y,k⟩:=aE K.out.n;go_enter func63,ntmps63
 go_upto_region 1 with fail
 rw [jg.out,show W1.alloc (.cells #[.string ⟨#[]⟩,.int .i64 0,.string ⟨#[]⟩,.string ⟨#[]⟩,.int .i64 0,.slice none 0 0,.string ⟨#[]⟩,.string ⟨#[]⟩,.int .i64 0,.slice none 0 0,.slice none 0 0] 82)=W from HW.out];obtain ⟨c0,c1,c2,c3,c4⟩:=K.out.r.r.cells.1;obtain ⟨b,off,ha, -,p0, -⟩:=bB K.out.r.t hp;rw [ha] at c0;rw [m] at p0;clear m ha;go_wp2_with (go_quiet (fail))
 refine (FA.out _ (K.out.drewN _).r).mono ?_;rintro e v0 ⟨rfl,Y,jb⟩;have K1:=aA ((K.out.drewN _).step Y jb);clear Y jb FA u I H G E D C B A y k c0 c1 c2 c3 c4;obtain ⟨u,I,H,G,E,D,C,B,A,y,k⟩:=aE K1.out.n;obtain ⟨c0,c1,c2,c3,c4⟩:=K1.out.r.r.cells.1;have WN:=aA (jJ ts rb a c s1 ⟨#[44]⟩ v0 K1.out.r);go_wp2_with fail
 refine WN.out.mono ?_;rintro e v9 ⟨rfl,T,Z⟩;have p:=aA (K1.out.step T Z);clear T Z WN;clear u I H G E D C B A y k;obtain ⟨u, -⟩:=aE p.out.n;have EX:=aA (f9 ts rb a c (aU ts (⟨#[44]⟩:Tr).data.toList s1) v9 p.out.r);obtain ⟨t1,s1,L⟩:∃ t q,bC ts (aU ts (⟨#[44]⟩:Tr).data.toList s1)=(t,q):=⟨_,_,rfl⟩;rw [L] at EX;have jh:=aA L;clear L;go_wp2_with fail
 refine EX.out.mono ?_;rintro e v1 ⟨d,j,rfl,X,ja,S⟩;have K2:=aA (p.out.step X ja);have R:bD (w.heap.size+2) v1 d t1.ks:=S.mono p.out.z;clear X ja S EX;obtain ⟨u,I,H,G,E,D,C,B,A,y,k⟩:=aE K2.out.n;obtain ⟨z0,z1,z2,z3,z4,z5,z6,z7,z8,z9,O⟩:=bI K2.out.n;have KX:=gJ v1 w.heap.size t1 d j;obtain ⟨U1,M⟩:∃ U,putE v1 w.heap.size t1 d j=U:=⟨_,rfl⟩
 have N:=aA (show AW w ts rb a c ⟨fn,0,t1,aD,[]⟩ ⟨d,j,none,0,none,0⟩ _ U1 by
  rw [<- M];exact K2.out.box KX (jA K2.out.n t1 d j) R K2.out.g)
 have ji:=aA M;clear KX M R;go_upto_region 14 with fail
 rw [show ((((v1.setCell ⟨w.heap.size,2,none⟩ (.string t1.op)).setCell ⟨w.heap.size,3,none⟩ (.string t1.nm)).setCell ⟨w.heap.size,4,none⟩ (.int .i64 t1.n)).setCell ⟨w.heap.size,5,none⟩ (.slice d t1.ks.len j))=U1 from ji.out];clear u I H G E D C B A y k z0 z1 z2 z3 z4 z5 z6 z7 z8 z9 O;obtain ⟨u,I,H,G,E,D,C,B,A,y,k⟩:=aE N.out.n;have HR:=aA (show bJ ts fn.data.toList s=((0,t1,aD),s1) by unfold bJ;rw [if_neg HC.out];simp only [if_pos HT.out,if_neg HF.out];rw [x.out];simp only;rw [show ([44]:Tq)=(⟨#[44]⟩:Tr).data.toList from rfl,jh.out]);obtain ⟨u,I,H,G,E,D,C,B,A,y,k⟩:=aE N.out.n;obtain ⟨z0,z1,z2,z3,z4,z5,z6,z7,z8,z9,O⟩:=bI N.out.o;obtain ⟨b0,b1,b2,b3,b4,b5,b6,b7,b8,b9,jf⟩:=aE N.out.o;go_wp2_with fail
 have KP:=bL U1 (w.heap.size+1) ⟨fn,0,t1,aD,[]⟩ ⟨d,j,none,0,none,0⟩;obtain ⟨y0,y1,y2,y3,y4,y5,y6,y7,y8,y9,je⟩:=aE (cF (t:=82) N.out.o ⟨fn,0,t1,aD,[]⟩ ⟨d,j,none,0,none,0⟩);have P:=lU N.out HR.out;exact bodyPost_ret (v:=agV ⟨fn,0,t1,aD,[]⟩ ⟨d,j,none,0,none,0⟩) (by simp [results,results63,go_sem,y0,y1,y2,y3,y4,y5,y6,y7,y8,y9,je,b0,b1,b2,b3,b4,b5,b6,b7,b8,b9,jf]) rfl P
theorem Kk (ts:List Tk) (rb:Nat) (a:Tp) (c:Nat) (s:RS) (fn:Tr) (w:World) (h:PW ts rb a c s w) (hb:s.bad=0) (hf:¬ fn.data.toList=aN) (hg:fn.data.toList=cH) (hp:s.pos<ts.length) (hk:ts[s.pos].kind=2) (hr:ts[s.pos].num<1\/16<ts[s.pos].num):Calls prog 63 #[.pointer (some ⟨rb,0,none⟩),agV ⟨fn,0,aD,aD,[]⟩ aI] w (kI ts rb a c fn (bJ ts fn.data.toList s) w):=by
 have g0:(fn.toList == aN)=false:=aH (beq_eq_false_iff_ne.2 hf);have g1:(fn.toList == cH)=true:=bG (by rw [hg];decide);have g2:(fn.toList == aP)=false:=aH (by rw [hg];decide);have jm:¬ fn.data.toList=aP:=by rw [hg];decide
 have q:((s.bad:Int) == 0)=true:=by rw [hb];rfl
 have q2:((s.bad:Int) != 0)=false:=by rw [hb];rfl
 have jq:=h.f.2.1;have js:=h.f.2.2.2;have HC:=aA hf;have HT:=aA hg;have HF:=aA jm;unfold aN at g0;unfold cH at g1;unfold aP at g2;obtain ⟨m,jd⟩:∃ m,ts[s.pos].num=m:=⟨_,rfl⟩;have jp:=aA jd;have jf:=aA (show jW ts s=(m,aM (aQ 1 s)) by unfold jW;rw [if_pos hb,List.getElem?_eq_getElem hp];simp only;rw [if_pos hk,if_pos hr];rw [jd]);have jh:=hr;rw [jd] at jh;clear hr jd;have hr:=jh;clear jh;have FA:=aA (fun V (hV:PW ts rb a c s V)=>dH ts rb a c s 1 (by decide) V hV);have je:=aA (show aQ 1 s=⟨s.pos,s.cnt,1,s.pos⟩ by unfold aQ;rw [if_pos hb]);have a1:decide (ts.length<=s.pos)=false:=decide_eq_false (by omega);have a2:decide ((ts.length:Int)<=(s.pos:Int))=false:=decide_eq_false (by omega);have a4:(s.pos:Int)<(ts.length:Int):=by omega
 have a5:(0:Int)<=(s.pos:Int):=by omega
 have a6:((s.pos:Int)).toNat=s.pos:=by omega
 have HP:=aA hp;clear hf hg jm;have K0:=sI h fn;generalize jn:w.alloc (agO ⟨fn,0,aD,aD,[]⟩ aI)=W1 at K0;generalize hW:W1.alloc (agO aO aI)=W at K0;have jo:=aA jn;have HW:=aA hW;have K:=aA K0;clear jn hW K0 h;obtain ⟨x,I,H,G,E,D,C,B,A,y,k⟩:=aE K.out.n;go_enter func63,ntmps63
 go_upto_region 1 with fail
 rw [jo.out,show W1.alloc (.cells #[.string ⟨#[]⟩,.int .i64 0,.string ⟨#[]⟩,.string ⟨#[]⟩,.int .i64 0,.slice none 0 0,.string ⟨#[]⟩,.string ⟨#[]⟩,.int .i64 0,.slice none 0 0,.slice none 0 0] 82)=W from HW.out];obtain ⟨c0,c1,c2,c3,c4⟩:=K.out.r.r.cells.1;obtain ⟨b,off,ha, -,p0, -,p2, -⟩:=bB K.out.r.t hp;rw [ha] at c0;have HA:=aA ha;clear ha;rw [hk] at p0;have jl:=p2.trans (congrArg (fun z=>some (Value.int .i64 z)) jp.out);clear p2;have p2:=jl;clear jl;obtain ⟨z0,z1,z2,z3,z4,z5,z6,z7,z8,z9,L⟩:=bI K.out.n;go_upto_region 9 with (first | go_quiet (fail) | go_region)
 obtain ⟨U,hU⟩:∃ U,(W.drewN (nq+1)).setCell ⟨w.heap.size,1,none⟩ (.int .i64 m)=U:=⟨_,rfl⟩
 have K1:=aA (show AW w ts rb a c ⟨fn,m,aD,aD,[]⟩ aI s U by
  rw [<- hU];exact (K.out.drewN (nq+1)).box ((aC.refl (· = w.heap.size) _).setCell (p:=⟨w.heap.size,1,none⟩) (.inl rfl) _) (Bt (K.out.drewN (nq+1)).n m) (K.out.drewN (nq+1)).e (K.out.drewN (nq+1)).g)
 rw [hU];clear hU p0 p2 c0 c1 c2 c3 c4 x I H G E D C B A y k z0 z1 z2 z3 z4 z5 z6 z7 z8 z9 L;obtain ⟨x,I,H,G,E,D,C,B,A,y,k⟩:=aE K1.out.n;rcases hr with hr | hr
 · have jc:=aA (FA.out U K1.out.r)
   go_wp2_with fail
   refine jc.out.mono ?_;rintro e v0 ⟨rfl,Y,jb⟩;have l:=aA (K1.out.step Y jb);rw [je.out] at l;clear Y jb jc x I H G E D C B A y k;obtain ⟨x,I,H,G,E,D,C,B,A,y,k⟩:=aE l.out.n;obtain ⟨c0,c1,c2,c3,c4⟩:=l.out.r.r.cells.1;obtain ⟨-,f1,f2,f3,f4⟩:=l.out.r.r.cells;have KS:=(aC.refl (· = rb) v0).setCell (p:=⟨rb,1,none⟩) (.inl rfl) (.int .i64 (((⟨s.pos,s.cnt,1,s.pos⟩:RS).pos:Int)+1));obtain ⟨X,hX⟩:∃ X,v0.setCell ⟨rb,1,none⟩ (.int .i64 (((⟨s.pos,s.cnt,1,s.pos⟩:RS).pos:Int)+1))=X:=⟨_,rfl⟩
   have u:=aA (show AW w ts rb a c ⟨fn,m,aD,aD,[]⟩ aI (aM ((⟨s.pos,s.cnt,1,s.pos⟩:RS))) X by
    rw [<- hX];exact l.out.step (oY l.out.r (by show s.pos<_;exact HP.out)) KS)
   clear KS;go_upto_region 12 with fail
   clear hX c0 c1 c2 c3 c4 f1 f2 f3 f4 x I H G E D C B A y k;have WN:=aA (jJ ts rb a c (aM ((⟨s.pos,s.cnt,1,s.pos⟩:RS))) ⟨#[44]⟩ X u.out.r);go_wp2_with fail
   refine WN.out.mono ?_;rintro e v9 ⟨rfl,S,Z⟩;have K4:=aA (u.out.step S Z);clear S Z WN;obtain ⟨x, -⟩:=aE K4.out.n;have EX:=aA (f9 ts rb a c (aU ts (⟨#[44]⟩:Tr).data.toList (aM (⟨s.pos,s.cnt,1,s.pos⟩:RS))) v9 K4.out.r);obtain ⟨t1,s1,M⟩:∃ t q,bC ts (aU ts (⟨#[44]⟩:Tr).data.toList (aM (⟨s.pos,s.cnt,1,s.pos⟩:RS)))=(t,q):=⟨_,_,rfl⟩;rw [M] at EX;have jj:=aA M;clear M;go_wp2_with fail
   refine EX.out.mono ?_;rintro e v1 ⟨d,j,rfl,T,ja,R⟩;have l:=aA (K4.out.step T ja);have O:bD (w.heap.size+2) v1 d t1.ks:=R.mono K4.out.z;clear T ja R EX;obtain ⟨x,I,H,G,E,D,C,B,A,y,k⟩:=aE l.out.n;obtain ⟨z0,z1,z2,z3,z4,z5,z6,z7,z8,z9,L⟩:=bI l.out.n;have KX:=gJ v1 w.heap.size t1 d j;obtain ⟨U1,N⟩:∃ U,putE v1 w.heap.size t1 d j=U:=⟨_,rfl⟩
   have u:=aA (show AW w ts rb a c ⟨fn,m,t1,aD,[]⟩ ⟨d,j,none,0,none,0⟩ _ U1 by
    rw [<- N];exact l.out.box KX (jA l.out.n t1 d j) O l.out.g)
   have jk:=aA N;clear KX N O;go_upto_region 14 with fail
   rw [show ((((v1.setCell ⟨w.heap.size,2,none⟩ (.string t1.op)).setCell ⟨w.heap.size,3,none⟩ (.string t1.nm)).setCell ⟨w.heap.size,4,none⟩ (.int .i64 t1.n)).setCell ⟨w.heap.size,5,none⟩ (.slice d t1.ks.len j))=U1 from jk.out];clear x I H G E D C B A y k z0 z1 z2 z3 z4 z5 z6 z7 z8 z9 L;obtain ⟨x,I,H,G,E,D,C,B,A,y,k⟩:=aE u.out.n;have HR:=aA (show bJ ts fn.data.toList s=((m,t1,aD),s1) by unfold bJ;rw [if_neg HC.out];simp only [if_pos HT.out,if_neg HF.out];rw [jf.out];simp only;rw [je.out];rw [show ([44]:Tq)=(⟨#[44]⟩:Tr).data.toList from rfl,jj.out]);obtain ⟨x,I,H,G,E,D,C,B,A,y,k⟩:=aE u.out.n;obtain ⟨z0,z1,z2,z3,z4,z5,z6,z7,z8,z9,L⟩:=bI u.out.o;obtain ⟨b0,b1,b2,b3,b4,b5,b6,b7,b8,b9,ji⟩:=aE u.out.o;go_wp2_with fail
   have KP:=bL U1 (w.heap.size+1) ⟨fn,m,t1,aD,[]⟩ ⟨d,j,none,0,none,0⟩;obtain ⟨y0,y1,y2,y3,y4,y5,y6,y7,y8,y9,jg⟩:=aE (cF (t:=82) u.out.o ⟨fn,m,t1,aD,[]⟩ ⟨d,j,none,0,none,0⟩);have P:=lU u.out HR.out;exact bodyPost_ret (v:=agV ⟨fn,m,t1,aD,[]⟩ ⟨d,j,none,0,none,0⟩) (by simp [results,results63,go_sem,y0,y1,y2,y3,y4,y5,y6,y7,y8,y9,jg,b0,b1,b2,b3,b4,b5,b6,b7,b8,b9,ji]) rfl P
 · have jr:¬ m<1:=by omega
   have jc:=aA (FA.out U K1.out.r);go_wp2_with fail
   refine jc.out.mono ?_;rintro e v0 ⟨rfl,Y,jb⟩;have l:=aA (K1.out.step Y jb);rw [je.out] at l;clear Y jb jc x I H G E D C B A y k;obtain ⟨x,I,H,G,E,D,C,B,A,y,k⟩:=aE l.out.n;obtain ⟨c0,c1,c2,c3,c4⟩:=l.out.r.r.cells.1;obtain ⟨-,f1,f2,f3,f4⟩:=l.out.r.r.cells;have KS:=(aC.refl (· = rb) v0).setCell (p:=⟨rb,1,none⟩) (.inl rfl) (.int .i64 (((⟨s.pos,s.cnt,1,s.pos⟩:RS).pos:Int)+1));obtain ⟨X,hX⟩:∃ X,v0.setCell ⟨rb,1,none⟩ (.int .i64 (((⟨s.pos,s.cnt,1,s.pos⟩:RS).pos:Int)+1))=X:=⟨_,rfl⟩
   have u:=aA (show AW w ts rb a c ⟨fn,m,aD,aD,[]⟩ aI (aM ((⟨s.pos,s.cnt,1,s.pos⟩:RS))) X by
    rw [<- hX];exact l.out.step (oY l.out.r (by show s.pos<_;exact HP.out)) KS)
   clear KS;go_upto_region 12 with fail
   clear hX c0 c1 c2 c3 c4 f1 f2 f3 f4 x I H G E D C B A y k;have WN:=aA (jJ ts rb a c (aM ((⟨s.pos,s.cnt,1,s.pos⟩:RS))) ⟨#[44]⟩ X u.out.r);go_wp2_with fail
   refine WN.out.mono ?_;rintro e v9 ⟨rfl,S,Z⟩;have K4:=aA (u.out.step S Z);clear S Z WN;obtain ⟨x, -⟩:=aE K4.out.n;have EX:=aA (f9 ts rb a c (aU ts (⟨#[44]⟩:Tr).data.toList (aM (⟨s.pos,s.cnt,1,s.pos⟩:RS))) v9 K4.out.r);obtain ⟨t1,s1,M⟩:∃ t q,bC ts (aU ts (⟨#[44]⟩:Tr).data.toList (aM (⟨s.pos,s.cnt,1,s.pos⟩:RS)))=(t,q):=⟨_,_,rfl⟩;rw [M] at EX;have jj:=aA M;clear M;go_wp2_with fail
   refine EX.out.mono ?_;rintro e v1 ⟨d,j,rfl,T,ja,R⟩;have l:=aA (K4.out.step T ja);have O:bD (w.heap.size+2) v1 d t1.ks:=R.mono K4.out.z;clear T ja R EX;obtain ⟨x,I,H,G,E,D,C,B,A,y,k⟩:=aE l.out.n;obtain ⟨z0,z1,z2,z3,z4,z5,z6,z7,z8,z9,L⟩:=bI l.out.n;have KX:=gJ v1 w.heap.size t1 d j;obtain ⟨U1,N⟩:∃ U,putE v1 w.heap.size t1 d j=U:=⟨_,rfl⟩
   have u:=aA (show AW w ts rb a c ⟨fn,m,t1,aD,[]⟩ ⟨d,j,none,0,none,0⟩ _ U1 by
    rw [<- N];exact l.out.box KX (jA l.out.n t1 d j) O l.out.g)
   have jk:=aA N;clear KX N O;go_upto_region 14 with fail
   rw [show ((((v1.setCell ⟨w.heap.size,2,none⟩ (.string t1.op)).setCell ⟨w.heap.size,3,none⟩ (.string t1.nm)).setCell ⟨w.heap.size,4,none⟩ (.int .i64 t1.n)).setCell ⟨w.heap.size,5,none⟩ (.slice d t1.ks.len j))=U1 from jk.out];clear x I H G E D C B A y k z0 z1 z2 z3 z4 z5 z6 z7 z8 z9 L;obtain ⟨x,I,H,G,E,D,C,B,A,y,k⟩:=aE u.out.n;have HR:=aA (show bJ ts fn.data.toList s=((m,t1,aD),s1) by unfold bJ;rw [if_neg HC.out];simp only [if_pos HT.out,if_neg HF.out];rw [jf.out];simp only;rw [je.out];rw [show ([44]:Tq)=(⟨#[44]⟩:Tr).data.toList from rfl,jj.out]);obtain ⟨x,I,H,G,E,D,C,B,A,y,k⟩:=aE u.out.n;obtain ⟨z0,z1,z2,z3,z4,z5,z6,z7,z8,z9,L⟩:=bI u.out.o;obtain ⟨b0,b1,b2,b3,b4,b5,b6,b7,b8,b9,ji⟩:=aE u.out.o;go_wp2_with fail
   have KP:=bL U1 (w.heap.size+1) ⟨fn,m,t1,aD,[]⟩ ⟨d,j,none,0,none,0⟩;obtain ⟨y0,y1,y2,y3,y4,y5,y6,y7,y8,y9,jg⟩:=aE (cF (t:=82) u.out.o ⟨fn,m,t1,aD,[]⟩ ⟨d,j,none,0,none,0⟩);have P:=lU u.out HR.out;exact bodyPost_ret (v:=agV ⟨fn,m,t1,aD,[]⟩ ⟨d,j,none,0,none,0⟩) (by simp [results,results63,go_sem,y0,y1,y2,y3,y4,y5,y6,y7,y8,y9,jg,b0,b1,b2,b3,b4,b5,b6,b7,b8,b9,ji]) rfl P
theorem Kj (ts:List Tk) (rb:Nat) (a:Tp) (c:Nat) (s:RS) (fn:Tr) (w:World) (h:PW ts rb a c s w) (hb:s.bad=0) (hf:¬ fn.data.toList=aN) (hg:fn.data.toList=cH) (hp:s.pos<ts.length) (hk:ts[s.pos].kind=2) (hr:¬ (ts[s.pos].num<1\/16<ts[s.pos].num)):Calls prog 63 #[.pointer (some ⟨rb,0,none⟩),agV ⟨fn,0,aD,aD,[]⟩ aI] w (kI ts rb a c fn (bJ ts fn.data.toList s) w):=by
 have g0:(fn.toList == aN)=false:=aH (beq_eq_false_iff_ne.2 hf);have g1:(fn.toList == cH)=true:=bG (by rw [hg];decide);have g2:(fn.toList == aP)=false:=aH (by rw [hg];decide);have jc:¬ fn.data.toList=aP:=by rw [hg];decide
 have q:((s.bad:Int) == 0)=true:=by rw [hb];rfl
 have q2:((s.bad:Int) != 0)=false:=by rw [hb];rfl
 have jl:=h.f.2.1;have jn:=h.f.2.2.2;have HC:=aA hf;have HT:=aA hg;have HF:=aA jc;unfold aN at g0;unfold cH at g1;unfold aP at g2;obtain ⟨l,u⟩:∃ l,ts[s.pos].num=l:=⟨_,rfl⟩;have ji:=aA u;have je:=aA (show jW ts s=(l,aM s) by unfold jW;rw [if_pos hb,List.getElem?_eq_getElem hp];simp only;rw [if_pos hk,if_neg hr];rw [u]);have O:=hr;rw [u] at O;clear hr u;have hr:=O;clear O;have FA:=aA (fun V (hV:PW ts rb a c s V)=>dH ts rb a c s 1 (by decide) V hV);have jo:=aA (show aQ 1 s=⟨s.pos,s.cnt,1,s.pos⟩ by unfold aQ;rw [if_pos hb]);have a1:decide (ts.length<=s.pos)=false:=decide_eq_false (by omega);have a2:decide ((ts.length:Int)<=(s.pos:Int))=false:=decide_eq_false (by omega);have a4:(s.pos:Int)<(ts.length:Int):=by omega
 have a5:(0:Int)<=(s.pos:Int):=by omega
 have a6:((s.pos:Int)).toNat=s.pos:=by omega
 have HP:=aA hp;clear hf hg jc;have K0:=sI h fn;generalize jd:w.alloc (agO ⟨fn,0,aD,aD,[]⟩ aI)=W1 at K0;generalize hW:W1.alloc (agO aO aI)=W at K0;have jh:=aA jd;have HW:=aA hW;have K:=aA K0;clear jd hW K0 h;obtain ⟨y,L,I,H,G,E,D,C,B,A,k⟩:=aE K.out.n;go_enter func63,ntmps63
 go_upto_region 1 with fail
 rw [jh.out,show W1.alloc (.cells #[.string ⟨#[]⟩,.int .i64 0,.string ⟨#[]⟩,.string ⟨#[]⟩,.int .i64 0,.slice none 0 0,.string ⟨#[]⟩,.string ⟨#[]⟩,.int .i64 0,.slice none 0 0,.slice none 0 0] 82)=W from HW.out];obtain ⟨c0,c1,c2,c3,c4⟩:=K.out.r.r.cells.1;obtain ⟨b,off,ha, -,p0, -,p2, -⟩:=bB K.out.r.t hp;rw [ha] at c0;have HA:=aA ha;clear ha;rw [hk] at p0;have S:=p2.trans (congrArg (fun z=>some (Value.int .i64 z)) ji.out);clear p2;have p2:=S;clear S;obtain ⟨z0,z1,z2,z3,z4,z5,z6,z7,z8,z9,m⟩:=bI K.out.n;go_upto_region 9 with (first | go_quiet (fail) | go_region)
 obtain ⟨U,hU⟩:∃ U,(W.drewN (nq+1)).setCell ⟨w.heap.size,1,none⟩ (.int .i64 l)=U:=⟨_,rfl⟩
 have K1:=aA (show AW w ts rb a c ⟨fn,l,aD,aD,[]⟩ aI s U by
  rw [<- hU];exact (K.out.drewN (nq+1)).box ((aC.refl (· = w.heap.size) _).setCell (p:=⟨w.heap.size,1,none⟩) (.inl rfl) _) (Bt (K.out.drewN (nq+1)).n l) (K.out.drewN (nq+1)).e (K.out.drewN (nq+1)).g)
 rw [hU];clear hU p0 p2 c0 c1 c2 c3 c4 y L I H G E D C B A k z0 z1 z2 z3 z4 z5 z6 z7 z8 z9 m;obtain ⟨y,L,I,H,G,E,D,C,B,A,k⟩:=aE K1.out.n;have N:¬ l<1:=fun h=>hr (.inl h)
 have jm:¬ 16<l:=fun h=>hr (.inr h)
 clear hr;obtain ⟨c0,c1,c2,c3,c4⟩:=K1.out.r.r.cells.1;obtain ⟨-,f1,f2,f3,f4⟩:=K1.out.r.r.cells;have KS:=(aC.refl (· = rb) U).setCell (p:=⟨rb,1,none⟩) (.inl rfl) (.int .i64 ((s.pos:Int)+1));obtain ⟨X,hX⟩:∃ X,U.setCell ⟨rb,1,none⟩ (.int .i64 ((s.pos:Int)+1))=X:=⟨_,rfl⟩
 have x:=aA (show AW w ts rb a c ⟨fn,l,aD,aD,[]⟩ aI (aM (s)) X by
  rw [<- hX];exact K1.out.step (oY K1.out.r (by exact HP.out)) KS)
 clear KS;go_upto_region 12 with fail
 clear hX c0 c1 c2 c3 c4 f1 f2 f3 f4 y L I H G E D C B A k;have WN:=aA (jJ ts rb a c (aM (s)) ⟨#[44]⟩ X x.out.r);go_wp2_with fail
 refine WN.out.mono ?_;rintro e v9 ⟨rfl,Y,ja⟩;have K4:=aA (x.out.step Y ja);clear Y ja WN;obtain ⟨y, -⟩:=aE K4.out.n;have EX:=aA (f9 ts rb a c (aU ts (⟨#[44]⟩:Tr).data.toList (aM (s))) v9 K4.out.r);obtain ⟨t1,s1,M⟩:∃ t q,bC ts (aU ts (⟨#[44]⟩:Tr).data.toList (aM (s)))=(t,q):=⟨_,_,rfl⟩;rw [M] at EX;have jj:=aA M;clear M;go_wp2_with fail
 refine EX.out.mono ?_;rintro e v1 ⟨d,j,rfl,Z,jb,N⟩;have K2:=aA (K4.out.step Z jb);have T:bD (w.heap.size+2) v1 d t1.ks:=N.mono K4.out.z;clear Z jb N EX;obtain ⟨y,L,I,H,G,E,D,C,B,A,k⟩:=aE K2.out.n;obtain ⟨z0,z1,z2,z3,z4,z5,z6,z7,z8,z9,m⟩:=bI K2.out.n;have KX:=gJ v1 w.heap.size t1 d j;obtain ⟨U1,R⟩:∃ U,putE v1 w.heap.size t1 d j=U:=⟨_,rfl⟩
 have x:=aA (show AW w ts rb a c ⟨fn,l,t1,aD,[]⟩ ⟨d,j,none,0,none,0⟩ _ U1 by
  rw [<- R];exact K2.out.box KX (jA K2.out.n t1 d j) T K2.out.g)
 have jk:=aA R;clear KX R T;go_upto_region 14 with fail
 rw [show ((((v1.setCell ⟨w.heap.size,2,none⟩ (.string t1.op)).setCell ⟨w.heap.size,3,none⟩ (.string t1.nm)).setCell ⟨w.heap.size,4,none⟩ (.int .i64 t1.n)).setCell ⟨w.heap.size,5,none⟩ (.slice d t1.ks.len j))=U1 from jk.out];clear y L I H G E D C B A k z0 z1 z2 z3 z4 z5 z6 z7 z8 z9 m;obtain ⟨y,L,I,H,G,E,D,C,B,A,k⟩:=aE x.out.n;have HR:=aA (show bJ ts fn.data.toList s=((l,t1,aD),s1) by unfold bJ;rw [if_neg HC.out];simp only [if_pos HT.out,if_neg HF.out];rw [je.out];simp only;rw [show ([44]:Tq)=(⟨#[44]⟩:Tr).data.toList from rfl,jj.out]);obtain ⟨y,L,I,H,G,E,D,C,B,A,k⟩:=aE x.out.n;obtain ⟨z0,z1,z2,z3,z4,z5,z6,z7,z8,z9,m⟩:=bI x.out.o;obtain ⟨b0,b1,b2,b3,b4,b5,b6,b7,b8,b9,jg⟩:=aE x.out.o;go_wp2_with fail
 have KP:=bL U1 (w.heap.size+1) ⟨fn,l,t1,aD,[]⟩ ⟨d,j,none,0,none,0⟩;obtain ⟨y0,y1,y2,y3,y4,y5,y6,y7,y8,y9,jf⟩:=aE (cF (t:=82) x.out.o ⟨fn,l,t1,aD,[]⟩ ⟨d,j,none,0,none,0⟩);have P:=lU x.out HR.out;exact bodyPost_ret (v:=agV ⟨fn,l,t1,aD,[]⟩ ⟨d,j,none,0,none,0⟩) (by simp [results,results63,go_sem,y0,y1,y2,y3,y4,y5,y6,y7,y8,y9,jf,b0,b1,b2,b3,b4,b5,b6,b7,b8,b9,jg]) rfl P
theorem Nv (ts:List Tk) (rb:Nat) (a:Tp) (c:Nat) (s:RS) (fn:Tr) (w:World) (h:PW ts rb a c s w) (b:s.bad=0):Calls prog 63 #[.pointer (some ⟨rb,0,none⟩),agV ⟨fn,0,aD,aD,[]⟩ aI] w (kI ts rb a c fn (bJ ts fn.data.toList s) w):=by
 by_cases d:fn.data.toList=aN
 · exact G7 ts rb a c s fn w h b d
 by_cases f:fn.data.toList=cH
 · by_cases hp:s.pos<ts.length
   · by_cases g:ts[s.pos].kind=2
     · by_cases hr:ts[s.pos].num<1\/16<ts[s.pos].num
       · exact Kk ts rb a c s fn w h b d f hp g hr
       · exact Kj ts rb a c s fn w h b d f hp g hr
     · exact Kl ts rb a c s fn w h b d f hp g
   · exact Km ts rb a c s fn w h b d f hp
 by_cases j:fn.data.toList=aP
 · exact G6 ts rb a c s fn w h b d f j
 · exact G4 ts rb a c s fn w h b d f j
set_option linter.unusedSimpArgs false
def Dp:CD:=⟨⟨#[]⟩,aD,aD⟩
abbrev cdC (x:CD) (a1:Tp) (c1:Nat) (a2:Tp) (c2:Nat):Array Value:=#[.string x.op,.string x.a.op,.string x.a.nm,.int .i64 x.a.n,.slice a1 x.a.ks.len c1,.string x.b.op,.string x.b.nm,.int .i64 x.b.n,.slice a2 x.b.ks.len c2]
abbrev cdV (x:CD) (a1:Tp) (c1:Nat) (a2:Tp) (c2:Nat):Value:=.agg (cdC x a1 c1 a2 c2)
abbrev cdO (x:CD) (a1:Tp) (c1:Nat) (a2:Tp) (c2:Nat):Obj:=.cells (cdC x a1 c1 a2 c2) 133
abbrev Lv (W:World) (B:Nat) (x:CD) (a1:Tp) (c1:Nat) (a2:Tp) (c2:Nat):World:=((((((((W.setCell ⟨B,0,none⟩ (.string x.op)).setCell ⟨B,1,none⟩ (.string x.a.op)).setCell ⟨B,2,none⟩ (.string x.a.nm)).setCell ⟨B,3,none⟩ (.int .i64 x.a.n)).setCell ⟨B,4,none⟩ (.slice a1 x.a.ks.len c1)).setCell ⟨B,5,none⟩ (.string x.b.op)).setCell ⟨B,6,none⟩ (.string x.b.nm)).setCell ⟨B,7,none⟩ (.int .i64 x.b.n)).setCell ⟨B,8,none⟩ (.slice a2 x.b.ks.len c2)
theorem Gi (W:World) (B:Nat) (x:CD) (a1:Tp) (c1:Nat) (a2:Tp) (c2:Nat):aC (· = B) W (Lv W B x a1 c1 a2 c2) :=
 ((((((((((aC.refl (· = B) W).setCell (p:=⟨B,0,none⟩) (.inl rfl) _).setCell (p:=⟨B,1,none⟩) (.inl rfl) _).setCell (p:=⟨B,2,none⟩) (.inl rfl) _).setCell (p:=⟨B,3,none⟩) (.inl rfl) _).setCell (p:=⟨B,4,none⟩) (.inl rfl) _).setCell (p:=⟨B,5,none⟩) (.inl rfl) _).setCell (p:=⟨B,6,none⟩) (.inl rfl) _).setCell (p:=⟨B,7,none⟩) (.inl rfl) _).setCell (p:=⟨B,8,none⟩) (.inl rfl) _)
theorem oC {W:World} {B:Nat} {u0 u1 u2 u3 u4 u5 u6 u7 u8:Value} {t:TypeId} (h:W.heap[B]? = some (.cells #[u0,u1,u2,u3,u4,u5,u6,u7,u8] t (0,0))) (x:CD) (a1:Tp) (c1:Nat) (a2:Tp) (c2:Nat):(Lv W B x a1 c1 a2 c2).heap[B]? = some (.cells (cdC x a1 c1 a2 c2) t (0,0)):=by
 have o:=heap_setCell_same (W) B 0 _ t (.string x.op) h;have C:((W).setCell ⟨B,0,none⟩ (.string x.op)).heap[B]? = some (.cells #[.string x.op,u1,u2,u3,u4,u5,u6,u7,u8] t (0,0)):=by simpa using o
 have m:=heap_setCell_same ((W).setCell ⟨B,0,none⟩ (.string x.op)) B 1 _ t (.string x.a.op) C;have A:(((W).setCell ⟨B,0,none⟩ (.string x.op)).setCell ⟨B,1,none⟩ (.string x.a.op)).heap[B]? = some (.cells #[.string x.op,.string x.a.op,u2,u3,u4,u5,u6,u7,u8] t (0,0)):=by simpa using m
 have l:=heap_setCell_same (((W).setCell ⟨B,0,none⟩ (.string x.op)).setCell ⟨B,1,none⟩ (.string x.a.op)) B 2 _ t (.string x.a.nm) A;have z:((((W).setCell ⟨B,0,none⟩ (.string x.op)).setCell ⟨B,1,none⟩ (.string x.a.op)).setCell ⟨B,2,none⟩ (.string x.a.nm)).heap[B]? = some (.cells #[.string x.op,.string x.a.op,.string x.a.nm,u3,u4,u5,u6,u7,u8] t (0,0)):=by simpa using l
 have k:=heap_setCell_same ((((W).setCell ⟨B,0,none⟩ (.string x.op)).setCell ⟨B,1,none⟩ (.string x.a.op)).setCell ⟨B,2,none⟩ (.string x.a.nm)) B 3 _ t (.int .i64 x.a.n) z;have y:(((((W).setCell ⟨B,0,none⟩ (.string x.op)).setCell ⟨B,1,none⟩ (.string x.a.op)).setCell ⟨B,2,none⟩ (.string x.a.nm)).setCell ⟨B,3,none⟩ (.int .i64 x.a.n)).heap[B]? = some (.cells #[.string x.op,.string x.a.op,.string x.a.nm,.int .i64 x.a.n,u4,u5,u6,u7,u8] t (0,0)):=by simpa using k
 have j:=heap_setCell_same (((((W).setCell ⟨B,0,none⟩ (.string x.op)).setCell ⟨B,1,none⟩ (.string x.a.op)).setCell ⟨B,2,none⟩ (.string x.a.nm)).setCell ⟨B,3,none⟩ (.int .i64 x.a.n)) B 4 _ t (.slice a1 x.a.ks.len c1) y;have u:((((((W).setCell ⟨B,0,none⟩ (.string x.op)).setCell ⟨B,1,none⟩ (.string x.a.op)).setCell ⟨B,2,none⟩ (.string x.a.nm)).setCell ⟨B,3,none⟩ (.int .i64 x.a.n)).setCell ⟨B,4,none⟩ (.slice a1 x.a.ks.len c1)).heap[B]? = some (.cells #[.string x.op,.string x.a.op,.string x.a.nm,.int .i64 x.a.n,.slice a1 x.a.ks.len c1,u5,u6,u7,u8] t (0,0)):=by simpa using j
 have g:=heap_setCell_same ((((((W).setCell ⟨B,0,none⟩ (.string x.op)).setCell ⟨B,1,none⟩ (.string x.a.op)).setCell ⟨B,2,none⟩ (.string x.a.nm)).setCell ⟨B,3,none⟩ (.int .i64 x.a.n)).setCell ⟨B,4,none⟩ (.slice a1 x.a.ks.len c1)) B 5 _ t (.string x.b.op) u;have s:(((((((W).setCell ⟨B,0,none⟩ (.string x.op)).setCell ⟨B,1,none⟩ (.string x.a.op)).setCell ⟨B,2,none⟩ (.string x.a.nm)).setCell ⟨B,3,none⟩ (.int .i64 x.a.n)).setCell ⟨B,4,none⟩ (.slice a1 x.a.ks.len c1)).setCell ⟨B,5,none⟩ (.string x.b.op)).heap[B]? = some (.cells #[.string x.op,.string x.a.op,.string x.a.nm,.int .i64 x.a.n,.slice a1 x.a.ks.len c1,.string x.b.op,u6,u7,u8] t (0,0)):=by simpa using g
 have f:=heap_setCell_same (((((((W).setCell ⟨B,0,none⟩ (.string x.op)).setCell ⟨B,1,none⟩ (.string x.a.op)).setCell ⟨B,2,none⟩ (.string x.a.nm)).setCell ⟨B,3,none⟩ (.int .i64 x.a.n)).setCell ⟨B,4,none⟩ (.slice a1 x.a.ks.len c1)).setCell ⟨B,5,none⟩ (.string x.b.op)) B 6 _ t (.string x.b.nm) s;have r:((((((((W).setCell ⟨B,0,none⟩ (.string x.op)).setCell ⟨B,1,none⟩ (.string x.a.op)).setCell ⟨B,2,none⟩ (.string x.a.nm)).setCell ⟨B,3,none⟩ (.int .i64 x.a.n)).setCell ⟨B,4,none⟩ (.slice a1 x.a.ks.len c1)).setCell ⟨B,5,none⟩ (.string x.b.op)).setCell ⟨B,6,none⟩ (.string x.b.nm)).heap[B]? = some (.cells #[.string x.op,.string x.a.op,.string x.a.nm,.int .i64 x.a.n,.slice a1 x.a.ks.len c1,.string x.b.op,.string x.b.nm,u7,u8] t (0,0)):=by simpa using f
 have d:=heap_setCell_same ((((((((W).setCell ⟨B,0,none⟩ (.string x.op)).setCell ⟨B,1,none⟩ (.string x.a.op)).setCell ⟨B,2,none⟩ (.string x.a.nm)).setCell ⟨B,3,none⟩ (.int .i64 x.a.n)).setCell ⟨B,4,none⟩ (.slice a1 x.a.ks.len c1)).setCell ⟨B,5,none⟩ (.string x.b.op)).setCell ⟨B,6,none⟩ (.string x.b.nm)) B 7 _ t (.int .i64 x.b.n) r;have q:(((((((((W).setCell ⟨B,0,none⟩ (.string x.op)).setCell ⟨B,1,none⟩ (.string x.a.op)).setCell ⟨B,2,none⟩ (.string x.a.nm)).setCell ⟨B,3,none⟩ (.int .i64 x.a.n)).setCell ⟨B,4,none⟩ (.slice a1 x.a.ks.len c1)).setCell ⟨B,5,none⟩ (.string x.b.op)).setCell ⟨B,6,none⟩ (.string x.b.nm)).setCell ⟨B,7,none⟩ (.int .i64 x.b.n)).heap[B]? = some (.cells #[.string x.op,.string x.a.op,.string x.a.nm,.int .i64 x.a.n,.slice a1 x.a.ks.len c1,.string x.b.op,.string x.b.nm,.int .i64 x.b.n,u8] t (0,0)):=by simpa using d
 have c:=heap_setCell_same (((((((((W).setCell ⟨B,0,none⟩ (.string x.op)).setCell ⟨B,1,none⟩ (.string x.a.op)).setCell ⟨B,2,none⟩ (.string x.a.nm)).setCell ⟨B,3,none⟩ (.int .i64 x.a.n)).setCell ⟨B,4,none⟩ (.slice a1 x.a.ks.len c1)).setCell ⟨B,5,none⟩ (.string x.b.op)).setCell ⟨B,6,none⟩ (.string x.b.nm)).setCell ⟨B,7,none⟩ (.int .i64 x.b.n)) B 8 _ t (.slice a2 x.b.ks.len c2) q;have p:((((((((((W).setCell ⟨B,0,none⟩ (.string x.op)).setCell ⟨B,1,none⟩ (.string x.a.op)).setCell ⟨B,2,none⟩ (.string x.a.nm)).setCell ⟨B,3,none⟩ (.int .i64 x.a.n)).setCell ⟨B,4,none⟩ (.slice a1 x.a.ks.len c1)).setCell ⟨B,5,none⟩ (.string x.b.op)).setCell ⟨B,6,none⟩ (.string x.b.nm)).setCell ⟨B,7,none⟩ (.int .i64 x.b.n)).setCell ⟨B,8,none⟩ (.slice a2 x.b.ks.len c2)).heap[B]? = some (.cells #[.string x.op,.string x.a.op,.string x.a.nm,.int .i64 x.a.n,.slice a1 x.a.ks.len c1,.string x.b.op,.string x.b.nm,.int .i64 x.b.n,.slice a2 x.b.ks.len c2] t (0,0)):=by simpa using c
 exact p
abbrev OQ (W:World) (B:Nat) (t:TN) (ad:Tp) (cc:Nat):World:=(((W.setCell ⟨B,5,none⟩ (.string t.op)).setCell ⟨B,6,none⟩ (.string t.nm)).setCell ⟨B,7,none⟩ (.int .i64 t.n)).setCell ⟨B,8,none⟩ (.slice ad t.ks.len cc)
theorem Bq (W:World) (B:Nat) (t:TN) (ad:Tp) (cc:Nat):aC (· = B) W (OQ W B t ad cc) :=
 (((((aC.refl (· = B) W).setCell (p:=⟨B,5,none⟩) (.inl rfl) _).setCell (p:=⟨B,6,none⟩) (.inl rfl) _).setCell (p:=⟨B,7,none⟩) (.inl rfl) _).setCell (p:=⟨B,8,none⟩) (.inl rfl) _)
theorem Bu {W:World} {B:Nat} {x:CD} {a1:Tp} {c1:Nat} {a2:Tp} {c2:Nat} (h:W.heap[B]? = some (cdO x a1 c1 a2 c2)) (t:TN) (ad:Tp) (cc:Nat):(OQ W B t ad cc).heap[B]? = some (cdO { x with b:=t } a1 c1 ad cc):=by
 have g:=heap_setCell_same (W) B 5 _ 133 (.string t.op) h;have m:((W).setCell ⟨B,5,none⟩ (.string t.op)).heap[B]? = some (.cells #[.string x.op,.string x.a.op,.string x.a.nm,.int .i64 x.a.n,.slice a1 x.a.ks.len c1,.string t.op,.string x.b.nm,.int .i64 x.b.n,.slice a2 x.b.ks.len c2] 133 (0,0)):=by simpa using g
 have f:=heap_setCell_same ((W).setCell ⟨B,5,none⟩ (.string t.op)) B 6 _ 133 (.string t.nm) m;have l:(((W).setCell ⟨B,5,none⟩ (.string t.op)).setCell ⟨B,6,none⟩ (.string t.nm)).heap[B]? = some (.cells #[.string x.op,.string x.a.op,.string x.a.nm,.int .i64 x.a.n,.slice a1 x.a.ks.len c1,.string t.op,.string t.nm,.int .i64 x.b.n,.slice a2 x.b.ks.len c2] 133 (0,0)):=by simpa using f
 have d:=heap_setCell_same (((W).setCell ⟨B,5,none⟩ (.string t.op)).setCell ⟨B,6,none⟩ (.string t.nm)) B 7 _ 133 (.int .i64 t.n) l;have k:((((W).setCell ⟨B,5,none⟩ (.string t.op)).setCell ⟨B,6,none⟩ (.string t.nm)).setCell ⟨B,7,none⟩ (.int .i64 t.n)).heap[B]? = some (.cells #[.string x.op,.string x.a.op,.string x.a.nm,.int .i64 x.a.n,.slice a1 x.a.ks.len c1,.string t.op,.string t.nm,.int .i64 t.n,.slice a2 x.b.ks.len c2] 133 (0,0)):=by simpa using d
 have c:=heap_setCell_same ((((W).setCell ⟨B,5,none⟩ (.string t.op)).setCell ⟨B,6,none⟩ (.string t.nm)).setCell ⟨B,7,none⟩ (.int .i64 t.n)) B 8 _ 133 (.slice ad t.ks.len cc) k;have j:(((((W).setCell ⟨B,5,none⟩ (.string t.op)).setCell ⟨B,6,none⟩ (.string t.nm)).setCell ⟨B,7,none⟩ (.int .i64 t.n)).setCell ⟨B,8,none⟩ (.slice ad t.ks.len cc)).heap[B]? = some (.cells #[.string x.op,.string x.a.op,.string x.a.nm,.int .i64 x.a.n,.slice a1 x.a.ks.len c1,.string t.op,.string t.nm,.int .i64 t.n,.slice ad t.ks.len cc] 133 (0,0)):=by simpa using c
 exact j
theorem JM {W:World} {B:Nat} {x:CD} {a1:Tp} {c1:Nat} {a2:Tp} {c2:Nat} (h:W.heap[B]? = some (cdO x a1 c1 a2 c2)) (z:Tr):(W.setCell ⟨B,0,none⟩ (.string z)).heap[B]? = some (cdO { x with op:=z } a1 c1 a2 c2):=by
 have a:=heap_setCell_same W B 0 _ 133 (.string z) h;simpa using a
theorem iD {W:World} {B:Nat} {l k j g f d c b a:Value} {t:TypeId} (h:W.heap[B]? = some (.cells #[l,k,j,g,f,d,c,b,a] t (0,0))) :
 W.cell? ⟨B,0,none⟩=some l/\W.cell? ⟨B,1,none⟩=some k/\W.cell? ⟨B,2,none⟩=some j/\W.cell? ⟨B,3,none⟩=some g/\W.cell? ⟨B,4,none⟩=some f/\W.cell? ⟨B,5,none⟩=some d/\W.cell? ⟨B,6,none⟩=some c/\W.cell? ⟨B,7,none⟩=some b/\W.cell? ⟨B,8,none⟩=some a:=by
 refine ⟨?_,?_,?_,?_,?_,?_,?_,?_,?_⟩ <;> simp [World.cell?,h]
theorem vV {W:World} {B:Nat} {l k j g f d c b a:Value} {t:TypeId} (h:W.heap[B]? = some (.cells #[l,k,j,g,f,d,c,b,a] t (0,0))) :
 W.frozen? ⟨B,0,none⟩=false/\W.frozen? ⟨B,1,none⟩=false/\W.frozen? ⟨B,2,none⟩=false/\W.frozen? ⟨B,3,none⟩=false/\W.frozen? ⟨B,4,none⟩=false/\W.frozen? ⟨B,5,none⟩=false/\W.frozen? ⟨B,6,none⟩=false/\W.frozen? ⟨B,7,none⟩=false/\W.frozen? ⟨B,8,none⟩=false:=by
 refine ⟨?_,?_,?_,?_,?_,?_,?_,?_,?_⟩ <;> simp [World.frozen?,h]
def Fs (ts:List Tk) (rb:Nat) (a:Tp) (c:Nat) (r:CD×RS) (w0:World) (e:Ending) (w':World):Prop :=
 ∃ a1 c1 a2 c2,e=.returned (cdV r.1 a1 c1 a2 c2)/\PW ts rb a c r.2 w'/\aC (· = rb) w0 w'/\bD w0.heap.size w' a1 r.1.a.ks/\bD w0.heap.size w' a2 r.1.b.ks
structure CW (w:World) (ts:List Tk) (rb:Nat) (a:Tp) (c:Nat) (B:Nat) (x:CD) (a1:Tp) (c1:Nat) (a2:Tp) (c2:Nat) (s:RS) (V:World):Prop where
 r:PW ts rb a c s V
 k:aC (· = rb) w V
 n:V.heap[B]? = some (cdO x a1 c1 a2 c2)
 o:V.heap[w.heap.size]? = some (cdO Dp none 0 none 0)
 e:aK (fun b=>w.heap.size<b/\b ≠ B) V a1 x.a.ks
 g:aK (fun b=>w.heap.size<b/\b ≠ B) V a2 x.b.ks
 z:B<V.heap.size
 lo:w.heap.size<B
 h:rb<w.heap.size
theorem CW.step {w V V':World} {ts:List Tk} {rb:Nat} {a:Tp} {c B:Nat} {x:CD} {a1:Tp} {c1:Nat} {a2:Tp} {c2:Nat} {s s':RS} (h:CW w ts rb a c B x a1 c1 a2 c2 s V) (hp:PW ts rb a c s' V') (b:aC (· = rb) V V'):CW w ts rb a c B x a1 c1 a2 c2 s' V' :=
 ⟨hp,h.k.trans b (fun i f _=>f),b.heap h.n (fun e=>by have:=h.h;have:=h.lo;omega),b.heap h.o (fun e=>by have:=h.h;omega),h.e.keptS b (fun k b d=>by have:=h.h;have:=d.1;omega),h.g.keptS b (fun k b d=>by have:=h.h;have:=d.1;omega),Nat.lt_of_lt_of_le h.z b.size,h.lo,h.h⟩
theorem CW.box {w V V':World} {ts:List Tk} {rb:Nat} {a:Tp} {c B:Nat} {x y:CD} {a1:Tp} {c1:Nat} {a2:Tp} {c2:Nat} {j:Tp} {m:Nat} {g:Tp} {l:Nat} {s:RS} (h:CW w ts rb a c B x a1 c1 a2 c2 s V) (d:aC (· = B) V V') (hn:V'.heap[B]? = some (cdO y j m g l)) (p:aK (fun b=>w.heap.size<b/\b ≠ B) V j y.a.ks) (f:aK (fun b=>w.heap.size<b/\b ≠ B) V g y.b.ks):CW w ts rb a c B y j m g l s V' :=
 ⟨h.r.other d (by have:=h.h;have:=h.lo;omega),h.k.trans d (fun i q n=>by have:=h.lo;omega),hn,d.heap h.o (fun e=>by have:=h.lo;omega),p.keptS d (fun k d f=>f.2 d),f.keptS d (fun k d f=>f.2 d),Nat.lt_of_lt_of_le h.z d.size,h.lo,h.h⟩
theorem CW.drewN {w V:World} {ts:List Tk} {rb:Nat} {a:Tp} {c B:Nat} {x:CD} {a1:Tp} {c1:Nat} {a2:Tp} {c2:Nat} {s:RS} (h:CW w ts rb a c B x a1 c1 a2 c2 s V) (n:Nat):CW w ts rb a c B x a1 c1 a2 c2 s (V.drewN n) :=
 h.step (h.r.kept (oB (aC.refl _ _) n)) (oB (aC.refl _ _) n)
theorem tT {w V:World} {ts:List Tk} {rb:Nat} {a:Tp} {c B:Nat} {x:CD} {a1:Tp} {c1:Nat} {a2:Tp} {c2:Nat} {s j:RS} (h:CW w ts rb a c B x a1 c1 a2 c2 s V) (hr:cB ts j=(x,s)) :
 Fs ts rb a c (cB ts j) w (.returned (cdV x a1 c1 a2 c2)) (Lv V w.heap.size x a1 c1 a2 c2):=by
 rw [hr];have f:=Gi V w.heap.size x a1 c1 a2 c2;exact ⟨_,_,_,_,rfl,h.r.other f h.h,h.k.trans f (fun i n l=>by omega),(h.e.keptS f (fun k m d=>by have:=d.1;omega)).imp (fun b _ d=>by have:=d.1;omega),(h.g.keptS f (fun k m d=>by have:=d.1;omega)).imp (fun b _ d=>by have:=d.1;omega)⟩
theorem Nm (ts:List Tk) (rb:Nat) (a:Tp) (c:Nat) (s:RS) (w:World) (h:PW ts rb a c s w):Calls prog 65 #[.pointer (some ⟨rb,0,none⟩)] w (Fs ts rb a c (cB ts s) w):=by
 have B1:=bA0 w (cdO Dp none 0 none 0);have N1:=heap_alloc_new w (cdO Dp none 0 none 0);have y:(w.alloc (cdO Dp none 0 none 0)).heap.size=w.heap.size+1:=Tc _ _;have H1:=h.below B1;have E:=h.r.lt;generalize hW:w.alloc (cdO Dp none 0 none 0)=W at B1 N1 y H1;have Y:=aA (f9 ts rb a c s W H1);obtain ⟨t1,s1,l⟩:∃ t q,bC ts s=(t,q):=⟨_,_,rfl⟩;rw [l] at Y;have jd:=aA l;have HW:=aA hW;have KB:=aA (aF B1 (· = rb));have NB:=aA N1;have HZ:=aA y;have jt:=aA E;clear hW h l B1 N1 y H1 E;go_enter func65,ntmps65
 go_upto_region 1 with fail
 rw [show w.alloc (.cells #[.string ⟨#[]⟩,.string ⟨#[]⟩,.string ⟨#[]⟩,.int .i64 0,.slice none 0 0,.string ⟨#[]⟩,.string ⟨#[]⟩,.int .i64 0,.slice none 0 0] 133)=W from HW.out];go_wp2_with fail
 refine Y.out.mono ?_;rintro e Z ⟨j,d,rfl,jm,jb,jl⟩;have BA:=bA0 Z (cdO ⟨⟨#[]⟩,t1,aD⟩ j d none 0);have jq:=jb.size;have jp:=HZ.out;have E:=jt.out
 have T:=aA (show CW w ts rb a c Z.heap.size ⟨⟨#[]⟩,t1,aD⟩ j d none 0 s1 (Z.alloc (cdO ⟨⟨#[]⟩,t1,aD⟩ j d none 0)) from
  ⟨jm.below BA,(KB.out.trans jb (fun i hi _=>hi)).trans (aF BA (· = rb)) (fun i hi _=>hi),heap_alloc_new Z _,(BA.block _ (by omega)).trans (jb.heap NB.out (fun e=>by omega)),((aK.imp (H:=fun b=>w.heap.size<b/\b ≠ Z.heap.size) jl (fun b h1 h2=>⟨by have h3:W.heap.size<=b:=h2;omega,by omega⟩)).kept BA),.inl rfl,by rw [Tc];omega,by omega,E⟩)
 have js:=aA (show Z.heap.size<(Z.alloc (cdO ⟨⟨#[]⟩,t1,aD⟩ j d none 0)).heap.size by rw [Tc];omega);obtain ⟨U,hU⟩:∃ U,Z.alloc (cdO ⟨⟨#[]⟩,t1,aD⟩ j d none 0)=U:=⟨_,rfl⟩;obtain ⟨B,hB⟩:∃ B,Z.heap.size=B:=⟨_,rfl⟩;rw [hU,hB] at T;have HU:=aA hU;have jo:=aA hB;clear jm jb jl BA jq jp E Y hU hB js;go_upto_region 2 with fail
 rw [show Z.alloc (.cells #[.string ⟨#[]⟩,.string t1.op,.string t1.nm,.int .i64 t1.n,.slice j t1.ks.len d,.string ⟨#[]⟩,.string ⟨#[]⟩,.int .i64 0,.slice none 0 0] 133)=U from HU.out,jo.out];clear HU jo;obtain ⟨A,c1,c2,c3,c4⟩:=T.out.r.r.cells.1;have jx:=T.out.r.f.2.1;have jy:=T.out.r.f.2.2.2;by_cases hb:s1.bad=0
 · have q1:((s1.bad:Int) == 0)=true:=by rw [hb];rfl
   have q2:((s1.bad:Int) != 0)=false:=by rw [hb];rfl
   have HB:=aA hb;clear hb;by_cases u:s1.pos<ts.length
   · have d1:decide (s1.pos<ts.length)=true:=decide_eq_true u
     have d2:(s1.pos:Int)<(ts.length:Int):=by omega
     have d3:(0:Int)<=(s1.pos:Int):=by omega
     have d4:((s1.pos:Int)).toNat=s1.pos:=by omega
     go_upto_region 5 with (go_quiet (fail))
     obtain ⟨U1,jh⟩:∃ U1,U.drewN nq=U1:=⟨_,rfl⟩
     have K3:=aA (show CW w ts rb a c B ⟨⟨#[]⟩,t1,aD⟩ j d none 0 s1 U1 by
      rw [<- jh];exact T.out.drewN nq)
     rw [jh];clear jh A c1 c2 c3 c4;obtain ⟨A,c1,c2,c3,c4⟩:=K3.out.r.r.cells.1;obtain ⟨b,off,ha, -,p0,p1, -⟩:=bB K3.out.r.t u;rw [ha] at A;obtain ⟨tx,ja⟩:∃ tx:Tr,⟨ts[s1.pos].text.toArray⟩=tx:=⟨_,rfl⟩;rw [ja] at p1;have je:(⟨(eA ts s1.pos).toArray⟩:Tr)=tx:=by unfold eA;rw [List.getElem?_eq_getElem u];exact ja
     have ju:=aA je;have jv:=aA u
     have D:=aA (show opB ts s1.pos=(bE tx 0 0).isSome by
      unfold opB;rw [List.getElem?_eq_getElem u];simp only;rw [ja])
     have HO:=aA (fun V=>xV tx 0 0 V);obtain ⟨yb,jk⟩:∃ yb,(bE tx 0 0).getD false=yb:=⟨_,rfl⟩;rw [jk] at HO;clear u ha ja je jk p0;cases x:(bE tx 0 0).isSome with
     | true =>
       rw [x] at HO D;clear x;go_upto_region 9 with (go_quiet ((first | (go_at_call 69;refine (HO.out _).mono ?_;rintro e w' ⟨he,rfl⟩;exact ⟨he,_,rfl⟩) | fail)))
       obtain ⟨U2,R⟩:∃ U2,U1.drewN nq=U2:=⟨_,rfl⟩
       have C:=aA (show CW w ts rb a c B ⟨⟨#[]⟩,t1,aD⟩ j d none 0 s1 U2 by
        rw [<- R];exact K3.out.drewN nq)
       rw [R];have jr:=aA (show U2.cell? ⟨b,off+s1.pos*4+1,none⟩=some (.string tx) by rw [<- R];exact p1);have jw:=aA (show U2.cell? ⟨rb,0,none⟩=some (.slice (some ⟨b,off,none⟩) ts.length c) by rw [<- R];exact A);clear R A c1 c2 c3 c4 p1;obtain ⟨-,c1,c2,c3,c4⟩:=C.out.r.r.cells.1;have A:=jw.out;have p1:=jr.out;obtain ⟨m0,m1,m2,m3,m4,m5,m6,m7,m8⟩:=iD C.out.n;obtain ⟨z0,y,z2,z3,z4,z5,z6,z7,z8⟩:=vV C.out.n;go_upto_region 10 with go_region
       obtain ⟨V,hV⟩:∃ V,U2.drew.setCell ⟨B,0,none⟩ (.string tx)=V:=⟨_,rfl⟩
       have ji:=aA (show CW w ts rb a c B ⟨tx,t1,aD⟩ j d none 0 s1 V by
        rw [<- hV];exact (C.out.drewN 1).box ((aC.refl (· = B) _).setCell (p:=⟨B,0,none⟩) (.inl rfl) _) (JM (C.out.drewN 1).n tx) (C.out.drewN 1).e (C.out.drewN 1).g)
       have GV:=aA hV;clear hV A c1 c2 c3 c4 p1 m0 m1 m2 m3 m4 m5 m6 m7 m8 z0 y z2 z3 z4 z5 z6 z7 z8;first | rw [show (U2.drewN 1).setCell ⟨B,0,none⟩ (.string tx)=V from GV.out] | rw [show U2.drew.setCell ⟨B,0,none⟩ (.string tx)=V from GV.out] | rw [show (U2.setCell ⟨B,0,none⟩ (.string tx)).drew=V from GV.out]
       obtain ⟨⟨A,c1,c2,c3,c4⟩,f1,f2,f3,f4⟩:=ji.out.r.r.cells;have KS:=(aC.refl (· = rb) V).setCell (p:=⟨rb,1,none⟩) (.inl rfl) (.int .i64 ((s1.pos:Int)+1));obtain ⟨V2,jn⟩:∃ V2,V.setCell ⟨rb,1,none⟩ (.int .i64 ((s1.pos:Int)+1))=V2:=⟨_,rfl⟩
       have jc:=aA (show CW w ts rb a c B ⟨tx,t1,aD⟩ j d none 0 (aM s1) V2 by
        rw [<- jn];exact ji.out.step (oY ji.out.r jv.out) KS)
       clear KS;go_upto_region 11 with fail
       clear jn A c1 c2 c3 c4 f1 f2 f3 f4;have Y:=aA (f9 ts rb a c (aM s1) V2 jc.out.r);obtain ⟨t2,s2,l⟩:∃ t q,bC ts (aM s1)=(t,q):=⟨_,_,rfl⟩;rw [l] at Y;have jj:=aA l;clear l;go_wp2_with fail
       refine Y.out.mono ?_;rintro e v5 ⟨k,cc2,rfl,M,O,I⟩;have S:=aA (jc.out.step M O);have jf:=jc.out.z;have jg:=jc.out.lo;have G:aK (fun b=>w.heap.size<b/\b ≠ B) v5 k t2.ks:=aK.imp I (fun b _ h2=>by have h3:V2.heap.size<=b:=h2;omega);clear M O I Y jf jg;obtain ⟨m0,m1,m2,m3,m4,m5,m6,m7,m8⟩:=iD S.out.n;obtain ⟨z0,y,z2,z3,z4,z5,z6,z7,z8⟩:=vV S.out.n;have KX:=Bq v5 B t2 k cc2;obtain ⟨X,hX⟩:∃ X,OQ v5 B t2 k cc2=X:=⟨_,rfl⟩
       have m:=aA (show CW w ts rb a c B ⟨tx,t1,t2⟩ j d k cc2 s2 X by
        rw [<- hX];exact S.out.box KX (Bu S.out.n t2 k cc2) S.out.e G)
       have GX:=aA hX;clear KX hX G;go_upto_region 12 with fail
       rw [show (((v5.setCell ⟨B,5,none⟩ (.string t2.op)).setCell ⟨B,6,none⟩ (.string t2.nm)).setCell ⟨B,7,none⟩ (.int .i64 t2.n)).setCell ⟨B,8,none⟩ (.slice k t2.ks.len cc2)=X from GX.out];clear m0 m1 m2 m3 m4 m5 m6 m7 m8 z0 y z2 z3 z4 z5 z6 z7 z8;have HR:=aA (show cB ts s=(⟨tx,t1,t2⟩,s2) by unfold cB;rw [jd.out];simp only;rw [if_pos HB.out,if_pos D.out,jj.out,ju.out]);obtain ⟨m0,m1,m2,m3,m4,m5,m6,m7,m8⟩:=iD m.out.n;obtain ⟨z0,y,z2,z3,z4,z5,z6,z7,z8⟩:=vV m.out.o;obtain ⟨b0,b1,b2,b3,b4,b5,b6,b7,b8⟩:=iD m.out.o;go_wp2_with fail
       obtain ⟨y0,y1,y2,y3,y4,y5,y6,y7,y8⟩:=iD (oC (t:=133) m.out.o (⟨tx,t1,t2⟩) j d k cc2);have P:=tT m.out HR.out;exact bodyPost_ret (v:=cdV (⟨tx,t1,t2⟩) j d k cc2) (by simp [results,results65,go_sem,y0,y1,y2,y3,y4,y5,y6,y7,y8,b0,b1,b2,b3,b4,b5,b6,b7,b8]) rfl P
     | false =>
       rw [x] at HO D;clear x;go_upto_region 7 with (go_quiet ((first | (go_at_call 69;refine (HO.out _).mono ?_;rintro e w' ⟨he,rfl⟩;exact ⟨he,_,rfl⟩) | fail)))
       have C:=aA (K3.out.drewN nq);clear A c1 c2 c3 c4 p1;have FA:=aA (dH ts rb a c s1 2 (by decide) (U1.drewN nq) C.out.r);go_wp2_with fail
       refine FA.out.mono ?_;rintro e v6 ⟨rfl,L,N⟩;have m:=aA (C.out.step L N);clear L N FA;have HR:=aA (show cB ts s=(⟨⟨#[]⟩,t1,aD⟩,aQ 2 s1) by unfold cB;rw [jd.out];simp only;rw [if_pos HB.out,if_neg (by rw [D.out];decide)]);obtain ⟨m0,m1,m2,m3,m4,m5,m6,m7,m8⟩:=iD m.out.n;obtain ⟨z0,y,z2,z3,z4,z5,z6,z7,z8⟩:=vV m.out.o;obtain ⟨b0,b1,b2,b3,b4,b5,b6,b7,b8⟩:=iD m.out.o;go_wp2_with fail
       obtain ⟨y0,y1,y2,y3,y4,y5,y6,y7,y8⟩:=iD (oC (t:=133) m.out.o (⟨⟨#[]⟩,t1,aD⟩) j d none 0);have P:=tT m.out HR.out;exact bodyPost_ret (v:=cdV (⟨⟨#[]⟩,t1,aD⟩) j d none 0) (by simp [results,results65,go_sem,y0,y1,y2,y3,y4,y5,y6,y7,y8,b0,b1,b2,b3,b4,b5,b6,b7,b8]) rfl P
   · have d1:decide (s1.pos<ts.length)=false:=decide_eq_false u
     have d2:¬ (s1.pos:Int)<(ts.length:Int):=by omega
     have D:=aA (show opB ts s1.pos=false by unfold opB;rw [List.getElem?_eq_none (by omega)]);go_upto_region 7 with (go_quiet (fail))
     have C:=aA (T.out.drewN nq);clear A c1 c2 c3 c4;have FA:=aA (dH ts rb a c s1 2 (by decide) (U.drewN nq) C.out.r);go_wp2_with fail
     refine FA.out.mono ?_;rintro e v6 ⟨rfl,L,N⟩;have m:=aA (C.out.step L N);clear L N FA;have HR:=aA (show cB ts s=(⟨⟨#[]⟩,t1,aD⟩,aQ 2 s1) by unfold cB;rw [jd.out];simp only;rw [if_pos HB.out,if_neg (by rw [D.out];decide)]);obtain ⟨m0,m1,m2,m3,m4,m5,m6,m7,m8⟩:=iD m.out.n;obtain ⟨z0,y,z2,z3,z4,z5,z6,z7,z8⟩:=vV m.out.o;obtain ⟨b0,b1,b2,b3,b4,b5,b6,b7,b8⟩:=iD m.out.o;go_wp2_with fail
     obtain ⟨y0,y1,y2,y3,y4,y5,y6,y7,y8⟩:=iD (oC (t:=133) m.out.o (⟨⟨#[]⟩,t1,aD⟩) j d none 0);have P:=tT m.out HR.out;exact bodyPost_ret (v:=cdV (⟨⟨#[]⟩,t1,aD⟩) j d none 0) (by simp [results,results65,go_sem,y0,y1,y2,y3,y4,y5,y6,y7,y8,b0,b1,b2,b3,b4,b5,b6,b7,b8]) rfl P
 · have q1:((s1.bad:Int) == 0)=false:=beq_eq_false_iff_ne.2 hb
   have q2:((s1.bad:Int) != 0)=true:=by simpa using hb
   have HB:=aA hb;clear hb A c1 c2 c3 c4;obtain ⟨A,c1,c2,c3,c4⟩:=T.out.r.r.cells.1;have Y:=aA (f9 ts rb a c (s1) U T.out.r);obtain ⟨t2,s2,l⟩:∃ t q,bC ts (s1)=(t,q):=⟨_,_,rfl⟩;rw [l] at Y;have jj:=aA l;clear l;go_wp2_with fail
   refine Y.out.mono ?_;rintro e v5 ⟨k,cc2,rfl,M,O,I⟩;have S:=aA (T.out.step M O);have jf:=T.out.z;have jg:=T.out.lo;have G:aK (fun b=>w.heap.size<b/\b ≠ B) v5 k t2.ks:=aK.imp I (fun b _ h2=>by have h3:U.heap.size<=b:=h2;omega);clear M O I Y jf jg;obtain ⟨m0,m1,m2,m3,m4,m5,m6,m7,m8⟩:=iD S.out.n;obtain ⟨z0,y,z2,z3,z4,z5,z6,z7,z8⟩:=vV S.out.n;have KX:=Bq v5 B t2 k cc2;obtain ⟨X,hX⟩:∃ X,OQ v5 B t2 k cc2=X:=⟨_,rfl⟩
   have m:=aA (show CW w ts rb a c B ⟨⟨#[]⟩,t1,t2⟩ j d k cc2 s2 X by
    rw [<- hX];exact S.out.box KX (Bu S.out.n t2 k cc2) S.out.e G)
   have GX:=aA hX;clear KX hX G;go_upto_region 12 with fail
   rw [show (((v5.setCell ⟨B,5,none⟩ (.string t2.op)).setCell ⟨B,6,none⟩ (.string t2.nm)).setCell ⟨B,7,none⟩ (.int .i64 t2.n)).setCell ⟨B,8,none⟩ (.slice k t2.ks.len cc2)=X from GX.out];clear m0 m1 m2 m3 m4 m5 m6 m7 m8 z0 y z2 z3 z4 z5 z6 z7 z8;have E2:bC ts s1=(aD,s1):=f8 HB.out;rw [jj.out] at E2;obtain ⟨rfl,rfl⟩:=Prod.mk.inj E2;have HR:=aA (show cB ts s=(⟨⟨#[]⟩,t1,aD⟩,s2) by unfold cB;rw [jd.out];simp only;rw [if_neg HB.out]);obtain ⟨m0,m1,m2,m3,m4,m5,m6,m7,m8⟩:=iD m.out.n;obtain ⟨z0,y,z2,z3,z4,z5,z6,z7,z8⟩:=vV m.out.o;obtain ⟨b0,b1,b2,b3,b4,b5,b6,b7,b8⟩:=iD m.out.o;go_wp2_with fail
   obtain ⟨y0,y1,y2,y3,y4,y5,y6,y7,y8⟩:=iD (oC (t:=133) m.out.o (⟨⟨#[]⟩,t1,aD⟩) j d k cc2);have P:=tT m.out HR.out;exact bodyPost_ret (v:=cdV (⟨⟨#[]⟩,t1,aD⟩) j d k cc2) (by simp [results,results65,go_sem,y0,y1,y2,y3,y4,y5,y6,y7,y8,b0,b1,b2,b3,b4,b5,b6,b7,b8]) rfl P
end
end Go.Proofs.YtgfkjkokmcejbaaGreatDoor
namespace Go.Proofs.YtgfkjkokmcejbaaGreatDoor.Wr
open Go.RowKit Tryz
def Fp (w:World) (F F':Nat->Prop):Prop:=∀ k,F' k->F k\/w.heap.size<=k
theorem Fp.refl (w:World) (F:Nat->Prop):Fp w F F:=fun _ h=>Or.inl h
def gP (m:Nat) (w:World) (T kE vE:TypeId) (p:Nat) (F:Nat->Prop) (ks vs:List Value):Prop :=
 ∃ kv vv, w.heap[p]? = some (.cells #[kv, vv] T (0, 0)) /\ w.ownsRow 0 kE 1 kv ks.length ks /\ w.ownsRow 0 vE m vv ks.length vs /\
   kv.ownBlock ≠ some p/\vv.ownBlock ≠ some p/\(∀ b,kv.ownBlock=some b->vv.ownBlock ≠ some b) /\
   F p/\(∀ b,kv.ownBlock=some b->F b)/\(∀ b,vv.ownBlock=some b->F b)/\(∀ k,F k->k<w.heap.size)
theorem gP.kept {m:Nat} {w w':World} {T kE g:TypeId} {p:Nat} {F S:Nat->Prop} {ks f:List Value} (h:gP m w T kE g p F ks f) (a:aC S w w') (d:∀ k,F k->¬ S k):gP m w' T kE g p F ks f:=by
 obtain ⟨q,o,u,t,s,A,z,y,n,l,j,x⟩:=h;exact ⟨q,o,a.heap u (d p n),a.owns t (fun b c=>d b (l b c)),a.owns s (fun b c=>d b (j b c)),A,z,y,n,l,j,fun k r=>Nat.lt_of_lt_of_le (x k r) a.size⟩
theorem gP.lt {m:Nat} {w:World} {T kE b:TypeId} {p:Nat} {F:Nat->Prop} {ks a:List Value} (h:gP m w T kE b p F ks a):∀ k,F k->k<w.heap.size:=by
 obtain ⟨f,d,l,j,g,t,s,r,q,o,n,c⟩:=h;exact c
theorem gP.len {m:Nat} {w:World} {T kE b:TypeId} {p:Nat} {F:Nat->Prop} {ks a:List Value} (h:gP m w T kE b p F ks a):a.length=ks.length*m:=by
 obtain ⟨f,d,j,g,c,s,r,q,o,n,l,k⟩:=h;exact c.1
structure eG (m:Nat) (w:World) (T kE vE:TypeId) (p:Nat) (F:Nat->Prop) (kv vv:Value) (nk nv:Nat) (X Y:List Value):Prop where
 row:w.heap[p]? = some (.cells #[kv,vv] T (0,0))
 k:w.ownsRow 0 kE 1 kv nk X
 v:w.ownsRow 0 vE m vv nv Y
 dk:kv.ownBlock ≠ some p
 dv:vv.ownBlock ≠ some p
 dkv:∀ b,kv.ownBlock=some b->vv.ownBlock ≠ some b
 fp:F p
 fk:∀ b,kv.ownBlock=some b->F b
 fv:∀ b,vv.ownBlock=some b->F b
 lt:∀ k,F k->k<w.heap.size
theorem eG.kept {m:Nat} {w w':World} {T kE g:TypeId} {p:Nat} {F S:Nat->Prop} {n f:Value} {l j:Nat} {X Y:List Value} (h:eG m w T kE g p F n f l j X Y) (a:aC S w w') (d:∀ k,F k->¬ S k):eG m w' T kE g p F n f l j X Y :=
 ⟨a.heap h.row (d p h.fp),a.owns h.k (fun b c=>d b (h.fk b c)),a.owns h.v (fun b c=>d b (h.fv b c)),h.dk,h.dv,h.dkv,h.fp,h.fk,h.fv,fun k o=>Nat.lt_of_lt_of_le (h.lt k o) a.size⟩
def Ad (c:UInt8):Bool:=decide ((c.toNat:Int)<32) || decide (126<(c.toNat:Int)) || decide ((c.toNat:Int)=34)
def J6 (l:Tq):Int:=if 64<l.length then 4 else if l.any Ad then 2 else 0
def risesB:List Int->Bool
 | a::b::r=>decide (a<b) && risesB (b::r)
 | _=>true
def errL (l:List Int):Int:=if 16<l.length then 4 else if risesB l then 0 else 2
theorem risesB_iff (l:List Int):risesB l=true ↔ ∀ j,j+1<l.length->l.getD j 0<l.getD (j+1) 0:=by
 induction l with
 | nil=>simp [risesB]
 | cons a r ih =>
   cases r with
   | nil=>simp [risesB]
   | cons b r =>
     simp only [risesB,Bool.and_eq_true,decide_eq_true_eq];rw [ih];constructor
     · rintro ⟨h,k⟩ j c
       cases j with
       | zero=>simpa using h
       | succ j=>simpa using k j (by simpa using c)
     · intro h
       exact ⟨by simpa using h 0 (by simp),fun j c=>by simpa using h (j+1) (by simpa using c)⟩
theorem S4 {s:Tr} (h:∀ j (a:j<s.size),Ad s[j]=false):s.data.toList.any Ad=false:=by
 rw [List.any_eq_false];intro c d;obtain ⟨j,a,rfl⟩:=Tn.1 d;have:=h j (by simpa using a);intro e;have b:Ad s[j]=true:=e;rw [this] at b;cases b
theorem Ag {s:Tr} {j:Nat} (a:j<s.size) (h:Ad s[j]=true):s.data.toList.any Ad=true:=by
 rw [List.any_eq_true];exact ⟨s[j],Tn.2 ⟨j,by simpa using a,rfl⟩,h⟩
def Reads (w:World) (a:Tp) (len:Nat) (z:Nat->Int):Prop :=
 len<=maxLen/\(len=0\/∃ b off,a=some ⟨b,off,none⟩/\∀ j,j<len->w.cell? ⟨b,off+j,none⟩=some (.int .i64 (z j)))
def upTo (z:Nat->Int) (n:Nat):List Int:=(List.range n).map z
theorem Dw (z:Nat->Int) (n:Nat):(upTo z n).length=n:=by simp [upTo]
theorem wQ (z:Nat->Int) {n j:Nat} (h:j<n):(upTo z n).getD j 0=z j:=by simp [upTo,List.getD,h]
theorem Reads.kept {w w':World} {a:Tp} {len:Nat} {z:Nat->Int} (h:Reads w a len z) (f:Below w.heap.size w w'):Reads w' a len z:=by
 refine ⟨h.1,?_⟩;rcases h.2 with g | ⟨b,off,rfl,d⟩
 · exact .inl g
 · exact .inr ⟨b,off,rfl,fun j c=>(f.cell (p:=⟨b,off+j,none⟩) (World.block_lt_of_cell? w _ (d j c))).trans (d j c)⟩
theorem xR {z:Nat->Int} {n:Nat}:risesB (upTo z n)=true ↔ ∀ j,j+1<n->z j<z (j+1):=by
 rw [risesB_iff,Dw];exact ⟨fun h j a=>by have:=h j a;rwa [wQ z (by omega),wQ z a] at this,fun h j a=>by rw [wQ z (by omega),wQ z a];exact h j a⟩
def val (k n:Int) (s:Tr) (l:Value):Value:=.agg #[.int .i64 k,.int .i64 n,.string s,l]
def errV (k:Int) (s:Tr) (len:Nat) (z:Nat->Int):Int:=if k=1 then 0 else if k=2 then J6 s.data.toList else if k=3 then errL (upTo z len) else 7
structure VC where
 k:Int
 n:Int
 s:Tr
 y:Tp
 len:Nat
 c:Nat
def VC.cs (v:VC):List Value:=[.int .i64 v.k,.int .i64 v.n,.string v.s,.slice v.y v.len v.c]
theorem lS {b:Nat} {A W:World} {B:Nat} (h:Below b A W) (a:b<=B) (g f d c:Value) :
 Below b A ((((W.setCell ⟨B,0,none⟩ g).setCell ⟨B,1,none⟩ f).setCell ⟨B,2,none⟩ d).setCell ⟨B,3,none⟩ c) :=
 (((h.setCell (p:=⟨B,0,none⟩) a g).setCell (p:=⟨B,1,none⟩) a f).setCell (p:=⟨B,2,none⟩) a d).setCell (p:=⟨B,3,none⟩) a c
def countB (n:Int):Bool:=decide (0<=n) && decide (n<=1000000000)
theorem Bi {s:Tr} (h:1<=s.size):s.toList.isEmpty=false:=by
 rw [Tm];have hl:s.data.toList.length=s.size:=by simp
 cases e:s.data.toList with
 | nil=>rw [e] at hl;simp at hl;omega
 | cons a b=>rfl
structure AD where
 m:Tr
 k:Int
 n:Int
 s:Tr
 len:Nat
 z:Nat->Int
def lM (w:World) (b o:Nat) (x:AD) (y:Tp) (c:Nat):Prop :=
 w.cell? ⟨b,o,none⟩=some (.string x.m)/\w.cell? ⟨b,o+1,none⟩=some (.int .i64 x.k)/\w.cell? ⟨b,o+2,none⟩=some (.int .i64 x.n)/\w.cell? ⟨b,o+3,none⟩=some (.string x.s)/\w.cell? ⟨b,o+4,none⟩=some (.slice y x.len c)
theorem lM.lt {w:World} {b o:Nat} {x:AD} {y:Tp} {c:Nat} (h:lM w b o x y c):b<w.heap.size:=by have:=World.block_lt_of_cell? w _ h.1;simpa using this
theorem lM.below {B:Nat} {w w':World} {b o:Nat} {x:AD} {y:Tp} {c:Nat} (h:lM w b o x y c) (a:Below B w w') (d:b<B):lM w' b o x y c :=
 ⟨(a.cell (p:=⟨b,_,none⟩) d).trans h.1,(a.cell (p:=⟨b,_,none⟩) d).trans h.2.1,(a.cell (p:=⟨b,_,none⟩) d).trans h.2.2.1,(a.cell (p:=⟨b,_,none⟩) d).trans h.2.2.2.1,(a.cell (p:=⟨b,_,none⟩) d).trans h.2.2.2.2⟩
theorem lM.kept {w w':World} {b o:Nat} {x:AD} {y:Tp} {c:Nat} (h:lM w b o x y c) (a:Below w.heap.size w w'):lM w' b o x y c:=h.below a h.lt
def ReadsA (w:World) (a:Tp) (len:Nat) (A:Nat->AD):Prop :=
 len<=maxLen/\(len=0\/∃ b off,a=some ⟨b,off,none⟩/\∀ j,j<len->∃ y c,lM w b (off+j*5) (A j) y c/\Reads w y (A j).len (A j).z)
theorem ReadsA.kept {w w':World} {a:Tp} {len:Nat} {A:Nat->AD} (h:ReadsA w a len A) (d:Below w.heap.size w w'):ReadsA w' a len A:=by
 refine ⟨h.1,h.2.imp id ?_⟩;rintro ⟨b,off,rfl,g⟩;refine ⟨b,off,rfl,fun j f=>?_⟩;obtain ⟨y,c,k,hr⟩:=g j f;exact ⟨y,c,k.kept d,hr.kept d⟩
def vH (w:World) (len:Nat) (z:Nat->Int) (e:Ending) (w':World):Prop :=
 (∃ a c,e=.returned (.slice a len c)/\Reads w' a len z/\∀ b,a=some b->w.heap.size<=b.block)/\Below w.heap.size w w'
theorem Ke:(prog.info? 2).map (fun i=>(i.zero,i.size,i.bytes))=some (some (.int .i64 0),1,8):=by kernel_rfl
theorem Rf (z:Nat->Int) (len:Nat):∀ u∈(List.range len).map (fun j=>Value.int .i64 (z j)),u.oneCell'=true:=by
 intro u a;obtain ⟨j,_,rfl⟩:=List.mem_map.1 a;rfl
theorem IW {w:World} {base:Nat} {a:Tp} {len l c:Nat} {z:Nat->Int} (h:w.ownsRow base 2 1 (.slice a l c) len ((List.range len).map (fun j=>Value.int .i64 (z j)))):l=len/\Reads w a len z/\∀ b,a=some b->base<=b.block:=by
 rcases h.2 with ⟨h,t⟩ | ⟨g,u,n,o,m,s,f,r,_,p⟩
 · simp only [Value.slice.injEq] at h
   obtain ⟨rfl,rfl,rfl⟩:=h;subst t;exact ⟨rfl,⟨Nat.zero_le _,.inl rfl⟩,fun b m=>by cases m⟩
 · simp only [Value.slice.injEq] at o
   obtain ⟨rfl,rfl,rfl⟩:=o;refine ⟨rfl,⟨Nat.le_trans f r,.inr ⟨g,0,rfl,fun j q=>?_⟩⟩,fun b k=>by cases k;exact m⟩;have d:((List.range l).map (fun j=>Value.int .i64 (z j)))[j]? = some (.int .i64 (z j)):=by simp [q]
   rw [Nat.zero_add,cell_of_row w g j n _ (0,0) s];rw [Nat.mul_one] at p;rw [<- p,List.getElem?_take,if_pos q] at d;simpa using d
theorem uZ (a:Tp) (len d:Nat) (z:Nat->Int) (hl:len<=1000000) (w:World) (hr:Reads w a len z) :
 Calls prog 154 #[.slice a len d] w (vH w len z):=by
 obtain ⟨R,L,t,s,r⟩:=info_parts Ke;have f:prog.underlying 58=some (.slice 2):=underlying58;cases a with
 | none =>
   have y:len=0:=by
    rcases hr.2 with h | ⟨b,off,h,_⟩
    · exact h
    · cases h
   subst y;have P:=aA (show vH w 0 z (.returned (.slice none 0 0)) w from ⟨⟨none,0,rfl,⟨Nat.zero_le _,.inl rfl⟩,fun b h=>by cases h⟩,Below.refl _ _⟩);clear hr;go_enter func154,ntmps154
   go_wp2
   rw [Lib.run_eql_slice_nil w _ _ _ _ _ _ _ f];simp only [Result.andThen];rw [Oper.upon_value];go_wp2_with fail
   go_ret;exact P.out
 | some x =>
   have F:=aA (p:=∀ w',Below w.heap.size w w'->Sa w' (.slice (some x) len d) len ((List.range len).map (fun j=>Value.int .i64 (z j)))) (fun w' N=>by
    refine .inr ⟨x,d,rfl,by simp,fun j u q=>?_⟩;rcases (hr.kept N).2 with y | ⟨b,off,hx,M⟩
    · subst y;simp at q
    · obtain rfl:x=⟨b,off,none⟩:=by simpa using hx
      have n:j<len:=by
       rcases Nat.lt_or_ge j len with h | h
       · exact h
       · rw [List.getElem?_eq_none (by simpa using h)] at q;cases q
      rw [Addr.add_lit,M j n];simpa [n] using q)
   clear hr;go_enter func154,ntmps154
   have D:Below w.heap.size w (w.alloc (.cells #[] 2)):=bA0 _ _;have E:=aA D;have O:=aA (show (w.alloc (.cells #[] 2)).ownsRow w.heap.size 2 1 (.slice (some ⟨w.heap.size,0,none⟩) 0 0) 0 [] from ⟨rfl,.inr ⟨w.heap.size,0,#[],rfl,Td _,heap_alloc_new w _,Td _,Nat.zero_le _,rfl,rfl⟩⟩);clear D;go_wp2
   rw [Lib.run_eql_slice_nil w _ _ _ _ _ _ _ f];simp only [Result.andThen];rw [Oper.upon_value];go_wp2_with (at_builtin;refine rY rfl _ _ 58 rfl f L t s r rfl _ _ 0 len [] _ rfl rfl O.out (F.out _ E.out) (Rf z len) (by unfold maxLen;omega) (by omega) (by simp) ?_)
   intro H G ho C _
   obtain ⟨B,A,vc,rfl⟩:∃ a l c,H=.slice a l c:=by
    rcases ho.2 with ⟨h,_⟩ | ⟨g,d,_,h,_⟩
    · exact ⟨_,_,_,h⟩
    · exact ⟨_,_,_,h⟩
   obtain ⟨rfl,m,o⟩:=IW ho;have P:=aA (show vH w A z (.returned (.slice B A vc)) G from ⟨⟨B,vc,rfl,m,o⟩,E.out.grown C (by simp) (fun k I=>by simp [Value.ownBlock] at I;omega)⟩);clear ho C m o;go_wp2
   go_ret;exact P.out
theorem By (W:World) (B:Nat) (d c b a:Value):aC (fun k=>k=B) W ((((W.setCell ⟨B,0,none⟩ d).setCell ⟨B,1,none⟩ c).setCell ⟨B,2,none⟩ b).setCell ⟨B,3,none⟩ a) :=
 ((((aC.refl (fun k=>k=B) W).setCell (S:=fun k=>k=B) (p:=⟨B,0,none⟩) (.inl rfl) d).setCell (S:=fun k=>k=B) (p:=⟨B,1,none⟩) (.inl rfl) c).setCell (S:=fun k=>k=B) (p:=⟨B,2,none⟩) (.inl rfl) b).setCell (S:=fun k=>k=B) (p:=⟨B,3,none⟩) (.inl rfl) a
theorem Reads.keptS {S:Nat->Prop} {w w':World} {a:Tp} {len:Nat} {z:Nat->Int} (h:Reads w a len z) (c:aC S w w') (g:∀ b,a=some b->¬ S b.block):Reads w' a len z:=by
 refine ⟨h.1,?_⟩;rcases h.2 with k | ⟨b,off,rfl,f⟩
 · exact .inl k
 · exact .inr ⟨b,off,rfl,fun j d=>c.cell (f j d) (show ¬ S b from g ⟨b,off,none⟩ rfl)⟩
def twN (k n:Int):Int:=if k=1 then n else 0
def twS (k:Int) (s:Tr):Tr:=if k=2 then s else ⟨#[]⟩
def twL (k:Int) (len:Nat):Nat:=if k=3 then len else 0
def vF (w:World) (k n:Int) (s:Tr) (len:Nat) (z:Nat->Int) (e:Ending) (w':World):Prop :=
 (∃ a c,e=.returned (.agg #[.int .i64 k,.int .i64 (twN k n),.string (twS k s),.slice a (twL k len) c])/\(∀ b,a=some b->w.heap.size<=b.block)/\∀ w3,aC (fun b=>b=w.heap.size+1) w' w3->Reads w3 a (twL k len) z)/\Below w.heap.size w w'
theorem uM (w:World) (z:Nat->Int):Reads w none 0 z:=⟨Nat.zero_le _,.inl rfl⟩
theorem pZ (w:World) (b a:Obj):Below w.heap.size w ((w.alloc b).alloc a)/\((w.alloc b).alloc a).heap[w.heap.size]? = some b/\((w.alloc b).alloc a).heap[w.heap.size+1]? = some a/\((w.alloc b).alloc a).heap.size=w.heap.size+2:=by
 refine ⟨(bA0 _ _).alloc (by simp) _,(Below.heap_alloc _ _ _ (by simp)).trans (heap_alloc_new w _),?_,by simp⟩;have:=heap_alloc_new (w.alloc b) a;rwa [Tc] at this
theorem xI (k n:Int) (s:Tr) (a:Tp) (len f:Nat) (z:Nat->Int) (hl:len<=1000000) (w:World) (hr:Reads w a len z) :
 Calls prog 96 #[.agg #[.int .i64 k,.int .i64 n,.string s,.slice a len f]] w (vF w k n s len z):=by
 have g:=aA (pZ w (.cells #[.int .i64 k,.int .i64 n,.string s,.slice a len f] 60) (.cells #[.int .i64 0,.int .i64 0,.string ⟨#[]⟩,.slice none 0 0] 60));have R:=aA hr;clear hr;by_cases l:k=1
 · subst l
   have P:=aA (p:=∀ W,Below w.heap.size w W->vF w 1 n s len z (.returned (.agg #[.int .i64 1,.int .i64 n,.string ⟨#[]⟩,.slice none 0 0])) W) (fun W h=>⟨⟨none,0,rfl,(fun b h=>by cases h),fun j _=>uM j z⟩,h⟩);go_enter func96,ntmps96
   go_wp2_with fail
   exact bodyPost_ret (v:=.agg #[.int .i64 1,.int .i64 n,.string ⟨#[]⟩,.slice none 0 0]) (by simp [results,results96,go_sem]) rfl (P.out _ (pZ w _ _).1)
 have G:(k == 1)=false:=by simpa using l
 by_cases r:k=2
 · subst r
   have P:=aA (p:=∀ W,Below w.heap.size w W->vF w 2 n s len z (.returned (.agg #[.int .i64 2,.int .i64 0,.string s,.slice none 0 0])) W) (fun W h=>⟨⟨none,0,rfl,(fun b h=>by cases h),fun j _=>uM j z⟩,h⟩);clear l G;go_enter func96,ntmps96
   go_wp2_with fail
   exact bodyPost_ret (v:=.agg #[.int .i64 2,.int .i64 0,.string s,.slice none 0 0]) (by simp [results,results96,go_sem]) rfl (P.out _ (pZ w _ _).1)
 have I:(k == 2)=false:=by simpa using r
 by_cases q:k=3
 · subst q
   clear l G r I;go_enter func96,ntmps96
   go_wp2_with fail
   generalize H:World.alloc (World.alloc w _) _=W;rw [H] at g;have u:Below W.heap.size W W.drew:=⟨rfl,rfl,rfl,Td _,fun _ _=>rfl⟩;have C:=aA (uZ a len f z hl W.drew (R.out.kept (g.out.1.trans ⟨rfl,rfl,rfl,Td _,fun _ _=>rfl⟩)));have hs:=g.out.2.2.2;obtain ⟨⟨D,B,A,y⟩, -⟩:=aL g.out.2.1;clear H u
   go_region_with (first
    | (go_at_call 154
       with_reducible refine C.out.mono ?_
       rintro e E ⟨⟨a2,c2,rfl,m,o⟩,c⟩;have M:=c.size;have d:=(c.block (w.heap.size+1) (by show _<W.heap.size;omega)).trans g.out.2.2.1;clear D B A y;obtain ⟨⟨D,B,A,y⟩, -⟩:=aL ((c.block w.heap.size (by show _<W.heap.size;omega)).trans g.out.2.1);obtain ⟨⟨Y,X,V,U⟩,⟨T,S,O,N⟩⟩:=aL d;have t:=aA (And.intro m (And.intro o (g.out.1.trans ((show Below w.heap.size W W.drew from ⟨rfl,rfl,rfl,Td _,fun _ _=>rfl⟩).trans (c.mono (by show _<=W.heap.size;omega))))));clear m o c d)
    | fail)
   all_goals
    have P:=aA (p:=vF w 3 n s len z (.returned (.agg #[.int .i64 3,.int .i64 0,.string ⟨#[]⟩,.slice a2 len c2])) ((((E.setCell ⟨w.heap.size+1,0,none⟩ (.int .i64 3)).setCell ⟨w.heap.size+1,1,none⟩ (.int .i64 0)).setCell ⟨w.heap.size+1,2,none⟩ (.string ⟨#[]⟩)).setCell ⟨w.heap.size+1,3,none⟩ (.slice a2 len c2)))
     ⟨⟨a2,c2,rfl,(fun b c=>by have:=t.out.2.1 b c;have x:W.drew.heap.size=w.heap.size+2:=hs;omega),fun j L=>t.out.1.keptS ((By E (w.heap.size+1) _ _ _ _).trans L (fun _ h _=>h)) (fun b c h=>by have:=t.out.2.1 b c;have h':b.block=w.heap.size+1:=h;have x:W.drew.heap.size=w.heap.size+2:=hs;omega)⟩,lS t.out.2.2 (Nat.le_succ _) _ _ _ _⟩
    go_wp2
    exact bodyPost_ret (v:=.agg #[.int .i64 3,.int .i64 0,.string ⟨#[]⟩,.slice a2 len c2]) (by simp [results,results96,go_sem, *]) rfl P.out
 have Z:(k == 3)=false:=by simpa using q
 have P:=aA (p:=∀ W,Below w.heap.size w W->vF w k n s len z (.returned (.agg #[.int .i64 k,.int .i64 0,.string ⟨#[]⟩,.slice none 0 0])) W) (fun W h=>⟨⟨none,0,by unfold twN twS twL;rw [if_neg l,if_neg r,if_neg q],(fun b h=>by cases h),fun j _=>by unfold twL;rw [if_neg q];exact uM j z⟩,h⟩);clear l r q;go_enter func96,ntmps96
 go_wp2_with fail
 exact bodyPost_ret (v:=.agg #[.int .i64 k,.int .i64 0,.string ⟨#[]⟩,.slice none 0 0]) (by simp [results,results96,go_sem]) rfl (P.out _ (pZ w _ _).1)
def RO (w:World) (F:Nat->Prop) (e:AD×VC):Prop :=
 e.2.k=e.1.k/\e.2.n=e.1.n/\e.2.s=e.1.s/\e.2.len=e.1.len/\Reads w e.2.y e.1.len e.1.z/\(e.1.len=0\/∀ b,e.2.y=some b->¬ F b.block)
theorem RO.kept {w w':World} {F l S:Nat->Prop} {e:AD×VC} (h:RO w F e) (m:aC S w w') (o:∀ k,S k->k<w.heap.size->F k) (n:∀ k,l k->k<w.heap.size->F k):RO w' l e:=by
 obtain ⟨s,r,q,p,hr,hF⟩:=h;refine ⟨s,r,q,p,?_,?_⟩
 · refine ⟨hr.1,?_⟩
   rcases hr.2 with a | ⟨b,off,c,f⟩
   · exact .inl a
   · rcases hF with a | hF
     · exact .inl a
     · refine .inr ⟨b,off,c,fun j g=>m.cell (f j g) (fun hs=>hF _ c (o b hs (by have:=World.block_lt_of_cell? w _ (f j g);simpa using this)))⟩
 · rcases hF with a | hF
   · exact .inl a
   · rcases hr.2 with a | ⟨b,off,c,f⟩
     · exact .inl a
     · by_cases hl:e.1.len=0
       · exact .inl hl
       · refine .inr fun u d t=>?_
         rw [c] at d;cases d;exact hF _ c (n _ t (by have:=World.block_lt_of_cell? w _ (f 0 (by omega));simpa using this))
def twA (x:AD):AD:=⟨x.m,x.k,twN x.k x.n,twS x.k x.s,twL x.k x.len,x.z⟩
def twsA (A:Nat->AD) (k:Nat):List AD:=(List.range k).map fun j=>twA (A j)
def RiseA (A:Nat->AD) (n:Nat):Prop:=∀ i j,i<j->j<n->lsS (A i).m (A j).m=true
abbrev tv (l:Tq):Value:=.string ⟨l.toArray⟩
theorem Hm {w:World} {e:TypeId} {B g n c:Nat} {xs:List Value} (h:w.ownsRow B e 1 (.slice (some ⟨g,0,none⟩) n c) n xs) (i:Nat) (_hi:i<n) (u:Value) :
 (w.setCell ⟨g,i,none⟩ u).ownsRow B e 1 (.slice (some ⟨g,0,none⟩) n c) n (xs.set i u)/\B<=g:=by
 refine ⟨⟨by rw [List.length_set];exact h.1,?_⟩,?_⟩
 · rcases h.2 with ⟨a,_⟩ | ⟨m,d,b,a,f,l,hn,k,hs,j⟩
   · simp at a
   · simp only [Value.slice.injEq,Option.some.injEq,Addr.mk.injEq] at a
     obtain ⟨⟨rfl, -⟩, -,rfl⟩:=a;refine .inr ⟨g,c,b.setIfInBounds i u,rfl,f,heap_setCell_same w g i b e u l,hn,k,by simpa using hs,?_⟩;rw [<- j];simp [List.take_set]
 · rcases h.2 with ⟨a,_⟩ | ⟨m,d,b,a,f,_⟩
   · simp at a
   · simp only [Value.slice.injEq,Option.some.injEq,Addr.mk.injEq] at a
     obtain ⟨⟨rfl, -⟩, -,rfl⟩:=a;exact f
theorem tF {w:World} {e:TypeId} {B g n c:Nat} {xs:List Value} (h:w.ownsRow B e 1 (.slice (some ⟨g,0,none⟩) n c) n xs) {j:Nat} {v:Value} (k:xs[j]? = some v):w.cell? ⟨g,j,none⟩=some v/\w.frozen? ⟨g,j,none⟩=false:=by
 rcases h.2 with ⟨a,_⟩ | ⟨p,f,l,a,o,d,hn,m,hs,b⟩
 · simp at a
 · simp only [Value.slice.injEq,Option.some.injEq,Addr.mk.injEq] at a
   obtain ⟨⟨rfl, -⟩, -,rfl⟩:=a;rw [Nat.mul_one] at b;exact ⟨eD d b k,frozen_of_row w g j _ _ d⟩
theorem H8:(prog.info? 9).map (fun i=>(i.zero,i.size,i.bytes))=some (some (.string ⟨#[]⟩),1,16):=by kernel_rfl
theorem AK (a:Tq) (s:Tr) (k:Nat) (b:k<s.size):(⟨a.toArray⟩:Tr)++s.extract k (k+1)=⟨(a++[s[k]]).toArray⟩:=by
 apply dO
 have h:(s.extract k (k+1)).data.toList=[s[k]]:=by
  rw [ByteArray.data_extract,Array.toList_extract];show (s.data.toList.drop k).take (k+1-k)=_;rw [List.drop_eq_getElem_cons (by simpa using b),show k+1-k=1 by omega];rfl
 show (_++_:Tr).data.toList=_;rw [ByteArray.data_append,Array.toList_append,h]
end Go.Proofs.YtgfkjkokmcejbaaGreatDoor.Wr
namespace Go.Proofs.YtgfkjkokmcejbaaGreatDoor
open Go.RowKit Tryz
theorem lD {w:World} {base:Nat} {e:TypeId} {size:Nat} {a:Tp} {n c j:Nat} {xs:List Value} {u:Value} (h:w.ownsRow base e size (.slice a n c) n xs) (b:xs[j]? = some u):∃ g,a=some ⟨g,0,none⟩/\w.cell? ⟨g,j,none⟩=some u:=by
 cases a with
 | none =>
   rcases h.2 with ⟨_,d⟩ | ⟨g,l,k,f,_⟩
   · have:=h.1
     subst d;rw [Nat.zero_mul] at this;rw [Tg.1 this] at b;cases b
   · cases f
 | some a =>
   obtain ⟨g,f,d⟩:=qL h b;exact ⟨g,by rw [f],d⟩
theorem El {w:World} {base:Nat} {e:TypeId} {a:Tp} {c n:Nat} {xs:List Value} (h:w.ownsRow base e 1 (.slice a n c) n xs):n<=c/\c<=maxLen:=by
 rcases h.2 with ⟨h,_⟩ | ⟨g,j,f,h,_,_,d,b,_⟩
 · simp only [Value.slice.injEq] at h
   obtain ⟨_,rfl,rfl⟩:=h;exact ⟨Td _,Nat.zero_le _⟩
 · simp only [Value.slice.injEq] at h
   obtain ⟨_,_,rfl⟩:=h;exact ⟨d,b⟩
theorem eQ {W:World} {base:Nat} {e:TypeId} {size:Nat} {v:Value} {k:Nat} {xs:List Value} (h:W.ownsRow base e size v k xs):∃ a b,v=.slice a k b:=by
 rcases h.2 with ⟨rfl,rfl⟩ | ⟨g,b,_,rfl,_⟩
 · exact ⟨_,_,rfl⟩
 · exact ⟨_,_,rfl⟩
structure QC where
 a1:Tp
 c1:Nat
 a2:Tp
 c2:Nat
abbrev e7 (d:CD) (q:QC):List Value:=[.string d.op,.string d.a.op,.string d.a.nm,.int .i64 d.a.n,.slice q.a1 d.a.ks.len q.c1,.string d.b.op,.string d.b.nm,.int .i64 d.b.n,.slice q.a2 d.b.ks.len q.c2]
def cdL:List CD->List QC->List Value
 | d::r,q::s=>e7 d q++cdL r s
 | _,_=>[]
def nE (G:Nat->Prop) (w:World) (l:List CD) (qs:List QC):Prop:=∀ (j:Nat) (d:CD) (q:QC),l[j]? = some d->qs[j]? = some q->aK G w q.a1 d.a.ks/\aK G w q.a2 d.b.ks
theorem rF:∀ (l:List CD) (q:List QC),∀ u∈cdL l q,u.oneCell'=true
 | [],_,u,h=>by simp [cdL] at h
 | _::_,[],u,h=>by simp [cdL] at h
 | d :: r, p :: s, u, h => by
   rw [cdL] at h;rcases List.mem_append.1 h with h | h
   · simp only [e7,List.mem_cons,List.not_mem_nil,or_false] at h
     rcases h with rfl | rfl | rfl | rfl | rfl | rfl | rfl | rfl | rfl <;> rfl
   · exact rF r s u h
theorem xA:∀ (l m:List CD) (q p:List QC),q.length=l.length->cdL (l++m) (q++p)=cdL l q++cdL m p
 | [],m,[],p,_=>rfl
 | [],_,_::_,_,h=>by simp at h
 | _::_,_,[],_,h=>by simp at h
 | d::r,m,q::s,p,h=>by rw [List.cons_append,List.cons_append,cdL,cdL,xA r m s p (by simpa using h),List.append_assoc]
theorem GU:∀ (l:List CD) (q:List QC) {k:Nat} {d:CD} (_:q.length=l.length) (_:l[k]? = some d),∃ p,q[k]? = some p/\∀ i u,(e7 d p)[i]? = some u->(cdL l q)[k*9+i]? = some u
 | [],_,k,d,_,hk=>by simp at hk
 | _::_,[],k,d,h,_=>by simp at h
 | d :: r, p :: s, 0, d', h, hk => by
   cases hk;refine ⟨p,rfl,fun i u a=>?_⟩
   have b:i<9:=by
    have:=(List.getElem?_eq_some_iff.1 a).1;exact this
   rw [cdL,Nat.zero_mul,Nat.zero_add,List.getElem?_append_left (by simpa [e7] using b)];exact a
 | d :: r, p :: s, k + 1, d', h, hk => by
   obtain ⟨p',f,c⟩:=GU r s (k:=k) (d:=d') (by simpa using h) (by simpa using hk);refine ⟨p',by simpa using f,fun i u a=>?_⟩;rw [cdL,List.getElem?_append_right (by simp [e7];omega)];have:(k+1)*9+i-(e7 d p).length=k*9+i:=by simp [e7];omega
   rw [this];exact c i u a
theorem nE.keptS {S G:Nat->Prop} {w w':World} {l:List CD} {qs:List QC} (h:nE G w l qs) (a:aC S w w') (b:∀ k,S k->¬ G k):nE G w' l qs:=fun j d q f c=>⟨(h j d q f c).1.keptS a b,(h j d q f c).2.keptS a b⟩
theorem nE.imp {G H:Nat->Prop} {w:World} {l:List CD} {qs:List QC} (h:nE G w l qs) (a:∀ b,b<w.heap.size->G b->H b):nE H w l qs:=fun j d q f c=>⟨(h j d q f c).1.imp a,(h j d q f c).2.imp a⟩
theorem nE.snoc {G:Nat->Prop} {w:World} {l:List CD} {qs:List QC} (h:nE G w l qs) (hl:qs.length=l.length) {d:CD} {q:QC} (n:aK G w q.a1 d.a.ks) (k:aK G w q.a2 d.b.ks):nE G w (l++[d]) (qs++[q]):=fun j o q' c f=>by
 rcases Nat.lt_or_ge j l.length with hj | hj
 · rw [List.getElem?_append_left hj] at c
   rw [List.getElem?_append_left (by omega)] at f;exact h j o q' c f
 · rw [List.getElem?_append_right hj] at c
   rw [List.getElem?_append_right (by omega)] at f;rw [hl] at f;cases g:j-l.length with
   | zero =>
     rw [g] at c f;cases c;cases f;exact ⟨n,k⟩
   | succ m=>rw [g] at c;simp at c
theorem sA {G:Nat->Prop} {w:World} {B:Nat} {e:TypeId} {a:Tp} {c:Nat} {l:List CD} {qs:List QC} (ho:w.ownsRow B e 9 (.slice a l.length c) l.length (cdL l qs)) (hl:qs.length=l.length) (y:nE G w l qs) (A:∀ b,a=some ⟨b,0,none⟩->G b):jE G w a l:=by
 by_cases hn:l=[]
 · exact .inl hn
 right
 have C:∃ d,l[0]? = some d:=by
  cases l with
  | nil=>exact absurd rfl hn
  | cons d r=>exact ⟨d,rfl⟩
 obtain ⟨I,o⟩:=C;obtain ⟨E, -,k⟩:=GU l qs hl o;obtain ⟨g,n,D⟩:=lD ho (k 0 _ rfl);have m:g<w.heap.size:=by have:=World.block_lt_of_cell? w _ D;simpa using this
 refine ⟨g,0,n,A g n,m,fun j d q=>?_⟩;obtain ⟨p,hp,z⟩:=GU l qs hl q;obtain ⟨t,s⟩:=y j d p q hp
 have f:∀ i u,(e7 d p)[i]? = some u->w.cell? ⟨g,0+j*9+i,none⟩=some u:=fun i u x=>by
  obtain ⟨H,h,c⟩:=lD ho (z i u x);rw [n] at h;cases h;rw [Nat.zero_add];exact c
 exact ⟨p.a1,p.c1,p.a2,p.c2,⟨f 0 _ rfl,f 1 _ rfl,f 2 _ rfl,f 3 _ rfl,f 4 _ rfl,f 5 _ rfl,f 6 _ rfl,f 7 _ rfl,f 8 _ rfl⟩,t,s⟩
abbrev GG (n rb ab:Nat) (wa:Tp) (b:Nat):Prop:=n<b/\b ≠ rb/\b ≠ ab/\wa ≠ some ⟨b,0,none⟩
structure GW (w:World) (ts:List Tk) (rb ab:Nat) (a:Tp) (c:Nat) (x:AG) (p:PA) (qs:List QC) (s:RS) (V:World):Prop where
 r:PW ts rb a c s V
 b:Below w.heap.size w V
 n:V.heap[ab]? = some (agO x p)
 o:V.heap[w.heap.size]? = some (agO aO aI)
 e:aK (GG w.heap.size rb ab p.wa) V p.ea x.e.ks
 g:aK (GG w.heap.size rb ab p.wa) V p.ga x.g.ks
 own:V.ownsRow (ab+1) 133 9 (.slice p.wa x.wh.length p.wc) x.wh.length (cdL x.wh qs)
 ql:qs.length=x.wh.length
 kd:nE (GG w.heap.size rb ab p.wa) V x.wh qs
 hr:w.heap.size<rb
 ha:rb<ab
 hz:ab<V.heap.size
 tk:ts=[]\/∃ b off,a=some ⟨b,off,none⟩/\w.heap.size<b
end Go.Proofs.YtgfkjkokmcejbaaGreatDoor
