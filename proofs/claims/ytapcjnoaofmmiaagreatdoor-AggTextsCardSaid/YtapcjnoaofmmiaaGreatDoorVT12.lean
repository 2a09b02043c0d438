/-
 No statement: what AggTextsCard needs, of the texts QArgs, QTop, QCond, OCheck, QEval.
-/
import Derived.Test.YtapcjnoaofmmiaaGreatDoorVT11
set_option maxHeartbeats 40000000
set_option maxRecDepth 100000
namespace Go.Proofs.YtapcjnoaofmmiaaGreatDoor
section
open Go.RowKit
set_option linter.unusedSimpArgs false
def iZ (ts:List Tk) (rb:Nat) (a:Option Addr) (c:Nat) (fn:ByteArray) (r:(Int×TN×TN)×RS) (w0:World) (e:Ending) (w':World):Prop :=
 ∃ p:PA,e=.returned (agV ⟨fn,r.1.1,r.1.2.1,r.1.2.2,[]⟩ p)/\PW ts rb a c r.2 w'/\aE (· = rb) w0 w'/\a7 w0.heap.size w' p.ea r.1.2.1.ks/\a7 w0.heap.size w' p.ga r.1.2.2.ks/\p.wa=none/\p.wc=0
theorem j3 {w V:World} {ts:List Tk} {rb:Nat} {a:Option Addr} {c:Nat} {fn:ByteArray} {k:Int} {t u:TN} {ea ga:Option Addr} {ec gc:Nat} {s s0:RS} (h:AW w ts rb a c ⟨fn,k,t,u,[]⟩ ⟨ea,ec,ga,gc,none,0⟩ s V) (hr:bG ts fn.data.toList s0=((k,t,u),s)) :
 iZ ts rb a c fn (bG ts fn.data.toList s0) w (.returned (agV ⟨fn,k,t,u,[]⟩ ⟨ea,ec,ga,gc,none,0⟩)) (dX V (w.heap.size+1) ⟨fn,k,t,u,[]⟩ ⟨ea,ec,ga,gc,none,0⟩):=by
 rw [hr];have KP:=bH V (w.heap.size+1) ⟨fn,k,t,u,[]⟩ ⟨ea,ec,ga,gc,none,0⟩;exact ⟨_,rfl,h.r.other KP (by have:=h.h;omega),h.k.trans KP (fun i hi hlt=>by omega),(h.e.keptS KP (fun k hk=>by omega)).mono (by omega),(h.g.keptS KP (fun k hk=>by omega)).mono (by omega),rfl,rfl⟩
theorem oZ {w:World} {ts:List Tk} {rb:Nat} {a:Option Addr} {c:Nat} {s:RS} (h:PW ts rb a c s w) (fn:ByteArray):AW w ts rb a c ⟨fn,0,aD,aD,[]⟩ aI s ((w.alloc (agO ⟨fn,0,aD,aD,[]⟩ aI)).alloc (agO aN aI)):=by
 have B1:=(Below.refl w.heap.size w).alloc (Nat.le_refl _) (agO ⟨fn,0,aD,aD,[]⟩ aI);have N1:=heap_alloc_new w (agO ⟨fn,0,aD,aD,[]⟩ aI);have z1:(w.alloc (agO ⟨fn,0,aD,aD,[]⟩ aI)).heap.size=w.heap.size+1:=World.size_alloc _ _;generalize w.alloc (agO ⟨fn,0,aD,aD,[]⟩ aI)=W1 at *;have B2:=(Below.refl W1.heap.size W1).alloc (Nat.le_refl _) (agO aN aI);have N2:=heap_alloc_new W1 (agO aN aI);rw [z1] at N2;exact ⟨(h.below B1).below B2,(aF (B1.trans (B2.mono (by omega))) _),(B2.block _ (by omega)).trans N1,N2,.inl rfl,.inl rfl,by rw [World.size_alloc];omega,h.r.lt⟩
theorem AW.drewN {w V:World} {ts:List Tk} {rb:Nat} {a:Option Addr} {c:Nat} {x:AG} {p:PA} {s:RS} (h:AW w ts rb a c x p s V) (n:Nat):AW w ts rb a c x p s (V.drewN n) :=
 h.step (h.r.kept (lW (aE.refl _ _) n)) (lW (aE.refl _ _) n)
theorem Cp (ts:List Tk) (rb:Nat) (a:Option Addr) (c:Nat) (s:RS) (fn:ByteArray) (w:World) (h:PW ts rb a c s w) (_:s.bad=0) (hf:fn.data.toList=aQ):Calls Tryz.prog 35 #[.pointer (some ⟨rb,0,none⟩),agV ⟨fn,0,aD,aD,[]⟩ aI] w (iZ ts rb a c fn (bG ts fn.data.toList s) w):=by
 have g0:(fn.toList == aQ)=true:=bT (by rw [hf];decide);unfold aQ at g0;have HR:=aA (show bG ts fn.data.toList s=((0,aD,aD),s) by unfold bG;rw [if_pos hf]);clear hf;have K0:=oZ h fn;generalize hW1:w.alloc (agO ⟨fn,0,aD,aD,[]⟩ aI)=W1 at K0;generalize hW:W1.alloc (agO aN aI)=W at K0;have HW1:=aA hW1;have HW:=aA hW;have K:=aA K0;clear hW1 hW K0 h;obtain ⟨m0,m1,m2,m3,m4,m5,m6,m7,m8,m9,m10⟩:=aC K.out.n;go_enter Tryz.func35,Tryz.ntmps35
 go_upto_region 1 with fail
 rw [HW1.out,show W1.alloc (.cells #[.string ⟨#[]⟩,.int .i64 0,.string ⟨#[]⟩,.string ⟨#[]⟩,.int .i64 0,.slice none 0 0,.string ⟨#[]⟩,.string ⟨#[]⟩,.int .i64 0,.slice none 0 0,.slice none 0 0] 37)=W from HW.out];clear m0 m1 m2 m3 m4 m5 m6 m7 m8 m9 m10;obtain ⟨m0,m1,m2,m3,m4,m5,m6,m7,m8,m9,m10⟩:=aC K.out.n;obtain ⟨z0,z1,z2,z3,z4,z5,z6,z7,z8,z9,z10⟩:=bE K.out.o;obtain ⟨b0,b1,b2,b3,b4,b5,b6,b7,b8,b9,b10⟩:=aC K.out.o;go_wp2_with fail
 have KP:=bH W (w.heap.size+1) ⟨fn,0,aD,aD,[]⟩ aI;obtain ⟨y0,y1,y2,y3,y4,y5,y6,y7,y8,y9,y10⟩:=aC (cB (t:=37) K.out.o ⟨fn,0,aD,aD,[]⟩ aI);have P:=j3 K.out HR.out;exact bodyPost_ret (v:=agV ⟨fn,0,aD,aD,[]⟩ aI) (by simp [results,Tryz.results35,go_sem,y0,y1,y2,y3,y4,y5,y6,y7,y8,y9,y10,b0,b1,b2,b3,b4,b5,b6,b7,b8,b9,b10]) rfl P
theorem Cn (ts:List Tk) (rb:Nat) (a:Option Addr) (c:Nat) (s:RS) (fn:ByteArray) (w:World) (h:PW ts rb a c s w) (_:s.bad=0) (hf:¬ fn.data.toList=aQ) (hg:¬ fn.data.toList=cQ) (hh:¬ fn.data.toList=aW):Calls Tryz.prog 35 #[.pointer (some ⟨rb,0,none⟩),agV ⟨fn,0,aD,aD,[]⟩ aI] w (iZ ts rb a c fn (bG ts fn.data.toList s) w):=by
 have g0:(fn.toList == aQ)=false:=aM (beq_eq_false_iff_ne.2 hf);have g1:(fn.toList == cQ)=false:=aM (beq_eq_false_iff_ne.2 hg);have g2:(fn.toList == aW)=false:=aM (beq_eq_false_iff_ne.2 hh);have hc:=aA hf;have ht:=aA hg;have hff:=aA hh;unfold aQ at g0;unfold cQ at g1;unfold aW at g2;clear hf hg hh;have K0:=oZ h fn;generalize hW1:w.alloc (agO ⟨fn,0,aD,aD,[]⟩ aI)=W1 at K0;generalize hW:W1.alloc (agO aN aI)=W at K0;have HW1:=aA hW1;have HW:=aA hW;have K:=aA K0;clear hW1 hW K0 h;obtain ⟨m0,m1,m2,m3,m4,m5,m6,m7,m8,m9,m10⟩:=aC K.out.n;go_enter Tryz.func35,Tryz.ntmps35
 go_upto_region 1 with fail
 rw [HW1.out,show W1.alloc (.cells #[.string ⟨#[]⟩,.int .i64 0,.string ⟨#[]⟩,.string ⟨#[]⟩,.int .i64 0,.slice none 0 0,.string ⟨#[]⟩,.string ⟨#[]⟩,.int .i64 0,.slice none 0 0,.slice none 0 0] 37)=W from HW.out];clear m0 m1 m2 m3 m4 m5 m6 m7 m8 m9 m10;obtain ⟨m0, -⟩:=aC K.out.n;have EX:=aA (fA ts rb a c (s) W K.out.r);obtain ⟨t1,s1,hts⟩:∃ t q,a8 ts (s)=(t,q):=⟨_,_,rfl⟩;rw [hts] at EX;have HE1:=aA hts;clear hts;go_wp2_with fail
 refine EX.out.mono ?_;rintro e v1 ⟨ad1,cc1,rfl,hp1,hk1,hr1⟩;have K2:=aA (K.out.step hp1 hk1);have hr5:a7 (w.heap.size+2) v1 ad1 t1.ks:=hr1.mono K.out.z;clear hp1 hk1 hr1 EX;obtain ⟨m0,m1,m2,m3,m4,m5,m6,m7,m8,m9,m10⟩:=aC K2.out.n;obtain ⟨z0,z1,z2,z3,z4,z5,z6,z7,z8,z9,z10⟩:=bE K2.out.n;have KX:=fK v1 w.heap.size t1 ad1 cc1;obtain ⟨U1,hU1⟩:∃ U,putE v1 w.heap.size t1 ad1 cc1=U:=⟨_,rfl⟩
 have K3:=aA (show AW w ts rb a c ⟨fn,0,t1,aD,[]⟩ ⟨ad1,cc1,none,0,none,0⟩ _ U1 by
  rw [<- hU1];exact K2.out.box KX (gR K2.out.n t1 ad1 cc1) hr5 K2.out.g)
 have GU1:=aA hU1;clear KX hU1 hr5;go_upto_region 14 with fail
 rw [show ((((v1.setCell ⟨w.heap.size,2,none⟩ (.string t1.op)).setCell ⟨w.heap.size,3,none⟩ (.string t1.nm)).setCell ⟨w.heap.size,4,none⟩ (.int .i64 t1.n)).setCell ⟨w.heap.size,5,none⟩ (.slice ad1 t1.ks.len cc1))=U1 from GU1.out];clear m0 m1 m2 m3 m4 m5 m6 m7 m8 m9 m10 z0 z1 z2 z3 z4 z5 z6 z7 z8 z9 z10;obtain ⟨m0,m1,m2,m3,m4,m5,m6,m7,m8,m9,m10⟩:=aC K3.out.n;have HR:=aA (show bG ts fn.data.toList s=((0,t1,aD),s1) by unfold bG;rw [if_neg hc.out];simp only [if_neg ht.out,if_neg hff.out];rw [HE1.out]);obtain ⟨m0,m1,m2,m3,m4,m5,m6,m7,m8,m9,m10⟩:=aC K3.out.n;obtain ⟨z0,z1,z2,z3,z4,z5,z6,z7,z8,z9,z10⟩:=bE K3.out.o;obtain ⟨b0,b1,b2,b3,b4,b5,b6,b7,b8,b9,b10⟩:=aC K3.out.o;go_wp2_with fail
 have KP:=bH U1 (w.heap.size+1) ⟨fn,0,t1,aD,[]⟩ ⟨ad1,cc1,none,0,none,0⟩;obtain ⟨y0,y1,y2,y3,y4,y5,y6,y7,y8,y9,y10⟩:=aC (cB (t:=37) K3.out.o ⟨fn,0,t1,aD,[]⟩ ⟨ad1,cc1,none,0,none,0⟩);have P:=j3 K3.out HR.out;exact bodyPost_ret (v:=agV ⟨fn,0,t1,aD,[]⟩ ⟨ad1,cc1,none,0,none,0⟩) (by simp [results,Tryz.results35,go_sem,y0,y1,y2,y3,y4,y5,y6,y7,y8,y9,y10,b0,b1,b2,b3,b4,b5,b6,b7,b8,b9,b10]) rfl P
theorem Co (ts:List Tk) (rb:Nat) (a:Option Addr) (c:Nat) (s:RS) (fn:ByteArray) (w:World) (h:PW ts rb a c s w) (_:s.bad=0) (hf:¬ fn.data.toList=aQ) (hg:¬ fn.data.toList=cQ) (hh:fn.data.toList=aW):Calls Tryz.prog 35 #[.pointer (some ⟨rb,0,none⟩),agV ⟨fn,0,aD,aD,[]⟩ aI] w (iZ ts rb a c fn (bG ts fn.data.toList s) w):=by
 have g0:(fn.toList == aQ)=false:=aM (beq_eq_false_iff_ne.2 hf);have g1:(fn.toList == cQ)=false:=aM (beq_eq_false_iff_ne.2 hg);have g2:(fn.toList == aW)=true:=bT (by rw [hh];decide);have hc:=aA hf;have ht:=aA hg;have hff:=aA hh;unfold aQ at g0;unfold cQ at g1;unfold aW at g2;clear hf hg hh;have K0:=oZ h fn;generalize hW1:w.alloc (agO ⟨fn,0,aD,aD,[]⟩ aI)=W1 at K0;generalize hW:W1.alloc (agO aN aI)=W at K0;have HW1:=aA hW1;have HW:=aA hW;have K:=aA K0;clear hW1 hW K0 h;obtain ⟨m0,m1,m2,m3,m4,m5,m6,m7,m8,m9,m10⟩:=aC K.out.n;go_enter Tryz.func35,Tryz.ntmps35
 go_upto_region 1 with fail
 rw [HW1.out,show W1.alloc (.cells #[.string ⟨#[]⟩,.int .i64 0,.string ⟨#[]⟩,.string ⟨#[]⟩,.int .i64 0,.slice none 0 0,.string ⟨#[]⟩,.string ⟨#[]⟩,.int .i64 0,.slice none 0 0,.slice none 0 0] 37)=W from HW.out];clear m0 m1 m2 m3 m4 m5 m6 m7 m8 m9 m10;obtain ⟨m0, -⟩:=aC K.out.n;have EX:=aA (fA ts rb a c (s) W K.out.r);obtain ⟨t1,s1,hts⟩:∃ t q,a8 ts (s)=(t,q):=⟨_,_,rfl⟩;rw [hts] at EX;have HE1:=aA hts;clear hts;go_wp2_with fail
 refine EX.out.mono ?_;rintro e v1 ⟨ad1,cc1,rfl,hp1,hk1,hr1⟩;have K2:=aA (K.out.step hp1 hk1);have hr5:a7 (w.heap.size+2) v1 ad1 t1.ks:=hr1.mono K.out.z;clear hp1 hk1 hr1 EX;obtain ⟨m0,m1,m2,m3,m4,m5,m6,m7,m8,m9,m10⟩:=aC K2.out.n;obtain ⟨z0,z1,z2,z3,z4,z5,z6,z7,z8,z9,z10⟩:=bE K2.out.n;have KX:=fK v1 w.heap.size t1 ad1 cc1;obtain ⟨U1,hU1⟩:∃ U,putE v1 w.heap.size t1 ad1 cc1=U:=⟨_,rfl⟩
 have K3:=aA (show AW w ts rb a c ⟨fn,0,t1,aD,[]⟩ ⟨ad1,cc1,none,0,none,0⟩ _ U1 by
  rw [<- hU1];exact K2.out.box KX (gR K2.out.n t1 ad1 cc1) hr5 K2.out.g)
 have GU1:=aA hU1;clear KX hU1 hr5;go_upto_region 14 with fail
 rw [show ((((v1.setCell ⟨w.heap.size,2,none⟩ (.string t1.op)).setCell ⟨w.heap.size,3,none⟩ (.string t1.nm)).setCell ⟨w.heap.size,4,none⟩ (.int .i64 t1.n)).setCell ⟨w.heap.size,5,none⟩ (.slice ad1 t1.ks.len cc1))=U1 from GU1.out];clear m0 m1 m2 m3 m4 m5 m6 m7 m8 m9 m10 z0 z1 z2 z3 z4 z5 z6 z7 z8 z9 z10;obtain ⟨m0,m1,m2,m3,m4,m5,m6,m7,m8,m9,m10⟩:=aC K3.out.n;have WN:=aA (iB ts rb a c s1 ⟨#[44]⟩ U1 K3.out.r);go_wp2_with fail
 refine WN.out.mono ?_;rintro e v2 ⟨rfl,hp2,hk2⟩;have K4:=aA (K3.out.step hp2 hk2);clear hp2 hk2 WN m0 m1 m2 m3 m4 m5 m6 m7 m8 m9 m10;have EX:=aA (fA ts rb a c _ v2 K4.out.r);obtain ⟨t2,s2,hts⟩:∃ t q,a8 ts (aU ts (⟨#[44]⟩:ByteArray).data.toList s1)=(t,q):=⟨_,_,rfl⟩;rw [hts] at EX;have HE2:=aA hts;clear hts;go_wp2_with fail
 refine EX.out.mono ?_;rintro e v3 ⟨ad2,cc2,rfl,hp3,hk3,hr3⟩;have K5:=aA (K4.out.step hp3 hk3);have hr5:a7 (w.heap.size+2) v3 ad2 t2.ks:=hr3.mono K4.out.z;clear hp3 hk3 hr3 EX;obtain ⟨m0,m1,m2,m3,m4,m5,m6,m7,m8,m9,m10⟩:=aC K5.out.n;obtain ⟨z0,z1,z2,z3,z4,z5,z6,z7,z8,z9,z10⟩:=bE K5.out.n;have KX:=vU v3 w.heap.size t2 ad2 cc2;obtain ⟨U2,hU2⟩:∃ U,putG v3 w.heap.size t2 ad2 cc2=U:=⟨_,rfl⟩
 have K6:=aA (show AW w ts rb a c ⟨fn,0,t1,t2,[]⟩ ⟨ad1,cc1,ad2,cc2,none,0⟩ _ U2 by
  rw [<- hU2];exact K5.out.box KX (Ey K5.out.n t2 ad2 cc2) K5.out.e hr5)
 have GU2:=aA hU2;clear KX hU2 hr5;go_upto_region 17 with fail
 rw [show ((((v3.setCell ⟨w.heap.size,6,none⟩ (.string t2.op)).setCell ⟨w.heap.size,7,none⟩ (.string t2.nm)).setCell ⟨w.heap.size,8,none⟩ (.int .i64 t2.n)).setCell ⟨w.heap.size,9,none⟩ (.slice ad2 t2.ks.len cc2))=U2 from GU2.out];clear m0 m1 m2 m3 m4 m5 m6 m7 m8 m9 m10 z0 z1 z2 z3 z4 z5 z6 z7 z8 z9 z10;have HR:=aA (show bG ts fn.data.toList s=((0,t1,t2),s2) by unfold bG;rw [if_neg hc.out];simp only [if_neg ht.out,if_pos hff.out];rw [HE1.out];simp only;rw [show ([44]:List UInt8)=(⟨#[44]⟩:ByteArray).data.toList from rfl,HE2.out]);obtain ⟨m0,m1,m2,m3,m4,m5,m6,m7,m8,m9,m10⟩:=aC K6.out.n;obtain ⟨z0,z1,z2,z3,z4,z5,z6,z7,z8,z9,z10⟩:=bE K6.out.o;obtain ⟨b0,b1,b2,b3,b4,b5,b6,b7,b8,b9,b10⟩:=aC K6.out.o;go_wp2_with fail
 have KP:=bH U2 (w.heap.size+1) ⟨fn,0,t1,t2,[]⟩ ⟨ad1,cc1,ad2,cc2,none,0⟩;obtain ⟨y0,y1,y2,y3,y4,y5,y6,y7,y8,y9,y10⟩:=aC (cB (t:=37) K6.out.o ⟨fn,0,t1,t2,[]⟩ ⟨ad1,cc1,ad2,cc2,none,0⟩);have P:=j3 K6.out HR.out;exact bodyPost_ret (v:=agV ⟨fn,0,t1,t2,[]⟩ ⟨ad1,cc1,ad2,cc2,none,0⟩) (by simp [results,Tryz.results35,go_sem,y0,y1,y2,y3,y4,y5,y6,y7,y8,y9,y10,b0,b1,b2,b3,b4,b5,b6,b7,b8,b9,b10]) rfl P
set_option linter.unusedSimpArgs false
theorem Dy {n:Nat} {s:RS} (h:j7 n s) (hlt:s.pos<n):j7 n (aO s):=⟨fun _=>hlt,by show s.pos+1<=_;omega,h.2.2⟩
theorem mM {ts:List Tk} {rb:Nat} {a:Option Addr} {c:Nat} {s:RS} {W:World} (h:PW ts rb a c s W) (hlt:s.pos<ts.length):PW ts rb a c (aO s) (W.setCell ⟨rb,1,none⟩ (.int .i64 ((s.pos:Int)+1))):=h.set (Dy h.f hlt) rfl
theorem Fi (ts:List Tk) (rb:Nat) (a:Option Addr) (c:Nat) (s:RS) (fn:ByteArray) (w:World) (h:PW ts rb a c s w) (hb:s.bad=0) (hf:¬ fn.data.toList=aQ) (hg:fn.data.toList=cQ) (hp:¬ s.pos<ts.length):Calls Tryz.prog 35 #[.pointer (some ⟨rb,0,none⟩),agV ⟨fn,0,aD,aD,[]⟩ aI] w (iZ ts rb a c fn (bG ts fn.data.toList s) w):=by
 have g0:(fn.toList == aQ)=false:=aM (beq_eq_false_iff_ne.2 hf);have g1:(fn.toList == cQ)=true:=bT (by rw [hg];decide);have g2:(fn.toList == aW)=false:=aM (by rw [hg];decide);have hff:¬ fn.data.toList=aW:=by rw [hg];decide
 have q:((s.bad:Int) == 0)=true:=by rw [hb];rfl
 have q2:((s.bad:Int) != 0)=false:=by rw [hb];rfl
 have hpos:=h.f.2.1;have hnn:=h.f.2.2.2;have HC:=aA hf;have HT:=aA hg;have HF:=aA hff;unfold aQ at g0;unfold cQ at g1;unfold aW at g2;have FA:=aA (fun V (hV:PW ts rb a c s V)=>cZ ts rb a c s 2 (by decide) V hV);have HTOP:=aA (show jY ts s=(0,aR 2 s) by unfold jY;rw [if_pos hb,List.getElem?_eq_none (by omega)]);have hs1:¬ (aR 2 s).bad=0:=by unfold aR;rw [if_pos hb];show ¬ (2:Int)=0;decide
 obtain ⟨s1,hs⟩:∃ s1,aR 2 s=s1:=⟨_,rfl⟩;rw [hs] at hs1 FA HTOP;have r1:((s1.bad:Int) == 0)=false:=beq_eq_false_iff_ne.2 hs1;have r2:((s1.bad:Int) != 0)=true:=by simpa using hs1
 clear hs hs1 hf hg hff;have a1:decide (ts.length<=s.pos)=true:=decide_eq_true (by omega);have a2:decide ((ts.length:Int)<=(s.pos:Int))=true:=decide_eq_true (by omega);have K0:=oZ h fn;generalize hW1:w.alloc (agO ⟨fn,0,aD,aD,[]⟩ aI)=W1 at K0;generalize hW:W1.alloc (agO aN aI)=W at K0;have HW1:=aA hW1;have HW:=aA hW;have K:=aA K0;clear hW1 hW K0 h;obtain ⟨m0,m1,m2,m3,m4,m5,m6,m7,m8,m9,m10⟩:=aC K.out.n;go_enter Tryz.func35,Tryz.ntmps35
 go_upto_region 1 with fail
 rw [HW1.out,show W1.alloc (.cells #[.string ⟨#[]⟩,.int .i64 0,.string ⟨#[]⟩,.string ⟨#[]⟩,.int .i64 0,.slice none 0 0,.string ⟨#[]⟩,.string ⟨#[]⟩,.int .i64 0,.slice none 0 0,.slice none 0 0] 37)=W from HW.out];obtain ⟨c0,c1,c2,c3,c4⟩:=K.out.r.r.cells.1;go_wp2_with (go_quiet (fail))
 refine (FA.out _ (K.out.drewN _).r).mono ?_;rintro e v0 ⟨rfl,hp0,hk0⟩;have K1:=aA ((K.out.drewN _).step hp0 hk0);clear hp0 hk0 FA m0 m1 m2 m3 m4 m5 m6 m7 m8 m9 m10 c0 c1 c2 c3 c4;obtain ⟨m0,m1,m2,m3,m4,m5,m6,m7,m8,m9,m10⟩:=aC K1.out.n;obtain ⟨c0,c1,c2,c3,c4⟩:=K1.out.r.r.cells.1;have WN:=aA (iB ts rb a c s1 ⟨#[44]⟩ v0 K1.out.r);go_wp2_with fail
 refine WN.out.mono ?_;rintro e v9 ⟨rfl,hp2,hk2⟩;have K2a:=aA (K1.out.step hp2 hk2);clear hp2 hk2 WN;clear m0 m1 m2 m3 m4 m5 m6 m7 m8 m9 m10;obtain ⟨m0, -⟩:=aC K2a.out.n;have EX:=aA (fA ts rb a c (aU ts (⟨#[44]⟩:ByteArray).data.toList s1) v9 K2a.out.r);obtain ⟨t1,s1,hts⟩:∃ t q,a8 ts (aU ts (⟨#[44]⟩:ByteArray).data.toList s1)=(t,q):=⟨_,_,rfl⟩;rw [hts] at EX;have HE1:=aA hts;clear hts;go_wp2_with fail
 refine EX.out.mono ?_;rintro e v1 ⟨ad1,cc1,rfl,hp1,hk1,hr1⟩;have K2:=aA (K2a.out.step hp1 hk1);have hr5:a7 (w.heap.size+2) v1 ad1 t1.ks:=hr1.mono K2a.out.z;clear hp1 hk1 hr1 EX;obtain ⟨m0,m1,m2,m3,m4,m5,m6,m7,m8,m9,m10⟩:=aC K2.out.n;obtain ⟨z0,z1,z2,z3,z4,z5,z6,z7,z8,z9,z10⟩:=bE K2.out.n;have KX:=fK v1 w.heap.size t1 ad1 cc1;obtain ⟨U1,hU1⟩:∃ U,putE v1 w.heap.size t1 ad1 cc1=U:=⟨_,rfl⟩
 have K3:=aA (show AW w ts rb a c ⟨fn,0,t1,aD,[]⟩ ⟨ad1,cc1,none,0,none,0⟩ _ U1 by
  rw [<- hU1];exact K2.out.box KX (gR K2.out.n t1 ad1 cc1) hr5 K2.out.g)
 have GU1:=aA hU1;clear KX hU1 hr5;go_upto_region 14 with fail
 rw [show ((((v1.setCell ⟨w.heap.size,2,none⟩ (.string t1.op)).setCell ⟨w.heap.size,3,none⟩ (.string t1.nm)).setCell ⟨w.heap.size,4,none⟩ (.int .i64 t1.n)).setCell ⟨w.heap.size,5,none⟩ (.slice ad1 t1.ks.len cc1))=U1 from GU1.out];clear m0 m1 m2 m3 m4 m5 m6 m7 m8 m9 m10 z0 z1 z2 z3 z4 z5 z6 z7 z8 z9 z10;obtain ⟨m0,m1,m2,m3,m4,m5,m6,m7,m8,m9,m10⟩:=aC K3.out.n;have HR:=aA (show bG ts fn.data.toList s=((0,t1,aD),s1) by unfold bG;rw [if_neg HC.out];simp only [if_pos HT.out,if_neg HF.out];rw [HTOP.out];simp only;rw [show ([44]:List UInt8)=(⟨#[44]⟩:ByteArray).data.toList from rfl,HE1.out]);obtain ⟨m0,m1,m2,m3,m4,m5,m6,m7,m8,m9,m10⟩:=aC K3.out.n;obtain ⟨z0,z1,z2,z3,z4,z5,z6,z7,z8,z9,z10⟩:=bE K3.out.o;obtain ⟨b0,b1,b2,b3,b4,b5,b6,b7,b8,b9,b10⟩:=aC K3.out.o;go_wp2_with fail
 have KP:=bH U1 (w.heap.size+1) ⟨fn,0,t1,aD,[]⟩ ⟨ad1,cc1,none,0,none,0⟩;obtain ⟨y0,y1,y2,y3,y4,y5,y6,y7,y8,y9,y10⟩:=aC (cB (t:=37) K3.out.o ⟨fn,0,t1,aD,[]⟩ ⟨ad1,cc1,none,0,none,0⟩);have P:=j3 K3.out HR.out;exact bodyPost_ret (v:=agV ⟨fn,0,t1,aD,[]⟩ ⟨ad1,cc1,none,0,none,0⟩) (by simp [results,Tryz.results35,go_sem,y0,y1,y2,y3,y4,y5,y6,y7,y8,y9,y10,b0,b1,b2,b3,b4,b5,b6,b7,b8,b9,b10]) rfl P
theorem Fh (ts:List Tk) (rb:Nat) (a:Option Addr) (c:Nat) (s:RS) (fn:ByteArray) (w:World) (h:PW ts rb a c s w) (hb:s.bad=0) (hf:¬ fn.data.toList=aQ) (hg:fn.data.toList=cQ) (hp:s.pos<ts.length) (hk:¬ ts[s.pos].kind=2):Calls Tryz.prog 35 #[.pointer (some ⟨rb,0,none⟩),agV ⟨fn,0,aD,aD,[]⟩ aI] w (iZ ts rb a c fn (bG ts fn.data.toList s) w):=by
 have g0:(fn.toList == aQ)=false:=aM (beq_eq_false_iff_ne.2 hf);have g1:(fn.toList == cQ)=true:=bT (by rw [hg];decide);have g2:(fn.toList == aW)=false:=aM (by rw [hg];decide);have hff:¬ fn.data.toList=aW:=by rw [hg];decide
 have q:((s.bad:Int) == 0)=true:=by rw [hb];rfl
 have q2:((s.bad:Int) != 0)=false:=by rw [hb];rfl
 have hpos:=h.f.2.1;have hnn:=h.f.2.2.2;have HC:=aA hf;have HT:=aA hg;have HF:=aA hff;unfold aQ at g0;unfold cQ at g1;unfold aW at g2;have FA:=aA (fun V (hV:PW ts rb a c s V)=>cZ ts rb a c s 2 (by decide) V hV);have HTOP:=aA (show jY ts s=(0,aR 2 s) by unfold jY;rw [if_pos hb,List.getElem?_eq_getElem hp];simp only;rw [if_neg hk]);have hs1:¬ (aR 2 s).bad=0:=by unfold aR;rw [if_pos hb];show ¬ (2:Int)=0;decide
 obtain ⟨s1,hs⟩:∃ s1,aR 2 s=s1:=⟨_,rfl⟩;rw [hs] at hs1 FA HTOP;have r1:((s1.bad:Int) == 0)=false:=beq_eq_false_iff_ne.2 hs1;have r2:((s1.bad:Int) != 0)=true:=by simpa using hs1
 clear hs hs1 hf hg hff;have a1:decide (ts.length<=s.pos)=false:=decide_eq_false (by omega);have a2:decide ((ts.length:Int)<=(s.pos:Int))=false:=decide_eq_false (by omega);have a4:(s.pos:Int)<(ts.length:Int):=by omega
 have a5:(0:Int)<=(s.pos:Int):=by omega
 have a6:((s.pos:Int)).toNat=s.pos:=by omega
 obtain ⟨kd,hkd⟩:∃ kd,ts[s.pos].kind=kd:=⟨_,rfl⟩;have n1:(kd == 2)=false:=by rw [<- hkd];simpa using hk
 have n2:(kd != 2)=true:=by rw [<- hkd];simpa using hk
 clear hk;have K0:=oZ h fn;generalize hW1:w.alloc (agO ⟨fn,0,aD,aD,[]⟩ aI)=W1 at K0;generalize hW:W1.alloc (agO aN aI)=W at K0;have HW1:=aA hW1;have HW:=aA hW;have K:=aA K0;clear hW1 hW K0 h;obtain ⟨m0,m1,m2,m3,m4,m5,m6,m7,m8,m9,m10⟩:=aC K.out.n;go_enter Tryz.func35,Tryz.ntmps35
 go_upto_region 1 with fail
 rw [HW1.out,show W1.alloc (.cells #[.string ⟨#[]⟩,.int .i64 0,.string ⟨#[]⟩,.string ⟨#[]⟩,.int .i64 0,.slice none 0 0,.string ⟨#[]⟩,.string ⟨#[]⟩,.int .i64 0,.slice none 0 0,.slice none 0 0] 37)=W from HW.out];obtain ⟨c0,c1,c2,c3,c4⟩:=K.out.r.r.cells.1;obtain ⟨b,off,ha, -,p0, -⟩:=aY K.out.r.t hp;rw [ha] at c0;rw [hkd] at p0;clear hkd ha;go_wp2_with (go_quiet (fail))
 refine (FA.out _ (K.out.drewN _).r).mono ?_;rintro e v0 ⟨rfl,hp0,hk0⟩;have K1:=aA ((K.out.drewN _).step hp0 hk0);clear hp0 hk0 FA m0 m1 m2 m3 m4 m5 m6 m7 m8 m9 m10 c0 c1 c2 c3 c4;obtain ⟨m0,m1,m2,m3,m4,m5,m6,m7,m8,m9,m10⟩:=aC K1.out.n;obtain ⟨c0,c1,c2,c3,c4⟩:=K1.out.r.r.cells.1;have WN:=aA (iB ts rb a c s1 ⟨#[44]⟩ v0 K1.out.r);go_wp2_with fail
 refine WN.out.mono ?_;rintro e v9 ⟨rfl,hp2,hk2⟩;have K2a:=aA (K1.out.step hp2 hk2);clear hp2 hk2 WN;clear m0 m1 m2 m3 m4 m5 m6 m7 m8 m9 m10;obtain ⟨m0, -⟩:=aC K2a.out.n;have EX:=aA (fA ts rb a c (aU ts (⟨#[44]⟩:ByteArray).data.toList s1) v9 K2a.out.r);obtain ⟨t1,s1,hts⟩:∃ t q,a8 ts (aU ts (⟨#[44]⟩:ByteArray).data.toList s1)=(t,q):=⟨_,_,rfl⟩;rw [hts] at EX;have HE1:=aA hts;clear hts;go_wp2_with fail
 refine EX.out.mono ?_;rintro e v1 ⟨ad1,cc1,rfl,hp1,hk1,hr1⟩;have K2:=aA (K2a.out.step hp1 hk1);have hr5:a7 (w.heap.size+2) v1 ad1 t1.ks:=hr1.mono K2a.out.z;clear hp1 hk1 hr1 EX;obtain ⟨m0,m1,m2,m3,m4,m5,m6,m7,m8,m9,m10⟩:=aC K2.out.n;obtain ⟨z0,z1,z2,z3,z4,z5,z6,z7,z8,z9,z10⟩:=bE K2.out.n;have KX:=fK v1 w.heap.size t1 ad1 cc1;obtain ⟨U1,hU1⟩:∃ U,putE v1 w.heap.size t1 ad1 cc1=U:=⟨_,rfl⟩
 have K3:=aA (show AW w ts rb a c ⟨fn,0,t1,aD,[]⟩ ⟨ad1,cc1,none,0,none,0⟩ _ U1 by
  rw [<- hU1];exact K2.out.box KX (gR K2.out.n t1 ad1 cc1) hr5 K2.out.g)
 have GU1:=aA hU1;clear KX hU1 hr5;go_upto_region 14 with fail
 rw [show ((((v1.setCell ⟨w.heap.size,2,none⟩ (.string t1.op)).setCell ⟨w.heap.size,3,none⟩ (.string t1.nm)).setCell ⟨w.heap.size,4,none⟩ (.int .i64 t1.n)).setCell ⟨w.heap.size,5,none⟩ (.slice ad1 t1.ks.len cc1))=U1 from GU1.out];clear m0 m1 m2 m3 m4 m5 m6 m7 m8 m9 m10 z0 z1 z2 z3 z4 z5 z6 z7 z8 z9 z10;obtain ⟨m0,m1,m2,m3,m4,m5,m6,m7,m8,m9,m10⟩:=aC K3.out.n;have HR:=aA (show bG ts fn.data.toList s=((0,t1,aD),s1) by unfold bG;rw [if_neg HC.out];simp only [if_pos HT.out,if_neg HF.out];rw [HTOP.out];simp only;rw [show ([44]:List UInt8)=(⟨#[44]⟩:ByteArray).data.toList from rfl,HE1.out]);obtain ⟨m0,m1,m2,m3,m4,m5,m6,m7,m8,m9,m10⟩:=aC K3.out.n;obtain ⟨z0,z1,z2,z3,z4,z5,z6,z7,z8,z9,z10⟩:=bE K3.out.o;obtain ⟨b0,b1,b2,b3,b4,b5,b6,b7,b8,b9,b10⟩:=aC K3.out.o;go_wp2_with fail
 have KP:=bH U1 (w.heap.size+1) ⟨fn,0,t1,aD,[]⟩ ⟨ad1,cc1,none,0,none,0⟩;obtain ⟨y0,y1,y2,y3,y4,y5,y6,y7,y8,y9,y10⟩:=aC (cB (t:=37) K3.out.o ⟨fn,0,t1,aD,[]⟩ ⟨ad1,cc1,none,0,none,0⟩);have P:=j3 K3.out HR.out;exact bodyPost_ret (v:=agV ⟨fn,0,t1,aD,[]⟩ ⟨ad1,cc1,none,0,none,0⟩) (by simp [results,Tryz.results35,go_sem,y0,y1,y2,y3,y4,y5,y6,y7,y8,y9,y10,b0,b1,b2,b3,b4,b5,b6,b7,b8,b9,b10]) rfl P
theorem Fg (ts:List Tk) (rb:Nat) (a:Option Addr) (c:Nat) (s:RS) (fn:ByteArray) (w:World) (h:PW ts rb a c s w) (hb:s.bad=0) (hf:¬ fn.data.toList=aQ) (hg:fn.data.toList=cQ) (hp:s.pos<ts.length) (hk:ts[s.pos].kind=2) (hr:ts[s.pos].num<1\/16<ts[s.pos].num):Calls Tryz.prog 35 #[.pointer (some ⟨rb,0,none⟩),agV ⟨fn,0,aD,aD,[]⟩ aI] w (iZ ts rb a c fn (bG ts fn.data.toList s) w):=by
 have g0:(fn.toList == aQ)=false:=aM (beq_eq_false_iff_ne.2 hf);have g1:(fn.toList == cQ)=true:=bT (by rw [hg];decide);have g2:(fn.toList == aW)=false:=aM (by rw [hg];decide);have hff:¬ fn.data.toList=aW:=by rw [hg];decide
 have q:((s.bad:Int) == 0)=true:=by rw [hb];rfl
 have q2:((s.bad:Int) != 0)=false:=by rw [hb];rfl
 have hpos:=h.f.2.1;have hnn:=h.f.2.2.2;have HC:=aA hf;have HT:=aA hg;have HF:=aA hff;unfold aQ at g0;unfold cQ at g1;unfold aW at g2;obtain ⟨kv,hkv⟩:∃ kv,ts[s.pos].num=kv:=⟨_,rfl⟩;have HKV:=aA hkv;have HTOP:=aA (show jY ts s=(kv,aO (aR 1 s)) by unfold jY;rw [if_pos hb,List.getElem?_eq_getElem hp];simp only;rw [if_pos hk,if_pos hr];rw [hkv]);have hr':=hr;rw [hkv] at hr';clear hr hkv;have hr:=hr';clear hr';have FA:=aA (fun V (hV:PW ts rb a c s V)=>cZ ts rb a c s 1 (by decide) V hV);have HS0:=aA (show aR 1 s=⟨s.pos,s.cnt,1,s.pos⟩ by unfold aR;rw [if_pos hb]);have a1:decide (ts.length<=s.pos)=false:=decide_eq_false (by omega);have a2:decide ((ts.length:Int)<=(s.pos:Int))=false:=decide_eq_false (by omega);have a4:(s.pos:Int)<(ts.length:Int):=by omega
 have a5:(0:Int)<=(s.pos:Int):=by omega
 have a6:((s.pos:Int)).toNat=s.pos:=by omega
 have HP:=aA hp;clear hf hg hff;have K0:=oZ h fn;generalize hW1:w.alloc (agO ⟨fn,0,aD,aD,[]⟩ aI)=W1 at K0;generalize hW:W1.alloc (agO aN aI)=W at K0;have HW1:=aA hW1;have HW:=aA hW;have K:=aA K0;clear hW1 hW K0 h;obtain ⟨m0,m1,m2,m3,m4,m5,m6,m7,m8,m9,m10⟩:=aC K.out.n;go_enter Tryz.func35,Tryz.ntmps35
 go_upto_region 1 with fail
 rw [HW1.out,show W1.alloc (.cells #[.string ⟨#[]⟩,.int .i64 0,.string ⟨#[]⟩,.string ⟨#[]⟩,.int .i64 0,.slice none 0 0,.string ⟨#[]⟩,.string ⟨#[]⟩,.int .i64 0,.slice none 0 0,.slice none 0 0] 37)=W from HW.out];obtain ⟨c0,c1,c2,c3,c4⟩:=K.out.r.r.cells.1;obtain ⟨b,off,ha, -,p0, -,p2, -⟩:=aY K.out.r.t hp;rw [ha] at c0;have HA:=aA ha;clear ha;rw [hk] at p0;have p2n:=p2.trans (congrArg (fun z=>some (Value.int .i64 z)) HKV.out);clear p2;have p2:=p2n;clear p2n;obtain ⟨z0,z1,z2,z3,z4,z5,z6,z7,z8,z9,z10⟩:=bE K.out.n;go_upto_region 9 with (first | go_quiet (fail) | go_region)
 obtain ⟨U,hU⟩:∃ U,(W.drewN (nq+1)).setCell ⟨w.heap.size,1,none⟩ (.int .i64 kv)=U:=⟨_,rfl⟩
 have K1:=aA (show AW w ts rb a c ⟨fn,kv,aD,aD,[]⟩ aI s U by
  rw [<- hU];exact (K.out.drewN (nq+1)).box ((aE.refl (· = w.heap.size) _).setCell (p:=⟨w.heap.size,1,none⟩) (.inl rfl) _) (vX (K.out.drewN (nq+1)).n kv) (K.out.drewN (nq+1)).e (K.out.drewN (nq+1)).g)
 rw [hU];clear hU p0 p2 c0 c1 c2 c3 c4 m0 m1 m2 m3 m4 m5 m6 m7 m8 m9 m10 z0 z1 z2 z3 z4 z5 z6 z7 z8 z9 z10;obtain ⟨m0,m1,m2,m3,m4,m5,m6,m7,m8,m9,m10⟩:=aC K1.out.n;rcases hr with hr | hr
 · have FA1:=aA (FA.out U K1.out.r)
   go_wp2_with fail
   refine FA1.out.mono ?_;rintro e v0 ⟨rfl,hp0,hk0⟩;have K2:=aA (K1.out.step hp0 hk0);rw [HS0.out] at K2;clear hp0 hk0 FA1 m0 m1 m2 m3 m4 m5 m6 m7 m8 m9 m10;obtain ⟨m0,m1,m2,m3,m4,m5,m6,m7,m8,m9,m10⟩:=aC K2.out.n;obtain ⟨c0,c1,c2,c3,c4⟩:=K2.out.r.r.cells.1;obtain ⟨-,f1,f2,f3,f4⟩:=K2.out.r.r.cells;have KS:=(aE.refl (· = rb) v0).setCell (p:=⟨rb,1,none⟩) (.inl rfl) (.int .i64 (((⟨s.pos,s.cnt,1,s.pos⟩:RS).pos:Int)+1));obtain ⟨X,hX⟩:∃ X,v0.setCell ⟨rb,1,none⟩ (.int .i64 (((⟨s.pos,s.cnt,1,s.pos⟩:RS).pos:Int)+1))=X:=⟨_,rfl⟩
   have K3:=aA (show AW w ts rb a c ⟨fn,kv,aD,aD,[]⟩ aI (aO ((⟨s.pos,s.cnt,1,s.pos⟩:RS))) X by
    rw [<- hX];exact K2.out.step (mM K2.out.r (by show s.pos<_;exact HP.out)) KS)
   clear KS;go_upto_region 12 with fail
   clear hX c0 c1 c2 c3 c4 f1 f2 f3 f4 m0 m1 m2 m3 m4 m5 m6 m7 m8 m9 m10;have WN:=aA (iB ts rb a c (aO ((⟨s.pos,s.cnt,1,s.pos⟩:RS))) ⟨#[44]⟩ X K3.out.r);go_wp2_with fail
   refine WN.out.mono ?_;rintro e v9 ⟨rfl,hp2,hk2⟩;have K4:=aA (K3.out.step hp2 hk2);clear hp2 hk2 WN;obtain ⟨m0, -⟩:=aC K4.out.n;have EX:=aA (fA ts rb a c (aU ts (⟨#[44]⟩:ByteArray).data.toList (aO (⟨s.pos,s.cnt,1,s.pos⟩:RS))) v9 K4.out.r);obtain ⟨t1,s1,hts⟩:∃ t q,a8 ts (aU ts (⟨#[44]⟩:ByteArray).data.toList (aO (⟨s.pos,s.cnt,1,s.pos⟩:RS)))=(t,q):=⟨_,_,rfl⟩;rw [hts] at EX;have HE1:=aA hts;clear hts;go_wp2_with fail
   refine EX.out.mono ?_;rintro e v1 ⟨ad1,cc1,rfl,hp1,hk1,hr1⟩;have K2:=aA (K4.out.step hp1 hk1);have hr5:a7 (w.heap.size+2) v1 ad1 t1.ks:=hr1.mono K4.out.z;clear hp1 hk1 hr1 EX;obtain ⟨m0,m1,m2,m3,m4,m5,m6,m7,m8,m9,m10⟩:=aC K2.out.n;obtain ⟨z0,z1,z2,z3,z4,z5,z6,z7,z8,z9,z10⟩:=bE K2.out.n;have KX:=fK v1 w.heap.size t1 ad1 cc1;obtain ⟨U1,hU1⟩:∃ U,putE v1 w.heap.size t1 ad1 cc1=U:=⟨_,rfl⟩
   have K3:=aA (show AW w ts rb a c ⟨fn,kv,t1,aD,[]⟩ ⟨ad1,cc1,none,0,none,0⟩ _ U1 by
    rw [<- hU1];exact K2.out.box KX (gR K2.out.n t1 ad1 cc1) hr5 K2.out.g)
   have GU1:=aA hU1;clear KX hU1 hr5;go_upto_region 14 with fail
   rw [show ((((v1.setCell ⟨w.heap.size,2,none⟩ (.string t1.op)).setCell ⟨w.heap.size,3,none⟩ (.string t1.nm)).setCell ⟨w.heap.size,4,none⟩ (.int .i64 t1.n)).setCell ⟨w.heap.size,5,none⟩ (.slice ad1 t1.ks.len cc1))=U1 from GU1.out];clear m0 m1 m2 m3 m4 m5 m6 m7 m8 m9 m10 z0 z1 z2 z3 z4 z5 z6 z7 z8 z9 z10;obtain ⟨m0,m1,m2,m3,m4,m5,m6,m7,m8,m9,m10⟩:=aC K3.out.n;have HR:=aA (show bG ts fn.data.toList s=((kv,t1,aD),s1) by unfold bG;rw [if_neg HC.out];simp only [if_pos HT.out,if_neg HF.out];rw [HTOP.out];simp only;rw [HS0.out];rw [show ([44]:List UInt8)=(⟨#[44]⟩:ByteArray).data.toList from rfl,HE1.out]);obtain ⟨m0,m1,m2,m3,m4,m5,m6,m7,m8,m9,m10⟩:=aC K3.out.n;obtain ⟨z0,z1,z2,z3,z4,z5,z6,z7,z8,z9,z10⟩:=bE K3.out.o;obtain ⟨b0,b1,b2,b3,b4,b5,b6,b7,b8,b9,b10⟩:=aC K3.out.o;go_wp2_with fail
   have KP:=bH U1 (w.heap.size+1) ⟨fn,kv,t1,aD,[]⟩ ⟨ad1,cc1,none,0,none,0⟩;obtain ⟨y0,y1,y2,y3,y4,y5,y6,y7,y8,y9,y10⟩:=aC (cB (t:=37) K3.out.o ⟨fn,kv,t1,aD,[]⟩ ⟨ad1,cc1,none,0,none,0⟩);have P:=j3 K3.out HR.out;exact bodyPost_ret (v:=agV ⟨fn,kv,t1,aD,[]⟩ ⟨ad1,cc1,none,0,none,0⟩) (by simp [results,Tryz.results35,go_sem,y0,y1,y2,y3,y4,y5,y6,y7,y8,y9,y10,b0,b1,b2,b3,b4,b5,b6,b7,b8,b9,b10]) rfl P
 · have hr2:¬ kv<1:=by omega
   have FA1:=aA (FA.out U K1.out.r);go_wp2_with fail
   refine FA1.out.mono ?_;rintro e v0 ⟨rfl,hp0,hk0⟩;have K2:=aA (K1.out.step hp0 hk0);rw [HS0.out] at K2;clear hp0 hk0 FA1 m0 m1 m2 m3 m4 m5 m6 m7 m8 m9 m10;obtain ⟨m0,m1,m2,m3,m4,m5,m6,m7,m8,m9,m10⟩:=aC K2.out.n;obtain ⟨c0,c1,c2,c3,c4⟩:=K2.out.r.r.cells.1;obtain ⟨-,f1,f2,f3,f4⟩:=K2.out.r.r.cells;have KS:=(aE.refl (· = rb) v0).setCell (p:=⟨rb,1,none⟩) (.inl rfl) (.int .i64 (((⟨s.pos,s.cnt,1,s.pos⟩:RS).pos:Int)+1));obtain ⟨X,hX⟩:∃ X,v0.setCell ⟨rb,1,none⟩ (.int .i64 (((⟨s.pos,s.cnt,1,s.pos⟩:RS).pos:Int)+1))=X:=⟨_,rfl⟩
   have K3:=aA (show AW w ts rb a c ⟨fn,kv,aD,aD,[]⟩ aI (aO ((⟨s.pos,s.cnt,1,s.pos⟩:RS))) X by
    rw [<- hX];exact K2.out.step (mM K2.out.r (by show s.pos<_;exact HP.out)) KS)
   clear KS;go_upto_region 12 with fail
   clear hX c0 c1 c2 c3 c4 f1 f2 f3 f4 m0 m1 m2 m3 m4 m5 m6 m7 m8 m9 m10;have WN:=aA (iB ts rb a c (aO ((⟨s.pos,s.cnt,1,s.pos⟩:RS))) ⟨#[44]⟩ X K3.out.r);go_wp2_with fail
   refine WN.out.mono ?_;rintro e v9 ⟨rfl,hp2,hk2⟩;have K4:=aA (K3.out.step hp2 hk2);clear hp2 hk2 WN;obtain ⟨m0, -⟩:=aC K4.out.n;have EX:=aA (fA ts rb a c (aU ts (⟨#[44]⟩:ByteArray).data.toList (aO (⟨s.pos,s.cnt,1,s.pos⟩:RS))) v9 K4.out.r);obtain ⟨t1,s1,hts⟩:∃ t q,a8 ts (aU ts (⟨#[44]⟩:ByteArray).data.toList (aO (⟨s.pos,s.cnt,1,s.pos⟩:RS)))=(t,q):=⟨_,_,rfl⟩;rw [hts] at EX;have HE1:=aA hts;clear hts;go_wp2_with fail
   refine EX.out.mono ?_;rintro e v1 ⟨ad1,cc1,rfl,hp1,hk1,hr1⟩;have K2:=aA (K4.out.step hp1 hk1);have hr5:a7 (w.heap.size+2) v1 ad1 t1.ks:=hr1.mono K4.out.z;clear hp1 hk1 hr1 EX;obtain ⟨m0,m1,m2,m3,m4,m5,m6,m7,m8,m9,m10⟩:=aC K2.out.n;obtain ⟨z0,z1,z2,z3,z4,z5,z6,z7,z8,z9,z10⟩:=bE K2.out.n;have KX:=fK v1 w.heap.size t1 ad1 cc1;obtain ⟨U1,hU1⟩:∃ U,putE v1 w.heap.size t1 ad1 cc1=U:=⟨_,rfl⟩
   have K3:=aA (show AW w ts rb a c ⟨fn,kv,t1,aD,[]⟩ ⟨ad1,cc1,none,0,none,0⟩ _ U1 by
    rw [<- hU1];exact K2.out.box KX (gR K2.out.n t1 ad1 cc1) hr5 K2.out.g)
   have GU1:=aA hU1;clear KX hU1 hr5;go_upto_region 14 with fail
   rw [show ((((v1.setCell ⟨w.heap.size,2,none⟩ (.string t1.op)).setCell ⟨w.heap.size,3,none⟩ (.string t1.nm)).setCell ⟨w.heap.size,4,none⟩ (.int .i64 t1.n)).setCell ⟨w.heap.size,5,none⟩ (.slice ad1 t1.ks.len cc1))=U1 from GU1.out];clear m0 m1 m2 m3 m4 m5 m6 m7 m8 m9 m10 z0 z1 z2 z3 z4 z5 z6 z7 z8 z9 z10;obtain ⟨m0,m1,m2,m3,m4,m5,m6,m7,m8,m9,m10⟩:=aC K3.out.n;have HR:=aA (show bG ts fn.data.toList s=((kv,t1,aD),s1) by unfold bG;rw [if_neg HC.out];simp only [if_pos HT.out,if_neg HF.out];rw [HTOP.out];simp only;rw [HS0.out];rw [show ([44]:List UInt8)=(⟨#[44]⟩:ByteArray).data.toList from rfl,HE1.out]);obtain ⟨m0,m1,m2,m3,m4,m5,m6,m7,m8,m9,m10⟩:=aC K3.out.n;obtain ⟨z0,z1,z2,z3,z4,z5,z6,z7,z8,z9,z10⟩:=bE K3.out.o;obtain ⟨b0,b1,b2,b3,b4,b5,b6,b7,b8,b9,b10⟩:=aC K3.out.o;go_wp2_with fail
   have KP:=bH U1 (w.heap.size+1) ⟨fn,kv,t1,aD,[]⟩ ⟨ad1,cc1,none,0,none,0⟩;obtain ⟨y0,y1,y2,y3,y4,y5,y6,y7,y8,y9,y10⟩:=aC (cB (t:=37) K3.out.o ⟨fn,kv,t1,aD,[]⟩ ⟨ad1,cc1,none,0,none,0⟩);have P:=j3 K3.out HR.out;exact bodyPost_ret (v:=agV ⟨fn,kv,t1,aD,[]⟩ ⟨ad1,cc1,none,0,none,0⟩) (by simp [results,Tryz.results35,go_sem,y0,y1,y2,y3,y4,y5,y6,y7,y8,y9,y10,b0,b1,b2,b3,b4,b5,b6,b7,b8,b9,b10]) rfl P
theorem Ff (ts:List Tk) (rb:Nat) (a:Option Addr) (c:Nat) (s:RS) (fn:ByteArray) (w:World) (h:PW ts rb a c s w) (hb:s.bad=0) (hf:¬ fn.data.toList=aQ) (hg:fn.data.toList=cQ) (hp:s.pos<ts.length) (hk:ts[s.pos].kind=2) (hr:¬ (ts[s.pos].num<1\/16<ts[s.pos].num)):Calls Tryz.prog 35 #[.pointer (some ⟨rb,0,none⟩),agV ⟨fn,0,aD,aD,[]⟩ aI] w (iZ ts rb a c fn (bG ts fn.data.toList s) w):=by
 have g0:(fn.toList == aQ)=false:=aM (beq_eq_false_iff_ne.2 hf);have g1:(fn.toList == cQ)=true:=bT (by rw [hg];decide);have g2:(fn.toList == aW)=false:=aM (by rw [hg];decide);have hff:¬ fn.data.toList=aW:=by rw [hg];decide
 have q:((s.bad:Int) == 0)=true:=by rw [hb];rfl
 have q2:((s.bad:Int) != 0)=false:=by rw [hb];rfl
 have hpos:=h.f.2.1;have hnn:=h.f.2.2.2;have HC:=aA hf;have HT:=aA hg;have HF:=aA hff;unfold aQ at g0;unfold cQ at g1;unfold aW at g2;obtain ⟨kv,hkv⟩:∃ kv,ts[s.pos].num=kv:=⟨_,rfl⟩;have HKV:=aA hkv;have HTOP:=aA (show jY ts s=(kv,aO s) by unfold jY;rw [if_pos hb,List.getElem?_eq_getElem hp];simp only;rw [if_pos hk,if_neg hr];rw [hkv]);have hr':=hr;rw [hkv] at hr';clear hr hkv;have hr:=hr';clear hr';have FA:=aA (fun V (hV:PW ts rb a c s V)=>cZ ts rb a c s 1 (by decide) V hV);have HS0:=aA (show aR 1 s=⟨s.pos,s.cnt,1,s.pos⟩ by unfold aR;rw [if_pos hb]);have a1:decide (ts.length<=s.pos)=false:=decide_eq_false (by omega);have a2:decide ((ts.length:Int)<=(s.pos:Int))=false:=decide_eq_false (by omega);have a4:(s.pos:Int)<(ts.length:Int):=by omega
 have a5:(0:Int)<=(s.pos:Int):=by omega
 have a6:((s.pos:Int)).toNat=s.pos:=by omega
 have HP:=aA hp;clear hf hg hff;have K0:=oZ h fn;generalize hW1:w.alloc (agO ⟨fn,0,aD,aD,[]⟩ aI)=W1 at K0;generalize hW:W1.alloc (agO aN aI)=W at K0;have HW1:=aA hW1;have HW:=aA hW;have K:=aA K0;clear hW1 hW K0 h;obtain ⟨m0,m1,m2,m3,m4,m5,m6,m7,m8,m9,m10⟩:=aC K.out.n;go_enter Tryz.func35,Tryz.ntmps35
 go_upto_region 1 with fail
 rw [HW1.out,show W1.alloc (.cells #[.string ⟨#[]⟩,.int .i64 0,.string ⟨#[]⟩,.string ⟨#[]⟩,.int .i64 0,.slice none 0 0,.string ⟨#[]⟩,.string ⟨#[]⟩,.int .i64 0,.slice none 0 0,.slice none 0 0] 37)=W from HW.out];obtain ⟨c0,c1,c2,c3,c4⟩:=K.out.r.r.cells.1;obtain ⟨b,off,ha, -,p0, -,p2, -⟩:=aY K.out.r.t hp;rw [ha] at c0;have HA:=aA ha;clear ha;rw [hk] at p0;have p2n:=p2.trans (congrArg (fun z=>some (Value.int .i64 z)) HKV.out);clear p2;have p2:=p2n;clear p2n;obtain ⟨z0,z1,z2,z3,z4,z5,z6,z7,z8,z9,z10⟩:=bE K.out.n;go_upto_region 9 with (first | go_quiet (fail) | go_region)
 obtain ⟨U,hU⟩:∃ U,(W.drewN (nq+1)).setCell ⟨w.heap.size,1,none⟩ (.int .i64 kv)=U:=⟨_,rfl⟩
 have K1:=aA (show AW w ts rb a c ⟨fn,kv,aD,aD,[]⟩ aI s U by
  rw [<- hU];exact (K.out.drewN (nq+1)).box ((aE.refl (· = w.heap.size) _).setCell (p:=⟨w.heap.size,1,none⟩) (.inl rfl) _) (vX (K.out.drewN (nq+1)).n kv) (K.out.drewN (nq+1)).e (K.out.drewN (nq+1)).g)
 rw [hU];clear hU p0 p2 c0 c1 c2 c3 c4 m0 m1 m2 m3 m4 m5 m6 m7 m8 m9 m10 z0 z1 z2 z3 z4 z5 z6 z7 z8 z9 z10;obtain ⟨m0,m1,m2,m3,m4,m5,m6,m7,m8,m9,m10⟩:=aC K1.out.n;have hr1:¬ kv<1:=fun h=>hr (.inl h)
 have hr2:¬ 16<kv:=fun h=>hr (.inr h)
 clear hr;obtain ⟨c0,c1,c2,c3,c4⟩:=K1.out.r.r.cells.1;obtain ⟨-,f1,f2,f3,f4⟩:=K1.out.r.r.cells;have KS:=(aE.refl (· = rb) U).setCell (p:=⟨rb,1,none⟩) (.inl rfl) (.int .i64 ((s.pos:Int)+1));obtain ⟨X,hX⟩:∃ X,U.setCell ⟨rb,1,none⟩ (.int .i64 ((s.pos:Int)+1))=X:=⟨_,rfl⟩
 have K3:=aA (show AW w ts rb a c ⟨fn,kv,aD,aD,[]⟩ aI (aO (s)) X by
  rw [<- hX];exact K1.out.step (mM K1.out.r (by exact HP.out)) KS)
 clear KS;go_upto_region 12 with fail
 clear hX c0 c1 c2 c3 c4 f1 f2 f3 f4 m0 m1 m2 m3 m4 m5 m6 m7 m8 m9 m10;have WN:=aA (iB ts rb a c (aO (s)) ⟨#[44]⟩ X K3.out.r);go_wp2_with fail
 refine WN.out.mono ?_;rintro e v9 ⟨rfl,hp2,hk2⟩;have K4:=aA (K3.out.step hp2 hk2);clear hp2 hk2 WN;obtain ⟨m0, -⟩:=aC K4.out.n;have EX:=aA (fA ts rb a c (aU ts (⟨#[44]⟩:ByteArray).data.toList (aO (s))) v9 K4.out.r);obtain ⟨t1,s1,hts⟩:∃ t q,a8 ts (aU ts (⟨#[44]⟩:ByteArray).data.toList (aO (s)))=(t,q):=⟨_,_,rfl⟩;rw [hts] at EX;have HE1:=aA hts;clear hts;go_wp2_with fail
 refine EX.out.mono ?_;rintro e v1 ⟨ad1,cc1,rfl,hp1,hk1,hr1⟩;have K2:=aA (K4.out.step hp1 hk1);have hr5:a7 (w.heap.size+2) v1 ad1 t1.ks:=hr1.mono K4.out.z;clear hp1 hk1 hr1 EX;obtain ⟨m0,m1,m2,m3,m4,m5,m6,m7,m8,m9,m10⟩:=aC K2.out.n;obtain ⟨z0,z1,z2,z3,z4,z5,z6,z7,z8,z9,z10⟩:=bE K2.out.n;have KX:=fK v1 w.heap.size t1 ad1 cc1;obtain ⟨U1,hU1⟩:∃ U,putE v1 w.heap.size t1 ad1 cc1=U:=⟨_,rfl⟩
 have K3:=aA (show AW w ts rb a c ⟨fn,kv,t1,aD,[]⟩ ⟨ad1,cc1,none,0,none,0⟩ _ U1 by
  rw [<- hU1];exact K2.out.box KX (gR K2.out.n t1 ad1 cc1) hr5 K2.out.g)
 have GU1:=aA hU1;clear KX hU1 hr5;go_upto_region 14 with fail
 rw [show ((((v1.setCell ⟨w.heap.size,2,none⟩ (.string t1.op)).setCell ⟨w.heap.size,3,none⟩ (.string t1.nm)).setCell ⟨w.heap.size,4,none⟩ (.int .i64 t1.n)).setCell ⟨w.heap.size,5,none⟩ (.slice ad1 t1.ks.len cc1))=U1 from GU1.out];clear m0 m1 m2 m3 m4 m5 m6 m7 m8 m9 m10 z0 z1 z2 z3 z4 z5 z6 z7 z8 z9 z10;obtain ⟨m0,m1,m2,m3,m4,m5,m6,m7,m8,m9,m10⟩:=aC K3.out.n;have HR:=aA (show bG ts fn.data.toList s=((kv,t1,aD),s1) by unfold bG;rw [if_neg HC.out];simp only [if_pos HT.out,if_neg HF.out];rw [HTOP.out];simp only;rw [show ([44]:List UInt8)=(⟨#[44]⟩:ByteArray).data.toList from rfl,HE1.out]);obtain ⟨m0,m1,m2,m3,m4,m5,m6,m7,m8,m9,m10⟩:=aC K3.out.n;obtain ⟨z0,z1,z2,z3,z4,z5,z6,z7,z8,z9,z10⟩:=bE K3.out.o;obtain ⟨b0,b1,b2,b3,b4,b5,b6,b7,b8,b9,b10⟩:=aC K3.out.o;go_wp2_with fail
 have KP:=bH U1 (w.heap.size+1) ⟨fn,kv,t1,aD,[]⟩ ⟨ad1,cc1,none,0,none,0⟩;obtain ⟨y0,y1,y2,y3,y4,y5,y6,y7,y8,y9,y10⟩:=aC (cB (t:=37) K3.out.o ⟨fn,kv,t1,aD,[]⟩ ⟨ad1,cc1,none,0,none,0⟩);have P:=j3 K3.out HR.out;exact bodyPost_ret (v:=agV ⟨fn,kv,t1,aD,[]⟩ ⟨ad1,cc1,none,0,none,0⟩) (by simp [results,Tryz.results35,go_sem,y0,y1,y2,y3,y4,y5,y6,y7,y8,y9,y10,b0,b1,b2,b3,b4,b5,b6,b7,b8,b9,b10]) rfl P
theorem Hj (ts:List Tk) (rb:Nat) (a:Option Addr) (c:Nat) (s:RS) (fn:ByteArray) (w:World) (h:PW ts rb a c s w) (hb:s.bad=0):Calls Tryz.prog 35 #[.pointer (some ⟨rb,0,none⟩),agV ⟨fn,0,aD,aD,[]⟩ aI] w (iZ ts rb a c fn (bG ts fn.data.toList s) w):=by
 by_cases h1:fn.data.toList=aQ
 · exact Cp ts rb a c s fn w h hb h1
 by_cases h2:fn.data.toList=cQ
 · by_cases hp:s.pos<ts.length
   · by_cases hk:ts[s.pos].kind=2
     · by_cases hr:ts[s.pos].num<1\/16<ts[s.pos].num
       · exact Fg ts rb a c s fn w h hb h1 h2 hp hk hr
       · exact Ff ts rb a c s fn w h hb h1 h2 hp hk hr
     · exact Fh ts rb a c s fn w h hb h1 h2 hp hk
   · exact Fi ts rb a c s fn w h hb h1 h2 hp
 by_cases h3:fn.data.toList=aW
 · exact Co ts rb a c s fn w h hb h1 h2 h3
 · exact Cn ts rb a c s fn w h hb h1 h2 h3
set_option linter.unusedSimpArgs false
def yH:CD:=⟨⟨#[]⟩,aD,aD⟩
abbrev cdC (x:CD) (a1:Option Addr) (c1:Nat) (a2:Option Addr) (c2:Nat):Array Value:=#[.string x.op,.string x.a.op,.string x.a.nm,.int .i64 x.a.n,.slice a1 x.a.ks.len c1,.string x.b.op,.string x.b.nm,.int .i64 x.b.n,.slice a2 x.b.ks.len c2]
abbrev cdV (x:CD) (a1:Option Addr) (c1:Nat) (a2:Option Addr) (c2:Nat):Value:=.agg (cdC x a1 c1 a2 c2)
abbrev cdO (x:CD) (a1:Option Addr) (c1:Nat) (a2:Option Addr) (c2:Nat):Obj:=.cells (cdC x a1 c1 a2 c2) 90
abbrev FY (W:World) (B:Nat) (x:CD) (a1:Option Addr) (c1:Nat) (a2:Option Addr) (c2:Nat):World:=((((((((W.setCell ⟨B,0,none⟩ (.string x.op)).setCell ⟨B,1,none⟩ (.string x.a.op)).setCell ⟨B,2,none⟩ (.string x.a.nm)).setCell ⟨B,3,none⟩ (.int .i64 x.a.n)).setCell ⟨B,4,none⟩ (.slice a1 x.a.ks.len c1)).setCell ⟨B,5,none⟩ (.string x.b.op)).setCell ⟨B,6,none⟩ (.string x.b.nm)).setCell ⟨B,7,none⟩ (.int .i64 x.b.n)).setCell ⟨B,8,none⟩ (.slice a2 x.b.ks.len c2)
theorem Bv (W:World) (B:Nat) (x:CD) (a1:Option Addr) (c1:Nat) (a2:Option Addr) (c2:Nat):aE (· = B) W (FY W B x a1 c1 a2 c2) :=
 ((((((((((aE.refl (· = B) W).setCell (p:=⟨B,0,none⟩) (.inl rfl) _).setCell (p:=⟨B,1,none⟩) (.inl rfl) _).setCell (p:=⟨B,2,none⟩) (.inl rfl) _).setCell (p:=⟨B,3,none⟩) (.inl rfl) _).setCell (p:=⟨B,4,none⟩) (.inl rfl) _).setCell (p:=⟨B,5,none⟩) (.inl rfl) _).setCell (p:=⟨B,6,none⟩) (.inl rfl) _).setCell (p:=⟨B,7,none⟩) (.inl rfl) _).setCell (p:=⟨B,8,none⟩) (.inl rfl) _)
theorem lY {W:World} {B:Nat} {u0 u1 u2 u3 u4 u5 u6 u7 u8:Value} {t:TypeId} (h:W.heap[B]? = some (.cells #[u0,u1,u2,u3,u4,u5,u6,u7,u8] t (0,0))) (x:CD) (a1:Option Addr) (c1:Nat) (a2:Option Addr) (c2:Nat):(FY W B x a1 c1 a2 c2).heap[B]? = some (.cells (cdC x a1 c1 a2 c2) t (0,0)):=by
 have h0:=heap_setCell_same (W) B 0 _ t (.string x.op) h;have g0:((W).setCell ⟨B,0,none⟩ (.string x.op)).heap[B]? = some (.cells #[.string x.op,u1,u2,u3,u4,u5,u6,u7,u8] t (0,0)):=by simpa using h0
 have h1:=heap_setCell_same ((W).setCell ⟨B,0,none⟩ (.string x.op)) B 1 _ t (.string x.a.op) g0;have g1:(((W).setCell ⟨B,0,none⟩ (.string x.op)).setCell ⟨B,1,none⟩ (.string x.a.op)).heap[B]? = some (.cells #[.string x.op,.string x.a.op,u2,u3,u4,u5,u6,u7,u8] t (0,0)):=by simpa using h1
 have h2:=heap_setCell_same (((W).setCell ⟨B,0,none⟩ (.string x.op)).setCell ⟨B,1,none⟩ (.string x.a.op)) B 2 _ t (.string x.a.nm) g1;have g2:((((W).setCell ⟨B,0,none⟩ (.string x.op)).setCell ⟨B,1,none⟩ (.string x.a.op)).setCell ⟨B,2,none⟩ (.string x.a.nm)).heap[B]? = some (.cells #[.string x.op,.string x.a.op,.string x.a.nm,u3,u4,u5,u6,u7,u8] t (0,0)):=by simpa using h2
 have h3:=heap_setCell_same ((((W).setCell ⟨B,0,none⟩ (.string x.op)).setCell ⟨B,1,none⟩ (.string x.a.op)).setCell ⟨B,2,none⟩ (.string x.a.nm)) B 3 _ t (.int .i64 x.a.n) g2;have g3:(((((W).setCell ⟨B,0,none⟩ (.string x.op)).setCell ⟨B,1,none⟩ (.string x.a.op)).setCell ⟨B,2,none⟩ (.string x.a.nm)).setCell ⟨B,3,none⟩ (.int .i64 x.a.n)).heap[B]? = some (.cells #[.string x.op,.string x.a.op,.string x.a.nm,.int .i64 x.a.n,u4,u5,u6,u7,u8] t (0,0)):=by simpa using h3
 have h4:=heap_setCell_same (((((W).setCell ⟨B,0,none⟩ (.string x.op)).setCell ⟨B,1,none⟩ (.string x.a.op)).setCell ⟨B,2,none⟩ (.string x.a.nm)).setCell ⟨B,3,none⟩ (.int .i64 x.a.n)) B 4 _ t (.slice a1 x.a.ks.len c1) g3;have g4:((((((W).setCell ⟨B,0,none⟩ (.string x.op)).setCell ⟨B,1,none⟩ (.string x.a.op)).setCell ⟨B,2,none⟩ (.string x.a.nm)).setCell ⟨B,3,none⟩ (.int .i64 x.a.n)).setCell ⟨B,4,none⟩ (.slice a1 x.a.ks.len c1)).heap[B]? = some (.cells #[.string x.op,.string x.a.op,.string x.a.nm,.int .i64 x.a.n,.slice a1 x.a.ks.len c1,u5,u6,u7,u8] t (0,0)):=by simpa using h4
 have h5:=heap_setCell_same ((((((W).setCell ⟨B,0,none⟩ (.string x.op)).setCell ⟨B,1,none⟩ (.string x.a.op)).setCell ⟨B,2,none⟩ (.string x.a.nm)).setCell ⟨B,3,none⟩ (.int .i64 x.a.n)).setCell ⟨B,4,none⟩ (.slice a1 x.a.ks.len c1)) B 5 _ t (.string x.b.op) g4;have g5:(((((((W).setCell ⟨B,0,none⟩ (.string x.op)).setCell ⟨B,1,none⟩ (.string x.a.op)).setCell ⟨B,2,none⟩ (.string x.a.nm)).setCell ⟨B,3,none⟩ (.int .i64 x.a.n)).setCell ⟨B,4,none⟩ (.slice a1 x.a.ks.len c1)).setCell ⟨B,5,none⟩ (.string x.b.op)).heap[B]? = some (.cells #[.string x.op,.string x.a.op,.string x.a.nm,.int .i64 x.a.n,.slice a1 x.a.ks.len c1,.string x.b.op,u6,u7,u8] t (0,0)):=by simpa using h5
 have h6:=heap_setCell_same (((((((W).setCell ⟨B,0,none⟩ (.string x.op)).setCell ⟨B,1,none⟩ (.string x.a.op)).setCell ⟨B,2,none⟩ (.string x.a.nm)).setCell ⟨B,3,none⟩ (.int .i64 x.a.n)).setCell ⟨B,4,none⟩ (.slice a1 x.a.ks.len c1)).setCell ⟨B,5,none⟩ (.string x.b.op)) B 6 _ t (.string x.b.nm) g5;have g6:((((((((W).setCell ⟨B,0,none⟩ (.string x.op)).setCell ⟨B,1,none⟩ (.string x.a.op)).setCell ⟨B,2,none⟩ (.string x.a.nm)).setCell ⟨B,3,none⟩ (.int .i64 x.a.n)).setCell ⟨B,4,none⟩ (.slice a1 x.a.ks.len c1)).setCell ⟨B,5,none⟩ (.string x.b.op)).setCell ⟨B,6,none⟩ (.string x.b.nm)).heap[B]? = some (.cells #[.string x.op,.string x.a.op,.string x.a.nm,.int .i64 x.a.n,.slice a1 x.a.ks.len c1,.string x.b.op,.string x.b.nm,u7,u8] t (0,0)):=by simpa using h6
 have h7:=heap_setCell_same ((((((((W).setCell ⟨B,0,none⟩ (.string x.op)).setCell ⟨B,1,none⟩ (.string x.a.op)).setCell ⟨B,2,none⟩ (.string x.a.nm)).setCell ⟨B,3,none⟩ (.int .i64 x.a.n)).setCell ⟨B,4,none⟩ (.slice a1 x.a.ks.len c1)).setCell ⟨B,5,none⟩ (.string x.b.op)).setCell ⟨B,6,none⟩ (.string x.b.nm)) B 7 _ t (.int .i64 x.b.n) g6;have g7:(((((((((W).setCell ⟨B,0,none⟩ (.string x.op)).setCell ⟨B,1,none⟩ (.string x.a.op)).setCell ⟨B,2,none⟩ (.string x.a.nm)).setCell ⟨B,3,none⟩ (.int .i64 x.a.n)).setCell ⟨B,4,none⟩ (.slice a1 x.a.ks.len c1)).setCell ⟨B,5,none⟩ (.string x.b.op)).setCell ⟨B,6,none⟩ (.string x.b.nm)).setCell ⟨B,7,none⟩ (.int .i64 x.b.n)).heap[B]? = some (.cells #[.string x.op,.string x.a.op,.string x.a.nm,.int .i64 x.a.n,.slice a1 x.a.ks.len c1,.string x.b.op,.string x.b.nm,.int .i64 x.b.n,u8] t (0,0)):=by simpa using h7
 have h8:=heap_setCell_same (((((((((W).setCell ⟨B,0,none⟩ (.string x.op)).setCell ⟨B,1,none⟩ (.string x.a.op)).setCell ⟨B,2,none⟩ (.string x.a.nm)).setCell ⟨B,3,none⟩ (.int .i64 x.a.n)).setCell ⟨B,4,none⟩ (.slice a1 x.a.ks.len c1)).setCell ⟨B,5,none⟩ (.string x.b.op)).setCell ⟨B,6,none⟩ (.string x.b.nm)).setCell ⟨B,7,none⟩ (.int .i64 x.b.n)) B 8 _ t (.slice a2 x.b.ks.len c2) g7;have g8:((((((((((W).setCell ⟨B,0,none⟩ (.string x.op)).setCell ⟨B,1,none⟩ (.string x.a.op)).setCell ⟨B,2,none⟩ (.string x.a.nm)).setCell ⟨B,3,none⟩ (.int .i64 x.a.n)).setCell ⟨B,4,none⟩ (.slice a1 x.a.ks.len c1)).setCell ⟨B,5,none⟩ (.string x.b.op)).setCell ⟨B,6,none⟩ (.string x.b.nm)).setCell ⟨B,7,none⟩ (.int .i64 x.b.n)).setCell ⟨B,8,none⟩ (.slice a2 x.b.ks.len c2)).heap[B]? = some (.cells #[.string x.op,.string x.a.op,.string x.a.nm,.int .i64 x.a.n,.slice a1 x.a.ks.len c1,.string x.b.op,.string x.b.nm,.int .i64 x.b.n,.slice a2 x.b.ks.len c2] t (0,0)):=by simpa using h8
 exact g8
abbrev Ix (W:World) (B:Nat) (t:TN) (ad:Option Addr) (cc:Nat):World:=(((W.setCell ⟨B,5,none⟩ (.string t.op)).setCell ⟨B,6,none⟩ (.string t.nm)).setCell ⟨B,7,none⟩ (.int .i64 t.n)).setCell ⟨B,8,none⟩ (.slice ad t.ks.len cc)
theorem vV (W:World) (B:Nat) (t:TN) (ad:Option Addr) (cc:Nat):aE (· = B) W (Ix W B t ad cc) :=
 (((((aE.refl (· = B) W).setCell (p:=⟨B,5,none⟩) (.inl rfl) _).setCell (p:=⟨B,6,none⟩) (.inl rfl) _).setCell (p:=⟨B,7,none⟩) (.inl rfl) _).setCell (p:=⟨B,8,none⟩) (.inl rfl) _)
theorem vY {W:World} {B:Nat} {x:CD} {a1:Option Addr} {c1:Nat} {a2:Option Addr} {c2:Nat} (h:W.heap[B]? = some (cdO x a1 c1 a2 c2)) (t:TN) (ad:Option Addr) (cc:Nat):(Ix W B t ad cc).heap[B]? = some (cdO { x with b:=t } a1 c1 ad cc):=by
 have h0:=heap_setCell_same (W) B 5 _ 90 (.string t.op) h;have g0:((W).setCell ⟨B,5,none⟩ (.string t.op)).heap[B]? = some (.cells #[.string x.op,.string x.a.op,.string x.a.nm,.int .i64 x.a.n,.slice a1 x.a.ks.len c1,.string t.op,.string x.b.nm,.int .i64 x.b.n,.slice a2 x.b.ks.len c2] 90 (0,0)):=by simpa using h0
 have h1:=heap_setCell_same ((W).setCell ⟨B,5,none⟩ (.string t.op)) B 6 _ 90 (.string t.nm) g0;have g1:(((W).setCell ⟨B,5,none⟩ (.string t.op)).setCell ⟨B,6,none⟩ (.string t.nm)).heap[B]? = some (.cells #[.string x.op,.string x.a.op,.string x.a.nm,.int .i64 x.a.n,.slice a1 x.a.ks.len c1,.string t.op,.string t.nm,.int .i64 x.b.n,.slice a2 x.b.ks.len c2] 90 (0,0)):=by simpa using h1
 have h2:=heap_setCell_same (((W).setCell ⟨B,5,none⟩ (.string t.op)).setCell ⟨B,6,none⟩ (.string t.nm)) B 7 _ 90 (.int .i64 t.n) g1;have g2:((((W).setCell ⟨B,5,none⟩ (.string t.op)).setCell ⟨B,6,none⟩ (.string t.nm)).setCell ⟨B,7,none⟩ (.int .i64 t.n)).heap[B]? = some (.cells #[.string x.op,.string x.a.op,.string x.a.nm,.int .i64 x.a.n,.slice a1 x.a.ks.len c1,.string t.op,.string t.nm,.int .i64 t.n,.slice a2 x.b.ks.len c2] 90 (0,0)):=by simpa using h2
 have h3:=heap_setCell_same ((((W).setCell ⟨B,5,none⟩ (.string t.op)).setCell ⟨B,6,none⟩ (.string t.nm)).setCell ⟨B,7,none⟩ (.int .i64 t.n)) B 8 _ 90 (.slice ad t.ks.len cc) g2;have g3:(((((W).setCell ⟨B,5,none⟩ (.string t.op)).setCell ⟨B,6,none⟩ (.string t.nm)).setCell ⟨B,7,none⟩ (.int .i64 t.n)).setCell ⟨B,8,none⟩ (.slice ad t.ks.len cc)).heap[B]? = some (.cells #[.string x.op,.string x.a.op,.string x.a.nm,.int .i64 x.a.n,.slice a1 x.a.ks.len c1,.string t.op,.string t.nm,.int .i64 t.n,.slice ad t.ks.len cc] 90 (0,0)):=by simpa using h3
 exact g3
theorem Ex {W:World} {B:Nat} {x:CD} {a1:Option Addr} {c1:Nat} {a2:Option Addr} {c2:Nat} (h:W.heap[B]? = some (cdO x a1 c1 a2 c2)) (z:ByteArray):(W.setCell ⟨B,0,none⟩ (.string z)).heap[B]? = some (cdO { x with op:=z } a1 c1 a2 c2):=by
 have h0:=heap_setCell_same W B 0 _ 90 (.string z) h;simpa using h0
theorem eZ {W:World} {B:Nat} {v0 v1 v2 v3 v4 v5 v6 v7 v8:Value} {t:TypeId} (h:W.heap[B]? = some (.cells #[v0,v1,v2,v3,v4,v5,v6,v7,v8] t (0,0))) :
 W.cell? ⟨B,0,none⟩=some v0/\W.cell? ⟨B,1,none⟩=some v1/\W.cell? ⟨B,2,none⟩=some v2/\W.cell? ⟨B,3,none⟩=some v3/\W.cell? ⟨B,4,none⟩=some v4/\W.cell? ⟨B,5,none⟩=some v5/\W.cell? ⟨B,6,none⟩=some v6/\W.cell? ⟨B,7,none⟩=some v7/\W.cell? ⟨B,8,none⟩=some v8:=by
 refine ⟨?_,?_,?_,?_,?_,?_,?_,?_,?_⟩ <;> simp [World.cell?,h]
theorem rK {W:World} {B:Nat} {v0 v1 v2 v3 v4 v5 v6 v7 v8:Value} {t:TypeId} (h:W.heap[B]? = some (.cells #[v0,v1,v2,v3,v4,v5,v6,v7,v8] t (0,0))) :
 W.frozen? ⟨B,0,none⟩=false/\W.frozen? ⟨B,1,none⟩=false/\W.frozen? ⟨B,2,none⟩=false/\W.frozen? ⟨B,3,none⟩=false/\W.frozen? ⟨B,4,none⟩=false/\W.frozen? ⟨B,5,none⟩=false/\W.frozen? ⟨B,6,none⟩=false/\W.frozen? ⟨B,7,none⟩=false/\W.frozen? ⟨B,8,none⟩=false:=by
 refine ⟨?_,?_,?_,?_,?_,?_,?_,?_,?_⟩ <;> simp [World.frozen?,h]
def AU (ts:List Tk) (rb:Nat) (a:Option Addr) (c:Nat) (r:CD×RS) (w0:World) (e:Ending) (w':World):Prop :=
 ∃ a1 c1 a2 c2,e=.returned (cdV r.1 a1 c1 a2 c2)/\PW ts rb a c r.2 w'/\aE (· = rb) w0 w'/\a7 w0.heap.size w' a1 r.1.a.ks/\a7 w0.heap.size w' a2 r.1.b.ks
structure CW (w:World) (ts:List Tk) (rb:Nat) (a:Option Addr) (c:Nat) (B:Nat) (x:CD) (a1:Option Addr) (c1:Nat) (a2:Option Addr) (c2:Nat) (s:RS) (V:World):Prop where
 r:PW ts rb a c s V
 k:aE (· = rb) w V
 n:V.heap[B]? = some (cdO x a1 c1 a2 c2)
 o:V.heap[w.heap.size]? = some (cdO yH none 0 none 0)
 e:aH (fun b=>w.heap.size<b/\b ≠ B) V a1 x.a.ks
 g:aH (fun b=>w.heap.size<b/\b ≠ B) V a2 x.b.ks
 z:B<V.heap.size
 lo:w.heap.size<B
 h:rb<w.heap.size
theorem CW.step {w V V':World} {ts:List Tk} {rb:Nat} {a:Option Addr} {c B:Nat} {x:CD} {a1:Option Addr} {c1:Nat} {a2:Option Addr} {c2:Nat} {s s':RS} (h:CW w ts rb a c B x a1 c1 a2 c2 s V) (hp:PW ts rb a c s' V') (hk:aE (· = rb) V V'):CW w ts rb a c B x a1 c1 a2 c2 s' V' :=
 ⟨hp,h.k.trans hk (fun i hi _=>hi),hk.heap h.n (fun e=>by have:=h.h;have:=h.lo;omega),hk.heap h.o (fun e=>by have:=h.h;omega),h.e.keptS hk (fun k hk hg=>by have:=h.h;have:=hg.1;omega),h.g.keptS hk (fun k hk hg=>by have:=h.h;have:=hg.1;omega),Nat.lt_of_lt_of_le h.z hk.size,h.lo,h.h⟩
theorem CW.box {w V V':World} {ts:List Tk} {rb:Nat} {a:Option Addr} {c B:Nat} {x y:CD} {a1:Option Addr} {c1:Nat} {a2:Option Addr} {c2:Nat} {b1:Option Addr} {d1:Nat} {b2:Option Addr} {d2:Nat} {s:RS} (h:CW w ts rb a c B x a1 c1 a2 c2 s V) (hk:aE (· = B) V V') (hn:V'.heap[B]? = some (cdO y b1 d1 b2 d2)) (he:aH (fun b=>w.heap.size<b/\b ≠ B) V b1 y.a.ks) (hg:aH (fun b=>w.heap.size<b/\b ≠ B) V b2 y.b.ks):CW w ts rb a c B y b1 d1 b2 d2 s V' :=
 ⟨h.r.other hk (by have:=h.h;have:=h.lo;omega),h.k.trans hk (fun i hi hlt=>by have:=h.lo;omega),hn,hk.heap h.o (fun e=>by have:=h.lo;omega),he.keptS hk (fun k hk hg=>hg.2 hk),hg.keptS hk (fun k hk hg=>hg.2 hk),Nat.lt_of_lt_of_le h.z hk.size,h.lo,h.h⟩
theorem CW.drewN {w V:World} {ts:List Tk} {rb:Nat} {a:Option Addr} {c B:Nat} {x:CD} {a1:Option Addr} {c1:Nat} {a2:Option Addr} {c2:Nat} {s:RS} (h:CW w ts rb a c B x a1 c1 a2 c2 s V) (n:Nat):CW w ts rb a c B x a1 c1 a2 c2 s (V.drewN n) :=
 h.step (h.r.kept (lW (aE.refl _ _) n)) (lW (aE.refl _ _) n)
theorem qG {w V:World} {ts:List Tk} {rb:Nat} {a:Option Addr} {c B:Nat} {x:CD} {a1:Option Addr} {c1:Nat} {a2:Option Addr} {c2:Nat} {s s0:RS} (h:CW w ts rb a c B x a1 c1 a2 c2 s V) (hr:cE ts s0=(x,s)) :
 AU ts rb a c (cE ts s0) w (.returned (cdV x a1 c1 a2 c2)) (FY V w.heap.size x a1 c1 a2 c2):=by
 rw [hr];have KP:=Bv V w.heap.size x a1 c1 a2 c2;exact ⟨_,_,_,_,rfl,h.r.other KP h.h,h.k.trans KP (fun i hi hlt=>by omega),(h.e.keptS KP (fun k hk hg=>by have:=hg.1;omega)).imp (fun b _ hg=>by have:=hg.1;omega),(h.g.keptS KP (fun k hk hg=>by have:=hg.1;omega)).imp (fun b _ hg=>by have:=hg.1;omega)⟩
theorem Hb (ts:List Tk) (rb:Nat) (a:Option Addr) (c:Nat) (s:RS) (w:World) (h:PW ts rb a c s w):Calls Tryz.prog 37 #[.pointer (some ⟨rb,0,none⟩)] w (AU ts rb a c (cE ts s) w):=by
 have B1:=(Below.refl w.heap.size w).alloc (Nat.le_refl _) (cdO yH none 0 none 0);have N1:=heap_alloc_new w (cdO yH none 0 none 0);have z1:(w.alloc (cdO yH none 0 none 0)).heap.size=w.heap.size+1:=World.size_alloc _ _;have H1:=h.below B1;have hrb:=h.r.lt;generalize hW:w.alloc (cdO yH none 0 none 0)=W at B1 N1 z1 H1;have EX:=aA (fA ts rb a c s W H1);obtain ⟨t1,s1,hts⟩:∃ t q,a8 ts s=(t,q):=⟨_,_,rfl⟩;rw [hts] at EX;have HE1:=aA hts;have HW:=aA hW;have KB:=aA (aF B1 (· = rb));have NB:=aA N1;have HZ:=aA z1;have HRB:=aA hrb;clear hW h hts B1 N1 z1 H1 hrb;go_enter Tryz.func37,Tryz.ntmps37
 go_upto_region 1 with fail
 rw [show w.alloc (.cells #[.string ⟨#[]⟩,.string ⟨#[]⟩,.string ⟨#[]⟩,.int .i64 0,.slice none 0 0,.string ⟨#[]⟩,.string ⟨#[]⟩,.int .i64 0,.slice none 0 0] 90)=W from HW.out];go_wp2_with fail
 refine EX.out.mono ?_;rintro e v1 ⟨ad1,cc1,rfl,hp1,hk1,hr1⟩;have BA:=(Below.refl v1.heap.size v1).alloc (Nat.le_refl _) (cdO ⟨⟨#[]⟩,t1,aD⟩ ad1 cc1 none 0);have hz1:=hk1.size;have hzz:=HZ.out;have hrb:=HRB.out
 have K2:=aA (show CW w ts rb a c v1.heap.size ⟨⟨#[]⟩,t1,aD⟩ ad1 cc1 none 0 s1 (v1.alloc (cdO ⟨⟨#[]⟩,t1,aD⟩ ad1 cc1 none 0)) from
  ⟨hp1.below BA,(KB.out.trans hk1 (fun i hi _=>hi)).trans (aF BA (· = rb)) (fun i hi _=>hi),heap_alloc_new v1 _,(BA.block _ (by omega)).trans (hk1.heap NB.out (fun e=>by omega)),((aH.imp (H:=fun b=>w.heap.size<b/\b ≠ v1.heap.size) hr1 (fun b h1 h2=>⟨by have h3:W.heap.size<=b:=h2;omega,by omega⟩)).kept BA),.inl rfl,by rw [World.size_alloc];omega,by omega,hrb⟩)
 have HSZ:=aA (show v1.heap.size<(v1.alloc (cdO ⟨⟨#[]⟩,t1,aD⟩ ad1 cc1 none 0)).heap.size by rw [World.size_alloc];omega);obtain ⟨U,hU⟩:∃ U,v1.alloc (cdO ⟨⟨#[]⟩,t1,aD⟩ ad1 cc1 none 0)=U:=⟨_,rfl⟩;obtain ⟨B,hB⟩:∃ B,v1.heap.size=B:=⟨_,rfl⟩;rw [hU,hB] at K2;have HU:=aA hU;have HBB:=aA hB;clear hp1 hk1 hr1 BA hz1 hzz hrb EX hU hB HSZ;go_upto_region 2 with fail
 rw [show v1.alloc (.cells #[.string ⟨#[]⟩,.string t1.op,.string t1.nm,.int .i64 t1.n,.slice ad1 t1.ks.len cc1,.string ⟨#[]⟩,.string ⟨#[]⟩,.int .i64 0,.slice none 0 0] 90)=U from HU.out,HBB.out];clear HU HBB;obtain ⟨c0,c1,c2,c3,c4⟩:=K2.out.r.r.cells.1;have hpos:=K2.out.r.f.2.1;have hnn:=K2.out.r.f.2.2.2;by_cases hb:s1.bad=0
 · have q1:((s1.bad:Int) == 0)=true:=by rw [hb];rfl
   have q2:((s1.bad:Int) != 0)=false:=by rw [hb];rfl
   have HB:=aA hb;clear hb;by_cases hlt:s1.pos<ts.length
   · have d1:decide (s1.pos<ts.length)=true:=decide_eq_true hlt
     have d2:(s1.pos:Int)<(ts.length:Int):=by omega
     have d3:(0:Int)<=(s1.pos:Int):=by omega
     have d4:((s1.pos:Int)).toNat=s1.pos:=by omega
     go_upto_region 5 with (go_quiet (fail))
     obtain ⟨U1,hU1⟩:∃ U1,U.drewN nq=U1:=⟨_,rfl⟩
     have K3:=aA (show CW w ts rb a c B ⟨⟨#[]⟩,t1,aD⟩ ad1 cc1 none 0 s1 U1 by
      rw [<- hU1];exact K2.out.drewN nq)
     rw [hU1];clear hU1 c0 c1 c2 c3 c4;obtain ⟨c0,c1,c2,c3,c4⟩:=K3.out.r.r.cells.1;obtain ⟨b,off,ha, -,p0,p1, -⟩:=aY K3.out.r.t hlt;rw [ha] at c0;obtain ⟨tx,htx⟩:∃ tx:ByteArray,⟨ts[s1.pos].text.toArray⟩=tx:=⟨_,rfl⟩;rw [htx] at p1;have hopA:(⟨(dQ ts s1.pos).toArray⟩:ByteArray)=tx:=by unfold dQ;rw [List.getElem?_eq_getElem hlt];exact htx
     have HOA:=aA hopA;have HLT:=aA hlt
     have HOB:=aA (show opB ts s1.pos=(aX tx 0 0).isSome by
      unfold opB;rw [List.getElem?_eq_getElem hlt];simp only;rw [htx])
     have HO:=aA (fun V=>jJ tx 0 0 V);obtain ⟨yb,hyb⟩:∃ yb,(aX tx 0 0).getD false=yb:=⟨_,rfl⟩;rw [hyb] at HO;clear hlt ha htx hopA hyb p0;cases hold:(aX tx 0 0).isSome with
     | true =>
       rw [hold] at HO HOB;clear hold;go_upto_region 9 with (go_quiet ((first | (go_at_call 40;refine (HO.out _).mono ?_;rintro e w' ⟨he,rfl⟩;exact ⟨he,_,rfl⟩) | fail)))
       obtain ⟨U2,hU2⟩:∃ U2,U1.drewN nq=U2:=⟨_,rfl⟩
       have K4:=aA (show CW w ts rb a c B ⟨⟨#[]⟩,t1,aD⟩ ad1 cc1 none 0 s1 U2 by
        rw [<- hU2];exact K3.out.drewN nq)
       rw [hU2];have HT2:=aA (show U2.cell? ⟨b,off+s1.pos*4+1,none⟩=some (.string tx) by rw [<- hU2];exact p1);have HC2:=aA (show U2.cell? ⟨rb,0,none⟩=some (.slice (some ⟨b,off,none⟩) ts.length c) by rw [<- hU2];exact c0);clear hU2 c0 c1 c2 c3 c4 p1;obtain ⟨-,c1,c2,c3,c4⟩:=K4.out.r.r.cells.1;have c0:=HC2.out;have p1:=HT2.out;obtain ⟨m0,m1,m2,m3,m4,m5,m6,m7,m8⟩:=eZ K4.out.n;obtain ⟨z0,z1,z2,z3,z4,z5,z6,z7,z8⟩:=rK K4.out.n;go_upto_region 10 with go_region
       obtain ⟨V,hV⟩:∃ V,U2.drew.setCell ⟨B,0,none⟩ (.string tx)=V:=⟨_,rfl⟩
       have K5a:=aA (show CW w ts rb a c B ⟨tx,t1,aD⟩ ad1 cc1 none 0 s1 V by
        rw [<- hV];exact (K4.out.drewN 1).box ((aE.refl (· = B) _).setCell (p:=⟨B,0,none⟩) (.inl rfl) _) (Ex (K4.out.drewN 1).n tx) (K4.out.drewN 1).e (K4.out.drewN 1).g)
       have GV:=aA hV;clear hV c0 c1 c2 c3 c4 p1 m0 m1 m2 m3 m4 m5 m6 m7 m8 z0 z1 z2 z3 z4 z5 z6 z7 z8;first | rw [show (U2.drewN 1).setCell ⟨B,0,none⟩ (.string tx)=V from GV.out] | rw [show U2.drew.setCell ⟨B,0,none⟩ (.string tx)=V from GV.out] | rw [show (U2.setCell ⟨B,0,none⟩ (.string tx)).drew=V from GV.out]
       obtain ⟨⟨c0,c1,c2,c3,c4⟩,f1,f2,f3,f4⟩:=K5a.out.r.r.cells;have KS:=(aE.refl (· = rb) V).setCell (p:=⟨rb,1,none⟩) (.inl rfl) (.int .i64 ((s1.pos:Int)+1));obtain ⟨V2,hV2⟩:∃ V2,V.setCell ⟨rb,1,none⟩ (.int .i64 ((s1.pos:Int)+1))=V2:=⟨_,rfl⟩
       have K5b:=aA (show CW w ts rb a c B ⟨tx,t1,aD⟩ ad1 cc1 none 0 (aO s1) V2 by
        rw [<- hV2];exact K5a.out.step (mM K5a.out.r HLT.out) KS)
       clear KS;go_upto_region 11 with fail
       clear hV2 c0 c1 c2 c3 c4 f1 f2 f3 f4;have EX:=aA (fA ts rb a c (aO s1) V2 K5b.out.r);obtain ⟨t2,s2,hts⟩:∃ t q,a8 ts (aO s1)=(t,q):=⟨_,_,rfl⟩;rw [hts] at EX;have HE2:=aA hts;clear hts;go_wp2_with fail
       refine EX.out.mono ?_;rintro e v5 ⟨ad2,cc2,rfl,hp5,hk5,hr5⟩;have K5:=aA (K5b.out.step hp5 hk5);have hz5:=K5b.out.z;have hlo:=K5b.out.lo;have hr6:aH (fun b=>w.heap.size<b/\b ≠ B) v5 ad2 t2.ks:=aH.imp hr5 (fun b _ h2=>by have h3:V2.heap.size<=b:=h2;omega);clear hp5 hk5 hr5 EX hz5 hlo;obtain ⟨m0,m1,m2,m3,m4,m5,m6,m7,m8⟩:=eZ K5.out.n;obtain ⟨z0,z1,z2,z3,z4,z5,z6,z7,z8⟩:=rK K5.out.n;have KX:=vV v5 B t2 ad2 cc2;obtain ⟨X,hX⟩:∃ X,Ix v5 B t2 ad2 cc2=X:=⟨_,rfl⟩
       have K6:=aA (show CW w ts rb a c B ⟨tx,t1,t2⟩ ad1 cc1 ad2 cc2 s2 X by
        rw [<- hX];exact K5.out.box KX (vY K5.out.n t2 ad2 cc2) K5.out.e hr6)
       have GX:=aA hX;clear KX hX hr6;go_upto_region 12 with fail
       rw [show (((v5.setCell ⟨B,5,none⟩ (.string t2.op)).setCell ⟨B,6,none⟩ (.string t2.nm)).setCell ⟨B,7,none⟩ (.int .i64 t2.n)).setCell ⟨B,8,none⟩ (.slice ad2 t2.ks.len cc2)=X from GX.out];clear m0 m1 m2 m3 m4 m5 m6 m7 m8 z0 z1 z2 z3 z4 z5 z6 z7 z8;have HR:=aA (show cE ts s=(⟨tx,t1,t2⟩,s2) by unfold cE;rw [HE1.out];simp only;rw [if_pos HB.out,if_pos HOB.out,HE2.out,HOA.out]);obtain ⟨m0,m1,m2,m3,m4,m5,m6,m7,m8⟩:=eZ K6.out.n;obtain ⟨z0,z1,z2,z3,z4,z5,z6,z7,z8⟩:=rK K6.out.o;obtain ⟨b0,b1,b2,b3,b4,b5,b6,b7,b8⟩:=eZ K6.out.o;go_wp2_with fail
       obtain ⟨y0,y1,y2,y3,y4,y5,y6,y7,y8⟩:=eZ (lY (t:=90) K6.out.o (⟨tx,t1,t2⟩) ad1 cc1 ad2 cc2);have P:=qG K6.out HR.out;exact bodyPost_ret (v:=cdV (⟨tx,t1,t2⟩) ad1 cc1 ad2 cc2) (by simp [results,Tryz.results37,go_sem,y0,y1,y2,y3,y4,y5,y6,y7,y8,b0,b1,b2,b3,b4,b5,b6,b7,b8]) rfl P
     | false =>
       rw [hold] at HO HOB;clear hold;go_upto_region 7 with (go_quiet ((first | (go_at_call 40;refine (HO.out _).mono ?_;rintro e w' ⟨he,rfl⟩;exact ⟨he,_,rfl⟩) | fail)))
       have K4:=aA (K3.out.drewN nq);clear c0 c1 c2 c3 c4 p1;have FA:=aA (cZ ts rb a c s1 2 (by decide) (U1.drewN nq) K4.out.r);go_wp2_with fail
       refine FA.out.mono ?_;rintro e v6 ⟨rfl,hp6,hk6⟩;have K6:=aA (K4.out.step hp6 hk6);clear hp6 hk6 FA;have HR:=aA (show cE ts s=(⟨⟨#[]⟩,t1,aD⟩,aR 2 s1) by unfold cE;rw [HE1.out];simp only;rw [if_pos HB.out,if_neg (by rw [HOB.out];decide)]);obtain ⟨m0,m1,m2,m3,m4,m5,m6,m7,m8⟩:=eZ K6.out.n;obtain ⟨z0,z1,z2,z3,z4,z5,z6,z7,z8⟩:=rK K6.out.o;obtain ⟨b0,b1,b2,b3,b4,b5,b6,b7,b8⟩:=eZ K6.out.o;go_wp2_with fail
       obtain ⟨y0,y1,y2,y3,y4,y5,y6,y7,y8⟩:=eZ (lY (t:=90) K6.out.o (⟨⟨#[]⟩,t1,aD⟩) ad1 cc1 none 0);have P:=qG K6.out HR.out;exact bodyPost_ret (v:=cdV (⟨⟨#[]⟩,t1,aD⟩) ad1 cc1 none 0) (by simp [results,Tryz.results37,go_sem,y0,y1,y2,y3,y4,y5,y6,y7,y8,b0,b1,b2,b3,b4,b5,b6,b7,b8]) rfl P
   · have d1:decide (s1.pos<ts.length)=false:=decide_eq_false hlt
     have d2:¬ (s1.pos:Int)<(ts.length:Int):=by omega
     have HOB:=aA (show opB ts s1.pos=false by unfold opB;rw [List.getElem?_eq_none (by omega)]);go_upto_region 7 with (go_quiet (fail))
     have K4:=aA (K2.out.drewN nq);clear c0 c1 c2 c3 c4;have FA:=aA (cZ ts rb a c s1 2 (by decide) (U.drewN nq) K4.out.r);go_wp2_with fail
     refine FA.out.mono ?_;rintro e v6 ⟨rfl,hp6,hk6⟩;have K6:=aA (K4.out.step hp6 hk6);clear hp6 hk6 FA;have HR:=aA (show cE ts s=(⟨⟨#[]⟩,t1,aD⟩,aR 2 s1) by unfold cE;rw [HE1.out];simp only;rw [if_pos HB.out,if_neg (by rw [HOB.out];decide)]);obtain ⟨m0,m1,m2,m3,m4,m5,m6,m7,m8⟩:=eZ K6.out.n;obtain ⟨z0,z1,z2,z3,z4,z5,z6,z7,z8⟩:=rK K6.out.o;obtain ⟨b0,b1,b2,b3,b4,b5,b6,b7,b8⟩:=eZ K6.out.o;go_wp2_with fail
     obtain ⟨y0,y1,y2,y3,y4,y5,y6,y7,y8⟩:=eZ (lY (t:=90) K6.out.o (⟨⟨#[]⟩,t1,aD⟩) ad1 cc1 none 0);have P:=qG K6.out HR.out;exact bodyPost_ret (v:=cdV (⟨⟨#[]⟩,t1,aD⟩) ad1 cc1 none 0) (by simp [results,Tryz.results37,go_sem,y0,y1,y2,y3,y4,y5,y6,y7,y8,b0,b1,b2,b3,b4,b5,b6,b7,b8]) rfl P
 · have q1:((s1.bad:Int) == 0)=false:=beq_eq_false_iff_ne.2 hb
   have q2:((s1.bad:Int) != 0)=true:=by simpa using hb
   have HB:=aA hb;clear hb c0 c1 c2 c3 c4;obtain ⟨c0,c1,c2,c3,c4⟩:=K2.out.r.r.cells.1;have EX:=aA (fA ts rb a c (s1) U K2.out.r);obtain ⟨t2,s2,hts⟩:∃ t q,a8 ts (s1)=(t,q):=⟨_,_,rfl⟩;rw [hts] at EX;have HE2:=aA hts;clear hts;go_wp2_with fail
   refine EX.out.mono ?_;rintro e v5 ⟨ad2,cc2,rfl,hp5,hk5,hr5⟩;have K5:=aA (K2.out.step hp5 hk5);have hz5:=K2.out.z;have hlo:=K2.out.lo;have hr6:aH (fun b=>w.heap.size<b/\b ≠ B) v5 ad2 t2.ks:=aH.imp hr5 (fun b _ h2=>by have h3:U.heap.size<=b:=h2;omega);clear hp5 hk5 hr5 EX hz5 hlo;obtain ⟨m0,m1,m2,m3,m4,m5,m6,m7,m8⟩:=eZ K5.out.n;obtain ⟨z0,z1,z2,z3,z4,z5,z6,z7,z8⟩:=rK K5.out.n;have KX:=vV v5 B t2 ad2 cc2;obtain ⟨X,hX⟩:∃ X,Ix v5 B t2 ad2 cc2=X:=⟨_,rfl⟩
   have K6:=aA (show CW w ts rb a c B ⟨⟨#[]⟩,t1,t2⟩ ad1 cc1 ad2 cc2 s2 X by
    rw [<- hX];exact K5.out.box KX (vY K5.out.n t2 ad2 cc2) K5.out.e hr6)
   have GX:=aA hX;clear KX hX hr6;go_upto_region 12 with fail
   rw [show (((v5.setCell ⟨B,5,none⟩ (.string t2.op)).setCell ⟨B,6,none⟩ (.string t2.nm)).setCell ⟨B,7,none⟩ (.int .i64 t2.n)).setCell ⟨B,8,none⟩ (.slice ad2 t2.ks.len cc2)=X from GX.out];clear m0 m1 m2 m3 m4 m5 m6 m7 m8 z0 z1 z2 z3 z4 z5 z6 z7 z8;have E2:a8 ts s1=(aD,s1):=e9 HB.out;rw [HE2.out] at E2;obtain ⟨rfl,rfl⟩:=Prod.mk.inj E2;have HR:=aA (show cE ts s=(⟨⟨#[]⟩,t1,aD⟩,s2) by unfold cE;rw [HE1.out];simp only;rw [if_neg HB.out]);obtain ⟨m0,m1,m2,m3,m4,m5,m6,m7,m8⟩:=eZ K6.out.n;obtain ⟨z0,z1,z2,z3,z4,z5,z6,z7,z8⟩:=rK K6.out.o;obtain ⟨b0,b1,b2,b3,b4,b5,b6,b7,b8⟩:=eZ K6.out.o;go_wp2_with fail
   obtain ⟨y0,y1,y2,y3,y4,y5,y6,y7,y8⟩:=eZ (lY (t:=90) K6.out.o (⟨⟨#[]⟩,t1,aD⟩) ad1 cc1 ad2 cc2);have P:=qG K6.out HR.out;exact bodyPost_ret (v:=cdV (⟨⟨#[]⟩,t1,aD⟩) ad1 cc1 ad2 cc2) (by simp [results,Tryz.results37,go_sem,y0,y1,y2,y3,y4,y5,y6,y7,y8,b0,b1,b2,b3,b4,b5,b6,b7,b8]) rfl P
def xS (d:CD):Int:=if (aX d.op 0 0).isSome=false then 5 else if aL d.a=0 then aL d.b else aL d.a
theorem G7 (d:CD) (r:List CD):c7 (d::r)=if xS d=0 then c7 r else xS d:=by
 rw [c7];unfold xS;by_cases hz:(aX d.op 0 0).isSome=false
 · rw [if_pos hz,if_pos hz,if_neg (show ¬ (5:Int)=0 by decide)]
 · rw [if_neg hz,if_neg hz]
   by_cases h:aL d.a=0
   · rw [if_pos h,if_pos h]
   · rw [if_neg h,if_neg h,if_neg h]
abbrev cdX (d:CD) (a1:Option Addr) (c1:Nat) (a2:Option Addr) (c2:Nat):Obj:=.cells #[.string d.op,.string d.a.op,.string d.a.nm,.int .i64 d.a.n,.slice a1 d.a.ks.len c1,.string d.b.op,.string d.b.nm,.int .i64 d.b.n,.slice a2 d.b.ks.len c2] 98
theorem uX (d:CD) (G:Nat->Prop) (w:World) (a1:Option Addr) (c1:Nat) (a2:Option Addr) (c2:Nat) (h1:SzF d.a.f) (h2:SzF d.b.f) (r1:aH G w a1 d.a.ks) (r2:aH G w a2 d.b.ks) :
 Calls Tryz.prog 46 #[cdV d a1 c1 a2 c2] w fun e w'=>e=.returned (.int .i64 (xS d))/\Below w.heap.size w w':=by
 have B0:=(Below.refl w.heap.size w).alloc (Nat.le_refl _) (cdX d a1 c1 a2 c2);have N0:=heap_alloc_new w (cdX d a1 c1 a2 c2);have hs0:(w.alloc (cdX d a1 c1 a2 c2)).heap.size=w.heap.size+1:=World.size_alloc _ _;have R1:=aA (r1.kept B0);have R2:=aA (r2.kept B0);generalize hW:w.alloc (cdX d a1 c1 a2 c2)=W at *;have HW:=aA hW;have HB:=aA B0;have HN:=aA N0;have CO:=aA (vQ d.op W);have CA:=aA (gN d.a G W a1 c1 h1 R1.out);have CB:=aA (fun V (hV:Below W.heap.size W V)=>gN d.b G V a2 c2 h2 (R2.out.kept hV));obtain ⟨z,hz⟩:∃ z,(aX d.op 0 0).isSome=z:=⟨_,rfl⟩;obtain ⟨e1,he1⟩:∃ e,aL d.a=e:=⟨_,rfl⟩;obtain ⟨e2,he2⟩:∃ e,aL d.b=e:=⟨_,rfl⟩;obtain ⟨r,hr⟩:∃ r,xS d=r:=⟨_,rfl⟩;rw [hr];unfold xS at hr;rw [hz,he1,he2] at hr;have HR:=aA hr;rw [hz] at CO;rw [he1] at CA;rw [he2] at CB;obtain ⟨p0,p1,p2,p3,p4,p5,p6,p7,p8⟩:=eZ N0;clear hW B0 N0 h1 h2 r1 r2 hz he1 he2 hr;go_enter Tryz.func46,Tryz.ntmps46
 go_upto_region 1 with fail
 rw [show w.alloc (.cells #[.string d.op,.string d.a.op,.string d.a.nm,.int .i64 d.a.n,.slice a1 d.a.ks.len c1,.string d.b.op,.string d.b.nm,.int .i64 d.b.n,.slice a2 d.b.ks.len c2] 98)=W from HW.out];go_wp2_with fail
 refine CO.out.mono ?_;rintro e w1 ⟨rfl,rfl⟩;cases z with
 | false =>
   have TR:=aA (show (5:Int)=r from HR.out);go_wp2_with fail
   go_ret;exact ⟨congrArg (fun z=>Ending.returned (.int .i64 z)) TR.out,HB.out⟩
 | true =>
   have TR:=aA (show (if e1=0 then e2 else e1)=r from HR.out);go_wp2_with fail
   refine CA.out.mono ?_;rintro e w2 ⟨rfl,hb⟩;have HB2:=aA (HB.out.trans (hb.mono HB.out.size));have N2:=(hb.block w.heap.size (by omega)).trans HN.out;have C2:=aA (CB.out w2 hb);clear hb CA CO CB p0 p1 p2 p3 p4 p5 p6 p7 p8;obtain ⟨p0,p1,p2,p3,p4,p5,p6,p7,p8⟩:=eZ N2;clear N2;by_cases he:e1=0
   · have TS:=aA (show e2=r by rw [<- TR.out,if_pos he])
     subst he;go_wp2_with fail
     refine C2.out.mono ?_;rintro e w3 ⟨rfl,hb⟩;have HB3:=aA (HB2.out.trans (hb.mono HB2.out.size));clear hb;go_wp2_with fail
     go_ret;exact ⟨congrArg (fun z=>Ending.returned (.int .i64 z)) TS.out,HB3.out⟩
   · have TS:=aA (show e1=r by rw [<- TR.out,if_neg he])
     have q1:((e1:Int) != 0)=true:=by simpa using he
     go_wp2_with fail
     go_ret;exact ⟨congrArg (fun z=>Ending.returned (.int .i64 z)) TS.out,HB2.out⟩
def Ax (x:AG):Int :=
 if kP x.fn.data.toList=true/\¬ (1<=x.k/\x.k<=16) then 1 else
 if eP x.fn.data.toList=true/\¬ aL x.e=0 then aL x.e else
 if bP x.fn.data.toList=true then aL x.g else 0
theorem Ji (x:AG):jT x=if dM x.fn.data.toList=false then 5 else if Ax x=0 then (if 4<x.wh.length then 4 else c7 x.wh) else Ax x:=by
 unfold jT;by_cases hf:dM x.fn.data.toList=false
 · rw [if_pos hf,if_pos hf]
 rw [if_neg hf,if_neg hf];have hf':dM x.fn.data.toList=true:=by simpa using hf
 unfold Ax gT;obtain ⟨F,hF⟩:∃ F,x.fn.data.toList=F:=⟨_,rfl⟩;rw [hF] at hf' |-
 have eK:kP F=true ↔ F=cQ:=by unfold kP;exact beq_iff_eq
 have eB:bP F=true ↔ F=aW:=by unfold bP;exact beq_iff_eq
 have eE:eP F=true ↔ ¬ F=aQ:=by
  unfold eP;rw [hf',Bool.true_and];simp
 have d1:¬ cQ=aQ:=by decide
 have d2:¬ cQ=aW:=by decide
 have d3:¬ aW=aQ:=by decide
 have d4:¬ aQ=aW:=by decide
 by_cases ht:F=cQ
 · have k1:=eK.2 ht
   have e1:eP F=true:=eE.2 (by rw [ht];exact d1);have b1:¬ bP F=true:=fun h=>d2 (ht.symm.trans (eB.1 h))
   by_cases hk:x.k<1\/16<x.k
   · rw [if_pos ⟨ht,hk⟩,if_pos (show kP F=true/\¬ (1<=x.k/\x.k<=16) from ⟨k1,by omega⟩),if_neg (show ¬ (1:Int)=0 by decide)]
   · rw [if_neg (fun h=>hk h.2),if_neg (show ¬ (kP F=true/\¬ (1<=x.k/\x.k<=16)) from fun h=>h.2 (by omega)),if_neg (show ¬ F=aQ by rw [ht];exact d1),if_neg (show ¬ F=aW by rw [ht];exact d2),if_neg b1]
     by_cases he:aL x.e=0
     · rw [if_pos he,if_neg (show ¬ (eP F=true/\¬ aL x.e=0) from fun h=>h.2 he)]
     · rw [if_neg he,if_pos (show eP F=true/\¬ aL x.e=0 from ⟨e1,he⟩)]
 · rw [if_neg (fun h=>ht h.1),if_neg (show ¬ (kP F=true/\¬ (1<=x.k/\x.k<=16)) from fun h=>ht (eK.1 h.1))]
   by_cases hc:F=aQ
   · have e1:¬ eP F=true:=fun h=>eE.1 h hc
     have b1:¬ bP F=true:=fun h=>d4 (hc.symm.trans (eB.1 h))
     rw [if_pos hc,if_neg (show ¬ (eP F=true/\¬ aL x.e=0) from fun h=>e1 h.1),if_neg b1]
   · have e1:eP F=true:=eE.2 hc
     rw [if_neg hc];by_cases he:aL x.e=0
     · rw [if_pos he,if_neg (show ¬ (eP F=true/\¬ aL x.e=0) from fun h=>h.2 he)]
       by_cases hb:F=aW
       · rw [if_pos hb,if_pos (eB.2 hb)]
       · rw [if_neg hb,if_neg (show ¬ bP F=true from fun h=>hb (eB.1 h))]
     · rw [if_neg he,if_pos (show eP F=true/\¬ aL x.e=0 from ⟨e1,he⟩)]
def rS:Bool->Int->Int
 | true,e2=>e2
 | false,_=>0
def t8:Bool->Bool->Int->Int->Int
 | true,bb,e1,e2=>if e1=0 then rS bb e2 else e1
 | false,bb,_,e2=>rS bb e2
def Ly:Bool->Bool->Bool->Bool->Int->Int->Int
 | true,false,_,_,_,_=>1
 | true,true,ee,bb,e1,e2=>t8 ee bb e1 e2
 | false,_,ee,bb,e1,e2=>t8 ee bb e1 e2
theorem t6 (bb:Bool) {e1 e2:Int} (h:e1=0):t8 true bb e1 e2=rS bb e2:=if_pos h
theorem t7 (bb:Bool) {e1 e2:Int} (h:¬ e1=0):t8 true bb e1 e2=e1:=if_neg h
theorem Jj (x:AG):Ax x=Ly (kP x.fn.data.toList) (decide (1<=x.k) && decide (x.k<=16)) (eP x.fn.data.toList) (bP x.fn.data.toList) (aL x.e) (aL x.g):=by
 unfold Ax;have hz:(decide (1<=x.k) && decide (x.k<=16))=true ↔ 1<=x.k/\x.k<=16:=by rw [Bool.and_eq_true,decide_eq_true_eq,decide_eq_true_eq]
 obtain ⟨zk,hzk⟩:∃ z,(decide (1<=x.k) && decide (x.k<=16))=z:=⟨_,rfl⟩;rw [hzk] at hz |-
 have tail:(if eP x.fn.data.toList=true/\¬ aL x.e=0 then aL x.e else if bP x.fn.data.toList=true then aL x.g else 0)=t8 (eP x.fn.data.toList) (bP x.fn.data.toList) (aL x.e) (aL x.g):=by
  have e3:(if bP x.fn.data.toList=true then aL x.g else 0)=rS (bP x.fn.data.toList) (aL x.g):=by cases bP x.fn.data.toList <;> rfl
  rw [e3];cases eP x.fn.data.toList with
  | false=>rw [if_neg (fun h=>by cases h.1)];rfl
  | true =>
    by_cases h:aL x.e=0
    · rw [if_neg (fun g=>g.2 h),t6 _ h]
    · rw [if_pos ⟨rfl,h⟩,t7 _ h]
 rw [tail];cases kP x.fn.data.toList with
 | false=>rw [if_neg (fun h=>by cases h.1)];cases zk <;> rfl
 | true =>
   cases zk with
   | false=>rw [if_pos ⟨rfl,fun h=>by have:=hz.2 h;cases this⟩];rfl
   | true=>rw [if_neg (fun h=>h.2 (hz.1 rfl))];rfl
theorem uY (x:AG) (p:PA) (G:Nat->Prop) (w:World) (h1:SzF x.e.f) (h2:SzF x.g.f) (r1:aH G w p.ea x.e.ks) (r2:aH G w p.ga x.g.ks) :
 Calls Tryz.prog 45 #[agV x p,ptV x.fn.data.toList] w fun e w'=>e=.returned (.int .i64 (Ax x))/\Below w.heap.size w w':=by
 unfold ptV;have B0:=(Below.refl w.heap.size w).alloc (Nat.le_refl _) (agP x p);have N0:=heap_alloc_new w (agP x p);have hs0:(w.alloc (agP x p)).heap.size=w.heap.size+1:=World.size_alloc _ _;have R1:=r1.kept B0;have R2:=r2.kept B0;generalize hW0:w.alloc (agP x p)=W0 at *;obtain ⟨kk,hk⟩:∃ b,kP x.fn.data.toList=b:=⟨_,rfl⟩;obtain ⟨ee,he⟩:∃ b,eP x.fn.data.toList=b:=⟨_,rfl⟩;obtain ⟨bb,hb⟩:∃ b,bP x.fn.data.toList=b:=⟨_,rfl⟩;obtain ⟨r,hr⟩:∃ r,Ax x=r:=⟨_,rfl⟩;rw [hr];rw [Jj,hk,he,hb] at hr;rw [hk,he,hb];have B1:=(Below.refl W0.heap.size W0).alloc (Nat.le_refl _) (ptO kk ee bb);have N1:=heap_alloc_new W0 (ptO kk ee bb);have hs1:(W0.alloc (ptO kk ee bb)).heap.size=W0.heap.size+1:=World.size_alloc _ _;have NA:=(B1.block w.heap.size (by omega)).trans N0;have BB:=B0.trans (B1.mono (by omega));have R3:=aA (R1.kept B1);have R4:=aA (R2.kept B1);generalize hW:W0.alloc (ptO kk ee bb)=W at *;rw [hs0] at N1;have HW0:=aA hW0;have HW:=aA hW;have HB:=aA BB;have HA:=aA NA;have HN:=aA N1;have MK:=aA (Ag x.k W);obtain ⟨zk,hzk⟩:∃ z,(decide (1<=x.k) && decide (x.k<=16))=z:=⟨_,rfl⟩;rw [hzk] at MK hr;have CA:=aA (gN x.e G W p.ea p.ec h1 R3.out);have CB:=aA (fun V (hV:Below W.heap.size W V)=>gN x.g G V p.ga p.gc h2 (R4.out.kept hV));have C0:=aA (gN x.g G W p.ga p.gc h2 R4.out);obtain ⟨e1,he1⟩:∃ e,aL x.e=e:=⟨_,rfl⟩;obtain ⟨e2,he2⟩:∃ e,aL x.g=e:=⟨_,rfl⟩;rw [he1,he2] at hr;rw [he1] at CA;rw [he2] at CB C0;have HR:=aA hr;have HZK:=aA hzk;obtain ⟨m0,m1,m2,m3,m4,m5,m6,m7,m8,m9,m10⟩:=aC NA;obtain ⟨⟨y0,y1,y2⟩, -⟩:=cV N1
 clear hW0 hW B0 B1 N0 N1 NA BB R1 R2 h1 h2 r1 r2 he1 he2 hr hk he hb hzk hs0 hs1;go_enter Tryz.func45,Tryz.ntmps45
 go_upto_region 1 with fail
 rw [show w.alloc (.cells #[.string x.fn,.int .i64 x.k,.string x.e.op,.string x.e.nm,.int .i64 x.e.n,.slice p.ea x.e.ks.len p.ec,.string x.g.op,.string x.g.nm,.int .i64 x.g.n,.slice p.ga x.g.ks.len p.gc,.slice p.wa x.wh.length p.wc] 28)=W0 from HW0.out,HW.out];cases kk with
 | true =>
   go_wp2_with fail
   refine MK.out.mono ?_;rintro e v ⟨rfl,rfl⟩;cases zk with
   | false =>
     have TS:=aA (show (1:Int)=r from HR.out);go_wp2_with fail
     go_ret;exact ⟨congrArg (fun z=>Ending.returned (.int .i64 z)) TS.out,HB.out⟩
   | true =>
     have TR:=aA (show t8 ee bb e1 e2=r from HR.out);cases ee with
     | true =>
       go_wp2_with fail
       refine CA.out.mono ?_;rintro e w2 ⟨rfl,hb2⟩;have HB2:=aA (HB.out.trans (hb2.mono HB.out.size));have N2:=(hb2.block _ (aG HN.out)).trans HN.out;have A2:=(hb2.block _ (aG HA.out)).trans HA.out;have C2:=aA (CB.out w2 hb2);clear hb2 CA CB C0 MK m0 m1 m2 m3 m4 m5 m6 m7 m8 m9 m10 y0 y1 y2;obtain ⟨m0,m1,m2,m3,m4,m5,m6,m7,m8,m9,m10⟩:=aC A2;obtain ⟨⟨y0,y1,y2⟩, -⟩:=cV N2;clear N2 A2;by_cases hz1:e1=0
       · have TS:=aA (show rS bb e2=r by rw [<- TR.out,t6 _ hz1])
         subst hz1;cases bb with
         | true =>
           have TU:=aA (show e2=r from TS.out);go_wp2_with fail
           refine C2.out.mono ?_;rintro e w3 ⟨rfl,hb3⟩;have HB3:=aA (HB2.out.trans (hb3.mono HB2.out.size));clear hb3;go_wp2_with fail
           go_ret;exact ⟨congrArg (fun z=>Ending.returned (.int .i64 z)) TU.out,HB3.out⟩
         | false =>
           have TU:=aA (show (0:Int)=r from TS.out);go_wp2_with fail
           go_ret;exact ⟨congrArg (fun z=>Ending.returned (.int .i64 z)) TU.out,HB2.out⟩
       · have TS:=aA (show e1=r by rw [<- TR.out,t7 _ hz1])
         have q1:((e1:Int) != 0)=true:=by simpa using hz1
         go_wp2_with fail
         go_ret;exact ⟨congrArg (fun z=>Ending.returned (.int .i64 z)) TS.out,HB2.out⟩
     | false =>
       have TS:=aA (show rS bb e2=r from TR.out);cases bb with
       | true =>
         have TU:=aA (show e2=r from TS.out);go_wp2_with fail
         refine C0.out.mono ?_;rintro e w3 ⟨rfl,hb3⟩;have HB3:=aA (HB.out.trans (hb3.mono HB.out.size));clear hb3;go_wp2_with fail
         go_ret;exact ⟨congrArg (fun z=>Ending.returned (.int .i64 z)) TU.out,HB3.out⟩
       | false =>
         have TU:=aA (show (0:Int)=r from TS.out);go_wp2_with fail
         go_ret;exact ⟨congrArg (fun z=>Ending.returned (.int .i64 z)) TU.out,HB.out⟩
 | false =>
   have TR:=aA (show t8 ee bb e1 e2=r from HR.out);cases ee with
   | true =>
     go_wp2_with fail
     refine CA.out.mono ?_;rintro e w2 ⟨rfl,hb2⟩;have HB2:=aA (HB.out.trans (hb2.mono HB.out.size));have N2:=(hb2.block _ (aG HN.out)).trans HN.out;have A2:=(hb2.block _ (aG HA.out)).trans HA.out;have C2:=aA (CB.out w2 hb2);clear hb2 CA CB C0 MK m0 m1 m2 m3 m4 m5 m6 m7 m8 m9 m10 y0 y1 y2;obtain ⟨m0,m1,m2,m3,m4,m5,m6,m7,m8,m9,m10⟩:=aC A2;obtain ⟨⟨y0,y1,y2⟩, -⟩:=cV N2;clear N2 A2;by_cases hz1:e1=0
     · have TS:=aA (show rS bb e2=r by rw [<- TR.out,t6 _ hz1])
       subst hz1;cases bb with
       | true =>
         have TU:=aA (show e2=r from TS.out);go_wp2_with fail
         refine C2.out.mono ?_;rintro e w3 ⟨rfl,hb3⟩;have HB3:=aA (HB2.out.trans (hb3.mono HB2.out.size));clear hb3;go_wp2_with fail
         go_ret;exact ⟨congrArg (fun z=>Ending.returned (.int .i64 z)) TU.out,HB3.out⟩
       | false =>
         have TU:=aA (show (0:Int)=r from TS.out);go_wp2_with fail
         go_ret;exact ⟨congrArg (fun z=>Ending.returned (.int .i64 z)) TU.out,HB2.out⟩
     · have TS:=aA (show e1=r by rw [<- TR.out,t7 _ hz1])
       have q1:((e1:Int) != 0)=true:=by simpa using hz1
       go_wp2_with fail
       go_ret;exact ⟨congrArg (fun z=>Ending.returned (.int .i64 z)) TS.out,HB2.out⟩
   | false =>
     have TS:=aA (show rS bb e2=r from TR.out);cases bb with
     | true =>
       have TU:=aA (show e2=r from TS.out);go_wp2_with fail
       refine C0.out.mono ?_;rintro e w3 ⟨rfl,hb3⟩;have HB3:=aA (HB.out.trans (hb3.mono HB.out.size));clear hb3;go_wp2_with fail
       go_ret;exact ⟨congrArg (fun z=>Ending.returned (.int .i64 z)) TU.out,HB3.out⟩
     | false =>
       have TU:=aA (show (0:Int)=r from TS.out);go_wp2_with fail
       go_ret;exact ⟨congrArg (fun z=>Ending.returned (.int .i64 z)) TU.out,HB.out⟩
theorem gZ {G:Nat->Prop} (x:AG) (p:PA) (w:World) (hS:SzG x) (hwl:x.wh.length<=9223372036854775807) (hr:aP G w x p):Calls Tryz.prog 15 #[agV x p] w fun e w'=>e=.returned (.int .i64 (jT x))/\Below w.heap.size w w':=by
 rw [Ji];have K0:=nS hr;generalize hW:w.alloc (agP x p)=W at K0;have HW:=aA hW;have HK:=aA K0;have HS:=aA hS;have CP:=aA (i6 x.fn W);obtain ⟨F,hF⟩:∃ F,x.fn.data.toList=F:=⟨_,rfl⟩;have HF:=aA hF;rw [hF] at CP |-
 obtain ⟨ff,hf⟩:∃ b,dM F=b:=⟨_,rfl⟩;rw [hf] at CP |-
 obtain ⟨ea,hea⟩:∃ e,Ax x=e:=⟨_,rfl⟩;rw [hea];have HEA:=aA hea;obtain ⟨r,hR⟩:∃ r,(if ff=false then (5:Int) else if ea=0 then (if 4<x.wh.length then 4 else c7 x.wh) else ea)=r:=⟨_,rfl⟩;rw [hR];have HR:=aA hR;clear hW K0 hr hS hf hea hR hF;obtain ⟨m0,m1,m2,m3,m4,m5,m6,m7,m8,m9,m10⟩:=aC HK.out.n;go_enter Tryz.func15,Tryz.ntmps15
 go_upto_region 1 with fail
 rw [show w.alloc (.cells #[.string x.fn,.int .i64 x.k,.string x.e.op,.string x.e.nm,.int .i64 x.e.n,.slice p.ea x.e.ks.len p.ec,.string x.g.op,.string x.g.nm,.int .i64 x.g.n,.slice p.ga x.g.ks.len p.gc,.slice p.wa x.wh.length p.wc] 28)=W from HW.out];go_wp2_with fail
 refine CP.out.mono ?_;rintro e w1 ⟨rfl,hb1⟩;have K1:=HK.out.step hb1;have BA:=(Below.refl w1.heap.size w1).alloc (Nat.le_refl _) (ptO (kP F) (eP F) (bP F));have NA:=heap_alloc_new w1 (ptO (kP F) (eP F) (bP F));have K2:=aA (K1.step BA);clear hb1 K1 BA CP HK m0 m1 m2 m3 m4 m5 m6 m7 m8 m9 m10;go_upto_region 2 with fail
 generalize w1.alloc (ptO (kP F) (eP F) (bP F))=V at *;generalize w1.heap.size=B at *;obtain ⟨m0,m1,m2,m3,m4,m5,m6,m7,m8,m9,m10⟩:=aC K2.out.n;obtain ⟨⟨y0,y1,y2⟩, -⟩:=cV NA;clear NA;cases ff with
 | false =>
   have TS:=aA (show (5:Int)=r from HR.out);go_wp2_with fail
   go_ret;exact ⟨congrArg (fun z=>Ending.returned (.int .i64 z)) TS.out,K2.out.b⟩
 | true =>
   have TR:=aA (show (if ea=0 then (if 4<x.wh.length then (4:Int) else c7 x.wh) else ea)=r from HR.out)
   have CA:=aA (show Calls Tryz.prog 45 #[agV x p,.agg #[.bool (kP F),.bool (eP F),.bool (bP F)]] V fun e w'=>e=.returned (.int .i64 ea)/\Below V.heap.size V w' by
    have:=uY x p G V HS.out.e HS.out.g K2.out.r.e K2.out.r.g;rw [HEA.out,HF.out] at this;exact this)
   clear HR;go_wp2_with fail
   refine CA.out.mono ?_;rintro e w2 ⟨rfl,hb2⟩;have K3:=aA (K2.out.step hb2);clear hb2 CA K2 m0 m1 m2 m3 m4 m5 m6 m7 m8 m9 m10 y0 y1 y2;obtain ⟨m0,m1,m2,m3,m4,m5,m6,m7,m8,m9,m10⟩:=aC K3.out.n;by_cases hea:ea=0
   · have TB:=aA (show (if 4<x.wh.length then (4:Int) else c7 x.wh)=r by rw [<- TR.out,if_pos hea])
     subst hea;by_cases h4:4<x.wh.length
     · have TS:=aA (show (4:Int)=r by rw [<- TB.out,if_pos h4])
       have a4:(4:Int)<(x.wh.length:Int):=by omega
       go_wp2_with fail
       go_ret;exact ⟨congrArg (fun z=>Ending.returned (.int .i64 z)) TS.out,K3.out.b⟩
     · have T0:=aA (show c7 (x.wh.drop 0)=r by rw [List.drop_zero, <- TB.out,if_neg h4])
       have a4:¬ (4:Int)<(x.wh.length:Int):=by omega
       have a5:decide (4<x.wh.length)=false:=decide_eq_false h4;clear TB TR;go_wp2_with fail
       clear m0 m1 m2 m3 m4 m5 m6 m7 m8 m9 m10;go_loopw [7,8,30] (fun x7 x8 i wr=>∃ (k:Nat) (u v:Value),x7=u/\x8=v/\i=.int .i64 k/\k<=x.wh.length/\Hid (c7 (x.wh.drop k)=r)/\Hid (KP9 G w x p wr)) (fun _ _ i _=>x.wh.length-(intOf i).toNat)
       case atStart=>exact ⟨0,_,_,rfl,rfl,rfl,Nat.zero_le _,T0,K3⟩
       case round =>
        obtain ⟨k,u,v,rfl,rfl,rfl,hk,HC,HK⟩:=hrel;clear T0 K3;obtain ⟨m0,m1,m2,m3,m4,m5,m6,m7,m8,m9,m10⟩:=aC HK.out.n;by_cases hlt:k<x.wh.length
        · obtain ⟨d,hd⟩:∃ d,x.wh[k]? = some d:=⟨_,List.getElem?_eq_getElem hlt⟩
          have hne:¬ x.wh=[]:=fun e=>by rw [e] at hlt;simp at hlt
          obtain ⟨b,off,hwa', -, -,hcc⟩:=HK.out.r.c.resolve_left hne;obtain ⟨a1,c1,a2,c2,⟨p0,p1,p2,p3,p4,p5,p6,p7,p8⟩,r1,r2⟩:=hcc k d hd
          have hdr:x.wh.drop k=d::x.wh.drop (k+1):=by
           rw [List.drop_eq_getElem_cons hlt];have:=List.getElem?_eq_getElem hlt;rw [this] at hd;rw [Option.some.inj hd]
          have hsz:=HS.out.c d (List.mem_of_getElem? hd);have HD:=aA (show (if xS d=0 then c7 (x.wh.drop (k+1)) else xS d)=r by rw [<- HC.out,hdr,G7]);have BD:=(Below.refl wr.heap.size wr).alloc (Nat.le_refl _) (cdX d a1 c1 a2 c2);have ND:=heap_alloc_new wr (cdX d a1 c1 a2 c2);have K4:=aA (HK.out.step BD);have CC:=aA (uX d G (wr.alloc (cdX d a1 c1 a2 c2)) a1 c1 a2 c2 hsz.1 hsz.2 (r1.kept BD) (r2.kept BD));obtain ⟨e1,he1⟩:∃ e,xS d=e:=⟨_,rfl⟩;rw [he1] at CC HD;rw [hwa'] at m10 |-
          have b1:(k:Int)<(x.wh.length:Int):=by omega
          have b2:(0:Int)<=(k:Int):=by omega
          have b3:((k:Int)).toNat=k:=by omega
          clear hne hcc hdr hsz hd r1 r2 BD he1 hwa' HC HK;go_upto_region 12 with fail
          rw [show wr.alloc (.cells #[.string d.op,.string d.a.op,.string d.a.nm,.int .i64 d.a.n,.slice a1 d.a.ks.len c1,.string d.b.op,.string d.b.nm,.int .i64 d.b.n,.slice a2 d.b.ks.len c2] 98)=wr.alloc (cdX d a1 c1 a2 c2) from rfl];generalize wr.alloc (cdX d a1 c1 a2 c2)=V1 at *;clear p0 p1 p2 p3 p4 p5 p6 p7 p8;obtain ⟨p0,p1,p2,p3,p4,p5,p6,p7,p8⟩:=eZ ND;clear ND;go_wp2_with fail
          refine CC.out.mono ?_;rintro e w5 ⟨rfl,hb5⟩;have K5:=aA (K4.out.step hb5);clear hb5 CC K4 p0 p1 p2 p3 p4 p5 p6 p7 p8 m0 m1 m2 m3 m4 m5 m6 m7 m8 m9 m10;by_cases he:e1=0
          · have HC2:=aA (show c7 (x.wh.drop (k+1))=r by rw [<- HD.out,if_pos he])
            subst he;go_wp2_with fail
            go_roundw
            case rel=>exact ⟨k+1,_,_,rfl,rfl,by simp,by omega,HC2,K5⟩
            case measure=>simp [intOf];omega
          · have TS:=aA (show e1=r by rw [<- HD.out,if_neg he])
            have q1:((e1:Int) != 0)=true:=by simpa using he
            go_wp2_with fail
            go_ret;exact ⟨congrArg (fun z=>Ending.returned (.int .i64 z)) TS.out,K5.out.b⟩
        · have TS:=aA (show (0:Int)=r by rw [<- HC.out,List.drop_of_length_le (by omega)];rfl)
          have b1:¬ (k:Int)<(x.wh.length:Int):=by omega
          have b2:decide (k<x.wh.length)=false:=decide_eq_false hlt;go_wp2_with fail
          go_ret;exact ⟨congrArg (fun z=>Ending.returned (.int .i64 z)) TS.out,HK.out.b⟩
   · have TS:=aA (show ea=r by rw [<- TR.out,if_neg hea])
     have q1:((ea:Int) != 0)=true:=by simpa using hea
     go_wp2_with fail
     go_ret;exact ⟨congrArg (fun z=>Ending.returned (.int .i64 z)) TS.out,K3.out.b⟩
def dZ (g:ByteArray->Option Int):List CD->Bool
 | []=>true
 | c::r=>(match evT g c.a,evT g c.b with | some x,some y=>(aX c.op x y).getD false | _,_=>false) && dZ g r
inductive EvR | no | num (n:Int) | list (l:List Int)
structure ES where
 n:Int
 some:Bool
 best:Int
 by':Int
 sum:Int
 top:List Int
def es0:ES:=⟨0,false,0,0,0,[]⟩
def vH (fn:List UInt8) (g:ByteArray->Option Int) (y:TN) (s:ES) (e:Int):ES :=
 if fn=mH then { s with best:=if s.some=false\/e<s.best then e else s.best,some:=true }
 else if fn=oO then { s with best:=if s.some=false\/s.best<e then e else s.best,some:=true }
 else if fn=mG then { s with sum:=dK (s.sum+e),some:=true }
 else if fn=cQ then { s with top:=f9 lsL s.top e,some:=true }
 else match evT g y with
  | none=>s
  | some b=>if s.some=false\/b<s.by' then { s with best:=e,by':=b,some:=true } else { s with some:=true }
def sW (a:AG) (s:ES) (g:ByteArray->Option Int):ES :=
 if dZ g a.wh=false then s else
 if a.fn.data.toList=aQ then { s with n:=s.n+1 } else
 match evT g a.e with
  | none=>{ s with n:=s.n+1 }
  | some e=>vH a.fn.data.toList g a.g { s with n:=s.n+1 } e
def Dh (a:AG) (s:ES):EvR :=
 if a.fn.data.toList=aQ then .num s.n else
 if a.fn.data.toList=mG then .num s.sum else
 if a.fn.data.toList=cQ then .list (s.top.drop (s.top.length-a.k.toNat)) else
 if s.some=false then .no else .num s.best
def evG (a:AG) (gs:List (ByteArray->Option Int)):EvR:=Dh a (gs.foldl (sW a) es0)
def iK (a:AG) (gs:List (ByteArray->Option Int)):List (ByteArray->Option Int):=gs.filter (fun g=>dZ g a.wh)
def Ca (a:AG) (gs:List (ByteArray->Option Int)):List Int:=(iK a gs).filterMap (fun g=>evT g a.e)
theorem sU (a:AG) (g:ByteArray->Option Int) (gs:List (ByteArray->Option Int)):iK a (g::gs)=if dZ g a.wh=true then g::iK a gs else iK a gs:=by
 unfold iK;rw [List.filter_cons]
theorem GM (a:AG):∀ (gs:List (ByteArray->Option Int)) (s:ES),(gs.foldl (sW a) s).n=s.n+((iK a gs).length:Int)
 | [],s=>by simp [iK]
 | g :: gs, s => by
   rw [List.foldl_cons,GM a gs,sU];unfold sW;cases h:dZ g a.wh with
   | false=>rw [if_pos rfl,if_neg (by decide)]
   | true =>
     rw [if_neg (by decide),if_pos rfl,List.length_cons]
     have:∀ (t:ES),(if a.fn.data.toList=aQ then ({ t with n:=t.n+1 }:ES) else match evT g a.e with
      | none=>{ t with n:=t.n+1 }
      | some e=>vH a.fn.data.toList g a.g { t with n:=t.n+1 } e).n=t.n+1:=fun t=>by
      split
      · rfl
      · split
        · rfl
        · unfold vH
          split
          · rfl
          split
          · rfl
          split
          · rfl
          split
          · rfl
          split
          · rfl
          split <;> rfl
     rw [this s];omega
theorem tY {α : Type} (a:AG) (hc:¬ a.fn.data.toList=aQ) (f:ES -> α) (h: α -> Int -> α) (hn:∀ (s:ES) (m:Int),f { s with n:=m }=f s)
 (hs:∀ (g:ByteArray->Option Int) (s:ES) (e:Int),f (vH a.fn.data.toList g a.g s e)=h (f s) e):∀ (gs:List (ByteArray->Option Int)) (s:ES),f (gs.foldl (sW a) s)=(Ca a gs).foldl h (f s)
 | [],s=>rfl
 | g :: gs, s => by
   rw [List.foldl_cons,tY a hc f h hn hs gs];unfold Ca;rw [sU];unfold sW;cases ht:dZ g a.wh with
   | false=>rw [if_pos rfl,if_neg (by decide)]
   | true =>
     rw [if_neg (by decide),if_pos rfl,if_neg hc];cases he:evT g a.e with
     | none=>simp only [List.filterMap_cons,he];rw [hn]
     | some e=>simp only [List.filterMap_cons,he,List.foldl_cons];rw [hs,hn]
theorem EW {a:AG} (h:a.fn.data.toList=aQ) (gs:List (ByteArray->Option Int)):evG a gs=.num ((iK a gs).length:Int):=by
 unfold evG Dh;rw [if_pos h,GM];simp [es0]
theorem Jh {a:AG} (h:a.fn.data.toList=mG) (gs:List (ByteArray->Option Int)):evG a gs=.num ((Ca a gs).foldl (fun s e=>dK (s+e)) 0):=by
 have hc:¬ a.fn.data.toList=aQ:=by rw [h];decide
 unfold evG Dh;rw [if_neg hc,if_pos h,tY a hc (fun s=>s.sum) (fun s e=>dK (s+e)) (fun _ _=>rfl) (fun g s e=>by unfold vH;rw [h];rfl)];rfl
theorem Jg {a:AG} (h:a.fn.data.toList=cQ) (gs:List (ByteArray->Option Int)):evG a gs=.list (((Ca a gs).foldl (f9 lsL) []).drop (((Ca a gs).foldl (f9 lsL) []).length-a.k.toNat)):=by
 have hc:¬ a.fn.data.toList=aQ:=by rw [h];decide
 have hs:¬ a.fn.data.toList=mG:=by rw [h];decide
 unfold evG Dh;rw [if_neg hc,if_neg hs,if_pos h,tY a hc (fun s=>s.top) (f9 lsL) (fun _ _=>rfl) (fun g s e=>by unfold vH;rw [h];rfl)];rfl
end
end Go.Proofs.YtapcjnoaofmmiaaGreatDoor
