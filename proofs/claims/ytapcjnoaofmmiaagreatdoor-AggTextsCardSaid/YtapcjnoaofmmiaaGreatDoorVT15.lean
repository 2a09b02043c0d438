/-
 No statement: what AggTextsCard needs, of the texts OEv, OBuild, OText, OTx, OSm, ORead, OName.
-/
import Derived.Test.YtapcjnoaofmmiaaGreatDoorVT14
set_option maxHeartbeats 40000000
set_option maxRecDepth 100000
namespace Go.Proofs.YtapcjnoaofmmiaaGreatDoor
section
open Go.RowKit
structure EPW (w:World) (x:AG) (p:PA) (V:World):Prop where
 k:KP9 (fun b=>b<w.heap.size) w x p V
 o:V.heap[w.heap.size+1]? = some (vlA 0 0 none 0 0)
theorem EPW.step {w V V':World} {x:AG} {p:PA} (h:EPW w x p V) (hb:Below V.heap.size V V'):EPW w x p V' :=
 ⟨h.k.step hb,(hb.block _ (aG h.o)).trans h.o⟩
theorem xT {w:World} {x:AG} {p:PA} (hr:aP (fun b=>b<w.heap.size) w x p):EPW w x p ((w.alloc (agP x p)).alloc (vlA 0 0 none 0 0)):=by
 have hz:(w.alloc (agP x p)).heap.size=w.heap.size+1:=World.size_alloc _ _;have n2:=heap_alloc_new (w.alloc (agP x p)) (vlA 0 0 none 0 0);rw [hz] at n2;exact ⟨(nS hr).step ((Below.refl _ _).alloc (Nat.le_refl _) _),n2⟩
theorem EPW.put {w V:World} {x:AG} {p:PA} (h:EPW w x p V) (u0 u1 u2 u3:Value) :
 Below w.heap.size w ((((V.setCell ⟨w.heap.size+1,0,none⟩ u0).setCell ⟨w.heap.size+1,1,none⟩ u1).setCell ⟨w.heap.size+1,2,none⟩ u2).setCell ⟨w.heap.size+1,3,none⟩ u3) :=
 h.k.b.trans ((((((aE.refl (· = w.heap.size+1) V).setCell (p:=⟨w.heap.size+1,0,none⟩) (.inl rfl) _).setCell (p:=⟨w.heap.size+1,1,none⟩) (.inl rfl) _).setCell (p:=⟨w.heap.size+1,2,none⟩) (.inl rfl) _).setCell (p:=⟨w.heap.size+1,3,none⟩) (.inl rfl) _).below (fun b hb=>by omega) h.k.z)
theorem Ls {V w:World} {B:Nat} {T:List Int} {ta:Option Addr} {tc:Nat} (hB:w.heap.size+1<B) (ho:V.ownsRow B 2 1 (.slice ta T.length tc) T.length (ivK T)) {u0 u1 u2 u3:Value}:T=[]\/∃ b off,ta=some ⟨b,off,none⟩/\w.heap.size<=b/\b<((((V.setCell ⟨w.heap.size+1,0,none⟩ u0).setCell ⟨w.heap.size+1,1,none⟩ u1).setCell ⟨w.heap.size+1,2,none⟩ u2).setCell ⟨w.heap.size+1,3,none⟩ u3).heap.size/\∀ j n,T[j]? = some n->((((V.setCell ⟨w.heap.size+1,0,none⟩ u0).setCell ⟨w.heap.size+1,1,none⟩ u1).setCell ⟨w.heap.size+1,2,none⟩ u2).setCell ⟨w.heap.size+1,3,none⟩ u3).cell? ⟨b,off+j,none⟩=some (.int .i64 n):=by
 cases T with
 | nil=>exact .inl rfl
 | cons t T =>
   right;obtain ⟨g,hg,c0⟩:=kS ho (show (ivK (t::T))[0]? = some (.int .i64 t) from rfl);have hlt:=(ho.lt g (by rw [hg];rfl));refine ⟨g,0,hg,by have:=hlt.1;omega,by simp only [World.size_setCell];exact hlt.2,fun j n hj=>?_⟩;obtain ⟨g',hg',c⟩:=kS ho (show (ivK (t::T))[j]? = some (.int .i64 n) by rw [List.getElem?_map,hj];rfl);rw [hg] at hg';cases hg';rw [Nat.zero_add]
   exact (((((aE.refl (· = w.heap.size+1) V).setCell (p:=⟨w.heap.size+1,0,none⟩) (.inl rfl) u0).setCell (p:=⟨w.heap.size+1,1,none⟩) (.inl rfl) u1).setCell (p:=⟨w.heap.size+1,2,none⟩) (.inl rfl) u2).setCell (p:=⟨w.heap.size+1,3,none⟩) (.inl rfl) u3).cell c (fun e=>by
    have h1:=hlt.1;simp only at e;omega)
theorem Hf {f:Nat} {args:Array Value} {w:World} {Q:Ending->World->Prop} (h:CallsIn Fence.wide 4 Tryz.prog f args w Q):Calls Tryz.prog f args w Q:=callsIn_wide.1 h
theorem KQ {G:Nat->Prop} (x:AG) (p:PA) (rs:List RW) (ya:Option Addr) (yc:Nat) (w:World) (h:jT x=0) (hn:oL x) (hS:SzG x) (hU:∀ r∈rs,j5 r.A r.n r.g) (hl:rs.length<=1000) (hr:aP G w x p) (hy:dR w ya rs) (hc:x.fn.data.toList=aQ) :
 Calls Tryz.prog 20 #[agV x p,.slice ya rs.length yc] w (Cv (evG x (rs.map RW.g)) w):=by
 have hX:=Bk h hn hS;have gCount:(x.fn.toList == [99,111,117,110,116])=true:=bT (by rw [hc];decide);have gSum:(x.fn.toList == [115,117,109])=false:=aM (by rw [hc];decide);have gTop:(x.fn.toList == [116,111,112])=false:=aM (by rw [hc];decide);have gMin:(x.fn.toList == [109,105,110])=false:=aM (by rw [hc];decide);have gMax:(x.fn.toList == [109,97,120])=false:=aM (by rw [hc];decide);have gFirst:(x.fn.toList == [102,105,114,115,116])=false:=aM (by rw [hc];decide);have hr':aP (fun b=>b<w.heap.size) w x p:=hr.imp (fun b hb _=>hb);have E0:=xT hr';have K1:=hX.l;obtain ⟨L,hL⟩:=pR _ (wV hX hU)
 have hLl:L.length<=1000:=by
  have h1:(iT x (rs.map RW.g)).length<=(rs.map RW.g).length:=List.length_filterMap_le ..;rw [<- hL,List.length_map,List.length_map] at h1;omega
 have hcl:=EW hc (rs.map RW.g)
 rw [show ((iK x (rs.map RW.g)).length:Int)=(L.length:Int) by
  have h1:=congrArg List.length (hL.trans (A7 hc _));rw [List.length_map,List.length_map] at h1;rw [h1]] at hcl
 rw [hcl];have HX:=aA hX;have HU:=aA hU;have HL:=aA hL;have HLl:=aA hLl;have HY:=aA (fun V (hV:Below w.heap.size w V)=>fF hy hV);have CK:=aA (fun V (rd:aP (fun b=>b<w.heap.size) V x p)=>gZ x p V hS (by omega) rd);rw [h] at CK;generalize hW1:w.alloc (agP x p)=W1 at E0;generalize hW:W1.alloc (vlA 0 0 none 0 0)=W at E0;have HW1:=aA hW1;have HW:=aA hW;have HK:=aA E0;clear hW1 hW E0 h hn hS hU hr hr' hy hX hL hLl hcl;obtain ⟨m0,m1,m2,m3,m4,m5,m6,m7,m8,m9,m10⟩:=aC HK.out.k.n;go_enter Tryz.func20,Tryz.ntmps20
 go_upto_region 1 with fail
 rw [show w.alloc (.cells #[.string x.fn,.int .i64 x.k,.string x.e.op,.string x.e.nm,.int .i64 x.e.n,.slice p.ea x.e.ks.len p.ec,.string x.g.op,.string x.g.nm,.int .i64 x.g.n,.slice p.ga x.g.ks.len p.gc,.slice p.wa x.wh.length p.wc] 28)=W1 from HW1.out,show W1.alloc (.cells #[.int .i64 0,.int .i64 0,.string ⟨#[]⟩,.slice none 0 0] 53)=W from HW.out];go_wp2_with fail
 refine (CK.out _ HK.out.k.r).mono ?_;rintro e w1 ⟨rfl,hb1⟩;have K1:=aA (HK.out.step hb1);clear hb1 m0 m1 m2 m3 m4 m5 m6 m7 m8 m9 m10;obtain ⟨m0,m1,m2,m3,m4,m5,m6,m7,m8,m9,m10⟩:=aC K1.out.k.n;have TO:=aA (mK x p rs ya yc w1 K1.out.k.r (HY.out _ K1.out.k.b));go_wp2_with fail
 refine TO.out.mono ?_;rintro e w2 ⟨bl,ba,bp,rfl,ta,hb2⟩;have TA:=aA ta;have K2:=aA (K1.out.step hb2);clear hb2 ta TO m0 m1 m2 m3 m4 m5 m6 m7 m8 m9 m10;obtain ⟨m0,m1,m2,m3,m4,m5,m6,m7,m8,m9,m10⟩:=aC K2.out.k.n
 have FD:=aA (Hf (GQ bl ba bp L w2 w2 HLl.out (mJ 2 HX.out HU.out (by omega) TA.out L HL.out) (Below.refl _ _) (fun pre:List Q64=>(pre.length:Int)) rfl (fun pre q V hlt=>by
  have h9:=HLl.out;refine (DB (pre.length:Int) q.1.1 q.1.2 V (by omega) (by omega)).mono ?_;rintro e V' ⟨rfl,hb⟩;exact ⟨by simp,hb⟩)))
 go_wp2_with fail
 refine FD.out.mono ?_;rintro e w3 ⟨rfl,hb3⟩;have K3:=aA (K2.out.step hb3);clear hb3 FD m0 m1 m2 m3 m4 m5 m6 m7 m8 m9 m10;obtain ⟨m0,m1,m2,m3,m4,m5,m6,m7,m8,m9,m10⟩:=aC K3.out.k.n;have NU:=aA (fun V=>rJ ((L.length:Int)) V);go_wp2_with fail
 refine (NU.out _).mono ?_;rintro e w4 ⟨rfl,hb4⟩;have K4:=aA (K3.out.step hb4);clear hb4 NU m0 m1 m2 m3 m4 m5 m6 m7 m8 m9 m10;obtain ⟨⟨o0,o1,o2,o3⟩,z0,z1,z2,z3⟩:=aK K4.out.o;go_wp2_with fail
 obtain ⟨⟨y0,y1,y2,y3⟩, -⟩:=aK (aV K4.out.o (.int .i64 1) (.int .i64 ((L.length:Int))) (.string ⟨#[]⟩) (.slice none 0 0));exact bodyPost_ret (v:=.tuple #[vlV 1 ((L.length:Int)) none 0 0,.bool true]) (by simp [results,Tryz.results20,go_sem,y0,y1,y2,y3]) rfl ⟨K4.out.put _ _ _ _,rfl⟩
theorem IE {G:Nat->Prop} (x:AG) (p:PA) (rs:List RW) (ya:Option Addr) (yc:Nat) (w:World) (h:jT x=0) (hn:oL x) (hS:SzG x) (hU:∀ r∈rs,j5 r.A r.n r.g) (hl:rs.length<=1000) (hr:aP G w x p) (hy:dR w ya rs) (hc:x.fn.data.toList=mG) :
 Calls Tryz.prog 20 #[agV x p,.slice ya rs.length yc] w (Cv (evG x (rs.map RW.g)) w):=by
 have hX:=Bk h hn hS;have gCount:(x.fn.toList == [99,111,117,110,116])=false:=aM (by rw [hc];decide);have gSum:(x.fn.toList == [115,117,109])=true:=bT (by rw [hc];decide);have gTop:(x.fn.toList == [116,111,112])=false:=aM (by rw [hc];decide);have gMin:(x.fn.toList == [109,105,110])=false:=aM (by rw [hc];decide);have gMax:(x.fn.toList == [109,97,120])=false:=aM (by rw [hc];decide);have gFirst:(x.fn.toList == [102,105,114,115,116])=false:=aM (by rw [hc];decide);have hr':aP (fun b=>b<w.heap.size) w x p:=hr.imp (fun b hb _=>hb);have E0:=xT hr';have K1:=hX.l;obtain ⟨L,hL⟩:=pR _ (wV hX hU)
 have hLl:L.length<=1000:=by
  have h1:(iT x (rs.map RW.g)).length<=(rs.map RW.g).length:=List.length_filterMap_le ..;rw [<- hL,List.length_map,List.length_map] at h1;omega
 have hcl:=Jh hc (rs.map RW.g);rw [<- JP (GJ (hL.trans (FH (by rw [hc];decide) (by rw [hc];decide) _)))] at hcl;rw [hcl];have HX:=aA hX;have HU:=aA hU;have HL:=aA hL;have HLl:=aA hLl;have HY:=aA (fun V (hV:Below w.heap.size w V)=>fF hy hV);have CK:=aA (fun V (rd:aP (fun b=>b<w.heap.size) V x p)=>gZ x p V hS (by omega) rd);rw [h] at CK;generalize hW1:w.alloc (agP x p)=W1 at E0;generalize hW:W1.alloc (vlA 0 0 none 0 0)=W at E0;have HW1:=aA hW1;have HW:=aA hW;have HK:=aA E0;clear hW1 hW E0 h hn hS hU hr hr' hy hX hL hLl hcl;obtain ⟨m0,m1,m2,m3,m4,m5,m6,m7,m8,m9,m10⟩:=aC HK.out.k.n;go_enter Tryz.func20,Tryz.ntmps20
 go_upto_region 1 with fail
 rw [show w.alloc (.cells #[.string x.fn,.int .i64 x.k,.string x.e.op,.string x.e.nm,.int .i64 x.e.n,.slice p.ea x.e.ks.len p.ec,.string x.g.op,.string x.g.nm,.int .i64 x.g.n,.slice p.ga x.g.ks.len p.gc,.slice p.wa x.wh.length p.wc] 28)=W1 from HW1.out,show W1.alloc (.cells #[.int .i64 0,.int .i64 0,.string ⟨#[]⟩,.slice none 0 0] 53)=W from HW.out];go_wp2_with fail
 refine (CK.out _ HK.out.k.r).mono ?_;rintro e w1 ⟨rfl,hb1⟩;have K1:=aA (HK.out.step hb1);clear hb1 m0 m1 m2 m3 m4 m5 m6 m7 m8 m9 m10;obtain ⟨m0,m1,m2,m3,m4,m5,m6,m7,m8,m9,m10⟩:=aC K1.out.k.n;have TO:=aA (mK x p rs ya yc w1 K1.out.k.r (HY.out _ K1.out.k.b));go_wp2_with fail
 refine TO.out.mono ?_;rintro e w2 ⟨bl,ba,bp,rfl,ta,hb2⟩;have TA:=aA ta;have K2:=aA (K1.out.step hb2);clear hb2 ta TO m0 m1 m2 m3 m4 m5 m6 m7 m8 m9 m10;obtain ⟨m0,m1,m2,m3,m4,m5,m6,m7,m8,m9,m10⟩:=aC K2.out.k.n
 have FD:=aA (Hf (GO bl ba bp L w2 w2 HLl.out (mJ 2 HX.out HU.out (by omega) TA.out L HL.out) (Below.refl _ _) uP rfl (fun pre q V _=>by
  refine (DA (uP pre) q.1.1 q.1.2 V (Ij pre) q.2.1).mono ?_;rintro e V' ⟨rfl,hb⟩;exact ⟨by rw [Dx],hb⟩)))
 go_wp2_with fail
 refine FD.out.mono ?_;rintro e w3 ⟨rfl,hb3⟩;have K3:=aA (K2.out.step hb3);clear hb3 FD m0 m1 m2 m3 m4 m5 m6 m7 m8 m9 m10;obtain ⟨m0,m1,m2,m3,m4,m5,m6,m7,m8,m9,m10⟩:=aC K3.out.k.n;have NU:=aA (fun V=>rJ (uP L) V);go_wp2_with fail
 refine (NU.out _).mono ?_;rintro e w4 ⟨rfl,hb4⟩;have K4:=aA (K3.out.step hb4);clear hb4 NU m0 m1 m2 m3 m4 m5 m6 m7 m8 m9 m10;obtain ⟨⟨o0,o1,o2,o3⟩,z0,z1,z2,z3⟩:=aK K4.out.o;go_wp2_with fail
 obtain ⟨⟨y0,y1,y2,y3⟩, -⟩:=aK (aV K4.out.o (.int .i64 1) (.int .i64 (uP L)) (.string ⟨#[]⟩) (.slice none 0 0));exact bodyPost_ret (v:=.tuple #[vlV 1 (uP L) none 0 0,.bool true]) (by simp [results,Tryz.results20,go_sem,y0,y1,y2,y3]) rfl ⟨K4.out.put _ _ _ _,rfl⟩
theorem ID {G:Nat->Prop} (x:AG) (p:PA) (rs:List RW) (ya:Option Addr) (yc:Nat) (w:World) (h:jT x=0) (hn:oL x) (hS:SzG x) (hU:∀ r∈rs,j5 r.A r.n r.g) (hl:rs.length<=1000) (hr:aP G w x p) (hy:dR w ya rs) (hc:x.fn.data.toList=cQ) :
 Calls Tryz.prog 20 #[agV x p,.slice ya rs.length yc] w (Cv (evG x (rs.map RW.g)) w):=by
 have hX:=Bk h hn hS;have gCount:(x.fn.toList == [99,111,117,110,116])=false:=aM (by rw [hc];decide);have gSum:(x.fn.toList == [115,117,109])=false:=aM (by rw [hc];decide);have gTop:(x.fn.toList == [116,111,112])=true:=bT (by rw [hc];decide);have gMin:(x.fn.toList == [109,105,110])=false:=aM (by rw [hc];decide);have gMax:(x.fn.toList == [109,97,120])=false:=aM (by rw [hc];decide);have gFirst:(x.fn.toList == [102,105,114,115,116])=false:=aM (by rw [hc];decide);have hr':aP (fun b=>b<w.heap.size) w x p:=hr.imp (fun b hb _=>hb);have E0:=xT hr';have K1:=hX.l;obtain ⟨L,hL⟩:=pR _ (wV hX hU)
 have hLl:L.length<=1000:=by
  have h1:(iT x (rs.map RW.g)).length<=(rs.map RW.g).length:=List.length_filterMap_le ..;rw [<- hL,List.length_map,List.length_map] at h1;omega
 obtain ⟨hk1,hk2⟩:=(fX h).2.1 hc;obtain ⟨most,hK⟩:∃ most:Nat,x.k=(most:Int):=⟨x.k.toNat,by omega⟩;have hcl:=Jg hc (rs.map RW.g);rw [show x.k.toNat=most by omega] at hcl;have hto:=JM (GJ (hL.trans (FH (by rw [hc];decide) (by rw [hc];decide) _))) most;unfold iG at hto;rw [<- hto] at hcl;obtain ⟨T,hT⟩:∃ T,qJ most L=T:=⟨_,rfl⟩;rw [hT] at hcl;obtain ⟨R,hR⟩:∃ R,evG x (rs.map RW.g)=R:=⟨_,rfl⟩;rw [hR] at hcl |-
 have HR:=aA hcl;have HKK:=aA hK;have HT:=aA hT;have HK1:=aA (show 1<=most/\most<=1000 by omega);clear hR hK hT hk1 hk2 hto;have HX:=aA hX;have HU:=aA hU;have HL:=aA hL;have HLl:=aA hLl;have HY:=aA (fun V (hV:Below w.heap.size w V)=>fF hy hV);have CK:=aA (fun V (rd:aP (fun b=>b<w.heap.size) V x p)=>gZ x p V hS (by omega) rd);rw [h] at CK;generalize hW1:w.alloc (agP x p)=W1 at E0;generalize hW:W1.alloc (vlA 0 0 none 0 0)=W at E0;have HW1:=aA hW1;have HW:=aA hW;have HK:=aA E0;clear hW1 hW E0 h hn hS hU hr hr' hy hX hL hLl hcl;obtain ⟨m0,m1,m2,m3,m4,m5,m6,m7,m8,m9,m10⟩:=aC HK.out.k.n;go_enter Tryz.func20,Tryz.ntmps20
 go_upto_region 1 with fail
 rw [show w.alloc (.cells #[.string x.fn,.int .i64 x.k,.string x.e.op,.string x.e.nm,.int .i64 x.e.n,.slice p.ea x.e.ks.len p.ec,.string x.g.op,.string x.g.nm,.int .i64 x.g.n,.slice p.ga x.g.ks.len p.gc,.slice p.wa x.wh.length p.wc] 28)=W1 from HW1.out,show W1.alloc (.cells #[.int .i64 0,.int .i64 0,.string ⟨#[]⟩,.slice none 0 0] 53)=W from HW.out];go_wp2_with fail
 refine (CK.out _ HK.out.k.r).mono ?_;rintro e w1 ⟨rfl,hb1⟩;have K1:=aA (HK.out.step hb1);clear hb1 m0 m1 m2 m3 m4 m5 m6 m7 m8 m9 m10;obtain ⟨m0,m1,m2,m3,m4,m5,m6,m7,m8,m9,m10⟩:=aC K1.out.k.n;have TO:=aA (mK x p rs ya yc w1 K1.out.k.r (HY.out _ K1.out.k.b));go_wp2_with fail
 refine TO.out.mono ?_;rintro e w2 ⟨bl,ba,bp,rfl,ta,hb2⟩;have TA:=aA ta;have K2:=aA (K1.out.step hb2);clear hb2 ta TO m0 m1 m2 m3 m4 m5 m6 m7 m8 m9 m10;obtain ⟨m0,m1,m2,m3,m4,m5,m6,m7,m8,m9,m10⟩:=aC K2.out.k.n;have FD:=aA (Hf (GN bl ba bp w.heap.size x p most L w2 w2 HKK.out HK1.out.1 HK1.out.2 K2.out.k.n (mJ 2 HX.out HU.out (by omega) TA.out L HL.out) (Below.refl _ _)));rw [HT.out] at FD;go_wp2_with fail
 refine FD.out.mono ?_;rintro e w3 ⟨v,rfl,ro,hb3⟩;obtain ⟨va,vc,rfl⟩:=cX ro;have HRO:=aA ro;have K3:=aA (K2.out.step hb3);have HB2:=aA K2.out.k.z;have HN2:=aA (aG K2.out.o);clear hb3 FD ro m0 m1 m2 m3 m4 m5 m6 m7 m8 m9 m10;obtain ⟨⟨o0,o1,o2,o3⟩,z0,z1,z2,z3⟩:=aK K3.out.o;go_wp2_with fail
 obtain ⟨⟨y0,y1,y2,y3⟩, -⟩:=aK (aV K3.out.o (.int .i64 3) (.int .i64 0) (.string ⟨#[]⟩) (.slice va T.length vc));refine bodyPost_ret (v:=.tuple #[vlV 3 0 va T.length vc,.bool true]) (by simp [results,Tryz.results20,go_sem,y0,y1,y2,y3]) rfl (by rw [HR.out];refine ⟨K3.out.put _ _ _ _,va,vc,rfl,Ls HN2.out HRO.out⟩)
def Oth (b:Nat) (w w':World):Prop:=∀ (k:Nat) (cs:Array Value) (t:TypeId),k ≠ b->t ≠ 5->w.heap[k]? = some (.cells cs t (0,0))->w'.heap[k]? = some (.cells cs t (0,0))
theorem Jt:(Tryz.prog.info? 112).map (·.size)=some 2:=by kernel_rfl
theorem Ju:liesAt Tryz.prog Tryz.prog.depth 112 (2 / Tryz.prog.cellsOf 112) 0 112 1=true:=by kernel_rfl
theorem Jv:(Tryz.prog.info? 5).map (fun i=>(i.zero,i.size,i.bytes))=some (some (.int .u8 0),1,1):=by kernel_rfl
theorem Cm (B b:Nat) (bs:List Value) (w:World) (h:Bd B b bs w):Calls Tryz.prog 98 #[.pointer (some ⟨b,0,none⟩)] w fun e w' =>
 e=.returned (.tuple #[])/\Lib.BuilderAt 112 5 B b (.pointer (some ⟨b,0,none⟩)) bs w'/\Below B w w'/\Oth b w w':=by
 obtain ⟨j,hj,hjs⟩:=Option.map_eq_some_iff.1 Jt;rcases h with h | h
 · have h0:=h.cell0
   have hf:=h.frozen0;have hsh:=h.shape;have H:=aA h;clear h;go_enter Tryz.func98,Tryz.ntmps98
   go_wp2
   rw [Lib.run_to_unsafe w ⟨b,0,none⟩ Tryz.underlying109 Tryz.underlying210 hj (by rw [hjs];decide) hsh (Nat.zero_lt_succ 1)];simp only [Result.andThen];rw [Oper.upon_value];go_wp2
   rw [run_callFunc_extern Tryz.func143 (by kernel_rfl) (by kernel_rfl) (by kernel_rfl) (e:=Extern.AbiNoEscape.same) (by kernel_rfl)];rw [Lib.run_noEscape];simp only [Result.andThen];rw [Oper.upon_value];go_wp2
   rw [Lib.run_from_unsafe w ⟨b,0,none⟩ Tryz.underlying210 Tryz.underlying109 hj hsh Ju];simp only [Result.andThen];rw [Oper.upon_value];go_wp2
   go_end0
   exact ⟨rfl,H.out.used _,(Below.refl B w).setCell (p:=⟨b,0,none⟩) H.out.1 _,fun k cs t hk _ h=>(Below.heap_setCell _ ⟨b,0,none⟩ _ k hk).trans h⟩
 · have h0:=h.cell0
   have H:=aA h;clear h;go_enter Tryz.func98,Tryz.ntmps98
   go_wp2
   rw [Lib.run_neq_ptr_same w _ Tryz.underlying109 hj];go_wp2
   go_end0
   exact ⟨rfl,H.out,Below.refl B _,fun _ _ _ _ _ h=>h⟩
theorem Hg {w:World} {B:Nat} {e:TypeId} {v:Value} {n:Nat} {xs:List Value} (h:w.ownsRow B e 1 v n xs):∃ a l c,v=.slice a l c:=by
 rcases h.2 with ⟨h,_⟩ | ⟨g,cap,_,h,_⟩
 · exact ⟨_,_,_,h⟩
 · exact ⟨_,_,_,h⟩
theorem wW (s:ByteArray):(Lib.strCells s).length=s.size:=by simp [Lib.strCells]
theorem Kv {B b n:Nat} {bs bs':List Value} {v v':Value} {w w1 w2 w3:World} (hB:B<=b) (hown:w1.ownsRow B 5 1 v n bs) (hoth:Oth b w w1) (hk2:∀ k,k<w1.heap.size->w2.heap[k]? = w1.heap[k]?) (hs2:w1.heap.size<=w2.heap.size) (hb:w1.heap[b]? = some (.cells #[.pointer (some ⟨b,0,none⟩),v] 112 (0,0))) (hne:v.ownBlock ≠ some b)
 (b1:Below B w w1) (b2:Below B w1 w2) (hk:w2.heap[b]? = w1.heap[b]?) (hv:∀ k,v.ownBlock=some k->B<=k) (hBw:B<=w2.heap.size) (ho:w3.ownsRow B 5 1 v' bs'.length bs') (hg:w2.grownBy w3 v.ownBlock) :
 (w3.cell? ⟨b,0,none⟩=some (.pointer (some ⟨b,0,none⟩))/\w3.cell? ⟨b,1,none⟩=some v/\w3.frozen? ⟨b,1,none⟩=false)/\Bd B b bs' (w3.setCell ⟨b,1,none⟩ v')/\Below B w (w3.setCell ⟨b,1,none⟩ v')/\Oth b w (w3.setCell ⟨b,1,none⟩ v'):=by
 have hlt:b<w2.heap.size:=by
  rcases Nat.lt_or_ge b w2.heap.size with h' | h'
  · exact h'
  · rw [<- hk] at hb;simp [Array.getElem?_eq_none h'] at hb
 have hb3:w3.heap[b]? = some (.cells #[.pointer (some ⟨b,0,none⟩),v] 112 (0,0)):=by rw [hg.block b hlt (fun e=>hne e.symm),hk];exact hb
 refine ⟨⟨by rw [Lib.cell_of_heap hb3];rfl,by rw [Lib.cell_of_heap hb3];rfl,Lib.frozen_of_heap hb3 1⟩,.inr (Lib.BuilderAt.put hB hb3 ho (by decide)),?_⟩;refine ⟨((b1.trans b2).grown hg hBw hv).setCell (p:=⟨b,1,none⟩) hB _,fun k cs t hkb ht h=>?_⟩;have h1:=hoth k cs t hkb ht h;have hl1:=lt_of_block h1;rw [Below.heap_setCell _ ⟨b,1,none⟩ _ k hkb,hg.block k (by omega) (fun e=>?_),hk2 k hl1]
 · exact h1
 · rcases hown.2 with ⟨hv0,_⟩ | ⟨g,cap,cur,hv0,_,hgg,_⟩
   · rw [hv0] at e;cases e
   · rw [hv0] at e
     obtain rfl:k=g:=by simpa [Value.ownBlock] using e
     rw [h1] at hgg;simp only [Option.some.injEq,Obj.cells.injEq] at hgg;exact ht hgg.2.1
theorem xZ (B b:Nat) (bs:List Value) (s:ByteArray) (w:World) (h:Bd B b bs w) (hl:bs.length+s.size<=1000000000) (hBw:B<=w.heap.size) :
 Calls Tryz.prog 49 #[.pointer (some ⟨b,0,none⟩),.string s] w fun e w'=>e=.returned (.tuple #[.int .i64 s.size,.nilIface])/\Bd B b (bs++Lib.strCells s) w'/\Below B w w'/\Oth b w w':=by
 obtain ⟨i0,hi,hz0,hz1,hz2⟩:=info_parts Jv;have C:=aA (Cm B b bs w h);clear h;go_enter Tryz.func49,Tryz.ntmps49
 go_wp2_with fail
 refine C.out.mono ?_;rintro e w1 ⟨rfl,⟨hB,v,hbk,hown,hne⟩,hb1,ho1⟩;have c0:w1.cell? ⟨b,0,none⟩=some (.pointer (some ⟨b,0,none⟩)):=by rw [Lib.cell_of_heap hbk];rfl
 have c1:w1.cell? ⟨b,1,none⟩=some v:=by rw [Lib.cell_of_heap hbk];rfl
 have H1:=aA (And.intro hbk (And.intro hown (And.intro hne (And.intro hb1 ho1))));have hz:=hb1.size;clear hbk hown hne hb1 ho1 C;go_wp2_with (at_builtin;refine Lib.wpList_append_own_string _ rfl _ _ 110 9 rfl B 5 i0 Tryz.underlying110 Tryz.underlying9 hi hz0 hz1 hz2 v bs.length bs rfl H1.out.2.1 s rfl (by unfold maxLen;omega) (by omega) (by omega) ?_)
 intro v' w2 ho hg _;obtain ⟨ao,no,co,rfl⟩:=Hg ho;obtain ⟨⟨d0,d1,f1⟩,hbd,hbel,hoth⟩:=Kv (bs':=bs++Lib.strCells s) hB H1.out.2.1 H1.out.2.2.2.2 (fun _ _=>rfl) (Nat.le_refl _) H1.out.1 H1.out.2.2.1 H1.out.2.2.2.1 (Below.refl B w1) rfl (fun k hk=>(H1.out.2.1.lt k hk).1) (by omega) (by rw [List.length_append,wW];exact ho) hg;have R:=aA (And.intro hbd (And.intro hbel hoth));clear ho hg hbd hbel hoth c0 c1;go_wp2
 go_ret2;exact ⟨rfl,R.out.1,R.out.2⟩
theorem Kw {B b:Nat} {bs:List Value} {w w':World} (h:Bd B b bs w) (hb:Below w.heap.size w w'):Bd B b bs w':=by
 have one:∀ p,Lib.BuilderAt 112 5 B b p bs w->Lib.BuilderAt 112 5 B b p bs w':=fun p ⟨hB,v,hk,ho,hne⟩ =>
  ⟨hB,v,(hb.block b (lt_of_block hk)).trans hk,ho.kept (row:=none) ⟨hb.os,hb.tape,hb.output,hb.size,fun k hk _=>hb.block k hk⟩ (by cases v.ownBlock <;> simp),hne⟩
 rcases h with h | h
 · exact .inl (one _ h)
 · exact .inr (one _ h)
theorem Jw {B b:Nat} {bs:List Value} {w:World} (h:Bd B b bs w):b<w.heap.size:=by
 rcases h with h | h
 · exact h.lt
 · exact h.lt
theorem uZ (l:List UInt8) (s:ByteArray):Lib.byteCells l++Lib.strCells s=Lib.byteCells (l++s.data.toList):=by simp [Lib.byteCells,Lib.strCells]
abbrev txB (l:List UInt8):ByteArray:=⟨l.toArray⟩
def gJ (x:AG):List ByteArray:=if kP x.fn.data.toList=true then [txB (Lib.itoa x.k)] else []
def iS (x:AG):List ByteArray:=if eP x.fn.data.toList=true then gJ x++[txB (bU x.e)] else gJ x
def j4 (x:AG):List ByteArray:=if bP x.fn.data.toList=true then iS x++[txB (bU x.g)] else iS x
theorem Fm (x:AG) (hf:dM x.fn.data.toList=true):Lib.join ((j4 x).map (·.data.toList)) [44,32]=sT x:=by
 unfold j4 iS gJ sT;obtain ⟨F,hF⟩:∃ F,x.fn.data.toList=F:=⟨_,rfl⟩;rw [hF] at hf |-
 have eE:eP F= !(F == aQ):=by unfold eP;rw [hf,Bool.true_and]
 by_cases hc:F=aQ
 · subst hc
   rfl
 · have h1:eP F=true:=by rw [eE,beq_eq_false_iff_ne.2 hc];rfl
   rw [if_neg hc,if_pos h1];by_cases ht:F=cQ
   · subst ht
     rw [if_pos rfl,if_neg (show ¬ bP cQ=true by decide),if_pos (show kP cQ=true by decide)];simp [Lib.join,txB]
   · rw [if_neg ht,if_neg (show ¬ kP F=true by unfold kP;rw [beq_eq_false_iff_ne.2 ht];decide)]
     by_cases hb:F=aW
     · subst hb
       rw [if_pos rfl,if_pos (show bP aW=true by decide)];simp [Lib.join,txB]
     · rw [if_neg hb,if_neg (show ¬ bP F=true by unfold bP;rw [beq_eq_false_iff_ne.2 hb];decide)]
       simp [Lib.join,txB]
theorem AM (x:AG):(gJ x).length<=1/\(iS x).length<=2/\(j4 x).length<=3:=by
 have h1:(gJ x).length<=1:=by unfold gJ;split <;> simp
 have h2:(iS x).length<=2:=by
  unfold iS;split
  · rw [List.length_append,List.length_singleton];omega
  · omega
 have h3:(j4 x).length<=3:=by
  unfold j4;split
  · rw [List.length_append,List.length_singleton];omega
  · omega
 exact ⟨h1,h2,h3⟩
structure TA (G:Nat->Prop) (w:World) (x:AG) (p:PA) (B:Nat) (v:Value) (L:List ByteArray) (V:World):Prop where
 k:KP9 G w x p V
 t:V.heap[B]? = some (ptO (kP x.fn.data.toList) (eP x.fn.data.toList) (bP x.fn.data.toList))
 own:V.ownsRow (B+1) 9 1 v L.length (L.map Value.string)
 lo:w.heap.size<B
theorem TA.step {G:Nat->Prop} {w:World} {x:AG} {p:PA} {B:Nat} {v:Value} {L:List ByteArray} {V V':World} (h:TA G w x p B v L V) (hb:Below V.heap.size V V'):TA G w x p B v L V' :=
 ⟨h.k.step hb,(hb.block _ (aG h.t)).trans h.t,bR h.own hb,h.lo⟩
theorem TA.push {G:Nat->Prop} {w:World} {x:AG} {p:PA} {B:Nat} {v v':Value} {L:List ByteArray} {s:ByteArray} {V V':World} (h:TA G w x p B v L V) (hG:∀ b,G b->b<w.heap.size) (ho:V'.ownsRow (B+1) 9 1 v' (L.length+1) (L.map Value.string++[.string s])) (hg:V.grownBy V' v.ownBlock):TA G w x p B v' (L++[s]) V':=by
 have hk:=(aE.refl (fun b=>v.ownBlock=some b) V).grown hg (fun k hk=>.inl hk);have hlo:=h.lo;have hB:=aG h.t;have lo:∀ b,v.ownBlock=some b->B+1<=b:=fun b hb=>(h.own.lt b hb).1
 refine ⟨⟨h.k.b.trans (hk.below (B:=w.heap.size) (fun b hb=>by have:=lo b hb;omega) h.k.z),Nat.le_trans h.k.z hk.size,hk.heap h.k.n (fun e=>by have:=lo _ e;omega),h.k.r.keptS hk (fun b hb hg=>by have:=lo b hb;have:=hG b hg;omega)⟩,hk.heap h.t (fun e=>by have:=lo _ e;omega),?_,hlo⟩;have e1:(L++[s]).length=L.length+1:=by simp
 have e2:(L++[s]).map Value.string=L.map Value.string++[.string s]:=by simp
 rw [e1,e2];exact ho
theorem GA:(Tryz.prog.info? 9).map (fun i=>(i.zero,i.size,i.bytes))=some (some (.string ⟨#[]⟩),1,16):=by kernel_rfl
theorem xJ (W:World) (v:Value) (t:TypeId):∀ j u,([v]:List Value)[j]? = some u->(W.alloc (.cells #[v] t)).cell? ((⟨W.heap.size,0,none⟩:Addr).add j)=some u:=fun j u hu=>by
 match j,hu with
 | 0, h =>
   cases h;rw [Addr.add_lit];unfold World.cell?;rw [heap_alloc_new];rfl
 | n+1,h=>simp at h
theorem Fk {G:Nat->Prop} (x:AG) (p:PA) (w:World) (he:jT x=0) (hn:oL x) (hl:j6 w) (hr:aP G w x p) :
 Calls Tryz.prog 51 #[agV x p] w fun e w'=>Below w.heap.size w w'/\∃ v,e=.returned v/\w'.ownsRow w.heap.size 9 1 v (j4 x).length ((j4 x).map Value.string):=by
 obtain ⟨h1,h2,h3,h4,h5,h6⟩:=fX he;have hr':aP (fun b=>b<w.heap.size) w x p:=hr.imp (fun b hb _=>hb);have K0:=nS hr';have HL:=aA (fun V (hV:Below w.heap.size w V)=>hl.step hV);have AL:=aA (AM x);have HN:=aA hn;generalize hW:w.alloc (agP x p)=W at K0;have HW:=aA hW;have HK:=aA K0;have CP:=aA (i6 x.fn W);have EK1:=aA (show (kP x.fn.data.toList=true->1<=x.k/\x.k<=16) from fun h=>h2 (by unfold kP at h;simpa using h));have EK2:=aA (show (eP x.fn.data.toList=true->aL x.e=0) from fun h=>h3 (by unfold eP at h;intro hc;rw [hc] at h;simp at h));have EK3:=aA (show (bP x.fn.data.toList=true->aL x.g=0) from fun h=>h4 (by unfold bP at h;simpa using h));unfold ptV at CP;have F1:∀ L,gJ x=L->gJ x=L:=fun _ h=>h
 have D1:=aA (show gJ x=if kP x.fn.data.toList=true then [txB (Lib.itoa x.k)] else [] from rfl);have D2:=aA (show iS x=if eP x.fn.data.toList=true then gJ x++[txB (bU x.e)] else gJ x from rfl);have D3:=aA (show j4 x=if bP x.fn.data.toList=true then iS x++[txB (bU x.g)] else iS x from rfl);have DT:=aA (fun B v L V=>@TA.mk (fun b=>b<w.heap.size) w x p B v L V);have TQ:=aA (fun B v L V (h:TA (fun b=>b<w.heap.size) w x p B v L V)=>h.t);obtain ⟨kk,hkk⟩:∃ b,kP x.fn.data.toList=b:=⟨_,rfl⟩;obtain ⟨ee,hee⟩:∃ b,eP x.fn.data.toList=b:=⟨_,rfl⟩;obtain ⟨bb,hbb⟩:∃ b,bP x.fn.data.toList=b:=⟨_,rfl⟩;rw [hkk,hee,hbb] at CP TQ DT;rw [hkk] at D1 EK1;rw [hee] at D2 EK2;rw [hbb] at D3 EK3;clear hW K0 hr hr' hn hl he h1 h2 h3 h4 h5 h6 F1 hkk hee hbb;obtain ⟨m0,m1,m2,m3,m4,m5,m6,m7,m8,m9,m10⟩:=aC HK.out.n;have und:=Tryz.underlying118;obtain ⟨i,hi,hz0,hz1,hz2⟩:=info_parts GA;go_enter Tryz.func51,Tryz.ntmps51
 go_upto_region 1 with fail
 rw [show w.alloc (.cells #[.string x.fn,.int .i64 x.k,.string x.e.op,.string x.e.nm,.int .i64 x.e.n,.slice p.ea x.e.ks.len p.ec,.string x.g.op,.string x.g.nm,.int .i64 x.g.n,.slice p.ga x.g.ks.len p.gc,.slice p.wa x.wh.length p.wc] 28)=W from HW.out];go_wp2_with fail
 refine CP.out.mono ?_;rintro e w1 ⟨rfl,hb1⟩;have K1:=HK.out.step hb1;have BA:=(Below.refl w1.heap.size w1).alloc (Nat.le_refl _) (ptO kk ee bb);have NA:=heap_alloc_new w1 (ptO kk ee bb);have K2:=aA (K1.step BA);have hlo:w.heap.size<w1.heap.size:=aG K1.n;clear hb1 K1 BA CP HK m0 m1 m2 m3 m4 m5 m6 m7 m8 m9 m10;go_upto_region 2 with fail
 generalize w1.alloc (ptO kk ee bb)=V at *;generalize w1.heap.size=B at *;go_cut [5] (fun v5 wc=>Hid (TA (fun b=>b<w.heap.size) w x p B v5 [] wc))
 case first =>
  have T0:=aA (DT.out B (.slice none 0 0) [] V K2.out NA ⟨rfl,.inl ⟨rfl,rfl⟩⟩ hlo);go_wp2_with fail
  go_meet;case rel=>exact T0
 case rest =>
 have T0:=hcut;clear K2 NA hcut;have K2:=aA T0.out.k;have NA:=TQ.out _ _ _ _ T0.out;obtain ⟨m0,m1,m2,m3,m4,m5,m6,m7,m8,m9,m10⟩:=aC K2.out.n;obtain ⟨⟨y0,y1,y2⟩, -⟩:=cV NA;clear NA K2;go_upto_if 13 with fail
 go_cut [5] (fun v5 wc=>Hid (TA (fun b=>b<w.heap.size) w x p B v5 (gJ x) wc))
 case first =>
  cases kk with
  | true =>
    have hk:=EK1.out rfl;have CF:=aA (tX x.k (by omega) (by omega) _ (HL.out _ T0.out.k.b));go_wp2_with fail
    refine CF.out.mono ?_;rintro e w7 ⟨rfl,hb7⟩;have BU:=(Below.refl w7.heap.size w7).alloc (Nat.le_refl _) (.cells #[.string (txB (Lib.itoa x.k))] 9);have T7:=aA ((T0.out.step hb7).step BU);have NU:=aA (xJ w7 (.string (txB (Lib.itoa x.k))) 9);have HBS:=aA (show B+1<=(w7.alloc (.cells #[.string (txB (Lib.itoa x.k))] 9)).heap.size from aG T7.out.t);clear hb7 BU CF T0 m0 m1 m2 m3 m4 m5 m6 m7 m8 m9 m10 y0 y1 y2
    go_wp2_with (first
     | (at_builtin
        refine aS rfl _ _ 118 rfl (base:=B+1) und hi hz0 hz1 hz2 rfl (by decide) u5 ([]:List ByteArray).length 1 1 ⟨w7.heap.size,0,none⟩ (([]:List ByteArray).map Value.string) [.string (txB (Lib.itoa x.k))] rfl rfl T7.out.own rfl NU.out (fun u hu=>by simp only [List.mem_singleton] at hu;subst hu;rfl) (by have:=AL.out;have l0:([]:List ByteArray).length=0:=rfl;unfold maxLen;omega) (by have:=AL.out;have l0:([]:List ByteArray).length=0:=rfl;omega) HBS.out ?_;intro v9 w9 ho hg hn;have T9:=aA (T7.out.push (fun _ h=>h) ho hg);clear ho hg hn T7 NU HBS)
     | fail)
    go_wp2_with fail
    go_meet
    case rel =>
     have:=T9;rw [show gJ x=[]++[txB (Lib.itoa x.k)] from D1.out];exact this
  | false =>
    go_wp2_with fail
    go_meet
    case rel =>
     have:=T0;rw [show gJ x=[] from D1.out];exact this
 case rest =>
  have T1:=hcut;clear T0 hcut m0 m1 m2 m3 m4 m5 m6 m7 m8 m9 m10 y0 y1 y2 D1;have NA:=TQ.out _ _ _ _ T1.out;obtain ⟨m0,m1,m2,m3,m4,m5,m6,m7,m8,m9,m10⟩:=aC T1.out.k.n;obtain ⟨⟨y0,y1,y2⟩, -⟩:=cV NA;go_upto_if 21 with fail
  go_cut [5] (fun v5 wc=>Hid (TA (fun b=>b<w.heap.size) w x p B v5 (iS x) wc))
  case first =>
   cases ee with
   | true =>
     have hk:=EK2.out rfl;obtain ⟨ok,sz⟩:=(bV x.e).1 hk;have CF:=aA (nJ x.e (fun b=>b<w.heap.size) _ p.ea p.ec ok HN.out.e sz (HL.out _ T1.out.k.b) T1.out.k.r.e);go_wp2_with fail
     refine CF.out.mono ?_;rintro e w7 ⟨rfl,hb7⟩;have BU:=(Below.refl w7.heap.size w7).alloc (Nat.le_refl _) (.cells #[.string (txB (bU x.e))] 9);have T7:=aA ((T1.out.step hb7).step BU);have NU:=aA (xJ w7 (.string (txB (bU x.e))) 9);have HBS:=aA (show B+1<=(w7.alloc (.cells #[.string (txB (bU x.e))] 9)).heap.size from aG T7.out.t);clear hb7 BU CF T1 m0 m1 m2 m3 m4 m5 m6 m7 m8 m9 m10 y0 y1 y2
     go_wp2_with (first
      | (at_builtin
         refine aS rfl _ _ 118 rfl (base:=B+1) und hi hz0 hz1 hz2 rfl (by decide) u5 (gJ x).length 1 1 ⟨w7.heap.size,0,none⟩ ((gJ x).map Value.string) [.string (txB (bU x.e))] rfl rfl T7.out.own rfl NU.out (fun u hu=>by simp only [List.mem_singleton] at hu;subst hu;rfl) (by have:=AL.out;have l0:([]:List ByteArray).length=0:=rfl;unfold maxLen;omega) (by have:=AL.out;have l0:([]:List ByteArray).length=0:=rfl;omega) HBS.out ?_;intro v9 w9 ho hg hn;have T9:=aA (T7.out.push (fun _ h=>h) ho hg);clear ho hg hn T7 NU HBS)
      | fail)
     go_wp2_with fail
     go_meet
     case rel =>
      have:=T9;rw [show iS x=gJ x++[txB (bU x.e)] from D2.out];exact this
   | false =>
     go_wp2_with fail
     go_meet
     case rel =>
      have:=T1;rw [show iS x=gJ x from D2.out];exact this
  case rest =>
   have T2:=hcut;clear T1 NA hcut m0 m1 m2 m3 m4 m5 m6 m7 m8 m9 m10 y0 y1 y2 D2;have NA:=TQ.out _ _ _ _ T2.out;obtain ⟨m0,m1,m2,m3,m4,m5,m6,m7,m8,m9,m10⟩:=aC T2.out.k.n;obtain ⟨⟨y0,y1,y2⟩, -⟩:=cV NA;cases bb with
   | true =>
     have hk:=EK3.out rfl;obtain ⟨ok,sz⟩:=(bV x.g).1 hk;have CF:=aA (nJ x.g (fun b=>b<w.heap.size) _ p.ga p.gc ok HN.out.g sz (HL.out _ T2.out.k.b) T2.out.k.r.g);go_wp2_with fail
     refine CF.out.mono ?_;rintro e w7 ⟨rfl,hb7⟩;have BU:=(Below.refl w7.heap.size w7).alloc (Nat.le_refl _) (.cells #[.string (txB (bU x.g))] 9);have T7:=aA ((T2.out.step hb7).step BU);have NU:=aA (xJ w7 (.string (txB (bU x.g))) 9);have HBS:=aA (show B+1<=(w7.alloc (.cells #[.string (txB (bU x.g))] 9)).heap.size from aG T7.out.t);clear hb7 BU CF T2 m0 m1 m2 m3 m4 m5 m6 m7 m8 m9 m10 y0 y1 y2
     go_wp2_with (first
      | (at_builtin
         refine aS rfl _ _ 118 rfl (base:=B+1) und hi hz0 hz1 hz2 rfl (by decide) u5 (iS x).length 1 1 ⟨w7.heap.size,0,none⟩ ((iS x).map Value.string) [.string (txB (bU x.g))] rfl rfl T7.out.own rfl NU.out (fun u hu=>by simp only [List.mem_singleton] at hu;subst hu;rfl) (by have:=AL.out;have l0:([]:List ByteArray).length=0:=rfl;unfold maxLen;omega) (by have:=AL.out;have l0:([]:List ByteArray).length=0:=rfl;omega) HBS.out ?_;intro v9 w9 ho hg hn;have T9:=aA (T7.out.push (fun _ h=>h) ho hg);clear ho hg hn T7 NU HBS)
      | fail)
     have D4:=aA (show j4 x=iS x++[txB (bU x.g)] from D3.out);go_wp2_with fail
     go_ret;refine ⟨T9.out.k.b,_,rfl,?_⟩;rw [D4.out];exact f6 T9.out.own (by have:=T9.out.lo;omega)
   | false =>
     have D4:=aA (show j4 x=iS x from D3.out);go_wp2_with fail
     go_ret;refine ⟨T2.out.k.b,_,rfl,?_⟩;rw [D4.out];exact f6 T2.out.own (by have:=T2.out.lo;omega)
theorem Er (L:List ByteArray) (v:Value) (B:Nat) (sep:ByteArray) (w:World) (ho:w.ownsRow B 9 1 v L.length (L.map Value.string)) (hN:L.length<=1000) (hlen:(Lib.join (L.map (·.data.toList)) sep.data.toList).length<=100000) :
 Calls Tryz.prog 50 #[v,.string sep] w fun e w'=>e=.returned (.string (txB (Lib.join (L.map (·.data.toList)) sep.data.toList)))/\Below w.heap.size w w':=by
 obtain ⟨a,c,rfl⟩:=cX ho;have hc:=(F0 ho).1;cases L with
 | nil=>exact (Tryz.strings_Join_none a c sep w).mono fun e w' ⟨he,hw⟩=>⟨he,hw ▸ Below.refl _ _⟩
 | cons s r =>
   obtain ⟨g,rfl,c0⟩:=kS (j:=0) (u:=.string s) ho rfl;have hlt:g<w.heap.size:=by have:=World.block_lt_of_cell? w _ c0;simpa using this
   exact Tryz.strings_Join g 0 c (s::r) sep w (fun j y hj=>by
    obtain ⟨g',hg',cj⟩:=kS (j:=j) (u:=.string y) ho (by rw [List.getElem?_map,hj];rfl);cases hg';rw [Nat.zero_add];exact cj) hlt (by omega) hc (by omega)
structure TX (w:World) (x:AG) (p:PA) (l:List UInt8) (V:World):Prop where
 k:KP9 (fun b=>b<w.heap.size) w x p V
 bd:Bd (w.heap.size+1) (w.heap.size+1) (Lib.byteCells l) V
theorem TX.step {w:World} {x:AG} {p:PA} {l:List UInt8} {V V':World} (h:TX w x p l V) (hb:Below V.heap.size V V'):TX w x p l V':=⟨h.k.step hb,Kw h.bd hb⟩
theorem TX.str {w:World} {x:AG} {p:PA} {l:List UInt8} {V:World} (h:TX w x p l V) (s:ByteArray) (hl:l.length+s.size<=1000000) :
 Calls Tryz.prog 49 #[.pointer (some ⟨w.heap.size+1,0,none⟩),.string s] V fun e w'=>e=.returned (.tuple #[.int .i64 s.size,.nilIface])/\TX w x p (l++s.data.toList) w'/\Oth (w.heap.size+1) V w' :=
 (xZ _ _ _ s V h.bd (by rw [Lib.byteCells_length];omega) (by have:=Jw h.bd;omega)).mono fun e w' ⟨he,hb,hw,hoth⟩=>by
  have hz:=Jw h.bd;have hk:aE (fun b=>w.heap.size+1<=b) V w':=⟨hw.os,hw.tape,hw.output,hw.size,fun b _ hn=>hw.block b (by omega)⟩;exact ⟨he,⟨⟨h.k.b.trans (hk.below (B:=w.heap.size) (fun b hb=>by omega) h.k.z),Nat.le_trans h.k.z hk.size,hk.heap h.k.n (by omega),h.k.r.keptS hk (fun b hb hg=>by omega)⟩,by rwa [uZ] at hb⟩,hoth⟩
theorem TX.done {w:World} {x:AG} {p:PA} {l:List UInt8} {V:World} (h:TX w x p l V) :
 Calls Tryz.prog 53 #[.pointer (some ⟨w.heap.size+1,0,none⟩)] V fun e w'=>e=.returned (.string ⟨l.toArray⟩)/\Below w.heap.size w w' :=
 (Tryz.Builder_String_any _ _ l V h.bd (by have:=Jw h.bd;omega)).mono fun e w' ⟨he,hb⟩=>⟨he,h.k.b.trans (hb.mono (by omega))⟩
theorem JL {w:World} {x:AG} {p:PA} (hr:aP (fun b=>b<w.heap.size) w x p):TX w x p [] ((w.alloc (agP x p)).alloc (.cells #[.pointer none,.slice none 0 0] 112)):=by
 have K:=nS hr;refine ⟨K.step ((Below.refl _ _).alloc (Nat.le_refl _) _),?_⟩;have:=Lib.fresh_isBuilder 112 5 (w.alloc (agP x p));rwa [World.size_alloc] at this
def rD (k:Nat):ByteArray:=if k=0 then ⟨#[119,104,101,114,101]⟩ else ⟨#[97,110,100]⟩
theorem AX (k:Nat):(rD k).size<=5:=by unfold rD;split <;> decide
theorem FU {x:AG} {d:CD} {r:List CD} {k:Nat} (h:x.wh.drop k=d::r):oG x k=32::((rD k).data.toList++32::(bU d.a++32::(d.op.data.toList++32::bU d.b)))++oF r:=by
 by_cases h0:k=0
 · rw [DN h0 h]
   unfold rD;rw [if_pos h0];simp
 · rw [zQ h0,h,oF]
   unfold rD;rw [if_neg h0];simp
theorem Ed (s:ByteArray):s.data.toList.length=s.size:=by simp
theorem Fy (l:List UInt8):(txB l).size=l.length:=by show l.toArray.size=_;simp
theorem xG {G:Nat->Prop} (x:AG) (p:PA) (w:World) (he:jT x=0) (hn:oL x) (hl:j6 w) (hr:aP G w x p) :
 Calls Tryz.prog 17 #[agV x p] w fun e w'=>e=.returned (.string ⟨(yX x).toArray⟩)/\Below w.heap.size w w':=by
 obtain ⟨h1,h2,h3,h4,h5,h6⟩:=fX he;have hr':aP (fun b=>b<w.heap.size) w x p:=hr.imp (fun b hb _=>hb);have K0:=JL hr';have HL:=aA (fun V (hV:Below w.heap.size w V)=>hl.step hV);have HJ:=aA (Fm x h1);have AL:=aA (AM x);have HC:=aA (jU x.wh h6);have HNC:=aA hn.c;have hfz:=Jb h1;have CA:=aA (fun V (hV:TX w x p [] V)=>Fk x p V he hn (HL.out V hV.k.b) hV.k.r)
 have hiz:(sT x).length<=1500:=by
  unfold sT;have eS:∀ t:TN,aL t=0->eV t.f->(bU t).length<=700:=fun t a b=>oQ a b
  split
  · simp
  · rename_i hc
    have l1:=eS x.e (h3 hc) hn.e;split
    · rename_i ht
      have:=h2 ht;have l2:=Lib.itoa_length_le x.k (by omega) (by omega);simp only [List.length_append,List.length_cons];omega
    · split
      · rename_i hb
        have l2:=eS x.g (h4 hb) hn.g;simp only [List.length_append,List.length_cons];omega
      · omega
 have h5':=h5;have hwl:x.wh.length<=4:=h5;generalize hW:(w.alloc (agP x p)).alloc (.cells #[.pointer none,.slice none 0 0] 112)=W at K0;have HW:=aA hW;have K1:=aA K0;have CELLS:=aA (p:=∀ V,KP9 (fun b=>b<w.heap.size) w x p V->(V.cell? ⟨w.heap.size,0,none⟩=some (.string x.fn)/\V.cell? ⟨w.heap.size,1,none⟩=some (.int .i64 x.k)/\V.cell? ⟨w.heap.size,2,none⟩=some (.string x.e.op)/\V.cell? ⟨w.heap.size,3,none⟩=some (.string x.e.nm)/\V.cell? ⟨w.heap.size,4,none⟩=some (.int .i64 x.e.n)/\V.cell? ⟨w.heap.size,5,none⟩=some (.slice p.ea x.e.ks.len p.ec)/\V.cell? ⟨w.heap.size,6,none⟩=some (.string x.g.op)/\V.cell? ⟨w.heap.size,7,none⟩=some (.string x.g.nm)/\V.cell? ⟨w.heap.size,8,none⟩=some (.int .i64 x.g.n)/\V.cell? ⟨w.heap.size,9,none⟩=some (.slice p.ga x.g.ks.len p.gc)/\V.cell? ⟨w.heap.size,10,none⟩=some (.slice p.wa x.wh.length p.wc))) (fun V hV=>aC hV.n);obtain ⟨J,hJ⟩:∃ J:ByteArray,txB (sT x)=J:=⟨_,rfl⟩;have hJz:J.size<=1500:=by rw [<- hJ,Fy];exact hiz
 have HJJ:=aA (show ∀ V v,V.ownsRow 0 9 1 v (j4 x).length ((j4 x).map Value.string)->Calls Tryz.prog 50 #[v,.string ⟨#[44,32]⟩] V fun e w'=>e=.returned (.string J)/\Below V.heap.size V w' from fun V v ho=>by
  have:=Er (j4 x) v 0 ⟨#[44,32]⟩ V ho (by have:=AL.out;omega) (by
   show (Lib.join ((j4 x).map (·.data.toList)) [44,32]).length<=100000;rw [HJ.out];omega)
  rw [show (⟨#[44,32]⟩:ByteArray).data.toList=[44,32] from rfl,HJ.out,hJ] at this;exact this)
 have x1:(9223372036854775807<x.fn.size+1)=False:=by rw [eq_iff_iff,iff_false];omega
 have x2:(9223372036854775807<x.fn.size+1+J.size)=False:=by rw [eq_iff_iff,iff_false];omega
 have x3:(9223372036854775807<x.fn.size+1+J.size+1)=False:=by rw [eq_iff_iff,iff_false];omega
 have HJL:=aA (show J.data.toList=sT x by rw [<- hJ]);have HFZ:=aA hfz;have HJZ:=aA hJz;obtain ⟨full,hfull⟩:∃ l,yX x=l:=⟨_,rfl⟩;rw [hfull];have HFU:=aA hfull;clear hW K0 hr hr' hn hl he h1 h2 h3 h4 h5 h5' h6 hiz hJ hfz hJz hfull;obtain ⟨m0,m1,m2,m3,m4,m5,m6,m7,m8,m9,m10⟩:=CELLS.out _ K1.out.k;go_enter Tryz.func17,Tryz.ntmps17
 go_upto_region 2 with fail
 rw [show (w.alloc (.cells #[.string x.fn,.int .i64 x.k,.string x.e.op,.string x.e.nm,.int .i64 x.e.n,.slice p.ea x.e.ks.len p.ec,.string x.g.op,.string x.g.nm,.int .i64 x.g.n,.slice p.ga x.g.ks.len p.gc,.slice p.wa x.wh.length p.wc] 28)).alloc (.cells #[.pointer none,.slice none 0 0] 112)=W from HW.out]
 go_region_held3 (fun V=>V.cell? ⟨w.heap.size,0,none⟩=some (.string x.fn)/\V.cell? ⟨w.heap.size,1,none⟩=some (.int .i64 x.k)/\V.cell? ⟨w.heap.size,2,none⟩=some (.string x.e.op)/\V.cell? ⟨w.heap.size,3,none⟩=some (.string x.e.nm)/\V.cell? ⟨w.heap.size,4,none⟩=some (.int .i64 x.e.n)/\V.cell? ⟨w.heap.size,5,none⟩=some (.slice p.ea x.e.ks.len p.ec)/\V.cell? ⟨w.heap.size,6,none⟩=some (.string x.g.op)/\V.cell? ⟨w.heap.size,7,none⟩=some (.string x.g.nm)/\V.cell? ⟨w.heap.size,8,none⟩=some (.int .i64 x.g.n)/\V.cell? ⟨w.heap.size,9,none⟩=some (.slice p.ga x.g.ks.len p.gc)/\V.cell? ⟨w.heap.size,10,none⟩=some (.slice p.wa x.wh.length p.wc)) (first | assumption | exact ⟨m0,m1,m2,m3,m4,m5,m6,m7,m8,m9,m10⟩ | exact CELLS.out _ K4.out.k | exact CELLS.out _ K3.out.k | exact CELLS.out _ K2.out.k) (first
  | (go_at_call 51
     with_reducible refine (CA.out _ (K1.out.step (bK W))).mono ?_
     rintro e v1 ⟨hb,va,rfl,ho⟩;have K2:=aA ((K1.out.step (bK W)).step hb);have c2':=CELLS.out _ K2.out.k;have JO:=aA (HJJ.out v1 va (f6 ho (Nat.zero_le _)));clear hb ho)
  | (go_at_call 50
     with_reducible refine JO.out.mono ?_
     rintro e v2 ⟨rfl,hb⟩;have K3:=aA (K2.out.step hb);have c3':=CELLS.out _ K3.out.k;clear hb)
  | (go_at_call 49
     with_reducible refine (K3.out.str _ (by simp only [ByteArray.size_append,List.length_nil];have h1:(⟨#[40]⟩:ByteArray).size=1:=rfl;have h2:(⟨#[41]⟩:ByteArray).size=1:=rfl;have:=HFZ.out;have:=HJZ.out;omega)).mono ?_
     rintro e v3 ⟨rfl,hb, -⟩;have K4:=aA hb;have c4':=CELLS.out _ K4.out.k;clear hb)
  | fail)
 obtain ⟨l0,hl0⟩:∃ l,([]:List UInt8)++(x.fn++(⟨#[40]⟩:ByteArray)++J++(⟨#[41]⟩:ByteArray)).data.toList=l:=⟨_,rfl⟩;have K5:=aA (show TX w x p l0 v3 by rw [<- hl0];exact K4.out)
 have T0:=aA (show l0++oG x 0=full by
  rw [<- hl0, <- HFU.out,tE];unfold yX;simp [HJL.out])
 have L0:=aA (show l0.length<=2000+2000*0 by
  rw [<- hl0];simp only [ByteArray.data_append,Array.toList_append,List.length_append,List.nil_append];have e1:x.fn.data.toList.length=x.fn.size:=by simp
  have e2:J.data.toList.length=J.size:=by simp
  have e3:(⟨#[40]⟩:ByteArray).data.toList.length=1:=rfl;have e4:(⟨#[41]⟩:ByteArray).data.toList.length=1:=rfl;have e5:([40]:List UInt8).length=1:=rfl;have e6:([41]:List UInt8).length=1:=rfl;have:=HFZ.out;have:=HJZ.out;omega)
 clear K4 K3 K2 K1 JO CA HJJ hl0 HFU x1 x2 x3 c2' c3' c4' m0 m1 m2 m3 m4 m5 m6 m7 m8 m9 m10 HFZ HJZ HJL AL HJ;obtain ⟨m0,m1,m2,m3,m4,m5,m6,m7,m8,m9,m10⟩:=CELLS.out _ K5.out.k;go_wp2_with fail
 clear m0 m1 m2 m3 m4 m5 m6 m7 m8 m9 m10;go_loopw [4,6,19] (fun v4 v6 i wr=>∃ (k:Nat) (l:List UInt8) (y:Value),v4=.string (rD k)/\v6=y/\i=.int .i64 k/\k<=x.wh.length/\Hid (l++oG x k=full)/\Hid (l.length<=2000+2000*k)/\Hid (TX w x p l wr)) (fun _ _ i _=>x.wh.length-(intOf i).toNat)
 case atStart=>exact ⟨0,l0,_,rfl,rfl,rfl,Nat.zero_le _,T0,L0,K5⟩
 case round =>
  obtain ⟨k,l,y,rfl,rfl,rfl,hk,HT,HZ,HK⟩:=hrel;clear T0 L0 K5;by_cases hlt:k<x.wh.length
  · obtain ⟨d,hd⟩:∃ d,x.wh[k]? = some d:=⟨_,List.getElem?_eq_getElem hlt⟩
    have hne:¬ x.wh=[]:=fun e=>by rw [e] at hlt;simp at hlt
    obtain ⟨b,off,hwa, -,hbl,hcc⟩:=HK.out.k.r.c.resolve_left hne;obtain ⟨a1,c1,a2,c2,⟨p0,p1,p2,p3,p4,p5,p6,p7,p8⟩,r1,r2⟩:=hcc k d hd
    have hdr:x.wh.drop k=d::x.wh.drop (k+1):=by
     rw [List.drop_eq_getElem_cons hlt];have:=List.getElem?_eq_getElem hlt;rw [this] at hd;rw [Option.some.inj hd]
    obtain ⟨h1,h2,h3⟩:=HC.out d (List.mem_of_getElem? hd);have hnd:=HNC.out d (List.mem_of_getElem? hd);have hAz:=oQ h2 hnd.1;have hBz:=oQ h3 hnd.2;have hoz:d.op.size<=2:=II h1;have BD:=(Below.refl wr.heap.size wr).alloc (Nat.le_refl _) (cdX d a1 c1 a2 c2);have ND:=heap_alloc_new wr (cdX d a1 c1 a2 c2);have HBL:=aA (Jw HK.out.bd);have K1:=aA (HK.out.step BD);have A1:=aA (fun V (hV:Below (wr.alloc (cdX d a1 c1 a2 c2)).heap.size (wr.alloc (cdX d a1 c1 a2 c2)) V)=>nJ d.a (fun b=>b<w.heap.size) V a1 c1 ((bV _).1 h2).1 hnd.1 ((bV _).1 h2).2 (HL.out V (K1.out.k.step hV).b) ((r1.kept BD).kept hV));have A2:=aA (fun V (hV:Below (wr.alloc (cdX d a1 c1 a2 c2)).heap.size (wr.alloc (cdX d a1 c1 a2 c2)) V)=>nJ d.b (fun b=>b<w.heap.size) V a2 c2 ((bV _).1 h3).1 hnd.2 ((bV _).1 h3).2 (HL.out V (K1.out.k.step hV).b) ((r2.kept BD).kept hV));obtain ⟨TA,hTA⟩:∃ S:ByteArray,⟨(bU d.a).toArray⟩=S:=⟨_,rfl⟩;obtain ⟨TB,hTB⟩:∃ S:ByteArray,⟨(bU d.b).toArray⟩=S:=⟨_,rfl⟩;rw [hTA] at A1;rw [hTB] at A2;have hAz:TA.size<=700:=by rw [<- hTA];show (bU d.a).toArray.size<=700;rw [List.size_toArray];exact hAz
    have hBz:TB.size<=700:=by rw [<- hTB];show (bU d.b).toArray.size<=700;rw [List.size_toArray];exact hBz
    have hwz:=AX k;obtain ⟨W0,hW0⟩:∃ s,rD k=s:=⟨_,rfl⟩;rw [hW0] at hwz;have HW2:=aA (show ((⟨#[32]⟩:ByteArray)++W0++⟨#[32]⟩++TA++⟨#[32]⟩++d.op++⟨#[32]⟩++TB).data.toList++oF (x.wh.drop (k+1))=oG x k by rw [FU hdr,hW0, <- hTA, <- hTB];simp);have b1:(k:Int)<(x.wh.length:Int):=by omega
    have b2:(0:Int)<=(k:Int):=by omega
    have b3:((k:Int)).toNat=k:=by omega
    have x0:(9223372036854775807<1+W0.size)=False:=by rw [eq_iff_iff,iff_false];omega
    have x1:(9223372036854775807<1+W0.size+1)=False:=by rw [eq_iff_iff,iff_false];omega
    have x2:(9223372036854775807<1+W0.size+1+TA.size)=False:=by rw [eq_iff_iff,iff_false];omega
    have x3:(9223372036854775807<1+W0.size+1+TA.size+1)=False:=by rw [eq_iff_iff,iff_false];omega
    have x4:(9223372036854775807<1+W0.size+1+TA.size+1+d.op.size)=False:=by rw [eq_iff_iff,iff_false];omega
    have x5:(9223372036854775807<1+W0.size+1+TA.size+1+d.op.size+1)=False:=by rw [eq_iff_iff,iff_false];omega
    have x6:(9223372036854775807<1+W0.size+1+TA.size+1+d.op.size+1+TB.size)=False:=by rw [eq_iff_iff,iff_false];omega
    have hsz:((⟨#[32]⟩:ByteArray)++W0++⟨#[32]⟩++TA++⟨#[32]⟩++d.op++⟨#[32]⟩++TB).size<=1500:=by simp only [ByteArray.size_append];have h1:(⟨#[32]⟩:ByteArray).size=1:=rfl;rw [h1];omega
    have HSZ:=aA hsz;rw [hW0];rw [hwa];clear hne hcc hwa hd hdr h1 h2 h3 hnd r1 r2 hTA hTB hAz hBz hoz hwz hW0 BD HK hsz;have HDN:=aA (show wr.heap.size ≠ w.heap.size+1 by have:=HBL.out;omega);go_upto_region 7 with fail
    rw [show wr.alloc (.cells #[.string d.op,.string d.a.op,.string d.a.nm,.int .i64 d.a.n,.slice a1 d.a.ks.len c1,.string d.b.op,.string d.b.nm,.int .i64 d.b.n,.slice a2 d.b.ks.len c2] 98)=wr.alloc (cdX d a1 c1 a2 c2) from rfl];generalize wr.alloc (cdX d a1 c1 a2 c2)=V at *;generalize wr.heap.size=D at *;clear p0 p1 p2 p3 p4 p5 p6 p7 p8;have CD9:=aA (p:=∀ V':World,Below V.heap.size V V'->(V'.cell? ⟨D,0,none⟩=some (.string d.op)/\V'.cell? ⟨D,1,none⟩=some (.string d.a.op)/\V'.cell? ⟨D,2,none⟩=some (.string d.a.nm)/\V'.cell? ⟨D,3,none⟩=some (.int .i64 d.a.n)/\V'.cell? ⟨D,4,none⟩=some (.slice a1 d.a.ks.len c1)/\V'.cell? ⟨D,5,none⟩=some (.string d.b.op)/\V'.cell? ⟨D,6,none⟩=some (.string d.b.nm)/\V'.cell? ⟨D,7,none⟩=some (.int .i64 d.b.n)/\V'.cell? ⟨D,8,none⟩=some (.slice a2 d.b.ks.len c2))) (fun V' hV=>eZ ((hV.block D (aG ND)).trans ND));have CDX:=aA (p:=∀ V':World,V'.heap[D]? = some (cdX d a1 c1 a2 c2)->(V'.cell? ⟨D,0,none⟩=some (.string d.op)/\V'.cell? ⟨D,1,none⟩=some (.string d.a.op)/\V'.cell? ⟨D,2,none⟩=some (.string d.a.nm)/\V'.cell? ⟨D,3,none⟩=some (.int .i64 d.a.n)/\V'.cell? ⟨D,4,none⟩=some (.slice a1 d.a.ks.len c1)/\V'.cell? ⟨D,5,none⟩=some (.string d.b.op)/\V'.cell? ⟨D,6,none⟩=some (.string d.b.nm)/\V'.cell? ⟨D,7,none⟩=some (.int .i64 d.b.n)/\V'.cell? ⟨D,8,none⟩=some (.slice a2 d.b.ks.len c2))) (fun V' hV=>eZ hV);have hDb:=aG ND;have HND:=aA ND;obtain ⟨p0,p1,p2,p3,p4,p5,p6,p7,p8⟩:=eZ ND
    go_region_held3 (fun V=>V.cell? ⟨D,0,none⟩=some (.string d.op)/\V.cell? ⟨D,1,none⟩=some (.string d.a.op)/\V.cell? ⟨D,2,none⟩=some (.string d.a.nm)/\V.cell? ⟨D,3,none⟩=some (.int .i64 d.a.n)/\V.cell? ⟨D,4,none⟩=some (.slice a1 d.a.ks.len c1)/\V.cell? ⟨D,5,none⟩=some (.string d.b.op)/\V.cell? ⟨D,6,none⟩=some (.string d.b.nm)/\V.cell? ⟨D,7,none⟩=some (.int .i64 d.b.n)/\V.cell? ⟨D,8,none⟩=some (.slice a2 d.b.ks.len c2)) (first | assumption | exact ⟨p0,p1,p2,p3,p4,p5,p6,p7,p8⟩ | exact CD9.out _ B6.out | exact CD9.out _ B5.out) (first
     | (go_at_call 52
        with_reducible refine (A1.out _ (bK V)).mono ?_
        rintro e w5 ⟨rfl,hb⟩;have B5:=aA ((bK V).trans hb);have c5':=CD9.out _ B5.out;clear hb)
     | (go_at_call 52
        with_reducible refine (A2.out w5 B5.out).mono ?_
        rintro e w6 ⟨rfl,hb⟩;have B6:=aA (B5.out.trans (hb.mono B5.out.size));have c6':=CD9.out _ B6.out;clear hb)
     | (go_at_call 49
        with_reducible refine ((K1.out.step B6.out).str _ (by have:=HSZ.out;have:=HZ.out;omega)).mono ?_
        rintro e w7 ⟨rfl,hb,hbel⟩;have K7:=aA hb;have c7':=CDX.out w7 (hbel D _ _ HDN.out (by decide) ((B6.out.block D hDb).trans HND.out));clear hb hbel)
     | fail)
    have HT2:=aA (show (l++((⟨#[32]⟩:ByteArray)++W0++⟨#[32]⟩++TA++⟨#[32]⟩++d.op++⟨#[32]⟩++TB).data.toList)++oG x (k+1)=full by rw [DO,List.append_assoc,HW2.out];exact HT.out)
    have HZ2:=aA (show (l++((⟨#[32]⟩:ByteArray)++W0++⟨#[32]⟩++TA++⟨#[32]⟩++d.op++⟨#[32]⟩++TB).data.toList).length<=2000+2000*(k+1) by
     rw [List.length_append,Ed];have:=HSZ.out;have:=HZ.out;omega)
    clear B5 B6 A1 A2 c5' c6' c7' K1 CD9 CDX p0 p1 p2 p3 p4 p5 p6 p7 p8 x0 x1 x2 x3 x4 x5 x6 HT HZ;go_wp2_with fail
    go_roundw
    case rel=>exact ⟨k+1,_,_,by unfold rD;rw [if_neg (by omega)],rfl,by go_num,by omega,HT2,HZ2,K7⟩
    case measure=>simp [intOf];omega
  · have e1:x.wh.drop k=[]:=List.drop_of_length_le (by omega)
    have TR:=aA (show full=l by rw [<- HT.out,FV e1];simp);have b1:¬ (k:Int)<(x.wh.length:Int):=by omega
    have b2:decide (k<x.wh.length)=false:=decide_eq_false hlt;have CD:=aA (HK.out.done);go_wp2_with fail
    refine CD.out.mono ?_;rintro e w9 ⟨rfl,hb⟩;have HB9:=aA hb;clear hb;go_wp2_with fail
    go_ret;exact ⟨congrArg (fun z=>Ending.returned (.string ⟨List.toArray z⟩)) TR.out.symm,HB9.out⟩
def FQ (b0 kk keq ee ze bb zg zc:Bool):Bool:=b0 && (!kk || keq) && (!ee || ze) && (!bb || zg) && zc
theorem FR {x y:AG} (hf:dM x.fn.data.toList=true):mO x y=FQ (x.fn.toList == y.fn.toList) (kP x.fn.data.toList) (x.k == y.k) (eP x.fn.data.toList) (cN x.e y.e) (bP x.fn.data.toList) (cN x.g y.g) (eX x.wh y.wh):=by
 unfold mO FQ kP bP;have h1:eP x.fn.data.toList=(x.fn.data.toList != aQ):=by unfold eP;rw [hf,Bool.true_and];rfl
 rw [h1]
 have h2:((x.wh.length == y.wh.length) && eX x.wh y.wh)=eX x.wh y.wh:=by
  by_cases h:x.wh.length=y.wh.length
  · rw [beq_iff_eq.2 h,Bool.true_and]
  · rw [beq_eq_false_iff_ne.2 h,Bool.false_and,sZ h]
 have h3:∀ a b c:Bool,(a && b && c)=(a && (b && c)):=fun a b c=>by cases a <;> rfl
 rw [h3 _ (x.wh.length == y.wh.length),h2];have h4:∀ a b:Bool,(!(a && !b))=(!a || b):=fun a b=>by cases a <;> cases b <;> rfl
 have h5:(x.k != y.k)= !(x.k == y.k):=rfl;rw [h5,h4,h4,h4]
structure SK (G G':Nat->Prop) (w:World) (x:AG) (p:PA) (y:AG) (q:PA) (B:Nat) (kk ee bb:Bool) (V:World):Prop where
 b:Below w.heap.size w V
 n1:V.heap[w.heap.size]? = some (agP x p)
 n2:V.heap[w.heap.size+1]? = some (agP y q)
 t:V.heap[B]? = some (ptO kk ee bb)
 r1:aP G V x p
 r2:aP G' V y q
theorem SK.step {G G':Nat->Prop} {w:World} {x:AG} {p:PA} {y:AG} {q:PA} {B:Nat} {kk ee bb:Bool} {V V':World} (h:SK G G' w x p y q B kk ee bb V) (hb:Below V.heap.size V V'):SK G G' w x p y q B kk ee bb V' :=
 ⟨h.b.trans (hb.mono h.b.size),(hb.block _ (aG h.n1)).trans h.n1,(hb.block _ (aG h.n2)).trans h.n2,(hb.block _ (aG h.t)).trans h.t,h.r1.kept hb,h.r2.kept hb⟩
theorem pW (G G':Nat->Prop) (x:AG) (p:PA) (y:AG) (q:PA) (w:World) (hx:jT x=0) (hnx:oL x) (hy:jT y=0) (hny:oL y) (hrx:aP G w x p) (hry:aP G' w y q) :
 Calls Tryz.prog 18 #[agV x p,agV y q] w fun e w'=>e=.returned (.bool (mO x y))/\Below w.heap.size w w':=by
 obtain ⟨h1, -,h3,h4,h5,h6⟩:=fX hx;obtain ⟨g1, -,g3,g4,g5,g6⟩:=fX hy;rw [FR h1];have B0:=(Below.refl w.heap.size w).alloc (Nat.le_refl _) (agP x p);have N0:=heap_alloc_new w (agP x p);have hs0:(w.alloc (agP x p)).heap.size=w.heap.size+1:=World.size_alloc _ _;generalize hW0:w.alloc (agP x p)=W0 at *;have B1:=(Below.refl W0.heap.size W0).alloc (Nat.le_refl _) (agP y q);have N1:=heap_alloc_new W0 (agP y q);have NA:=(B1.block w.heap.size (by omega)).trans N0;have BB:=B0.trans (B1.mono (by omega));generalize hW:W0.alloc (agP y q)=W at *;rw [hs0] at N1;have HW0:=aA hW0;have HW:=aA hW;have HB:=aA BB;have HA:=aA NA;have HN:=aA N1;have HX:=aA hrx;have HY:=aA hry;have CP:=aA (i6 x.fn W)
 have hfn:(x.fn.toList == y.fn.toList)=true->x.fn.data.toList=y.fn.data.toList:=fun h=>by
  rw [Lib.toList_data,Lib.toList_data] at h;simpa using h
 have OX:=aA (show ∀ d∈x.wh,OkD d from fun d hd=>⟨(jU x.wh h6 d hd).2.1,(jU x.wh h6 d hd).2.2,(hnx.c d hd).1,(hnx.c d hd).2⟩);have OY:=aA (show ∀ d∈y.wh,OkD d from fun d hd=>⟨(jU y.wh g6 d hd).2.1,(jU y.wh g6 d hd).2.2,(hny.c d hd).1,(hny.c d hd).2⟩)
 have SE0:(x.fn.toList == y.fn.toList)=true->eP x.fn.data.toList=true->∀ V,aH G V p.ea x.e.ks->aH G' V q.ea y.e.ks->Calls Tryz.prog 54 #[bB x.e.op x.e.nm x.e.n p.ea x.e.ks.len p.ec,bB y.e.op y.e.nm y.e.n q.ea y.e.ks.len q.ec] V fun e w'=>e=.returned (.bool (cN x.e y.e))/\Below V.heap.size V w':=fun hb he V ra rb=>by
  have hc:¬ x.fn.data.toList=aQ:=fun hc=>by unfold eP at he;rw [hc] at he;simp at he
  have c1:=(bV _).1 (h3 hc);have c2:=(bV _).1 (g3 (by rw [<- hfn hb];exact hc));exact nK x.e y.e G G' V p.ea q.ea p.ec q.ec c1.1 hnx.e c1.2 c2.1 hny.e c2.2 ra rb
 have SG0:(x.fn.toList == y.fn.toList)=true->bP x.fn.data.toList=true->∀ V,aH G V p.ga x.g.ks->aH G' V q.ga y.g.ks->Calls Tryz.prog 54 #[bB x.g.op x.g.nm x.g.n p.ga x.g.ks.len p.gc,bB y.g.op y.g.nm y.g.n q.ga y.g.ks.len q.gc] V fun e w'=>e=.returned (.bool (cN x.g y.g))/\Below V.heap.size V w':=fun hb he V ra rb=>by
  have hc:x.fn.data.toList=aW:=by unfold bP at he;simpa using he
  have c1:=(bV _).1 (h4 hc);have c2:=(bV _).1 (g4 (by rw [<- hfn hb];exact hc));exact nK x.g y.g G G' V p.ga q.ga p.gc q.gc c1.1 hnx.g c1.2 c2.1 hny.g c2.2 ra rb
 have hwl:x.wh.length<=1000:=by omega
 have EC:=aA (fun V (ra:fD G V p.wa x.wh) (rb:fD G' V q.wa y.wh)=>uA x.wh y.wh G G' p.wa p.wc q.wa q.wc hwl V OX.out OY.out ra rb);obtain ⟨F,hF⟩:∃ F,x.fn.data.toList=F:=⟨_,rfl⟩;rw [hF] at CP SE0 SG0 |-
 obtain ⟨b0,hb0⟩:∃ z,(x.fn.toList == y.fn.toList)=z:=⟨_,rfl⟩;obtain ⟨kk,hkk⟩:∃ b,kP F=b:=⟨_,rfl⟩;obtain ⟨ee,hee⟩:∃ b,eP F=b:=⟨_,rfl⟩;obtain ⟨bb,hbb⟩:∃ b,bP F=b:=⟨_,rfl⟩;obtain ⟨keq,hkeq⟩:∃ b,(x.k == y.k)=b:=⟨_,rfl⟩;obtain ⟨ze,hze⟩:∃ b,cN x.e y.e=b:=⟨_,rfl⟩;obtain ⟨zg,hzg⟩:∃ b,cN x.g y.g=b:=⟨_,rfl⟩;obtain ⟨zc,hzc⟩:∃ b,eX x.wh y.wh=b:=⟨_,rfl⟩;obtain ⟨ff,hff⟩:∃ b,dM F=b:=⟨_,rfl⟩;unfold ptV at CP;rw [hkk,hee,hbb,hff] at CP;rw [hb0,hee,hze] at SE0;rw [hb0,hbb,hzg] at SG0;rw [hzc] at EC;rw [hb0,hkk,hee,hbb,hkeq,hze,hzg,hzc];obtain ⟨r,hr⟩:∃ r,FQ b0 kk keq ee ze bb zg zc=r:=⟨_,rfl⟩;rw [hr];have HR:=aA hr;have SE1:=aA SE0;have SG1:=aA SG0;obtain ⟨m0,m1,m2,m3,m4,m5,m6,m7,m8,m9,m10⟩:=aC NA;clear hW0 hW B0 B1 N0 N1 NA BB hrx hry h1 h3 h4 h5 h6 g1 g3 g4 g5 g6 hx hnx hy hny hfn SE0 SG0 hkk hee hbb hze hzg hzc hr hff hwl OX OY;go_enter Tryz.func18,Tryz.ntmps18
 go_upto_region 1 with fail
 rw [show w.alloc (.cells #[.string x.fn,.int .i64 x.k,.string x.e.op,.string x.e.nm,.int .i64 x.e.n,.slice p.ea x.e.ks.len p.ec,.string x.g.op,.string x.g.nm,.int .i64 x.g.n,.slice p.ga x.g.ks.len p.gc,.slice p.wa x.wh.length p.wc] 28)=W0 from HW0.out,
  show W0.alloc (.cells #[.string y.fn,.int .i64 y.k,.string y.e.op,.string y.e.nm,.int .i64 y.e.n,.slice q.ea y.e.ks.len q.ec,.string y.g.op,.string y.g.nm,.int .i64 y.g.n,.slice q.ga y.g.ks.len q.gc,.slice q.wa y.wh.length q.wc] 28)=W from HW.out]
 go_wp2_with fail
 refine CP.out.mono ?_;rintro e w1 ⟨rfl,hb1⟩;have BA:=(Below.refl w1.heap.size w1).alloc (Nat.le_refl _) (ptO kk ee bb);have NP:=heap_alloc_new w1 (ptO kk ee bb);have hz:=HB.out.size;have hz1:=hb1.size
 have K2:=aA (show SK G G' w x p y q w1.heap.size kk ee bb (w1.alloc (ptO kk ee bb)) from
  ⟨(HB.out.trans (hb1.mono hz)).trans (BA.mono (by omega)),(BA.block _ (by have:=aG HA.out;omega)).trans ((hb1.block _ (aG HA.out)).trans HA.out),(BA.block _ (by have:=aG HN.out;omega)).trans ((hb1.block _ (aG HN.out)).trans HN.out),NP,((HX.out.kept (HB.out)).kept hb1).kept BA,((HY.out.kept (HB.out)).kept hb1).kept BA⟩)
 clear hb1 BA NP CP HA HN HX HY hz hz1 m0 m1 m2 m3 m4 m5 m6 m7 m8 m9 m10;go_upto_region 2 with fail
 generalize w1.alloc (ptO kk ee bb)=V at *;generalize w1.heap.size=B at *;obtain ⟨m0,m1,m2,m3,m4,m5,m6,m7,m8,m9,m10⟩:=aC K2.out.n1;obtain ⟨n0,n1,n2,n3,n4,n5,n6,n7,n8,n9,n10⟩:=aC K2.out.n2;obtain ⟨⟨y0,y1,y2⟩, -⟩:=cV K2.out.t;cases b0 with
 | false =>
   have TR:=aA (show false=r from HR.out);go_wp2_with fail
   go_ret;exact ⟨congrArg (fun z=>Ending.returned (.bool z)) TR.out,K2.out.b⟩
 | true =>
   cases kk with
   | false =>
     cases ee with
     | false =>
       cases bb with
       | false =>
         have TR:=aA (show zc=r from HR.out);go_wp2_with fail
         refine (EC.out _ K2.out.r1.c K2.out.r2.c).mono ?_;rintro e w9 ⟨rfl,hb9⟩;have HB9:=aA (K2.out.b.trans (hb9.mono K2.out.b.size));clear hb9;go_wp2_with fail
         go_ret;exact ⟨congrArg (fun z=>Ending.returned (.bool z)) TR.out,HB9.out⟩
       | true =>
         go_wp2_with fail
         refine (SG1.out (by first | rfl | trivial) (by first | rfl | trivial) _ K2.out.r1.g K2.out.r2.g).mono ?_;rintro e w8 ⟨rfl,hb8⟩;have K8:=aA (K2.out.step hb8);clear hb8;clear m0 m1 m2 m3 m4 m5 m6 m7 m8 m9 m10 n0 n1 n2 n3 n4 n5 n6 n7 n8 n9 n10 y0 y1 y2;obtain ⟨m0,m1,m2,m3,m4,m5,m6,m7,m8,m9,m10⟩:=aC K8.out.n1;obtain ⟨n0,n1,n2,n3,n4,n5,n6,n7,n8,n9,n10⟩:=aC K8.out.n2;obtain ⟨⟨y0,y1,y2⟩, -⟩:=cV K8.out.t;cases zg with
         | false =>
           have TR:=aA (show false=r from HR.out);go_wp2_with fail
           go_ret;exact ⟨congrArg (fun z=>Ending.returned (.bool z)) TR.out,K8.out.b⟩
         | true =>
           have TR:=aA (show zc=r from HR.out);go_wp2_with fail
           refine (EC.out _ K8.out.r1.c K8.out.r2.c).mono ?_;rintro e w9 ⟨rfl,hb9⟩;have HB9:=aA (K8.out.b.trans (hb9.mono K8.out.b.size));clear hb9;go_wp2_with fail
           go_ret;exact ⟨congrArg (fun z=>Ending.returned (.bool z)) TR.out,HB9.out⟩
     | true =>
       go_wp2_with fail
       refine (SE1.out (by first | rfl | trivial) (by first | rfl | trivial) _ K2.out.r1.e K2.out.r2.e).mono ?_;rintro e w7 ⟨rfl,hb7⟩;have K7:=aA (K2.out.step hb7);clear hb7;clear m0 m1 m2 m3 m4 m5 m6 m7 m8 m9 m10 n0 n1 n2 n3 n4 n5 n6 n7 n8 n9 n10 y0 y1 y2;obtain ⟨m0,m1,m2,m3,m4,m5,m6,m7,m8,m9,m10⟩:=aC K7.out.n1;obtain ⟨n0,n1,n2,n3,n4,n5,n6,n7,n8,n9,n10⟩:=aC K7.out.n2;obtain ⟨⟨y0,y1,y2⟩, -⟩:=cV K7.out.t;cases ze with
       | false =>
         have TR:=aA (show false=r from HR.out);go_wp2_with fail
         go_ret;exact ⟨congrArg (fun z=>Ending.returned (.bool z)) TR.out,K7.out.b⟩
       | true =>
         cases bb with
         | false =>
           have TR:=aA (show zc=r from HR.out);go_wp2_with fail
           refine (EC.out _ K7.out.r1.c K7.out.r2.c).mono ?_;rintro e w9 ⟨rfl,hb9⟩;have HB9:=aA (K7.out.b.trans (hb9.mono K7.out.b.size));clear hb9;go_wp2_with fail
           go_ret;exact ⟨congrArg (fun z=>Ending.returned (.bool z)) TR.out,HB9.out⟩
         | true =>
           go_wp2_with fail
           refine (SG1.out (by first | rfl | trivial) (by first | rfl | trivial) _ K7.out.r1.g K7.out.r2.g).mono ?_;rintro e w8 ⟨rfl,hb8⟩;have K8:=aA (K7.out.step hb8);clear hb8;clear m0 m1 m2 m3 m4 m5 m6 m7 m8 m9 m10 n0 n1 n2 n3 n4 n5 n6 n7 n8 n9 n10 y0 y1 y2;obtain ⟨m0,m1,m2,m3,m4,m5,m6,m7,m8,m9,m10⟩:=aC K8.out.n1;obtain ⟨n0,n1,n2,n3,n4,n5,n6,n7,n8,n9,n10⟩:=aC K8.out.n2;obtain ⟨⟨y0,y1,y2⟩, -⟩:=cV K8.out.t;cases zg with
           | false =>
             have TR:=aA (show false=r from HR.out);go_wp2_with fail
             go_ret;exact ⟨congrArg (fun z=>Ending.returned (.bool z)) TR.out,K8.out.b⟩
           | true =>
             have TR:=aA (show zc=r from HR.out);go_wp2_with fail
             refine (EC.out _ K8.out.r1.c K8.out.r2.c).mono ?_;rintro e w9 ⟨rfl,hb9⟩;have HB9:=aA (K8.out.b.trans (hb9.mono K8.out.b.size));clear hb9;go_wp2_with fail
             go_ret;exact ⟨congrArg (fun z=>Ending.returned (.bool z)) TR.out,HB9.out⟩
   | true =>
     cases keq with
     | false =>
       have TR:=aA (show false=r from HR.out);go_wp2_with fail
       go_ret;exact ⟨congrArg (fun z=>Ending.returned (.bool z)) TR.out,K2.out.b⟩
     | true =>
       cases ee with
       | false =>
         cases bb with
         | false =>
           have TR:=aA (show zc=r from HR.out);go_wp2_with fail
           refine (EC.out _ K2.out.r1.c K2.out.r2.c).mono ?_;rintro e w9 ⟨rfl,hb9⟩;have HB9:=aA (K2.out.b.trans (hb9.mono K2.out.b.size));clear hb9;go_wp2_with fail
           go_ret;exact ⟨congrArg (fun z=>Ending.returned (.bool z)) TR.out,HB9.out⟩
         | true =>
           go_wp2_with fail
           refine (SG1.out (by first | rfl | trivial) (by first | rfl | trivial) _ K2.out.r1.g K2.out.r2.g).mono ?_;rintro e w8 ⟨rfl,hb8⟩;have K8:=aA (K2.out.step hb8);clear hb8;clear m0 m1 m2 m3 m4 m5 m6 m7 m8 m9 m10 n0 n1 n2 n3 n4 n5 n6 n7 n8 n9 n10 y0 y1 y2;obtain ⟨m0,m1,m2,m3,m4,m5,m6,m7,m8,m9,m10⟩:=aC K8.out.n1;obtain ⟨n0,n1,n2,n3,n4,n5,n6,n7,n8,n9,n10⟩:=aC K8.out.n2;obtain ⟨⟨y0,y1,y2⟩, -⟩:=cV K8.out.t;cases zg with
           | false =>
             have TR:=aA (show false=r from HR.out);go_wp2_with fail
             go_ret;exact ⟨congrArg (fun z=>Ending.returned (.bool z)) TR.out,K8.out.b⟩
           | true =>
             have TR:=aA (show zc=r from HR.out);go_wp2_with fail
             refine (EC.out _ K8.out.r1.c K8.out.r2.c).mono ?_;rintro e w9 ⟨rfl,hb9⟩;have HB9:=aA (K8.out.b.trans (hb9.mono K8.out.b.size));clear hb9;go_wp2_with fail
             go_ret;exact ⟨congrArg (fun z=>Ending.returned (.bool z)) TR.out,HB9.out⟩
       | true =>
         go_wp2_with fail
         refine (SE1.out (by first | rfl | trivial) (by first | rfl | trivial) _ K2.out.r1.e K2.out.r2.e).mono ?_;rintro e w7 ⟨rfl,hb7⟩;have K7:=aA (K2.out.step hb7);clear hb7;clear m0 m1 m2 m3 m4 m5 m6 m7 m8 m9 m10 n0 n1 n2 n3 n4 n5 n6 n7 n8 n9 n10 y0 y1 y2;obtain ⟨m0,m1,m2,m3,m4,m5,m6,m7,m8,m9,m10⟩:=aC K7.out.n1;obtain ⟨n0,n1,n2,n3,n4,n5,n6,n7,n8,n9,n10⟩:=aC K7.out.n2;obtain ⟨⟨y0,y1,y2⟩, -⟩:=cV K7.out.t;cases ze with
         | false =>
           have TR:=aA (show false=r from HR.out);go_wp2_with fail
           go_ret;exact ⟨congrArg (fun z=>Ending.returned (.bool z)) TR.out,K7.out.b⟩
         | true =>
           cases bb with
           | false =>
             have TR:=aA (show zc=r from HR.out);go_wp2_with fail
             refine (EC.out _ K7.out.r1.c K7.out.r2.c).mono ?_;rintro e w9 ⟨rfl,hb9⟩;have HB9:=aA (K7.out.b.trans (hb9.mono K7.out.b.size));clear hb9;go_wp2_with fail
             go_ret;exact ⟨congrArg (fun z=>Ending.returned (.bool z)) TR.out,HB9.out⟩
           | true =>
             go_wp2_with fail
             refine (SG1.out (by first | rfl | trivial) (by first | rfl | trivial) _ K7.out.r1.g K7.out.r2.g).mono ?_;rintro e w8 ⟨rfl,hb8⟩;have K8:=aA (K7.out.step hb8);clear hb8;clear m0 m1 m2 m3 m4 m5 m6 m7 m8 m9 m10 n0 n1 n2 n3 n4 n5 n6 n7 n8 n9 n10 y0 y1 y2;obtain ⟨m0,m1,m2,m3,m4,m5,m6,m7,m8,m9,m10⟩:=aC K8.out.n1;obtain ⟨n0,n1,n2,n3,n4,n5,n6,n7,n8,n9,n10⟩:=aC K8.out.n2;obtain ⟨⟨y0,y1,y2⟩, -⟩:=cV K8.out.t;cases zg with
             | false =>
               have TR:=aA (show false=r from HR.out);go_wp2_with fail
               go_ret;exact ⟨congrArg (fun z=>Ending.returned (.bool z)) TR.out,K8.out.b⟩
             | true =>
               have TR:=aA (show zc=r from HR.out);go_wp2_with fail
               refine (EC.out _ K8.out.r1.c K8.out.r2.c).mono ?_;rintro e w9 ⟨rfl,hb9⟩;have HB9:=aA (K8.out.b.trans (hb9.mono K8.out.b.size));clear hb9;go_wp2_with fail
               go_ret;exact ⟨congrArg (fun z=>Ending.returned (.bool z)) TR.out,HB9.out⟩
theorem JN (L:List Tk) (p:Nat):eJ L p=bM L p:=by unfold eJ bM;cases L[p]? <;> rfl
theorem wT {L:List Tk} {p:Nat} (h:¬ (bM L p).kind=0):p<L.length:=by
 rcases Nat.lt_or_ge p L.length with hp | hp
 · exact hp
 · exact absurd (by unfold bM;rw [List.getElem?_eq_none hp];rfl) h
structure PR (ts:List Tk) (rb:Nat) (a:Option Addr) (c p:Nat) (er:Int) (w:World):Prop where
 r:w.heap[rb]? = some (.cells #[.slice a ts.length c,.int .i64 p,.int .i64 er] 75 (0,0))
 t:yC rb w a ts
 p:p<=ts.length
 n:ts.length<=100000
abbrev PS (ts:List Tk) (rb:Nat) (a:Option Addr) (c:Nat) (s:RS) (w:World):Prop:=PR ts rb a c (atR s) s.bad w
section
variable {ts:List Tk} {rb:Nat} {a:Option Addr} {c p:Nat} {er:Int} {w w':World}
theorem PR.kept (h:PR ts rb a c p er w) {S:Nat->Prop} (hk:aE S w w') (hS:∀ k,S k->rb<k):PR ts rb a c p er w' :=
 ⟨hk.heap h.r (fun hs=>by have:=hS rb hs;omega),h.t.kept hk (fun k hs=>by have:=hS k hs;omega),h.p,h.n⟩
theorem PR.below (h:PR ts rb a c p er w) (hb:Below w.heap.size w w'):PR ts rb a c p er w' :=
 h.kept (aF hb (fun _=>False)) (fun _ h=>h.elim)
theorem PR.lt (h:PR ts rb a c p er w):rb<w.heap.size:=aG h.r
theorem PR.setE (h:PR ts rb a c p er w) (e:Int):PR ts rb a c p e (w.setCell ⟨rb,2,none⟩ (.int .i64 e)):=by
 refine ⟨?_,h.t.kept ((aE.refl (· = rb) w).setCell (p:=⟨rb,2,none⟩) (.inl rfl) _) (fun k hk=>by omega),h.p,h.n⟩;have:=heap_setCell_same w rb 2 _ 75 (.int .i64 e) h.r;simpa using this
theorem PR.setP (h:PR ts rb a c p er w) (q:Nat) (hq:q<=ts.length):PR ts rb a c q er (w.setCell ⟨rb,1,none⟩ (.int .i64 (q:Nat))):=by
 refine ⟨?_,h.t.kept ((aE.refl (· = rb) w).setCell (p:=⟨rb,1,none⟩) (.inl rfl) _) (fun k hk=>by omega),hq,h.n⟩;have:=heap_setCell_same w rb 1 _ 75 (.int .i64 (q:Nat)) h.r;simpa using this
theorem PR.reads (h:PR ts rb a c p er w):eW w a ts :=
 h.t.imp id fun ⟨b,off,e,hlt,hc⟩=>⟨b,off,e,Nat.lt_trans hlt h.lt,hc⟩
theorem PR.drewN (h:PR ts rb a c p er w) (n:Nat):PR ts rb a c p er (w.drewN n):=h.kept ((aE.refl (fun _=>False) w).drewN n) (fun _ h=>h.elim)
end
theorem kU (ts:List Tk) (rb:Nat) (a:Option Addr) (c p:Nat) (er:Int) (w:World) (h:PR ts rb a c p er w) :
 Calls Tryz.prog 132 #[.pointer (some ⟨rb,0,none⟩)] w fun e w'=>e=.returned (tkG (bM ts p))/\Below w.heap.size w w':=by
 rw [<- JN];have hpos:=h.p;have hn:=h.n;have BA:=(Below.refl w.heap.size w).alloc (Nat.le_refl _) (tkO 0 ⟨#[]⟩ 0 0);have NB:=heap_alloc_new w (tkO 0 ⟨#[]⟩ 0 0);have hP:=h.below BA;have hsz:(w.alloc (tkO 0 ⟨#[]⟩ 0 0)).heap.size=w.heap.size+1:=World.size_alloc _ _;obtain ⟨⟨c0,c1,c2⟩, -⟩:=cV hP.r;obtain ⟨⟨x0,x1,x2,x3⟩,f0,f1,f2,f3⟩:=aK NB;by_cases hlt:p<ts.length
 · obtain ⟨b,off,ha, -,p0,p1,p2,p3⟩:=aY hP.t hlt
   subst ha;obtain ⟨X,hX⟩:∃ X,tkG (eJ ts p)=X:=⟨_,rfl⟩;have hX':=hX;rw [sO hlt] at hX';unfold tkG at hX';rw [hX];generalize ts[p]=t at p0 p1 p2 p3 hX';obtain ⟨k,s,nn,pp⟩:=t;simp only at p0 p1 p2 p3 hX';have a1:((p:Int) == (ts.length:Int))=false:=by rw [beq_eq_false_iff_ne];omega
   have a2:(p:Int)<(ts.length:Int):=by omega
   have a4:(0:Int)<=(p:Int):=by omega
   have a3:((p:Int)).toNat=p:=by omega
   subst hX';clear hX h hP;have HN:=aA NB;have HB:=aA BA;clear NB BA;go_enter Tryz.func132,Tryz.ntmps132
   go_upto_region 1 with fail
   generalize w.alloc (tkO 0 ⟨#[]⟩ 0 0)=W at *;go_upto_region 3 with (go_quiet (fail))
   go_region
   go_wp2_with fail
   obtain ⟨⟨d0,d1,d2,d3⟩, -⟩:=aK (aV (W:=W.drewN (nq+1)) HN.out (.int .i64 k) (.string ⟨s.toArray⟩) (.int .i64 nn) (.int .i64 pp));exact bodyPost_ret (v:=.agg #[.int .i64 k,.string ⟨s.toArray⟩,.int .i64 nn,.int .i64 pp]) (by simp [results,Tryz.results132,go_sem,d0,d1,d2,d3]) rfl ⟨rfl,jW HB.out (Nat.le_refl _) (by omega) (nq+1) _ _ _ _⟩
 · obtain rfl:p=ts.length:=by omega
   rw [sP (Nat.le_refl _)];clear h hP;have HN:=aA NB;have HB:=aA BA;clear NB BA;go_enter Tryz.func132,Tryz.ntmps132
   go_upto_region 1 with fail
   generalize w.alloc (tkO 0 ⟨#[]⟩ 0 0)=W at *;go_upto_region 2 with (go_quiet (fail))
   go_wp2_with fail
   obtain ⟨⟨d0,d1,d2,d3⟩, -⟩:=aK (aV (W:=W.drewN nq) HN.out (.int .i64 0) (.string ⟨#[]⟩) (.int .i64 0) (.int .i64 0));exact bodyPost_ret (v:=.agg #[.int .i64 0,.string ⟨#[]⟩,.int .i64 0,.int .i64 0]) (by simp [results,Tryz.results132,go_sem,d0,d1,d2,d3]) rfl ⟨rfl,jW HB.out (Nat.le_refl _) (by omega) nq _ _ _ _⟩
theorem f7 (ts:List Tk) (rb:Nat) (a:Option Addr) (c:Nat) (s:RS) (so:Bool) (er:Int) (he:¬ er=0) (w:World) (h:PS ts rb a c s w) :
 Calls Tryz.prog 133 #[.pointer (some ⟨rb,0,none⟩),.bool so,.int .i64 er] w fun e w'=>e=.returned (.tuple #[])/\PS ts rb a c (bW so er s) w'/\aE (· = rb) w w':=by
 obtain ⟨⟨c0,c1,c2⟩,f0,f1,f2⟩:=cV h.r;cases so with
 | true =>
   have H:=aA (show PS ts rb a c (bW true er s) w from h);clear h;go_enter Tryz.func133,Tryz.ntmps133
   go_wp2_with fail
   go_end0
   exact ⟨rfl,H.out,aE.refl _ _⟩
 | false =>
   by_cases hb:s.bad=0
   · have q:((s.bad:Int) == 0)=true:=by rw [hb];rfl
     have H:=aA (show PS ts rb a c (bW false er s) (w.setCell ⟨rb,2,none⟩ (.int .i64 er)) from by
      rw [gG];show PR ts rb a c (atR (aR er s)) (aR er s).bad _;rw [Jc er he s,show (aR er s).bad=er by unfold aR;rw [if_pos hb]];exact h.setE er)
     clear h hb;go_enter Tryz.func133,Tryz.ntmps133
     go_wp2_with fail
     go_end0
     exact ⟨rfl,H.out,cS (aE.refl _ _) 2 _⟩
   · have q:((s.bad:Int) == 0)=false:=beq_eq_false_iff_ne.2 hb
     have H:=aA (show PS ts rb a c (bW false er s) w from by rw [gG,nX hb];exact h);clear h hb;go_enter Tryz.func133,Tryz.ntmps133
     go_wp2_with fail
     go_end0
     exact ⟨rfl,H.out,aE.refl _ _⟩
theorem i1 (ts:List Tk) (rb:Nat) (a:Option Addr) (c:Nat) (s:RS) (hlt:s.bad=0->s.pos<ts.length) (w:World) (h:PS ts rb a c s w) :
 Calls Tryz.prog 134 #[.pointer (some ⟨rb,0,none⟩)] w fun e w'=>e=.returned (.tuple #[])/\PS ts rb a c (goR s) w'/\aE (· = rb) w w':=by
 obtain ⟨⟨c0,c1,c2⟩,f0,f1,f2⟩:=cV h.r;have hp:=h.p;have hn:=h.n;by_cases hb:s.bad=0
 · have q:((s.bad:Int) == 0)=true:=by rw [hb];rfl
   have H:=aA (show PS ts rb a c (goR s) (w.setCell ⟨rb,1,none⟩ (.int .i64 ((atR s:Nat)+1:Nat))) from by
    rw [Ar hb];show PR ts rb a c (atR (aO s)) s.bad _;rw [show atR (aO s)=atR s+1 by rw [jX hb,jX (show (aO s).bad=0 from hb)];rfl];exact h.setP (atR s+1) (by rw [jX hb];exact hlt hb))
   rw [Int.natCast_add] at H;clear h hb hlt;go_enter Tryz.func134,Tryz.ntmps134
   go_wp2_with fail
   go_end0
   exact ⟨rfl,H.out,cS (aE.refl _ _) 1 _⟩
 · have q:((s.bad:Int) == 0)=false:=beq_eq_false_iff_ne.2 hb
   have H:=aA (show PS ts rb a c (goR s) w from by rw [fW hb];exact h);clear h hb hlt;go_enter Tryz.func134,Tryz.ntmps134
   go_wp2_with fail
   go_end0
   exact ⟨rfl,H.out,aE.refl _ _⟩
theorem j1 {so:Bool} {e:Int} (he:¬ e=0) {s:RS} (h:(bW so e s).bad=0):so=true/\s.bad=0:=by
 cases so with
 | true=>exact ⟨rfl,h⟩
 | false =>
   by_cases hb:s.bad=0
   · exact absurd h (dA he hb)
   · rw [gG,nX hb] at h;exact absurd h hb
theorem iE (so:Bool) (e:Int) (s:RS):(bW so e s).pos=s.pos:=by
 unfold bW;split
 · rfl
 · exact jS e s
theorem pJ (t:Tk):tkG t=.agg #[.int .i64 t.kind,.string ⟨t.text.toArray⟩,.int .i64 t.num,.int .i64 t.place]:=rfl
theorem nE (ts:List Tk) (rb:Nat) (a:Option Addr) (c:Nat) (s:RS) (x:ByteArray) (w:World) (h:PS ts rb a c s w) :
 Calls Tryz.prog 83 #[.pointer (some ⟨rb,0,none⟩),.string x] w fun e w'=>e=.returned (.tuple #[])/\PS ts rb a c (aU ts x.data.toList s) w'/\aE (· = rb) w w':=by
 have TL:(bM ts (atR s)).kind=3->atR s<ts.length:=fun hk=>wT (by rw [hk];decide)
 have SI:=Ik ts x.data.toList s;have NX:=kU ts rb a c (atR s) s.bad w h;obtain ⟨t,ht⟩:∃ t,bM ts (atR s)=t:=⟨_,rfl⟩;rw [ht] at TL SI NX;rw [pJ] at NX;rw [<- SI];clear SI ht;obtain ⟨X,hX⟩:∃ X:ByteArray,⟨t.text.toArray⟩=X:=⟨_,rfl⟩;have hXl:t.text=X.data.toList:=by rw [<- hX]
 rw [hX] at NX;rw [hXl, <- Lib.toList_data, <- Lib.toList_data];obtain ⟨k,s',nn,pp⟩:=t;simp only at TL NX hX |-
 have HT:=aA TL;have HN:=aA NX;have HP:=aA h;obtain ⟨so,hso⟩:∃ so,((k == 3) && (X.toList == x.toList))=so:=⟨_,rfl⟩;rw [hso];have HSO:=aA hso;clear TL NX hX hXl h hso;have hrb:=HP.out.lt;go_enter Tryz.func83,Tryz.ntmps83
 go_wp2_with fail
 refine HN.out.mono ?_;rintro e w1 ⟨rfl,hb⟩;have P1:=HP.out.below hb;have K1:=aF hb (· = rb);have BA:=(Below.refl w1.heap.size w1).alloc (Nat.le_refl _) (tkO k X nn pp);have NB:=heap_alloc_new w1 (tkO k X nn pp);have P2:=aA (P1.below BA);have K2:=aA (K1.trans (aF BA (· = rb)) (fun i hi _=>hi));have CM:=aA (fun so V (hV:PS ts rb a c s V)=>f7 ts rb a c s so 2 (by decide) V hV);obtain ⟨⟨x0,x1,x2,x3⟩, -⟩:=aK NB;clear hb P1 K1 BA NB HN;cases hk3:(k == 3) with
 | true =>
   have z:(k == 3)=true:=hk3;have hso:(X.toList == x.toList)=so:=by rw [<- HSO.out,hk3,Bool.true_and]
   have hz:=HT.out (by simpa using hk3);clear hk3;go_upto_region 1 with fail
   generalize w1.alloc (tkO k X nn pp)=W at *;go_wp2_with fail
   refine (CM.out so _ P2.out).mono ?_;rintro e w2 ⟨rfl,P3,k3⟩;clear hso;have K3:=K2.out.trans k3 (fun i hi _=>hi);have CS:=i1 ts rb a c (bW so 2 s) (fun hh=>by rw [iE];have:=(j1 (by decide) hh).2;rw [jX this] at hz;exact hz) w2 P3;have HC:=aA CS;have HK:=aA K3;clear P3 k3 K3 CS CM P2 K2 x0 x1 x2 x3;go_wp2_with fail
   refine HC.out.mono ?_;rintro e w3 ⟨rfl,P4,k4⟩;have P5:=aA P4;have K5:=aA (HK.out.trans k4 (fun i hi _=>hi));clear P4 k4;go_wp2_with fail
   go_end0
   exact ⟨rfl,P5.out,K5.out⟩
 | false =>
   have z:(k == 3)=false:=hk3;have hz:false=so:=by rw [<- HSO.out,hk3,Bool.false_and]
   subst hz;clear hk3;go_upto_region 1 with fail
   generalize w1.alloc (tkO k X nn pp)=W at *;go_wp2_with fail
   refine (CM.out false _ P2.out).mono ?_;rintro e w2 ⟨rfl,P3,k3⟩;have K3:=K2.out.trans k3 (fun i hi _=>hi);have CS:=i1 ts rb a c (bW false 2 s) (fun hh=>absurd (j1 (by decide) hh).1 (by decide)) w2 P3;have HC:=aA CS;have HK:=aA K3;clear P3 k3 K3 CS CM P2 K2 x0 x1 x2 x3;go_wp2_with fail
   refine HC.out.mono ?_;rintro e w3 ⟨rfl,P4,k4⟩;have P5:=aA P4;have K5:=aA (HK.out.trans k4 (fun i hi _=>hi));clear P4 k4;go_wp2_with fail
   go_end0
   exact ⟨rfl,P5.out,K5.out⟩
theorem D7 (ts:List Tk) (rb:Nat) (a:Option Addr) (c:Nat) (s:RS) (w:World) (h:PS ts rb a c s w) :
 Calls Tryz.prog 82 #[.pointer (some ⟨rb,0,none⟩)] w fun e w'=>e=.returned (.string ⟨(bM ts (atR s)).text.toArray⟩) /\
  PS ts rb a c (goR (bW (dM (bM ts (atR s)).text) 5 (bW ((bM ts (atR s)).kind == 1) 2 s))) w'/\aE (· = rb) w w':=by
 have TL:(bM ts (atR s)).kind=1->atR s<ts.length:=fun hk=>wT (by rw [hk];decide)
 have NX:=kU ts rb a c (atR s) s.bad w h;obtain ⟨t,ht⟩:∃ t,bM ts (atR s)=t:=⟨_,rfl⟩;rw [ht] at TL NX;rw [pJ] at NX;rw [ht];clear ht;obtain ⟨X,hX⟩:∃ X:ByteArray,⟨t.text.toArray⟩=X:=⟨_,rfl⟩;have hXl:t.text=X.data.toList:=by rw [<- hX]
 rw [hX] at NX |-
 rw [hXl];obtain ⟨k,s',nn,pp⟩:=t;simp only at TL NX hX |-
 have HT:=aA TL;have HN:=aA NX;have HP:=aA h;obtain ⟨fo,hfo⟩:∃ b,dM X.data.toList=b:=⟨_,rfl⟩;rw [hfo];have HFO:=aA hfo;clear TL NX hX hXl h hfo;have hrb:=HP.out.lt;go_enter Tryz.func82,Tryz.ntmps82
 go_wp2_with fail
 refine HN.out.mono ?_;rintro e w1 ⟨rfl,hb⟩;have P1:=HP.out.below hb;have K1:=aF hb (· = rb);have BA:=(Below.refl w1.heap.size w1).alloc (Nat.le_refl _) (tkO k X nn pp);have NB:=heap_alloc_new w1 (tkO k X nn pp);have P2:=aA (P1.below BA);have K2:=aA (K1.trans (aF BA (· = rb)) (fun i hi _=>hi));have hb1:=hb.size;have hs1:(w1.alloc (tkO k X nn pp)).heap.size=w1.heap.size+1:=World.size_alloc _ _;clear hb P1 K1 BA HN;obtain ⟨B,hB⟩:∃ B,w1.heap.size=B:=⟨_,rfl⟩;rw [hB] at NB hs1;have hBr:rb<B:=by omega
 go_upto_region 2 with fail
 try rw [hB]
 generalize w1.alloc (tkO k X nn pp)=W at *;clear hB hb1;obtain ⟨⟨x0,x1,x2,x3⟩, -⟩:=aK NB;have HNB:=aA NB;have CP:=aA (i6 X W);rw [HFO.out] at CP;clear NB;go_wp2_with fail
 refine CP.out.mono ?_;rintro e w2 ⟨rfl,hb⟩;have P3:=P2.out.below hb;have K3:=K2.out.trans (aF hb (· = rb)) (fun i hi _=>hi);have N3:=(hb.block B (by omega)).trans HNB.out;have hz3:=hb.size;have BA:=(Below.refl w2.heap.size w2).alloc (Nat.le_refl _) (ptO (kP X.data.toList) (eP X.data.toList) (bP X.data.toList));have P4:=aA (P3.below BA);have K4:=aA (K3.trans (aF BA (· = rb)) (fun i hi _=>hi));have N4:=aA ((BA.block B (by omega)).trans N3);clear hb P3 K3 N3 hz3 BA CP P2 K2 HNB x0 x1 x2 x3;go_upto_region 3 with fail
 generalize w2.alloc (ptO (kP X.data.toList) (eP X.data.toList) (bP X.data.toList))=W2 at *;obtain ⟨⟨x0,x1,x2,x3⟩, -⟩:=aK N4.out;have CM:=aA (f7 ts rb a c s (k == 1) 2 (by decide) W2 P4.out);go_wp2_with fail
 refine CM.out.mono ?_;rintro e w3 ⟨rfl,P5,k5⟩;have N5:=k5.heap N4.out (by omega);have K5:=aA (K4.out.trans k5 (fun i hi _=>hi));have CF:=aA (f7 ts rb a c (bW (k == 1) 2 s) fo 5 (by decide) w3 P5);clear P5 k5 CM P4 K4 N4 x0 x1 x2 x3;obtain ⟨⟨x0,x1,x2,x3⟩, -⟩:=aK N5;have N6:=aA N5;clear N5;go_wp2_with fail
 refine CF.out.mono ?_;rintro e w4 ⟨rfl,P7,k7⟩;have N7:=k7.heap N6.out (by omega);have K7:=aA (K5.out.trans k7 (fun i hi _=>hi))
 have CS:=aA (i1 ts rb a c (bW fo 5 (bW (k == 1) 2 s)) (fun hh=>by
  rw [iE,iE];have h1:=(j1 (by decide) hh).2;have h2:=j1 (by decide) h1;have:=HT.out (by simpa using h2.1);rw [jX h2.2] at this;exact this) w4 P7)
 clear P7 k7 CF K5 N6 x0 x1 x2 x3;obtain ⟨⟨x0,x1,x2,x3⟩, -⟩:=aK N7;have N8:=aA N7;clear N7;go_wp2_with fail
 refine CS.out.mono ?_;rintro e w5 ⟨rfl,P9,k9⟩;have N9:=k9.heap N8.out (by omega);have K9:=aA (K7.out.trans k9 (fun i hi _=>hi));have P10:=aA P9;clear P9 k9 CS K7 N8 x0 x1 x2 x3;obtain ⟨⟨x0,x1,x2,x3⟩, -⟩:=aK N9;clear N9;go_wp2_with fail
 go_ret;exact ⟨rfl,P10.out,K9.out⟩
theorem Kl (ts:List Tk) (rb:Nat) (a:Option Addr) (c:Nat) (s:RS) (w:World) (h:PS ts rb a c s w) :
 Calls Tryz.prog 135 #[.pointer (some ⟨rb,0,none⟩)] w fun e w'=>e=.returned (.int .i64 (bM ts (atR s)).num)/\PS ts rb a c (pI ts s) w'/\aE (· = rb) w w':=by
 have TL:(bM ts (atR s)).kind=2->atR s<ts.length:=fun hk=>wT (by rw [hk];decide)
 have NX:=kU ts rb a c (atR s) s.bad w h;unfold pI;obtain ⟨t,ht⟩:∃ t,bM ts (atR s)=t:=⟨_,rfl⟩;rw [ht] at TL NX;rw [pJ] at NX;rw [ht];clear ht;obtain ⟨X,hX⟩:∃ X:ByteArray,⟨t.text.toArray⟩=X:=⟨_,rfl⟩;rw [hX] at NX;obtain ⟨k,s',nn,pp⟩:=t;simp only at TL NX hX |-
 have HT:=aA TL;have HN:=aA NX;have HP:=aA h;obtain ⟨so,hso⟩:∃ so,(decide (1<=nn) && decide (nn<=16))=so:=⟨_,rfl⟩;rw [hso];have HSO:=aA hso;clear TL NX hX h hso;have hrb:=HP.out.lt;go_enter Tryz.func135,Tryz.ntmps135
 go_wp2_with fail
 refine HN.out.mono ?_;rintro e w1 ⟨rfl,hb⟩;have P1:=HP.out.below hb;have K1:=aF hb (· = rb);have BA:=(Below.refl w1.heap.size w1).alloc (Nat.le_refl _) (tkO k X nn pp);have NB:=heap_alloc_new w1 (tkO k X nn pp);have P2:=aA (P1.below BA);have K2:=aA (K1.trans (aF BA (· = rb)) (fun i hi _=>hi));have hb1:=hb.size;have hs1:(w1.alloc (tkO k X nn pp)).heap.size=w1.heap.size+1:=World.size_alloc _ _;clear hb P1 K1 BA HN;obtain ⟨B,hB⟩:∃ B,w1.heap.size=B:=⟨_,rfl⟩;rw [hB] at NB hs1;have hBr:rb<B:=by omega
 go_upto_region 2 with fail
 try rw [hB]
 generalize w1.alloc (tkO k X nn pp)=W at *;clear hB hb1;obtain ⟨⟨x0,x1,x2,x3⟩, -⟩:=aK NB;have HNB:=aA NB;have CM:=aA (f7 ts rb a c s (k == 2) 2 (by decide) W P2.out);clear NB;go_wp2_with fail
 refine CM.out.mono ?_;rintro e w3 ⟨rfl,P5,k5⟩;have N5:=k5.heap HNB.out (by omega);have K5:=aA (K2.out.trans k5 (fun i hi _=>hi));have CK:=aA (Ag nn w3);have CF:=aA (f7 ts rb a c (bW (k == 2) 2 s) (decide (1<=nn) && decide (nn<=16)) 1 (by decide) w3 P5);clear P5 k5 CM P2 K2 HNB x0 x1 x2 x3;obtain ⟨⟨x0,x1,x2,x3⟩, -⟩:=aK N5;have N6:=aA N5;clear N5;rw [HSO.out] at CK CF;go_wp2_with fail
 refine CK.out.mono ?_;rintro e w3' ⟨rfl,rfl⟩;go_wp2_with fail
 refine CF.out.mono ?_;rintro e w4 ⟨rfl,P7,k7⟩;have N7:=k7.heap N6.out (by omega);have K7:=aA (K5.out.trans k7 (fun i hi _=>hi))
 have CS:=aA (i1 ts rb a c (bW so 1 (bW (k == 2) 2 s)) (fun hh=>by
  rw [iE,iE];have h1:=(j1 (by decide) hh).2;have h2:=j1 (by decide) h1;have:=HT.out (by simpa using h2.1);rw [jX h2.2] at this;exact this) w4 P7)
 clear P7 k7 CF K5 N6 x0 x1 x2 x3;obtain ⟨⟨x0,x1,x2,x3⟩, -⟩:=aK N7;have N8:=aA N7;clear N7;go_wp2_with fail
 refine CS.out.mono ?_;rintro e w5 ⟨rfl,P9,k9⟩;have N9:=k9.heap N8.out (by omega);have K9:=aA (K7.out.trans k9 (fun i hi _=>hi));have P10:=aA P9;clear P9 k9 CS K7 N8 x0 x1 x2 x3;obtain ⟨⟨x0,x1,x2,x3⟩, -⟩:=aK N9;clear N9;go_wp2_with fail
 go_ret;exact ⟨rfl,P10.out,K9.out⟩
end
end Go.Proofs.YtapcjnoaofmmiaaGreatDoor
