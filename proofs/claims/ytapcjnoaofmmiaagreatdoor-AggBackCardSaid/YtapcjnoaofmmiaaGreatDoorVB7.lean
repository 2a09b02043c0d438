/-
 No statement: what AggBackCard needs, of the texts OE11.
-/
import Derived.Test.YtapcjnoaofmmiaaGreatDoorVB6
set_option maxHeartbeats 40000000
set_option maxRecDepth 100000
namespace Go.Proofs.YtapcjnoaofmmiaaGreatDoor
section
section
open Go.RowKit
theorem J3:(Tryz.prog.info? 29).map (fun i=>(i.zero,i.size,i.bytes))=some (some (.int .i64 0),1,8):=by kernel_rfl
def GS (t:TN):Prop:=SzF t.f
theorem JS {t t2:TN} {j:Nat} (h:GS t) (hj:t.ks.at j=some t2):GS t2:=SzF.at (f:=t.ks) h.2.2.1 hj
def WdE (_:Nat) (_:World):Prop:=True
theorem wdE {w w':World} {lb:Nat} (_:WdE lb w) (_:aL (· = lb) w w'):WdE lb w':=trivial
def l5 (_:Nat->Prop) (_:World) (t:TN) (v:Value):Prop:=v=.int .i64 (aT t.f)
theorem kN {G H:Nat->Prop} {w:World} {t:TN} {v:Value} (h:l5 G w t v) (_:∀ b,b<w.heap.size->G b->H b):l5 H w t v:=h
theorem lF {S G:Nat->Prop} {w w':World} {t:TN} {v:Value} (h:l5 G w t v) (_:aL S w w') (_:∀ k,S k->¬ G k):l5 G w' t v:=h
theorem I7 {G:Nat->Prop} {w:World} {t:TN} {v:Value} (h:l5 G w t v):∃ z,v=.int .i64 z:=⟨_,h⟩
theorem Kc {G:Nat->Prop} {w:World} {t:TN} {v:Value} (h:l5 G w t v):v.oneCell'=true:=by rw [h];rfl
theorem qY (t:TN) (r:F):aT (.cons t.op t.nm t.n t.ks r)=if aT t.f=0 then aT r else aT t.f:=by
 rw [mQ,aT];by_cases h1:iX t.op t.nm t.n t.ks.len=0
 · rw [if_pos h1,if_pos h1]
 · rw [if_neg h1,if_neg h1,if_neg h1]
theorem Ci {o:ByteArray} {x:List UInt8} (h:(o.data.toList == x)=true):(o.toList == x)=true:=by rw [Lib.toList_data];exact h
theorem Cj {o:ByteArray} {x:List UInt8} (h:(o.data.toList == x)=false):(o.toList == x)=false:=by rw [Lib.toList_data];exact h
theorem Hy (t:TN) (w:World) (G:Nat->Prop) (a:Option Addr) (c:Nat) (va:Option Addr) (vc:Nat) (vs:List Value) (base:Nat) (hpre:GS t) {lb:Nat} (_:WdE lb w) (_:aI G w a t.ks) (ho:w.ownsRow base 29 1 (.slice va t.ks.len vc) t.ks.len vs)
 (hv:∀ j t2,t.ks.at j=some t2->∃ v,vs[j]? = some v/\l5 (fun b=>base<=b/\(Value.slice va t.ks.len vc).ownBlock ≠ some b) w t2 v) :
 Calls Tryz.prog 141 #[bI t.op t.nm t.n a t.ks.len c,.slice va t.ks.len vc] w fun e w'=>∃ v,e=.returned v/\l5 (fun b=>w.heap.size<=b) w' t v/\Below w.heap.size w w':=by
 have BA:=(Below.refl w.heap.size w).alloc (Nat.le_refl _) (ndG t.op t.nm t.n a t.ks.len c);have NB:=heap_alloc_new w (ndG t.op t.nm t.n a t.ks.len c);have O1:=aA (bO ho BA);generalize hW:w.alloc (ndG t.op t.nm t.n a t.ks.len c)=W at BA NB O1;have HW:=aA hW;have HB:=aA BA;have HV:=aA hv;have hm:t.nm.size<=281474976710656:=hpre.1;have hlen9:t.ks.len<=9223372036854775807:=hpre.2.1;obtain ⟨⟨m0,m1,m2,m3⟩, -⟩:=aO NB;have KO:=aA (fun w=>lR t.op w);have NM:=aA (fun w=>vA t.nm hm w);have CT:=mQ t;unfold iX at CT;have HCT:=aA CT;clear hW BA NB ho hv hpre CT;have P:=aA (p:=∀ r:Int,r=aT t.f->∀ W',Below w.heap.size w W'->∃ v,Ending.returned (.int .i64 r)=.returned v/\l5 (fun b=>w.heap.size<=b) W' t v/\Below w.heap.size w W') (fun r hr W' hb=>⟨_,rfl,by rw [hr];rfl,hb⟩);by_cases h1:(a7 t.op != (t.ks.len:Int))=true
 · have P2:=aA (P.out 2 (by rw [HCT.out,if_pos h1];rfl) W HB.out)
   have b1:((t.ks.len:Int) != a7 t.op)=true:=by rw [bne_iff_ne] at h1 |-;exact fun e=>h1 e.symm
   clear h1 P HCT;go_enter Tryz.func141,Tryz.ntmps141
   go_upto_region 1 with fail
   rw [HW.out];go_wp2_with (go_at_call 147;refine (KO.out _).mono ?_;rintro e w' ⟨rfl,rfl⟩)
   go_ret;exact P2.out
 · have b1:((t.ks.len:Int) != a7 t.op)=false:=by rw [bne_eq_false_iff_eq];simp at h1;exact h1.symm
   rw [if_neg h1] at HCT;clear h1;cases h2:aV t.op with
   | true =>
     have g2:=Ci h2
     have g1:(t.op.toList == [110,117,109])=false:=by
      have:t.op.data.toList=fX:=by unfold aV at h2;simpa using h2
      rw [Lib.toList_data,this];rfl
     have hn:bD t.op=false:=by unfold bD jV;rw [<- Lib.toList_data];exact g1
     unfold fX at g2;cases hg:dQ t.nm.data.toList with
     | false =>
       rw [hg] at NM;have P2:=aA (P.out 5 (by rw [HCT.out,h2,hg];rfl) W HB.out);clear h2 hg hn P HCT;go_enter Tryz.func141,Tryz.ntmps141
       go_upto_region 1 with fail
       rw [HW.out];go_wp2_with (first | (go_at_call 147;refine (KO.out _).mono ?_;rintro e w' ⟨rfl,rfl⟩) | (go_at_call 168;refine (NM.out _).mono ?_;rintro e w' ⟨rfl,rfl⟩))
       go_ret;exact P2.out
     | true =>
       rw [hg] at NM;have E:=aA (show aT t.f=aT t.ks by rw [HCT.out,h2,hg,hn];rfl);clear h2 hg hn HCT;go_enter Tryz.func141,Tryz.ntmps141
       go_upto_region 1 with fail
       rw [HW.out];go_wp2_with (first | (go_at_call 147;refine (KO.out _).mono ?_;rintro e w' ⟨rfl,rfl⟩) | (go_at_call 168;refine (NM.out _).mono ?_;rintro e w' ⟨rfl,rfl⟩))
       go_loop [35] (fun i=>∃ k:Nat,i=.int .i64 k/\k<=t.ks.len/\Hid (aT (t.ks.drop k)=aT t.ks)) (fun i=>t.ks.len-(intOf i).toNat)
       case atStart=>exact ⟨0,rfl,Nat.zero_le _,aA (by rw [F.drop_zero])⟩
       case round =>
        obtain ⟨k,rfl,hk,hD⟩:=hrel;by_cases hlt:k<t.ks.len
        · obtain ⟨t2,hat,hdr⟩:=dC hlt
          obtain ⟨v,hvj,hvr⟩:=HV.out k t2 hat;obtain ⟨g,cc,hva, -, -,hcs⟩:=dB O1.out (by omega);have hx:=hcs k v hvj;have HD2:=aA (show aT t.ks=if aT t2.f=0 then aT (t.ks.drop (k+1)) else aT t2.f by have e:=qY t2 (t.ks.drop (k+1));rw [<- hdr,hD.out] at e;exact e);simp only [Value.slice.injEq,true_and] at hva;obtain ⟨rfl,rfl⟩:=hva;unfold l5 at hvr;subst hvr;clear hvj hat hdr hcs;by_cases h0:aT t2.f=0
          · have b0:((aT t2.f:Int) != 0)=false:=by rw [h0];rfl
            have D2:=aA (show aT (t.ks.drop (k+1))=aT t.ks by rw [HD2.out,if_pos h0]);clear h0 HD2;go_wp2_with fail
            go_round
            case rel=>exact ⟨k+1,by go_num,by omega,D2⟩
            case measure=>simp [intOf];omega
          · have b0:((aT t2.f:Int) != 0)=true:=by simpa using h0
            have P2:=aA (P.out (aT t2.f) (by rw [E.out,HD2.out,if_neg h0]) W HB.out);clear h0 HD2;go_wp2_with fail
            go_ret;exact P2.out
        · obtain rfl:k=t.ks.len:=by omega
          have P2:=aA (P.out 0 (by rw [E.out, <- hD.out,F.drop_len _ _ (Nat.le_refl _)];rfl) W HB.out);go_wp2_with fail
          go_ret;exact P2.out
   | false =>
     have g2:=Cj h2;unfold fX at g2;cases h3:bD t.op with
     | true =>
       have g3:=Ci h3;unfold jV at g3;by_cases h4:t.n<0
       · have P2:=aA (P.out 1 (by rw [HCT.out,h2,h3,decide_eq_true h4];rfl) W HB.out)
         clear h2 h3 P HCT;go_enter Tryz.func141,Tryz.ntmps141
         go_upto_region 1 with fail
         rw [HW.out];go_wp2_with (go_at_call 147;refine (KO.out _).mono ?_;rintro e w' ⟨rfl,rfl⟩)
         go_ret;exact P2.out
       · have E:=aA (show aT t.f=aT t.ks by rw [HCT.out,h2,h3,decide_eq_false h4];rfl)
         clear h2 h3 HCT;go_enter Tryz.func141,Tryz.ntmps141
         go_upto_region 1 with fail
         rw [HW.out];go_wp2_with (go_at_call 147;refine (KO.out _).mono ?_;rintro e w' ⟨rfl,rfl⟩)
         go_loop [35] (fun i=>∃ k:Nat,i=.int .i64 k/\k<=t.ks.len/\Hid (aT (t.ks.drop k)=aT t.ks)) (fun i=>t.ks.len-(intOf i).toNat)
         case atStart=>exact ⟨0,rfl,Nat.zero_le _,aA (by rw [F.drop_zero])⟩
         case round =>
          obtain ⟨k,rfl,hk,hD⟩:=hrel;by_cases hlt:k<t.ks.len
          · obtain ⟨t2,hat,hdr⟩:=dC hlt
            obtain ⟨v,hvj,hvr⟩:=HV.out k t2 hat;obtain ⟨g,cc,hva, -, -,hcs⟩:=dB O1.out (by omega);have hx:=hcs k v hvj;have HD2:=aA (show aT t.ks=if aT t2.f=0 then aT (t.ks.drop (k+1)) else aT t2.f by have e:=qY t2 (t.ks.drop (k+1));rw [<- hdr,hD.out] at e;exact e);simp only [Value.slice.injEq,true_and] at hva;obtain ⟨rfl,rfl⟩:=hva;unfold l5 at hvr;subst hvr;clear hvj hat hdr hcs;by_cases h0:aT t2.f=0
            · have b0:((aT t2.f:Int) != 0)=false:=by rw [h0];rfl
              have D2:=aA (show aT (t.ks.drop (k+1))=aT t.ks by rw [HD2.out,if_pos h0]);clear h0 HD2;go_wp2_with fail
              go_round
              case rel=>exact ⟨k+1,by go_num,by omega,D2⟩
              case measure=>simp [intOf];omega
            · have b0:((aT t2.f:Int) != 0)=true:=by simpa using h0
              have P2:=aA (P.out (aT t2.f) (by rw [E.out,HD2.out,if_neg h0]) W HB.out);clear h0 HD2;go_wp2_with fail
              go_ret;exact P2.out
          · obtain rfl:k=t.ks.len:=by omega
            have P2:=aA (P.out 0 (by rw [E.out, <- hD.out,F.drop_len _ _ (Nat.le_refl _)];rfl) W HB.out);go_wp2_with fail
            go_ret;exact P2.out
     | false =>
       have g3:=Cj h3;unfold jV at g3;have E:=aA (show aT t.f=aT t.ks by rw [HCT.out,h2,h3];rfl);clear h2 h3 HCT;go_enter Tryz.func141,Tryz.ntmps141
       go_upto_region 1 with fail
       rw [HW.out];go_wp2_with (go_at_call 147;refine (KO.out _).mono ?_;rintro e w' ⟨rfl,rfl⟩)
       go_loop [35] (fun i=>∃ k:Nat,i=.int .i64 k/\k<=t.ks.len/\Hid (aT (t.ks.drop k)=aT t.ks)) (fun i=>t.ks.len-(intOf i).toNat)
       case atStart=>exact ⟨0,rfl,Nat.zero_le _,aA (by rw [F.drop_zero])⟩
       case round =>
        obtain ⟨k,rfl,hk,hD⟩:=hrel;by_cases hlt:k<t.ks.len
        · obtain ⟨t2,hat,hdr⟩:=dC hlt
          obtain ⟨v,hvj,hvr⟩:=HV.out k t2 hat;obtain ⟨g,cc,hva, -, -,hcs⟩:=dB O1.out (by omega);have hx:=hcs k v hvj;have HD2:=aA (show aT t.ks=if aT t2.f=0 then aT (t.ks.drop (k+1)) else aT t2.f by have e:=qY t2 (t.ks.drop (k+1));rw [<- hdr,hD.out] at e;exact e);simp only [Value.slice.injEq,true_and] at hva;obtain ⟨rfl,rfl⟩:=hva;unfold l5 at hvr;subst hvr;clear hvj hat hdr hcs;by_cases h0:aT t2.f=0
          · have b0:((aT t2.f:Int) != 0)=false:=by rw [h0];rfl
            have D2:=aA (show aT (t.ks.drop (k+1))=aT t.ks by rw [HD2.out,if_pos h0]);clear h0 HD2;go_wp2_with fail
            go_round
            case rel=>exact ⟨k+1,by go_num,by omega,D2⟩
            case measure=>simp [intOf];omega
          · have b0:((aT t2.f:Int) != 0)=true:=by simpa using h0
            have P2:=aA (P.out (aT t2.f) (by rw [E.out,HD2.out,if_neg h0]) W HB.out);clear h0 HD2;go_wp2_with fail
            go_ret;exact P2.out
        · obtain rfl:k=t.ks.len:=by omega
          have P2:=aA (P.out 0 (by rw [E.out, <- hD.out,F.drop_len _ _ (Nat.le_refl _)];rfl) W HB.out);go_wp2_with fail
          go_ret;exact P2.out
end
section
open Go.RowKit
theorem qE {f g:F} {t u:TN} {r s:F} (hf:f=.cons t.op t.nm t.n t.ks r) (hg:g=.cons u.op u.nm u.n u.ks s):eC f g=(bW t u && eC r s):=by
 rw [hf,hg,bW,TN.f,TN.f,eC,eC];simp only [eC,Bool.and_true]
theorem Dn (t u:TN):bW t u=((t.op.toList == u.op.toList) && (t.ks.len == u.ks.len) && !((t.op.toList == [110,117,109]) && t.n != u.n) && !((t.op.toList == [110,97,109,101]) && (t.nm.toList != u.nm.toList)) && eC t.ks u.ks):=by
 rw [bW,TN.f,TN.f,eC];simp only [eC,Bool.and_true,bD,aV,jV,fX,Lib.toList_data]
def BJ (t:TN):Prop:=∀ (G H:Nat->Prop) (w:World) (a a2:Option Addr) (c c2:Nat) (u:TN),mS t.f->aI G w a t.ks->aI H w a2 u.ks->Calls Tryz.prog 42 #[bI t.op t.nm t.n a t.ks.len c,bI u.op u.nm u.n a2 u.ks.len c2] w fun e w'=>e=.returned (.bool (bW t u))/\Below w.heap.size w w'
theorem Dm (t:TN) (ih:dV BJ t.ks):BJ t:=by
 intro G H w a a2 c c2 u hS hr hs;have R:=aA hr;have R2:=aA hs;have IH:=aA ih;obtain ⟨hm,hL2, -⟩:=hS;have LK:=aA hL2;obtain ⟨r,hR⟩:∃ r,bW t u=r:=⟨_,rfl⟩;rw [hR];rw [Dn] at hR;have hop:(t.op.toList == u.op.toList)=true->u.op=t.op:=fun h=>ByteArray.ext (Array.ext' (by rw [<- Lib.toList_data, <- Lib.toList_data];exact (eq_of_beq h).symm))
 obtain ⟨uo,um,un,uks⟩:=u;dsimp only at hop hR hs |-
 obtain ⟨L,hL⟩:∃ L,uks.len=L:=⟨_,rfl⟩;have HL:=aA hL;rw [hL] at hR |-
 have NB:Hid ((w.alloc (ndO t.op t.nm t.n a t.ks.len c)).heap[w.heap.size]? = some (ndO t.op t.nm t.n a t.ks.len c)):=aA (heap_alloc_new w _);have NB0:Hid (((w.alloc (ndO t.op t.nm t.n a t.ks.len c)).alloc (ndO uo um un a2 L c2)).heap[w.heap.size]? = some (ndO t.op t.nm t.n a t.ks.len c)):=aA ((heap_alloc_old _ _ (aC NB.out)).trans NB.out);have NB1:Hid (((w.alloc (ndO t.op t.nm t.n a t.ks.len c)).alloc (ndO uo um un a2 L c2)).heap[w.heap.size+1]? = some (ndO uo um un a2 L c2)):=aA (by have:=heap_alloc_new (w.alloc (ndO t.op t.nm t.n a t.ks.len c)) (ndO uo um un a2 L c2);rwa [World.size_alloc] at this);have B0:=aA (((Below.refl w.heap.size w).alloc (Nat.le_refl _) (ndO t.op t.nm t.n a t.ks.len c)).alloc (by simp) (ndO uo um un a2 L c2));clear hr hs ih hL2 NB hL;cases h1:(t.op.toList == uo.toList) with
 | false =>
   have RR:=aA (show false=r by rw [<- hR,h1];rfl);clear hR hop;go_enter Tryz.func42,Tryz.ntmps42
   go_wp2_with fail
   go_ret;rw [RR.out];exact ⟨rfl,B0.out⟩
 | true =>
   obtain rfl:=hop h1;clear hop h1;by_cases h2:t.ks.len=L
   · subst h2
     obtain ⟨p,hp⟩:∃ p,(t.op.toList == [110,97,109,101])=p:=⟨_,rfl⟩;obtain ⟨q,hq⟩:∃ q,(t.op.toList == [110,117,109])=q:=⟨_,rfl⟩;rw [hp,hq] at hR;cases q with
     | true =>
       obtain rfl:p=false:=by rw [<- hp,eq_of_beq hq];rfl
       by_cases h3:un=t.n
       · subst h3
         have H0:=aA (show eC (t.ks.drop 0) (uks.drop 0)=r by rw [F.drop_zero,F.drop_zero, <- hR];simp);clear hR;go_enter Tryz.func42,Tryz.ntmps42
         go_wp2_with fail
         generalize (w.alloc (ndO t.op t.nm t.n a t.ks.len c)).alloc (ndO t.op um t.n a2 t.ks.len c2)=W at NB0 NB1 B0 |-
         go_loopw [5] (fun i wr=>∃ (k:Nat),i=.int .i64 k/\k<=t.ks.len/\Hid (eC (t.ks.drop k) (uks.drop k)=r)/\Hid (Below w.heap.size w wr)/\Hid (wr.heap[w.heap.size]? = some (ndO t.op t.nm t.n a t.ks.len c))/\Hid (wr.heap[w.heap.size+1]? = some (ndO t.op um t.n a2 t.ks.len c2))) (fun i _=>t.ks.len-(intOf i).toNat)
         case atStart=>exact ⟨0,rfl,Nat.zero_le _,H0,B0,NB0,NB1⟩
         case round =>
          obtain ⟨k,rfl,hk,hE,hB,hN,hM⟩:=hrel;obtain ⟨⟨m0,m1,m2,m3⟩, -⟩:=aO hN.out;obtain ⟨⟨q0,q1,q2,q3⟩, -⟩:=aO hM.out;by_cases hlt:k<t.ks.len
          · obtain ⟨t2,hat,hdr⟩:=dC hlt
            obtain ⟨u2,hau,hdu⟩:=dC (show k<uks.len by rw [HL.out];exact hlt);obtain ⟨b,off,a3,c3,ha,hG,hbl,⟨p0,p1,p2,p3⟩,hr2⟩:=bR (R.out.kept hB.out) hat;obtain ⟨b',off',a4,c4,ha',hG',hbl',⟨p4,p5,p6,p7⟩,hr3⟩:=bR (R2.out.kept hB.out) hau;have EN:=aA (show (bW t2 u2 && eC (t.ks.drop (k+1)) (uks.drop (k+1)))=r from (qE hdr hdu).symm.trans hE.out);have hdr':Below wr.heap.size wr wr.drew:=⟨rfl,rfl,rfl,Nat.le_refl _,fun _ _=>rfl⟩;have C:=aA ((dV.at IH.out hat) G H wr.drew a3 a4 c3 c4 u2 (LK.out.at hat) (hr2.kept hdr') (hr3.kept hdr'));subst ha ha';obtain ⟨y,hy⟩:∃ y,bW t2 u2=y:=⟨_,rfl⟩;rw [hy] at C EN;have CELLS:=aA (p:=∀ w',Below wr.heap.size wr w'->(w'.cell? ⟨w.heap.size,3,none⟩=some (.slice (some ⟨b,off,none⟩) t.ks.len c)/\w'.cell? ⟨w.heap.size+1,3,none⟩=some (.slice (some ⟨b',off',none⟩) t.ks.len c2)/\w'.cell? ⟨b,off+k*4,none⟩=some (.string t2.op)/\w'.cell? ⟨b,off+k*4+1,none⟩=some (.string t2.nm)/\w'.cell? ⟨b,off+k*4+2,none⟩=some (.int .i64 t2.n)/\w'.cell? ⟨b,off+k*4+3,none⟩=some (.slice a3 t2.ks.len c3)/\w'.cell? ⟨b',off'+k*4,none⟩=some (.string u2.op)/\w'.cell? ⟨b',off'+k*4+1,none⟩=some (.string u2.nm)/\w'.cell? ⟨b',off'+k*4+2,none⟩=some (.int .i64 u2.n)/\w'.cell? ⟨b',off'+k*4+3,none⟩=some (.slice a4 u2.ks.len c4))) (fun w' h=>⟨(h.cell (aC hN.out)).trans m3,(h.cell (aC hM.out)).trans q3,(h.cell hbl).trans p0,(h.cell hbl).trans p1,(h.cell hbl).trans p2,(h.cell hbl).trans p3,(h.cell hbl').trans p4,(h.cell hbl').trans p5,(h.cell hbl').trans p6,(h.cell hbl').trans p7⟩);clear hat hdr hau hdu hr2 hr3 hy hdr'
            go_wp2_with fail
            go_region_held3 (fun w'=>w'.cell? ⟨w.heap.size,3,none⟩=some (.slice (some ⟨b,off,none⟩) t.ks.len c)/\w'.cell? ⟨w.heap.size+1,3,none⟩=some (.slice (some ⟨b',off',none⟩) t.ks.len c2)/\w'.cell? ⟨b,off+k*4,none⟩=some (.string t2.op)/\w'.cell? ⟨b,off+k*4+1,none⟩=some (.string t2.nm)/\w'.cell? ⟨b,off+k*4+2,none⟩=some (.int .i64 t2.n)/\w'.cell? ⟨b,off+k*4+3,none⟩=some (.slice a3 t2.ks.len c3)/\w'.cell? ⟨b',off'+k*4,none⟩=some (.string u2.op)/\w'.cell? ⟨b',off'+k*4+1,none⟩=some (.string u2.nm)/\w'.cell? ⟨b',off'+k*4+2,none⟩=some (.int .i64 u2.n)/\w'.cell? ⟨b',off'+k*4+3,none⟩=some (.slice a4 u2.ks.len c4)) (first | exact ⟨m3,q3,p0,p1,p2,p3,p4,p5,p6,p7⟩ | exact CELLS.out _ B2.out) (first
             | (go_at_call 42
                with_reducible refine C.out.mono ?_
                rintro e w2 ⟨rfl,hb⟩;have B2:=aA ((aH wr).trans hb);clear hb)
             | fail)
            have hz:=hB.out.size;have N2:=aA ((B2.out.block _ (aC hN.out)).trans hN.out);have M2:=aA ((B2.out.block _ (aC hM.out)).trans hM.out);have B3:=aA (hB.out.trans (B2.out.mono hz));clear B2 C CELLS m0 m1 m2 m3 q0 q1 q2 q3 p0 p1 p2 p3 p4 p5 p6 p7;cases y with
            | true =>
              have EN2:=aA ((Bool.true_and _).symm.trans EN.out);clear EN;go_wp2_with fail
              go_roundw
              case rel=>exact ⟨k+1,by go_num,by omega,EN2,B3,N2,M2⟩
              case measure=>simp [intOf];omega
            | false =>
              have RR:=aA (show false=r from (Bool.false_and _).symm.trans EN.out);clear EN;go_wp2_with fail
              go_ret;rw [RR.out];exact ⟨rfl,B3.out⟩
          · have RR:=aA (show true=r by rw [<- hE.out,F.drop_len _ _ (by omega),F.drop_len _ _ (by rw [HL.out];omega)];rfl)
            go_wp2_with fail
            go_ret;rw [RR.out];exact ⟨rfl,hB.out⟩
       · have RR:=aA (show false=r by rw [<- hR];simp [bne_iff_ne.2 (Ne.symm h3)])
         clear hR;go_enter Tryz.func42,Tryz.ntmps42
         go_wp2_with fail
         go_ret;rw [RR.out];exact ⟨rfl,B0.out⟩
     | false =>
       cases p with
       | true =>
         cases h4:(t.nm.toList == um.toList) with
         | true =>
           have H0:=aA (show eC (t.ks.drop 0) (uks.drop 0)=r by rw [F.drop_zero,F.drop_zero, <- hR];simp [bne,h4]);clear hR;go_enter Tryz.func42,Tryz.ntmps42
           go_wp2_with fail
           generalize (w.alloc (ndO t.op t.nm t.n a t.ks.len c)).alloc (ndO t.op um un a2 t.ks.len c2)=W at NB0 NB1 B0 |-
           go_loopw [5] (fun i wr=>∃ (k:Nat),i=.int .i64 k/\k<=t.ks.len/\Hid (eC (t.ks.drop k) (uks.drop k)=r)/\Hid (Below w.heap.size w wr)/\Hid (wr.heap[w.heap.size]? = some (ndO t.op t.nm t.n a t.ks.len c))/\Hid (wr.heap[w.heap.size+1]? = some (ndO t.op um un a2 t.ks.len c2))) (fun i _=>t.ks.len-(intOf i).toNat)
           case atStart=>exact ⟨0,rfl,Nat.zero_le _,H0,B0,NB0,NB1⟩
           case round =>
            obtain ⟨k,rfl,hk,hE,hB,hN,hM⟩:=hrel;obtain ⟨⟨m0,m1,m2,m3⟩, -⟩:=aO hN.out;obtain ⟨⟨q0,q1,q2,q3⟩, -⟩:=aO hM.out;by_cases hlt:k<t.ks.len
            · obtain ⟨t2,hat,hdr⟩:=dC hlt
              obtain ⟨u2,hau,hdu⟩:=dC (show k<uks.len by rw [HL.out];exact hlt);obtain ⟨b,off,a3,c3,ha,hG,hbl,⟨p0,p1,p2,p3⟩,hr2⟩:=bR (R.out.kept hB.out) hat;obtain ⟨b',off',a4,c4,ha',hG',hbl',⟨p4,p5,p6,p7⟩,hr3⟩:=bR (R2.out.kept hB.out) hau;have EN:=aA (show (bW t2 u2 && eC (t.ks.drop (k+1)) (uks.drop (k+1)))=r from (qE hdr hdu).symm.trans hE.out);have hdr':Below wr.heap.size wr wr.drew:=⟨rfl,rfl,rfl,Nat.le_refl _,fun _ _=>rfl⟩;have C:=aA ((dV.at IH.out hat) G H wr.drew a3 a4 c3 c4 u2 (LK.out.at hat) (hr2.kept hdr') (hr3.kept hdr'));subst ha ha';obtain ⟨y,hy⟩:∃ y,bW t2 u2=y:=⟨_,rfl⟩;rw [hy] at C EN;have CELLS:=aA (p:=∀ w',Below wr.heap.size wr w'->(w'.cell? ⟨w.heap.size,3,none⟩=some (.slice (some ⟨b,off,none⟩) t.ks.len c)/\w'.cell? ⟨w.heap.size+1,3,none⟩=some (.slice (some ⟨b',off',none⟩) t.ks.len c2)/\w'.cell? ⟨b,off+k*4,none⟩=some (.string t2.op)/\w'.cell? ⟨b,off+k*4+1,none⟩=some (.string t2.nm)/\w'.cell? ⟨b,off+k*4+2,none⟩=some (.int .i64 t2.n)/\w'.cell? ⟨b,off+k*4+3,none⟩=some (.slice a3 t2.ks.len c3)/\w'.cell? ⟨b',off'+k*4,none⟩=some (.string u2.op)/\w'.cell? ⟨b',off'+k*4+1,none⟩=some (.string u2.nm)/\w'.cell? ⟨b',off'+k*4+2,none⟩=some (.int .i64 u2.n)/\w'.cell? ⟨b',off'+k*4+3,none⟩=some (.slice a4 u2.ks.len c4))) (fun w' h=>⟨(h.cell (aC hN.out)).trans m3,(h.cell (aC hM.out)).trans q3,(h.cell hbl).trans p0,(h.cell hbl).trans p1,(h.cell hbl).trans p2,(h.cell hbl).trans p3,(h.cell hbl').trans p4,(h.cell hbl').trans p5,(h.cell hbl').trans p6,(h.cell hbl').trans p7⟩);clear hat hdr hau hdu hr2 hr3 hy hdr'
              go_wp2_with fail
              go_region_held3 (fun w'=>w'.cell? ⟨w.heap.size,3,none⟩=some (.slice (some ⟨b,off,none⟩) t.ks.len c)/\w'.cell? ⟨w.heap.size+1,3,none⟩=some (.slice (some ⟨b',off',none⟩) t.ks.len c2)/\w'.cell? ⟨b,off+k*4,none⟩=some (.string t2.op)/\w'.cell? ⟨b,off+k*4+1,none⟩=some (.string t2.nm)/\w'.cell? ⟨b,off+k*4+2,none⟩=some (.int .i64 t2.n)/\w'.cell? ⟨b,off+k*4+3,none⟩=some (.slice a3 t2.ks.len c3)/\w'.cell? ⟨b',off'+k*4,none⟩=some (.string u2.op)/\w'.cell? ⟨b',off'+k*4+1,none⟩=some (.string u2.nm)/\w'.cell? ⟨b',off'+k*4+2,none⟩=some (.int .i64 u2.n)/\w'.cell? ⟨b',off'+k*4+3,none⟩=some (.slice a4 u2.ks.len c4)) (first | exact ⟨m3,q3,p0,p1,p2,p3,p4,p5,p6,p7⟩ | exact CELLS.out _ B2.out) (first
               | (go_at_call 42
                  with_reducible refine C.out.mono ?_
                  rintro e w2 ⟨rfl,hb⟩;have B2:=aA ((aH wr).trans hb);clear hb)
               | fail)
              have hz:=hB.out.size;have N2:=aA ((B2.out.block _ (aC hN.out)).trans hN.out);have M2:=aA ((B2.out.block _ (aC hM.out)).trans hM.out);have B3:=aA (hB.out.trans (B2.out.mono hz));clear B2 C CELLS m0 m1 m2 m3 q0 q1 q2 q3 p0 p1 p2 p3 p4 p5 p6 p7;cases y with
              | true =>
                have EN2:=aA ((Bool.true_and _).symm.trans EN.out);clear EN;go_wp2_with fail
                go_roundw
                case rel=>exact ⟨k+1,by go_num,by omega,EN2,B3,N2,M2⟩
                case measure=>simp [intOf];omega
              | false =>
                have RR:=aA (show false=r from (Bool.false_and _).symm.trans EN.out);clear EN;go_wp2_with fail
                go_ret;rw [RR.out];exact ⟨rfl,B3.out⟩
            · have RR:=aA (show true=r by rw [<- hE.out,F.drop_len _ _ (by omega),F.drop_len _ _ (by rw [HL.out];omega)];rfl)
              go_wp2_with fail
              go_ret;rw [RR.out];exact ⟨rfl,hB.out⟩
         | false =>
           have RR:=aA (show false=r by rw [<- hR];simp [bne,h4]);clear hR;go_enter Tryz.func42,Tryz.ntmps42
           go_wp2_with fail
           go_ret;rw [RR.out];exact ⟨rfl,B0.out⟩
       | false =>
         have H0:=aA (show eC (t.ks.drop 0) (uks.drop 0)=r by rw [F.drop_zero,F.drop_zero, <- hR];simp);clear hR;go_enter Tryz.func42,Tryz.ntmps42
         go_wp2_with fail
         generalize (w.alloc (ndO t.op t.nm t.n a t.ks.len c)).alloc (ndO t.op um un a2 t.ks.len c2)=W at NB0 NB1 B0 |-
         go_loopw [5] (fun i wr=>∃ (k:Nat),i=.int .i64 k/\k<=t.ks.len/\Hid (eC (t.ks.drop k) (uks.drop k)=r)/\Hid (Below w.heap.size w wr)/\Hid (wr.heap[w.heap.size]? = some (ndO t.op t.nm t.n a t.ks.len c))/\Hid (wr.heap[w.heap.size+1]? = some (ndO t.op um un a2 t.ks.len c2))) (fun i _=>t.ks.len-(intOf i).toNat)
         case atStart=>exact ⟨0,rfl,Nat.zero_le _,H0,B0,NB0,NB1⟩
         case round =>
          obtain ⟨k,rfl,hk,hE,hB,hN,hM⟩:=hrel;obtain ⟨⟨m0,m1,m2,m3⟩, -⟩:=aO hN.out;obtain ⟨⟨q0,q1,q2,q3⟩, -⟩:=aO hM.out;by_cases hlt:k<t.ks.len
          · obtain ⟨t2,hat,hdr⟩:=dC hlt
            obtain ⟨u2,hau,hdu⟩:=dC (show k<uks.len by rw [HL.out];exact hlt);obtain ⟨b,off,a3,c3,ha,hG,hbl,⟨p0,p1,p2,p3⟩,hr2⟩:=bR (R.out.kept hB.out) hat;obtain ⟨b',off',a4,c4,ha',hG',hbl',⟨p4,p5,p6,p7⟩,hr3⟩:=bR (R2.out.kept hB.out) hau;have EN:=aA (show (bW t2 u2 && eC (t.ks.drop (k+1)) (uks.drop (k+1)))=r from (qE hdr hdu).symm.trans hE.out);have hdr':Below wr.heap.size wr wr.drew:=⟨rfl,rfl,rfl,Nat.le_refl _,fun _ _=>rfl⟩;have C:=aA ((dV.at IH.out hat) G H wr.drew a3 a4 c3 c4 u2 (LK.out.at hat) (hr2.kept hdr') (hr3.kept hdr'));subst ha ha';obtain ⟨y,hy⟩:∃ y,bW t2 u2=y:=⟨_,rfl⟩;rw [hy] at C EN;have CELLS:=aA (p:=∀ w',Below wr.heap.size wr w'->(w'.cell? ⟨w.heap.size,3,none⟩=some (.slice (some ⟨b,off,none⟩) t.ks.len c)/\w'.cell? ⟨w.heap.size+1,3,none⟩=some (.slice (some ⟨b',off',none⟩) t.ks.len c2)/\w'.cell? ⟨b,off+k*4,none⟩=some (.string t2.op)/\w'.cell? ⟨b,off+k*4+1,none⟩=some (.string t2.nm)/\w'.cell? ⟨b,off+k*4+2,none⟩=some (.int .i64 t2.n)/\w'.cell? ⟨b,off+k*4+3,none⟩=some (.slice a3 t2.ks.len c3)/\w'.cell? ⟨b',off'+k*4,none⟩=some (.string u2.op)/\w'.cell? ⟨b',off'+k*4+1,none⟩=some (.string u2.nm)/\w'.cell? ⟨b',off'+k*4+2,none⟩=some (.int .i64 u2.n)/\w'.cell? ⟨b',off'+k*4+3,none⟩=some (.slice a4 u2.ks.len c4))) (fun w' h=>⟨(h.cell (aC hN.out)).trans m3,(h.cell (aC hM.out)).trans q3,(h.cell hbl).trans p0,(h.cell hbl).trans p1,(h.cell hbl).trans p2,(h.cell hbl).trans p3,(h.cell hbl').trans p4,(h.cell hbl').trans p5,(h.cell hbl').trans p6,(h.cell hbl').trans p7⟩);clear hat hdr hau hdu hr2 hr3 hy hdr'
            go_wp2_with fail
            go_region_held3 (fun w'=>w'.cell? ⟨w.heap.size,3,none⟩=some (.slice (some ⟨b,off,none⟩) t.ks.len c)/\w'.cell? ⟨w.heap.size+1,3,none⟩=some (.slice (some ⟨b',off',none⟩) t.ks.len c2)/\w'.cell? ⟨b,off+k*4,none⟩=some (.string t2.op)/\w'.cell? ⟨b,off+k*4+1,none⟩=some (.string t2.nm)/\w'.cell? ⟨b,off+k*4+2,none⟩=some (.int .i64 t2.n)/\w'.cell? ⟨b,off+k*4+3,none⟩=some (.slice a3 t2.ks.len c3)/\w'.cell? ⟨b',off'+k*4,none⟩=some (.string u2.op)/\w'.cell? ⟨b',off'+k*4+1,none⟩=some (.string u2.nm)/\w'.cell? ⟨b',off'+k*4+2,none⟩=some (.int .i64 u2.n)/\w'.cell? ⟨b',off'+k*4+3,none⟩=some (.slice a4 u2.ks.len c4)) (first | exact ⟨m3,q3,p0,p1,p2,p3,p4,p5,p6,p7⟩ | exact CELLS.out _ B2.out) (first
             | (go_at_call 42
                with_reducible refine C.out.mono ?_
                rintro e w2 ⟨rfl,hb⟩;have B2:=aA ((aH wr).trans hb);clear hb)
             | fail)
            have hz:=hB.out.size;have N2:=aA ((B2.out.block _ (aC hN.out)).trans hN.out);have M2:=aA ((B2.out.block _ (aC hM.out)).trans hM.out);have B3:=aA (hB.out.trans (B2.out.mono hz));clear B2 C CELLS m0 m1 m2 m3 q0 q1 q2 q3 p0 p1 p2 p3 p4 p5 p6 p7;cases y with
            | true =>
              have EN2:=aA ((Bool.true_and _).symm.trans EN.out);clear EN;go_wp2_with fail
              go_roundw
              case rel=>exact ⟨k+1,by go_num,by omega,EN2,B3,N2,M2⟩
              case measure=>simp [intOf];omega
            | false =>
              have RR:=aA (show false=r from (Bool.false_and _).symm.trans EN.out);clear EN;go_wp2_with fail
              go_ret;rw [RR.out];exact ⟨rfl,B3.out⟩
          · have RR:=aA (show true=r by rw [<- hE.out,F.drop_len _ _ (by omega),F.drop_len _ _ (by rw [HL.out];omega)];rfl)
            go_wp2_with fail
            go_ret;rw [RR.out];exact ⟨rfl,hB.out⟩
   · have RR:=aA (show false=r by rw [<- hR];simp [h2])
     clear hR;go_enter Tryz.func42,Tryz.ntmps42
     go_wp2_with fail
     go_ret;rw [RR.out];exact ⟨rfl,B0.out⟩
theorem jJ (t:TN):BJ t:=jZ Dm t
end
section
open Go.RowKit
def dig (m:Nat):ByteArray:=⟨#[UInt8.ofNat (48+m % 10)]⟩
def rS (m:Nat):List UInt8:=if m<10 then [] else Lib.decDigits (m / 10)
theorem wH (m:Nat):Lib.decDigits m=rS m++(dig m).data.toList:=by
 unfold rS;by_cases h:m<10
 · rw [if_pos h,Lib.decDigits,dif_pos h];simp [dig,Nat.mod_eq_of_lt h]
 · rw [if_neg h,Lib.decDigits,dif_neg h];simp [dig]
theorem t8 (w:World) (m:Nat):(convert 110 9 (.slice (some ⟨w.heap.size,0,none⟩) 1 1)).run Tryz.prog (w.alloc (.cells #[.int .u8 (48+(m:Int) % 10)] 5))=.ok (.string (dig m)) (w.alloc (.cells #[.int .u8 (48+(m:Int) % 10)] 5)):=by
 have:=run_convert_bytes_back (P:=Tryz.prog) (w.alloc (.cells #[.int .u8 (48+(m:Int) % 10)] 5)) 110 9 5 ⟨w.heap.size,0,none⟩ 1 [UInt8.ofNat (48+m % 10)] Tryz.underlying110 Tryz.underlying5 Tryz.underlying9 (fun j hj=>by
  obtain rfl:j=0:=by simpa using hj
  have e:((UInt8.ofNat (48+m % 10)).toNat:Int)=48+(m:Int) % 10:=by
   rw [UInt8.toNat_ofNat'];omega
  simp only [List.getElem_cons_zero,e];exact cell_one_new w _ _ 0 _ rfl)
 exact this
theorem Bq {n:Nat} (hn:n<=9223372036854775807):(Lib.decDigits n).length<=21:=by
 have:=sE 18 n (by omega);omega
theorem uB (n:Nat) (hn:n<=9223372036854775807) (w:World):Calls Tryz.prog 48 #[.int .i64 n] w fun e w'=>e=.returned (.string ⟨(Lib.decDigits n).toArray⟩)/\Below w.heap.size w w':=by
 have hcv:=t8 w n;have DC:=aA (fun w m=>t8 w m);have q1:((n:Int) == -9223372036854775808)=false:=by rw [beq_eq_false_iff_ne];omega
 have q2:decide ((n:Int)<0)=false:=decide_eq_false (by omega);have ql:=aA (Bq hn);go_enter Tryz.func48,Tryz.ntmps48
 go_wp2
 go_loopw [0,3] (fun v t wr=>∃ (m:Nat) (T:ByteArray),m<=9223372036854775807/\v=.int .i64 m/\t=.string T/\Hid (Lib.decDigits n=rS m++T.data.toList)/\Hid (Below w.heap.size w wr)) (fun v _ _=>(intOf v).toNat)
 case atStart=>exact ⟨n,dig n,hn,rfl,rfl,aA (wH n),aA ((Below.refl _ _).alloc (Nat.le_refl _) _)⟩
 case round =>
  obtain ⟨m,T,hm,rfl,rfl,hd,hb⟩:=hrel;clear hcv;by_cases h:10<=m
  · have hcv:(convert 110 9 (.slice (some ⟨wr.heap.size,0,none⟩) 1 1)).run Tryz.prog (wr.alloc (.cells #[.int .u8 (48+(m:Int) / 10 % 10)] 5))=.ok (.string (dig (m / 10))) (wr.alloc (.cells #[.int .u8 (48+(m:Int) / 10 % 10)] 5)):=DC.out wr (m / 10)
    have hd2:=aA (show Lib.decDigits n=rS (m / 10)++(dig (m / 10)++T).data.toList by
     rw [hd.out,show rS m=Lib.decDigits (m / 10) by unfold rS;rw [if_neg (by omega)],wH (m / 10)];simp)
    have hb2:=aA (hb.out.alloc (by have:=hb.out.size;exact this) (.cells #[.int .u8 (48+(m:Int) / 10 % 10)] 5))
    have hT:T.size<=21:=by
     have:=congrArg List.length hd.out;rw [List.length_append] at this;have e:T.data.toList.length=T.size:=by simp
     have:=ql.out;omega
    have hD:(dig (m / 10)).size<=1:=Nat.le_refl _;go_wp2
    exact ⟨⟨m / 10,dig (m / 10)++T,by omega,rfl,rfl,hd2,hb2⟩,by simp [intOf];omega⟩
  · go_wp2
    go_ret;refine ⟨?_,hb.out⟩;rw [hd.out,show rS m=[] by unfold rS;rw [if_pos (by omega)]];rfl
end
section
open Go.RowKit
def qC (t:TN):Prop:=∀ (G:Nat->Prop) (w:World) (a:Option Addr) (c:Nat),(aK t).length<=4000->aI G w a t.ks->Calls Tryz.prog 47 #[bI t.op t.nm t.n a t.ks.len c] w fun e w'=>e=.returned (.string ⟨(aK t).toArray⟩)/\Below w.heap.size w w'
theorem bG {o:ByteArray} {x:List UInt8} (h:(o.data.toList == x)=true):(o.toList == x)=true:=by rw [Lib.toList_data];exact h
theorem aG {o:ByteArray} {x:List UInt8} (h:(o.data.toList == x)=false):(o.toList == x)=false:=by rw [Lib.toList_data];exact h
theorem G4 (o m:ByteArray) (n:Int) (h1:bD o=true) (h0:0<=n) (hn:n<=9223372036854775807):qC ⟨o,m,n,.nil⟩:=by
 intro G w a c hl hr;rw [(kE h1).1];clear hl hr;dsimp only;have g1:=bG h1;unfold jV at g1;obtain ⟨k,rfl⟩:∃ k:Nat,n=k:=⟨n.toNat,by omega⟩;have D:=aA (fun V=>uB k (by omega) V);have R:=aA (show Lib.itoa (k:Int)=Lib.decDigits k by rw [Lib.itoa,if_neg (by omega),Int.toNat_natCast]);have NB:=aA (heap_alloc_new w (ndO o m k a F.nil.len c));have B0:=aA ((Below.refl w.heap.size w).alloc (Nat.le_refl _) (ndO o m k a F.nil.len c));clear h0 hn h1;go_enter Tryz.func47,Tryz.ntmps47
 go_wp2_with fail
 generalize w.alloc (ndO o m k a F.nil.len c)=W at NB B0 |-
 obtain ⟨⟨m0,m1,m2,m3⟩, -⟩:=aO NB.out;go_wp2_with fail
 refine (D.out _).mono ?_;rintro e w1 ⟨rfl,hb⟩;have B1:=aA (B0.out.trans (hb.mono B0.out.size));clear hb;go_wp2_with fail
 go_ret;rw [R.out];exact ⟨rfl,B1.out⟩
theorem EZ (o m:ByteArray) (n:Int) (h1:bD o=false) (h2:aV o=true):qC ⟨o,m,n,.nil⟩:=by
 intro G w a c hl hr;rw [(i6 h1 h2).1,jD];clear hl hr;dsimp only;have g1:=aG h1;have g2:=bG h2;unfold jV at g1;unfold fX at g2;have B0:=aA ((Below.refl w.heap.size w).alloc (Nat.le_refl _) (ndO o m n a F.nil.len c));clear h1 h2;go_enter Tryz.func47,Tryz.ntmps47
 go_wp2_with fail
 go_ret;exact ⟨rfl,B0.out⟩
theorem G5 (o m:ByteArray) (n:Int) (t:TN) (h1:bD o=false) (h2:aV o=false) (h3:eL o=true) (ih:qC t):qC ⟨o,m,n,t.f⟩:=by
 intro G w a c hl hr;rw [(jI t h1 h2 h3).1] at hl |-
 dsimp only at hr |-
 rw [show t.f.len=1 from rfl];have g1:=aG h1;have g2:=aG h2;have g3:=bG h3;unfold jV at g1;unfold fX at g2;unfold gJ at g3;rw [List.length_cons] at hl;obtain ⟨T,hT⟩:∃ T,aK t=T:=⟨_,rfl⟩;rw [hT] at hl |-
 have NB:=aA (heap_alloc_new w (ndO o m n a 1 c));have B0:=aA ((Below.refl w.heap.size w).alloc (Nat.le_refl _) (ndO o m n a 1 c));obtain ⟨b,off,a2,c2,ha,hG,hbl,⟨p0,p1,p2,p3⟩,hr2⟩:=bR (hr.kept B0.out) (show t.f.at 0=some t from rfl);have C:=aA (ih G (w.alloc (ndO o m n a 1 c)) a2 c2 (by rw [hT];omega) hr2);rw [hT] at C;rw [Nat.zero_mul,Nat.add_zero] at p0 p1 p2 p3;subst ha;have hS:(⟨T.toArray⟩:ByteArray).size<=4000:=by show T.toArray.size<=4000;simp;omega
 obtain ⟨S,hS2⟩:∃ S:ByteArray,⟨T.toArray⟩=S:=⟨_,rfl⟩;have E:=aA (show (⟨(45::T).toArray⟩:ByteArray)=⟨#[45]⟩++S from dO (by rw [<- hS2];simp));rw [hS2] at C hS;clear h1 h2 h3 hr ih hl hT hr2 hS2;go_enter Tryz.func47,Tryz.ntmps47
 go_wp2_with fail
 generalize w.alloc (ndO o m n (some ⟨b,off,none⟩) 1 c)=W at NB B0 C hbl p0 p1 p2 p3 |-
 obtain ⟨⟨m0,m1,m2,m3⟩, -⟩:=aO NB.out;go_wp2_with fail
 refine C.out.mono ?_;rintro e w1 ⟨rfl,hb⟩;have B1:=aA (B0.out.trans (hb.mono B0.out.size));clear hb;go_wp2_with fail
 go_ret;rw [E.out];exact ⟨rfl,B1.out⟩
theorem G2 (o m:ByteArray) (n:Int) (t u:TN) (h1:bD o=false) (h2:aV o=false) (h3:eL o=false) (h4:jR o=true) (ih:qC t) (iu:qC u):qC ⟨o,m,n,.cons t.op t.nm t.n t.ks u.f⟩:=by
 intro G w a c hl hr;rw [(jH t u h1 h2 h3).1] at hl |-
 dsimp only at hr |-
 rw [show (F.cons t.op t.nm t.n t.ks u.f).len=2 from rfl];have g1:=aG h1;have g2:=aG h2;have g3:=aG h3;unfold jV at g1;unfold fX at g2;unfold gJ at g3
 have hos:o.size=1:=by
  obtain ⟨_,x,hx,_⟩:=oU h4;have:o.data.toList.length=1:=by rw [hx];rfl
  rw [<- this];simp
 simp only [List.length_cons,List.length_append,List.length_nil] at hl;obtain ⟨T,hT⟩:∃ T,aK t=T:=⟨_,rfl⟩;obtain ⟨U,hU⟩:∃ U,aK u=U:=⟨_,rfl⟩;rw [hT,hU] at hl |-
 have NB:=aA (heap_alloc_new w (ndO o m n a 2 c));have B0:=aA ((Below.refl w.heap.size w).alloc (Nat.le_refl _) (ndO o m n a 2 c));obtain ⟨b,off,a2,c2,ha,hG,hbl,⟨p0,p1,p2,p3⟩,hr2⟩:=bR (hr.kept B0.out) (show (F.cons t.op t.nm t.n t.ks u.f).at 0=some t from rfl);obtain ⟨b',off',a3,c3,ha',hG',hbl',⟨q0,q1,q2,q3⟩,hr3⟩:=bR (hr.kept B0.out) (show (F.cons t.op t.nm t.n t.ks u.f).at 1=some u from rfl);subst ha;cases ha';have C:=aA (ih G (w.alloc (ndO o m n (some ⟨b,off,none⟩) 2 c)).drew a2 c2 (by rw [hT];omega) (hr2.kept (aH _)));have D:=aA (fun V (hV:Below (w.alloc (ndO o m n (some ⟨b,off,none⟩) 2 c)).heap.size (w.alloc (ndO o m n (some ⟨b,off,none⟩) 2 c)) V)=>iu G V a3 c3 (by rw [hU];omega) (hr3.kept hV));rw [hT] at C;rw [hU] at D;rw [Nat.zero_mul,Nat.add_zero] at p0 p1 p2 p3;rw [Nat.one_mul] at q0 q1 q2 q3;have hS:(⟨T.toArray⟩:ByteArray).size<=4000:=by show T.toArray.size<=4000;simp;omega
 have hV:(⟨U.toArray⟩:ByteArray).size<=4000:=by show U.toArray.size<=4000;simp;omega
 obtain ⟨S,hS2⟩:∃ S:ByteArray,⟨T.toArray⟩=S:=⟨_,rfl⟩;obtain ⟨V,hV2⟩:∃ S:ByteArray,⟨U.toArray⟩=S:=⟨_,rfl⟩;have E:=aA (show (⟨(40::(T++32::(o.data.toList++32::(U++[41])))).toArray⟩:ByteArray)=⟨#[40]⟩++S++⟨#[32]⟩++o++⟨#[32]⟩++V++⟨#[41]⟩ from dO (by rw [<- hS2, <- hV2];simp));rw [hS2] at C hS;rw [hV2] at D hV;have z1:(9223372036854775807<1+S.size)=False:=by rw [eq_iff_iff,iff_false];omega
 have z2:(9223372036854775807<1+S.size+1)=False:=by rw [eq_iff_iff,iff_false];omega
 have z3:(9223372036854775807<1+S.size+1+o.size)=False:=by rw [eq_iff_iff,iff_false];omega
 have z4:(9223372036854775807<1+S.size+1+o.size+1)=False:=by rw [eq_iff_iff,iff_false];omega
 have z5:(9223372036854775807<1+S.size+1+o.size+1+V.size)=False:=by rw [eq_iff_iff,iff_false];omega
 have z6:(9223372036854775807<1+S.size+1+o.size+1+V.size+1)=False:=by rw [eq_iff_iff,iff_false];omega
 clear h1 h2 h3 h4 hr ih iu hl hT hU hr2 hr3 hS2 hV2 hos;go_enter Tryz.func47,Tryz.ntmps47
 go_wp2_with fail
 generalize w.alloc (ndO o m n (some ⟨b,off,none⟩) 2 c)=W at NB B0 C D hbl hbl' p0 p1 p2 p3 q0 q1 q2 q3 |-
 obtain ⟨⟨m0,m1,m2,m3⟩, -⟩:=aO NB.out;have hlt:=aC NB.out;have CELLS:=aA (p:=∀ w',Below W.heap.size W w'->(w'.cell? ⟨w.heap.size,0,none⟩=some (.string o)/\w'.cell? ⟨w.heap.size,3,none⟩=some (.slice (some ⟨b,off,none⟩) 2 c)/\w'.cell? ⟨b,off,none⟩=some (.string t.op)/\w'.cell? ⟨b,off+1,none⟩=some (.string t.nm)/\w'.cell? ⟨b,off+2,none⟩=some (.int .i64 t.n)/\w'.cell? ⟨b,off+3,none⟩=some (.slice a2 t.ks.len c2)/\w'.cell? ⟨b,off+4,none⟩=some (.string u.op)/\w'.cell? ⟨b,off+4+1,none⟩=some (.string u.nm)/\w'.cell? ⟨b,off+4+2,none⟩=some (.int .i64 u.n)/\w'.cell? ⟨b,off+4+3,none⟩=some (.slice a3 u.ks.len c3))) (fun w' h=>⟨(h.cell hlt).trans m0,(h.cell hlt).trans m3,(h.cell hbl).trans p0,(h.cell hbl).trans p1,(h.cell hbl).trans p2,(h.cell hbl).trans p3,(h.cell hbl).trans q0,(h.cell hbl).trans q1,(h.cell hbl).trans q2,(h.cell hbl).trans q3⟩);go_wp2_with fail
 go_region_held3 (fun w'=>w'.cell? ⟨w.heap.size,0,none⟩=some (.string o)/\w'.cell? ⟨w.heap.size,3,none⟩=some (.slice (some ⟨b,off,none⟩) 2 c)/\w'.cell? ⟨b,off,none⟩=some (.string t.op)/\w'.cell? ⟨b,off+1,none⟩=some (.string t.nm)/\w'.cell? ⟨b,off+2,none⟩=some (.int .i64 t.n)/\w'.cell? ⟨b,off+3,none⟩=some (.slice a2 t.ks.len c2)/\w'.cell? ⟨b,off+4,none⟩=some (.string u.op)/\w'.cell? ⟨b,off+4+1,none⟩=some (.string u.nm)/\w'.cell? ⟨b,off+4+2,none⟩=some (.int .i64 u.n)/\w'.cell? ⟨b,off+4+3,none⟩=some (.slice a3 u.ks.len c3)) (first | assumption | exact ⟨m0,m3,p0,p1,p2,p3,q0,q1,q2,q3⟩ | exact CELLS.out _ B3.out | exact CELLS.out _ B2.out) (first
  | (go_at_call 47
     with_reducible refine C.out.mono ?_
     rintro e w2 ⟨rfl,hb⟩;have B2:=aA ((aH W).trans hb);have cc:=CELLS.out _ B2.out;clear hb)
  | (go_at_call 47
     with_reducible refine (D.out _ B2.out).mono ?_
     rintro e w3 ⟨rfl,hb⟩;have B3:=aA (B2.out.trans (hb.mono B2.out.size));have cd:=CELLS.out _ B3.out;clear hb)
  | fail)
 have B4:=aA (B0.out.trans (B3.out.mono B0.out.size));clear B3 B2 C D CELLS m0 m1 m2 m3 p0 p1 p2 p3 q0 q1 q2 q3;go_wp2_with fail
 go_ret;rw [E.out];exact ⟨rfl,B4.out⟩
theorem dW (t:TN) (h:OkT t) (hn:cX t.f):qC t :=
 eZ (P:=qC) (fun o m n a b c=>G4 o m n a b c) (fun o m n a b _=>EZ o m n a b) (fun o m n t a b c ih=>G5 o m n t a b c ih) (fun o m n t u a b c d ih iu=>G2 o m n t u a b c d ih iu) t h hn
end
section
open Go.RowKit
theorem JY:(Tryz.prog.info? 9).map (fun i=>(i.zero,i.size,i.bytes))=some (some (.string ⟨#[]⟩),1,16):=by kernel_rfl
def j6 (w:World):Prop:=∃ t f,w.heap[1]? = some (.cells (Lib.pow10Tab.map fun z=>Value.int .u64 z).toArray t f)
theorem tU (n:Int) (h0: -9223372036854775808<=n) (h1:n<=9223372036854775807) (w:World) (hw:j6 w) :
 Calls Tryz.prog 100 #[.int .i64 n,.int .i64 10] w fun e w'=>e=.returned (.string ⟨(Lib.itoa n).toArray⟩)/\Below w.heap.size w w':=by
 obtain ⟨t,f,h2⟩:=hw;refine (Tryz.strconv_FormatInt_10 n h0 h1 w (Az (by kernel_rfl) h2)).mono ?_;rintro e w' ⟨rfl,k,os,rfl⟩;exact ⟨rfl,Lib.below_grow _ _ (Nat.le_refl _) _ _⟩
inductive OkI:TN->Prop
 | num (o m:ByteArray) (n:Int):bD o=true->0<=n->n<=9223372036854775807->OkI ⟨o,m,n,.nil⟩
 | name (o m:ByteArray) (n:Int):bD o=false->aV o=true->dQ m.data.toList=true->OkI ⟨o,m,n,.nil⟩
 | neg (o m:ByteArray) (n:Int) (a:TN):bD o=false->aV o=false->eL o=true->OkI a->OkI ⟨o,m,n,a.f⟩
 | two (o m:ByteArray) (n:Int) (a b:TN):bD o=false->aV o=false->eL o=false->jR o=true->OkI a->OkI b->OkI ⟨o,m,n,.cons a.op a.nm a.n a.ks b.f⟩
theorem AO (t:TN) (h:OkT t) (hn:cX t.f):OkI t :=
 eZ (P:=OkI) (fun o m n a b c=>.num o m n a b c) (fun o m n a b c=>.name o m n a b c) (fun o m n t a b c ih=>.neg o m n t a b c ih) (fun o m n t u a b c d ih iu=>.two o m n t u a b c d ih iu) t h hn
def GR (t:TN):Prop:=OkI t/\(aK t).length<=4000
theorem JQ {t t2:TN} {j:Nat} (h:GR t) (hj:t.ks.at j=some t2):GR t2:=by
 obtain ⟨h,hl⟩:=h;cases h with
 | num o m n _ _ _=>cases hj
 | name o m n _ _ _=>cases hj
 | neg o m n a h1 h2 h3 h4 =>
   match j,hj with
   | 0, hj =>
     have:a=t2:=Option.some.inj hj;subst this;rw [(jI a h1 h2 h3).1,List.length_cons] at hl;exact ⟨h4,by omega⟩
   | j+1,hj=>cases hj
 | two o m n a b h1 h2 h3 h4 h5 h6 =>
   rw [(jH a b h1 h2 h3).1] at hl;simp only [List.length_cons,List.length_append,List.length_nil] at hl;match j,hj with
   | 0, hj =>
     have:a=t2:=Option.some.inj hj;subst this;exact ⟨h5,by omega⟩
   | 1, hj =>
     have:b=t2:=Option.some.inj hj;subst this;exact ⟨h6,by omega⟩
   | j+2,hj=>cases hj
def WdT (lb:Nat) (w:World):Prop:=j6 w/\lb ≠ 1
theorem wdT {w w':World} {lb:Nat} (h:WdT lb w) (hk:aL (· = lb) w w'):WdT lb w':=by
 obtain ⟨⟨t,f,h1⟩,h2⟩:=h;exact ⟨⟨t,f,hk.heap h1 (fun e=>h2 e.symm)⟩,h2⟩
def l4 (_:Nat->Prop) (_:World) (t:TN) (v:Value):Prop:=v=.string ⟨(aK t).toArray⟩
theorem kK {G H:Nat->Prop} {w:World} {t:TN} {v:Value} (h:l4 G w t v) (_:∀ b,b<w.heap.size->G b->H b):l4 H w t v:=h
theorem lE {S G:Nat->Prop} {w w':World} {t:TN} {v:Value} (h:l4 G w t v) (_:aL S w w') (_:∀ k,S k->¬ G k):l4 G w' t v:=h
theorem I5 {G:Nat->Prop} {w:World} {t:TN} {v:Value} (h:l4 G w t v):∃ z,v=.string z:=⟨_,h⟩
theorem Ka {G:Nat->Prop} {w:World} {t:TN} {v:Value} (h:l4 G w t v):v.oneCell'=true:=by rw [h];rfl
theorem Hw (t:TN) (w:World) (G:Nat->Prop) (a:Option Addr) (c:Nat) (va:Option Addr) (vc:Nat) (vs:List Value) (base:Nat) (hpre:GR t) {lb:Nat} (hwd:WdT lb w) (_:aI G w a t.ks) (ho:w.ownsRow base 9 1 (.slice va t.ks.len vc) t.ks.len vs)
 (hv:∀ j t2,t.ks.at j=some t2->∃ v,vs[j]? = some v/\l4 (fun b=>base<=b/\(Value.slice va t.ks.len vc).ownBlock ≠ some b) w t2 v) :
 Calls Tryz.prog 102 #[bI t.op t.nm t.n a t.ks.len c,.slice va t.ks.len vc] w fun e w'=>∃ v,e=.returned v/\l4 (fun b=>w.heap.size<=b) w' t v/\Below w.heap.size w w':=by
 have BA:=(Below.refl w.heap.size w).alloc (Nat.le_refl _) (ndG t.op t.nm t.n a t.ks.len c);have NB:=heap_alloc_new w (ndG t.op t.nm t.n a t.ks.len c);have O1:=aA (bO ho BA)
 have LT:j6 (w.alloc (ndG t.op t.nm t.n a t.ks.len c)):=by
  obtain ⟨⟨t',f,h1⟩,_⟩:=hwd;exact ⟨t',f,(BA.block _ (Array.getElem?_eq_some_iff.1 h1).1).trans h1⟩
 generalize hW:w.alloc (ndG t.op t.nm t.n a t.ks.len c)=W at BA NB O1 LT;have HW:=aA hW;have HB:=aA BA;have HLT:=aA LT;have hzw:=BA.size;have KO:=aA (fun w=>lR t.op w);have P:=aA (p:=∀ s:ByteArray,s=⟨(aK t).toArray⟩->∀ W',Below w.heap.size w W'->∃ v,Ending.returned (.string s)=.returned v/\l4 (fun b=>w.heap.size<=b) W' t v/\Below w.heap.size w W') (fun s hs W' hb=>⟨_,rfl,by rw [hs];rfl,hb⟩);obtain ⟨hi,hl⟩:=hpre;clear hW BA ho LT hwd;cases hi with
 | num o m n h1 h0 h9 =>
   have g1:=bG h1;unfold jV at g1;have ha:a7 o=0:=by unfold a7;rw [h1];rfl
   have hE:=(kE (m:=m) (n:=n) (ks:=.nil) h1).1;have C:=aA (tU n (by omega) h9 W HLT.out);have P2:=aA (P.out ⟨(Lib.itoa n).toArray⟩ (by rw [hE]));obtain ⟨⟨m0,m1,m2,m3⟩, -⟩:=aO NB;dsimp only at *;rw [ha] at KO;rw [show F.nil.len=0 from rfl] at *;clear P hE ha h1 h0 h9 hl hv NB;go_enter Tryz.func102,Tryz.ntmps102
   go_upto_region 1 with fail
   rw [HW.out];go_upto_region 5 with (go_at_call 147;refine (KO.out _).mono ?_;rintro e w' ⟨rfl,rfl⟩)
   go_wp2_with fail
   refine C.out.mono ?_;rintro e w1 ⟨rfl,hb⟩;have P3:=aA (P2.out w1 (HB.out.trans (hb.mono hzw)));clear hb;go_wp2_with fail
   go_ret;exact P3.out
 | name o m n h1 h2 h3 =>
   have g1:=aG h1;have g2:=bG h2;unfold jV at g1;unfold fX at g2;have ha:a7 o=0:=by unfold a7;rw [h1,h2];rfl
   have hE:=(i6 (m:=m) (n:=n) (ks:=.nil) h1 h2).1;have P2:=aA (P.out m (by rw [hE]) W HB.out);obtain ⟨⟨m0,m1,m2,m3⟩, -⟩:=aO NB;dsimp only at *;rw [ha] at KO;rw [show F.nil.len=0 from rfl] at *;clear P hE ha h1 h2 h3 hl hv NB;go_enter Tryz.func102,Tryz.ntmps102
   go_upto_region 1 with fail
   rw [HW.out];go_wp2_with (go_at_call 147;refine (KO.out _).mono ?_;rintro e w' ⟨rfl,rfl⟩)
   go_ret;exact P2.out
 | neg o m n t1 h1 h2 h3 h4 =>
   have g1:=aG h1;have g2:=aG h2;have g3:=bG h3;unfold jV at g1;unfold fX at g2;unfold gJ at g3;have ha:a7 o=1:=by unfold a7;rw [h1,h2,h3];rfl
   have hE:=(jI (m:=m) (n:=n) t1 h1 h2 h3).1;rw [hE,List.length_cons] at hl;obtain ⟨v,hv0,hvr⟩:=hv 0 t1 rfl;unfold l4 at hvr;subst hvr;obtain ⟨g,cc,hva, -, -,hcs⟩:=dB O1.out (by show (1:Nat) ≠ 0;decide);have hx:=hcs 0 _ hv0;obtain ⟨S,hS⟩:∃ S:ByteArray,⟨(aK t1).toArray⟩=S:=⟨_,rfl⟩;have hSz:S.size<=4000:=by rw [<- hS];show (aK t1).toArray.size<=_;rw [List.size_toArray];omega
   have P2:=aA (P.out (⟨#[45]⟩++S) (by rw [hE, <- hS];exact dO (by simp)) W HB.out);rw [hS] at hx;obtain ⟨⟨m0,m1,m2,m3⟩, -⟩:=aO NB;dsimp only at *;rw [ha] at KO;have h1l:t1.f.len=1:=rfl;rw [h1l] at HW m3 hva |-
   simp only [Value.slice.injEq,true_and] at hva;obtain ⟨rfl,rfl⟩:=hva;clear P hE ha h1 h2 h3 h4 hl hv NB hv0 hcs hS h1l;go_enter Tryz.func102,Tryz.ntmps102
   go_upto_region 1 with fail
   rw [HW.out];go_wp2_with (go_at_call 147;refine (KO.out _).mono ?_;rintro e w' ⟨rfl,rfl⟩)
   go_ret;exact P2.out
 | two o m n t1 t2 h1 h2 h3 h4 h5 h6 =>
   have g1:=aG h1;have g2:=aG h2;have g3:=aG h3;unfold jV at g1;unfold fX at g2;unfold gJ at g3;have ha:a7 o=2:=by unfold a7;rw [h1,h2,h3,h4];rfl
   have hos:o.size=1:=by
    obtain ⟨_,x,hx,_⟩:=oU h4;have:o.data.toList.length=1:=by rw [hx];rfl
    rw [<- this];simp
   have hE:=(jH (m:=m) (n:=n) t1 t2 h1 h2 h3).1;rw [hE] at hl;simp only [List.length_cons,List.length_append,List.length_nil] at hl;obtain ⟨v,hv0,hvr⟩:=hv 0 t1 rfl;unfold l4 at hvr;subst hvr;obtain ⟨u,hu0,hur⟩:=hv 1 t2 rfl;unfold l4 at hur;subst hur;obtain ⟨g,cc,hva, -, -,hcs⟩:=dB O1.out (by show (2:Nat) ≠ 0;decide);have hx:=hcs 0 _ hv0;have hy:=hcs 1 _ hu0;obtain ⟨S,hS⟩:∃ S:ByteArray,⟨(aK t1).toArray⟩=S:=⟨_,rfl⟩;obtain ⟨V,hV⟩:∃ S:ByteArray,⟨(aK t2).toArray⟩=S:=⟨_,rfl⟩;have hSz:S.size<=4000:=by rw [<- hS];show (aK t1).toArray.size<=_;rw [List.size_toArray];omega
   have hVz:V.size<=4000:=by rw [<- hV];show (aK t2).toArray.size<=_;rw [List.size_toArray];omega
   have P2:=aA (P.out (⟨#[40]⟩++S++⟨#[32]⟩++o++⟨#[32]⟩++V++⟨#[41]⟩) (by rw [hE, <- hS, <- hV];exact dO (by simp)));have P3:=aA (fun n=>P2.out (W.drewN n) ⟨HB.out.os,HB.out.tape,HB.out.output,HB.out.size,HB.out.block⟩);rw [hS] at hx;rw [hV] at hy;have z1:(9223372036854775807<1+S.size)=False:=by rw [eq_iff_iff,iff_false];omega
   have z2:(9223372036854775807<1+S.size+1)=False:=by rw [eq_iff_iff,iff_false];omega
   have z3:(9223372036854775807<1+S.size+1+o.size)=False:=by rw [eq_iff_iff,iff_false];omega
   have z4:(9223372036854775807<1+S.size+1+o.size+1)=False:=by rw [eq_iff_iff,iff_false];omega
   have z5:(9223372036854775807<1+S.size+1+o.size+1+V.size)=False:=by rw [eq_iff_iff,iff_false];omega
   have z6:(9223372036854775807<1+S.size+1+o.size+1+V.size+1)=False:=by rw [eq_iff_iff,iff_false];omega
   obtain ⟨⟨m0,m1,m2,m3⟩, -⟩:=aO NB;dsimp only at *;rw [ha] at KO;have h1l:(F.cons t1.op t1.nm t1.n t1.ks t2.f).len=2:=rfl;rw [h1l] at HW m3 hva |-
   simp only [Value.slice.injEq,true_and] at hva;obtain ⟨rfl,rfl⟩:=hva;clear P P2 hE ha h1 h2 h3 h4 h5 h6 hl hv NB hv0 hu0 hcs hS hV h1l hos;go_enter Tryz.func102,Tryz.ntmps102
   go_upto_region 1 with fail
   rw [HW.out];go_upto_region 10 with (go_at_call 147;refine (KO.out _).mono ?_;rintro e w' ⟨rfl,rfl⟩)
   go_wp2_with (go_quiet (fail))
   go_ret;exact P3.out _
end
section
open Go.RowKit
theorem J0:(Tryz.prog.info? 23).map (fun i=>(i.zero,i.size,i.bytes))=some (some (.slice none 0 0),1,24):=JZ
def BK (t:TN):Prop:=OkI t/\aM t<=1000
theorem JR {t t2:TN} {j:Nat} (h:BK t) (hj:t.ks.at j=some t2):BK t2:=by
 obtain ⟨h,hl⟩:=h;refine ⟨?_,?_⟩
 · cases h with
   | num o m n _ _ _=>cases hj
   | name o m n _ _ _=>cases hj
   | neg o m n a h1 h2 h3 h4 =>
     match j,hj with
     | 0, hj =>
       have:a=t2:=Option.some.inj hj;subst this;exact h4
     | j+1,hj=>cases hj
   | two o m n a b h1 h2 h3 h4 h5 h6 =>
     match j,hj with
     | 0, hj =>
       have:a=t2:=Option.some.inj hj;subst this;exact h5
     | 1, hj =>
       have:b=t2:=Option.some.inj hj;subst this;exact h6
     | j+2,hj=>cases hj
 · have h1:=kG hj
   have h2:=e7 t.ks j;unfold aM at hl;omega
def WdL (_:Nat) (_:World):Prop:=True
theorem wdL {w w':World} {lb:Nat} (_:WdL lb w) (_:aL (· = lb) w w'):WdL lb w':=trivial
theorem DB {t:TN} (h:OkI t):(a7 t.op=0/\t.ks=.nil)\/(a7 t.op ≠ 0/\0<t.ks.len):=by
 cases h with
 | num o m n h1 _ _=>left;exact ⟨by show a7 o=0;unfold a7;rw [h1];rfl,rfl⟩
 | name o m n h1 h2 _=>left;exact ⟨by show a7 o=0;unfold a7;rw [h1,h2];rfl,rfl⟩
 | neg o m n a h1 h2 h3 _ =>
   right;refine ⟨?_,Nat.succ_pos _⟩;show a7 o ≠ 0;unfold a7;rw [h1,h2,h3];simp
 | two o m n a b h1 h2 h3 h4 _ _ =>
   right;refine ⟨?_,Nat.succ_pos _⟩;show a7 o ≠ 0;unfold a7;rw [h1,h2,h3,h4];simp
theorem zO (t:TN):bT t.f=t::(if a7 t.op=0 then [] else bT t.ks):=by
 rw [TN.f,bT];simp [bT]
theorem xH (w:World) (t:TN) (a:Option Addr) (c:Nat):(w.alloc (ndG t.op t.nm t.n a t.ks.len c)).ownsRow w.heap.size 25 4 (.slice (some ⟨w.heap.size,0,none⟩) 1 1) 1 (ndL t (a,c)) :=
 ⟨rfl,.inr ⟨w.heap.size,1,_,rfl,Nat.le_refl _,heap_alloc_new w _,Nat.le_refl _,by unfold maxLen;omega,rfl,rfl⟩⟩
theorem Hx (t:TN) (w:World) (G:Nat->Prop) (a:Option Addr) (c:Nat) (va:Option Addr) (vc:Nat) (vs:List Value) (base:Nat) (hpre:BK t) {lb:Nat} (_:WdL lb w) (_:aI G w a t.ks) (ho:w.ownsRow base 23 1 (.slice va t.ks.len vc) t.ks.len vs)
 (hv:∀ j t2,t.ks.at j=some t2->∃ v,vs[j]? = some v/\lW (fun b=>base<=b/\(Value.slice va t.ks.len vc).ownBlock ≠ some b) w t2 v) :
 Calls Tryz.prog 104 #[bI t.op t.nm t.n a t.ks.len c,.slice va t.ks.len vc] w fun e w'=>∃ v,e=.returned v/\lW (fun b=>w.heap.size<=b) w' t v/\Below w.heap.size w w':=by
 obtain ⟨i0,hi,hz0,hz1,hz2⟩:=info_parts qM;have und:Tryz.prog.underlying 23=some (.slice 25):=Tryz.underlying23;have BA:=(Below.refl w.heap.size w).alloc (Nat.le_refl _) (ndG t.op t.nm t.n a t.ks.len c);have NB:=heap_alloc_new w (ndG t.op t.nm t.n a t.ks.len c);have hs0:(w.alloc (ndG t.op t.nm t.n a t.ks.len c)).heap.size=w.heap.size+1:=World.size_alloc _ _;have KO:=aA (fun w=>lR t.op w)
 have CC:=aA (p:=∀ V,Below w.heap.size w V->Calls Tryz.prog 149 #[.slice va t.ks.len vc] V fun e w'=>∃ v qs,e=.returned v/\qs.length=(bT t.ks).length/\w'.ownsRow V.heap.size 25 4 v (bT t.ks).length (eF (bT t.ks) qs)/\Below V.heap.size V w') (fun V hV =>
  Bv t.ks va vc vs base V (bO ho hV) (by have:=hpre.2;unfold aM at this;omega) (G:=fun b=>base<=b/\(Value.slice va t.ks.len vc).ownBlock ≠ some b) (fun j t2 hj=>by
   obtain ⟨v,h1,h2⟩:=hv j t2 hj;exact ⟨v,h1,jM h2 (aE hV (fun _=>False)) (fun _ h=>h.elim)⟩))
 generalize hW:w.alloc (ndG t.op t.nm t.n a t.ks.len c)=W at BA NB hs0;have HW:=aA hW;have HB:=aA BA;have hsize:=hpre.2;obtain ⟨⟨m0,m1,m2,m3⟩, -⟩:=aO NB;have HNB:=aA NB;rcases DB hpre.1 with ⟨h0,h0k⟩ | ⟨h0,h0k⟩
 · have b1:((a7 t.op:Int) == 0)=true:=by rw [h0];rfl
   have hp:bT t.f=[t]:=by rw [zO,if_pos h0]
   have P:=(show lW (fun b=>w.heap.size<=b) (W.alloc (ndG t.op t.nm t.n a t.ks.len c)) t (.slice (some ⟨W.heap.size,0,none⟩) 1 1)/\Below w.heap.size w (W.alloc (ndG t.op t.nm t.n a t.ks.len c)) from by
    have ob:=xH W t a c;refine ⟨⟨⟨W.heap.size,0,1,[(a,c)],by rw [hp];rfl,by omega,by rw [World.size_alloc];omega,by rw [hp];rfl,fun j u hj=>?_⟩⟩,BA.alloc (by omega) _⟩;rw [hp] at hj
    have hj2:(ndL t (a,c))[j]? = some u:=by
     have e:eF [t] [(a,c)]=ndL t (a,c):=by simp [eF]
     rw [e] at hj;exact hj
    obtain ⟨g',h1,h2⟩:=nH ob hj2;simp only [Addr.mk.injEq,and_true] at h1;subst h1;rw [Nat.zero_add];exact h2)
   rw [hs0] at P;have P:=aA P;clear hW NB BA ho hv hpre h0 h0k hp CC;go_enter Tryz.func104,Tryz.ntmps104
   go_upto_region 1 with fail
   rw [HW.out];go_wp2_with (go_at_call 147;refine (KO.out _).mono ?_;rintro e w' ⟨rfl,rfl⟩)
   go_ret;exact ⟨_,rfl,P.out.1,P.out.2⟩
 · have b1:((a7 t.op:Int) == 0)=false:=by rw [beq_eq_false_iff_ne];exact h0
   have hp:bT t.f=t::bT t.ks:=by rw [zO,if_neg h0]
   have hpk:0<(bT t.ks).length:=by
    cases hk:t.ks with
    | nil=>rw [hk] at h0k;simp [F.len] at h0k
    | cons o m n k r=>rw [bT];simp
   have hpl:=pI t.ks;have hpl2:(bT t.ks).length<=1000:=by unfold aM at hsize;omega
   have HP:=aA hp;have hpkn:(bT t.ks).length ≠ 0:=by omega
   clear hW NB BA ho hv hpre h0 h0k hp hpl;go_enter Tryz.func104,Tryz.ntmps104
   go_upto_region 1 with fail
   rw [HW.out];go_upto_region 3 with (go_at_call 147;refine (KO.out _).mono ?_;rintro e w' ⟨rfl,rfl⟩)
   have BW1:=aA (show Below w.heap.size w (W.alloc (ndG t.op t.nm t.n a t.ks.len c)).drew from (HB.out.alloc (by omega) _ |> fun b=>⟨b.os,b.tape,b.output,b.size,b.block⟩));have ow1:(W.alloc (ndG t.op t.nm t.n a t.ks.len c)).drew.ownsRow W.heap.size 25 4 (.slice (some ⟨W.heap.size,0,none⟩) 1 1) 1 (ndL t (a,c)):=xH W t a c;rw [hs0] at ow1;have OW1:=aA ow1;clear ow1;have BW0:=aA (show Below w.heap.size w W.drew from ⟨HB.out.os,HB.out.tape,HB.out.output,HB.out.size,HB.out.block⟩);have hsz0:W.drew.heap.size=w.heap.size+1:=hs0
   have hsz1:(W.alloc (ndG t.op t.nm t.n a t.ks.len c)).drew.heap.size=w.heap.size+2:=by
    have:(W.alloc (ndG t.op t.nm t.n a t.ks.len c)).drew.heap.size=W.heap.size+1:=World.size_alloc _ _;omega
   go_region_law (first
    | (go_simp
       go_at_call 149
       refine (CC.out _ BW1.out).mono ?_;rintro e w2 ⟨v2,qs,rfl,hq,ho2,hb2⟩;obtain ⟨g2,c2,rfl, -, -,hc2⟩:=dB ho2 hpkn;have O2:=aA (bO OW1.out hb2);have HQ:=aA hq;have HB2:=aA (BW1.out.trans (hb2.mono (by omega)));have HC:=aA (p:=∀ j u,(eF (bT t.ks) qs)[j]? = some u->w2.cell? ((⟨g2,0,none⟩:Addr).add j)=some u) (fun j u hj=>by rw [Addr.add_lit,Nat.zero_add];exact hc2 j u hj);have HLL:=aA (pO hq);have hz2w:w.heap.size+2<=w2.heap.size:=by have:=hb2.size;omega
       clear ho2 hb2 hc2 hq)
    | (refine cO rfl (.tmp 12) (.tmp 14) 23 rfl (base := w.heap.size + 1) und hi hz0 hz1 hz2 rfl (by decide) (.slice (some ⟨w.heap.size + 1, 0, none⟩) 1 1) 1 (bT t.ks).length (ndL t (a, c)) (eF (bT t.ks) qs) ⟨g2, 0, none⟩ c2 (by first | (simp [Act.eval]; done) | (simp [Act.eval, Act.put]; done) | fail) (by first | (simp [Act.eval]; done) | (simp [Act.eval, Act.put]; done) | fail) O2.out HLL.out HC.out (pN _ _) (by unfold maxLen; omega) (by omega) (by omega) ?_
       intro v3 w3 ho3 hg3 _;obtain ⟨g3,c3,rfl, -, -,hc3⟩:=dB ho3 (by omega);have hb3:=(ho3.lt g3 rfl)
       have P3:=aA (show lW (fun b=>w.heap.size<=b) w3 t (.slice (some ⟨g3,0,none⟩) (1+(bT t.ks).length) c3) from ⟨⟨g3,0,c3,(a,c)::qs,by rw [HP.out,List.length_cons,Nat.add_comm],by omega,hb3.2,by rw [HP.out,List.length_cons,List.length_cons,HQ.out],fun j u hj=>by
        rw [HP.out,eF] at hj;rw [Nat.zero_add];exact hc3 j u hj⟩⟩)
       have B3:=aA (HB2.out.grown hg3 (by omega) (fun q hq=>by have:=(O2.out.lt q hq).1;omega));clear ho3 hg3 hc3 hb3)
    | (go_simp
       go_at_call 149
       refine (CC.out _ BW0.out).mono ?_;rintro e w2 ⟨v2,qs,rfl,hq,ho2,hb2⟩;obtain ⟨g2,c2,rfl, -, -,hc2⟩:=dB ho2 hpkn;have NB2:=hb2.block w.heap.size (by omega);have hz2w:w.heap.size+1<=w2.heap.size:=by have:=hb2.size;omega
       have y:w2.heap[w.heap.size]? = some (ndG t.op t.nm t.n a t.ks.len c):=NB2.trans HNB.out;have O2b:=aA (xH w2 t a c);have HQ:=aA hq;have HB2b:=aA ((BW0.out.trans (hb2.mono (by omega))).alloc (by omega) (ndG t.op t.nm t.n a t.ks.len c));have HCb:=aA (p:=∀ j u,(eF (bT t.ks) qs)[j]? = some u->(w2.alloc (ndG t.op t.nm t.n a t.ks.len c)).cell? ((⟨g2,0,none⟩:Addr).add j)=some u) (fun j u hj=>by rw [Addr.add_lit,Nat.zero_add];exact Lib.cell?_alloc_some _ (hc2 j u hj));have HLL:=aA (pO hq);have hz3w:(w2.alloc (ndG t.op t.nm t.n a t.ks.len c)).heap.size=w2.heap.size+1:=World.size_alloc _ _;clear ho2 hb2 hc2 hq NB2 m0 m1 m2 m3;obtain ⟨⟨m0,m1,m2,m3⟩, -⟩:=aO y;clear y)
    | (refine cO rfl (.tmp 12) (.tmp 14) 23 rfl (base := w2.heap.size) und hi hz0 hz1 hz2 rfl (by decide) (.slice (some ⟨w2.heap.size, 0, none⟩) 1 1) 1 (bT t.ks).length (ndL t (a, c)) (eF (bT t.ks) qs) ⟨g2, 0, none⟩ c2 (by first | (simp [Act.eval]; done) | (simp [Act.eval, Act.put]; done) | fail) (by first | (simp [Act.eval]; done) | (simp [Act.eval, Act.put]; done) | fail) O2b.out HLL.out HCb.out (pN _ _) (by unfold maxLen; omega) (by omega) (by rw [World.size_alloc]; omega) ?_
       intro v3 w3 ho3 hg3 _;obtain ⟨g3,c3,rfl, -, -,hc3⟩:=dB ho3 (by omega);have hb3:=(ho3.lt g3 rfl)
       have P3:=aA (show lW (fun b=>w.heap.size<=b) w3 t (.slice (some ⟨g3,0,none⟩) (1+(bT t.ks).length) c3) from ⟨⟨g3,0,c3,(a,c)::qs,by rw [HP.out,List.length_cons,Nat.add_comm],by have:=hb3.1;omega,hb3.2,by rw [HP.out,List.length_cons,List.length_cons,HQ.out],fun j u hj=>by
        rw [HP.out,eF] at hj;rw [Nat.zero_add];exact hc3 j u hj⟩⟩)
       have B3:=aA (HB2b.out.grown hg3 (by rw [World.size_alloc];omega) (fun q hq=>by have:=(O2b.out.lt q hq).1;omega));clear ho3 hg3 hc3 hb3)
    | fail)
   all_goals
    go_wp2_with fail
    go_ret;exact ⟨_,rfl,P3.out,B3.out⟩
end
end
end Go.Proofs.YtapcjnoaofmmiaaGreatDoor
