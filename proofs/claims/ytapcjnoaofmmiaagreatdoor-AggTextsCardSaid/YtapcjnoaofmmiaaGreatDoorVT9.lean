/-
 No statement: what AggTextsCard needs, of the texts OE11, OE12.
-/
import Derived.Test.YtapcjnoaofmmiaaGreatDoorVT8
set_option maxHeartbeats 40000000
set_option maxRecDepth 100000
namespace Go.Proofs.YtapcjnoaofmmiaaGreatDoor
open Go.RowKit
section
section
open Go.RowKit
theorem Lj:(Tryz.prog.info? 29).map (fun i=>(i.zero,i.size,i.bytes))=some (some (.int .i64 0),1,8):=by kernel_rfl
def Hv (t:TN):Prop:=SzF t.f
theorem KZ {t t2:TN} {j:Nat} (h:Hv t) (hj:t.ks.at j=some t2):Hv t2:=SzF.at (f:=t.ks) h.2.2.1 hj
def WdE (_:Nat) (_:World):Prop:=True
theorem wdE {w w':World} {lb:Nat} (_:WdE lb w) (_:aE (· = lb) w w'):WdE lb w':=trivial
def mD (_:Nat->Prop) (_:World) (t:TN) (v:Value):Prop:=v=.int .i64 (bD t.f)
theorem kR {G H:Nat->Prop} {w:World} {t:TN} {v:Value} (h:mD G w t v) (_:∀ b,b<w.heap.size->G b->H b):mD H w t v:=h
theorem lM {S G:Nat->Prop} {w w':World} {t:TN} {v:Value} (h:mD G w t v) (_:aE S w w') (_:∀ k,S k->¬ G k):mD G w' t v:=h
theorem JS {G:Nat->Prop} {w:World} {t:TN} {v:Value} (h:mD G w t v):∃ z,v=.int .i64 z:=⟨_,h⟩
theorem Lv {G:Nat->Prop} {w:World} {t:TN} {v:Value} (h:mD G w t v):v.oneCell'=true:=by rw [h];rfl
theorem qY (t:TN) (r:F):bD (.cons t.op t.nm t.n t.ks r)=if bD t.f=0 then bD r else bD t.f:=by
 rw [mY,bD];by_cases h1:iW t.op t.nm t.n t.ks.len=0
 · rw [if_pos h1,if_pos h1]
 · rw [if_neg h1,if_neg h1,if_neg h1]
theorem CY {o:ByteArray} {x:List UInt8} (h:(o.data.toList == x)=true):(o.toList == x)=true:=by rw [Lib.toList_data];exact h
theorem C7 {o:ByteArray} {x:List UInt8} (h:(o.data.toList == x)=false):(o.toList == x)=false:=by rw [Lib.toList_data];exact h
theorem IN (t:TN) (w:World) (G:Nat->Prop) (a:Option Addr) (c:Nat) (va:Option Addr) (vc:Nat) (vs:List Value) (base:Nat) (hpre:Hv t) {lb:Nat} (_:WdE lb w) (_:aH G w a t.ks) (ho:w.ownsRow base 29 1 (.slice va t.ks.len vc) t.ks.len vs)
 (hv:∀ j t2,t.ks.at j=some t2->∃ v,vs[j]? = some v/\mD (fun b=>base<=b/\(Value.slice va t.ks.len vc).ownBlock ≠ some b) w t2 v) :
 Calls Tryz.prog 141 #[bB t.op t.nm t.n a t.ks.len c,.slice va t.ks.len vc] w fun e w'=>∃ v,e=.returned v/\mD (fun b=>w.heap.size<=b) w' t v/\Below w.heap.size w w':=by
 have BA:=(Below.refl w.heap.size w).alloc (Nat.le_refl _) (ndG t.op t.nm t.n a t.ks.len c);have NB:=heap_alloc_new w (ndG t.op t.nm t.n a t.ks.len c);have O1:=aA (bR ho BA);generalize hW:w.alloc (ndG t.op t.nm t.n a t.ks.len c)=W at BA NB O1;have HW:=aA hW;have HB:=aA BA;have HV:=aA hv;have hm:t.nm.size<=281474976710656:=hpre.1;have hlen9:t.ks.len<=9223372036854775807:=hpre.2.1;obtain ⟨⟨m0,m1,m2,m3⟩, -⟩:=aK NB;have KO:=aA (fun w=>lV t.op w);have NM:=aA (fun w=>vE t.nm hm w);have CT:=mY t;unfold iW at CT;have HCT:=aA CT;clear hW BA NB ho hv hpre CT;have P:=aA (p:=∀ r:Int,r=bD t.f->∀ W',Below w.heap.size w W'->∃ v,Ending.returned (.int .i64 r)=.returned v/\mD (fun b=>w.heap.size<=b) W' t v/\Below w.heap.size w W') (fun r hr W' hb=>⟨_,rfl,by rw [hr];rfl,hb⟩);by_cases h1:(bI t.op != (t.ks.len:Int))=true
 · have P2:=aA (P.out 2 (by rw [HCT.out,if_pos h1];rfl) W HB.out)
   have b1:((t.ks.len:Int) != bI t.op)=true:=by rw [bne_iff_ne] at h1 |-;exact fun e=>h1 e.symm
   clear h1 P HCT;go_enter Tryz.func141,Tryz.ntmps141
   go_upto_region 1 with fail
   rw [HW.out];go_wp2_with (go_at_call 147;refine (KO.out _).mono ?_;rintro e w' ⟨rfl,rfl⟩)
   go_ret;exact P2.out
 · have b1:((t.ks.len:Int) != bI t.op)=false:=by rw [bne_eq_false_iff_eq];simp at h1;exact h1.symm
   rw [if_neg h1] at HCT;clear h1;cases h2:bN t.op with
   | true =>
     have g2:=CY h2
     have g1:(t.op.toList == [110,117,109])=false:=by
      have:t.op.data.toList=iQ:=by unfold bN at h2;simpa using h2
      rw [Lib.toList_data,this];rfl
     have hn:bY t.op=false:=by unfold bY l5;rw [<- Lib.toList_data];exact g1
     unfold iQ at g2;cases hg:eM t.nm.data.toList with
     | false =>
       rw [hg] at NM;have P2:=aA (P.out 5 (by rw [HCT.out,h2,hg];rfl) W HB.out);clear h2 hg hn P HCT;go_enter Tryz.func141,Tryz.ntmps141
       go_upto_region 1 with fail
       rw [HW.out];go_wp2_with (first | (go_at_call 147;refine (KO.out _).mono ?_;rintro e w' ⟨rfl,rfl⟩) | (go_at_call 168;refine (NM.out _).mono ?_;rintro e w' ⟨rfl,rfl⟩))
       go_ret;exact P2.out
     | true =>
       rw [hg] at NM;have E:=aA (show bD t.f=bD t.ks by rw [HCT.out,h2,hg,hn];rfl);clear h2 hg hn HCT;go_enter Tryz.func141,Tryz.ntmps141
       go_upto_region 1 with fail
       rw [HW.out];go_wp2_with (first | (go_at_call 147;refine (KO.out _).mono ?_;rintro e w' ⟨rfl,rfl⟩) | (go_at_call 168;refine (NM.out _).mono ?_;rintro e w' ⟨rfl,rfl⟩))
       go_loop [35] (fun i=>∃ k:Nat,i=.int .i64 k/\k<=t.ks.len/\Hid (bD (t.ks.drop k)=bD t.ks)) (fun i=>t.ks.len-(intOf i).toNat)
       case atStart=>exact ⟨0,rfl,Nat.zero_le _,aA (by rw [F.drop_zero])⟩
       case round =>
        obtain ⟨k,rfl,hk,hD⟩:=hrel;by_cases hlt:k<t.ks.len
        · obtain ⟨t2,hat,hdr⟩:=dN hlt
          obtain ⟨v,hvj,hvr⟩:=HV.out k t2 hat;obtain ⟨g,cc,hva, -, -,hcs⟩:=dG O1.out (by omega);have hx:=hcs k v hvj;have HD2:=aA (show bD t.ks=if bD t2.f=0 then bD (t.ks.drop (k+1)) else bD t2.f by have e:=qY t2 (t.ks.drop (k+1));rw [<- hdr,hD.out] at e;exact e);simp only [Value.slice.injEq,true_and] at hva;obtain ⟨rfl,rfl⟩:=hva;unfold mD at hvr;subst hvr;clear hvj hat hdr hcs;by_cases h0:bD t2.f=0
          · have b0:((bD t2.f:Int) != 0)=false:=by rw [h0];rfl
            have D2:=aA (show bD (t.ks.drop (k+1))=bD t.ks by rw [HD2.out,if_pos h0]);clear h0 HD2;go_wp2_with fail
            go_round
            case rel=>exact ⟨k+1,by go_num,by omega,D2⟩
            case measure=>simp [intOf];omega
          · have b0:((bD t2.f:Int) != 0)=true:=by simpa using h0
            have P2:=aA (P.out (bD t2.f) (by rw [E.out,HD2.out,if_neg h0]) W HB.out);clear h0 HD2;go_wp2_with fail
            go_ret;exact P2.out
        · obtain rfl:k=t.ks.len:=by omega
          have P2:=aA (P.out 0 (by rw [E.out, <- hD.out,F.drop_len _ _ (Nat.le_refl _)];rfl) W HB.out);go_wp2_with fail
          go_ret;exact P2.out
   | false =>
     have g2:=C7 h2;unfold iQ at g2;cases h3:bY t.op with
     | true =>
       have g3:=CY h3;unfold l5 at g3;by_cases h4:t.n<0
       · have P2:=aA (P.out 1 (by rw [HCT.out,h2,h3,decide_eq_true h4];rfl) W HB.out)
         clear h2 h3 P HCT;go_enter Tryz.func141,Tryz.ntmps141
         go_upto_region 1 with fail
         rw [HW.out];go_wp2_with (go_at_call 147;refine (KO.out _).mono ?_;rintro e w' ⟨rfl,rfl⟩)
         go_ret;exact P2.out
       · have E:=aA (show bD t.f=bD t.ks by rw [HCT.out,h2,h3,decide_eq_false h4];rfl)
         clear h2 h3 HCT;go_enter Tryz.func141,Tryz.ntmps141
         go_upto_region 1 with fail
         rw [HW.out];go_wp2_with (go_at_call 147;refine (KO.out _).mono ?_;rintro e w' ⟨rfl,rfl⟩)
         go_loop [35] (fun i=>∃ k:Nat,i=.int .i64 k/\k<=t.ks.len/\Hid (bD (t.ks.drop k)=bD t.ks)) (fun i=>t.ks.len-(intOf i).toNat)
         case atStart=>exact ⟨0,rfl,Nat.zero_le _,aA (by rw [F.drop_zero])⟩
         case round =>
          obtain ⟨k,rfl,hk,hD⟩:=hrel;by_cases hlt:k<t.ks.len
          · obtain ⟨t2,hat,hdr⟩:=dN hlt
            obtain ⟨v,hvj,hvr⟩:=HV.out k t2 hat;obtain ⟨g,cc,hva, -, -,hcs⟩:=dG O1.out (by omega);have hx:=hcs k v hvj;have HD2:=aA (show bD t.ks=if bD t2.f=0 then bD (t.ks.drop (k+1)) else bD t2.f by have e:=qY t2 (t.ks.drop (k+1));rw [<- hdr,hD.out] at e;exact e);simp only [Value.slice.injEq,true_and] at hva;obtain ⟨rfl,rfl⟩:=hva;unfold mD at hvr;subst hvr;clear hvj hat hdr hcs;by_cases h0:bD t2.f=0
            · have b0:((bD t2.f:Int) != 0)=false:=by rw [h0];rfl
              have D2:=aA (show bD (t.ks.drop (k+1))=bD t.ks by rw [HD2.out,if_pos h0]);clear h0 HD2;go_wp2_with fail
              go_round
              case rel=>exact ⟨k+1,by go_num,by omega,D2⟩
              case measure=>simp [intOf];omega
            · have b0:((bD t2.f:Int) != 0)=true:=by simpa using h0
              have P2:=aA (P.out (bD t2.f) (by rw [E.out,HD2.out,if_neg h0]) W HB.out);clear h0 HD2;go_wp2_with fail
              go_ret;exact P2.out
          · obtain rfl:k=t.ks.len:=by omega
            have P2:=aA (P.out 0 (by rw [E.out, <- hD.out,F.drop_len _ _ (Nat.le_refl _)];rfl) W HB.out);go_wp2_with fail
            go_ret;exact P2.out
     | false =>
       have g3:=C7 h3;unfold l5 at g3;have E:=aA (show bD t.f=bD t.ks by rw [HCT.out,h2,h3];rfl);clear h2 h3 HCT;go_enter Tryz.func141,Tryz.ntmps141
       go_upto_region 1 with fail
       rw [HW.out];go_wp2_with (go_at_call 147;refine (KO.out _).mono ?_;rintro e w' ⟨rfl,rfl⟩)
       go_loop [35] (fun i=>∃ k:Nat,i=.int .i64 k/\k<=t.ks.len/\Hid (bD (t.ks.drop k)=bD t.ks)) (fun i=>t.ks.len-(intOf i).toNat)
       case atStart=>exact ⟨0,rfl,Nat.zero_le _,aA (by rw [F.drop_zero])⟩
       case round =>
        obtain ⟨k,rfl,hk,hD⟩:=hrel;by_cases hlt:k<t.ks.len
        · obtain ⟨t2,hat,hdr⟩:=dN hlt
          obtain ⟨v,hvj,hvr⟩:=HV.out k t2 hat;obtain ⟨g,cc,hva, -, -,hcs⟩:=dG O1.out (by omega);have hx:=hcs k v hvj;have HD2:=aA (show bD t.ks=if bD t2.f=0 then bD (t.ks.drop (k+1)) else bD t2.f by have e:=qY t2 (t.ks.drop (k+1));rw [<- hdr,hD.out] at e;exact e);simp only [Value.slice.injEq,true_and] at hva;obtain ⟨rfl,rfl⟩:=hva;unfold mD at hvr;subst hvr;clear hvj hat hdr hcs;by_cases h0:bD t2.f=0
          · have b0:((bD t2.f:Int) != 0)=false:=by rw [h0];rfl
            have D2:=aA (show bD (t.ks.drop (k+1))=bD t.ks by rw [HD2.out,if_pos h0]);clear h0 HD2;go_wp2_with fail
            go_round
            case rel=>exact ⟨k+1,by go_num,by omega,D2⟩
            case measure=>simp [intOf];omega
          · have b0:((bD t2.f:Int) != 0)=true:=by simpa using h0
            have P2:=aA (P.out (bD t2.f) (by rw [E.out,HD2.out,if_neg h0]) W HB.out);clear h0 HD2;go_wp2_with fail
            go_ret;exact P2.out
        · obtain rfl:k=t.ks.len:=by omega
          have P2:=aA (P.out 0 (by rw [E.out, <- hD.out,F.drop_len _ _ (Nat.le_refl _)];rfl) W HB.out);go_wp2_with fail
          go_ret;exact P2.out
end
section
open Go.RowKit
theorem qK {f g:F} {t u:TN} {r s:F} (hf:f=.cons t.op t.nm t.n t.ks r) (hg:g=.cons u.op u.nm u.n u.ks s):eA f g=(cN t u && eA r s):=by
 rw [hf,hg,cN,TN.f,TN.f,eA,eA];simp only [eA,Bool.and_true]
theorem DI (t u:TN):cN t u=((t.op.toList == u.op.toList) && (t.ks.len == u.ks.len) && !((t.op.toList == [110,117,109]) && t.n != u.n) && !((t.op.toList == [110,97,109,101]) && (t.nm.toList != u.nm.toList)) && eA t.ks u.ks):=by
 rw [cN,TN.f,TN.f,eA];simp only [eA,Bool.and_true,bY,bN,l5,iQ,Lib.toList_data]
def Cs (t:TN):Prop:=∀ (G H:Nat->Prop) (w:World) (a a2:Option Addr) (c c2:Nat) (u:TN),yF t.f->aH G w a t.ks->aH H w a2 u.ks->Calls Tryz.prog 42 #[bB t.op t.nm t.n a t.ks.len c,bB u.op u.nm u.n a2 u.ks.len c2] w fun e w'=>e=.returned (.bool (cN t u))/\Below w.heap.size w w'
theorem DH (t:TN) (ih:eO Cs t.ks):Cs t:=by
 intro G H w a a2 c c2 u hS hr hs;have R:=aA hr;have R2:=aA hs;have IH:=aA ih;obtain ⟨hm,hL2, -⟩:=hS;have LK:=aA hL2;obtain ⟨r,hR⟩:∃ r,cN t u=r:=⟨_,rfl⟩;rw [hR];rw [DI] at hR;have hop:(t.op.toList == u.op.toList)=true->u.op=t.op:=fun h=>ByteArray.ext (Array.ext' (by rw [<- Lib.toList_data, <- Lib.toList_data];exact (eq_of_beq h).symm))
 obtain ⟨uo,um,un,uks⟩:=u;dsimp only at hop hR hs |-
 obtain ⟨L,hL⟩:∃ L,uks.len=L:=⟨_,rfl⟩;have HL:=aA hL;rw [hL] at hR |-
 have NB:Hid ((w.alloc (ndO t.op t.nm t.n a t.ks.len c)).heap[w.heap.size]? = some (ndO t.op t.nm t.n a t.ks.len c)):=aA (heap_alloc_new w _);have NB0:Hid (((w.alloc (ndO t.op t.nm t.n a t.ks.len c)).alloc (ndO uo um un a2 L c2)).heap[w.heap.size]? = some (ndO t.op t.nm t.n a t.ks.len c)):=aA ((heap_alloc_old _ _ (aG NB.out)).trans NB.out);have NB1:Hid (((w.alloc (ndO t.op t.nm t.n a t.ks.len c)).alloc (ndO uo um un a2 L c2)).heap[w.heap.size+1]? = some (ndO uo um un a2 L c2)):=aA (by have:=heap_alloc_new (w.alloc (ndO t.op t.nm t.n a t.ks.len c)) (ndO uo um un a2 L c2);rwa [World.size_alloc] at this);have B0:=aA (((Below.refl w.heap.size w).alloc (Nat.le_refl _) (ndO t.op t.nm t.n a t.ks.len c)).alloc (by simp) (ndO uo um un a2 L c2));clear hr hs ih hL2 NB hL;cases h1:(t.op.toList == uo.toList) with
 | false =>
   have RR:=aA (show false=r by rw [<- hR,h1];rfl);clear hR hop;go_enter Tryz.func42,Tryz.ntmps42
   go_wp2_with fail
   go_ret;rw [RR.out];exact ⟨rfl,B0.out⟩
 | true =>
   obtain rfl:=hop h1;clear hop h1;by_cases h2:t.ks.len=L
   · subst h2
     obtain ⟨p,hp⟩:∃ p,(t.op.toList == [110,97,109,101])=p:=⟨_,rfl⟩;obtain ⟨q,hq⟩:∃ q,(t.op.toList == [110,117,109])=q:=⟨_,rfl⟩;rw [hp,hq] at hR;cases q with
     | true =>
       obtain rfl:p=false:=by rw [<- hp,eq_of_beq hq];rfl
       by_cases h3:un=t.n
       · subst h3
         have H0:=aA (show eA (t.ks.drop 0) (uks.drop 0)=r by rw [F.drop_zero,F.drop_zero, <- hR];simp);clear hR;go_enter Tryz.func42,Tryz.ntmps42
         go_wp2_with fail
         generalize (w.alloc (ndO t.op t.nm t.n a t.ks.len c)).alloc (ndO t.op um t.n a2 t.ks.len c2)=W at NB0 NB1 B0 |-
         go_loopw [5] (fun i wr=>∃ (k:Nat),i=.int .i64 k/\k<=t.ks.len/\Hid (eA (t.ks.drop k) (uks.drop k)=r)/\Hid (Below w.heap.size w wr)/\Hid (wr.heap[w.heap.size]? = some (ndO t.op t.nm t.n a t.ks.len c))/\Hid (wr.heap[w.heap.size+1]? = some (ndO t.op um t.n a2 t.ks.len c2))) (fun i _=>t.ks.len-(intOf i).toNat)
         case atStart=>exact ⟨0,rfl,Nat.zero_le _,H0,B0,NB0,NB1⟩
         case round =>
          obtain ⟨k,rfl,hk,hE,hB,hN,hM⟩:=hrel;obtain ⟨⟨m0,m1,m2,m3⟩, -⟩:=aK hN.out;obtain ⟨⟨q0,q1,q2,q3⟩, -⟩:=aK hM.out;by_cases hlt:k<t.ks.len
          · obtain ⟨t2,hat,hdr⟩:=dN hlt
            obtain ⟨u2,hau,hdu⟩:=dN (show k<uks.len by rw [HL.out];exact hlt);obtain ⟨b,off,a3,c3,ha,hG,hbl,⟨p0,p1,p2,p3⟩,hr2⟩:=cR (R.out.kept hB.out) hat;obtain ⟨b',off',a4,c4,ha',hG',hbl',⟨p4,p5,p6,p7⟩,hr3⟩:=cR (R2.out.kept hB.out) hau;have EN:=aA (show (cN t2 u2 && eA (t.ks.drop (k+1)) (uks.drop (k+1)))=r from (qK hdr hdu).symm.trans hE.out);have hdr':Below wr.heap.size wr wr.drew:=⟨rfl,rfl,rfl,Nat.le_refl _,fun _ _=>rfl⟩;have C:=aA ((eO.at IH.out hat) G H wr.drew a3 a4 c3 c4 u2 (LK.out.at hat) (hr2.kept hdr') (hr3.kept hdr'));subst ha ha';obtain ⟨y,hy⟩:∃ y,cN t2 u2=y:=⟨_,rfl⟩;rw [hy] at C EN;have CELLS:=aA (p:=∀ w',Below wr.heap.size wr w'->(w'.cell? ⟨w.heap.size,3,none⟩=some (.slice (some ⟨b,off,none⟩) t.ks.len c)/\w'.cell? ⟨w.heap.size+1,3,none⟩=some (.slice (some ⟨b',off',none⟩) t.ks.len c2)/\w'.cell? ⟨b,off+k*4,none⟩=some (.string t2.op)/\w'.cell? ⟨b,off+k*4+1,none⟩=some (.string t2.nm)/\w'.cell? ⟨b,off+k*4+2,none⟩=some (.int .i64 t2.n)/\w'.cell? ⟨b,off+k*4+3,none⟩=some (.slice a3 t2.ks.len c3)/\w'.cell? ⟨b',off'+k*4,none⟩=some (.string u2.op)/\w'.cell? ⟨b',off'+k*4+1,none⟩=some (.string u2.nm)/\w'.cell? ⟨b',off'+k*4+2,none⟩=some (.int .i64 u2.n)/\w'.cell? ⟨b',off'+k*4+3,none⟩=some (.slice a4 u2.ks.len c4))) (fun w' h=>⟨(h.cell (aG hN.out)).trans m3,(h.cell (aG hM.out)).trans q3,(h.cell hbl).trans p0,(h.cell hbl).trans p1,(h.cell hbl).trans p2,(h.cell hbl).trans p3,(h.cell hbl').trans p4,(h.cell hbl').trans p5,(h.cell hbl').trans p6,(h.cell hbl').trans p7⟩);clear hat hdr hau hdu hr2 hr3 hy hdr'
            go_wp2_with fail
            go_region_held3 (fun w'=>w'.cell? ⟨w.heap.size,3,none⟩=some (.slice (some ⟨b,off,none⟩) t.ks.len c)/\w'.cell? ⟨w.heap.size+1,3,none⟩=some (.slice (some ⟨b',off',none⟩) t.ks.len c2)/\w'.cell? ⟨b,off+k*4,none⟩=some (.string t2.op)/\w'.cell? ⟨b,off+k*4+1,none⟩=some (.string t2.nm)/\w'.cell? ⟨b,off+k*4+2,none⟩=some (.int .i64 t2.n)/\w'.cell? ⟨b,off+k*4+3,none⟩=some (.slice a3 t2.ks.len c3)/\w'.cell? ⟨b',off'+k*4,none⟩=some (.string u2.op)/\w'.cell? ⟨b',off'+k*4+1,none⟩=some (.string u2.nm)/\w'.cell? ⟨b',off'+k*4+2,none⟩=some (.int .i64 u2.n)/\w'.cell? ⟨b',off'+k*4+3,none⟩=some (.slice a4 u2.ks.len c4)) (first | exact ⟨m3,q3,p0,p1,p2,p3,p4,p5,p6,p7⟩ | exact CELLS.out _ B2.out) (first
             | (go_at_call 42
                with_reducible refine C.out.mono ?_
                rintro e w2 ⟨rfl,hb⟩;have B2:=aA ((bK wr).trans hb);clear hb)
             | fail)
            have hz:=hB.out.size;have N2:=aA ((B2.out.block _ (aG hN.out)).trans hN.out);have M2:=aA ((B2.out.block _ (aG hM.out)).trans hM.out);have B3:=aA (hB.out.trans (B2.out.mono hz));clear B2 C CELLS m0 m1 m2 m3 q0 q1 q2 q3 p0 p1 p2 p3 p4 p5 p6 p7;cases y with
            | true =>
              have EN2:=aA ((Bool.true_and _).symm.trans EN.out);clear EN;go_wp2_with fail
              go_roundw
              case rel=>exact ⟨k+1,by go_num,by omega,EN2,B3,N2,M2⟩
              case measure=>simp [intOf];omega
            | false =>
              have RR:=aA (show false=r from (Bool.false_and _).symm.trans EN.out);clear EN;go_wp2_with fail
              go_ret;rw [RR.out];exact ⟨rfl,B3.out⟩
          · have RR:=aA (show true=r by rw [<- hE.out,F.drop_len _ _ (by omega),F.drop_len _ _ (by rw [HL.out];omega)];rfl)
            go_wp2_with fail
            go_ret;rw [RR.out];exact ⟨rfl,hB.out⟩
       · have RR:=aA (show false=r by rw [<- hR];simp [bne_iff_ne.2 (Ne.symm h3)])
         clear hR;go_enter Tryz.func42,Tryz.ntmps42
         go_wp2_with fail
         go_ret;rw [RR.out];exact ⟨rfl,B0.out⟩
     | false =>
       cases p with
       | true =>
         cases h4:(t.nm.toList == um.toList) with
         | true =>
           have H0:=aA (show eA (t.ks.drop 0) (uks.drop 0)=r by rw [F.drop_zero,F.drop_zero, <- hR];simp [bne,h4]);clear hR;go_enter Tryz.func42,Tryz.ntmps42
           go_wp2_with fail
           generalize (w.alloc (ndO t.op t.nm t.n a t.ks.len c)).alloc (ndO t.op um un a2 t.ks.len c2)=W at NB0 NB1 B0 |-
           go_loopw [5] (fun i wr=>∃ (k:Nat),i=.int .i64 k/\k<=t.ks.len/\Hid (eA (t.ks.drop k) (uks.drop k)=r)/\Hid (Below w.heap.size w wr)/\Hid (wr.heap[w.heap.size]? = some (ndO t.op t.nm t.n a t.ks.len c))/\Hid (wr.heap[w.heap.size+1]? = some (ndO t.op um un a2 t.ks.len c2))) (fun i _=>t.ks.len-(intOf i).toNat)
           case atStart=>exact ⟨0,rfl,Nat.zero_le _,H0,B0,NB0,NB1⟩
           case round =>
            obtain ⟨k,rfl,hk,hE,hB,hN,hM⟩:=hrel;obtain ⟨⟨m0,m1,m2,m3⟩, -⟩:=aK hN.out;obtain ⟨⟨q0,q1,q2,q3⟩, -⟩:=aK hM.out;by_cases hlt:k<t.ks.len
            · obtain ⟨t2,hat,hdr⟩:=dN hlt
              obtain ⟨u2,hau,hdu⟩:=dN (show k<uks.len by rw [HL.out];exact hlt);obtain ⟨b,off,a3,c3,ha,hG,hbl,⟨p0,p1,p2,p3⟩,hr2⟩:=cR (R.out.kept hB.out) hat;obtain ⟨b',off',a4,c4,ha',hG',hbl',⟨p4,p5,p6,p7⟩,hr3⟩:=cR (R2.out.kept hB.out) hau;have EN:=aA (show (cN t2 u2 && eA (t.ks.drop (k+1)) (uks.drop (k+1)))=r from (qK hdr hdu).symm.trans hE.out);have hdr':Below wr.heap.size wr wr.drew:=⟨rfl,rfl,rfl,Nat.le_refl _,fun _ _=>rfl⟩;have C:=aA ((eO.at IH.out hat) G H wr.drew a3 a4 c3 c4 u2 (LK.out.at hat) (hr2.kept hdr') (hr3.kept hdr'));subst ha ha';obtain ⟨y,hy⟩:∃ y,cN t2 u2=y:=⟨_,rfl⟩;rw [hy] at C EN;have CELLS:=aA (p:=∀ w',Below wr.heap.size wr w'->(w'.cell? ⟨w.heap.size,3,none⟩=some (.slice (some ⟨b,off,none⟩) t.ks.len c)/\w'.cell? ⟨w.heap.size+1,3,none⟩=some (.slice (some ⟨b',off',none⟩) t.ks.len c2)/\w'.cell? ⟨b,off+k*4,none⟩=some (.string t2.op)/\w'.cell? ⟨b,off+k*4+1,none⟩=some (.string t2.nm)/\w'.cell? ⟨b,off+k*4+2,none⟩=some (.int .i64 t2.n)/\w'.cell? ⟨b,off+k*4+3,none⟩=some (.slice a3 t2.ks.len c3)/\w'.cell? ⟨b',off'+k*4,none⟩=some (.string u2.op)/\w'.cell? ⟨b',off'+k*4+1,none⟩=some (.string u2.nm)/\w'.cell? ⟨b',off'+k*4+2,none⟩=some (.int .i64 u2.n)/\w'.cell? ⟨b',off'+k*4+3,none⟩=some (.slice a4 u2.ks.len c4))) (fun w' h=>⟨(h.cell (aG hN.out)).trans m3,(h.cell (aG hM.out)).trans q3,(h.cell hbl).trans p0,(h.cell hbl).trans p1,(h.cell hbl).trans p2,(h.cell hbl).trans p3,(h.cell hbl').trans p4,(h.cell hbl').trans p5,(h.cell hbl').trans p6,(h.cell hbl').trans p7⟩);clear hat hdr hau hdu hr2 hr3 hy hdr'
              go_wp2_with fail
              go_region_held3 (fun w'=>w'.cell? ⟨w.heap.size,3,none⟩=some (.slice (some ⟨b,off,none⟩) t.ks.len c)/\w'.cell? ⟨w.heap.size+1,3,none⟩=some (.slice (some ⟨b',off',none⟩) t.ks.len c2)/\w'.cell? ⟨b,off+k*4,none⟩=some (.string t2.op)/\w'.cell? ⟨b,off+k*4+1,none⟩=some (.string t2.nm)/\w'.cell? ⟨b,off+k*4+2,none⟩=some (.int .i64 t2.n)/\w'.cell? ⟨b,off+k*4+3,none⟩=some (.slice a3 t2.ks.len c3)/\w'.cell? ⟨b',off'+k*4,none⟩=some (.string u2.op)/\w'.cell? ⟨b',off'+k*4+1,none⟩=some (.string u2.nm)/\w'.cell? ⟨b',off'+k*4+2,none⟩=some (.int .i64 u2.n)/\w'.cell? ⟨b',off'+k*4+3,none⟩=some (.slice a4 u2.ks.len c4)) (first | exact ⟨m3,q3,p0,p1,p2,p3,p4,p5,p6,p7⟩ | exact CELLS.out _ B2.out) (first
               | (go_at_call 42
                  with_reducible refine C.out.mono ?_
                  rintro e w2 ⟨rfl,hb⟩;have B2:=aA ((bK wr).trans hb);clear hb)
               | fail)
              have hz:=hB.out.size;have N2:=aA ((B2.out.block _ (aG hN.out)).trans hN.out);have M2:=aA ((B2.out.block _ (aG hM.out)).trans hM.out);have B3:=aA (hB.out.trans (B2.out.mono hz));clear B2 C CELLS m0 m1 m2 m3 q0 q1 q2 q3 p0 p1 p2 p3 p4 p5 p6 p7;cases y with
              | true =>
                have EN2:=aA ((Bool.true_and _).symm.trans EN.out);clear EN;go_wp2_with fail
                go_roundw
                case rel=>exact ⟨k+1,by go_num,by omega,EN2,B3,N2,M2⟩
                case measure=>simp [intOf];omega
              | false =>
                have RR:=aA (show false=r from (Bool.false_and _).symm.trans EN.out);clear EN;go_wp2_with fail
                go_ret;rw [RR.out];exact ⟨rfl,B3.out⟩
            · have RR:=aA (show true=r by rw [<- hE.out,F.drop_len _ _ (by omega),F.drop_len _ _ (by rw [HL.out];omega)];rfl)
              go_wp2_with fail
              go_ret;rw [RR.out];exact ⟨rfl,hB.out⟩
         | false =>
           have RR:=aA (show false=r by rw [<- hR];simp [bne,h4]);clear hR;go_enter Tryz.func42,Tryz.ntmps42
           go_wp2_with fail
           go_ret;rw [RR.out];exact ⟨rfl,B0.out⟩
       | false =>
         have H0:=aA (show eA (t.ks.drop 0) (uks.drop 0)=r by rw [F.drop_zero,F.drop_zero, <- hR];simp);clear hR;go_enter Tryz.func42,Tryz.ntmps42
         go_wp2_with fail
         generalize (w.alloc (ndO t.op t.nm t.n a t.ks.len c)).alloc (ndO t.op um un a2 t.ks.len c2)=W at NB0 NB1 B0 |-
         go_loopw [5] (fun i wr=>∃ (k:Nat),i=.int .i64 k/\k<=t.ks.len/\Hid (eA (t.ks.drop k) (uks.drop k)=r)/\Hid (Below w.heap.size w wr)/\Hid (wr.heap[w.heap.size]? = some (ndO t.op t.nm t.n a t.ks.len c))/\Hid (wr.heap[w.heap.size+1]? = some (ndO t.op um un a2 t.ks.len c2))) (fun i _=>t.ks.len-(intOf i).toNat)
         case atStart=>exact ⟨0,rfl,Nat.zero_le _,H0,B0,NB0,NB1⟩
         case round =>
          obtain ⟨k,rfl,hk,hE,hB,hN,hM⟩:=hrel;obtain ⟨⟨m0,m1,m2,m3⟩, -⟩:=aK hN.out;obtain ⟨⟨q0,q1,q2,q3⟩, -⟩:=aK hM.out;by_cases hlt:k<t.ks.len
          · obtain ⟨t2,hat,hdr⟩:=dN hlt
            obtain ⟨u2,hau,hdu⟩:=dN (show k<uks.len by rw [HL.out];exact hlt);obtain ⟨b,off,a3,c3,ha,hG,hbl,⟨p0,p1,p2,p3⟩,hr2⟩:=cR (R.out.kept hB.out) hat;obtain ⟨b',off',a4,c4,ha',hG',hbl',⟨p4,p5,p6,p7⟩,hr3⟩:=cR (R2.out.kept hB.out) hau;have EN:=aA (show (cN t2 u2 && eA (t.ks.drop (k+1)) (uks.drop (k+1)))=r from (qK hdr hdu).symm.trans hE.out);have hdr':Below wr.heap.size wr wr.drew:=⟨rfl,rfl,rfl,Nat.le_refl _,fun _ _=>rfl⟩;have C:=aA ((eO.at IH.out hat) G H wr.drew a3 a4 c3 c4 u2 (LK.out.at hat) (hr2.kept hdr') (hr3.kept hdr'));subst ha ha';obtain ⟨y,hy⟩:∃ y,cN t2 u2=y:=⟨_,rfl⟩;rw [hy] at C EN;have CELLS:=aA (p:=∀ w',Below wr.heap.size wr w'->(w'.cell? ⟨w.heap.size,3,none⟩=some (.slice (some ⟨b,off,none⟩) t.ks.len c)/\w'.cell? ⟨w.heap.size+1,3,none⟩=some (.slice (some ⟨b',off',none⟩) t.ks.len c2)/\w'.cell? ⟨b,off+k*4,none⟩=some (.string t2.op)/\w'.cell? ⟨b,off+k*4+1,none⟩=some (.string t2.nm)/\w'.cell? ⟨b,off+k*4+2,none⟩=some (.int .i64 t2.n)/\w'.cell? ⟨b,off+k*4+3,none⟩=some (.slice a3 t2.ks.len c3)/\w'.cell? ⟨b',off'+k*4,none⟩=some (.string u2.op)/\w'.cell? ⟨b',off'+k*4+1,none⟩=some (.string u2.nm)/\w'.cell? ⟨b',off'+k*4+2,none⟩=some (.int .i64 u2.n)/\w'.cell? ⟨b',off'+k*4+3,none⟩=some (.slice a4 u2.ks.len c4))) (fun w' h=>⟨(h.cell (aG hN.out)).trans m3,(h.cell (aG hM.out)).trans q3,(h.cell hbl).trans p0,(h.cell hbl).trans p1,(h.cell hbl).trans p2,(h.cell hbl).trans p3,(h.cell hbl').trans p4,(h.cell hbl').trans p5,(h.cell hbl').trans p6,(h.cell hbl').trans p7⟩);clear hat hdr hau hdu hr2 hr3 hy hdr'
            go_wp2_with fail
            go_region_held3 (fun w'=>w'.cell? ⟨w.heap.size,3,none⟩=some (.slice (some ⟨b,off,none⟩) t.ks.len c)/\w'.cell? ⟨w.heap.size+1,3,none⟩=some (.slice (some ⟨b',off',none⟩) t.ks.len c2)/\w'.cell? ⟨b,off+k*4,none⟩=some (.string t2.op)/\w'.cell? ⟨b,off+k*4+1,none⟩=some (.string t2.nm)/\w'.cell? ⟨b,off+k*4+2,none⟩=some (.int .i64 t2.n)/\w'.cell? ⟨b,off+k*4+3,none⟩=some (.slice a3 t2.ks.len c3)/\w'.cell? ⟨b',off'+k*4,none⟩=some (.string u2.op)/\w'.cell? ⟨b',off'+k*4+1,none⟩=some (.string u2.nm)/\w'.cell? ⟨b',off'+k*4+2,none⟩=some (.int .i64 u2.n)/\w'.cell? ⟨b',off'+k*4+3,none⟩=some (.slice a4 u2.ks.len c4)) (first | exact ⟨m3,q3,p0,p1,p2,p3,p4,p5,p6,p7⟩ | exact CELLS.out _ B2.out) (first
             | (go_at_call 42
                with_reducible refine C.out.mono ?_
                rintro e w2 ⟨rfl,hb⟩;have B2:=aA ((bK wr).trans hb);clear hb)
             | fail)
            have hz:=hB.out.size;have N2:=aA ((B2.out.block _ (aG hN.out)).trans hN.out);have M2:=aA ((B2.out.block _ (aG hM.out)).trans hM.out);have B3:=aA (hB.out.trans (B2.out.mono hz));clear B2 C CELLS m0 m1 m2 m3 q0 q1 q2 q3 p0 p1 p2 p3 p4 p5 p6 p7;cases y with
            | true =>
              have EN2:=aA ((Bool.true_and _).symm.trans EN.out);clear EN;go_wp2_with fail
              go_roundw
              case rel=>exact ⟨k+1,by go_num,by omega,EN2,B3,N2,M2⟩
              case measure=>simp [intOf];omega
            | false =>
              have RR:=aA (show false=r from (Bool.false_and _).symm.trans EN.out);clear EN;go_wp2_with fail
              go_ret;rw [RR.out];exact ⟨rfl,B3.out⟩
          · have RR:=aA (show true=r by rw [<- hE.out,F.drop_len _ _ (by omega),F.drop_len _ _ (by rw [HL.out];omega)];rfl)
            go_wp2_with fail
            go_ret;rw [RR.out];exact ⟨rfl,hB.out⟩
   · have RR:=aA (show false=r by rw [<- hR];simp [h2])
     clear hR;go_enter Tryz.func42,Tryz.ntmps42
     go_wp2_with fail
     go_ret;rw [RR.out];exact ⟨rfl,B0.out⟩
theorem jG (t:TN):Cs t:=lG DH t
end
section
open Go.RowKit
end
section
open Go.RowKit
theorem bT {o:ByteArray} {x:List UInt8} (h:(o.data.toList == x)=true):(o.toList == x)=true:=by rw [Lib.toList_data];exact h
theorem aM {o:ByteArray} {x:List UInt8} (h:(o.data.toList == x)=false):(o.toList == x)=false:=by rw [Lib.toList_data];exact h
end
section
open Go.RowKit
theorem Lg:(Tryz.prog.info? 9).map (fun i=>(i.zero,i.size,i.bytes))=some (some (.string ⟨#[]⟩),1,16):=by kernel_rfl
def j6 (w:World):Prop:=∃ t f,w.heap[1]? = some (.cells (Lib.pow10Tab.map fun z=>Value.int .u64 z).toArray t f)
theorem tX (n:Int) (h0: -9223372036854775808<=n) (h1:n<=9223372036854775807) (w:World) (hw:j6 w) :
 Calls Tryz.prog 100 #[.int .i64 n,.int .i64 10] w fun e w'=>e=.returned (.string ⟨(Lib.itoa n).toArray⟩)/\Below w.heap.size w w':=by
 obtain ⟨t,f,h2⟩:=hw;refine (Tryz.strconv_FormatInt_10 n h0 h1 w (AY (by kernel_rfl) h2)).mono ?_;rintro e w' ⟨rfl,k,os,rfl⟩;exact ⟨rfl,Lib.below_grow _ _ (Nat.le_refl _) _ _⟩
inductive OkI:TN->Prop
 | num (o m:ByteArray) (n:Int):bY o=true->0<=n->n<=9223372036854775807->OkI ⟨o,m,n,.nil⟩
 | name (o m:ByteArray) (n:Int):bY o=false->bN o=true->eM m.data.toList=true->OkI ⟨o,m,n,.nil⟩
 | neg (o m:ByteArray) (n:Int) (a:TN):bY o=false->bN o=false->fP o=true->OkI a->OkI ⟨o,m,n,a.f⟩
 | two (o m:ByteArray) (n:Int) (a b:TN):bY o=false->bN o=false->fP o=false->k8 o=true->OkI a->OkI b->OkI ⟨o,m,n,.cons a.op a.nm a.n a.ks b.f⟩
theorem Bl (t:TN) (h:OkT t) (hn:eV t.f):OkI t :=
 lH (P:=OkI) (fun o m n a b c=>.num o m n a b c) (fun o m n a b c=>.name o m n a b c) (fun o m n t a b c ih=>.neg o m n t a b c ih) (fun o m n t u a b c d ih iu=>.two o m n t u a b c d ih iu) t h hn
def Hu (t:TN):Prop:=OkI t/\(bU t).length<=4000
theorem KV {t t2:TN} {j:Nat} (h:Hu t) (hj:t.ks.at j=some t2):Hu t2:=by
 obtain ⟨h,hl⟩:=h;cases h with
 | num o m n _ _ _=>cases hj
 | name o m n _ _ _=>cases hj
 | neg o m n a h1 h2 h3 h4 =>
   match j,hj with
   | 0, hj =>
     have:a=t2:=Option.some.inj hj;subst this;rw [(sS a h1 h2 h3).1,List.length_cons] at hl;exact ⟨h4,by omega⟩
   | j+1,hj=>cases hj
 | two o m n a b h1 h2 h3 h4 h5 h6 =>
   rw [(sR a b h1 h2 h3).1] at hl;simp only [List.length_cons,List.length_append,List.length_nil] at hl;match j,hj with
   | 0, hj =>
     have:a=t2:=Option.some.inj hj;subst this;exact ⟨h5,by omega⟩
   | 1, hj =>
     have:b=t2:=Option.some.inj hj;subst this;exact ⟨h6,by omega⟩
   | j+2,hj=>cases hj
def WdT (lb:Nat) (w:World):Prop:=j6 w/\lb ≠ 1
theorem wdT {w w':World} {lb:Nat} (h:WdT lb w) (hk:aE (· = lb) w w'):WdT lb w':=by
 obtain ⟨⟨t,f,h1⟩,h2⟩:=h;exact ⟨⟨t,f,hk.heap h1 (fun e=>h2 e.symm)⟩,h2⟩
def mC (_:Nat->Prop) (_:World) (t:TN) (v:Value):Prop:=v=.string ⟨(bU t).toArray⟩
theorem kO {G H:Nat->Prop} {w:World} {t:TN} {v:Value} (h:mC G w t v) (_:∀ b,b<w.heap.size->G b->H b):mC H w t v:=h
theorem lL {S G:Nat->Prop} {w w':World} {t:TN} {v:Value} (h:mC G w t v) (_:aE S w w') (_:∀ k,S k->¬ G k):mC G w' t v:=h
theorem JQ {G:Nat->Prop} {w:World} {t:TN} {v:Value} (h:mC G w t v):∃ z,v=.string z:=⟨_,h⟩
theorem Lt {G:Nat->Prop} {w:World} {t:TN} {v:Value} (h:mC G w t v):v.oneCell'=true:=by rw [h];rfl
theorem IK (t:TN) (w:World) (G:Nat->Prop) (a:Option Addr) (c:Nat) (va:Option Addr) (vc:Nat) (vs:List Value) (base:Nat) (hpre:Hu t) {lb:Nat} (hwd:WdT lb w) (_:aH G w a t.ks) (ho:w.ownsRow base 9 1 (.slice va t.ks.len vc) t.ks.len vs)
 (hv:∀ j t2,t.ks.at j=some t2->∃ v,vs[j]? = some v/\mC (fun b=>base<=b/\(Value.slice va t.ks.len vc).ownBlock ≠ some b) w t2 v) :
 Calls Tryz.prog 102 #[bB t.op t.nm t.n a t.ks.len c,.slice va t.ks.len vc] w fun e w'=>∃ v,e=.returned v/\mC (fun b=>w.heap.size<=b) w' t v/\Below w.heap.size w w':=by
 have BA:=(Below.refl w.heap.size w).alloc (Nat.le_refl _) (ndG t.op t.nm t.n a t.ks.len c);have NB:=heap_alloc_new w (ndG t.op t.nm t.n a t.ks.len c);have O1:=aA (bR ho BA)
 have LT:j6 (w.alloc (ndG t.op t.nm t.n a t.ks.len c)):=by
  obtain ⟨⟨t',f,h1⟩,_⟩:=hwd;exact ⟨t',f,(BA.block _ (Array.getElem?_eq_some_iff.1 h1).1).trans h1⟩
 generalize hW:w.alloc (ndG t.op t.nm t.n a t.ks.len c)=W at BA NB O1 LT;have HW:=aA hW;have HB:=aA BA;have HLT:=aA LT;have hzw:=BA.size;have KO:=aA (fun w=>lV t.op w);have P:=aA (p:=∀ s:ByteArray,s=⟨(bU t).toArray⟩->∀ W',Below w.heap.size w W'->∃ v,Ending.returned (.string s)=.returned v/\mC (fun b=>w.heap.size<=b) W' t v/\Below w.heap.size w W') (fun s hs W' hb=>⟨_,rfl,by rw [hs];rfl,hb⟩);obtain ⟨hi,hl⟩:=hpre;clear hW BA ho LT hwd;cases hi with
 | num o m n h1 h0 h9 =>
   have g1:=bT h1;unfold l5 at g1;have ha:bI o=0:=by unfold bI;rw [h1];rfl
   have hE:=(yU (m:=m) (n:=n) (ks:=.nil) h1).1;have C:=aA (tX n (by omega) h9 W HLT.out);have P2:=aA (P.out ⟨(Lib.itoa n).toArray⟩ (by rw [hE]));obtain ⟨⟨m0,m1,m2,m3⟩, -⟩:=aK NB;dsimp only at *;rw [ha] at KO;rw [show F.nil.len=0 from rfl] at *;clear P hE ha h1 h0 h9 hl hv NB;go_enter Tryz.func102,Tryz.ntmps102
   go_upto_region 1 with fail
   rw [HW.out];go_upto_region 5 with (go_at_call 147;refine (KO.out _).mono ?_;rintro e w' ⟨rfl,rfl⟩)
   go_wp2_with fail
   refine C.out.mono ?_;rintro e w1 ⟨rfl,hb⟩;have P3:=aA (P2.out w1 (HB.out.trans (hb.mono hzw)));clear hb;go_wp2_with fail
   go_ret;exact P3.out
 | name o m n h1 h2 h3 =>
   have g1:=aM h1;have g2:=bT h2;unfold l5 at g1;unfold iQ at g2;have ha:bI o=0:=by unfold bI;rw [h1,h2];rfl
   have hE:=(vF (m:=m) (n:=n) (ks:=.nil) h1 h2).1;have P2:=aA (P.out m (by rw [hE]) W HB.out);obtain ⟨⟨m0,m1,m2,m3⟩, -⟩:=aK NB;dsimp only at *;rw [ha] at KO;rw [show F.nil.len=0 from rfl] at *;clear P hE ha h1 h2 h3 hl hv NB;go_enter Tryz.func102,Tryz.ntmps102
   go_upto_region 1 with fail
   rw [HW.out];go_wp2_with (go_at_call 147;refine (KO.out _).mono ?_;rintro e w' ⟨rfl,rfl⟩)
   go_ret;exact P2.out
 | neg o m n t1 h1 h2 h3 h4 =>
   have g1:=aM h1;have g2:=aM h2;have g3:=bT h3;unfold l5 at g1;unfold iQ at g2;unfold iI at g3;have ha:bI o=1:=by unfold bI;rw [h1,h2,h3];rfl
   have hE:=(sS (m:=m) (n:=n) t1 h1 h2 h3).1;rw [hE,List.length_cons] at hl;obtain ⟨v,hv0,hvr⟩:=hv 0 t1 rfl;unfold mC at hvr;subst hvr;obtain ⟨g,cc,hva, -, -,hcs⟩:=dG O1.out (by show (1:Nat) ≠ 0;decide);have hx:=hcs 0 _ hv0;obtain ⟨S,hS⟩:∃ S:ByteArray,⟨(bU t1).toArray⟩=S:=⟨_,rfl⟩;have hSz:S.size<=4000:=by rw [<- hS];show (bU t1).toArray.size<=_;rw [List.size_toArray];omega
   have P2:=aA (P.out (⟨#[45]⟩++S) (by rw [hE, <- hS];exact gW (by simp)) W HB.out);rw [hS] at hx;obtain ⟨⟨m0,m1,m2,m3⟩, -⟩:=aK NB;dsimp only at *;rw [ha] at KO;have h1l:t1.f.len=1:=rfl;rw [h1l] at HW m3 hva |-
   simp only [Value.slice.injEq,true_and] at hva;obtain ⟨rfl,rfl⟩:=hva;clear P hE ha h1 h2 h3 h4 hl hv NB hv0 hcs hS h1l;go_enter Tryz.func102,Tryz.ntmps102
   go_upto_region 1 with fail
   rw [HW.out];go_wp2_with (go_at_call 147;refine (KO.out _).mono ?_;rintro e w' ⟨rfl,rfl⟩)
   go_ret;exact P2.out
 | two o m n t1 t2 h1 h2 h3 h4 h5 h6 =>
   have g1:=aM h1;have g2:=aM h2;have g3:=aM h3;unfold l5 at g1;unfold iQ at g2;unfold iI at g3;have ha:bI o=2:=by unfold bI;rw [h1,h2,h3,h4];rfl
   have hos:o.size=1:=by
    obtain ⟨_,x,hx,_⟩:=yP h4;have:o.data.toList.length=1:=by rw [hx];rfl
    rw [<- this];simp
   have hE:=(sR (m:=m) (n:=n) t1 t2 h1 h2 h3).1;rw [hE] at hl;simp only [List.length_cons,List.length_append,List.length_nil] at hl;obtain ⟨v,hv0,hvr⟩:=hv 0 t1 rfl;unfold mC at hvr;subst hvr;obtain ⟨u,hu0,hur⟩:=hv 1 t2 rfl;unfold mC at hur;subst hur;obtain ⟨g,cc,hva, -, -,hcs⟩:=dG O1.out (by show (2:Nat) ≠ 0;decide);have hx:=hcs 0 _ hv0;have hy:=hcs 1 _ hu0;obtain ⟨S,hS⟩:∃ S:ByteArray,⟨(bU t1).toArray⟩=S:=⟨_,rfl⟩;obtain ⟨V,hV⟩:∃ S:ByteArray,⟨(bU t2).toArray⟩=S:=⟨_,rfl⟩;have hSz:S.size<=4000:=by rw [<- hS];show (bU t1).toArray.size<=_;rw [List.size_toArray];omega
   have hVz:V.size<=4000:=by rw [<- hV];show (bU t2).toArray.size<=_;rw [List.size_toArray];omega
   have P2:=aA (P.out (⟨#[40]⟩++S++⟨#[32]⟩++o++⟨#[32]⟩++V++⟨#[41]⟩) (by rw [hE, <- hS, <- hV];exact gW (by simp)));have P3:=aA (fun n=>P2.out (W.drewN n) ⟨HB.out.os,HB.out.tape,HB.out.output,HB.out.size,HB.out.block⟩);rw [hS] at hx;rw [hV] at hy;have z1:(9223372036854775807<1+S.size)=False:=by rw [eq_iff_iff,iff_false];omega
   have z2:(9223372036854775807<1+S.size+1)=False:=by rw [eq_iff_iff,iff_false];omega
   have z3:(9223372036854775807<1+S.size+1+o.size)=False:=by rw [eq_iff_iff,iff_false];omega
   have z4:(9223372036854775807<1+S.size+1+o.size+1)=False:=by rw [eq_iff_iff,iff_false];omega
   have z5:(9223372036854775807<1+S.size+1+o.size+1+V.size)=False:=by rw [eq_iff_iff,iff_false];omega
   have z6:(9223372036854775807<1+S.size+1+o.size+1+V.size+1)=False:=by rw [eq_iff_iff,iff_false];omega
   obtain ⟨⟨m0,m1,m2,m3⟩, -⟩:=aK NB;dsimp only at *;rw [ha] at KO;have h1l:(F.cons t1.op t1.nm t1.n t1.ks t2.f).len=2:=rfl;rw [h1l] at HW m3 hva |-
   simp only [Value.slice.injEq,true_and] at hva;obtain ⟨rfl,rfl⟩:=hva;clear P P2 hE ha h1 h2 h3 h4 h5 h6 hl hv NB hv0 hu0 hcs hS hV h1l hos;go_enter Tryz.func102,Tryz.ntmps102
   go_upto_region 1 with fail
   rw [HW.out];go_upto_region 10 with (go_at_call 147;refine (KO.out _).mono ?_;rintro e w' ⟨rfl,rfl⟩)
   go_wp2_with (go_quiet (fail))
   go_ret;exact P3.out _
end
section
open Go.RowKit
theorem Li:(Tryz.prog.info? 23).map (fun i=>(i.zero,i.size,i.bytes))=some (some (.slice none 0 0),1,24):=Lh
def Ct (t:TN):Prop:=OkI t/\aT t<=1000
theorem KY {t t2:TN} {j:Nat} (h:Ct t) (hj:t.ks.at j=some t2):Ct t2:=by
 obtain ⟨h,hl⟩:=h;refine ⟨?_,?_⟩
 · cases h with
   | num o m n _ _ _=>cases hj
   | name o m n _ _ _=>cases hj
   | neg o m n a h1 h2 h3 h4 =>
     match j,hj with
     | 0, hj =>
       have:a=t2:=Option.some.inj hj;subst this;exact h4
     | j+1,hj=>cases hj
   | two o m n a b h1 h2 h3 h4 h5 h6 =>
     match j,hj with
     | 0, hj =>
       have:a=t2:=Option.some.inj hj;subst this;exact h5
     | 1, hj =>
       have:b=t2:=Option.some.inj hj;subst this;exact h6
     | j+2,hj=>cases hj
 · have h1:=kK hj
   have h2:=fE t.ks j;unfold aT at hl;omega
def WdL (_:Nat) (_:World):Prop:=True
theorem wdL {w w':World} {lb:Nat} (_:WdL lb w) (_:aE (· = lb) w w'):WdL lb w':=trivial
theorem DY {t:TN} (h:OkI t):(bI t.op=0/\t.ks=.nil)\/(bI t.op ≠ 0/\0<t.ks.len):=by
 cases h with
 | num o m n h1 _ _=>left;exact ⟨by show bI o=0;unfold bI;rw [h1];rfl,rfl⟩
 | name o m n h1 h2 _=>left;exact ⟨by show bI o=0;unfold bI;rw [h1,h2];rfl,rfl⟩
 | neg o m n a h1 h2 h3 _ =>
   right;refine ⟨?_,Nat.succ_pos _⟩;show bI o ≠ 0;unfold bI;rw [h1,h2,h3];simp
 | two o m n a b h1 h2 h3 h4 _ _ =>
   right;refine ⟨?_,Nat.succ_pos _⟩;show bI o ≠ 0;unfold bI;rw [h1,h2,h3,h4];simp
theorem zY (t:TN):bZ t.f=t::(if bI t.op=0 then [] else bZ t.ks):=by
 rw [TN.f,bZ];simp [bZ]
theorem xH (w:World) (t:TN) (a:Option Addr) (c:Nat):(w.alloc (ndG t.op t.nm t.n a t.ks.len c)).ownsRow w.heap.size 25 4 (.slice (some ⟨w.heap.size,0,none⟩) 1 1) 1 (ndL t (a,c)) :=
 ⟨rfl,.inr ⟨w.heap.size,1,_,rfl,Nat.le_refl _,heap_alloc_new w _,Nat.le_refl _,by unfold maxLen;omega,rfl,rfl⟩⟩
theorem IM (t:TN) (w:World) (G:Nat->Prop) (a:Option Addr) (c:Nat) (va:Option Addr) (vc:Nat) (vs:List Value) (base:Nat) (hpre:Ct t) {lb:Nat} (_:WdL lb w) (_:aH G w a t.ks) (ho:w.ownsRow base 23 1 (.slice va t.ks.len vc) t.ks.len vs)
 (hv:∀ j t2,t.ks.at j=some t2->∃ v,vs[j]? = some v/\l7 (fun b=>base<=b/\(Value.slice va t.ks.len vc).ownBlock ≠ some b) w t2 v) :
 Calls Tryz.prog 104 #[bB t.op t.nm t.n a t.ks.len c,.slice va t.ks.len vc] w fun e w'=>∃ v,e=.returned v/\l7 (fun b=>w.heap.size<=b) w' t v/\Below w.heap.size w w':=by
 obtain ⟨i0,hi,hz0,hz1,hz2⟩:=info_parts qQ;have und:Tryz.prog.underlying 23=some (.slice 25):=Tryz.underlying23;have BA:=(Below.refl w.heap.size w).alloc (Nat.le_refl _) (ndG t.op t.nm t.n a t.ks.len c);have NB:=heap_alloc_new w (ndG t.op t.nm t.n a t.ks.len c);have hs0:(w.alloc (ndG t.op t.nm t.n a t.ks.len c)).heap.size=w.heap.size+1:=World.size_alloc _ _;have KO:=aA (fun w=>lV t.op w)
 have CC:=aA (p:=∀ V,Below w.heap.size w V->Calls Tryz.prog 149 #[.slice va t.ks.len vc] V fun e w'=>∃ v qs,e=.returned v/\qs.length=(bZ t.ks).length/\w'.ownsRow V.heap.size 25 4 v (bZ t.ks).length (eR (bZ t.ks) qs)/\Below V.heap.size V w') (fun V hV =>
  Cf t.ks va vc vs base V (bR ho hV) (by have:=hpre.2;unfold aT at this;omega) (G:=fun b=>base<=b/\(Value.slice va t.ks.len vc).ownBlock ≠ some b) (fun j t2 hj=>by
   obtain ⟨v,h1,h2⟩:=hv j t2 hj;exact ⟨v,h1,jI h2 (aF hV (fun _=>False)) (fun _ h=>h.elim)⟩))
 generalize hW:w.alloc (ndG t.op t.nm t.n a t.ks.len c)=W at BA NB hs0;have HW:=aA hW;have HB:=aA BA;have hsize:=hpre.2;obtain ⟨⟨m0,m1,m2,m3⟩, -⟩:=aK NB;have HNB:=aA NB;rcases DY hpre.1 with ⟨h0,h0k⟩ | ⟨h0,h0k⟩
 · have b1:((bI t.op:Int) == 0)=true:=by rw [h0];rfl
   have hp:bZ t.f=[t]:=by rw [zY,if_pos h0]
   have P:=(show l7 (fun b=>w.heap.size<=b) (W.alloc (ndG t.op t.nm t.n a t.ks.len c)) t (.slice (some ⟨W.heap.size,0,none⟩) 1 1)/\Below w.heap.size w (W.alloc (ndG t.op t.nm t.n a t.ks.len c)) from by
    have ob:=xH W t a c;refine ⟨⟨⟨W.heap.size,0,1,[(a,c)],by rw [hp];rfl,by omega,by rw [World.size_alloc];omega,by rw [hp];rfl,fun j u hj=>?_⟩⟩,BA.alloc (by omega) _⟩;rw [hp] at hj
    have hj2:(ndL t (a,c))[j]? = some u:=by
     have e:eR [t] [(a,c)]=ndL t (a,c):=by simp [eR]
     rw [e] at hj;exact hj
    obtain ⟨g',h1,h2⟩:=nN ob hj2;simp only [Addr.mk.injEq,and_true] at h1;subst h1;rw [Nat.zero_add];exact h2)
   rw [hs0] at P;have P:=aA P;clear hW NB BA ho hv hpre h0 h0k hp CC;go_enter Tryz.func104,Tryz.ntmps104
   go_upto_region 1 with fail
   rw [HW.out];go_wp2_with (go_at_call 147;refine (KO.out _).mono ?_;rintro e w' ⟨rfl,rfl⟩)
   go_ret;exact ⟨_,rfl,P.out.1,P.out.2⟩
 · have b1:((bI t.op:Int) == 0)=false:=by rw [beq_eq_false_iff_ne];exact h0
   have hp:bZ t.f=t::bZ t.ks:=by rw [zY,if_neg h0]
   have hpk:0<(bZ t.ks).length:=by
    cases hk:t.ks with
    | nil=>rw [hk] at h0k;simp [F.len] at h0k
    | cons o m n k r=>rw [bZ];simp
   have hpl:=pT t.ks;have hpl2:(bZ t.ks).length<=1000:=by unfold aT at hsize;omega
   have HP:=aA hp;have hpkn:(bZ t.ks).length ≠ 0:=by omega
   clear hW NB BA ho hv hpre h0 h0k hp hpl;go_enter Tryz.func104,Tryz.ntmps104
   go_upto_region 1 with fail
   rw [HW.out];go_upto_region 3 with (go_at_call 147;refine (KO.out _).mono ?_;rintro e w' ⟨rfl,rfl⟩)
   have BW1:=aA (show Below w.heap.size w (W.alloc (ndG t.op t.nm t.n a t.ks.len c)).drew from (HB.out.alloc (by omega) _ |> fun b=>⟨b.os,b.tape,b.output,b.size,b.block⟩));have ow1:(W.alloc (ndG t.op t.nm t.n a t.ks.len c)).drew.ownsRow W.heap.size 25 4 (.slice (some ⟨W.heap.size,0,none⟩) 1 1) 1 (ndL t (a,c)):=xH W t a c;rw [hs0] at ow1;have OW1:=aA ow1;clear ow1;have BW0:=aA (show Below w.heap.size w W.drew from ⟨HB.out.os,HB.out.tape,HB.out.output,HB.out.size,HB.out.block⟩);have hsz0:W.drew.heap.size=w.heap.size+1:=hs0
   have hsz1:(W.alloc (ndG t.op t.nm t.n a t.ks.len c)).drew.heap.size=w.heap.size+2:=by
    have:(W.alloc (ndG t.op t.nm t.n a t.ks.len c)).drew.heap.size=W.heap.size+1:=World.size_alloc _ _;omega
   go_region_law (first
    | (go_simp
       go_at_call 149
       refine (CC.out _ BW1.out).mono ?_;rintro e w2 ⟨v2,qs,rfl,hq,ho2,hb2⟩;obtain ⟨g2,c2,rfl, -, -,hc2⟩:=dG ho2 hpkn;have O2:=aA (bR OW1.out hb2);have HQ:=aA hq;have HB2:=aA (BW1.out.trans (hb2.mono (by omega)));have HC:=aA (p:=∀ j u,(eR (bZ t.ks) qs)[j]? = some u->w2.cell? ((⟨g2,0,none⟩:Addr).add j)=some u) (fun j u hj=>by rw [Addr.add_lit,Nat.zero_add];exact hc2 j u hj);have HLL:=aA (qA hq);have hz2w:w.heap.size+2<=w2.heap.size:=by have:=hb2.size;omega
       clear ho2 hb2 hc2 hq)
    | (refine cO rfl (.tmp 12) (.tmp 14) 23 rfl (base := w.heap.size + 1) und hi hz0 hz1 hz2 rfl (by decide) (.slice (some ⟨w.heap.size + 1, 0, none⟩) 1 1) 1 (bZ t.ks).length (ndL t (a, c)) (eR (bZ t.ks) qs) ⟨g2, 0, none⟩ c2 (by first | (simp [Act.eval]; done) | (simp [Act.eval, Act.put]; done) | fail) (by first | (simp [Act.eval]; done) | (simp [Act.eval, Act.put]; done) | fail) O2.out HLL.out HC.out (p9 _ _) (by unfold maxLen; omega) (by omega) (by omega) ?_
       intro v3 w3 ho3 hg3 _;obtain ⟨g3,c3,rfl, -, -,hc3⟩:=dG ho3 (by omega);have hb3:=(ho3.lt g3 rfl)
       have P3:=aA (show l7 (fun b=>w.heap.size<=b) w3 t (.slice (some ⟨g3,0,none⟩) (1+(bZ t.ks).length) c3) from ⟨⟨g3,0,c3,(a,c)::qs,by rw [HP.out,List.length_cons,Nat.add_comm],by omega,hb3.2,by rw [HP.out,List.length_cons,List.length_cons,HQ.out],fun j u hj=>by
        rw [HP.out,eR] at hj;rw [Nat.zero_add];exact hc3 j u hj⟩⟩)
       have B3:=aA (HB2.out.grown hg3 (by omega) (fun q hq=>by have:=(O2.out.lt q hq).1;omega));clear ho3 hg3 hc3 hb3)
    | (go_simp
       go_at_call 149
       refine (CC.out _ BW0.out).mono ?_;rintro e w2 ⟨v2,qs,rfl,hq,ho2,hb2⟩;obtain ⟨g2,c2,rfl, -, -,hc2⟩:=dG ho2 hpkn;have NB2:=hb2.block w.heap.size (by omega);have hz2w:w.heap.size+1<=w2.heap.size:=by have:=hb2.size;omega
       have y:w2.heap[w.heap.size]? = some (ndG t.op t.nm t.n a t.ks.len c):=NB2.trans HNB.out;have O2b:=aA (xH w2 t a c);have HQ:=aA hq;have HB2b:=aA ((BW0.out.trans (hb2.mono (by omega))).alloc (by omega) (ndG t.op t.nm t.n a t.ks.len c));have HCb:=aA (p:=∀ j u,(eR (bZ t.ks) qs)[j]? = some u->(w2.alloc (ndG t.op t.nm t.n a t.ks.len c)).cell? ((⟨g2,0,none⟩:Addr).add j)=some u) (fun j u hj=>by rw [Addr.add_lit,Nat.zero_add];exact Lib.cell?_alloc_some _ (hc2 j u hj));have HLL:=aA (qA hq);have hz3w:(w2.alloc (ndG t.op t.nm t.n a t.ks.len c)).heap.size=w2.heap.size+1:=World.size_alloc _ _;clear ho2 hb2 hc2 hq NB2 m0 m1 m2 m3;obtain ⟨⟨m0,m1,m2,m3⟩, -⟩:=aK y;clear y)
    | (refine cO rfl (.tmp 12) (.tmp 14) 23 rfl (base := w2.heap.size) und hi hz0 hz1 hz2 rfl (by decide) (.slice (some ⟨w2.heap.size, 0, none⟩) 1 1) 1 (bZ t.ks).length (ndL t (a, c)) (eR (bZ t.ks) qs) ⟨g2, 0, none⟩ c2 (by first | (simp [Act.eval]; done) | (simp [Act.eval, Act.put]; done) | fail) (by first | (simp [Act.eval]; done) | (simp [Act.eval, Act.put]; done) | fail) O2b.out HLL.out HCb.out (p9 _ _) (by unfold maxLen; omega) (by omega) (by rw [World.size_alloc]; omega) ?_
       intro v3 w3 ho3 hg3 _;obtain ⟨g3,c3,rfl, -, -,hc3⟩:=dG ho3 (by omega);have hb3:=(ho3.lt g3 rfl)
       have P3:=aA (show l7 (fun b=>w.heap.size<=b) w3 t (.slice (some ⟨g3,0,none⟩) (1+(bZ t.ks).length) c3) from ⟨⟨g3,0,c3,(a,c)::qs,by rw [HP.out,List.length_cons,Nat.add_comm],by have:=hb3.1;omega,hb3.2,by rw [HP.out,List.length_cons,List.length_cons,HQ.out],fun j u hj=>by
        rw [HP.out,eR] at hj;rw [Nat.zero_add];exact hc3 j u hj⟩⟩)
       have B3:=aA (HB2b.out.grown hg3 (by rw [World.size_alloc];omega) (fun q hq=>by have:=(O2b.out.lt q hq).1;omega));clear ho3 hg3 hc3 hb3)
    | fail)
   all_goals
    go_wp2_with fail
    go_ret;exact ⟨_,rfl,P3.out,B3.out⟩
end
end
section
section
open Go.RowKit
def kL:F->List TN
 | .nil=>[]
 | .cons o m n k r=>⟨o,m,n,k⟩::kL r
theorem Bz:∀ f:F,(kL f).length=f.len
 | .nil=>rfl
 | .cons o m n k r=>by rw [kL,List.length_cons,Bz r,F.len]
theorem JI:∀ {f:F} {j:Nat} {t:TN},f.at j=some t->(kL f)[j]? = some t
 | .nil,_,_,h=>by cases h
 | .cons o m n k r, 0, t, h => by
   have:(⟨o,m,n,k⟩:TN)=t:=Option.some.inj h;rw [kL, <- this];rfl
 | .cons o m n k r,j+1,t,h=>JI (f:=r) h
theorem I1 {f:F} {k:Nat} {t:TN} (h:f.at k=some t):(kL f).take (k+1)=(kL f).take k++[t]:=by
 have h1:=JI h;obtain ⟨hlt,e⟩:=List.getElem?_eq_some_iff.1 h1;rw [List.take_succ_eq_append_getElem hlt,e]
theorem Az {G:Nat->Prop} {w:World} {t:TN} {p:Option Addr×Nat}:∀ {l:List TN} {q:List (Option Addr×Nat)},DnK G w l q->aH G w p.1 t.ks->DnK G w (l++[t]) (q++[p])
 | [],[],_,h=>⟨h,trivial⟩
 | _::_,_::_,h,h2=>⟨h.1,Az h.2 h2⟩
 | [],_::_,h,_=>h.elim
 | _::_,[],h,_=>h.elim
theorem rF {G:Nat->Prop} {w:World} {g:Nat} (hG:G g) (hlt:g<w.heap.size):∀ {f:F} {q:List (Option Addr×Nat)} {off:Nat},(∀ j u,(eR (kL f) q)[j]? = some u->w.cell? ⟨g,off+j,none⟩=some u)->DnK G w (kL f) q->dT G w f g off
 | .nil,_,_,_,_=>trivial
 | .cons o m n k r,[],_,_,hd=>hd.elim
 | .cons o m n k r, p :: q, off, hc, hd => by
   refine nI (t:=⟨o,m,n,k⟩) (q:=p) hG hlt (fun j u hj=>?_) hd.1 (rF hG hlt (q:=q) (off:=off+4) (fun j u hj=>?_) hd.2)
   · have hj4:j<4:=(List.getElem?_eq_some_iff.1 hj).1
     refine hc j u ?_;rw [kL,eR,List.getElem?_append_left (by exact hj4)];exact hj
   · have h:=hc (4+j) u (by
      rw [kL,eR,List.getElem?_append_right (by show 4<=_;omega),show 4+j-(ndL ⟨o,m,n,k⟩ p).length=j by show 4+j-4=j;omega];exact hj)
     rw [<- Nat.add_assoc] at h;exact h
def Hw (t:TN):Prop:=∀ (G:Nat->Prop) (w:World) (a:Option Addr) (c:Nat),aT t<=1000->aH G w a t.ks->Calls Tryz.prog 41 #[bB t.op t.nm t.n a t.ks.len c] w fun e w'=>∃ a2 c2,e=.returned (bB t.op t.nm t.n a2 t.ks.len c2)/\a7 w.heap.size w' a2 t.ks/\Below w.heap.size w w'
theorem In:(Tryz.prog.info? 34).map (fun i=>(i.zero,i.size,i.bytes))=some (some (.agg #[.string ⟨#[]⟩,.string ⟨#[]⟩,.int .i64 0,.slice none 0 0]),4,64):=by kernel_rfl
theorem JY (w:World) (t:TN) (a:Option Addr) (c:Nat):∀ j u,(ndL t (a,c))[j]? = some u->(w.alloc (ndO t.op t.nm t.n a t.ks.len c)).cell? ((⟨w.heap.size,0,none⟩:Addr).add j)=some u:=fun j u hj=>by
 have e:ndL t (a,c)=(#[.string t.op,.string t.nm,.int .i64 t.n,.slice a t.ks.len c]:Array Value).toList:=rfl;rw [e] at hj;rw [Addr.add_lit,Nat.zero_add,cell_of_row _ _ _ _ _ (0,0) (heap_alloc_new w _)];simpa using hj
theorem BQ {W:World} {B:Nat} {x0 x1 x2 x3:Value} {t:TypeId} (h:W.heap[B]? = some (.cells #[x0,x1,x2,x3] t (0,0))) (u:Value):(W.setCell ⟨B,3,none⟩ u).heap[B]? = some (.cells #[x0,x1,x2,u] t (0,0)):=by
 have:=heap_setCell_same W B 3 _ t u h;simpa using this
structure LO (w:World) (t:TN) (a:Option Addr) (c:Nat) (k:Nat) (va:Option Addr) (vc:Nat) (q:List (Option Addr×Nat)) (V:World):Prop where
 b:Below w.heap.size w V
 bx:V.heap[w.heap.size]? = some (ndG t.op t.nm t.n a t.ks.len c)
 rs:V.heap[w.heap.size+1]? = some (ndO ⟨#[]⟩ ⟨#[]⟩ 0 none 0 0)
 x:V.heap[w.heap.size+2]? = some (ndO t.op t.nm t.n va k vc)
 o:V.ownsRow (w.heap.size+3) 34 4 (.slice va k vc) k (eR ((kL t.ks).take k) q)
 ql:q.length=k
 d:DnK (fun b=>w.heap.size+3<=b/\(Value.slice va k vc).ownBlock ≠ some b) V ((kL t.ks).take k) q
 z:w.heap.size+3<=V.heap.size
theorem Gg (t:TN) (ih:eO Hw t.ks):Hw t:=by
 intro G w a c hs hr;obtain ⟨i0,hi,hz0,hz1,hz2⟩:=info_parts In;have und:Tryz.prog.underlying 32=some (.slice 34):=Tryz.underlying32;have hlen:=kW t.ks;have hsz:aT t=1+cG t.ks:=rfl;have IH:=aA ih;have R:=aA hr;have B1:=(Below.refl w.heap.size w).alloc (Nat.le_refl _) (ndG t.op t.nm t.n a t.ks.len c);have N1:=heap_alloc_new w (ndG t.op t.nm t.n a t.ks.len c);have s1:(w.alloc (ndG t.op t.nm t.n a t.ks.len c)).heap.size=w.heap.size+1:=World.size_alloc _ _;generalize hV1:w.alloc (ndG t.op t.nm t.n a t.ks.len c)=V1 at B1 N1 s1;have B2:=(Below.refl V1.heap.size V1).alloc (Nat.le_refl _) (ndO ⟨#[]⟩ ⟨#[]⟩ 0 none 0 0);have N2:=heap_alloc_new V1 (ndO ⟨#[]⟩ ⟨#[]⟩ 0 none 0 0);have s2:(V1.alloc (ndO ⟨#[]⟩ ⟨#[]⟩ 0 none 0 0)).heap.size=w.heap.size+2:=by rw [World.size_alloc];omega
 generalize hV2:V1.alloc (ndO ⟨#[]⟩ ⟨#[]⟩ 0 none 0 0)=V2 at B2 N2 s2;have B3:=(Below.refl V2.heap.size V2).alloc (Nat.le_refl _) (ndO t.op t.nm t.n none 0 0);have N3:=heap_alloc_new V2 (ndO t.op t.nm t.n none 0 0);have s3:(V2.alloc (ndO t.op t.nm t.n none 0 0)).heap.size=w.heap.size+3:=by rw [World.size_alloc];omega
 generalize hV3:V2.alloc (ndO t.op t.nm t.n none 0 0)=V3 at B3 N3 s3;rw [s1] at N2;rw [s2] at N3;have L0:=aA (show LO w t a c 0 none 0 [] V3 from ⟨(B1.trans (B2.mono (by omega))).trans (B3.mono (by omega)),(B3.block _ (by omega)).trans ((B2.block _ (by omega)).trans N1),(B3.block _ (by omega)).trans N2,N3,World.ownsRow_nil _ _ _ _,rfl,trivial,by omega⟩);have HV1:=aA hV1;have HV2:=aA hV2;have HV3:=aA hV3;have HZ2:=aA s2;obtain ⟨⟨m0,m1,m2,m3⟩, -⟩:=aK ((B2.block _ (by omega)).trans N1);clear hV1 hV2 hV3 B1 B2 B3 N1 N2 N3 hr ih s1 s2 s3;go_enter Tryz.func41,Tryz.ntmps41
 go_upto_region 1 with fail
 rw [HV1.out,HV2.out];go_upto_region 2 with fail
 rw [HV3.out,HZ2.out];clear m0 m1 m2 m3;go_wp2_with fail
 go_loopw [4] (fun i wr=>∃ (k:Nat) (va:Option Addr) (vc:Nat) (q:List (Option Addr×Nat)),i=.int .i64 k/\k<=t.ks.len/\Hid (LO w t a c k va vc q wr)) (fun i _=>t.ks.len-(intOf i).toNat)
 case atStart=>exact ⟨0,none,0,[],rfl,Nat.zero_le _,L0⟩
 case round =>
  obtain ⟨k,va,vc,q,rfl,hk,hL⟩:=hrel;obtain ⟨⟨m0,m1,m2,m3⟩, -⟩:=aK hL.out.bx;obtain ⟨⟨x0,x1,x2,x3⟩,y0,y1,y2,y3⟩:=aK hL.out.x;by_cases hlt:k<t.ks.len
  · obtain ⟨t2,hat, -⟩:=dN hlt
    have hsd:=kK hat;have hdl:=fE t.ks k;obtain ⟨b,off,a2,c2,ha,hGb,hbl,⟨p0,p1,p2,p3⟩,hr2⟩:=cR (R.out.kept hL.out.b) hat;subst ha;have CI:=aA ((eO.at IH.out hat) G wr.drew a2 c2 (by omega) (hr2.kept ⟨rfl,rfl,rfl,Nat.le_refl _,fun _ _=>rfl⟩));have HT:=aA (I1 hat);have HTL:((kL t.ks).take k).length=k:=by rw [List.length_take,Bz];omega
    have a1:(k:Int)<(t.ks.len:Int):=by omega
    have a2':(0:Int)<=(k:Int):=by omega
    have a3:((k:Int)).toNat=k:=by omega
    have hk9:k+1<=1000:=by omega
    clear hat hr2 hGb;go_wp2_with fail
    go_region_law (first
     | (go_simp
        go_at_call 41
        refine CI.out.mono ?_;rintro e w2 ⟨a4,c4,rfl,hr4,hb4⟩;have hb5:Below wr.heap.size wr w2:=⟨hb4.os,hb4.tape,hb4.output,hb4.size,hb4.block⟩;have hz4:w.heap.size+3<=w2.heap.size:=Nat.le_trans hL.out.z hb4.size;have X2:=(hb5.block _ (Array.getElem?_eq_some_iff.1 hL.out.x).1).trans hL.out.x;have HB5:=aA hb5;have HR4:=aA hr4;have O2:=aA ((bR hL.out.o hb5).alloc (ndO t2.op t2.nm t2.n a4 t2.ks.len c4));clear x0 x1 x2 x3 y0 y1 y2 y3 hb4 hr4 hb5;obtain ⟨⟨x0,x1,x2,x3⟩,y0,y1,y2,y3⟩:=aK X2;have X2a:=(((Below.refl w2.heap.size w2).alloc (Nat.le_refl _) (.cells #[.string t2.op,.string t2.nm,.int .i64 t2.n,.slice a4 t2.ks.len c4] 34)).block _ (Array.getElem?_eq_some_iff.1 X2).1).trans X2;obtain ⟨⟨u0,u1,u2,u3⟩, -⟩:=aK X2a;clear X2 X2a)
     | (refine cO rfl (.tmp 20) (.tmp 27) 32 rfl (base := w.heap.size + 3) und hi hz0 hz1 hz2 rfl (by decide) (.slice va k vc) k 1 (eR ((kL t.ks).take k) q) (ndL t2 (a4, c4)) ⟨w2.heap.size, 0, none⟩ 1 (by first | (simp [Act.eval]; done) | (simp [Act.eval, Act.put]; done) | fail) (by first | (simp [Act.eval]; done) | (simp [Act.eval, Act.put]; done) | fail) O2.out rfl (JY w2 t2 a4 c4) (j0 _ _) (by unfold maxLen; omega) (by omega) (by rw [World.size_alloc]; omega) ?_
        intro v3 w3 ho3 hg3 hq3;obtain ⟨va3,vc3,rfl⟩:=dF ho3;have kg:aE (fun b=>(Value.slice va k vc).ownBlock=some b) w2 w3:=((aE.refl _ w2).alloc _).grown hg3 (fun q hq=>.inl hq);have hov:∀ b,(Value.slice va k vc).ownBlock=some b->w.heap.size+3<=b/\b<w2.heap.size:=fun b hb=>by have h1:=(hL.out.o.lt b hb);have:=HB5.out.size;omega
        have X3:=kg.heap ((HB5.out.block _ (Array.getElem?_eq_some_iff.1 hL.out.x).1).trans hL.out.x) (fun e=>by have:=hov _ e;omega);have ks:=(aE.refl (· = w.heap.size+2) w3).setCell (p:=⟨w.heap.size+2,3,none⟩) (.inl rfl) (.slice va3 (k+1) vc3)
        have hnb:∀ b,b<w2.heap.size->(Value.slice va k vc).ownBlock ≠ some b->(Value.slice va3 (k+1) vc3).ownBlock ≠ some b:=fun b hb hne e=>by
         rcases hq3 b e with h1 | h1
         · exact hne h1
         · rw [World.size_alloc] at h1;omega
        have D2:DnK (fun b=>(w.heap.size+3<=b/\(Value.slice va k vc).ownBlock ≠ some b)/\(Value.slice va3 (k+1) vc3).ownBlock ≠ some b) w2 ((kL t.ks).take k++[t2]) (q++[(a4,c4)]):=Az ((hL.out.d.keptS (aF HB5.out (fun _=>False)) (fun _ h=>h.elim)).imp (fun b hb hg=>⟨hg,hnb b hb hg.2⟩)) (HR4.out.imp (fun b hb hg=>by
         have hg':wr.heap.size<=b:=hg;have hz:=hL.out.z;have hne:(Value.slice va k vc).ownBlock ≠ some b:=fun e=>by have:=(hL.out.o.lt b e).2;omega
         exact ⟨⟨by omega,hne⟩,hnb b hb hne⟩))
        have D3:=((D2.keptS kg (fun b hb hg=>hg.1.2 hb)).keptS ks (fun b hb hg=>by have:=hg.1.1;omega)).imp (H:=fun b=>w.heap.size+3<=b/\(Value.slice va3 (k+1) vc3).ownBlock ≠ some b) (fun b _ hg=>⟨hg.1.1,hg.2⟩)
        have L3:=aA (show LO w t (some ⟨b,off,none⟩) c (k+1) va3 vc3 (q++[(a4,c4)]) (w3.setCell ⟨w.heap.size+2,3,none⟩ (.slice va3 (k+1) vc3)) from ⟨
         (hL.out.b.trans (HB5.out.mono (by have:=hL.out.z;omega))).trans ((kg.mono (T:=fun b=>w.heap.size<=b) (fun i hi _=>by have:=hov i hi;omega)).below (fun _ h=>h) (by omega) |>.trans (ks.below (B:=w.heap.size) (fun i hi=>by omega) (by have:=kg.size;omega))),
         ks.heap (kg.heap ((HB5.out.block _ (Array.getElem?_eq_some_iff.1 hL.out.bx).1).trans hL.out.bx) (fun e=>by have:=hov _ e;omega)) (by omega),
         ks.heap (kg.heap ((HB5.out.block _ (Array.getElem?_eq_some_iff.1 hL.out.rs).1).trans hL.out.rs) (fun e=>by have:=hov _ e;omega)) (by omega),
         BQ X3 _,
         by
          rw [HT.out,tP _ _ _ _ (by rw [hL.out.ql,HTL])];have e:eR [t2] [(a4,c4)]=ndL t2 (a4,c4):=by simp [eR]
          rw [e];exact gC ho3 (by omega) _ _,
         by rw [List.length_append,hL.out.ql];rfl,
         by rw [HT.out];exact D3,
         by rw [World.size_setCell];have:=kg.size;omega⟩)
        obtain ⟨-,y0',y1',y2',y3'⟩:=aK X3;obtain ⟨⟨x0',x1',x2',x3'⟩, -⟩:=aK X3;clear ho3 hg3 hq3 kg hov X3 ks hnb D2 D3 x0 x1 x2 x3 y0 y1 y2 y3)
     | fail)
    all_goals
     go_wp2_with fail
     go_roundw
     case rel=>exact ⟨k+1,va3,vc3,q++[(a4,c4)],by go_num,by omega,L3⟩
     case measure=>simp [intOf];omega
  · obtain rfl:k=t.ks.len:=by omega
    have htk:(kL t.ks).take t.ks.len=kL t.ks:=List.take_of_length_le (by rw [Bz];exact Nat.le_refl _)
    have P:=aA (show aH (fun b=>w.heap.size+3<=b) wr va t.ks by
     have ho:=hL.out.o;have hd:=hL.out.d;rw [htk] at ho hd;by_cases h0:t.ks=.nil
     · exact .inl h0
     · have hne:t.ks.len ≠ 0:=fun e=>h0 (tQ e)
       obtain ⟨g,cc,hv, -, -,hc⟩:=dG ho hne;simp only [Value.slice.injEq,true_and] at hv;obtain ⟨rfl,rfl⟩:=hv;have hg:=ho.lt g rfl;exact .inr ⟨g,0,rfl,rF (G:=fun b=>w.heap.size+3<=b) hg.1 hg.2 (fun j u hj=>by rw [Nat.zero_add];exact hc j u hj) (hd.imp (fun b _ hg=>hg.1))⟩)
    obtain ⟨⟨r0,r1,r2,r3⟩,z0,z1,z2,z3⟩:=aK hL.out.rs;have a1:¬ (t.ks.len:Int)<(t.ks.len:Int):=by omega
    clear htk;go_wp2_with fail
    have KP:=dV wr (w.heap.size+1) t.op t.nm t.n va t.ks.len vc;obtain ⟨⟨d0,d1,d2,d3⟩, -⟩:=aK (aV hL.out.rs (.string t.op) (.string t.nm) (.int .i64 t.n) (.slice va t.ks.len vc))
    exact bodyPost_ret (v:=bB t.op t.nm t.n va t.ks.len vc) (by simp [results,Tryz.results41,go_sem,d0,d1,d2,d3]) rfl
     ⟨va,⟨vc,rfl⟩,(P.out.keptS KP (fun b hb hg=>by omega)).imp (fun b _ hg=>by omega),hL.out.b.trans (KP.below (B:=w.heap.size) (fun b hb=>by omega) (by have:=hL.out.z;omega))⟩
theorem sG (t:TN):Hw t:=lG Gg t
end
section
open Go.RowKit
end
section
open Go.RowKit
theorem bV (t:TN):aL t=0 ↔ OkT t/\aT t<=32:=by
 unfold aL OkT;have h:=xW t;by_cases k:gU t.ks 31<0
 · rw [if_pos k]
   exact ⟨fun e=>absurd e (by decide),fun e=>by have:=h.1 k;omega⟩
 · rw [if_neg k]
   exact ⟨fun e=>⟨e,by have:¬ 32<aT t:=fun x=>k (h.2 x);omega⟩,fun e=>e.1⟩
end
section
open Go.RowKit
def dK (x:Int):Int:=if x < -9223372036854775808 then -9223372036854775808 else if 9223372036854775807<x then 9223372036854775807 else x
theorem lD (x:Int):bQ (dK x):=by unfold bQ dK;split;omega;split <;> omega
theorem mX {x:Int} (h:bQ x):dK x=x:=by unfold bQ at h;unfold dK;rw [if_neg (by omega),if_neg (by omega)]
theorem AE {x:Int} (h:9223372036854775807<x):dK x=9223372036854775807:=by unfold dK;rw [if_neg (by omega),if_pos h]
theorem AC {x:Int} (h:x < -9223372036854775808):dK x= -9223372036854775808:=by unfold dK;rw [if_pos h]
theorem Cw {x:Int} (h:9223372036854775807<x) (h':x<=18446744073709551615):wrap64 x=x-18446744073709551616:=by unfold wrap64;omega
theorem vC {x:Int} (h:x < -9223372036854775808) (h': -18446744073709551616<=x):wrap64 x=x+18446744073709551616:=by unfold wrap64;omega
theorem pF {x:Int} (h:bQ x):wrap64 x=x:=by unfold bQ at h;unfold wrap64;omega
theorem JD {a b:Int} {c:Bool} (h:a=b):Ending.returned (.tuple #[.int .i64 a,.bool c])=.returned (.tuple #[.int .i64 b,.bool c]):=by rw [h]
theorem lK {a b:Int} (h:a=b):Ending.returned (.int .i64 a)=.returned (.int .i64 b):=by rw [h]
theorem pK {a b:Int} (ha:bQ a) (h0:¬ b=0) (h:a= -9223372036854775808->¬ b= -1):bQ (a.tdiv b):=by
 unfold bQ at *;have e:(a.tdiv b).natAbs=a.natAbs / b.natAbs:=Int.natAbs_tdiv a b;by_cases h1:b=1
 · rw [h1,Int.tdiv_one];exact ha
 by_cases h2:b= -1
 · rw [h2,Int.tdiv_neg,Int.tdiv_one]
   have:¬ a= -9223372036854775808:=fun x=>h x h2
   omega
 have hb:2<=b.natAbs:=by omega
 have hle:a.natAbs / b.natAbs<=a.natAbs / 2:=Nat.div_le_div_left hb (by decide);rw [<- e] at hle;omega
theorem vG {a b:Int} (ha:a= -9223372036854775808) (hb:b= -1):(9223372036854775807:Int)=dK (a.tdiv b):=by
 rw [ha,hb];decide
theorem yY {a b:Int} (ha:a= -9223372036854775808) (h0:¬ b=0) (h:(b == -1)=false):wrap64 (-Int.tdiv 9223372036854775808 b)=dK (a.tdiv b):=by
 have hi:=pK (a:=a) (b:=b) ⟨by omega,by omega⟩ h0 (fun _=>by simpa using h);have e: -Int.tdiv 9223372036854775808 b=a.tdiv b:=by rw [ha,Int.neg_tdiv]
 rw [mX hi,e,pF hi]
theorem i8 (b:Bool) (w:World):Calls Tryz.prog 109 #[.bool b] w fun e w'=>e=.returned (.int .i64 (if b then -9223372036854775808 else 9223372036854775807))/\w=w':=by
 cases b
 all_goals
  go_enter Tryz.func109,Tryz.ntmps109
  go_wp2_with fail
  go_ret;exact ⟨rfl,rfl⟩
theorem yN (a b:Int) (w:World) (ha:bQ a) (hb:bQ b):Calls Tryz.prog 62 #[.int .i64 a,.int .i64 b] w fun e w'=>e=.returned (.int .i64 (dK (a+b)))/\w=w':=by
 obtain ⟨a1,a2⟩:=ha;obtain ⟨b1,b2⟩:=hb;obtain ⟨s,hs⟩:∃ s,wrap64 (a+b)=s:=⟨_,rfl⟩;by_cases hi:9223372036854775807<a+b
 · have h1:decide (a<0)=false:=by simp;omega
   have h2:decide (b<0)=false:=by simp;omega
   have h3:decide (s<0)=true:=by rw [<- hs,Cw hi (by omega)];simp;omega
   rw [AE hi];clear hi a1 a2 b1 b2;go_enter Tryz.func62,Tryz.ntmps62
   go_wp2_with (go_at_call 109;refine (i8 _ _).mono ?_;rintro e w' ⟨rfl,rfl⟩)
   go_ret;exact ⟨rfl,rfl⟩
 by_cases lo:a+b < -9223372036854775808
 · have h1:decide (a<0)=true:=by simp;omega
   have h2:decide (b<0)=true:=by simp;omega
   have h3:decide (s<0)=false:=by rw [<- hs,vC lo (by omega)];simp;omega
   rw [AC lo];clear hi lo a1 a2 b1 b2;go_enter Tryz.func62,Tryz.ntmps62
   go_wp2_with (go_at_call 109;refine (i8 _ _).mono ?_;rintro e w' ⟨rfl,rfl⟩)
   go_ret;exact ⟨rfl,rfl⟩
 have hc:bQ (a+b):=⟨by omega,by omega⟩;obtain rfl:a+b=s:=(pF hc).symm.trans hs;rw [mX hc];clear hs;obtain ⟨c1,c2⟩:=hc;by_cases x:a<0 <;> by_cases y:b<0 <;> by_cases z:a+b<0
 all_goals first | (exfalso;omega) | skip
 all_goals
  go_enter Tryz.func62,Tryz.ntmps62
  go_wp2_with fail
  go_ret;exact ⟨rfl,rfl⟩
theorem yK (a b:Int) (w:World) (ha:bQ a) (hb:bQ b):Calls Tryz.prog 198 #[.int .i64 a,.int .i64 b] w fun e w'=>e=.returned (.int .i64 (dK (a-b)))/\w=w':=by
 obtain ⟨a1,a2⟩:=ha;obtain ⟨b1,b2⟩:=hb;obtain ⟨s,hs⟩:∃ s,wrap64 (a-b)=s:=⟨_,rfl⟩;by_cases hi:9223372036854775807<a-b
 · have h1:decide (a<0)=false:=by simp;omega
   have h2:decide (b<0)=true:=by simp;omega
   have h3:decide (s<0)=true:=by rw [<- hs,Cw hi (by omega)];simp;omega
   rw [AE hi];clear hi a1 a2 b1 b2;go_enter Tryz.func198,Tryz.ntmps198
   go_wp2_with (go_at_call 109;refine (i8 _ _).mono ?_;rintro e w' ⟨rfl,rfl⟩)
   go_ret;exact ⟨rfl,rfl⟩
 by_cases lo:a-b < -9223372036854775808
 · have h1:decide (a<0)=true:=by simp;omega
   have h2:decide (b<0)=false:=by simp;omega
   have h3:decide (s<0)=false:=by rw [<- hs,vC lo (by omega)];simp;omega
   rw [AC lo];clear hi lo a1 a2 b1 b2;go_enter Tryz.func198,Tryz.ntmps198
   go_wp2_with (go_at_call 109;refine (i8 _ _).mono ?_;rintro e w' ⟨rfl,rfl⟩)
   go_ret;exact ⟨rfl,rfl⟩
 have hc:bQ (a-b):=⟨by omega,by omega⟩;obtain rfl:a-b=s:=(pF hc).symm.trans hs;rw [mX hc];clear hs;obtain ⟨c1,c2⟩:=hc;by_cases x:a<0 <;> by_cases y:b<0 <;> by_cases z:a-b<0
 all_goals first | (exfalso;omega) | skip
 all_goals
  go_enter Tryz.func198,Tryz.ntmps198
  go_wp2_with fail
  go_ret;exact ⟨rfl,rfl⟩
theorem yM (a:Int) (w:World):Calls Tryz.prog 222 #[.int .i64 a,.int .i64 0] w fun e w'=>e=.returned (.tuple #[.int .i64 0,.bool false])/\w=w':=by
 go_enter Tryz.func222,Tryz.ntmps222
 go_wp2_with fail
 go_ret2;exact ⟨rfl,rfl⟩
theorem Fw (a b:Int) (w:World) (ha:bQ a) (hb:bQ b) (h0:¬ b=0):Calls Tryz.prog 222 #[.int .i64 a,.int .i64 b] w fun e w'=>e=.returned (.tuple #[.int .i64 (dK (a.tdiv b)),.bool true])/\w=w':=by
 obtain ⟨a1,a2⟩:=ha;obtain ⟨b1,b2⟩:=hb;have h0':(b == 0)=false:=by simpa using h0
 go_enter Tryz.func222,Tryz.ntmps222
 go_wp2_with fail
 all_goals
  go_ret2;refine ⟨JD ?_,rfl⟩
  first
   | rfl
   | exact vG ‹_› (by have h:(b == -1)=true:= ‹_›;simpa using h)
   | exact yY ‹_› h0 ‹_›
   | (rw [mX (pK ⟨by omega, by omega⟩ h0 (fun h => absurd h ‹_›))]
      exact pF (pK ⟨by omega,by omega⟩ h0 (fun h=>absurd h ‹_›)))
   | (obtain rfl : b = -1 := by have h : (b == -1) = true := ‹_›; simpa using h
      rw [Int.tmod_neg,Int.tmod_one])
   | trace_state
theorem yL (a:Int) (w:World):Calls Tryz.prog 223 #[.int .i64 a,.int .i64 0] w fun e w'=>e=.returned (.tuple #[.int .i64 0,.bool false])/\w=w':=by
 go_enter Tryz.func223,Tryz.ntmps223
 go_wp2_with fail
 go_ret2;exact ⟨rfl,rfl⟩
theorem Fv (a b:Int) (w:World) (ha:bQ a) (hb:bQ b) (h0:¬ b=0):Calls Tryz.prog 223 #[.int .i64 a,.int .i64 b] w fun e w'=>e=.returned (.tuple #[.int .i64 (a.tmod b),.bool true])/\w=w':=by
 obtain ⟨a1,a2⟩:=ha;obtain ⟨b1,b2⟩:=hb;have h0':(b == 0)=false:=by simpa using h0
 go_enter Tryz.func223,Tryz.ntmps223
 go_wp2_with fail
 all_goals
  go_ret2;refine ⟨JD ?_,rfl⟩
  first
   | rfl
   | exact vG ‹_› (by have h:(b == -1)=true:= ‹_›;simpa using h)
   | exact yY ‹_› h0 ‹_›
   | (rw [mX (pK ⟨by omega, by omega⟩ h0 (fun h => absurd h ‹_›))]
      exact pF (pK ⟨by omega,by omega⟩ h0 (fun h=>absurd h ‹_›)))
   | (obtain rfl : b = -1 := by have h : (b == -1) = true := ‹_›; simpa using h
      rw [Int.tmod_neg,Int.tmod_one])
   | trace_state
theorem zN {a b:Int} (h:a=b):Ending.returned (.int .u64 a)=.returned (.int .u64 b):=by rw [h]
theorem JK {a:Int} (h:a<0) (a1: -9223372036854775808<=a):IntKind.u64.wrap (-IntKind.u64.wrap a)=(a.natAbs:Nat):=by
 simp only [IntKind.wrap,IntKind.signed,IntKind.bits];simp;omega
theorem zF (a:Int) (w:World) (ha:bQ a):Calls Tryz.prog 237 #[.int .i64 a] w fun e w'=>e=.returned (.int .u64 (a.natAbs:Nat))/\w=w':=by
 obtain ⟨a1,a2⟩:=ha;by_cases h:a<0
 · go_enter Tryz.func237,Tryz.ntmps237
   go_wp2_with fail
   go_ret;exact ⟨zN (JK h a1),rfl⟩
 · go_enter Tryz.func237,Tryz.ntmps237
   go_wp2_with fail
   go_ret;exact ⟨zN (by omega),rfl⟩
end
section
open Go.RowKit
theorem D9 (x y:Nat) (hx:x<18446744073709551616) (hy:y<18446744073709551616) (H L:Int) (hH:((x*y / 18446744073709551616:Nat):Int)=H) (hL:((x*y % 18446744073709551616:Nat):Int)=L) (w:World) :
 Calls Tryz.prog 236 #[.int .u64 x,.int .u64 y] w fun e w'=>e=.returned (.tuple #[.int .u64 H,.int .u64 L])/\w=w':=by
 subst hH;subst hL;exact (Tryz.bits_Mul64 x y hx hy w).mono fun e w' ⟨h,k⟩=>⟨h,k.symm⟩
theorem Br (a b:Int):a*b=if a<0 then (if b<0 then ((a.natAbs*b.natAbs:Nat):Int) else -((a.natAbs*b.natAbs:Nat):Int)) else (if b<0 then -((a.natAbs*b.natAbs:Nat):Int) else ((a.natAbs*b.natAbs:Nat):Int)):=by
 rw [Int.natCast_mul];split <;> split
 · rw [show (a.natAbs:Int)= -a by omega,show (b.natAbs:Int)= -b by omega,Int.neg_mul_neg]
 · rw [show (a.natAbs:Int)= -a by omega,show (b.natAbs:Int)=b by omega,Int.neg_mul,Int.neg_neg]
 · rw [show (a.natAbs:Int)=a by omega,show (b.natAbs:Int)= -b by omega,Int.mul_neg,Int.neg_neg]
 · rw [show (a.natAbs:Int)=a by omega,show (b.natAbs:Int)=b by omega]
theorem vJ {a b:Int} (h:a<0/\b<0\/0<=a/\0<=b):decide (a<0)=decide (b<0):=by
 rcases h with ⟨h,k⟩ | ⟨h,k⟩
 · rw [decide_eq_true h,decide_eq_true k]
 · rw [decide_eq_false (by omega),decide_eq_false (by omega)]
theorem tJ {a b:Int} (h:a<0/\0<=b\/0<=a/\b<0):¬ decide (a<0)=decide (b<0):=by
 rcases h with ⟨h,k⟩ | ⟨h,k⟩
 · rw [decide_eq_true h,decide_eq_false (by omega)];decide
 · rw [decide_eq_false (by omega),decide_eq_true k];decide
theorem Fu (a b:Int) (w:World) (ha:bQ a) (hb:bQ b):Calls Tryz.prog 221 #[.int .i64 a,.int .i64 b] w fun e w'=>e=.returned (.int .i64 (dK (a*b)))/\w=w':=by
 have hm:=Br a b;have hx:a.natAbs<18446744073709551616:=by unfold bQ at ha;omega
 have hy:b.natAbs<18446744073709551616:=by unfold bQ at hb;omega
 have hb':a.natAbs*b.natAbs<=9223372036854775808*9223372036854775808:=Nat.mul_le_mul (by unfold bQ at ha;omega) (by unfold bQ at hb;omega);obtain ⟨N,hN⟩:∃ N:Nat,a.natAbs*b.natAbs=N:=⟨_,rfl⟩;rw [hN] at hm hb';obtain ⟨H,hH⟩:∃ H:Int,((a.natAbs*b.natAbs / 18446744073709551616:Nat):Int)=H:=⟨_,rfl⟩;obtain ⟨L,hL⟩:∃ L:Int,((a.natAbs*b.natAbs % 18446744073709551616:Nat):Int)=L:=⟨_,rfl⟩;have hH':((N / 18446744073709551616:Nat):Int)=H:=by rw [<- hN];exact hH
 have hL':((N % 18446744073709551616:Nat):Int)=L:=by rw [<- hN];exact hL
 have C:=fun w=>D9 a.natAbs b.natAbs hx hy H L hH hL w
 have A:=fun w=>zF a w ha
 have B:=fun w=>zF b w hb
 have R:dK (a*b)=if N<=9223372036854775807 then (if decide (a<0)=decide (b<0) then L else -L) else (if decide (a<0)=decide (b<0) then 9223372036854775807 else -9223372036854775808):=by
  rw [hm];by_cases a0:a<0 <;> by_cases b0:b<0 <;> simp only [a0,b0,if_true,if_false,decide_true,decide_false,Bool.false_eq_true,Bool.true_eq_false] <;> unfold dK <;> (repeat' split) <;> omega
 have c1:N<=9223372036854775807->H=0/\0<=L/\L<=9223372036854775807:=by omega
 have c2:¬ N<=9223372036854775807->H=0->9223372036854775807<L:=by omega
 have H0:0<=H:=by omega
 have H1:H<18446744073709551616:=by omega
 have L0:0<=L:=by omega
 have L1:L<18446744073709551616:=by omega
 have A1:=aA A;have B1:=aA B;have C1:=aA C;have R1:=aA R;clear A B C R hm hN hH hL hH' hL' ha hb;clear hb' hx hy;by_cases hn:N<=9223372036854775807
 · obtain ⟨rfl, -,k2⟩:=c1 hn
   clear c1 c2;by_cases a0:a<0 <;> by_cases b0:b<0
   all_goals
    go_enter Tryz.func221,Tryz.ntmps221
    go_wp2_with (first | (go_at_call 237;first | ((with_reducible refine (A1.out _).mono ?_);rintro e w' ⟨rfl,rfl⟩) | ((with_reducible refine (B1.out _).mono ?_);rintro e w' ⟨rfl,rfl⟩)) | (go_at_call 236;refine (C1.out _).mono ?_;rintro e w' ⟨rfl,rfl⟩) | (go_at_call 109;refine (i8 _ _).mono ?_;rintro e w' ⟨rfl,rfl⟩))
    go_ret;refine ⟨lK ?_,rfl⟩;rw [R1.out,if_pos hn];clear R1 A1 B1 C1
    first
     | (rw [if_pos (vJ (by omega))];done)
     | (rw [if_neg (tJ (by omega))];done)
 · replace c2:=c2 hn
   clear c1;by_cases a0:a<0 <;> by_cases b0:b<0 <;> by_cases h0:H=0
   all_goals
    first
     | (have L2 := c2 h0
        subst h0)
     | (have h2 : (H == 0) = false := by simpa using h0
        have h3:(H != 0)=true:=by simpa using h0)
    clear c2;go_enter Tryz.func221,Tryz.ntmps221
    go_wp2_with (first | (go_at_call 237;first | ((with_reducible refine (A1.out _).mono ?_);rintro e w' ⟨rfl,rfl⟩) | ((with_reducible refine (B1.out _).mono ?_);rintro e w' ⟨rfl,rfl⟩)) | (go_at_call 236;refine (C1.out _).mono ?_;rintro e w' ⟨rfl,rfl⟩) | (go_at_call 109;refine (i8 _ _).mono ?_;rintro e w' ⟨rfl,rfl⟩))
    go_ret;refine ⟨lK ?_,rfl⟩;rw [R1.out,if_neg hn];clear R1 A1 B1 C1
    first
     | (rw [if_pos (vJ (by omega))];done)
     | (rw [if_neg (tJ (by omega))];done)
end
section
open Go.RowKit
end
section
open Go.RowKit
end
section
open Go.RowKit
def MdF:F->Prop
 | .nil=>True
 | .cons _ m n ks r=>m.size<=8/\n<=9223372036854775807/\ks.len<=2/\MdF ks/\MdF r
def mdT (t:TN):Prop:=MdF t.f
theorem sF:mdT aD:=⟨by decide,by decide,by decide,trivial,trivial⟩
theorem Kd {v:Int} (h:v<=9223372036854775807):mdT (mR v):=⟨by show (0:Nat)<=8;decide,h,by show (0:Nat)<=2;decide,trivial,trivial⟩
theorem IP {x:List UInt8} (h:x.length<=8):mdT (dO x):=⟨by show x.toArray.size<=8;rw [List.size_toArray];exact h,by show (0:Int)<=_;decide,by show (0:Nat)<=2;decide,trivial,trivial⟩
theorem Ke {k:TN} (h:mdT k):mdT (oD k):=⟨by show (0:Nat)<=8;decide,by show (0:Int)<=_;decide,by show (1:Nat)<=2;decide,h,trivial⟩
theorem Ge {o:List UInt8} {a b:TN} (ha:mdT a) (hb:mdT b):mdT (eI o a b) :=
 ⟨by show (0:Nat)<=8;decide,by show (0:Int)<=_;decide,by show (2:Nat)<=2;decide,⟨ha.1,ha.2.1,ha.2.2.1,ha.2.2.2.1,hb⟩,trivial⟩
def Md.made:Md->Prop
 | .prodL n=>mdT n
 | .sumL n=>mdT n
 | _=>True
theorem gA (L:List Tk) (hL:∀ t∈L,cK t):∀ (f:Nat) (md:Md) (s:RS),md.made->mdT (pr L f md s).1
 | 0,md,s,_=>sF
 | f + 1, .fac, s, _ => by
   rw [pr];by_cases hb:s.bad=0
   · rw [if_pos hb]
     cases e:L[s.pos]? with
     | none=>exact sF
     | some t =>
       have hg:=hL t (by rw [<- (List.getElem?_eq_some_iff.1 e).2];exact List.getElem_mem (List.getElem?_eq_some_iff.1 e).1);simp only;by_cases h2:t.kind=2
       · rw [if_pos h2]
         refine Kd ?_;rcases hg with ⟨h,_⟩ | ⟨_,_,h⟩ | h
         · rw [h] at h2;exact absurd h2 (by decide)
         · exact h
         · rw [h] at h2;exact absurd h2 (by decide)
       rw [if_neg h2];by_cases h1:t.kind=1
       · rw [if_pos h1]
         refine IP ?_;rcases hg with ⟨_,h⟩ | ⟨h,_⟩ | h
         · exact tT h
         · rw [h] at h1;exact absurd h1 (by decide)
         · rw [h] at h1;exact absurd h1 (by decide)
       rw [if_neg h1];by_cases h45:t.text=[45]
       · rw [if_pos h45]
         exact Ke (gA L hL f .fac _ trivial)
       rw [if_neg h45];by_cases h40:t.text=[40]
       · rw [if_pos h40]
         exact gA L hL f .sum _ trivial
       rw [if_neg h40];exact sF
   · rw [if_neg hb];exact sF
 | f+1,.prod,s,_=>by rw [pr];exact gA L hL f _ _ (gA L hL f .fac s trivial)
 | f + 1, .prodL n, s, hn => by
   rw [pr];split
   · exact gA L hL f _ _ (Ge hn (gA L hL f .fac _ trivial))
   · exact hn
 | f+1,.sum,s,_=>by rw [pr];exact gA L hL f _ _ (gA L hL f .prod s trivial)
 | f + 1, .sumL n, s, hn => by
   rw [pr];split
   · exact gA L hL f _ _ (Ge hn (gA L hL f .prod _ trivial))
   · exact hn
theorem F8 {L:List Tk} (hL:∀ t∈L,cK t) {p q:Nat} {t:TN} (h:ofL L p=.ok t q):mdT t:=by
 unfold ofL at h;split at h
 · cases h
   exact gA L hL _ _ _ trivial
 · cases h
theorem Gf:∀ {f:F},MdF f->SzF f
 | .nil,_=>trivial
 | .cons _ _ _ _ _,h=>⟨by have:=h.1;omega,by have:=h.2.2.1;omega,Gf h.2.2.2.1,Gf h.2.2.2.2⟩
end
section
open Go.RowKit
def HM (t:TN):Prop:=∀ (G:Nat->Prop) (lb:Nat) (w:World) (a:Option Addr) (c l:Nat),l<=1000->Hv t->(∀ b,G b->b ≠ lb)->WdE lb w->aH G w a t.ks->w.heap[lb]? = some (.cells #[.int .i64 l] 3 (0,0)) ->
 Calls Tryz.prog 167 #[.pointer (some ⟨lb,0,none⟩),bB t.op t.nm t.n a t.ks.len c,.func (.func 141) #[] #[]] w fun e w'=>aE (· = lb) w w' /\
  (aT t<=l->∃ v,e=.returned (.tuple #[v,.bool true])/\mD (fun b=>w.heap.size<=b) w' t v) /\
  (aT t<=l->w'.heap[lb]? = some (.cells #[.int .i64 ((l-aT t:Nat):Int)] 3 (0,0))) /\
  (¬ aT t<=l->e=.returned (.tuple #[.int .i64 0,.bool false]))
theorem BY (t:TN) (ih:eO HM t.ks):HM t:=by
 intro G lb w a c l hl hpre hG hwd hr hlb;obtain ⟨i0,hi,hz0,hz1,hz2⟩:=info_parts Lj;have und:Tryz.prog.underlying 231=some (.slice 29):=Tryz.underlying231;have hlt:=(Array.getElem?_eq_some_iff.1 hlb).1;have IH:=aA ih;have R:=aA hr;have PRE:=aA hpre;have HG:=aA hG;have WD:=aA hwd;have BA:=(Below.refl w.heap.size w).alloc (Nat.le_refl _) (ndG t.op t.nm t.n a t.ks.len c);have NB:=heap_alloc_new w (ndG t.op t.nm t.n a t.ks.len c);have LB1:=(BA.block lb hlt).trans hlb;have hs0:(w.alloc (ndG t.op t.nm t.n a t.ks.len c)).heap.size=w.heap.size+1:=World.size_alloc _ _;generalize hW:w.alloc (ndG t.op t.nm t.n a t.ks.len c)=W at BA NB LB1 hs0;have HW:=aA hW;have hsize:aT t=1+cG t.ks:=rfl;have hlen:=kW t.ks;have K1:=(aF BA (· = lb)).setCell (p:=⟨lb,0,none⟩) (.inl rfl) (.int .i64 ((l:Int)-1));have LB2:=xI LB1 (.int .i64 ((l:Int)-1));have NB2:=((aE.refl (· = lb) W).setCell (p:=⟨lb,0,none⟩) (.inl rfl) (.int .i64 ((l:Int)-1))).heap NB (by omega);have hs1:(W.setCell ⟨lb,0,none⟩ (.int .i64 ((l:Int)-1))).heap.size=w.heap.size+1:=by rw [World.size_setCell];exact hs0
 obtain ⟨lc,lf⟩:=gD LB1;by_cases hstop:(l:Int)-1<(t.ks.len:Int)
 · have P:=aA (show ¬ aT t<=l by omega)
   generalize hV:W.setCell ⟨lb,0,none⟩ (.int .i64 ((l:Int)-1))=V at K1 LB2 NB2 hs1;have HV:=aA hV;obtain ⟨lc2, -⟩:=gD LB2;obtain ⟨⟨m0,m1,m2,m3⟩, -⟩:=aK NB2;have HK1:=aA K1;clear hr hpre hG ih hwd hlb hW hV K1 LB1 LB2 NB NB2 BA hsize;go_enter Tryz.func167,Tryz.ntmps167
   go_upto_region 2 with fail
   rw [HW.out];go_upto_region 3 with fail
   rw [HV.out];go_wp2_with (go_quiet (fail))
   go_ret2;exact ⟨HK1.out.drewN _,fun h=>absurd h P.out,fun h=>absurd h P.out,fun _=>rfl⟩
 · obtain ⟨l',rfl⟩:∃ l',l=l'+1:=⟨l-1,by omega⟩
   have hcast:(((l'+1:Nat):Int)-1)=(l':Int):=by omega
   rw [hcast] at K1 LB2 NB2 hs1 hstop;generalize hV:W.setCell ⟨lb,0,none⟩ (.int .i64 (l':Int))=V at K1 LB2 NB2 hs1;have HV:=aA hV;obtain ⟨lc2, -⟩:=gD LB2;obtain ⟨⟨m0,m1,m2,m3⟩, -⟩:=aK NB2;have HK1:=aA K1;have HLB:=aA LB2;have HNB:=aA NB2;have hll:t.ks.len<=l':=by omega
   have b9:¬ (l':Int)<(t.ks.len:Int):=hstop;clear hr hpre hG ih hwd hlb hW hV K1 LB1 LB2 NB NB2 BA hstop hcast;go_enter Tryz.func167,Tryz.ntmps167
   go_upto_region 2 with fail
   rw [HW.out];go_upto_region 3 with fail
   rw [HV.out];go_upto_region 5 with (go_quiet (fail))
   have HK2:=aA (HK1.out.drewN nq);have HLB2:=aA (show (V.drewN nq).heap[lb]? = _ from HLB.out);have HNB2:=aA (show (V.drewN nq).heap[w.heap.size]? = _ from HNB.out);have hsV:(V.drewN nq).heap.size=w.heap.size+1:=hs1;have n3:(V.drewN nq).cell? ⟨w.heap.size,3,none⟩=some (.slice a t.ks.len c):=m3;generalize V.drewN nq=U at HK2 HLB2 HNB2 hsV n3 |-
   clear m0 m1 m2 m3 lc lf lc2 HW HV HK1 HLB HNB;go_wp2_with fail
   go_loopw [9,30] (fun kv i wr=>∃ (k x:Nat) (va:Option Addr) (vc:Nat) (vs:List Value),kv=.slice va k vc/\i=.int .i64 k/\k<=t.ks.len/\x+cG t.ks=l'+cG (t.ks.drop k)/\Hid (wr.ownsRow (w.heap.size+1) 29 1 (.slice va k vc) k vs) /\
    Hid (∀ j t2,j<k->t.ks.at j=some t2->∃ v,vs[j]? = some v/\mD (fun b=>w.heap.size+1<=b/\(Value.slice va k vc).ownBlock ≠ some b) wr t2 v)/\Hid (wr.heap[lb]? = some (.cells #[.int .i64 x] 3 (0,0)))/\Hid (aE (· = lb) w wr)/\Hid (wr.heap[w.heap.size]? = some (ndG t.op t.nm t.n a t.ks.len c))) (fun _ i _=>t.ks.len-(intOf i).toNat)
   case atStart=>exact ⟨0,l',none,0,[],rfl,rfl,Nat.zero_le _,by rw [F.drop_zero],aA (World.ownsRow_nil _ _ _ _),aA (fun _ _ h=>absurd h (Nat.not_lt_zero _)),HLB2,HK2,HNB2⟩
   case round =>
    obtain ⟨k,x,va,vc,vs,rfl,rfl,hk,hx,hO,hV,hL,hK,hN⟩:=hrel;clear n3;obtain ⟨⟨m0,m1,m2,m3⟩, -⟩:=aK hN.out;have hz:=hK.out.size;by_cases hkl:k<t.ks.len
    · obtain ⟨t2,hat, -⟩:=dN hkl
      have hsd:=kK hat;have hdl:=fE t.ks k;obtain ⟨b,off,a2,c2,ha,hGb,hbl,⟨p0,p1,p2,p3⟩,hr2⟩:=cR (R.out.keptS hK.out (fun q hq hg=>HG.out q hg hq)) hat;subst ha;have hN1:w.heap.size<wr.heap.size:=(Array.getElem?_eq_some_iff.1 hN.out).1;have BA:=(Below.refl wr.heap.size wr).alloc (Nat.le_refl _) (ndG t2.op t2.nm t2.n a2 t2.ks.len c2);have NB:=heap_alloc_new wr (ndG t2.op t2.nm t2.n a2 t2.ks.len c2);have hs2:(wr.alloc (ndG t2.op t2.nm t2.n a2 t2.ks.len c2)).heap.size=wr.heap.size+1:=World.size_alloc _ _;generalize hX:wr.alloc (ndG t2.op t2.nm t2.n a2 t2.ks.len c2)=Z at BA NB hs2;have HX:=aA hX;have CF:=aA ((eO.at IH.out hat) G lb Z a2 c2 x (by omega) (KZ PRE.out hat) HG.out (wdE WD.out (hK.out.trans (aF BA (· = lb)) (fun _ h _=>h))) (hr2.kept BA) ((BA.block lb (by omega)).trans hL.out));have HAT:=aA hat;have HBA:=aA BA;have OZ:=aA (bR hO.out BA);obtain ⟨⟨z0,z1,z2,z3⟩, -⟩:=aK NB;clear hX BA NB hr2 hat hGb;go_upto_region 9 with fail
      rw [HX.out];clear p0 p1 p2 p3 m0 m1 m2 m3;go_wp2_with fail
      refine CF.out.mono ?_;rintro e w2 ⟨k2,hA1,hA2,hB⟩;have hzk2:=k2.size;have K2:=aA (hK.out.trans ((aF HBA.out (· = lb)).trans k2 (fun _ h _=>h)) (fun _ h _=>h));have N2:=aA (k2.heap ((HBA.out.block w.heap.size (by omega)).trans hN.out) (by omega));by_cases hfit:aT t2<=x
      · obtain ⟨v,rfl,hv⟩:=hA1 hfit
        obtain ⟨z,rfl⟩:=JS hv;have L2:=aA (hA2 hfit);have O2:=aA (dH (row:=some lb) OZ.out (k2.mono (fun i hi _=>by rw [hi])) (fun q hq e=>by have:=(OZ.out.lt q hq).1;have:=Option.some.inj e;omega));have HVV:=aA hv;have hx2:(x-aT t2)+cG t.ks=l'+cG (t.ks.drop (k+1)):=by omega
        have hksz:k+1<=1000:=by omega
        have vone:∀ u∈[(Value.int .i64 z)],u.oneCell'=true:=fun u hu=>by rw [List.mem_singleton.1 hu];exact Lv hv
        clear CF hA1 hA2 hB hv hfit z0 z1 z2 z3;go_upto_region 12 with fail
        have BN:=(Below.refl w2.heap.size w2).alloc (Nat.le_refl _) (.cells #[(Value.int .i64 z)] 29)
        have F2:=aA (show ∀ j u,[(Value.int .i64 z)][j]? = some u->(w2.alloc (.cells #[(Value.int .i64 z)] 29)).cell? ((⟨w2.heap.size,0,none⟩:Addr).add j)=some u from fun j u hj=>by
         rw [Addr.add_lit,Nat.zero_add,cell_of_row _ _ _ _ _ (0,0) (heap_alloc_new w2 _)];simpa using hj)
        have HBN:=aA BN;clear BN;go_wp2_with (at_builtin;refine aS rfl _ _ 231 rfl und hi hz0 hz1 hz2 rfl (by decide) (.slice va k vc) k 1 1 ⟨w2.heap.size,0,none⟩ vs [(Value.int .i64 z)] rfl rfl (bR O2.out HBN.out) rfl F2.out vone (by unfold maxLen;omega) (by omega) (by rw [World.size_alloc];omega) ?_)
        intro v3 w3 ho hg hq;obtain ⟨va3,vc3,rfl⟩:=dF ho;have kg:aE (fun b=>(Value.slice va k vc).ownBlock=some b) w2 w3:=((aE.refl _ w2).alloc _).grown hg (fun q hq=>.inl hq);have hov:∀ q,(Value.slice va k vc).ownBlock=some q->w.heap.size+1<=q/\q<w2.heap.size:=fun q hq=>by have:=O2.out.lt q hq;omega
        have O3:=aA ho;have L3:=aA (kg.heap L2.out (fun e=>by have:=hov lb e;omega));have K3:=aA (K2.out.trans (kg.mono (T:=fun b=>w.heap.size+1<=b) (fun i hi _=>(hov i hi).1)) (fun i hi hlt=>by omega));have N3:=aA (kg.heap N2.out (fun e=>by have:=hov _ e;omega))
        have hnewb:∀ b,b<w2.heap.size->(Value.slice va k vc).ownBlock ≠ some b->(Value.slice va3 (k+1) vc3).ownBlock ≠ some b:=fun b hb hne e=>by
         rcases hq b e with h1 | h1
         · exact hne h1
         · omega
        have V3:=aA (show ∀ j t3,j<k+1->t.ks.at j=some t3->∃ u,(vs++[(Value.int .i64 z)])[j]? = some u/\mD (fun b=>w.heap.size+1<=b/\(Value.slice va3 (k+1) vc3).ownBlock ≠ some b) w3 t3 u from fun j t3 hj hjt=>by
         have hvl:vs.length=k:=by have:=hO.out.1;rwa [Nat.mul_one] at this
         by_cases hjk:j<k
         · obtain ⟨u,hu,hru⟩:=hV.out j t3 hjk hjt
           refine ⟨u,by rw [List.getElem?_append_left (by omega)];exact hu,?_⟩;have r1:=lM (lM hru (aF HBA.out (fun _=>False)) (fun _ h=>h.elim)) k2 (fun q hq hg=>by have:=hg.1;omega);have r2:=kR (H:=fun b=>(w.heap.size+1<=b/\(Value.slice va k vc).ownBlock ≠ some b)/\(Value.slice va3 (k+1) vc3).ownBlock ≠ some b) r1 (fun b hb hg=>⟨hg,hnewb b hb hg.2⟩);exact kR (lM r2 kg (fun q hq hg=>hg.1.2 hq)) (fun b hb hg=>⟨hg.1.1,hg.2⟩)
         · obtain rfl:j=k:=by omega
           have:t3=t2:=by rw [HAT.out] at hjt;exact (Option.some.inj hjt).symm
           subst this;refine ⟨_,by rw [List.getElem?_append_right (by omega),hvl,Nat.sub_self];rfl,?_⟩
           have r2:=kR (H:=fun b=>(w.heap.size+1<=b/\(Value.slice va j vc).ownBlock ≠ some b)/\(Value.slice va3 (j+1) vc3).ownBlock ≠ some b) HVV.out (fun b hb hg=>by
            have hne:(Value.slice va j vc).ownBlock ≠ some b:=fun e=>by have:=(OZ.out.lt b e).2;omega
            exact ⟨⟨by omega,hne⟩,hnewb b hb hne⟩)
           exact kR (lM r2 kg (fun q hq hg=>hg.1.2 hq)) (fun b hb hg=>⟨hg.1.1,hg.2⟩))
        clear ho hg hq kg hov hnewb;go_wp2_with fail
        go_roundw
        case rel=>exact ⟨k+1,x-aT t2,va3,vc3,vs++[(Value.int .i64 z)],rfl,by go_num,by omega,hx2,O3,V3,L3,K3,N3⟩
        case measure=>simp [intOf];omega
      · obtain rfl:=hB hfit
        have P:=aA (show ¬ aT t<=l'+1 by omega);clear CF hA1 hA2 hB hfit z0 z1 z2 z3;go_wp2_with fail
        go_ret2;exact ⟨K2.out,fun h=>absurd h P.out,fun h=>absurd h P.out,fun _=>rfl⟩
    · obtain rfl:k=t.ks.len:=by omega
      have hx2:x+cG t.ks=l':=by rw [hx,F.drop_len _ _ (Nat.le_refl _)];rfl
      have CO:=aA (IN t wr G a c va vc vs (w.heap.size+1) PRE.out (wdE WD.out hK.out) (R.out.keptS hK.out (fun q hq hg=>HG.out q hg hq)) hO.out (fun j t2 hj=>hV.out j t2 (Hh hj) hj));go_wp2_with fail
      refine CO.out.mono ?_;rintro e w2 ⟨v,rfl,hv,hb⟩
      have P:=aA (show aE (· = lb) w w2/\mD (fun b=>w.heap.size<=b) w2 t v/\w2.heap[lb]? = some (.cells #[.int .i64 ((l'+1-aT t:Nat):Int)] 3 (0,0))/\aT t<=l'+1 from
       ⟨hK.out.trans (aF hb (· = lb)) (fun _ h _=>h),kR hv (fun b _ hg=>by omega),by rw [hb.block lb (by omega),hL.out,show x=l'+1-aT t by omega],by omega⟩)
      clear hv hb CO m0 m1 m2 m3;go_wp2_with fail
      go_ret2;exact ⟨P.out.1,fun _=>⟨v,rfl,P.out.2.1⟩,fun _=>P.out.2.2.1,fun h=>absurd P.out.2.2.2 h⟩
theorem EJ (t:TN):HM t:=lG BY t
theorem EI (t:TN) (G:Nat->Prop) (w:World) (a:Option Addr) (c:Nat) (hpre:Hv t) (hwd:∀ lb,w.heap.size<=lb->WdE lb w) (hr:aH G w a t.ks) :
 Calls Tryz.prog 140 #[bB t.op t.nm t.n a t.ks.len c,.func (.func 141) #[] #[]] w fun e w'=>Below w.heap.size w w' /\
  (aT t<=32->∃ v,e=.returned (.tuple #[v,.bool true])/\mD (fun b=>w.heap.size<=b) w' t v)/\(¬ aT t<=32->e=.returned (.tuple #[.int .i64 0,.bool false])):=by
 have BA:=(Below.refl w.heap.size w).alloc (Nat.le_refl _) (ndG t.op t.nm t.n a t.ks.len c);have NB:=heap_alloc_new w (ndG t.op t.nm t.n a t.ks.len c);have hs0:(w.alloc (ndG t.op t.nm t.n a t.ks.len c)).heap.size=w.heap.size+1:=World.size_alloc _ _;generalize hW:w.alloc (ndG t.op t.nm t.n a t.ks.len c)=W at BA NB hs0;have BB:=(Below.refl W.heap.size W).alloc (Nat.le_refl _) (.cells #[.int .i64 32] 3);have NC:=heap_alloc_new W (.cells #[.int .i64 32] 3);have hs1:(W.alloc (.cells #[.int .i64 32] 3)).heap.size=w.heap.size+2:=by rw [World.size_alloc];omega
 generalize hV:W.alloc (.cells #[.int .i64 32] 3)=V at BB NC hs1;rw [hs0] at NC;have BV:=BA.trans (BB.mono (by omega));have N2:=(BB.block w.heap.size (by omega)).trans NB;have hGlt:=hr.imp (H:=fun b=>G b/\b<w.heap.size) (fun b hb hg=>⟨hg,hb⟩);have CF:=aA (EJ t (fun b=>G b/\b<w.heap.size) (w.heap.size+1) V a c 32 (by omega) hpre (fun b hg=>by omega) (wdE (hwd (w.heap.size+1) (by omega)) (aF BV (fun _=>False) |>.mono (fun _ h _=>h.elim):aE (· = w.heap.size+1) w V)) (hGlt.keptS (aF BV (fun _=>False)) (fun _ h=>h.elim)) NC);have HW:=aA hW;have HV:=aA hV;have HB:=aA BV;obtain ⟨⟨m0,m1,m2,m3⟩, -⟩:=aK N2;clear hW hV BA NB BB NC BV N2 hGlt hr hpre hwd;go_enter Tryz.func140,Tryz.ntmps140
 go_upto_region 1 with fail
 rw [HW.out];go_upto_region 2 with fail
 rw [HV.out];go_wp2_with fail
 refine CF.out.mono ?_;rintro e w2 ⟨k2,hA, -,hB⟩;have B2:=aA (HB.out.trans (aE.below k2 (B:=w.heap.size) (fun q hq=>by omega) (by omega)));by_cases h32:aT t<=32
 · obtain ⟨v,rfl,hv⟩:=hA h32
   have HR:=aA (kR hv (H:=fun b=>w.heap.size<=b) (fun b _ hg=>by omega));have H32:=aA h32;clear k2 hA hB hv h32 CF m0 m1 m2 m3;go_wp2_with fail
   go_ret2;exact ⟨B2.out,fun _=>⟨v,rfl,HR.out⟩,fun h=>absurd H32.out h⟩
 · obtain rfl:=hB h32
   have H32:=aA h32;clear k2 hA hB h32 CF m0 m1 m2 m3;go_wp2_with fail
   go_ret2;exact ⟨B2.out,fun h=>absurd h H32.out,fun _=>rfl⟩
end
end
end Go.Proofs.YtapcjnoaofmmiaaGreatDoor
