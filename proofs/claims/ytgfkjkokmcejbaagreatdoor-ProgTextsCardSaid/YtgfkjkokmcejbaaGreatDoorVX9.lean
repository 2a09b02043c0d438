/-
 No statement: what ProgTextsLift needs, of the texts OE11, OE12.
-/
import Derived.Test.YtgfkjkokmcejbaaGreatDoorVX8
set_option maxHeartbeats 40000000
set_option maxRecDepth 100000
open List renaming length_append -> Tb, length_cons -> Te, length_take -> Th
open Go.World renaming size_alloc -> Tc
open Nat renaming le_refl -> Td
open Go.Value renaming slice -> Tj
open Go.Lib renaming decDigits -> Tl, toList_data -> Tm
namespace Go.Proofs.YtgfkjkokmcejbaaGreatDoor
open Go.RowKit Tryz
theorem St:(prog.info? 24).map (fun i=>(i.zero,i.size,i.bytes))=some (some (.int .i64 0),1,8):=by kernel_rfl
def NO (t:TN):Prop:=SzF t.f
theorem Sg {t t2:TN} {j:Nat} (h:NO t) (a:t.ks.at j=some t2):NO t2:=SzF.at (f:=t.ks) h.2.2.1 a
def WdE (_:Nat) (_:World):Prop:=True
theorem wdE {w w':World} {lb:Nat} (_:WdE lb w) (_:aC (· = lb) w w'):WdE lb w':=trivial
def oR (_:Nat->Prop) (_:World) (t:TN) (v:Value):Prop:=v=.int .i64 (bK t.f)
theorem mN {G H:Nat->Prop} {w:World} {t:TN} {v:Value} (h:oR G w t v) (_:∀ b,b<w.heap.size->G b->H b):oR H w t v:=h
theorem nK {S G:Nat->Prop} {w w':World} {t:TN} {v:Value} (h:oR G w t v) (_:aC S w w') (_:∀ k,S k->¬ G k):oR G w' t v:=h
theorem QL {G:Nat->Prop} {w:World} {t:TN} {v:Value} (h:oR G w t v):∃ z,v=.int .i64 z:=⟨_,h⟩
theorem SQ {G:Nat->Prop} {w:World} {t:TN} {v:Value} (h:oR G w t v):v.oneCell'=true:=by rw [h];rfl
theorem vA (t:TN) (r:F):bK (.cons t.op t.nm t.n t.ks r)=if bK t.f=0 then bK r else bK t.f:=by
 rw [pR,bK];by_cases a:mZ t.op t.nm t.n t.ks.len=0
 · rw [if_pos a,if_pos a]
 · rw [if_neg a,if_neg a,if_neg a]
theorem Hn {o:Tr} {x:Tq} (h:(o.data.toList == x)=true):(o.toList == x)=true:=by rw [Tm];exact h
theorem Ho {o:Tr} {x:Tq} (h:(o.data.toList == x)=false):(o.toList == x)=false:=by rw [Tm];exact h
theorem Pf (t:TN) (w:World) (G:Nat->Prop) (a:Tp) (c:Nat) (V:Tp) (vc:Nat) (vs:List Value) (base:Nat) (A:NO t) {lb:Nat} (_:WdE lb w) (_:aK G w a t.ks) (ho:w.ownsRow base 24 1 (.slice V t.ks.len vc) t.ks.len vs)
 (hv:∀ j t2,t.ks.at j=some t2->∃ v,vs[j]? = some v/\oR (fun b=>base<=b/\(Tj V t.ks.len vc).ownBlock ≠ some b) w t2 v) :
 Calls prog 230 #[bN t.op t.nm t.n a t.ks.len c,.slice V t.ks.len vc] w fun e w'=>∃ v,e=.returned v/\oR (fun b=>w.heap.size<=b) w' t v/\Below w.heap.size w w':=by
 have U:=bA0 w (ndG t.op t.nm t.n a t.ks.len c);have NB:=heap_alloc_new w (ndG t.op t.nm t.n a t.ks.len c);have T:=aA (cK ho U);generalize hW:w.alloc (ndG t.op t.nm t.n a t.ks.len c)=W at U NB T;have N:=aA hW;have C:=aA U;have HV:=aA hv;have hm:t.nm.size<=281474976710656:=A.1;have X:t.ks.len<=9223372036854775807:=A.2.1;obtain ⟨⟨m0,m1,m2,m3⟩, -⟩:=aL NB;have M:=aA (fun w=>sF t.op w);have NM:=aA (fun w=>kJ t.nm hm w);have CT:=pR t;unfold mZ at CT;have h:=aA CT;clear hW U NB ho hv A CT;have P:=aA (p:=∀ r:Int,r=bK t.f->∀ S,Below w.heap.size w S->∃ v,Ending.returned (.int .i64 r)=.returned v/\oR (fun b=>w.heap.size<=b) S t v/\Below w.heap.size w S) (fun r hr S hb=>⟨_,rfl,by rw [hr];rfl,hb⟩);by_cases I:(cV t.op != (t.ks.len:Int))=true
 · have y:=aA (P.out 2 (by rw [h.out,if_pos I];rfl) W C.out)
   have b1:((t.ks.len:Int) != cV t.op)=true:=by rw [bne_iff_ne] at I |-;exact fun e=>I e.symm
   clear I P h;go_enter func230,ntmps230
   go_upto_region 1 with fail
   rw [N.out];go_wp2_with (go_at_call 186;refine (M.out _).mono ?_;rintro e w' ⟨rfl,rfl⟩)
   go_ret;exact y.out
 · have b1:((t.ks.len:Int) != cV t.op)=false:=by rw [bne_eq_false_iff_eq];simp at I;exact I.symm
   rw [if_neg I] at h;clear I;cases z:bT t.op with
   | true =>
     have Z:=Hn z
     have g1:(t.op.toList == [110,117,109])=false:=by
      have:t.op.data.toList=iR:=by unfold bT at z;simpa using z
      rw [Tm,this];rfl
     have hn:bZ t.op=false:=by unfold bZ l6;rw [<- Tm];exact g1
     unfold iR at Z;cases L:cD t.nm.data.toList with
     | false =>
       rw [L] at NM;have y:=aA (P.out 5 (by rw [h.out,z,L];rfl) W C.out);clear z L hn P h;go_enter func230,ntmps230
       go_upto_region 1 with fail
       rw [N.out];go_wp2_with (first | (go_at_call 186;refine (M.out _).mono ?_;rintro e w' ⟨rfl,rfl⟩) | (go_at_call 54;refine (NM.out _).mono ?_;rintro e w' ⟨rfl,rfl⟩))
       go_ret;exact y.out
     | true =>
       rw [L] at NM;have E:=aA (show bK t.f=bK t.ks by rw [h.out,z,L,hn];rfl);clear z L hn h;go_enter func230,ntmps230
       go_upto_region 1 with fail
       rw [N.out];go_wp2_with (first | (go_at_call 186;refine (M.out _).mono ?_;rintro e w' ⟨rfl,rfl⟩) | (go_at_call 54;refine (NM.out _).mono ?_;rintro e w' ⟨rfl,rfl⟩))
       go_loop [35] (fun i=>∃ k:Nat,i=.int .i64 k/\k<=t.ks.len/\Hid (bK (t.ks.drop k)=bK t.ks)) (fun i=>t.ks.len-(intOf i).toNat)
       case atStart=>exact ⟨0,rfl,Nat.zero_le _,aA (by rw [F.drop_zero])⟩
       case round =>
        obtain ⟨k,rfl,hk,D⟩:=hrel;by_cases B:k<t.ks.len
        · obtain ⟨t2,x,s⟩:=eV B
          obtain ⟨v,o,m⟩:=HV.out k t2 x;obtain ⟨g,cc,q, -, -,u⟩:=fL T.out (by omega);have hx:=u k v o;have d:=aA (show bK t.ks=if bK t2.f=0 then bK (t.ks.drop (k+1)) else bK t2.f by have e:=vA t2 (t.ks.drop (k+1));rw [<- s,D.out] at e;exact e);simp only [Value.slice.injEq,true_and] at q;obtain ⟨rfl,rfl⟩:=q;unfold oR at m;subst m;clear o x s u;by_cases l:bK t2.f=0
          · have O:((bK t2.f:Int) != 0)=false:=by rw [l];rfl
            have R:=aA (show bK (t.ks.drop (k+1))=bK t.ks by rw [d.out,if_pos l]);clear l d;go_wp2_with fail
            go_round
            case rel=>exact ⟨k+1,by go_num,by omega,R⟩
            case measure=>simp [intOf];omega
          · have O:((bK t2.f:Int) != 0)=true:=by simpa using l
            have y:=aA (P.out (bK t2.f) (by rw [E.out,d.out,if_neg l]) W C.out);clear l d;go_wp2_with fail
            go_ret;exact y.out
        · obtain rfl:k=t.ks.len:=by omega
          have y:=aA (P.out 0 (by rw [E.out, <- D.out,F.drop_len _ _ (Td _)];rfl) W C.out);go_wp2_with fail
          go_ret;exact y.out
   | false =>
     have Z:=Ho z;unfold iR at Z;cases H:bZ t.op with
     | true =>
       have Y:=Hn H;unfold l6 at Y;by_cases h4:t.n<0
       · have y:=aA (P.out 1 (by rw [h.out,z,H,decide_eq_true h4];rfl) W C.out)
         clear z H P h;go_enter func230,ntmps230
         go_upto_region 1 with fail
         rw [N.out];go_wp2_with (go_at_call 186;refine (M.out _).mono ?_;rintro e w' ⟨rfl,rfl⟩)
         go_ret;exact y.out
       · have E:=aA (show bK t.f=bK t.ks by rw [h.out,z,H,decide_eq_false h4];rfl)
         clear z H h;go_enter func230,ntmps230
         go_upto_region 1 with fail
         rw [N.out];go_wp2_with (go_at_call 186;refine (M.out _).mono ?_;rintro e w' ⟨rfl,rfl⟩)
         go_loop [35] (fun i=>∃ k:Nat,i=.int .i64 k/\k<=t.ks.len/\Hid (bK (t.ks.drop k)=bK t.ks)) (fun i=>t.ks.len-(intOf i).toNat)
         case atStart=>exact ⟨0,rfl,Nat.zero_le _,aA (by rw [F.drop_zero])⟩
         case round =>
          obtain ⟨k,rfl,hk,D⟩:=hrel;by_cases B:k<t.ks.len
          · obtain ⟨t2,x,s⟩:=eV B
            obtain ⟨v,o,m⟩:=HV.out k t2 x;obtain ⟨g,cc,q, -, -,u⟩:=fL T.out (by omega);have hx:=u k v o;have d:=aA (show bK t.ks=if bK t2.f=0 then bK (t.ks.drop (k+1)) else bK t2.f by have e:=vA t2 (t.ks.drop (k+1));rw [<- s,D.out] at e;exact e);simp only [Value.slice.injEq,true_and] at q;obtain ⟨rfl,rfl⟩:=q;unfold oR at m;subst m;clear o x s u;by_cases l:bK t2.f=0
            · have O:((bK t2.f:Int) != 0)=false:=by rw [l];rfl
              have R:=aA (show bK (t.ks.drop (k+1))=bK t.ks by rw [d.out,if_pos l]);clear l d;go_wp2_with fail
              go_round
              case rel=>exact ⟨k+1,by go_num,by omega,R⟩
              case measure=>simp [intOf];omega
            · have O:((bK t2.f:Int) != 0)=true:=by simpa using l
              have y:=aA (P.out (bK t2.f) (by rw [E.out,d.out,if_neg l]) W C.out);clear l d;go_wp2_with fail
              go_ret;exact y.out
          · obtain rfl:k=t.ks.len:=by omega
            have y:=aA (P.out 0 (by rw [E.out, <- D.out,F.drop_len _ _ (Td _)];rfl) W C.out);go_wp2_with fail
            go_ret;exact y.out
     | false =>
       have Y:=Ho H;unfold l6 at Y;have E:=aA (show bK t.f=bK t.ks by rw [h.out,z,H];rfl);clear z H h;go_enter func230,ntmps230
       go_upto_region 1 with fail
       rw [N.out];go_wp2_with (go_at_call 186;refine (M.out _).mono ?_;rintro e w' ⟨rfl,rfl⟩)
       go_loop [35] (fun i=>∃ k:Nat,i=.int .i64 k/\k<=t.ks.len/\Hid (bK (t.ks.drop k)=bK t.ks)) (fun i=>t.ks.len-(intOf i).toNat)
       case atStart=>exact ⟨0,rfl,Nat.zero_le _,aA (by rw [F.drop_zero])⟩
       case round =>
        obtain ⟨k,rfl,hk,D⟩:=hrel;by_cases B:k<t.ks.len
        · obtain ⟨t2,x,s⟩:=eV B
          obtain ⟨v,o,m⟩:=HV.out k t2 x;obtain ⟨g,cc,q, -, -,u⟩:=fL T.out (by omega);have hx:=u k v o;have d:=aA (show bK t.ks=if bK t2.f=0 then bK (t.ks.drop (k+1)) else bK t2.f by have e:=vA t2 (t.ks.drop (k+1));rw [<- s,D.out] at e;exact e);simp only [Value.slice.injEq,true_and] at q;obtain ⟨rfl,rfl⟩:=q;unfold oR at m;subst m;clear o x s u;by_cases l:bK t2.f=0
          · have O:((bK t2.f:Int) != 0)=false:=by rw [l];rfl
            have R:=aA (show bK (t.ks.drop (k+1))=bK t.ks by rw [d.out,if_pos l]);clear l d;go_wp2_with fail
            go_round
            case rel=>exact ⟨k+1,by go_num,by omega,R⟩
            case measure=>simp [intOf];omega
          · have O:((bK t2.f:Int) != 0)=true:=by simpa using l
            have y:=aA (P.out (bK t2.f) (by rw [E.out,d.out,if_neg l]) W C.out);clear l d;go_wp2_with fail
            go_ret;exact y.out
        · obtain rfl:k=t.ks.len:=by omega
          have y:=aA (P.out 0 (by rw [E.out, <- D.out,F.drop_len _ _ (Td _)];rfl) W C.out);go_wp2_with fail
          go_ret;exact y.out
theorem uB {f g:F} {t u:TN} {r s:F} (b:f=.cons t.op t.nm t.n t.ks r) (a:g=.cons u.op u.nm u.n u.ks s):fJ f g=(dF t u && fJ r s):=by
 rw [b,a,dF,TN.f,TN.f,fJ,fJ];simp only [fJ,Bool.and_true]
theorem IP (t u:TN):dF t u=((t.op.toList == u.op.toList) && (t.ks.len == u.ks.len) && !((t.op.toList == [110,117,109]) && t.n != u.n) && !((t.op.toList == [110,97,109,101]) && (t.nm.toList != u.nm.toList)) && fJ t.ks u.ks):=by
 rw [dF,TN.f,TN.f,fJ];simp only [fJ,Bool.and_true,bZ,bT,l6,iR,Tm]
def G9 (t:TN):Prop:=∀ (G H:Nat->Prop) (w:World) (a a2:Tp) (c c2:Nat) (u:TN),Dn t.f->aK G w a t.ks->aK H w a2 u.ks->Calls prog 70 #[bN t.op t.nm t.n a t.ks.len c,bN u.op u.nm u.n a2 u.ks.len c2] w fun e w'=>e=.returned (.bool (dF t u))/\Below w.heap.size w w'
theorem IN (t:TN) (ih:fU G9 t.ks):G9 t:=by
 intro G H w a a2 c c2 u hS hr hs;have R:=aA hr;have R2:=aA hs;have IH:=aA ih;obtain ⟨hm,jd, -⟩:=hS;have LK:=aA jd;obtain ⟨r,x⟩:∃ r,dF t u=r:=⟨_,rfl⟩;rw [x];rw [IP] at x;have jc:(t.op.toList == u.op.toList)=true->u.op=t.op:=fun h=>ByteArray.ext (Array.ext' (by rw [<- Tm, <- Tm];exact (eq_of_beq h).symm))
 obtain ⟨uo,X,un,s⟩:=u;dsimp only at jc x hs |-
 obtain ⟨L,hL⟩:∃ L,s.len=L:=⟨_,rfl⟩;have HL:=aA hL;rw [hL] at x |-
 have NB:Hid ((w.alloc (ndO t.op t.nm t.n a t.ks.len c)).heap[w.heap.size]? = some (ndO t.op t.nm t.n a t.ks.len c)):=aA (heap_alloc_new w _);have V:Hid (((w.alloc (ndO t.op t.nm t.n a t.ks.len c)).alloc (ndO uo X un a2 L c2)).heap[w.heap.size]? = some (ndO t.op t.nm t.n a t.ks.len c)):=aA ((heap_alloc_old _ _ (aG NB.out)).trans NB.out);have U:Hid (((w.alloc (ndO t.op t.nm t.n a t.ks.len c)).alloc (ndO uo X un a2 L c2)).heap[w.heap.size+1]? = some (ndO uo X un a2 L c2)):=aA (by have:=heap_alloc_new (w.alloc (ndO t.op t.nm t.n a t.ks.len c)) (ndO uo X un a2 L c2);rwa [Tc] at this);have B0:=aA ((bA0 w (ndO t.op t.nm t.n a t.ks.len c)).alloc (by simp) (ndO uo X un a2 L c2));clear hr hs ih jd NB hL;cases h1:(t.op.toList == uo.toList) with
 | false =>
   have z:=aA (show false=r by rw [<- x,h1];rfl);clear x jc;go_enter func70,ntmps70
   go_wp2_with fail
   go_ret;rw [z.out];exact ⟨rfl,B0.out⟩
 | true =>
   obtain rfl:=jc h1;clear jc h1;by_cases h2:t.ks.len=L
   · subst h2
     obtain ⟨p,hp⟩:∃ p,(t.op.toList == [110,97,109,101])=p:=⟨_,rfl⟩;obtain ⟨q,hq⟩:∃ q,(t.op.toList == [110,117,109])=q:=⟨_,rfl⟩;rw [hp,hq] at x;cases q with
     | true =>
       obtain rfl:p=false:=by rw [<- hp,eq_of_beq hq];rfl
       by_cases h3:un=t.n
       · subst h3
         have H0:=aA (show fJ (t.ks.drop 0) (s.drop 0)=r by rw [F.drop_zero,F.drop_zero, <- x];simp);clear x;go_enter func70,ntmps70
         go_wp2_with fail
         generalize (w.alloc (ndO t.op t.nm t.n a t.ks.len c)).alloc (ndO t.op X t.n a2 t.ks.len c2)=W at V U B0 |-
         go_loopw [5] (fun i wr=>∃ (k:Nat),i=.int .i64 k/\k<=t.ks.len/\Hid (fJ (t.ks.drop k) (s.drop k)=r)/\Hid (Below w.heap.size w wr)/\Hid (wr.heap[w.heap.size]? = some (ndO t.op t.nm t.n a t.ks.len c))/\Hid (wr.heap[w.heap.size+1]? = some (ndO t.op X t.n a2 t.ks.len c2))) (fun i _=>t.ks.len-(intOf i).toNat)
         case atStart=>exact ⟨0,rfl,Nat.zero_le _,H0,B0,V,U⟩
         case round =>
          obtain ⟨k,rfl,hk,hE,N,S,T⟩:=hrel;obtain ⟨⟨m0,m1,m2,m3⟩, -⟩:=aL S.out;obtain ⟨⟨q0,q1,q2,Y⟩, -⟩:=aL T.out;by_cases D:k<t.ks.len
          · obtain ⟨t2,o,I⟩:=eV D
            obtain ⟨u2,M,E⟩:=eV (show k<s.len by rw [HL.out];exact D);obtain ⟨b,off,a3,c3,ha,hG,m,⟨p0,p1,p2,p3⟩,B⟩:=cP (R.out.kept N.out) o;obtain ⟨l,d,a4,c4,ja,je,f,⟨p4,p5,p6,Z⟩,A⟩:=cP (R2.out.kept N.out) M;have O:=aA (show (dF t2 u2 && fJ (t.ks.drop (k+1)) (s.drop (k+1)))=r from (uB I E).symm.trans hE.out);have g:Below wr.heap.size wr wr.drew:=⟨rfl,rfl,rfl,Td _,fun _ _=>rfl⟩;have C:=aA ((fU.at IH.out o) G H wr.drew a3 a4 c3 c4 u2 (LK.out.at o) (B.kept g) (A.kept g));subst ha ja;obtain ⟨y,hy⟩:∃ y,dF t2 u2=y:=⟨_,rfl⟩;rw [hy] at C O;have j:=aA (p:=∀ w',Below wr.heap.size wr w'->(w'.cell? ⟨w.heap.size,3,none⟩=some (.slice (some ⟨b,off,none⟩) t.ks.len c)/\w'.cell? ⟨w.heap.size+1,3,none⟩=some (.slice (some ⟨l,d,none⟩) t.ks.len c2)/\w'.cell? ⟨b,off+k*4,none⟩=some (.string t2.op)/\w'.cell? ⟨b,off+k*4+1,none⟩=some (.string t2.nm)/\w'.cell? ⟨b,off+k*4+2,none⟩=some (.int .i64 t2.n)/\w'.cell? ⟨b,off+k*4+3,none⟩=some (.slice a3 t2.ks.len c3)/\w'.cell? ⟨l,d+k*4,none⟩=some (.string u2.op)/\w'.cell? ⟨l,d+k*4+1,none⟩=some (.string u2.nm)/\w'.cell? ⟨l,d+k*4+2,none⟩=some (.int .i64 u2.n)/\w'.cell? ⟨l,d+k*4+3,none⟩=some (.slice a4 u2.ks.len c4))) (fun w' h=>⟨(h.cell (aG S.out)).trans m3,(h.cell (aG T.out)).trans Y,(h.cell m).trans p0,(h.cell m).trans p1,(h.cell m).trans p2,(h.cell m).trans p3,(h.cell f).trans p4,(h.cell f).trans p5,(h.cell f).trans p6,(h.cell f).trans Z⟩);clear o I M E B A hy g;go_wp2_with fail
            go_region_held3 (fun w'=>w'.cell? ⟨w.heap.size,3,none⟩=some (.slice (some ⟨b,off,none⟩) t.ks.len c)/\w'.cell? ⟨w.heap.size+1,3,none⟩=some (.slice (some ⟨l,d,none⟩) t.ks.len c2)/\w'.cell? ⟨b,off+k*4,none⟩=some (.string t2.op)/\w'.cell? ⟨b,off+k*4+1,none⟩=some (.string t2.nm)/\w'.cell? ⟨b,off+k*4+2,none⟩=some (.int .i64 t2.n)/\w'.cell? ⟨b,off+k*4+3,none⟩=some (.slice a3 t2.ks.len c3)/\w'.cell? ⟨l,d+k*4,none⟩=some (.string u2.op)/\w'.cell? ⟨l,d+k*4+1,none⟩=some (.string u2.nm)/\w'.cell? ⟨l,d+k*4+2,none⟩=some (.int .i64 u2.n)/\w'.cell? ⟨l,d+k*4+3,none⟩=some (.slice a4 u2.ks.len c4)) (first | exact ⟨m3,Y,p0,p1,p2,p3,p4,p5,p6,Z⟩ | exact j.out _ P.out) (first
             | (go_at_call 70
                with_reducible refine C.out.mono ?_
                rintro e w2 ⟨rfl,hb⟩;have P:=aA ((aT wr).trans hb);clear hb)
             | fail)
            have hz:=N.out.size;have N2:=aA ((P.out.block _ (aG S.out)).trans S.out);have M2:=aA ((P.out.block _ (aG T.out)).trans T.out);have B3:=aA (N.out.trans (P.out.mono hz));clear P C j m0 m1 m2 m3 q0 q1 q2 Y p0 p1 p2 p3 p4 p5 p6 Z;cases y with
            | true =>
              have jb:=aA ((Bool.true_and _).symm.trans O.out);clear O;go_wp2_with fail
              go_roundw
              case rel=>exact ⟨k+1,by go_num,by omega,jb,B3,N2,M2⟩
              case measure=>simp [intOf];omega
            | false =>
              have z:=aA (show false=r from (Bool.false_and _).symm.trans O.out);clear O;go_wp2_with fail
              go_ret;rw [z.out];exact ⟨rfl,B3.out⟩
          · have z:=aA (show true=r by rw [<- hE.out,F.drop_len _ _ (by omega),F.drop_len _ _ (by rw [HL.out];omega)];rfl)
            go_wp2_with fail
            go_ret;rw [z.out];exact ⟨rfl,N.out⟩
       · have z:=aA (show false=r by rw [<- x];simp [bne_iff_ne.2 (Ne.symm h3)])
         clear x;go_enter func70,ntmps70
         go_wp2_with fail
         go_ret;rw [z.out];exact ⟨rfl,B0.out⟩
     | false =>
       cases p with
       | true =>
         cases h4:(t.nm.toList == X.toList) with
         | true =>
           have H0:=aA (show fJ (t.ks.drop 0) (s.drop 0)=r by rw [F.drop_zero,F.drop_zero, <- x];simp [bne,h4]);clear x;go_enter func70,ntmps70
           go_wp2_with fail
           generalize (w.alloc (ndO t.op t.nm t.n a t.ks.len c)).alloc (ndO t.op X un a2 t.ks.len c2)=W at V U B0 |-
           go_loopw [5] (fun i wr=>∃ (k:Nat),i=.int .i64 k/\k<=t.ks.len/\Hid (fJ (t.ks.drop k) (s.drop k)=r)/\Hid (Below w.heap.size w wr)/\Hid (wr.heap[w.heap.size]? = some (ndO t.op t.nm t.n a t.ks.len c))/\Hid (wr.heap[w.heap.size+1]? = some (ndO t.op X un a2 t.ks.len c2))) (fun i _=>t.ks.len-(intOf i).toNat)
           case atStart=>exact ⟨0,rfl,Nat.zero_le _,H0,B0,V,U⟩
           case round =>
            obtain ⟨k,rfl,hk,hE,N,S,T⟩:=hrel;obtain ⟨⟨m0,m1,m2,m3⟩, -⟩:=aL S.out;obtain ⟨⟨q0,q1,q2,Y⟩, -⟩:=aL T.out;by_cases D:k<t.ks.len
            · obtain ⟨t2,o,I⟩:=eV D
              obtain ⟨u2,M,E⟩:=eV (show k<s.len by rw [HL.out];exact D);obtain ⟨b,off,a3,c3,ha,hG,m,⟨p0,p1,p2,p3⟩,B⟩:=cP (R.out.kept N.out) o;obtain ⟨l,d,a4,c4,ja,je,f,⟨p4,p5,p6,Z⟩,A⟩:=cP (R2.out.kept N.out) M;have O:=aA (show (dF t2 u2 && fJ (t.ks.drop (k+1)) (s.drop (k+1)))=r from (uB I E).symm.trans hE.out);have g:Below wr.heap.size wr wr.drew:=⟨rfl,rfl,rfl,Td _,fun _ _=>rfl⟩;have C:=aA ((fU.at IH.out o) G H wr.drew a3 a4 c3 c4 u2 (LK.out.at o) (B.kept g) (A.kept g));subst ha ja;obtain ⟨y,hy⟩:∃ y,dF t2 u2=y:=⟨_,rfl⟩;rw [hy] at C O;have j:=aA (p:=∀ w',Below wr.heap.size wr w'->(w'.cell? ⟨w.heap.size,3,none⟩=some (.slice (some ⟨b,off,none⟩) t.ks.len c)/\w'.cell? ⟨w.heap.size+1,3,none⟩=some (.slice (some ⟨l,d,none⟩) t.ks.len c2)/\w'.cell? ⟨b,off+k*4,none⟩=some (.string t2.op)/\w'.cell? ⟨b,off+k*4+1,none⟩=some (.string t2.nm)/\w'.cell? ⟨b,off+k*4+2,none⟩=some (.int .i64 t2.n)/\w'.cell? ⟨b,off+k*4+3,none⟩=some (.slice a3 t2.ks.len c3)/\w'.cell? ⟨l,d+k*4,none⟩=some (.string u2.op)/\w'.cell? ⟨l,d+k*4+1,none⟩=some (.string u2.nm)/\w'.cell? ⟨l,d+k*4+2,none⟩=some (.int .i64 u2.n)/\w'.cell? ⟨l,d+k*4+3,none⟩=some (.slice a4 u2.ks.len c4))) (fun w' h=>⟨(h.cell (aG S.out)).trans m3,(h.cell (aG T.out)).trans Y,(h.cell m).trans p0,(h.cell m).trans p1,(h.cell m).trans p2,(h.cell m).trans p3,(h.cell f).trans p4,(h.cell f).trans p5,(h.cell f).trans p6,(h.cell f).trans Z⟩);clear o I M E B A hy g;go_wp2_with fail
              go_region_held3 (fun w'=>w'.cell? ⟨w.heap.size,3,none⟩=some (.slice (some ⟨b,off,none⟩) t.ks.len c)/\w'.cell? ⟨w.heap.size+1,3,none⟩=some (.slice (some ⟨l,d,none⟩) t.ks.len c2)/\w'.cell? ⟨b,off+k*4,none⟩=some (.string t2.op)/\w'.cell? ⟨b,off+k*4+1,none⟩=some (.string t2.nm)/\w'.cell? ⟨b,off+k*4+2,none⟩=some (.int .i64 t2.n)/\w'.cell? ⟨b,off+k*4+3,none⟩=some (.slice a3 t2.ks.len c3)/\w'.cell? ⟨l,d+k*4,none⟩=some (.string u2.op)/\w'.cell? ⟨l,d+k*4+1,none⟩=some (.string u2.nm)/\w'.cell? ⟨l,d+k*4+2,none⟩=some (.int .i64 u2.n)/\w'.cell? ⟨l,d+k*4+3,none⟩=some (.slice a4 u2.ks.len c4)) (first | exact ⟨m3,Y,p0,p1,p2,p3,p4,p5,p6,Z⟩ | exact j.out _ P.out) (first
               | (go_at_call 70
                  with_reducible refine C.out.mono ?_
                  rintro e w2 ⟨rfl,hb⟩;have P:=aA ((aT wr).trans hb);clear hb)
               | fail)
              have hz:=N.out.size;have N2:=aA ((P.out.block _ (aG S.out)).trans S.out);have M2:=aA ((P.out.block _ (aG T.out)).trans T.out);have B3:=aA (N.out.trans (P.out.mono hz));clear P C j m0 m1 m2 m3 q0 q1 q2 Y p0 p1 p2 p3 p4 p5 p6 Z;cases y with
              | true =>
                have jb:=aA ((Bool.true_and _).symm.trans O.out);clear O;go_wp2_with fail
                go_roundw
                case rel=>exact ⟨k+1,by go_num,by omega,jb,B3,N2,M2⟩
                case measure=>simp [intOf];omega
              | false =>
                have z:=aA (show false=r from (Bool.false_and _).symm.trans O.out);clear O;go_wp2_with fail
                go_ret;rw [z.out];exact ⟨rfl,B3.out⟩
            · have z:=aA (show true=r by rw [<- hE.out,F.drop_len _ _ (by omega),F.drop_len _ _ (by rw [HL.out];omega)];rfl)
              go_wp2_with fail
              go_ret;rw [z.out];exact ⟨rfl,N.out⟩
         | false =>
           have z:=aA (show false=r by rw [<- x];simp [bne,h4]);clear x;go_enter func70,ntmps70
           go_wp2_with fail
           go_ret;rw [z.out];exact ⟨rfl,B0.out⟩
       | false =>
         have H0:=aA (show fJ (t.ks.drop 0) (s.drop 0)=r by rw [F.drop_zero,F.drop_zero, <- x];simp);clear x;go_enter func70,ntmps70
         go_wp2_with fail
         generalize (w.alloc (ndO t.op t.nm t.n a t.ks.len c)).alloc (ndO t.op X un a2 t.ks.len c2)=W at V U B0 |-
         go_loopw [5] (fun i wr=>∃ (k:Nat),i=.int .i64 k/\k<=t.ks.len/\Hid (fJ (t.ks.drop k) (s.drop k)=r)/\Hid (Below w.heap.size w wr)/\Hid (wr.heap[w.heap.size]? = some (ndO t.op t.nm t.n a t.ks.len c))/\Hid (wr.heap[w.heap.size+1]? = some (ndO t.op X un a2 t.ks.len c2))) (fun i _=>t.ks.len-(intOf i).toNat)
         case atStart=>exact ⟨0,rfl,Nat.zero_le _,H0,B0,V,U⟩
         case round =>
          obtain ⟨k,rfl,hk,hE,N,S,T⟩:=hrel;obtain ⟨⟨m0,m1,m2,m3⟩, -⟩:=aL S.out;obtain ⟨⟨q0,q1,q2,Y⟩, -⟩:=aL T.out;by_cases D:k<t.ks.len
          · obtain ⟨t2,o,I⟩:=eV D
            obtain ⟨u2,M,E⟩:=eV (show k<s.len by rw [HL.out];exact D);obtain ⟨b,off,a3,c3,ha,hG,m,⟨p0,p1,p2,p3⟩,B⟩:=cP (R.out.kept N.out) o;obtain ⟨l,d,a4,c4,ja,je,f,⟨p4,p5,p6,Z⟩,A⟩:=cP (R2.out.kept N.out) M;have O:=aA (show (dF t2 u2 && fJ (t.ks.drop (k+1)) (s.drop (k+1)))=r from (uB I E).symm.trans hE.out);have g:Below wr.heap.size wr wr.drew:=⟨rfl,rfl,rfl,Td _,fun _ _=>rfl⟩;have C:=aA ((fU.at IH.out o) G H wr.drew a3 a4 c3 c4 u2 (LK.out.at o) (B.kept g) (A.kept g));subst ha ja;obtain ⟨y,hy⟩:∃ y,dF t2 u2=y:=⟨_,rfl⟩;rw [hy] at C O;have j:=aA (p:=∀ w',Below wr.heap.size wr w'->(w'.cell? ⟨w.heap.size,3,none⟩=some (.slice (some ⟨b,off,none⟩) t.ks.len c)/\w'.cell? ⟨w.heap.size+1,3,none⟩=some (.slice (some ⟨l,d,none⟩) t.ks.len c2)/\w'.cell? ⟨b,off+k*4,none⟩=some (.string t2.op)/\w'.cell? ⟨b,off+k*4+1,none⟩=some (.string t2.nm)/\w'.cell? ⟨b,off+k*4+2,none⟩=some (.int .i64 t2.n)/\w'.cell? ⟨b,off+k*4+3,none⟩=some (.slice a3 t2.ks.len c3)/\w'.cell? ⟨l,d+k*4,none⟩=some (.string u2.op)/\w'.cell? ⟨l,d+k*4+1,none⟩=some (.string u2.nm)/\w'.cell? ⟨l,d+k*4+2,none⟩=some (.int .i64 u2.n)/\w'.cell? ⟨l,d+k*4+3,none⟩=some (.slice a4 u2.ks.len c4))) (fun w' h=>⟨(h.cell (aG S.out)).trans m3,(h.cell (aG T.out)).trans Y,(h.cell m).trans p0,(h.cell m).trans p1,(h.cell m).trans p2,(h.cell m).trans p3,(h.cell f).trans p4,(h.cell f).trans p5,(h.cell f).trans p6,(h.cell f).trans Z⟩);clear o I M E B A hy g;go_wp2_with fail
            go_region_held3 (fun w'=>w'.cell? ⟨w.heap.size,3,none⟩=some (.slice (some ⟨b,off,none⟩) t.ks.len c)/\w'.cell? ⟨w.heap.size+1,3,none⟩=some (.slice (some ⟨l,d,none⟩) t.ks.len c2)/\w'.cell? ⟨b,off+k*4,none⟩=some (.string t2.op)/\w'.cell? ⟨b,off+k*4+1,none⟩=some (.string t2.nm)/\w'.cell? ⟨b,off+k*4+2,none⟩=some (.int .i64 t2.n)/\w'.cell? ⟨b,off+k*4+3,none⟩=some (.slice a3 t2.ks.len c3)/\w'.cell? ⟨l,d+k*4,none⟩=some (.string u2.op)/\w'.cell? ⟨l,d+k*4+1,none⟩=some (.string u2.nm)/\w'.cell? ⟨l,d+k*4+2,none⟩=some (.int .i64 u2.n)/\w'.cell? ⟨l,d+k*4+3,none⟩=some (.slice a4 u2.ks.len c4)) (first | exact ⟨m3,Y,p0,p1,p2,p3,p4,p5,p6,Z⟩ | exact j.out _ P.out) (first
             | (go_at_call 70
                with_reducible refine C.out.mono ?_
                rintro e w2 ⟨rfl,hb⟩;have P:=aA ((aT wr).trans hb);clear hb)
             | fail)
            have hz:=N.out.size;have N2:=aA ((P.out.block _ (aG S.out)).trans S.out);have M2:=aA ((P.out.block _ (aG T.out)).trans T.out);have B3:=aA (N.out.trans (P.out.mono hz));clear P C j m0 m1 m2 m3 q0 q1 q2 Y p0 p1 p2 p3 p4 p5 p6 Z;cases y with
            | true =>
              have jb:=aA ((Bool.true_and _).symm.trans O.out);clear O;go_wp2_with fail
              go_roundw
              case rel=>exact ⟨k+1,by go_num,by omega,jb,B3,N2,M2⟩
              case measure=>simp [intOf];omega
            | false =>
              have z:=aA (show false=r from (Bool.false_and _).symm.trans O.out);clear O;go_wp2_with fail
              go_ret;rw [z.out];exact ⟨rfl,B3.out⟩
          · have z:=aA (show true=r by rw [<- hE.out,F.drop_len _ _ (by omega),F.drop_len _ _ (by rw [HL.out];omega)];rfl)
            go_wp2_with fail
            go_ret;rw [z.out];exact ⟨rfl,N.out⟩
   · have z:=aA (show false=r by rw [<- x];simp [h2])
     clear x;go_enter func70,ntmps70
     go_wp2_with fail
     go_ret;rw [z.out];exact ⟨rfl,B0.out⟩
theorem mI (t:TN):G9 t:=qA IN t
def dig (m:Nat):Tr:=⟨#[UInt8.ofNat (48+m % 10)]⟩
def wK (m:Nat):Tq:=if m<10 then [] else Tl (m / 10)
theorem BJ (m:Nat):Tl m=wK m++(dig m).data.toList:=by
 unfold wK;by_cases h:m<10
 · rw [if_pos h,Tl,dif_pos h];simp [dig,Nat.mod_eq_of_lt h]
 · rw [if_neg h,Tl,dif_neg h];simp [dig]
theorem zS (w:World) (m:Nat):(convert 54 9 (.slice (some ⟨w.heap.size,0,none⟩) 1 1)).run prog (w.alloc (.cells #[.int .u8 (48+(m:Int) % 10)] 5))=.ok (.string (dig m)) (w.alloc (.cells #[.int .u8 (48+(m:Int) % 10)] 5)):=by
 have:=run_convert_bytes_back (P:=prog) (w.alloc (.cells #[.int .u8 (48+(m:Int) % 10)] 5)) 54 9 5 ⟨w.heap.size,0,none⟩ 1 [UInt8.ofNat (48+m % 10)] underlying54 underlying5 underlying9 (fun j a=>by
  obtain rfl:j=0:=by simpa using a
  have e:((UInt8.ofNat (48+m % 10)).toNat:Int)=48+(m:Int) % 10:=by
   rw [UInt8.toNat_ofNat'];omega
  simp only [List.getElem_cons_zero,e];exact cell_one_new w _ _ 0 _ rfl)
 exact this
theorem GM {n:Nat} (hn:n<=9223372036854775807):(Tl n).length<=21:=by
 have:=rD 18 n (by omega);omega
theorem zT (n:Nat) (hn:n<=9223372036854775807) (w:World):Calls prog 76 #[.int .i64 n] w fun e w'=>e=.returned (.string ⟨(Tl n).toArray⟩)/\Below w.heap.size w w':=by
 have a:=zS w n;have f:=aA (fun w m=>zS w m);have j:((n:Int) == -9223372036854775808)=false:=by rw [beq_eq_false_iff_ne];omega
 have g:decide ((n:Int)<0)=false:=decide_eq_false (by omega);have ql:=aA (GM hn);go_enter func76,ntmps76
 go_wp2
 go_loopw [0,3] (fun v t wr=>∃ (m:Nat) (T:Tr),m<=9223372036854775807/\v=.int .i64 m/\t=.string T/\Hid (Tl n=wK m++T.data.toList)/\Hid (Below w.heap.size w wr)) (fun v _ _=>(intOf v).toNat)
 case atStart=>exact ⟨n,dig n,hn,rfl,rfl,aA (BJ n),aA (bA0 _ _)⟩
 case round =>
  obtain ⟨m,T,k,rfl,rfl,hd,d⟩:=hrel;clear a;by_cases h:10<=m
  · have a:(convert 54 9 (.slice (some ⟨wr.heap.size,0,none⟩) 1 1)).run prog (wr.alloc (.cells #[.int .u8 (48+(m:Int) / 10 % 10)] 5))=.ok (.string (dig (m / 10))) (wr.alloc (.cells #[.int .u8 (48+(m:Int) / 10 % 10)] 5)):=f.out wr (m / 10)
    have b:=aA (show Tl n=wK (m / 10)++(dig (m / 10)++T).data.toList by
     rw [hd.out,show wK m=Tl (m / 10) by unfold wK;rw [if_neg (by omega)],BJ (m / 10)];simp)
    have c:=aA (d.out.alloc (by have:=d.out.size;exact this) (.cells #[.int .u8 (48+(m:Int) / 10 % 10)] 5))
    have l:T.size<=21:=by
     have:=congrArg List.length hd.out;rw [Tb] at this;have e:T.data.toList.length=T.size:=by simp
     have:=ql.out;omega
    have o:(dig (m / 10)).size<=1:=Td _;go_wp2
    exact ⟨⟨m / 10,dig (m / 10)++T,by omega,rfl,rfl,b,c⟩,by simp [intOf];omega⟩
  · go_wp2
    go_ret;refine ⟨?_,d.out⟩;rw [hd.out,show wK m=[] by unfold wK;rw [if_pos (by omega)]];rfl
def tZ (t:TN):Prop:=∀ (G:Nat->Prop) (w:World) (a:Tp) (c:Nat),(aV t).length<=4000->aK G w a t.ks->Calls prog 75 #[bN t.op t.nm t.n a t.ks.len c] w fun e w'=>e=.returned (.string ⟨(aV t).toArray⟩)/\Below w.heap.size w w'
theorem bG {o:Tr} {x:Tq} (h:(o.data.toList == x)=true):(o.toList == x)=true:=by rw [Tm];exact h
theorem aH {o:Tr} {x:Tq} (h:(o.data.toList == x)=false):(o.toList == x)=false:=by rw [Tm];exact h
theorem Oi (o m:Tr) (n:Int) (b:bZ o=true) (h:0<=n) (hn:n<=9223372036854775807):tZ ⟨o,m,n,.nil⟩:=by
 intro G w a c hl hr;rw [(mB b).1];clear hl hr;dsimp only;have j:=bG b;unfold l6 at j;obtain ⟨k,rfl⟩:∃ k:Nat,n=k:=⟨n.toNat,by omega⟩;have D:=aA (fun V=>zT k (by omega) V);have R:=aA (show Lib.itoa (k:Int)=Tl k by rw [Lib.itoa,if_neg (by omega),Int.toNat_natCast]);have g:=aA (heap_alloc_new w (ndO o m k a F.nil.len c));have d:=aA (bA0 w (ndO o m k a F.nil.len c));clear h hn b;go_enter func75,ntmps75
 go_wp2_with fail
 generalize w.alloc (ndO o m k a F.nil.len c)=W at g d |-
 obtain ⟨⟨t,s,r,q⟩, -⟩:=aL g.out;go_wp2_with fail
 refine (D.out _).mono ?_;rintro e p ⟨rfl,f⟩;have l:=aA (d.out.trans (f.mono d.out.size));clear f;go_wp2_with fail
 go_ret;rw [R.out];exact ⟨rfl,l.out⟩
theorem KI (o m:Tr) (n:Int) (d:bZ o=false) (b:bT o=true):tZ ⟨o,m,n,.nil⟩:=by
 intro G w a c hl hr;rw [(kK d b).1,kS];clear hl hr;dsimp only;have g:=aH d;have f:=bG b;unfold l6 at g;unfold iR at f;have h:=aA (bA0 w (ndO o m n a F.nil.len c));clear d b;go_enter func75,ntmps75
 go_wp2_with fail
 go_ret;exact ⟨rfl,h.out⟩
theorem Oj (o m:Tr) (n:Int) (t:TN) (q:bZ o=false) (p:bT o=false) (l:fM o=true) (y:tZ t):tZ ⟨o,m,n,t.f⟩:=by
 intro G w a c hl hr;rw [(kW t q p l).1] at hl |-
 dsimp only at hr |-
 rw [show t.f.len=1 from rfl];have I:=aH q;have H:=aH p;have D:=bG l;unfold l6 at I;unfold iR at H;unfold iQ at D;rw [Te] at hl;obtain ⟨T,h⟩:∃ T,aV t=T:=⟨_,rfl⟩;rw [h] at hl |-
 have A:=aA (heap_alloc_new w (ndO o m n a 1 c));have j:=aA (bA0 w (ndO o m n a 1 c));obtain ⟨b,off,a2,c2,ha,U,k,⟨x,u,s,r⟩,g⟩:=cP (hr.kept j.out) (show t.f.at 0=some t from rfl);have C:=aA (y G (w.alloc (ndO o m n a 1 c)) a2 c2 (by rw [h];omega) g);rw [h] at C;rw [Nat.zero_mul,Nat.add_zero] at x u s r;subst ha;have B:(⟨T.toArray⟩:Tr).size<=4000:=by show T.toArray.size<=4000;simp;omega
 obtain ⟨S,d⟩:∃ S:Tr,⟨T.toArray⟩=S:=⟨_,rfl⟩;have E:=aA (show (⟨(45::T).toArray⟩:Tr)=⟨#[45]⟩++S from dO (by rw [<- d];simp));rw [d] at C B;clear q p l hr y hl h g d;go_enter func75,ntmps75
 go_wp2_with fail
 generalize w.alloc (ndO o m n (some ⟨b,off,none⟩) 1 c)=W at A j C k x u s r |-
 obtain ⟨⟨R,P,O,N⟩, -⟩:=aL A.out;go_wp2_with fail
 refine C.out.mono ?_;rintro e M ⟨rfl,z⟩;have L:=aA (j.out.trans (z.mono j.out.size));clear z;go_wp2_with fail
 go_ret;rw [E.out];exact ⟨rfl,L.out⟩
theorem Oh (o m:Tr) (n:Int) (t u:TN) (h1:bZ o=false) (h2:bT o=false) (h3:fM o=false) (h4:lF o=true) (ih:tZ t) (iu:tZ u):tZ ⟨o,m,n,.cons t.op t.nm t.n t.ks u.f⟩:=by
 intro G w a c hl hr;rw [(kV t u h1 h2 h3).1] at hl |-
 dsimp only at hr |-
 rw [show (F.cons t.op t.nm t.n t.ks u.f).len=2 from rfl];have g1:=aH h1;have g2:=aH h2;have g3:=aH h3;unfold l6 at g1;unfold iR at g2;unfold iQ at g3
 have ja:o.size=1:=by
  obtain ⟨_,x,hx,_⟩:=sQ h4;have:o.data.toList.length=1:=by rw [hx];rfl
  rw [<- this];simp
 simp only [Te,Tb,List.length_nil] at hl;obtain ⟨T,X⟩:∃ T,aV t=T:=⟨_,rfl⟩;obtain ⟨U,R⟩:∃ U,aV u=U:=⟨_,rfl⟩;rw [X,R] at hl |-
 have NB:=aA (heap_alloc_new w (ndO o m n a 2 c));have P:=aA (bA0 w (ndO o m n a 2 c));obtain ⟨b,off,a2,c2,ha,hG,g,⟨H,B,A,z⟩,L⟩:=cP (hr.kept P.out) (show (F.cons t.op t.nm t.n t.ks u.f).at 0=some t from rfl);obtain ⟨b',jc,a3,c3,jb,jd,N,⟨y,s,r,q⟩,I⟩:=cP (hr.kept P.out) (show (F.cons t.op t.nm t.n t.ks u.f).at 1=some u from rfl);subst ha;cases jb;have C:=aA (ih G (w.alloc (ndO o m n (some ⟨b,off,none⟩) 2 c)).drew a2 c2 (by rw [X];omega) (L.kept (aT _)));have D:=aA (fun V (hV:Below (w.alloc (ndO o m n (some ⟨b,off,none⟩) 2 c)).heap.size (w.alloc (ndO o m n (some ⟨b,off,none⟩) 2 c)) V)=>iu G V a3 c3 (by rw [R];omega) (I.kept hV));rw [X] at C;rw [R] at D;rw [Nat.zero_mul,Nat.add_zero] at H B A z;rw [Nat.one_mul] at y s r q;have hS:(⟨T.toArray⟩:Tr).size<=4000:=by show T.toArray.size<=4000;simp;omega
 have hV:(⟨U.toArray⟩:Tr).size<=4000:=by show U.toArray.size<=4000;simp;omega
 obtain ⟨S,k⟩:∃ S:Tr,⟨T.toArray⟩=S:=⟨_,rfl⟩;obtain ⟨V,j⟩:∃ S:Tr,⟨U.toArray⟩=S:=⟨_,rfl⟩;have E:=aA (show (⟨(40::(T++32::(o.data.toList++32::(U++[41])))).toArray⟩:Tr)=⟨#[40]⟩++S++⟨#[32]⟩++o++⟨#[32]⟩++V++⟨#[41]⟩ from dO (by rw [<- k, <- j];simp));rw [k] at C hS;rw [j] at D hV;have z1:(9223372036854775807<1+S.size)=False:=by rw [eq_iff_iff,iff_false];omega
 have z2:(9223372036854775807<1+S.size+1)=False:=by rw [eq_iff_iff,iff_false];omega
 have z3:(9223372036854775807<1+S.size+1+o.size)=False:=by rw [eq_iff_iff,iff_false];omega
 have z4:(9223372036854775807<1+S.size+1+o.size+1)=False:=by rw [eq_iff_iff,iff_false];omega
 have z5:(9223372036854775807<1+S.size+1+o.size+1+V.size)=False:=by rw [eq_iff_iff,iff_false];omega
 have z6:(9223372036854775807<1+S.size+1+o.size+1+V.size+1)=False:=by rw [eq_iff_iff,iff_false];omega
 clear h1 h2 h3 h4 hr ih iu hl X R L I k j ja;go_enter func75,ntmps75
 go_wp2_with fail
 generalize w.alloc (ndO o m n (some ⟨b,off,none⟩) 2 c)=W at NB P C D g N H B A z y s r q |-
 obtain ⟨⟨m0,m1,m2,Z⟩, -⟩:=aL NB.out;have M:=aG NB.out;have d:=aA (p:=∀ w',Below W.heap.size W w'->(w'.cell? ⟨w.heap.size,0,none⟩=some (.string o)/\w'.cell? ⟨w.heap.size,3,none⟩=some (.slice (some ⟨b,off,none⟩) 2 c)/\w'.cell? ⟨b,off,none⟩=some (.string t.op)/\w'.cell? ⟨b,off+1,none⟩=some (.string t.nm)/\w'.cell? ⟨b,off+2,none⟩=some (.int .i64 t.n)/\w'.cell? ⟨b,off+3,none⟩=some (.slice a2 t.ks.len c2)/\w'.cell? ⟨b,off+4,none⟩=some (.string u.op)/\w'.cell? ⟨b,off+4+1,none⟩=some (.string u.nm)/\w'.cell? ⟨b,off+4+2,none⟩=some (.int .i64 u.n)/\w'.cell? ⟨b,off+4+3,none⟩=some (.slice a3 u.ks.len c3))) (fun w' h=>⟨(h.cell M).trans m0,(h.cell M).trans Z,(h.cell g).trans H,(h.cell g).trans B,(h.cell g).trans A,(h.cell g).trans z,(h.cell g).trans y,(h.cell g).trans s,(h.cell g).trans r,(h.cell g).trans q⟩);go_wp2_with fail
 go_region_held3 (fun w'=>w'.cell? ⟨w.heap.size,0,none⟩=some (.string o)/\w'.cell? ⟨w.heap.size,3,none⟩=some (.slice (some ⟨b,off,none⟩) 2 c)/\w'.cell? ⟨b,off,none⟩=some (.string t.op)/\w'.cell? ⟨b,off+1,none⟩=some (.string t.nm)/\w'.cell? ⟨b,off+2,none⟩=some (.int .i64 t.n)/\w'.cell? ⟨b,off+3,none⟩=some (.slice a2 t.ks.len c2)/\w'.cell? ⟨b,off+4,none⟩=some (.string u.op)/\w'.cell? ⟨b,off+4+1,none⟩=some (.string u.nm)/\w'.cell? ⟨b,off+4+2,none⟩=some (.int .i64 u.n)/\w'.cell? ⟨b,off+4+3,none⟩=some (.slice a3 u.ks.len c3)) (first | assumption | exact ⟨m0,Z,H,B,A,z,y,s,r,q⟩ | exact d.out _ Y.out | exact d.out _ l.out) (first
  | (go_at_call 75
     with_reducible refine C.out.mono ?_
     rintro e w2 ⟨rfl,O⟩;have l:=aA ((aT W).trans O);have cc:=d.out _ l.out;clear O)
  | (go_at_call 75
     with_reducible refine (D.out _ l.out).mono ?_
     rintro e w3 ⟨rfl,O⟩;have Y:=aA (l.out.trans (O.mono l.out.size));have cd:=d.out _ Y.out;clear O)
  | fail)
 have B4:=aA (P.out.trans (Y.out.mono P.out.size));clear Y l C D d m0 m1 m2 Z H B A z y s r q;go_wp2_with fail
 go_ret;rw [E.out];exact ⟨rfl,B4.out⟩
theorem pX (t:TN) (h:OkT t) (hn:dU t.f):tZ t :=
 gF (P:=tZ) (fun o m n a b c=>Oi o m n a b c) (fun o m n a b _=>KI o m n a b) (fun o m n t a b c g=>Oj o m n t a b c g) (fun o m n t u a b c d g j=>Oh o m n t u a b c d g j) t h hn
theorem Ss:(prog.info? 9).map (fun i=>(i.zero,i.size,i.bytes))=some (some (.string ⟨#[]⟩),1,16):=by kernel_rfl
def lW (w:World):Prop:=∃ t f,w.heap[1]? = some (.cells (Lib.pow10Tab.map fun z=>Value.int .u64 z).toArray t f)
theorem zI (n:Int) (d: -9223372036854775808<=n) (c:n<=9223372036854775807) (w:World) (a:lW w) :
 Calls prog 131 #[.int .i64 n,.int .i64 10] w fun e w'=>e=.returned (.string ⟨(Lib.itoa n).toArray⟩)/\Below w.heap.size w w':=by
 obtain ⟨t,f,b⟩:=a;refine (strconv_FormatInt_10 n d c w (Fv (by kernel_rfl) b)).mono ?_;rintro e w' ⟨rfl,k,os,rfl⟩;exact ⟨rfl,Lib.below_grow _ _ (Td _) _ _⟩
inductive OkI:TN->Prop
 | num (o m:Tr) (n:Int):bZ o=true->0<=n->n<=9223372036854775807->OkI ⟨o,m,n,.nil⟩
 | name (o m:Tr) (n:Int):bZ o=false->bT o=true->cD m.data.toList=true->OkI ⟨o,m,n,.nil⟩
 | neg (o m:Tr) (n:Int) (a:TN):bZ o=false->bT o=false->fM o=true->OkI a->OkI ⟨o,m,n,a.f⟩
 | two (o m:Tr) (n:Int) (a b:TN):bZ o=false->bT o=false->fM o=false->lF o=true->OkI a->OkI b->OkI ⟨o,m,n,.cons a.op a.nm a.n a.ks b.f⟩
theorem Rc (t:TN) (h:OkT t) (hn:dU t.f):OkI t :=
 gF (P:=OkI) (fun o m n a b c=>.num o m n a b c) (fun o m n a b c=>.name o m n a b c) (fun o m n t a b c g=>.neg o m n t a b c g) (fun o m n t u a b c d g j=>.two o m n t u a b c d g j) t h hn
def NN (t:TN):Prop:=OkI t/\(aV t).length<=4000
theorem Sf {t t2:TN} {j:Nat} (h:NN t) (c:t.ks.at j=some t2):NN t2:=by
 obtain ⟨h,hl⟩:=h;cases h with
 | num o m n _ _ _=>cases c
 | name o m n _ _ _=>cases c
 | neg o m n a h1 h2 h3 h4 =>
   match j,c with
   | 0, c =>
     have:a=t2:=Option.some.inj c;subst this;rw [(kW a h1 h2 h3).1,Te] at hl;exact ⟨h4,by omega⟩
   | j+1,c=>cases c
 | two o m n a b h1 h2 h3 h4 h5 h6 =>
   rw [(kV a b h1 h2 h3).1] at hl;simp only [Te,Tb,List.length_nil] at hl;match j,c with
   | 0, c =>
     have:a=t2:=Option.some.inj c;subst this;exact ⟨h5,by omega⟩
   | 1, c =>
     have:b=t2:=Option.some.inj c;subst this;exact ⟨h6,by omega⟩
   | j+2,c=>cases c
def WdT (lb:Nat) (w:World):Prop:=lW w/\lb ≠ 1
theorem wdT {w w':World} {lb:Nat} (h:WdT lb w) (b:aC (· = lb) w w'):WdT lb w':=by
 obtain ⟨⟨t,f,c⟩,a⟩:=h;exact ⟨⟨t,f,b.heap c (fun e=>a e.symm)⟩,a⟩
def oQ (_:Nat->Prop) (_:World) (t:TN) (v:Value):Prop:=v=.string ⟨(aV t).toArray⟩
theorem mM {G H:Nat->Prop} {w:World} {t:TN} {v:Value} (h:oQ G w t v) (_:∀ b,b<w.heap.size->G b->H b):oQ H w t v:=h
theorem nJ {S G:Nat->Prop} {w w':World} {t:TN} {v:Value} (h:oQ G w t v) (_:aC S w w') (_:∀ k,S k->¬ G k):oQ G w' t v:=h
theorem QK {G:Nat->Prop} {w:World} {t:TN} {v:Value} (h:oQ G w t v):∃ z,v=.string z:=⟨_,h⟩
theorem SP {G:Nat->Prop} {w:World} {t:TN} {v:Value} (h:oQ G w t v):v.oneCell'=true:=by rw [h];rfl
theorem Pe (t:TN) (w:World) (G:Nat->Prop) (a:Tp) (c:Nat) (va:Tp) (vc:Nat) (vs:List Value) (base:Nat) (U:NN t) {lb:Nat} (O:WdT lb w) (_:aK G w a t.ks) (ho:w.ownsRow base 9 1 (.slice va t.ks.len vc) t.ks.len vs)
 (H:∀ j t2,t.ks.at j=some t2->∃ v,vs[j]? = some v/\oQ (fun b=>base<=b/\(Tj va t.ks.len vc).ownBlock ≠ some b) w t2 v) :
 Calls prog 133 #[bN t.op t.nm t.n a t.ks.len c,.slice va t.ks.len vc] w fun e w'=>∃ v,e=.returned v/\oQ (fun b=>w.heap.size<=b) w' t v/\Below w.heap.size w w':=by
 have M:=bA0 w (ndG t.op t.nm t.n a t.ks.len c);have A:=heap_alloc_new w (ndG t.op t.nm t.n a t.ks.len c);have O1:=aA (cK ho M)
 have LT:lW (w.alloc (ndG t.op t.nm t.n a t.ks.len c)):=by
  obtain ⟨⟨t',f,d⟩,_⟩:=O;exact ⟨t',f,(M.block _ (Array.getElem?_eq_some_iff.1 d).1).trans d⟩
 generalize hW:w.alloc (ndG t.op t.nm t.n a t.ks.len c)=W at M A O1 LT;have L:=aA hW;have E:=aA M;have jd:=aA LT;have ja:=M.size;have D:=aA (fun w=>sF t.op w);have P:=aA (p:=∀ s:Tr,s=⟨(aV t).toArray⟩->∀ W',Below w.heap.size w W'->∃ v,Ending.returned (.string s)=.returned v/\oQ (fun b=>w.heap.size<=b) W' t v/\Below w.heap.size w W') (fun s hs W' Y=>⟨_,rfl,by rw [hs];rfl,Y⟩);obtain ⟨hi,hl⟩:=U;clear hW M ho LT O;cases hi with
 | num o m n d h0 h9 =>
   have I:=bG d;unfold l6 at I;have ha:cV o=0:=by unfold cV;rw [d];rfl
   have l:=(mB (m:=m) (n:=n) (ks:=.nil) d).1;have C:=aA (zI n (by omega) h9 W jd.out);have B:=aA (P.out ⟨(Lib.itoa n).toArray⟩ (by rw [l]));obtain ⟨⟨m0,m1,m2,N⟩, -⟩:=aL A;dsimp only at *;rw [ha] at D;rw [show F.nil.len=0 from rfl] at *;clear P l ha d h0 h9 hl H A;go_enter func133,ntmps133
   go_upto_region 1 with fail
   rw [L.out];go_upto_region 5 with (go_at_call 186;refine (D.out _).mono ?_;rintro e w' ⟨rfl,rfl⟩)
   go_wp2_with fail
   refine C.out.mono ?_;rintro e w1 ⟨rfl,Y⟩;have P3:=aA (B.out w1 (E.out.trans (Y.mono ja)));clear Y;go_wp2_with fail
   go_ret;exact P3.out
 | name o m n d h2 h3 =>
   have I:=aH d;have X:=bG h2;unfold l6 at I;unfold iR at X;have ha:cV o=0:=by unfold cV;rw [d,h2];rfl
   have l:=(kK (m:=m) (n:=n) (ks:=.nil) d h2).1;have B:=aA (P.out m (by rw [l]) W E.out);obtain ⟨⟨m0,m1,m2,N⟩, -⟩:=aL A;dsimp only at *;rw [ha] at D;rw [show F.nil.len=0 from rfl] at *;clear P l ha d h2 h3 hl H A;go_enter func133,ntmps133
   go_upto_region 1 with fail
   rw [L.out];go_wp2_with (go_at_call 186;refine (D.out _).mono ?_;rintro e w' ⟨rfl,rfl⟩)
   go_ret;exact B.out
 | neg o m n t1 d h2 h3 h4 =>
   have I:=aH d;have X:=aH h2;have g3:=bG h3;unfold l6 at I;unfold iR at X;unfold iQ at g3;have ha:cV o=1:=by unfold cV;rw [d,h2,h3];rfl
   have l:=(kW (m:=m) (n:=n) t1 d h2 h3).1;rw [l,Te] at hl;obtain ⟨v,r,q⟩:=H 0 t1 rfl;unfold oQ at q;subst q;obtain ⟨g,cc,h, -, -,k⟩:=fL O1.out (by show (1:Nat) ≠ 0;decide);have hx:=k 0 _ r;obtain ⟨S,z⟩:∃ S:Tr,⟨(aV t1).toArray⟩=S:=⟨_,rfl⟩;have jc:S.size<=4000:=by rw [<- z];show (aV t1).toArray.size<=_;rw [List.size_toArray];omega
   have B:=aA (P.out (⟨#[45]⟩++S) (by rw [l, <- z];exact dO (by simp)) W E.out);rw [z] at hx;obtain ⟨⟨m0,m1,m2,N⟩, -⟩:=aL A;dsimp only at *;rw [ha] at D;have y:t1.f.len=1:=rfl;rw [y] at L N h |-
   simp only [Value.slice.injEq,true_and] at h;obtain ⟨rfl,rfl⟩:=h;clear P l ha d h2 h3 h4 hl H A r k z y;go_enter func133,ntmps133
   go_upto_region 1 with fail
   rw [L.out];go_wp2_with (go_at_call 186;refine (D.out _).mono ?_;rintro e w' ⟨rfl,rfl⟩)
   go_ret;exact B.out
 | two o m n t1 t2 d h2 h3 h4 h5 h6 =>
   have I:=aH d;have X:=aH h2;have g3:=aH h3;unfold l6 at I;unfold iR at X;unfold iQ at g3;have ha:cV o=2:=by unfold cV;rw [d,h2,h3,h4];rfl
   have jb:o.size=1:=by
    obtain ⟨_,x,hx,_⟩:=sQ h4;have:o.data.toList.length=1:=by rw [hx];rfl
    rw [<- this];simp
   have l:=(kV (m:=m) (n:=n) t1 t2 d h2 h3).1;rw [l] at hl;simp only [Te,Tb,List.length_nil] at hl;obtain ⟨v,r,q⟩:=H 0 t1 rfl;unfold oQ at q;subst q;obtain ⟨u,T,R⟩:=H 1 t2 rfl;unfold oQ at R;subst R;obtain ⟨g,cc,h, -, -,k⟩:=fL O1.out (by show (2:Nat) ≠ 0;decide);have hx:=k 0 _ r;have hy:=k 1 _ T;obtain ⟨S,z⟩:∃ S:Tr,⟨(aV t1).toArray⟩=S:=⟨_,rfl⟩;obtain ⟨V,Z⟩:∃ S:Tr,⟨(aV t2).toArray⟩=S:=⟨_,rfl⟩;have jc:S.size<=4000:=by rw [<- z];show (aV t1).toArray.size<=_;rw [List.size_toArray];omega
   have je:V.size<=4000:=by rw [<- Z];show (aV t2).toArray.size<=_;rw [List.size_toArray];omega
   have B:=aA (P.out (⟨#[40]⟩++S++⟨#[32]⟩++o++⟨#[32]⟩++V++⟨#[41]⟩) (by rw [l, <- z, <- Z];exact dO (by simp)));have P3:=aA (fun n=>B.out (W.drewN n) ⟨E.out.os,E.out.tape,E.out.output,E.out.size,E.out.block⟩);rw [z] at hx;rw [Z] at hy;have z1:(9223372036854775807<1+S.size)=False:=by rw [eq_iff_iff,iff_false];omega
   have z2:(9223372036854775807<1+S.size+1)=False:=by rw [eq_iff_iff,iff_false];omega
   have z3:(9223372036854775807<1+S.size+1+o.size)=False:=by rw [eq_iff_iff,iff_false];omega
   have z4:(9223372036854775807<1+S.size+1+o.size+1)=False:=by rw [eq_iff_iff,iff_false];omega
   have z5:(9223372036854775807<1+S.size+1+o.size+1+V.size)=False:=by rw [eq_iff_iff,iff_false];omega
   have z6:(9223372036854775807<1+S.size+1+o.size+1+V.size+1)=False:=by rw [eq_iff_iff,iff_false];omega
   obtain ⟨⟨m0,m1,m2,N⟩, -⟩:=aL A;dsimp only at *;rw [ha] at D;have y:(F.cons t1.op t1.nm t1.n t1.ks t2.f).len=2:=rfl;rw [y] at L N h |-
   simp only [Value.slice.injEq,true_and] at h;obtain ⟨rfl,rfl⟩:=h;clear P B l ha d h2 h3 h4 h5 h6 hl H A r T k z Z y jb;go_enter func133,ntmps133
   go_upto_region 1 with fail
   rw [L.out];go_upto_region 10 with (go_at_call 186;refine (D.out _).mono ?_;rintro e w' ⟨rfl,rfl⟩)
   go_wp2_with (go_quiet (fail))
   go_ret;exact P3.out _
def kL:F->List TN
 | .nil=>[]
 | .cons o m n k r=>⟨o,m,n,k⟩::kL r
theorem Gl:∀ f:F,(kL f).length=f.len
 | .nil=>rfl
 | .cons o m n k r=>by rw [kL,Te,Gl r,F.len]
theorem Qy:∀ {f:F} {j:Nat} {t:TN},f.at j=some t->(kL f)[j]? = some t
 | .nil,_,_,h=>by cases h
 | .cons o m n k r, 0, t, h => by
   have:(⟨o,m,n,k⟩:TN)=t:=Option.some.inj h;rw [kL, <- this];rfl
 | .cons o m n k r,j+1,t,h=>Qy (f:=r) h
theorem Py {f:F} {k:Nat} {t:TN} (h:f.at k=some t):(kL f).take (k+1)=(kL f).take k++[t]:=by
 have b:=Qy h;obtain ⟨a,e⟩:=List.getElem?_eq_some_iff.1 b;rw [List.take_succ_eq_append_getElem a,e]
theorem E9 {G:Nat->Prop} {w:World} {t:TN} {p:Tp×Nat}:∀ {l:List TN} {q:List (Tp×Nat)},DnK G w l q->aK G w p.1 t.ks->DnK G w (l++[t]) (q++[p])
 | [],[],_,h=>⟨h,trivial⟩
 | _::_,_::_,h,h2=>⟨h.1,E9 h.2 h2⟩
 | [],_::_,h,_=>h.elim
 | _::_,[],h,_=>h.elim
theorem vO {G:Nat->Prop} {w:World} {g:Nat} (d:G g) (a:g<w.heap.size):∀ {f:F} {q:List (Tp×Nat)} {off:Nat},(∀ j u,(uN (kL f) q)[j]? = some u->w.cell? ⟨g,off+j,none⟩=some u)->DnK G w (kL f) q->eF G w f g off
 | .nil,_,_,_,_=>trivial
 | .cons o m n k r,[],_,_,hd=>hd.elim
 | .cons o m n k r, p :: q, off, hc, hd => by
   refine qH (t:=⟨o,m,n,k⟩) (q:=p) d a (fun j u b=>?_) hd.1 (vO d a (q:=q) (off:=off+4) (fun j u b=>?_) hd.2)
   · have c:j<4:=(List.getElem?_eq_some_iff.1 b).1
     refine hc j u ?_;rw [kL,uN,List.getElem?_append_left (by exact c)];exact b
   · have h:=hc (4+j) u (by
      rw [kL,uN,List.getElem?_append_right (by show 4<=_;omega),show 4+j-(ndL ⟨o,m,n,k⟩ p).length=j by show 4+j-4=j;omega];exact b)
     rw [<- Nat.add_assoc] at h;exact h
def NP (t:TN):Prop:=∀ (G:Nat->Prop) (w:World) (a:Tp) (c:Nat),aR t<=1000->aK G w a t.ks->Calls prog 125 #[bN t.op t.nm t.n a t.ks.len c] w fun e w'=>∃ a2 c2,e=.returned (bN t.op t.nm t.n a2 t.ks.len c2)/\bD w.heap.size w' a2 t.ks/\Below w.heap.size w w'
theorem OC:(prog.info? 79).map (fun i=>(i.zero,i.size,i.bytes))=some (some (.agg #[.string ⟨#[]⟩,.string ⟨#[]⟩,.int .i64 0,.slice none 0 0]),4,64):=by kernel_rfl
theorem QR (w:World) (t:TN) (a:Tp) (c:Nat):∀ j u,(ndL t (a,c))[j]? = some u->(w.alloc (ndO t.op t.nm t.n a t.ks.len c)).cell? ((⟨w.heap.size,0,none⟩:Addr).add j)=some u:=fun j u b=>by
 have e:ndL t (a,c)=(#[.string t.op,.string t.nm,.int .i64 t.n,.slice a t.ks.len c]:Array Value).toList:=rfl;rw [e] at b;rw [Addr.add_lit,Nat.zero_add,cell_of_row _ _ _ _ _ (0,0) (heap_alloc_new w _)];simpa using b
theorem Gy {W:World} {B:Nat} {c b a d:Value} {t:TypeId} (h:W.heap[B]? = some (.cells #[c,b,a,d] t (0,0))) (u:Value):(W.setCell ⟨B,3,none⟩ u).heap[B]? = some (.cells #[c,b,a,u] t (0,0)):=by
 have:=heap_setCell_same W B 3 _ t u h;simpa using this
structure LO (w:World) (t:TN) (a:Tp) (c:Nat) (k:Nat) (va:Tp) (vc:Nat) (q:List (Tp×Nat)) (V:World):Prop where
 b:Below w.heap.size w V
 bx:V.heap[w.heap.size]? = some (ndG t.op t.nm t.n a t.ks.len c)
 rs:V.heap[w.heap.size+1]? = some (ndO ⟨#[]⟩ ⟨#[]⟩ 0 none 0 0)
 x:V.heap[w.heap.size+2]? = some (ndO t.op t.nm t.n va k vc)
 o:V.ownsRow (w.heap.size+3) 79 4 (.slice va k vc) k (uN ((kL t.ks).take k) q)
 ql:q.length=k
 d:DnK (fun b=>w.heap.size+3<=b/\(Tj va k vc).ownBlock ≠ some b) V ((kL t.ks).take k) q
 z:w.heap.size+3<=V.heap.size
theorem Mg (t:TN) (ih:fU NP t.ks):NP t:=by
 intro G w a c hs hr;obtain ⟨i0,hi,jh,jg,jf⟩:=info_parts OC;have je:prog.underlying 77=some (.slice 79):=underlying77;have jq:=tM t.ks;have kb:aR t=1+dC t.ks:=rfl;have IH:=aA ih;have R:=aA hr;have B1:=bA0 w (ndG t.op t.nm t.n a t.ks.len c);have N1:=heap_alloc_new w (ndG t.op t.nm t.n a t.ks.len c);have s1:(w.alloc (ndG t.op t.nm t.n a t.ks.len c)).heap.size=w.heap.size+1:=Tc _ _;generalize jc:w.alloc (ndG t.op t.nm t.n a t.ks.len c)=V1 at B1 N1 s1;have B2:=bA0 V1 (ndO ⟨#[]⟩ ⟨#[]⟩ 0 none 0 0);have N2:=heap_alloc_new V1 (ndO ⟨#[]⟩ ⟨#[]⟩ 0 none 0 0);have s2:(V1.alloc (ndO ⟨#[]⟩ ⟨#[]⟩ 0 none 0 0)).heap.size=w.heap.size+2:=by rw [Tc];omega
 generalize jb:V1.alloc (ndO ⟨#[]⟩ ⟨#[]⟩ 0 none 0 0)=V2 at B2 N2 s2;have B3:=bA0 V2 (ndO t.op t.nm t.n none 0 0);have N3:=heap_alloc_new V2 (ndO t.op t.nm t.n none 0 0);have s3:(V2.alloc (ndO t.op t.nm t.n none 0 0)).heap.size=w.heap.size+3:=by rw [Tc];omega
 generalize ja:V2.alloc (ndO t.op t.nm t.n none 0 0)=V3 at B3 N3 s3;rw [s1] at N2;rw [s2] at N3;have L0:=aA (show LO w t a c 0 none 0 [] V3 from ⟨(B1.trans (B2.mono (by omega))).trans (B3.mono (by omega)),(B3.block _ (by omega)).trans ((B2.block _ (by omega)).trans N1),(B3.block _ (by omega)).trans N2,N3,World.ownsRow_nil _ _ _ _,rfl,trivial,by omega⟩);have jn:=aA jc;have jm:=aA jb;have jl:=aA ja;have jk:=aA s2;obtain ⟨⟨m0,m1,m2,m3⟩, -⟩:=aL ((B2.block _ (by omega)).trans N1);clear jc jb ja B1 B2 B3 N1 N2 N3 hr ih s1 s2 s3;go_enter func125,ntmps125
 go_upto_region 1 with fail
 rw [jn.out,jm.out];go_upto_region 2 with fail
 rw [jl.out,jk.out];clear m0 m1 m2 m3;go_wp2_with fail
 go_loopw [4] (fun i wr=>∃ (k:Nat) (y:Tp) (vc:Nat) (q:List (Tp×Nat)),i=.int .i64 k/\k<=t.ks.len/\Hid (LO w t a c k y vc q wr)) (fun i _=>t.ks.len-(intOf i).toNat)
 case atStart=>exact ⟨0,none,0,[],rfl,Nat.zero_le _,L0⟩
 case round =>
  obtain ⟨k,y,vc,q,rfl,hk,f⟩:=hrel;obtain ⟨⟨m0,m1,m2,m3⟩, -⟩:=aL f.out.bx;obtain ⟨⟨x0,x1,x2,x3⟩,y0,y1,y2,y3⟩:=aL f.out.x;by_cases ji:k<t.ks.len
  · obtain ⟨t2,I, -⟩:=eV ji
    have ke:=t8 I;have ki:=jX t.ks k;obtain ⟨b,off,a2,c2,ha,jj,kj,⟨p0,p1,p2,p3⟩,X⟩:=cP (R.out.kept f.out.b) I;subst ha;have CI:=aA ((fU.at IH.out I) G wr.drew a2 c2 (by omega) (X.kept ⟨rfl,rfl,rfl,Td _,fun _ _=>rfl⟩));have HT:=aA (Py I);have jo:((kL t.ks).take k).length=k:=by rw [Th,Gl];omega
    have a1:(k:Int)<(t.ks.len:Int):=by omega
    have kl:(0:Int)<=(k:Int):=by omega
    have a3:((k:Int)).toNat=k:=by omega
    have kf:k+1<=1000:=by omega
    clear I X jj;go_wp2_with fail
    go_region_law (first
     | (go_simp
        go_at_call 125
        refine CI.out.mono ?_;rintro e L ⟨a4,c4,rfl,V,s⟩;have M:Below wr.heap.size wr L:=⟨s.os,s.tape,s.output,s.size,s.block⟩;have jz:w.heap.size+3<=L.heap.size:=Nat.le_trans f.out.z s.size;have X2:=(M.block _ (Array.getElem?_eq_some_iff.1 f.out.x).1).trans f.out.x;have C:=aA M;have jp:=aA V;have O2:=aA ((cK f.out.o M).alloc (ndO t2.op t2.nm t2.n a4 t2.ks.len c4));clear x0 x1 x2 x3 y0 y1 y2 y3 s V M;obtain ⟨⟨x0,x1,x2,x3⟩,y0,y1,y2,y3⟩:=aL X2;have jd:=((bA0 L (.cells #[.string t2.op,.string t2.nm,.int .i64 t2.n,.slice a4 t2.ks.len c4] 79)).block _ (Array.getElem?_eq_some_iff.1 X2).1).trans X2;obtain ⟨⟨u0,u1,u2,u3⟩, -⟩:=aL jd;clear X2 jd)
     | (refine dK rfl (.tmp 20) (.tmp 27) 77 rfl (base := w.heap.size + 3) je hi jh jg jf rfl (by decide) (.slice y k vc) k 1 (uN ((kL t.ks).take k) q) (ndL t2 (a4, c4)) ⟨L.heap.size, 0, none⟩ 1 (by first | (simp [Act.eval]; done) | (simp [Act.eval, Act.put]; done) | fail) (by first | (simp [Act.eval]; done) | (simp [Act.eval, Act.put]; done) | fail) O2.out rfl (QR L t2 a4 c4) (nW _ _) (by unfold maxLen; omega) (by omega) (by rw [Tc]; omega) ?_
        intro v3 w3 O Z Y;obtain ⟨r,m,rfl⟩:=eL O;have N:aC (fun b=>(Tj y k vc).ownBlock=some b) L w3:=((aC.refl _ L).alloc _).grown Z (fun q hq=>.inl hq);have D:∀ b,(Tj y k vc).ownBlock=some b->w.heap.size+3<=b/\b<L.heap.size:=fun b E=>by have h1:=(f.out.o.lt b E);have:=C.out.size;omega
        have X3:=N.heap ((C.out.block _ (Array.getElem?_eq_some_iff.1 f.out.x).1).trans f.out.x) (fun e=>by have:=D _ e;omega);have ks:=(aC.refl (· = w.heap.size+2) w3).setCell (p:=⟨w.heap.size+2,3,none⟩) (.inl rfl) (.slice r (k+1) m)
        have S:∀ b,b<L.heap.size->(Tj y k vc).ownBlock ≠ some b->(Tj r (k+1) m).ownBlock ≠ some b:=fun b E A e=>by
         rcases Y b e with h1 | h1
         · exact A h1
         · rw [Tc] at h1;omega
        have D2:DnK (fun b=>(w.heap.size+3<=b/\(Tj y k vc).ownBlock ≠ some b)/\(Tj r (k+1) m).ownBlock ≠ some b) L ((kL t.ks).take k++[t2]) (q++[(a4,c4)]):=E9 ((f.out.d.keptS (aF C.out (fun _=>False)) (fun _ h=>h.elim)).imp (fun b E l=>⟨l,S b E l.2⟩)) (jp.out.imp (fun b E l=>by
         have kh:wr.heap.size<=b:=l;have hz:=f.out.z;have A:(Tj y k vc).ownBlock ≠ some b:=fun e=>by have:=(f.out.o.lt b e).2;omega
         exact ⟨⟨by omega,A⟩,S b E A⟩))
        have D3:=((D2.keptS N (fun b E l=>l.1.2 E)).keptS ks (fun b E l=>by have:=l.1.1;omega)).imp (H:=fun b=>w.heap.size+3<=b/\(Tj r (k+1) m).ownBlock ≠ some b) (fun b _ l=>⟨l.1.1,l.2⟩)
        have L3:=aA (show LO w t (some ⟨b,off,none⟩) c (k+1) r m (q++[(a4,c4)]) (w3.setCell ⟨w.heap.size+2,3,none⟩ (.slice r (k+1) m)) from ⟨
         (f.out.b.trans (C.out.mono (by have:=f.out.z;omega))).trans ((N.mono (T:=fun b=>w.heap.size<=b) (fun i hi _=>by have:=D i hi;omega)).below (fun _ h=>h) (by omega) |>.trans (ks.below (B:=w.heap.size) (fun i hi=>by omega) (by have:=N.size;omega))),
         ks.heap (N.heap ((C.out.block _ (Array.getElem?_eq_some_iff.1 f.out.bx).1).trans f.out.bx) (fun e=>by have:=D _ e;omega)) (by omega),
         ks.heap (N.heap ((C.out.block _ (Array.getElem?_eq_some_iff.1 f.out.rs).1).trans f.out.rs) (fun e=>by have:=D _ e;omega)) (by omega),
         Gy X3 _,
         by
          rw [HT.out,Eu _ _ _ _ (by rw [f.out.ql,jo])];have e:uN [t2] [(a4,c4)]=ndL t2 (a4,c4):=by simp [uN]
          rw [e];exact iI O (by omega) _ _,
         by rw [Tb,f.out.ql];rfl,
         by rw [HT.out];exact D3,
         by rw [World.size_setCell];have:=N.size;omega⟩)
        obtain ⟨-,ju,jt,js,jr⟩:=aL X3;obtain ⟨⟨jy,jx,jw,jv⟩, -⟩:=aL X3;clear O Z Y N D X3 ks S D2 D3 x0 x1 x2 x3 y0 y1 y2 y3)
     | fail)
    all_goals
     go_wp2_with fail
     go_roundw
     case rel=>exact ⟨k+1,r,m,q++[(a4,c4)],by go_num,by omega,L3⟩
     case measure=>simp [intOf];omega
  · obtain rfl:k=t.ks.len:=by omega
    have U:(kL t.ks).take t.ks.len=kL t.ks:=List.take_of_length_le (by rw [Gl];exact Td _)
    have P:=aA (show aK (fun b=>w.heap.size+3<=b) wr y t.ks by
     have ho:=f.out.o;have hd:=f.out.d;rw [U] at ho hd;by_cases h0:t.ks=.nil
     · exact .inl h0
     · have A:t.ks.len ≠ 0:=fun e=>h0 (Mq e)
       obtain ⟨g,cc,hv, -, -,hc⟩:=fL ho A;simp only [Value.slice.injEq,true_and] at hv;obtain ⟨rfl,rfl⟩:=hv;have l:=ho.lt g rfl;exact .inr ⟨g,0,rfl,vO (G:=fun b=>w.heap.size+3<=b) l.1 l.2 (fun j u hj=>by rw [Nat.zero_add];exact hc j u hj) (hd.imp (fun b _ l=>l.1))⟩)
    obtain ⟨⟨r0,r1,r2,r3⟩,z0,z1,z2,z3⟩:=aL f.out.rs;have a1:¬ (t.ks.len:Int)<(t.ks.len:Int):=by omega
    clear U;go_wp2_with fail
    have KP:=eI wr (w.heap.size+1) t.op t.nm t.n y t.ks.len vc;obtain ⟨⟨d0,d1,d2,d3⟩, -⟩:=aL (aY f.out.rs (.string t.op) (.string t.nm) (.int .i64 t.n) (.slice y t.ks.len vc))
    exact bodyPost_ret (v:=bN t.op t.nm t.n y t.ks.len vc) (by simp [results,results125,go_sem,d0,d1,d2,d3]) rfl
     ⟨y,⟨vc,rfl⟩,(P.out.keptS KP (fun b E l=>by omega)).imp (fun b _ l=>by omega),f.out.b.trans (KP.below (B:=w.heap.size) (fun b E=>by omega) (by have:=f.out.z;omega))⟩
theorem wW (t:TN):NP t:=qA Mg t
theorem cC (t:TN):aW t=0 ↔ OkT t/\aR t<=32:=by
 unfold aW OkT;have h:=Dg t;by_cases k:jD t.ks 31<0
 · rw [if_pos k]
   exact ⟨fun e=>absurd e (by decide),fun e=>by have:=h.1 k;omega⟩
 · rw [if_neg k]
   exact ⟨fun e=>⟨e,by have:¬ 32<aR t:=fun x=>k (h.2 x);omega⟩,fun e=>e.1⟩
def eC (x:Int):Int:=if x < -9223372036854775808 then -9223372036854775808 else if 9223372036854775807<x then 9223372036854775807 else x
theorem nB (x:Int):bW (eC x):=by unfold bW eC;split;omega;split <;> omega
theorem pQ {x:Int} (h:bW x):eC x=x:=by unfold bW at h;unfold eC;rw [if_neg (by omega),if_neg (by omega)]
theorem Fd {x:Int} (h:9223372036854775807<x):eC x=9223372036854775807:=by unfold eC;rw [if_neg (by omega),if_pos h]
theorem Fc {x:Int} (h:x < -9223372036854775808):eC x= -9223372036854775808:=by unfold eC;rw [if_pos h]
theorem He {x:Int} (h:9223372036854775807<x) (a:x<=18446744073709551615):wrap64 x=x-18446744073709551616:=by unfold wrap64;omega
theorem AH {x:Int} (h:x < -9223372036854775808) (a: -18446744073709551616<=x):wrap64 x=x+18446744073709551616:=by unfold wrap64;omega
theorem sO {x:Int} (h:bW x):wrap64 x=x:=by unfold bW at h;unfold wrap64;omega
theorem Qr {a b:Int} {c:Bool} (h:a=b):Ending.returned (.tuple #[.int .i64 a,.bool c])=.returned (.tuple #[.int .i64 b,.bool c]):=by rw [h]
theorem gU {a b:Int} (h:a=b):Ending.returned (.int .i64 a)=.returned (.int .i64 b):=by rw [h]
theorem sV {a b:Int} (ha:bW a) (j:¬ b=0) (h:a= -9223372036854775808->¬ b= -1):bW (a.tdiv b):=by
 unfold bW at *;have e:(a.tdiv b).natAbs=a.natAbs / b.natAbs:=Int.natAbs_tdiv a b;by_cases g:b=1
 · rw [g,Int.tdiv_one];exact ha
 by_cases d:b= -1
 · rw [d,Int.tdiv_neg,Int.tdiv_one]
   have:¬ a= -9223372036854775808:=fun x=>h x d
   omega
 have f:2<=b.natAbs:=by omega
 have c:a.natAbs / b.natAbs<=a.natAbs / 2:=Nat.div_le_div_left f (by decide);rw [<- e] at c;omega
theorem AO {a b:Int} (ha:a= -9223372036854775808) (c:b= -1):(9223372036854775807:Int)=eC (a.tdiv b):=by
 rw [ha,c];decide
theorem DF {a b:Int} (ha:a= -9223372036854775808) (d:¬ b=0) (h:(b == -1)=false):wrap64 (-Int.tdiv 9223372036854775808 b)=eC (a.tdiv b):=by
 have c:=sV (a:=a) (b:=b) ⟨by omega,by omega⟩ d (fun _=>by simpa using h);have e: -Int.tdiv 9223372036854775808 b=a.tdiv b:=by rw [ha,Int.neg_tdiv]
 rw [pQ c,e,sO c]
theorem kR (b:Bool) (w:World):Calls prog 141 #[.bool b] w fun e w'=>e=.returned (.int .i64 (if b then -9223372036854775808 else 9223372036854775807))/\w=w':=by
 cases b
 all_goals
  go_enter func141,ntmps141
  go_wp2_with fail
  go_ret;exact ⟨rfl,rfl⟩
theorem Dv (a b:Int) (w:World) (ha:bW a) (h:bW b):Calls prog 87 #[.int .i64 a,.int .i64 b] w fun e w'=>e=.returned (.int .i64 (eC (a+b)))/\w=w':=by
 obtain ⟨a1,a2⟩:=ha;obtain ⟨g,f⟩:=h;obtain ⟨s,hs⟩:∃ s,wrap64 (a+b)=s:=⟨_,rfl⟩;by_cases c:9223372036854775807<a+b
 · have l:decide (a<0)=false:=by simp;omega
   have k:decide (b<0)=false:=by simp;omega
   have j:decide (s<0)=true:=by rw [<- hs,He c (by omega)];simp;omega
   rw [Fd c];clear c a1 a2 g f;go_enter func87,ntmps87
   go_wp2_with (go_at_call 141;refine (kR _ _).mono ?_;rintro e w' ⟨rfl,rfl⟩)
   go_ret;exact ⟨rfl,rfl⟩
 by_cases lo:a+b < -9223372036854775808
 · have l:decide (a<0)=true:=by simp;omega
   have k:decide (b<0)=true:=by simp;omega
   have j:decide (s<0)=false:=by rw [<- hs,AH lo (by omega)];simp;omega
   rw [Fc lo];clear c lo a1 a2 g f;go_enter func87,ntmps87
   go_wp2_with (go_at_call 141;refine (kR _ _).mono ?_;rintro e w' ⟨rfl,rfl⟩)
   go_ret;exact ⟨rfl,rfl⟩
 have d:bW (a+b):=⟨by omega,by omega⟩;obtain rfl:a+b=s:=(sO d).symm.trans hs;rw [pQ d];clear hs;obtain ⟨c1,c2⟩:=d;by_cases x:a<0 <;> by_cases y:b<0 <;> by_cases z:a+b<0
 all_goals first | (exfalso;omega) | skip
 all_goals
  go_enter func87,ntmps87
  go_wp2_with fail
  go_ret;exact ⟨rfl,rfl⟩
theorem Ds (a b:Int) (w:World) (ha:bW a) (h:bW b):Calls prog 254 #[.int .i64 a,.int .i64 b] w fun e w'=>e=.returned (.int .i64 (eC (a-b)))/\w=w':=by
 obtain ⟨a1,a2⟩:=ha;obtain ⟨g,f⟩:=h;obtain ⟨s,hs⟩:∃ s,wrap64 (a-b)=s:=⟨_,rfl⟩;by_cases c:9223372036854775807<a-b
 · have l:decide (a<0)=false:=by simp;omega
   have k:decide (b<0)=true:=by simp;omega
   have j:decide (s<0)=true:=by rw [<- hs,He c (by omega)];simp;omega
   rw [Fd c];clear c a1 a2 g f;go_enter func254,ntmps254
   go_wp2_with (go_at_call 141;refine (kR _ _).mono ?_;rintro e w' ⟨rfl,rfl⟩)
   go_ret;exact ⟨rfl,rfl⟩
 by_cases lo:a-b < -9223372036854775808
 · have l:decide (a<0)=true:=by simp;omega
   have k:decide (b<0)=false:=by simp;omega
   have j:decide (s<0)=false:=by rw [<- hs,AH lo (by omega)];simp;omega
   rw [Fc lo];clear c lo a1 a2 g f;go_enter func254,ntmps254
   go_wp2_with (go_at_call 141;refine (kR _ _).mono ?_;rintro e w' ⟨rfl,rfl⟩)
   go_ret;exact ⟨rfl,rfl⟩
 have d:bW (a-b):=⟨by omega,by omega⟩;obtain rfl:a-b=s:=(sO d).symm.trans hs;rw [pQ d];clear hs;obtain ⟨c1,c2⟩:=d;by_cases x:a<0 <;> by_cases y:b<0 <;> by_cases z:a-b<0
 all_goals first | (exfalso;omega) | skip
 all_goals
  go_enter func254,ntmps254
  go_wp2_with fail
  go_ret;exact ⟨rfl,rfl⟩
theorem Du (a:Int) (w:World):Calls prog 268 #[.int .i64 a,.int .i64 0] w fun e w'=>e=.returned (.tuple #[.int .i64 0,.bool false])/\w=w':=by
 go_enter func268,ntmps268
 go_wp2_with fail
 go_ret2;exact ⟨rfl,rfl⟩
theorem KH (a b:Int) (w:World) (ha:bW a) (d:bW b) (c:¬ b=0):Calls prog 268 #[.int .i64 a,.int .i64 b] w fun e w'=>e=.returned (.tuple #[.int .i64 (eC (a.tdiv b)),.bool true])/\w=w':=by
 obtain ⟨a1,a2⟩:=ha;obtain ⟨j,g⟩:=d;have f:(b == 0)=false:=by simpa using c
 go_enter func268,ntmps268
 go_wp2_with fail
 all_goals
  go_ret2;refine ⟨Qr ?_,rfl⟩
  first
   | rfl
   | exact AO ‹_› (by have h:(b == -1)=true:= ‹_›;simpa using h)
   | exact DF ‹_› c ‹_›
   | (rw [pQ (sV ⟨by omega, by omega⟩ c (fun h => absurd h ‹_›))]
      exact sO (sV ⟨by omega,by omega⟩ c (fun h=>absurd h ‹_›)))
   | (obtain rfl : b = -1 := by have h : (b == -1) = true := ‹_›; simpa using h
      rw [Int.tmod_neg,Int.tmod_one])
   | trace_state
theorem Dt (a:Int) (w:World):Calls prog 269 #[.int .i64 a,.int .i64 0] w fun e w'=>e=.returned (.tuple #[.int .i64 0,.bool false])/\w=w':=by
 go_enter func269,ntmps269
 go_wp2_with fail
 go_ret2;exact ⟨rfl,rfl⟩
theorem Kz (a b:Int) (w:World) (ha:bW a) (d:bW b) (c:¬ b=0):Calls prog 269 #[.int .i64 a,.int .i64 b] w fun e w'=>e=.returned (.tuple #[.int .i64 (a.tmod b),.bool true])/\w=w':=by
 obtain ⟨a1,a2⟩:=ha;obtain ⟨j,g⟩:=d;have f:(b == 0)=false:=by simpa using c
 go_enter func269,ntmps269
 go_wp2_with fail
 all_goals
  go_ret2;refine ⟨Qr ?_,rfl⟩
  first
   | rfl
   | exact AO ‹_› (by have h:(b == -1)=true:= ‹_›;simpa using h)
   | exact DF ‹_› c ‹_›
   | (rw [pQ (sV ⟨by omega, by omega⟩ c (fun h => absurd h ‹_›))]
      exact sO (sV ⟨by omega,by omega⟩ c (fun h=>absurd h ‹_›)))
   | (obtain rfl : b = -1 := by have h : (b == -1) = true := ‹_›; simpa using h
      rw [Int.tmod_neg,Int.tmod_one])
   | trace_state
theorem DW {a b:Int} (h:a=b):Ending.returned (.int .u64 a)=.returned (.int .u64 b):=by rw [h]
theorem QE {a:Int} (h:a<0) (a1: -9223372036854775808<=a):IntKind.u64.wrap (-IntKind.u64.wrap a)=(a.natAbs:Nat):=by
 simp only [IntKind.wrap,IntKind.signed,IntKind.bits];simp;omega
theorem DQ (a:Int) (w:World) (ha:bW a):Calls prog 285 #[.int .i64 a] w fun e w'=>e=.returned (.int .u64 (a.natAbs:Nat))/\w=w':=by
 obtain ⟨a1,a2⟩:=ha;by_cases h:a<0
 · go_enter func285,ntmps285
   go_wp2_with fail
   go_ret;exact ⟨DW (QE h a1),rfl⟩
 · go_enter func285,ntmps285
   go_wp2_with fail
   go_ret;exact ⟨DW (by omega),rfl⟩
theorem Jg (x y:Nat) (hx:x<18446744073709551616) (a:y<18446744073709551616) (H L:Int) (c:((x*y / 18446744073709551616:Nat):Int)=H) (b:((x*y % 18446744073709551616:Nat):Int)=L) (w:World) :
 Calls prog 284 #[.int .u64 x,.int .u64 y] w fun e w'=>e=.returned (.tuple #[.int .u64 H,.int .u64 L])/\w=w':=by
 subst c;subst b;exact (bits_Mul64 x y hx a w).mono fun e w' ⟨h,k⟩=>⟨h,k.symm⟩
theorem Gd (a b:Int):a*b=if a<0 then (if b<0 then ((a.natAbs*b.natAbs:Nat):Int) else -((a.natAbs*b.natAbs:Nat):Int)) else (if b<0 then -((a.natAbs*b.natAbs:Nat):Int) else ((a.natAbs*b.natAbs:Nat):Int)):=by
 rw [Int.natCast_mul];split <;> split
 · rw [show (a.natAbs:Int)= -a by omega,show (b.natAbs:Int)= -b by omega,Int.neg_mul_neg]
 · rw [show (a.natAbs:Int)= -a by omega,show (b.natAbs:Int)=b by omega,Int.neg_mul,Int.neg_neg]
 · rw [show (a.natAbs:Int)=a by omega,show (b.natAbs:Int)= -b by omega,Int.mul_neg,Int.neg_neg]
 · rw [show (a.natAbs:Int)=a by omega,show (b.natAbs:Int)=b by omega]
theorem AV {a b:Int} (h:a<0/\b<0\/0<=a/\0<=b):decide (a<0)=decide (b<0):=by
 rcases h with ⟨h,k⟩ | ⟨h,k⟩
 · rw [decide_eq_true h,decide_eq_true k]
 · rw [decide_eq_false (by omega),decide_eq_false (by omega)]
theorem yG {a b:Int} (h:a<0/\0<=b\/0<=a/\b<0):¬ decide (a<0)=decide (b<0):=by
 rcases h with ⟨h,k⟩ | ⟨h,k⟩
 · rw [decide_eq_true h,decide_eq_false (by omega)];decide
 · rw [decide_eq_false (by omega),decide_eq_true k];decide
theorem Ky (a b:Int) (w:World) (ha:bW a) (d:bW b):Calls prog 267 #[.int .i64 a,.int .i64 b] w fun e w'=>e=.returned (.int .i64 (eC (a*b)))/\w=w':=by
 have m:=Gd a b;have hx:a.natAbs<18446744073709551616:=by unfold bW at ha;omega
 have t:b.natAbs<18446744073709551616:=by unfold bW at d;omega
 have c:a.natAbs*b.natAbs<=9223372036854775808*9223372036854775808:=Nat.mul_le_mul (by unfold bW at ha;omega) (by unfold bW at d;omega);obtain ⟨N,f⟩:∃ N:Nat,a.natAbs*b.natAbs=N:=⟨_,rfl⟩;rw [f] at m c;obtain ⟨H,q⟩:∃ H:Int,((a.natAbs*b.natAbs / 18446744073709551616:Nat):Int)=H:=⟨_,rfl⟩;obtain ⟨L,o⟩:∃ L:Int,((a.natAbs*b.natAbs % 18446744073709551616:Nat):Int)=L:=⟨_,rfl⟩;have p:((N / 18446744073709551616:Nat):Int)=H:=by rw [<- f];exact q
 have n:((N % 18446744073709551616:Nat):Int)=L:=by rw [<- f];exact o
 have C:=fun w=>Jg a.natAbs b.natAbs hx t H L q o w
 have A:=fun w=>DQ a w ha
 have B:=fun w=>DQ b w d
 have R:eC (a*b)=if N<=9223372036854775807 then (if decide (a<0)=decide (b<0) then L else -L) else (if decide (a<0)=decide (b<0) then 9223372036854775807 else -9223372036854775808):=by
  rw [m];by_cases s:a<0 <;> by_cases r:b<0 <;> simp only [s,r,if_true,if_false,decide_true,decide_false,Bool.false_eq_true,Bool.true_eq_false] <;> unfold eC <;> (repeat' split) <;> omega
 have c1:N<=9223372036854775807->H=0/\0<=L/\L<=9223372036854775807:=by omega
 have c2:¬ N<=9223372036854775807->H=0->9223372036854775807<L:=by omega
 have I:0<=H:=by omega
 have G:H<18446744073709551616:=by omega
 have E:0<=L:=by omega
 have D:L<18446744073709551616:=by omega
 have l:=aA A;have k:=aA B;have j:=aA C;have h:=aA R;clear A B C R m f q o p n ha d;clear c hx t;by_cases hn:N<=9223372036854775807
 · obtain ⟨rfl, -,u⟩:=c1 hn
   clear c1 c2;by_cases s:a<0 <;> by_cases r:b<0
   all_goals
    go_enter func267,ntmps267
    go_wp2_with (first | (go_at_call 285;first | ((with_reducible refine (l.out _).mono ?_);rintro e w' ⟨rfl,rfl⟩) | ((with_reducible refine (k.out _).mono ?_);rintro e w' ⟨rfl,rfl⟩)) | (go_at_call 284;refine (j.out _).mono ?_;rintro e w' ⟨rfl,rfl⟩) | (go_at_call 141;refine (kR _ _).mono ?_;rintro e w' ⟨rfl,rfl⟩))
    go_ret;refine ⟨gU ?_,rfl⟩;rw [h.out,if_pos hn];clear h l k j
    first
     | (rw [if_pos (AV (by omega))];done)
     | (rw [if_neg (yG (by omega))];done)
 · replace c2:=c2 hn
   clear c1;by_cases s:a<0 <;> by_cases r:b<0 <;> by_cases g:H=0
   all_goals
    first
     | (have z := c2 g
        subst g)
     | (have y : (H == 0) = false := by simpa using g
        have x:(H != 0)=true:=by simpa using g)
    clear c2;go_enter func267,ntmps267
    go_wp2_with (first | (go_at_call 285;first | ((with_reducible refine (l.out _).mono ?_);rintro e w' ⟨rfl,rfl⟩) | ((with_reducible refine (k.out _).mono ?_);rintro e w' ⟨rfl,rfl⟩)) | (go_at_call 284;refine (j.out _).mono ?_;rintro e w' ⟨rfl,rfl⟩) | (go_at_call 141;refine (kR _ _).mono ?_;rintro e w' ⟨rfl,rfl⟩))
    go_ret;refine ⟨gU ?_,rfl⟩;rw [h.out,if_neg hn];clear h l k j
    first
     | (rw [if_pos (AV (by omega))];done)
     | (rw [if_neg (yG (by omega))];done)
def MdF:F->Prop
 | .nil=>True
 | .cons _ m n ks r=>m.size<=8/\n<=9223372036854775807/\ks.len<=2/\MdF ks/\MdF r
def mdT (t:TN):Prop:=MdF t.f
theorem wV:mdT aD:=⟨by decide,by decide,by decide,trivial,trivial⟩
theorem Rk {v:Int} (h:v<=9223372036854775807):mdT (tH v):=⟨by show (0:Nat)<=8;decide,h,by show (0:Nat)<=2;decide,trivial,trivial⟩
theorem Pi {x:Tq} (h:x.length<=8):mdT (fE x):=⟨by show x.toArray.size<=8;rw [List.size_toArray];exact h,by show (0:Int)<=_;decide,by show (0:Nat)<=2;decide,trivial,trivial⟩
theorem Rl {k:TN} (h:mdT k):mdT (pG k):=⟨by show (0:Nat)<=8;decide,by show (0:Int)<=_;decide,by show (1:Nat)<=2;decide,h,trivial⟩
theorem Mb {o:Tq} {a b:TN} (ha:mdT a) (c:mdT b):mdT (fG o a b) :=
 ⟨by show (0:Nat)<=8;decide,by show (0:Int)<=_;decide,by show (2:Nat)<=2;decide,⟨ha.1,ha.2.1,ha.2.2.1,ha.2.2.2.1,c⟩,trivial⟩
def Md.made:Md->Prop
 | .prodL n=>mdT n
 | .sumL n=>mdT n
 | _=>True
theorem iG (L:List Tk) (a:∀ t∈L,cS t):∀ (f:Nat) (md:Md) (s:RS),md.made->mdT (pr L f md s).1
 | 0,md,s,_=>wV
 | f + 1, .fac, s, _ => by
   rw [pr];by_cases k:s.bad=0
   · rw [if_pos k]
     cases e:L[s.pos]? with
     | none=>exact wV
     | some t =>
       have j:=a t (by rw [<- (List.getElem?_eq_some_iff.1 e).2];exact List.getElem_mem (List.getElem?_eq_some_iff.1 e).1);simp only;by_cases b:t.kind=2
       · rw [if_pos b]
         refine Rk ?_;rcases j with ⟨h,_⟩ | ⟨_,_,h⟩ | h
         · rw [h] at b;exact absurd b (by decide)
         · exact h
         · rw [h] at b;exact absurd b (by decide)
       rw [if_neg b];by_cases c:t.kind=1
       · rw [if_pos c]
         refine Pi ?_;rcases j with ⟨_,h⟩ | ⟨h,_⟩ | h
         · exact zE h
         · rw [h] at c;exact absurd c (by decide)
         · rw [h] at c;exact absurd c (by decide)
       rw [if_neg c];by_cases d:t.text=[45]
       · rw [if_pos d]
         exact Rl (iG L a f .fac _ trivial)
       rw [if_neg d];by_cases g:t.text=[40]
       · rw [if_pos g]
         exact iG L a f .sum _ trivial
       rw [if_neg g];exact wV
   · rw [if_neg k];exact wV
 | f+1,.prod,s,_=>by rw [pr];exact iG L a f _ _ (iG L a f .fac s trivial)
 | f + 1, .prodL n, s, hn => by
   rw [pr];split
   · exact iG L a f _ _ (Mb hn (iG L a f .fac _ trivial))
   · exact hn
 | f+1,.sum,s,_=>by rw [pr];exact iG L a f _ _ (iG L a f .prod s trivial)
 | f + 1, .sumL n, s, hn => by
   rw [pr];split
   · exact iG L a f _ _ (Mb hn (iG L a f .prod _ trivial))
   · exact hn
theorem En {L:List Tk} (a:∀ t∈L,cS t) {p q:Nat} {t:TN} (h:ofL L p=.ok t q):mdT t:=by
 unfold ofL at h;split at h
 · cases h
   exact iG L a _ _ _ trivial
 · cases h
theorem Mc:∀ {f:F},MdF f->SzF f
 | .nil,_=>trivial
 | .cons _ _ _ _ _,h=>⟨by have:=h.1;omega,by have:=h.2.2.1;omega,Mc h.2.2.2.1,Mc h.2.2.2.2⟩
def NT (t:TN):Prop:=∀ (G:Nat->Prop) (lb:Nat) (w:World) (a:Tp) (c l:Nat),l<=1000->NO t->(∀ b,G b->b ≠ lb)->WdE lb w->aK G w a t.ks->w.heap[lb]? = some (.cells #[.int .i64 l] 3 (0,0)) ->
 Calls prog 252 #[.pointer (some ⟨lb,0,none⟩),bN t.op t.nm t.n a t.ks.len c,.func (.func 230) #[] #[]] w fun e w'=>aC (· = lb) w w' /\
  (aR t<=l->∃ v,e=.returned (.tuple #[v,.bool true])/\oR (fun b=>w.heap.size<=b) w' t v) /\
  (aR t<=l->w'.heap[lb]? = some (.cells #[.int .i64 ((l-aR t:Nat):Int)] 3 (0,0))) /\
  (¬ aR t<=l->e=.returned (.tuple #[.int .i64 0,.bool false]))
theorem GA (t:TN) (ih:fU NT t.ks):NT t:=by
 intro G lb w a c l hl L hG je hr ja;obtain ⟨i0,hi,jx,jw,jv⟩:=info_parts St;have ju:prog.underlying 320=some (.slice 24):=underlying320;have jp:=(Array.getElem?_eq_some_iff.1 ja).1;have IH:=aA ih;have R:=aA hr;have jq:=aA L;have HG:=aA hG;have WD:=aA je;have C:=bA0 w (ndG t.op t.nm t.n a t.ks.len c);have NB:=heap_alloc_new w (ndG t.op t.nm t.n a t.ks.len c);have N:=(C.block lb jp).trans ja;have jn:(w.alloc (ndG t.op t.nm t.n a t.ks.len c)).heap.size=w.heap.size+1:=Tc _ _;generalize hW:w.alloc (ndG t.op t.nm t.n a t.ks.len c)=W at C NB N jn;have HW:=aA hW;have jf:aR t=1+dC t.ks:=rfl;have kq:=tM t.ks;have K1:=(aF C (· = lb)).setCell (p:=⟨lb,0,none⟩) (.inl rfl) (.int .i64 ((l:Int)-1));have o:=Hp N (.int .i64 ((l:Int)-1));have m:=((aC.refl (· = lb) W).setCell (p:=⟨lb,0,none⟩) (.inl rfl) (.int .i64 ((l:Int)-1))).heap NB (by omega);have S:(W.setCell ⟨lb,0,none⟩ (.int .i64 ((l:Int)-1))).heap.size=w.heap.size+1:=by rw [World.size_setCell];exact jn
 obtain ⟨lc,lf⟩:=mR N;by_cases s:(l:Int)-1<(t.ks.len:Int)
 · have P:=aA (show ¬ aR t<=l by omega)
   generalize hV:W.setCell ⟨lb,0,none⟩ (.int .i64 ((l:Int)-1))=V at K1 o m S;have HV:=aA hV;obtain ⟨jl, -⟩:=mR o;obtain ⟨⟨m0,m1,m2,m3⟩, -⟩:=aL m;have jb:=aA K1;clear hr L hG ih je ja hW hV K1 N o NB m C jf;go_enter func252,ntmps252
   go_upto_region 2 with fail
   rw [HW.out];go_upto_region 3 with fail
   rw [HV.out];go_wp2_with (go_quiet (fail))
   go_ret2;exact ⟨jb.out.drewN _,fun h=>absurd h P.out,fun h=>absurd h P.out,fun _=>rfl⟩
 · obtain ⟨r,rfl⟩:∃ r,l=r+1:=⟨l-1,by omega⟩
   have M:(((r+1:Nat):Int)-1)=(r:Int):=by omega
   rw [M] at K1 o m S s;generalize hV:W.setCell ⟨lb,0,none⟩ (.int .i64 (r:Int))=V at K1 o m S;have HV:=aA hV;obtain ⟨jl, -⟩:=mR o;obtain ⟨⟨m0,m1,m2,m3⟩, -⟩:=aL m;have jb:=aA K1;have js:=aA o;have jr:=aA m;have ku:t.ks.len<=r:=by omega
   have b9:¬ (r:Int)<(t.ks.len:Int):=s;clear hr L hG ih je ja hW hV K1 N o NB m C s M;go_enter func252,ntmps252
   go_upto_region 2 with fail
   rw [HW.out];go_upto_region 3 with fail
   rw [HV.out];go_upto_region 5 with (go_quiet (fail))
   have jt:=aA (jb.out.drewN nq);have jd:=aA (show (V.drewN nq).heap[lb]? = _ from js.out);have jc:=aA (show (V.drewN nq).heap[w.heap.size]? = _ from jr.out);have jz:(V.drewN nq).heap.size=w.heap.size+1:=S;have n3:(V.drewN nq).cell? ⟨w.heap.size,3,none⟩=some (.slice a t.ks.len c):=m3;generalize V.drewN nq=U at jt jd jc jz n3 |-
   clear m0 m1 m2 m3 lc lf jl HW HV jb js jr;go_wp2_with fail
   go_loopw [9,30] (fun kv i wr=>∃ (k x:Nat) (D:Tp) (vc:Nat) (vs:List Value),kv=.slice D k vc/\i=.int .i64 k/\k<=t.ks.len/\x+dC t.ks=r+dC (t.ks.drop k)/\Hid (wr.ownsRow (w.heap.size+1) 24 1 (.slice D k vc) k vs) /\
    Hid (∀ j t2,j<k->t.ks.at j=some t2->∃ v,vs[j]? = some v/\oR (fun b=>w.heap.size+1<=b/\(Tj D k vc).ownBlock ≠ some b) wr t2 v)/\Hid (wr.heap[lb]? = some (.cells #[.int .i64 x] 3 (0,0)))/\Hid (aC (· = lb) w wr)/\Hid (wr.heap[w.heap.size]? = some (ndG t.op t.nm t.n a t.ks.len c))) (fun _ i _=>t.ks.len-(intOf i).toNat)
   case atStart=>exact ⟨0,r,none,0,[],rfl,rfl,Nat.zero_le _,by rw [F.drop_zero],aA (World.ownsRow_nil _ _ _ _),aA (fun _ _ h=>absurd h (Nat.not_lt_zero _)),jd,jt,jc⟩
   case round =>
    obtain ⟨k,x,D,vc,vs,rfl,rfl,hk,hx,hO,hV,hL,hK,hN⟩:=hrel;clear n3;obtain ⟨⟨m0,m1,m2,m3⟩, -⟩:=aL hN.out;have hz:=hK.out.size;by_cases kf:k<t.ks.len
    · obtain ⟨t2,B, -⟩:=eV kf
      have kt:=t8 B;have kw:=jX t.ks k;obtain ⟨b,off,a2,c2,ha,ki,kx,⟨p0,p1,p2,p3⟩,jo⟩:=cP (R.out.keptS hK.out (fun q f d=>HG.out q d f)) B;subst ha;have ky:w.heap.size<wr.heap.size:=(Array.getElem?_eq_some_iff.1 hN.out).1;have C:=bA0 wr (ndG t2.op t2.nm t2.n a2 t2.ks.len c2);have NB:=heap_alloc_new wr (ndG t2.op t2.nm t2.n a2 t2.ks.len c2);have kb:(wr.alloc (ndG t2.op t2.nm t2.n a2 t2.ks.len c2)).heap.size=wr.heap.size+1:=Tc _ _;generalize hX:wr.alloc (ndG t2.op t2.nm t2.n a2 t2.ks.len c2)=Z at C NB kb;have HX:=aA hX;have CF:=aA ((fU.at IH.out B) G lb Z a2 c2 x (by omega) (Sg jq.out B) HG.out (wdE WD.out (hK.out.trans (aF C (· = lb)) (fun _ h _=>h))) (jo.kept C) ((C.block lb (by omega)).trans hL.out));have km:=aA B;have jj:=aA C;have OZ:=aA (cK hO.out C);obtain ⟨⟨z0,z1,z2,z3⟩, -⟩:=aL NB;clear hX C NB jo B ki;go_upto_region 9 with fail
      rw [HX.out];clear p0 p1 p2 p3 m0 m1 m2 m3;go_wp2_with fail
      refine CF.out.mono ?_;rintro e A ⟨k2,ji,jh,hB⟩;have ko:=k2.size;have K2:=aA (hK.out.trans ((aF jj.out (· = lb)).trans k2 (fun _ h _=>h)) (fun _ h _=>h));have N2:=aA (k2.heap ((jj.out.block w.heap.size (by omega)).trans hN.out) (by omega));by_cases g:aR t2<=x
      · obtain ⟨v,rfl,hv⟩:=ji g
        obtain ⟨z,rfl⟩:=QL hv;have L2:=aA (jh g);have O2:=aA (eZ (row:=some lb) OZ.out (k2.mono (fun i hi _=>by rw [hi])) (fun q f e=>by have:=(OZ.out.lt q f).1;have:=Option.some.inj e;omega));have kj:=aA hv;have jm:(x-aR t2)+dC t.ks=r+dC (t.ks.drop (k+1)):=by omega
        have kr:k+1<=1000:=by omega
        have jk:∀ u∈[(Value.int .i64 z)],u.oneCell'=true:=fun u hu=>by rw [List.mem_singleton.1 hu];exact SQ hv
        clear CF ji jh hB hv g z0 z1 z2 z3;go_upto_region 12 with fail
        have BN:=bA0 A (.cells #[(Value.int .i64 z)] 24)
        have F2:=aA (show ∀ j u,[(Value.int .i64 z)][j]? = some u->(A.alloc (.cells #[(Value.int .i64 z)] 24)).cell? ((⟨A.heap.size,0,none⟩:Addr).add j)=some u from fun j u hj=>by
         rw [Addr.add_lit,Nat.zero_add,cell_of_row _ _ _ _ _ (0,0) (heap_alloc_new A _)];simpa using hj)
        have kl:=aA BN;clear BN;go_wp2_with (at_builtin;refine aS rfl _ _ 320 rfl ju hi jx jw jv rfl (by decide) (.slice D k vc) k 1 1 ⟨A.heap.size,0,none⟩ vs [(Value.int .i64 z)] rfl rfl (cK O2.out kl.out) rfl F2.out jk (by unfold maxLen;omega) (by omega) (by rw [Tc];omega) ?_)
        intro v3 w3 ho d f;obtain ⟨I,E,rfl⟩:=eL ho;have kg:aC (fun b=>(Tj D k vc).ownBlock=some b) A w3:=((aC.refl _ A).alloc _).grown d (fun q f=>.inl f);have X:∀ q,(Tj D k vc).ownBlock=some q->w.heap.size+1<=q/\q<A.heap.size:=fun q f=>by have:=O2.out.lt q f;omega
        have O3:=aA ho;have L3:=aA (kg.heap L2.out (fun e=>by have:=X lb e;omega));have K3:=aA (K2.out.trans (kg.mono (T:=fun b=>w.heap.size+1<=b) (fun i hi _=>(X i hi).1)) (fun i hi jp=>by omega));have N3:=aA (kg.heap N2.out (fun e=>by have:=X _ e;omega))
        have y:∀ b,b<A.heap.size->(Tj D k vc).ownBlock ≠ some b->(Tj I (k+1) E).ownBlock ≠ some b:=fun b O Y e=>by
         rcases f b e with h1 | h1
         · exact Y h1
         · omega
        have V3:=aA (show ∀ j t3,j<k+1->t.ks.at j=some t3->∃ u,(vs++[(Value.int .i64 z)])[j]? = some u/\oR (fun b=>w.heap.size+1<=b/\(Tj I (k+1) E).ownBlock ≠ some b) w3 t3 u from fun j t3 hj jg=>by
         have jy:vs.length=k:=by have:=hO.out.1;rwa [Nat.mul_one] at this
         by_cases kh:j<k
         · obtain ⟨u,hu,ke⟩:=hV.out j t3 kh jg
           refine ⟨u,by rw [List.getElem?_append_left (by omega)];exact hu,?_⟩;have r1:=nK (nK ke (aF jj.out (fun _=>False)) (fun _ h=>h.elim)) k2 (fun q f d=>by have:=d.1;omega);have r2:=mN (H:=fun b=>(w.heap.size+1<=b/\(Tj D k vc).ownBlock ≠ some b)/\(Tj I (k+1) E).ownBlock ≠ some b) r1 (fun b O d=>⟨d,y b O d.2⟩);exact mN (nK r2 kg (fun q f d=>d.1.2 f)) (fun b O d=>⟨d.1.1,d.2⟩)
         · obtain rfl:j=k:=by omega
           have:t3=t2:=by rw [km.out] at jg;exact (Option.some.inj jg).symm
           subst this;refine ⟨_,by rw [List.getElem?_append_right (by omega),jy,Nat.sub_self];rfl,?_⟩
           have r2:=mN (H:=fun b=>(w.heap.size+1<=b/\(Tj D j vc).ownBlock ≠ some b)/\(Tj I (j+1) E).ownBlock ≠ some b) kj.out (fun b O d=>by
            have Y:(Tj D j vc).ownBlock ≠ some b:=fun e=>by have:=(OZ.out.lt b e).2;omega
            exact ⟨⟨by omega,Y⟩,y b O Y⟩)
           exact mN (nK r2 kg (fun q f d=>d.1.2 f)) (fun b O d=>⟨d.1.1,d.2⟩))
        clear ho d f kg X y;go_wp2_with fail
        go_roundw
        case rel=>exact ⟨k+1,x-aR t2,I,E,vs++[(Value.int .i64 z)],rfl,by go_num,by omega,jm,O3,V3,L3,K3,N3⟩
        case measure=>simp [intOf];omega
      · obtain rfl:=hB g
        have P:=aA (show ¬ aR t<=r+1 by omega);clear CF ji jh hB g z0 z1 z2 z3;go_wp2_with fail
        go_ret2;exact ⟨K2.out,fun h=>absurd h P.out,fun h=>absurd h P.out,fun _=>rfl⟩
    · obtain rfl:k=t.ks.len:=by omega
      have jm:x+dC t.ks=r:=by rw [hx,F.drop_len _ _ (Td _)];rfl
      have CO:=aA (Pf t wr G a c D vc vs (w.heap.size+1) jq.out (wdE WD.out hK.out) (R.out.keptS hK.out (fun q f d=>HG.out q d f)) hO.out (fun j t2 hj=>hV.out j t2 (QA hj) hj));go_wp2_with fail
      refine CO.out.mono ?_;rintro e A ⟨v,rfl,hv,O⟩
      have P:=aA (show aC (· = lb) w A/\oR (fun b=>w.heap.size<=b) A t v/\A.heap[lb]? = some (.cells #[.int .i64 ((r+1-aR t:Nat):Int)] 3 (0,0))/\aR t<=r+1 from
       ⟨hK.out.trans (aF O (· = lb)) (fun _ h _=>h),mN hv (fun b _ d=>by omega),by rw [O.block lb (by omega),hL.out,show x=r+1-aR t by omega],by omega⟩)
      clear hv O CO m0 m1 m2 m3;go_wp2_with fail
      go_ret2;exact ⟨P.out.1,fun _=>⟨v,rfl,P.out.2.1⟩,fun _=>P.out.2.2.1,fun h=>absurd P.out.2.2.2 h⟩
theorem JW (t:TN):NT t:=qA GA t
theorem JV (t:TN) (G:Nat->Prop) (w:World) (a:Tp) (c:Nat) (f:NO t) (k:∀ lb,w.heap.size<=lb->WdE lb w) (hr:aK G w a t.ks) :
 Calls prog 229 #[bN t.op t.nm t.n a t.ks.len c,.func (.func 230) #[] #[]] w fun e w'=>Below w.heap.size w w' /\
  (aR t<=32->∃ v,e=.returned (.tuple #[v,.bool true])/\oR (fun b=>w.heap.size<=b) w' t v)/\(¬ aR t<=32->e=.returned (.tuple #[.int .i64 0,.bool false])):=by
 have C:=bA0 w (ndG t.op t.nm t.n a t.ks.len c);have z:=heap_alloc_new w (ndG t.op t.nm t.n a t.ks.len c);have l:(w.alloc (ndG t.op t.nm t.n a t.ks.len c)).heap.size=w.heap.size+1:=Tc _ _;generalize N:w.alloc (ndG t.op t.nm t.n a t.ks.len c)=W at C z l;have p:=bA0 W (.cells #[.int .i64 32] 3);have m:=heap_alloc_new W (.cells #[.int .i64 32] 3);have s:(W.alloc (.cells #[.int .i64 32] 3)).heap.size=w.heap.size+2:=by rw [Tc];omega
 generalize O:W.alloc (.cells #[.int .i64 32] 3)=V at p m s;rw [l] at m;have o:=C.trans (p.mono (by omega));have P:=(p.block w.heap.size (by omega)).trans z;have g:=hr.imp (H:=fun b=>G b/\b<w.heap.size) (fun b S u=>⟨u,S⟩);have A:=aA (JW t (fun b=>G b/\b<w.heap.size) (w.heap.size+1) V a c 32 (by omega) f (fun b u=>by omega) (wdE (k (w.heap.size+1) (by omega)) (aF o (fun _=>False) |>.mono (fun _ h _=>h.elim):aC (· = w.heap.size+1) w V)) (g.keptS (aF o (fun _=>False)) (fun _ h=>h.elim)) m);have T:=aA N;have U:=aA O;have Y:=aA o;obtain ⟨⟨L,I,E,D⟩, -⟩:=aL P;clear N O C z p m o P g hr f k;go_enter func229,ntmps229
 go_upto_region 1 with fail
 rw [T.out];go_upto_region 2 with fail
 rw [U.out];go_wp2_with fail
 refine A.out.mono ?_;rintro e Z ⟨r,y, -,x⟩;have R:=aA (Y.out.trans (aC.below r (B:=w.heap.size) (fun q hq=>by omega) (by omega)));by_cases d:aR t<=32
 · obtain ⟨v,rfl,M⟩:=y d
   have X:=aA (mN M (H:=fun b=>w.heap.size<=b) (fun b _ u=>by omega));have j:=aA d;clear r y x M d A L I E D;go_wp2_with fail
   go_ret2;exact ⟨R.out,fun _=>⟨v,rfl,X.out⟩,fun h=>absurd j.out h⟩
 · obtain rfl:=x d
   have j:=aA d;clear r y x d A L I E D;go_wp2_with fail
   go_ret2;exact ⟨R.out,fun h=>absurd h j.out,fun _=>rfl⟩
end Go.Proofs.YtgfkjkokmcejbaaGreatDoor
