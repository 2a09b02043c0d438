/-
 No statement: what ProgTextsLift needs, of the texts OE13, HMath, HHolds, QMath, QFine, QMem, QRead, QExpr, QBox.
-/
import Derived.Test.YtgfkjkokmcejbaaGreatDoorVX9
import Derived.WalkLawsBesides
set_option maxHeartbeats 40000000
set_option maxRecDepth 100000
open Go.World renaming size_alloc -> Tc
open Nat renaming le_refl -> Td
open Go.Value renaming slice -> Tj
open Go.Lib renaming toList_data -> Tm
namespace Go.Proofs.YtgfkjkokmcejbaaGreatDoor
open Go.RowKit Tryz
def NS (t:TN):Prop:=∀ (G:Nat->Prop) (lb:Nat) (w:World) (a:Tp) (c l:Nat),l<=1000->NN t->(∀ b,G b->b ≠ lb)->WdT lb w->aK G w a t.ks->w.heap[lb]? = some (.cells #[.int .i64 l] 3 (0,0)) ->
 Calls prog 185 #[.pointer (some ⟨lb,0,none⟩),bN t.op t.nm t.n a t.ks.len c,.func (.func 133) #[] #[]] w fun e w'=>aC (· = lb) w w' /\
  (aR t<=l->∃ v,e=.returned (.tuple #[v,.bool true])/\oQ (fun b=>w.heap.size<=b) w' t v) /\
  (aR t<=l->w'.heap[lb]? = some (.cells #[.int .i64 ((l-aR t:Nat):Int)] 3 (0,0))) /\
  (¬ aR t<=l->e=.returned (.tuple #[.string ⟨#[]⟩,.bool false]))
theorem Gz (t:TN) (ih:fU NS t.ks):NS t:=by
 intro G lb w a c l hl L hG je hr ja;obtain ⟨i0,hi,jx,jw,jv⟩:=info_parts Ss;have ju:prog.underlying 55=some (.slice 9):=underlying55;have jp:=(Array.getElem?_eq_some_iff.1 ja).1;have IH:=aA ih;have R:=aA hr;have jq:=aA L;have HG:=aA hG;have WD:=aA je;have C:=bA0 w (ndG t.op t.nm t.n a t.ks.len c);have NB:=heap_alloc_new w (ndG t.op t.nm t.n a t.ks.len c);have N:=(C.block lb jp).trans ja;have jn:(w.alloc (ndG t.op t.nm t.n a t.ks.len c)).heap.size=w.heap.size+1:=Tc _ _;generalize hW:w.alloc (ndG t.op t.nm t.n a t.ks.len c)=W at C NB N jn;have HW:=aA hW;have jf:aR t=1+dC t.ks:=rfl;have kq:=tM t.ks;have K1:=(aF C (· = lb)).setCell (p:=⟨lb,0,none⟩) (.inl rfl) (.int .i64 ((l:Int)-1));have o:=Hp N (.int .i64 ((l:Int)-1));have m:=((aC.refl (· = lb) W).setCell (p:=⟨lb,0,none⟩) (.inl rfl) (.int .i64 ((l:Int)-1))).heap NB (by omega);have S:(W.setCell ⟨lb,0,none⟩ (.int .i64 ((l:Int)-1))).heap.size=w.heap.size+1:=by rw [World.size_setCell];exact jn
 obtain ⟨lc,lf⟩:=mR N;by_cases s:(l:Int)-1<(t.ks.len:Int)
 · have P:=aA (show ¬ aR t<=l by omega)
   generalize hV:W.setCell ⟨lb,0,none⟩ (.int .i64 ((l:Int)-1))=V at K1 o m S;have HV:=aA hV;obtain ⟨jl, -⟩:=mR o;obtain ⟨⟨m0,m1,m2,m3⟩, -⟩:=aL m;have jb:=aA K1;clear hr L hG ih je ja hW hV K1 N o NB m C jf;go_enter func185,ntmps185
   go_upto_region 2 with fail
   rw [HW.out];go_upto_region 3 with fail
   rw [HV.out];go_wp2_with (go_quiet (fail))
   go_ret2;exact ⟨jb.out.drewN _,fun h=>absurd h P.out,fun h=>absurd h P.out,fun _=>rfl⟩
 · obtain ⟨r,rfl⟩:∃ r,l=r+1:=⟨l-1,by omega⟩
   have M:(((r+1:Nat):Int)-1)=(r:Int):=by omega
   rw [M] at K1 o m S s;generalize hV:W.setCell ⟨lb,0,none⟩ (.int .i64 (r:Int))=V at K1 o m S;have HV:=aA hV;obtain ⟨jl, -⟩:=mR o;obtain ⟨⟨m0,m1,m2,m3⟩, -⟩:=aL m;have jb:=aA K1;have js:=aA o;have jr:=aA m;have ku:t.ks.len<=r:=by omega
   have b9:¬ (r:Int)<(t.ks.len:Int):=s;clear hr L hG ih je ja hW hV K1 N o NB m C s M;go_enter func185,ntmps185
   go_upto_region 2 with fail
   rw [HW.out];go_upto_region 3 with fail
   rw [HV.out];go_upto_region 5 with (go_quiet (fail))
   have jt:=aA (jb.out.drewN nq);have jd:=aA (show (V.drewN nq).heap[lb]? = _ from js.out);have jc:=aA (show (V.drewN nq).heap[w.heap.size]? = _ from jr.out);have jz:(V.drewN nq).heap.size=w.heap.size+1:=S;have n3:(V.drewN nq).cell? ⟨w.heap.size,3,none⟩=some (.slice a t.ks.len c):=m3;generalize V.drewN nq=U at jt jd jc jz n3 |-
   clear m0 m1 m2 m3 lc lf jl HW HV jb js jr;go_wp2_with fail
   go_loopw [9,30] (fun kv i wr=>∃ (k x:Nat) (D:Tp) (vc:Nat) (vs:List Value),kv=.slice D k vc/\i=.int .i64 k/\k<=t.ks.len/\x+dC t.ks=r+dC (t.ks.drop k)/\Hid (wr.ownsRow (w.heap.size+1) 9 1 (.slice D k vc) k vs) /\
    Hid (∀ j t2,j<k->t.ks.at j=some t2->∃ v,vs[j]? = some v/\oQ (fun b=>w.heap.size+1<=b/\(Tj D k vc).ownBlock ≠ some b) wr t2 v)/\Hid (wr.heap[lb]? = some (.cells #[.int .i64 x] 3 (0,0)))/\Hid (aC (· = lb) w wr)/\Hid (wr.heap[w.heap.size]? = some (ndG t.op t.nm t.n a t.ks.len c))) (fun _ i _=>t.ks.len-(intOf i).toNat)
   case atStart=>exact ⟨0,r,none,0,[],rfl,rfl,Nat.zero_le _,by rw [F.drop_zero],aA (World.ownsRow_nil _ _ _ _),aA (fun _ _ h=>absurd h (Nat.not_lt_zero _)),jd,jt,jc⟩
   case round =>
    obtain ⟨k,x,D,vc,vs,rfl,rfl,hk,hx,hO,hV,hL,hK,hN⟩:=hrel;clear n3;obtain ⟨⟨m0,m1,m2,m3⟩, -⟩:=aL hN.out;have hz:=hK.out.size;by_cases kf:k<t.ks.len
    · obtain ⟨t2,B, -⟩:=eV kf
      have kt:=t8 B;have kw:=jX t.ks k;obtain ⟨b,off,a2,c2,ha,ki,kx,⟨p0,p1,p2,p3⟩,jo⟩:=cP (R.out.keptS hK.out (fun q f d=>HG.out q d f)) B;subst ha;have ky:w.heap.size<wr.heap.size:=(Array.getElem?_eq_some_iff.1 hN.out).1;have C:=bA0 wr (ndG t2.op t2.nm t2.n a2 t2.ks.len c2);have NB:=heap_alloc_new wr (ndG t2.op t2.nm t2.n a2 t2.ks.len c2);have kb:(wr.alloc (ndG t2.op t2.nm t2.n a2 t2.ks.len c2)).heap.size=wr.heap.size+1:=Tc _ _;generalize hX:wr.alloc (ndG t2.op t2.nm t2.n a2 t2.ks.len c2)=Z at C NB kb;have HX:=aA hX;have CF:=aA ((fU.at IH.out B) G lb Z a2 c2 x (by omega) (Sf jq.out B) HG.out (wdT WD.out (hK.out.trans (aF C (· = lb)) (fun _ h _=>h))) (jo.kept C) ((C.block lb (by omega)).trans hL.out));have km:=aA B;have jj:=aA C;have OZ:=aA (cK hO.out C);obtain ⟨⟨z0,z1,z2,z3⟩, -⟩:=aL NB;clear hX C NB jo B ki;go_upto_region 9 with fail
      rw [HX.out];clear p0 p1 p2 p3 m0 m1 m2 m3;go_wp2_with fail
      refine CF.out.mono ?_;rintro e A ⟨k2,ji,jh,hB⟩;have ko:=k2.size;have K2:=aA (hK.out.trans ((aF jj.out (· = lb)).trans k2 (fun _ h _=>h)) (fun _ h _=>h));have N2:=aA (k2.heap ((jj.out.block w.heap.size (by omega)).trans hN.out) (by omega));by_cases g:aR t2<=x
      · obtain ⟨v,rfl,hv⟩:=ji g
        obtain ⟨z,rfl⟩:=QK hv;have L2:=aA (jh g);have O2:=aA (eZ (row:=some lb) OZ.out (k2.mono (fun i hi _=>by rw [hi])) (fun q f e=>by have:=(OZ.out.lt q f).1;have:=Option.some.inj e;omega));have kj:=aA hv;have jm:(x-aR t2)+dC t.ks=r+dC (t.ks.drop (k+1)):=by omega
        have kr:k+1<=1000:=by omega
        have jk:∀ u∈[(Value.string z)],u.oneCell'=true:=fun u hu=>by rw [List.mem_singleton.1 hu];exact SP hv
        clear CF ji jh hB hv g z0 z1 z2 z3;go_upto_region 12 with fail
        have BN:=bA0 A (.cells #[(Value.string z)] 9)
        have F2:=aA (show ∀ j u,[(Value.string z)][j]? = some u->(A.alloc (.cells #[(Value.string z)] 9)).cell? ((⟨A.heap.size,0,none⟩:Addr).add j)=some u from fun j u hj=>by
         rw [Addr.add_lit,Nat.zero_add,cell_of_row _ _ _ _ _ (0,0) (heap_alloc_new A _)];simpa using hj)
        have kl:=aA BN;clear BN;go_wp2_with (at_builtin;refine aS rfl _ _ 55 rfl ju hi jx jw jv rfl (by decide) (.slice D k vc) k 1 1 ⟨A.heap.size,0,none⟩ vs [(Value.string z)] rfl rfl (cK O2.out kl.out) rfl F2.out jk (by unfold maxLen;omega) (by omega) (by rw [Tc];omega) ?_)
        intro v3 w3 ho d f;obtain ⟨I,E,rfl⟩:=eL ho;have kg:aC (fun b=>(Tj D k vc).ownBlock=some b) A w3:=((aC.refl _ A).alloc _).grown d (fun q f=>.inl f);have X:∀ q,(Tj D k vc).ownBlock=some q->w.heap.size+1<=q/\q<A.heap.size:=fun q f=>by have:=O2.out.lt q f;omega
        have O3:=aA ho;have L3:=aA (kg.heap L2.out (fun e=>by have:=X lb e;omega));have K3:=aA (K2.out.trans (kg.mono (T:=fun b=>w.heap.size+1<=b) (fun i hi _=>(X i hi).1)) (fun i hi jp=>by omega));have N3:=aA (kg.heap N2.out (fun e=>by have:=X _ e;omega))
        have y:∀ b,b<A.heap.size->(Tj D k vc).ownBlock ≠ some b->(Tj I (k+1) E).ownBlock ≠ some b:=fun b O Y e=>by
         rcases f b e with h1 | h1
         · exact Y h1
         · omega
        have V3:=aA (show ∀ j t3,j<k+1->t.ks.at j=some t3->∃ u,(vs++[(Value.string z)])[j]? = some u/\oQ (fun b=>w.heap.size+1<=b/\(Tj I (k+1) E).ownBlock ≠ some b) w3 t3 u from fun j t3 hj jg=>by
         have jy:vs.length=k:=by have:=hO.out.1;rwa [Nat.mul_one] at this
         by_cases kh:j<k
         · obtain ⟨u,hu,ke⟩:=hV.out j t3 kh jg
           refine ⟨u,by rw [List.getElem?_append_left (by omega)];exact hu,?_⟩;have r1:=nJ (nJ ke (aF jj.out (fun _=>False)) (fun _ h=>h.elim)) k2 (fun q f d=>by have:=d.1;omega);have r2:=mM (H:=fun b=>(w.heap.size+1<=b/\(Tj D k vc).ownBlock ≠ some b)/\(Tj I (k+1) E).ownBlock ≠ some b) r1 (fun b O d=>⟨d,y b O d.2⟩);exact mM (nJ r2 kg (fun q f d=>d.1.2 f)) (fun b O d=>⟨d.1.1,d.2⟩)
         · obtain rfl:j=k:=by omega
           have:t3=t2:=by rw [km.out] at jg;exact (Option.some.inj jg).symm
           subst this;refine ⟨_,by rw [List.getElem?_append_right (by omega),jy,Nat.sub_self];rfl,?_⟩
           have r2:=mM (H:=fun b=>(w.heap.size+1<=b/\(Tj D j vc).ownBlock ≠ some b)/\(Tj I (j+1) E).ownBlock ≠ some b) kj.out (fun b O d=>by
            have Y:(Tj D j vc).ownBlock ≠ some b:=fun e=>by have:=(OZ.out.lt b e).2;omega
            exact ⟨⟨by omega,Y⟩,y b O Y⟩)
           exact mM (nJ r2 kg (fun q f d=>d.1.2 f)) (fun b O d=>⟨d.1.1,d.2⟩))
        clear ho d f kg X y;go_wp2_with fail
        go_roundw
        case rel=>exact ⟨k+1,x-aR t2,I,E,vs++[(Value.string z)],rfl,by go_num,by omega,jm,O3,V3,L3,K3,N3⟩
        case measure=>simp [intOf];omega
      · obtain rfl:=hB g
        have P:=aA (show ¬ aR t<=r+1 by omega);clear CF ji jh hB g z0 z1 z2 z3;go_wp2_with fail
        go_ret2;exact ⟨K2.out,fun h=>absurd h P.out,fun h=>absurd h P.out,fun _=>rfl⟩
    · obtain rfl:k=t.ks.len:=by omega
      have jm:x+dC t.ks=r:=by rw [hx,F.drop_len _ _ (Td _)];rfl
      have CO:=aA (Pe t wr G a c D vc vs (w.heap.size+1) jq.out (wdT WD.out hK.out) (R.out.keptS hK.out (fun q f d=>HG.out q d f)) hO.out (fun j t2 hj=>hV.out j t2 (QA hj) hj));go_wp2_with fail
      refine CO.out.mono ?_;rintro e A ⟨v,rfl,hv,O⟩
      have P:=aA (show aC (· = lb) w A/\oQ (fun b=>w.heap.size<=b) A t v/\A.heap[lb]? = some (.cells #[.int .i64 ((r+1-aR t:Nat):Int)] 3 (0,0))/\aR t<=r+1 from
       ⟨hK.out.trans (aF O (· = lb)) (fun _ h _=>h),mM hv (fun b _ d=>by omega),by rw [O.block lb (by omega),hL.out,show x=r+1-aR t by omega],by omega⟩)
      clear hv O CO m0 m1 m2 m3;go_wp2_with fail
      go_ret2;exact ⟨P.out.1,fun _=>⟨v,rfl,P.out.2.1⟩,fun _=>P.out.2.2.1,fun h=>absurd P.out.2.2.2 h⟩
theorem JU (t:TN):NS t:=qA Gz t
theorem JT (t:TN) (G:Nat->Prop) (w:World) (a:Tp) (c:Nat) (f:NN t) (k:∀ lb,w.heap.size<=lb->WdT lb w) (hr:aK G w a t.ks) :
 Calls prog 132 #[bN t.op t.nm t.n a t.ks.len c,.func (.func 133) #[] #[]] w fun e w'=>Below w.heap.size w w' /\
  (aR t<=32->∃ v,e=.returned (.tuple #[v,.bool true])/\oQ (fun b=>w.heap.size<=b) w' t v)/\(¬ aR t<=32->e=.returned (.tuple #[.string ⟨#[]⟩,.bool false])):=by
 have C:=bA0 w (ndG t.op t.nm t.n a t.ks.len c);have z:=heap_alloc_new w (ndG t.op t.nm t.n a t.ks.len c);have l:(w.alloc (ndG t.op t.nm t.n a t.ks.len c)).heap.size=w.heap.size+1:=Tc _ _;generalize N:w.alloc (ndG t.op t.nm t.n a t.ks.len c)=W at C z l;have p:=bA0 W (.cells #[.int .i64 32] 3);have m:=heap_alloc_new W (.cells #[.int .i64 32] 3);have s:(W.alloc (.cells #[.int .i64 32] 3)).heap.size=w.heap.size+2:=by rw [Tc];omega
 generalize O:W.alloc (.cells #[.int .i64 32] 3)=V at p m s;rw [l] at m;have o:=C.trans (p.mono (by omega));have P:=(p.block w.heap.size (by omega)).trans z;have g:=hr.imp (H:=fun b=>G b/\b<w.heap.size) (fun b S u=>⟨u,S⟩);have A:=aA (JU t (fun b=>G b/\b<w.heap.size) (w.heap.size+1) V a c 32 (by omega) f (fun b u=>by omega) (wdT (k (w.heap.size+1) (by omega)) (aF o (fun _=>False) |>.mono (fun _ h _=>h.elim):aC (· = w.heap.size+1) w V)) (g.keptS (aF o (fun _=>False)) (fun _ h=>h.elim)) m);have T:=aA N;have U:=aA O;have Y:=aA o;obtain ⟨⟨L,I,E,D⟩, -⟩:=aL P;clear N O C z p m o P g hr f k;go_enter func132,ntmps132
 go_upto_region 1 with fail
 rw [T.out];go_upto_region 2 with fail
 rw [U.out];go_wp2_with fail
 refine A.out.mono ?_;rintro e Z ⟨r,y, -,x⟩;have R:=aA (Y.out.trans (aC.below r (B:=w.heap.size) (fun q hq=>by omega) (by omega)));by_cases d:aR t<=32
 · obtain ⟨v,rfl,M⟩:=y d
   have X:=aA (mM M (H:=fun b=>w.heap.size<=b) (fun b _ u=>by omega));have j:=aA d;clear r y x M d A L I E D;go_wp2_with fail
   go_ret2;exact ⟨R.out,fun _=>⟨v,rfl,X.out⟩,fun h=>absurd j.out h⟩
 · obtain rfl:=x d
   have j:=aA d;clear r y x d A L I E D;go_wp2_with fail
   go_ret2;exact ⟨R.out,fun h=>absurd h j.out,fun _=>rfl⟩
theorem i1 (t:TN) (G:Nat->Prop) (w:World) (a:Tp) (c:Nat) (r:SzF t.f) (hr:aK G w a t.ks) :
 Calls prog 188 #[bN t.op t.nm t.n a t.ks.len c] w fun e w'=>e=.returned (.int .i64 (aW t))/\Below w.heap.size w w':=by
 have d:=bA0 w (ndG t.op t.nm t.n a t.ks.len c);have l:=heap_alloc_new w (ndG t.op t.nm t.n a t.ks.len c);have o:=JV t G (w.alloc (ndG t.op t.nm t.n a t.ks.len c)) a c r (fun _ _=>trivial) (hr.kept d);have hz:w.heap.size<=(w.alloc (ndG t.op t.nm t.n a t.ks.len c)).heap.size:=d.size;generalize q:w.alloc (ndG t.op t.nm t.n a t.ks.len c)=W at d l o hz;have m:=aA o;have y:=aA d;have x:=aA q;have s:=aA (Dg t);obtain ⟨⟨D,C,B,A⟩, -⟩:=aL l;clear q d l o hr r;go_enter func188,ntmps188
 go_upto_region 1 with fail
 rw [x.out];go_wp2_with fail
 refine m.out.mono ?_;rintro e z ⟨g,k,j⟩;have u:=aA (y.out.trans (g.mono hz));by_cases b:aR t<=32
 · obtain ⟨v,rfl,p⟩:=k b
   unfold oR at p;subst p;have E:=aA (show aW t=bK t.f by unfold aW;rw [if_neg (fun h=>by have:=s.out.1 h;omega)]);clear g k j b;go_wp2_with fail
   go_ret;rw [E.out];exact ⟨rfl,u.out⟩
 · obtain rfl:=j b
   have E:=aA (show aW t=4 by unfold aW;rw [if_pos (s.out.2 (by omega))]);clear g k j b;go_wp2_with fail
   go_ret;rw [E.out];exact ⟨rfl,u.out⟩
theorem qJ (t:TN) (G:Nat->Prop) (w:World) (a:Tp) (c:Nat) (ho:OkT t) (hn:dU t.f) (hs:aR t<=32) (hl:lW w) (hr:aK G w a t.ks) :
 Calls prog 74 #[bN t.op t.nm t.n a t.ks.len c] w fun e w'=>e=.returned (.string ⟨(aV t).toArray⟩)/\Below w.heap.size w w':=by
 have b:=bA0 w (ndG t.op t.nm t.n a t.ks.len c);have g:=heap_alloc_new w (ndG t.op t.nm t.n a t.ks.len c)
 have LT:lW (w.alloc (ndG t.op t.nm t.n a t.ks.len c)):=by
  obtain ⟨l,f,d⟩:=hl;exact ⟨l,f,(b.block _ (Array.getElem?_eq_some_iff.1 d).1).trans d⟩
 have k:=JT t G (w.alloc (ndG t.op t.nm t.n a t.ks.len c)) a c ⟨Rc t ho hn,by have:=DE t ho hn;omega⟩ (fun lb r=>⟨LT,fun e=>by
  obtain ⟨l,f,d⟩:=LT;have:=(Array.getElem?_eq_some_iff.1 d).1;omega⟩) (hr.kept b)
 have hz:w.heap.size<=(w.alloc (ndG t.op t.nm t.n a t.ks.len c)).heap.size:=b.size;generalize p:w.alloc (ndG t.op t.nm t.n a t.ks.len c)=W at b g k hz LT;have h:=aA k;have u:=aA b;have s:=aA p;have j:=aA hs;obtain ⟨⟨C,B,A,z⟩, -⟩:=aL g;clear p b g k hr hs LT hl ho hn;go_enter func74,ntmps74
 go_upto_region 1 with fail
 rw [s.out];go_wp2_with fail
 refine h.out.mono ?_;rintro e y ⟨o,q, -⟩;have x:=aA (u.out.trans (o.mono hz));obtain ⟨v,rfl,m⟩:=q j.out;unfold oQ at m;subst m;clear o q;go_wp2_with fail
 go_ret;exact ⟨rfl,x.out⟩
def An (w:World):Prop:=iE w/\lW w
theorem lW.step {w w':World} (h:lW w) (b:Below w.heap.size w w'):lW w':=by
 obtain ⟨t,f,a⟩:=h;exact ⟨t,f,(b.block _ (Array.getElem?_eq_some_iff.1 a).1).trans a⟩
theorem An.step {w w':World} (h:An w) (a:Below w.heap.size w w'):An w':=⟨h.1.step a,h.2.step a⟩
def sB (i:Nat):UInt8:=if i=0 then 43 else if i=1 then 45 else if i=2 then 42 else if i=3 then 47 else 37
def QS (i j:Nat):Bool:=decide (i<2) && decide (2<=j)
def nR (i j:Nat):TN:=fG [sB i] (fE [97]) (fG [sB j] (fE [98]) (fE [99]))
def nL (i j:Nat):TN:=fG [sB j] (fG [sB i] (fE [97]) (fE [98])) (fE [99])
def n1 (i j:Nat):TN:=if QS i j=true then nR i j else nL i j
abbrev Bd (B b:Nat) (bs:List Value) (w:World):Prop:=Lib.IsBuilder 92 5 B b bs w
def sM (o:Tr) (a b:Int):Option Int :=
 if o.data.toList == [43] then some (eC (a+b))
 else if o.data.toList == [45] then some (eC (a-b))
 else if o.data.toList == [42] then some (eC (a*b))
 else if o.data.toList == [47] then (if b=0 then none else some (eC (a.tdiv b)))
 else (if b=0 then none else some (a.tmod b))
def evN (g:Tr->Option Int) (o m:Tr) (n:Int) (vs:List (Option Int)):Option Int :=
 if bZ o then some n else if bT o then g m else if fM o then (vs.getD 0 none).map (fun a=>eC (0-a))
 else match vs.getD 0 none,vs.getD 1 none with
  | some a,some b=>sM o a b
  | _,_=>none
def evF (g:Tr->Option Int):F->List (Option Int)
 | .nil=>[]
 | .cons o m n ks r=>evN g o m n (evF g ks)::evF g r
def evT (g:Tr->Option Int) (t:TN):Option Int:=evN g t.op t.nm t.n (evF g t.ks)
theorem Nh (g:Tr->Option Int) {o m:Tr} {n:Int} {ks:F} (h:bZ o=true):evT g ⟨o,m,n,ks⟩=some n:=by
 unfold evT evN;rw [if_pos h]
theorem Ig (g:Tr->Option Int) {o m:Tr} {n:Int} {ks:F} (h:bZ o=false) (a:bT o=true):evT g ⟨o,m,n,ks⟩=g m:=by
 unfold evT evN;rw [if_neg (by simp [h]),if_pos a]
theorem Ni (g:Tr->Option Int) {o m:Tr} {n:Int} (a:TN) (h:bZ o=false) (c:bT o=false) (b:fM o=true):evT g ⟨o,m,n,a.f⟩=(evT g a).map (fun x=>eC (0-x)):=by
 unfold evT evN;rw [if_neg (by simp [h]),if_neg (by simp [c]),if_pos b];rfl
theorem Ng (g:Tr->Option Int) {o m:Tr} {n:Int} (a b:TN) (h:bZ o=false) (d:bT o=false) (c:fM o=false) :
 evT g ⟨o,m,n,.cons a.op a.nm a.n a.ks b.f⟩=match evT g a,evT g b with | some x,some y=>sM o x y | _,_=>none:=by
 unfold evT evN;rw [if_neg (by simp [h]),if_neg (by simp [d]),if_neg (by simp [c])];rfl
theorem DD {c b:Int} (h:0<=c):0<=c.tmod b/\c.tmod b<=c:=by
 refine ⟨Int.tmod_nonneg b h,?_⟩;have d:(c.tmod b).natAbs<=c.natAbs:=by rw [Int.natAbs_tmod];exact Nat.mod_le _ _
 have a:=Int.tmod_nonneg b h;omega
theorem Oo {a:Int} (b:Int) (ha:bW a):bW (a.tmod b):=by
 unfold bW at ha |-
 rcases Int.le_total 0 a with h | h
 · have:=DD (b:=b) h
   omega
 · have d:=DD (c:= -a) (b:=b) (by omega)
   rw [Int.neg_tmod] at d;omega
theorem Nw {o:Tr} {a b v:Int} (ha:bW a) (h:sM o a b=some v):bW v:=by
 unfold sM at h;split at h
 · cases h;exact nB _
 split at h
 · cases h;exact nB _
 split at h
 · cases h;exact nB _
 split at h
 · split at h
   · cases h
   · cases h;exact nB _
 · split at h
   · cases h
   · cases h;exact Oo b ha
theorem Il (o:Tr) (x:Tq):(o.toList == x)=decide (o=⟨x.toArray⟩):=by
 rw [Tm];by_cases h:o=⟨x.toArray⟩
 · subst h;simp
 · rw [decide_eq_false h]
   rw [beq_eq_false_iff_ne];intro e;exact h (dO (by simpa using e))
theorem gW {o:Tr} {x:Tq} (h:o=⟨x.toArray⟩):(o.toList == x)=true:=by rw [Il];exact decide_eq_true h
theorem bU {o:Tr} {x:Tq} (h:¬ o=⟨x.toArray⟩):(o.toList == x)=false:=by rw [Il];exact decide_eq_false h
def bE (o:Tr) (a b:Int):Option Bool :=
 if o=⟨#[61]⟩ then some (a == b) else if o=⟨#[33,61]⟩ then some (a != b) else if o=⟨#[60]⟩ then some (decide (a<b))
 else if o=⟨#[60,61]⟩ then some (decide (a<=b)) else if o=⟨#[62]⟩ then some (decide (b<a)) else if o=⟨#[62,61]⟩ then some (decide (b<=a)) else none
theorem yE (o:Tr) (a b:Int) (w:World):Calls prog 231 #[.string o,.int .i64 a,.int .i64 b] w fun e w'=>e=.returned (.tuple #[.bool ((bE o a b).getD false),.bool (bE o a b).isSome])/\w=w':=by
 by_cases c:o=⟨#[61]⟩
 · have k:=gW (x:=[61]) c
   unfold bE;rw [if_pos c];clear c;go_enter func231,ntmps231
   go_wp2_with fail
   go_ret2;exact ⟨rfl,rfl⟩
 · by_cases d:o=⟨#[33,61]⟩
   · have k:=bU (x:=[61]) c
     have l:=gW (x:=[33,61]) d;unfold bE;rw [if_neg c];rw [if_pos d];clear c d;go_enter func231,ntmps231
     go_wp2_with fail
     go_ret2;exact ⟨rfl,rfl⟩
   · by_cases f:o=⟨#[60]⟩
     · have k:=bU (x:=[61]) c
       have l:=bU (x:=[33,61]) d;have m:=gW (x:=[60]) f;unfold bE;rw [if_neg c];rw [if_neg d];rw [if_pos f];clear c d f;go_enter func231,ntmps231
       go_wp2_with fail
       go_ret2;exact ⟨rfl,rfl⟩
     · by_cases g:o=⟨#[60,61]⟩
       · have k:=bU (x:=[61]) c
         have l:=bU (x:=[33,61]) d;have m:=bU (x:=[60]) f;have n:=gW (x:=[60,61]) g;unfold bE;rw [if_neg c];rw [if_neg d];rw [if_neg f];rw [if_pos g];clear c d f g;go_enter func231,ntmps231
         go_wp2_with fail
         go_ret2;exact ⟨rfl,rfl⟩
       · by_cases h:o=⟨#[62]⟩
         · have k:=bU (x:=[61]) c
           have l:=bU (x:=[33,61]) d;have m:=bU (x:=[60]) f;have n:=bU (x:=[60,61]) g;have p:=gW (x:=[62]) h;unfold bE;rw [if_neg c];rw [if_neg d];rw [if_neg f];rw [if_neg g];rw [if_pos h];clear c d f g h;go_enter func231,ntmps231
           go_wp2_with fail
           go_ret2;exact ⟨rfl,rfl⟩
         · by_cases j:o=⟨#[62,61]⟩
           · have k:=bU (x:=[61]) c
             have l:=bU (x:=[33,61]) d;have m:=bU (x:=[60]) f;have n:=bU (x:=[60,61]) g;have p:=bU (x:=[62]) h;have q:=gW (x:=[62,61]) j;unfold bE;rw [if_neg c];rw [if_neg d];rw [if_neg f];rw [if_neg g];rw [if_neg h];rw [if_pos j];clear c d f g h j;go_enter func231,ntmps231
             go_wp2_with fail
             go_ret2;exact ⟨rfl,rfl⟩
           · have k:=bU (x:=[61]) c
             have l:=bU (x:=[33,61]) d;have m:=bU (x:=[60]) f;have n:=bU (x:=[60,61]) g;have p:=bU (x:=[62]) h;have q:=bU (x:=[62,61]) j;unfold bE;rw [if_neg c];rw [if_neg d];rw [if_neg f];rw [if_neg g];rw [if_neg h];rw [if_neg j];clear c d f g h j;go_enter func231,ntmps231
             go_wp2_with fail
             go_ret2;exact ⟨rfl,rfl⟩
theorem xV (o:Tr) (a b:Int) (w:World):Calls prog 69 #[.string o,.int .i64 a,.int .i64 b] w fun e w'=>e=.returned (.tuple #[.bool ((bE o a b).getD false),.bool (bE o a b).isSome])/\w=w':=by
 by_cases c:o=⟨#[61]⟩
 · have k:=gW (x:=[61]) c
   unfold bE;rw [if_pos c];clear c;go_enter func69,ntmps69
   go_wp2_with fail
   go_ret2;exact ⟨rfl,rfl⟩
 · by_cases d:o=⟨#[33,61]⟩
   · have k:=bU (x:=[61]) c
     have l:=gW (x:=[33,61]) d;unfold bE;rw [if_neg c];rw [if_pos d];clear c d;go_enter func69,ntmps69
     go_wp2_with fail
     go_ret2;exact ⟨rfl,rfl⟩
   · by_cases f:o=⟨#[60]⟩
     · have k:=bU (x:=[61]) c
       have l:=bU (x:=[33,61]) d;have m:=gW (x:=[60]) f;unfold bE;rw [if_neg c];rw [if_neg d];rw [if_pos f];clear c d f;go_enter func69,ntmps69
       go_wp2_with fail
       go_ret2;exact ⟨rfl,rfl⟩
     · by_cases g:o=⟨#[60,61]⟩
       · have k:=bU (x:=[61]) c
         have l:=bU (x:=[33,61]) d;have m:=bU (x:=[60]) f;have n:=gW (x:=[60,61]) g;unfold bE;rw [if_neg c];rw [if_neg d];rw [if_neg f];rw [if_pos g];clear c d f g;go_enter func69,ntmps69
         go_wp2_with fail
         go_ret2;exact ⟨rfl,rfl⟩
       · by_cases h:o=⟨#[62]⟩
         · have k:=bU (x:=[61]) c
           have l:=bU (x:=[33,61]) d;have m:=bU (x:=[60]) f;have n:=bU (x:=[60,61]) g;have p:=gW (x:=[62]) h;unfold bE;rw [if_neg c];rw [if_neg d];rw [if_neg f];rw [if_neg g];rw [if_pos h];clear c d f g h;go_enter func69,ntmps69
           go_wp2_with fail
           go_ret2;exact ⟨rfl,rfl⟩
         · by_cases j:o=⟨#[62,61]⟩
           · have k:=bU (x:=[61]) c
             have l:=bU (x:=[33,61]) d;have m:=bU (x:=[60]) f;have n:=bU (x:=[60,61]) g;have p:=bU (x:=[62]) h;have q:=gW (x:=[62,61]) j;unfold bE;rw [if_neg c];rw [if_neg d];rw [if_neg f];rw [if_neg g];rw [if_neg h];rw [if_pos j];clear c d f g h j;go_enter func69,ntmps69
             go_wp2_with fail
             go_ret2;exact ⟨rfl,rfl⟩
           · have k:=bU (x:=[61]) c
             have l:=bU (x:=[33,61]) d;have m:=bU (x:=[60]) f;have n:=bU (x:=[60,61]) g;have p:=bU (x:=[62]) h;have q:=bU (x:=[62,61]) j;unfold bE;rw [if_neg c];rw [if_neg d];rw [if_neg f];rw [if_neg g];rw [if_neg h];rw [if_neg j];clear c d f g h j;go_enter func69,ntmps69
             go_wp2_with fail
             go_ret2;exact ⟨rfl,rfl⟩
structure CD where
 op:Tr
 a:TN
 b:TN
structure AG where
 fn:Tr
 k:Int
 e:TN
 g:TN
 wh:List CD
def aN:Tq:=[99,111,117,110,116]
def lZ:Tq:=[109,105,110]
def oO:Tq:=[109,97,120]
def lY:Tq:=[115,117,109]
def aP:Tq:=[102,105,114,115,116]
def cH:Tq:=[116,111,112]
def eW:Tq:=[119,104,101,114,101]
def l8:Tq:=[97,110,100]
def dZ (x:Tq):Bool:=x == aN || x == lZ || x == oO || x == lY || x == aP || x == cH
def aU (L:List Tk) (x:Tq) (s:RS):RS:=if s.bad=0 then (if isS L x s.pos then aM s else aQ 2 s) else s
def bC (L:List Tk) (s:RS):TN×RS:=if s.bad=0 then (match ofL L s.pos with | .ok t q=>(t,⟨q,s.cnt,0,s.whr⟩) | .bad p e=>(aD,⟨p,s.cnt,e,p⟩)) else (aD,s)
def dX (L:List Tk) (x:Tq) (p:Nat):Bool:=match L[p]? with | some t=>t.kind == 1 && t.text == x | none=>false
def jW (L:List Tk) (s:RS):Int×RS :=
 if s.bad=0 then (match L[s.pos]? with
  | some t=>if t.kind=2 then (t.num,if t.num<1\/16<t.num then aM (aQ 1 s) else aM s) else (0,aQ 2 s)
  | none=>(0,aQ 2 s)) else (0,s)
def bJ (L:List Tk) (fn:Tq) (s:RS):(Int×TN×TN)×RS :=
 if fn=aN then ((0,aD,aD),s) else
 let p:=if fn=cH then ((jW L s).1,aU L [44] (jW L s).2) else (0,s)
 let e:=bC L p.2
 if fn=aP then (let g:=bC L (aU L [44] e.2);((p.1,e.1,g.1),g.2)) else ((p.1,e.1,aD),e.2)
def opB (L:List Tk) (p:Nat):Bool:=match L[p]? with | some t=>(bE ⟨t.text.toArray⟩ 0 0).isSome | none=>false
def cB (L:List Tk) (s:RS):CD×RS :=
 let a:=bC L s
 if a.2.bad=0 then
  if opB L a.2.pos=true then (let b:=bC L (aM a.2);(⟨⟨(eA L a.2.pos).toArray⟩,a.1,b.1⟩,b.2))
  else (⟨⟨#[]⟩,a.1,aD⟩,aQ 2 a.2)
 else (⟨⟨#[]⟩,a.1,aD⟩,a.2)
def eT (L:List Tk):Nat->List CD->RS->List CD×RS
 | 0,acc,s=>(acc,s)
 | f + 1, acc, s => if acc.length = 4 then (acc, aQ 4 s) else
   let c:=cB L (aM s)
   if (c.2.bad == 0 && dX L l8 c.2.pos)=true then eT L f (acc++[c.1]) c.2 else (acc++[c.1],c.2)
inductive oN | bad (p:Nat) (e:Int) | ok (a:AG)
def agL (L:List Tk):oN :=
 match L[0]? with
 | none=>.bad 0 2
 | some t =>
   if ¬ t.kind=1 then .bad 0 2 else
   if dZ t.text=false then .bad 0 5 else
   let s1:=aU L [40] ⟨1,0,0,0⟩
   if ¬ s1.bad=0 then .bad s1.whr s1.bad else
   let r:=bJ L t.text s1
   let s3:=aU L [41] r.2
   if ¬ s3.bad=0 then .bad s3.whr s3.bad else
   if L.length<=s3.pos then .ok ⟨⟨t.text.toArray⟩,r.1.1,r.1.2.1,r.1.2.2,[]⟩ else
   if dX L eW s3.pos=false then .bad s3.pos 2 else
   let c:=eT L 5 [] s3
   if ¬ c.2.bad=0 then .bad c.2.whr c.2.bad else
   if c.2.pos<L.length then .bad c.2.pos 2 else .ok ⟨⟨t.text.toArray⟩,r.1.1,r.1.2.1,r.1.2.2,c.1⟩
def agX (l:Tq):oN:=match gY l with
 | .bad p e=>.bad p e
 | .ok L => match agL L with
   | .bad p e=>.bad (eY l.length L p) e
   | .ok a=>.ok a
def gO:List CD->Int
 | []=>0
 | c::r=>if (bE c.op 0 0).isSome=false then 5 else if aW c.a=0 then (if aW c.b=0 then gO r else aW c.b) else aW c.a
def EZ (a:AG):Int:=if a.fn.data.toList=aN then 0 else if aW a.e=0 then (if a.fn.data.toList=aP then aW a.g else 0) else aW a.e
def gA (a:AG):Int :=
 if dZ a.fn.data.toList=false then 5 else
 if a.fn.data.toList=cH/\(a.k<1\/16<a.k) then 1 else
 if EZ a=0 then (if 4<a.wh.length then 4 else gO a.wh) else EZ a
def mJ:List CD->List CD->Bool
 | [],[]=>true
 | c::r,d::q=>(c.op.toList == d.op.toList) && dF c.a d.a && dF c.b d.b && mJ r q
 | _,_=>false
def vM (a b:AG):Bool :=
 (a.fn.toList == b.fn.toList) && !((a.fn.data.toList == cH) && a.k != b.k) && !((a.fn.data.toList != aN) && !dF a.e b.e) && !((a.fn.data.toList == aP) && !dF a.g b.g) && (a.wh.length == b.wh.length) && mJ a.wh b.wh
def gQ:List CD->Tq
 | []=>[]
 | c::r=>[32,97,110,100,32]++(aV c.a++32::(c.op.data.toList++32::aV c.b))++gQ r
def oI:List CD->Tq
 | []=>[]
 | c::r=>[32,119,104,101,114,101,32]++(aV c.a++32::(c.op.data.toList++32::aV c.b))++gQ r
def gL (a:AG):Tq :=
 if a.fn.data.toList=aN then [] else
 if a.fn.data.toList=cH then Lib.itoa a.k++44::32::aV a.e else
 if a.fn.data.toList=aP then aV a.e++44::32::aV a.g else aV a.e
def dY (a:AG):Tq:=a.fn.data.toList++40::(gL a++41::oI a.wh)
theorem fW {L:List Tk} {x:Tq} {s:RS} (h:¬ s.bad=0):aU L x s=s:=if_neg h
theorem f8 {L:List Tk} {s:RS} (h:¬ s.bad=0):bC L s=(aD,s):=if_neg h
def kH (n:Nat) (s:RS):Prop:=(s.bad=0->s.pos<=n)/\s.whr<=n
theorem lG {n:Nat} {s:RS} {e:Int} (b:¬ e=0) (h:kH n s):kH n (aQ e s):=by
 unfold aQ;by_cases a:s.bad=0
 · rw [if_pos a];exact ⟨fun c=>absurd c b,h.1 a⟩
 · rw [if_neg a];exact h
theorem pM {n:Nat} {s:RS} (h:kH n s) (b:s.bad=0->s.pos<n):kH n (aJ s):=by
 unfold aJ;by_cases a:s.bad=0
 · rw [if_pos a]
   split
   · exact ⟨fun c=>absurd c (by show ¬ (4:Int)=0;decide),h.1 a⟩
   · exact ⟨fun _=>b a,h.2⟩
 · rw [if_neg a];exact ⟨fun c=>absurd c a,h.2⟩
theorem iO {n:Nat} {s:RS} (h:kH n s) (a:s.bad=0->s.pos<n):kH n (aM s):=⟨fun b=>a b,h.2⟩
theorem J3 {L:List Tk} {s:RS} (h:kH L.length s):kH L.length (dS L s):=by
 unfold dS;by_cases b:s.bad=0
 · cases hs:isS L [41] s.pos with
   | true =>
     have e:(s.bad == 0 && !true)=false:=by simp
     rw [if_neg (by rw [e];decide)];exact iO h (fun _=>gN hs)
   | false =>
     have e:(s.bad == 0 && !false)=true:=by rw [b];rfl
     rw [if_pos e];refine iO (lG (by decide) h) (fun a=>?_);unfold aQ at a;rw [if_pos b] at a;exact absurd a (by show ¬ (2:Int)=0;decide)
 · have e:(s.bad == 0 && !isS L [41] s.pos)=false:=by
    have:(s.bad == 0)=false:=by simpa using b
    rw [this];rfl
   rw [if_neg (by rw [e];decide)];exact iO h (fun a=>absurd a b)
theorem lA (L:List Tk):∀ (f:Nat) (md:Md) (s:RS),kH L.length s->kH L.length (pr L f md s).2
 | 0,_,s,h=>h
 | f + 1, .fac, s, h => by
   rw [pr];by_cases g:s.bad=0
   · rw [if_pos g]
     cases l:L[s.pos]? with
     | none=>exact lG (by decide) h
     | some t =>
       have a:s.bad=0->s.pos<L.length:=fun _=>(List.getElem?_eq_some_iff.1 l).1
       simp only;by_cases j:t.kind=2
       · rw [if_pos j];exact pM h a
       rw [if_neg j];by_cases k:t.kind=1
       · rw [if_pos k];exact pM h a
       rw [if_neg k];by_cases c:t.text=[45]
       · rw [if_pos c];exact lA L f .fac _ (pM h a)
       rw [if_neg c];by_cases d:t.text=[40]
       · rw [if_pos d];exact J3 (lA L f .sum _ (iO h a))
       rw [if_neg d];exact lG (by decide) h
   · rw [if_neg g];exact h
 | f + 1, .prod, s, h => by
   rw [pr];exact lA L f _ _ (lA L f .fac s h)
 | f + 1, .prodL n, s, h => by
   rw [pr];split
   · rename_i b
     simp only [Bool.and_eq_true] at b;exact lA L f _ _ (lA L f .fac _ (pM h (fun _=>pJ b.2)))
   · exact h
 | f + 1, .sum, s, h => by
   rw [pr];exact lA L f _ _ (lA L f .prod s h)
 | f + 1, .sumL n, s, h => by
   rw [pr];split
   · rename_i b
     simp only [Bool.and_eq_true] at b;exact lA L f _ _ (lA L f .prod _ (pM h (fun _=>pK b.2)))
   · exact h
theorem sE {L:List Tk} {p:Nat} (hp:p<=L.length):(∀ t q,ofL L p=.ok t q->q<=L.length)/\(∀ q e,ofL L p=.bad q e->q<=L.length/\¬ e=0):=by
 have h:kH L.length (pE L .sum ⟨p,0,0,0⟩).2:=lA L _ _ _ ⟨fun _=>hp,Nat.zero_le _⟩;unfold ofL;by_cases a:(pE L .sum ⟨p,0,0,0⟩).2.bad=0
 · rw [if_pos a]
   refine ⟨fun t q e=>?_,fun q e b=>by cases b⟩;cases e;exact h.1 a
 · rw [if_neg a]
   refine ⟨fun t q e=>(by cases e),fun q e b=>?_⟩;cases b;exact ⟨h.2,a⟩
theorem sP {L:List Tk} {x:Tq} {s:RS} (h:kH L.length s):kH L.length (aU L x s):=by
 unfold aU;by_cases a:s.bad=0
 · rw [if_pos a]
   cases hs:isS L x s.pos with
   | true=>rw [if_pos rfl];exact iO h (fun _=>gN hs)
   | false=>rw [if_neg (by decide)];exact lG (by decide) h
 · rw [if_neg a];exact h
theorem mX {L:List Tk} {s:RS} (h:kH L.length s):kH L.length (bC L s).2:=by
 unfold bC;by_cases a:s.bad=0
 · rw [if_pos a]
   have:=sE (h.1 a);cases ho:ofL L s.pos with
   | ok t q=>exact ⟨fun _=>this.1 t q ho,h.2⟩
   | bad q e=>exact ⟨fun b=>absurd b (this.2 q e ho).2,(this.2 q e ho).1⟩
 · rw [if_neg a];exact h
theorem Cb {L:List Tk} {x:Tq} {p:Nat} (h:dX L x p=true):p<L.length:=by
 unfold dX at h;split at h
 · rename_i t a
   exact (List.getElem?_eq_some_iff.1 a).1
 · cases h
theorem Sj {L:List Tk} {p:Nat} (h:opB L p=true):p<L.length:=by
 unfold opB at h;split at h
 · rename_i t a
   exact (List.getElem?_eq_some_iff.1 a).1
 · cases h
theorem Ol {L:List Tk} {s:RS} (h:kH L.length s):kH L.length (jW L s).2:=by
 unfold jW;by_cases b:s.bad=0
 · rw [if_pos b]
   cases g:L[s.pos]? with
   | none=>exact lG (by decide) h
   | some t =>
     have a:s.pos<L.length:=(List.getElem?_eq_some_iff.1 g).1;simp only;by_cases f:t.kind=2
     · rw [if_pos f]
       simp only;by_cases d:t.num<1\/16<t.num
       · rw [if_pos d]
         refine iO (lG (by decide) h) (fun c=>?_);unfold aQ at c;rw [if_pos b] at c;exact absurd c (by show ¬ (1:Int)=0;decide)
       · rw [if_neg d];exact iO h (fun _=>a)
     · rw [if_neg f];exact lG (by decide) h
 · rw [if_neg b];exact h
def jE (G:Nat->Prop) (w:World) (a:Tp) (l:List CD):Prop:=l=[]\/∃ b off,a=some ⟨b,off,none⟩/\G b/\b<w.heap.size/\∀ j x,l[j]? = some x ->
 ∃ a1 c1 a2 c2, (w.cell? ⟨b, off + j * 9, none⟩ = some (.string x.op) /\ w.cell? ⟨b, off + j * 9 + 1, none⟩ = some (.string x.a.op) /\ w.cell? ⟨b, off + j * 9 + 1 + 1, none⟩ = some (.string x.a.nm) /\ w.cell? ⟨b, off + j * 9 + 1 + 2, none⟩ = some (.int .i64 x.a.n) /\
   w.cell? ⟨b,off+j*9+1+3,none⟩=some (.slice a1 x.a.ks.len c1)/\w.cell? ⟨b,off+j*9+5,none⟩=some (.string x.b.op)/\w.cell? ⟨b,off+j*9+5+1,none⟩=some (.string x.b.nm)/\w.cell? ⟨b,off+j*9+5+2,none⟩=some (.int .i64 x.b.n) /\
   w.cell? ⟨b,off+j*9+5+3,none⟩=some (.slice a2 x.b.ks.len c2))/\aK G w a1 x.a.ks/\aK G w a2 x.b.ks
theorem jE.keptS {S G:Nat->Prop} {w w':World} {a:Tp} {l:List CD} (h:jE G w a l) (c:aC S w w') (f:∀ k,S k->¬ G k):jE G w' a l :=
 Or.imp id (fun ⟨b,off,e,hg,hlt,hc⟩=>⟨b,off,e,hg,Nat.lt_of_lt_of_le hlt c.size,fun j x g=>by
  have d:¬ S b:=fun hs=>f b hs hg
  obtain ⟨a1,c1,a2,c2,⟨u,t,s,r,q,p,o,n,m⟩,r1,r2⟩:=hc j x g;exact ⟨a1,c1,a2,c2,⟨c.cell u d,c.cell t d,c.cell s d,c.cell r d,c.cell q d,c.cell p d,c.cell o d,c.cell n d,c.cell m d⟩,r1.keptS c f,r2.keptS c f⟩⟩) h
theorem jE.kept {G:Nat->Prop} {w w':World} {a:Tp} {l:List CD} (h:jE G w a l) (b:Below w.heap.size w w'):jE G w' a l:=h.keptS (S:=fun _=>False) (aF b _) (fun _ h=>h.elim)
theorem jE.imp {G H:Nat->Prop} {w:World} {a:Tp} {l:List CD} (h:jE G w a l) (c:∀ b,b<w.heap.size->G b->H b):jE H w a l :=
 Or.imp id (fun ⟨b,off,e,hg,hlt,hc⟩=>⟨b,off,e,c b hlt hg,hlt,fun j x d=>by
  obtain ⟨a1,c1,a2,c2,f,r1,r2⟩:=hc j x d;exact ⟨a1,c1,a2,c2,f,r1.imp c,r2.imp c⟩⟩) h
structure PA where
 ea:Tp
 ec:Nat
 ga:Tp
 gc:Nat
 wa:Tp
 wc:Nat
abbrev agC (x:AG) (p:PA):Array Value:=#[.string x.fn,.int .i64 x.k,.string x.e.op,.string x.e.nm,.int .i64 x.e.n,.slice p.ea x.e.ks.len p.ec,.string x.g.op,.string x.g.nm,.int .i64 x.g.n,.slice p.ga x.g.ks.len p.gc,.slice p.wa x.wh.length p.wc]
abbrev agV (x:AG) (p:PA):Value:=.agg (agC x p)
abbrev agO (x:AG) (p:PA):Obj:=.cells (agC x p) 82
structure aX (G:Nat->Prop) (w:World) (x:AG) (p:PA):Prop where
 e:aK G w p.ea x.e.ks
 g:aK G w p.ga x.g.ks
 c:jE G w p.wa x.wh
theorem aX.kept {G:Nat->Prop} {w w':World} {x:AG} {p:PA} (h:aX G w x p) (a:Below w.heap.size w w'):aX G w' x p:=⟨h.e.kept a,h.g.kept a,h.c.kept a⟩
theorem aX.keptS {S G:Nat->Prop} {w w':World} {x:AG} {p:PA} (h:aX G w x p) (a:aC S w w') (b:∀ k,S k->¬ G k):aX G w' x p:=⟨h.e.keptS a b,h.g.keptS a b,h.c.keptS a b⟩
theorem aX.imp {G H:Nat->Prop} {w:World} {x:AG} {p:PA} (h:aX G w x p) (a:∀ b,b<w.heap.size->G b->H b):aX H w x p:=⟨h.e.imp a,h.g.imp a,h.c.imp a⟩
theorem aE {W:World} {B:Nat} {n m l k j g f d c b a:Value} {t:TypeId} (h:W.heap[B]? = some (.cells #[n,m,l,k,j,g,f,d,c,b,a] t (0,0))) :
 W.cell? ⟨B,0,none⟩=some n/\W.cell? ⟨B,1,none⟩=some m/\W.cell? ⟨B,2,none⟩=some l/\W.cell? ⟨B,3,none⟩=some k/\W.cell? ⟨B,4,none⟩=some j/\W.cell? ⟨B,5,none⟩=some g/\W.cell? ⟨B,6,none⟩=some f/\W.cell? ⟨B,7,none⟩=some d/\W.cell? ⟨B,8,none⟩=some c/\W.cell? ⟨B,9,none⟩=some b/\W.cell? ⟨B,10,none⟩=some a:=by
 refine ⟨?_,?_,?_,?_,?_,?_,?_,?_,?_,?_,?_⟩ <;> simp [World.cell?,h]
structure SzG (x:AG):Prop where
 e:SzF x.e.f
 g:SzF x.g.f
 c:∀ d∈x.wh,SzF d.a.f/\SzF d.b.f
structure KA (G:Nat->Prop) (w:World) (x:AG) (p:PA) (V:World):Prop where
 b:Below w.heap.size w V
 z:w.heap.size<=V.heap.size
 n:V.heap[w.heap.size]? = some (agO x p)
 r:aX G V x p
theorem KA.step {G:Nat->Prop} {w V V':World} {x:AG} {p:PA} (h:KA G w x p V) (a:Below V.heap.size V V'):KA G w x p V' :=
 ⟨h.b.trans (a.mono h.z),Nat.le_trans h.z a.size,(a.block _ (aG h.n)).trans h.n,h.r.kept a⟩
theorem Mx {G:Nat->Prop} {w:World} {x:AG} {p:PA} (hr:aX G w x p):KA G w x p (w.alloc (agO x p)) :=
 ⟨bA0 _ _,by rw [Tc];omega,heap_alloc_new w _,hr.kept (bA0 _ _)⟩
theorem Bb (o:Tr) (w:World):Calls prog 61 #[.string o] w fun e w'=>e=.returned (.bool (dZ o.data.toList))/\w=w':=by
 cases a:(o.data.toList == aN) with
 | true =>
   have c:=bG a;unfold aN at c;have R:dZ o.data.toList=true:=by unfold dZ;rw [a];simp
   rw [R];clear R a;go_enter func61,ntmps61
   go_wp2_with fail
   go_ret;exact ⟨rfl,rfl⟩
 | false =>
   cases b:(o.data.toList == lZ) with
   | true =>
     have c:=aH a;unfold aN at c;have f:=bG b;unfold lZ at f;have R:dZ o.data.toList=true:=by unfold dZ;rw [b];simp
     rw [R];clear R a b;go_enter func61,ntmps61
     go_wp2_with fail
     go_ret;exact ⟨rfl,rfl⟩
   | false =>
     cases d:(o.data.toList == oO) with
     | true =>
       have c:=aH a;unfold aN at c;have f:=aH b;unfold lZ at f;have h:=bG d;unfold oO at h;have R:dZ o.data.toList=true:=by unfold dZ;rw [d];simp
       rw [R];clear R a b d;go_enter func61,ntmps61
       go_wp2_with fail
       go_ret;exact ⟨rfl,rfl⟩
     | false =>
       cases g:(o.data.toList == lY) with
       | true =>
         have c:=aH a;unfold aN at c;have f:=aH b;unfold lZ at f;have h:=aH d;unfold oO at h;have k:=bG g;unfold lY at k;have R:dZ o.data.toList=true:=by unfold dZ;rw [g];simp
         rw [R];clear R a b d g;go_enter func61,ntmps61
         go_wp2_with fail
         go_ret;exact ⟨rfl,rfl⟩
       | false =>
         cases j:(o.data.toList == aP) with
         | true =>
           have c:=aH a;unfold aN at c;have f:=aH b;unfold lZ at f;have h:=aH d;unfold oO at h;have k:=aH g;unfold lY at k;have m:=bG j;unfold aP at m;have R:dZ o.data.toList=true:=by unfold dZ;rw [j];simp
           rw [R];clear R a b d g j;go_enter func61,ntmps61
           go_wp2_with fail
           go_ret;exact ⟨rfl,rfl⟩
         | false =>
           cases l:(o.data.toList == cH) with
           | true =>
             have c:=aH a;unfold aN at c;have f:=aH b;unfold lZ at f;have h:=aH d;unfold oO at h;have k:=aH g;unfold lY at k;have m:=aH j;unfold aP at m;have n:=bG l;unfold cH at n;have R:dZ o.data.toList=true:=by unfold dZ;rw [l];simp
             rw [R];clear R a b d g j l;go_enter func61,ntmps61
             go_wp2_with fail
             go_ret;exact ⟨rfl,rfl⟩
           | false =>
             have c:=aH a;have f:=aH b;have h:=aH d;have k:=aH g;have m:=aH j;have n:=aH l;unfold aN at c;unfold lZ at f;unfold oO at h;unfold lY at k;unfold aP at m;unfold cH at n;rw [show dZ o.data.toList=false by unfold dZ;rw [a,b,d,g,j,l];rfl];clear a b d g j l;go_enter func61,ntmps61
             go_wp2_with fail
             go_ret;exact ⟨rfl,rfl⟩
theorem Kv {ts:List Tk} {x:Tq} {p:Nat} (hp:p<ts.length):dX ts x p=(ts[p].kind == 1 && ts[p].text == x):=by
 unfold dX;rw [List.getElem?_eq_getElem hp]
theorem Kx {ts:List Tk} {x:Tq} {p:Nat} (hp:ts.length<=p):dX ts x p=false:=by
 unfold dX;rw [List.getElem?_eq_none hp]
theorem Dq (ts:List Tk) (rb:Nat) (a:Tp) (c:Nat) (s:RS) (x:Tr) (w:World) (h:PW ts rb a c s w) :
 Calls prog 64 #[.pointer (some ⟨rb,0,none⟩),.string x] w fun e w'=>e=.returned (.bool (dX ts x.data.toList s.pos))/\aC (fun _=>False) w w':=by
 obtain ⟨⟨B,c1,c2,c3,c4⟩,A,y,u,q⟩:=h.r.cells;have m:=h.f.2.1;have hn:=h.f.2.2.2;have K:=aA (aC.refl (fun _=>False) w);by_cases g:s.pos<ts.length
 · obtain ⟨b,off,ha, -,p,o, -, -⟩:=bB h.t g
   subst ha;rw [Kv g];obtain ⟨k,n⟩:∃ k,ts[s.pos].kind=k:=⟨_,rfl⟩;obtain ⟨X,l⟩:∃ X:Tr,⟨ts[s.pos].text.toArray⟩=X:=⟨_,rfl⟩;have j:ts[s.pos].text=X.data.toList:=by rw [<- l]
   rw [n] at p |-
   rw [l] at o;rw [j, <- Tm, <- Tm];have a1:(s.pos:Int)<(ts.length:Int):=by omega
   have a2:(0:Int)<=(s.pos:Int):=by omega
   have a3:((s.pos:Int)).toNat=s.pos:=by omega
   clear n l j h;cases d:(k == 1) with
   | true =>
     have z:(k == 1)=true:=d;rw [Bool.true_and];clear d;go_enter func64,ntmps64
     go_wp2_with (go_quiet (fail))
     go_ret;exact ⟨rfl,K.out.drewN _⟩
   | false =>
     have z:(k == 1)=false:=d;rw [Bool.false_and];clear d;go_enter func64,ntmps64
     go_wp2_with (go_quiet (fail))
     go_ret;exact ⟨rfl,K.out.drewN _⟩
 · rw [Kx (by omega)]
   have a1:decide (s.pos<ts.length)=false:=decide_eq_false g;have a2:decide ((s.pos:Int)<(ts.length:Int))=false:=decide_eq_false (by omega);clear h;go_enter func64,ntmps64
   go_wp2_with (go_quiet (fail))
   go_ret;exact ⟨rfl,K.out.drewN _⟩
theorem Iu {n:Nat} {L:List Tk} {x:Tq} {s:RS} (hn:n=L.length) (h:lX n s):lX n (aU L x s):=by
 subst hn;obtain ⟨f,d,c,b⟩:=h;unfold aU;by_cases a:s.bad=0
 · rw [if_pos a]
   cases hs:isS L x s.pos with
   | true =>
     have:=gN hs;rw [if_pos rfl];exact ⟨fun _=>this,by show s.pos+1<=_;omega,c,b⟩
   | false =>
     rw [if_neg (by decide)];unfold aQ;rw [if_pos a];exact ⟨fun g=>absurd g (by show ¬ (2:Int)=0;decide),d,c,b⟩
 · rw [if_neg a];exact ⟨f,d,c,b⟩
theorem jJ (ts:List Tk) (rb:Nat) (a:Tp) (c:Nat) (s:RS) (x:Tr) (w:World) (h:PW ts rb a c s w) :
 Calls prog 62 #[.pointer (some ⟨rb,0,none⟩),.string x] w fun e w'=>e=.returned (.tuple #[])/\PW ts rb a c (aU ts x.data.toList s) w'/\aC (· = rb) w w':=by
 have l:=Iu (x:=x.data.toList) rfl h.f;obtain ⟨⟨t,c1,c2,c3,c4⟩,p,o,n,m⟩:=h.r.cells;have H:=aA h;by_cases d:s.bad=0
 · have q:((s.bad:Int) == 0)=true:=by rw [d];rfl
   have B:((s.bad:Int) != 0)=false:=by rw [d];rfl
   cases hs:isS ts x.data.toList s.pos with
   | true =>
     have F:aU ts x.data.toList s=aM s:=by unfold aU;rw [if_pos d,hs,if_pos rfl]
     have j:=aA (jT x hs w h);rw [F] at l |-
     clear d h F hs;go_enter func62,ntmps62
     go_wp2_with fail
     refine j.out.mono ?_;rintro e k ⟨rfl,b⟩;have g:=aA (H.out.kept b);have u:=aA (show aC (· = rb) w k from b.mono (fun _ h _=>h.elim));clear b j t c1 c2 c3 c4 p o n m;obtain ⟨⟨t,c1,c2,c3,c4⟩,p,o,n,m⟩:=g.out.r.cells;have y:=g.out.f.2.1;have C:=g.out.f.2.2.2;go_wp2_with fail
     go_end0
     exact ⟨rfl,g.out.set l rfl,cZ u.out 1 _⟩
   | false =>
     have F:aU ts x.data.toList s=aQ 2 s:=by unfold aU;rw [if_pos d,hs,if_neg (by decide)]
     have j:=aA (jT x hs w h);rw [F];clear d h F hs l;go_enter func62,ntmps62
     go_wp2_with fail
     refine j.out.mono ?_;rintro e k ⟨rfl,b⟩;have g:=aA (H.out.kept b);have u:=aA (show aC (· = rb) w k from b.mono (fun _ h _=>h.elim));have A:=aA (dH ts rb a c s 2 (by decide) k g.out);clear b j t c1 c2 c3 c4 p o n m;go_wp2_with fail
     refine A.out.mono ?_;rintro e I ⟨rfl,z,b⟩;have G:=aA z;have E:=aA (u.out.trans b (fun i D _=>D));clear z b A;go_wp2_with fail
     refine bodyPost_ret (results_none rfl _ _ _) rfl ?_;exact ⟨rfl,G.out,E.out⟩
 · have q:((s.bad:Int) == 0)=false:=beq_eq_false_iff_ne.2 d
   have B:((s.bad:Int) != 0)=true:=by simpa using d
   have F:aU ts x.data.toList s=s:=fW d;rw [F];clear d h F l;go_enter func62,ntmps62
   go_wp2_with fail
   refine bodyPost_ret (results_none rfl _ _ _) rfl ?_;exact ⟨rfl,H.out,aC.refl _ _⟩
theorem PW.reads {ts:List Tk} {rb:Nat} {a:Tp} {c:Nat} {s:RS} {w:World} (h:PW ts rb a c s w):fQ w a ts :=
 h.t.imp id fun ⟨b,off,e,hlt,hc⟩=>⟨b,off,e,Nat.lt_trans hlt h.r.lt,hc⟩
theorem J4 (ts:List Tk) (rb:Nat) (a:Tp) (c:Nat) (s:RS) (w:World) (h:PW ts rb a c s w) (b:¬ s.bad=0) :
 Calls prog 124 #[.pointer (some ⟨rb,0,none⟩)] w (PE ts rb a c (bC ts s) w):=by
 rw [f8 b];have q:((s.bad:Int) != 0)=true:=by simpa using b
 have f:=aF (bA0 w (ndO ⟨#[]⟩ ⟨#[]⟩ 0 none 0 0)) (· = rb);have d:=h.below (bA0 w (ndO ⟨#[]⟩ ⟨#[]⟩ 0 none 0 0));obtain ⟨⟨n,c1,c2,c3,c4⟩,m,l,k,j⟩:=d.r.cells;have P:=aA (PE.zero (w0:=w) d f);have o:=heap_alloc_new w (ndO ⟨#[]⟩ ⟨#[]⟩ 0 none 0 0);have g:=h.r.lt;have t:=aA d;have p:=aA f;clear h b;go_enter func124,ntmps124
 go_wp2_with fail
 exact bodyPost_ret (v:=bN ⟨#[]⟩ ⟨#[]⟩ 0 none 0 0) (by simp [results,results124,go_sem]) rfl P.out
theorem kO {rb:Nat} {w X Y:World} (c:Below w.heap.size w X) (a:aC (· = rb) X Y) (_:w.heap.size+1<=X.heap.size):aC (· = rb) w Y :=
 (aF c (· = rb)).trans a (fun _ b _=>b)
theorem zG {W:World} {B:Nat} {g f d b:Value} {t:TypeId} (h:W.heap[B]? = some (.cells #[g,f,d,b] t (0,0))) (o m:Tr) (n:Int) (a:Tp) (l c:Nat) :
 (kY W B o m n a l c).heap[B]? = some (.cells #[.string o,.string m,.int .i64 n,.slice a l c] t (0,0)):=aY h (.string o) (.string m) (.int .i64 n) (.slice a l c)
theorem rB {ts:List Tk} {rb:Nat} {a:Tp} {c:Nat} {s:RS} {W:World} (h:PW ts rb a c s W) (_:s.bad=0) {q:Nat} (b:q<=ts.length):PW ts rb a c ⟨q,s.cnt,s.bad,s.whr⟩ (W.setCell ⟨rb,1,none⟩ (.int .i64 (q:Nat))) :=
 h.set ⟨fun _=>b,by show q<=_;omega,h.f.2.2⟩ rfl
theorem PY (ts:List Tk) (rb:Nat) (a:Tp) (c:Nat) (s:RS) (w:World) (h:PW ts rb a c s w) (x:s.bad=0) {t:TN} {q:Nat} (ho:ofL ts s.pos=.ok t q) :
 Calls prog 124 #[.pointer (some ⟨rb,0,none⟩)] w (PE ts rb a c (bC ts s) w):=by
 have F:bC ts s=(t,⟨q,s.cnt,s.bad,s.whr⟩):=by unfold bC;rw [if_pos x,ho,x]
 rw [F];have hq:=(sE (h.f.1 x)).1 t q ho;have Z:=aA x;have g1:((s.bad:Int) != 0)=false:=by rw [x];rfl
 have N:=h.r.lt;have B1:=bA0 w (ndO ⟨#[]⟩ ⟨#[]⟩ 0 none 0 0);have NB:=heap_alloc_new w (ndO ⟨#[]⟩ ⟨#[]⟩ 0 none 0 0);have M:(w.alloc (ndO ⟨#[]⟩ ⟨#[]⟩ 0 none 0 0)).heap.size=w.heap.size+1:=Tc _ _;have H1:=h.below B1;generalize hW:w.alloc (ndO ⟨#[]⟩ ⟨#[]⟩ 0 none 0 0)=W at *;have B2:=bA0 W (ndO ⟨#[]⟩ ⟨#[]⟩ 0 none 0 0);have NC:=heap_alloc_new W (ndO ⟨#[]⟩ ⟨#[]⟩ 0 none 0 0);have ND:=(B2.block w.heap.size (by omega)).trans NB;have L:(W.alloc (ndO ⟨#[]⟩ ⟨#[]⟩ 0 none 0 0)).heap.size=W.heap.size+1:=Tc _ _;have H2:=H1.below B2;have BB:Below w.heap.size w (W.alloc (ndO ⟨#[]⟩ ⟨#[]⟩ 0 none 0 0)):=B1.trans (B2.mono (by omega));have CO:=fun V hV=>Hl ts a c s.pos h.f.2.2.2 (h.f.1 x) V hV
 rw [ho] at CO;have C1:=aA (CO W.drew (H1.below (⟨rfl,rfl,rfl,Td _,fun _ _=>rfl⟩:Below W.heap.size W W.drew)).reads);have C2:=aA (CO (W.alloc (ndO ⟨#[]⟩ ⟨#[]⟩ 0 none 0 0)).drew (H2.below (⟨rfl,rfl,rfl,Td _,fun _ _=>rfl⟩:Below _ (W.alloc (ndO ⟨#[]⟩ ⟨#[]⟩ 0 none 0 0)) (W.alloc (ndO ⟨#[]⟩ ⟨#[]⟩ 0 none 0 0)).drew)).reads);have H:=aA H1;have G:=aA H2;have N0:=aA NB;have N1:=aA NC;have N2:=aA ND;have BV:=aA B1;have BW:=aA BB;have jb:=h.f.2.1;have jc:=h.f.2.2.2;have HW:=aA hW;have d:=aA M;have u:=aA L;obtain ⟨⟨c0,c1,c2,c3,c4⟩,f1,f2,f3,f4⟩:=H1.r.cells;have d0:=H2.r.cells.1.1;have d1:=H2.r.cells.1.2.1;clear h x F H1 H2 NB NC ND B1 B2 BB ho hW M L CO;go_enter func124,ntmps124
 go_upto_region 1 with fail
 rw [HW.out];go_wp2_with fail
 go_region_law (first
  | (go_simp
     go_at_call 181
     refine C1.out.mono ?_;rintro e l ⟨g,ad,cc,rfl,hr⟩;have j:Below W.heap.size W l:=⟨g.os,g.tape,g.output,g.size,g.block⟩;have H3:=aA (H.out.below j);have o:=j.size;have y:=d.out;have M0:=aA ((j.block w.heap.size (by omega)).trans N0.out);have B3:=aA (BV.out.trans (j.mono (by omega)));have A:=aA o;have R3:=aA (show bD W.heap.size l ad t.ks from hr);clear g j hr o y)
  | (go_simp
     go_at_call 181
     refine C2.out.mono ?_;rintro e l ⟨g,ad,cc,rfl,hr⟩;have j:Below (W.alloc (ndO ⟨#[]⟩ ⟨#[]⟩ 0 none 0 0)).heap.size (W.alloc (ndO ⟨#[]⟩ ⟨#[]⟩ 0 none 0 0)) l:=⟨g.os,g.tape,g.output,g.size,g.block⟩;have H3:=aA (G.out.below j);have o:=j.size;have y:=d.out;have ja:=u.out;have M1:=aA ((j.block W.heap.size (by omega)).trans N1.out);have M0:=aA ((j.block w.heap.size (by omega)).trans N2.out);have B3:=aA (BW.out.trans (j.mono (by omega)));have A:=aA o;obtain ⟨⟨n0,n1,n2,n3⟩,z0,z1,z2,z3⟩:=aL M1.out;have R3:=aA (show bD (W.alloc (ndO ⟨#[]⟩ ⟨#[]⟩ 0 none 0 0)).heap.size l ad t.ks from hr);clear g j hr o y ja)
  | fail)
 all_goals first
  | (skip
     have BA:=bA0 l (ndO t.op t.nm t.n ad t.ks.len cc);have C:=aA (H3.out.below BA);have B4:=aA (show Below w.heap.size w (l.alloc (ndO t.op t.nm t.n ad t.ks.len cc)) from B3.out.alloc (by have:=A.out;have:=d.out;omega) _);have E:=aA (heap_alloc_new l (ndO t.op t.nm t.n ad t.ks.len cc));have Y:=aA ((BA.block w.heap.size (by have:=A.out;have:=d.out;omega)).trans M0.out);have T:=aA ((R3.out.kept BA).mono (show w.heap.size+1<=W.heap.size by have:=d.out;omega));have m:w.heap.size+1<=(l.alloc (ndO t.op t.nm t.n ad t.ks.len cc)).heap.size:=by rw [Tc];have:=A.out;have:=d.out;omega
     have S:=aA m;clear BA m;generalize D:l.alloc (ndO t.op t.nm t.n ad t.ks.len cc)=X at C B4 E Y S T;generalize R:l.heap.size=BX at E;have HX:=aA D;have jd:=aA R;have LX:=aA (show w.heap.size<BX by have:=A.out;have:=d.out;omega);clear D R C1 C2 c0 c1 c2 c3 c4 f1 f2 f3 f4 d0 d1;go_upto_region 4 with fail
     obtain ⟨⟨c0,c1,c2,c3,c4⟩,f1,f2,f3,f4⟩:=C.out.r.cells;have K5:=aA (rB C.out Z.out hq);have KS:=aA ((aC.refl (· = rb) X).setCell (p:=⟨rb,1,none⟩) (.inl rfl) (.int .i64 (q:Nat)));have N5:=aA (KS.out.heap E.out (by have:=LX.out;omega));have U:=aA (KS.out.heap Y.out (by omega));have R5:=aA (T.out.keptS KS.out (fun k hk=>by omega));obtain ⟨⟨n0,n1,n2,n3⟩, -⟩:=aL N5.out;obtain ⟨⟨r0,r1,r2,r3⟩,z0,z1,z2,z3⟩:=aL U.out;go_wp2_with fail
     have z:aC (· = rb) w (X.setCell ⟨rb,1,none⟩ (.int .i64 (q:Nat))):=kO B4.out KS.out S.out;have P:=PE.put (q:=(t,⟨q,s.cnt,s.bad,s.whr⟩)) (cc:=cc) N K5.out z R5.out;obtain ⟨⟨y0,y1,y2,y3⟩, -⟩:=aL (aY U.out (.string t.op) (.string t.nm) (.int .i64 t.n) (.slice ad t.ks.len cc));exact bodyPost_ret (v:=bN t.op t.nm t.n ad t.ks.len cc) (by simp [results,results124,go_sem,y0,y1,y2,y3]) rfl P)
  | (skip
     have I:=eI l W.heap.size t.op t.nm t.n ad t.ks.len cc;have C:=aA (H3.out.other I (by have:=d.out;omega));have B4:=aA (B3.out.trans (I.below (B:=w.heap.size) (fun b x=>by have:=d.out;omega) (by have:=A.out;have:=u.out;have:=d.out;omega)));have E:=aA (zG M1.out t.op t.nm t.n ad t.ks.len cc);have Y:=aA (I.heap M0.out (by have:=d.out;omega));have T:=aA ((R3.out.keptS I (fun k hk=>by have:=u.out;omega)).mono (show w.heap.size+1<=_ by have:=d.out;have:=u.out;omega));have m:w.heap.size+1<=(kY l W.heap.size t.op t.nm t.n ad t.ks.len cc).heap.size:=by have:=I.size;have:=A.out;have:=u.out;have:=d.out;omega
     have S:=aA m;clear I m;obtain ⟨X,D⟩:∃ X,kY l W.heap.size t.op t.nm t.n ad t.ks.len cc=X:=⟨_,rfl⟩;rw [D] at C B4 E Y S T;have O:(((l.setCell ⟨W.heap.size,0,none⟩ (.string t.op)).setCell ⟨W.heap.size,1,none⟩ (.string t.nm)).setCell ⟨W.heap.size,2,none⟩ (.int .i64 t.n)).setCell ⟨W.heap.size,3,none⟩ (.slice ad t.ks.len cc)=X:=D;have LX:=aA (show w.heap.size<W.heap.size by have:=d.out;omega);rw [O];clear D O C1 C2 c0 c1 c2 c3 c4 f1 f2 f3 f4 d0 d1 n0 n1 n2 n3 z0 z1 z2 z3;go_upto_region 4 with fail
     obtain ⟨⟨c0,c1,c2,c3,c4⟩,f1,f2,f3,f4⟩:=C.out.r.cells;have K5:=aA (rB C.out Z.out hq);have KS:=aA ((aC.refl (· = rb) X).setCell (p:=⟨rb,1,none⟩) (.inl rfl) (.int .i64 (q:Nat)));have N5:=aA (KS.out.heap E.out (by have:=LX.out;omega));have U:=aA (KS.out.heap Y.out (by omega));have R5:=aA (T.out.keptS KS.out (fun k hk=>by omega));obtain ⟨⟨n0,n1,n2,n3⟩, -⟩:=aL N5.out;obtain ⟨⟨r0,r1,r2,r3⟩,z0,z1,z2,z3⟩:=aL U.out;go_wp2_with fail
     have z:aC (· = rb) w (X.setCell ⟨rb,1,none⟩ (.int .i64 (q:Nat))):=kO B4.out KS.out S.out;have P:=PE.put (q:=(t,⟨q,s.cnt,s.bad,s.whr⟩)) (cc:=cc) N K5.out z R5.out;obtain ⟨⟨y0,y1,y2,y3⟩, -⟩:=aL (aY U.out (.string t.op) (.string t.nm) (.int .i64 t.n) (.slice ad t.ks.len cc));exact bodyPost_ret (v:=bN t.op t.nm t.n ad t.ks.len cc) (by simp [results,results124,go_sem,y0,y1,y2,y3]) rfl P)
theorem Nd (ts:List Tk) (rb:Nat) (a:Tp) (c:Nat) (s:RS) (w:World) (h:PW ts rb a c s w) (u:s.bad=0) {er:Int} {q:Nat} (ho:ofL ts s.pos=.bad q er) :
 Calls prog 124 #[.pointer (some ⟨rb,0,none⟩)] w (PE ts rb a c (bC ts s) w):=by
 have F:bC ts s=(aD,⟨q,s.cnt,er,q⟩):=by unfold bC;rw [if_pos u,ho]
 rw [F];obtain ⟨hq,t⟩:=(sE (h.f.1 u)).2 q er ho;have jb:=aA u;have HE:=aA t;have ja:=aA (show aQ er ⟨q,s.cnt,s.bad,s.whr⟩=⟨q,s.cnt,er,q⟩ by unfold aQ;rw [if_pos u]);have e1:((er:Int) == 0)=false:=by simpa using t
 have e2:((er:Int) != 0)=true:=by simpa using t
 clear t;have g1:((s.bad:Int) != 0)=false:=by rw [u];rfl
 have T:=h.r.lt;have B1:=bA0 w (ndO ⟨#[]⟩ ⟨#[]⟩ 0 none 0 0);have NB:=heap_alloc_new w (ndO ⟨#[]⟩ ⟨#[]⟩ 0 none 0 0);have S:(w.alloc (ndO ⟨#[]⟩ ⟨#[]⟩ 0 none 0 0)).heap.size=w.heap.size+1:=Tc _ _;have H1:=h.below B1;generalize hW:w.alloc (ndO ⟨#[]⟩ ⟨#[]⟩ 0 none 0 0)=W at *;have B2:=bA0 W (ndO ⟨#[]⟩ ⟨#[]⟩ 0 none 0 0);have NC:=heap_alloc_new W (ndO ⟨#[]⟩ ⟨#[]⟩ 0 none 0 0);have ND:=(B2.block w.heap.size (by omega)).trans NB;have R:(W.alloc (ndO ⟨#[]⟩ ⟨#[]⟩ 0 none 0 0)).heap.size=W.heap.size+1:=Tc _ _;have H2:=H1.below B2;have BB:Below w.heap.size w (W.alloc (ndO ⟨#[]⟩ ⟨#[]⟩ 0 none 0 0)):=B1.trans (B2.mono (by omega));have CO:=fun V hV=>Hl ts a c s.pos h.f.2.2.2 (h.f.1 u) V hV
 rw [ho] at CO;have C1:=aA (CO W.drew (H1.below (⟨rfl,rfl,rfl,Td _,fun _ _=>rfl⟩:Below W.heap.size W W.drew)).reads);have C2:=aA (CO (W.alloc (ndO ⟨#[]⟩ ⟨#[]⟩ 0 none 0 0)).drew (H2.below (⟨rfl,rfl,rfl,Td _,fun _ _=>rfl⟩:Below _ (W.alloc (ndO ⟨#[]⟩ ⟨#[]⟩ 0 none 0 0)) (W.alloc (ndO ⟨#[]⟩ ⟨#[]⟩ 0 none 0 0)).drew)).reads);have H:=aA H1;have G:=aA H2;have N0:=aA NB;have N1:=aA NC;have N2:=aA ND;have BV:=aA B1;have BW:=aA BB;have jd:=h.f.2.1;have je:=h.f.2.2.2;have HW:=aA hW;have j:=aA S;have A:=aA R;obtain ⟨⟨N,c1,c2,c3,c4⟩,M,L,I,E⟩:=H1.r.cells;have d0:=H2.r.cells.1.1;have d1:=H2.r.cells.1.2.1;clear h u F H1 H2 NB NC ND B1 B2 BB ho hW S R CO;go_enter func124,ntmps124
 go_upto_region 1 with fail
 rw [HW.out];go_wp2_with fail
 go_region_law (first
  | (go_simp
     go_at_call 181
     refine C1.out.mono ?_;rintro e l ⟨d,rfl⟩;have g:Below W.heap.size W l:=⟨d.os,d.tape,d.output,d.size,d.block⟩;have H3:=aA (H.out.below g);have n:=g.size;have x:=j.out;have M0:=aA ((g.block w.heap.size (by omega)).trans N0.out);have B3:=aA (BV.out.trans (g.mono (by omega)));have y:=aA n;clear d g n x)
  | (go_simp
     go_at_call 181
     refine C2.out.mono ?_;rintro e l ⟨d,rfl⟩;have g:Below (W.alloc (ndO ⟨#[]⟩ ⟨#[]⟩ 0 none 0 0)).heap.size (W.alloc (ndO ⟨#[]⟩ ⟨#[]⟩ 0 none 0 0)) l:=⟨d.os,d.tape,d.output,d.size,d.block⟩;have H3:=aA (G.out.below g);have n:=g.size;have x:=j.out;have jc:=A.out;have M1:=aA ((g.block W.heap.size (by omega)).trans N1.out);have M0:=aA ((g.block w.heap.size (by omega)).trans N2.out);have B3:=aA (BW.out.trans (g.mono (by omega)));have y:=aA n;obtain ⟨⟨n0,n1,n2,n3⟩,z0,z1,z2,z3⟩:=aL M1.out;clear d g n x jc)
  | fail)
 all_goals first
  | (skip
     have BA:=bA0 l (ndO ⟨#[]⟩ ⟨#[]⟩ 0 none 0 0);have z:=aA (H3.out.below BA);have B4:=aA (show Below w.heap.size w (l.alloc (ndO ⟨#[]⟩ ⟨#[]⟩ 0 none 0 0)) from B3.out.alloc (by have:=y.out;have:=j.out;omega) _);have O:=aA (heap_alloc_new l (ndO ⟨#[]⟩ ⟨#[]⟩ 0 none 0 0));have M4:=aA ((BA.block w.heap.size (by have:=y.out;have:=j.out;omega)).trans M0.out);have m:w.heap.size+1<=(l.alloc (ndO ⟨#[]⟩ ⟨#[]⟩ 0 none 0 0)).heap.size:=by rw [Tc];have:=y.out;have:=j.out;omega
     have ZX:=aA m;clear BA m;generalize D:l.alloc (ndO ⟨#[]⟩ ⟨#[]⟩ 0 none 0 0)=X at z B4 O M4 ZX;generalize Y:l.heap.size=BX at O;have HX:=aA D;have jf:=aA Y;have LX:=aA (show w.heap.size<BX by have:=y.out;have:=j.out;omega);clear D Y C1 C2 N c1 c2 c3 c4 M L I E d0 d1;go_upto_region 4 with fail
     obtain ⟨⟨N,c1,c2,c3,c4⟩,M,L,I,E⟩:=z.out.r.cells;have K5:=aA (rB z.out jb.out hq);have KS:=aA ((aC.refl (· = rb) X).setCell (p:=⟨rb,1,none⟩) (.inl rfl) (.int .i64 (q:Nat)));have N5:=aA (KS.out.heap O.out (by have:=LX.out;omega));have M5:=aA (KS.out.heap M4.out (by omega));have C:=aA (dH ts rb a c ⟨q,s.cnt,s.bad,s.whr⟩ er HE.out _ K5.out);rw [ja.out] at C;go_wp2_with fail
     refine C.out.mono ?_;rintro e w6 ⟨rfl,Z,k⟩;have H6:=aA Z;have o:aC (· = rb) w w6:=(kO B4.out KS.out ZX.out).trans k (fun i hi _=>hi);have K7:=aA o;have N6:=k.heap N5.out (by have:=LX.out;omega);have M6:=aA (k.heap M5.out (by omega));clear Z k o C;obtain ⟨⟨n0,n1,n2,n3⟩, -⟩:=aL N6;obtain ⟨⟨r0,r1,r2,r3⟩,z0,z1,z2,z3⟩:=aL M6.out;clear N c1 c2 c3 c4 M L I E N6;go_wp2_with fail
     have P:=PE.put (q:=(aD,⟨q,s.cnt,er,q⟩)) (ad:=none) (cc:=0) T H6.out K7.out (.inl rfl);obtain ⟨⟨y0,y1,y2,y3⟩, -⟩:=aL (aY M6.out (.string ⟨#[]⟩) (.string ⟨#[]⟩) (.int .i64 0) (.slice none 0 0));exact bodyPost_ret (v:=bN ⟨#[]⟩ ⟨#[]⟩ 0 none 0 0) (by simp [results,results124,go_sem,y0,y1,y2,y3]) rfl P)
  | (skip
     have KP:=eI l W.heap.size ⟨#[]⟩ ⟨#[]⟩ 0 none 0 0;have z:=aA (H3.out.other KP (by have:=j.out;omega));have B4:=aA (B3.out.trans (KP.below (B:=w.heap.size) (fun b u=>by have:=j.out;omega) (by have:=y.out;have:=A.out;have:=j.out;omega)));have O:=aA (zG M1.out ⟨#[]⟩ ⟨#[]⟩ 0 none 0 0);have M4:=aA (KP.heap M0.out (by have:=j.out;omega));have m:w.heap.size+1<=(kY l W.heap.size ⟨#[]⟩ ⟨#[]⟩ 0 none 0 0).heap.size:=by have:=KP.size;have:=y.out;have:=A.out;have:=j.out;omega
     have ZX:=aA m;clear KP m;obtain ⟨X,D⟩:∃ X,kY l W.heap.size ⟨#[]⟩ ⟨#[]⟩ 0 none 0 0=X:=⟨_,rfl⟩;rw [D] at z B4 O M4 ZX;have U:(((l.setCell ⟨W.heap.size,0,none⟩ (.string ⟨#[]⟩)).setCell ⟨W.heap.size,1,none⟩ (.string ⟨#[]⟩)).setCell ⟨W.heap.size,2,none⟩ (.int .i64 0)).setCell ⟨W.heap.size,3,none⟩ (.slice none 0 0)=X:=D;have LX:=aA (show w.heap.size<W.heap.size by have:=j.out;omega);rw [U];clear D U C1 C2 N c1 c2 c3 c4 M L I E d0 d1 n0 n1 n2 n3 z0 z1 z2 z3;go_upto_region 4 with fail
     obtain ⟨⟨N,c1,c2,c3,c4⟩,M,L,I,E⟩:=z.out.r.cells;have K5:=aA (rB z.out jb.out hq);have KS:=aA ((aC.refl (· = rb) X).setCell (p:=⟨rb,1,none⟩) (.inl rfl) (.int .i64 (q:Nat)));have N5:=aA (KS.out.heap O.out (by have:=LX.out;omega));have M5:=aA (KS.out.heap M4.out (by omega));have C:=aA (dH ts rb a c ⟨q,s.cnt,s.bad,s.whr⟩ er HE.out _ K5.out);rw [ja.out] at C;go_wp2_with fail
     refine C.out.mono ?_;rintro e w6 ⟨rfl,Z,k⟩;have H6:=aA Z;have o:aC (· = rb) w w6:=(kO B4.out KS.out ZX.out).trans k (fun i hi _=>hi);have K7:=aA o;have N6:=k.heap N5.out (by have:=LX.out;omega);have M6:=aA (k.heap M5.out (by omega));clear Z k o C;obtain ⟨⟨n0,n1,n2,n3⟩, -⟩:=aL N6;obtain ⟨⟨r0,r1,r2,r3⟩,z0,z1,z2,z3⟩:=aL M6.out;clear N c1 c2 c3 c4 M L I E N6;go_wp2_with fail
     have P:=PE.put (q:=(aD,⟨q,s.cnt,er,q⟩)) (ad:=none) (cc:=0) T H6.out K7.out (.inl rfl);obtain ⟨⟨y0,y1,y2,y3⟩, -⟩:=aL (aY M6.out (.string ⟨#[]⟩) (.string ⟨#[]⟩) (.int .i64 0) (.slice none 0 0));exact bodyPost_ret (v:=bN ⟨#[]⟩ ⟨#[]⟩ 0 none 0 0) (by simp [results,results124,go_sem,y0,y1,y2,y3]) rfl P)
theorem f9 (ts:List Tk) (rb:Nat) (a:Tp) (c:Nat) (s:RS) (w:World) (h:PW ts rb a c s w):Calls prog 124 #[.pointer (some ⟨rb,0,none⟩)] w (PE ts rb a c (bC ts s) w):=by
 by_cases b:s.bad=0
 · cases ho:ofL ts s.pos with
   | ok t q=>exact PY ts rb a c s w h b ho
   | bad q er=>exact Nd ts rb a c s w h b ho
 · exact J4 ts rb a c s w h b
def aO:AG:=⟨⟨#[]⟩,0,aD,aD,[]⟩
def aI:PA:=⟨none,0,none,0,none,0⟩
abbrev eJ (W:World) (B:Nat) (x:AG) (p:PA):World:=((((((((((W.setCell ⟨B,0,none⟩ (.string x.fn)).setCell ⟨B,1,none⟩ (.int .i64 x.k)).setCell ⟨B,2,none⟩ (.string x.e.op)).setCell ⟨B,3,none⟩ (.string x.e.nm)).setCell ⟨B,4,none⟩ (.int .i64 x.e.n)).setCell ⟨B,5,none⟩ (.slice p.ea x.e.ks.len p.ec)).setCell ⟨B,6,none⟩ (.string x.g.op)).setCell ⟨B,7,none⟩ (.string x.g.nm)).setCell ⟨B,8,none⟩ (.int .i64 x.g.n)).setCell ⟨B,9,none⟩ (.slice p.ga x.g.ks.len p.gc)).setCell ⟨B,10,none⟩ (.slice p.wa x.wh.length p.wc)
theorem bL (W:World) (B:Nat) (x:AG) (p:PA):aC (· = B) W (eJ W B x p) :=
 ((((((((((((aC.refl (· = B) W).setCell (p:=⟨B,0,none⟩) (.inl rfl) _).setCell (p:=⟨B,1,none⟩) (.inl rfl) _).setCell (p:=⟨B,2,none⟩) (.inl rfl) _).setCell (p:=⟨B,3,none⟩) (.inl rfl) _).setCell (p:=⟨B,4,none⟩) (.inl rfl) _).setCell (p:=⟨B,5,none⟩) (.inl rfl) _).setCell (p:=⟨B,6,none⟩) (.inl rfl) _).setCell (p:=⟨B,7,none⟩) (.inl rfl) _).setCell (p:=⟨B,8,none⟩) (.inl rfl) _).setCell (p:=⟨B,9,none⟩) (.inl rfl) _).setCell (p:=⟨B,10,none⟩) (.inl rfl) _)
theorem cF {W:World} {B:Nat} {u0 u1 u2 u3 u4 u5 u6 u7 u8 u9 u10:Value} {t:TypeId} (h:W.heap[B]? = some (.cells #[u0,u1,u2,u3,u4,u5,u6,u7,u8,u9,u10] t (0,0))) (x:AG) (p:PA):(eJ W B x p).heap[B]? = some (.cells (agC x p) t (0,0)):=by
 have s:=heap_setCell_same (W) B 0 _ t (.string x.fn) h;have I:((W).setCell ⟨B,0,none⟩ (.string x.fn)).heap[B]? = some (.cells #[.string x.fn,u1,u2,u3,u4,u5,u6,u7,u8,u9,u10] t (0,0)):=by simpa using s
 have r:=heap_setCell_same ((W).setCell ⟨B,0,none⟩ (.string x.fn)) B 1 _ t (.int .i64 x.k) I;have H:(((W).setCell ⟨B,0,none⟩ (.string x.fn)).setCell ⟨B,1,none⟩ (.int .i64 x.k)).heap[B]? = some (.cells #[.string x.fn,.int .i64 x.k,u2,u3,u4,u5,u6,u7,u8,u9,u10] t (0,0)):=by simpa using r
 have q:=heap_setCell_same (((W).setCell ⟨B,0,none⟩ (.string x.fn)).setCell ⟨B,1,none⟩ (.int .i64 x.k)) B 2 _ t (.string x.e.op) H;have G:((((W).setCell ⟨B,0,none⟩ (.string x.fn)).setCell ⟨B,1,none⟩ (.int .i64 x.k)).setCell ⟨B,2,none⟩ (.string x.e.op)).heap[B]? = some (.cells #[.string x.fn,.int .i64 x.k,.string x.e.op,u3,u4,u5,u6,u7,u8,u9,u10] t (0,0)):=by simpa using q
 have o:=heap_setCell_same ((((W).setCell ⟨B,0,none⟩ (.string x.fn)).setCell ⟨B,1,none⟩ (.int .i64 x.k)).setCell ⟨B,2,none⟩ (.string x.e.op)) B 3 _ t (.string x.e.nm) G;have E:(((((W).setCell ⟨B,0,none⟩ (.string x.fn)).setCell ⟨B,1,none⟩ (.int .i64 x.k)).setCell ⟨B,2,none⟩ (.string x.e.op)).setCell ⟨B,3,none⟩ (.string x.e.nm)).heap[B]? = some (.cells #[.string x.fn,.int .i64 x.k,.string x.e.op,.string x.e.nm,u4,u5,u6,u7,u8,u9,u10] t (0,0)):=by simpa using o
 have m:=heap_setCell_same (((((W).setCell ⟨B,0,none⟩ (.string x.fn)).setCell ⟨B,1,none⟩ (.int .i64 x.k)).setCell ⟨B,2,none⟩ (.string x.e.op)).setCell ⟨B,3,none⟩ (.string x.e.nm)) B 4 _ t (.int .i64 x.e.n) E;have D:((((((W).setCell ⟨B,0,none⟩ (.string x.fn)).setCell ⟨B,1,none⟩ (.int .i64 x.k)).setCell ⟨B,2,none⟩ (.string x.e.op)).setCell ⟨B,3,none⟩ (.string x.e.nm)).setCell ⟨B,4,none⟩ (.int .i64 x.e.n)).heap[B]? = some (.cells #[.string x.fn,.int .i64 x.k,.string x.e.op,.string x.e.nm,.int .i64 x.e.n,u5,u6,u7,u8,u9,u10] t (0,0)):=by simpa using m
 have l:=heap_setCell_same ((((((W).setCell ⟨B,0,none⟩ (.string x.fn)).setCell ⟨B,1,none⟩ (.int .i64 x.k)).setCell ⟨B,2,none⟩ (.string x.e.op)).setCell ⟨B,3,none⟩ (.string x.e.nm)).setCell ⟨B,4,none⟩ (.int .i64 x.e.n)) B 5 _ t (.slice p.ea x.e.ks.len p.ec) D;have C:(((((((W).setCell ⟨B,0,none⟩ (.string x.fn)).setCell ⟨B,1,none⟩ (.int .i64 x.k)).setCell ⟨B,2,none⟩ (.string x.e.op)).setCell ⟨B,3,none⟩ (.string x.e.nm)).setCell ⟨B,4,none⟩ (.int .i64 x.e.n)).setCell ⟨B,5,none⟩ (.slice p.ea x.e.ks.len p.ec)).heap[B]? = some (.cells #[.string x.fn,.int .i64 x.k,.string x.e.op,.string x.e.nm,.int .i64 x.e.n,.slice p.ea x.e.ks.len p.ec,u6,u7,u8,u9,u10] t (0,0)):=by simpa using l
 have j:=heap_setCell_same (((((((W).setCell ⟨B,0,none⟩ (.string x.fn)).setCell ⟨B,1,none⟩ (.int .i64 x.k)).setCell ⟨B,2,none⟩ (.string x.e.op)).setCell ⟨B,3,none⟩ (.string x.e.nm)).setCell ⟨B,4,none⟩ (.int .i64 x.e.n)).setCell ⟨B,5,none⟩ (.slice p.ea x.e.ks.len p.ec)) B 6 _ t (.string x.g.op) C;have A:((((((((W).setCell ⟨B,0,none⟩ (.string x.fn)).setCell ⟨B,1,none⟩ (.int .i64 x.k)).setCell ⟨B,2,none⟩ (.string x.e.op)).setCell ⟨B,3,none⟩ (.string x.e.nm)).setCell ⟨B,4,none⟩ (.int .i64 x.e.n)).setCell ⟨B,5,none⟩ (.slice p.ea x.e.ks.len p.ec)).setCell ⟨B,6,none⟩ (.string x.g.op)).heap[B]? = some (.cells #[.string x.fn,.int .i64 x.k,.string x.e.op,.string x.e.nm,.int .i64 x.e.n,.slice p.ea x.e.ks.len p.ec,.string x.g.op,u7,u8,u9,u10] t (0,0)):=by simpa using j
 have f:=heap_setCell_same ((((((((W).setCell ⟨B,0,none⟩ (.string x.fn)).setCell ⟨B,1,none⟩ (.int .i64 x.k)).setCell ⟨B,2,none⟩ (.string x.e.op)).setCell ⟨B,3,none⟩ (.string x.e.nm)).setCell ⟨B,4,none⟩ (.int .i64 x.e.n)).setCell ⟨B,5,none⟩ (.slice p.ea x.e.ks.len p.ec)).setCell ⟨B,6,none⟩ (.string x.g.op)) B 7 _ t (.string x.g.nm) A;have z:(((((((((W).setCell ⟨B,0,none⟩ (.string x.fn)).setCell ⟨B,1,none⟩ (.int .i64 x.k)).setCell ⟨B,2,none⟩ (.string x.e.op)).setCell ⟨B,3,none⟩ (.string x.e.nm)).setCell ⟨B,4,none⟩ (.int .i64 x.e.n)).setCell ⟨B,5,none⟩ (.slice p.ea x.e.ks.len p.ec)).setCell ⟨B,6,none⟩ (.string x.g.op)).setCell ⟨B,7,none⟩ (.string x.g.nm)).heap[B]? = some (.cells #[.string x.fn,.int .i64 x.k,.string x.e.op,.string x.e.nm,.int .i64 x.e.n,.slice p.ea x.e.ks.len p.ec,.string x.g.op,.string x.g.nm,u8,u9,u10] t (0,0)):=by simpa using f
 have d:=heap_setCell_same (((((((((W).setCell ⟨B,0,none⟩ (.string x.fn)).setCell ⟨B,1,none⟩ (.int .i64 x.k)).setCell ⟨B,2,none⟩ (.string x.e.op)).setCell ⟨B,3,none⟩ (.string x.e.nm)).setCell ⟨B,4,none⟩ (.int .i64 x.e.n)).setCell ⟨B,5,none⟩ (.slice p.ea x.e.ks.len p.ec)).setCell ⟨B,6,none⟩ (.string x.g.op)).setCell ⟨B,7,none⟩ (.string x.g.nm)) B 8 _ t (.int .i64 x.g.n) z;have y:((((((((((W).setCell ⟨B,0,none⟩ (.string x.fn)).setCell ⟨B,1,none⟩ (.int .i64 x.k)).setCell ⟨B,2,none⟩ (.string x.e.op)).setCell ⟨B,3,none⟩ (.string x.e.nm)).setCell ⟨B,4,none⟩ (.int .i64 x.e.n)).setCell ⟨B,5,none⟩ (.slice p.ea x.e.ks.len p.ec)).setCell ⟨B,6,none⟩ (.string x.g.op)).setCell ⟨B,7,none⟩ (.string x.g.nm)).setCell ⟨B,8,none⟩ (.int .i64 x.g.n)).heap[B]? = some (.cells #[.string x.fn,.int .i64 x.k,.string x.e.op,.string x.e.nm,.int .i64 x.e.n,.slice p.ea x.e.ks.len p.ec,.string x.g.op,.string x.g.nm,.int .i64 x.g.n,u9,u10] t (0,0)):=by simpa using d
 have c:=heap_setCell_same ((((((((((W).setCell ⟨B,0,none⟩ (.string x.fn)).setCell ⟨B,1,none⟩ (.int .i64 x.k)).setCell ⟨B,2,none⟩ (.string x.e.op)).setCell ⟨B,3,none⟩ (.string x.e.nm)).setCell ⟨B,4,none⟩ (.int .i64 x.e.n)).setCell ⟨B,5,none⟩ (.slice p.ea x.e.ks.len p.ec)).setCell ⟨B,6,none⟩ (.string x.g.op)).setCell ⟨B,7,none⟩ (.string x.g.nm)).setCell ⟨B,8,none⟩ (.int .i64 x.g.n)) B 9 _ t (.slice p.ga x.g.ks.len p.gc) y;have u:(((((((((((W).setCell ⟨B,0,none⟩ (.string x.fn)).setCell ⟨B,1,none⟩ (.int .i64 x.k)).setCell ⟨B,2,none⟩ (.string x.e.op)).setCell ⟨B,3,none⟩ (.string x.e.nm)).setCell ⟨B,4,none⟩ (.int .i64 x.e.n)).setCell ⟨B,5,none⟩ (.slice p.ea x.e.ks.len p.ec)).setCell ⟨B,6,none⟩ (.string x.g.op)).setCell ⟨B,7,none⟩ (.string x.g.nm)).setCell ⟨B,8,none⟩ (.int .i64 x.g.n)).setCell ⟨B,9,none⟩ (.slice p.ga x.g.ks.len p.gc)).heap[B]? = some (.cells #[.string x.fn,.int .i64 x.k,.string x.e.op,.string x.e.nm,.int .i64 x.e.n,.slice p.ea x.e.ks.len p.ec,.string x.g.op,.string x.g.nm,.int .i64 x.g.n,.slice p.ga x.g.ks.len p.gc,u10] t (0,0)):=by simpa using c
 have a:=heap_setCell_same (((((((((((W).setCell ⟨B,0,none⟩ (.string x.fn)).setCell ⟨B,1,none⟩ (.int .i64 x.k)).setCell ⟨B,2,none⟩ (.string x.e.op)).setCell ⟨B,3,none⟩ (.string x.e.nm)).setCell ⟨B,4,none⟩ (.int .i64 x.e.n)).setCell ⟨B,5,none⟩ (.slice p.ea x.e.ks.len p.ec)).setCell ⟨B,6,none⟩ (.string x.g.op)).setCell ⟨B,7,none⟩ (.string x.g.nm)).setCell ⟨B,8,none⟩ (.int .i64 x.g.n)).setCell ⟨B,9,none⟩ (.slice p.ga x.g.ks.len p.gc)) B 10 _ t (.slice p.wa x.wh.length p.wc) u;have b:((((((((((((W).setCell ⟨B,0,none⟩ (.string x.fn)).setCell ⟨B,1,none⟩ (.int .i64 x.k)).setCell ⟨B,2,none⟩ (.string x.e.op)).setCell ⟨B,3,none⟩ (.string x.e.nm)).setCell ⟨B,4,none⟩ (.int .i64 x.e.n)).setCell ⟨B,5,none⟩ (.slice p.ea x.e.ks.len p.ec)).setCell ⟨B,6,none⟩ (.string x.g.op)).setCell ⟨B,7,none⟩ (.string x.g.nm)).setCell ⟨B,8,none⟩ (.int .i64 x.g.n)).setCell ⟨B,9,none⟩ (.slice p.ga x.g.ks.len p.gc)).setCell ⟨B,10,none⟩ (.slice p.wa x.wh.length p.wc)).heap[B]? = some (.cells #[.string x.fn,.int .i64 x.k,.string x.e.op,.string x.e.nm,.int .i64 x.e.n,.slice p.ea x.e.ks.len p.ec,.string x.g.op,.string x.g.nm,.int .i64 x.g.n,.slice p.ga x.g.ks.len p.gc,.slice p.wa x.wh.length p.wc] t (0,0)):=by simpa using a
 exact b
abbrev putE (W:World) (B:Nat) (t:TN) (ad:Tp) (cc:Nat):World:=(((W.setCell ⟨B,2,none⟩ (.string t.op)).setCell ⟨B,3,none⟩ (.string t.nm)).setCell ⟨B,4,none⟩ (.int .i64 t.n)).setCell ⟨B,5,none⟩ (.slice ad t.ks.len cc)
theorem gJ (W:World) (B:Nat) (t:TN) (ad:Tp) (cc:Nat):aC (· = B) W (putE W B t ad cc) :=
 (((((aC.refl (· = B) W).setCell (p:=⟨B,2,none⟩) (.inl rfl) _).setCell (p:=⟨B,3,none⟩) (.inl rfl) _).setCell (p:=⟨B,4,none⟩) (.inl rfl) _).setCell (p:=⟨B,5,none⟩) (.inl rfl) _)
theorem jA {W:World} {B:Nat} {x:AG} {p:PA} (h:W.heap[B]? = some (agO x p)) (t:TN) (ad:Tp) (cc:Nat):(putE W B t ad cc).heap[B]? = some (agO { x with e:=t } { p with ea:=ad,ec:=cc }):=by
 have d:=heap_setCell_same (W) B 2 _ 82 (.string t.op) h;have m:((W).setCell ⟨B,2,none⟩ (.string t.op)).heap[B]? = some (.cells #[.string x.fn,.int .i64 x.k,.string t.op,.string x.e.nm,.int .i64 x.e.n,.slice p.ea x.e.ks.len p.ec,.string x.g.op,.string x.g.nm,.int .i64 x.g.n,.slice p.ga x.g.ks.len p.gc,.slice p.wa x.wh.length p.wc] 82 (0,0)):=by simpa using d
 have c:=heap_setCell_same ((W).setCell ⟨B,2,none⟩ (.string t.op)) B 3 _ 82 (.string t.nm) m;have l:(((W).setCell ⟨B,2,none⟩ (.string t.op)).setCell ⟨B,3,none⟩ (.string t.nm)).heap[B]? = some (.cells #[.string x.fn,.int .i64 x.k,.string t.op,.string t.nm,.int .i64 x.e.n,.slice p.ea x.e.ks.len p.ec,.string x.g.op,.string x.g.nm,.int .i64 x.g.n,.slice p.ga x.g.ks.len p.gc,.slice p.wa x.wh.length p.wc] 82 (0,0)):=by simpa using c
 have b:=heap_setCell_same (((W).setCell ⟨B,2,none⟩ (.string t.op)).setCell ⟨B,3,none⟩ (.string t.nm)) B 4 _ 82 (.int .i64 t.n) l;have j:((((W).setCell ⟨B,2,none⟩ (.string t.op)).setCell ⟨B,3,none⟩ (.string t.nm)).setCell ⟨B,4,none⟩ (.int .i64 t.n)).heap[B]? = some (.cells #[.string x.fn,.int .i64 x.k,.string t.op,.string t.nm,.int .i64 t.n,.slice p.ea x.e.ks.len p.ec,.string x.g.op,.string x.g.nm,.int .i64 x.g.n,.slice p.ga x.g.ks.len p.gc,.slice p.wa x.wh.length p.wc] 82 (0,0)):=by simpa using b
 have a:=heap_setCell_same ((((W).setCell ⟨B,2,none⟩ (.string t.op)).setCell ⟨B,3,none⟩ (.string t.nm)).setCell ⟨B,4,none⟩ (.int .i64 t.n)) B 5 _ 82 (.slice ad t.ks.len cc) j;have f:(((((W).setCell ⟨B,2,none⟩ (.string t.op)).setCell ⟨B,3,none⟩ (.string t.nm)).setCell ⟨B,4,none⟩ (.int .i64 t.n)).setCell ⟨B,5,none⟩ (.slice ad t.ks.len cc)).heap[B]? = some (.cells #[.string x.fn,.int .i64 x.k,.string t.op,.string t.nm,.int .i64 t.n,.slice ad t.ks.len cc,.string x.g.op,.string x.g.nm,.int .i64 x.g.n,.slice p.ga x.g.ks.len p.gc,.slice p.wa x.wh.length p.wc] 82 (0,0)):=by simpa using a
 exact f
abbrev putG (W:World) (B:Nat) (t:TN) (ad:Tp) (cc:Nat):World:=(((W.setCell ⟨B,6,none⟩ (.string t.op)).setCell ⟨B,7,none⟩ (.string t.nm)).setCell ⟨B,8,none⟩ (.int .i64 t.n)).setCell ⟨B,9,none⟩ (.slice ad t.ks.len cc)
theorem Bp (W:World) (B:Nat) (t:TN) (ad:Tp) (cc:Nat):aC (· = B) W (putG W B t ad cc) :=
 (((((aC.refl (· = B) W).setCell (p:=⟨B,6,none⟩) (.inl rfl) _).setCell (p:=⟨B,7,none⟩) (.inl rfl) _).setCell (p:=⟨B,8,none⟩) (.inl rfl) _).setCell (p:=⟨B,9,none⟩) (.inl rfl) _)
theorem JN {W:World} {B:Nat} {x:AG} {p:PA} (h:W.heap[B]? = some (agO x p)) (t:TN) (ad:Tp) (cc:Nat):(putG W B t ad cc).heap[B]? = some (agO { x with g:=t } { p with ga:=ad,gc:=cc }):=by
 have d:=heap_setCell_same (W) B 6 _ 82 (.string t.op) h;have m:((W).setCell ⟨B,6,none⟩ (.string t.op)).heap[B]? = some (.cells #[.string x.fn,.int .i64 x.k,.string x.e.op,.string x.e.nm,.int .i64 x.e.n,.slice p.ea x.e.ks.len p.ec,.string t.op,.string x.g.nm,.int .i64 x.g.n,.slice p.ga x.g.ks.len p.gc,.slice p.wa x.wh.length p.wc] 82 (0,0)):=by simpa using d
 have c:=heap_setCell_same ((W).setCell ⟨B,6,none⟩ (.string t.op)) B 7 _ 82 (.string t.nm) m;have l:(((W).setCell ⟨B,6,none⟩ (.string t.op)).setCell ⟨B,7,none⟩ (.string t.nm)).heap[B]? = some (.cells #[.string x.fn,.int .i64 x.k,.string x.e.op,.string x.e.nm,.int .i64 x.e.n,.slice p.ea x.e.ks.len p.ec,.string t.op,.string t.nm,.int .i64 x.g.n,.slice p.ga x.g.ks.len p.gc,.slice p.wa x.wh.length p.wc] 82 (0,0)):=by simpa using c
 have b:=heap_setCell_same (((W).setCell ⟨B,6,none⟩ (.string t.op)).setCell ⟨B,7,none⟩ (.string t.nm)) B 8 _ 82 (.int .i64 t.n) l;have j:((((W).setCell ⟨B,6,none⟩ (.string t.op)).setCell ⟨B,7,none⟩ (.string t.nm)).setCell ⟨B,8,none⟩ (.int .i64 t.n)).heap[B]? = some (.cells #[.string x.fn,.int .i64 x.k,.string x.e.op,.string x.e.nm,.int .i64 x.e.n,.slice p.ea x.e.ks.len p.ec,.string t.op,.string t.nm,.int .i64 t.n,.slice p.ga x.g.ks.len p.gc,.slice p.wa x.wh.length p.wc] 82 (0,0)):=by simpa using b
 have a:=heap_setCell_same ((((W).setCell ⟨B,6,none⟩ (.string t.op)).setCell ⟨B,7,none⟩ (.string t.nm)).setCell ⟨B,8,none⟩ (.int .i64 t.n)) B 9 _ 82 (.slice ad t.ks.len cc) j;have f:(((((W).setCell ⟨B,6,none⟩ (.string t.op)).setCell ⟨B,7,none⟩ (.string t.nm)).setCell ⟨B,8,none⟩ (.int .i64 t.n)).setCell ⟨B,9,none⟩ (.slice ad t.ks.len cc)).heap[B]? = some (.cells #[.string x.fn,.int .i64 x.k,.string x.e.op,.string x.e.nm,.int .i64 x.e.n,.slice p.ea x.e.ks.len p.ec,.string t.op,.string t.nm,.int .i64 t.n,.slice ad t.ks.len cc,.slice p.wa x.wh.length p.wc] 82 (0,0)):=by simpa using a
 exact f
theorem Bt {W:World} {B:Nat} {x:AG} {p:PA} (h:W.heap[B]? = some (agO x p)) (k:Int):(W.setCell ⟨B,1,none⟩ (.int .i64 k)).heap[B]? = some (agO { x with k:=k } p):=by
 have a:=heap_setCell_same W B 1 _ 82 (.int .i64 k) h;simpa using a
theorem bI {W:World} {B:Nat} {n m l k j g f d c b a:Value} {t:TypeId} (h:W.heap[B]? = some (.cells #[n,m,l,k,j,g,f,d,c,b,a] t (0,0))) :
 W.frozen? ⟨B,0,none⟩=false/\W.frozen? ⟨B,1,none⟩=false/\W.frozen? ⟨B,2,none⟩=false/\W.frozen? ⟨B,3,none⟩=false/\W.frozen? ⟨B,4,none⟩=false/\W.frozen? ⟨B,5,none⟩=false/\W.frozen? ⟨B,6,none⟩=false/\W.frozen? ⟨B,7,none⟩=false/\W.frozen? ⟨B,8,none⟩=false/\W.frozen? ⟨B,9,none⟩=false/\W.frozen? ⟨B,10,none⟩=false:=by
 refine ⟨?_,?_,?_,?_,?_,?_,?_,?_,?_,?_,?_⟩ <;> simp [World.frozen?,h]
structure AW (w:World) (ts:List Tk) (rb:Nat) (a:Tp) (c:Nat) (x:AG) (p:PA) (s:RS) (V:World):Prop where
 r:PW ts rb a c s V
 k:aC (· = rb) w V
 n:V.heap[w.heap.size]? = some (agO x p)
 o:V.heap[w.heap.size+1]? = some (agO aO aI)
 e:bD (w.heap.size+2) V p.ea x.e.ks
 g:bD (w.heap.size+2) V p.ga x.g.ks
 z:w.heap.size+2<=V.heap.size
 h:rb<w.heap.size
theorem AW.step {w V V':World} {ts:List Tk} {rb:Nat} {a:Tp} {c:Nat} {x:AG} {p:PA} {s s':RS} (h:AW w ts rb a c x p s V) (hp:PW ts rb a c s' V') (b:aC (· = rb) V V'):AW w ts rb a c x p s' V' :=
 ⟨hp,h.k.trans b (fun i d _=>d),b.heap h.n (fun e=>by have:=h.h;omega),b.heap h.o (fun e=>by have:=h.h;omega),h.e.keptS b (fun k b=>by have:=h.h;omega),h.g.keptS b (fun k b=>by have:=h.h;omega),Nat.le_trans h.z b.size,h.h⟩
theorem AW.box {w V V':World} {ts:List Tk} {rb:Nat} {a:Tp} {c:Nat} {x y:AG} {p q:PA} {s:RS} (h:AW w ts rb a c x p s V) (b:aC (· = w.heap.size) V V') (hn:V'.heap[w.heap.size]? = some (agO y q)) (j:bD (w.heap.size+2) V q.ea y.e.ks) (f:bD (w.heap.size+2) V q.ga y.g.ks):AW w ts rb a c y q s V' :=
 ⟨h.r.other b h.h,h.k.trans b (fun i l d=>by omega),hn,b.heap h.o (fun e=>by omega),j.keptS b (fun k b=>by omega),f.keptS b (fun k b=>by omega),Nat.le_trans h.z b.size,h.h⟩
end Go.Proofs.YtgfkjkokmcejbaaGreatDoor
