/-
 No statement: what AggTextsCard needs, of the texts OE13, HMath, HHolds, QMath, OMath, QFine, QMem, QFew.
-/
import Derived.Test.YtapcjnoaofmmiaaGreatDoorVT9
set_option maxHeartbeats 40000000
set_option maxRecDepth 100000
namespace Go.Proofs.YtapcjnoaofmmiaaGreatDoor
open Go.RowKit
section
section
open Go.RowKit
def Hy (t:TN):Prop:=∀ (G:Nat->Prop) (lb:Nat) (w:World) (a:Option Addr) (c l:Nat),l<=1000->Hu t->(∀ b,G b->b ≠ lb)->WdT lb w->aH G w a t.ks->w.heap[lb]? = some (.cells #[.int .i64 l] 3 (0,0)) ->
 Calls Tryz.prog 146 #[.pointer (some ⟨lb,0,none⟩),bB t.op t.nm t.n a t.ks.len c,.func (.func 102) #[] #[]] w fun e w'=>aE (· = lb) w w' /\
  (aT t<=l->∃ v,e=.returned (.tuple #[v,.bool true])/\mC (fun b=>w.heap.size<=b) w' t v) /\
  (aT t<=l->w'.heap[lb]? = some (.cells #[.int .i64 ((l-aT t:Nat):Int)] 3 (0,0))) /\
  (¬ aT t<=l->e=.returned (.tuple #[.string ⟨#[]⟩,.bool false]))
theorem BR (t:TN) (ih:eO Hy t.ks):Hy t:=by
 intro G lb w a c l hl hpre hG hwd hr hlb;obtain ⟨i0,hi,hz0,hz1,hz2⟩:=info_parts Lg;have und:Tryz.prog.underlying 118=some (.slice 9):=Tryz.underlying118;have hlt:=(Array.getElem?_eq_some_iff.1 hlb).1;have IH:=aA ih;have R:=aA hr;have PRE:=aA hpre;have HG:=aA hG;have WD:=aA hwd;have BA:=(Below.refl w.heap.size w).alloc (Nat.le_refl _) (ndG t.op t.nm t.n a t.ks.len c);have NB:=heap_alloc_new w (ndG t.op t.nm t.n a t.ks.len c);have LB1:=(BA.block lb hlt).trans hlb;have hs0:(w.alloc (ndG t.op t.nm t.n a t.ks.len c)).heap.size=w.heap.size+1:=World.size_alloc _ _;generalize hW:w.alloc (ndG t.op t.nm t.n a t.ks.len c)=W at BA NB LB1 hs0;have HW:=aA hW;have hsize:aT t=1+cG t.ks:=rfl;have hlen:=kW t.ks;have K1:=(aF BA (· = lb)).setCell (p:=⟨lb,0,none⟩) (.inl rfl) (.int .i64 ((l:Int)-1));have LB2:=xI LB1 (.int .i64 ((l:Int)-1));have NB2:=((aE.refl (· = lb) W).setCell (p:=⟨lb,0,none⟩) (.inl rfl) (.int .i64 ((l:Int)-1))).heap NB (by omega);have hs1:(W.setCell ⟨lb,0,none⟩ (.int .i64 ((l:Int)-1))).heap.size=w.heap.size+1:=by rw [World.size_setCell];exact hs0
 obtain ⟨lc,lf⟩:=gD LB1;by_cases hstop:(l:Int)-1<(t.ks.len:Int)
 · have P:=aA (show ¬ aT t<=l by omega)
   generalize hV:W.setCell ⟨lb,0,none⟩ (.int .i64 ((l:Int)-1))=V at K1 LB2 NB2 hs1;have HV:=aA hV;obtain ⟨lc2, -⟩:=gD LB2;obtain ⟨⟨m0,m1,m2,m3⟩, -⟩:=aK NB2;have HK1:=aA K1;clear hr hpre hG ih hwd hlb hW hV K1 LB1 LB2 NB NB2 BA hsize;go_enter Tryz.func146,Tryz.ntmps146
   go_upto_region 2 with fail
   rw [HW.out];go_upto_region 3 with fail
   rw [HV.out];go_wp2_with (go_quiet (fail))
   go_ret2;exact ⟨HK1.out.drewN _,fun h=>absurd h P.out,fun h=>absurd h P.out,fun _=>rfl⟩
 · obtain ⟨l',rfl⟩:∃ l',l=l'+1:=⟨l-1,by omega⟩
   have hcast:(((l'+1:Nat):Int)-1)=(l':Int):=by omega
   rw [hcast] at K1 LB2 NB2 hs1 hstop;generalize hV:W.setCell ⟨lb,0,none⟩ (.int .i64 (l':Int))=V at K1 LB2 NB2 hs1;have HV:=aA hV;obtain ⟨lc2, -⟩:=gD LB2;obtain ⟨⟨m0,m1,m2,m3⟩, -⟩:=aK NB2;have HK1:=aA K1;have HLB:=aA LB2;have HNB:=aA NB2;have hll:t.ks.len<=l':=by omega
   have b9:¬ (l':Int)<(t.ks.len:Int):=hstop;clear hr hpre hG ih hwd hlb hW hV K1 LB1 LB2 NB NB2 BA hstop hcast;go_enter Tryz.func146,Tryz.ntmps146
   go_upto_region 2 with fail
   rw [HW.out];go_upto_region 3 with fail
   rw [HV.out];go_upto_region 5 with (go_quiet (fail))
   have HK2:=aA (HK1.out.drewN nq);have HLB2:=aA (show (V.drewN nq).heap[lb]? = _ from HLB.out);have HNB2:=aA (show (V.drewN nq).heap[w.heap.size]? = _ from HNB.out);have hsV:(V.drewN nq).heap.size=w.heap.size+1:=hs1;have n3:(V.drewN nq).cell? ⟨w.heap.size,3,none⟩=some (.slice a t.ks.len c):=m3;generalize V.drewN nq=U at HK2 HLB2 HNB2 hsV n3 |-
   clear m0 m1 m2 m3 lc lf lc2 HW HV HK1 HLB HNB;go_wp2_with fail
   go_loopw [9,30] (fun kv i wr=>∃ (k x:Nat) (va:Option Addr) (vc:Nat) (vs:List Value),kv=.slice va k vc/\i=.int .i64 k/\k<=t.ks.len/\x+cG t.ks=l'+cG (t.ks.drop k)/\Hid (wr.ownsRow (w.heap.size+1) 9 1 (.slice va k vc) k vs) /\
    Hid (∀ j t2,j<k->t.ks.at j=some t2->∃ v,vs[j]? = some v/\mC (fun b=>w.heap.size+1<=b/\(Value.slice va k vc).ownBlock ≠ some b) wr t2 v)/\Hid (wr.heap[lb]? = some (.cells #[.int .i64 x] 3 (0,0)))/\Hid (aE (· = lb) w wr)/\Hid (wr.heap[w.heap.size]? = some (ndG t.op t.nm t.n a t.ks.len c))) (fun _ i _=>t.ks.len-(intOf i).toNat)
   case atStart=>exact ⟨0,l',none,0,[],rfl,rfl,Nat.zero_le _,by rw [F.drop_zero],aA (World.ownsRow_nil _ _ _ _),aA (fun _ _ h=>absurd h (Nat.not_lt_zero _)),HLB2,HK2,HNB2⟩
   case round =>
    obtain ⟨k,x,va,vc,vs,rfl,rfl,hk,hx,hO,hV,hL,hK,hN⟩:=hrel;clear n3;obtain ⟨⟨m0,m1,m2,m3⟩, -⟩:=aK hN.out;have hz:=hK.out.size;by_cases hkl:k<t.ks.len
    · obtain ⟨t2,hat, -⟩:=dN hkl
      have hsd:=kK hat;have hdl:=fE t.ks k;obtain ⟨b,off,a2,c2,ha,hGb,hbl,⟨p0,p1,p2,p3⟩,hr2⟩:=cR (R.out.keptS hK.out (fun q hq hg=>HG.out q hg hq)) hat;subst ha;have hN1:w.heap.size<wr.heap.size:=(Array.getElem?_eq_some_iff.1 hN.out).1;have BA:=(Below.refl wr.heap.size wr).alloc (Nat.le_refl _) (ndG t2.op t2.nm t2.n a2 t2.ks.len c2);have NB:=heap_alloc_new wr (ndG t2.op t2.nm t2.n a2 t2.ks.len c2);have hs2:(wr.alloc (ndG t2.op t2.nm t2.n a2 t2.ks.len c2)).heap.size=wr.heap.size+1:=World.size_alloc _ _;generalize hX:wr.alloc (ndG t2.op t2.nm t2.n a2 t2.ks.len c2)=Z at BA NB hs2;have HX:=aA hX;have CF:=aA ((eO.at IH.out hat) G lb Z a2 c2 x (by omega) (KV PRE.out hat) HG.out (wdT WD.out (hK.out.trans (aF BA (· = lb)) (fun _ h _=>h))) (hr2.kept BA) ((BA.block lb (by omega)).trans hL.out));have HAT:=aA hat;have HBA:=aA BA;have OZ:=aA (bR hO.out BA);obtain ⟨⟨z0,z1,z2,z3⟩, -⟩:=aK NB;clear hX BA NB hr2 hat hGb;go_upto_region 9 with fail
      rw [HX.out];clear p0 p1 p2 p3 m0 m1 m2 m3;go_wp2_with fail
      refine CF.out.mono ?_;rintro e w2 ⟨k2,hA1,hA2,hB⟩;have hzk2:=k2.size;have K2:=aA (hK.out.trans ((aF HBA.out (· = lb)).trans k2 (fun _ h _=>h)) (fun _ h _=>h));have N2:=aA (k2.heap ((HBA.out.block w.heap.size (by omega)).trans hN.out) (by omega));by_cases hfit:aT t2<=x
      · obtain ⟨v,rfl,hv⟩:=hA1 hfit
        obtain ⟨z,rfl⟩:=JQ hv;have L2:=aA (hA2 hfit);have O2:=aA (dH (row:=some lb) OZ.out (k2.mono (fun i hi _=>by rw [hi])) (fun q hq e=>by have:=(OZ.out.lt q hq).1;have:=Option.some.inj e;omega));have HVV:=aA hv;have hx2:(x-aT t2)+cG t.ks=l'+cG (t.ks.drop (k+1)):=by omega
        have hksz:k+1<=1000:=by omega
        have vone:∀ u∈[(Value.string z)],u.oneCell'=true:=fun u hu=>by rw [List.mem_singleton.1 hu];exact Lt hv
        clear CF hA1 hA2 hB hv hfit z0 z1 z2 z3;go_upto_region 12 with fail
        have BN:=(Below.refl w2.heap.size w2).alloc (Nat.le_refl _) (.cells #[(Value.string z)] 9)
        have F2:=aA (show ∀ j u,[(Value.string z)][j]? = some u->(w2.alloc (.cells #[(Value.string z)] 9)).cell? ((⟨w2.heap.size,0,none⟩:Addr).add j)=some u from fun j u hj=>by
         rw [Addr.add_lit,Nat.zero_add,cell_of_row _ _ _ _ _ (0,0) (heap_alloc_new w2 _)];simpa using hj)
        have HBN:=aA BN;clear BN;go_wp2_with (at_builtin;refine aS rfl _ _ 118 rfl und hi hz0 hz1 hz2 rfl (by decide) (.slice va k vc) k 1 1 ⟨w2.heap.size,0,none⟩ vs [(Value.string z)] rfl rfl (bR O2.out HBN.out) rfl F2.out vone (by unfold maxLen;omega) (by omega) (by rw [World.size_alloc];omega) ?_)
        intro v3 w3 ho hg hq;obtain ⟨va3,vc3,rfl⟩:=dF ho;have kg:aE (fun b=>(Value.slice va k vc).ownBlock=some b) w2 w3:=((aE.refl _ w2).alloc _).grown hg (fun q hq=>.inl hq);have hov:∀ q,(Value.slice va k vc).ownBlock=some q->w.heap.size+1<=q/\q<w2.heap.size:=fun q hq=>by have:=O2.out.lt q hq;omega
        have O3:=aA ho;have L3:=aA (kg.heap L2.out (fun e=>by have:=hov lb e;omega));have K3:=aA (K2.out.trans (kg.mono (T:=fun b=>w.heap.size+1<=b) (fun i hi _=>(hov i hi).1)) (fun i hi hlt=>by omega));have N3:=aA (kg.heap N2.out (fun e=>by have:=hov _ e;omega))
        have hnewb:∀ b,b<w2.heap.size->(Value.slice va k vc).ownBlock ≠ some b->(Value.slice va3 (k+1) vc3).ownBlock ≠ some b:=fun b hb hne e=>by
         rcases hq b e with h1 | h1
         · exact hne h1
         · omega
        have V3:=aA (show ∀ j t3,j<k+1->t.ks.at j=some t3->∃ u,(vs++[(Value.string z)])[j]? = some u/\mC (fun b=>w.heap.size+1<=b/\(Value.slice va3 (k+1) vc3).ownBlock ≠ some b) w3 t3 u from fun j t3 hj hjt=>by
         have hvl:vs.length=k:=by have:=hO.out.1;rwa [Nat.mul_one] at this
         by_cases hjk:j<k
         · obtain ⟨u,hu,hru⟩:=hV.out j t3 hjk hjt
           refine ⟨u,by rw [List.getElem?_append_left (by omega)];exact hu,?_⟩;have r1:=lL (lL hru (aF HBA.out (fun _=>False)) (fun _ h=>h.elim)) k2 (fun q hq hg=>by have:=hg.1;omega);have r2:=kO (H:=fun b=>(w.heap.size+1<=b/\(Value.slice va k vc).ownBlock ≠ some b)/\(Value.slice va3 (k+1) vc3).ownBlock ≠ some b) r1 (fun b hb hg=>⟨hg,hnewb b hb hg.2⟩);exact kO (lL r2 kg (fun q hq hg=>hg.1.2 hq)) (fun b hb hg=>⟨hg.1.1,hg.2⟩)
         · obtain rfl:j=k:=by omega
           have:t3=t2:=by rw [HAT.out] at hjt;exact (Option.some.inj hjt).symm
           subst this;refine ⟨_,by rw [List.getElem?_append_right (by omega),hvl,Nat.sub_self];rfl,?_⟩
           have r2:=kO (H:=fun b=>(w.heap.size+1<=b/\(Value.slice va j vc).ownBlock ≠ some b)/\(Value.slice va3 (j+1) vc3).ownBlock ≠ some b) HVV.out (fun b hb hg=>by
            have hne:(Value.slice va j vc).ownBlock ≠ some b:=fun e=>by have:=(OZ.out.lt b e).2;omega
            exact ⟨⟨by omega,hne⟩,hnewb b hb hne⟩)
           exact kO (lL r2 kg (fun q hq hg=>hg.1.2 hq)) (fun b hb hg=>⟨hg.1.1,hg.2⟩))
        clear ho hg hq kg hov hnewb;go_wp2_with fail
        go_roundw
        case rel=>exact ⟨k+1,x-aT t2,va3,vc3,vs++[(Value.string z)],rfl,by go_num,by omega,hx2,O3,V3,L3,K3,N3⟩
        case measure=>simp [intOf];omega
      · obtain rfl:=hB hfit
        have P:=aA (show ¬ aT t<=l'+1 by omega);clear CF hA1 hA2 hB hfit z0 z1 z2 z3;go_wp2_with fail
        go_ret2;exact ⟨K2.out,fun h=>absurd h P.out,fun h=>absurd h P.out,fun _=>rfl⟩
    · obtain rfl:k=t.ks.len:=by omega
      have hx2:x+cG t.ks=l':=by rw [hx,F.drop_len _ _ (Nat.le_refl _)];rfl
      have CO:=aA (IK t wr G a c va vc vs (w.heap.size+1) PRE.out (wdT WD.out hK.out) (R.out.keptS hK.out (fun q hq hg=>HG.out q hg hq)) hO.out (fun j t2 hj=>hV.out j t2 (Hh hj) hj));go_wp2_with fail
      refine CO.out.mono ?_;rintro e w2 ⟨v,rfl,hv,hb⟩
      have P:=aA (show aE (· = lb) w w2/\mC (fun b=>w.heap.size<=b) w2 t v/\w2.heap[lb]? = some (.cells #[.int .i64 ((l'+1-aT t:Nat):Int)] 3 (0,0))/\aT t<=l'+1 from
       ⟨hK.out.trans (aF hb (· = lb)) (fun _ h _=>h),kO hv (fun b _ hg=>by omega),by rw [hb.block lb (by omega),hL.out,show x=l'+1-aT t by omega],by omega⟩)
      clear hv hb CO m0 m1 m2 m3;go_wp2_with fail
      go_ret2;exact ⟨P.out.1,fun _=>⟨v,rfl,P.out.2.1⟩,fun _=>P.out.2.2.1,fun h=>absurd P.out.2.2.2 h⟩
theorem EG (t:TN):Hy t:=lG BR t
theorem EF (t:TN) (G:Nat->Prop) (w:World) (a:Option Addr) (c:Nat) (hpre:Hu t) (hwd:∀ lb,w.heap.size<=lb->WdT lb w) (hr:aH G w a t.ks) :
 Calls Tryz.prog 101 #[bB t.op t.nm t.n a t.ks.len c,.func (.func 102) #[] #[]] w fun e w'=>Below w.heap.size w w' /\
  (aT t<=32->∃ v,e=.returned (.tuple #[v,.bool true])/\mC (fun b=>w.heap.size<=b) w' t v)/\(¬ aT t<=32->e=.returned (.tuple #[.string ⟨#[]⟩,.bool false])):=by
 have BA:=(Below.refl w.heap.size w).alloc (Nat.le_refl _) (ndG t.op t.nm t.n a t.ks.len c);have NB:=heap_alloc_new w (ndG t.op t.nm t.n a t.ks.len c);have hs0:(w.alloc (ndG t.op t.nm t.n a t.ks.len c)).heap.size=w.heap.size+1:=World.size_alloc _ _;generalize hW:w.alloc (ndG t.op t.nm t.n a t.ks.len c)=W at BA NB hs0;have BB:=(Below.refl W.heap.size W).alloc (Nat.le_refl _) (.cells #[.int .i64 32] 3);have NC:=heap_alloc_new W (.cells #[.int .i64 32] 3);have hs1:(W.alloc (.cells #[.int .i64 32] 3)).heap.size=w.heap.size+2:=by rw [World.size_alloc];omega
 generalize hV:W.alloc (.cells #[.int .i64 32] 3)=V at BB NC hs1;rw [hs0] at NC;have BV:=BA.trans (BB.mono (by omega));have N2:=(BB.block w.heap.size (by omega)).trans NB;have hGlt:=hr.imp (H:=fun b=>G b/\b<w.heap.size) (fun b hb hg=>⟨hg,hb⟩);have CF:=aA (EG t (fun b=>G b/\b<w.heap.size) (w.heap.size+1) V a c 32 (by omega) hpre (fun b hg=>by omega) (wdT (hwd (w.heap.size+1) (by omega)) (aF BV (fun _=>False) |>.mono (fun _ h _=>h.elim):aE (· = w.heap.size+1) w V)) (hGlt.keptS (aF BV (fun _=>False)) (fun _ h=>h.elim)) NC);have HW:=aA hW;have HV:=aA hV;have HB:=aA BV;obtain ⟨⟨m0,m1,m2,m3⟩, -⟩:=aK N2;clear hW hV BA NB BB NC BV N2 hGlt hr hpre hwd;go_enter Tryz.func101,Tryz.ntmps101
 go_upto_region 1 with fail
 rw [HW.out];go_upto_region 2 with fail
 rw [HV.out];go_wp2_with fail
 refine CF.out.mono ?_;rintro e w2 ⟨k2,hA, -,hB⟩;have B2:=aA (HB.out.trans (aE.below k2 (B:=w.heap.size) (fun q hq=>by omega) (by omega)));by_cases h32:aT t<=32
 · obtain ⟨v,rfl,hv⟩:=hA h32
   have HR:=aA (kO hv (H:=fun b=>w.heap.size<=b) (fun b _ hg=>by omega));have H32:=aA h32;clear k2 hA hB hv h32 CF m0 m1 m2 m3;go_wp2_with fail
   go_ret2;exact ⟨B2.out,fun _=>⟨v,rfl,HR.out⟩,fun h=>absurd H32.out h⟩
 · obtain rfl:=hB h32
   have H32:=aA h32;clear k2 hA hB h32 CF m0 m1 m2 m3;go_wp2_with fail
   go_ret2;exact ⟨B2.out,fun h=>absurd h H32.out,fun _=>rfl⟩
end
section
open Go.RowKit
theorem gN (t:TN) (G:Nat->Prop) (w:World) (a:Option Addr) (c:Nat) (hS:SzF t.f) (hr:aH G w a t.ks) :
 Calls Tryz.prog 96 #[bB t.op t.nm t.n a t.ks.len c] w fun e w'=>e=.returned (.int .i64 (aL t))/\Below w.heap.size w w':=by
 have BA:=(Below.refl w.heap.size w).alloc (Nat.le_refl _) (ndG t.op t.nm t.n a t.ks.len c);have NB:=heap_alloc_new w (ndG t.op t.nm t.n a t.ks.len c);have CF:=EI t G (w.alloc (ndG t.op t.nm t.n a t.ks.len c)) a c hS (fun _ _=>trivial) (hr.kept BA);have hz:w.heap.size<=(w.alloc (ndG t.op t.nm t.n a t.ks.len c)).heap.size:=BA.size;generalize hW:w.alloc (ndG t.op t.nm t.n a t.ks.len c)=W at BA NB CF hz;have HCF:=aA CF;have HB:=aA BA;have HW:=aA hW;have HI:=aA (xW t);obtain ⟨⟨m0,m1,m2,m3⟩, -⟩:=aK NB;clear hW BA NB CF hr hS;go_enter Tryz.func96,Tryz.ntmps96
 go_upto_region 1 with fail
 rw [HW.out];go_wp2_with fail
 refine HCF.out.mono ?_;rintro e w2 ⟨hb,hA,hB⟩;have B2:=aA (HB.out.trans (hb.mono hz));by_cases h32:aT t<=32
 · obtain ⟨v,rfl,hv⟩:=hA h32
   unfold mD at hv;subst hv;have E:=aA (show aL t=bD t.f by unfold aL;rw [if_neg (fun h=>by have:=HI.out.1 h;omega)]);clear hb hA hB h32;go_wp2_with fail
   go_ret;rw [E.out];exact ⟨rfl,B2.out⟩
 · obtain rfl:=hB h32
   have E:=aA (show aL t=4 by unfold aL;rw [if_pos (HI.out.2 (by omega))]);clear hb hA hB h32;go_wp2_with fail
   go_ret;rw [E.out];exact ⟨rfl,B2.out⟩
theorem nJ (t:TN) (G:Nat->Prop) (w:World) (a:Option Addr) (c:Nat) (ho:OkT t) (hn:eV t.f) (hs:aT t<=32) (hl:j6 w) (hr:aH G w a t.ks) :
 Calls Tryz.prog 52 #[bB t.op t.nm t.n a t.ks.len c] w fun e w'=>e=.returned (.string ⟨(bU t).toArray⟩)/\Below w.heap.size w w':=by
 have BA:=(Below.refl w.heap.size w).alloc (Nat.le_refl _) (ndG t.op t.nm t.n a t.ks.len c);have NB:=heap_alloc_new w (ndG t.op t.nm t.n a t.ks.len c)
 have LT:j6 (w.alloc (ndG t.op t.nm t.n a t.ks.len c)):=by
  obtain ⟨t',f,h1⟩:=hl;exact ⟨t',f,(BA.block _ (Array.getElem?_eq_some_iff.1 h1).1).trans h1⟩
 have CF:=EF t G (w.alloc (ndG t.op t.nm t.n a t.ks.len c)) a c ⟨Bl t ho hn,by have:=yV t ho hn;omega⟩ (fun lb hlb=>⟨LT,fun e=>by
  obtain ⟨t',f,h1⟩:=LT;have:=(Array.getElem?_eq_some_iff.1 h1).1;omega⟩) (hr.kept BA)
 have hz:w.heap.size<=(w.alloc (ndG t.op t.nm t.n a t.ks.len c)).heap.size:=BA.size;generalize hW:w.alloc (ndG t.op t.nm t.n a t.ks.len c)=W at BA NB CF hz LT;have HCF:=aA CF;have HB:=aA BA;have HW:=aA hW;have H32:=aA hs;obtain ⟨⟨m0,m1,m2,m3⟩, -⟩:=aK NB;clear hW BA NB CF hr hs LT hl ho hn;go_enter Tryz.func52,Tryz.ntmps52
 go_upto_region 1 with fail
 rw [HW.out];go_wp2_with fail
 refine HCF.out.mono ?_;rintro e w2 ⟨hb,hA, -⟩;have B2:=aA (HB.out.trans (hb.mono hz));obtain ⟨v,rfl,hv⟩:=hA H32.out;unfold mC at hv;subst hv;clear hb hA;go_wp2_with fail
 go_ret;exact ⟨rfl,B2.out⟩
end
section
open Go.RowKit
def Hz (t:TN):Prop:=∀ (G:Nat->Prop) (lb:Nat) (w:World) (a:Option Addr) (c l:Nat),l<=1000->Ct t->(∀ b,G b->b ≠ lb)->WdL lb w->aH G w a t.ks->w.heap[lb]? = some (.cells #[.int .i64 l] 3 (0,0)) ->
 Calls Tryz.prog 148 #[.pointer (some ⟨lb,0,none⟩),bB t.op t.nm t.n a t.ks.len c,.func (.func 104) #[] #[]] w fun e w'=>aE (· = lb) w w' /\
  (aT t<=l->∃ v,e=.returned (.tuple #[v,.bool true])/\l7 (fun b=>w.heap.size<=b) w' t v) /\
  (aT t<=l->w'.heap[lb]? = some (.cells #[.int .i64 ((l-aT t:Nat):Int)] 3 (0,0))) /\
  (¬ aT t<=l->e=.returned (.tuple #[.slice none 0 0,.bool false]))
theorem BT (t:TN) (ih:eO Hz t.ks):Hz t:=by
 intro G lb w a c l hl hpre hG hwd hr hlb;obtain ⟨i0,hi,hz0,hz1,hz2⟩:=info_parts Li;have und:Tryz.prog.underlying 215=some (.slice 23):=Tryz.underlying215;have hlt:=(Array.getElem?_eq_some_iff.1 hlb).1;have IH:=aA ih;have R:=aA hr;have PRE:=aA hpre;have HG:=aA hG;have WD:=aA hwd;have BA:=(Below.refl w.heap.size w).alloc (Nat.le_refl _) (ndG t.op t.nm t.n a t.ks.len c);have NB:=heap_alloc_new w (ndG t.op t.nm t.n a t.ks.len c);have LB1:=(BA.block lb hlt).trans hlb;have hs0:(w.alloc (ndG t.op t.nm t.n a t.ks.len c)).heap.size=w.heap.size+1:=World.size_alloc _ _;generalize hW:w.alloc (ndG t.op t.nm t.n a t.ks.len c)=W at BA NB LB1 hs0;have HW:=aA hW;have hsize:aT t=1+cG t.ks:=rfl;have hlen:=kW t.ks;have K1:=(aF BA (· = lb)).setCell (p:=⟨lb,0,none⟩) (.inl rfl) (.int .i64 ((l:Int)-1));have LB2:=xI LB1 (.int .i64 ((l:Int)-1));have NB2:=((aE.refl (· = lb) W).setCell (p:=⟨lb,0,none⟩) (.inl rfl) (.int .i64 ((l:Int)-1))).heap NB (by omega);have hs1:(W.setCell ⟨lb,0,none⟩ (.int .i64 ((l:Int)-1))).heap.size=w.heap.size+1:=by rw [World.size_setCell];exact hs0
 obtain ⟨lc,lf⟩:=gD LB1;by_cases hstop:(l:Int)-1<(t.ks.len:Int)
 · have P:=aA (show ¬ aT t<=l by omega)
   generalize hV:W.setCell ⟨lb,0,none⟩ (.int .i64 ((l:Int)-1))=V at K1 LB2 NB2 hs1;have HV:=aA hV;obtain ⟨lc2, -⟩:=gD LB2;obtain ⟨⟨m0,m1,m2,m3⟩, -⟩:=aK NB2;have HK1:=aA K1;clear hr hpre hG ih hwd hlb hW hV K1 LB1 LB2 NB NB2 BA hsize;go_enter Tryz.func148,Tryz.ntmps148
   go_upto_region 2 with fail
   rw [HW.out];go_upto_region 3 with fail
   rw [HV.out];go_wp2_with (go_quiet (fail))
   go_ret2;exact ⟨HK1.out.drewN _,fun h=>absurd h P.out,fun h=>absurd h P.out,fun _=>rfl⟩
 · obtain ⟨l',rfl⟩:∃ l',l=l'+1:=⟨l-1,by omega⟩
   have hcast:(((l'+1:Nat):Int)-1)=(l':Int):=by omega
   rw [hcast] at K1 LB2 NB2 hs1 hstop;generalize hV:W.setCell ⟨lb,0,none⟩ (.int .i64 (l':Int))=V at K1 LB2 NB2 hs1;have HV:=aA hV;obtain ⟨lc2, -⟩:=gD LB2;obtain ⟨⟨m0,m1,m2,m3⟩, -⟩:=aK NB2;have HK1:=aA K1;have HLB:=aA LB2;have HNB:=aA NB2;have hll:t.ks.len<=l':=by omega
   have b9:¬ (l':Int)<(t.ks.len:Int):=hstop;clear hr hpre hG ih hwd hlb hW hV K1 LB1 LB2 NB NB2 BA hstop hcast;go_enter Tryz.func148,Tryz.ntmps148
   go_upto_region 2 with fail
   rw [HW.out];go_upto_region 3 with fail
   rw [HV.out];go_upto_region 5 with (go_quiet (fail))
   have HK2:=aA (HK1.out.drewN nq);have HLB2:=aA (show (V.drewN nq).heap[lb]? = _ from HLB.out);have HNB2:=aA (show (V.drewN nq).heap[w.heap.size]? = _ from HNB.out);have hsV:(V.drewN nq).heap.size=w.heap.size+1:=hs1;have n3:(V.drewN nq).cell? ⟨w.heap.size,3,none⟩=some (.slice a t.ks.len c):=m3;generalize V.drewN nq=U at HK2 HLB2 HNB2 hsV n3 |-
   clear m0 m1 m2 m3 lc lf lc2 HW HV HK1 HLB HNB;go_wp2_with fail
   go_loopw [9,30] (fun kv i wr=>∃ (k x:Nat) (va:Option Addr) (vc:Nat) (vs:List Value),kv=.slice va k vc/\i=.int .i64 k/\k<=t.ks.len/\x+cG t.ks=l'+cG (t.ks.drop k)/\Hid (wr.ownsRow (w.heap.size+1) 23 1 (.slice va k vc) k vs) /\
    Hid (∀ j t2,j<k->t.ks.at j=some t2->∃ v,vs[j]? = some v/\l7 (fun b=>w.heap.size+1<=b/\(Value.slice va k vc).ownBlock ≠ some b) wr t2 v)/\Hid (wr.heap[lb]? = some (.cells #[.int .i64 x] 3 (0,0)))/\Hid (aE (· = lb) w wr)/\Hid (wr.heap[w.heap.size]? = some (ndG t.op t.nm t.n a t.ks.len c))) (fun _ i _=>t.ks.len-(intOf i).toNat)
   case atStart=>exact ⟨0,l',none,0,[],rfl,rfl,Nat.zero_le _,by rw [F.drop_zero],aA (World.ownsRow_nil _ _ _ _),aA (fun _ _ h=>absurd h (Nat.not_lt_zero _)),HLB2,HK2,HNB2⟩
   case round =>
    obtain ⟨k,x,va,vc,vs,rfl,rfl,hk,hx,hO,hV,hL,hK,hN⟩:=hrel;clear n3;obtain ⟨⟨m0,m1,m2,m3⟩, -⟩:=aK hN.out;have hz:=hK.out.size;by_cases hkl:k<t.ks.len
    · obtain ⟨t2,hat, -⟩:=dN hkl
      have hsd:=kK hat;have hdl:=fE t.ks k;obtain ⟨b,off,a2,c2,ha,hGb,hbl,⟨p0,p1,p2,p3⟩,hr2⟩:=cR (R.out.keptS hK.out (fun q hq hg=>HG.out q hg hq)) hat;subst ha;have hN1:w.heap.size<wr.heap.size:=(Array.getElem?_eq_some_iff.1 hN.out).1;have BA:=(Below.refl wr.heap.size wr).alloc (Nat.le_refl _) (ndG t2.op t2.nm t2.n a2 t2.ks.len c2);have NB:=heap_alloc_new wr (ndG t2.op t2.nm t2.n a2 t2.ks.len c2);have hs2:(wr.alloc (ndG t2.op t2.nm t2.n a2 t2.ks.len c2)).heap.size=wr.heap.size+1:=World.size_alloc _ _;generalize hX:wr.alloc (ndG t2.op t2.nm t2.n a2 t2.ks.len c2)=Z at BA NB hs2;have HX:=aA hX;have CF:=aA ((eO.at IH.out hat) G lb Z a2 c2 x (by omega) (KY PRE.out hat) HG.out (wdL WD.out (hK.out.trans (aF BA (· = lb)) (fun _ h _=>h))) (hr2.kept BA) ((BA.block lb (by omega)).trans hL.out));have HAT:=aA hat;have HBA:=aA BA;have OZ:=aA (bR hO.out BA);obtain ⟨⟨z0,z1,z2,z3⟩, -⟩:=aK NB;clear hX BA NB hr2 hat hGb;go_upto_region 9 with fail
      rw [HX.out];clear p0 p1 p2 p3 m0 m1 m2 m3;go_wp2_with fail
      refine CF.out.mono ?_;rintro e w2 ⟨k2,hA1,hA2,hB⟩;have hzk2:=k2.size;have K2:=aA (hK.out.trans ((aF HBA.out (· = lb)).trans k2 (fun _ h _=>h)) (fun _ h _=>h));have N2:=aA (k2.heap ((HBA.out.block w.heap.size (by omega)).trans hN.out) (by omega));by_cases hfit:aT t2<=x
      · obtain ⟨v,rfl,hv⟩:=hA1 hfit
        obtain ⟨za,zn,zc,rfl⟩:=JR hv;have L2:=aA (hA2 hfit);have O2:=aA (dH (row:=some lb) OZ.out (k2.mono (fun i hi _=>by rw [hi])) (fun q hq e=>by have:=(OZ.out.lt q hq).1;have:=Option.some.inj e;omega));have HVV:=aA hv;have hx2:(x-aT t2)+cG t.ks=l'+cG (t.ks.drop (k+1)):=by omega
        have hksz:k+1<=1000:=by omega
        have vone:∀ u∈[(Value.slice za zn zc)],u.oneCell'=true:=fun u hu=>by rw [List.mem_singleton.1 hu];exact Lu hv
        clear CF hA1 hA2 hB hv hfit z0 z1 z2 z3;go_upto_region 12 with fail
        have BN:=(Below.refl w2.heap.size w2).alloc (Nat.le_refl _) (.cells #[(Value.slice za zn zc)] 23)
        have F2:=aA (show ∀ j u,[(Value.slice za zn zc)][j]? = some u->(w2.alloc (.cells #[(Value.slice za zn zc)] 23)).cell? ((⟨w2.heap.size,0,none⟩:Addr).add j)=some u from fun j u hj=>by
         rw [Addr.add_lit,Nat.zero_add,cell_of_row _ _ _ _ _ (0,0) (heap_alloc_new w2 _)];simpa using hj)
        have HBN:=aA BN;clear BN;go_wp2_with (at_builtin;refine aS rfl _ _ 215 rfl und hi hz0 hz1 hz2 rfl (by decide) (.slice va k vc) k 1 1 ⟨w2.heap.size,0,none⟩ vs [(Value.slice za zn zc)] rfl rfl (bR O2.out HBN.out) rfl F2.out vone (by unfold maxLen;omega) (by omega) (by rw [World.size_alloc];omega) ?_)
        intro v3 w3 ho hg hq;obtain ⟨va3,vc3,rfl⟩:=dF ho;have kg:aE (fun b=>(Value.slice va k vc).ownBlock=some b) w2 w3:=((aE.refl _ w2).alloc _).grown hg (fun q hq=>.inl hq);have hov:∀ q,(Value.slice va k vc).ownBlock=some q->w.heap.size+1<=q/\q<w2.heap.size:=fun q hq=>by have:=O2.out.lt q hq;omega
        have O3:=aA ho;have L3:=aA (kg.heap L2.out (fun e=>by have:=hov lb e;omega));have K3:=aA (K2.out.trans (kg.mono (T:=fun b=>w.heap.size+1<=b) (fun i hi _=>(hov i hi).1)) (fun i hi hlt=>by omega));have N3:=aA (kg.heap N2.out (fun e=>by have:=hov _ e;omega))
        have hnewb:∀ b,b<w2.heap.size->(Value.slice va k vc).ownBlock ≠ some b->(Value.slice va3 (k+1) vc3).ownBlock ≠ some b:=fun b hb hne e=>by
         rcases hq b e with h1 | h1
         · exact hne h1
         · omega
        have V3:=aA (show ∀ j t3,j<k+1->t.ks.at j=some t3->∃ u,(vs++[(Value.slice za zn zc)])[j]? = some u/\l7 (fun b=>w.heap.size+1<=b/\(Value.slice va3 (k+1) vc3).ownBlock ≠ some b) w3 t3 u from fun j t3 hj hjt=>by
         have hvl:vs.length=k:=by have:=hO.out.1;rwa [Nat.mul_one] at this
         by_cases hjk:j<k
         · obtain ⟨u,hu,hru⟩:=hV.out j t3 hjk hjt
           refine ⟨u,by rw [List.getElem?_append_left (by omega)];exact hu,?_⟩;have r1:=jI (jI hru (aF HBA.out (fun _=>False)) (fun _ h=>h.elim)) k2 (fun q hq hg=>by have:=hg.1;omega);have r2:=kQ (H:=fun b=>(w.heap.size+1<=b/\(Value.slice va k vc).ownBlock ≠ some b)/\(Value.slice va3 (k+1) vc3).ownBlock ≠ some b) r1 (fun b hb hg=>⟨hg,hnewb b hb hg.2⟩);exact kQ (jI r2 kg (fun q hq hg=>hg.1.2 hq)) (fun b hb hg=>⟨hg.1.1,hg.2⟩)
         · obtain rfl:j=k:=by omega
           have:t3=t2:=by rw [HAT.out] at hjt;exact (Option.some.inj hjt).symm
           subst this;refine ⟨_,by rw [List.getElem?_append_right (by omega),hvl,Nat.sub_self];rfl,?_⟩
           have r2:=kQ (H:=fun b=>(w.heap.size+1<=b/\(Value.slice va j vc).ownBlock ≠ some b)/\(Value.slice va3 (j+1) vc3).ownBlock ≠ some b) HVV.out (fun b hb hg=>by
            have hne:(Value.slice va j vc).ownBlock ≠ some b:=fun e=>by have:=(OZ.out.lt b e).2;omega
            exact ⟨⟨by omega,hne⟩,hnewb b hb hne⟩)
           exact kQ (jI r2 kg (fun q hq hg=>hg.1.2 hq)) (fun b hb hg=>⟨hg.1.1,hg.2⟩))
        clear ho hg hq kg hov hnewb;go_wp2_with fail
        go_roundw
        case rel=>exact ⟨k+1,x-aT t2,va3,vc3,vs++[(Value.slice za zn zc)],rfl,by go_num,by omega,hx2,O3,V3,L3,K3,N3⟩
        case measure=>simp [intOf];omega
      · obtain rfl:=hB hfit
        have P:=aA (show ¬ aT t<=l'+1 by omega);clear CF hA1 hA2 hB hfit z0 z1 z2 z3;go_wp2_with fail
        go_ret2;exact ⟨K2.out,fun h=>absurd h P.out,fun h=>absurd h P.out,fun _=>rfl⟩
    · obtain rfl:k=t.ks.len:=by omega
      have hx2:x+cG t.ks=l':=by rw [hx,F.drop_len _ _ (Nat.le_refl _)];rfl
      have CO:=aA (IM t wr G a c va vc vs (w.heap.size+1) PRE.out (wdL WD.out hK.out) (R.out.keptS hK.out (fun q hq hg=>HG.out q hg hq)) hO.out (fun j t2 hj=>hV.out j t2 (Hh hj) hj));go_wp2_with fail
      refine CO.out.mono ?_;rintro e w2 ⟨v,rfl,hv,hb⟩
      have P:=aA (show aE (· = lb) w w2/\l7 (fun b=>w.heap.size<=b) w2 t v/\w2.heap[lb]? = some (.cells #[.int .i64 ((l'+1-aT t:Nat):Int)] 3 (0,0))/\aT t<=l'+1 from
       ⟨hK.out.trans (aF hb (· = lb)) (fun _ h _=>h),kQ hv (fun b _ hg=>by omega),by rw [hb.block lb (by omega),hL.out,show x=l'+1-aT t by omega],by omega⟩)
      clear hv hb CO m0 m1 m2 m3;go_wp2_with fail
      go_ret2;exact ⟨P.out.1,fun _=>⟨v,rfl,P.out.2.1⟩,fun _=>P.out.2.2.1,fun h=>absurd P.out.2.2.2 h⟩
theorem EH (t:TN):Hz t:=lG BT t
theorem wD (t:TN) (G:Nat->Prop) (w:World) (a:Option Addr) (c:Nat) (hpre:Ct t) (hwd:∀ lb,w.heap.size<=lb->WdL lb w) (hr:aH G w a t.ks) :
 Calls Tryz.prog 103 #[bB t.op t.nm t.n a t.ks.len c,.func (.func 104) #[] #[]] w fun e w'=>Below w.heap.size w w' /\
  (aT t<=32->∃ v,e=.returned (.tuple #[v,.bool true])/\l7 (fun b=>w.heap.size<=b) w' t v)/\(¬ aT t<=32->e=.returned (.tuple #[.slice none 0 0,.bool false])):=by
 have BA:=(Below.refl w.heap.size w).alloc (Nat.le_refl _) (ndG t.op t.nm t.n a t.ks.len c);have NB:=heap_alloc_new w (ndG t.op t.nm t.n a t.ks.len c);have hs0:(w.alloc (ndG t.op t.nm t.n a t.ks.len c)).heap.size=w.heap.size+1:=World.size_alloc _ _;generalize hW:w.alloc (ndG t.op t.nm t.n a t.ks.len c)=W at BA NB hs0;have BB:=(Below.refl W.heap.size W).alloc (Nat.le_refl _) (.cells #[.int .i64 32] 3);have NC:=heap_alloc_new W (.cells #[.int .i64 32] 3);have hs1:(W.alloc (.cells #[.int .i64 32] 3)).heap.size=w.heap.size+2:=by rw [World.size_alloc];omega
 generalize hV:W.alloc (.cells #[.int .i64 32] 3)=V at BB NC hs1;rw [hs0] at NC;have BV:=BA.trans (BB.mono (by omega));have N2:=(BB.block w.heap.size (by omega)).trans NB;have hGlt:=hr.imp (H:=fun b=>G b/\b<w.heap.size) (fun b hb hg=>⟨hg,hb⟩);have CF:=aA (EH t (fun b=>G b/\b<w.heap.size) (w.heap.size+1) V a c 32 (by omega) hpre (fun b hg=>by omega) (wdL (hwd (w.heap.size+1) (by omega)) (aF BV (fun _=>False) |>.mono (fun _ h _=>h.elim):aE (· = w.heap.size+1) w V)) (hGlt.keptS (aF BV (fun _=>False)) (fun _ h=>h.elim)) NC);have HW:=aA hW;have HV:=aA hV;have HB:=aA BV;obtain ⟨⟨m0,m1,m2,m3⟩, -⟩:=aK N2;clear hW hV BA NB BB NC BV N2 hGlt hr hpre hwd;go_enter Tryz.func103,Tryz.ntmps103
 go_upto_region 1 with fail
 rw [HW.out];go_upto_region 2 with fail
 rw [HV.out];go_wp2_with fail
 refine CF.out.mono ?_;rintro e w2 ⟨k2,hA, -,hB⟩;have B2:=aA (HB.out.trans (aE.below k2 (B:=w.heap.size) (fun q hq=>by omega) (by omega)));by_cases h32:aT t<=32
 · obtain ⟨v,rfl,hv⟩:=hA h32
   have HR:=aA (kQ hv (H:=fun b=>w.heap.size<=b) (fun b _ hg=>by omega));have H32:=aA h32;clear k2 hA hB hv h32 CF m0 m1 m2 m3;go_wp2_with fail
   go_ret2;exact ⟨B2.out,fun _=>⟨v,rfl,HR.out⟩,fun h=>absurd H32.out h⟩
 · obtain rfl:=hB h32
   have H32:=aA h32;clear k2 hA hB h32 CF m0 m1 m2 m3;go_wp2_with fail
   go_ret2;exact ⟨B2.out,fun h=>absurd h H32.out,fun _=>rfl⟩
end
section
open Go.RowKit
theorem Fo (x y:TN) (qa qb:Option Addr×Nat) (w:World) :
 Calls Tryz.prog 106 #[bB x.op x.nm x.n qa.1 x.ks.len qa.2,bB y.op y.nm y.n qb.1 y.ks.len qb.2] w fun e w'=>e=.returned (.bool (l6 x y))/\Below w.heap.size w w':=by
 have BA:=aA (((Below.refl w.heap.size w).alloc (Nat.le_refl _) (ndG x.op x.nm x.n qa.1 x.ks.len qa.2)).alloc (by rw [World.size_alloc];omega) (ndG y.op y.nm y.n qb.1 y.ks.len qb.2));unfold l6;rw [<- Lib.toList_data, <- Lib.toList_data];cases h0:(x.op.toList == y.op.toList) with
 | false =>
   have b0:(x.op.toList != y.op.toList)=true:=by rw [bne,h0];rfl
   rw [Bool.false_and];go_enter Tryz.func106,Tryz.ntmps106
   go_wp2_with fail
   go_ret;exact ⟨rfl,BA.out⟩
 | true =>
   have b0:(x.op.toList != y.op.toList)=false:=by rw [bne,h0];rfl
   rw [Bool.true_and];cases h1:bY x.op with
   | true =>
     have g1:=bT h1;unfold l5 at g1;rw [if_pos rfl];clear h1;go_enter Tryz.func106,Tryz.ntmps106
     go_wp2_with fail
     go_ret;exact ⟨rfl,BA.out⟩
   | false =>
     have g1:=aM h1;unfold l5 at g1;rw [if_neg (by decide)];cases h2:bN x.op with
     | true =>
       have g2:=bT h2;unfold iQ at g2;rw [if_pos rfl, <- Lib.toList_data, <- Lib.toList_data];clear h1 h2;go_enter Tryz.func106,Tryz.ntmps106
       go_wp2_with fail
       go_ret;exact ⟨rfl,BA.out⟩
     | false =>
       have g2:=aM h2;unfold iQ at g2;rw [if_neg (by decide)]
       have E:=aA (show ((x.ks.len:Int) == (y.ks.len:Int))=(x.ks.len == y.ks.len) by
        by_cases h:x.ks.len=y.ks.len
        · rw [h,beq_self_eq_true,beq_self_eq_true]
        · have:(x.ks.len:Int) ≠ y.ks.len:=by omega
          rw [beq_eq_false_iff_ne.2 h,beq_eq_false_iff_ne.2 this])
       clear h1 h2;go_enter Tryz.func106,Tryz.ntmps106
       go_wp2_with fail
       go_ret;exact ⟨congrArg (fun b=>Ending.returned (.bool b)) E.out,BA.out⟩
theorem Da:∀ (l:List TN) (q:List (Option Addr×Nat)) {k:Nat} (_:q.length=l.length) (hk:k<l.length),∃ p,q[k]? = some p/\∀ i u,(ndL l[k] p)[i]? = some u->i<4->(eR l q)[k*4+i]? = some u
 | [],_,_,_,hk=>by simp at hk
 | _::_,[],_,h,_=>by simp at h
 | t :: r, q :: s, 0, _, _ => ⟨q, rfl, fun i u hu hi => by
     rw [eR,Nat.zero_mul,Nat.zero_add,List.getElem?_append_left (by exact hi)];exact hu⟩
 | t :: r, q :: s, k + 1, h, hk => by
   obtain ⟨p,h1,h2⟩:=Da r s (k:=k) (by simpa using h) (by simpa using hk);refine ⟨p,h1,fun i u hu hi=>?_⟩;rw [eR,List.getElem?_append_right (by show 4<=_;omega),show (k+1)*4+i-(ndL t q).length=k*4+i by show (k+1)*4+i-4=_;omega];exact h2 i u hu hi
def rX (w:World) (b off:Nat) (l:List TN):Prop:=b<w.heap.size/\∃ qs:List (Option Addr×Nat),qs.length=l.length/\∀ j u,(eR l qs)[j]? = some u->w.cell? ⟨b,off+j,none⟩=some u
theorem rX.below {w w':World} {b off:Nat} {l:List TN} (h:rX w b off l) (hb:Below w.heap.size w w'):rX w' b off l :=
 ⟨Nat.lt_of_lt_of_le h.1 hb.size,h.2.imp fun _ hq=>⟨hq.1,fun j u hj=>(hb.cell (p:=⟨b,off+j,none⟩) h.1).trans (hq.2 j u hj)⟩⟩
theorem rX.node {w:World} {b off:Nat} {l:List TN} (h:rX w b off l) {k:Nat} (hk:k<l.length):∃ p:Option Addr×Nat,w.cell? ⟨b,off+k*4,none⟩=some (.string l[k].op)/\w.cell? ⟨b,off+k*4+1,none⟩=some (.string l[k].nm)/\w.cell? ⟨b,off+k*4+2,none⟩=some (.int .i64 l[k].n)/\w.cell? ⟨b,off+k*4+3,none⟩=some (.slice p.1 l[k].ks.len p.2):=by
 obtain ⟨hb,qs,hq,hc⟩:=h;obtain ⟨p,_,h2⟩:=Da l qs hq hk;exact ⟨p,hc (k*4) _ (h2 0 _ rfl (by omega)),hc (k*4+1) _ (h2 1 _ rfl (by omega)),hc (k*4+2) _ (h2 2 _ rfl (by omega)),hc (k*4+3) _ (h2 3 _ rfl (by omega))⟩
theorem all_cons {a b:TN} {x y:List TN}:dY (a::x) (b::y)=(l6 a b && dY x y):=rfl
theorem Hl:∀ {x y:List TN},x.length ≠ y.length->dY x y=false
 | [],[],h=>absurd rfl h
 | [],_::_,_=>rfl
 | _::_,[],_=>rfl
 | a::x,b::y,h=>by rw [all_cons,Hl (by simpa using h),Bool.and_false]
theorem uW (la lb:List TN) (b1 o1 c1 b2 o2 c2:Nat) (hla:la.length<=1000) (w:World) (h1:rX w b1 o1 la) (h2:rX w b2 o2 lb) :
 Calls Tryz.prog 105 #[.slice (some ⟨b1,o1,none⟩) la.length c1,.slice (some ⟨b2,o2,none⟩) lb.length c2,.func (.func 106) #[] #[]] w fun e w'=>e=.returned (.bool (dY la lb))/\Below w.heap.size w w':=by
 have H1:=aA h1;have H2:=aA h2;have B0:=aA (Below.refl w.heap.size w);clear h1 h2;by_cases hl:la.length=lb.length
 · have a1:((la.length:Int) != (lb.length:Int))=false:=by rw [hl];simp
   obtain ⟨r,hr⟩:∃ r,dY la lb=r:=⟨_,rfl⟩;rw [hr];have HRr:=aA hr;have HL:=aA hl;have hlb:lb.length<=1000:=by omega
   clear hr hl;go_enter Tryz.func105,Tryz.ntmps105
   go_wp2_with fail
   go_loopw [17] (fun i wr=>∃ k:Nat,i=.int .i64 k/\k<=la.length/\Hid (dY (la.drop k) (lb.drop k)=r)/\Hid (Below w.heap.size w wr)) (fun i _=>la.length-(intOf i).toNat)
   case atStart=>exact ⟨0,rfl,Nat.zero_le _,HRr,B0⟩
   case round =>
    obtain ⟨k,rfl,hk,hD,hB⟩:=hrel;by_cases hlt:k<la.length
    · have hlt2:k<lb.length:=by have:=HL.out;omega
      obtain ⟨pa,x0,x1,x2,x3⟩:=(H1.out.below hB.out).node hlt;have hz:=hB.out.size;have BA1:=(Below.refl wr.heap.size wr).alloc (Nat.le_refl _) (ndG la[k].op la[k].nm la[k].n pa.1 la[k].ks.len pa.2);have NB1:=heap_alloc_new wr (ndG la[k].op la[k].nm la[k].n pa.1 la[k].ks.len pa.2);have hs1:(wr.alloc (ndG la[k].op la[k].nm la[k].n pa.1 la[k].ks.len pa.2)).heap.size=wr.heap.size+1:=World.size_alloc _ _;generalize hV:wr.alloc (ndG la[k].op la[k].nm la[k].n pa.1 la[k].ks.len pa.2)=V at BA1 NB1 hs1;have HBV:=hB.out.trans (BA1.mono (by omega));obtain ⟨pb,y0,y1,y2,y3⟩:=(H2.out.below HBV).node hlt2;have BA2:=(Below.refl V.heap.size V).alloc (Nat.le_refl _) (ndG lb[k].op lb[k].nm lb[k].n pb.1 lb[k].ks.len pb.2);have NB2:=heap_alloc_new V (ndG lb[k].op lb[k].nm lb[k].n pb.1 lb[k].ks.len pb.2);have hs2:(V.alloc (ndG lb[k].op lb[k].nm lb[k].n pb.1 lb[k].ks.len pb.2)).heap.size=wr.heap.size+2:=by rw [World.size_alloc];omega
      generalize hU:V.alloc (ndG lb[k].op lb[k].nm lb[k].n pb.1 lb[k].ks.len pb.2)=U at BA2 NB2 hs2;rw [hs1] at NB2;have N1:=(BA2.block wr.heap.size (by omega)).trans NB1;have HBU:=aA (HBV.trans (BA2.mono (by omega)));have HV:=aA hV;have HU:=aA hU;have CA:=aA (Fo la[k] lb[k] pa pb U);have HD2:=aA (show (l6 la[k] lb[k] && dY (la.drop (k+1)) (lb.drop (k+1)))=r by rw [<- hD.out,List.drop_eq_getElem_cons hlt,List.drop_eq_getElem_cons hlt2,all_cons]);have a2:(k:Int)<(la.length:Int):=by omega
      have a3:(k:Int)<(lb.length:Int):=by omega
      have a4:(0:Int)<=(k:Int):=by omega
      have a5:((k:Int)).toNat=k:=by omega
      generalize la[k]=ta at x0 x1 x2 x3 CA HD2 N1 HV HU;generalize lb[k]=tb at y0 y1 y2 y3 CA HD2 NB2 HU;obtain ⟨⟨m0,m1,m2,m3⟩, -⟩:=aK N1;obtain ⟨⟨n0,n1,n2,n3⟩, -⟩:=aK NB2;obtain ⟨z,hz2⟩:∃ z,l6 ta tb=z:=⟨_,rfl⟩;rw [hz2] at CA HD2;clear hV hU NB1 NB2 N1 BA1 BA2 HBV hz2;go_upto_region 6 with fail
      rw [HV.out];go_upto_region 7 with fail
      rw [HU.out];clear x0 x1 x2 x3 y0 y1 y2 y3;go_wp2_with fail
      refine CA.out.mono ?_;rintro e w3 ⟨rfl,hb3⟩;have B3:=aA (HBU.out.trans (hb3.mono (by omega)));clear hb3 CA m0 m1 m2 m3 n0 n1 n2 n3;cases z with
      | true =>
        have D3:=aA (show dY (la.drop (k+1)) (lb.drop (k+1))=r by have:=HD2.out;rwa [Bool.true_and] at this);go_wp2_with fail
        go_roundw
        case rel=>exact ⟨k+1,by go_num,by omega,D3,B3⟩
        case measure=>simp [intOf];omega
      | false =>
        have D3:=aA (show r=false by have:=HD2.out;rw [Bool.false_and] at this;exact this.symm);go_wp2_with fail
        go_ret;rw [D3.out];exact ⟨rfl,B3.out⟩
    · obtain rfl:k=la.length:=by omega
      have D3:=aA (show r=true by rw [<- hD.out,List.drop_of_length_le (Nat.le_refl _),List.drop_of_length_le (by rw [HL.out];exact Nat.le_refl _)];rfl);go_wp2_with fail
      go_ret;rw [D3.out];exact ⟨rfl,hB.out⟩
 · have a1:((la.length:Int) != (lb.length:Int))=true:=by rw [bne_iff_ne];omega
   rw [Hl hl];go_enter Tryz.func105,Tryz.ntmps105
   go_wp2_with fail
   go_ret;exact ⟨rfl,B0.out⟩
theorem l7.lst {G:Nat->Prop} {w:World} {t:TN} {v:Value} (h:l7 G w t v):∃ b off c,v=.slice (some ⟨b,off,none⟩) (bZ t.f).length c/\rX w b off (bZ t.f):=by
 obtain ⟨b,off,c,qs,h1,_,h3,h4,h5⟩:=h.h;exact ⟨b,off,c,h1,h3,qs,h4,h5⟩
theorem nK (x y:TN) (G G':Nat->Prop) (w:World) (a a':Option Addr) (c c':Nat) (hx:OkT x) (hnx:eV x.f) (hsx:aT x<=32) (hy:OkT y) (hny:eV y.f) (hsy:aT y<=32) (hrx:aH G w a x.ks) (hry:aH G' w a' y.ks) :
 Calls Tryz.prog 54 #[bB x.op x.nm x.n a x.ks.len c,bB y.op y.nm y.n a' y.ks.len c'] w fun e w'=>e=.returned (.bool (cN x y))/\Below w.heap.size w w':=by
 have BA:=(Below.refl w.heap.size w).alloc (Nat.le_refl _) (ndG x.op x.nm x.n a x.ks.len c);have NB:=heap_alloc_new w (ndG x.op x.nm x.n a x.ks.len c);have hs0:(w.alloc (ndG x.op x.nm x.n a x.ks.len c)).heap.size=w.heap.size+1:=World.size_alloc _ _;generalize hV:w.alloc (ndG x.op x.nm x.n a x.ks.len c)=V at BA NB hs0;have BB:=(Below.refl V.heap.size V).alloc (Nat.le_refl _) (ndG y.op y.nm y.n a' y.ks.len c');have NC:=heap_alloc_new V (ndG y.op y.nm y.n a' y.ks.len c');have hs1:(V.alloc (ndG y.op y.nm y.n a' y.ks.len c')).heap.size=w.heap.size+2:=by rw [World.size_alloc];omega
 generalize hU:V.alloc (ndG y.op y.nm y.n a' y.ks.len c')=U at BB NC hs1;rw [hs0] at NC;have N1:=(BB.block w.heap.size (by omega)).trans NB;have BU:=BA.trans (BB.mono (by omega));have PX:Ct x:=⟨Bl x hx hnx,by omega⟩;have PY:Ct y:=⟨Bl y hy hny,by omega⟩;have C1:=aA (wD x G U a c PX (fun _ _=>trivial) (hrx.kept BU));have RY:=aA (hry.kept BU);have HPY:=aA PY;have HS:=aA (DU hx hy);have hpl:(bZ x.f).length<=1000:=by have:=pT x.f;rw [jE] at this;omega
 have HX:=aA hsx;have HY:=aA hsy;have HV:=aA hV;have HU:=aA hU;have HB:=aA BU;have HNC:=aA NC;obtain ⟨⟨m0,m1,m2,m3⟩, -⟩:=aK N1;clear hV hU BA NB BB NC N1 BU PX PY hx hnx hy hny hrx hry hsx hsy;go_enter Tryz.func54,Tryz.ntmps54
 go_upto_region 1 with fail
 rw [HV.out,HU.out];go_wp2_with fail
 refine C1.out.mono ?_;rintro e w2 ⟨hb2,hA, -⟩;obtain ⟨v,rfl,hv⟩:=hA HX.out;obtain ⟨b1,o1,c1,rfl,L1⟩:=hv.lst;have HL1:=aA L1;have hz2:=hb2.size;have B2:=aA (HB.out.trans (hb2.mono (by omega)));have C2:=aA (wD y G' w2 a' c' HPY.out (fun _ _=>trivial) (RY.out.kept hb2));have N2:=(hb2.block _ (by omega)).trans HNC.out;clear m0 m1 m2 m3;obtain ⟨⟨m0,m1,m2,m3⟩, -⟩:=aK N2;clear hb2 hA hv L1 C1 N2;go_wp2_with fail
 refine C2.out.mono ?_;rintro e w3 ⟨hb3,hA, -⟩;obtain ⟨v,rfl,hv⟩:=hA HY.out;obtain ⟨b2,o2,c2,rfl,L2⟩:=hv.lst;have hz3:=hb3.size;have B3:=aA (B2.out.trans (hb3.mono (by omega)));have CE:=aA (uW (bZ x.f) (bZ y.f) b1 o1 c1 b2 o2 c2 hpl w3 (HL1.out.below hb3) L2);rw [HS.out] at CE;clear hb3 hA hv L2 C2 m0 m1 m2 m3;go_wp2_with fail
 refine CE.out.mono ?_;rintro e w4 ⟨rfl,hb4⟩;have B4:=aA (B3.out.trans (hb4.mono (by omega)));clear hb4 CE;go_wp2_with fail
 go_ret;exact ⟨rfl,B4.out⟩
end
section
open Go.RowKit
def t9:TN:=eI [43] (dO [97]) (eI [42] (mR 2) (oD (eI [45] (dO [98]) (mR 1))))
def oM (w:World):Prop:=iJ w/\j6 w
theorem j6.step {w w':World} (h:j6 w) (hb:Below w.heap.size w w'):j6 w':=by
 obtain ⟨t,f,h1⟩:=h;exact ⟨t,f,(hb.block _ (Array.getElem?_eq_some_iff.1 h1).1).trans h1⟩
theorem oM.step {w w':World} (h:oM w) (hb:Below w.heap.size w w'):oM w':=⟨h.1.step hb,h.2.step hb⟩
structure K9 (w:World) (n:Nat) (a:Option Addr) (c:Nat) (V:World):Prop where
 b:Below w.heap.size w V
 n:V.heap[n]? = some (ndG ⟨#[43]⟩ ⟨#[]⟩ 0 a 2 c)
 r:a7 w.heap.size V a t9.ks
 l:oM V
 z:w.heap.size<=V.heap.size
end
section
open Go.RowKit
def sB (i:Nat):UInt8:=if i=0 then 43 else if i=1 then 45 else if i=2 then 42 else if i=3 then 47 else 37
def JZ (i j:Nat):Bool:=decide (i<2) && decide (2<=j)
def nR (i j:Nat):TN:=eI [sB i] (dO [97]) (eI [sB j] (dO [98]) (dO [99]))
def nL (i j:Nat):TN:=eI [sB j] (eI [sB i] (dO [97]) (dO [98])) (dO [99])
def n1 (i j:Nat):TN:=if JZ i j=true then nR i j else nL i j
end
section
open Go.RowKit
abbrev Bd (B b:Nat) (bs:List Value) (w:World):Prop:=Lib.IsBuilder 112 5 B b bs w
end
def pD (o:ByteArray) (a b:Int):Option Int :=
 if o.data.toList == [43] then some (dK (a+b))
 else if o.data.toList == [45] then some (dK (a-b))
 else if o.data.toList == [42] then some (dK (a*b))
 else if o.data.toList == [47] then (if b=0 then none else some (dK (a.tdiv b)))
 else (if b=0 then none else some (a.tmod b))
def evN (g:ByteArray->Option Int) (o m:ByteArray) (n:Int) (vs:List (Option Int)):Option Int :=
 if bY o then some n else if bN o then g m else if fP o then (vs.getD 0 none).map (fun a=>dK (0-a))
 else match vs.getD 0 none,vs.getD 1 none with
  | some a,some b=>pD o a b
  | _,_=>none
def evF (g:ByteArray->Option Int):F->List (Option Int)
 | .nil=>[]
 | .cons o m n ks r=>evN g o m n (evF g ks)::evF g r
def evT (g:ByteArray->Option Int) (t:TN):Option Int:=evN g t.op t.nm t.n (evF g t.ks)
theorem G5 (g:ByteArray->Option Int) {o m:ByteArray} {n:Int} {ks:F} (h:bY o=true):evT g ⟨o,m,n,ks⟩=some n:=by
 unfold evT evN;rw [if_pos h]
theorem Dj (g:ByteArray->Option Int) {o m:ByteArray} {n:Int} {ks:F} (h:bY o=false) (h2:bN o=true):evT g ⟨o,m,n,ks⟩=g m:=by
 unfold evT evN;rw [if_neg (by simp [h]),if_pos h2]
theorem G6 (g:ByteArray->Option Int) {o m:ByteArray} {n:Int} (a:TN) (h:bY o=false) (h2:bN o=false) (h3:fP o=true):evT g ⟨o,m,n,a.f⟩=(evT g a).map (fun x=>dK (0-x)):=by
 unfold evT evN;rw [if_neg (by simp [h]),if_neg (by simp [h2]),if_pos h3];rfl
theorem G4 (g:ByteArray->Option Int) {o m:ByteArray} {n:Int} (a b:TN) (h:bY o=false) (h2:bN o=false) (h3:fP o=false) :
 evT g ⟨o,m,n,.cons a.op a.nm a.n a.ks b.f⟩=match evT g a,evT g b with | some x,some y=>pD o x y | _,_=>none:=by
 unfold evT evN;rw [if_neg (by simp [h]),if_neg (by simp [h2]),if_neg (by simp [h3])];rfl
theorem yT {c b:Int} (h:0<=c):0<=c.tmod b/\c.tmod b<=c:=by
 refine ⟨Int.tmod_nonneg b h,?_⟩;have h1:(c.tmod b).natAbs<=c.natAbs:=by rw [Int.natAbs_tmod];exact Nat.mod_le _ _
 have h2:=Int.tmod_nonneg b h;omega
theorem If {a:Int} (b:Int) (ha:bQ a):bQ (a.tmod b):=by
 unfold bQ at ha |-
 rcases Int.le_total 0 a with h | h
 · have:=yT (b:=b) h
   omega
 · have h1:=yT (c:= -a) (b:=b) (by omega)
   rw [Int.neg_tmod] at h1;omega
theorem Hk {o:ByteArray} {a b v:Int} (ha:bQ a) (h:pD o a b=some v):bQ v:=by
 unfold pD at h;split at h
 · cases h;exact lD _
 split at h
 · cases h;exact lD _
 split at h
 · cases h;exact lD _
 split at h
 · split at h
   · cases h
   · cases h;exact lD _
 · split at h
   · cases h
   · cases h;exact If b ha
theorem Dl (o:ByteArray) (x:List UInt8):(o.toList == x)=decide (o=⟨x.toArray⟩):=by
 rw [Lib.toList_data];by_cases h:o=⟨x.toArray⟩
 · subst h;simp
 · rw [decide_eq_false h]
   rw [beq_eq_false_iff_ne];intro e;exact h (gW (by simpa using e))
theorem fT {o:ByteArray} {x:List UInt8} (h:o=⟨x.toArray⟩):(o.toList == x)=true:=by rw [Dl];exact decide_eq_true h
theorem bO {o:ByteArray} {x:List UInt8} (h:¬ o=⟨x.toArray⟩):(o.toList == x)=false:=by rw [Dl];exact decide_eq_false h
def aX (o:ByteArray) (a b:Int):Option Bool :=
 if o=⟨#[61]⟩ then some (a == b) else if o=⟨#[33,61]⟩ then some (a != b) else if o=⟨#[60]⟩ then some (decide (a<b))
 else if o=⟨#[60,61]⟩ then some (decide (a<=b)) else if o=⟨#[62]⟩ then some (decide (b<a)) else if o=⟨#[62,61]⟩ then some (decide (b<=a)) else none
theorem tH (o:ByteArray) (a b:Int) (w:World):Calls Tryz.prog 142 #[.string o,.int .i64 a,.int .i64 b] w fun e w'=>e=.returned (.tuple #[.bool ((aX o a b).getD false),.bool (aX o a b).isSome])/\w=w':=by
 by_cases h0:o=⟨#[61]⟩
 · have g0:=fT (x:=[61]) h0
   unfold aX;rw [if_pos h0];clear h0;go_enter Tryz.func142,Tryz.ntmps142
   go_wp2_with fail
   go_ret2;exact ⟨rfl,rfl⟩
 · by_cases h1:o=⟨#[33,61]⟩
   · have g0:=bO (x:=[61]) h0
     have g1:=fT (x:=[33,61]) h1;unfold aX;rw [if_neg h0];rw [if_pos h1];clear h0 h1;go_enter Tryz.func142,Tryz.ntmps142
     go_wp2_with fail
     go_ret2;exact ⟨rfl,rfl⟩
   · by_cases h2:o=⟨#[60]⟩
     · have g0:=bO (x:=[61]) h0
       have g1:=bO (x:=[33,61]) h1;have g2:=fT (x:=[60]) h2;unfold aX;rw [if_neg h0];rw [if_neg h1];rw [if_pos h2];clear h0 h1 h2;go_enter Tryz.func142,Tryz.ntmps142
       go_wp2_with fail
       go_ret2;exact ⟨rfl,rfl⟩
     · by_cases h3:o=⟨#[60,61]⟩
       · have g0:=bO (x:=[61]) h0
         have g1:=bO (x:=[33,61]) h1;have g2:=bO (x:=[60]) h2;have g3:=fT (x:=[60,61]) h3;unfold aX;rw [if_neg h0];rw [if_neg h1];rw [if_neg h2];rw [if_pos h3];clear h0 h1 h2 h3;go_enter Tryz.func142,Tryz.ntmps142
         go_wp2_with fail
         go_ret2;exact ⟨rfl,rfl⟩
       · by_cases h4:o=⟨#[62]⟩
         · have g0:=bO (x:=[61]) h0
           have g1:=bO (x:=[33,61]) h1;have g2:=bO (x:=[60]) h2;have g3:=bO (x:=[60,61]) h3;have g4:=fT (x:=[62]) h4;unfold aX;rw [if_neg h0];rw [if_neg h1];rw [if_neg h2];rw [if_neg h3];rw [if_pos h4];clear h0 h1 h2 h3 h4;go_enter Tryz.func142,Tryz.ntmps142
           go_wp2_with fail
           go_ret2;exact ⟨rfl,rfl⟩
         · by_cases h5:o=⟨#[62,61]⟩
           · have g0:=bO (x:=[61]) h0
             have g1:=bO (x:=[33,61]) h1;have g2:=bO (x:=[60]) h2;have g3:=bO (x:=[60,61]) h3;have g4:=bO (x:=[62]) h4;have g5:=fT (x:=[62,61]) h5;unfold aX;rw [if_neg h0];rw [if_neg h1];rw [if_neg h2];rw [if_neg h3];rw [if_neg h4];rw [if_pos h5];clear h0 h1 h2 h3 h4 h5;go_enter Tryz.func142,Tryz.ntmps142
             go_wp2_with fail
             go_ret2;exact ⟨rfl,rfl⟩
           · have g0:=bO (x:=[61]) h0
             have g1:=bO (x:=[33,61]) h1;have g2:=bO (x:=[60]) h2;have g3:=bO (x:=[60,61]) h3;have g4:=bO (x:=[62]) h4;have g5:=bO (x:=[62,61]) h5;unfold aX;rw [if_neg h0];rw [if_neg h1];rw [if_neg h2];rw [if_neg h3];rw [if_neg h4];rw [if_neg h5];clear h0 h1 h2 h3 h4 h5;go_enter Tryz.func142,Tryz.ntmps142
             go_wp2_with fail
             go_ret2;exact ⟨rfl,rfl⟩
theorem jJ (o:ByteArray) (a b:Int) (w:World):Calls Tryz.prog 40 #[.string o,.int .i64 a,.int .i64 b] w fun e w'=>e=.returned (.tuple #[.bool ((aX o a b).getD false),.bool (aX o a b).isSome])/\w=w':=by
 by_cases h0:o=⟨#[61]⟩
 · have g0:=fT (x:=[61]) h0
   unfold aX;rw [if_pos h0];clear h0;go_enter Tryz.func40,Tryz.ntmps40
   go_wp2_with fail
   go_ret2;exact ⟨rfl,rfl⟩
 · by_cases h1:o=⟨#[33,61]⟩
   · have g0:=bO (x:=[61]) h0
     have g1:=fT (x:=[33,61]) h1;unfold aX;rw [if_neg h0];rw [if_pos h1];clear h0 h1;go_enter Tryz.func40,Tryz.ntmps40
     go_wp2_with fail
     go_ret2;exact ⟨rfl,rfl⟩
   · by_cases h2:o=⟨#[60]⟩
     · have g0:=bO (x:=[61]) h0
       have g1:=bO (x:=[33,61]) h1;have g2:=fT (x:=[60]) h2;unfold aX;rw [if_neg h0];rw [if_neg h1];rw [if_pos h2];clear h0 h1 h2;go_enter Tryz.func40,Tryz.ntmps40
       go_wp2_with fail
       go_ret2;exact ⟨rfl,rfl⟩
     · by_cases h3:o=⟨#[60,61]⟩
       · have g0:=bO (x:=[61]) h0
         have g1:=bO (x:=[33,61]) h1;have g2:=bO (x:=[60]) h2;have g3:=fT (x:=[60,61]) h3;unfold aX;rw [if_neg h0];rw [if_neg h1];rw [if_neg h2];rw [if_pos h3];clear h0 h1 h2 h3;go_enter Tryz.func40,Tryz.ntmps40
         go_wp2_with fail
         go_ret2;exact ⟨rfl,rfl⟩
       · by_cases h4:o=⟨#[62]⟩
         · have g0:=bO (x:=[61]) h0
           have g1:=bO (x:=[33,61]) h1;have g2:=bO (x:=[60]) h2;have g3:=bO (x:=[60,61]) h3;have g4:=fT (x:=[62]) h4;unfold aX;rw [if_neg h0];rw [if_neg h1];rw [if_neg h2];rw [if_neg h3];rw [if_pos h4];clear h0 h1 h2 h3 h4;go_enter Tryz.func40,Tryz.ntmps40
           go_wp2_with fail
           go_ret2;exact ⟨rfl,rfl⟩
         · by_cases h5:o=⟨#[62,61]⟩
           · have g0:=bO (x:=[61]) h0
             have g1:=bO (x:=[33,61]) h1;have g2:=bO (x:=[60]) h2;have g3:=bO (x:=[60,61]) h3;have g4:=bO (x:=[62]) h4;have g5:=fT (x:=[62,61]) h5;unfold aX;rw [if_neg h0];rw [if_neg h1];rw [if_neg h2];rw [if_neg h3];rw [if_neg h4];rw [if_pos h5];clear h0 h1 h2 h3 h4 h5;go_enter Tryz.func40,Tryz.ntmps40
             go_wp2_with fail
             go_ret2;exact ⟨rfl,rfl⟩
           · have g0:=bO (x:=[61]) h0
             have g1:=bO (x:=[33,61]) h1;have g2:=bO (x:=[60]) h2;have g3:=bO (x:=[60,61]) h3;have g4:=bO (x:=[62]) h4;have g5:=bO (x:=[62,61]) h5;unfold aX;rw [if_neg h0];rw [if_neg h1];rw [if_neg h2];rw [if_neg h3];rw [if_neg h4];rw [if_neg h5];clear h0 h1 h2 h3 h4 h5;go_enter Tryz.func40,Tryz.ntmps40
             go_wp2_with fail
             go_ret2;exact ⟨rfl,rfl⟩
structure CD where
 op:ByteArray
 a:TN
 b:TN
structure AG where
 fn:ByteArray
 k:Int
 e:TN
 g:TN
 wh:List CD
def aQ:List UInt8:=[99,111,117,110,116]
def mH:List UInt8:=[109,105,110]
def oO:List UInt8:=[109,97,120]
def mG:List UInt8:=[115,117,109]
def aW:List UInt8:=[102,105,114,115,116]
def cQ:List UInt8:=[116,111,112]
def fU:List UInt8:=[119,104,101,114,101]
def oP:List UInt8:=[97,110,100]
def dM (x:List UInt8):Bool:=x == aQ || x == mH || x == oO || x == mG || x == aW || x == cQ
def aU (L:List Tk) (x:List UInt8) (s:RS):RS:=if s.bad=0 then (if isS L x s.pos then aO s else aR 2 s) else s
def a8 (L:List Tk) (s:RS):TN×RS:=if s.bad=0 then (match ofL L s.pos with | .ok t q=>(t,⟨q,s.cnt,0,s.whr⟩) | .bad p e=>(aD,⟨p,s.cnt,e,p⟩)) else (aD,s)
def dU (L:List Tk) (x:List UInt8) (p:Nat):Bool:=match L[p]? with | some t=>t.kind == 1 && t.text == x | none=>false
def jY (L:List Tk) (s:RS):Int×RS :=
 if s.bad=0 then (match L[s.pos]? with
  | some t=>if t.kind=2 then (t.num,if t.num<1\/16<t.num then aO (aR 1 s) else aO s) else (0,aR 2 s)
  | none=>(0,aR 2 s)) else (0,s)
def bG (L:List Tk) (fn:List UInt8) (s:RS):(Int×TN×TN)×RS :=
 if fn=aQ then ((0,aD,aD),s) else
 let p:=if fn=cQ then ((jY L s).1,aU L [44] (jY L s).2) else (0,s)
 let e:=a8 L p.2
 if fn=aW then (let g:=a8 L (aU L [44] e.2);((p.1,e.1,g.1),g.2)) else ((p.1,e.1,aD),e.2)
def opB (L:List Tk) (p:Nat):Bool:=match L[p]? with | some t=>(aX ⟨t.text.toArray⟩ 0 0).isSome | none=>false
def cE (L:List Tk) (s:RS):CD×RS :=
 let a:=a8 L s
 if a.2.bad=0 then
  if opB L a.2.pos=true then (let b:=a8 L (aO a.2);(⟨⟨(dQ L a.2.pos).toArray⟩,a.1,b.1⟩,b.2))
  else (⟨⟨#[]⟩,a.1,aD⟩,aR 2 a.2)
 else (⟨⟨#[]⟩,a.1,aD⟩,a.2)
def eU (L:List Tk):Nat->List CD->RS->List CD×RS
 | 0,acc,s=>(acc,s)
 | f + 1, acc, s => if acc.length = 4 then (acc, aR 4 s) else
   let c:=cE L (aO s)
   if (c.2.bad == 0 && dU L oP c.2.pos)=true then eU L f (acc++[c.1]) c.2 else (acc++[c.1],c.2)
inductive mA | bad (p:Nat) (e:Int) | ok (a:AG)
def agL (L:List Tk):mA :=
 match L[0]? with
 | none=>.bad 0 2
 | some t =>
   if ¬ t.kind=1 then .bad 0 2 else
   if dM t.text=false then .bad 0 5 else
   let s1:=aU L [40] ⟨1,0,0,0⟩
   if ¬ s1.bad=0 then .bad s1.whr s1.bad else
   let r:=bG L t.text s1
   let s3:=aU L [41] r.2
   if ¬ s3.bad=0 then .bad s3.whr s3.bad else
   if L.length<=s3.pos then .ok ⟨⟨t.text.toArray⟩,r.1.1,r.1.2.1,r.1.2.2,[]⟩ else
   if dU L fU s3.pos=false then .bad s3.pos 2 else
   let c:=eU L 5 [] s3
   if ¬ c.2.bad=0 then .bad c.2.whr c.2.bad else
   if c.2.pos<L.length then .bad c.2.pos 2 else .ok ⟨⟨t.text.toArray⟩,r.1.1,r.1.2.1,r.1.2.2,c.1⟩
def agX (l:List UInt8):mA:=match fJ l with
 | .bad p e=>.bad p e
 | .ok L => match agL L with
   | .bad p e=>.bad (eD l.length L p) e
   | .ok a=>.ok a
def c7:List CD->Int
 | []=>0
 | c::r=>if (aX c.op 0 0).isSome=false then 5 else if aL c.a=0 then (if aL c.b=0 then c7 r else aL c.b) else aL c.a
def gT (a:AG):Int:=if a.fn.data.toList=aQ then 0 else if aL a.e=0 then (if a.fn.data.toList=aW then aL a.g else 0) else aL a.e
def jT (a:AG):Int :=
 if dM a.fn.data.toList=false then 5 else
 if a.fn.data.toList=cQ/\(a.k<1\/16<a.k) then 1 else
 if gT a=0 then (if 4<a.wh.length then 4 else c7 a.wh) else gT a
def eX:List CD->List CD->Bool
 | [],[]=>true
 | c::r,d::q=>(c.op.toList == d.op.toList) && cN c.a d.a && cN c.b d.b && eX r q
 | _,_=>false
def mO (a b:AG):Bool :=
 (a.fn.toList == b.fn.toList) && !((a.fn.data.toList == cQ) && a.k != b.k) && !((a.fn.data.toList != aQ) && !cN a.e b.e) && !((a.fn.data.toList == aW) && !cN a.g b.g) && (a.wh.length == b.wh.length) && eX a.wh b.wh
def oF:List CD->List UInt8
 | []=>[]
 | c::r=>[32,97,110,100,32]++(bU c.a++32::(c.op.data.toList++32::bU c.b))++oF r
def yW:List CD->List UInt8
 | []=>[]
 | c::r=>[32,119,104,101,114,101,32]++(bU c.a++32::(c.op.data.toList++32::bU c.b))++oF r
def sT (a:AG):List UInt8 :=
 if a.fn.data.toList=aQ then [] else
 if a.fn.data.toList=cQ then Lib.itoa a.k++44::32::bU a.e else
 if a.fn.data.toList=aW then bU a.e++44::32::bU a.g else bU a.e
def yX (a:AG):List UInt8:=a.fn.data.toList++40::(sT a++41::yW a.wh)
theorem e7 {L:List Tk} {x:List UInt8} {s:RS} (h:¬ s.bad=0):aU L x s=s:=if_neg h
theorem e9 {L:List Tk} {s:RS} (h:¬ s.bad=0):a8 L s=(aD,s):=if_neg h
def kP (x:List UInt8):Bool:=x == cQ
def bP (x:List UInt8):Bool:=x == aW
def eP (x:List UInt8):Bool:=dM x && !(x == aQ)
def bM (L:List Tk) (p:Nat):Tk:=(L[p]?).getD ⟨0,[],0,0⟩
def atR (s:RS):Nat:=if s.bad=0 then s.pos else s.whr
def bW (so:Bool) (e:Int) (s:RS):RS:=if so=true then s else aR e s
def goR (s:RS):RS:=if s.bad=0 then aO s else s
theorem jX {s:RS} (h:s.bad=0):atR s=s.pos:=if_pos h
theorem pB {s:RS} (h:¬ s.bad=0):atR s=s.whr:=if_neg h
theorem nX {e:Int} {s:RS} (h:¬ s.bad=0):aR e s=s:=if_neg h
theorem Jc (e:Int) (he:¬ e=0) (s:RS):atR (aR e s)=atR s:=by
 unfold aR;by_cases h:s.bad=0
 · rw [if_pos h,jX h,pB he]
 · rw [if_neg h]
theorem Ar {s:RS} (h:s.bad=0):goR s=aO s:=if_pos h
theorem fW {s:RS} (h:¬ s.bad=0):goR s=s:=if_neg h
theorem jQ (e:Int) (s:RS):bW true e s=s:=rfl
theorem gG (e:Int) (s:RS):bW false e s=aR e s:=rfl
theorem I7 (L:List Tk) (x:List UInt8) (p:Nat):isS L x p=((bM L p).kind == 3 && (bM L p).text == x):=by
 unfold isS bM;cases L[p]? with
 | none=>rfl
 | some t=>rfl
theorem Fp (L:List Tk) (x:List UInt8) (p:Nat):dU L x p=((bM L p).kind == 1 && (bM L p).text == x):=by
 unfold dU bM;cases L[p]? with
 | none=>rfl
 | some t=>rfl
theorem Ik (L:List Tk) (x:List UInt8) (s:RS):goR (bW ((bM L (atR s)).kind == 3 && (bM L (atR s)).text == x) 2 s)=aU L x s:=by
 unfold aU;by_cases h:s.bad=0
 · rw [if_pos h,jX h, <- I7]
   cases hs:isS L x s.pos with
   | true=>rw [jQ,Ar h,if_pos rfl]
   | false =>
     rw [gG,if_neg (by decide)];refine fW ?_;unfold aR;rw [if_pos h];show ¬ (2:Int)=0;decide
 · rw [if_neg h]
   have:bW ((bM L (atR s)).kind == 3 && (bM L (atR s)).text == x) 2 s=s:=by
    unfold bW;split
    · rfl
    · exact nX h
   rw [this,fW h]
def pI (L:List Tk) (s:RS):RS:=goR (bW (decide (1<=(bM L (atR s)).num) && decide ((bM L (atR s)).num<=16)) 1 (bW ((bM L (atR s)).kind == 2) 2 s))
theorem gH {so:Bool} {e:Int} {s:RS} (h:¬ s.bad=0):bW so e s=s:=by
 unfold bW;split
 · rfl
 · exact nX h
theorem dA {e:Int} (he:¬ e=0) {s:RS} (h:s.bad=0):¬ (aR e s).bad=0:=by unfold aR;rw [if_pos h];exact he
def mE (s t:RS):Prop:=atR s=atR t/\s.bad=t.bad
theorem mE.refl (s:RS):mE s s:=⟨rfl,rfl⟩
theorem FB (L:List Tk) (s:RS):mE (pI L s) (jY L s).2/\((pI L s).bad=0->pI L s=(jY L s).2/\(jY L s).1=(bM L (atR s)).num):=by
 unfold pI jY;by_cases h:s.bad=0
 · rw [if_pos h,jX h]
   unfold bM;cases ht:L[s.pos]? with
   | none =>
     have e:bW ((none.getD (⟨0,[],0,0⟩:Tk)).kind == 2) 2 s=aR 2 s:=rfl;rw [e,gH (dA (by decide) h),fW (dA (by decide) h)];exact ⟨mE.refl _,fun h'=>absurd h' (dA (by decide) h)⟩
   | some t =>
     show mE (goR (bW (decide (1<=t.num) && decide (t.num<=16)) 1 (bW (t.kind == 2) 2 s))) _/\_;by_cases hk:t.kind=2
     · have e:(t.kind == 2)=true:=by rw [hk];rfl
       simp only [Option.getD_some];rw [e,jQ];try simp only
       rw [if_pos hk];by_cases hn:t.num<1\/16<t.num
       · have e2:(decide (1<=t.num) && decide (t.num<=16))=false:=by
          rcases hn with hn | hn
          · rw [decide_eq_false (by omega),Bool.false_and]
          · rw [decide_eq_false (p:=t.num<=16) (by omega),Bool.and_false]
         rw [e2,gG,fW (dA (by decide) h)];try simp only
         rw [if_pos hn];refine ⟨⟨?_,rfl⟩,fun h'=>absurd h' (dA (by decide) h)⟩;have hb:¬ (aO (aR 1 s)).bad=0:=dA (by decide) h;rw [pB (dA (by decide) h),pB hb];rfl
       · have e2:(decide (1<=t.num) && decide (t.num<=16))=true:=by rw [decide_eq_true (by omega),decide_eq_true (by omega)];rfl
         rw [e2,jQ,Ar h];try simp only
         rw [if_neg hn];exact ⟨mE.refl _,fun _=>by first | exact ⟨rfl,rfl⟩ | exact ⟨trivial,rfl⟩ | exact ⟨rfl,trivial⟩⟩
     · have e:(t.kind == 2)=false:=beq_eq_false_iff_ne.2 hk
       simp only [Option.getD_some];rw [e,gG,gH (dA (by decide) h),fW (dA (by decide) h)];try simp only
       rw [if_neg hk];exact ⟨mE.refl _,fun h'=>absurd h' (dA (by decide) h)⟩
 · rw [if_neg h,gH h,gH h,fW h]
   exact ⟨mE.refl _,fun h'=>absurd h' h⟩
theorem vD {L:List Tk} {x:List UInt8} {s:RS} (h:¬ s.bad=0):¬ (aU L x s).bad=0:=by rw [e7 h];exact h
theorem EU {L:List Tk} {s:RS} (h:¬ s.bad=0):¬ (a8 L s).2.bad=0:=by rw [e9 h];exact h
theorem vR {L:List Tk} {x:List UInt8} {s t:RS} (h:mE s t) (he:s.bad=0->s=t):mE (aU L x s) (aU L x t)/\((aU L x s).bad=0->aU L x s=aU L x t):=by
 by_cases hb:s.bad=0
 · rw [he hb];exact ⟨mE.refl _,fun _=>rfl⟩
 · have hc:¬ t.bad=0:=by rw [<- h.2];exact hb
   rw [e7 hb,e7 hc];exact ⟨h,fun h'=>absurd h' hb⟩
theorem Eb {L:List Tk} {s t:RS} (h:mE s t) (he:s.bad=0->s=t):mE (a8 L s).2 (a8 L t).2/\((a8 L s).2.bad=0->a8 L s=a8 L t):=by
 by_cases hb:s.bad=0
 · rw [he hb];exact ⟨mE.refl _,fun _=>rfl⟩
 · have hc:¬ t.bad=0:=by rw [<- h.2];exact hb
   rw [e9 hb,e9 hc];exact ⟨h,fun h'=>absurd h' hb⟩
def oE (L:List Tk) (fn:List UInt8) (s:RS):RS:=if kP fn=true then aU L [44] (pI L s) else s
def pC (L:List Tk) (fn:List UInt8) (s:RS):TN×RS:=if eP fn=true then a8 L s else (aD,s)
def rA (L:List Tk) (fn:List UInt8) (s:RS):TN×RS:=if bP fn=true then a8 L (aU L [44] s) else (aD,s)
def iR (L:List Tk) (fn:List UInt8) (s:RS):RS:=(rA L fn (pC L fn (oE L fn s)).2).2
theorem wQ (L:List Tk) (fn:List UInt8) {s:RS} (h:¬ s.bad=0):iR L fn s=s:=by
 have h1:pI L s=s:=by unfold pI;rw [gH h,gH h,fW h]
 have e1:oE L fn s=s:=by
  unfold oE;split
  · rw [h1,e7 h]
  · rfl
 have e2:(pC L fn s).2=s:=by
  unfold pC;split
  · rw [e9 h]
  · rfl
 have e3:(rA L fn s).2=s:=by
  unfold rA;split
  · rw [e7 h,e9 h]
  · rfl
 unfold iR;rw [e1,e2,e3]
theorem Fj (L:List Tk) (fn:List UInt8) (hf:dM fn=true) (s:RS):mE (iR L fn s) (bG L fn s).2/\((iR L fn s).bad=0->iR L fn s=(bG L fn s).2 /\
 (bG L fn s).1=((if kP fn=true then (bM L (atR s)).num else 0),(pC L fn (oE L fn s)).1,(rA L fn (pC L fn (oE L fn s)).2).1)):=by
 by_cases hc:fn=aQ
 · subst hc
   have e1:bG L aQ s=((0,aD,aD),s):=if_pos rfl;rw [e1];exact ⟨mE.refl _,fun _=>by first | exact ⟨rfl,rfl⟩ | exact ⟨trivial,rfl⟩ | exact ⟨rfl,trivial⟩⟩
 have he:eP fn=true:=by unfold eP;rw [hf,beq_eq_false_iff_ne.2 hc];rfl
 have A1:bG L fn s=(let p:=if fn=cQ then ((jY L s).1,aU L [44] (jY L s).2) else (0,s);let e:=a8 L p.2;if fn=aW then (let g:=a8 L (aU L [44] e.2);((p.1,e.1,g.1),g.2)) else ((p.1,e.1,aD),e.2)):=if_neg hc;rw [A1];have hE:∀ u,pC L fn u=a8 L u:=fun u=>if_pos he
 by_cases ht:fn=cQ
 · have hb:¬ fn=aW:=by rw [ht];decide
   have k1:kP fn=true:=by unfold kP;rw [ht];decide
   have b1:¬ bP fn=true:=by unfold bP;rw [ht];decide
   have hB:∀ u,rA L fn u=(aD,u):=fun u=>if_neg b1
   have hK:oE L fn s=aU L [44] (pI L s):=if_pos k1;simp only [if_pos ht,if_neg hb,if_pos k1];unfold iR;rw [hB,hE,hK];obtain ⟨l1,h1⟩:=FB L s;obtain ⟨l2,h2⟩:=vR (L:=L) (x:=[44]) l1 (fun h=>(h1 h).1);obtain ⟨l3,h3⟩:=Eb (L:=L) l2 h2;refine ⟨l3,fun h=>⟨by rw [h3 h],?_⟩⟩;have hw:(aU L [44] (pI L s)).bad=0:=Decidable.byContradiction fun hx=>EU hx h
   have ht0:(pI L s).bad=0:=Decidable.byContradiction fun hx=>vD hx hw
   rw [(h1 ht0).2,h3 h]
 · have k1:¬ kP fn=true:=by unfold kP;rw [beq_eq_false_iff_ne.2 ht];decide
   have hK:oE L fn s=s:=if_neg k1;simp only [if_neg ht,if_neg k1];unfold iR;rw [hK,hE];by_cases hb:fn=aW
   · have b1:bP fn=true:=by unfold bP;rw [hb];decide
     have hB:∀ u,rA L fn u=a8 L (aU L [44] u):=fun u=>if_pos b1
     rw [hB,if_pos hb];exact ⟨mE.refl _,fun _=>by first | exact ⟨rfl,rfl⟩ | exact ⟨trivial,rfl⟩ | exact ⟨rfl,trivial⟩⟩
   · have b1:¬ bP fn=true:=by unfold bP;rw [beq_eq_false_iff_ne.2 hb];decide
     have hB:∀ u,rA L fn u=(aD,u):=fun u=>if_neg b1
     rw [hB,if_neg hb];exact ⟨mE.refl _,fun _=>by first | exact ⟨rfl,rfl⟩ | exact ⟨trivial,rfl⟩ | exact ⟨rfl,trivial⟩⟩
inductive AT | bad (p:Nat) (e:Int) | ok (l:List CD)
def eH (L:List Tk):Nat->List CD->RS->AT
 | 0,_,_=>.bad 0 0
 | f + 1, acc, s =>
   if ¬ s.bad=0 then .bad s.whr s.bad else
   if L.length<=s.pos then .ok acc else
   if dU L (if acc.length=0 then fU else oP) s.pos=false then .bad s.pos 2 else
   if 4<=acc.length then .bad s.pos 4 else
   eH L f (acc++[(cE L (aO s)).1]) (cE L (aO s)).2
def xV (L:List Tk) (c:List CD×RS):AT:=if ¬ c.2.bad=0 then .bad c.2.whr c.2.bad else if c.2.pos<L.length then .bad c.2.pos 2 else .ok c.1
theorem wS {L:List Tk} {x:List UInt8} {p:Nat} (h:dU L x p=true):p<L.length:=by
 unfold dU at h;cases hp:L[p]? with
 | none=>rw [hp] at h;cases h
 | some t=>exact (List.getElem?_eq_some_iff.1 hp).1
theorem AF (L:List Tk):∀ (f:Nat) (acc:List CD) (s:RS),acc.length+f=5->acc.length<=4->s.bad=0->dU L (if acc.length=0 then fU else oP) s.pos=true->xV L (eU L f acc s)=eH L (f+1) acc s
 | 0,acc,s,hl,h4,hb,hw=>by omega
 | f + 1, acc, s, hl, h44, hb, hw => by
   have hlt:=wS hw;rw [eH,if_neg (not_not_intro hb),if_neg (show ¬ L.length<=s.pos by omega),hw,if_neg (by decide)];rw [eU];by_cases h4:acc.length=4
   · rw [if_pos h4,if_pos (show 4<=acc.length by omega)]
     unfold xV;rw [if_pos (dA (by decide) hb)];unfold aR;rw [if_pos hb]
   · rw [if_neg h4,if_neg (show ¬ 4<=acc.length by omega)]
     try simp only
     obtain ⟨c,t,hc⟩:∃ c t,cE L (aO s)=(c,t):=⟨_,_,rfl⟩;rw [hc];try simp only
     by_cases hg:(t.bad == 0 && dU L oP t.pos)=true
     · rw [if_pos hg]
       rw [Bool.and_eq_true,beq_iff_eq] at hg;refine AF L f _ _ (by rw [List.length_append,List.length_singleton];omega) (by rw [List.length_append,List.length_singleton];omega) hg.1 ?_;rw [if_neg (by rw [List.length_append,List.length_singleton];omega)];exact hg.2
     · rw [if_neg hg]
       cases f with
       | zero=>omega
       | succ f =>
         rw [eH];unfold xV;try simp only
         by_cases ht:t.bad=0
         · rw [if_neg (not_not_intro ht),if_neg (not_not_intro ht)]
           have hw2:dU L oP t.pos=false:=by
            cases h:dU L oP t.pos with
            | false=>rfl
            | true=>exact absurd (by rw [h,Bool.and_true,beq_iff_eq];exact ht) hg
           by_cases hp:t.pos<L.length
           · rw [if_pos hp,if_neg (show ¬ L.length<=t.pos by omega),if_neg (c:=(acc++[c]).length=0) (by rw [List.length_append,List.length_singleton];omega),hw2,if_pos rfl]
           · rw [if_neg hp,if_pos (show L.length<=t.pos by omega)]
         · rw [if_pos ht,if_pos ht]
def gF (L:List Tk):RS:=goR (bW (dM (bM L 0).text) 5 (bW ((bM L 0).kind == 1) 2 ⟨0,0,0,0⟩))
def qB (L:List Tk):RS:=aU L [40] (gF L)
def mL (L:List Tk):RS:=aU L [41] (iR L (bM L 0).text (qB L))
def vK (L:List Tk) (l:List CD):AG :=
 let fn:=(bM L 0).text
 let s:=qB L
 ⟨⟨fn.toArray⟩,if kP fn=true then (bM L (atR s)).num else 0,(pC L fn (oE L fn s)).1,(rA L fn (pC L fn (oE L fn s)).2).1,l⟩
def agS (L:List Tk):mA:=match eH L 6 [] (mL L) with | .bad p e=>.bad p e | .ok l=>.ok (vK L l)
theorem fC {L:List Tk} {f:Nat} {acc:List CD} {s:RS} (h:¬ s.bad=0):eH L (f+1) acc s=.bad s.whr s.bad:=by rw [eH,if_pos h]
theorem yB {L:List Tk} (h:¬ (gF L).bad=0):agS L=.bad (gF L).whr (gF L).bad:=by
 have e1:qB L=gF L:=e7 h;have e2:mL L=gF L:=by unfold mL;rw [e1,wQ L _ h,e7 h]
 unfold agS;rw [e2,fC h]
theorem Ky (L:List Tk):agL L=agS L:=by
 unfold agL;cases h0:L[0]? with
 | none =>
   have e:gF L=aR 2 ⟨0,0,0,0⟩:=by
    unfold gF bM;rw [h0];rfl
   have hb:¬ (gF L).bad=0:=by rw [e];exact dA (by decide) rfl
   rw [yB hb,e];rfl
 | some t =>
   have ht:bM L 0=t:=by unfold bM;rw [h0];rfl
   simp only;by_cases hk:t.kind=1
   · have e1:(t.kind == 1)=true:=by rw [hk];rfl
     rw [if_neg (not_not_intro hk)];cases hf:dM t.text with
     | false =>
       have e:gF L=aR 5 ⟨0,0,0,0⟩:=by
        unfold gF;rw [ht,e1,hf];rfl
       have hb:¬ (gF L).bad=0:=by rw [e];exact dA (by decide) rfl
       rw [yB hb,e,if_pos rfl];rfl
     | true =>
       have e:gF L=⟨1,0,0,0⟩:=by
        unfold gF;rw [ht,e1,hf];rfl
       have eh:qB L=aU L [40] ⟨1,0,0,0⟩:=by unfold qB;rw [e]
       rw [if_neg (by decide)];obtain ⟨s1,h1⟩:∃ s,aU L [40] ⟨1,0,0,0⟩=s:=⟨_,rfl⟩;rw [h1] at eh |-
       by_cases hb:s1.bad=0
       · rw [if_neg (not_not_intro hb)]
         obtain ⟨l2,h2⟩:=Fj L t.text hf s1;obtain ⟨l3,h3⟩:=vR (L:=L) (x:=[41]) l2 (fun h=>(h2 h).1);have et:mL L=aU L [41] (iR L t.text s1):=by unfold mL;rw [eh,ht]
         by_cases hb3:(aU L [41] (iR L t.text s1)).bad=0
         · have ha:(iR L t.text s1).bad=0:=Decidable.byContradiction fun hx=>vD hx hb3
           have es:=h3 hb3;have ev:=(h2 ha).2;obtain ⟨s3,hs3⟩:∃ s,aU L [41] (iR L t.text s1)=s:=⟨_,rfl⟩;rw [hs3] at es et hb3;try simp only
           rw [<- es,if_neg (not_not_intro hb3)];unfold agS;rw [et,ev]
           have er:∀ l,vK L l=⟨⟨t.text.toArray⟩,if kP t.text=true then (bM L (atR s1)).num else 0,(pC L t.text (oE L t.text s1)).1,(rA L t.text (pC L t.text (oE L t.text s1)).2).1,l⟩:=fun l=>by
            unfold vK;rw [ht,eh]
           simp only [er];by_cases hl:L.length<=s3.pos
           · rw [if_pos hl,eH,if_neg (not_not_intro hb3),if_pos hl]
           · rw [if_neg hl]
             cases hw:dU L fU s3.pos with
             | false =>
               rw [if_pos rfl,eH,if_neg (not_not_intro hb3),if_neg hl,if_pos (show ([]:List CD).length=0 from rfl),hw,if_pos rfl]
             | true =>
               rw [if_neg (by decide), <- AF L 5 [] s3 rfl (by decide) hb3 (by rw [if_pos (show ([]:List CD).length=0 from rfl)];exact hw)];unfold xV;obtain ⟨c,hc⟩:∃ c,eU L 5 [] s3=c:=⟨_,rfl⟩;rw [hc];by_cases h5:c.2.bad=0
               · rw [if_neg (not_not_intro h5),if_neg (not_not_intro h5)]
                 by_cases h6:c.2.pos<L.length
                 · rw [if_pos h6,if_pos h6]
                 · rw [if_neg h6,if_neg h6]
               · rw [if_pos h5,if_pos h5]
         · have hb4:¬ (aU L [41] (bG L t.text s1).2).bad=0:=by rw [<- l3.2];exact hb3
           try simp only
           rw [if_pos hb4];unfold agS;rw [et,fC hb3,l3.2];have:=l3.1;rw [pB hb3,pB hb4] at this;rw [this]
       · rw [if_pos hb]
         have et:mL L=s1:=by unfold mL;rw [eh,wQ L _ hb,e7 hb]
         unfold agS;rw [et,fC hb]
   · have e1:(t.kind == 1)=false:=beq_eq_false_iff_ne.2 hk
     have e:gF L=aR 2 ⟨0,0,0,0⟩:=by
      unfold gF;rw [ht,e1,gG,gH (dA (by decide) rfl),fW (dA (by decide) rfl)]
     have hb:¬ (gF L).bad=0:=by rw [e];exact dA (by decide) rfl
     rw [if_pos hk,yB hb,e];rfl
def iY (n:Nat) (s:RS):Prop:=(s.bad=0->s.pos<=n)/\s.whr<=n
theorem jR {n:Nat} {s:RS} {e:Int} (he:¬ e=0) (h:iY n s):iY n (aR e s):=by
 unfold aR;by_cases hb:s.bad=0
 · rw [if_pos hb];exact ⟨fun h'=>absurd h' he,h.1 hb⟩
 · rw [if_neg hb];exact h
theorem mW {n:Nat} {s:RS} (h:iY n s) (hlt:s.bad=0->s.pos<n):iY n (aJ s):=by
 unfold aJ;by_cases hb:s.bad=0
 · rw [if_pos hb]
   split
   · exact ⟨fun h'=>absurd h' (by show ¬ (4:Int)=0;decide),h.1 hb⟩
   · exact ⟨fun _=>hlt hb,h.2⟩
 · rw [if_neg hb];exact ⟨fun h'=>absurd h' hb,h.2⟩
theorem gI {n:Nat} {s:RS} (h:iY n s) (hlt:s.bad=0->s.pos<n):iY n (aO s):=⟨fun hb=>hlt hb,h.2⟩
theorem EP {L:List Tk} {s:RS} (h:iY L.length s):iY L.length (dJ L s):=by
 unfold dJ;by_cases hb:s.bad=0
 · cases hs:isS L [41] s.pos with
   | true =>
     have e:(s.bad == 0 && !true)=false:=by simp
     rw [if_neg (by rw [e];decide)];exact gI h (fun _=>fM hs)
   | false =>
     have e:(s.bad == 0 && !false)=true:=by rw [hb];rfl
     rw [if_pos e];refine gI (jR (by decide) h) (fun h'=>?_);unfold aR at h';rw [if_pos hb] at h';exact absurd h' (by show ¬ (2:Int)=0;decide)
 · have e:(s.bad == 0 && !isS L [41] s.pos)=false:=by
    have:(s.bad == 0)=false:=by simpa using hb
    rw [this];rfl
   rw [if_neg (by rw [e];decide)];exact gI h (fun h'=>absurd h' hb)
theorem jM (L:List Tk):∀ (f:Nat) (md:Md) (s:RS),iY L.length s->iY L.length (pr L f md s).2
 | 0,_,s,h=>h
 | f + 1, .fac, s, h => by
   rw [pr];by_cases hb:s.bad=0
   · rw [if_pos hb]
     cases ht:L[s.pos]? with
     | none=>exact jR (by decide) h
     | some t =>
       have hlt:s.bad=0->s.pos<L.length:=fun _=>(List.getElem?_eq_some_iff.1 ht).1
       simp only;by_cases h2:t.kind=2
       · rw [if_pos h2];exact mW h hlt
       rw [if_neg h2];by_cases h1:t.kind=1
       · rw [if_pos h1];exact mW h hlt
       rw [if_neg h1];by_cases h45:t.text=[45]
       · rw [if_pos h45];exact jM L f .fac _ (mW h hlt)
       rw [if_neg h45];by_cases h40:t.text=[40]
       · rw [if_pos h40];exact EP (jM L f .sum _ (gI h hlt))
       rw [if_neg h40];exact jR (by decide) h
   · rw [if_neg hb];exact h
 | f + 1, .prod, s, h => by
   rw [pr];exact jM L f _ _ (jM L f .fac s h)
 | f + 1, .prodL n, s, h => by
   rw [pr];split
   · rename_i hc
     simp only [Bool.and_eq_true] at hc;exact jM L f _ _ (jM L f .fac _ (mW h (fun _=>mT hc.2)))
   · exact h
 | f + 1, .sum, s, h => by
   rw [pr];exact jM L f _ _ (jM L f .prod s h)
 | f + 1, .sumL n, s, h => by
   rw [pr];split
   · rename_i hc
     simp only [Bool.and_eq_true] at hc;exact jM L f _ _ (jM L f .prod _ (mW h (fun _=>mU hc.2)))
   · exact h
theorem oX {L:List Tk} {p:Nat} (hp:p<=L.length):(∀ t q,ofL L p=.ok t q->q<=L.length)/\(∀ q e,ofL L p=.bad q e->q<=L.length/\¬ e=0):=by
 have h:iY L.length (pE L .sum ⟨p,0,0,0⟩).2:=jM L _ _ _ ⟨fun _=>hp,Nat.zero_le _⟩;unfold ofL;by_cases hb:(pE L .sum ⟨p,0,0,0⟩).2.bad=0
 · rw [if_pos hb]
   refine ⟨fun t q e=>?_,fun q e he=>by cases he⟩;cases e;exact h.1 hb
 · rw [if_neg hb]
   refine ⟨fun t q e=>(by cases e),fun q e he=>?_⟩;cases he;exact ⟨h.2,hb⟩
theorem pG {L:List Tk} {x:List UInt8} {s:RS} (h:iY L.length s):iY L.length (aU L x s):=by
 unfold aU;by_cases hb:s.bad=0
 · rw [if_pos hb]
   cases hs:isS L x s.pos with
   | true=>rw [if_pos rfl];exact gI h (fun _=>fM hs)
   | false=>rw [if_neg (by decide)];exact jR (by decide) h
 · rw [if_neg hb];exact h
theorem lB {L:List Tk} {s:RS} (h:iY L.length s):iY L.length (a8 L s).2:=by
 unfold a8;by_cases hb:s.bad=0
 · rw [if_pos hb]
   have:=oX (h.1 hb);cases ho:ofL L s.pos with
   | ok t q=>exact ⟨fun _=>this.1 t q ho,h.2⟩
   | bad q e=>exact ⟨fun h'=>absurd h' (this.2 q e ho).2,(this.2 q e ho).1⟩
 · rw [if_neg hb];exact h
theorem La {L:List Tk} {p:Nat} (h:opB L p=true):p<L.length:=by
 unfold opB at h;split at h
 · rename_i t ht
   exact (List.getElem?_eq_some_iff.1 ht).1
 · cases h
theorem Ib {L:List Tk} {s:RS} (h:iY L.length s):iY L.length (jY L s).2:=by
 unfold jY;by_cases hb:s.bad=0
 · rw [if_pos hb]
   cases ht:L[s.pos]? with
   | none=>exact jR (by decide) h
   | some t =>
     have hlt:s.pos<L.length:=(List.getElem?_eq_some_iff.1 ht).1;simp only;by_cases h2:t.kind=2
     · rw [if_pos h2]
       simp only;by_cases hk:t.num<1\/16<t.num
       · rw [if_pos hk]
         refine gI (jR (by decide) h) (fun h'=>?_);unfold aR at h';rw [if_pos hb] at h';exact absurd h' (by show ¬ (1:Int)=0;decide)
       · rw [if_neg hk];exact gI h (fun _=>hlt)
     · rw [if_neg h2];exact jR (by decide) h
 · rw [if_neg hb];exact h
def fD (G:Nat->Prop) (w:World) (a:Option Addr) (l:List CD):Prop:=l=[]\/∃ b off,a=some ⟨b,off,none⟩/\G b/\b<w.heap.size/\∀ j x,l[j]? = some x ->
 ∃ a1 c1 a2 c2, (w.cell? ⟨b, off + j * 9, none⟩ = some (.string x.op) /\ w.cell? ⟨b, off + j * 9 + 1, none⟩ = some (.string x.a.op) /\ w.cell? ⟨b, off + j * 9 + 1 + 1, none⟩ = some (.string x.a.nm) /\ w.cell? ⟨b, off + j * 9 + 1 + 2, none⟩ = some (.int .i64 x.a.n) /\
   w.cell? ⟨b,off+j*9+1+3,none⟩=some (.slice a1 x.a.ks.len c1)/\w.cell? ⟨b,off+j*9+5,none⟩=some (.string x.b.op)/\w.cell? ⟨b,off+j*9+5+1,none⟩=some (.string x.b.nm)/\w.cell? ⟨b,off+j*9+5+2,none⟩=some (.int .i64 x.b.n) /\
   w.cell? ⟨b,off+j*9+5+3,none⟩=some (.slice a2 x.b.ks.len c2))/\aH G w a1 x.a.ks/\aH G w a2 x.b.ks
theorem fD.keptS {S G:Nat->Prop} {w w':World} {a:Option Addr} {l:List CD} (h:fD G w a l) (hk:aE S w w') (hS:∀ k,S k->¬ G k):fD G w' a l :=
 Or.imp id (fun ⟨b,off,e,hg,hlt,hc⟩=>⟨b,off,e,hg,Nat.lt_of_lt_of_le hlt hk.size,fun j x hj=>by
  have hb:¬ S b:=fun hs=>hS b hs hg
  obtain ⟨a1,c1,a2,c2,⟨h0,h1,h2,h3,h4,h5,h6,h7,h8⟩,r1,r2⟩:=hc j x hj;exact ⟨a1,c1,a2,c2,⟨hk.cell h0 hb,hk.cell h1 hb,hk.cell h2 hb,hk.cell h3 hb,hk.cell h4 hb,hk.cell h5 hb,hk.cell h6 hb,hk.cell h7 hb,hk.cell h8 hb⟩,r1.keptS hk hS,r2.keptS hk hS⟩⟩) h
theorem fD.kept {G:Nat->Prop} {w w':World} {a:Option Addr} {l:List CD} (h:fD G w a l) (hb:Below w.heap.size w w'):fD G w' a l:=h.keptS (S:=fun _=>False) (aF hb _) (fun _ h=>h.elim)
theorem fD.imp {G H:Nat->Prop} {w:World} {a:Option Addr} {l:List CD} (h:fD G w a l) (hG:∀ b,b<w.heap.size->G b->H b):fD H w a l :=
 Or.imp id (fun ⟨b,off,e,hg,hlt,hc⟩=>⟨b,off,e,hG b hlt hg,hlt,fun j x hj=>by
  obtain ⟨a1,c1,a2,c2,h0,r1,r2⟩:=hc j x hj;exact ⟨a1,c1,a2,c2,h0,r1.imp hG,r2.imp hG⟩⟩) h
structure PA where
 ea:Option Addr
 ec:Nat
 ga:Option Addr
 gc:Nat
 wa:Option Addr
 wc:Nat
abbrev agC (x:AG) (p:PA):Array Value:=#[.string x.fn,.int .i64 x.k,.string x.e.op,.string x.e.nm,.int .i64 x.e.n,.slice p.ea x.e.ks.len p.ec,.string x.g.op,.string x.g.nm,.int .i64 x.g.n,.slice p.ga x.g.ks.len p.gc,.slice p.wa x.wh.length p.wc]
abbrev agV (x:AG) (p:PA):Value:=.agg (agC x p)
abbrev agO (x:AG) (p:PA):Obj:=.cells (agC x p) 37
structure aP (G:Nat->Prop) (w:World) (x:AG) (p:PA):Prop where
 e:aH G w p.ea x.e.ks
 g:aH G w p.ga x.g.ks
 c:fD G w p.wa x.wh
theorem aP.kept {G:Nat->Prop} {w w':World} {x:AG} {p:PA} (h:aP G w x p) (hb:Below w.heap.size w w'):aP G w' x p:=⟨h.e.kept hb,h.g.kept hb,h.c.kept hb⟩
theorem aP.keptS {S G:Nat->Prop} {w w':World} {x:AG} {p:PA} (h:aP G w x p) (hk:aE S w w') (hS:∀ k,S k->¬ G k):aP G w' x p:=⟨h.e.keptS hk hS,h.g.keptS hk hS,h.c.keptS hk hS⟩
theorem aP.imp {G H:Nat->Prop} {w:World} {x:AG} {p:PA} (h:aP G w x p) (hG:∀ b,b<w.heap.size->G b->H b):aP H w x p:=⟨h.e.imp hG,h.g.imp hG,h.c.imp hG⟩
theorem aC {W:World} {B:Nat} {v0 v1 v2 v3 v4 v5 v6 v7 v8 v9 v10:Value} {t:TypeId} (h:W.heap[B]? = some (.cells #[v0,v1,v2,v3,v4,v5,v6,v7,v8,v9,v10] t (0,0))) :
 W.cell? ⟨B,0,none⟩=some v0/\W.cell? ⟨B,1,none⟩=some v1/\W.cell? ⟨B,2,none⟩=some v2/\W.cell? ⟨B,3,none⟩=some v3/\W.cell? ⟨B,4,none⟩=some v4/\W.cell? ⟨B,5,none⟩=some v5/\W.cell? ⟨B,6,none⟩=some v6/\W.cell? ⟨B,7,none⟩=some v7/\W.cell? ⟨B,8,none⟩=some v8/\W.cell? ⟨B,9,none⟩=some v9/\W.cell? ⟨B,10,none⟩=some v10:=by
 refine ⟨?_,?_,?_,?_,?_,?_,?_,?_,?_,?_,?_⟩ <;> simp [World.cell?,h]
structure SzG (x:AG):Prop where
 e:SzF x.e.f
 g:SzF x.g.f
 c:∀ d∈x.wh,SzF d.a.f/\SzF d.b.f
structure KA (G:Nat->Prop) (w:World) (x:AG) (p:PA) (V:World):Prop where
 b:Below w.heap.size w V
 z:w.heap.size<=V.heap.size
 n:V.heap[w.heap.size]? = some (agO x p)
 r:aP G V x p
theorem KA.step {G:Nat->Prop} {w V V':World} {x:AG} {p:PA} (h:KA G w x p V) (hb:Below V.heap.size V V'):KA G w x p V' :=
 ⟨h.b.trans (hb.mono h.z),Nat.le_trans h.z hb.size,(hb.block _ (aG h.n)).trans h.n,h.r.kept hb⟩
theorem Kk {G:Nat->Prop} {w:World} {x:AG} {p:PA} (hr:aP G w x p):KA G w x p (w.alloc (agO x p)) :=
 ⟨(Below.refl _ _).alloc (Nat.le_refl _) _,by rw [World.size_alloc];omega,heap_alloc_new w _,hr.kept ((Below.refl _ _).alloc (Nat.le_refl _) _)⟩
theorem vL (o:ByteArray) (w:World):Calls Tryz.prog 33 #[.string o] w fun e w'=>e=.returned (.bool (dM o.data.toList))/\w=w':=by
 cases h0:(o.data.toList == aQ) with
 | true =>
   have g0:=bT h0;unfold aQ at g0;have R:dM o.data.toList=true:=by unfold dM;rw [h0];simp
   rw [R];clear R h0;go_enter Tryz.func33,Tryz.ntmps33
   go_wp2_with fail
   go_ret;exact ⟨rfl,rfl⟩
 | false =>
   cases h1:(o.data.toList == mH) with
   | true =>
     have g0:=aM h0;unfold aQ at g0;have g1:=bT h1;unfold mH at g1;have R:dM o.data.toList=true:=by unfold dM;rw [h1];simp
     rw [R];clear R h0 h1;go_enter Tryz.func33,Tryz.ntmps33
     go_wp2_with fail
     go_ret;exact ⟨rfl,rfl⟩
   | false =>
     cases h2:(o.data.toList == oO) with
     | true =>
       have g0:=aM h0;unfold aQ at g0;have g1:=aM h1;unfold mH at g1;have g2:=bT h2;unfold oO at g2;have R:dM o.data.toList=true:=by unfold dM;rw [h2];simp
       rw [R];clear R h0 h1 h2;go_enter Tryz.func33,Tryz.ntmps33
       go_wp2_with fail
       go_ret;exact ⟨rfl,rfl⟩
     | false =>
       cases h3:(o.data.toList == mG) with
       | true =>
         have g0:=aM h0;unfold aQ at g0;have g1:=aM h1;unfold mH at g1;have g2:=aM h2;unfold oO at g2;have g3:=bT h3;unfold mG at g3;have R:dM o.data.toList=true:=by unfold dM;rw [h3];simp
         rw [R];clear R h0 h1 h2 h3;go_enter Tryz.func33,Tryz.ntmps33
         go_wp2_with fail
         go_ret;exact ⟨rfl,rfl⟩
       | false =>
         cases h4:(o.data.toList == aW) with
         | true =>
           have g0:=aM h0;unfold aQ at g0;have g1:=aM h1;unfold mH at g1;have g2:=aM h2;unfold oO at g2;have g3:=aM h3;unfold mG at g3;have g4:=bT h4;unfold aW at g4;have R:dM o.data.toList=true:=by unfold dM;rw [h4];simp
           rw [R];clear R h0 h1 h2 h3 h4;go_enter Tryz.func33,Tryz.ntmps33
           go_wp2_with fail
           go_ret;exact ⟨rfl,rfl⟩
         | false =>
           cases h5:(o.data.toList == cQ) with
           | true =>
             have g0:=aM h0;unfold aQ at g0;have g1:=aM h1;unfold mH at g1;have g2:=aM h2;unfold oO at g2;have g3:=aM h3;unfold mG at g3;have g4:=aM h4;unfold aW at g4;have g5:=bT h5;unfold cQ at g5;have R:dM o.data.toList=true:=by unfold dM;rw [h5];simp
             rw [R];clear R h0 h1 h2 h3 h4 h5;go_enter Tryz.func33,Tryz.ntmps33
             go_wp2_with fail
             go_ret;exact ⟨rfl,rfl⟩
           | false =>
             have g0:=aM h0;have g1:=aM h1;have g2:=aM h2;have g3:=aM h3;have g4:=aM h4;have g5:=aM h5;unfold aQ at g0;unfold mH at g1;unfold oO at g2;unfold mG at g3;unfold aW at g4;unfold cQ at g5;rw [show dM o.data.toList=false by unfold dM;rw [h0,h1,h2,h3,h4,h5];rfl];clear h0 h1 h2 h3 h4 h5;go_enter Tryz.func33,Tryz.ntmps33
             go_wp2_with fail
             go_ret;exact ⟨rfl,rfl⟩
abbrev agP (x:AG) (p:PA):Obj:=.cells (agC x p) 28
structure KP9 (G:Nat->Prop) (w:World) (x:AG) (p:PA) (V:World):Prop where
 b:Below w.heap.size w V
 z:w.heap.size<=V.heap.size
 n:V.heap[w.heap.size]? = some (agP x p)
 r:aP G V x p
theorem KP9.step {G:Nat->Prop} {w V V':World} {x:AG} {p:PA} (h:KP9 G w x p V) (hb:Below V.heap.size V V'):KP9 G w x p V' :=
 ⟨h.b.trans (hb.mono h.z),Nat.le_trans h.z hb.size,(hb.block _ (aG h.n)).trans h.n,h.r.kept hb⟩
theorem nS {G:Nat->Prop} {w:World} {x:AG} {p:PA} (hr:aP G w x p):KP9 G w x p (w.alloc (agP x p)) :=
 ⟨(Below.refl _ _).alloc (Nat.le_refl _) _,by rw [World.size_alloc];omega,heap_alloc_new w _,hr.kept ((Below.refl _ _).alloc (Nat.le_refl _) _)⟩
end
end Go.Proofs.YtapcjnoaofmmiaaGreatDoor
