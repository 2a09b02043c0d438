/-
 No statement: what AggBackCard needs, of the texts OE12, OE13, HMath.
-/
import Derived.Test.YtapcjnoaofmmiaaGreatDoorVB7
set_option maxHeartbeats 40000000
set_option maxRecDepth 100000
namespace Go.Proofs.YtapcjnoaofmmiaaGreatDoor
section
section
open Go.RowKit
def kL:F->List TN
 | .nil=>[]
 | .cons o m n k r=>⟨o,m,n,k⟩::kL r
theorem A6:∀ f:F,(kL f).length=f.len
 | .nil=>rfl
 | .cons o m n k r=>by rw [kL,List.length_cons,A6 r,F.len]
theorem IW:∀ {f:F} {j:Nat} {t:TN},f.at j=some t->(kL f)[j]? = some t
 | .nil,_,_,h=>by cases h
 | .cons o m n k r, 0, t, h => by
   have:(⟨o,m,n,k⟩:TN)=t:=Option.some.inj h;rw [kL, <- this];rfl
 | .cons o m n k r,j+1,t,h=>IW (f:=r) h
theorem Il {f:F} {k:Nat} {t:TN} (h:f.at k=some t):(kL f).take (k+1)=(kL f).take k++[t]:=by
 have h1:=IW h;obtain ⟨hlt,e⟩:=List.getElem?_eq_some_iff.1 h1;rw [List.take_succ_eq_append_getElem hlt,e]
theorem Ah {G:Nat->Prop} {w:World} {t:TN} {p:Option Addr×Nat}:∀ {l:List TN} {q:List (Option Addr×Nat)},DnK G w l q->aI G w p.1 t.ks->DnK G w (l++[t]) (q++[p])
 | [],[],_,h=>⟨h,trivial⟩
 | _::_,_::_,h,h2=>⟨h.1,Ah h.2 h2⟩
 | [],_::_,h,_=>h.elim
 | _::_,[],h,_=>h.elim
theorem rG {G:Nat->Prop} {w:World} {g:Nat} (hG:G g) (hlt:g<w.heap.size):∀ {f:F} {q:List (Option Addr×Nat)} {off:Nat},(∀ j u,(eF (kL f) q)[j]? = some u->w.cell? ⟨g,off+j,none⟩=some u)->DnK G w (kL f) q->eH G w f g off
 | .nil,_,_,_,_=>trivial
 | .cons o m n k r,[],_,_,hd=>hd.elim
 | .cons o m n k r, p :: q, off, hc, hd => by
   refine nD (t:=⟨o,m,n,k⟩) (q:=p) hG hlt (fun j u hj=>?_) hd.1 (rG hG hlt (q:=q) (off:=off+4) (fun j u hj=>?_) hd.2)
   · have hj4:j<4:=(List.getElem?_eq_some_iff.1 hj).1
     refine hc j u ?_;rw [kL,eF,List.getElem?_append_left (by exact hj4)];exact hj
   · have h:=hc (4+j) u (by
      rw [kL,eF,List.getElem?_append_right (by show 4<=_;omega),show 4+j-(ndL ⟨o,m,n,k⟩ p).length=j by show 4+j-4=j;omega];exact hj)
     rw [<- Nat.add_assoc] at h;exact h
def GT (t:TN):Prop:=∀ (G:Nat->Prop) (w:World) (a:Option Addr) (c:Nat),aM t<=1000->aI G w a t.ks->Calls Tryz.prog 41 #[bI t.op t.nm t.n a t.ks.len c] w fun e w'=>∃ a2 c2,e=.returned (bI t.op t.nm t.n a2 t.ks.len c2)/\cC w.heap.size w' a2 t.ks/\Below w.heap.size w w'
theorem Hi:(Tryz.prog.info? 34).map (fun i=>(i.zero,i.size,i.bytes))=some (some (.agg #[.string ⟨#[]⟩,.string ⟨#[]⟩,.int .i64 0,.slice none 0 0]),4,64):=by kernel_rfl
theorem Jd (w:World) (t:TN) (a:Option Addr) (c:Nat):∀ j u,(ndL t (a,c))[j]? = some u->(w.alloc (ndO t.op t.nm t.n a t.ks.len c)).cell? ((⟨w.heap.size,0,none⟩:Addr).add j)=some u:=fun j u hj=>by
 have e:ndL t (a,c)=(#[.string t.op,.string t.nm,.int .i64 t.n,.slice a t.ks.len c]:Array Value).toList:=rfl;rw [e] at hj;rw [Addr.add_lit,Nat.zero_add,cell_of_row _ _ _ _ _ (0,0) (heap_alloc_new w _)];simpa using hj
theorem Bg {W:World} {B:Nat} {x0 x1 x2 x3:Value} {t:TypeId} (h:W.heap[B]? = some (.cells #[x0,x1,x2,x3] t (0,0))) (u:Value):(W.setCell ⟨B,3,none⟩ u).heap[B]? = some (.cells #[x0,x1,x2,u] t (0,0)):=by
 have:=heap_setCell_same W B 3 _ t u h;simpa using this
structure LO (w:World) (t:TN) (a:Option Addr) (c:Nat) (k:Nat) (va:Option Addr) (vc:Nat) (q:List (Option Addr×Nat)) (V:World):Prop where
 b:Below w.heap.size w V
 bx:V.heap[w.heap.size]? = some (ndG t.op t.nm t.n a t.ks.len c)
 rs:V.heap[w.heap.size+1]? = some (ndO ⟨#[]⟩ ⟨#[]⟩ 0 none 0 0)
 x:V.heap[w.heap.size+2]? = some (ndO t.op t.nm t.n va k vc)
 o:V.ownsRow (w.heap.size+3) 34 4 (.slice va k vc) k (eF ((kL t.ks).take k) q)
 ql:q.length=k
 d:DnK (fun b=>w.heap.size+3<=b/\(Value.slice va k vc).ownBlock ≠ some b) V ((kL t.ks).take k) q
 z:w.heap.size+3<=V.heap.size
theorem FJ (t:TN) (ih:dV GT t.ks):GT t:=by
 intro G w a c hs hr;obtain ⟨i0,hi,hz0,hz1,hz2⟩:=info_parts Hi;have und:Tryz.prog.underlying 32=some (.slice 34):=Tryz.underlying32;have hlen:=kT t.ks;have hsz:aM t=1+bL t.ks:=rfl;have IH:=aA ih;have R:=aA hr;have B1:=(Below.refl w.heap.size w).alloc (Nat.le_refl _) (ndG t.op t.nm t.n a t.ks.len c);have N1:=heap_alloc_new w (ndG t.op t.nm t.n a t.ks.len c);have s1:(w.alloc (ndG t.op t.nm t.n a t.ks.len c)).heap.size=w.heap.size+1:=World.size_alloc _ _;generalize hV1:w.alloc (ndG t.op t.nm t.n a t.ks.len c)=V1 at B1 N1 s1;have B2:=(Below.refl V1.heap.size V1).alloc (Nat.le_refl _) (ndO ⟨#[]⟩ ⟨#[]⟩ 0 none 0 0);have N2:=heap_alloc_new V1 (ndO ⟨#[]⟩ ⟨#[]⟩ 0 none 0 0);have s2:(V1.alloc (ndO ⟨#[]⟩ ⟨#[]⟩ 0 none 0 0)).heap.size=w.heap.size+2:=by rw [World.size_alloc];omega
 generalize hV2:V1.alloc (ndO ⟨#[]⟩ ⟨#[]⟩ 0 none 0 0)=V2 at B2 N2 s2;have B3:=(Below.refl V2.heap.size V2).alloc (Nat.le_refl _) (ndO t.op t.nm t.n none 0 0);have N3:=heap_alloc_new V2 (ndO t.op t.nm t.n none 0 0);have s3:(V2.alloc (ndO t.op t.nm t.n none 0 0)).heap.size=w.heap.size+3:=by rw [World.size_alloc];omega
 generalize hV3:V2.alloc (ndO t.op t.nm t.n none 0 0)=V3 at B3 N3 s3;rw [s1] at N2;rw [s2] at N3;have L0:=aA (show LO w t a c 0 none 0 [] V3 from ⟨(B1.trans (B2.mono (by omega))).trans (B3.mono (by omega)),(B3.block _ (by omega)).trans ((B2.block _ (by omega)).trans N1),(B3.block _ (by omega)).trans N2,N3,World.ownsRow_nil _ _ _ _,rfl,trivial,by omega⟩);have HV1:=aA hV1;have HV2:=aA hV2;have HV3:=aA hV3;have HZ2:=aA s2;obtain ⟨⟨m0,m1,m2,m3⟩, -⟩:=aO ((B2.block _ (by omega)).trans N1);clear hV1 hV2 hV3 B1 B2 B3 N1 N2 N3 hr ih s1 s2 s3;go_enter Tryz.func41,Tryz.ntmps41
 go_upto_region 1 with fail
 rw [HV1.out,HV2.out];go_upto_region 2 with fail
 rw [HV3.out,HZ2.out];clear m0 m1 m2 m3;go_wp2_with fail
 go_loopw [4] (fun i wr=>∃ (k:Nat) (va:Option Addr) (vc:Nat) (q:List (Option Addr×Nat)),i=.int .i64 k/\k<=t.ks.len/\Hid (LO w t a c k va vc q wr)) (fun i _=>t.ks.len-(intOf i).toNat)
 case atStart=>exact ⟨0,none,0,[],rfl,Nat.zero_le _,L0⟩
 case round =>
  obtain ⟨k,va,vc,q,rfl,hk,hL⟩:=hrel;obtain ⟨⟨m0,m1,m2,m3⟩, -⟩:=aO hL.out.bx;obtain ⟨⟨x0,x1,x2,x3⟩,y0,y1,y2,y3⟩:=aO hL.out.x;by_cases hlt:k<t.ks.len
  · obtain ⟨t2,hat, -⟩:=dC hlt
    have hsd:=kG hat;have hdl:=e7 t.ks k;obtain ⟨b,off,a2,c2,ha,hGb,hbl,⟨p0,p1,p2,p3⟩,hr2⟩:=bR (R.out.kept hL.out.b) hat;subst ha;have CI:=aA ((dV.at IH.out hat) G wr.drew a2 c2 (by omega) (hr2.kept ⟨rfl,rfl,rfl,Nat.le_refl _,fun _ _=>rfl⟩));have HT:=aA (Il hat);have HTL:((kL t.ks).take k).length=k:=by rw [List.length_take,A6];omega
    have a1:(k:Int)<(t.ks.len:Int):=by omega
    have a2':(0:Int)<=(k:Int):=by omega
    have a3:((k:Int)).toNat=k:=by omega
    have hk9:k+1<=1000:=by omega
    clear hat hr2 hGb;go_wp2_with fail
    go_region_law (first
     | (go_simp
        go_at_call 41
        refine CI.out.mono ?_;rintro e w2 ⟨a4,c4,rfl,hr4,hb4⟩;have hb5:Below wr.heap.size wr w2:=⟨hb4.os,hb4.tape,hb4.output,hb4.size,hb4.block⟩;have hz4:w.heap.size+3<=w2.heap.size:=Nat.le_trans hL.out.z hb4.size;have X2:=(hb5.block _ (Array.getElem?_eq_some_iff.1 hL.out.x).1).trans hL.out.x;have HB5:=aA hb5;have HR4:=aA hr4;have O2:=aA ((bO hL.out.o hb5).alloc (ndO t2.op t2.nm t2.n a4 t2.ks.len c4));clear x0 x1 x2 x3 y0 y1 y2 y3 hb4 hr4 hb5;obtain ⟨⟨x0,x1,x2,x3⟩,y0,y1,y2,y3⟩:=aO X2;have X2a:=(((Below.refl w2.heap.size w2).alloc (Nat.le_refl _) (.cells #[.string t2.op,.string t2.nm,.int .i64 t2.n,.slice a4 t2.ks.len c4] 34)).block _ (Array.getElem?_eq_some_iff.1 X2).1).trans X2;obtain ⟨⟨u0,u1,u2,u3⟩, -⟩:=aO X2a;clear X2 X2a)
     | (refine cO rfl (.tmp 20) (.tmp 27) 32 rfl (base := w.heap.size + 3) und hi hz0 hz1 hz2 rfl (by decide) (.slice va k vc) k 1 (eF ((kL t.ks).take k) q) (ndL t2 (a4, c4)) ⟨w2.heap.size, 0, none⟩ 1 (by first | (simp [Act.eval]; done) | (simp [Act.eval, Act.put]; done) | fail) (by first | (simp [Act.eval]; done) | (simp [Act.eval, Act.put]; done) | fail) O2.out rfl (Jd w2 t2 a4 c4) (j1 _ _) (by unfold maxLen; omega) (by omega) (by rw [World.size_alloc]; omega) ?_
        intro v3 w3 ho3 hg3 hq3;obtain ⟨va3,vc3,rfl⟩:=fE ho3;have kg:aL (fun b=>(Value.slice va k vc).ownBlock=some b) w2 w3:=((aL.refl _ w2).alloc _).grown hg3 (fun q hq=>.inl hq);have hov:∀ b,(Value.slice va k vc).ownBlock=some b->w.heap.size+3<=b/\b<w2.heap.size:=fun b hb=>by have h1:=(hL.out.o.lt b hb);have:=HB5.out.size;omega
        have X3:=kg.heap ((HB5.out.block _ (Array.getElem?_eq_some_iff.1 hL.out.x).1).trans hL.out.x) (fun e=>by have:=hov _ e;omega);have ks:=(aL.refl (· = w.heap.size+2) w3).setCell (p:=⟨w.heap.size+2,3,none⟩) (.inl rfl) (.slice va3 (k+1) vc3)
        have hnb:∀ b,b<w2.heap.size->(Value.slice va k vc).ownBlock ≠ some b->(Value.slice va3 (k+1) vc3).ownBlock ≠ some b:=fun b hb hne e=>by
         rcases hq3 b e with h1 | h1
         · exact hne h1
         · rw [World.size_alloc] at h1;omega
        have D2:DnK (fun b=>(w.heap.size+3<=b/\(Value.slice va k vc).ownBlock ≠ some b)/\(Value.slice va3 (k+1) vc3).ownBlock ≠ some b) w2 ((kL t.ks).take k++[t2]) (q++[(a4,c4)]):=Ah ((hL.out.d.keptS (aE HB5.out (fun _=>False)) (fun _ h=>h.elim)).imp (fun b hb hg=>⟨hg,hnb b hb hg.2⟩)) (HR4.out.imp (fun b hb hg=>by
         have hg':wr.heap.size<=b:=hg;have hz:=hL.out.z;have hne:(Value.slice va k vc).ownBlock ≠ some b:=fun e=>by have:=(hL.out.o.lt b e).2;omega
         exact ⟨⟨by omega,hne⟩,hnb b hb hne⟩))
        have D3:=((D2.keptS kg (fun b hb hg=>hg.1.2 hb)).keptS ks (fun b hb hg=>by have:=hg.1.1;omega)).imp (H:=fun b=>w.heap.size+3<=b/\(Value.slice va3 (k+1) vc3).ownBlock ≠ some b) (fun b _ hg=>⟨hg.1.1,hg.2⟩)
        have L3:=aA (show LO w t (some ⟨b,off,none⟩) c (k+1) va3 vc3 (q++[(a4,c4)]) (w3.setCell ⟨w.heap.size+2,3,none⟩ (.slice va3 (k+1) vc3)) from ⟨
         (hL.out.b.trans (HB5.out.mono (by have:=hL.out.z;omega))).trans ((kg.mono (T:=fun b=>w.heap.size<=b) (fun i hi _=>by have:=hov i hi;omega)).below (fun _ h=>h) (by omega) |>.trans (ks.below (B:=w.heap.size) (fun i hi=>by omega) (by have:=kg.size;omega))),
         ks.heap (kg.heap ((HB5.out.block _ (Array.getElem?_eq_some_iff.1 hL.out.bx).1).trans hL.out.bx) (fun e=>by have:=hov _ e;omega)) (by omega),
         ks.heap (kg.heap ((HB5.out.block _ (Array.getElem?_eq_some_iff.1 hL.out.rs).1).trans hL.out.rs) (fun e=>by have:=hov _ e;omega)) (by omega),
         Bg X3 _,
         by
          rw [HT.out,tI _ _ _ _ (by rw [hL.out.ql,HTL])];have e:eF [t2] [(a4,c4)]=ndL t2 (a4,c4):=by simp [eF]
          rw [e];exact iF ho3 (by omega) _ _,
         by rw [List.length_append,hL.out.ql];rfl,
         by rw [HT.out];exact D3,
         by rw [World.size_setCell];have:=kg.size;omega⟩)
        obtain ⟨-,y0',y1',y2',y3'⟩:=aO X3;obtain ⟨⟨x0',x1',x2',x3'⟩, -⟩:=aO X3;clear ho3 hg3 hq3 kg hov X3 ks hnb D2 D3 x0 x1 x2 x3 y0 y1 y2 y3)
     | fail)
    all_goals
     go_wp2_with fail
     go_roundw
     case rel=>exact ⟨k+1,va3,vc3,q++[(a4,c4)],by go_num,by omega,L3⟩
     case measure=>simp [intOf];omega
  · obtain rfl:k=t.ks.len:=by omega
    have htk:(kL t.ks).take t.ks.len=kL t.ks:=List.take_of_length_le (by rw [A6];exact Nat.le_refl _)
    have P:=aA (show aI (fun b=>w.heap.size+3<=b) wr va t.ks by
     have ho:=hL.out.o;have hd:=hL.out.d;rw [htk] at ho hd;by_cases h0:t.ks=.nil
     · exact .inl h0
     · have hne:t.ks.len ≠ 0:=fun e=>h0 (tN e)
       obtain ⟨g,cc,hv, -, -,hc⟩:=dB ho hne;simp only [Value.slice.injEq,true_and] at hv;obtain ⟨rfl,rfl⟩:=hv;have hg:=ho.lt g rfl;exact .inr ⟨g,0,rfl,rG (G:=fun b=>w.heap.size+3<=b) hg.1 hg.2 (fun j u hj=>by rw [Nat.zero_add];exact hc j u hj) (hd.imp (fun b _ hg=>hg.1))⟩)
    obtain ⟨⟨r0,r1,r2,r3⟩,z0,z1,z2,z3⟩:=aO hL.out.rs;have a1:¬ (t.ks.len:Int)<(t.ks.len:Int):=by omega
    clear htk;go_wp2_with fail
    have KP:=qR wr (w.heap.size+1) t.op t.nm t.n va t.ks.len vc;obtain ⟨⟨d0,d1,d2,d3⟩, -⟩:=aO (bJ hL.out.rs (.string t.op) (.string t.nm) (.int .i64 t.n) (.slice va t.ks.len vc))
    exact bodyPost_ret (v:=bI t.op t.nm t.n va t.ks.len vc) (by simp [results,Tryz.results41,go_sem,d0,d1,d2,d3]) rfl
     ⟨va,⟨vc,rfl⟩,(P.out.keptS KP (fun b hb hg=>by omega)).imp (fun b _ hg=>by omega),hL.out.b.trans (KP.below (B:=w.heap.size) (fun b hb=>by omega) (by have:=hL.out.z;omega))⟩
theorem sA (t:TN):GT t:=jZ FJ t
end
section
open Go.RowKit
def rE (o m:ByteArray):Bool:=decide (100<(m.size:Int)) || decide (20<(o.size:Int))
def eJ:F->Int->Int
 | .nil,l=>l
 | .cons o m _ ks r,l=>if l<0 then l else eJ r (if rE o m=true then -1 else eJ ks (l-1))
def jQ (t:TN) (l:Int):Int:=if rE t.op t.nm=true then -1 else eJ t.ks (l-1)
theorem vU {f:F} {t:TN} {r:F} {l:Int} (h:f=.cons t.op t.nm t.n t.ks r):eJ f l=if l<0 then l else eJ r (jQ t l):=by
 rw [h,eJ];rfl
theorem nK:∀ (f:F) (l:Int),eJ f l<=l\/eJ f l= -1
 | .nil,_=>.inl (Int.le_refl _)
 | .cons o m _ ks r, l => by
   rw [eJ];split
   · exact .inl (Int.le_refl _)
   · rename_i h0
     have h1:=nK r (if rE o m=true then -1 else eJ ks (l-1));have h2:=nK ks (l-1);split at h1
     · rename_i h
       rw [if_pos h];omega
     · rename_i h
       rw [if_neg h];omega
theorem xK:∀ (f:F) (l:Int), -1<=l -> -1<=eJ f l
 | .nil,_,h=>h
 | .cons o m _ ks r, l, h => by
   rw [eJ];split
   · exact h
   · refine xK r _ ?_
     split
     · exact Int.le_refl _
     · exact xK ks _ (by omega)
abbrev ndP (o m:ByteArray) (n:Int) (a:Option Addr) (l c:Nat):Obj:=.cells #[.string o,.string m,.int .i64 n,.slice a l c] 25
def BO (t:TN):Prop:=∀ (G:Nat->Prop) (w:World) (a:Option Addr) (c:Nat) (l:Int),0<=l->l<=1000->mS t.f->aI G w a t.ks->Calls Tryz.prog 94 #[bI t.op t.nm t.n a t.ks.len c,.int .i64 l] w fun e w'=>e=.returned (.int .i64 (jQ t l))/\Below w.heap.size w w'
theorem DL (t:TN) (ih:dV BO t.ks):BO t:=by
 intro G w a c l hl0 hl1 hL hr;have R:=aA hr;have IH:=aA ih;obtain ⟨hm,hL2, -⟩:=hL;have LK:=aA hL2;obtain ⟨r,hR⟩:∃ r,jQ t l=r:=⟨_,rfl⟩;rw [hR];unfold jQ rE at hR;have NB:=aA (heap_alloc_new w (ndP t.op t.nm t.n a t.ks.len c));have B0:=aA ((Below.refl w.heap.size w).alloc (Nat.le_refl _) (ndP t.op t.nm t.n a t.ks.len c));clear hr ih hL2;by_cases h1:(100:Int)<t.nm.size
 · have RR:=aA (show (-1:Int)=r by rw [<- hR,decide_eq_true h1];rfl)
   clear hR;go_enter Tryz.func94,Tryz.ntmps94
   go_wp2_with fail
   go_ret;rw [RR.out];exact ⟨rfl,B0.out⟩
 · by_cases h2:(20:Int)<t.op.size
   · have RR:=aA (show (-1:Int)=r by rw [<- hR,decide_eq_true h2,Bool.or_true];rfl)
     clear hR;go_enter Tryz.func94,Tryz.ntmps94
     go_wp2_with fail
     go_ret;rw [RR.out];exact ⟨rfl,B0.out⟩
   · have H0:=aA (show eJ (t.ks.drop 0) (l-1)=r by rw [F.drop_zero, <- hR,decide_eq_false h1,decide_eq_false h2];rfl)
     clear hR;go_enter Tryz.func94,Tryz.ntmps94
     go_wp2_with fail
     generalize w.alloc (ndP t.op t.nm t.n a t.ks.len c)=W at NB B0 |-
     go_loopw [1,5] (fun v i wr=>∃ (k:Nat) (x:Int),i=.int .i64 k/\v=.int .i64 x/\k<=t.ks.len /\ -1<=x/\x<=1000/\Hid (eJ (t.ks.drop k) x=r)/\Hid (Below w.heap.size w wr)/\Hid (wr.heap[w.heap.size]? = some (ndP t.op t.nm t.n a t.ks.len c))) (fun _ i _=>t.ks.len-(intOf i).toNat)
     case atStart=>exact ⟨0,l-1,rfl,rfl,Nat.zero_le _,by omega,by omega,H0,B0,NB⟩
     case round =>
      obtain ⟨k,x,rfl,rfl,hk,hx0,hx1,hE,hB,hN⟩:=hrel;obtain ⟨⟨m0,m1,m2,m3⟩, -⟩:=aO hN.out;by_cases hlt:k<t.ks.len
      · obtain ⟨t2,hat,hdr⟩:=dC hlt
        by_cases hx:x<0
        · have RR:=aA (show x=r by rw [<- hE.out,vU hdr,if_pos hx])
          have g0:¬ (0:Int)<=x:=by omega
          clear hat hdr hx;go_wp2_with fail
          go_ret;rw [RR.out];exact ⟨rfl,hB.out⟩
        · have g0:(0:Int)<=x:=by omega
          obtain ⟨b,off,a2,c2,ha,hG,hbl,⟨p0,p1,p2,p3⟩,hr2⟩:=bR (R.out.kept hB.out) hat;have EN:=aA (show eJ (t.ks.drop (k+1)) (jQ t2 x)=r by rw [<- hE.out,vU hdr,if_neg hx]);have C:=aA ((dV.at IH.out hat) G wr a2 c2 x g0 hx1 (LK.out.at hat) hr2)
          have h3: -1<=jQ t2 x:=by
           unfold jQ;split
           · exact Int.le_refl _
           · exact xK _ _ (by omega)
          have h4:jQ t2 x<=1000:=by
           unfold jQ;split
           · omega
           · have:=nK t2.ks (x-1);omega
          subst ha;obtain ⟨y,hy⟩:∃ y,jQ t2 x=y:=⟨_,rfl⟩;rw [hy] at C EN h3 h4;clear hat hdr hx hr2 hy;go_wp2_with fail
          refine C.out.mono ?_;rintro e w1 ⟨rfl,hb⟩;have hz:=hB.out.size;have B1:=aA (hB.out.trans (hb.mono hz));have N1:=aA ((hb.block _ (aC hN.out)).trans hN.out);clear hb C m0 m1 m2 m3;go_wp2_with fail
          go_roundw
          case rel=>exact ⟨k+1,y,by go_num,rfl,by omega,h3,h4,EN,B1,N1⟩
          case measure=>simp [intOf];omega
      · have RR:=aA (show x=r by rw [<- hE.out,F.drop_len _ _ (by omega)];rfl)
        go_wp2_with fail
        go_ret;rw [RR.out];exact ⟨rfl,hB.out⟩
theorem FP (t:TN):BO t:=jZ DL t
theorem sC {G:Nat->Prop} {w:World} {a:Option Addr} {t:TN} (c:Nat) (hL:mS t.f) (hr:aI G w a t.ks):Calls Tryz.prog 43 #[bI t.op t.nm t.n a t.ks.len c] w fun e w'=>e=.returned (.bool (decide (0<=jQ t 60)))/\Below w.heap.size w w':=by
 have C:=aA (fun V (hV:Below w.heap.size w V)=>FP t G V a c 60 (by decide) (by decide) hL (hr.kept hV));have B0:=aA ((Below.refl w.heap.size w).alloc (Nat.le_refl _) (ndP t.op t.nm t.n a t.ks.len c));have NB:=aA (heap_alloc_new w (ndP t.op t.nm t.n a t.ks.len c));obtain ⟨x,hx⟩:∃ x,jQ t 60=x:=⟨_,rfl⟩;rw [hx] at C |-
 clear hx hL hr;go_enter Tryz.func43,Tryz.ntmps43
 go_wp2_with fail
 generalize w.alloc (ndP t.op t.nm t.n a t.ks.len c)=W at NB B0 |-
 obtain ⟨⟨m0,m1,m2,m3⟩, -⟩:=aO NB.out;go_wp2_with fail
 refine (C.out W B0.out).mono ?_;rintro e w1 ⟨rfl,hb⟩;have B1:=aA (B0.out.trans (hb.mono B0.out.size));clear hb;go_wp2_with fail
 go_ret;exact ⟨rfl,B1.out⟩
end
section
open Go.RowKit
theorem aN (t:TN):aF t=0 ↔ OkT t/\aM t<=32:=by
 unfold aF OkT;have h:=xX t;by_cases k:gX t.ks 31<0
 · rw [if_pos k]
   exact ⟨fun e=>absurd e (by decide),fun e=>by have:=h.1 k;omega⟩
 · rw [if_neg k]
   exact ⟨fun e=>⟨e,by have:¬ 32<aM t:=fun x=>k (h.2 x);omega⟩,fun e=>e.1⟩
end
section
open Go.RowKit
def dE (x:Int):Int:=if x < -9223372036854775808 then -9223372036854775808 else if 9223372036854775807<x then 9223372036854775807 else x
theorem k8 (x:Int):bM (dE x):=by unfold bM dE;split;omega;split <;> omega
theorem mP {x:Int} (h:bM x):dE x=x:=by unfold bM at h;unfold dE;rw [if_neg (by omega),if_neg (by omega)]
theorem Al {x:Int} (h:9223372036854775807<x):dE x=9223372036854775807:=by unfold dE;rw [if_neg (by omega),if_pos h]
theorem Ak {x:Int} (h:x < -9223372036854775808):dE x= -9223372036854775808:=by unfold dE;rw [if_pos h]
theorem BT {x:Int} (h:9223372036854775807<x) (h':x<=18446744073709551615):wrap64 x=x-18446744073709551616:=by unfold wrap64;omega
theorem uY {x:Int} (h:x < -9223372036854775808) (h': -18446744073709551616<=x):wrap64 x=x+18446744073709551616:=by unfold wrap64;omega
theorem oR {x:Int} (h:bM x):wrap64 x=x:=by unfold bM at h;unfold wrap64;omega
theorem IU {a b:Int} {c:Bool} (h:a=b):Ending.returned (.tuple #[.int .i64 a,.bool c])=.returned (.tuple #[.int .i64 b,.bool c]):=by rw [h]
theorem lD {a b:Int} (h:a=b):Ending.returned (.int .i64 a)=.returned (.int .i64 b):=by rw [h]
theorem oY {a b:Int} (ha:bM a) (h0:¬ b=0) (h:a= -9223372036854775808->¬ b= -1):bM (a.tdiv b):=by
 unfold bM at *;have e:(a.tdiv b).natAbs=a.natAbs / b.natAbs:=Int.natAbs_tdiv a b;by_cases h1:b=1
 · rw [h1,Int.tdiv_one];exact ha
 by_cases h2:b= -1
 · rw [h2,Int.tdiv_neg,Int.tdiv_one]
   have:¬ a= -9223372036854775808:=fun x=>h x h2
   omega
 have hb:2<=b.natAbs:=by omega
 have hle:a.natAbs / b.natAbs<=a.natAbs / 2:=Nat.div_le_div_left hb (by decide);rw [<- e] at hle;omega
theorem vE {a b:Int} (ha:a= -9223372036854775808) (hb:b= -1):(9223372036854775807:Int)=dE (a.tdiv b):=by
 rw [ha,hb];decide
theorem yR {a b:Int} (ha:a= -9223372036854775808) (h0:¬ b=0) (h:(b == -1)=false):wrap64 (-Int.tdiv 9223372036854775808 b)=dE (a.tdiv b):=by
 have hi:=oY (a:=a) (b:=b) ⟨by omega,by omega⟩ h0 (fun _=>by simpa using h);have e: -Int.tdiv 9223372036854775808 b=a.tdiv b:=by rw [ha,Int.neg_tdiv]
 rw [mP hi,e,oR hi]
theorem jC (b:Bool) (w:World):Calls Tryz.prog 109 #[.bool b] w fun e w'=>e=.returned (.int .i64 (if b then -9223372036854775808 else 9223372036854775807))/\w=w':=by
 cases b
 all_goals
  go_enter Tryz.func109,Tryz.ntmps109
  go_wp2_with fail
  go_ret;exact ⟨rfl,rfl⟩
theorem yL (a b:Int) (w:World) (ha:bM a) (hb:bM b):Calls Tryz.prog 62 #[.int .i64 a,.int .i64 b] w fun e w'=>e=.returned (.int .i64 (dE (a+b)))/\w=w':=by
 obtain ⟨a1,a2⟩:=ha;obtain ⟨b1,b2⟩:=hb;obtain ⟨s,hs⟩:∃ s,wrap64 (a+b)=s:=⟨_,rfl⟩;by_cases hi:9223372036854775807<a+b
 · have h1:decide (a<0)=false:=by simp;omega
   have h2:decide (b<0)=false:=by simp;omega
   have h3:decide (s<0)=true:=by rw [<- hs,BT hi (by omega)];simp;omega
   rw [Al hi];clear hi a1 a2 b1 b2;go_enter Tryz.func62,Tryz.ntmps62
   go_wp2_with (go_at_call 109;refine (jC _ _).mono ?_;rintro e w' ⟨rfl,rfl⟩)
   go_ret;exact ⟨rfl,rfl⟩
 by_cases lo:a+b < -9223372036854775808
 · have h1:decide (a<0)=true:=by simp;omega
   have h2:decide (b<0)=true:=by simp;omega
   have h3:decide (s<0)=false:=by rw [<- hs,uY lo (by omega)];simp;omega
   rw [Ak lo];clear hi lo a1 a2 b1 b2;go_enter Tryz.func62,Tryz.ntmps62
   go_wp2_with (go_at_call 109;refine (jC _ _).mono ?_;rintro e w' ⟨rfl,rfl⟩)
   go_ret;exact ⟨rfl,rfl⟩
 have hc:bM (a+b):=⟨by omega,by omega⟩;obtain rfl:a+b=s:=(oR hc).symm.trans hs;rw [mP hc];clear hs;obtain ⟨c1,c2⟩:=hc;by_cases x:a<0 <;> by_cases y:b<0 <;> by_cases z:a+b<0
 all_goals first | (exfalso;omega) | skip
 all_goals
  go_enter Tryz.func62,Tryz.ntmps62
  go_wp2_with fail
  go_ret;exact ⟨rfl,rfl⟩
theorem yI (a b:Int) (w:World) (ha:bM a) (hb:bM b):Calls Tryz.prog 198 #[.int .i64 a,.int .i64 b] w fun e w'=>e=.returned (.int .i64 (dE (a-b)))/\w=w':=by
 obtain ⟨a1,a2⟩:=ha;obtain ⟨b1,b2⟩:=hb;obtain ⟨s,hs⟩:∃ s,wrap64 (a-b)=s:=⟨_,rfl⟩;by_cases hi:9223372036854775807<a-b
 · have h1:decide (a<0)=false:=by simp;omega
   have h2:decide (b<0)=true:=by simp;omega
   have h3:decide (s<0)=true:=by rw [<- hs,BT hi (by omega)];simp;omega
   rw [Al hi];clear hi a1 a2 b1 b2;go_enter Tryz.func198,Tryz.ntmps198
   go_wp2_with (go_at_call 109;refine (jC _ _).mono ?_;rintro e w' ⟨rfl,rfl⟩)
   go_ret;exact ⟨rfl,rfl⟩
 by_cases lo:a-b < -9223372036854775808
 · have h1:decide (a<0)=true:=by simp;omega
   have h2:decide (b<0)=false:=by simp;omega
   have h3:decide (s<0)=false:=by rw [<- hs,uY lo (by omega)];simp;omega
   rw [Ak lo];clear hi lo a1 a2 b1 b2;go_enter Tryz.func198,Tryz.ntmps198
   go_wp2_with (go_at_call 109;refine (jC _ _).mono ?_;rintro e w' ⟨rfl,rfl⟩)
   go_ret;exact ⟨rfl,rfl⟩
 have hc:bM (a-b):=⟨by omega,by omega⟩;obtain rfl:a-b=s:=(oR hc).symm.trans hs;rw [mP hc];clear hs;obtain ⟨c1,c2⟩:=hc;by_cases x:a<0 <;> by_cases y:b<0 <;> by_cases z:a-b<0
 all_goals first | (exfalso;omega) | skip
 all_goals
  go_enter Tryz.func198,Tryz.ntmps198
  go_wp2_with fail
  go_ret;exact ⟨rfl,rfl⟩
theorem yK (a:Int) (w:World):Calls Tryz.prog 222 #[.int .i64 a,.int .i64 0] w fun e w'=>e=.returned (.tuple #[.int .i64 0,.bool false])/\w=w':=by
 go_enter Tryz.func222,Tryz.ntmps222
 go_wp2_with fail
 go_ret2;exact ⟨rfl,rfl⟩
theorem EY (a b:Int) (w:World) (ha:bM a) (hb:bM b) (h0:¬ b=0):Calls Tryz.prog 222 #[.int .i64 a,.int .i64 b] w fun e w'=>e=.returned (.tuple #[.int .i64 (dE (a.tdiv b)),.bool true])/\w=w':=by
 obtain ⟨a1,a2⟩:=ha;obtain ⟨b1,b2⟩:=hb;have h0':(b == 0)=false:=by simpa using h0
 go_enter Tryz.func222,Tryz.ntmps222
 go_wp2_with fail
 all_goals
  go_ret2;refine ⟨IU ?_,rfl⟩
  first
   | rfl
   | exact vE ‹_› (by have h:(b == -1)=true:= ‹_›;simpa using h)
   | exact yR ‹_› h0 ‹_›
   | (rw [mP (oY ⟨by omega, by omega⟩ h0 (fun h => absurd h ‹_›))]
      exact oR (oY ⟨by omega,by omega⟩ h0 (fun h=>absurd h ‹_›)))
   | (obtain rfl : b = -1 := by have h : (b == -1) = true := ‹_›; simpa using h
      rw [Int.tmod_neg,Int.tmod_one])
   | trace_state
theorem yJ (a:Int) (w:World):Calls Tryz.prog 223 #[.int .i64 a,.int .i64 0] w fun e w'=>e=.returned (.tuple #[.int .i64 0,.bool false])/\w=w':=by
 go_enter Tryz.func223,Tryz.ntmps223
 go_wp2_with fail
 go_ret2;exact ⟨rfl,rfl⟩
theorem EX (a b:Int) (w:World) (ha:bM a) (hb:bM b) (h0:¬ b=0):Calls Tryz.prog 223 #[.int .i64 a,.int .i64 b] w fun e w'=>e=.returned (.tuple #[.int .i64 (a.tmod b),.bool true])/\w=w':=by
 obtain ⟨a1,a2⟩:=ha;obtain ⟨b1,b2⟩:=hb;have h0':(b == 0)=false:=by simpa using h0
 go_enter Tryz.func223,Tryz.ntmps223
 go_wp2_with fail
 all_goals
  go_ret2;refine ⟨IU ?_,rfl⟩
  first
   | rfl
   | exact vE ‹_› (by have h:(b == -1)=true:= ‹_›;simpa using h)
   | exact yR ‹_› h0 ‹_›
   | (rw [mP (oY ⟨by omega, by omega⟩ h0 (fun h => absurd h ‹_›))]
      exact oR (oY ⟨by omega,by omega⟩ h0 (fun h=>absurd h ‹_›)))
   | (obtain rfl : b = -1 := by have h : (b == -1) = true := ‹_›; simpa using h
      rw [Int.tmod_neg,Int.tmod_one])
   | trace_state
theorem zH {a b:Int} (h:a=b):Ending.returned (.int .u64 a)=.returned (.int .u64 b):=by rw [h]
theorem IZ {a:Int} (h:a<0) (a1: -9223372036854775808<=a):IntKind.u64.wrap (-IntKind.u64.wrap a)=(a.natAbs:Nat):=by
 simp only [IntKind.wrap,IntKind.signed,IntKind.bits];simp;omega
theorem yZ (a:Int) (w:World) (ha:bM a):Calls Tryz.prog 237 #[.int .i64 a] w fun e w'=>e=.returned (.int .u64 (a.natAbs:Nat))/\w=w':=by
 obtain ⟨a1,a2⟩:=ha;by_cases h:a<0
 · go_enter Tryz.func237,Tryz.ntmps237
   go_wp2_with fail
   go_ret;exact ⟨zH (IZ h a1),rfl⟩
 · go_enter Tryz.func237,Tryz.ntmps237
   go_wp2_with fail
   go_ret;exact ⟨zH (by omega),rfl⟩
end
section
open Go.RowKit
theorem DG (x y:Nat) (hx:x<18446744073709551616) (hy:y<18446744073709551616) (H L:Int) (hH:((x*y / 18446744073709551616:Nat):Int)=H) (hL:((x*y % 18446744073709551616:Nat):Int)=L) (w:World) :
 Calls Tryz.prog 236 #[.int .u64 x,.int .u64 y] w fun e w'=>e=.returned (.tuple #[.int .u64 H,.int .u64 L])/\w=w':=by
 subst hH;subst hL;exact (Tryz.bits_Mul64 x y hx hy w).mono fun e w' ⟨h,k⟩=>⟨h,k.symm⟩
theorem AV (a b:Int):a*b=if a<0 then (if b<0 then ((a.natAbs*b.natAbs:Nat):Int) else -((a.natAbs*b.natAbs:Nat):Int)) else (if b<0 then -((a.natAbs*b.natAbs:Nat):Int) else ((a.natAbs*b.natAbs:Nat):Int)):=by
 rw [Int.natCast_mul];split <;> split
 · rw [show (a.natAbs:Int)= -a by omega,show (b.natAbs:Int)= -b by omega,Int.neg_mul_neg]
 · rw [show (a.natAbs:Int)= -a by omega,show (b.natAbs:Int)=b by omega,Int.neg_mul,Int.neg_neg]
 · rw [show (a.natAbs:Int)=a by omega,show (b.natAbs:Int)= -b by omega,Int.mul_neg,Int.neg_neg]
 · rw [show (a.natAbs:Int)=a by omega,show (b.natAbs:Int)=b by omega]
theorem vI {a b:Int} (h:a<0/\b<0\/0<=a/\0<=b):decide (a<0)=decide (b<0):=by
 rcases h with ⟨h,k⟩ | ⟨h,k⟩
 · rw [decide_eq_true h,decide_eq_true k]
 · rw [decide_eq_false (by omega),decide_eq_false (by omega)]
theorem tA {a b:Int} (h:a<0/\0<=b\/0<=a/\b<0):¬ decide (a<0)=decide (b<0):=by
 rcases h with ⟨h,k⟩ | ⟨h,k⟩
 · rw [decide_eq_true h,decide_eq_false (by omega)];decide
 · rw [decide_eq_false (by omega),decide_eq_true k];decide
theorem EW (a b:Int) (w:World) (ha:bM a) (hb:bM b):Calls Tryz.prog 221 #[.int .i64 a,.int .i64 b] w fun e w'=>e=.returned (.int .i64 (dE (a*b)))/\w=w':=by
 have hm:=AV a b;have hx:a.natAbs<18446744073709551616:=by unfold bM at ha;omega
 have hy:b.natAbs<18446744073709551616:=by unfold bM at hb;omega
 have hb':a.natAbs*b.natAbs<=9223372036854775808*9223372036854775808:=Nat.mul_le_mul (by unfold bM at ha;omega) (by unfold bM at hb;omega);obtain ⟨N,hN⟩:∃ N:Nat,a.natAbs*b.natAbs=N:=⟨_,rfl⟩;rw [hN] at hm hb';obtain ⟨H,hH⟩:∃ H:Int,((a.natAbs*b.natAbs / 18446744073709551616:Nat):Int)=H:=⟨_,rfl⟩;obtain ⟨L,hL⟩:∃ L:Int,((a.natAbs*b.natAbs % 18446744073709551616:Nat):Int)=L:=⟨_,rfl⟩;have hH':((N / 18446744073709551616:Nat):Int)=H:=by rw [<- hN];exact hH
 have hL':((N % 18446744073709551616:Nat):Int)=L:=by rw [<- hN];exact hL
 have C:=fun w=>DG a.natAbs b.natAbs hx hy H L hH hL w
 have A:=fun w=>yZ a w ha
 have B:=fun w=>yZ b w hb
 have R:dE (a*b)=if N<=9223372036854775807 then (if decide (a<0)=decide (b<0) then L else -L) else (if decide (a<0)=decide (b<0) then 9223372036854775807 else -9223372036854775808):=by
  rw [hm];by_cases a0:a<0 <;> by_cases b0:b<0 <;> simp only [a0,b0,if_true,if_false,decide_true,decide_false,Bool.false_eq_true,Bool.true_eq_false] <;> unfold dE <;> (repeat' split) <;> omega
 have c1:N<=9223372036854775807->H=0/\0<=L/\L<=9223372036854775807:=by omega
 have c2:¬ N<=9223372036854775807->H=0->9223372036854775807<L:=by omega
 have H0:0<=H:=by omega
 have H1:H<18446744073709551616:=by omega
 have L0:0<=L:=by omega
 have L1:L<18446744073709551616:=by omega
 have A1:=aA A;have B1:=aA B;have C1:=aA C;have R1:=aA R;clear A B C R hm hN hH hL hH' hL' ha hb;clear hb' hx hy;by_cases hn:N<=9223372036854775807
 · obtain ⟨rfl, -,k2⟩:=c1 hn
   clear c1 c2;by_cases a0:a<0 <;> by_cases b0:b<0
   all_goals
    go_enter Tryz.func221,Tryz.ntmps221
    go_wp2_with (first | (go_at_call 237;first | ((with_reducible refine (A1.out _).mono ?_);rintro e w' ⟨rfl,rfl⟩) | ((with_reducible refine (B1.out _).mono ?_);rintro e w' ⟨rfl,rfl⟩)) | (go_at_call 236;refine (C1.out _).mono ?_;rintro e w' ⟨rfl,rfl⟩) | (go_at_call 109;refine (jC _ _).mono ?_;rintro e w' ⟨rfl,rfl⟩))
    go_ret;refine ⟨lD ?_,rfl⟩;rw [R1.out,if_pos hn];clear R1 A1 B1 C1
    first
     | (rw [if_pos (vI (by omega))];done)
     | (rw [if_neg (tA (by omega))];done)
 · replace c2:=c2 hn
   clear c1;by_cases a0:a<0 <;> by_cases b0:b<0 <;> by_cases h0:H=0
   all_goals
    first
     | (have L2 := c2 h0
        subst h0)
     | (have h2 : (H == 0) = false := by simpa using h0
        have h3:(H != 0)=true:=by simpa using h0)
    clear c2;go_enter Tryz.func221,Tryz.ntmps221
    go_wp2_with (first | (go_at_call 237;first | ((with_reducible refine (A1.out _).mono ?_);rintro e w' ⟨rfl,rfl⟩) | ((with_reducible refine (B1.out _).mono ?_);rintro e w' ⟨rfl,rfl⟩)) | (go_at_call 236;refine (C1.out _).mono ?_;rintro e w' ⟨rfl,rfl⟩) | (go_at_call 109;refine (jC _ _).mono ?_;rintro e w' ⟨rfl,rfl⟩))
    go_ret;refine ⟨lD ?_,rfl⟩;rw [R1.out,if_neg hn];clear R1 A1 B1 C1
    first
     | (rw [if_pos (vI (by omega))];done)
     | (rw [if_neg (tA (by omega))];done)
end
section
open Go.RowKit
end
section
open Go.RowKit
end
section
open Go.RowKit
def MdF:F->Prop
 | .nil=>True
 | .cons _ m n ks r=>m.size<=8/\n<=9223372036854775807/\ks.len<=2/\MdF ks/\MdF r
def mdT (t:TN):Prop:=MdF t.f
theorem r9:mdT aR:=⟨by decide,by decide,by decide,trivial,trivial⟩
theorem Jm {v:Int} (h:v<=9223372036854775807):mdT (nX v):=⟨by show (0:Nat)<=8;decide,h,by show (0:Nat)<=2;decide,trivial,trivial⟩
theorem H6 {x:List UInt8} (h:x.length<=8):mdT (dL x):=⟨by show x.toArray.size<=8;rw [List.size_toArray];exact h,by show (0:Int)<=_;decide,by show (0:Nat)<=2;decide,trivial,trivial⟩
theorem Jn {k:TN} (h:mdT k):mdT (mI k):=⟨by show (0:Nat)<=8;decide,by show (0:Int)<=_;decide,by show (1:Nat)<=2;decide,h,trivial⟩
theorem FG {o:List UInt8} {a b:TN} (ha:mdT a) (hb:mdT b):mdT (fM o a b) :=
 ⟨by show (0:Nat)<=8;decide,by show (0:Int)<=_;decide,by show (2:Nat)<=2;decide,⟨ha.1,ha.2.1,ha.2.2.1,ha.2.2.2.1,hb⟩,trivial⟩
def Md.made:Md->Prop
 | .prodL n=>mdT n
 | .sumL n=>mdT n
 | _=>True
theorem f9 (L:List Tk) (hL:∀ t∈L,cI t):∀ (f:Nat) (md:Md) (s:RS),md.made->mdT (pr L f md s).1
 | 0,md,s,_=>r9
 | f + 1, .fac, s, _ => by
   rw [pr];by_cases hb:s.bad=0
   · rw [if_pos hb]
     cases e:L[s.pos]? with
     | none=>exact r9
     | some t =>
       have hg:=hL t (by rw [<- (List.getElem?_eq_some_iff.1 e).2];exact List.getElem_mem (List.getElem?_eq_some_iff.1 e).1);simp only;by_cases h2:t.kind=2
       · rw [if_pos h2]
         refine Jm ?_;rcases hg with ⟨h,_⟩ | ⟨_,_,h⟩ | h
         · rw [h] at h2;exact absurd h2 (by decide)
         · exact h
         · rw [h] at h2;exact absurd h2 (by decide)
       rw [if_neg h2];by_cases h1:t.kind=1
       · rw [if_pos h1]
         refine H6 ?_;rcases hg with ⟨_,h⟩ | ⟨h,_⟩ | h
         · exact tR h
         · rw [h] at h1;exact absurd h1 (by decide)
         · rw [h] at h1;exact absurd h1 (by decide)
       rw [if_neg h1];by_cases h45:t.text=[45]
       · rw [if_pos h45]
         exact Jn (f9 L hL f .fac _ trivial)
       rw [if_neg h45];by_cases h40:t.text=[40]
       · rw [if_pos h40]
         exact f9 L hL f .sum _ trivial
       rw [if_neg h40];exact r9
   · rw [if_neg hb];exact r9
 | f+1,.prod,s,_=>by rw [pr];exact f9 L hL f _ _ (f9 L hL f .fac s trivial)
 | f + 1, .prodL n, s, hn => by
   rw [pr];split
   · exact f9 L hL f _ _ (FG hn (f9 L hL f .fac _ trivial))
   · exact hn
 | f+1,.sum,s,_=>by rw [pr];exact f9 L hL f _ _ (f9 L hL f .prod s trivial)
 | f + 1, .sumL n, s, hn => by
   rw [pr];split
   · exact f9 L hL f _ _ (FG hn (f9 L hL f .prod _ trivial))
   · exact hn
theorem Fz {L:List Tk} (hL:∀ t∈L,cI t) {p q:Nat} {t:TN} (h:ofL L p=.ok t q):mdT t:=by
 unfold ofL at h;split at h
 · cases h
   exact f9 L hL _ _ _ trivial
 · cases h
theorem FH:∀ {f:F},MdF f->SzF f
 | .nil,_=>trivial
 | .cons _ _ _ _ _,h=>⟨by have:=h.1;omega,by have:=h.2.2.1;omega,FH h.2.2.2.1,FH h.2.2.2.2⟩
end
section
open Go.RowKit
def GX (t:TN):Prop:=∀ (G:Nat->Prop) (lb:Nat) (w:World) (a:Option Addr) (c l:Nat),l<=1000->GS t->(∀ b,G b->b ≠ lb)->WdE lb w->aI G w a t.ks->w.heap[lb]? = some (.cells #[.int .i64 l] 3 (0,0)) ->
 Calls Tryz.prog 167 #[.pointer (some ⟨lb,0,none⟩),bI t.op t.nm t.n a t.ks.len c,.func (.func 141) #[] #[]] w fun e w'=>aL (· = lb) w w' /\
  (aM t<=l->∃ v,e=.returned (.tuple #[v,.bool true])/\l5 (fun b=>w.heap.size<=b) w' t v) /\
  (aM t<=l->w'.heap[lb]? = some (.cells #[.int .i64 ((l-aM t:Nat):Int)] 3 (0,0))) /\
  (¬ aM t<=l->e=.returned (.tuple #[.int .i64 0,.bool false]))
theorem Bj (t:TN) (ih:dV GX t.ks):GX t:=by
 intro G lb w a c l hl hpre hG hwd hr hlb;obtain ⟨i0,hi,hz0,hz1,hz2⟩:=info_parts J3;have und:Tryz.prog.underlying 231=some (.slice 29):=Tryz.underlying231;have hlt:=(Array.getElem?_eq_some_iff.1 hlb).1;have IH:=aA ih;have R:=aA hr;have PRE:=aA hpre;have HG:=aA hG;have WD:=aA hwd;have BA:=(Below.refl w.heap.size w).alloc (Nat.le_refl _) (ndG t.op t.nm t.n a t.ks.len c);have NB:=heap_alloc_new w (ndG t.op t.nm t.n a t.ks.len c);have LB1:=(BA.block lb hlt).trans hlb;have hs0:(w.alloc (ndG t.op t.nm t.n a t.ks.len c)).heap.size=w.heap.size+1:=World.size_alloc _ _;generalize hW:w.alloc (ndG t.op t.nm t.n a t.ks.len c)=W at BA NB LB1 hs0;have HW:=aA hW;have hsize:aM t=1+bL t.ks:=rfl;have hlen:=kT t.ks;have K1:=(aE BA (· = lb)).setCell (p:=⟨lb,0,none⟩) (.inl rfl) (.int .i64 ((l:Int)-1));have LB2:=xI LB1 (.int .i64 ((l:Int)-1));have NB2:=((aL.refl (· = lb) W).setCell (p:=⟨lb,0,none⟩) (.inl rfl) (.int .i64 ((l:Int)-1))).heap NB (by omega);have hs1:(W.setCell ⟨lb,0,none⟩ (.int .i64 ((l:Int)-1))).heap.size=w.heap.size+1:=by rw [World.size_setCell];exact hs0
 obtain ⟨lc,lf⟩:=gB LB1;by_cases hstop:(l:Int)-1<(t.ks.len:Int)
 · have P:=aA (show ¬ aM t<=l by omega)
   generalize hV:W.setCell ⟨lb,0,none⟩ (.int .i64 ((l:Int)-1))=V at K1 LB2 NB2 hs1;have HV:=aA hV;obtain ⟨lc2, -⟩:=gB LB2;obtain ⟨⟨m0,m1,m2,m3⟩, -⟩:=aO NB2;have HK1:=aA K1;clear hr hpre hG ih hwd hlb hW hV K1 LB1 LB2 NB NB2 BA hsize;go_enter Tryz.func167,Tryz.ntmps167
   go_upto_region 2 with fail
   rw [HW.out];go_upto_region 3 with fail
   rw [HV.out];go_wp2_with (go_quiet (fail))
   go_ret2;exact ⟨HK1.out.drewN _,fun h=>absurd h P.out,fun h=>absurd h P.out,fun _=>rfl⟩
 · obtain ⟨l',rfl⟩:∃ l',l=l'+1:=⟨l-1,by omega⟩
   have hcast:(((l'+1:Nat):Int)-1)=(l':Int):=by omega
   rw [hcast] at K1 LB2 NB2 hs1 hstop;generalize hV:W.setCell ⟨lb,0,none⟩ (.int .i64 (l':Int))=V at K1 LB2 NB2 hs1;have HV:=aA hV;obtain ⟨lc2, -⟩:=gB LB2;obtain ⟨⟨m0,m1,m2,m3⟩, -⟩:=aO NB2;have HK1:=aA K1;have HLB:=aA LB2;have HNB:=aA NB2;have hll:t.ks.len<=l':=by omega
   have b9:¬ (l':Int)<(t.ks.len:Int):=hstop;clear hr hpre hG ih hwd hlb hW hV K1 LB1 LB2 NB NB2 BA hstop hcast;go_enter Tryz.func167,Tryz.ntmps167
   go_upto_region 2 with fail
   rw [HW.out];go_upto_region 3 with fail
   rw [HV.out];go_upto_region 5 with (go_quiet (fail))
   have HK2:=aA (HK1.out.drewN nq);have HLB2:=aA (show (V.drewN nq).heap[lb]? = _ from HLB.out);have HNB2:=aA (show (V.drewN nq).heap[w.heap.size]? = _ from HNB.out);have hsV:(V.drewN nq).heap.size=w.heap.size+1:=hs1;have n3:(V.drewN nq).cell? ⟨w.heap.size,3,none⟩=some (.slice a t.ks.len c):=m3;generalize V.drewN nq=U at HK2 HLB2 HNB2 hsV n3 |-
   clear m0 m1 m2 m3 lc lf lc2 HW HV HK1 HLB HNB;go_wp2_with fail
   go_loopw [9,30] (fun kv i wr=>∃ (k x:Nat) (va:Option Addr) (vc:Nat) (vs:List Value),kv=.slice va k vc/\i=.int .i64 k/\k<=t.ks.len/\x+bL t.ks=l'+bL (t.ks.drop k)/\Hid (wr.ownsRow (w.heap.size+1) 29 1 (.slice va k vc) k vs) /\
    Hid (∀ j t2,j<k->t.ks.at j=some t2->∃ v,vs[j]? = some v/\l5 (fun b=>w.heap.size+1<=b/\(Value.slice va k vc).ownBlock ≠ some b) wr t2 v)/\Hid (wr.heap[lb]? = some (.cells #[.int .i64 x] 3 (0,0)))/\Hid (aL (· = lb) w wr)/\Hid (wr.heap[w.heap.size]? = some (ndG t.op t.nm t.n a t.ks.len c))) (fun _ i _=>t.ks.len-(intOf i).toNat)
   case atStart=>exact ⟨0,l',none,0,[],rfl,rfl,Nat.zero_le _,by rw [F.drop_zero],aA (World.ownsRow_nil _ _ _ _),aA (fun _ _ h=>absurd h (Nat.not_lt_zero _)),HLB2,HK2,HNB2⟩
   case round =>
    obtain ⟨k,x,va,vc,vs,rfl,rfl,hk,hx,hO,hV,hL,hK,hN⟩:=hrel;clear n3;obtain ⟨⟨m0,m1,m2,m3⟩, -⟩:=aO hN.out;have hz:=hK.out.size;by_cases hkl:k<t.ks.len
    · obtain ⟨t2,hat, -⟩:=dC hkl
      have hsd:=kG hat;have hdl:=e7 t.ks k;obtain ⟨b,off,a2,c2,ha,hGb,hbl,⟨p0,p1,p2,p3⟩,hr2⟩:=bR (R.out.keptS hK.out (fun q hq hg=>HG.out q hg hq)) hat;subst ha;have hN1:w.heap.size<wr.heap.size:=(Array.getElem?_eq_some_iff.1 hN.out).1;have BA:=(Below.refl wr.heap.size wr).alloc (Nat.le_refl _) (ndG t2.op t2.nm t2.n a2 t2.ks.len c2);have NB:=heap_alloc_new wr (ndG t2.op t2.nm t2.n a2 t2.ks.len c2);have hs2:(wr.alloc (ndG t2.op t2.nm t2.n a2 t2.ks.len c2)).heap.size=wr.heap.size+1:=World.size_alloc _ _;generalize hX:wr.alloc (ndG t2.op t2.nm t2.n a2 t2.ks.len c2)=Z at BA NB hs2;have HX:=aA hX;have CF:=aA ((dV.at IH.out hat) G lb Z a2 c2 x (by omega) (JS PRE.out hat) HG.out (wdE WD.out (hK.out.trans (aE BA (· = lb)) (fun _ h _=>h))) (hr2.kept BA) ((BA.block lb (by omega)).trans hL.out));have HAT:=aA hat;have HBA:=aA BA;have OZ:=aA (bO hO.out BA);obtain ⟨⟨z0,z1,z2,z3⟩, -⟩:=aO NB;clear hX BA NB hr2 hat hGb;go_upto_region 9 with fail
      rw [HX.out];clear p0 p1 p2 p3 m0 m1 m2 m3;go_wp2_with fail
      refine CF.out.mono ?_;rintro e w2 ⟨k2,hA1,hA2,hB⟩;have hzk2:=k2.size;have K2:=aA (hK.out.trans ((aE HBA.out (· = lb)).trans k2 (fun _ h _=>h)) (fun _ h _=>h));have N2:=aA (k2.heap ((HBA.out.block w.heap.size (by omega)).trans hN.out) (by omega));by_cases hfit:aM t2<=x
      · obtain ⟨v,rfl,hv⟩:=hA1 hfit
        obtain ⟨z,rfl⟩:=I7 hv;have L2:=aA (hA2 hfit);have O2:=aA (dY (row:=some lb) OZ.out (k2.mono (fun i hi _=>by rw [hi])) (fun q hq e=>by have:=(OZ.out.lt q hq).1;have:=Option.some.inj e;omega));have HVV:=aA hv;have hx2:(x-aM t2)+bL t.ks=l'+bL (t.ks.drop (k+1)):=by omega
        have hksz:k+1<=1000:=by omega
        have vone:∀ u∈[(Value.int .i64 z)],u.oneCell'=true:=fun u hu=>by rw [List.mem_singleton.1 hu];exact Kc hv
        clear CF hA1 hA2 hB hv hfit z0 z1 z2 z3;go_upto_region 12 with fail
        have BN:=(Below.refl w2.heap.size w2).alloc (Nat.le_refl _) (.cells #[(Value.int .i64 z)] 29)
        have F2:=aA (show ∀ j u,[(Value.int .i64 z)][j]? = some u->(w2.alloc (.cells #[(Value.int .i64 z)] 29)).cell? ((⟨w2.heap.size,0,none⟩:Addr).add j)=some u from fun j u hj=>by
         rw [Addr.add_lit,Nat.zero_add,cell_of_row _ _ _ _ _ (0,0) (heap_alloc_new w2 _)];simpa using hj)
        have HBN:=aA BN;clear BN;go_wp2_with (at_builtin;refine aY rfl _ _ 231 rfl und hi hz0 hz1 hz2 rfl (by decide) (.slice va k vc) k 1 1 ⟨w2.heap.size,0,none⟩ vs [(Value.int .i64 z)] rfl rfl (bO O2.out HBN.out) rfl F2.out vone (by unfold maxLen;omega) (by omega) (by rw [World.size_alloc];omega) ?_)
        intro v3 w3 ho hg hq;obtain ⟨va3,vc3,rfl⟩:=fE ho;have kg:aL (fun b=>(Value.slice va k vc).ownBlock=some b) w2 w3:=((aL.refl _ w2).alloc _).grown hg (fun q hq=>.inl hq);have hov:∀ q,(Value.slice va k vc).ownBlock=some q->w.heap.size+1<=q/\q<w2.heap.size:=fun q hq=>by have:=O2.out.lt q hq;omega
        have O3:=aA ho;have L3:=aA (kg.heap L2.out (fun e=>by have:=hov lb e;omega));have K3:=aA (K2.out.trans (kg.mono (T:=fun b=>w.heap.size+1<=b) (fun i hi _=>(hov i hi).1)) (fun i hi hlt=>by omega));have N3:=aA (kg.heap N2.out (fun e=>by have:=hov _ e;omega))
        have hnewb:∀ b,b<w2.heap.size->(Value.slice va k vc).ownBlock ≠ some b->(Value.slice va3 (k+1) vc3).ownBlock ≠ some b:=fun b hb hne e=>by
         rcases hq b e with h1 | h1
         · exact hne h1
         · omega
        have V3:=aA (show ∀ j t3,j<k+1->t.ks.at j=some t3->∃ u,(vs++[(Value.int .i64 z)])[j]? = some u/\l5 (fun b=>w.heap.size+1<=b/\(Value.slice va3 (k+1) vc3).ownBlock ≠ some b) w3 t3 u from fun j t3 hj hjt=>by
         have hvl:vs.length=k:=by have:=hO.out.1;rwa [Nat.mul_one] at this
         by_cases hjk:j<k
         · obtain ⟨u,hu,hru⟩:=hV.out j t3 hjk hjt
           refine ⟨u,by rw [List.getElem?_append_left (by omega)];exact hu,?_⟩;have r1:=lF (lF hru (aE HBA.out (fun _=>False)) (fun _ h=>h.elim)) k2 (fun q hq hg=>by have:=hg.1;omega);have r2:=kN (H:=fun b=>(w.heap.size+1<=b/\(Value.slice va k vc).ownBlock ≠ some b)/\(Value.slice va3 (k+1) vc3).ownBlock ≠ some b) r1 (fun b hb hg=>⟨hg,hnewb b hb hg.2⟩);exact kN (lF r2 kg (fun q hq hg=>hg.1.2 hq)) (fun b hb hg=>⟨hg.1.1,hg.2⟩)
         · obtain rfl:j=k:=by omega
           have:t3=t2:=by rw [HAT.out] at hjt;exact (Option.some.inj hjt).symm
           subst this;refine ⟨_,by rw [List.getElem?_append_right (by omega),hvl,Nat.sub_self];rfl,?_⟩
           have r2:=kN (H:=fun b=>(w.heap.size+1<=b/\(Value.slice va j vc).ownBlock ≠ some b)/\(Value.slice va3 (j+1) vc3).ownBlock ≠ some b) HVV.out (fun b hb hg=>by
            have hne:(Value.slice va j vc).ownBlock ≠ some b:=fun e=>by have:=(OZ.out.lt b e).2;omega
            exact ⟨⟨by omega,hne⟩,hnewb b hb hne⟩)
           exact kN (lF r2 kg (fun q hq hg=>hg.1.2 hq)) (fun b hb hg=>⟨hg.1.1,hg.2⟩))
        clear ho hg hq kg hov hnewb;go_wp2_with fail
        go_roundw
        case rel=>exact ⟨k+1,x-aM t2,va3,vc3,vs++[(Value.int .i64 z)],rfl,by go_num,by omega,hx2,O3,V3,L3,K3,N3⟩
        case measure=>simp [intOf];omega
      · obtain rfl:=hB hfit
        have P:=aA (show ¬ aM t<=l'+1 by omega);clear CF hA1 hA2 hB hfit z0 z1 z2 z3;go_wp2_with fail
        go_ret2;exact ⟨K2.out,fun h=>absurd h P.out,fun h=>absurd h P.out,fun _=>rfl⟩
    · obtain rfl:k=t.ks.len:=by omega
      have hx2:x+bL t.ks=l':=by rw [hx,F.drop_len _ _ (Nat.le_refl _)];rfl
      have CO:=aA (Hy t wr G a c va vc vs (w.heap.size+1) PRE.out (wdE WD.out hK.out) (R.out.keptS hK.out (fun q hq hg=>HG.out q hg hq)) hO.out (fun j t2 hj=>hV.out j t2 (Gw hj) hj));go_wp2_with fail
      refine CO.out.mono ?_;rintro e w2 ⟨v,rfl,hv,hb⟩
      have P:=aA (show aL (· = lb) w w2/\l5 (fun b=>w.heap.size<=b) w2 t v/\w2.heap[lb]? = some (.cells #[.int .i64 ((l'+1-aM t:Nat):Int)] 3 (0,0))/\aM t<=l'+1 from
       ⟨hK.out.trans (aE hb (· = lb)) (fun _ h _=>h),kN hv (fun b _ hg=>by omega),by rw [hb.block lb (by omega),hL.out,show x=l'+1-aM t by omega],by omega⟩)
      clear hv hb CO m0 m1 m2 m3;go_wp2_with fail
      go_ret2;exact ⟨P.out.1,fun _=>⟨v,rfl,P.out.2.1⟩,fun _=>P.out.2.2.1,fun h=>absurd P.out.2.2.2 h⟩
theorem Ek (t:TN):GX t:=jZ Bj t
theorem Ej (t:TN) (G:Nat->Prop) (w:World) (a:Option Addr) (c:Nat) (hpre:GS t) (hwd:∀ lb,w.heap.size<=lb->WdE lb w) (hr:aI G w a t.ks) :
 Calls Tryz.prog 140 #[bI t.op t.nm t.n a t.ks.len c,.func (.func 141) #[] #[]] w fun e w'=>Below w.heap.size w w' /\
  (aM t<=32->∃ v,e=.returned (.tuple #[v,.bool true])/\l5 (fun b=>w.heap.size<=b) w' t v)/\(¬ aM t<=32->e=.returned (.tuple #[.int .i64 0,.bool false])):=by
 have BA:=(Below.refl w.heap.size w).alloc (Nat.le_refl _) (ndG t.op t.nm t.n a t.ks.len c);have NB:=heap_alloc_new w (ndG t.op t.nm t.n a t.ks.len c);have hs0:(w.alloc (ndG t.op t.nm t.n a t.ks.len c)).heap.size=w.heap.size+1:=World.size_alloc _ _;generalize hW:w.alloc (ndG t.op t.nm t.n a t.ks.len c)=W at BA NB hs0;have BB:=(Below.refl W.heap.size W).alloc (Nat.le_refl _) (.cells #[.int .i64 32] 3);have NC:=heap_alloc_new W (.cells #[.int .i64 32] 3);have hs1:(W.alloc (.cells #[.int .i64 32] 3)).heap.size=w.heap.size+2:=by rw [World.size_alloc];omega
 generalize hV:W.alloc (.cells #[.int .i64 32] 3)=V at BB NC hs1;rw [hs0] at NC;have BV:=BA.trans (BB.mono (by omega));have N2:=(BB.block w.heap.size (by omega)).trans NB;have hGlt:=hr.imp (H:=fun b=>G b/\b<w.heap.size) (fun b hb hg=>⟨hg,hb⟩);have CF:=aA (Ek t (fun b=>G b/\b<w.heap.size) (w.heap.size+1) V a c 32 (by omega) hpre (fun b hg=>by omega) (wdE (hwd (w.heap.size+1) (by omega)) (aE BV (fun _=>False) |>.mono (fun _ h _=>h.elim):aL (· = w.heap.size+1) w V)) (hGlt.keptS (aE BV (fun _=>False)) (fun _ h=>h.elim)) NC);have HW:=aA hW;have HV:=aA hV;have HB:=aA BV;obtain ⟨⟨m0,m1,m2,m3⟩, -⟩:=aO N2;clear hW hV BA NB BB NC BV N2 hGlt hr hpre hwd;go_enter Tryz.func140,Tryz.ntmps140
 go_upto_region 1 with fail
 rw [HW.out];go_upto_region 2 with fail
 rw [HV.out];go_wp2_with fail
 refine CF.out.mono ?_;rintro e w2 ⟨k2,hA, -,hB⟩;have B2:=aA (HB.out.trans (aL.below k2 (B:=w.heap.size) (fun q hq=>by omega) (by omega)));by_cases h32:aM t<=32
 · obtain ⟨v,rfl,hv⟩:=hA h32
   have HR:=aA (kN hv (H:=fun b=>w.heap.size<=b) (fun b _ hg=>by omega));have H32:=aA h32;clear k2 hA hB hv h32 CF m0 m1 m2 m3;go_wp2_with fail
   go_ret2;exact ⟨B2.out,fun _=>⟨v,rfl,HR.out⟩,fun h=>absurd H32.out h⟩
 · obtain rfl:=hB h32
   have H32:=aA h32;clear k2 hA hB h32 CF m0 m1 m2 m3;go_wp2_with fail
   go_ret2;exact ⟨B2.out,fun h=>absurd h H32.out,fun _=>rfl⟩
end
end
section
section
open Go.RowKit
def GV (t:TN):Prop:=∀ (G:Nat->Prop) (lb:Nat) (w:World) (a:Option Addr) (c l:Nat),l<=1000->GR t->(∀ b,G b->b ≠ lb)->WdT lb w->aI G w a t.ks->w.heap[lb]? = some (.cells #[.int .i64 l] 3 (0,0)) ->
 Calls Tryz.prog 146 #[.pointer (some ⟨lb,0,none⟩),bI t.op t.nm t.n a t.ks.len c,.func (.func 102) #[] #[]] w fun e w'=>aL (· = lb) w w' /\
  (aM t<=l->∃ v,e=.returned (.tuple #[v,.bool true])/\l4 (fun b=>w.heap.size<=b) w' t v) /\
  (aM t<=l->w'.heap[lb]? = some (.cells #[.int .i64 ((l-aM t:Nat):Int)] 3 (0,0))) /\
  (¬ aM t<=l->e=.returned (.tuple #[.string ⟨#[]⟩,.bool false]))
theorem Bh (t:TN) (ih:dV GV t.ks):GV t:=by
 intro G lb w a c l hl hpre hG hwd hr hlb;obtain ⟨i0,hi,hz0,hz1,hz2⟩:=info_parts JY;have und:Tryz.prog.underlying 118=some (.slice 9):=Tryz.underlying118;have hlt:=(Array.getElem?_eq_some_iff.1 hlb).1;have IH:=aA ih;have R:=aA hr;have PRE:=aA hpre;have HG:=aA hG;have WD:=aA hwd;have BA:=(Below.refl w.heap.size w).alloc (Nat.le_refl _) (ndG t.op t.nm t.n a t.ks.len c);have NB:=heap_alloc_new w (ndG t.op t.nm t.n a t.ks.len c);have LB1:=(BA.block lb hlt).trans hlb;have hs0:(w.alloc (ndG t.op t.nm t.n a t.ks.len c)).heap.size=w.heap.size+1:=World.size_alloc _ _;generalize hW:w.alloc (ndG t.op t.nm t.n a t.ks.len c)=W at BA NB LB1 hs0;have HW:=aA hW;have hsize:aM t=1+bL t.ks:=rfl;have hlen:=kT t.ks;have K1:=(aE BA (· = lb)).setCell (p:=⟨lb,0,none⟩) (.inl rfl) (.int .i64 ((l:Int)-1));have LB2:=xI LB1 (.int .i64 ((l:Int)-1));have NB2:=((aL.refl (· = lb) W).setCell (p:=⟨lb,0,none⟩) (.inl rfl) (.int .i64 ((l:Int)-1))).heap NB (by omega);have hs1:(W.setCell ⟨lb,0,none⟩ (.int .i64 ((l:Int)-1))).heap.size=w.heap.size+1:=by rw [World.size_setCell];exact hs0
 obtain ⟨lc,lf⟩:=gB LB1;by_cases hstop:(l:Int)-1<(t.ks.len:Int)
 · have P:=aA (show ¬ aM t<=l by omega)
   generalize hV:W.setCell ⟨lb,0,none⟩ (.int .i64 ((l:Int)-1))=V at K1 LB2 NB2 hs1;have HV:=aA hV;obtain ⟨lc2, -⟩:=gB LB2;obtain ⟨⟨m0,m1,m2,m3⟩, -⟩:=aO NB2;have HK1:=aA K1;clear hr hpre hG ih hwd hlb hW hV K1 LB1 LB2 NB NB2 BA hsize;go_enter Tryz.func146,Tryz.ntmps146
   go_upto_region 2 with fail
   rw [HW.out];go_upto_region 3 with fail
   rw [HV.out];go_wp2_with (go_quiet (fail))
   go_ret2;exact ⟨HK1.out.drewN _,fun h=>absurd h P.out,fun h=>absurd h P.out,fun _=>rfl⟩
 · obtain ⟨l',rfl⟩:∃ l',l=l'+1:=⟨l-1,by omega⟩
   have hcast:(((l'+1:Nat):Int)-1)=(l':Int):=by omega
   rw [hcast] at K1 LB2 NB2 hs1 hstop;generalize hV:W.setCell ⟨lb,0,none⟩ (.int .i64 (l':Int))=V at K1 LB2 NB2 hs1;have HV:=aA hV;obtain ⟨lc2, -⟩:=gB LB2;obtain ⟨⟨m0,m1,m2,m3⟩, -⟩:=aO NB2;have HK1:=aA K1;have HLB:=aA LB2;have HNB:=aA NB2;have hll:t.ks.len<=l':=by omega
   have b9:¬ (l':Int)<(t.ks.len:Int):=hstop;clear hr hpre hG ih hwd hlb hW hV K1 LB1 LB2 NB NB2 BA hstop hcast;go_enter Tryz.func146,Tryz.ntmps146
   go_upto_region 2 with fail
   rw [HW.out];go_upto_region 3 with fail
   rw [HV.out];go_upto_region 5 with (go_quiet (fail))
   have HK2:=aA (HK1.out.drewN nq);have HLB2:=aA (show (V.drewN nq).heap[lb]? = _ from HLB.out);have HNB2:=aA (show (V.drewN nq).heap[w.heap.size]? = _ from HNB.out);have hsV:(V.drewN nq).heap.size=w.heap.size+1:=hs1;have n3:(V.drewN nq).cell? ⟨w.heap.size,3,none⟩=some (.slice a t.ks.len c):=m3;generalize V.drewN nq=U at HK2 HLB2 HNB2 hsV n3 |-
   clear m0 m1 m2 m3 lc lf lc2 HW HV HK1 HLB HNB;go_wp2_with fail
   go_loopw [9,30] (fun kv i wr=>∃ (k x:Nat) (va:Option Addr) (vc:Nat) (vs:List Value),kv=.slice va k vc/\i=.int .i64 k/\k<=t.ks.len/\x+bL t.ks=l'+bL (t.ks.drop k)/\Hid (wr.ownsRow (w.heap.size+1) 9 1 (.slice va k vc) k vs) /\
    Hid (∀ j t2,j<k->t.ks.at j=some t2->∃ v,vs[j]? = some v/\l4 (fun b=>w.heap.size+1<=b/\(Value.slice va k vc).ownBlock ≠ some b) wr t2 v)/\Hid (wr.heap[lb]? = some (.cells #[.int .i64 x] 3 (0,0)))/\Hid (aL (· = lb) w wr)/\Hid (wr.heap[w.heap.size]? = some (ndG t.op t.nm t.n a t.ks.len c))) (fun _ i _=>t.ks.len-(intOf i).toNat)
   case atStart=>exact ⟨0,l',none,0,[],rfl,rfl,Nat.zero_le _,by rw [F.drop_zero],aA (World.ownsRow_nil _ _ _ _),aA (fun _ _ h=>absurd h (Nat.not_lt_zero _)),HLB2,HK2,HNB2⟩
   case round =>
    obtain ⟨k,x,va,vc,vs,rfl,rfl,hk,hx,hO,hV,hL,hK,hN⟩:=hrel;clear n3;obtain ⟨⟨m0,m1,m2,m3⟩, -⟩:=aO hN.out;have hz:=hK.out.size;by_cases hkl:k<t.ks.len
    · obtain ⟨t2,hat, -⟩:=dC hkl
      have hsd:=kG hat;have hdl:=e7 t.ks k;obtain ⟨b,off,a2,c2,ha,hGb,hbl,⟨p0,p1,p2,p3⟩,hr2⟩:=bR (R.out.keptS hK.out (fun q hq hg=>HG.out q hg hq)) hat;subst ha;have hN1:w.heap.size<wr.heap.size:=(Array.getElem?_eq_some_iff.1 hN.out).1;have BA:=(Below.refl wr.heap.size wr).alloc (Nat.le_refl _) (ndG t2.op t2.nm t2.n a2 t2.ks.len c2);have NB:=heap_alloc_new wr (ndG t2.op t2.nm t2.n a2 t2.ks.len c2);have hs2:(wr.alloc (ndG t2.op t2.nm t2.n a2 t2.ks.len c2)).heap.size=wr.heap.size+1:=World.size_alloc _ _;generalize hX:wr.alloc (ndG t2.op t2.nm t2.n a2 t2.ks.len c2)=Z at BA NB hs2;have HX:=aA hX;have CF:=aA ((dV.at IH.out hat) G lb Z a2 c2 x (by omega) (JQ PRE.out hat) HG.out (wdT WD.out (hK.out.trans (aE BA (· = lb)) (fun _ h _=>h))) (hr2.kept BA) ((BA.block lb (by omega)).trans hL.out));have HAT:=aA hat;have HBA:=aA BA;have OZ:=aA (bO hO.out BA);obtain ⟨⟨z0,z1,z2,z3⟩, -⟩:=aO NB;clear hX BA NB hr2 hat hGb;go_upto_region 9 with fail
      rw [HX.out];clear p0 p1 p2 p3 m0 m1 m2 m3;go_wp2_with fail
      refine CF.out.mono ?_;rintro e w2 ⟨k2,hA1,hA2,hB⟩;have hzk2:=k2.size;have K2:=aA (hK.out.trans ((aE HBA.out (· = lb)).trans k2 (fun _ h _=>h)) (fun _ h _=>h));have N2:=aA (k2.heap ((HBA.out.block w.heap.size (by omega)).trans hN.out) (by omega));by_cases hfit:aM t2<=x
      · obtain ⟨v,rfl,hv⟩:=hA1 hfit
        obtain ⟨z,rfl⟩:=I5 hv;have L2:=aA (hA2 hfit);have O2:=aA (dY (row:=some lb) OZ.out (k2.mono (fun i hi _=>by rw [hi])) (fun q hq e=>by have:=(OZ.out.lt q hq).1;have:=Option.some.inj e;omega));have HVV:=aA hv;have hx2:(x-aM t2)+bL t.ks=l'+bL (t.ks.drop (k+1)):=by omega
        have hksz:k+1<=1000:=by omega
        have vone:∀ u∈[(Value.string z)],u.oneCell'=true:=fun u hu=>by rw [List.mem_singleton.1 hu];exact Ka hv
        clear CF hA1 hA2 hB hv hfit z0 z1 z2 z3;go_upto_region 12 with fail
        have BN:=(Below.refl w2.heap.size w2).alloc (Nat.le_refl _) (.cells #[(Value.string z)] 9)
        have F2:=aA (show ∀ j u,[(Value.string z)][j]? = some u->(w2.alloc (.cells #[(Value.string z)] 9)).cell? ((⟨w2.heap.size,0,none⟩:Addr).add j)=some u from fun j u hj=>by
         rw [Addr.add_lit,Nat.zero_add,cell_of_row _ _ _ _ _ (0,0) (heap_alloc_new w2 _)];simpa using hj)
        have HBN:=aA BN;clear BN;go_wp2_with (at_builtin;refine aY rfl _ _ 118 rfl und hi hz0 hz1 hz2 rfl (by decide) (.slice va k vc) k 1 1 ⟨w2.heap.size,0,none⟩ vs [(Value.string z)] rfl rfl (bO O2.out HBN.out) rfl F2.out vone (by unfold maxLen;omega) (by omega) (by rw [World.size_alloc];omega) ?_)
        intro v3 w3 ho hg hq;obtain ⟨va3,vc3,rfl⟩:=fE ho;have kg:aL (fun b=>(Value.slice va k vc).ownBlock=some b) w2 w3:=((aL.refl _ w2).alloc _).grown hg (fun q hq=>.inl hq);have hov:∀ q,(Value.slice va k vc).ownBlock=some q->w.heap.size+1<=q/\q<w2.heap.size:=fun q hq=>by have:=O2.out.lt q hq;omega
        have O3:=aA ho;have L3:=aA (kg.heap L2.out (fun e=>by have:=hov lb e;omega));have K3:=aA (K2.out.trans (kg.mono (T:=fun b=>w.heap.size+1<=b) (fun i hi _=>(hov i hi).1)) (fun i hi hlt=>by omega));have N3:=aA (kg.heap N2.out (fun e=>by have:=hov _ e;omega))
        have hnewb:∀ b,b<w2.heap.size->(Value.slice va k vc).ownBlock ≠ some b->(Value.slice va3 (k+1) vc3).ownBlock ≠ some b:=fun b hb hne e=>by
         rcases hq b e with h1 | h1
         · exact hne h1
         · omega
        have V3:=aA (show ∀ j t3,j<k+1->t.ks.at j=some t3->∃ u,(vs++[(Value.string z)])[j]? = some u/\l4 (fun b=>w.heap.size+1<=b/\(Value.slice va3 (k+1) vc3).ownBlock ≠ some b) w3 t3 u from fun j t3 hj hjt=>by
         have hvl:vs.length=k:=by have:=hO.out.1;rwa [Nat.mul_one] at this
         by_cases hjk:j<k
         · obtain ⟨u,hu,hru⟩:=hV.out j t3 hjk hjt
           refine ⟨u,by rw [List.getElem?_append_left (by omega)];exact hu,?_⟩;have r1:=lE (lE hru (aE HBA.out (fun _=>False)) (fun _ h=>h.elim)) k2 (fun q hq hg=>by have:=hg.1;omega);have r2:=kK (H:=fun b=>(w.heap.size+1<=b/\(Value.slice va k vc).ownBlock ≠ some b)/\(Value.slice va3 (k+1) vc3).ownBlock ≠ some b) r1 (fun b hb hg=>⟨hg,hnewb b hb hg.2⟩);exact kK (lE r2 kg (fun q hq hg=>hg.1.2 hq)) (fun b hb hg=>⟨hg.1.1,hg.2⟩)
         · obtain rfl:j=k:=by omega
           have:t3=t2:=by rw [HAT.out] at hjt;exact (Option.some.inj hjt).symm
           subst this;refine ⟨_,by rw [List.getElem?_append_right (by omega),hvl,Nat.sub_self];rfl,?_⟩
           have r2:=kK (H:=fun b=>(w.heap.size+1<=b/\(Value.slice va j vc).ownBlock ≠ some b)/\(Value.slice va3 (j+1) vc3).ownBlock ≠ some b) HVV.out (fun b hb hg=>by
            have hne:(Value.slice va j vc).ownBlock ≠ some b:=fun e=>by have:=(OZ.out.lt b e).2;omega
            exact ⟨⟨by omega,hne⟩,hnewb b hb hne⟩)
           exact kK (lE r2 kg (fun q hq hg=>hg.1.2 hq)) (fun b hb hg=>⟨hg.1.1,hg.2⟩))
        clear ho hg hq kg hov hnewb;go_wp2_with fail
        go_roundw
        case rel=>exact ⟨k+1,x-aM t2,va3,vc3,vs++[(Value.string z)],rfl,by go_num,by omega,hx2,O3,V3,L3,K3,N3⟩
        case measure=>simp [intOf];omega
      · obtain rfl:=hB hfit
        have P:=aA (show ¬ aM t<=l'+1 by omega);clear CF hA1 hA2 hB hfit z0 z1 z2 z3;go_wp2_with fail
        go_ret2;exact ⟨K2.out,fun h=>absurd h P.out,fun h=>absurd h P.out,fun _=>rfl⟩
    · obtain rfl:k=t.ks.len:=by omega
      have hx2:x+bL t.ks=l':=by rw [hx,F.drop_len _ _ (Nat.le_refl _)];rfl
      have CO:=aA (Hw t wr G a c va vc vs (w.heap.size+1) PRE.out (wdT WD.out hK.out) (R.out.keptS hK.out (fun q hq hg=>HG.out q hg hq)) hO.out (fun j t2 hj=>hV.out j t2 (Gw hj) hj));go_wp2_with fail
      refine CO.out.mono ?_;rintro e w2 ⟨v,rfl,hv,hb⟩
      have P:=aA (show aL (· = lb) w w2/\l4 (fun b=>w.heap.size<=b) w2 t v/\w2.heap[lb]? = some (.cells #[.int .i64 ((l'+1-aM t:Nat):Int)] 3 (0,0))/\aM t<=l'+1 from
       ⟨hK.out.trans (aE hb (· = lb)) (fun _ h _=>h),kK hv (fun b _ hg=>by omega),by rw [hb.block lb (by omega),hL.out,show x=l'+1-aM t by omega],by omega⟩)
      clear hv hb CO m0 m1 m2 m3;go_wp2_with fail
      go_ret2;exact ⟨P.out.1,fun _=>⟨v,rfl,P.out.2.1⟩,fun _=>P.out.2.2.1,fun h=>absurd P.out.2.2.2 h⟩
theorem Eh (t:TN):GV t:=jZ Bh t
theorem Eg (t:TN) (G:Nat->Prop) (w:World) (a:Option Addr) (c:Nat) (hpre:GR t) (hwd:∀ lb,w.heap.size<=lb->WdT lb w) (hr:aI G w a t.ks) :
 Calls Tryz.prog 101 #[bI t.op t.nm t.n a t.ks.len c,.func (.func 102) #[] #[]] w fun e w'=>Below w.heap.size w w' /\
  (aM t<=32->∃ v,e=.returned (.tuple #[v,.bool true])/\l4 (fun b=>w.heap.size<=b) w' t v)/\(¬ aM t<=32->e=.returned (.tuple #[.string ⟨#[]⟩,.bool false])):=by
 have BA:=(Below.refl w.heap.size w).alloc (Nat.le_refl _) (ndG t.op t.nm t.n a t.ks.len c);have NB:=heap_alloc_new w (ndG t.op t.nm t.n a t.ks.len c);have hs0:(w.alloc (ndG t.op t.nm t.n a t.ks.len c)).heap.size=w.heap.size+1:=World.size_alloc _ _;generalize hW:w.alloc (ndG t.op t.nm t.n a t.ks.len c)=W at BA NB hs0;have BB:=(Below.refl W.heap.size W).alloc (Nat.le_refl _) (.cells #[.int .i64 32] 3);have NC:=heap_alloc_new W (.cells #[.int .i64 32] 3);have hs1:(W.alloc (.cells #[.int .i64 32] 3)).heap.size=w.heap.size+2:=by rw [World.size_alloc];omega
 generalize hV:W.alloc (.cells #[.int .i64 32] 3)=V at BB NC hs1;rw [hs0] at NC;have BV:=BA.trans (BB.mono (by omega));have N2:=(BB.block w.heap.size (by omega)).trans NB;have hGlt:=hr.imp (H:=fun b=>G b/\b<w.heap.size) (fun b hb hg=>⟨hg,hb⟩);have CF:=aA (Eh t (fun b=>G b/\b<w.heap.size) (w.heap.size+1) V a c 32 (by omega) hpre (fun b hg=>by omega) (wdT (hwd (w.heap.size+1) (by omega)) (aE BV (fun _=>False) |>.mono (fun _ h _=>h.elim):aL (· = w.heap.size+1) w V)) (hGlt.keptS (aE BV (fun _=>False)) (fun _ h=>h.elim)) NC);have HW:=aA hW;have HV:=aA hV;have HB:=aA BV;obtain ⟨⟨m0,m1,m2,m3⟩, -⟩:=aO N2;clear hW hV BA NB BB NC BV N2 hGlt hr hpre hwd;go_enter Tryz.func101,Tryz.ntmps101
 go_upto_region 1 with fail
 rw [HW.out];go_upto_region 2 with fail
 rw [HV.out];go_wp2_with fail
 refine CF.out.mono ?_;rintro e w2 ⟨k2,hA, -,hB⟩;have B2:=aA (HB.out.trans (aL.below k2 (B:=w.heap.size) (fun q hq=>by omega) (by omega)));by_cases h32:aM t<=32
 · obtain ⟨v,rfl,hv⟩:=hA h32
   have HR:=aA (kK hv (H:=fun b=>w.heap.size<=b) (fun b _ hg=>by omega));have H32:=aA h32;clear k2 hA hB hv h32 CF m0 m1 m2 m3;go_wp2_with fail
   go_ret2;exact ⟨B2.out,fun _=>⟨v,rfl,HR.out⟩,fun h=>absurd H32.out h⟩
 · obtain rfl:=hB h32
   have H32:=aA h32;clear k2 hA hB h32 CF m0 m1 m2 m3;go_wp2_with fail
   go_ret2;exact ⟨B2.out,fun h=>absurd h H32.out,fun _=>rfl⟩
end
section
open Go.RowKit
theorem gP (t:TN) (G:Nat->Prop) (w:World) (a:Option Addr) (c:Nat) (hS:SzF t.f) (hr:aI G w a t.ks) :
 Calls Tryz.prog 96 #[bI t.op t.nm t.n a t.ks.len c] w fun e w'=>e=.returned (.int .i64 (aF t))/\Below w.heap.size w w':=by
 have BA:=(Below.refl w.heap.size w).alloc (Nat.le_refl _) (ndG t.op t.nm t.n a t.ks.len c);have NB:=heap_alloc_new w (ndG t.op t.nm t.n a t.ks.len c);have CF:=Ej t G (w.alloc (ndG t.op t.nm t.n a t.ks.len c)) a c hS (fun _ _=>trivial) (hr.kept BA);have hz:w.heap.size<=(w.alloc (ndG t.op t.nm t.n a t.ks.len c)).heap.size:=BA.size;generalize hW:w.alloc (ndG t.op t.nm t.n a t.ks.len c)=W at BA NB CF hz;have HCF:=aA CF;have HB:=aA BA;have HW:=aA hW;have HI:=aA (xX t);obtain ⟨⟨m0,m1,m2,m3⟩, -⟩:=aO NB;clear hW BA NB CF hr hS;go_enter Tryz.func96,Tryz.ntmps96
 go_upto_region 1 with fail
 rw [HW.out];go_wp2_with fail
 refine HCF.out.mono ?_;rintro e w2 ⟨hb,hA,hB⟩;have B2:=aA (HB.out.trans (hb.mono hz));by_cases h32:aM t<=32
 · obtain ⟨v,rfl,hv⟩:=hA h32
   unfold l5 at hv;subst hv;have E:=aA (show aF t=aT t.f by unfold aF;rw [if_neg (fun h=>by have:=HI.out.1 h;omega)]);clear hb hA hB h32;go_wp2_with fail
   go_ret;rw [E.out];exact ⟨rfl,B2.out⟩
 · obtain rfl:=hB h32
   have E:=aA (show aF t=4 by unfold aF;rw [if_pos (HI.out.2 (by omega))]);clear hb hA hB h32;go_wp2_with fail
   go_ret;rw [E.out];exact ⟨rfl,B2.out⟩
theorem nE (t:TN) (G:Nat->Prop) (w:World) (a:Option Addr) (c:Nat) (ho:OkT t) (hn:cX t.f) (hs:aM t<=32) (hl:j6 w) (hr:aI G w a t.ks) :
 Calls Tryz.prog 52 #[bI t.op t.nm t.n a t.ks.len c] w fun e w'=>e=.returned (.string ⟨(aK t).toArray⟩)/\Below w.heap.size w w':=by
 have BA:=(Below.refl w.heap.size w).alloc (Nat.le_refl _) (ndG t.op t.nm t.n a t.ks.len c);have NB:=heap_alloc_new w (ndG t.op t.nm t.n a t.ks.len c)
 have LT:j6 (w.alloc (ndG t.op t.nm t.n a t.ks.len c)):=by
  obtain ⟨t',f,h1⟩:=hl;exact ⟨t',f,(BA.block _ (Array.getElem?_eq_some_iff.1 h1).1).trans h1⟩
 have CF:=Eg t G (w.alloc (ndG t.op t.nm t.n a t.ks.len c)) a c ⟨AO t ho hn,by have:=sL t ho hn;omega⟩ (fun lb hlb=>⟨LT,fun e=>by
  obtain ⟨t',f,h1⟩:=LT;have:=(Array.getElem?_eq_some_iff.1 h1).1;omega⟩) (hr.kept BA)
 have hz:w.heap.size<=(w.alloc (ndG t.op t.nm t.n a t.ks.len c)).heap.size:=BA.size;generalize hW:w.alloc (ndG t.op t.nm t.n a t.ks.len c)=W at BA NB CF hz LT;have HCF:=aA CF;have HB:=aA BA;have HW:=aA hW;have H32:=aA hs;obtain ⟨⟨m0,m1,m2,m3⟩, -⟩:=aO NB;clear hW BA NB CF hr hs LT hl ho hn;go_enter Tryz.func52,Tryz.ntmps52
 go_upto_region 1 with fail
 rw [HW.out];go_wp2_with fail
 refine HCF.out.mono ?_;rintro e w2 ⟨hb,hA, -⟩;have B2:=aA (HB.out.trans (hb.mono hz));obtain ⟨v,rfl,hv⟩:=hA H32.out;unfold l4 at hv;subst hv;clear hb hA;go_wp2_with fail
 go_ret;exact ⟨rfl,B2.out⟩
end
section
open Go.RowKit
def GW (t:TN):Prop:=∀ (G:Nat->Prop) (lb:Nat) (w:World) (a:Option Addr) (c l:Nat),l<=1000->BK t->(∀ b,G b->b ≠ lb)->WdL lb w->aI G w a t.ks->w.heap[lb]? = some (.cells #[.int .i64 l] 3 (0,0)) ->
 Calls Tryz.prog 148 #[.pointer (some ⟨lb,0,none⟩),bI t.op t.nm t.n a t.ks.len c,.func (.func 104) #[] #[]] w fun e w'=>aL (· = lb) w w' /\
  (aM t<=l->∃ v,e=.returned (.tuple #[v,.bool true])/\lW (fun b=>w.heap.size<=b) w' t v) /\
  (aM t<=l->w'.heap[lb]? = some (.cells #[.int .i64 ((l-aM t:Nat):Int)] 3 (0,0))) /\
  (¬ aM t<=l->e=.returned (.tuple #[.slice none 0 0,.bool false]))
theorem Bi (t:TN) (ih:dV GW t.ks):GW t:=by
 intro G lb w a c l hl hpre hG hwd hr hlb;obtain ⟨i0,hi,hz0,hz1,hz2⟩:=info_parts J0;have und:Tryz.prog.underlying 215=some (.slice 23):=Tryz.underlying215;have hlt:=(Array.getElem?_eq_some_iff.1 hlb).1;have IH:=aA ih;have R:=aA hr;have PRE:=aA hpre;have HG:=aA hG;have WD:=aA hwd;have BA:=(Below.refl w.heap.size w).alloc (Nat.le_refl _) (ndG t.op t.nm t.n a t.ks.len c);have NB:=heap_alloc_new w (ndG t.op t.nm t.n a t.ks.len c);have LB1:=(BA.block lb hlt).trans hlb;have hs0:(w.alloc (ndG t.op t.nm t.n a t.ks.len c)).heap.size=w.heap.size+1:=World.size_alloc _ _;generalize hW:w.alloc (ndG t.op t.nm t.n a t.ks.len c)=W at BA NB LB1 hs0;have HW:=aA hW;have hsize:aM t=1+bL t.ks:=rfl;have hlen:=kT t.ks;have K1:=(aE BA (· = lb)).setCell (p:=⟨lb,0,none⟩) (.inl rfl) (.int .i64 ((l:Int)-1));have LB2:=xI LB1 (.int .i64 ((l:Int)-1));have NB2:=((aL.refl (· = lb) W).setCell (p:=⟨lb,0,none⟩) (.inl rfl) (.int .i64 ((l:Int)-1))).heap NB (by omega);have hs1:(W.setCell ⟨lb,0,none⟩ (.int .i64 ((l:Int)-1))).heap.size=w.heap.size+1:=by rw [World.size_setCell];exact hs0
 obtain ⟨lc,lf⟩:=gB LB1;by_cases hstop:(l:Int)-1<(t.ks.len:Int)
 · have P:=aA (show ¬ aM t<=l by omega)
   generalize hV:W.setCell ⟨lb,0,none⟩ (.int .i64 ((l:Int)-1))=V at K1 LB2 NB2 hs1;have HV:=aA hV;obtain ⟨lc2, -⟩:=gB LB2;obtain ⟨⟨m0,m1,m2,m3⟩, -⟩:=aO NB2;have HK1:=aA K1;clear hr hpre hG ih hwd hlb hW hV K1 LB1 LB2 NB NB2 BA hsize;go_enter Tryz.func148,Tryz.ntmps148
   go_upto_region 2 with fail
   rw [HW.out];go_upto_region 3 with fail
   rw [HV.out];go_wp2_with (go_quiet (fail))
   go_ret2;exact ⟨HK1.out.drewN _,fun h=>absurd h P.out,fun h=>absurd h P.out,fun _=>rfl⟩
 · obtain ⟨l',rfl⟩:∃ l',l=l'+1:=⟨l-1,by omega⟩
   have hcast:(((l'+1:Nat):Int)-1)=(l':Int):=by omega
   rw [hcast] at K1 LB2 NB2 hs1 hstop;generalize hV:W.setCell ⟨lb,0,none⟩ (.int .i64 (l':Int))=V at K1 LB2 NB2 hs1;have HV:=aA hV;obtain ⟨lc2, -⟩:=gB LB2;obtain ⟨⟨m0,m1,m2,m3⟩, -⟩:=aO NB2;have HK1:=aA K1;have HLB:=aA LB2;have HNB:=aA NB2;have hll:t.ks.len<=l':=by omega
   have b9:¬ (l':Int)<(t.ks.len:Int):=hstop;clear hr hpre hG ih hwd hlb hW hV K1 LB1 LB2 NB NB2 BA hstop hcast;go_enter Tryz.func148,Tryz.ntmps148
   go_upto_region 2 with fail
   rw [HW.out];go_upto_region 3 with fail
   rw [HV.out];go_upto_region 5 with (go_quiet (fail))
   have HK2:=aA (HK1.out.drewN nq);have HLB2:=aA (show (V.drewN nq).heap[lb]? = _ from HLB.out);have HNB2:=aA (show (V.drewN nq).heap[w.heap.size]? = _ from HNB.out);have hsV:(V.drewN nq).heap.size=w.heap.size+1:=hs1;have n3:(V.drewN nq).cell? ⟨w.heap.size,3,none⟩=some (.slice a t.ks.len c):=m3;generalize V.drewN nq=U at HK2 HLB2 HNB2 hsV n3 |-
   clear m0 m1 m2 m3 lc lf lc2 HW HV HK1 HLB HNB;go_wp2_with fail
   go_loopw [9,30] (fun kv i wr=>∃ (k x:Nat) (va:Option Addr) (vc:Nat) (vs:List Value),kv=.slice va k vc/\i=.int .i64 k/\k<=t.ks.len/\x+bL t.ks=l'+bL (t.ks.drop k)/\Hid (wr.ownsRow (w.heap.size+1) 23 1 (.slice va k vc) k vs) /\
    Hid (∀ j t2,j<k->t.ks.at j=some t2->∃ v,vs[j]? = some v/\lW (fun b=>w.heap.size+1<=b/\(Value.slice va k vc).ownBlock ≠ some b) wr t2 v)/\Hid (wr.heap[lb]? = some (.cells #[.int .i64 x] 3 (0,0)))/\Hid (aL (· = lb) w wr)/\Hid (wr.heap[w.heap.size]? = some (ndG t.op t.nm t.n a t.ks.len c))) (fun _ i _=>t.ks.len-(intOf i).toNat)
   case atStart=>exact ⟨0,l',none,0,[],rfl,rfl,Nat.zero_le _,by rw [F.drop_zero],aA (World.ownsRow_nil _ _ _ _),aA (fun _ _ h=>absurd h (Nat.not_lt_zero _)),HLB2,HK2,HNB2⟩
   case round =>
    obtain ⟨k,x,va,vc,vs,rfl,rfl,hk,hx,hO,hV,hL,hK,hN⟩:=hrel;clear n3;obtain ⟨⟨m0,m1,m2,m3⟩, -⟩:=aO hN.out;have hz:=hK.out.size;by_cases hkl:k<t.ks.len
    · obtain ⟨t2,hat, -⟩:=dC hkl
      have hsd:=kG hat;have hdl:=e7 t.ks k;obtain ⟨b,off,a2,c2,ha,hGb,hbl,⟨p0,p1,p2,p3⟩,hr2⟩:=bR (R.out.keptS hK.out (fun q hq hg=>HG.out q hg hq)) hat;subst ha;have hN1:w.heap.size<wr.heap.size:=(Array.getElem?_eq_some_iff.1 hN.out).1;have BA:=(Below.refl wr.heap.size wr).alloc (Nat.le_refl _) (ndG t2.op t2.nm t2.n a2 t2.ks.len c2);have NB:=heap_alloc_new wr (ndG t2.op t2.nm t2.n a2 t2.ks.len c2);have hs2:(wr.alloc (ndG t2.op t2.nm t2.n a2 t2.ks.len c2)).heap.size=wr.heap.size+1:=World.size_alloc _ _;generalize hX:wr.alloc (ndG t2.op t2.nm t2.n a2 t2.ks.len c2)=Z at BA NB hs2;have HX:=aA hX;have CF:=aA ((dV.at IH.out hat) G lb Z a2 c2 x (by omega) (JR PRE.out hat) HG.out (wdL WD.out (hK.out.trans (aE BA (· = lb)) (fun _ h _=>h))) (hr2.kept BA) ((BA.block lb (by omega)).trans hL.out));have HAT:=aA hat;have HBA:=aA BA;have OZ:=aA (bO hO.out BA);obtain ⟨⟨z0,z1,z2,z3⟩, -⟩:=aO NB;clear hX BA NB hr2 hat hGb;go_upto_region 9 with fail
      rw [HX.out];clear p0 p1 p2 p3 m0 m1 m2 m3;go_wp2_with fail
      refine CF.out.mono ?_;rintro e w2 ⟨k2,hA1,hA2,hB⟩;have hzk2:=k2.size;have K2:=aA (hK.out.trans ((aE HBA.out (· = lb)).trans k2 (fun _ h _=>h)) (fun _ h _=>h));have N2:=aA (k2.heap ((HBA.out.block w.heap.size (by omega)).trans hN.out) (by omega));by_cases hfit:aM t2<=x
      · obtain ⟨v,rfl,hv⟩:=hA1 hfit
        obtain ⟨za,zn,zc,rfl⟩:=I6 hv;have L2:=aA (hA2 hfit);have O2:=aA (dY (row:=some lb) OZ.out (k2.mono (fun i hi _=>by rw [hi])) (fun q hq e=>by have:=(OZ.out.lt q hq).1;have:=Option.some.inj e;omega));have HVV:=aA hv;have hx2:(x-aM t2)+bL t.ks=l'+bL (t.ks.drop (k+1)):=by omega
        have hksz:k+1<=1000:=by omega
        have vone:∀ u∈[(Value.slice za zn zc)],u.oneCell'=true:=fun u hu=>by rw [List.mem_singleton.1 hu];exact Kb hv
        clear CF hA1 hA2 hB hv hfit z0 z1 z2 z3;go_upto_region 12 with fail
        have BN:=(Below.refl w2.heap.size w2).alloc (Nat.le_refl _) (.cells #[(Value.slice za zn zc)] 23)
        have F2:=aA (show ∀ j u,[(Value.slice za zn zc)][j]? = some u->(w2.alloc (.cells #[(Value.slice za zn zc)] 23)).cell? ((⟨w2.heap.size,0,none⟩:Addr).add j)=some u from fun j u hj=>by
         rw [Addr.add_lit,Nat.zero_add,cell_of_row _ _ _ _ _ (0,0) (heap_alloc_new w2 _)];simpa using hj)
        have HBN:=aA BN;clear BN;go_wp2_with (at_builtin;refine aY rfl _ _ 215 rfl und hi hz0 hz1 hz2 rfl (by decide) (.slice va k vc) k 1 1 ⟨w2.heap.size,0,none⟩ vs [(Value.slice za zn zc)] rfl rfl (bO O2.out HBN.out) rfl F2.out vone (by unfold maxLen;omega) (by omega) (by rw [World.size_alloc];omega) ?_)
        intro v3 w3 ho hg hq;obtain ⟨va3,vc3,rfl⟩:=fE ho;have kg:aL (fun b=>(Value.slice va k vc).ownBlock=some b) w2 w3:=((aL.refl _ w2).alloc _).grown hg (fun q hq=>.inl hq);have hov:∀ q,(Value.slice va k vc).ownBlock=some q->w.heap.size+1<=q/\q<w2.heap.size:=fun q hq=>by have:=O2.out.lt q hq;omega
        have O3:=aA ho;have L3:=aA (kg.heap L2.out (fun e=>by have:=hov lb e;omega));have K3:=aA (K2.out.trans (kg.mono (T:=fun b=>w.heap.size+1<=b) (fun i hi _=>(hov i hi).1)) (fun i hi hlt=>by omega));have N3:=aA (kg.heap N2.out (fun e=>by have:=hov _ e;omega))
        have hnewb:∀ b,b<w2.heap.size->(Value.slice va k vc).ownBlock ≠ some b->(Value.slice va3 (k+1) vc3).ownBlock ≠ some b:=fun b hb hne e=>by
         rcases hq b e with h1 | h1
         · exact hne h1
         · omega
        have V3:=aA (show ∀ j t3,j<k+1->t.ks.at j=some t3->∃ u,(vs++[(Value.slice za zn zc)])[j]? = some u/\lW (fun b=>w.heap.size+1<=b/\(Value.slice va3 (k+1) vc3).ownBlock ≠ some b) w3 t3 u from fun j t3 hj hjt=>by
         have hvl:vs.length=k:=by have:=hO.out.1;rwa [Nat.mul_one] at this
         by_cases hjk:j<k
         · obtain ⟨u,hu,hru⟩:=hV.out j t3 hjk hjt
           refine ⟨u,by rw [List.getElem?_append_left (by omega)];exact hu,?_⟩;have r1:=jM (jM hru (aE HBA.out (fun _=>False)) (fun _ h=>h.elim)) k2 (fun q hq hg=>by have:=hg.1;omega);have r2:=kM (H:=fun b=>(w.heap.size+1<=b/\(Value.slice va k vc).ownBlock ≠ some b)/\(Value.slice va3 (k+1) vc3).ownBlock ≠ some b) r1 (fun b hb hg=>⟨hg,hnewb b hb hg.2⟩);exact kM (jM r2 kg (fun q hq hg=>hg.1.2 hq)) (fun b hb hg=>⟨hg.1.1,hg.2⟩)
         · obtain rfl:j=k:=by omega
           have:t3=t2:=by rw [HAT.out] at hjt;exact (Option.some.inj hjt).symm
           subst this;refine ⟨_,by rw [List.getElem?_append_right (by omega),hvl,Nat.sub_self];rfl,?_⟩
           have r2:=kM (H:=fun b=>(w.heap.size+1<=b/\(Value.slice va j vc).ownBlock ≠ some b)/\(Value.slice va3 (j+1) vc3).ownBlock ≠ some b) HVV.out (fun b hb hg=>by
            have hne:(Value.slice va j vc).ownBlock ≠ some b:=fun e=>by have:=(OZ.out.lt b e).2;omega
            exact ⟨⟨by omega,hne⟩,hnewb b hb hne⟩)
           exact kM (jM r2 kg (fun q hq hg=>hg.1.2 hq)) (fun b hb hg=>⟨hg.1.1,hg.2⟩))
        clear ho hg hq kg hov hnewb;go_wp2_with fail
        go_roundw
        case rel=>exact ⟨k+1,x-aM t2,va3,vc3,vs++[(Value.slice za zn zc)],rfl,by go_num,by omega,hx2,O3,V3,L3,K3,N3⟩
        case measure=>simp [intOf];omega
      · obtain rfl:=hB hfit
        have P:=aA (show ¬ aM t<=l'+1 by omega);clear CF hA1 hA2 hB hfit z0 z1 z2 z3;go_wp2_with fail
        go_ret2;exact ⟨K2.out,fun h=>absurd h P.out,fun h=>absurd h P.out,fun _=>rfl⟩
    · obtain rfl:k=t.ks.len:=by omega
      have hx2:x+bL t.ks=l':=by rw [hx,F.drop_len _ _ (Nat.le_refl _)];rfl
      have CO:=aA (Hx t wr G a c va vc vs (w.heap.size+1) PRE.out (wdL WD.out hK.out) (R.out.keptS hK.out (fun q hq hg=>HG.out q hg hq)) hO.out (fun j t2 hj=>hV.out j t2 (Gw hj) hj));go_wp2_with fail
      refine CO.out.mono ?_;rintro e w2 ⟨v,rfl,hv,hb⟩
      have P:=aA (show aL (· = lb) w w2/\lW (fun b=>w.heap.size<=b) w2 t v/\w2.heap[lb]? = some (.cells #[.int .i64 ((l'+1-aM t:Nat):Int)] 3 (0,0))/\aM t<=l'+1 from
       ⟨hK.out.trans (aE hb (· = lb)) (fun _ h _=>h),kM hv (fun b _ hg=>by omega),by rw [hb.block lb (by omega),hL.out,show x=l'+1-aM t by omega],by omega⟩)
      clear hv hb CO m0 m1 m2 m3;go_wp2_with fail
      go_ret2;exact ⟨P.out.1,fun _=>⟨v,rfl,P.out.2.1⟩,fun _=>P.out.2.2.1,fun h=>absurd P.out.2.2.2 h⟩
theorem Ei (t:TN):GW t:=jZ Bi t
theorem wD (t:TN) (G:Nat->Prop) (w:World) (a:Option Addr) (c:Nat) (hpre:BK t) (hwd:∀ lb,w.heap.size<=lb->WdL lb w) (hr:aI G w a t.ks) :
 Calls Tryz.prog 103 #[bI t.op t.nm t.n a t.ks.len c,.func (.func 104) #[] #[]] w fun e w'=>Below w.heap.size w w' /\
  (aM t<=32->∃ v,e=.returned (.tuple #[v,.bool true])/\lW (fun b=>w.heap.size<=b) w' t v)/\(¬ aM t<=32->e=.returned (.tuple #[.slice none 0 0,.bool false])):=by
 have BA:=(Below.refl w.heap.size w).alloc (Nat.le_refl _) (ndG t.op t.nm t.n a t.ks.len c);have NB:=heap_alloc_new w (ndG t.op t.nm t.n a t.ks.len c);have hs0:(w.alloc (ndG t.op t.nm t.n a t.ks.len c)).heap.size=w.heap.size+1:=World.size_alloc _ _;generalize hW:w.alloc (ndG t.op t.nm t.n a t.ks.len c)=W at BA NB hs0;have BB:=(Below.refl W.heap.size W).alloc (Nat.le_refl _) (.cells #[.int .i64 32] 3);have NC:=heap_alloc_new W (.cells #[.int .i64 32] 3);have hs1:(W.alloc (.cells #[.int .i64 32] 3)).heap.size=w.heap.size+2:=by rw [World.size_alloc];omega
 generalize hV:W.alloc (.cells #[.int .i64 32] 3)=V at BB NC hs1;rw [hs0] at NC;have BV:=BA.trans (BB.mono (by omega));have N2:=(BB.block w.heap.size (by omega)).trans NB;have hGlt:=hr.imp (H:=fun b=>G b/\b<w.heap.size) (fun b hb hg=>⟨hg,hb⟩);have CF:=aA (Ei t (fun b=>G b/\b<w.heap.size) (w.heap.size+1) V a c 32 (by omega) hpre (fun b hg=>by omega) (wdL (hwd (w.heap.size+1) (by omega)) (aE BV (fun _=>False) |>.mono (fun _ h _=>h.elim):aL (· = w.heap.size+1) w V)) (hGlt.keptS (aE BV (fun _=>False)) (fun _ h=>h.elim)) NC);have HW:=aA hW;have HV:=aA hV;have HB:=aA BV;obtain ⟨⟨m0,m1,m2,m3⟩, -⟩:=aO N2;clear hW hV BA NB BB NC BV N2 hGlt hr hpre hwd;go_enter Tryz.func103,Tryz.ntmps103
 go_upto_region 1 with fail
 rw [HW.out];go_upto_region 2 with fail
 rw [HV.out];go_wp2_with fail
 refine CF.out.mono ?_;rintro e w2 ⟨k2,hA, -,hB⟩;have B2:=aA (HB.out.trans (aL.below k2 (B:=w.heap.size) (fun q hq=>by omega) (by omega)));by_cases h32:aM t<=32
 · obtain ⟨v,rfl,hv⟩:=hA h32
   have HR:=aA (kM hv (H:=fun b=>w.heap.size<=b) (fun b _ hg=>by omega));have H32:=aA h32;clear k2 hA hB hv h32 CF m0 m1 m2 m3;go_wp2_with fail
   go_ret2;exact ⟨B2.out,fun _=>⟨v,rfl,HR.out⟩,fun h=>absurd H32.out h⟩
 · obtain rfl:=hB h32
   have H32:=aA h32;clear k2 hA hB h32 CF m0 m1 m2 m3;go_wp2_with fail
   go_ret2;exact ⟨B2.out,fun h=>absurd h H32.out,fun _=>rfl⟩
end
section
open Go.RowKit
theorem ER (x y:TN) (qa qb:Option Addr×Nat) (w:World) :
 Calls Tryz.prog 106 #[bI x.op x.nm x.n qa.1 x.ks.len qa.2,bI y.op y.nm y.n qb.1 y.ks.len qb.2] w fun e w'=>e=.returned (.bool (lV x y))/\Below w.heap.size w w':=by
 have BA:=aA (((Below.refl w.heap.size w).alloc (Nat.le_refl _) (ndG x.op x.nm x.n qa.1 x.ks.len qa.2)).alloc (by rw [World.size_alloc];omega) (ndG y.op y.nm y.n qb.1 y.ks.len qb.2));unfold lV;rw [<- Lib.toList_data, <- Lib.toList_data];cases h0:(x.op.toList == y.op.toList) with
 | false =>
   have b0:(x.op.toList != y.op.toList)=true:=by rw [bne,h0];rfl
   rw [Bool.false_and];go_enter Tryz.func106,Tryz.ntmps106
   go_wp2_with fail
   go_ret;exact ⟨rfl,BA.out⟩
 | true =>
   have b0:(x.op.toList != y.op.toList)=false:=by rw [bne,h0];rfl
   rw [Bool.true_and];cases h1:bD x.op with
   | true =>
     have g1:=bG h1;unfold jV at g1;rw [if_pos rfl];clear h1;go_enter Tryz.func106,Tryz.ntmps106
     go_wp2_with fail
     go_ret;exact ⟨rfl,BA.out⟩
   | false =>
     have g1:=aG h1;unfold jV at g1;rw [if_neg (by decide)];cases h2:aV x.op with
     | true =>
       have g2:=bG h2;unfold fX at g2;rw [if_pos rfl, <- Lib.toList_data, <- Lib.toList_data];clear h1 h2;go_enter Tryz.func106,Tryz.ntmps106
       go_wp2_with fail
       go_ret;exact ⟨rfl,BA.out⟩
     | false =>
       have g2:=aG h2;unfold fX at g2;rw [if_neg (by decide)]
       have E:=aA (show ((x.ks.len:Int) == (y.ks.len:Int))=(x.ks.len == y.ks.len) by
        by_cases h:x.ks.len=y.ks.len
        · rw [h,beq_self_eq_true,beq_self_eq_true]
        · have:(x.ks.len:Int) ≠ y.ks.len:=by omega
          rw [beq_eq_false_iff_ne.2 h,beq_eq_false_iff_ne.2 this])
       clear h1 h2;go_enter Tryz.func106,Tryz.ntmps106
       go_wp2_with fail
       go_ret;exact ⟨congrArg (fun b=>Ending.returned (.bool b)) E.out,BA.out⟩
theorem Cl:∀ (l:List TN) (q:List (Option Addr×Nat)) {k:Nat} (_:q.length=l.length) (hk:k<l.length),∃ p,q[k]? = some p/\∀ i u,(ndL l[k] p)[i]? = some u->i<4->(eF l q)[k*4+i]? = some u
 | [],_,_,_,hk=>by simp at hk
 | _::_,[],_,h,_=>by simp at h
 | t :: r, q :: s, 0, _, _ => ⟨q, rfl, fun i u hu hi => by
     rw [eF,Nat.zero_mul,Nat.zero_add,List.getElem?_append_left (by exact hi)];exact hu⟩
 | t :: r, q :: s, k + 1, h, hk => by
   obtain ⟨p,h1,h2⟩:=Cl r s (k:=k) (by simpa using h) (by simpa using hk);refine ⟨p,h1,fun i u hu hi=>?_⟩;rw [eF,List.getElem?_append_right (by show 4<=_;omega),show (k+1)*4+i-(ndL t q).length=k*4+i by show (k+1)*4+i-4=_;omega];exact h2 i u hu hi
def rT (w:World) (b off:Nat) (l:List TN):Prop:=b<w.heap.size/\∃ qs:List (Option Addr×Nat),qs.length=l.length/\∀ j u,(eF l qs)[j]? = some u->w.cell? ⟨b,off+j,none⟩=some u
theorem rT.below {w w':World} {b off:Nat} {l:List TN} (h:rT w b off l) (hb:Below w.heap.size w w'):rT w' b off l :=
 ⟨Nat.lt_of_lt_of_le h.1 hb.size,h.2.imp fun _ hq=>⟨hq.1,fun j u hj=>(hb.cell (p:=⟨b,off+j,none⟩) h.1).trans (hq.2 j u hj)⟩⟩
theorem rT.node {w:World} {b off:Nat} {l:List TN} (h:rT w b off l) {k:Nat} (hk:k<l.length):∃ p:Option Addr×Nat,w.cell? ⟨b,off+k*4,none⟩=some (.string l[k].op)/\w.cell? ⟨b,off+k*4+1,none⟩=some (.string l[k].nm)/\w.cell? ⟨b,off+k*4+2,none⟩=some (.int .i64 l[k].n)/\w.cell? ⟨b,off+k*4+3,none⟩=some (.slice p.1 l[k].ks.len p.2):=by
 obtain ⟨hb,qs,hq,hc⟩:=h;obtain ⟨p,_,h2⟩:=Cl l qs hq hk;exact ⟨p,hc (k*4) _ (h2 0 _ rfl (by omega)),hc (k*4+1) _ (h2 1 _ rfl (by omega)),hc (k*4+2) _ (h2 2 _ rfl (by omega)),hc (k*4+3) _ (h2 3 _ rfl (by omega))⟩
theorem all_cons {a b:TN} {x y:List TN}:dS (a::x) (b::y)=(lV a b && dS x y):=rfl
theorem Gz:∀ {x y:List TN},x.length ≠ y.length->dS x y=false
 | [],[],h=>absurd rfl h
 | [],_::_,_=>rfl
 | _::_,[],_=>rfl
 | a::x,b::y,h=>by rw [all_cons,Gz (by simpa using h),Bool.and_false]
theorem uU (la lb:List TN) (b1 o1 c1 b2 o2 c2:Nat) (hla:la.length<=1000) (w:World) (h1:rT w b1 o1 la) (h2:rT w b2 o2 lb) :
 Calls Tryz.prog 105 #[.slice (some ⟨b1,o1,none⟩) la.length c1,.slice (some ⟨b2,o2,none⟩) lb.length c2,.func (.func 106) #[] #[]] w fun e w'=>e=.returned (.bool (dS la lb))/\Below w.heap.size w w':=by
 have H1:=aA h1;have H2:=aA h2;have B0:=aA (Below.refl w.heap.size w);clear h1 h2;by_cases hl:la.length=lb.length
 · have a1:((la.length:Int) != (lb.length:Int))=false:=by rw [hl];simp
   obtain ⟨r,hr⟩:∃ r,dS la lb=r:=⟨_,rfl⟩;rw [hr];have HRr:=aA hr;have HL:=aA hl;have hlb:lb.length<=1000:=by omega
   clear hr hl;go_enter Tryz.func105,Tryz.ntmps105
   go_wp2_with fail
   go_loopw [17] (fun i wr=>∃ k:Nat,i=.int .i64 k/\k<=la.length/\Hid (dS (la.drop k) (lb.drop k)=r)/\Hid (Below w.heap.size w wr)) (fun i _=>la.length-(intOf i).toNat)
   case atStart=>exact ⟨0,rfl,Nat.zero_le _,HRr,B0⟩
   case round =>
    obtain ⟨k,rfl,hk,hD,hB⟩:=hrel;by_cases hlt:k<la.length
    · have hlt2:k<lb.length:=by have:=HL.out;omega
      obtain ⟨pa,x0,x1,x2,x3⟩:=(H1.out.below hB.out).node hlt;have hz:=hB.out.size;have BA1:=(Below.refl wr.heap.size wr).alloc (Nat.le_refl _) (ndG la[k].op la[k].nm la[k].n pa.1 la[k].ks.len pa.2);have NB1:=heap_alloc_new wr (ndG la[k].op la[k].nm la[k].n pa.1 la[k].ks.len pa.2);have hs1:(wr.alloc (ndG la[k].op la[k].nm la[k].n pa.1 la[k].ks.len pa.2)).heap.size=wr.heap.size+1:=World.size_alloc _ _;generalize hV:wr.alloc (ndG la[k].op la[k].nm la[k].n pa.1 la[k].ks.len pa.2)=V at BA1 NB1 hs1;have HBV:=hB.out.trans (BA1.mono (by omega));obtain ⟨pb,y0,y1,y2,y3⟩:=(H2.out.below HBV).node hlt2;have BA2:=(Below.refl V.heap.size V).alloc (Nat.le_refl _) (ndG lb[k].op lb[k].nm lb[k].n pb.1 lb[k].ks.len pb.2);have NB2:=heap_alloc_new V (ndG lb[k].op lb[k].nm lb[k].n pb.1 lb[k].ks.len pb.2);have hs2:(V.alloc (ndG lb[k].op lb[k].nm lb[k].n pb.1 lb[k].ks.len pb.2)).heap.size=wr.heap.size+2:=by rw [World.size_alloc];omega
      generalize hU:V.alloc (ndG lb[k].op lb[k].nm lb[k].n pb.1 lb[k].ks.len pb.2)=U at BA2 NB2 hs2;rw [hs1] at NB2;have N1:=(BA2.block wr.heap.size (by omega)).trans NB1;have HBU:=aA (HBV.trans (BA2.mono (by omega)));have HV:=aA hV;have HU:=aA hU;have CA:=aA (ER la[k] lb[k] pa pb U);have HD2:=aA (show (lV la[k] lb[k] && dS (la.drop (k+1)) (lb.drop (k+1)))=r by rw [<- hD.out,List.drop_eq_getElem_cons hlt,List.drop_eq_getElem_cons hlt2,all_cons]);have a2:(k:Int)<(la.length:Int):=by omega
      have a3:(k:Int)<(lb.length:Int):=by omega
      have a4:(0:Int)<=(k:Int):=by omega
      have a5:((k:Int)).toNat=k:=by omega
      generalize la[k]=ta at x0 x1 x2 x3 CA HD2 N1 HV HU;generalize lb[k]=tb at y0 y1 y2 y3 CA HD2 NB2 HU;obtain ⟨⟨m0,m1,m2,m3⟩, -⟩:=aO N1;obtain ⟨⟨n0,n1,n2,n3⟩, -⟩:=aO NB2;obtain ⟨z,hz2⟩:∃ z,lV ta tb=z:=⟨_,rfl⟩;rw [hz2] at CA HD2;clear hV hU NB1 NB2 N1 BA1 BA2 HBV hz2;go_upto_region 6 with fail
      rw [HV.out];go_upto_region 7 with fail
      rw [HU.out];clear x0 x1 x2 x3 y0 y1 y2 y3;go_wp2_with fail
      refine CA.out.mono ?_;rintro e w3 ⟨rfl,hb3⟩;have B3:=aA (HBU.out.trans (hb3.mono (by omega)));clear hb3 CA m0 m1 m2 m3 n0 n1 n2 n3;cases z with
      | true =>
        have D3:=aA (show dS (la.drop (k+1)) (lb.drop (k+1))=r by have:=HD2.out;rwa [Bool.true_and] at this);go_wp2_with fail
        go_roundw
        case rel=>exact ⟨k+1,by go_num,by omega,D3,B3⟩
        case measure=>simp [intOf];omega
      | false =>
        have D3:=aA (show r=false by have:=HD2.out;rw [Bool.false_and] at this;exact this.symm);go_wp2_with fail
        go_ret;rw [D3.out];exact ⟨rfl,B3.out⟩
    · obtain rfl:k=la.length:=by omega
      have D3:=aA (show r=true by rw [<- hD.out,List.drop_of_length_le (Nat.le_refl _),List.drop_of_length_le (by rw [HL.out];exact Nat.le_refl _)];rfl);go_wp2_with fail
      go_ret;rw [D3.out];exact ⟨rfl,hB.out⟩
 · have a1:((la.length:Int) != (lb.length:Int))=true:=by rw [bne_iff_ne];omega
   rw [Gz hl];go_enter Tryz.func105,Tryz.ntmps105
   go_wp2_with fail
   go_ret;exact ⟨rfl,B0.out⟩
theorem lW.lst {G:Nat->Prop} {w:World} {t:TN} {v:Value} (h:lW G w t v):∃ b off c,v=.slice (some ⟨b,off,none⟩) (bT t.f).length c/\rT w b off (bT t.f):=by
 obtain ⟨b,off,c,qs,h1,_,h3,h4,h5⟩:=h.h;exact ⟨b,off,c,h1,h3,qs,h4,h5⟩
theorem nF (x y:TN) (G G':Nat->Prop) (w:World) (a a':Option Addr) (c c':Nat) (hx:OkT x) (hnx:cX x.f) (hsx:aM x<=32) (hy:OkT y) (hny:cX y.f) (hsy:aM y<=32) (hrx:aI G w a x.ks) (hry:aI G' w a' y.ks) :
 Calls Tryz.prog 54 #[bI x.op x.nm x.n a x.ks.len c,bI y.op y.nm y.n a' y.ks.len c'] w fun e w'=>e=.returned (.bool (bW x y))/\Below w.heap.size w w':=by
 have BA:=(Below.refl w.heap.size w).alloc (Nat.le_refl _) (ndG x.op x.nm x.n a x.ks.len c);have NB:=heap_alloc_new w (ndG x.op x.nm x.n a x.ks.len c);have hs0:(w.alloc (ndG x.op x.nm x.n a x.ks.len c)).heap.size=w.heap.size+1:=World.size_alloc _ _;generalize hV:w.alloc (ndG x.op x.nm x.n a x.ks.len c)=V at BA NB hs0;have BB:=(Below.refl V.heap.size V).alloc (Nat.le_refl _) (ndG y.op y.nm y.n a' y.ks.len c');have NC:=heap_alloc_new V (ndG y.op y.nm y.n a' y.ks.len c');have hs1:(V.alloc (ndG y.op y.nm y.n a' y.ks.len c')).heap.size=w.heap.size+2:=by rw [World.size_alloc];omega
 generalize hU:V.alloc (ndG y.op y.nm y.n a' y.ks.len c')=U at BB NC hs1;rw [hs0] at NC;have N1:=(BB.block w.heap.size (by omega)).trans NB;have BU:=BA.trans (BB.mono (by omega));have PX:BK x:=⟨AO x hx hnx,by omega⟩;have PY:BK y:=⟨AO y hy hny,by omega⟩;have C1:=aA (wD x G U a c PX (fun _ _=>trivial) (hrx.kept BU));have RY:=aA (hry.kept BU);have HPY:=aA PY;have HS:=aA (Dy hx hy);have hpl:(bT x.f).length<=1000:=by have:=pI x.f;rw [fN] at this;omega
 have HX:=aA hsx;have HY:=aA hsy;have HV:=aA hV;have HU:=aA hU;have HB:=aA BU;have HNC:=aA NC;obtain ⟨⟨m0,m1,m2,m3⟩, -⟩:=aO N1;clear hV hU BA NB BB NC N1 BU PX PY hx hnx hy hny hrx hry hsx hsy;go_enter Tryz.func54,Tryz.ntmps54
 go_upto_region 1 with fail
 rw [HV.out,HU.out];go_wp2_with fail
 refine C1.out.mono ?_;rintro e w2 ⟨hb2,hA, -⟩;obtain ⟨v,rfl,hv⟩:=hA HX.out;obtain ⟨b1,o1,c1,rfl,L1⟩:=hv.lst;have HL1:=aA L1;have hz2:=hb2.size;have B2:=aA (HB.out.trans (hb2.mono (by omega)));have C2:=aA (wD y G' w2 a' c' HPY.out (fun _ _=>trivial) (RY.out.kept hb2));have N2:=(hb2.block _ (by omega)).trans HNC.out;clear m0 m1 m2 m3;obtain ⟨⟨m0,m1,m2,m3⟩, -⟩:=aO N2;clear hb2 hA hv L1 C1 N2;go_wp2_with fail
 refine C2.out.mono ?_;rintro e w3 ⟨hb3,hA, -⟩;obtain ⟨v,rfl,hv⟩:=hA HY.out;obtain ⟨b2,o2,c2,rfl,L2⟩:=hv.lst;have hz3:=hb3.size;have B3:=aA (B2.out.trans (hb3.mono (by omega)));have CE:=aA (uU (bT x.f) (bT y.f) b1 o1 c1 b2 o2 c2 hpl w3 (HL1.out.below hb3) L2);rw [HS.out] at CE;clear hb3 hA hv L2 C2 m0 m1 m2 m3;go_wp2_with fail
 refine CE.out.mono ?_;rintro e w4 ⟨rfl,hb4⟩;have B4:=aA (B3.out.trans (hb4.mono (by omega)));clear hb4 CE;go_wp2_with fail
 go_ret;exact ⟨rfl,B4.out⟩
end
section
open Go.RowKit
def t9:TN:=fM [43] (dL [97]) (fM [42] (nX 2) (mI (fM [45] (dL [98]) (nX 1))))
def oF (w:World):Prop:=gK w/\j6 w
theorem j6.step {w w':World} (h:j6 w) (hb:Below w.heap.size w w'):j6 w':=by
 obtain ⟨t,f,h1⟩:=h;exact ⟨t,f,(hb.block _ (Array.getElem?_eq_some_iff.1 h1).1).trans h1⟩
theorem oF.step {w w':World} (h:oF w) (hb:Below w.heap.size w w'):oF w':=⟨h.1.step hb,h.2.step hb⟩
structure K9 (w:World) (n:Nat) (a:Option Addr) (c:Nat) (V:World):Prop where
 b:Below w.heap.size w V
 n:V.heap[n]? = some (ndG ⟨#[43]⟩ ⟨#[]⟩ 0 a 2 c)
 r:cC w.heap.size V a t9.ks
 l:oF V
 z:w.heap.size<=V.heap.size
end
section
open Go.RowKit
def sB (i:Nat):UInt8:=if i=0 then 43 else if i=1 then 45 else if i=2 then 42 else if i=3 then 47 else 37
def Je (i j:Nat):Bool:=decide (i<2) && decide (2<=j)
def nR (i j:Nat):TN:=fM [sB i] (dL [97]) (fM [sB j] (dL [98]) (dL [99]))
def nL (i j:Nat):TN:=fM [sB j] (fM [sB i] (dL [97]) (dL [98])) (dL [99])
def n1 (i j:Nat):TN:=if Je i j=true then nR i j else nL i j
end
section
open Go.RowKit
abbrev Bd (B b:Nat) (bs:List Value) (w:World):Prop:=Lib.IsBuilder 112 5 B b bs w
end
def oP (o:ByteArray) (a b:Int):Option Int :=
 if o.data.toList == [43] then some (dE (a+b))
 else if o.data.toList == [45] then some (dE (a-b))
 else if o.data.toList == [42] then some (dE (a*b))
 else if o.data.toList == [47] then (if b=0 then none else some (dE (a.tdiv b)))
 else (if b=0 then none else some (a.tmod b))
def evN (g:ByteArray->Option Int) (o m:ByteArray) (n:Int) (vs:List (Option Int)):Option Int :=
 if bD o then some n else if aV o then g m else if eL o then (vs.getD 0 none).map (fun a=>dE (0-a))
 else match vs.getD 0 none,vs.getD 1 none with
  | some a,some b=>oP o a b
  | _,_=>none
def evF (g:ByteArray->Option Int):F->List (Option Int)
 | .nil=>[]
 | .cons o m n ks r=>evN g o m n (evF g ks)::evF g r
def evT (g:ByteArray->Option Int) (t:TN):Option Int:=evN g t.op t.nm t.n (evF g t.ks)
theorem Gj (g:ByteArray->Option Int) {o m:ByteArray} {n:Int} {ks:F} (h:bD o=true):evT g ⟨o,m,n,ks⟩=some n:=by
 unfold evT evN;rw [if_pos h]
theorem Cw (g:ByteArray->Option Int) {o m:ByteArray} {n:Int} {ks:F} (h:bD o=false) (h2:aV o=true):evT g ⟨o,m,n,ks⟩=g m:=by
 unfold evT evN;rw [if_neg (by simp [h]),if_pos h2]
theorem Gl (g:ByteArray->Option Int) {o m:ByteArray} {n:Int} (a:TN) (h:bD o=false) (h2:aV o=false) (h3:eL o=true):evT g ⟨o,m,n,a.f⟩=(evT g a).map (fun x=>dE (0-x)):=by
 unfold evT evN;rw [if_neg (by simp [h]),if_neg (by simp [h2]),if_pos h3];rfl
theorem Gi (g:ByteArray->Option Int) {o m:ByteArray} {n:Int} (a b:TN) (h:bD o=false) (h2:aV o=false) (h3:eL o=false) :
 evT g ⟨o,m,n,.cons a.op a.nm a.n a.ks b.f⟩=match evT g a,evT g b with | some x,some y=>oP o x y | _,_=>none:=by
 unfold evT evN;rw [if_neg (by simp [h]),if_neg (by simp [h2]),if_neg (by simp [h3])];rfl
theorem yQ {c b:Int} (h:0<=c):0<=c.tmod b/\c.tmod b<=c:=by
 refine ⟨Int.tmod_nonneg b h,?_⟩;have h1:(c.tmod b).natAbs<=c.natAbs:=by rw [Int.natAbs_tmod];exact Nat.mod_le _ _
 have h2:=Int.tmod_nonneg b h;omega
theorem G9 {a:Int} (b:Int) (ha:bM a):bM (a.tmod b):=by
 unfold bM at ha |-
 rcases Int.le_total 0 a with h | h
 · have:=yQ (b:=b) h
   omega
 · have h1:=yQ (c:= -a) (b:=b) (by omega)
   rw [Int.neg_tmod] at h1;omega
theorem Gy {o:ByteArray} {a b v:Int} (ha:bM a) (h:oP o a b=some v):bM v:=by
 unfold oP at h;split at h
 · cases h;exact k8 _
 split at h
 · cases h;exact k8 _
 split at h
 · cases h;exact k8 _
 split at h
 · split at h
   · cases h
   · cases h;exact k8 _
 · split at h
   · cases h
   · cases h;exact G9 b ha
end
end Go.Proofs.YtapcjnoaofmmiaaGreatDoor
