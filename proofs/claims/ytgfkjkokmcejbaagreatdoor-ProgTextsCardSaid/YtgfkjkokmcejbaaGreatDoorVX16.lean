/-
 No statement: what ProgTextsLift needs, of the texts ZLof, QSame, QSameY, QText, QTextB, QCheckY, ZSame, ZText, ZNice, ZKn1, ZKn2.
-/
import Derived.Test.YtgfkjkokmcejbaaGreatDoorVX15
set_option maxHeartbeats 40000000
set_option maxRecDepth 100000
open List renaming length_append -> Tb, length_cons -> Te
open Go.World renaming size_alloc -> Tc
open Nat renaming le_refl -> Td
open Go.Value renaming slice -> Tj
open Go.Lib renaming decDigits -> Tl, toList_data -> Tm
namespace Go.Proofs.YtgfkjkokmcejbaaGreatDoor
open Go.RowKit Tryz
theorem Jk (W:World) (T:TypeId) (x:LN) (p:PA):∀ j u,(lnL x p)[j]? = some u->(W.alloc (.cells #[.string x.nm,.string x.a.fn,.int .i64 x.a.k,.string x.a.e.op,.string x.a.e.nm,.int .i64 x.a.e.n,.slice p.ea x.a.e.ks.len p.ec,.string x.a.g.op,.string x.a.g.nm,.int .i64 x.a.g.n,.slice p.ga x.a.g.ks.len p.gc,.slice p.wa x.a.wh.length p.wc] T)).cell? ((⟨W.heap.size,0,none⟩:Addr).add j)=some u:=fun j u b=>by
 have h:=heap_alloc_new W (.cells #[.string x.nm,.string x.a.fn,.int .i64 x.a.k,.string x.a.e.op,.string x.a.e.nm,.int .i64 x.a.e.n,.slice p.ea x.a.e.ks.len p.ec,.string x.a.g.op,.string x.a.g.nm,.int .i64 x.a.g.n,.slice p.ga x.a.g.ks.len p.gc,.slice p.wa x.a.wh.length p.wc] T);rw [Addr.add_lit,Nat.zero_add,cell_of_row _ _ _ _ _ (0,0) h];have c:j<12:=(List.getElem?_eq_some_iff.1 b).1;match j,c,b with
 | 0,_,h=>exact h
 | 1,_,h=>exact h
 | 2,_,h=>exact h
 | 3,_,h=>exact h
 | 4,_,h=>exact h
 | 5,_,h=>exact h
 | 6,_,h=>exact h
 | 7,_,h=>exact h
 | 8,_,h=>exact h
 | 9,_,h=>exact h
 | 10,_,h=>exact h
 | 11,_,h=>exact h
theorem Mh {G:Nat->Prop} (l:List LN) (a:Tp) (c:Nat) (w:World) (hl:l.length<=1000) (hS:∀ x∈l,SmG x.a) (hr:cQ G w a l) :
 Calls prog 33 #[.slice a l.length c] w fun e w'=>∃ a' c',e=.returned (.slice a' l.length c')/\cQ (fun b=>w.heap.size<=b) w' a' l/\Below w.heap.size w w':=by
 have R:=underlying27;obtain ⟨i,zv,hi,jd,jc,jb,ja⟩:=EH;have HS:=aA hS;have HR:=aA hr;have K0:=aA (Cx (w:=w) (E:=84) (Below.refl w.heap.size w));obtain ⟨B,hB⟩:∃ B,w.heap.size=B:=⟨_,rfl⟩;rw [hB] at K0;have HB:=aA hB;clear hS hr hB;go_enter func33,ntmps33
 go_wp2_with fail
 go_loopw [3,4] (fun v i wr=>∃ (acc:List LN) (k:Nat) (t:Tp) (oc:Nat) (ps:List PA),v=.slice t k oc/\i=.int .i64 (k:Nat)/\k<=l.length/\Hid (acc.length=k)/\Hid (l.take k=acc)/\Hid (LBK w B 84 acc t oc ps wr)) (fun _ i _=>l.length-(intOf i).toNat)
 case atStart=>exact ⟨[],0,none,0,[],rfl,rfl,Nat.zero_le _,aA rfl,aA rfl,K0⟩
 case round =>
  obtain ⟨acc,k,t,oc,ps,rfl,rfl,hk,D,HA,r⟩:=hrel;clear K0;by_cases C:k<l.length
  · obtain ⟨x,hx⟩:∃ x,l[k]? = some x:=⟨_,List.getElem?_eq_getElem C⟩
    obtain ⟨b,off,p,je,jl,hG,I,H⟩:=HR.out.at hx;subst je;have m:b<wr.heap.size:=by have:=r.out.b.size;omega
    obtain ⟨m0,m1,m2,m3,m4,Z,Y,X,U,T,A,z⟩:=I.keptS (S:=fun _=>False) (aF r.out.b _) (fun h=>h);have OF:=aA (fun V (y:Below wr.heap.size wr V)=>Mi (G:=G) x.a p V (HS.out x (List.mem_of_getElem? hx)) ((H.kept r.out.b).kept y))
    have HX:=aA (show l.take (k+1)=acc++[x] by
     rw [List.take_succ_eq_append_getElem C,HA.out];rw [List.getElem?_eq_getElem C] at hx;rw [Option.some.inj hx])
    have o:=aA (p:=∀ V,Below wr.heap.size wr V->(V.cell? ⟨b,off+k*12,none⟩=some (.string x.nm)/\V.cell? ⟨b,off+k*12+1,none⟩=some (.string x.a.fn)/\V.cell? ⟨b,off+k*12+1+1,none⟩=some (.int .i64 x.a.k)/\V.cell? ⟨b,off+k*12+1+2,none⟩=some (.string x.a.e.op)/\V.cell? ⟨b,off+k*12+1+3,none⟩=some (.string x.a.e.nm)/\V.cell? ⟨b,off+k*12+1+4,none⟩=some (.int .i64 x.a.e.n)/\V.cell? ⟨b,off+k*12+1+5,none⟩=some (.slice p.ea x.a.e.ks.len p.ec)/\V.cell? ⟨b,off+k*12+1+6,none⟩=some (.string x.a.g.op)/\V.cell? ⟨b,off+k*12+1+7,none⟩=some (.string x.a.g.nm)/\V.cell? ⟨b,off+k*12+1+8,none⟩=some (.int .i64 x.a.g.n)/\V.cell? ⟨b,off+k*12+1+9,none⟩=some (.slice p.ga x.a.g.ks.len p.gc)/\V.cell? ⟨b,off+k*12+1+10,none⟩=some (.slice p.wa x.a.wh.length p.wc))) (fun V q=>by
     exact ⟨(q.cell (p:=⟨b,_,none⟩) m).trans m0,(q.cell (p:=⟨b,_,none⟩) m).trans m1,(q.cell (p:=⟨b,_,none⟩) m).trans m2,(q.cell (p:=⟨b,_,none⟩) m).trans m3,(q.cell (p:=⟨b,_,none⟩) m).trans m4,(q.cell (p:=⟨b,_,none⟩) m).trans Z,(q.cell (p:=⟨b,_,none⟩) m).trans Y,(q.cell (p:=⟨b,_,none⟩) m).trans X,(q.cell (p:=⟨b,_,none⟩) m).trans U,(q.cell (p:=⟨b,_,none⟩) m).trans T,(q.cell (p:=⟨b,_,none⟩) m).trans A,(q.cell (p:=⟨b,_,none⟩) m).trans z⟩)
    have b1:(k:Int)<(l.length:Int):=by omega
    have b2:(0:Int)<=(k:Int):=by omega
    have b3:((k:Int)).toNat=k:=by omega
    have jo:k<=1000:=by omega
    clear hx H I hG;go_upto_region 5 with fail
    go_region_held3 (fun V=>V.cell? ⟨b,off+k*12,none⟩=some (.string x.nm)/\V.cell? ⟨b,off+k*12+1,none⟩=some (.string x.a.fn)/\V.cell? ⟨b,off+k*12+1+1,none⟩=some (.int .i64 x.a.k)/\V.cell? ⟨b,off+k*12+1+2,none⟩=some (.string x.a.e.op)/\V.cell? ⟨b,off+k*12+1+3,none⟩=some (.string x.a.e.nm)/\V.cell? ⟨b,off+k*12+1+4,none⟩=some (.int .i64 x.a.e.n)/\V.cell? ⟨b,off+k*12+1+5,none⟩=some (.slice p.ea x.a.e.ks.len p.ec)/\V.cell? ⟨b,off+k*12+1+6,none⟩=some (.string x.a.g.op)/\V.cell? ⟨b,off+k*12+1+7,none⟩=some (.string x.a.g.nm)/\V.cell? ⟨b,off+k*12+1+8,none⟩=some (.int .i64 x.a.g.n)/\V.cell? ⟨b,off+k*12+1+9,none⟩=some (.slice p.ga x.a.g.ks.len p.gc)/\V.cell? ⟨b,off+k*12+1+10,none⟩=some (.slice p.wa x.a.wh.length p.wc)) (first | assumption | exact ⟨m0,m1,m2,m3,m4,Z,Y,X,U,T,A,z⟩ | exact o.out _ L.out | exact o.out _ N.out | exact jf) (first
     | (go_at_call 67
        with_reducible refine (OF.out _ (aT wr)).mono ?_
        rintro e s ⟨d,rfl,hq,y⟩;have L:=aA ((aT wr).trans y);have N:=aA (L.out.alloc L.out.size (.cells #[.string x.nm,.string x.a.fn,.int .i64 x.a.k,.string x.a.e.op,.string x.a.e.nm,.int .i64 x.a.e.n,.slice d.ea x.a.e.ks.len d.ec,.string x.a.g.op,.string x.a.g.nm,.int .i64 x.a.g.n,.slice d.ga x.a.g.ks.len d.gc,.slice d.wa x.a.wh.length d.wc] 84));have jp:=o.out _ L.out;have jg:=o.out _ N.out;have R5:=aA hq
        have jh:=aA (show (s.alloc (.cells #[.string x.nm,.string x.a.fn,.int .i64 x.a.k,.string x.a.e.op,.string x.a.e.nm,.int .i64 x.a.e.n,.slice d.ea x.a.e.ks.len d.ec,.string x.a.g.op,.string x.a.g.nm,.int .i64 x.a.g.n,.slice d.ga x.a.g.ks.len d.gc,.slice d.wa x.a.wh.length d.wc] 84)).ownsRow B 84 12 (.slice t k oc) k (jO acc ps) from by
         have:=(r.out.step L.out).own.alloc (.cells #[.string x.nm,.string x.a.fn,.int .i64 x.a.k,.string x.a.e.op,.string x.a.e.nm,.int .i64 x.a.e.n,.slice d.ea x.a.e.ks.len d.ec,.string x.a.g.op,.string x.a.g.nm,.int .i64 x.a.g.n,.slice d.ga x.a.g.ks.len d.gc,.slice d.wa x.a.wh.length d.wc] 84);rw [D.out] at this;exact this)
        have jj:=aA (show ∀ j u,(lnL x d)[j]? = some u->(s.alloc (.cells #[.string x.nm,.string x.a.fn,.int .i64 x.a.k,.string x.a.e.op,.string x.a.e.nm,.int .i64 x.a.e.n,.slice d.ea x.a.e.ks.len d.ec,.string x.a.g.op,.string x.a.g.nm,.int .i64 x.a.g.n,.slice d.ga x.a.g.ks.len d.gc,.slice d.wa x.a.wh.length d.wc] 84)).cell? ((⟨s.heap.size,0,none⟩:Addr).add j)=some u from Jk s 84 x d);have ji:=aA (fun u (hu:u∈lnL x d)=>tK [x] [d] u (by simpa [jO] using hu));have jk:=aA (show B<=(s.alloc (.cells #[.string x.nm,.string x.a.fn,.int .i64 x.a.k,.string x.a.e.op,.string x.a.e.nm,.int .i64 x.a.e.n,.slice d.ea x.a.e.ks.len d.ec,.string x.a.g.op,.string x.a.g.nm,.int .i64 x.a.g.n,.slice d.ga x.a.g.ks.len d.gc,.slice d.wa x.a.wh.length d.wc] 84)).heap.size by have h1:=r.out.hz;have h2:=N.out.size;omega);clear hq y)
     | (refine dK rfl (.tmp 11) (.tmp 24) 27 rfl (base := B) R hi jd jc jb ja (by decide) (.slice t k oc) k 1 (jO acc ps) (lnL x d) ⟨s.heap.size, 0, none⟩ 1 (by first | (simp [Act.eval]; done) | (simp [Act.eval, Act.put]; done) | fail) (by first | (simp [Act.eval]; done) | (simp [Act.eval, Act.put]; done) | fail) jh.out rfl jj.out ji.out (by unfold maxLen; omega) (by omega) jk.out ?_
        intro v4 w6 ho M hn;obtain ⟨jn,jm,hv⟩:=eQ ho;subst hv;have KA:=(aC.refl (fun b=>(Tj t k oc).ownBlock=some b) (s.alloc (.cells #[.string x.nm,.string x.a.fn,.int .i64 x.a.k,.string x.a.e.op,.string x.a.e.nm,.int .i64 x.a.e.n,.slice d.ea x.a.e.ks.len d.ec,.string x.a.g.op,.string x.a.g.nm,.int .i64 x.a.g.n,.slice d.ga x.a.g.ks.len d.gc,.slice d.wa x.a.wh.length d.wc] 84))).grown M (fun k hk=>.inl hk)
        have f:¬ (Tj t k oc).ownBlock=some b:=fun e=>by
         have h1:=(r.out.own.lt b (by rw [D.out];exact e)).1;have h2:=HB.out;omega
        obtain ⟨z0,z1,z2,z3,z4,z5,z6,z7,z8,z9,P,O⟩:=jg;have jf:=And.intro (KA.cell z0 f) (And.intro (KA.cell z1 f) (And.intro (KA.cell z2 f) (And.intro (KA.cell z3 f) (And.intro (KA.cell z4 f) (And.intro (KA.cell z5 f) (And.intro (KA.cell z6 f) (And.intro (KA.cell z7 f) (And.intro (KA.cell z8 f) (And.intro (KA.cell z9 f) (And.intro (KA.cell P f) (KA.cell O f)))))))))));have T1:=aA (yX (x:=x) (p:=d) r.out (V2:=s.alloc (.cells #[.string x.nm,.string x.a.fn,.int .i64 x.a.k,.string x.a.e.op,.string x.a.e.nm,.int .i64 x.a.e.n,.slice d.ea x.a.e.ks.len d.ec,.string x.a.g.op,.string x.a.g.nm,.int .i64 x.a.g.n,.slice d.ga x.a.g.ks.len d.gc,.slice d.wa x.a.wh.length d.wc] 84)) (N.out) (fun w7 k7=>((R5.out.kept (bA0 s (.cells #[.string x.nm,.string x.a.fn,.int .i64 x.a.k,.string x.a.e.op,.string x.a.e.nm,.int .i64 x.a.e.n,.slice d.ea x.a.e.ks.len d.ec,.string x.a.g.op,.string x.a.g.nm,.int .i64 x.a.g.n,.slice d.ga x.a.g.ks.len d.gc,.slice d.wa x.a.wh.length d.wc] 84))).keptS k7 (fun b y M=>by have h2:wr.heap.size<=b:=M;have:=y.2;omega)).imp (fun b _ y=>by have h2:wr.heap.size<=b:=y;have:=r.out.hz;omega)) (by rw [D.out];exact KA) (by rw [D.out];exact ho) (by rw [D.out];exact hn));clear ho M hn KA)
     | fail)
    clear m0 m1 m2 m3 m4 Z Y X U T A z;go_wp2_with fail
    go_roundw
    case rel=>exact ⟨acc++[x],k+1,_,_,_,rfl,by go_num,by omega,aA (by rw [Tb,D.out];rfl),HX,T1⟩
    case measure=>simp [intOf];omega
  · obtain rfl:k=l.length:=by omega
    have b1:¬ (l.length:Int)<(l.length:Int):=by omega
    have HF:=aA (show cQ (fun b=>w.heap.size<=b) wr t l by
     have h:=r.out.reads;rw [<- HA.out,List.take_length] at h;exact h)
    go_wp2_with fail
    go_ret;exact ⟨t,⟨oc,rfl⟩,HF.out,r.out.b⟩
def MP (a b:AG):Bool :=
 (a.fn.toList == b.fn.toList) && !((a.fn.data.toList == cH) && a.k != b.k) && !((a.fn.data.toList != aN) && !dF a.e b.e) && !((a.fn.data.toList == aP) && !dF a.g b.g) && (a.wh.length == b.wh.length)
structure KS (G H:Nat->Prop) (w:World) (x:AG) (p:PA) (y:AG) (q:PA) (V:World):Prop where
 b:Below w.heap.size w V
 z:w.heap.size<=V.heap.size
 n1:V.heap[w.heap.size]? = some (agO x p)
 n2:V.heap[w.heap.size+1]? = some (agO y q)
 r1:aX G V x p
 r2:aX H V y q
theorem KS.step {G H:Nat->Prop} {w V V':World} {x:AG} {p:PA} {y:AG} {q:PA} (h:KS G H w x p y q V) (a:Below V.heap.size V V'):KS G H w x p y q V' :=
 ⟨h.b.trans (a.mono h.z),Nat.le_trans h.z a.size,(a.block _ (aG h.n1)).trans h.n1,(a.block _ (aG h.n2)).trans h.n2,h.r1.kept a,h.r2.kept a⟩
theorem Rs {G H:Nat->Prop} {w:World} {x:AG} {p:PA} {y:AG} {q:PA} (hr:aX G w x p) (hs:aX H w y q):KS G H w x p y q ((w.alloc (agO x p)).alloc (agO y q)):=by
 have b:=bA0 w (agO x p);have hz:(w.alloc (agO x p)).heap.size=w.heap.size+1:=Tc _ _;have a:=(Below.refl (w.alloc (agO x p)).heap.size (w.alloc (agO x p))).alloc (Td _) (agO y q);have n2:=heap_alloc_new (w.alloc (agO x p)) (agO y q);rw [hz] at n2;exact ⟨b.trans (a.mono (by omega)),by rw [Tc,hz];omega,(a.block _ (by omega)).trans (heap_alloc_new w _),n2,(hr.kept b).kept a,(hs.kept b).kept a⟩
theorem Cn {G H:Nat->Prop} (x y:AG) (p q:PA) (w:World) (jh:vM x y=true) (hS:SzG x) (hr:aX G w x p) (hs:aX H w y q) (km:x.wh.length<=1000) (kf:y.wh.length<=1000):Calls prog 35 #[agV x p,agV y q] w fun e w'=>e=.returned (.bool (vM x y))/\Below w.heap.size w w':=by
 have jf:=Rs hr hs;obtain ⟨r,C⟩:∃ r,vM x y=r:=⟨_,rfl⟩;rw [C];have jc:=aA (show r=true by rw [<- C];exact jh);have jb:(MP x y && mJ x.wh y.wh)=r:=C;obtain ⟨o,je⟩:∃ z,MP x y=z:=⟨_,rfl⟩;rw [je] at jb;have HT:=aA (show o=true by have h:=jb;rw [jc.out,Bool.and_eq_true] at h;exact h.1);clear jh;unfold MP at je;clear C;have C:=je;clear je;have HL:=aA (fun h:o=true=>show x.wh.length=y.wh.length by rw [h] at C;simp only [Bool.and_eq_true,beq_iff_eq] at C;exact C.2)
 have HY:=aA (fun h:o=true=>show y.fn=x.fn by
  rw [h] at C;simp only [Bool.and_eq_true] at C;exact ByteArray.ext (Array.ext' (by rw [<- Tm, <- Tm];exact (eq_of_beq C.1.1.1.1).symm)))
 obtain ⟨yf,yk,ye,yg,m⟩:=y;dsimp only at C kf jb HL HY;have jy:=aA jb;clear jb;generalize jv:w.alloc (agO x p)=W1 at jf;generalize hW:W1.alloc (agO ⟨yf,yk,ye,yg,m⟩ q)=W at jf;have jx:=aA jv;have HW:=aA hW;have L:=aA jf;have HS:=aA hS;clear jv hW jf hS hr hs;obtain ⟨nz,jq⟩:∃ z,(!o)=z:=⟨_,rfl⟩;have jd:=aA jq;clear jq;go_enter func35,ntmps35
 go_upto_region 1 with fail
 rw [jx.out,HW.out];clear jx HW;go_cut [57] (fun v wc=>v=.bool nz/\Hid (KS G H w x p ⟨yf,yk,ye,yg,m⟩ q wc))
 case first =>
  obtain ⟨m0,m1,m2,m3,m4,m5,m6,m7,m8,m9,j⟩:=aE L.out.n1;obtain ⟨Z,n1,n2,Y,X,U,T,S,R,P,f⟩:=aE L.out.n2;cases hf:(x.fn.toList == yf.toList) with
  | false =>
    have kh:(x.fn.toList != yf.toList)=true:=by rw [bne,hf];rfl
    have s:=aA (show o=false by rw [<- C,hf];rfl);exact absurd (HT.out.symm.trans s.out) (by decide)
  | true =>
    obtain rfl:yf=x.fn:=ByteArray.ext (Array.ext' (by rw [<- Tm, <- Tm];exact (eq_of_beq hf).symm));have kh:(x.fn.toList != x.fn.toList)=false:=by simp
    rw [hf,Bool.true_and] at C;cases hc:(x.fn.data.toList == aN) with
    | true =>
      have f1:=MV hc (b:=cH) (by decide);have f2:=MV hc (b:=aP) (by decide);have B:(x.wh.length == m.length)=o:=by rw [<- C];unfold bne;rw [f1,f2,hc];simp
      have RL:=aA B;have KK:=aA L.out;have g0:=bG hc;have g1:=aH f1;have g2:=aH f2;unfold aN at g0;unfold cH at g1;unfold aP at g2;have g3:(x.fn.toList != [99,111,117,110,116])=false:=by rw [bne,g0];rfl
      clear C B f1 f2 hc L m0 m1 m2 m3 m4 m5 m6 m7 m8 m9 j Z n1 n2 Y X U T S R P f;obtain ⟨m0,m1,m2,m3,m4,m5,m6,m7,m8,m9,j⟩:=aE KK.out.n1;obtain ⟨Z,n1,n2,Y,X,U,T,S,R,P,f⟩:=aE KK.out.n2;by_cases hl:x.wh.length=m.length
      · have s:=aA (show o=true by rw [<- RL.out,hl];simp)
        have l1:((x.wh.length:Int) == (m.length:Int))=true:=by rw [hl];simp
        have l2:((x.wh.length:Int) != (m.length:Int))=false:=by rw [hl];simp
        clear hl RL;go_wp2_with fail
        go_meet;case rel=>exact ⟨by rw [<- jd.out,s.out];rfl,KK⟩
      · have s:=aA (show o=false by rw [<- RL.out,beq_eq_false_iff_ne];exact hl)
        exact absurd (HT.out.symm.trans s.out) (by decide)
    | false =>
      have g0:=aH hc;unfold aN at g0;have g3:(x.fn.toList != [99,111,117,110,116])=true:=by rw [bne,g0];rfl
      cases ht:(x.fn.data.toList == cH) with
      | true =>
        have f2:=MV ht (b:=aP) (by decide);have g1:=bG ht;have g2:=aH f2;unfold cH at g1;unfold aP at g2;by_cases hk:x.k=yk
        · have k1:(x.k == yk)=true:=by rw [hk];simp
          have k2:(x.k != yk)=false:=by rw [hk];simp
          have B:(dF x.e ye && ((x.wh.length == m.length)))=o:=by rw [<- C];unfold bne;rw [ht,f2,k1,hc];simp
          have Re:=aA B;clear C B hk f2 hc ht m0 m1 m2 m3 m4 m5 m6 m7 m8 m9 j Z n1 n2 Y X U T S R P f;obtain ⟨m0,m1,m2,m3,m4,m5,m6,m7,m8,m9,j⟩:=aE L.out.n1;obtain ⟨Z,n1,n2,Y,X,U,T,S,R,P,f⟩:=aE L.out.n2;have Ce:=aA (mI x.e G H _ p.ea q.ea p.ec q.ec ye HS.out.e.lens L.out.r1.e L.out.r2.e);obtain ⟨ze,A⟩:∃ z,dF x.e ye=z:=⟨_,rfl⟩;rw [A] at Ce;have O:=aA A;clear A;go_wp2_with fail
          refine Ce.out.mono ?_;rintro e we ⟨rfl,N⟩;have KE:=aA (L.out.step N);clear N Ce m0 m1 m2 m3 m4 m5 m6 m7 m8 m9 j Z n1 n2 Y X U T S R P f;cases ze with
          | false =>
            have s:=aA (show o=false by rw [<- Re.out,O.out];rfl);exact absurd (HT.out.symm.trans s.out) (by decide)
          | true =>
            have RL:=aA (show (x.wh.length == m.length)=o by rw [<- Re.out,O.out,Bool.true_and]);have KK:=aA KE.out;clear KE Re;obtain ⟨m0,m1,m2,m3,m4,m5,m6,m7,m8,m9,j⟩:=aE KK.out.n1;obtain ⟨Z,n1,n2,Y,X,U,T,S,R,P,f⟩:=aE KK.out.n2;by_cases hl:x.wh.length=m.length
            · have s:=aA (show o=true by rw [<- RL.out,hl];simp)
              have l1:((x.wh.length:Int) == (m.length:Int))=true:=by rw [hl];simp
              have l2:((x.wh.length:Int) != (m.length:Int))=false:=by rw [hl];simp
              clear hl RL;go_wp2_with fail
              go_meet;case rel=>exact ⟨by rw [<- jd.out,s.out];rfl,KK⟩
            · have s:=aA (show o=false by rw [<- RL.out,beq_eq_false_iff_ne];exact hl)
              exact absurd (HT.out.symm.trans s.out) (by decide)
        · have k1:(x.k == yk)=false:=by simpa using hk
          have k2:(x.k != yk)=true:=by simpa using hk
          have s:=aA (show o=false by rw [<- C];unfold bne;rw [ht,k1];rfl);exact absurd (HT.out.symm.trans s.out) (by decide)
      | false =>
        have g1:=aH ht;unfold cH at g1;cases hi:(x.fn.data.toList == aP) with
        | true =>
          have g2:=bG hi;unfold aP at g2;have B:(dF x.e ye && (dF x.g yg && ((x.wh.length == m.length))))=o:=by rw [<- C];unfold bne;rw [ht,hi,hc];simp [Bool.and_assoc]
          have Re:=aA B;clear C B hi hc ht m0 m1 m2 m3 m4 m5 m6 m7 m8 m9 j Z n1 n2 Y X U T S R P f;obtain ⟨m0,m1,m2,m3,m4,m5,m6,m7,m8,m9,j⟩:=aE L.out.n1;obtain ⟨Z,n1,n2,Y,X,U,T,S,R,P,f⟩:=aE L.out.n2;have Ce:=aA (mI x.e G H _ p.ea q.ea p.ec q.ec ye HS.out.e.lens L.out.r1.e L.out.r2.e);obtain ⟨ze,A⟩:∃ z,dF x.e ye=z:=⟨_,rfl⟩;rw [A] at Ce;have O:=aA A;clear A;go_wp2_with fail
          refine Ce.out.mono ?_;rintro e we ⟨rfl,N⟩;have KE:=aA (L.out.step N);clear N Ce m0 m1 m2 m3 m4 m5 m6 m7 m8 m9 j Z n1 n2 Y X U T S R P f;cases ze with
          | false =>
            have s:=aA (show o=false by rw [<- Re.out,O.out];rfl);exact absurd (HT.out.symm.trans s.out) (by decide)
          | true =>
            have Rg:=aA (show (dF x.g yg && (x.wh.length == m.length))=o by rw [<- Re.out,O.out,Bool.true_and]);clear Re;obtain ⟨m0,m1,m2,m3,m4,m5,m6,m7,m8,m9,j⟩:=aE KE.out.n1;obtain ⟨Z,n1,n2,Y,X,U,T,S,R,P,f⟩:=aE KE.out.n2;have Cg:=aA (mI x.g G H _ p.ga q.ga p.gc q.gc yg HS.out.g.lens KE.out.r1.g KE.out.r2.g);obtain ⟨zg,jj⟩:∃ z,dF x.g yg=z:=⟨_,rfl⟩;rw [jj] at Cg;have jw:=aA jj;clear jj;go_wp2_with fail
            refine Cg.out.mono ?_;rintro e wg ⟨rfl,N⟩;have KG:=aA (KE.out.step N);clear N Cg m0 m1 m2 m3 m4 m5 m6 m7 m8 m9 j Z n1 n2 Y X U T S R P f;cases zg with
            | false =>
              have s:=aA (show o=false by rw [<- Rg.out,jw.out];rfl);exact absurd (HT.out.symm.trans s.out) (by decide)
            | true =>
              have RL:=aA (show (x.wh.length == m.length)=o by rw [<- Rg.out,jw.out,Bool.true_and]);have KK:=aA KG.out;clear KG Rg;obtain ⟨m0,m1,m2,m3,m4,m5,m6,m7,m8,m9,j⟩:=aE KK.out.n1;obtain ⟨Z,n1,n2,Y,X,U,T,S,R,P,f⟩:=aE KK.out.n2;by_cases hl:x.wh.length=m.length
              · have s:=aA (show o=true by rw [<- RL.out,hl];simp)
                have l1:((x.wh.length:Int) == (m.length:Int))=true:=by rw [hl];simp
                have l2:((x.wh.length:Int) != (m.length:Int))=false:=by rw [hl];simp
                clear hl RL;go_wp2_with fail
                go_meet;case rel=>exact ⟨by rw [<- jd.out,s.out];rfl,KK⟩
              · have s:=aA (show o=false by rw [<- RL.out,beq_eq_false_iff_ne];exact hl)
                exact absurd (HT.out.symm.trans s.out) (by decide)
        | false =>
          have g2:=aH hi;unfold aP at g2;have B:(dF x.e ye && ((x.wh.length == m.length)))=o:=by rw [<- C];unfold bne;rw [ht,hi,hc];simp
          have Re:=aA B;clear C B hi hc ht m0 m1 m2 m3 m4 m5 m6 m7 m8 m9 j Z n1 n2 Y X U T S R P f;obtain ⟨m0,m1,m2,m3,m4,m5,m6,m7,m8,m9,j⟩:=aE L.out.n1;obtain ⟨Z,n1,n2,Y,X,U,T,S,R,P,f⟩:=aE L.out.n2;have Ce:=aA (mI x.e G H _ p.ea q.ea p.ec q.ec ye HS.out.e.lens L.out.r1.e L.out.r2.e);obtain ⟨ze,A⟩:∃ z,dF x.e ye=z:=⟨_,rfl⟩;rw [A] at Ce;have O:=aA A;clear A;go_wp2_with fail
          refine Ce.out.mono ?_;rintro e we ⟨rfl,N⟩;have KE:=aA (L.out.step N);clear N Ce m0 m1 m2 m3 m4 m5 m6 m7 m8 m9 j Z n1 n2 Y X U T S R P f;cases ze with
          | false =>
            have s:=aA (show o=false by rw [<- Re.out,O.out];rfl);exact absurd (HT.out.symm.trans s.out) (by decide)
          | true =>
            have RL:=aA (show (x.wh.length == m.length)=o by rw [<- Re.out,O.out,Bool.true_and]);have KK:=aA KE.out;clear KE Re;obtain ⟨m0,m1,m2,m3,m4,m5,m6,m7,m8,m9,j⟩:=aE KK.out.n1;obtain ⟨Z,n1,n2,Y,X,U,T,S,R,P,f⟩:=aE KK.out.n2;by_cases hl:x.wh.length=m.length
            · have s:=aA (show o=true by rw [<- RL.out,hl];simp)
              have l1:((x.wh.length:Int) == (m.length:Int))=true:=by rw [hl];simp
              have l2:((x.wh.length:Int) != (m.length:Int))=false:=by rw [hl];simp
              clear hl RL;go_wp2_with fail
              go_meet;case rel=>exact ⟨by rw [<- jd.out,s.out];rfl,KK⟩
            · have s:=aA (show o=false by rw [<- RL.out,beq_eq_false_iff_ne];exact hl)
              exact absurd (HT.out.symm.trans s.out) (by decide)
 case rest =>
  obtain ⟨rfl,K0⟩:=hcut;have hz:o= !nz:=by rw [<- jd.out];simp
  subst hz;cases nz with
  | true =>
    have TR:=aA (show false=r by rw [<- jy.out];rfl);exact absurd (TR.out.trans jc.out) (by decide)
  | false =>
    have jz:=aA (show x.wh.length=m.length from HL.out rfl);obtain rfl:yf=x.fn:=HY.out rfl;clear HL HY;have HL:=jz;clear jz;have T0:=aA (show mJ (x.wh.drop 0) (m.drop 0)=r by rw [List.drop_zero,List.drop_zero, <- jy.out];rfl);go_wp2_with fail
    go_loopw [5] (fun i wr=>∃ (k:Nat),i=.int .i64 k/\k<=x.wh.length/\Hid (mJ (x.wh.drop k) (m.drop k)=r)/\Hid (KS G H w x p ⟨x.fn,yk,ye,yg,m⟩ q wr)) (fun i _=>x.wh.length-(intOf i).toNat)
    case atStart=>exact ⟨0,rfl,Nat.zero_le _,T0,K0⟩
    case round =>
     obtain ⟨k,rfl,hk,HC,HK⟩:=hrel;by_cases ja:k<x.wh.length
     · have M:k<m.length:=by have:=HL.out;omega
       obtain ⟨d,hd⟩:∃ d,x.wh[k]? = some d:=⟨_,List.getElem?_eq_getElem ja⟩;obtain ⟨u,hu⟩:∃ d,m[k]? = some d:=⟨_,List.getElem?_eq_getElem M⟩;have jr:¬ x.wh=[]:=fun e=>by rw [e] at ja;simp at ja
       have ji:¬ m=[]:=fun e=>by rw [e] at M;simp at M
       obtain ⟨b,off,jo, -,I,ju⟩:=HK.out.r1.c.resolve_left jr;obtain ⟨g,l,jn, -,E,jt⟩:=HK.out.r2.c.resolve_left ji;obtain ⟨a1,c1,a2,c2,⟨p0,p1,p2,p3,p4,p5,p6,p7,p8⟩,r1,r2⟩:=ju k d hd;obtain ⟨e1,f1,e2,f2,⟨q0,q1,q2,q3,q4,q5,q6,q7,q8⟩,s1,s2⟩:=jt k u hu;obtain ⟨-, -, -, -, -, -, -, -, -, -,j⟩:=aE HK.out.n1;obtain ⟨-, -, -, -, -, -, -, -, -, -,f⟩:=aE HK.out.n2;rw [jo] at j;have jg:wr.cell? ⟨w.heap.size+1,10,none⟩=some (.slice (some ⟨g,l,none⟩) x.wh.length q.wc):=by rw [f, <- jn,HL.out]
       clear f;have f:=jg;clear jg
       have D:=aA (p:=∀ V,Below wr.heap.size wr V->(V.cell? ⟨w.heap.size,10,none⟩=some (.slice (some ⟨b,off,none⟩) x.wh.length p.wc)/\V.cell? ⟨w.heap.size+1,10,none⟩=some (.slice (some ⟨g,l,none⟩) x.wh.length q.wc)/\V.cell? ⟨b,off+k*9,none⟩=some (.string d.op)/\V.cell? ⟨b,off+k*9+1,none⟩=some (.string d.a.op)/\V.cell? ⟨b,off+k*9+1+1,none⟩=some (.string d.a.nm)/\V.cell? ⟨b,off+k*9+1+2,none⟩=some (.int .i64 d.a.n)/\V.cell? ⟨b,off+k*9+1+3,none⟩=some (.slice a1 d.a.ks.len c1)/\V.cell? ⟨b,off+k*9+5,none⟩=some (.string d.b.op)/\V.cell? ⟨b,off+k*9+5+1,none⟩=some (.string d.b.nm)/\V.cell? ⟨b,off+k*9+5+2,none⟩=some (.int .i64 d.b.n)/\V.cell? ⟨b,off+k*9+5+3,none⟩=some (.slice a2 d.b.ks.len c2)/\V.cell? ⟨g,l+k*9,none⟩=some (.string u.op)/\V.cell? ⟨g,l+k*9+1,none⟩=some (.string u.a.op)/\V.cell? ⟨g,l+k*9+1+1,none⟩=some (.string u.a.nm)/\V.cell? ⟨g,l+k*9+1+2,none⟩=some (.int .i64 u.a.n)/\V.cell? ⟨g,l+k*9+1+3,none⟩=some (.slice e1 u.a.ks.len f1)/\V.cell? ⟨g,l+k*9+5,none⟩=some (.string u.b.op)/\V.cell? ⟨g,l+k*9+5+1,none⟩=some (.string u.b.nm)/\V.cell? ⟨g,l+k*9+5+2,none⟩=some (.int .i64 u.b.n)/\V.cell? ⟨g,l+k*9+5+3,none⟩=some (.slice e2 u.b.ks.len f2))) (fun V t=>by
        have z1:=aG HK.out.n1;have z2:=aG HK.out.n2;exact ⟨(t.cell (p:=⟨w.heap.size,_,none⟩) z1).trans j,(t.cell (p:=⟨w.heap.size+1,_,none⟩) z2).trans f,(t.cell (p:=⟨b,_,none⟩) I).trans p0,(t.cell (p:=⟨b,_,none⟩) I).trans p1,(t.cell (p:=⟨b,_,none⟩) I).trans p2,(t.cell (p:=⟨b,_,none⟩) I).trans p3,(t.cell (p:=⟨b,_,none⟩) I).trans p4,(t.cell (p:=⟨b,_,none⟩) I).trans p5,(t.cell (p:=⟨b,_,none⟩) I).trans p6,(t.cell (p:=⟨b,_,none⟩) I).trans p7,(t.cell (p:=⟨b,_,none⟩) I).trans p8,(t.cell (p:=⟨g,_,none⟩) E).trans q0,(t.cell (p:=⟨g,_,none⟩) E).trans q1,(t.cell (p:=⟨g,_,none⟩) E).trans q2,(t.cell (p:=⟨g,_,none⟩) E).trans q3,(t.cell (p:=⟨g,_,none⟩) E).trans q4,(t.cell (p:=⟨g,_,none⟩) E).trans q5,(t.cell (p:=⟨g,_,none⟩) E).trans q6,(t.cell (p:=⟨g,_,none⟩) E).trans q7,(t.cell (p:=⟨g,_,none⟩) E).trans q8⟩)
       have js:x.wh.drop k=d::x.wh.drop (k+1):=by
        rw [List.drop_eq_getElem_cons ja];have:=List.getElem?_eq_getElem ja;rw [this] at hd;rw [Option.some.inj hd]
       have jp:m.drop k=u::m.drop (k+1):=by
        rw [List.drop_eq_getElem_cons M];have:=List.getElem?_eq_getElem M;rw [this] at hu;rw [Option.some.inj hu]
       have jk:=HS.out.c d (List.mem_of_getElem? hd);have hC:=HC.out;rw [js,jp,mJ] at hC;have C1:=aA (fun V (t:Below wr.heap.size wr V)=>mI d.a G H V a1 e1 c1 f1 u.a jk.1.lens (r1.kept t) (s1.kept t));have C2:=aA (fun V (t:Below wr.heap.size wr V)=>mI d.b G H V a2 e2 c2 f2 u.b jk.2.lens (r2.kept t) (s2.kept t));obtain ⟨z1,jm⟩:∃ z,dF d.a u.a=z:=⟨_,rfl⟩;obtain ⟨z2,jl⟩:∃ z,dF d.b u.b=z:=⟨_,rfl⟩;rw [jm] at C1 hC;rw [jl] at C2 hC;have b1:(k:Int)<(x.wh.length:Int):=by omega
       have b2:(0:Int)<=(k:Int):=by omega
       have b3:((k:Int)).toNat=k:=by omega
       clear jr ji ju jt js jp jk jm jl r1 r2 s1 s2 hd hu jo jn HC;cases ho:(d.op.toList == u.op.toList) with
       | false =>
         have ke:(d.op.toList != u.op.toList)=true:=by rw [bne,ho];rfl
         have TR:=aA (show false=r by rw [<- hC,ho];rfl);exact absurd (TR.out.trans jc.out) (by decide)
       | true =>
         have ke:(d.op.toList != u.op.toList)=false:=by rw [bne,ho];rfl
         rw [ho] at hC;cases z1 with
         | false =>
           have TR:=aA (show false=r by rw [<- hC];rfl);exact absurd (TR.out.trans jc.out) (by decide)
         | true =>
           have kb:=aA (show (z2 && mJ (x.wh.drop (k+1)) (m.drop (k+1)))=r by rw [<- hC];simp);clear hC;go_upto_region 6 with fail
           cases z2 with
           | false =>
             have TR:=aA (show false=r by rw [<- kb.out];rfl);exact absurd (TR.out.trans jc.out) (by decide)
           | true =>
             have kl:=aA (show mJ (x.wh.drop (k+1)) (m.drop (k+1))=r by rw [<- kb.out];simp)
             go_region_held3 (fun V=>V.cell? ⟨w.heap.size,10,none⟩=some (.slice (some ⟨b,off,none⟩) x.wh.length p.wc)/\V.cell? ⟨w.heap.size+1,10,none⟩=some (.slice (some ⟨g,l,none⟩) x.wh.length q.wc)/\V.cell? ⟨b,off+k*9,none⟩=some (.string d.op)/\V.cell? ⟨b,off+k*9+1,none⟩=some (.string d.a.op)/\V.cell? ⟨b,off+k*9+1+1,none⟩=some (.string d.a.nm)/\V.cell? ⟨b,off+k*9+1+2,none⟩=some (.int .i64 d.a.n)/\V.cell? ⟨b,off+k*9+1+3,none⟩=some (.slice a1 d.a.ks.len c1)/\V.cell? ⟨b,off+k*9+5,none⟩=some (.string d.b.op)/\V.cell? ⟨b,off+k*9+5+1,none⟩=some (.string d.b.nm)/\V.cell? ⟨b,off+k*9+5+2,none⟩=some (.int .i64 d.b.n)/\V.cell? ⟨b,off+k*9+5+3,none⟩=some (.slice a2 d.b.ks.len c2)/\V.cell? ⟨g,l+k*9,none⟩=some (.string u.op)/\V.cell? ⟨g,l+k*9+1,none⟩=some (.string u.a.op)/\V.cell? ⟨g,l+k*9+1+1,none⟩=some (.string u.a.nm)/\V.cell? ⟨g,l+k*9+1+2,none⟩=some (.int .i64 u.a.n)/\V.cell? ⟨g,l+k*9+1+3,none⟩=some (.slice e1 u.a.ks.len f1)/\V.cell? ⟨g,l+k*9+5,none⟩=some (.string u.b.op)/\V.cell? ⟨g,l+k*9+5+1,none⟩=some (.string u.b.nm)/\V.cell? ⟨g,l+k*9+5+2,none⟩=some (.int .i64 u.b.n)/\V.cell? ⟨g,l+k*9+5+3,none⟩=some (.slice e2 u.b.ks.len f2)) (first | assumption | exact ⟨j,f,p0,p1,p2,p3,p4,p5,p6,p7,p8,q0,q1,q2,q3,q4,q5,q6,q7,q8⟩ | exact D.out _ B6.out | exact D.out _ B5.out) (first
              | (go_at_call 70
                 with_reducible refine (C1.out _ (aT wr)).mono ?_
                 rintro e w5 ⟨rfl,N⟩;have B5:=aA ((aT wr).trans N);have kj:=D.out _ B5.out;clear N)
              | (go_at_call 70
                 with_reducible refine (C2.out w5 B5.out).mono ?_
                 rintro e w6 ⟨rfl,N⟩;have B6:=aA (B5.out.trans (N.mono B5.out.size));have ki:=D.out _ B6.out;clear N)
              | fail)
             have HE:=aA (HK.out.step B6.out);clear B5 B6 D C1 C2 kj ki j f p0 p1 p2 p3 p4 p5 p6 p7 p8 q0 q1 q2 q3 q4 q5 q6 q7 q8;go_wp2_with fail
             go_roundw
             case rel=>exact ⟨k+1,by go_num,by omega,kl,HE⟩
             case measure=>simp [intOf];omega
     · have e1:x.wh.drop k=[]:=List.drop_of_length_le (by omega)
       have e2:m.drop k=[]:=List.drop_of_length_le (by have:=HL.out;omega);have TR:=aA (show true=r by rw [<- HC.out,e1,e2];rfl);have b1:¬ (k:Int)<(x.wh.length:Int):=by omega
       obtain ⟨-, -, -, -, -, -, -, -, -, -,j⟩:=aE HK.out.n1;go_wp2_with fail
       go_ret;exact ⟨congrArg (fun z=>Ending.returned (.bool z)) TR.out,HK.out.b⟩
def mL (x:AG) (k:Nat):Tq:=if k=0 then oI x.wh else gQ (x.wh.drop k)
theorem tC (x:AG):mL x 0=oI x.wh:=if_pos rfl
theorem xT {x:AG} {k:Nat} (h:¬ k=0):mL x k=gQ (x.wh.drop k):=if_neg h
theorem A7 {x:AG} {k:Nat}:mL x (k+1)=gQ (x.wh.drop (k+1)):=if_neg (by omega)
theorem A6 {x:AG} {d:CD} {r:List CD} {k:Nat} (c:k=0) (h:x.wh.drop k=d::r):mL x k=[32,119,104,101,114,101,32]++(aV d.a++32::(d.op.data.toList++32::aV d.b))++gQ r:=by
 subst c;rw [tC];rw [List.drop_zero] at h;rw [h,oI]
theorem D6 {x:AG} {k:Nat} (h:x.wh.drop k=[]):mL x k=[]:=by
 by_cases a:k=0
 · subst a
   rw [tC];rw [List.drop_zero] at h;rw [h,oI]
 · rw [xT a,h,gQ]
theorem dQ {t:TN} (h:aW t=0) (hn:dU t.f):(aV t).length<=700:=by
 obtain ⟨a,b⟩:=(cC t).1 h;have:=DE t a hn;omega
theorem Cv {o:Tr} (h:(bE o 0 0).isSome=true):o.size<=2:=by
 have:o.size=o.data.toList.length:=by simp
 rw [this];rcases F3 h with h | h | h | h | h | h <;> rw [h] <;> simp
theorem pN:∀ l:List CD,gO l=0->∀ d∈l,(bE d.op 0 0).isSome=true/\aW d.a=0/\aW d.b=0
 | [],_,d,hd=>by cases hd
 | c :: r, h, d, hd => by
   obtain ⟨k,j,g,f⟩:=jC h;rcases List.mem_cons.1 hd with rfl | hd
   · exact ⟨k,j,g⟩
   · exact pN r f d hd
theorem C8 {x:AG} (h:dZ x.fn.data.toList=true):x.fn.size<=5:=by
 have:x.fn.size=x.fn.data.toList.length:=by simp
 rw [this];unfold dZ at h;simp only [Bool.or_eq_true,beq_iff_eq] at h;rcases h with ((((h | h) | h) | h) | h) | h <;> rw [h] <;> decide
theorem IV {x:AG} {d:CD} {r:List CD} {k:Nat} (h:x.wh.drop k=d::r):mL x k=(if k=0 then [32,119,104,101,114,101,32] else [32,97,110,100,32])++((aV d.a++32::(d.op.data.toList++32::aV d.b))++gQ r):=by
 by_cases c:k=0
 · rw [A6 c h,if_pos c,List.append_assoc]
 · rw [xT c,h,gQ,if_neg c]
   simp
theorem Cp {G:Nat->Prop} (x:AG) (p:PA) (w:World) (h:gA x=0) (hn:gM x) (hr:aX G w x p):Calls prog 39 #[agV x p] w fun e w'=>e=.returned (.string ⟨(dY x).toArray⟩)/\Below w.heap.size w w':=by
 obtain ⟨Y,h2,X,h4,h5,h6⟩:=cY h;have K0:=Mx hr;generalize hW:w.alloc (agO x p)=W at K0;have HW:=aA hW;have D:=aA K0;have HC:=aA (pN x.wh h6);have kj:=aA hn.c;have jv:=C8 Y;obtain ⟨M,jj⟩:∃ f,dY x=f:=⟨_,rfl⟩;rw [jj];have jq:=aA jj;have f0:(9223372036854775807<x.fn.size+1)=False:=by rw [eq_iff_iff,iff_false];omega
 clear hW K0 hr h6 h jj;obtain ⟨m0,m1,U,T,R,P,m6,m7,m8,m9,o⟩:=aE D.out.n;go_enter func39,ntmps39
 go_upto_region 1 with fail
 rw [HW.out];go_upto_block 0 with fail
 go_cut [3] (fun sv wc=>∃ I:Tr,sv=.string I/\Hid (I.data.toList=x.fn.data.toList++40::gL x)/\Hid (I.size<=1900)/\Hid (KA G w x p wc))
 case first =>
  have jx:x.fn.data.toList=aN\/x.fn.data.toList=aP\/x.fn.data.toList=cH\/(x.fn.data.toList=lZ\/x.fn.data.toList=oO\/x.fn.data.toList=lY):=by
   have h9:=Y;unfold dZ at h9;simp only [Bool.or_eq_true,beq_iff_eq] at h9;rcases h9 with ((((h9 | h9) | h9) | h9) | h9) | h9 <;> simp [h9]
  rcases jx with hc | hc | hc | hc
  · have jg:(x.fn.toList == [109,105,110])=false:=aH (by rw [hc];decide)
    have jh:(x.fn.toList == [109,97,120])=false:=aH (by rw [hc];decide);have jf:(x.fn.toList == [115,117,109])=false:=aH (by rw [hc];decide);have L:(x.fn.toList == [102,105,114,115,116])=false:=aH (by rw [hc];decide);have jo:(x.fn.toList == [116,111,112])=false:=aH (by rw [hc];decide);have u:=aA (show (x.fn++⟨#[40]⟩:Tr).data.toList=x.fn.data.toList++40::gL x by unfold gL;rw [if_pos hc];simp);have s:=aA (show (x.fn++⟨#[40]⟩:Tr).size<=1900 by rw [ByteArray.size_append];show x.fn.size+1<=_;omega);clear Y h2 X h4 hn hc;go_wp2_with fail
    go_meet;case rel=>exact ⟨_,rfl,u,s,D⟩
  · have f1:¬ x.fn.data.toList=aN:=by rw [hc];decide
    have f2:¬ x.fn.data.toList=cH:=by rw [hc];decide
    have he:=X f1;have E:=dQ he hn.e;have A:=aA (fun V (m:Below W.heap.size W V)=>pX x.e ((cC _).1 he).1 hn.e G V p.ea p.ec (by omega) (D.out.r.e.kept m));have jm:=dQ (h4 hc) hn.g;have B:=aA (fun V (m:Below W.heap.size W V)=>pX x.g ((cC _).1 (h4 hc)).1 hn.g G V p.ga p.gc (by omega) (D.out.r.g.kept m));obtain ⟨TA,l⟩:∃ S:Tr,⟨(aV x.e).toArray⟩=S:=⟨_,rfl⟩;obtain ⟨N,j⟩:∃ S:Tr,⟨(aV x.g).toArray⟩=S:=⟨_,rfl⟩;have jc:TA.size<=700:=by rw [<- l];show (aV x.e).toArray.size<=700;rw [List.size_toArray];exact E
    have jb:N.size<=700:=by rw [<- j];show (aV x.g).toArray.size<=700;rw [List.size_toArray];exact jm
    rw [l] at A;rw [j] at B;have jg:(x.fn.toList == [109,105,110])=false:=aH (by rw [hc];decide);have jh:(x.fn.toList == [109,97,120])=false:=aH (by rw [hc];decide);have jf:(x.fn.toList == [115,117,109])=false:=aH (by rw [hc];decide);have L:(x.fn.toList == [102,105,114,115,116])=true:=bG (by rw [hc];decide);obtain ⟨I,q⟩:∃ S:Tr,x.fn++⟨#[40]⟩++TA++⟨#[44,32]⟩++N=S:=⟨_,rfl⟩;have u:=aA (show I.data.toList=x.fn.data.toList++40::gL x by rw [<- q, <- l, <- j];unfold gL;rw [if_neg f1,if_neg f2,if_pos hc];simp);have s:=aA (show I.size<=1900 by rw [<- q];simp only [ByteArray.size_append];show x.fn.size+1+TA.size+2+N.size<=_;omega);have kb:(9223372036854775807<x.fn.size+1+TA.size)=False:=by rw [eq_iff_iff,iff_false];omega
    have jz:(9223372036854775807<x.fn.size+1+TA.size+2)=False:=by rw [eq_iff_iff,iff_false];omega
    have jy:(9223372036854775807<x.fn.size+1+TA.size+2+N.size)=False:=by rw [eq_iff_iff,iff_false];omega
    have CL:=aA (p:=∀ V,Below W.heap.size W V->(V.cell? ⟨w.heap.size,2,none⟩=some (.string x.e.op)/\V.cell? ⟨w.heap.size,2+1,none⟩=some (.string x.e.nm)/\V.cell? ⟨w.heap.size,2+2,none⟩=some (.int .i64 x.e.n)/\V.cell? ⟨w.heap.size,2+3,none⟩=some (.slice p.ea x.e.ks.len p.ec)/\V.cell? ⟨w.heap.size,6,none⟩=some (.string x.g.op)/\V.cell? ⟨w.heap.size,6+1,none⟩=some (.string x.g.nm)/\V.cell? ⟨w.heap.size,6+2,none⟩=some (.int .i64 x.g.n)/\V.cell? ⟨w.heap.size,6+3,none⟩=some (.slice p.ga x.g.ks.len p.gc))) (fun V m=>by
     obtain ⟨m0,m1,U,T,R,P,m6,m7,m8,m9,o⟩:=aE (D.out.step m).n;exact ⟨U,T,R,P,m6,m7,m8,m9⟩)
    clear Y h2 X h4 hn hc f1 f2 he l j E jm;go_upto_region 8 with fail
    go_region_held3 (fun V=>V.cell? ⟨w.heap.size,2,none⟩=some (.string x.e.op)/\V.cell? ⟨w.heap.size,2+1,none⟩=some (.string x.e.nm)/\V.cell? ⟨w.heap.size,2+2,none⟩=some (.int .i64 x.e.n)/\V.cell? ⟨w.heap.size,2+3,none⟩=some (.slice p.ea x.e.ks.len p.ec)/\V.cell? ⟨w.heap.size,6,none⟩=some (.string x.g.op)/\V.cell? ⟨w.heap.size,6+1,none⟩=some (.string x.g.nm)/\V.cell? ⟨w.heap.size,6+2,none⟩=some (.int .i64 x.g.n)/\V.cell? ⟨w.heap.size,6+3,none⟩=some (.slice p.ga x.g.ks.len p.gc)) (first | assumption | exact ⟨U,T,R,P,m6,m7,m8,m9⟩ | exact CL.out _ B3.out | exact CL.out _ O.out) (first
     | (go_at_call 75
        with_reducible refine (A.out _ (aT W)).mono ?_
        rintro e w2 ⟨rfl,y⟩;have O:=aA ((aT W).trans y);have cc:=CL.out _ O.out;clear y)
     | (go_at_call 75
        with_reducible refine (B.out _ O.out).mono ?_
        rintro e w3 ⟨rfl,y⟩;have B3:=aA (O.out.trans (y.mono O.out.size));have cd:=CL.out _ B3.out;clear y)
     | fail)
    have K2:=aA (D.out.step B3.out);clear O B3 A B CL cc cd m0 m1 U T R P m6 m7 m8 m9 o;go_wp2_with fail
    try rw [q]
    go_meet;case rel=>exact ⟨_,rfl,u,s,K2⟩
  · have f1:¬ x.fn.data.toList=aN:=by rw [hc];decide
    have f2:¬ x.fn.data.toList=aP:=by rw [hc];decide
    have he:=X f1;have E:=dQ he hn.e;have ju:=h2 hc;have jt:(Tl x.k.toNat).length<=19:=by have:=zA (n:=x.k) (by omega) (by omega);rw [tN (by omega)] at this;exact this
    have A:=aA (fun V (_:Below W.heap.size W V)=>zT x.k.toNat (by omega) V);rw [show ((x.k.toNat:Nat):Int)=x.k by omega] at A;have B:=aA (fun V (m:Below W.heap.size W V)=>pX x.e ((cC _).1 he).1 hn.e G V p.ea p.ec (by omega) (D.out.r.e.kept m));obtain ⟨TA,l⟩:∃ S:Tr,⟨(Tl x.k.toNat).toArray⟩=S:=⟨_,rfl⟩;obtain ⟨N,j⟩:∃ S:Tr,⟨(aV x.e).toArray⟩=S:=⟨_,rfl⟩;have jc:TA.size<=700:=by rw [<- l];show (Tl x.k.toNat).toArray.size<=700;rw [List.size_toArray];omega
    have jb:N.size<=700:=by rw [<- j];show (aV x.e).toArray.size<=700;rw [List.size_toArray];exact E
    rw [l] at A;rw [j] at B;have jg:(x.fn.toList == [109,105,110])=false:=aH (by rw [hc];decide);have jh:(x.fn.toList == [109,97,120])=false:=aH (by rw [hc];decide);have jf:(x.fn.toList == [115,117,109])=false:=aH (by rw [hc];decide);have L:(x.fn.toList == [102,105,114,115,116])=false:=aH (by rw [hc];decide);have jo:(x.fn.toList == [116,111,112])=true:=bG (by rw [hc];decide);obtain ⟨I,q⟩:∃ S:Tr,x.fn++⟨#[40]⟩++TA++⟨#[44,32]⟩++N=S:=⟨_,rfl⟩;have u:=aA (show I.data.toList=x.fn.data.toList++40::gL x by rw [<- q, <- l, <- j];unfold gL;rw [if_neg f1,if_pos hc,tN (show 0<=x.k by omega)];simp);have s:=aA (show I.size<=1900 by rw [<- q];simp only [ByteArray.size_append];show x.fn.size+1+TA.size+2+N.size<=_;omega);have kb:(9223372036854775807<x.fn.size+1+TA.size)=False:=by rw [eq_iff_iff,iff_false];omega
    have jz:(9223372036854775807<x.fn.size+1+TA.size+2)=False:=by rw [eq_iff_iff,iff_false];omega
    have jy:(9223372036854775807<x.fn.size+1+TA.size+2+N.size)=False:=by rw [eq_iff_iff,iff_false];omega
    have CL:=aA (p:=∀ V,Below W.heap.size W V->(V.cell? ⟨w.heap.size,2,none⟩=some (.string x.e.op)/\V.cell? ⟨w.heap.size,2+1,none⟩=some (.string x.e.nm)/\V.cell? ⟨w.heap.size,2+2,none⟩=some (.int .i64 x.e.n)/\V.cell? ⟨w.heap.size,2+3,none⟩=some (.slice p.ea x.e.ks.len p.ec)/\V.cell? ⟨w.heap.size,1,none⟩=some (.int .i64 x.k))) (fun V m=>by
     obtain ⟨m0,m1,U,T,R,P,m6,m7,m8,m9,o⟩:=aE (D.out.step m).n;exact ⟨U,T,R,P,m1⟩)
    clear Y h2 X h4 hn hc f1 f2 he l j E ju jt;go_upto_region 10 with fail
    go_region_held3 (fun V=>V.cell? ⟨w.heap.size,2,none⟩=some (.string x.e.op)/\V.cell? ⟨w.heap.size,2+1,none⟩=some (.string x.e.nm)/\V.cell? ⟨w.heap.size,2+2,none⟩=some (.int .i64 x.e.n)/\V.cell? ⟨w.heap.size,2+3,none⟩=some (.slice p.ea x.e.ks.len p.ec)/\V.cell? ⟨w.heap.size,1,none⟩=some (.int .i64 x.k)) (first | assumption | exact ⟨U,T,R,P,m1⟩ | exact CL.out _ B3.out | exact CL.out _ O.out) (first
     | (go_at_call 76
        with_reducible refine (A.out _ (aT W)).mono ?_
        rintro e w2 ⟨rfl,y⟩;have O:=aA ((aT W).trans y);have cc:=CL.out _ O.out;clear y)
     | (go_at_call 75
        with_reducible refine (B.out _ O.out).mono ?_
        rintro e w3 ⟨rfl,y⟩;have B3:=aA (O.out.trans (y.mono O.out.size));have cd:=CL.out _ B3.out;clear y)
     | fail)
    have K2:=aA (D.out.step B3.out);clear O B3 A B CL cc cd m0 m1 U T R P m6 m7 m8 m9 o;go_wp2_with fail
    try rw [q]
    go_meet;case rel=>exact ⟨_,rfl,u,s,K2⟩
  · have f1:¬ x.fn.data.toList=aN:=by rcases hc with hc | hc | hc <;> rw [hc] <;> decide
    have f2:¬ x.fn.data.toList=cH:=by rcases hc with hc | hc | hc <;> rw [hc] <;> decide
    have f3:¬ x.fn.data.toList=aP:=by rcases hc with hc | hc | hc <;> rw [hc] <;> decide
    have he:=X f1;have E:=dQ he hn.e;have C:=aA (pX x.e ((cC _).1 he).1 hn.e G W p.ea p.ec (by omega) D.out.r.e);obtain ⟨TE,jd⟩:∃ S:Tr,⟨(aV x.e).toArray⟩=S:=⟨_,rfl⟩;rw [jd] at C;have E:TE.size<=700:=by rw [<- jd];show (aV x.e).toArray.size<=700;rw [List.size_toArray];exact E
    obtain ⟨I,q⟩:∃ S:Tr,x.fn++⟨#[40]⟩++TE=S:=⟨_,rfl⟩;have u:=aA (show I.data.toList=x.fn.data.toList++40::gL x by rw [<- q, <- jd];unfold gL;rw [if_neg f1,if_neg f2,if_neg f3];simp);have s:=aA (show I.size<=1900 by rw [<- q];simp only [ByteArray.size_append];show x.fn.size+1+TE.size<=_;omega);have ko:(9223372036854775807<x.fn.size+1+TE.size)=False:=by rw [eq_iff_iff,iff_false];omega
    have gE:((x.fn.toList == [109,105,110])=true\/(x.fn.toList == [109,105,110])=false/\(x.fn.toList == [109,97,120])=true\/(x.fn.toList == [109,105,110])=false/\(x.fn.toList == [109,97,120])=false/\(x.fn.toList == [115,117,109])=true):=by
     rcases hc with hc | hc | hc
     · exact .inl (bG (by rw [hc];rfl))
     · exact .inr (.inl ⟨aH (by rw [hc];decide),bG (by rw [hc];rfl)⟩)
     · exact .inr (.inr ⟨aH (by rw [hc];decide),aH (by rw [hc];decide),bG (by rw [hc];rfl)⟩)
    clear Y h2 X h4 hn hc f1 f2 f3 he jd E;rcases gE with g1 | ⟨g1,g2⟩ | ⟨g1,g2,g3⟩ <;>
    · go_wp2_with fail
      refine C.out.mono ?_;rintro e w1 ⟨rfl,y⟩;have K2:=aA (D.out.step y);clear y C;go_wp2_with fail
      try rw [q]
      go_meet;case rel=>exact ⟨_,rfl,u,s,K2⟩
 case rest =>
  obtain ⟨I,rfl,u,s,D⟩:=hcut;have kl:=aA (show (I++⟨#[41]⟩).data.toList++mL x 0=M by have e:(I++⟨#[41]⟩:Tr).data.toList=I.data.toList++[41]:=(by simp);rw [<- jq.out,e,u.out];simp [dY,tC]);have ki:=aA (show (I++⟨#[41]⟩).size<=2000+2000*0 by rw [ByteArray.size_append];have:=s.out;show I.size+1<=_;omega);have K1:=aA D.out;have x0:(9223372036854775807<I.size+1)=False:=by rw [eq_iff_iff,iff_false];have:=s.out;omega
  clear u s jq jv Y h2 X h4 hn D;obtain ⟨m0,m1,U,T,R,P,m6,m7,m8,m9,o⟩:=aE K1.out.n;go_wp2_with fail
  clear m0 m1 U T R P m6 m7 m8 m9 o;go_loopw [3,4] (fun sv i wr=>∃ (k:Nat) (S:Tr),sv=.string S/\i=.int .i64 k/\k<=x.wh.length/\Hid (S.data.toList++mL x k=M)/\Hid (S.size<=2000+2000*k)/\Hid (KA G w x p wr)) (fun _ i _=>x.wh.length-(intOf i).toNat)
  case atStart=>exact ⟨0,_,rfl,rfl,Nat.zero_le _,kl,ki,K1⟩
  case round =>
   obtain ⟨k,S,rfl,rfl,hk,HF,HZ,D⟩:=hrel;obtain ⟨m0,m1,U,T,R,P,m6,m7,m8,m9,o⟩:=aE D.out.n;by_cases ja:k<x.wh.length
   · obtain ⟨d,hd⟩:∃ d,x.wh[k]? = some d:=⟨_,List.getElem?_eq_getElem ja⟩
     have jl:¬ x.wh=[]:=fun e=>by rw [e] at ja;simp at ja
     obtain ⟨b,off,jk, -,H,jn⟩:=D.out.r.c.resolve_left jl;obtain ⟨a1,c1,a2,c2,⟨p0,p1,p2,p3,p4,p5,p6,p7,p8⟩,r1,r2⟩:=jn k d hd;rw [jk] at o
     have t:=aA (p:=∀ V,Below wr.heap.size wr V->(V.cell? ⟨w.heap.size,10,none⟩=some (.slice (some ⟨b,off,none⟩) x.wh.length p.wc)/\V.cell? ⟨b,off+k*9,none⟩=some (.string d.op)/\V.cell? ⟨b,off+k*9+1,none⟩=some (.string d.a.op)/\V.cell? ⟨b,off+k*9+1+1,none⟩=some (.string d.a.nm)/\V.cell? ⟨b,off+k*9+1+2,none⟩=some (.int .i64 d.a.n)/\V.cell? ⟨b,off+k*9+1+3,none⟩=some (.slice a1 d.a.ks.len c1)/\V.cell? ⟨b,off+k*9+5,none⟩=some (.string d.b.op)/\V.cell? ⟨b,off+k*9+5+1,none⟩=some (.string d.b.nm)/\V.cell? ⟨b,off+k*9+5+2,none⟩=some (.int .i64 d.b.n)/\V.cell? ⟨b,off+k*9+5+3,none⟩=some (.slice a2 d.b.ks.len c2))) (fun V m=>by
      have z1:=aG D.out.n;exact ⟨(m.cell (p:=⟨w.heap.size,_,none⟩) z1).trans o,(m.cell (p:=⟨b,_,none⟩) H).trans p0,(m.cell (p:=⟨b,_,none⟩) H).trans p1,(m.cell (p:=⟨b,_,none⟩) H).trans p2,(m.cell (p:=⟨b,_,none⟩) H).trans p3,(m.cell (p:=⟨b,_,none⟩) H).trans p4,(m.cell (p:=⟨b,_,none⟩) H).trans p5,(m.cell (p:=⟨b,_,none⟩) H).trans p6,(m.cell (p:=⟨b,_,none⟩) H).trans p7,(m.cell (p:=⟨b,_,none⟩) H).trans p8⟩)
     have jw:x.wh.drop k=d::x.wh.drop (k+1):=by
      rw [List.drop_eq_getElem_cons ja];have:=List.getElem?_eq_getElem ja;rw [this] at hd;rw [Option.some.inj hd]
     obtain ⟨Y,h2,X⟩:=HC.out d (List.mem_of_getElem? hd);have Z:=kj.out d (List.mem_of_getElem? hd);have jc:=dQ h2 Z.1;have jb:=dQ X Z.2;have js:d.op.size<=2:=Cv Y;have A1:=aA (fun V (m:Below wr.heap.size wr V)=>pX d.a ((cC _).1 h2).1 Z.1 G V a1 c1 (by omega) (r1.kept m));have A2:=aA (fun V (m:Below wr.heap.size wr V)=>pX d.b ((cC _).1 X).1 Z.2 G V a2 c2 (by omega) (r2.kept m));obtain ⟨TA,l⟩:∃ S:Tr,⟨(aV d.a).toArray⟩=S:=⟨_,rfl⟩;obtain ⟨N,j⟩:∃ S:Tr,⟨(aV d.b).toArray⟩=S:=⟨_,rfl⟩;rw [l] at A1;rw [j] at A2;have jc:TA.size<=700:=by rw [<- l];show (aV d.a).toArray.size<=700;rw [List.size_toArray];exact jc
     have jb:N.size<=700:=by rw [<- j];show (aV d.b).toArray.size<=700;rw [List.size_toArray];exact jb
     have hF:=HF.out;have b1:(k:Int)<(x.wh.length:Int):=by omega
     have b2:(0:Int)<=(k:Int):=by omega
     have b3:((k:Int)).toNat=k:=by omega
     clear jl jn jk r1 r2 hd Y h2 X Z HF m0 m1 U T R P m6 m7 m8 m9;rw [IV jw] at hF;have h8:=HZ.out;go_upto_if 53 with fail
     go_cut [3] (fun sv wc=>∃ S1:Tr,sv=.string S1/\wr=wc/\Hid (S1.data.toList=S.data.toList++(if k=0 then [32,119,104,101,114,101,32] else [32,97,110,100,32]))/\Hid (S1.size<=2000+2000*k+10))
     case first =>
      by_cases h0:k=0
      · have d1:(((k:Nat):Int) == 0)=true:=by rw [h0];rfl
        have jr:(9223372036854775807<S.size+7)=False:=by rw [eq_iff_iff,iff_false];omega
        go_wp2_with fail
        go_meet;case rel=>exact ⟨_,rfl,rfl,aA (by rw [if_pos h0];simp),aA (by rw [ByteArray.size_append];show S.size+7<=_;omega)⟩
      · have d1:(((k:Nat):Int) == 0)=false:=by rw [beq_eq_false_iff_ne];omega
        have jr:(9223372036854775807<S.size+5)=False:=by rw [eq_iff_iff,iff_false];omega
        go_wp2_with fail
        go_meet;case rel=>exact ⟨_,rfl,rfl,aA (by rw [if_neg h0];simp),aA (by rw [ByteArray.size_append];show S.size+5<=_;omega)⟩
     case rest =>
     obtain ⟨S1,rfl,rfl,jp,ji⟩:=hcut;rw [<- List.append_assoc, <- List.append_assoc, <- jp.out,List.append_assoc] at hF;have je:=ji.out;clear jp ji h8;have km:=aA je;have HN:=aA (show (S1++TA++⟨#[32]⟩++d.op++⟨#[32]⟩++N).data.toList++gQ (x.wh.drop (k+1))=M by rw [<- hF, <- l, <- j];simp);have kh:=aA (show (S1++TA++⟨#[32]⟩++d.op++⟨#[32]⟩++N).size<=2000+2000*(k+1) by simp only [ByteArray.size_append];have Y:(⟨#[32]⟩:Tr).size=1:=rfl;rw [Y];omega);have x1:(9223372036854775807<S1.size+TA.size)=False:=by rw [eq_iff_iff,iff_false];omega
     have x2:(9223372036854775807<S1.size+TA.size+1)=False:=by rw [eq_iff_iff,iff_false];omega
     have x3:(9223372036854775807<S1.size+TA.size+1+d.op.size)=False:=by rw [eq_iff_iff,iff_false];omega
     have x4:(9223372036854775807<S1.size+TA.size+1+d.op.size+1)=False:=by rw [eq_iff_iff,iff_false];omega
     have x5:(9223372036854775807<S1.size+TA.size+1+d.op.size+1+N.size)=False:=by rw [eq_iff_iff,iff_false];omega
     clear hF l j je jc jb js;go_upto_region 18 with fail
     go_region_held3 (fun V=>V.cell? ⟨w.heap.size,10,none⟩=some (.slice (some ⟨b,off,none⟩) x.wh.length p.wc)/\V.cell? ⟨b,off+k*9,none⟩=some (.string d.op)/\V.cell? ⟨b,off+k*9+1,none⟩=some (.string d.a.op)/\V.cell? ⟨b,off+k*9+1+1,none⟩=some (.string d.a.nm)/\V.cell? ⟨b,off+k*9+1+2,none⟩=some (.int .i64 d.a.n)/\V.cell? ⟨b,off+k*9+1+3,none⟩=some (.slice a1 d.a.ks.len c1)/\V.cell? ⟨b,off+k*9+5,none⟩=some (.string d.b.op)/\V.cell? ⟨b,off+k*9+5+1,none⟩=some (.string d.b.nm)/\V.cell? ⟨b,off+k*9+5+2,none⟩=some (.int .i64 d.b.n)/\V.cell? ⟨b,off+k*9+5+3,none⟩=some (.slice a2 d.b.ks.len c2)) (first | assumption | exact ⟨o,p0,p1,p2,p3,p4,p5,p6,p7,p8⟩ | exact t.out _ B6.out | exact t.out _ B5.out) (first
      | (go_at_call 75
         with_reducible refine (A1.out _ (aT wr)).mono ?_
         rintro e w5 ⟨rfl,y⟩;have B5:=aA ((aT wr).trans y);have kf:=t.out _ B5.out;clear y)
      | (go_at_call 75
         with_reducible refine (A2.out w5 B5.out).mono ?_
         rintro e w6 ⟨rfl,y⟩;have B6:=aA (B5.out.trans (y.mono B5.out.size));have ke:=t.out _ B6.out;clear y)
      | fail)
     have HE:=aA (D.out.step B6.out);clear B5 B6 t A1 A2 kf ke o p0 p1 p2 p3 p4 p5 p6 p7 p8;go_wp2_with fail
     go_roundw
     case rel=>exact ⟨k+1,_,rfl,by go_num,by omega,aA (by rw [A7];exact HN.out),kh,HE⟩
     case measure=>simp [intOf];omega
   · have e1:x.wh.drop k=[]:=List.drop_of_length_le (by omega)
     have TR:=aA (show (⟨M.toArray⟩:Tr)=S from dO (by rw [<- HF.out,D6 e1];simp));have b1:¬ (k:Int)<(x.wh.length:Int):=by omega
     go_wp2_with fail
     go_ret;exact ⟨congrArg (fun z=>Ending.returned (.string z)) TR.out.symm,D.out.b⟩
theorem Au {G:Nat->Prop} (x:AG) (p:PA) (w:World) (h:gA x=0) (hS:SzG x) (hr:aX G w x p):Calls prog 34 #[agV x p] w fun e w'=>e=.returned (.int .i64 0)/\Below w.heap.size w w':=by
 obtain ⟨h1,h2,h3,h4,h5,h6⟩:=cY h;have K0:=Mx hr;generalize hW:w.alloc (agO x p)=W at K0;have HW:=aA hW;have o:=aA K0;have HS:=aA hS;have HC:=aA (pN x.wh h6);have FA:=aA (fun V=>Bb x.fn V);rw [h1] at FA;have a4:¬ (4:Int)<(x.wh.length:Int):=by omega
 have a5:decide (4<x.wh.length)=false:=decide_eq_false (by omega);have H2:=aA h2;have H3:=aA h3;have H4:=aA h4;clear hW K0 hr hS h h1 h2 h3 h4 h6;obtain ⟨I,H,E,D,C,B,A,u,s,q,f⟩:=aE o.out.n;go_enter func34,ntmps34
 go_upto_region 1 with fail
 rw [HW.out];go_wp2_with fail
 refine (FA.out _).mono ?_;rintro e v0 ⟨rfl,rfl⟩;go_upto_region 3 with fail
 go_cut [24] (fun v wc=>v=.bool false/\W=wc)
 case first =>
  cases ht:(x.fn.data.toList == cH) with
  | true =>
    have hk:=H2.out (by simpa using ht);have g0:=bG ht;unfold cH at g0;have k1:¬ x.k<1:=by omega
    have k2:¬ 16<x.k:=by omega
    have k3:decide (x.k<1)=false:=decide_eq_false k1;have k4:decide (16<x.k)=false:=decide_eq_false k2;go_wp2_with fail
    go_meet;case rel=>exact ⟨rfl,rfl⟩
  | false =>
    have g0:=aH ht;unfold cH at g0;go_wp2_with fail
    go_meet;case rel=>exact ⟨rfl,rfl⟩
 case rest =>
 obtain ⟨rfl,rfl⟩:=hcut;obtain ⟨cz,L⟩:∃ z,(x.fn.toList == [99,111,117,110,116])=z:=⟨_,rfl⟩;have S:(x.fn.toList != [99,111,117,110,116])= !cz:=by rw [bne,L]
 go_upto_if 27 with fail
 go_cut [] (fun wc=>Hid (KA G w x p wc))
 case first =>
  cases cz with
  | true =>
    go_wp2_with fail
    go_meet;case rel=>exact o
  | false =>
    have X:=aA (nN (t:=x.e) p.ec HS.out.e o.out.r.e);rw [H3.out (by rw [Tm,beq_eq_false_iff_ne] at L;exact L)] at X;go_wp2_with fail
    refine X.out.mono ?_;rintro e v1 ⟨rfl,j⟩;have N:=aA (o.out.step j);clear j X I H E D C B A u s q f;obtain ⟨I,H,E,D,C,B,A,u,s,q,f⟩:=aE N.out.n;cases hf:(x.fn.data.toList == aP) with
    | true =>
      have CG:=aA (nN (t:=x.g) p.gc HS.out.g N.out.r.g);rw [H4.out (by simpa using hf)] at CG;have g2:=bG hf;unfold aP at g2;go_wp2_with fail
      refine CG.out.mono ?_;rintro e v2 ⟨rfl,j⟩;have K2:=aA (N.out.step j);clear j CG;go_wp2_with fail
      go_meet;case rel=>exact K2
    | false =>
      have g2:=aH hf;unfold aP at g2;go_wp2_with fail
      go_meet;case rel=>exact N
 case rest =>
 clear L S;have N:=hcut;clear I H E D C B A u s q f o;obtain ⟨I,H,E,D,C,B,A,u,s,q,f⟩:=aE N.out.n;go_wp2_with fail
 clear I H E D C B A u s q f;go_loopw [4] (fun i wr=>∃ k:Nat,i=.int .i64 k/\k<=x.wh.length/\Hid (KA G w x p wr)) (fun i _=>x.wh.length-(intOf i).toNat)
 case atStart=>exact ⟨0,rfl,Nat.zero_le _,N⟩
 case round =>
  obtain ⟨k,rfl,hk,o⟩:=hrel;clear N;obtain ⟨I,H,E,D,C,B,A,u,s,q,f⟩:=aE o.out.n;by_cases P:k<x.wh.length
  · obtain ⟨d,hd⟩:∃ d,x.wh[k]? = some d:=⟨_,List.getElem?_eq_getElem P⟩
    have R:¬ x.wh=[]:=fun e=>by rw [e] at P;simp at P
    obtain ⟨b,off,l, -, -,T⟩:=o.out.r.c.resolve_left R;have ja:=aA l;obtain ⟨a1,c1,a2,c2,⟨p0,p1,p2,p3,p4,p5,p6,Z,Y⟩,r1,r2⟩:=T k d hd;have O:=HS.out.c d (List.mem_of_getElem? hd);obtain ⟨ho,ha,U⟩:=HC.out d (List.mem_of_getElem? hd);have A1:=aA (fun V (M:Below wr.heap.size wr V)=>nN (t:=d.a) c1 O.1 (r1.kept M));have A2:=aA (fun V (M:Below wr.heap.size wr V)=>nN (t:=d.b) c2 O.2 (r2.kept M));have HO:=aA (fun V=>xV d.op 0 0 V);have m:b<wr.heap.size:=by have:=World.block_lt_of_cell? wr _ p0;simpa using this
    have X:=aA (p:=∀ V,Below wr.heap.size wr V->(V.cell? ⟨b,off+k*9+5,none⟩=some (.string d.b.op)/\V.cell? ⟨b,off+k*9+5+1,none⟩=some (.string d.b.nm)/\V.cell? ⟨b,off+k*9+5+2,none⟩=some (.int .i64 d.b.n)/\V.cell? ⟨b,off+k*9+5+3,none⟩=some (.slice a2 d.b.ks.len c2))) (fun V M=>⟨(M.cell (p:=⟨b,_,none⟩) m).trans p5,(M.cell (p:=⟨b,_,none⟩) m).trans p6,(M.cell (p:=⟨b,_,none⟩) m).trans Z,(M.cell (p:=⟨b,_,none⟩) m).trans Y⟩);rw [ho] at HO;rw [ha] at A1;rw [U] at A2;obtain ⟨y,hy⟩:∃ y,(bE d.op 0 0).getD false=y:=⟨_,rfl⟩;rw [hy] at HO;rw [l] at f;have b1:(k:Int)<(x.wh.length:Int):=by omega
    have b2:(0:Int)<=(k:Int):=by omega
    have b3:((k:Int)).toNat=k:=by omega
    clear hd R T O r1 r2 hy ho ha U l m;go_wp2_with fail
    refine (HO.out _).mono ?_;rintro e v1 ⟨rfl,rfl⟩;go_wp2_with fail
    refine (A1.out wr (Below.refl _ _)).mono ?_;rintro e v2 ⟨rfl,j⟩;have K2:=aA (o.out.step j);have B2:=aA j;clear j p0 p1 p2 p3 p4 p5 p6 Z Y I H E D C B A u s q f A1;obtain ⟨I,H,E,D,C,B,A,u,s,q,f⟩:=aE K2.out.n;obtain ⟨p5,p6,Z,Y⟩:=X.out v2 B2.out;rw [ja.out] at f;go_wp2_with fail
    refine (A2.out v2 B2.out).mono ?_;rintro e v3 ⟨rfl,j⟩;have K3:=aA (K2.out.step j);clear j A2 I H E D C B A u s q f p5 p6 Z Y;go_wp2_with fail
    go_roundw
    case rel=>exact ⟨k+1,by go_num,by omega,K3⟩
    case measure=>simp [intOf];omega
  · have b1:¬ (k:Int)<(x.wh.length:Int):=by omega
    go_wp2_with fail
    go_ret;exact ⟨rfl,o.out.b⟩
structure Ha (l m:List LN):Prop where
 len:l.length=m.length
 at':∀ (i:Nat) (x y:LN),l[i]? = some x->m[i]? = some y->x.nm=y.nm/\gA x.a=0/\SzG x.a/\vM x.a y.a=true/\x.a.wh.length<=1000/\y.a.wh.length<=1000
theorem s9 {G H:Nat->Prop} (l m:List LN) (a:Tp) (c:Nat) (b:Tp) (d:Nat) (w:World) (hl:l.length<=1000) (hS:∀ x∈l,SmG x.a) (P:Ha l m) (hr:cQ G w a l) (hs:cQ H w b m) :
 Calls prog 11 #[.slice a l.length c,.slice b m.length d] w fun e w'=>e=.returned (.bool true)/\Below w.heap.size w w':=by
 have OF:=aA (Mh l a c w hl hS hr);have HM:=aA hs;have HO:=aA P;have B:=P.len;have ql:((l.length:Int) != (m.length:Int))=false:=by rw [B];simp
 have ja:=aA B;clear hS hr hs P B;go_enter func11,ntmps11
 go_wp2_with fail
 refine OF.out.mono ?_;rintro e w1 ⟨a1,c1,rfl,hx,z⟩;have HX:=aA hx;have jg:=aA (HM.out.kept z);have HB:=aA z;have B0:=aA (Below.refl w1.heap.size w1);clear hx z OF HM;go_wp2_with fail
 go_loopw [6] (fun i wr=>∃ k:Nat,i=.int .i64 (k:Nat)/\k<=l.length/\Hid (Below w1.heap.size w1 wr)) (fun i _=>l.length-(intOf i).toNat)
 case atStart=>exact ⟨0,rfl,Nat.zero_le _,B0⟩
 case round =>
  obtain ⟨k,rfl,hk,HW⟩:=hrel;clear B0;by_cases X:k<l.length
  · obtain ⟨x,hx⟩:∃ x,l[k]? = some x:=⟨_,List.getElem?_eq_getElem X⟩
    obtain ⟨y,hy⟩:∃ y,m[k]? = some y:=⟨_,List.getElem?_eq_getElem (by rw [<- ja.out];exact X)⟩;obtain ⟨R,he,hz,O,U,T⟩:=HO.out.at' k x y hx hy;obtain ⟨f,s,p,jc,E, -,Z,A⟩:=(HX.out.kept HW.out).at hx;obtain ⟨h,r,q,jb,D, -,Y,C⟩:=(jg.out.kept HW.out).at hy;subst jc;subst jb;have o:=E;have j:=D;obtain ⟨m0,m1,m2,m3,m4,m5,m6,m7,m8,m9,N,M⟩:=Z;obtain ⟨n0,n1,n2,n3,n4,n5,n6,n7,n8,n9,L,I⟩:=Y;have CK:=aA (fun V (z:Below wr.heap.size wr V)=>Au x.a p V he hz (A.kept z));have SM:=aA (fun V (z:Below wr.heap.size wr V)=>Cn x.a y.a p q V O hz (A.kept z) (C.kept z) U T);rw [O] at SM
    have u:=aA (p:=∀ V,Below wr.heap.size wr V->(V.cell? ⟨f,s+k*12,none⟩=some (.string x.nm)/\V.cell? ⟨f,s+k*12+1,none⟩=some (.string x.a.fn)/\V.cell? ⟨f,s+k*12+1+1,none⟩=some (.int .i64 x.a.k)/\V.cell? ⟨f,s+k*12+1+2,none⟩=some (.string x.a.e.op)/\V.cell? ⟨f,s+k*12+1+3,none⟩=some (.string x.a.e.nm)/\V.cell? ⟨f,s+k*12+1+4,none⟩=some (.int .i64 x.a.e.n)/\V.cell? ⟨f,s+k*12+1+5,none⟩=some (.slice p.ea x.a.e.ks.len p.ec)/\V.cell? ⟨f,s+k*12+1+6,none⟩=some (.string x.a.g.op)/\V.cell? ⟨f,s+k*12+1+7,none⟩=some (.string x.a.g.nm)/\V.cell? ⟨f,s+k*12+1+8,none⟩=some (.int .i64 x.a.g.n)/\V.cell? ⟨f,s+k*12+1+9,none⟩=some (.slice p.ga x.a.g.ks.len p.gc)/\V.cell? ⟨f,s+k*12+1+10,none⟩=some (.slice p.wa x.a.wh.length p.wc)/\V.cell? ⟨h,r+k*12,none⟩=some (.string y.nm)/\V.cell? ⟨h,r+k*12+1,none⟩=some (.string y.a.fn)/\V.cell? ⟨h,r+k*12+1+1,none⟩=some (.int .i64 y.a.k)/\V.cell? ⟨h,r+k*12+1+2,none⟩=some (.string y.a.e.op)/\V.cell? ⟨h,r+k*12+1+3,none⟩=some (.string y.a.e.nm)/\V.cell? ⟨h,r+k*12+1+4,none⟩=some (.int .i64 y.a.e.n)/\V.cell? ⟨h,r+k*12+1+5,none⟩=some (.slice q.ea y.a.e.ks.len q.ec)/\V.cell? ⟨h,r+k*12+1+6,none⟩=some (.string y.a.g.op)/\V.cell? ⟨h,r+k*12+1+7,none⟩=some (.string y.a.g.nm)/\V.cell? ⟨h,r+k*12+1+8,none⟩=some (.int .i64 y.a.g.n)/\V.cell? ⟨h,r+k*12+1+9,none⟩=some (.slice q.ga y.a.g.ks.len q.gc)/\V.cell? ⟨h,r+k*12+1+10,none⟩=some (.slice q.wa y.a.wh.length q.wc))) (fun V t=>by
     exact ⟨(t.cell (p:=⟨f,_,none⟩) o).trans m0,(t.cell (p:=⟨f,_,none⟩) o).trans m1,(t.cell (p:=⟨f,_,none⟩) o).trans m2,(t.cell (p:=⟨f,_,none⟩) o).trans m3,(t.cell (p:=⟨f,_,none⟩) o).trans m4,(t.cell (p:=⟨f,_,none⟩) o).trans m5,(t.cell (p:=⟨f,_,none⟩) o).trans m6,(t.cell (p:=⟨f,_,none⟩) o).trans m7,(t.cell (p:=⟨f,_,none⟩) o).trans m8,(t.cell (p:=⟨f,_,none⟩) o).trans m9,(t.cell (p:=⟨f,_,none⟩) o).trans N,(t.cell (p:=⟨f,_,none⟩) o).trans M,(t.cell (p:=⟨h,_,none⟩) j).trans n0,(t.cell (p:=⟨h,_,none⟩) j).trans n1,(t.cell (p:=⟨h,_,none⟩) j).trans n2,(t.cell (p:=⟨h,_,none⟩) j).trans n3,(t.cell (p:=⟨h,_,none⟩) j).trans n4,(t.cell (p:=⟨h,_,none⟩) j).trans n5,(t.cell (p:=⟨h,_,none⟩) j).trans n6,(t.cell (p:=⟨h,_,none⟩) j).trans n7,(t.cell (p:=⟨h,_,none⟩) j).trans n8,(t.cell (p:=⟨h,_,none⟩) j).trans n9,(t.cell (p:=⟨h,_,none⟩) j).trans L,(t.cell (p:=⟨h,_,none⟩) j).trans I⟩)
    have qn:(x.nm.toList == y.nm.toList)=true:=by rw [R];simp
    have jh:(x.nm.toList != y.nm.toList)=false:=by rw [R];simp
    have b3:(k:Int)<(l.length:Int):=by omega
    have b4:(k:Int)<(m.length:Int):=by rw [<- ja.out];omega
    have b5:(0:Int)<=(k:Int):=by omega
    have b6:((k:Int)).toNat=k:=by omega
    have ji:k<=1000:=by omega
    clear hx hy he hz O U T R A C E D;go_upto_region 7 with fail
    go_region_held3 (fun V=>V.cell? ⟨f,s+k*12,none⟩=some (.string x.nm)/\V.cell? ⟨f,s+k*12+1,none⟩=some (.string x.a.fn)/\V.cell? ⟨f,s+k*12+1+1,none⟩=some (.int .i64 x.a.k)/\V.cell? ⟨f,s+k*12+1+2,none⟩=some (.string x.a.e.op)/\V.cell? ⟨f,s+k*12+1+3,none⟩=some (.string x.a.e.nm)/\V.cell? ⟨f,s+k*12+1+4,none⟩=some (.int .i64 x.a.e.n)/\V.cell? ⟨f,s+k*12+1+5,none⟩=some (.slice p.ea x.a.e.ks.len p.ec)/\V.cell? ⟨f,s+k*12+1+6,none⟩=some (.string x.a.g.op)/\V.cell? ⟨f,s+k*12+1+7,none⟩=some (.string x.a.g.nm)/\V.cell? ⟨f,s+k*12+1+8,none⟩=some (.int .i64 x.a.g.n)/\V.cell? ⟨f,s+k*12+1+9,none⟩=some (.slice p.ga x.a.g.ks.len p.gc)/\V.cell? ⟨f,s+k*12+1+10,none⟩=some (.slice p.wa x.a.wh.length p.wc)/\V.cell? ⟨h,r+k*12,none⟩=some (.string y.nm)/\V.cell? ⟨h,r+k*12+1,none⟩=some (.string y.a.fn)/\V.cell? ⟨h,r+k*12+1+1,none⟩=some (.int .i64 y.a.k)/\V.cell? ⟨h,r+k*12+1+2,none⟩=some (.string y.a.e.op)/\V.cell? ⟨h,r+k*12+1+3,none⟩=some (.string y.a.e.nm)/\V.cell? ⟨h,r+k*12+1+4,none⟩=some (.int .i64 y.a.e.n)/\V.cell? ⟨h,r+k*12+1+5,none⟩=some (.slice q.ea y.a.e.ks.len q.ec)/\V.cell? ⟨h,r+k*12+1+6,none⟩=some (.string y.a.g.op)/\V.cell? ⟨h,r+k*12+1+7,none⟩=some (.string y.a.g.nm)/\V.cell? ⟨h,r+k*12+1+8,none⟩=some (.int .i64 y.a.g.n)/\V.cell? ⟨h,r+k*12+1+9,none⟩=some (.slice q.ga y.a.g.ks.len q.gc)/\V.cell? ⟨h,r+k*12+1+10,none⟩=some (.slice q.wa y.a.wh.length q.wc)) (first | assumption | exact ⟨m0,m1,m2,m3,m4,m5,m6,m7,m8,m9,N,M,n0,n1,n2,n3,n4,n5,n6,n7,n8,n9,L,I⟩ | exact u.out _ S.out | exact u.out _ B6.out) (first
     | (go_at_call 34
        with_reducible refine (CK.out _ (aT wr)).mono ?_
        rintro e w5 ⟨rfl,z⟩;have S:=aA ((aT wr).trans z);have je:=u.out _ S.out;clear z)
     | (go_at_call 35
        with_reducible refine (SM.out _ S.out).mono ?_
        rintro e w6 ⟨rfl,z⟩;have B6:=aA (S.out.trans (z.mono S.out.size));have jd:=u.out _ B6.out;clear z)
     | fail)
    have jf:=aA (HW.out.trans (B6.out.mono HW.out.size));clear m0 m1 m2 m3 m4 m5 m6 m7 m8 m9 N M n0 n1 n2 n3 n4 n5 n6 n7 n8 n9 L I u CK SM S B6 je jd;go_wp2_with fail
    go_roundw
    case rel=>exact ⟨k+1,by go_num,by omega,jf⟩
    case measure=>simp [intOf];omega
  · obtain rfl:k=l.length:=by omega
    have f:¬ (l.length:Int)<(l.length:Int):=by omega
    go_wp2_with fail
    go_ret;exact ⟨rfl,HB.out.trans (HW.out.mono HB.out.size)⟩
theorem AN:∀ l:List CD,gO l=0->Ak l->(gQ l).length<=1500*l.length
 | [],_,_=>by simp [gQ]
 | c :: l, h, hn => by
   obtain ⟨g,f,b,a⟩:=jC h;have j:=AN l a (fun d hd=>hn d (by simp [hd]));have a1:=dQ f (hn c (by simp)).1;have a2:=dQ b (hn c (by simp)).2;have a3:=Cv g;have a4:c.op.data.toList.length=c.op.size:=by simp
   rw [gQ];simp only [Tb,Te,List.length_nil];omega
theorem AM {a:AG} (h:gA a=0) (hn:gM a):(dY a).length<=8000:=by
 obtain ⟨p,f,o,m,q,d⟩:=cY h;have a1:=C8 p;have a2:a.fn.data.toList.length=a.fn.size:=by simp
 have a3:(oI a.wh).length<=1500*a.wh.length+10:=by
  cases b:a.wh with
  | nil=>simp [oI]
  | cons c l =>
    rw [b] at d;have j:Ak (c::l):=by rw [<- b];exact hn.c
    have:=AN (c::l) d j;rw [gQ] at this;rw [oI];simp only [Tb,Te,List.length_nil] at this |-
    omega
 have a4:(gL a).length<=1500:=by
  unfold gL;by_cases c1:a.fn.data.toList=aN
  · rw [if_pos c1];simp
  · rw [if_neg c1]
    have s:=dQ (o c1) hn.e;by_cases c2:a.fn.data.toList=cH
    · rw [if_pos c2]
      have:=zA (n:=a.k) (by have:=f c2;omega) (by have:=f c2;omega);simp only [Tb,Te];omega
    · rw [if_neg c2]
      by_cases c3:a.fn.data.toList=aP
      · rw [if_pos c3]
        have r:=dQ (m c3) hn.g;simp only [Tb,Te];omega
      · rw [if_neg c3];omega
 unfold dY;simp only [Tb,Te];omega
structure KLN (G:Nat->Prop) (w:World) (a:Tp) (l:List LN) (V:World):Prop where
 b:Below w.heap.size w V
 r:cQ G V a l
theorem KLN.step {G:Nat->Prop} {w V V':World} {a:Tp} {l:List LN} (h:KLN G w a l V) (c:Below V.heap.size V V'):KLN G w a l V':=⟨h.b.trans (c.mono h.b.size),h.r.kept c⟩
def Oa (l:List LN):Prop:=∀ x∈l,gA x.a=0/\gM x.a/\x.nm.size<=8
theorem As {G:Nat->Prop} (l:List LN) (a:Tp) (c:Nat) (w:World) (hl:l.length<=100) (hf:Oa l) (hr:cQ G w a l) :
 Calls prog 13 #[.slice a l.length c] w fun e w'=>e=.returned (.string ⟨(fK l).toArray⟩)/\Below w.heap.size w w':=by
 obtain ⟨j,f⟩:∃ t,fK l=t:=⟨_,rfl⟩;have A:=aA (show (⟨#[]⟩:Tr).data.toList++fK (l.drop 0)=j by rw [List.drop_zero];exact f);have K0:=aA (show KLN G w a l w from ⟨Below.refl _ _,hr⟩);have jc:=aA hf;rw [f];clear f hr hf;go_enter func13,ntmps13
 go_wp2_with fail
 go_loopw [3,4] (fun v i wr=>∃ (k:Nat) (S:Tr),v=.string S/\i=.int .i64 (k:Nat)/\k<=l.length/\Hid (S.data.toList++fK (l.drop k)=j)/\Hid (S.size<=10000*k)/\Hid (KLN G w a l wr)) (fun _ i _=>l.length-(intOf i).toNat)
 case atStart=>exact ⟨0,⟨#[]⟩,rfl,rfl,Nat.zero_le _,A,aA (by show 0<=_;omega),K0⟩
 case round =>
  obtain ⟨k,S,rfl,rfl,hk,HF,HZ,HK⟩:=hrel;clear K0 A;by_cases s:k<l.length
  · obtain ⟨x,hx⟩:∃ x,l[k]? = some x:=⟨_,List.getElem?_eq_getElem s⟩
    have hd:l.drop k=x::l.drop (k+1):=by
     rw [List.drop_eq_getElem_cons s];rw [List.getElem?_eq_getElem s] at hx;rw [Option.some.inj hx]
    obtain ⟨Y,hn,hs⟩:=jc.out x (List.mem_of_getElem? hx);obtain ⟨b,off,p,X,d,hG,⟨U,R,P,O,N,M,L,I,H,E,q,o⟩,u⟩:=HK.out.r.at hx;subst X;have y:=AM Y hn;have AT:=aA (fun V (B:Below wr.heap.size wr V)=>Cp (G:=G) x.a p V Y hn (u.kept B));obtain ⟨T,C⟩:∃ T:Tr,(⟨(dY x.a).toArray⟩:Tr)=T:=⟨_,rfl⟩;rw [C] at AT;have Z:T.size<=8000:=by rw [<- C];show (dY x.a).toArray.size<=8000;rw [List.size_toArray];exact y
    have h:=aA (p:=∀ V,Below wr.heap.size wr V->(V.cell? ⟨b,off+k*12,none⟩=some (.string x.nm)/\V.cell? ⟨b,off+k*12+1,none⟩=some (.string x.a.fn)/\V.cell? ⟨b,off+k*12+1+1,none⟩=some (.int .i64 x.a.k)/\V.cell? ⟨b,off+k*12+1+2,none⟩=some (.string x.a.e.op)/\V.cell? ⟨b,off+k*12+1+3,none⟩=some (.string x.a.e.nm)/\V.cell? ⟨b,off+k*12+1+4,none⟩=some (.int .i64 x.a.e.n)/\V.cell? ⟨b,off+k*12+1+5,none⟩=some (.slice p.ea x.a.e.ks.len p.ec)/\V.cell? ⟨b,off+k*12+1+6,none⟩=some (.string x.a.g.op)/\V.cell? ⟨b,off+k*12+1+7,none⟩=some (.string x.a.g.nm)/\V.cell? ⟨b,off+k*12+1+8,none⟩=some (.int .i64 x.a.g.n)/\V.cell? ⟨b,off+k*12+1+9,none⟩=some (.slice p.ga x.a.g.ks.len p.gc)/\V.cell? ⟨b,off+k*12+1+10,none⟩=some (.slice p.wa x.a.wh.length p.wc))) (fun V m=>by
     exact ⟨(m.cell (p:=⟨b,_,none⟩) d).trans U,(m.cell (p:=⟨b,_,none⟩) d).trans R,(m.cell (p:=⟨b,_,none⟩) d).trans P,(m.cell (p:=⟨b,_,none⟩) d).trans O,(m.cell (p:=⟨b,_,none⟩) d).trans N,(m.cell (p:=⟨b,_,none⟩) d).trans M,(m.cell (p:=⟨b,_,none⟩) d).trans L,(m.cell (p:=⟨b,_,none⟩) d).trans I,(m.cell (p:=⟨b,_,none⟩) d).trans H,(m.cell (p:=⟨b,_,none⟩) d).trans E,(m.cell (p:=⟨b,_,none⟩) d).trans q,(m.cell (p:=⟨b,_,none⟩) d).trans o⟩)
    have hF:=HF.out;rw [hd,fK,oJ] at hF;have hz:=HZ.out;have x1:(9223372036854775807<S.size+x.nm.size)=False:=by rw [eq_iff_iff,iff_false];omega
    have x2:(9223372036854775807<S.size+x.nm.size+3)=False:=by rw [eq_iff_iff,iff_false];omega
    have x3:(9223372036854775807<S.size+x.nm.size+3+T.size)=False:=by rw [eq_iff_iff,iff_false];omega
    have x4:(9223372036854775807<S.size+x.nm.size+3+T.size+1)=False:=by rw [eq_iff_iff,iff_false];omega
    have HN:=aA (show (S++x.nm++⟨#[32,61,32]⟩++T++⟨#[10]⟩).data.toList++fK (l.drop (k+1))=j by rw [<- hF, <- C];simp)
    have jb:=aA (show (S++x.nm++⟨#[32,61,32]⟩++T++⟨#[10]⟩).size<=10000*(k+1) by
     simp only [ByteArray.size_append];have h1:(⟨#[32,61,32]⟩:Tr).size=3:=rfl;have h2:(⟨#[10]⟩:Tr).size=1:=rfl;rw [h1,h2];omega)
    have b1:(k:Int)<(l.length:Int):=by omega
    have b2:(0:Int)<=(k:Int):=by omega
    have b3:((k:Int)).toNat=k:=by omega
    clear hd hx hF hz C y Z Y hn hs u hG;go_upto_region 5 with fail
    go_region_held3 (fun V=>V.cell? ⟨b,off+k*12,none⟩=some (.string x.nm)/\V.cell? ⟨b,off+k*12+1,none⟩=some (.string x.a.fn)/\V.cell? ⟨b,off+k*12+1+1,none⟩=some (.int .i64 x.a.k)/\V.cell? ⟨b,off+k*12+1+2,none⟩=some (.string x.a.e.op)/\V.cell? ⟨b,off+k*12+1+3,none⟩=some (.string x.a.e.nm)/\V.cell? ⟨b,off+k*12+1+4,none⟩=some (.int .i64 x.a.e.n)/\V.cell? ⟨b,off+k*12+1+5,none⟩=some (.slice p.ea x.a.e.ks.len p.ec)/\V.cell? ⟨b,off+k*12+1+6,none⟩=some (.string x.a.g.op)/\V.cell? ⟨b,off+k*12+1+7,none⟩=some (.string x.a.g.nm)/\V.cell? ⟨b,off+k*12+1+8,none⟩=some (.int .i64 x.a.g.n)/\V.cell? ⟨b,off+k*12+1+9,none⟩=some (.slice p.ga x.a.g.ks.len p.gc)/\V.cell? ⟨b,off+k*12+1+10,none⟩=some (.slice p.wa x.a.wh.length p.wc)) (first | assumption | exact ⟨U,R,P,O,N,M,L,I,H,E,q,o⟩ | exact h.out _ D.out) (first
     | (go_at_call 39
        with_reducible refine (AT.out _ (aT wr)).mono ?_
        rintro e w5 ⟨rfl,B⟩;have D:=aA ((aT wr).trans B);have ja:=h.out _ D.out;clear B)
     | fail)
    have HE:=aA (HK.out.step D.out);clear D h AT ja U R P O N M L I H E q o;go_wp2_with fail
    go_roundw
    case rel=>exact ⟨k+1,_,rfl,by go_num,by omega,HN,jb,HE⟩
    case measure=>simp [intOf];omega
  · have e1:l.drop k=[]:=List.drop_of_length_le (by omega)
    have TR:=aA (show (⟨j.toArray⟩:Tr)=S from dO (by rw [<- HF.out,e1];simp [fK]));have b1:¬ (k:Int)<(l.length:Int):=by omega
    clear e1;go_wp2_with fail
    go_ret;exact ⟨congrArg (fun z=>Ending.returned (.string z)) TR.out.symm,HK.out.b⟩
theorem iX:∀ f:F,fJ f f=true
 | .nil=>by rw [fJ]
 | .cons o m n ks r=>by rw [fJ,iX ks,iX r];simp
theorem vN:∀ l:List CD,mJ l l=true
 | []=>rfl
 | c :: r => by
   rw [mJ];have ha:dF c.a c.a=true:=iX _;have d:dF c.b c.b=true:=iX _;rw [ha,d,vN r];simp
theorem DU (a:AG):vM a a=true:=by
 have c:dF a.e a.e=true:=iX _;have b:dF a.g a.g=true:=iX _;unfold vM;rw [c,b,vN];simp
structure Al (l:List LN):Prop where
 len:l.length<=8
 sm:∀ x∈l,SmG x.a
 fine:Oa l
 sz:∀ x∈l,SzG x.a/\x.a.wh.length<=4
theorem nO {s:Tq} {l:List LN} (h:fX s=.ok l):Al l:=by
 have ok:=xX h;refine ⟨ok.len,fun x hx=>?_,fun x hx=>?_,fun x hx=>?_⟩
 · obtain ⟨r,hr⟩:=ok.ag x hx
   exact (tY hr).1
 · obtain ⟨r,hr⟩:=ok.ag x hx
   obtain ⟨c,t,e, -,b, -⟩:=sG (ok.nm x hx).1;have a:x.nm.data.toList.length=x.nm.size:=by simp
   rw [e] at a;simp at a;exact ⟨(tY hr).2.2,Ny hr,by omega⟩
 · obtain ⟨r,hr⟩:=ok.ag x hx
   exact ⟨(tY hr).2.1,(cY (tY hr).2.2).2.2.2.2.1⟩
theorem Al.self {l:List LN} (h:Al l):Ha l l :=
 ⟨rfl,fun i x y b a=>by
  rw [b] at a;cases a;have hx:=List.mem_of_getElem? b;exact ⟨rfl,(h.fine x hx).1,(h.sz x hx).1,DU _,by have:=(h.sz x hx).2;omega,by have:=(h.sz x hx).2;omega⟩⟩
theorem Al.can {l:List LN} (h:Al l) (b:Al (l.map vB)):Ha (l.map vB) l :=
 ⟨by simp,fun i x y f d=>by
  rw [List.getElem?_map,d] at f;cases f;have c:=List.mem_of_getElem? d;have hx:vB y∈l.map vB:=List.mem_map.2 ⟨y,c,rfl⟩;exact ⟨rfl,(b.fine _ hx).1,(b.sz _ hx).1,IQ y.a,by have:=(b.sz _ hx).2;omega,by have:=(h.sz y c).2;omega⟩⟩
structure Kt (w V:World):Prop where
 b:Below w.heap.size w V
 l:An V
theorem Kt.step {w V V':World} (h:Kt w V) (a:Below V.heap.size V V'):Kt w V':=⟨h.b.trans (a.mono h.b.size),h.l.step a⟩
theorem Cq {s:Tq} {p:Nat} {er:Int} (h:fX s=.bad p er):(er == 0)=false/\(er != 0)=true:=by
 have:=(Be (fun l p e a=>by have:=(oF a).1;simpa using this) _ _ _ _ (Nat.zero_le _) h).1;exact ⟨by simpa using this,by simpa using this⟩
def wN:AG:=⟨⟨#[115,117,109]⟩,0,fE [120],aD,[]⟩
def uS:AG:=⟨⟨#[99,111,117,110,116]⟩,0,aD,aD,[⟨⟨#[62]⟩,fE [120],tH 2⟩]⟩
def Ay:AG:=⟨⟨#[99,111,117,110,116]⟩,0,aD,aD,[]⟩
theorem MG:gA wN=0:=by rfl
theorem MF:gA uS=0:=by rfl
theorem EC:gA Ay=0:=by rfl
theorem JA:gM wN:=⟨by simp [wN,fE,TN.f,dU],by simp [wN,aD,TN.f,dU],fun d hd=>by simp [wN] at hd⟩
theorem Jz:gM uS:=⟨by simp [uS,aD,TN.f,dU],by simp [uS,aD,TN.f,dU],fun d hd=>by
 simp only [uS,List.mem_cons,List.not_mem_nil,or_false] at hd;rcases hd with rfl;simp [fE,tH,TN.f,dU]⟩
theorem Br:gM Ay:=⟨by simp [Ay,aD,TN.f,dU],by simp [Ay,aD,TN.f,dU],fun d hd=>by simp [Ay] at hd⟩
theorem uT:dY wN=[115,117,109,40,120,41]:=by rfl
theorem uR:dY uS=[99,111,117,110,116,40,41,32,119,104,101,114,101,32,120,32,62,32,50]:=by
 have a:Lib.itoa 2=[50]:=by simp [Lib.itoa,Tl]
 have:dY uS=[99,111,117,110,116,40,41,32,119,104,101,114,101,32,120,32,62,32]++(Lib.itoa 2++[]):=by rfl
 rw [this,a];rfl
theorem qU:dY Ay=[99,111,117,110,116,40,41]:=by rfl
def uQ:List LN:=[⟨⟨#[97,108,108]⟩,wN⟩,⟨⟨#[99]⟩,uS⟩]
def SV:List LN:=[⟨⟨#[97]⟩,Ay⟩]
abbrev Jy:Tr:=⟨#[97,108,108,32,61,32,115,117,109,40,120,41,10,99,32,61,32,99,111,117,110,116,40,41,32,119,104,101,114,101,32,120,32,62,32,50,10]⟩
abbrev Pz:Tr:=⟨#[97,32,61,32,99,111,117,110,116,40,41,10,114,101,112,32,61,32,99,111,117,110,116,40,41]⟩
abbrev MA:Tr:=⟨#[97,32,61,32,99,111,117,110,116,40,41]⟩
theorem tL {acc:List LN} {nm:Tq} {a:AG} (b:cD nm=true) (f:dD nm=false) (d:acc.any (fun x=>x.nm.data.toList == nm)=false) (c:gA a=0) (hn:gM a) (hl:(dY a).length+1<=1024) :
 eU acc (nm++32::61::32::dY a)=.ok ⟨⟨nm.toArray⟩,wO a⟩:=by
 rw [wY (qZ b),if_neg (by rw [b,f];simp),d,if_neg (by decide),Ca c hn hl]
theorem Cz:fX Jy.data.toList=.ok uQ:=by
 have e:cE Jy.data.toList=[[97,108,108]++32::61::32::dY wN,[99]++32::61::32::dY uS]:=by
  rw [uT,uR];rfl
 unfold fX;rw [e,qI (by decide) (tL (acc:=[]) (by decide) (by decide) rfl MG JA (by rw [uT];decide)),qI (by decide) (tL (by decide) (by decide) (by rfl) MF Jz (by rw [uR];decide))];rfl
theorem Rv:fX MA.data.toList=.ok SV:=by
 have e:cE MA.data.toList=[[97]++32::61::32::dY Ay]:=by
  rw [qU];rfl
 unfold fX;rw [e,qI (by decide) (tL (acc:=[]) (by decide) (by decide) rfl EC Br (by rw [qU];decide))];rfl
theorem Rw:fX Pz.data.toList=.bad 1 5:=by
 have e:cE Pz.data.toList=[[97]++32::61::32::dY Ay,[114,101,112]++32::61::32::dY Ay]:=by
  rw [qU];rfl
 unfold fX;rw [e,qI (by decide) (tL (acc:=[]) (by decide) (by decide) rfl EC Br (by rw [qU];decide)),kZ (by decide) (show eU _ _=.bad 5 by rw [wY (qZ (by decide)),if_pos (.inr (by decide))])];rfl
theorem MC:fK uQ=Jy.data.toList:=by
 show oJ _++(oJ _++[])=_;unfold oJ;rw [show (⟨⟨#[97,108,108]⟩,wN⟩:LN).a=wN from rfl,show (⟨⟨#[99]⟩,uS⟩:LN).a=uS from rfl,uT,uR];rfl
def Ax:PD:=⟨1,⟨#[47,97,47,120]⟩,MA⟩
def Sr:PD:=⟨0,⟨#[]⟩,⟨#[]⟩⟩
theorem PH:EY Ax=0:=by
 unfold EY;rw [if_neg (by decide),if_neg (by decide),if_neg (by decide),if_neg (by decide),show Ax.t=MA from rfl,Rv];rfl
theorem PC:Es Ax Sr=true:=by rfl
theorem MD:Es Ax Ax=false:=by
 unfold Es;rw [if_pos rfl];simp
def A12 (x:Int) (_:Nat):Wr.AD:=⟨⟨#[120]⟩,1,x,⟨#[]⟩,0,fun _=>0⟩
def g12 (x:Int) (m:Tr):Option Int:=if m=⟨#[120]⟩ then some x else none
theorem Og (x:Int) (hx:bW x):nD (A12 x) 1 (g12 x) where
 ok:={
  yes:=fun j a=>by
   have:j=0:=by omega
   subst this;rfl
  no:=fun z h=>by
   unfold g12;rw [if_neg fun e=>h 0 (by decide) (by rw [e];rfl)]
  fit:=fun z v h=>by
   unfold g12 at h;split at h
   · cases h;exact hx
   · cases h }
 ri:=fun i j b a=>by omega
 few:=by decide
 sm:=fun j a=>Nat.zero_le _
abbrev o12 (x:Int):Obj:=.cells #[.string ⟨#[120]⟩,.int .i64 1,.int .i64 x,.string ⟨#[]⟩,.slice none 0 0] 62
theorem Hk {w:World} {b:Nat} {x:Int} (h:w.heap[b]? = some (o12 x)):Wr.ReadsA w (some ⟨b,0,none⟩) 1 (A12 x):=by
 refine ⟨by unfold maxLen;omega,.inr ⟨b,0,rfl,fun j a=>?_⟩⟩;have:j=0:=by omega
 subst this;exact ⟨none,0,⟨by simp [World.cell?,h,A12],by simp [World.cell?,h,A12],by simp [World.cell?,h,A12],by simp [World.cell?,h,A12],by simp [World.cell?,h,A12]⟩,Nat.zero_le _,.inl rfl⟩
def r12 (x:Int):RW:=⟨1,A12 x,g12 x⟩
def uE:List RW:=[r12 2,r12 3]
theorem xQ:∀ r∈uE,nD r.A r.n r.g:=by
 intro r hr;simp only [uE,List.mem_cons,List.not_mem_nil,or_false] at hr;rcases hr with rfl | rfl <;> exact Og _ (by unfold bW;omega)
theorem QP:evG wN (uE.map RW.g)=.num 5:=by rfl
theorem QO:evG uS (uE.map RW.g)=.num 1:=by rfl
def d12:List Wr.AD:=[evA ⟨#[97,108,108]⟩ (.num 5),evA ⟨#[99]⟩ (.num 1)]
theorem Lk:rN (uE.map RW.g) uQ []=d12:=by
 have d:rN (uE.map RW.g) uQ []=Wr.putD (Wr.putD [] (evA ⟨#[97,108,108]⟩ (.num 5))) (evA ⟨#[99]⟩ (.num 1)):=by
  show rN (uE.map RW.g) [⟨⟨#[97,108,108]⟩,wN⟩,⟨⟨#[99]⟩,uS⟩] []=_;rw [rN,QP,rN,QO,rN];rfl
 rw [d];have c:Wr.putD [] (evA ⟨#[97,108,108]⟩ (.num 5))=[evA ⟨#[97,108,108]⟩ (.num 5)]:=by rfl
 rw [c]
 have b:lsS (⟨#[97,108,108]⟩:Tr) ⟨#[99]⟩=true:=by
  show Op.bytesLess (⟨#[97,108,108]⟩:Tr).toList (⟨#[99]⟩:Tr).toList=true;rw [Tm,Tm];decide
 unfold Wr.putD;rw [if_neg (by decide)]
 have a:pos lsS (Wr.nmD [evA ⟨#[97,108,108]⟩ (.num 5)]) (evA ⟨#[99]⟩ (.num 1)).m=1:=by
  show pos lsS [(⟨#[97,108,108]⟩:Tr)] ⟨#[99]⟩=1;simp [pos,b]
 rw [a];rfl
abbrev FK (a:Nat):Obj:=.cells #[.slice (some ⟨a,0,none⟩) 1 1,.slice (some ⟨a+1,0,none⟩) 1 1] 39
theorem QQ (V:World):dJ (((V.alloc (o12 2)).alloc (o12 3)).alloc (FK V.heap.size)) (some ⟨V.heap.size+1+1,0,none⟩) uE/\Below V.heap.size V (((V.alloc (o12 2)).alloc (o12 3)).alloc (FK V.heap.size)):=by
 have l:=heap_alloc_new V (o12 2);have o:=bA0 V (o12 2);have d:(V.alloc (o12 2)).heap.size=V.heap.size+1:=Tc _ _;generalize V.alloc (o12 2)=w1 at *;have g:=heap_alloc_new w1 (o12 3);have k:=bA0 w1 (o12 3);have s1:(w1.alloc (o12 3)).heap.size=w1.heap.size+1:=Tc _ _;generalize w1.alloc (o12 3)=w2 at *;have b:=heap_alloc_new w2 (FK V.heap.size);have c:=bA0 w2 (FK V.heap.size);have p:(w2.alloc (FK V.heap.size)).heap.size=w2.heap.size+1:=Tc _ _;generalize w2.alloc (FK V.heap.size)=w3 at *;rw [d] at g;rw [s1,d] at b;have m:=(c.block _ (by omega)).trans g;have n:=(c.block _ (by omega)).trans ((k.block _ (by omega)).trans l);refine ⟨.inr ⟨V.heap.size+1+1,0,rfl,by omega,fun j r f=>?_⟩,(o.trans (k.mono (by omega))).trans (c.mono (by omega))⟩;have a:j<2:=(List.getElem?_eq_some_iff.1 f).1;match j,a,f with
 | 0,_,h=>cases h;exact ⟨some ⟨V.heap.size,0,none⟩,1,by simp [World.cell?,b,r12],Hk n⟩
 | 1,_,h=>cases h;exact ⟨some ⟨V.heap.size+1,0,none⟩,1,by simp [World.cell?,b,r12],Hk m⟩
structure K12 (w:World) (la:Tp) (V:World):Prop where
 k:Kt w V
 r:cQ (fun _=>True) V la uQ
theorem K12.step {w V V':World} {a:Tp} (h:K12 w a V) (b:Below V.heap.size V V'):K12 w a V':=⟨h.k.step b,h.r.kept b⟩
structure RZ:Prop where
 ps:∀ w,iE w->Calls prog 9 #[.string Jy] w (Aj (.ok uQ) w)
 pt:∀ w,iE w->Calls prog 9 #[.string Pz] w (Aj (.bad 1 5) w)
 rn:∀ (a:Tp) (c:Nat) (ya:Tp) (yc:Nat) (w:World),cQ (fun _=>True) w a uQ->dJ w ya uE->Calls prog 17 #[.slice a 2 c,.slice ya 2 yc] w fun e w'=>∃ oa oc,e=.returned (.slice oa 2 oc)/\Wr.ReadsA w' oa 2 (Wr.atD d12)/\Below w.heap.size w w'
 tx:∀ (a:Tp) (c:Nat) (w:World),lW w->cQ (fun _=>True) w a uQ->Calls prog 12 #[.slice a 2 c] w fun e w'=>e=.returned (.string ⟨Jy.data.toList.toArray⟩)/\Below w.heap.size w w'
 ck:∀ w,iE w->Calls prog 20 #[pdV Ax] w fun e w'=>e=.returned (.int .i64 0)/\Below w.heap.size w w'
theorem EA (C:RZ) (w:World) (G:An w):Calls prog 8 #[] w fun e w'=>e=.returned (.bool true)/\Below w.heap.size w w':=by
 have t:=aA C;clear C;have K0:=aA (show Kt w w from ⟨Below.refl _ _,G⟩);have A1:=t.out.ps w G.1;have x:=aA A1;clear A1 G;go_enter func8,ntmps8
 go_wp2_with fail
 refine x.out.mono ?_;rintro e Y ⟨a,y,E,rfl,hr⟩;rw [show uQ.length=2 from rfl];have R:=aA (show K12 w y Y from ⟨K0.out.step a,hr.imp (fun _ _ _=>trivial)⟩);have A2:=t.out.pt Y R.out.k.l.1;have u:=aA A2;clear a hr x K0 A2;go_wp2_with fail
 refine u.out.mono ?_;rintro e V ⟨a,rfl⟩;have O:=aA (R.out.step a);have RW:=QQ V
 have RN:=aA (p:=Calls prog 17 #[.slice y 2 E,.slice (some ⟨V.heap.size+1+1,0,none⟩) 2 2] (((V.alloc (.cells #[.string ⟨#[120]⟩,.int .i64 1,.int .i64 2,.string ⟨#[]⟩,.slice none 0 0] 62)).alloc (.cells #[.string ⟨#[120]⟩,.int .i64 1,.int .i64 3,.string ⟨#[]⟩,.slice none 0 0] 62)).alloc (.cells #[.slice (some ⟨V.heap.size,0,none⟩) 1 1,.slice (some ⟨V.heap.size+1,0,none⟩) 1 1] 39)) fun e w'=>∃ n oc,e=.returned (.slice n 2 oc)/\Wr.ReadsA w' n 2 (Wr.atD d12)/\Below V.heap.size V w') (by
  have h:=t.out.rn y E (some ⟨V.heap.size+1+1,0,none⟩) 2 (((V.alloc (o12 2)).alloc (o12 3)).alloc (FK V.heap.size)) (O.out.step RW.2).r RW.1;exact h.mono fun e w' ⟨n,oc,h1,h2,h3⟩=>⟨n,oc,h1,h2,RW.2.trans (h3.mono RW.2.size)⟩)
 clear a R u RW;go_wp2_with fail
 refine RN.out.mono ?_;rintro e j ⟨n,oc,rfl,Z,a⟩;have K3:=aA (O.out.step a);have HA:=aA Z;clear a RN O Z;have D:=aA (K3.out.step (bA0 j (.cells #[.int .i64 1,.string ⟨#[47,97,47,120]⟩,.string ⟨#[97,32,61,32,99,111,117,110,116,40,41]⟩] 46)));have A4:=aA (HA.out.kept (bA0 j (.cells #[.int .i64 1,.string ⟨#[47,97,47,120]⟩,.string ⟨#[97,32,61,32,99,111,117,110,116,40,41]⟩] 46)));have N4:=aA (heap_alloc_new j (.cells #[.int .i64 1,.string ⟨#[47,97,47,120]⟩,.string ⟨#[97,32,61,32,99,111,117,110,116,40,41]⟩] 46));have TX:=t.out.tx y E (j.alloc (.cells #[.int .i64 1,.string ⟨#[47,97,47,120]⟩,.string ⟨#[97,32,61,32,99,111,117,110,116,40,41]⟩] 46)) D.out.k.l.2 D.out.r;have q:=aA TX;clear TX;go_wp2_with fail
 refine q.out.mono ?_;rintro e m ⟨rfl,a⟩;have hz:=a.size;have z4:(j.alloc (.cells #[.int .i64 1,.string ⟨#[47,97,47,120]⟩,.string ⟨#[97,32,61,32,99,111,117,110,116,40,41]⟩] 46)).heap.size=j.heap.size+1:=Tc _ _;have N:=aA (D.out.step a);have A5:=A4.out.kept a;have B:=aA ((a.block _ (by omega)).trans N4.out);obtain ⟨o,c1,c2⟩:=xN B.out;obtain ⟨ab,z,H,I⟩:=A5.2.resolve_left (by decide);subst H;obtain ⟨y0,u0,e0, -⟩:=I 0 (by decide);obtain ⟨y1,u1,e1, -⟩:=I 1 (by decide);have f0:m.cell? ⟨ab,z+2,none⟩=some (.int .i64 5):=e0.2.2.1;have f1:m.cell? ⟨ab,z+7,none⟩=some (.int .i64 1):=e1.2.2.1;have M:m.cell? ⟨ab,z+1+1,none⟩=some (.int .i64 5):=f0;have L:m.cell? ⟨ab,z+5+1+1,none⟩=some (.int .i64 1):=f1;have CK:=t.out.ck m N.out.k.l.1;have s:=aA CK;have d:=fun V=>yD Ax Sr V
 have c:=fun V=>yD Ax Ax V
 rw [PC] at d;rw [MD] at c;have T:=aA d;have S:=aA c;have g:=fun V=>uJ ⟨#[118,101,114]⟩ V
 have f:=fun V=>uJ ⟨#[120]⟩ V
 rw [show dD (⟨#[118,101,114]⟩:Tr).data.toList=true by decide] at g;rw [show dD (⟨#[120]⟩:Tr).data.toList=false by decide] at f;have X:=aA g;have U:=aA f;clear a hz z4 D A4 N4 A5 I e0 e1 CK d c g f q HA;go_wp2_with fail
 refine s.out.mono ?_;rintro e w6 ⟨rfl,a⟩;have K6:=aA (N.out.step a);have A:=aA ((a.block _ (aG B.out)).trans B.out);clear a N B o c1 c2 f0 f1 M L s;obtain ⟨o,c1,c2⟩:=xN A.out;go_wp2_with fail
 refine (T.out _).mono ?_;rintro e w7 ⟨rfl,a⟩;have K7:=aA (K6.out.step a);have N7:=aA ((a.block _ (aG A.out)).trans A.out);clear a K6 A o c1 c2;obtain ⟨o,c1,c2⟩:=xN N7.out;go_wp2_with fail
 refine (S.out _).mono ?_;rintro e w8 ⟨rfl,a⟩;have K8:=aA (K7.out.step a);clear a K7 N7 o c1 c2;go_wp2_with fail
 refine (X.out _).mono ?_;rintro e w9 ⟨rfl,a⟩;have K9:=aA (K8.out.step a);clear a K8;go_wp2_with fail
 refine (U.out _).mono ?_;rintro e ja ⟨rfl,a⟩;have P:=aA (K9.out.step a);clear a K9;go_wp2_with fail
 go_ret;exact ⟨rfl,P.out.k.b⟩
end Go.Proofs.YtgfkjkokmcejbaaGreatDoor
