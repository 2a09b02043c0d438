/-
 No statement: what ProgTwoLift needs, of the texts OE5.
-/
import Derived.Test.YtgfkjkokmcejbaaGreatDoorVT3
set_option maxHeartbeats 40000000
set_option maxRecDepth 100000
namespace Go.Proofs.YtgfkjkokmcejbaaGreatDoor
open Go.RowKit
section
section
open Go.RowKit
structure LW (ts:List Tk) (rb:Nat) (a:Option Addr) (c:Nat) (w0:World) (C:Nat) (t:TN) (ad:Option Addr) (cc:Nat) (s:RS) (w:World):Prop where
 pw:PW ts rb a c s w
 kp:aD (· = rb) w0 w
 nb:w.heap[w0.heap.size]? = some (ndO ⟨#[]⟩ ⟨#[]⟩ 0 none 0 0)
 cb:w.heap[C]? = some (ndO t.op t.nm t.n ad t.ks.len cc)
 rk:aN (fun b=>w0.heap.size+1<=b/\b ≠ C) w ad t.ks
theorem LW.next {ts:List Tk} {rb:Nat} {a:Option Addr} {c:Nat} {w0:World} {C:Nat} {t:TN} {ad:Option Addr} {cc:Nat} {s s':RS} {w w':World} (h:LW ts rb a c w0 C t ad cc s w) (hrb:rb<w0.heap.size) (hC:w0.heap.size<C) (hp:PW ts rb a c s' w') (hk:aD (· = rb) w w'):LW ts rb a c w0 C t ad cc s' w' :=
 ⟨hp,h.kp.trans hk (fun i hi _=>hi),hk.heap h.nb (by show ¬ w0.heap.size=rb;omega),hk.heap h.cb (by show ¬ C=rb;omega),h.rk.keptS hk (fun k hk h=>by omega)⟩
theorem LW.same {ts:List Tk} {rb:Nat} {a:Option Addr} {c:Nat} {w0:World} {C:Nat} {t:TN} {ad:Option Addr} {cc:Nat} {s:RS} {w w':World} (h:LW ts rb a c w0 C t ad cc s w) (hrb:rb<w0.heap.size) (hC:w0.heap.size<C) (hk:aD (fun _=>False) w w'):LW ts rb a c w0 C t ad cc s w' :=
 h.next hrb hC (h.pw.kept hk) (hk.mono (fun _ h _=>h.elim))
theorem LW.lt {ts:List Tk} {rb:Nat} {a:Option Addr} {c:Nat} {w0:World} {C:Nat} {t:TN} {ad:Option Addr} {cc:Nat} {s:RS} {w:World} (h:LW ts rb a c w0 C t ad cc s w):C<w.heap.size:=(Array.getElem?_eq_some_iff.1 h.cb).1
def NZ (rb:Nat) (w:World):Nat:=(intOf ((w.cell? ⟨rb,1,none⟩).getD undef)).toNat
theorem i6 {w:World} {b:Nat} {a:Option Addr} {l c:Nat} {s:RS} (h:IsR w b a l c s):NZ b w=s.pos:=by
 unfold NZ;rw [h.cells.1.2.1];simp [intOf]
theorem jM {ts:List Tk} {rb:Nat} {a:Option Addr} {c:Nat} {s:RS} (x:ByteArray) {v:Bool} (hv:isS ts x.data.toList s.pos=v) (w:World) (h:PW ts rb a c s w) :
 Calls Tryz.prog 123 #[.pointer (some ⟨rb,0,none⟩),.string x] w fun e w'=>e=.returned (.bool v)/\aD (fun _=>False) w w':=by
 rw [<- hv];exact F8 ts rb a c s x w h
theorem yI {L:List Tk} {y:List UInt8} {p:Nat} (h:isS L y p=true):dW L p=y:=by
 unfold isS at h;unfold dW;cases e:L[p]? with
 | none=>rw [e] at h;cases h
 | some t =>
   rw [e] at h;simp only [Bool.and_eq_true,beq_iff_eq] at h;exact h.2
theorem LW.two {ts:List Tk} {rb:Nat} {a:Option Addr} {c:Nat} {w0 w1 w2:World} {C:Nat} {t k:TN} {ad ad2:Option Addr} {cc cc2:Nat} {s s':RS} {o:List UInt8} (hrb:rb<w0.heap.size) (hC:w0.heap.size<C) (h:LW ts rb a c w0 C t ad cc s w1)
 (hp:PW ts rb a c s' w2) (hk:aD (· = rb) w1 w2) (hr:a8 w1.heap.size w2 ad2 k.ks) :
 LW ts rb a c w0 C (fB o t k) (some ⟨w2.heap.size+1,0,none⟩) 2 s' (((kL w2 C ⟨o.toArray⟩ ⟨#[]⟩ 0 (some ⟨w2.heap.size+1,0,none⟩) 2 2).alloc (ndO k.op k.nm k.n ad2 k.ks.len cc2)).alloc
  (.cells #[.string t.op,.string t.nm,.int .i64 t.n,.slice ad t.ks.len cc,.string k.op,.string k.nm,.int .i64 k.n,.slice ad2 k.ks.len cc2] 79)):=by
 have h2:=h.next hrb hC hp hk;have hlt:=h2.lt;have hlt1:=h.lt;have KP:=eX w2 C ⟨o.toArray⟩ ⟨#[]⟩ 0 (some ⟨w2.heap.size+1,0,none⟩) 2 2;have hp4:(kL w2 C ⟨o.toArray⟩ ⟨#[]⟩ 0 (some ⟨w2.heap.size+1,0,none⟩) 2 2).heap.size=w2.heap.size:=by simp [kL]
 have hcb:=aU h2.cb (.string ⟨o.toArray⟩) (.string ⟨#[]⟩) (.int .i64 0) (.slice (some ⟨w2.heap.size+1,0,none⟩) 2 2);obtain ⟨U,hU⟩:∃ U,kL w2 C ⟨o.toArray⟩ ⟨#[]⟩ 0 (some ⟨w2.heap.size+1,0,none⟩) 2 2=U:=⟨_,rfl⟩;have hcb':U.heap[C]? = some (ndO ⟨o.toArray⟩ ⟨#[]⟩ 0 (some ⟨w2.heap.size+1,0,none⟩) 2 2):=by rw [<- hU];exact hcb
 rw [hU] at KP hp4 |-
 have B1:=bA0 U (ndO k.op k.nm k.n ad2 k.ks.len cc2);have B2:=(Below.refl (U.alloc (ndO k.op k.nm k.n ad2 k.ks.len cc2)).heap.size _).alloc (Nat.le_refl _) (.cells #[.string t.op,.string t.nm,.int .i64 t.n,.slice ad t.ks.len cc,.string k.op,.string k.nm,.int .i64 k.n,.slice ad2 k.ks.len cc2] 79);have hnew:=heap_alloc_new (U.alloc (ndO k.op k.nm k.n ad2 k.ks.len cc2)) (.cells #[.string t.op,.string t.nm,.int .i64 t.n,.slice ad t.ks.len cc,.string k.op,.string k.nm,.int .i64 k.n,.slice ad2 k.ks.len cc2] 79);have hs1:(U.alloc (ndO k.op k.nm k.n ad2 k.ks.len cc2)).heap.size=w2.heap.size+1:=by rw [World.size_alloc,hp4]
 rw [hs1] at hnew;have R1:aN (fun b=>w0.heap.size+1<=b/\b ≠ C) w2 ad2 k.ks:=aN.imp hr (fun b _ hb=>⟨by omega,by omega⟩);refine ⟨((hp.other KP (by omega)).below B1).below B2,(((h2.kp).trans KP (fun i hi hl=>by omega)).alloc _).alloc _,?_,?_,?_⟩
 · rw [B2.block _ (by omega),B1.block _ (by omega)]
   exact KP.heap h2.nb (by show ¬ w0.heap.size=C;omega)
 · rw [B2.block _ (by omega),B1.block _ (by omega)]
   exact hcb'
 · refine .inr ⟨_,_,rfl,Fo (G:=fun b=>w0.heap.size+1<=b/\b ≠ C) ⟨by omega,by omega⟩ hnew ?_ ?_⟩
   · exact ((h2.rk.keptS KP (fun k hk h=>by omega)).kept B1).kept B2
   · exact ((R1.keptS KP (fun k hk h=>by omega)).kept B1).kept B2
theorem DL (ts:List Tk) (rb:Nat) (a:Option Addr) (c:Nat) (s:RS) (w:World) (h:PW ts rb a c s w) (hcnt:s.bad=0->s.cnt<=32)
 (ih:∀ s' w',s.pos<=s'.pos->(s'.bad=0->s'.cnt<=32)->PW ts rb a c s' w'->Calls Tryz.prog 263 #[.pointer (some ⟨rb,0,none⟩)] w' (PE ts rb a c (pE ts .fac s') w')) :
 Calls Tryz.prog 245 #[.pointer (some ⟨rb,0,none⟩)] w (PE ts rb a c (pE ts .prod s) w):=by
 have TOP:(pE ts .fac s).2.bad=0->(pE ts .fac s).2.pos<=ts.length/\(pE ts .fac s).2.cnt<=32:=fun hq=>by
  by_cases hb:s.bad=0
  · exact (lR ts .fac s hb (h.f.1 hb) (hcnt hb)).2.2 hq
  · rw [nI ts _ s hb] at hq;exact absurd hq hb
 have hpos1:=kS ts .fac s;have hQ:=wC ts s;obtain ⟨q1,hq1⟩:∃ q1,pE ts .fac s=q1:=⟨_,rfl⟩;rw [hq1] at hQ TOP hpos1;rw [hQ];obtain ⟨Q,hQQ⟩:∃ Q,pE ts (.prodL q1.1) q1.2=Q:=⟨_,rfl⟩;rw [hQQ];have K1:=aE (bA0 w (ndO ⟨#[]⟩ ⟨#[]⟩ 0 none 0 0)) (· = rb);have H1:=h.below (bA0 w (ndO ⟨#[]⟩ ⟨#[]⟩ 0 none 0 0));have hrb:=h.r.lt;have NB:=heap_alloc_new w (ndO ⟨#[]⟩ ⟨#[]⟩ 0 none 0 0);have hsz:(w.alloc (ndO ⟨#[]⟩ ⟨#[]⟩ 0 none 0 0)).heap.size=w.heap.size+1:=World.size_alloc _ _;generalize hW:w.alloc (ndO ⟨#[]⟩ ⟨#[]⟩ 0 none 0 0)=W at *;have C0:=aA (ih s W (Nat.le_refl _) hcnt H1);rw [hq1] at C0;have IH:=aA ih;have hn:=h.f.2.2.2;have HQ:=aA hQQ;have T1:=aA TOP;clear hQ hQQ hq1 H1 h ih TOP hcnt;go_enter Tryz.func245,Tryz.ntmps245
 go_wp2_with fail
 refine C0.out.mono ?_;rintro e w1 ⟨ad,cc,rfl,h1,hk1,hr1⟩;have hs1:=hk1.size;have BN:=bA0 w1 (ndO q1.1.op q1.1.nm q1.1.n ad q1.1.ks.len cc);have hCw:w.heap.size<w1.heap.size:=by omega
 have L1:=aA (show LW ts rb a c w w1.heap.size q1.1 ad cc q1.2 (w1.alloc (ndO q1.1.op q1.1.nm q1.1.n ad q1.1.ks.len cc)) from
  ⟨h1.below BN,(K1.trans hk1 (fun i hi _=>hi)).alloc _,(BN.block _ hCw).trans (hk1.heap NB (by show ¬ w.heap.size=rb;omega)),heap_alloc_new w1 _,(aN.imp hr1 (fun b hb hl=>⟨by omega,by omega⟩)).kept BN⟩)
 clear K1 NB hsz C0 h1 hk1 hr1 BN hW hs1;go_wp2_with fail
 generalize w1.alloc (ndO q1.1.op q1.1.nm q1.1.n ad q1.1.ks.len cc)=V at L1 |-
 generalize w1.heap.size=C at L1 hCw |-
 go_loopw [4] (fun _ wr=>∃ (n:TN) (s2:RS) (ad2:Option Addr) (cc2:Nat),Hid (LW ts rb a c w C n ad2 cc2 s2 wr)/\Hid (pE ts (.prodL n) s2=Q)/\Hid (s2.bad=0->s2.pos<=ts.length/\s2.cnt<=32)/\s.pos<=s2.pos) (fun _ wr=>2*ts.length+2-NZ rb wr)
 case atStart=>exact ⟨q1.1,q1.2,ad,cc,L1,HQ,T1,hpos1⟩
 case round =>
  obtain ⟨n,s2,ad2,cc2,hL,hE,hT,hps⟩:=hrel;obtain ⟨⟨c0,c1,c2,c3,c4⟩,f1,f2,f3,f4⟩:=hL.out.pw.r.cells;by_cases hb:s2.bad=0
  · have qb:((s2.bad:Int) == 0)=true:=by rw [hb];rfl
    have hb':=aA hb;have hT2:=hT.out hb;cases h42:isS ts [42] s2.pos with
    | true =>
      have CI0:=aA (jM (ts:=ts) (a:=a) (c:=c) ⟨#[42]⟩ (v:=true) h42 wr hL.out.pw);go_wp2_with fail
      refine CI0.out.mono ?_;rintro e x0 ⟨rfl,hk0⟩;have LA0:=aA (hL.out.same hrb hCw hk0);clear hk0 CI0;have hlt:=gC h42;have hop:=yI h42
      have EQ:=aA (show pE ts (.prodL (fB [42] n (pE ts .fac (aH s2)).1)) (pE ts .fac (aH s2)).2=Q by
       rw [<- hE.out];conv=>rhs;rw [gF,if_pos (by rw [hb];unfold isM;rw [h42];simp),hop])
      obtain ⟨⟨c0,c1,c2,c3,c4⟩,f1,f2,f3,f4⟩:=LA0.out.pw.r.cells;obtain ⟨b,off,ha,hbr, -,p1, -, -⟩:=aY LA0.out.pw.t hlt
      have htx:(⟨ts[s2.pos].text.toArray⟩:ByteArray)=⟨#[42]⟩:=by
       have:dW ts s2.pos=ts[s2.pos].text:=by unfold dW;rw [List.getElem?_eq_getElem hlt]
       rw [<- this,hop]
      rw [htx] at p1;rw [ha] at c0;have a3:(s2.pos:Int)<(ts.length:Int):=by omega
      have a4:(0:Int)<=(s2.pos:Int):=by omega
      have a5:((s2.pos:Int)).toNat=s2.pos:=by omega
      clear hop htx h42;go_wp2_with (go_quiet (fail))
      have LB:=aA (LA0.out.same hrb hCw ((aD.refl (fun _=>False) x0).drewN nq));have CT:=aA (jA ts rb a c s2 (x0.drewN nq) LB.out.pw (fun _=>⟨hlt,hT2.2⟩) (by omega));refine CT.out.mono ?_;rintro e w4 ⟨rfl,h4,hk4⟩;have LC:=aA (LB.out.next hrb hCw h4 hk4);have htp:=bZ s2;have CI:=aA (IH.out (aH s2) w4 (by omega) (fun hq=>by obtain ⟨_,z1,z2,_⟩:=dQ hq;omega) h4);have hpos3:=kS ts .fac (aH s2)
      have T3:=aA (show (pE ts .fac (aH s2)).2.bad=0->(pE ts .fac (aH s2)).2.pos<=ts.length/\(pE ts .fac (aH s2)).2.cnt<=32 from fun hq=>by
       by_cases hbt:(aH s2).bad=0
       · obtain ⟨_,z1,z2,z3,_⟩:=dQ hbt
         exact (lR ts .fac (aH s2) hbt (by omega) (by omega)).2.2 hq
       · rw [nI ts _ _ hbt] at hq;exact absurd hq hbt)
      obtain ⟨q3,hq3⟩:∃ q3,pE ts .fac (aH s2)=q3:=⟨_,rfl⟩;rw [hq3] at CI EQ T3 hpos3;have hpw:=i6 hL.out.pw.r;have hfin:=h4.f;clear h4 hk4 CT c0 c1 c2 c3 c4 f1 f2 f3 f4 p1 ha LA0 LB hq3;go_wp2_with fail
      refine CI.out.mono ?_;rintro e w5 ⟨ad3,cc3,rfl,h5,hk5,hr5⟩;have LD:=aA (LC.out.two (o:=[42]) (cc2:=cc3) hrb hCw h5 hk5 hr5);have LE:=aA (LC.out.next hrb hCw h5 hk5);have hl5:=LE.out.lt;have hl6:C<w5.heap.size+1:=by omega
      have hpf:=h5.f.2.1;obtain ⟨⟨m0,m1,m2,m3⟩,g0,g1,g2,g3⟩:=aL LE.out.cb;clear h5 hk5 hr5 CI LC;go_wp2_with fail
      go_roundw
      case rel=>exact ⟨fB [42] n q3.1,q3.2,_,_,LD,EQ,T3,by omega⟩
      case measure =>
       rw [i6 LD.out.pw.r,hpw];omega
    | false =>
      cases h47:isS ts [47] s2.pos with
      | true =>
        have CI0:=aA (jM (ts:=ts) (a:=a) (c:=c) ⟨#[42]⟩ (v:=false) h42 wr hL.out.pw);go_wp2_with fail
        refine CI0.out.mono ?_;rintro e x0 ⟨rfl,hk0⟩;have LA0:=aA (hL.out.same hrb hCw hk0);clear hk0 CI0;have CI1:=aA (jM (ts:=ts) (a:=a) (c:=c) ⟨#[47]⟩ (v:=true) h47 x0 LA0.out.pw);go_wp2_with fail
        refine CI1.out.mono ?_;rintro e x1 ⟨rfl,hk1⟩;have LA1:=aA (LA0.out.same hrb hCw hk1);clear hk1 CI1;have hlt:=gC h47;have hop:=yI h47
        have EQ:=aA (show pE ts (.prodL (fB [47] n (pE ts .fac (aH s2)).1)) (pE ts .fac (aH s2)).2=Q by
         rw [<- hE.out];conv=>rhs;rw [gF,if_pos (by rw [hb];unfold isM;rw [h47];simp),hop])
        obtain ⟨⟨c0,c1,c2,c3,c4⟩,f1,f2,f3,f4⟩:=LA1.out.pw.r.cells;obtain ⟨b,off,ha,hbr, -,p1, -, -⟩:=aY LA1.out.pw.t hlt
        have htx:(⟨ts[s2.pos].text.toArray⟩:ByteArray)=⟨#[47]⟩:=by
         have:dW ts s2.pos=ts[s2.pos].text:=by unfold dW;rw [List.getElem?_eq_getElem hlt]
         rw [<- this,hop]
        rw [htx] at p1;rw [ha] at c0;have a3:(s2.pos:Int)<(ts.length:Int):=by omega
        have a4:(0:Int)<=(s2.pos:Int):=by omega
        have a5:((s2.pos:Int)).toNat=s2.pos:=by omega
        clear hop htx h42 h47;go_wp2_with (go_quiet (fail))
        have LB:=aA (LA1.out.same hrb hCw ((aD.refl (fun _=>False) x1).drewN nq));have CT:=aA (jA ts rb a c s2 (x1.drewN nq) LB.out.pw (fun _=>⟨hlt,hT2.2⟩) (by omega));refine CT.out.mono ?_;rintro e w4 ⟨rfl,h4,hk4⟩;have LC:=aA (LB.out.next hrb hCw h4 hk4);have htp:=bZ s2;have CI:=aA (IH.out (aH s2) w4 (by omega) (fun hq=>by obtain ⟨_,z1,z2,_⟩:=dQ hq;omega) h4);have hpos3:=kS ts .fac (aH s2)
        have T3:=aA (show (pE ts .fac (aH s2)).2.bad=0->(pE ts .fac (aH s2)).2.pos<=ts.length/\(pE ts .fac (aH s2)).2.cnt<=32 from fun hq=>by
         by_cases hbt:(aH s2).bad=0
         · obtain ⟨_,z1,z2,z3,_⟩:=dQ hbt
           exact (lR ts .fac (aH s2) hbt (by omega) (by omega)).2.2 hq
         · rw [nI ts _ _ hbt] at hq;exact absurd hq hbt)
        obtain ⟨q3,hq3⟩:∃ q3,pE ts .fac (aH s2)=q3:=⟨_,rfl⟩;rw [hq3] at CI EQ T3 hpos3;have hpw:=i6 hL.out.pw.r;have hfin:=h4.f;clear h4 hk4 CT c0 c1 c2 c3 c4 f1 f2 f3 f4 p1 ha LA0 LA1 LB hq3;go_wp2_with fail
        refine CI.out.mono ?_;rintro e w5 ⟨ad3,cc3,rfl,h5,hk5,hr5⟩;have LD:=aA (LC.out.two (o:=[47]) (cc2:=cc3) hrb hCw h5 hk5 hr5);have LE:=aA (LC.out.next hrb hCw h5 hk5);have hl5:=LE.out.lt;have hl6:C<w5.heap.size+1:=by omega
        have hpf:=h5.f.2.1;obtain ⟨⟨m0,m1,m2,m3⟩,g0,g1,g2,g3⟩:=aL LE.out.cb;clear h5 hk5 hr5 CI LC;go_wp2_with fail
        go_roundw
        case rel=>exact ⟨fB [47] n q3.1,q3.2,_,_,LD,EQ,T3,by omega⟩
        case measure =>
         rw [i6 LD.out.pw.r,hpw];omega
      | false =>
        cases h37:isS ts [37] s2.pos with
        | true =>
          have CI0:=aA (jM (ts:=ts) (a:=a) (c:=c) ⟨#[42]⟩ (v:=false) h42 wr hL.out.pw);go_wp2_with fail
          refine CI0.out.mono ?_;rintro e x0 ⟨rfl,hk0⟩;have LA0:=aA (hL.out.same hrb hCw hk0);clear hk0 CI0;have CI1:=aA (jM (ts:=ts) (a:=a) (c:=c) ⟨#[47]⟩ (v:=false) h47 x0 LA0.out.pw);go_wp2_with fail
          refine CI1.out.mono ?_;rintro e x1 ⟨rfl,hk1⟩;have LA1:=aA (LA0.out.same hrb hCw hk1);clear hk1 CI1;have CI2:=aA (jM (ts:=ts) (a:=a) (c:=c) ⟨#[37]⟩ (v:=true) h37 x1 LA1.out.pw);go_wp2_with fail
          refine CI2.out.mono ?_;rintro e x2 ⟨rfl,hk2⟩;have LA2:=aA (LA1.out.same hrb hCw hk2);clear hk2 CI2;have hlt:=gC h37;have hop:=yI h37
          have EQ:=aA (show pE ts (.prodL (fB [37] n (pE ts .fac (aH s2)).1)) (pE ts .fac (aH s2)).2=Q by
           rw [<- hE.out];conv=>rhs;rw [gF,if_pos (by rw [hb];unfold isM;rw [h37];simp),hop])
          obtain ⟨⟨c0,c1,c2,c3,c4⟩,f1,f2,f3,f4⟩:=LA2.out.pw.r.cells;obtain ⟨b,off,ha,hbr, -,p1, -, -⟩:=aY LA2.out.pw.t hlt
          have htx:(⟨ts[s2.pos].text.toArray⟩:ByteArray)=⟨#[37]⟩:=by
           have:dW ts s2.pos=ts[s2.pos].text:=by unfold dW;rw [List.getElem?_eq_getElem hlt]
           rw [<- this,hop]
          rw [htx] at p1;rw [ha] at c0;have a3:(s2.pos:Int)<(ts.length:Int):=by omega
          have a4:(0:Int)<=(s2.pos:Int):=by omega
          have a5:((s2.pos:Int)).toNat=s2.pos:=by omega
          clear hop htx h42 h47 h37;go_wp2_with (go_quiet (fail))
          have LB:=aA (LA2.out.same hrb hCw ((aD.refl (fun _=>False) x2).drewN nq));have CT:=aA (jA ts rb a c s2 (x2.drewN nq) LB.out.pw (fun _=>⟨hlt,hT2.2⟩) (by omega));refine CT.out.mono ?_;rintro e w4 ⟨rfl,h4,hk4⟩;have LC:=aA (LB.out.next hrb hCw h4 hk4);have htp:=bZ s2;have CI:=aA (IH.out (aH s2) w4 (by omega) (fun hq=>by obtain ⟨_,z1,z2,_⟩:=dQ hq;omega) h4);have hpos3:=kS ts .fac (aH s2)
          have T3:=aA (show (pE ts .fac (aH s2)).2.bad=0->(pE ts .fac (aH s2)).2.pos<=ts.length/\(pE ts .fac (aH s2)).2.cnt<=32 from fun hq=>by
           by_cases hbt:(aH s2).bad=0
           · obtain ⟨_,z1,z2,z3,_⟩:=dQ hbt
             exact (lR ts .fac (aH s2) hbt (by omega) (by omega)).2.2 hq
           · rw [nI ts _ _ hbt] at hq;exact absurd hq hbt)
          obtain ⟨q3,hq3⟩:∃ q3,pE ts .fac (aH s2)=q3:=⟨_,rfl⟩;rw [hq3] at CI EQ T3 hpos3;have hpw:=i6 hL.out.pw.r;have hfin:=h4.f;clear h4 hk4 CT c0 c1 c2 c3 c4 f1 f2 f3 f4 p1 ha LA0 LA1 LA2 LB hq3;go_wp2_with fail
          refine CI.out.mono ?_;rintro e w5 ⟨ad3,cc3,rfl,h5,hk5,hr5⟩;have LD:=aA (LC.out.two (o:=[37]) (cc2:=cc3) hrb hCw h5 hk5 hr5);have LE:=aA (LC.out.next hrb hCw h5 hk5);have hl5:=LE.out.lt;have hl6:C<w5.heap.size+1:=by omega
          have hpf:=h5.f.2.1;obtain ⟨⟨m0,m1,m2,m3⟩,g0,g1,g2,g3⟩:=aL LE.out.cb;clear h5 hk5 hr5 CI LC;go_wp2_with fail
          go_roundw
          case rel=>exact ⟨fB [37] n q3.1,q3.2,_,_,LD,EQ,T3,by omega⟩
          case measure =>
           rw [i6 LD.out.pw.r,hpw];omega
        | false =>
          have CI0:=aA (jM (ts:=ts) (a:=a) (c:=c) ⟨#[42]⟩ (v:=false) h42 wr hL.out.pw);go_wp2_with fail
          refine CI0.out.mono ?_;rintro e x0 ⟨rfl,hk0⟩;have LA0:=aA (hL.out.same hrb hCw hk0);clear hk0 CI0;have CI1:=aA (jM (ts:=ts) (a:=a) (c:=c) ⟨#[47]⟩ (v:=false) h47 x0 LA0.out.pw);go_wp2_with fail
          refine CI1.out.mono ?_;rintro e x1 ⟨rfl,hk1⟩;have LA1:=aA (LA0.out.same hrb hCw hk1);clear hk1 CI1;have CI2:=aA (jM (ts:=ts) (a:=a) (c:=c) ⟨#[37]⟩ (v:=false) h37 x1 LA1.out.pw);go_wp2_with fail
          refine CI2.out.mono ?_;rintro e x2 ⟨rfl,hk2⟩;have LA2:=aA (LA1.out.same hrb hCw hk2);clear hk2 CI2;have EQ:=aA (show (n,s2)=Q by rw [<- hE.out,gF,if_neg (by unfold isM;rw [h42,h47,h37];simp)]);have LX:=LA2;obtain ⟨⟨m0,m1,m2,m3⟩, -⟩:=aL LX.out.cb;obtain ⟨⟨n0,n1,n2,n3⟩,g0,g1,g2,g3⟩:=aL LX.out.nb;go_wp2_with fail
          have hres:=aU LX.out.nb (.string n.op) (.string n.nm) (.int .i64 n.n) (.slice ad2 n.ks.len cc2);obtain ⟨⟨d0,d1,d2,d3⟩, -⟩:=aL hres;refine bodyPost_ret (v:=cF n.op n.nm n.n ad2 n.ks.len cc2) (by simp [results,Tryz.results245,go_sem,d0,d1,d2,d3]) rfl ?_;rw [<- EQ.out];exact PE.put (q:=(n,s2)) hrb LX.out.pw LX.out.kp (LX.out.rk.imp (fun b _ hb=>hb.1))
  · have qb:((s2.bad:Int) == 0)=false:=beq_eq_false_iff_ne.2 hb
    have EQ:=aA (show (n,s2)=Q by rw [<- hE.out,gF,if_neg (by simp [hb])]);have LX:=hL;clear hb;obtain ⟨⟨m0,m1,m2,m3⟩, -⟩:=aL LX.out.cb;obtain ⟨⟨n0,n1,n2,n3⟩,g0,g1,g2,g3⟩:=aL LX.out.nb;go_wp2_with fail
    have hres:=aU LX.out.nb (.string n.op) (.string n.nm) (.int .i64 n.n) (.slice ad2 n.ks.len cc2);obtain ⟨⟨d0,d1,d2,d3⟩, -⟩:=aL hres;refine bodyPost_ret (v:=cF n.op n.nm n.n ad2 n.ks.len cc2) (by simp [results,Tryz.results245,go_sem,d0,d1,d2,d3]) rfl ?_;rw [<- EQ.out];exact PE.put (q:=(n,s2)) hrb LX.out.pw LX.out.kp (LX.out.rk.imp (fun b _ hb=>hb.1))
theorem GU (ts:List Tk) (rb:Nat) (a:Option Addr) (c:Nat) (s:RS) (w:World) (h:PW ts rb a c s w) (hcnt:s.bad=0->s.cnt<=32)
 (ih:∀ s' w',s.pos<=s'.pos->(s'.bad=0->s'.cnt<=32)->PW ts rb a c s' w'->Calls Tryz.prog 245 #[.pointer (some ⟨rb,0,none⟩)] w' (PE ts rb a c (pE ts .prod s') w')) :
 Calls Tryz.prog 223 #[.pointer (some ⟨rb,0,none⟩)] w (PE ts rb a c (pE ts .sum s) w):=by
 have TOP:(pE ts .prod s).2.bad=0->(pE ts .prod s).2.pos<=ts.length/\(pE ts .prod s).2.cnt<=32:=fun hq=>by
  by_cases hb:s.bad=0
  · exact (lR ts .prod s hb (h.f.1 hb) (hcnt hb)).2.2 hq
  · rw [nI ts _ s hb] at hq;exact absurd hq hb
 have hpos1:=kS ts .prod s;have hQ:=FB ts s;obtain ⟨q1,hq1⟩:∃ q1,pE ts .prod s=q1:=⟨_,rfl⟩;rw [hq1] at hQ TOP hpos1;rw [hQ];obtain ⟨Q,hQQ⟩:∃ Q,pE ts (.sumL q1.1) q1.2=Q:=⟨_,rfl⟩;rw [hQQ];have K1:=aE (bA0 w (ndO ⟨#[]⟩ ⟨#[]⟩ 0 none 0 0)) (· = rb);have H1:=h.below (bA0 w (ndO ⟨#[]⟩ ⟨#[]⟩ 0 none 0 0));have hrb:=h.r.lt;have NB:=heap_alloc_new w (ndO ⟨#[]⟩ ⟨#[]⟩ 0 none 0 0);have hsz:(w.alloc (ndO ⟨#[]⟩ ⟨#[]⟩ 0 none 0 0)).heap.size=w.heap.size+1:=World.size_alloc _ _;generalize hW:w.alloc (ndO ⟨#[]⟩ ⟨#[]⟩ 0 none 0 0)=W at *;have C0:=aA (ih s W (Nat.le_refl _) hcnt H1);rw [hq1] at C0;have IH:=aA ih;have hn:=h.f.2.2.2;have HQ:=aA hQQ;have T1:=aA TOP;clear hQ hQQ hq1 H1 h ih TOP hcnt;go_enter Tryz.func223,Tryz.ntmps223
 go_wp2_with fail
 refine C0.out.mono ?_;rintro e w1 ⟨ad,cc,rfl,h1,hk1,hr1⟩;have hs1:=hk1.size;have BN:=bA0 w1 (ndO q1.1.op q1.1.nm q1.1.n ad q1.1.ks.len cc);have hCw:w.heap.size<w1.heap.size:=by omega
 have L1:=aA (show LW ts rb a c w w1.heap.size q1.1 ad cc q1.2 (w1.alloc (ndO q1.1.op q1.1.nm q1.1.n ad q1.1.ks.len cc)) from
  ⟨h1.below BN,(K1.trans hk1 (fun i hi _=>hi)).alloc _,(BN.block _ hCw).trans (hk1.heap NB (by show ¬ w.heap.size=rb;omega)),heap_alloc_new w1 _,(aN.imp hr1 (fun b hb hl=>⟨by omega,by omega⟩)).kept BN⟩)
 clear K1 NB hsz C0 h1 hk1 hr1 BN hW hs1;go_wp2_with fail
 generalize w1.alloc (ndO q1.1.op q1.1.nm q1.1.n ad q1.1.ks.len cc)=V at L1 |-
 generalize w1.heap.size=C at L1 hCw |-
 go_loopw [4] (fun _ wr=>∃ (n:TN) (s2:RS) (ad2:Option Addr) (cc2:Nat),Hid (LW ts rb a c w C n ad2 cc2 s2 wr)/\Hid (pE ts (.sumL n) s2=Q)/\Hid (s2.bad=0->s2.pos<=ts.length/\s2.cnt<=32)/\s.pos<=s2.pos) (fun _ wr=>2*ts.length+2-NZ rb wr)
 case atStart=>exact ⟨q1.1,q1.2,ad,cc,L1,HQ,T1,hpos1⟩
 case round =>
  obtain ⟨n,s2,ad2,cc2,hL,hE,hT,hps⟩:=hrel;obtain ⟨⟨c0,c1,c2,c3,c4⟩,f1,f2,f3,f4⟩:=hL.out.pw.r.cells;by_cases hb:s2.bad=0
  · have qb:((s2.bad:Int) == 0)=true:=by rw [hb];rfl
    have hb':=aA hb;have hT2:=hT.out hb;cases h43:isS ts [43] s2.pos with
    | true =>
      have CI0:=aA (jM (ts:=ts) (a:=a) (c:=c) ⟨#[43]⟩ (v:=true) h43 wr hL.out.pw);go_wp2_with fail
      refine CI0.out.mono ?_;rintro e x0 ⟨rfl,hk0⟩;have LA0:=aA (hL.out.same hrb hCw hk0);clear hk0 CI0;have hlt:=gC h43;have hop:=yI h43
      have EQ:=aA (show pE ts (.sumL (fB [43] n (pE ts .prod (aH s2)).1)) (pE ts .prod (aH s2)).2=Q by
       rw [<- hE.out];conv=>rhs;rw [lF,if_pos (by rw [hb];unfold isA;rw [h43];simp),hop])
      obtain ⟨⟨c0,c1,c2,c3,c4⟩,f1,f2,f3,f4⟩:=LA0.out.pw.r.cells;obtain ⟨b,off,ha,hbr, -,p1, -, -⟩:=aY LA0.out.pw.t hlt
      have htx:(⟨ts[s2.pos].text.toArray⟩:ByteArray)=⟨#[43]⟩:=by
       have:dW ts s2.pos=ts[s2.pos].text:=by unfold dW;rw [List.getElem?_eq_getElem hlt]
       rw [<- this,hop]
      rw [htx] at p1;rw [ha] at c0;have a3:(s2.pos:Int)<(ts.length:Int):=by omega
      have a4:(0:Int)<=(s2.pos:Int):=by omega
      have a5:((s2.pos:Int)).toNat=s2.pos:=by omega
      clear hop htx h43;go_wp2_with (go_quiet (fail))
      have LB:=aA (LA0.out.same hrb hCw ((aD.refl (fun _=>False) x0).drewN nq));have CT:=aA (jA ts rb a c s2 (x0.drewN nq) LB.out.pw (fun _=>⟨hlt,hT2.2⟩) (by omega));refine CT.out.mono ?_;rintro e w4 ⟨rfl,h4,hk4⟩;have LC:=aA (LB.out.next hrb hCw h4 hk4);have htp:=bZ s2;have CI:=aA (IH.out (aH s2) w4 (by omega) (fun hq=>by obtain ⟨_,z1,z2,_⟩:=dQ hq;omega) h4);have hpos3:=kS ts .prod (aH s2)
      have T3:=aA (show (pE ts .prod (aH s2)).2.bad=0->(pE ts .prod (aH s2)).2.pos<=ts.length/\(pE ts .prod (aH s2)).2.cnt<=32 from fun hq=>by
       by_cases hbt:(aH s2).bad=0
       · obtain ⟨_,z1,z2,z3,_⟩:=dQ hbt
         exact (lR ts .prod (aH s2) hbt (by omega) (by omega)).2.2 hq
       · rw [nI ts _ _ hbt] at hq;exact absurd hq hbt)
      obtain ⟨q3,hq3⟩:∃ q3,pE ts .prod (aH s2)=q3:=⟨_,rfl⟩;rw [hq3] at CI EQ T3 hpos3;have hpw:=i6 hL.out.pw.r;have hfin:=h4.f;clear h4 hk4 CT c0 c1 c2 c3 c4 f1 f2 f3 f4 p1 ha LA0 LB hq3;go_wp2_with fail
      refine CI.out.mono ?_;rintro e w5 ⟨ad3,cc3,rfl,h5,hk5,hr5⟩;have LD:=aA (LC.out.two (o:=[43]) (cc2:=cc3) hrb hCw h5 hk5 hr5);have LE:=aA (LC.out.next hrb hCw h5 hk5);have hl5:=LE.out.lt;have hl6:C<w5.heap.size+1:=by omega
      have hpf:=h5.f.2.1;obtain ⟨⟨m0,m1,m2,m3⟩,g0,g1,g2,g3⟩:=aL LE.out.cb;clear h5 hk5 hr5 CI LC;go_wp2_with fail
      go_roundw
      case rel=>exact ⟨fB [43] n q3.1,q3.2,_,_,LD,EQ,T3,by omega⟩
      case measure =>
       rw [i6 LD.out.pw.r,hpw];omega
    | false =>
      cases h45:isS ts [45] s2.pos with
      | true =>
        have CI0:=aA (jM (ts:=ts) (a:=a) (c:=c) ⟨#[43]⟩ (v:=false) h43 wr hL.out.pw);go_wp2_with fail
        refine CI0.out.mono ?_;rintro e x0 ⟨rfl,hk0⟩;have LA0:=aA (hL.out.same hrb hCw hk0);clear hk0 CI0;have CI1:=aA (jM (ts:=ts) (a:=a) (c:=c) ⟨#[45]⟩ (v:=true) h45 x0 LA0.out.pw);go_wp2_with fail
        refine CI1.out.mono ?_;rintro e x1 ⟨rfl,hk1⟩;have LA1:=aA (LA0.out.same hrb hCw hk1);clear hk1 CI1;have hlt:=gC h45;have hop:=yI h45
        have EQ:=aA (show pE ts (.sumL (fB [45] n (pE ts .prod (aH s2)).1)) (pE ts .prod (aH s2)).2=Q by
         rw [<- hE.out];conv=>rhs;rw [lF,if_pos (by rw [hb];unfold isA;rw [h45];simp),hop])
        obtain ⟨⟨c0,c1,c2,c3,c4⟩,f1,f2,f3,f4⟩:=LA1.out.pw.r.cells;obtain ⟨b,off,ha,hbr, -,p1, -, -⟩:=aY LA1.out.pw.t hlt
        have htx:(⟨ts[s2.pos].text.toArray⟩:ByteArray)=⟨#[45]⟩:=by
         have:dW ts s2.pos=ts[s2.pos].text:=by unfold dW;rw [List.getElem?_eq_getElem hlt]
         rw [<- this,hop]
        rw [htx] at p1;rw [ha] at c0;have a3:(s2.pos:Int)<(ts.length:Int):=by omega
        have a4:(0:Int)<=(s2.pos:Int):=by omega
        have a5:((s2.pos:Int)).toNat=s2.pos:=by omega
        clear hop htx h43 h45;go_wp2_with (go_quiet (fail))
        have LB:=aA (LA1.out.same hrb hCw ((aD.refl (fun _=>False) x1).drewN nq));have CT:=aA (jA ts rb a c s2 (x1.drewN nq) LB.out.pw (fun _=>⟨hlt,hT2.2⟩) (by omega));refine CT.out.mono ?_;rintro e w4 ⟨rfl,h4,hk4⟩;have LC:=aA (LB.out.next hrb hCw h4 hk4);have htp:=bZ s2;have CI:=aA (IH.out (aH s2) w4 (by omega) (fun hq=>by obtain ⟨_,z1,z2,_⟩:=dQ hq;omega) h4);have hpos3:=kS ts .prod (aH s2)
        have T3:=aA (show (pE ts .prod (aH s2)).2.bad=0->(pE ts .prod (aH s2)).2.pos<=ts.length/\(pE ts .prod (aH s2)).2.cnt<=32 from fun hq=>by
         by_cases hbt:(aH s2).bad=0
         · obtain ⟨_,z1,z2,z3,_⟩:=dQ hbt
           exact (lR ts .prod (aH s2) hbt (by omega) (by omega)).2.2 hq
         · rw [nI ts _ _ hbt] at hq;exact absurd hq hbt)
        obtain ⟨q3,hq3⟩:∃ q3,pE ts .prod (aH s2)=q3:=⟨_,rfl⟩;rw [hq3] at CI EQ T3 hpos3;have hpw:=i6 hL.out.pw.r;have hfin:=h4.f;clear h4 hk4 CT c0 c1 c2 c3 c4 f1 f2 f3 f4 p1 ha LA0 LA1 LB hq3;go_wp2_with fail
        refine CI.out.mono ?_;rintro e w5 ⟨ad3,cc3,rfl,h5,hk5,hr5⟩;have LD:=aA (LC.out.two (o:=[45]) (cc2:=cc3) hrb hCw h5 hk5 hr5);have LE:=aA (LC.out.next hrb hCw h5 hk5);have hl5:=LE.out.lt;have hl6:C<w5.heap.size+1:=by omega
        have hpf:=h5.f.2.1;obtain ⟨⟨m0,m1,m2,m3⟩,g0,g1,g2,g3⟩:=aL LE.out.cb;clear h5 hk5 hr5 CI LC;go_wp2_with fail
        go_roundw
        case rel=>exact ⟨fB [45] n q3.1,q3.2,_,_,LD,EQ,T3,by omega⟩
        case measure =>
         rw [i6 LD.out.pw.r,hpw];omega
      | false =>
        have CI0:=aA (jM (ts:=ts) (a:=a) (c:=c) ⟨#[43]⟩ (v:=false) h43 wr hL.out.pw);go_wp2_with fail
        refine CI0.out.mono ?_;rintro e x0 ⟨rfl,hk0⟩;have LA0:=aA (hL.out.same hrb hCw hk0);clear hk0 CI0;have CI1:=aA (jM (ts:=ts) (a:=a) (c:=c) ⟨#[45]⟩ (v:=false) h45 x0 LA0.out.pw);go_wp2_with fail
        refine CI1.out.mono ?_;rintro e x1 ⟨rfl,hk1⟩;have LA1:=aA (LA0.out.same hrb hCw hk1);clear hk1 CI1;have EQ:=aA (show (n,s2)=Q by rw [<- hE.out,lF,if_neg (by unfold isA;rw [h43,h45];simp)]);have LX:=LA1;obtain ⟨⟨m0,m1,m2,m3⟩, -⟩:=aL LX.out.cb;obtain ⟨⟨n0,n1,n2,n3⟩,g0,g1,g2,g3⟩:=aL LX.out.nb;go_wp2_with fail
        have hres:=aU LX.out.nb (.string n.op) (.string n.nm) (.int .i64 n.n) (.slice ad2 n.ks.len cc2);obtain ⟨⟨d0,d1,d2,d3⟩, -⟩:=aL hres;refine bodyPost_ret (v:=cF n.op n.nm n.n ad2 n.ks.len cc2) (by simp [results,Tryz.results223,go_sem,d0,d1,d2,d3]) rfl ?_;rw [<- EQ.out];exact PE.put (q:=(n,s2)) hrb LX.out.pw LX.out.kp (LX.out.rk.imp (fun b _ hb=>hb.1))
  · have qb:((s2.bad:Int) == 0)=false:=beq_eq_false_iff_ne.2 hb
    have EQ:=aA (show (n,s2)=Q by rw [<- hE.out,lF,if_neg (by simp [hb])]);have LX:=hL;clear hb;obtain ⟨⟨m0,m1,m2,m3⟩, -⟩:=aL LX.out.cb;obtain ⟨⟨n0,n1,n2,n3⟩,g0,g1,g2,g3⟩:=aL LX.out.nb;go_wp2_with fail
    have hres:=aU LX.out.nb (.string n.op) (.string n.nm) (.int .i64 n.n) (.slice ad2 n.ks.len cc2);obtain ⟨⟨d0,d1,d2,d3⟩, -⟩:=aL hres;refine bodyPost_ret (v:=cF n.op n.nm n.n ad2 n.ks.len cc2) (by simp [results,Tryz.results223,go_sem,d0,d1,d2,d3]) rfl ?_;rw [<- EQ.out];exact PE.put (q:=(n,s2)) hrb LX.out.pw LX.out.kp (LX.out.rk.imp (fun b _ hb=>hb.1))
end
section
open Go.RowKit
def Ac:Option Int->Value
 | some v=>.tuple #[.int .i64 v,.bool true]
 | none=>.tuple #[.int .i64 0,.bool false]
theorem zK (D:ByteArray) {j:Nat} (h:j<D.size):D.data.toList[j]? = some D[j]:=List.getElem?_eq_getElem (by simpa using h)
theorem sS {neg:Bool} {D:ByteArray} (h:D.size=0):¬ okD neg D.data.toList:=fun ⟨h1,_⟩=>h1 (List.length_eq_zero_iff.1 (by simpa using h))
theorem vB {neg:Bool} {D:ByteArray} (h:19<D.size):¬ okD neg D.data.toList:=fun ⟨_,h1,_⟩=>by simp at h1;omega
theorem fZ {neg:Bool} {D:ByteArray} {j:Nat} (hj:j<D.size) (h:¬ isD D[j]):¬ okD neg D.data.toList:=fun ⟨_,_,h1,_⟩=>h (h1 _ (List.mem_of_getElem? (zK D hj)))
theorem rH {neg:Bool} {D:ByteArray} (h0:0<D.size) (h:D[0]=48) (h1:1<D.size\/neg=true):¬ okD neg D.data.toList:=fun ⟨_,_,_,h4⟩=>by
 have e:=zK D h0;rw [h] at e;cases hl:D.data.toList with
 | nil=>rw [hl] at e;simp at e
 | cons c r =>
   rw [hl] at e;have:c=48:=by simpa using e
   subst this;have h5:=h4 r hl;rcases h1 with h1 | h1
   · have:D.data.toList.length=D.size:=by simp
     rw [hl,h5.1] at this;simp at this;omega
   · rw [h5.2] at h1;cases h1
theorem wP {D:ByteArray} {k:Nat} (h:k<D.size):dP (D.data.toList.take (k+1))=10*dP (D.data.toList.take k)+(D[k].toNat-48):=by
 have:D.data.toList.take (k+1)=D.data.toList.take k++[D[k]]:=List.take_succ_eq_append_getElem (by simpa using h);rw [this,pO]
theorem FJ {neg:Bool} {D:ByteArray} (h1:1<=D.size) (h19:D.size<=19) (hd:∀ j (hj:j<D.size),isD D[j]) (h0:D[0]=48->D.size=1/\neg=false):okD neg D.data.toList:=by
 have hl:D.data.toList.length=D.size:=by simp
 refine ⟨fun e=>by rw [e] at hl;simp at hl;omega,by omega,fun c hc=>?_,fun r e=>?_⟩
 · obtain ⟨j,hj,rfl⟩:=List.mem_iff_getElem.1 hc
   exact hd j (by simpa using hj)
 · have e2:=zK D h1
   rw [e] at e2;have:D[0]=48:=by simpa using e2.symm
   obtain ⟨h3,h4⟩:=h0 this;refine ⟨?_,h4⟩;rw [e] at hl;exact List.length_eq_zero_iff.1 (by simp at hl;omega)
theorem DG (s:ByteArray) (h1:1<=s.size) (h0:s[0]=45) (hm:s.size<=2000) (w:World) :
 Calls Tryz.prog 121 #[.string s] w fun e w'=>e=.returned (Ac (fR s.data.toList))/\w=w':=by
 have e0:((s[0].toNat:Int) == 45)=true:=by rw [h0];decide
 obtain ⟨D,hD⟩:∃ D,s.extract 1 s.size=D:=⟨_,rfl⟩;have hDs:D.size=s.size-1:=by rw [<- hD];simp
 have hl:s.data.toList=45::D.data.toList:=by
  rw [<- hD,ByteArray.data_extract,Array.toList_extract];have h00:s.data.toList[0]? = some s[0]:=List.getElem?_eq_getElem (by simp;omega);cases e:s.data.toList with
  | nil=>rw [e] at h00;simp at h00
  | cons c r =>
    rw [e] at h00;have:c=s[0]:=by simpa using h00
    rw [this,h0];have hlen:s.data.toList.length=s.size:=by simp
    rw [e] at hlen;show _=45::((c::r).drop 1).take (s.size-1);rw [List.drop_one,List.tail_cons,List.take_of_length_le (by simp at hlen;omega)]
 rw [hl];clear hl h0;have hDm:D.size<=2000:=by omega
 clear hDs;by_cases c0:D.size=0
 · rw [mK (fun h=>sS c0 h.1)]
   go_enter Tryz.func121,Tryz.ntmps121
   go_wp2_with fail
   go_ret2;exact ⟨rfl,rfl⟩
 by_cases c19:19<D.size
 · rw [mK (fun h=>vB c19 h.1)]
   have q0:((D.size:Int) == 0)=false:=by rw [beq_eq_false_iff_ne];omega
   go_enter Tryz.func121,Tryz.ntmps121
   go_wp2_with fail
   go_ret2;exact ⟨rfl,rfl⟩
 have c1:1<=D.size:=by omega
 by_cases c48:D[0]=48
 · rw [mK (fun h=>rH (by omega) c48 (.inr rfl) h.1)]
   have q:((D[0].toNat:Int) == 48)=true:=by rw [c48];decide
   clear c48;have q0:((D.size:Int) == 0)=false:=by rw [beq_eq_false_iff_ne];omega
   by_cases c2:1<D.size
   · go_enter Tryz.func121,Tryz.ntmps121
     go_wp2_with fail
     go_ret2;exact ⟨rfl,rfl⟩
   · go_enter Tryz.func121,Tryz.ntmps121
     go_wp2_with fail
     go_ret2;exact ⟨rfl,rfl⟩
 have q:((D[0].toNat:Int) == 48)=false:=by
  rw [beq_eq_false_iff_ne];intro e;apply c48;apply UInt8.toNat_inj.1
  have:D[0].toNat=48:=by omega
  rw [this];rfl
 have C48:=aA c48;have q0:((D.size:Int) == 0)=false:=by rw [beq_eq_false_iff_ne];omega
 clear c48 c0;go_enter Tryz.func121,Tryz.ntmps121
 go_wp2_with fail
 go_loop [6,7] (fun v i=>∃ k u:Nat,k<=D.size/\i=.int .i64 k/\v=.int .u64 u/\Hid (u=dP (D.data.toList.take k))/\Hid (∀ j (hj:j<D.size),j<k->isD D[j])) (fun _ i=>D.size-(intOf i).toNat)
 case atStart=>exact ⟨0,0,Nat.zero_le _,rfl,rfl,aA rfl,aA (fun j _ h=>by omega)⟩
 case round =>
  obtain ⟨k,u,hk,rfl,rfl,hu,hok⟩:=hrel
  have hdk:∀ c∈D.data.toList.take k,isD c:=fun c hc=>by
   obtain ⟨j,hj,rfl⟩:=List.mem_iff_getElem.1 hc;have hj2:j<k:=by simp at hj;omega
   have hj3:j<D.size:=by omega
   have:=hok.out j hj3 hj2;rw [List.getElem_take];exact this
  have hub0:=Fc k (D.data.toList.take k) (by simp;omega) hdk;rw [<- hu.out] at hub0;clear hdk;by_cases hlt:k<D.size
  · have hub:u<1000000000000000000:=Nat.lt_of_lt_of_le hub0 (Nat.le_trans (Nat.pow_le_pow_right (by omega) (show k<=18 by omega)) (by decide))
    clear hub0;obtain ⟨m,hm'⟩:∃ m,D[k].toNat=m:=⟨_,rfl⟩;have hcase:(48<=m/\m<=57)\/m<48\/(48<=m/\57<m):=by omega
    rcases hcase with ⟨g1,g2⟩ | g1 | ⟨g1,g2⟩
    · have hok1:=aA (show ∀ j (hj:j<D.size),j<k+1->isD D[j] from fun j hj hjk=>by
       by_cases e:j=k
       · subst e;unfold isD;omega
       · exact hok.out j hj (by omega))
      have hu1:=aA (show 10*u+(m-48)=dP (D.data.toList.take (k+1)) by rw [wP hlt, <- hu.out,hm']);go_wp2_with fail
      exact ⟨⟨k+1,10*u+(m-48),by omega,by go_num,by go_num,hu1,hok1⟩,by simp [intOf];omega⟩
    · have R:=aA (mK (fun h=>fZ hlt (by unfold isD;omega) h.1))
      go_wp2_with fail
      go_ret2;exact ⟨by rw [R.out];rfl,rfl⟩
    · have R:=aA (mK (fun h=>fZ hlt (by unfold isD;omega) h.1))
      go_wp2_with fail
      go_ret2;exact ⟨by rw [R.out];rfl,rfl⟩
  · obtain rfl:k=D.size:=by omega
    have hub:u<10000000000000000000:=Nat.lt_of_lt_of_le hub0 (Nat.le_trans (Nat.pow_le_pow_right (by omega) (show D.size<=19 by omega)) (by decide));have huv:u=dP D.data.toList:=by rw [hu.out,List.take_of_length_le (by simp)]
    have ok:okD true D.data.toList:=FJ c1 (by omega) (fun j hj=>hok.out j hj hj) (fun h=>absurd h C48.out);clear hub0 hu hok hk;by_cases u1:u=9223372036854775808
    · have R0:=Hb ok (by omega)
      rw [<- huv] at R0;have R:=aA R0;clear R0;have q1:((u:Int) == 9223372036854775808)=true:=by rw [beq_iff_eq];omega
      clear ok huv;subst u1;go_wp2_with fail
      go_ret2;exact ⟨by rw [R.out];rfl,rfl⟩
    have q1:((u:Int) == 9223372036854775808)=false:=by rw [beq_eq_false_iff_ne];omega
    by_cases u2:9223372036854775808<u
    · have R:=aA (mK (d:=D.data.toList) (fun h=>by have:=h.2;omega))
      have u4:decide ((9223372036854775808:Int)<=(u:Int))=true:=decide_eq_true (by omega);clear ok huv u1 u2 hub;go_wp2_with fail
      go_ret2;exact ⟨by rw [R.out];rfl,rfl⟩
    · have R0:=Hb ok (by omega)
      rw [<- huv] at R0;have R:=aA R0;clear R0;have u3:(u:Int)<9223372036854775808:=by omega
      have u4:decide ((9223372036854775808:Int)<=(u:Int))=false:=decide_eq_false (by omega);have u5:IntKind.i64.wrap (u:Int)=(u:Int):=IntWalk.i64_in _ (by omega);have u6:IntKind.i64.wrap (-(u:Int))= -(u:Int):=IntWalk.i64_in _ (by omega);clear ok huv u1 u2 hub;go_wp2_with fail
      go_ret2;exact ⟨by rw [R.out];simp [Ac],rfl⟩
theorem DF (s:ByteArray) (h0:s.size=0\/∃ h:0<s.size,¬ s[0]=45) (hm:s.size<=2000) (w:World) :
 Calls Tryz.prog 121 #[.string s] w fun e w'=>e=.returned (Ac (fR s.data.toList))/\w=w':=by
 have HH:∀ r,¬ s.data.toList=45::r:=by
  intro r e;rcases h0 with h | ⟨h,h'⟩
  · have hlen:s.data.toList.length=s.size:=by simp
    rw [e] at hlen;simp at hlen;omega
  · have h00:s.data.toList[0]? = some s[0]:=List.getElem?_eq_getElem (by simp;omega)
    rw [e] at h00;exact h' (by simpa using h00.symm)
 have HH:=aA HH;by_cases c0:s.size=0
 · have R:=aA (gY HH.out (fun h=>sS c0 h.1))
   rw [R.out];have e:s=⟨#[]⟩:=by cases s with | mk d=>simp [ByteArray.size] at c0;simp [c0]
   subst e;clear h0 HH R;go_enter Tryz.func121,Tryz.ntmps121
   go_wp2_with fail
   go_ret2;exact ⟨rfl,rfl⟩
 have e45:(((s[0]'(by omega)).toNat:Int) == 45)=false:=by
  rw [beq_eq_false_iff_ne];intro e;rcases h0 with h | ⟨h,h'⟩
  · exact c0 h
  · apply h'
    apply UInt8.toNat_inj.1
    have:s[0].toNat=45:=by omega
    rw [this];rfl
 clear h0;by_cases c19:19<s.size
 · rw [gY HH.out (fun h=>vB c19 h.1)]
   have q0:((s.size:Int) == 0)=false:=by rw [beq_eq_false_iff_ne];omega
   go_enter Tryz.func121,Tryz.ntmps121
   go_wp2_with fail
   go_ret2;exact ⟨rfl,rfl⟩
 have c1:1<=s.size:=by omega
 by_cases c48:s[0]=48/\1<s.size
 · obtain ⟨c48,c2⟩:=c48
   rw [gY HH.out (fun h=>rH (by omega) c48 (.inl c2) h.1)];have q:((s[0].toNat:Int) == 48)=true:=by rw [c48];decide
   have q0:((s.size:Int) == 0)=false:=by rw [beq_eq_false_iff_ne];omega
   clear c48;go_enter Tryz.func121,Tryz.ntmps121
   go_wp2_with fail
   go_ret2;exact ⟨rfl,rfl⟩
 have OKE:=aA (show s[0]=48->s.size=1 from fun h=>by have:¬ 1<s.size:=fun h2=>c48 ⟨h,h2⟩;omega);have q0:((s.size:Int) == 0)=false:=by rw [beq_eq_false_iff_ne];omega
 have hq:((s[0].toNat:Int) == 48)=false\/(((s[0].toNat:Int) == 48)=true/\s.size=1):=by
  cases e:((s[0].toNat:Int) == 48) with
  | false=>exact .inl rfl
  | true =>
    right;refine ⟨rfl,OKE.out ?_⟩;apply UInt8.toNat_inj.1
    have:=beq_iff_eq.1 e;have:s[0].toNat=48:=by omega
    rw [this];rfl
 clear c48;rcases hq with q | ⟨q,q2⟩
 · go_enter Tryz.func121,Tryz.ntmps121
   go_wp2_with fail
   go_loop [6,7] (fun v i=>∃ k u:Nat,k<=s.size/\i=.int .i64 k/\v=.int .u64 u/\Hid (u=dP (s.data.toList.take k))/\Hid (∀ j (hj:j<s.size),j<k->isD s[j])) (fun _ i=>s.size-(intOf i).toNat)
   case atStart=>exact ⟨0,0,Nat.zero_le _,rfl,rfl,aA rfl,aA (fun j _ h=>by omega)⟩
   case round =>
    obtain ⟨k,u,hk,rfl,rfl,hu,hok⟩:=hrel
    have hdk:∀ c∈s.data.toList.take k,isD c:=fun c hc=>by
     obtain ⟨j,hj,rfl⟩:=List.mem_iff_getElem.1 hc;have hj2:j<k:=by simp at hj;omega
     have hj3:j<s.size:=by omega
     have:=hok.out j hj3 hj2;rw [List.getElem_take];exact this
    have hub0:=Fc k (s.data.toList.take k) (by simp;omega) hdk;rw [<- hu.out] at hub0;clear hdk;by_cases hlt:k<s.size
    · have hub:u<1000000000000000000:=Nat.lt_of_lt_of_le hub0 (Nat.le_trans (Nat.pow_le_pow_right (by omega) (show k<=18 by omega)) (by decide))
      clear hub0;obtain ⟨m,hm'⟩:∃ m,s[k].toNat=m:=⟨_,rfl⟩;have hcase:(48<=m/\m<=57)\/m<48\/(48<=m/\57<m):=by omega
      rcases hcase with ⟨g1,g2⟩ | g1 | ⟨g1,g2⟩
      · have hok1:=aA (show ∀ j (hj:j<s.size),j<k+1->isD s[j] from fun j hj hjk=>by
         by_cases e:j=k
         · subst e;unfold isD;omega
         · exact hok.out j hj (by omega))
        have hu1:=aA (show 10*u+(m-48)=dP (s.data.toList.take (k+1)) by rw [wP hlt, <- hu.out,hm']);go_wp2_with fail
        exact ⟨⟨k+1,10*u+(m-48),by omega,by go_num,by go_num,hu1,hok1⟩,by simp [intOf];omega⟩
      · have R:=aA (gY HH.out (fun h=>fZ hlt (by unfold isD;omega) h.1))
        go_wp2_with fail
        go_ret2;exact ⟨by rw [R.out];rfl,rfl⟩
      · have R:=aA (gY HH.out (fun h=>fZ hlt (by unfold isD;omega) h.1))
        go_wp2_with fail
        go_ret2;exact ⟨by rw [R.out];rfl,rfl⟩
    · obtain rfl:k=s.size:=by omega
      have hub:u<10000000000000000000:=Nat.lt_of_lt_of_le hub0 (Nat.le_trans (Nat.pow_le_pow_right (by omega) (show s.size<=19 by omega)) (by decide));have huv:u=dP s.data.toList:=by rw [hu.out,List.take_of_length_le (by simp)]
      have ok:okD false s.data.toList:=FJ c1 (by omega) (fun j hj=>hok.out j hj hj) (fun h=>⟨OKE.out h,rfl⟩);clear hub0 hu hok hk;by_cases u2:9223372036854775808<=u
      · have R:=aA (gY HH.out (fun h=>by have:=h.2;omega))
        have u4:decide ((9223372036854775808:Int)<=(u:Int))=true:=decide_eq_true (by omega);clear ok huv u2 hub;go_wp2_with fail
        go_ret2;exact ⟨by rw [R.out];rfl,rfl⟩
      · have R0:=wD ok (by omega)
        rw [<- huv] at R0;have R:=aA R0;clear R0;have u3:(u:Int)<9223372036854775808:=by omega
        have u4:decide ((9223372036854775808:Int)<=(u:Int))=false:=decide_eq_false (by omega);have u5:IntKind.i64.wrap (u:Int)=(u:Int):=IntWalk.i64_in _ (by omega);have u6:IntKind.i64.wrap (-(u:Int))= -(u:Int):=IntWalk.i64_in _ (by omega);clear ok huv u2 hub;go_wp2_with fail
        go_ret2;exact ⟨by rw [R.out];simp [Ac],rfl⟩
 · have q3:decide ((1:Int)<(s.size:Int))=false:=decide_eq_false (by omega)
   go_enter Tryz.func121,Tryz.ntmps121
   go_wp2_with fail
   go_loop [6,7] (fun v i=>∃ k u:Nat,k<=s.size/\i=.int .i64 k/\v=.int .u64 u/\Hid (u=dP (s.data.toList.take k))/\Hid (∀ j (hj:j<s.size),j<k->isD s[j])) (fun _ i=>s.size-(intOf i).toNat)
   case atStart=>exact ⟨0,0,Nat.zero_le _,rfl,rfl,aA rfl,aA (fun j _ h=>by omega)⟩
   case round =>
    obtain ⟨k,u,hk,rfl,rfl,hu,hok⟩:=hrel
    have hdk:∀ c∈s.data.toList.take k,isD c:=fun c hc=>by
     obtain ⟨j,hj,rfl⟩:=List.mem_iff_getElem.1 hc;have hj2:j<k:=by simp at hj;omega
     have hj3:j<s.size:=by omega
     have:=hok.out j hj3 hj2;rw [List.getElem_take];exact this
    have hub0:=Fc k (s.data.toList.take k) (by simp;omega) hdk;rw [<- hu.out] at hub0;clear hdk;by_cases hlt:k<s.size
    · have hub:u<1000000000000000000:=Nat.lt_of_lt_of_le hub0 (Nat.le_trans (Nat.pow_le_pow_right (by omega) (show k<=18 by omega)) (by decide))
      clear hub0;obtain ⟨m,hm'⟩:∃ m,s[k].toNat=m:=⟨_,rfl⟩;have hcase:(48<=m/\m<=57)\/m<48\/(48<=m/\57<m):=by omega
      rcases hcase with ⟨g1,g2⟩ | g1 | ⟨g1,g2⟩
      · have hok1:=aA (show ∀ j (hj:j<s.size),j<k+1->isD s[j] from fun j hj hjk=>by
         by_cases e:j=k
         · subst e;unfold isD;omega
         · exact hok.out j hj (by omega))
        have hu1:=aA (show 10*u+(m-48)=dP (s.data.toList.take (k+1)) by rw [wP hlt, <- hu.out,hm']);go_wp2_with fail
        exact ⟨⟨k+1,10*u+(m-48),by omega,by go_num,by go_num,hu1,hok1⟩,by simp [intOf];omega⟩
      · have R:=aA (gY HH.out (fun h=>fZ hlt (by unfold isD;omega) h.1))
        go_wp2_with fail
        go_ret2;exact ⟨by rw [R.out];rfl,rfl⟩
      · have R:=aA (gY HH.out (fun h=>fZ hlt (by unfold isD;omega) h.1))
        go_wp2_with fail
        go_ret2;exact ⟨by rw [R.out];rfl,rfl⟩
    · obtain rfl:k=s.size:=by omega
      have hub:u<10000000000000000000:=Nat.lt_of_lt_of_le hub0 (Nat.le_trans (Nat.pow_le_pow_right (by omega) (show s.size<=19 by omega)) (by decide));have huv:u=dP s.data.toList:=by rw [hu.out,List.take_of_length_le (by simp)]
      have ok:okD false s.data.toList:=FJ c1 (by omega) (fun j hj=>hok.out j hj hj) (fun h=>⟨OKE.out h,rfl⟩);clear hub0 hu hok hk;by_cases u2:9223372036854775808<=u
      · have R:=aA (gY HH.out (fun h=>by have:=h.2;omega))
        have u4:decide ((9223372036854775808:Int)<=(u:Int))=true:=decide_eq_true (by omega);clear ok huv u2 hub;go_wp2_with fail
        go_ret2;exact ⟨by rw [R.out];rfl,rfl⟩
      · have R0:=wD ok (by omega)
        rw [<- huv] at R0;have R:=aA R0;clear R0;have u3:(u:Int)<9223372036854775808:=by omega
        have u4:decide ((9223372036854775808:Int)<=(u:Int))=false:=decide_eq_false (by omega);have u5:IntKind.i64.wrap (u:Int)=(u:Int):=IntWalk.i64_in _ (by omega);have u6:IntKind.i64.wrap (-(u:Int))= -(u:Int):=IntWalk.i64_in _ (by omega);clear ok huv u2 hub;go_wp2_with fail
        go_ret2;exact ⟨by rw [R.out];simp [Ac],rfl⟩
theorem uY (s:ByteArray) (hm:s.size<=2000) (w:World) :
 Calls Tryz.prog 121 #[.string s] w fun e w'=>e=.returned (Ac (fR s.data.toList))/\w=w':=by
 by_cases h:s.size=0\/∃ h:0<s.size,¬ s[0]=45
 · exact DF s h hm w
 · have h0:¬ s.size=0:=fun e=>h (.inl e)
   exact DG s (by omega) (Classical.byContradiction fun e=>h (.inr ⟨by omega,e⟩)) hm w
end
section
open Go.RowKit
theorem drop_at (s:ByteArray) {k:Nat} (h:k<s.size):s.data.toList.drop k=s[k]::s.data.toList.drop (k+1):=List.drop_eq_getElem_cons (by simpa using h)
theorem sP {q:UInt8->Bool} {s:ByteArray} {k m:Nat} (hk:k<=m) (hm:m<=s.size) (h1:∀ j (h:j<s.size),k<=j->j<m->q s[j]=true) (h2:∀ h:m<s.size,q s[m]=false):bL q (s.data.toList.drop k)=m-k:=by
 have hl:s.data.toList.length=s.size:=by simp
 refine tT (by rw [List.length_drop];omega) (fun j hj hjm=>?_) (fun hj=>?_)
 · rw [List.length_drop] at hj
   rw [List.getElem_drop];exact h1 (k+j) (by omega) (by omega) (by omega)
 · rw [List.length_drop] at hj
   rw [List.getElem_drop];have:=h2 (by omega);have e:k+(m-k)=m:=by omega
   simp only [e];exact this
theorem vO {s:ByteArray} {k:Nat} {T:List Tk} {E:fY} {er:Int} (hk:k<s.size) (h32:¬ s[k]=32) (hE:(cL (s.data.toList.drop k) k).after T=E) (hf:bU (s.data.toList.drop k)=.bad er):E=.bad k er:=by
 have hd:=drop_at s hk;rw [<- hE,qH (by rw [hd];simp) (by rw [hd];simpa using h32) hf];rfl
theorem EA {s:ByteArray} {k m:Nat} {T:List Tk} {E:fY} {kd nv:Int} (hk:k<s.size) (h32:¬ s[k]=32) (hm:k<m) (hE:(cL (s.data.toList.drop k) k).after T=E) (hf:bU (s.data.toList.drop k)=.tok kd (m-k) nv) :
 (cL (s.data.toList.drop m) m).after (T++[⟨kd,(s.data.toList.drop k).take (m-k),nv,k⟩])=E:=by
 have hd:=drop_at s hk;rw [<- hE,iC (by rw [hd];simpa using h32) (by omega) hf,fX,List.drop_drop,show k+(m-k)=m by omega]
theorem Pi {s:ByteArray} {k:Nat} {T:List Tk} {E:fY} (hk:k<s.size) (h32:s[k]=32) (hE:(cL (s.data.toList.drop k) k).after T=E):(cL (s.data.toList.drop (k+1)) (k+1)).after T=E:=by
 rw [<- hE,drop_at s hk,h32,fH]
theorem Rx {s:ByteArray} {T:List Tk} {E:fY} (hE:(cL (s.data.toList.drop s.size) s.size).after T=E):E=.ok T:=by
 rw [<- hE,List.drop_of_length_le (by simp),lJ];simp [fY.after]
theorem Eu {s:ByteArray} {k:Nat} (hk:k<s.size) (h:bE s[k]=true):bU (s.data.toList.drop k)=jL (s.data.toList.drop k):=by
 rw [drop_at s hk];simp only [bU];rw [if_pos h]
theorem Ev {s:ByteArray} {k:Nat} (hk:k<s.size) (h:bE s[k]=false) (h2:aV s[k]=true):bU (s.data.toList.drop k)=mJ (s.data.toList.drop k):=by
 rw [drop_at s hk];simp only [bU];rw [if_neg (by rw [h];decide),if_pos h2]
theorem Gl {s:ByteArray} {k:Nat} (hk:k<s.size) (h:bE s[k]=false) (h2:aV s[k]=false):bU (s.data.toList.drop k)=iI (s.data.toList.drop k):=by
 rw [drop_at s hk];simp only [bU];rw [if_neg (by rw [h];decide),if_neg (by rw [h2];decide)]
theorem AI {l:List UInt8} {n:Nat} (h:bL aX l=n) (h8:8<n):jL l=.bad 5:=by unfold jL;rw [h,if_pos h8]
theorem xW {l:List UInt8} {n:Nat} (h:bL aX l=n) (h8:¬ 8<n):jL l=.tok 1 n 0:=by unfold jL;rw [h,if_neg h8]
theorem Iq {l:List UInt8} (h:kK l=0):iI l=.bad 2:=by unfold iI;rw [if_pos h]
theorem Ip {l:List UInt8} {n:Nat} (h:kK l=n) (h0:¬ n=0):iI l=.tok 3 n 0:=by unfold iI;rw [h,if_neg h0]
section
variable {s : ByteArray} {k m : Nat}
theorem PI (hk:k<s.size) (hr:bL aV (s.data.toList.drop k)=m-k) (h1:1<m-k) (h48:s[k]=48):mJ (s.data.toList.drop k)=.bad 2:=by
 unfold mJ;rw [hr,if_pos (.inl ⟨h1,by rw [drop_at s hk,h48];rfl⟩)]
theorem Bc (hm:k<=m):((s.data.toList.drop k).drop (m-k)).head? = if h:m<s.size then some s[m] else none:=by
 rw [List.drop_drop,show k+(m-k)=m by omega,List.head?_drop];by_cases h:m<s.size
 · rw [dif_pos h];exact List.getElem?_eq_getElem (by simpa using h)
 · rw [dif_neg h];exact List.getElem?_eq_none (by simp;omega)
theorem Rl (hm:k<=m) (hr:bL aV (s.data.toList.drop k)=m-k) (h1:m<s.size) (h2:bE s[m]=true):mJ (s.data.toList.drop k)=.bad 2:=by
 unfold mJ;rw [hr,if_pos (.inr ⟨s[m],by rw [Bc hm,dif_pos h1],h2⟩)]
theorem Lp (hk:k<s.size) (hm:k<m) (ha:¬ (1<m-k/\s[k]=48)) (hb:∀ h:m<s.size,bE s[m]=false) :
 ¬ ((1<m-k/\(s.data.toList.drop k).head? = some 48)\/∃ d,((s.data.toList.drop k).drop (m-k)).head? = some d/\bE d=true):=by
 rintro (⟨x,y⟩ | ⟨d,x,y⟩)
 · rw [drop_at s hk] at y
   exact ha ⟨x,by simpa using y⟩
 · rw [Bc (by omega)] at x
   by_cases h:m<s.size
   · rw [dif_pos h] at x
     cases x;rw [hb h] at y;cases y
   · rw [dif_neg h] at x;cases x
theorem AH (hk:k<s.size) (hm:k<m) (hms:m<=s.size) (hr:bL aV (s.data.toList.drop k)=m-k) (ha:¬ (1<m-k/\s[k]=48)) :
 (∀ c∈(s.extract k m).data.toList,isD c)/\¬ (s.extract k m).data.toList=[]/\(∀ r,(s.extract k m).data.toList=48::r->r=[]):=by
 have hl:(s.extract k m).data.toList.length=m-k:=by rw [f7,List.length_take,List.length_drop];simp;omega
 refine ⟨fun c hc=>?_,fun e=>?_,fun r e=>?_⟩
 · rw [f7, <- hr,oP] at hc
   exact (qR c).1 (List.all_eq_true.1 (List.all_takeWhile (p:=aV) (l:=s.data.toList.drop k)) c hc)
 · rw [e] at hl;simp at hl;omega
 · have e0:(s.extract k m).data.toList.head? = some s[k]:=by
    rw [f7,List.head?_take,if_neg (by omega),drop_at s hk];rfl
   rw [e] at e0 hl;have h48:s[k]=48:=by simpa using e0.symm
   have:¬ 1<m-k:=fun h=>ha ⟨h,h48⟩
   rw [List.length_cons] at hl;exact List.length_eq_zero_iff.1 (by omega)
theorem PH (hk:k<s.size) (hm:k<m) (hms:m<=s.size) (hr:bL aV (s.data.toList.drop k)=m-k) (ha:¬ (1<m-k/\s[k]=48)) (hb:∀ h:m<s.size,bE s[m]=false) {v:Int} (hv:fR (s.extract k m).data.toList=some v) :
 mJ (s.data.toList.drop k)=.tok 2 (m-k) v/\bN v:=by
 obtain ⟨d1,d2,d3⟩:=AH hk hm hms hr ha;refine ⟨?_,FL hv⟩;unfold mJ;rw [hr,if_neg (Lp hk hm ha hb), <- f7];by_cases h:9223372036854775807<dP (s.extract k m).data.toList
 · rw [Lo d1 h] at hv;cases hv
 · rw [if_neg h]
   rw [xU d2 d1 d3 (by omega)] at hv;cases hv;rfl
theorem PC (hk:k<s.size) (hm:k<m) (hms:m<=s.size) (hr:bL aV (s.data.toList.drop k)=m-k) (ha:¬ (1<m-k/\s[k]=48)) (hb:∀ h:m<s.size,bE s[m]=false) (hv:fR (s.extract k m).data.toList=none) :
 mJ (s.data.toList.drop k)=.bad 1:=by
 obtain ⟨d1,d2,d3⟩:=AH hk hm hms hr ha;unfold mJ;rw [hr,if_neg (Lp hk hm ha hb), <- f7];by_cases h:9223372036854775807<dP (s.extract k m).data.toList
 · rw [if_pos h]
 · rw [xU d2 d1 d3 (by omega)] at hv;cases hv
end
end
end
end Go.Proofs.YtgfkjkokmcejbaaGreatDoor
