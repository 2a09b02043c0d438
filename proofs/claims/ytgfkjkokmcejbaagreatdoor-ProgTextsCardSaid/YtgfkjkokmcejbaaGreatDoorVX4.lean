/-
 No statement: what ProgTextsLift needs, of the texts OE5.
-/
import Derived.Test.YtgfkjkokmcejbaaGreatDoorVX3
set_option maxHeartbeats 40000000
set_option maxRecDepth 100000
open Go.World renaming size_alloc -> Tc
open Nat renaming le_refl -> Td
open List renaming length_cons -> Te, length_eq_zero_iff -> Tg, length_take -> Th, mem_iff_getElem -> Tn
namespace Go.Proofs.YtgfkjkokmcejbaaGreatDoor
open Go.RowKit Tryz
structure LW (ts:List Tk) (rb:Nat) (a:Tp) (c:Nat) (w0:World) (C:Nat) (t:TN) (ad:Tp) (cc:Nat) (s:RS) (w:World):Prop where
 pw:PW ts rb a c s w
 kp:aC (· = rb) w0 w
 nb:w.heap[w0.heap.size]? = some (ndO ⟨#[]⟩ ⟨#[]⟩ 0 none 0 0)
 cb:w.heap[C]? = some (ndO t.op t.nm t.n ad t.ks.len cc)
 rk:aK (fun b=>w0.heap.size+1<=b/\b ≠ C) w ad t.ks
theorem LW.next {ts:List Tk} {rb:Nat} {a:Tp} {c:Nat} {w0:World} {C:Nat} {t:TN} {ad:Tp} {cc:Nat} {s s':RS} {w w':World} (h:LW ts rb a c w0 C t ad cc s w) (d:rb<w0.heap.size) (g:w0.heap.size<C) (hp:PW ts rb a c s' w') (b:aC (· = rb) w w'):LW ts rb a c w0 C t ad cc s' w' :=
 ⟨hp,h.kp.trans b (fun i f _=>f),b.heap h.nb (by show ¬ w0.heap.size=rb;omega),b.heap h.cb (by show ¬ C=rb;omega),h.rk.keptS b (fun k b h=>by omega)⟩
theorem LW.same {ts:List Tk} {rb:Nat} {a:Tp} {c:Nat} {w0:World} {C:Nat} {t:TN} {ad:Tp} {cc:Nat} {s:RS} {w w':World} (h:LW ts rb a c w0 C t ad cc s w) (b:rb<w0.heap.size) (f:w0.heap.size<C) (d:aC (fun _=>False) w w'):LW ts rb a c w0 C t ad cc s w' :=
 h.next b f (h.pw.kept d) (d.mono (fun _ h _=>h.elim))
theorem LW.lt {ts:List Tk} {rb:Nat} {a:Tp} {c:Nat} {w0:World} {C:Nat} {t:TN} {ad:Tp} {cc:Nat} {s:RS} {w:World} (h:LW ts rb a c w0 C t ad cc s w):C<w.heap.size:=(Array.getElem?_eq_some_iff.1 h.cb).1
def OS (rb:Nat) (w:World):Nat:=(intOf ((w.cell? ⟨rb,1,none⟩).getD undef)).toNat
theorem jH {w:World} {b:Nat} {a:Tp} {l c:Nat} {s:RS} (h:IsR w b a l c s):OS b w=s.pos:=by
 unfold OS;rw [h.cells.1.2.1];simp [intOf]
theorem jT {ts:List Tk} {rb:Nat} {a:Tp} {c:Nat} {s:RS} (x:Tr) {v:Bool} (b:isS ts x.data.toList s.pos=v) (w:World) (h:PW ts rb a c s w) :
 Calls prog 123 #[.pointer (some ⟨rb,0,none⟩),.string x] w fun e w'=>e=.returned (.bool v)/\aC (fun _=>False) w w':=by
 rw [<- b];exact Gn ts rb a c s x w h
theorem zB {L:List Tk} {y:Tq} {p:Nat} (h:isS L y p=true):eA L p=y:=by
 unfold isS at h;unfold eA;cases e:L[p]? with
 | none=>rw [e] at h;cases h
 | some t =>
   rw [e] at h;simp only [Bool.and_eq_true,beq_iff_eq] at h;exact h.2
theorem LW.two {ts:List Tk} {rb:Nat} {a:Tp} {c:Nat} {w0 u f:World} {C:Nat} {t k:TN} {ad d:Tp} {cc cc2:Nat} {s s':RS} {o:Tq} (y:rb<w0.heap.size) (H:w0.heap.size<C) (h:LW ts rb a c w0 C t ad cc s u)
 (hp:PW ts rb a c s' f) (z:aC (· = rb) u f) (hr:bD u.heap.size f d k.ks) :
 LW ts rb a c w0 C (fG o t k) (some ⟨f.heap.size+1,0,none⟩) 2 s' (((kY f C ⟨o.toArray⟩ ⟨#[]⟩ 0 (some ⟨f.heap.size+1,0,none⟩) 2 2).alloc (ndO k.op k.nm k.n d k.ks.len cc2)).alloc
  (.cells #[.string t.op,.string t.nm,.int .i64 t.n,.slice ad t.ks.len cc,.string k.op,.string k.nm,.int .i64 k.n,.slice d k.ks.len cc2] 79)):=by
 have p:=h.next y H hp z;have E:=p.lt;have B:=h.lt;have j:=eI f C ⟨o.toArray⟩ ⟨#[]⟩ 0 (some ⟨f.heap.size+1,0,none⟩) 2 2;have l:(kY f C ⟨o.toArray⟩ ⟨#[]⟩ 0 (some ⟨f.heap.size+1,0,none⟩) 2 2).heap.size=f.heap.size:=by simp [kY]
 have A:=aY p.cb (.string ⟨o.toArray⟩) (.string ⟨#[]⟩) (.int .i64 0) (.slice (some ⟨f.heap.size+1,0,none⟩) 2 2);obtain ⟨U,D⟩:∃ U,kY f C ⟨o.toArray⟩ ⟨#[]⟩ 0 (some ⟨f.heap.size+1,0,none⟩) 2 2=U:=⟨_,rfl⟩;have m:U.heap[C]? = some (ndO ⟨o.toArray⟩ ⟨#[]⟩ 0 (some ⟨f.heap.size+1,0,none⟩) 2 2):=by rw [<- D];exact A
 rw [D] at j l |-
 have r:=bA0 U (ndO k.op k.nm k.n d k.ks.len cc2);have q:=(Below.refl (U.alloc (ndO k.op k.nm k.n d k.ks.len cc2)).heap.size _).alloc (Td _) (.cells #[.string t.op,.string t.nm,.int .i64 t.n,.slice ad t.ks.len cc,.string k.op,.string k.nm,.int .i64 k.n,.slice d k.ks.len cc2] 79);have g:=heap_alloc_new (U.alloc (ndO k.op k.nm k.n d k.ks.len cc2)) (.cells #[.string t.op,.string t.nm,.int .i64 t.n,.slice ad t.ks.len cc,.string k.op,.string k.nm,.int .i64 k.n,.slice d k.ks.len cc2] 79);have x:(U.alloc (ndO k.op k.nm k.n d k.ks.len cc2)).heap.size=f.heap.size+1:=by rw [Tc,l]
 rw [x] at g;have I:aK (fun b=>w0.heap.size+1<=b/\b ≠ C) f d k.ks:=aK.imp hr (fun b _ M=>⟨by omega,by omega⟩);refine ⟨((hp.other j (by omega)).below r).below q,(((p.kp).trans j (fun i L hl=>by omega)).alloc _).alloc _,?_,?_,?_⟩
 · rw [q.block _ (by omega),r.block _ (by omega)]
   exact j.heap p.nb (by show ¬ w0.heap.size=C;omega)
 · rw [q.block _ (by omega),r.block _ (by omega)]
   exact m
 · refine .inr ⟨_,_,rfl,FO (G:=fun b=>w0.heap.size+1<=b/\b ≠ C) ⟨by omega,by omega⟩ g ?_ ?_⟩
   · exact ((p.rk.keptS j (fun k z h=>by omega)).kept r).kept q
   · exact ((I.keptS j (fun k z h=>by omega)).kept r).kept q
theorem Ef (ts:List Tk) (rb:Nat) (a:Tp) (c:Nat) (s:RS) (w:World) (h:PW ts rb a c s w) (jf:s.bad=0->s.cnt<=32)
 (ih:∀ s' w',s.pos<=s'.pos->(s'.bad=0->s'.cnt<=32)->PW ts rb a c s' w'->Calls prog 263 #[.pointer (some ⟨rb,0,none⟩)] w' (PE ts rb a c (pE ts .fac s') w')) :
 Calls prog 245 #[.pointer (some ⟨rb,0,none⟩)] w (PE ts rb a c (pE ts .prod s) w):=by
 have jm:(pE ts .fac s).2.bad=0->(pE ts .fac s).2.pos<=ts.length/\(pE ts .fac s).2.cnt<=32:=fun E=>by
  by_cases H:s.bad=0
  · exact (l4 ts .fac s H (h.f.1 H) (jf H)).2.2 E
  · rw [nS ts _ s H] at E;exact absurd E H
 have jd:=lC ts .fac s;have hQ:=wT ts s;obtain ⟨G,jj⟩:∃ G,pE ts .fac s=G:=⟨_,rfl⟩;rw [jj] at hQ jm jd;rw [hQ];obtain ⟨Q,jl⟩:∃ Q,pE ts (.prodL G.1) G.2=Q:=⟨_,rfl⟩;rw [jl];have K1:=aF (bA0 w (ndO ⟨#[]⟩ ⟨#[]⟩ 0 none 0 0)) (· = rb);have H1:=h.below (bA0 w (ndO ⟨#[]⟩ ⟨#[]⟩ 0 none 0 0));have g:=h.r.lt;have NB:=heap_alloc_new w (ndO ⟨#[]⟩ ⟨#[]⟩ 0 none 0 0);have ju:(w.alloc (ndO ⟨#[]⟩ ⟨#[]⟩ 0 none 0 0)).heap.size=w.heap.size+1:=Tc _ _;generalize hW:w.alloc (ndO ⟨#[]⟩ ⟨#[]⟩ 0 none 0 0)=W at *;have C0:=aA (ih s W (Td _) jf H1);rw [jj] at C0;have IH:=aA ih;have hn:=h.f.2.2.2;have HQ:=aA jl;have T1:=aA jm;clear hQ jl jj H1 h ih jm jf;go_enter func245,ntmps245
 go_wp2_with fail
 refine C0.out.mono ?_;rintro e w1 ⟨ad,cc,rfl,h1,m,jo⟩;have jv:=m.size;have BN:=bA0 w1 (ndO G.1.op G.1.nm G.1.n ad G.1.ks.len cc);have j:w.heap.size<w1.heap.size:=by omega
 have L1:=aA (show LW ts rb a c w w1.heap.size G.1 ad cc G.2 (w1.alloc (ndO G.1.op G.1.nm G.1.n ad G.1.ks.len cc)) from
  ⟨h1.below BN,(K1.trans m (fun i hi _=>hi)).alloc _,(BN.block _ j).trans (m.heap NB (by show ¬ w.heap.size=rb;omega)),heap_alloc_new w1 _,(aK.imp jo (fun b H hl=>⟨by omega,by omega⟩)).kept BN⟩)
 clear K1 NB ju C0 h1 m jo BN hW jv;go_wp2_with fail
 generalize w1.alloc (ndO G.1.op G.1.nm G.1.n ad G.1.ks.len cc)=V at L1 |-
 generalize w1.heap.size=C at L1 j |-
 go_loopw [4] (fun _ wr=>∃ (n:TN) (d:RS) (Y:Tp) (cc2:Nat),Hid (LW ts rb a c w C n Y cc2 d wr)/\Hid (pE ts (.prodL n) d=Q)/\Hid (d.bad=0->d.pos<=ts.length/\d.cnt<=32)/\s.pos<=d.pos) (fun _ wr=>2*ts.length+2-OS rb wr)
 case atStart=>exact ⟨G.1,G.2,ad,cc,L1,HQ,T1,jd⟩
 case round =>
  obtain ⟨n,d,Y,cc2,X,hE,hT,jw⟩:=hrel;obtain ⟨⟨c0,c1,c2,c3,c4⟩,f1,f2,f3,f4⟩:=X.out.pw.r.cells;by_cases H:d.bad=0
  · have qb:((d.bad:Int) == 0)=true:=by rw [H];rfl
    have jx:=aA H;have jk:=hT.out H;cases A:isS ts [42] d.pos with
    | true =>
      have D:=aA (jT (ts:=ts) (a:=a) (c:=c) ⟨#[42]⟩ (v:=true) A wr X.out.pw);go_wp2_with fail
      refine D.out.mono ?_;rintro e x0 ⟨rfl,z⟩;have k:=aA (X.out.same g j z);clear z D;have x:=gN A;have u:=zB A
      have EQ:=aA (show pE ts (.prodL (fG [42] n (pE ts .fac (aJ d)).1)) (pE ts .fac (aJ d)).2=Q by
       rw [<- hE.out];conv=>rhs;rw [gR,if_pos (by rw [H];unfold isM;rw [A];simp),u])
      obtain ⟨⟨c0,c1,c2,c3,c4⟩,f1,f2,f3,f4⟩:=k.out.pw.r.cells;obtain ⟨b,off,ha,js, -,p1, -, -⟩:=bB k.out.pw.t x
      have L:(⟨ts[d.pos].text.toArray⟩:Tr)=⟨#[42]⟩:=by
       have:eA ts d.pos=ts[d.pos].text:=by unfold eA;rw [List.getElem?_eq_getElem x]
       rw [<- this,u]
      rw [L] at p1;rw [ha] at c0;have a3:(d.pos:Int)<(ts.length:Int):=by omega
      have a4:(0:Int)<=(d.pos:Int):=by omega
      have a5:((d.pos:Int)).toNat=d.pos:=by omega
      clear u L A;go_wp2_with (go_quiet (fail))
      have LB:=aA (k.out.same g j ((aC.refl (fun _=>False) x0).drewN nq));have CT:=aA (jK ts rb a c d (x0.drewN nq) LB.out.pw (fun _=>⟨x,jk.2⟩) (by omega));refine CT.out.mono ?_;rintro e w4 ⟨rfl,U,O⟩;have LC:=aA (LB.out.next g j U O);have jn:=cI d;have CI:=aA (IH.out (aJ d) w4 (by omega) (fun E=>by obtain ⟨_,z1,z2,_⟩:=dW E;omega) U);have p:=lC ts .fac (aJ d)
      have T3:=aA (show (pE ts .fac (aJ d)).2.bad=0->(pE ts .fac (aJ d)).2.pos<=ts.length/\(pE ts .fac (aJ d)).2.cnt<=32 from fun E=>by
       by_cases l:(aJ d).bad=0
       · obtain ⟨_,z1,z2,z3,_⟩:=dW l
         exact (l4 ts .fac (aJ d) l (by omega) (by omega)).2.2 E
       · rw [nS ts _ _ l] at E;exact absurd E l)
      obtain ⟨S,N⟩:∃ S,pE ts .fac (aJ d)=S:=⟨_,rfl⟩;rw [N] at CI EQ T3 p;have jc:=jH X.out.pw.r;have ji:=U.f;clear U O CT c0 c1 c2 c3 c4 f1 f2 f3 f4 p1 ha k LB N;go_wp2_with fail
      refine CI.out.mono ?_;rintro e w5 ⟨jt,jg,rfl,T,y,M⟩;have LD:=aA (LC.out.two (o:=[42]) (cc2:=jg) g j T y M);have LE:=aA (LC.out.next g j T y);have jr:=LE.out.lt;have jq:C<w5.heap.size+1:=by omega
      have jp:=T.f.2.1;obtain ⟨⟨m0,m1,m2,m3⟩,g0,g1,g2,g3⟩:=aL LE.out.cb;clear T y M CI LC;go_wp2_with fail
      go_roundw
      case rel=>exact ⟨fG [42] n S.1,S.2,_,_,LD,EQ,T3,by omega⟩
      case measure =>
       rw [jH LD.out.pw.r,jc];omega
    | false =>
      cases I:isS ts [47] d.pos with
      | true =>
        have D:=aA (jT (ts:=ts) (a:=a) (c:=c) ⟨#[42]⟩ (v:=false) A wr X.out.pw);go_wp2_with fail
        refine D.out.mono ?_;rintro e x0 ⟨rfl,z⟩;have k:=aA (X.out.same g j z);clear z D;have P:=aA (jT (ts:=ts) (a:=a) (c:=c) ⟨#[47]⟩ (v:=true) I x0 k.out.pw);go_wp2_with fail
        refine P.out.mono ?_;rintro e x1 ⟨rfl,m⟩;have B:=aA (k.out.same g j m);clear m P;have x:=gN I;have u:=zB I
        have EQ:=aA (show pE ts (.prodL (fG [47] n (pE ts .fac (aJ d)).1)) (pE ts .fac (aJ d)).2=Q by
         rw [<- hE.out];conv=>rhs;rw [gR,if_pos (by rw [H];unfold isM;rw [I];simp),u])
        obtain ⟨⟨c0,c1,c2,c3,c4⟩,f1,f2,f3,f4⟩:=B.out.pw.r.cells;obtain ⟨b,off,ha,js, -,p1, -, -⟩:=bB B.out.pw.t x
        have L:(⟨ts[d.pos].text.toArray⟩:Tr)=⟨#[47]⟩:=by
         have:eA ts d.pos=ts[d.pos].text:=by unfold eA;rw [List.getElem?_eq_getElem x]
         rw [<- this,u]
        rw [L] at p1;rw [ha] at c0;have a3:(d.pos:Int)<(ts.length:Int):=by omega
        have a4:(0:Int)<=(d.pos:Int):=by omega
        have a5:((d.pos:Int)).toNat=d.pos:=by omega
        clear u L A I;go_wp2_with (go_quiet (fail))
        have LB:=aA (B.out.same g j ((aC.refl (fun _=>False) x1).drewN nq));have CT:=aA (jK ts rb a c d (x1.drewN nq) LB.out.pw (fun _=>⟨x,jk.2⟩) (by omega));refine CT.out.mono ?_;rintro e w4 ⟨rfl,U,O⟩;have LC:=aA (LB.out.next g j U O);have jn:=cI d;have CI:=aA (IH.out (aJ d) w4 (by omega) (fun E=>by obtain ⟨_,z1,z2,_⟩:=dW E;omega) U);have p:=lC ts .fac (aJ d)
        have T3:=aA (show (pE ts .fac (aJ d)).2.bad=0->(pE ts .fac (aJ d)).2.pos<=ts.length/\(pE ts .fac (aJ d)).2.cnt<=32 from fun E=>by
         by_cases l:(aJ d).bad=0
         · obtain ⟨_,z1,z2,z3,_⟩:=dW l
           exact (l4 ts .fac (aJ d) l (by omega) (by omega)).2.2 E
         · rw [nS ts _ _ l] at E;exact absurd E l)
        obtain ⟨S,N⟩:∃ S,pE ts .fac (aJ d)=S:=⟨_,rfl⟩;rw [N] at CI EQ T3 p;have jc:=jH X.out.pw.r;have ji:=U.f;clear U O CT c0 c1 c2 c3 c4 f1 f2 f3 f4 p1 ha k B LB N;go_wp2_with fail
        refine CI.out.mono ?_;rintro e w5 ⟨jt,jg,rfl,T,y,M⟩;have LD:=aA (LC.out.two (o:=[47]) (cc2:=jg) g j T y M);have LE:=aA (LC.out.next g j T y);have jr:=LE.out.lt;have jq:C<w5.heap.size+1:=by omega
        have jp:=T.f.2.1;obtain ⟨⟨m0,m1,m2,m3⟩,g0,g1,g2,g3⟩:=aL LE.out.cb;clear T y M CI LC;go_wp2_with fail
        go_roundw
        case rel=>exact ⟨fG [47] n S.1,S.2,_,_,LD,EQ,T3,by omega⟩
        case measure =>
         rw [jH LD.out.pw.r,jc];omega
      | false =>
        cases R:isS ts [37] d.pos with
        | true =>
          have D:=aA (jT (ts:=ts) (a:=a) (c:=c) ⟨#[42]⟩ (v:=false) A wr X.out.pw);go_wp2_with fail
          refine D.out.mono ?_;rintro e x0 ⟨rfl,z⟩;have k:=aA (X.out.same g j z);clear z D;have P:=aA (jT (ts:=ts) (a:=a) (c:=c) ⟨#[47]⟩ (v:=false) I x0 k.out.pw);go_wp2_with fail
          refine P.out.mono ?_;rintro e x1 ⟨rfl,m⟩;have B:=aA (k.out.same g j m);clear m P;have jh:=aA (jT (ts:=ts) (a:=a) (c:=c) ⟨#[37]⟩ (v:=true) R x1 B.out.pw);go_wp2_with fail
          refine jh.out.mono ?_;rintro e x2 ⟨rfl,je⟩;have ja:=aA (B.out.same g j je);clear je jh;have x:=gN R;have u:=zB R
          have EQ:=aA (show pE ts (.prodL (fG [37] n (pE ts .fac (aJ d)).1)) (pE ts .fac (aJ d)).2=Q by
           rw [<- hE.out];conv=>rhs;rw [gR,if_pos (by rw [H];unfold isM;rw [R];simp),u])
          obtain ⟨⟨c0,c1,c2,c3,c4⟩,f1,f2,f3,f4⟩:=ja.out.pw.r.cells;obtain ⟨b,off,ha,js, -,p1, -, -⟩:=bB ja.out.pw.t x
          have L:(⟨ts[d.pos].text.toArray⟩:Tr)=⟨#[37]⟩:=by
           have:eA ts d.pos=ts[d.pos].text:=by unfold eA;rw [List.getElem?_eq_getElem x]
           rw [<- this,u]
          rw [L] at p1;rw [ha] at c0;have a3:(d.pos:Int)<(ts.length:Int):=by omega
          have a4:(0:Int)<=(d.pos:Int):=by omega
          have a5:((d.pos:Int)).toNat=d.pos:=by omega
          clear u L A I R;go_wp2_with (go_quiet (fail))
          have LB:=aA (ja.out.same g j ((aC.refl (fun _=>False) x2).drewN nq));have CT:=aA (jK ts rb a c d (x2.drewN nq) LB.out.pw (fun _=>⟨x,jk.2⟩) (by omega));refine CT.out.mono ?_;rintro e w4 ⟨rfl,U,O⟩;have LC:=aA (LB.out.next g j U O);have jn:=cI d;have CI:=aA (IH.out (aJ d) w4 (by omega) (fun E=>by obtain ⟨_,z1,z2,_⟩:=dW E;omega) U);have p:=lC ts .fac (aJ d)
          have T3:=aA (show (pE ts .fac (aJ d)).2.bad=0->(pE ts .fac (aJ d)).2.pos<=ts.length/\(pE ts .fac (aJ d)).2.cnt<=32 from fun E=>by
           by_cases l:(aJ d).bad=0
           · obtain ⟨_,z1,z2,z3,_⟩:=dW l
             exact (l4 ts .fac (aJ d) l (by omega) (by omega)).2.2 E
           · rw [nS ts _ _ l] at E;exact absurd E l)
          obtain ⟨S,N⟩:∃ S,pE ts .fac (aJ d)=S:=⟨_,rfl⟩;rw [N] at CI EQ T3 p;have jc:=jH X.out.pw.r;have ji:=U.f;clear U O CT c0 c1 c2 c3 c4 f1 f2 f3 f4 p1 ha k B ja LB N;go_wp2_with fail
          refine CI.out.mono ?_;rintro e w5 ⟨jt,jg,rfl,T,y,M⟩;have LD:=aA (LC.out.two (o:=[37]) (cc2:=jg) g j T y M);have LE:=aA (LC.out.next g j T y);have jr:=LE.out.lt;have jq:C<w5.heap.size+1:=by omega
          have jp:=T.f.2.1;obtain ⟨⟨m0,m1,m2,m3⟩,g0,g1,g2,g3⟩:=aL LE.out.cb;clear T y M CI LC;go_wp2_with fail
          go_roundw
          case rel=>exact ⟨fG [37] n S.1,S.2,_,_,LD,EQ,T3,by omega⟩
          case measure =>
           rw [jH LD.out.pw.r,jc];omega
        | false =>
          have D:=aA (jT (ts:=ts) (a:=a) (c:=c) ⟨#[42]⟩ (v:=false) A wr X.out.pw);go_wp2_with fail
          refine D.out.mono ?_;rintro e x0 ⟨rfl,z⟩;have k:=aA (X.out.same g j z);clear z D;have P:=aA (jT (ts:=ts) (a:=a) (c:=c) ⟨#[47]⟩ (v:=false) I x0 k.out.pw);go_wp2_with fail
          refine P.out.mono ?_;rintro e x1 ⟨rfl,m⟩;have B:=aA (k.out.same g j m);clear m P;have jh:=aA (jT (ts:=ts) (a:=a) (c:=c) ⟨#[37]⟩ (v:=false) R x1 B.out.pw);go_wp2_with fail
          refine jh.out.mono ?_;rintro e x2 ⟨rfl,je⟩;have ja:=aA (B.out.same g j je);clear je jh;have EQ:=aA (show (n,d)=Q by rw [<- hE.out,gR,if_neg (by unfold isM;rw [A,I,R];simp)]);have Z:=ja;obtain ⟨⟨m0,m1,m2,m3⟩, -⟩:=aL Z.out.cb;obtain ⟨⟨n0,n1,n2,n3⟩,g0,g1,g2,g3⟩:=aL Z.out.nb;go_wp2_with fail
          have jb:=aY Z.out.nb (.string n.op) (.string n.nm) (.int .i64 n.n) (.slice Y n.ks.len cc2);obtain ⟨⟨d0,d1,d2,d3⟩, -⟩:=aL jb;refine bodyPost_ret (v:=bN n.op n.nm n.n Y n.ks.len cc2) (by simp [results,results245,go_sem,d0,d1,d2,d3]) rfl ?_;rw [<- EQ.out];exact PE.put (q:=(n,d)) g Z.out.pw Z.out.kp (Z.out.rk.imp (fun b _ H=>H.1))
  · have qb:((d.bad:Int) == 0)=false:=beq_eq_false_iff_ne.2 H
    have EQ:=aA (show (n,d)=Q by rw [<- hE.out,gR,if_neg (by simp [H])]);have Z:=X;clear H;obtain ⟨⟨m0,m1,m2,m3⟩, -⟩:=aL Z.out.cb;obtain ⟨⟨n0,n1,n2,n3⟩,g0,g1,g2,g3⟩:=aL Z.out.nb;go_wp2_with fail
    have jb:=aY Z.out.nb (.string n.op) (.string n.nm) (.int .i64 n.n) (.slice Y n.ks.len cc2);obtain ⟨⟨d0,d1,d2,d3⟩, -⟩:=aL jb;refine bodyPost_ret (v:=bN n.op n.nm n.n Y n.ks.len cc2) (by simp [results,results245,go_sem,d0,d1,d2,d3]) rfl ?_;rw [<- EQ.out];exact PE.put (q:=(n,d)) g Z.out.pw Z.out.kp (Z.out.rk.imp (fun b _ H=>H.1))
theorem Hj (ts:List Tk) (rb:Nat) (a:Tp) (c:Nat) (s:RS) (w:World) (h:PW ts rb a c s w) (U:s.bad=0->s.cnt<=32)
 (ih:∀ s' w',s.pos<=s'.pos->(s'.bad=0->s'.cnt<=32)->PW ts rb a c s' w'->Calls prog 245 #[.pointer (some ⟨rb,0,none⟩)] w' (PE ts rb a c (pE ts .prod s') w')) :
 Calls prog 223 #[.pointer (some ⟨rb,0,none⟩)] w (PE ts rb a c (pE ts .sum s) w):=by
 have je:(pE ts .prod s).2.bad=0->(pE ts .prod s).2.pos<=ts.length/\(pE ts .prod s).2.cnt<=32:=fun A=>by
  by_cases u:s.bad=0
  · exact (l4 ts .prod s u (h.f.1 u) (U u)).2.2 A
  · rw [nS ts _ s u] at A;exact absurd A u
 have S:=lC ts .prod s;have hQ:=FX ts s;obtain ⟨m,ja⟩:∃ m,pE ts .prod s=m:=⟨_,rfl⟩;rw [ja] at hQ je S;rw [hQ];obtain ⟨Q,jc⟩:∃ Q,pE ts (.sumL m.1) m.2=Q:=⟨_,rfl⟩;rw [jc];have K1:=aF (bA0 w (ndO ⟨#[]⟩ ⟨#[]⟩ 0 none 0 0)) (· = rb);have H1:=h.below (bA0 w (ndO ⟨#[]⟩ ⟨#[]⟩ 0 none 0 0));have g:=h.r.lt;have NB:=heap_alloc_new w (ndO ⟨#[]⟩ ⟨#[]⟩ 0 none 0 0);have jj:(w.alloc (ndO ⟨#[]⟩ ⟨#[]⟩ 0 none 0 0)).heap.size=w.heap.size+1:=Tc _ _;generalize hW:w.alloc (ndO ⟨#[]⟩ ⟨#[]⟩ 0 none 0 0)=W at *;have C0:=aA (ih s W (Td _) U H1);rw [ja] at C0;have IH:=aA ih;have hn:=h.f.2.2.2;have HQ:=aA jc;have T1:=aA je;clear hQ jc ja H1 h ih je U;go_enter func223,ntmps223
 go_wp2_with fail
 refine C0.out.mono ?_;rintro e w1 ⟨ad,cc,rfl,h1,l,jf⟩;have jk:=l.size;have BN:=bA0 w1 (ndO m.1.op m.1.nm m.1.n ad m.1.ks.len cc);have j:w.heap.size<w1.heap.size:=by omega
 have L1:=aA (show LW ts rb a c w w1.heap.size m.1 ad cc m.2 (w1.alloc (ndO m.1.op m.1.nm m.1.n ad m.1.ks.len cc)) from
  ⟨h1.below BN,(K1.trans l (fun i hi _=>hi)).alloc _,(BN.block _ j).trans (l.heap NB (by show ¬ w.heap.size=rb;omega)),heap_alloc_new w1 _,(aK.imp jf (fun b u hl=>⟨by omega,by omega⟩)).kept BN⟩)
 clear K1 NB jj C0 h1 l jf BN hW jk;go_wp2_with fail
 generalize w1.alloc (ndO m.1.op m.1.nm m.1.n ad m.1.ks.len cc)=V at L1 |-
 generalize w1.heap.size=C at L1 j |-
 go_loopw [4] (fun _ wr=>∃ (n:TN) (d:RS) (I:Tp) (cc2:Nat),Hid (LW ts rb a c w C n I cc2 d wr)/\Hid (pE ts (.sumL n) d=Q)/\Hid (d.bad=0->d.pos<=ts.length/\d.cnt<=32)/\s.pos<=d.pos) (fun _ wr=>2*ts.length+2-OS rb wr)
 case atStart=>exact ⟨m.1,m.2,ad,cc,L1,HQ,T1,S⟩
 case round =>
  obtain ⟨n,d,I,cc2,Y,hE,hT,jq⟩:=hrel;obtain ⟨⟨c0,c1,c2,c3,c4⟩,f1,f2,f3,f4⟩:=Y.out.pw.r.cells;by_cases u:d.bad=0
  · have qb:((d.bad:Int) == 0)=true:=by rw [u];rfl
    have jr:=aA u;have jh:=hT.out u;cases x:isS ts [43] d.pos with
    | true =>
      have z:=aA (jT (ts:=ts) (a:=a) (c:=c) ⟨#[43]⟩ (v:=true) x wr Y.out.pw);go_wp2_with fail
      refine z.out.mono ?_;rintro e x0 ⟨rfl,y⟩;have k:=aA (Y.out.same g j y);clear y z;have E:=gN x;have D:=zB x
      have EQ:=aA (show pE ts (.sumL (fG [43] n (pE ts .prod (aJ d)).1)) (pE ts .prod (aJ d)).2=Q by
       rw [<- hE.out];conv=>rhs;rw [lO,if_pos (by rw [u];unfold isA;rw [x];simp),D])
      obtain ⟨⟨c0,c1,c2,c3,c4⟩,f1,f2,f3,f4⟩:=k.out.pw.r.cells;obtain ⟨b,off,ha,jo, -,p1, -, -⟩:=bB k.out.pw.t E
      have N:(⟨ts[d.pos].text.toArray⟩:Tr)=⟨#[43]⟩:=by
       have:eA ts d.pos=ts[d.pos].text:=by unfold eA;rw [List.getElem?_eq_getElem E]
       rw [<- this,D]
      rw [N] at p1;rw [ha] at c0;have a3:(d.pos:Int)<(ts.length:Int):=by omega
      have a4:(0:Int)<=(d.pos:Int):=by omega
      have a5:((d.pos:Int)).toNat=d.pos:=by omega
      clear D N x;go_wp2_with (go_quiet (fail))
      have LB:=aA (k.out.same g j ((aC.refl (fun _=>False) x0).drewN nq));have CT:=aA (jK ts rb a c d (x0.drewN nq) LB.out.pw (fun _=>⟨E,jh.2⟩) (by omega));refine CT.out.mono ?_;rintro e w4 ⟨rfl,h4,T⟩;have LC:=aA (LB.out.next g j h4 T);have ji:=cI d;have CI:=aA (IH.out (aJ d) w4 (by omega) (fun A=>by obtain ⟨_,z1,z2,_⟩:=dW A;omega) h4);have B:=lC ts .prod (aJ d)
      have T3:=aA (show (pE ts .prod (aJ d)).2.bad=0->(pE ts .prod (aJ d)).2.pos<=ts.length/\(pE ts .prod (aJ d)).2.cnt<=32 from fun A=>by
       by_cases p:(aJ d).bad=0
       · obtain ⟨_,z1,z2,z3,_⟩:=dW p
         exact (l4 ts .prod (aJ d) p (by omega) (by omega)).2.2 A
       · rw [nS ts _ _ p] at A;exact absurd A p)
      obtain ⟨Z,R⟩:∃ Z,pE ts .prod (aJ d)=Z:=⟨_,rfl⟩;rw [R] at CI EQ T3 B;have jb:=jH Y.out.pw.r;have jg:=h4.f;clear h4 T CT c0 c1 c2 c3 c4 f1 f2 f3 f4 p1 ha k LB R;go_wp2_with fail
      refine CI.out.mono ?_;rintro e w5 ⟨jp,jd,rfl,h5,G,P⟩;have LD:=aA (LC.out.two (o:=[43]) (cc2:=jd) g j h5 G P);have LE:=aA (LC.out.next g j h5 G);have jn:=LE.out.lt;have jm:C<w5.heap.size+1:=by omega
      have jl:=h5.f.2.1;obtain ⟨⟨m0,m1,m2,m3⟩,g0,g1,g2,g3⟩:=aL LE.out.cb;clear h5 G P CI LC;go_wp2_with fail
      go_roundw
      case rel=>exact ⟨fG [43] n Z.1,Z.2,_,_,LD,EQ,T3,by omega⟩
      case measure =>
       rw [jH LD.out.pw.r,jb];omega
    | false =>
      cases H:isS ts [45] d.pos with
      | true =>
        have z:=aA (jT (ts:=ts) (a:=a) (c:=c) ⟨#[43]⟩ (v:=false) x wr Y.out.pw);go_wp2_with fail
        refine z.out.mono ?_;rintro e x0 ⟨rfl,y⟩;have k:=aA (Y.out.same g j y);clear y z;have X:=aA (jT (ts:=ts) (a:=a) (c:=c) ⟨#[45]⟩ (v:=true) H x0 k.out.pw);go_wp2_with fail
        refine X.out.mono ?_;rintro e x1 ⟨rfl,l⟩;have M:=aA (k.out.same g j l);clear l X;have E:=gN H;have D:=zB H
        have EQ:=aA (show pE ts (.sumL (fG [45] n (pE ts .prod (aJ d)).1)) (pE ts .prod (aJ d)).2=Q by
         rw [<- hE.out];conv=>rhs;rw [lO,if_pos (by rw [u];unfold isA;rw [H];simp),D])
        obtain ⟨⟨c0,c1,c2,c3,c4⟩,f1,f2,f3,f4⟩:=M.out.pw.r.cells;obtain ⟨b,off,ha,jo, -,p1, -, -⟩:=bB M.out.pw.t E
        have N:(⟨ts[d.pos].text.toArray⟩:Tr)=⟨#[45]⟩:=by
         have:eA ts d.pos=ts[d.pos].text:=by unfold eA;rw [List.getElem?_eq_getElem E]
         rw [<- this,D]
        rw [N] at p1;rw [ha] at c0;have a3:(d.pos:Int)<(ts.length:Int):=by omega
        have a4:(0:Int)<=(d.pos:Int):=by omega
        have a5:((d.pos:Int)).toNat=d.pos:=by omega
        clear D N x H;go_wp2_with (go_quiet (fail))
        have LB:=aA (M.out.same g j ((aC.refl (fun _=>False) x1).drewN nq));have CT:=aA (jK ts rb a c d (x1.drewN nq) LB.out.pw (fun _=>⟨E,jh.2⟩) (by omega));refine CT.out.mono ?_;rintro e w4 ⟨rfl,h4,T⟩;have LC:=aA (LB.out.next g j h4 T);have ji:=cI d;have CI:=aA (IH.out (aJ d) w4 (by omega) (fun A=>by obtain ⟨_,z1,z2,_⟩:=dW A;omega) h4);have B:=lC ts .prod (aJ d)
        have T3:=aA (show (pE ts .prod (aJ d)).2.bad=0->(pE ts .prod (aJ d)).2.pos<=ts.length/\(pE ts .prod (aJ d)).2.cnt<=32 from fun A=>by
         by_cases p:(aJ d).bad=0
         · obtain ⟨_,z1,z2,z3,_⟩:=dW p
           exact (l4 ts .prod (aJ d) p (by omega) (by omega)).2.2 A
         · rw [nS ts _ _ p] at A;exact absurd A p)
        obtain ⟨Z,R⟩:∃ Z,pE ts .prod (aJ d)=Z:=⟨_,rfl⟩;rw [R] at CI EQ T3 B;have jb:=jH Y.out.pw.r;have jg:=h4.f;clear h4 T CT c0 c1 c2 c3 c4 f1 f2 f3 f4 p1 ha k M LB R;go_wp2_with fail
        refine CI.out.mono ?_;rintro e w5 ⟨jp,jd,rfl,h5,G,P⟩;have LD:=aA (LC.out.two (o:=[45]) (cc2:=jd) g j h5 G P);have LE:=aA (LC.out.next g j h5 G);have jn:=LE.out.lt;have jm:C<w5.heap.size+1:=by omega
        have jl:=h5.f.2.1;obtain ⟨⟨m0,m1,m2,m3⟩,g0,g1,g2,g3⟩:=aL LE.out.cb;clear h5 G P CI LC;go_wp2_with fail
        go_roundw
        case rel=>exact ⟨fG [45] n Z.1,Z.2,_,_,LD,EQ,T3,by omega⟩
        case measure =>
         rw [jH LD.out.pw.r,jb];omega
      | false =>
        have z:=aA (jT (ts:=ts) (a:=a) (c:=c) ⟨#[43]⟩ (v:=false) x wr Y.out.pw);go_wp2_with fail
        refine z.out.mono ?_;rintro e x0 ⟨rfl,y⟩;have k:=aA (Y.out.same g j y);clear y z;have X:=aA (jT (ts:=ts) (a:=a) (c:=c) ⟨#[45]⟩ (v:=false) H x0 k.out.pw);go_wp2_with fail
        refine X.out.mono ?_;rintro e x1 ⟨rfl,l⟩;have M:=aA (k.out.same g j l);clear l X;have EQ:=aA (show (n,d)=Q by rw [<- hE.out,lO,if_neg (by unfold isA;rw [x,H];simp)]);have L:=M;obtain ⟨⟨m0,m1,m2,m3⟩, -⟩:=aL L.out.cb;obtain ⟨⟨n0,n1,n2,n3⟩,g0,g1,g2,g3⟩:=aL L.out.nb;go_wp2_with fail
        have O:=aY L.out.nb (.string n.op) (.string n.nm) (.int .i64 n.n) (.slice I n.ks.len cc2);obtain ⟨⟨d0,d1,d2,d3⟩, -⟩:=aL O;refine bodyPost_ret (v:=bN n.op n.nm n.n I n.ks.len cc2) (by simp [results,results223,go_sem,d0,d1,d2,d3]) rfl ?_;rw [<- EQ.out];exact PE.put (q:=(n,d)) g L.out.pw L.out.kp (L.out.rk.imp (fun b _ u=>u.1))
  · have qb:((d.bad:Int) == 0)=false:=beq_eq_false_iff_ne.2 u
    have EQ:=aA (show (n,d)=Q by rw [<- hE.out,lO,if_neg (by simp [u])]);have L:=Y;clear u;obtain ⟨⟨m0,m1,m2,m3⟩, -⟩:=aL L.out.cb;obtain ⟨⟨n0,n1,n2,n3⟩,g0,g1,g2,g3⟩:=aL L.out.nb;go_wp2_with fail
    have O:=aY L.out.nb (.string n.op) (.string n.nm) (.int .i64 n.n) (.slice I n.ks.len cc2);obtain ⟨⟨d0,d1,d2,d3⟩, -⟩:=aL O;refine bodyPost_ret (v:=bN n.op n.nm n.n I n.ks.len cc2) (by simp [results,results223,go_sem,d0,d1,d2,d3]) rfl ?_;rw [<- EQ.out];exact PE.put (q:=(n,d)) g L.out.pw L.out.kp (L.out.rk.imp (fun b _ u=>u.1))
def Aw:Option Int->Value
 | some v=>.tuple #[.int .i64 v,.bool true]
 | none=>.tuple #[.int .i64 0,.bool false]
theorem Aa (D:Tr) {j:Nat} (h:j<D.size):D.data.toList[j]? = some D[j]:=List.getElem?_eq_getElem (by simpa using h)
theorem tG {a:Bool} {D:Tr} (h:D.size=0):¬ okD a D.data.toList:=fun ⟨b,_⟩=>b (Tg.1 (by simpa using h))
theorem vT {a:Bool} {D:Tr} (h:19<D.size):¬ okD a D.data.toList:=fun ⟨_,h1,_⟩=>by simp at h1;omega
theorem gH {a:Bool} {D:Tr} {j:Nat} (b:j<D.size) (h:¬ isD D[j]):¬ okD a D.data.toList:=fun ⟨_,_,h1,_⟩=>h (h1 _ (List.mem_of_getElem? (Aa D b)))
theorem rU {a:Bool} {D:Tr} (d:0<D.size) (h:D[0]=48) (h1:1<D.size\/a=true):¬ okD a D.data.toList:=fun ⟨_,_,_,h4⟩=>by
 have e:=Aa D d;rw [h] at e;cases hl:D.data.toList with
 | nil=>rw [hl] at e;simp at e
 | cons c r =>
   rw [hl] at e;have:c=48:=by simpa using e
   subst this;have b:=h4 r hl;rcases h1 with h1 | h1
   · have:D.data.toList.length=D.size:=by simp
     rw [hl,b.1] at this;simp at this;omega
   · rw [b.2] at h1;cases h1
theorem xH {D:Tr} {k:Nat} (h:k<D.size):dV (D.data.toList.take (k+1))=10*dV (D.data.toList.take k)+(D[k].toNat-48):=by
 have:D.data.toList.take (k+1)=D.data.toList.take k++[D[k]]:=List.take_succ_eq_append_getElem (by simpa using h);rw [this,pW]
theorem F5 {a:Bool} {D:Tr} (k:1<=D.size) (h:D.size<=19) (hd:∀ j (b:j<D.size),isD D[j]) (l:D[0]=48->D.size=1/\a=false):okD a D.data.toList:=by
 have hl:D.data.toList.length=D.size:=by simp
 refine ⟨fun e=>by rw [e] at hl;simp at hl;omega,by omega,fun c f=>?_,fun r e=>?_⟩
 · obtain ⟨j,b,rfl⟩:=Tn.1 f
   exact hd j (by simpa using b)
 · have d:=Aa D k
   rw [e] at d;have:D[0]=48:=by simpa using d.symm
   obtain ⟨m,g⟩:=l this;refine ⟨?_,g⟩;rw [e] at hl;exact Tg.1 (by simp at hl;omega)
theorem Ec (s:Tr) (h1:1<=s.size) (L:s[0]=45) (hm:s.size<=2000) (w:World) :
 Calls prog 121 #[.string s] w fun e w'=>e=.returned (Aw (fZ s.data.toList))/\w=w':=by
 have e0:((s[0].toNat:Int) == 45)=true:=by rw [L];decide
 obtain ⟨D,P⟩:∃ D,s.extract 1 s.size=D:=⟨_,rfl⟩;have I:D.size=s.size-1:=by rw [<- P];simp
 have hl:s.data.toList=45::D.data.toList:=by
  rw [<- P,ByteArray.data_extract,Array.toList_extract];have l:s.data.toList[0]? = some s[0]:=List.getElem?_eq_getElem (by simp;omega);cases e:s.data.toList with
  | nil=>rw [e] at l;simp at l
  | cons c r =>
    rw [e] at l;have:c=s[0]:=by simpa using l
    rw [this,L];have n:s.data.toList.length=s.size:=by simp
    rw [e] at n;show _=45::((c::r).drop 1).take (s.size-1);rw [List.drop_one,List.tail_cons,List.take_of_length_le (by simp at n;omega)]
 rw [hl];clear hl L;have Y:D.size<=2000:=by omega
 clear I;by_cases S:D.size=0
 · rw [mS (fun h=>tG S h.1)]
   go_enter func121,ntmps121
   go_wp2_with fail
   go_ret2;exact ⟨rfl,rfl⟩
 by_cases M:19<D.size
 · rw [mS (fun h=>vT M h.1)]
   have O:((D.size:Int) == 0)=false:=by rw [beq_eq_false_iff_ne];omega
   go_enter func121,ntmps121
   go_wp2_with fail
   go_ret2;exact ⟨rfl,rfl⟩
 have c1:1<=D.size:=by omega
 by_cases b:D[0]=48
 · rw [mS (fun h=>rU (by omega) b (.inr rfl) h.1)]
   have q:((D[0].toNat:Int) == 48)=true:=by rw [b];decide
   clear b;have O:((D.size:Int) == 0)=false:=by rw [beq_eq_false_iff_ne];omega
   by_cases c2:1<D.size
   · go_enter func121,ntmps121
     go_wp2_with fail
     go_ret2;exact ⟨rfl,rfl⟩
   · go_enter func121,ntmps121
     go_wp2_with fail
     go_ret2;exact ⟨rfl,rfl⟩
 have q:((D[0].toNat:Int) == 48)=false:=by
  rw [beq_eq_false_iff_ne];intro e;apply b;apply UInt8.toNat_inj.1
  have:D[0].toNat=48:=by omega
  rw [this];rfl
 have N:=aA b;have O:((D.size:Int) == 0)=false:=by rw [beq_eq_false_iff_ne];omega
 clear b S;go_enter func121,ntmps121
 go_wp2_with fail
 go_loop [6,7] (fun v i=>∃ k u:Nat,k<=D.size/\i=.int .i64 k/\v=.int .u64 u/\Hid (u=dV (D.data.toList.take k))/\Hid (∀ j (o:j<D.size),j<k->isD D[j])) (fun _ i=>D.size-(intOf i).toNat)
 case atStart=>exact ⟨0,0,Nat.zero_le _,rfl,rfl,aA rfl,aA (fun j _ h=>by omega)⟩
 case round =>
  obtain ⟨k,u,U,rfl,rfl,B,g⟩:=hrel
  have A:∀ c∈D.data.toList.take k,isD c:=fun c X=>by
   obtain ⟨j,o,rfl⟩:=Tn.1 X;have H:j<k:=by simp at o;omega
   have G:j<D.size:=by omega
   have:=g.out j G H;rw [List.getElem_take];exact this
  have a:=Fw k (D.data.toList.take k) (by simp;omega) A;rw [<- B.out] at a;clear A;by_cases t:k<D.size
  · have p:u<1000000000000000000:=Nat.lt_of_lt_of_le a (Nat.le_trans (Nat.pow_le_pow_right (by omega) (show k<=18 by omega)) (by decide))
    clear a;obtain ⟨m,E⟩:∃ m,D[k].toNat=m:=⟨_,rfl⟩;have x:(48<=m/\m<=57)\/m<48\/(48<=m/\57<m):=by omega
    rcases x with ⟨g1,Z⟩ | g1 | ⟨g1,Z⟩
    · have z:=aA (show ∀ j (o:j<D.size),j<k+1->isD D[j] from fun j o V=>by
       by_cases e:j=k
       · subst e;unfold isD;omega
       · exact g.out j o (by omega))
      have C:=aA (show 10*u+(m-48)=dV (D.data.toList.take (k+1)) by rw [xH t, <- B.out,E]);go_wp2_with fail
      exact ⟨⟨k+1,10*u+(m-48),by omega,by go_num,by go_num,C,z⟩,by simp [intOf];omega⟩
    · have R:=aA (mS (fun h=>gH t (by unfold isD;omega) h.1))
      go_wp2_with fail
      go_ret2;exact ⟨by rw [R.out];rfl,rfl⟩
    · have R:=aA (mS (fun h=>gH t (by unfold isD;omega) h.1))
      go_wp2_with fail
      go_ret2;exact ⟨by rw [R.out];rfl,rfl⟩
  · obtain rfl:k=D.size:=by omega
    have p:u<10000000000000000000:=Nat.lt_of_lt_of_le a (Nat.le_trans (Nat.pow_le_pow_right (by omega) (show D.size<=19 by omega)) (by decide));have f:u=dV D.data.toList:=by rw [B.out,List.take_of_length_le (by simp)]
    have ok:okD true D.data.toList:=F5 c1 (by omega) (fun j o=>g.out j o o) (fun h=>absurd h N.out);clear a B g U;by_cases u1:u=9223372036854775808
    · have y:=Hs ok (by omega)
      rw [<- f] at y;have R:=aA y;clear y;have T:((u:Int) == 9223372036854775808)=true:=by rw [beq_iff_eq];omega
      clear ok f;subst u1;go_wp2_with fail
      go_ret2;exact ⟨by rw [R.out];rfl,rfl⟩
    have T:((u:Int) == 9223372036854775808)=false:=by rw [beq_eq_false_iff_ne];omega
    by_cases u2:9223372036854775808<u
    · have R:=aA (mS (d:=D.data.toList) (fun h=>by have:=h.2;omega))
      have u4:decide ((9223372036854775808:Int)<=(u:Int))=true:=decide_eq_true (by omega);clear ok f u1 u2 p;go_wp2_with fail
      go_ret2;exact ⟨by rw [R.out];rfl,rfl⟩
    · have y:=Hs ok (by omega)
      rw [<- f] at y;have R:=aA y;clear y;have u3:(u:Int)<9223372036854775808:=by omega
      have u4:decide ((9223372036854775808:Int)<=(u:Int))=false:=decide_eq_false (by omega);have u5:IntKind.i64.wrap (u:Int)=(u:Int):=IntWalk.i64_in _ (by omega);have u6:IntKind.i64.wrap (-(u:Int))= -(u:Int):=IntWalk.i64_in _ (by omega);clear ok f u1 u2 p;go_wp2_with fail
      go_ret2;exact ⟨by rw [R.out];simp [Aw],rfl⟩
theorem Eb (s:Tr) (L:s.size=0\/∃ h:0<s.size,¬ s[0]=45) (hm:s.size<=2000) (w:World) :
 Calls prog 121 #[.string s] w fun e w'=>e=.returned (Aw (fZ s.data.toList))/\w=w':=by
 have t:∀ r,¬ s.data.toList=45::r:=by
  intro r e;rcases L with h | ⟨h,S⟩
  · have A:s.data.toList.length=s.size:=by simp
    rw [e] at A;simp at A;omega
  · have I:s.data.toList[0]? = some s[0]:=List.getElem?_eq_getElem (by simp;omega)
    rw [e] at I;exact S (by simpa using I.symm)
 have t:=aA t;by_cases M:s.size=0
 · have R:=aA (iJ t.out (fun h=>tG M h.1))
   rw [R.out];have e:s=⟨#[]⟩:=by cases s with | mk d=>simp [ByteArray.size] at M;simp [M]
   subst e;clear L t R;go_enter func121,ntmps121
   go_wp2_with fail
   go_ret2;exact ⟨rfl,rfl⟩
 have Z:(((s[0]'(by omega)).toNat:Int) == 45)=false:=by
  rw [beq_eq_false_iff_ne];intro e;rcases L with h | ⟨h,S⟩
  · exact M h
  · apply S
    apply UInt8.toNat_inj.1
    have:s[0].toNat=45:=by omega
    rw [this];rfl
 clear L;by_cases U:19<s.size
 · rw [iJ t.out (fun h=>vT U h.1)]
   have V:((s.size:Int) == 0)=false:=by rw [beq_eq_false_iff_ne];omega
   go_enter func121,ntmps121
   go_wp2_with fail
   go_ret2;exact ⟨rfl,rfl⟩
 have c1:1<=s.size:=by omega
 by_cases p:s[0]=48/\1<s.size
 · obtain ⟨p,c2⟩:=p
   rw [iJ t.out (fun h=>rU (by omega) p (.inl c2) h.1)];have q:((s[0].toNat:Int) == 48)=true:=by rw [p];decide
   have V:((s.size:Int) == 0)=false:=by rw [beq_eq_false_iff_ne];omega
   clear p;go_enter func121,ntmps121
   go_wp2_with fail
   go_ret2;exact ⟨rfl,rfl⟩
 have H:=aA (show s[0]=48->s.size=1 from fun h=>by have:¬ 1<s.size:=fun Y=>p ⟨h,Y⟩;omega);have V:((s.size:Int) == 0)=false:=by rw [beq_eq_false_iff_ne];omega
 have X:((s[0].toNat:Int) == 48)=false\/(((s[0].toNat:Int) == 48)=true/\s.size=1):=by
  cases e:((s[0].toNat:Int) == 48) with
  | false=>exact .inl rfl
  | true =>
    right;refine ⟨rfl,H.out ?_⟩;apply UInt8.toNat_inj.1
    have:=beq_iff_eq.1 e;have:s[0].toNat=48:=by omega
    rw [this];rfl
 clear p;rcases X with q | ⟨q,q2⟩
 · go_enter func121,ntmps121
   go_wp2_with fail
   go_loop [6,7] (fun v i=>∃ k u:Nat,k<=s.size/\i=.int .i64 k/\v=.int .u64 u/\Hid (u=dV (s.data.toList.take k))/\Hid (∀ j (f:j<s.size),j<k->isD s[j])) (fun _ i=>s.size-(intOf i).toNat)
   case atStart=>exact ⟨0,0,Nat.zero_le _,rfl,rfl,aA rfl,aA (fun j _ h=>by omega)⟩
   case round =>
    obtain ⟨k,u,N,rfl,rfl,z,b⟩:=hrel
    have y:∀ c∈s.data.toList.take k,isD c:=fun c P=>by
     obtain ⟨j,f,rfl⟩:=Tn.1 P;have E:j<k:=by simp at f;omega
     have D:j<s.size:=by omega
     have:=b.out j D E;rw [List.getElem_take];exact this
    have a:=Fw k (s.data.toList.take k) (by simp;omega) y;rw [<- z.out] at a;clear y;by_cases n:k<s.size
    · have l:u<1000000000000000000:=Nat.lt_of_lt_of_le a (Nat.le_trans (Nat.pow_le_pow_right (by omega) (show k<=18 by omega)) (by decide))
      clear a;obtain ⟨m,C⟩:∃ m,s[k].toNat=m:=⟨_,rfl⟩;have o:(48<=m/\m<=57)\/m<48\/(48<=m/\57<m):=by omega
      rcases o with ⟨g1,T⟩ | g1 | ⟨g1,T⟩
      · have x:=aA (show ∀ j (f:j<s.size),j<k+1->isD s[j] from fun j f O=>by
         by_cases e:j=k
         · subst e;unfold isD;omega
         · exact b.out j f (by omega))
        have B:=aA (show 10*u+(m-48)=dV (s.data.toList.take (k+1)) by rw [xH n, <- z.out,C]);go_wp2_with fail
        exact ⟨⟨k+1,10*u+(m-48),by omega,by go_num,by go_num,B,x⟩,by simp [intOf];omega⟩
      · have R:=aA (iJ t.out (fun h=>gH n (by unfold isD;omega) h.1))
        go_wp2_with fail
        go_ret2;exact ⟨by rw [R.out];rfl,rfl⟩
      · have R:=aA (iJ t.out (fun h=>gH n (by unfold isD;omega) h.1))
        go_wp2_with fail
        go_ret2;exact ⟨by rw [R.out];rfl,rfl⟩
    · obtain rfl:k=s.size:=by omega
      have l:u<10000000000000000000:=Nat.lt_of_lt_of_le a (Nat.le_trans (Nat.pow_le_pow_right (by omega) (show s.size<=19 by omega)) (by decide));have g:u=dV s.data.toList:=by rw [z.out,List.take_of_length_le (by simp)]
      have ok:okD false s.data.toList:=F5 c1 (by omega) (fun j f=>b.out j f f) (fun h=>⟨H.out h,rfl⟩);clear a z b N;by_cases u2:9223372036854775808<=u
      · have R:=aA (iJ t.out (fun h=>by have:=h.2;omega))
        have u4:decide ((9223372036854775808:Int)<=(u:Int))=true:=decide_eq_true (by omega);clear ok g u2 l;go_wp2_with fail
        go_ret2;exact ⟨by rw [R.out];rfl,rfl⟩
      · have G:=wU ok (by omega)
        rw [<- g] at G;have R:=aA G;clear G;have u3:(u:Int)<9223372036854775808:=by omega
        have u4:decide ((9223372036854775808:Int)<=(u:Int))=false:=decide_eq_false (by omega);have u5:IntKind.i64.wrap (u:Int)=(u:Int):=IntWalk.i64_in _ (by omega);have u6:IntKind.i64.wrap (-(u:Int))= -(u:Int):=IntWalk.i64_in _ (by omega);clear ok g u2 l;go_wp2_with fail
        go_ret2;exact ⟨by rw [R.out];simp [Aw],rfl⟩
 · have q3:decide ((1:Int)<(s.size:Int))=false:=decide_eq_false (by omega)
   go_enter func121,ntmps121
   go_wp2_with fail
   go_loop [6,7] (fun v i=>∃ k u:Nat,k<=s.size/\i=.int .i64 k/\v=.int .u64 u/\Hid (u=dV (s.data.toList.take k))/\Hid (∀ j (f:j<s.size),j<k->isD s[j])) (fun _ i=>s.size-(intOf i).toNat)
   case atStart=>exact ⟨0,0,Nat.zero_le _,rfl,rfl,aA rfl,aA (fun j _ h=>by omega)⟩
   case round =>
    obtain ⟨k,u,N,rfl,rfl,z,b⟩:=hrel
    have y:∀ c∈s.data.toList.take k,isD c:=fun c P=>by
     obtain ⟨j,f,rfl⟩:=Tn.1 P;have E:j<k:=by simp at f;omega
     have D:j<s.size:=by omega
     have:=b.out j D E;rw [List.getElem_take];exact this
    have a:=Fw k (s.data.toList.take k) (by simp;omega) y;rw [<- z.out] at a;clear y;by_cases n:k<s.size
    · have l:u<1000000000000000000:=Nat.lt_of_lt_of_le a (Nat.le_trans (Nat.pow_le_pow_right (by omega) (show k<=18 by omega)) (by decide))
      clear a;obtain ⟨m,C⟩:∃ m,s[k].toNat=m:=⟨_,rfl⟩;have o:(48<=m/\m<=57)\/m<48\/(48<=m/\57<m):=by omega
      rcases o with ⟨g1,T⟩ | g1 | ⟨g1,T⟩
      · have x:=aA (show ∀ j (f:j<s.size),j<k+1->isD s[j] from fun j f O=>by
         by_cases e:j=k
         · subst e;unfold isD;omega
         · exact b.out j f (by omega))
        have B:=aA (show 10*u+(m-48)=dV (s.data.toList.take (k+1)) by rw [xH n, <- z.out,C]);go_wp2_with fail
        exact ⟨⟨k+1,10*u+(m-48),by omega,by go_num,by go_num,B,x⟩,by simp [intOf];omega⟩
      · have R:=aA (iJ t.out (fun h=>gH n (by unfold isD;omega) h.1))
        go_wp2_with fail
        go_ret2;exact ⟨by rw [R.out];rfl,rfl⟩
      · have R:=aA (iJ t.out (fun h=>gH n (by unfold isD;omega) h.1))
        go_wp2_with fail
        go_ret2;exact ⟨by rw [R.out];rfl,rfl⟩
    · obtain rfl:k=s.size:=by omega
      have l:u<10000000000000000000:=Nat.lt_of_lt_of_le a (Nat.le_trans (Nat.pow_le_pow_right (by omega) (show s.size<=19 by omega)) (by decide));have g:u=dV s.data.toList:=by rw [z.out,List.take_of_length_le (by simp)]
      have ok:okD false s.data.toList:=F5 c1 (by omega) (fun j f=>b.out j f f) (fun h=>⟨H.out h,rfl⟩);clear a z b N;by_cases u2:9223372036854775808<=u
      · have R:=aA (iJ t.out (fun h=>by have:=h.2;omega))
        have u4:decide ((9223372036854775808:Int)<=(u:Int))=true:=decide_eq_true (by omega);clear ok g u2 l;go_wp2_with fail
        go_ret2;exact ⟨by rw [R.out];rfl,rfl⟩
      · have G:=wU ok (by omega)
        rw [<- g] at G;have R:=aA G;clear G;have u3:(u:Int)<9223372036854775808:=by omega
        have u4:decide ((9223372036854775808:Int)<=(u:Int))=false:=decide_eq_false (by omega);have u5:IntKind.i64.wrap (u:Int)=(u:Int):=IntWalk.i64_in _ (by omega);have u6:IntKind.i64.wrap (-(u:Int))= -(u:Int):=IntWalk.i64_in _ (by omega);clear ok g u2 l;go_wp2_with fail
        go_ret2;exact ⟨by rw [R.out];simp [Aw],rfl⟩
theorem vQ (s:Tr) (a:s.size<=2000) (w:World) :
 Calls prog 121 #[.string s] w fun e w'=>e=.returned (Aw (fZ s.data.toList))/\w=w':=by
 by_cases h:s.size=0\/∃ h:0<s.size,¬ s[0]=45
 · exact Eb s h a w
 · have b:¬ s.size=0:=fun e=>h (.inl e)
   exact Ec s (by omega) (Classical.byContradiction fun e=>h (.inr ⟨by omega,e⟩)) a w
theorem drop_at (s:Tr) {k:Nat} (h:k<s.size):s.data.toList.drop k=s[k]::s.data.toList.drop (k+1):=List.drop_eq_getElem_cons (by simpa using h)
theorem tB {q:UInt8->Bool} {s:Tr} {k m:Nat} (g:k<=m) (f:m<=s.size) (d:∀ j (h:j<s.size),k<=j->j<m->q s[j]=true) (c:∀ h:m<s.size,q s[m]=false):bR q (s.data.toList.drop k)=m-k:=by
 have hl:s.data.toList.length=s.size:=by simp
 refine uD (by rw [List.length_drop];omega) (fun j a b=>?_) (fun a=>?_)
 · rw [List.length_drop] at a
   rw [List.getElem_drop];exact d (k+j) (by omega) (by omega) (by omega)
 · rw [List.length_drop] at a
   rw [List.getElem_drop];have:=c (by omega);have e:k+(m-k)=m:=by omega
   simp only [e];exact this
theorem wG {s:Tr} {k:Nat} {T:List Tk} {E:fR} {er:Int} (b:k<s.size) (a:¬ s[k]=32) (d:(cR (s.data.toList.drop k) k).after T=E) (c:bV (s.data.toList.drop k)=.bad er):E=.bad k er:=by
 have hd:=drop_at s b;rw [<- d,nZ (by rw [hd];simp) (by rw [hd];simpa using a) c];rfl
theorem E7 {s:Tr} {k m:Nat} {T:List Tk} {E:fR} {kd b:Int} (c:k<s.size) (a:¬ s[k]=32) (g:k<m) (f:(cR (s.data.toList.drop k) k).after T=E) (d:bV (s.data.toList.drop k)=.tok kd (m-k) b) :
 (cR (s.data.toList.drop m) m).after (T++[⟨kd,(s.data.toList.drop k).take (m-k),b,k⟩])=E:=by
 have hd:=drop_at s c;rw [<- f,gX (by rw [hd];simpa using a) (by omega) d,gD,List.drop_drop,show k+(m-k)=m by omega]
theorem Qc {s:Tr} {k:Nat} {T:List Tk} {E:fR} (b:k<s.size) (a:s[k]=32) (c:(cR (s.data.toList.drop k) k).after T=E):(cR (s.data.toList.drop (k+1)) (k+1)).after T=E:=by
 rw [<- c,drop_at s b,a,e8]
theorem Sx {s:Tr} {T:List Tk} {E:fR} (a:(cR (s.data.toList.drop s.size) s.size).after T=E):E=.ok T:=by
 rw [<- a,List.drop_of_length_le (by simp),j0];simp [fR.after]
theorem EP {s:Tr} {k:Nat} (a:k<s.size) (h:bH s[k]=true):bV (s.data.toList.drop k)=jM (s.data.toList.drop k):=by
 rw [drop_at s a];simp only [bV];rw [if_pos h]
theorem ER {s:Tr} {k:Nat} (a:k<s.size) (h:bH s[k]=false) (b:aZ s[k]=true):bV (s.data.toList.drop k)=l5 (s.data.toList.drop k):=by
 rw [drop_at s a];simp only [bV];rw [if_neg (by rw [h];decide),if_pos b]
theorem GB {s:Tr} {k:Nat} (a:k<s.size) (h:bH s[k]=false) (b:aZ s[k]=false):bV (s.data.toList.drop k)=iF (s.data.toList.drop k):=by
 rw [drop_at s a];simp only [bV];rw [if_neg (by rw [h];decide),if_neg (by rw [b];decide)]
theorem Bj {l:Tq} {n:Nat} (h:bR a8 l=n) (a:8<n):jM l=.bad 5:=by unfold jM;rw [h,if_pos a]
theorem yL {l:Tq} {n:Nat} (h:bR a8 l=n) (a:¬ 8<n):jM l=.tok 1 n 0:=by unfold jM;rw [h,if_neg a]
theorem IL {l:Tq} (h:iB l=0):iF l=.bad 2:=by unfold iF;rw [if_pos h]
theorem IK {l:Tq} {n:Nat} (h:iB l=n) (a:¬ n=0):iF l=.tok 3 n 0:=by unfold iF;rw [h,if_neg a]
section
variable {s : Tr} {k m : Nat}
theorem Qu (b:k<s.size) (hr:bR aZ (s.data.toList.drop k)=m-k) (c:1<m-k) (a:s[k]=48):l5 (s.data.toList.drop k)=.bad 2:=by
 unfold l5;rw [hr,if_pos (.inl ⟨c,by rw [drop_at s b,a];rfl⟩)]
theorem Bw (a:k<=m):((s.data.toList.drop k).drop (m-k)).head? = if h:m<s.size then some s[m] else none:=by
 rw [List.drop_drop,show k+(m-k)=m by omega,List.head?_drop];by_cases h:m<s.size
 · rw [dif_pos h];exact List.getElem?_eq_getElem (by simpa using h)
 · rw [dif_neg h];exact List.getElem?_eq_none (by simp;omega)
theorem Sl (a:k<=m) (hr:bR aZ (s.data.toList.drop k)=m-k) (c:m<s.size) (b:bH s[m]=true):l5 (s.data.toList.drop k)=.bad 2:=by
 unfold l5;rw [hr,if_pos (.inr ⟨s[m],by rw [Bw a,dif_pos c],b⟩)]
theorem LS (a:k<s.size) (c:k<m) (ha:¬ (1<m-k/\s[k]=48)) (b:∀ h:m<s.size,bH s[m]=false) :
 ¬ ((1<m-k/\(s.data.toList.drop k).head? = some 48)\/∃ d,((s.data.toList.drop k).drop (m-k)).head? = some d/\bH d=true):=by
 rintro (⟨x,y⟩ | ⟨d,x,y⟩)
 · rw [drop_at s a] at y
   exact ha ⟨x,by simpa using y⟩
 · rw [Bw (by omega)] at x
   by_cases h:m<s.size
   · rw [dif_pos h] at x
     cases x;rw [b h] at y;cases y
   · rw [dif_neg h] at x;cases x
theorem Bh (g:k<s.size) (j:k<m) (f:m<=s.size) (hr:bR aZ (s.data.toList.drop k)=m-k) (ha:¬ (1<m-k/\s[k]=48)) :
 (∀ c∈(s.extract k m).data.toList,isD c)/\¬ (s.extract k m).data.toList=[]/\(∀ r,(s.extract k m).data.toList=48::r->r=[]):=by
 have hl:(s.extract k m).data.toList.length=m-k:=by rw [gI,Th,List.length_drop];simp;omega
 refine ⟨fun c b=>?_,fun e=>?_,fun r e=>?_⟩
 · rw [gI, <- hr,mC] at b
   exact (rC c).1 (List.all_eq_true.1 (List.all_takeWhile (p:=aZ) (l:=s.data.toList.drop k)) c b)
 · rw [e] at hl;simp at hl;omega
 · have d:(s.extract k m).data.toList.head? = some s[k]:=by
    rw [gI,List.head?_take,if_neg (by omega),drop_at s g];rfl
   rw [e] at d hl;have a:s[k]=48:=by simpa using d.symm
   have:¬ 1<m-k:=fun h=>ha ⟨h,a⟩
   rw [Te] at hl;exact Tg.1 (by omega)
theorem Qt (d:k<s.size) (c:k<m) (b:m<=s.size) (hr:bR aZ (s.data.toList.drop k)=m-k) (ha:¬ (1<m-k/\s[k]=48)) (g:∀ h:m<s.size,bH s[m]=false) {v:Int} (a:fZ (s.extract k m).data.toList=some v) :
 l5 (s.data.toList.drop k)=.tok 2 (m-k) v/\bW v:=by
 obtain ⟨f,l,j⟩:=Bh d c b hr ha;refine ⟨?_,F8 a⟩;unfold l5;rw [hr,if_neg (LS d c ha g), <- gI];by_cases h:9223372036854775807<dV (s.extract k m).data.toList
 · rw [LR f h] at a;cases a
 · rw [if_neg h]
   rw [yJ l f j (by omega)] at a;cases a;rfl
theorem Qs (d:k<s.size) (c:k<m) (a:m<=s.size) (hr:bR aZ (s.data.toList.drop k)=m-k) (ha:¬ (1<m-k/\s[k]=48)) (f:∀ h:m<s.size,bH s[m]=false) (b:fZ (s.extract k m).data.toList=none) :
 l5 (s.data.toList.drop k)=.bad 1:=by
 obtain ⟨l,j,g⟩:=Bh d c a hr ha;unfold l5;rw [hr,if_neg (LS d c ha f), <- gI];by_cases h:9223372036854775807<dV (s.extract k m).data.toList
 · rw [if_pos h]
 · rw [yJ j l g (by omega)] at b;cases b
end
end Go.Proofs.YtgfkjkokmcejbaaGreatDoor
