/-
 No statement: what ProgTwoLift needs, of the texts HEval, HEvalT, QREval, ZEp, OV, ZRun, OMath, OParts, OCheck, QText, ZText, ZNice, ZKn1, ZKn2.
-/
import Derived.Test.YtgfkjkokmcejbaaGreatDoorVT13
set_option maxHeartbeats 40000000
set_option maxRecDepth 100000
namespace Go.Proofs.YtgfkjkokmcejbaaGreatDoor
open Go.RowKit
section
open Go.RowKit
structure Ni (A:Nat->Wr.AD) (n:Nat) (g:ByteArray->Option Int):Prop where
 yes:∀ j,j<n->g (A j).m=if (A j).k=1 then some (A j).n else none
 no:∀ x,(∀ j,j<n->(A j).m ≠ x)->g x=none
 fit:∀ x v,g x=some v->bN v
theorem FE (o:ByteArray) (a b:Int) (ha:bN a) (hb:bN b) (h4:mN o=true) (w:World):Calls Tryz.prog 255 #[.string o,.int .i64 a,.int .i64 b] w fun e w'=>e=.returned (.tuple #[.int .i64 ((r9 o a b).getD 0),.bool (r9 o a b).isSome])/\w=w':=by
 have A1:=aA (Dc a b w ha hb);have A2:=aA (C9 a b w ha hb);have A3:=aA (Ki a b w ha hb);unfold mN at h4;unfold r9;cases h1:(o.data.toList == [43]) with
 | true =>
   have g1:=bQ h1;rw [if_pos rfl];simp only [Option.getD_some,Option.isSome_some];clear h1 h4;go_enter Tryz.func255,Tryz.ntmps255
   go_wp2_with fail
   refine A1.out.mono ?_;rintro e w1 ⟨rfl,rfl⟩;go_wp2_with fail
   go_ret2;exact ⟨rfl,rfl⟩
 | false =>
   have g1:=aI h1;rw [if_neg (by decide)];cases h2:(o.data.toList == [45]) with
   | true =>
     have g2:=bQ h2;rw [if_pos rfl];simp only [Option.getD_some,Option.isSome_some];clear h1 h4 h2;go_enter Tryz.func255,Tryz.ntmps255
     go_wp2_with fail
     refine A2.out.mono ?_;rintro e w1 ⟨rfl,rfl⟩;go_wp2_with fail
     go_ret2;exact ⟨rfl,rfl⟩
   | false =>
     have g2:=aI h2;rw [if_neg (by decide)];cases h3:(o.data.toList == [42]) with
     | true =>
       have g3:=bQ h3;rw [if_pos rfl];simp only [Option.getD_some,Option.isSome_some];clear h1 h4 h2 h3;go_enter Tryz.func255,Tryz.ntmps255
       go_wp2_with fail
       refine A3.out.mono ?_;rintro e w1 ⟨rfl,rfl⟩;go_wp2_with fail
       go_ret2;exact ⟨rfl,rfl⟩
     | false =>
       have g3:=aI h3;rw [if_neg (by decide)];cases h5:(o.data.toList == [47]) with
       | true =>
         have g4:=bQ h5;rw [if_pos rfl];by_cases hz:b=0
         · subst hz
           have A4:=aA (Db a w);rw [if_pos rfl];simp only [Option.getD_none,Option.isSome_none];clear h1 h4 h2 h3 h5;go_enter Tryz.func255,Tryz.ntmps255
           go_wp2_with fail
           refine A4.out.mono ?_;rintro e w1 ⟨rfl,rfl⟩;go_wp2_with fail
           go_ret2;exact ⟨rfl,rfl⟩
         · have A4:=aA (Kk a b w ha hb hz)
           rw [if_neg hz];simp only [Option.getD_some,Option.isSome_some];clear h1 h4 h2 h3 h5 hz;go_enter Tryz.func255,Tryz.ntmps255
           go_wp2_with fail
           refine A4.out.mono ?_;rintro e w1 ⟨rfl,rfl⟩;go_wp2_with fail
           go_ret2;exact ⟨rfl,rfl⟩
       | false =>
         have g4:=aI h5;rw [if_neg (by decide)];have g5:=bQ (o:=o) (x:=[37]) (by rw [h1,h2,h3,h5] at h4;simpa using h4);by_cases hz:b=0
         · subst hz
           have A4:=aA (Da a w);rw [if_pos rfl];simp only [Option.getD_none,Option.isSome_none];clear h1 h4 h2 h3 h5;go_enter Tryz.func255,Tryz.ntmps255
           go_wp2_with fail
           refine A4.out.mono ?_;rintro e w1 ⟨rfl,rfl⟩;go_wp2_with fail
           go_ret2;exact ⟨rfl,rfl⟩
         · have A4:=aA (Kj a b w ha hb hz)
           rw [if_neg hz];simp only [Option.getD_some,Option.isSome_some];clear h1 h4 h2 h3 h5 hz;go_enter Tryz.func255,Tryz.ntmps255
           go_wp2_with fail
           refine A4.out.mono ?_;rintro e w1 ⟨rfl,rfl⟩;go_wp2_with fail
           go_ret2;exact ⟨rfl,rfl⟩
theorem JC {A:Nat->Wr.AD} {n:Nat} {g:ByteArray->Option Int} (hg:Ni A n g) (hR:Wr.RiseA A n) (x:ByteArray) :
 (has (Wr.nmD (Wr.twsA A n)) x=true->pos lsS (Wr.nmD (Wr.twsA A n)) x<n->g x=if (A (pos lsS (Wr.nmD (Wr.twsA A n)) x)).k=1 then some (A (pos lsS (Wr.nmD (Wr.twsA A n)) x)).n else none) /\
 (¬ has (Wr.nmD (Wr.twsA A n)) x=true->g x=none):=by
 have hr:=Wr.rising_nm hR;refine ⟨fun h hp=>?_,fun h=>hg.no x fun j hj e=>h ?_⟩
 · have h1:=(fA fK hr).1 ((iD _ _).1 h)
   rw [Wr.nm_at A hp] at h1;have h2:=hg.yes _ hp;rw [Option.some.inj h1] at h2;exact h2
 · rw [iD]
   exact e ▸ List.mem_of_getElem? (Wr.nm_at A hj)
theorem FK {A:Nat->Wr.AD} {n:Nat} {g:ByteArray->Option Int} (hg:Ni A n g) (hR:Wr.RiseA A n) (hn:n<=1000) (hl:∀ j,j<n->(A j).len<=1000000) (a:Option Addr) (c:Nat) (x:ByteArray) (w:World) (h:Wr.ReadsA w a n A) :
 Calls Tryz.prog 253 #[.slice a n c,.string x] w fun e w'=>e=.returned (.tuple #[.int .i64 ((g x).getD 0),.bool (g x).isSome])/\Below w.heap.size w w':=by
 have C:=aA (Wr.getL_any a n c A x hn hl hR w h);obtain ⟨F1,F2⟩:=JC hg hR x;by_cases hh:has (Wr.nmD (Wr.twsA A n)) x=true
 · have C1:=aA (p:=Calls Tryz.prog 266 #[.slice a n c,.string x] w fun e w'=>(∃ (v:Wr.AD) (a:Option Addr) (c:Nat),g x=(if v.k=1 then some v.n else none)/\e=.returned (.tuple #[.agg #[.int .i64 v.k,.int .i64 (Wr.twN v.k v.n),.string (Wr.twS v.k v.s),.slice a (Wr.twL v.k v.len) c],.bool true]))/\Below w.heap.size w w') (C.out.mono fun e w' ⟨he,hb⟩=>by
    rw [if_pos hh] at he;obtain ⟨v,a2,c2,hp,rfl,he, -⟩:=he;exact ⟨⟨_,a2,c2,F1 hh hp,he⟩,hb⟩)
   clear F1 F2 C h hh;go_enter Tryz.func253,Tryz.ntmps253
   go_wp2_with fail
   refine C1.out.mono ?_;rintro e w1 ⟨⟨v,a2,c2,hv,rfl⟩,hb⟩;have B1:=aA hb;have HV:=aA hv;have tw1:v.k=1->Wr.twN v.k v.n=v.n:=fun h=>by rw [h];rfl
   obtain ⟨N,hN⟩:∃ N,Wr.twN v.k v.n=N:=⟨_,rfl⟩;obtain ⟨Z,hZ⟩:∃ Z,Wr.twS v.k v.s=Z:=⟨_,rfl⟩;obtain ⟨L,hL⟩:∃ L,Wr.twL v.k v.len=L:=⟨_,rfl⟩;rw [hN] at tw1;rw [hN,hZ,hL];obtain ⟨k,hk⟩:∃ k,v.k=k:=⟨_,rfl⟩;rw [hk] at HV tw1 |-
   clear hb hv hN hZ hL hk C1;by_cases h1:k=1
   · have TW:=aA (tw1 h1)
     subst h1;have HG:=aA (show g x=some v.n by rw [HV.out,if_pos rfl]);clear HV tw1;have B2:=aA (B1.out.trans ((bA0 w1 (.cells #[.int .i64 1,.int .i64 N,.string Z,.slice a2 L c2] 60)).mono B1.out.size));go_wp2_with fail
     go_ret2;exact ⟨by rw [HG.out,TW.out];rfl,B2.out⟩
   · have HG:=aA (show g x=none by rw [HV.out,if_neg h1])
     have e1:(k == 1)=false:=by simpa using h1
     have e2:(k != 1)=true:=by simpa using h1
     clear HV tw1;have B2:=aA (B1.out.trans ((bA0 w1 (.cells #[.int .i64 k,.int .i64 N,.string Z,.slice a2 L c2] 60)).mono B1.out.size));go_wp2_with fail
     go_ret2;rw [HG.out];exact ⟨rfl,B2.out⟩
 · have HG:=aA (F2 hh)
   have C1:=aA (p:=Calls Tryz.prog 266 #[.slice a n c,.string x] w fun e w'=>e=.returned (.tuple #[.agg #[.int .i64 0,.int .i64 0,.string ⟨#[]⟩,.slice none 0 0],.bool false])/\Below w.heap.size w w') (C.out.mono fun e w' ⟨he,hb⟩=>by
    rw [if_neg hh] at he;exact ⟨he,hb⟩)
   clear F1 F2 C h hh;go_enter Tryz.func253,Tryz.ntmps253
   go_wp2_with fail
   refine C1.out.mono ?_;rintro e w1 ⟨rfl,hb⟩;have B2:=aA (hb.trans ((bA0 w1 (.cells #[.int .i64 0,.int .i64 0,.string ⟨#[]⟩,.slice none 0 0] 60)).mono hb.size));clear hb C1;go_wp2_with fail
   go_ret2;rw [HG.out];exact ⟨rfl,B2.out⟩
structure mW (A:Nat->Wr.AD) (n:Nat) (g:ByteArray->Option Int):Prop where
 ok:Ni A n g
 ri:Wr.RiseA A n
 few:n<=1000
 sm:∀ j,j<n->(A j).len<=1000000
def PEv (A:Nat->Wr.AD) (n:Nat) (g:ByteArray->Option Int) (t:TN):Prop:=∀ (G:Nat->Prop) (w:World) (a:Option Addr) (c:Nat) (y:Option Addr) (cy:Nat),aN G w a t.ks->Wr.ReadsA w y n A ->
 Calls Tryz.prog 232 #[cF t.op t.nm t.n a t.ks.len c,.slice y n cy] w fun e w'=>e=.returned (.tuple #[.int .i64 ((evT g t).getD 0),.bool (evT g t).isSome])/\Below w.heap.size w w'
variable {A : Nat -> Wr.AD} {n : Nat} {g : ByteArray -> Option Int}
theorem Ob (o m:ByteArray) (v:Int) (h1:cO o=true):PEv A n g ⟨o,m,v,.nil⟩:=by
 intro G w a c y cy hr hA;rw [MC g h1];clear hr hA;dsimp only;have g1:=bQ h1;unfold tJ at g1;have NB:=aA (heap_alloc_new w (ndG o m v a F.nil.len c));have B0:=aA (bA0 w (ndG o m v a F.nil.len c));clear h1;go_enter Tryz.func232,Tryz.ntmps232
 go_wp2_with fail
 go_ret2;exact ⟨rfl,B0.out⟩
theorem Le (U:mW A n g) (o m:ByteArray) (v:Int) (h1:cO o=false) (h2:cG o=true):PEv A n g ⟨o,m,v,.nil⟩:=by
 intro G w a c y cy hr hA;rw [Hp g h1 h2];dsimp only;have g1:=aI h1;have g2:=bQ h2;unfold tJ at g1;unfold oA at g2;have B0:=aA (bA0 w (ndG o m v a F.nil.len c));have C:=aA (FK U.ok U.ri U.few U.sm y cy m (w.alloc (ndG o m v a F.nil.len c)) (hA.kept B0.out));obtain ⟨q,hq⟩:∃ q,g m=q:=⟨_,rfl⟩;rw [hq] at C |-
 clear h1 h2 hr hA hq;go_enter Tryz.func232,Tryz.ntmps232
 go_wp2_with fail
 refine C.out.mono ?_;rintro e w1 ⟨rfl,hb⟩;have B1:=aA (B0.out.trans (hb.mono B0.out.size));clear hb;go_wp2_with fail
 go_ret2;exact ⟨rfl,B1.out⟩
theorem Oc (o m:ByteArray) (v:Int) (t:TN) (h1:cO o=false) (h2:cG o=false) (h3:gA o=true) (hi:∀ x,evT g t=some x->bN x) (ih:PEv A n g t):PEv A n g ⟨o,m,v,t.f⟩:=by
 intro G w a c y cy hr hA;rw [MD g t h1 h2 h3];dsimp only at hr |-
 rw [show t.f.len=1 from rfl];have g1:=aI h1;have g2:=aI h2;have g3:=bQ h3;unfold tJ at g1;unfold oA at g2;unfold jE at g3;have NB:=aA (heap_alloc_new w (ndG o m v a 1 c));have B0:=aA (bA0 w (ndG o m v a 1 c));obtain ⟨b,off,a2,c2,ha,hG,hbl,⟨p0,p1,p2,p3⟩,hr2⟩:=mD (hr.kept B0.out) (show t.f.at 0=some t from rfl);have C:=aA (ih G (w.alloc (ndG o m v a 1 c)) a2 c2 y cy hr2 (hA.kept B0.out));rw [Nat.zero_mul,Nat.add_zero] at p0 p1 p2 p3;subst ha;have SB:=aA (fun (x:Int) (h:bN x) (V:World)=>C9 0 x V (by unfold bN;omega) h)
 have HI:bN ((evT g t).getD 0):=by
  cases hE:evT g t with
  | none=>show bN 0;unfold bN;omega
  | some x=>exact hi x hE
 have RS:(Option.map (fun x=>dY (0-x)) (evT g t)).getD 0=dY (0-(evT g t).getD 0)/\(Option.map (fun x=>dY (0-x)) (evT g t)).isSome=(evT g t).isSome:=by
  cases evT g t with
  | none=>exact ⟨by decide,rfl⟩
  | some x=>exact ⟨rfl,rfl⟩
 rw [RS.1,RS.2];obtain ⟨q,hq⟩:∃ q,(evT g t).getD 0=q:=⟨_,rfl⟩;obtain ⟨z,hz⟩:∃ z,(evT g t).isSome=z:=⟨_,rfl⟩;rw [hq] at C HI |-
 rw [hz] at C |-
 have S1:=aA (SB.out q HI);rw [Int.zero_sub];clear h1 h2 h3 hr hA ih hr2 hq hz RS HI hi SB;go_enter Tryz.func232,Tryz.ntmps232
 go_wp2_with fail
 generalize w.alloc (ndG o m v (some ⟨b,off,none⟩) 1 c)=W at NB B0 C hbl p0 p1 p2 p3 |-
 obtain ⟨⟨m0,m1,m2,m3⟩, -⟩:=aL NB.out;go_wp2_with fail
 refine C.out.mono ?_;rintro e w1 ⟨rfl,hb⟩;have B1:=aA (B0.out.trans (hb.mono B0.out.size));clear hb;go_wp2_with fail
 refine (S1.out _).mono ?_;rintro e w2 ⟨rfl,rfl⟩;go_wp2_with fail
 go_ret2;exact ⟨rfl,B1.out⟩
theorem Oa (o m:ByteArray) (v:Int) (t u:TN) (h1:cO o=false) (h2:cG o=false) (h3:gA o=false) (h4:mN o=true) (hi:∀ x,evT g t=some x->bN x) (hj:∀ x,evT g u=some x->bN x) (ih:PEv A n g t) (iu:PEv A n g u):PEv A n g ⟨o,m,v,.cons t.op t.nm t.n t.ks u.f⟩:=by
 intro G w a c y cy hr hA;rw [MA g t u h1 h2 h3];dsimp only at hr |-
 rw [show (F.cons t.op t.nm t.n t.ks u.f).len=2 from rfl];have g1:=aI h1;have g2:=aI h2;have g3:=aI h3;unfold tJ at g1;unfold oA at g2;unfold jE at g3;have NB:=aA (heap_alloc_new w (ndG o m v a 2 c));have B0:=aA (bA0 w (ndG o m v a 2 c));obtain ⟨b,off,a2,c2,ha,hG,hbl,⟨p0,p1,p2,p3⟩,hr2⟩:=mD (hr.kept B0.out) (show (F.cons t.op t.nm t.n t.ks u.f).at 0=some t from rfl);obtain ⟨b',off',a3,c3,ha',hG',hbl',⟨q0,q1,q2,q3⟩,hr3⟩:=mD (hr.kept B0.out) (show (F.cons t.op t.nm t.n t.ks u.f).at 1=some u from rfl);subst ha;cases ha';have C:=aA (ih G (w.alloc (ndG o m v (some ⟨b,off,none⟩) 2 c)) a2 c2 y cy hr2 (hA.kept B0.out));have D:=aA (fun V (hV:Below (w.alloc (ndG o m v (some ⟨b,off,none⟩) 2 c)).heap.size (w.alloc (ndG o m v (some ⟨b,off,none⟩) 2 c)) V)=>iu G V a3 c3 y cy (hr3.kept hV) ((hA.kept B0.out).kept hV));have AP:=aA (fun (p q:Int) (hp:bN p) (hq:bN q) (V:World)=>FE o p q hp hq h4 V);rw [Nat.zero_mul,Nat.add_zero] at p0 p1 p2 p3;rw [Nat.one_mul] at q0 q1 q2 q3;clear h1 h2 h3 h4 hr hA ih iu hr2 hr3;cases hT:evT g t with
 | none =>
   rw [hT] at C;simp only [Option.getD_none,Option.isSome_none] at C |-
   clear hT hi hj D AP;go_enter Tryz.func232,Tryz.ntmps232
   go_wp2_with fail
   generalize w.alloc (ndG o m v (some ⟨b,off,none⟩) 2 c)=W at NB B0 C hbl p0 p1 p2 p3 |-
   obtain ⟨⟨m0,m1,m2,m3⟩, -⟩:=aL NB.out;go_wp2_with fail
   refine C.out.mono ?_;rintro e w1 ⟨rfl,hb⟩;have B1:=aA (B0.out.trans (hb.mono B0.out.size));clear hb;go_wp2_with fail
   go_ret2;exact ⟨rfl,B1.out⟩
 | some p =>
   rw [hT] at C;simp only [Option.getD_some,Option.isSome_some] at C;have HP:=aA (hi p hT);cases hU:evT g u with
   | none =>
     rw [hU] at D;simp only [Option.getD_none,Option.isSome_none] at D |-
     clear hT hi hj hU AP;go_enter Tryz.func232,Tryz.ntmps232
     go_wp2_with fail
     generalize w.alloc (ndG o m v (some ⟨b,off,none⟩) 2 c)=W at NB B0 C D hbl hbl' p0 p1 p2 p3 q0 q1 q2 q3 |-
     obtain ⟨⟨m0,m1,m2,m3⟩, -⟩:=aL NB.out;go_wp2_with fail
     refine C.out.mono ?_;rintro e w1 ⟨rfl,hb⟩;have D1:=aA (D.out w1 hb);have B1:=aA (B0.out.trans (hb.mono B0.out.size));have s0:=(hb.cell hbl').trans q0;have s1:=(hb.cell hbl').trans q1;have s2:=(hb.cell hbl').trans q2;have s3:=(hb.cell hbl').trans q3;have s4:=(hb.cell (aK NB.out)).trans m3;have s5:=(hb.cell (aK NB.out)).trans m0;clear hb p0 p1 p2 p3 q0 q1 q2 q3 m0 m1 m2 m3 C D;go_wp2_with fail
     refine D1.out.mono ?_;rintro e w2 ⟨rfl,hb⟩;have B2:=aA (B1.out.trans (hb.mono B1.out.size));clear hb;go_wp2_with fail
     go_ret2;exact ⟨rfl,B2.out⟩
   | some q =>
     rw [hU] at D;simp only [Option.getD_some,Option.isSome_some] at D |-
     have A1:=aA (AP.out p q HP.out (hj q hU));clear hT hi hj hU AP HP;go_enter Tryz.func232,Tryz.ntmps232
     go_wp2_with fail
     generalize w.alloc (ndG o m v (some ⟨b,off,none⟩) 2 c)=W at NB B0 C D hbl hbl' p0 p1 p2 p3 q0 q1 q2 q3 |-
     obtain ⟨⟨m0,m1,m2,m3⟩, -⟩:=aL NB.out;go_wp2_with fail
     refine C.out.mono ?_;rintro e w1 ⟨rfl,hb⟩;have D1:=aA (D.out w1 hb);have B1:=aA (B0.out.trans (hb.mono B0.out.size));have s0:=(hb.cell hbl').trans q0;have s1:=(hb.cell hbl').trans q1;have s2:=(hb.cell hbl').trans q2;have s3:=(hb.cell hbl').trans q3;have N1:=aA ((hb.block _ (aK NB.out)).trans NB.out);have s4:=(hb.cell (aK NB.out)).trans m3;have s5:=(hb.cell (aK NB.out)).trans m0;clear hb p0 p1 p2 p3 q0 q1 q2 q3 m0 m1 m2 m3 C D;go_wp2_with fail
     refine D1.out.mono ?_;rintro e w2 ⟨rfl,hb⟩;have B2:=aA (B1.out.trans (hb.mono B1.out.size));have s6:=(hb.cell (aK N1.out)).trans s5;clear hb s0 s1 s2 s3 s4 s5;go_wp2_with fail
     refine (A1.out _).mono ?_;rintro e w3 ⟨rfl,rfl⟩;go_wp2_with fail
     go_ret2;exact ⟨rfl,B2.out⟩
theorem BQ (U:mW A n g) (t:TN) (h:OkT t) (hn:dR t.f):PEv A n g t/\∀ x,evT g t=some x->bN x :=
 gV (P:=fun t=>PEv A n g t/\∀ x,evT g t=some x->bN x)
  (fun o m v a b d=>⟨Ob o m v a,fun x hx=>by rw [MC g a] at hx;cases hx;unfold bN;omega⟩)
  (fun o m v a b _=>⟨Le U o m v a b,fun x hx=>by rw [Hp g a b] at hx;exact U.ok.fit _ _ hx⟩)
  (fun o m v t a b c ih=>⟨Oc o m v t a b c ih.2 ih.1,fun x hx=>by
   rw [MD g t a b c,Option.map_eq_some_iff] at hx;obtain ⟨z,_,rfl⟩:=hx;exact mT _⟩)
  (fun o m v t u a b c d ih iu=>⟨Oa o m v t u a b c d ih.2 iu.2 ih.1 iu.1,fun x hx=>by
   rw [MA g t u a b c] at hx;split at hx
   · rename_i p q hp hq
     exact MW (ih.2 _ hp) hx
   · cases hx⟩) t h hn
theorem qA (U:mW A n g) (t:TN) (h:aT t=0) (hn:dR t.f) (hS:SzF t.f) (G:Nat->Prop) (w:World) (a:Option Addr) (c:Nat) (y:Option Addr) (cy:Nat) (hr:aN G w a t.ks) (hA:Wr.ReadsA w y n A) :
 Calls Tryz.prog 191 #[cF t.op t.nm t.n a t.ks.len c,.slice y n cy] w fun e w'=>e=.returned (.tuple #[.int .i64 ((evT g t).getD 0),.bool (evT g t).isSome])/\Below w.heap.size w w':=by
 have B0:=bA0 w (ndG t.op t.nm t.n a t.ks.len c);have N0:=heap_alloc_new w (ndG t.op t.nm t.n a t.ks.len c);have R0:=hr.kept B0;have A0:=hA.kept B0;generalize hW:w.alloc (ndG t.op t.nm t.n a t.ks.len c)=W at B0 N0 R0 A0;have HW:=aA hW;have HB:=aA B0;have CK:=aA (iS t G W a c hS R0);rw [h] at CK;have EV:=aA (fun V (hV:Below W.heap.size W V)=>(BQ U t ((dO t).1 h).1 hn).1 G V a c y cy (R0.kept hV) (A0.kept hV));obtain ⟨q,hq⟩:∃ q,(evT g t).getD 0=q:=⟨_,rfl⟩;obtain ⟨z,hz⟩:∃ z,(evT g t).isSome=z:=⟨_,rfl⟩;rw [hq,hz] at EV |-
 have HN:=aA N0;clear hr hA B0 N0 R0 A0 hW hq hz h;obtain ⟨⟨m0,m1,m2,m3⟩, -⟩:=aL HN.out;go_enter Tryz.func191,Tryz.ntmps191
 go_upto_region 1 with fail
 rw [HW.out];go_wp2_with fail
 refine CK.out.mono ?_;rintro e w1 ⟨rfl,hb⟩;have E1:=aA (EV.out w1 hb);have B1:=aA (HB.out.trans (hb.mono HB.out.size));have N1:=(hb.block _ (aK HN.out)).trans HN.out;clear hb m0 m1 m2 m3 EV CK;obtain ⟨⟨m0,m1,m2,m3⟩, -⟩:=aL N1;clear N1;go_wp2_with fail
 refine E1.out.mono ?_;rintro e w2 ⟨rfl,hb⟩;have B2:=aA (B1.out.trans (hb.mono B1.out.size));clear hb;go_wp2_with fail
 go_ret2;exact ⟨rfl,B2.out⟩
structure RW where
 n:Nat
 A:Nat->Wr.AD
 g:ByteArray->Option Int
def dD (w:World) (a:Option Addr) (rs:List RW):Prop:=rs=[]\/∃ b off,a=some ⟨b,off,none⟩/\b<w.heap.size/\∀ j r,rs[j]? = some r->∃ y cy,w.cell? ⟨b,off+j,none⟩=some (.slice y r.n cy)/\Wr.ReadsA w y r.n r.A
abbrev vlV (k n:Int) (a:Option Addr) (l c:Nat):Value:=.agg #[.int .i64 k,.int .i64 n,.string ⟨#[]⟩,.slice a l c]
def CR (r:EvR) (w0:World) (e:Ending) (w':World):Prop:=Below w0.heap.size w0 w' /\
 match r with
 | .no=>e=.returned (.tuple #[vlV 0 0 none 0 0,.bool false])
 | .num n=>e=.returned (.tuple #[vlV 1 n none 0 0,.bool true])
 | .list l=>∃ a c,e=.returned (.tuple #[vlV 3 0 a l.length c,.bool true])/\(l=[]\/∃ b off,a=some ⟨b,off,none⟩/\w0.heap.size<=b/\b<w'.heap.size/\∀ j n,l[j]? = some n->w'.cell? ⟨b,off+j,none⟩=some (.int .i64 n))
section
variable {s : ES} {k : Nat}
end
section
variable {x : AG} {g : ByteArray -> Option Int} {s : ES} {v : Int}
end
section
variable {G : Nat -> Prop} {w V : World} {x : AG} {p : PA} {T : List Int} {ta : Option Addr} {tc : Nat}
end
def rzK:EvR->Int | .no=>0 | .num _=>1 | .list _=>3
def rzN:EvR->Int | .num n=>n | _=>0
def rzL:EvR->List Int | .list l=>l | _=>[]
def KE:EvR->Bool | .no=>false | _=>true
abbrev rzZ (R:EvR) (j:Nat):Int:=(rzL R).getD j 0
theorem Ht {x:AG} (h:iY x=0) (gs:List (ByteArray->Option Int)):(rzL (evG x gs)).length<=16:=by
 obtain ⟨h1,h2, -⟩:=dU h;unfold dX at h1;simp only [Bool.or_eq_true,beq_iff_eq] at h1;rcases h1 with ((((h1 | h1) | h1) | h1) | h1) | h1
 · rw [uJ h1];exact Nat.zero_le _
 · rw [Hr h1];split <;> exact Nat.zero_le _
 · rw [Hs h1];split <;> exact Nat.zero_le _
 · rw [Cj h1];exact Nat.zero_le _
 · rw [Bl h1];split <;> exact Nat.zero_le _
 · rw [Hq h1]
   have:=h2 h1;simp only [rzL,List.length_drop];omega
theorem Pd {R:EvR} (hl:(rzL R).length<=16) {w0 w':World} {e:Ending} (h:CR R w0 e w'):Below w0.heap.size w0 w'/\∃ a c,e=.returned (.tuple #[vlV (rzK R) (rzN R) a (rzL R).length c,.bool (KE R)])/\Wr.Reads w' a (rzL R).length (rzZ R):=by
 obtain ⟨hb,h⟩:=h;refine ⟨hb,?_⟩;cases R with
 | no=>exact ⟨none,0,h,by unfold maxLen;simp [rzL],.inl rfl⟩
 | num n=>exact ⟨none,0,h,by unfold maxLen;simp [rzL],.inl rfl⟩
 | list l =>
   obtain ⟨a,c,rfl,hx⟩:=h;refine ⟨a,c,rfl,by unfold maxLen;simp only [rzL] at hl |-;omega,hx.imp (fun e=>by rw [e];rfl) ?_⟩;rintro ⟨b,off,rfl, -, -,hc⟩;refine ⟨b,off,rfl,fun j hj=>?_⟩;have hj':j<l.length:=hj;have:=hc j l[j] (List.getElem?_eq_getElem hj');rw [this];simp [rzZ,rzL,List.getD,List.getElem?_eq_getElem hj']
end
end Go.Proofs.YtgfkjkokmcejbaaGreatDoor
namespace Go.Proofs.YtgfkjkokmcejbaaGreatDoor.Wr
open Go.RowKit
section
section
open Go.RowKit
def Nc (F:Nat->Prop) (v:Value):Nat->Prop:=fun k=>F k\/v.ownBlock=some k
end
section
open Go.RowKit
end
section
open Go.RowKit
end
section
open Go.RowKit
end
section
open Go.RowKit
def dA:AD:=⟨⟨#[]⟩,0,0,⟨#[]⟩,0,fun _=>0⟩
def atD (D:List AD) (j:Nat):AD:=D.getD j dA
end
section
open Go.RowKit
def putD (D:List AD) (x:AD):List AD:=if has (nmD D) x.m=true then D.set (pos lsS (nmD D) x.m) x else D.take (pos lsS (nmD D) x.m)++x::D.drop (pos lsS (nmD D) x.m)
end
section
open Go.RowKit
theorem nmD_put {D:List AD} (hr:dC lsS (nmD D)) (x:AD):nmD (putD D x)=oE lsS (nmD D) x.m:=by
 unfold putD oE;by_cases h:has (nmD D) x.m=true
 · rw [if_pos h,if_pos h]
   have hp:=(fA fK hr).1 ((iD _ _).1 h);unfold nmD at *;rw [List.map_set];apply List.ext_getElem?
   intro j;rw [List.getElem?_set];split
   · rename_i hj
     subst hj;rw [hp,if_pos (List.getElem?_eq_some_iff.1 hp).1]
   · rfl
 · rw [if_neg h,if_neg h]
   simp [nmD,List.map_take,List.map_drop]
end
section
open Go.RowKit
end
section
open Go.RowKit
section
variable {P : Program}
end
end
section
open Go.RowKit
section
variable {P : Program}
end
end
section
open Go.RowKit
section
variable {P : Program}
end
end
section
open Go.RowKit
end
end
end Go.Proofs.YtgfkjkokmcejbaaGreatDoor.Wr
namespace Go.Proofs.YtgfkjkokmcejbaaGreatDoor
open Go.RowKit
section
open Go.RowKit
def evA (nm:ByteArray) (R:EvR):Wr.AD:=⟨nm,rzK R,rzN R,⟨#[]⟩,(rzL R).length,rzZ R⟩
def qZ (gs:List (ByteArray->Option Int)):List LN->List Wr.AD->List Wr.AD
 | [],acc=>acc
 | x::r,acc=>qZ gs r (if KE (evG x.a gs)=true then Wr.putD acc (evA x.nm (evG x.a gs)) else acc)
theorem oW {w w':World} {a:Option Addr} {rs:List RW} (h:dD w a rs) (hb:Below w.heap.size w w'):dD w' a rs:=by
 rcases h with h | ⟨b,off,e,hl,hc⟩
 · exact .inl h
 · refine .inr ⟨b,off,e,by have:=hb.size;omega,fun j r hj=>?_⟩
   obtain ⟨y,cy,c,rd⟩:=hc j r hj;exact ⟨y,cy,(hb.cell (p:=⟨b,_,none⟩) hl).trans c,rd.kept hb⟩
theorem Rv {W:World} {B:Nat} {v0 v1 v2 v3:Value} {t:TypeId} (h:W.heap[B]? = some (.cells #[v0,v1,v2,v3] t (0,0))):W.cell? ⟨B,0,none⟩=some v0/\W.cell? ⟨B,1,none⟩=some v1/\W.cell? ⟨B,2,none⟩=some v2/\W.cell? ⟨B,3,none⟩=some v3:=by
 refine ⟨?_,?_,?_,?_⟩ <;> simp [World.cell?,h]
structure RNW (G:Nat->Prop) (w:World) (a:Option Addr) (l:List LN) (ya:Option Addr) (rs:List RW) (oa:Option Addr) (D:List Wr.AD) (V:World):Prop where
 b:Below w.heap.size w V
 l:dH G V a l
 y:dD V ya rs
 o:Wr.ReadsA V oa D.length (Wr.atD D)
theorem RNW.step {G:Nat->Prop} {w V V':World} {a ya oa:Option Addr} {l:List LN} {rs:List RW} {D:List Wr.AD} (h:RNW G w a l ya rs oa D V) (hb:Below V.heap.size V V'):RNW G w a l ya rs oa D V' :=
 ⟨h.b.trans (hb.mono h.b.size),h.l.kept hb,oW h.y hb,h.o.kept hb⟩
def kP (x:List UInt8):Bool:=x == dJ
def bP (x:List UInt8):Bool:=x == aW
def eP (x:List UInt8):Bool:=dX x && !(x == aO)
def bK (L:List Tk) (p:Nat):Tk:=(L[p]?).getD ⟨0,[],0,0⟩
def atR (s:RS):Nat:=if s.bad=0 then s.pos else s.whr
def bT (so:Bool) (e:Int) (s:RS):RS:=if so=true then s else aM e s
def goR (s:RS):RS:=if s.bad=0 then aJ s else s
theorem lB {s:RS} (h:s.bad=0):atR s=s.pos:=if_pos h
theorem rZ {s:RS} (h:¬ s.bad=0):atR s=s.whr:=if_neg h
theorem qP {e:Int} {s:RS} (h:¬ s.bad=0):aM e s=s:=if_neg h
theorem O9 (e:Int) (he:¬ e=0) (s:RS):atR (aM e s)=atR s:=by
 unfold aM;by_cases h:s.bad=0
 · rw [if_pos h,lB h,rZ he]
 · rw [if_neg h]
theorem Et {s:RS} (h:s.bad=0):goR s=aJ s:=if_pos h
theorem gN {s:RS} (h:¬ s.bad=0):goR s=s:=if_neg h
theorem kV (e:Int) (s:RS):bT true e s=s:=rfl
theorem iA (e:Int) (s:RS):bT false e s=aM e s:=rfl
theorem OR (L:List Tk) (x:List UInt8) (p:Nat):isS L x p=((bK L p).kind == 3 && (bK L p).text == x):=by
 unfold isS bK;cases L[p]? with
 | none=>rfl
 | some t=>rfl
theorem Ke (L:List Tk) (x:List UInt8) (p:Nat):dS L x p=((bK L p).kind == 1 && (bK L p).text == x):=by
 unfold dS bK;cases L[p]? with
 | none=>rfl
 | some t=>rfl
theorem NE (L:List Tk) (x:List UInt8) (s:RS):goR (bT ((bK L (atR s)).kind == 3 && (bK L (atR s)).text == x) 2 s)=aS L x s:=by
 unfold aS;by_cases h:s.bad=0
 · rw [if_pos h,lB h, <- OR]
   cases hs:isS L x s.pos with
   | true=>rw [kV,Et h,if_pos rfl]
   | false =>
     rw [iA,if_neg (by decide)];refine gN ?_;unfold aM;rw [if_pos h];show ¬ (2:Int)=0;decide
 · rw [if_neg h]
   have:bT ((bK L (atR s)).kind == 3 && (bK L (atR s)).text == x) 2 s=s:=by
    unfold bT;split
    · rfl
    · exact qP h
   rw [this,gN h]
def sG (L:List Tk) (s:RS):RS:=goR (bT (decide (1<=(bK L (atR s)).num) && decide ((bK L (atR s)).num<=16)) 1 (bT ((bK L (atR s)).kind == 2) 2 s))
theorem iB {so:Bool} {e:Int} {s:RS} (h:¬ s.bad=0):bT so e s=s:=by
 unfold bT;split
 · rfl
 · exact qP h
theorem dG {e:Int} (he:¬ e=0) {s:RS} (h:s.bad=0):¬ (aM e s).bad=0:=by unfold aM;rw [if_pos h];exact he
def oH (s t:RS):Prop:=atR s=atR t/\s.bad=t.bad
theorem oH.refl (s:RS):oH s s:=⟨rfl,rfl⟩
theorem Kq (L:List Tk) (s:RS):oH (sG L s) (jQ L s).2/\((sG L s).bad=0->sG L s=(jQ L s).2/\(jQ L s).1=(bK L (atR s)).num):=by
 unfold sG jQ;by_cases h:s.bad=0
 · rw [if_pos h,lB h]
   unfold bK;cases ht:L[s.pos]? with
   | none =>
     have e:bT ((none.getD (⟨0,[],0,0⟩:Tk)).kind == 2) 2 s=aM 2 s:=rfl;rw [e,iB (dG (by decide) h),gN (dG (by decide) h)];exact ⟨oH.refl _,fun h'=>absurd h' (dG (by decide) h)⟩
   | some t =>
     show oH (goR (bT (decide (1<=t.num) && decide (t.num<=16)) 1 (bT (t.kind == 2) 2 s))) _/\_;by_cases hk:t.kind=2
     · have e:(t.kind == 2)=true:=by rw [hk];rfl
       simp only [Option.getD_some];rw [e,kV];try simp only
       rw [if_pos hk];by_cases hn:t.num<1\/16<t.num
       · have e2:(decide (1<=t.num) && decide (t.num<=16))=false:=by
          rcases hn with hn | hn
          · rw [decide_eq_false (by omega),Bool.false_and]
          · rw [decide_eq_false (p:=t.num<=16) (by omega),Bool.and_false]
         rw [e2,iA,gN (dG (by decide) h)];try simp only
         rw [if_pos hn];refine ⟨⟨?_,rfl⟩,fun h'=>absurd h' (dG (by decide) h)⟩;have hb:¬ (aJ (aM 1 s)).bad=0:=dG (by decide) h;rw [rZ (dG (by decide) h),rZ hb];rfl
       · have e2:(decide (1<=t.num) && decide (t.num<=16))=true:=by rw [decide_eq_true (by omega),decide_eq_true (by omega)];rfl
         rw [e2,kV,Et h];try simp only
         rw [if_neg hn];exact ⟨oH.refl _,fun _=>by first | exact ⟨rfl,rfl⟩ | exact ⟨trivial,rfl⟩ | exact ⟨rfl,trivial⟩⟩
     · have e:(t.kind == 2)=false:=beq_eq_false_iff_ne.2 hk
       simp only [Option.getD_some];rw [e,iA,iB (dG (by decide) h),gN (dG (by decide) h)];try simp only
       rw [if_neg hk];exact ⟨oH.refl _,fun h'=>absurd h' (dG (by decide) h)⟩
 · rw [if_neg h,iB h,iB h,gN h]
   exact ⟨oH.refl _,fun h'=>absurd h' h⟩
theorem An {L:List Tk} {x:List UInt8} {s:RS} (h:¬ s.bad=0):¬ (aS L x s).bad=0:=by rw [fO h];exact h
theorem JP {L:List Tk} {s:RS} (h:¬ s.bad=0):¬ (aZ L s).2.bad=0:=by rw [fT h];exact h
theorem AM {L:List Tk} {x:List UInt8} {s t:RS} (h:oH s t) (he:s.bad=0->s=t):oH (aS L x s) (aS L x t)/\((aS L x s).bad=0->aS L x s=aS L x t):=by
 by_cases hb:s.bad=0
 · rw [he hb];exact ⟨oH.refl _,fun _=>rfl⟩
 · have hc:¬ t.bad=0:=by rw [<- h.2];exact hb
   rw [fO hb,fO hc];exact ⟨h,fun h'=>absurd h' hb⟩
theorem I6 {L:List Tk} {s t:RS} (h:oH s t) (he:s.bad=0->s=t):oH (aZ L s).2 (aZ L t).2/\((aZ L s).2.bad=0->aZ L s=aZ L t):=by
 by_cases hb:s.bad=0
 · rw [he hb];exact ⟨oH.refl _,fun _=>rfl⟩
 · have hc:¬ t.bad=0:=by rw [<- h.2];exact hb
   rw [fT hb,fT hc];exact ⟨h,fun h'=>absurd h' hb⟩
def rB (L:List Tk) (fn:List UInt8) (s:RS):RS:=if kP fn=true then aS L [44] (sG L s) else s
def r8 (L:List Tk) (fn:List UInt8) (s:RS):TN×RS:=if eP fn=true then aZ L s else (aC,s)
def uP (L:List Tk) (fn:List UInt8) (s:RS):TN×RS:=if bP fn=true then aZ L (aS L [44] s) else (aC,s)
def jN (L:List Tk) (fn:List UInt8) (s:RS):RS:=(uP L fn (r8 L fn (rB L fn s)).2).2
theorem Bv (L:List Tk) (fn:List UInt8) {s:RS} (h:¬ s.bad=0):jN L fn s=s:=by
 have h1:sG L s=s:=by unfold sG;rw [iB h,iB h,gN h]
 have e1:rB L fn s=s:=by
  unfold rB;split
  · rw [h1,fO h]
  · rfl
 have e2:(r8 L fn s).2=s:=by
  unfold r8;split
  · rw [fT h]
  · rfl
 have e3:(uP L fn s).2=s:=by
  unfold uP;split
  · rw [fO h,fT h]
  · rfl
 unfold jN;rw [e1,e2,e3]
theorem J8 (L:List Tk) (fn:List UInt8) (hf:dX fn=true) (s:RS):oH (jN L fn s) (bG L fn s).2/\((jN L fn s).bad=0->jN L fn s=(bG L fn s).2 /\
 (bG L fn s).1=((if kP fn=true then (bK L (atR s)).num else 0),(r8 L fn (rB L fn s)).1,(uP L fn (r8 L fn (rB L fn s)).2).1)):=by
 by_cases hc:fn=aO
 · subst hc
   have e1:bG L aO s=((0,aC,aC),s):=if_pos rfl;rw [e1];exact ⟨oH.refl _,fun _=>by first | exact ⟨rfl,rfl⟩ | exact ⟨trivial,rfl⟩ | exact ⟨rfl,trivial⟩⟩
 have he:eP fn=true:=by unfold eP;rw [hf,beq_eq_false_iff_ne.2 hc];rfl
 have A1:bG L fn s=(let p:=if fn=dJ then ((jQ L s).1,aS L [44] (jQ L s).2) else (0,s);let e:=aZ L p.2;if fn=aW then (let g:=aZ L (aS L [44] e.2);((p.1,e.1,g.1),g.2)) else ((p.1,e.1,aC),e.2)):=if_neg hc;rw [A1];have hE:∀ u,r8 L fn u=aZ L u:=fun u=>if_pos he
 by_cases ht:fn=dJ
 · have hb:¬ fn=aW:=by rw [ht];decide
   have k1:kP fn=true:=by unfold kP;rw [ht];decide
   have b1:¬ bP fn=true:=by unfold bP;rw [ht];decide
   have hB:∀ u,uP L fn u=(aC,u):=fun u=>if_neg b1
   have hK:rB L fn s=aS L [44] (sG L s):=if_pos k1;simp only [if_pos ht,if_neg hb,if_pos k1];unfold jN;rw [hB,hE,hK];obtain ⟨l1,h1⟩:=Kq L s;obtain ⟨l2,h2⟩:=AM (L:=L) (x:=[44]) l1 (fun h=>(h1 h).1);obtain ⟨l3,h3⟩:=I6 (L:=L) l2 h2;refine ⟨l3,fun h=>⟨by rw [h3 h],?_⟩⟩;have hw:(aS L [44] (sG L s)).bad=0:=Decidable.byContradiction fun hx=>JP hx h
   have ht0:(sG L s).bad=0:=Decidable.byContradiction fun hx=>An hx hw
   rw [(h1 ht0).2,h3 h]
 · have k1:¬ kP fn=true:=by unfold kP;rw [beq_eq_false_iff_ne.2 ht];decide
   have hK:rB L fn s=s:=if_neg k1;simp only [if_neg ht,if_neg k1];unfold jN;rw [hK,hE];by_cases hb:fn=aW
   · have b1:bP fn=true:=by unfold bP;rw [hb];decide
     have hB:∀ u,uP L fn u=aZ L (aS L [44] u):=fun u=>if_pos b1
     rw [hB,if_pos hb];exact ⟨oH.refl _,fun _=>by first | exact ⟨rfl,rfl⟩ | exact ⟨trivial,rfl⟩ | exact ⟨rfl,trivial⟩⟩
   · have b1:¬ bP fn=true:=by unfold bP;rw [beq_eq_false_iff_ne.2 hb];decide
     have hB:∀ u,uP L fn u=(aC,u):=fun u=>if_neg b1
     rw [hB,if_neg hb];exact ⟨oH.refl _,fun _=>by first | exact ⟨rfl,rfl⟩ | exact ⟨trivial,rfl⟩ | exact ⟨rfl,trivial⟩⟩
inductive E4 | bad (p:Nat) (e:Int) | ok (l:List CD)
def eY (L:List Tk):Nat->List CD->RS->E4
 | 0,_,_=>.bad 0 0
 | f + 1, acc, s =>
   if ¬ s.bad=0 then .bad s.whr s.bad else
   if L.length<=s.pos then .ok acc else
   if dS L (if acc.length=0 then eT else lV) s.pos=false then .bad s.pos 2 else
   if 4<=acc.length then .bad s.pos 4 else
   eY L f (acc++[(bV L (aJ s)).1]) (bV L (aJ s)).2
def Cq (L:List Tk) (c:List CD×RS):E4:=if ¬ c.2.bad=0 then .bad c.2.whr c.2.bad else if c.2.pos<L.length then .bad c.2.pos 2 else .ok c.1
theorem EI (L:List Tk):∀ (f:Nat) (acc:List CD) (s:RS),acc.length+f=5->acc.length<=4->s.bad=0->dS L (if acc.length=0 then eT else lV) s.pos=true->Cq L (eQ L f acc s)=eY L (f+1) acc s
 | 0,acc,s,hl,h4,hb,hw=>by omega
 | f + 1, acc, s, hl, h44, hb, hw => by
   have hlt:=By hw;rw [eY,if_neg (not_not_intro hb),if_neg (show ¬ L.length<=s.pos by omega),hw,if_neg (by decide)];rw [eQ];by_cases h4:acc.length=4
   · rw [if_pos h4,if_pos (show 4<=acc.length by omega)]
     unfold Cq;rw [if_pos (dG (by decide) hb)];unfold aM;rw [if_pos hb]
   · rw [if_neg h4,if_neg (show ¬ 4<=acc.length by omega)]
     try simp only
     obtain ⟨c,t,hc⟩:∃ c t,bV L (aJ s)=(c,t):=⟨_,_,rfl⟩;rw [hc];try simp only
     by_cases hg:(t.bad == 0 && dS L lV t.pos)=true
     · rw [if_pos hg]
       rw [Bool.and_eq_true,beq_iff_eq] at hg;refine EI L f _ _ (by rw [List.length_append,List.length_singleton];omega) (by rw [List.length_append,List.length_singleton];omega) hg.1 ?_;rw [if_neg (by rw [List.length_append,List.length_singleton];omega)];exact hg.2
     · rw [if_neg hg]
       cases f with
       | zero=>omega
       | succ f =>
         rw [eY];unfold Cq;try simp only
         by_cases ht:t.bad=0
         · rw [if_neg (not_not_intro ht),if_neg (not_not_intro ht)]
           have hw2:dS L lV t.pos=false:=by
            cases h:dS L lV t.pos with
            | false=>rfl
            | true=>exact absurd (by rw [h,Bool.and_true,beq_iff_eq];exact ht) hg
           by_cases hp:t.pos<L.length
           · rw [if_pos hp,if_neg (show ¬ L.length<=t.pos by omega),if_neg (c:=(acc++[c]).length=0) (by rw [List.length_append,List.length_singleton];omega),hw2,if_pos rfl]
           · rw [if_neg hp,if_pos (show L.length<=t.pos by omega)]
         · rw [if_pos ht,if_pos ht]
def gZ (L:List Tk):RS:=goR (bT (dX (bK L 0).text) 5 (bT ((bK L 0).kind == 1) 2 ⟨0,0,0,0⟩))
def sZ (L:List Tk):RS:=aS L [40] (gZ L)
def oQ (L:List Tk):RS:=aS L [41] (jN L (bK L 0).text (sZ L))
def Ay (L:List Tk) (l:List CD):AG :=
 let fn:=(bK L 0).text
 let s:=sZ L
 ⟨⟨fn.toArray⟩,if kP fn=true then (bK L (atR s)).num else 0,(r8 L fn (rB L fn s)).1,(uP L fn (r8 L fn (rB L fn s)).2).1,l⟩
def agS (L:List Tk):oD:=match eY L 6 [] (oQ L) with | .bad p e=>.bad p e | .ok l=>.ok (Ay L l)
theorem fW {L:List Tk} {f:Nat} {acc:List CD} {s:RS} (h:¬ s.bad=0):eY L (f+1) acc s=.bad s.whr s.bad:=by rw [eY,if_pos h]
theorem Cx {L:List Tk} (h:¬ (gZ L).bad=0):agS L=.bad (gZ L).whr (gZ L).bad:=by
 have e1:sZ L=gZ L:=fO h;have e2:oQ L=gZ L:=by unfold oQ;rw [e1,Bv L _ h,fO h]
 unfold agS;rw [e2,fW h]
theorem QU (L:List Tk):agL L=agS L:=by
 unfold agL;cases h0:L[0]? with
 | none =>
   have e:gZ L=aM 2 ⟨0,0,0,0⟩:=by
    unfold gZ bK;rw [h0];rfl
   have hb:¬ (gZ L).bad=0:=by rw [e];exact dG (by decide) rfl
   rw [Cx hb,e];rfl
 | some t =>
   have ht:bK L 0=t:=by unfold bK;rw [h0];rfl
   simp only;by_cases hk:t.kind=1
   · have e1:(t.kind == 1)=true:=by rw [hk];rfl
     rw [if_neg (not_not_intro hk)];cases hf:dX t.text with
     | false =>
       have e:gZ L=aM 5 ⟨0,0,0,0⟩:=by
        unfold gZ;rw [ht,e1,hf];rfl
       have hb:¬ (gZ L).bad=0:=by rw [e];exact dG (by decide) rfl
       rw [Cx hb,e,if_pos rfl];rfl
     | true =>
       have e:gZ L=⟨1,0,0,0⟩:=by
        unfold gZ;rw [ht,e1,hf];rfl
       have eh:sZ L=aS L [40] ⟨1,0,0,0⟩:=by unfold sZ;rw [e]
       rw [if_neg (by decide)];obtain ⟨s1,h1⟩:∃ s,aS L [40] ⟨1,0,0,0⟩=s:=⟨_,rfl⟩;rw [h1] at eh |-
       by_cases hb:s1.bad=0
       · rw [if_neg (not_not_intro hb)]
         obtain ⟨l2,h2⟩:=J8 L t.text hf s1;obtain ⟨l3,h3⟩:=AM (L:=L) (x:=[41]) l2 (fun h=>(h2 h).1);have et:oQ L=aS L [41] (jN L t.text s1):=by unfold oQ;rw [eh,ht]
         by_cases hb3:(aS L [41] (jN L t.text s1)).bad=0
         · have ha:(jN L t.text s1).bad=0:=Decidable.byContradiction fun hx=>An hx hb3
           have es:=h3 hb3;have ev:=(h2 ha).2;obtain ⟨s3,hs3⟩:∃ s,aS L [41] (jN L t.text s1)=s:=⟨_,rfl⟩;rw [hs3] at es et hb3;try simp only
           rw [<- es,if_neg (not_not_intro hb3)];unfold agS;rw [et,ev]
           have er:∀ l,Ay L l=⟨⟨t.text.toArray⟩,if kP t.text=true then (bK L (atR s1)).num else 0,(r8 L t.text (rB L t.text s1)).1,(uP L t.text (r8 L t.text (rB L t.text s1)).2).1,l⟩:=fun l=>by
            unfold Ay;rw [ht,eh]
           simp only [er];by_cases hl:L.length<=s3.pos
           · rw [if_pos hl,eY,if_neg (not_not_intro hb3),if_pos hl]
           · rw [if_neg hl]
             cases hw:dS L eT s3.pos with
             | false =>
               rw [if_pos rfl,eY,if_neg (not_not_intro hb3),if_neg hl,if_pos (show ([]:List CD).length=0 from rfl),hw,if_pos rfl]
             | true =>
               rw [if_neg (by decide), <- EI L 5 [] s3 rfl (by decide) hb3 (by rw [if_pos (show ([]:List CD).length=0 from rfl)];exact hw)];unfold Cq;obtain ⟨c,hc⟩:∃ c,eQ L 5 [] s3=c:=⟨_,rfl⟩;rw [hc];by_cases h5:c.2.bad=0
               · rw [if_neg (not_not_intro h5),if_neg (not_not_intro h5)]
                 by_cases h6:c.2.pos<L.length
                 · rw [if_pos h6,if_pos h6]
                 · rw [if_neg h6,if_neg h6]
               · rw [if_pos h5,if_pos h5]
         · have hb4:¬ (aS L [41] (bG L t.text s1).2).bad=0:=by rw [<- l3.2];exact hb3
           try simp only
           rw [if_pos hb4];unfold agS;rw [et,fW hb3,l3.2];have:=l3.1;rw [rZ hb3,rZ hb4] at this;rw [this]
       · rw [if_pos hb]
         have et:oQ L=s1:=by unfold oQ;rw [eh,Bv L _ hb,fO hb]
         unfold agS;rw [et,fW hb]
   · have e1:(t.kind == 1)=false:=beq_eq_false_iff_ne.2 hk
     have e:gZ L=aM 2 ⟨0,0,0,0⟩:=by
      unfold gZ;rw [ht,e1,iA,iB (dG (by decide) rfl),gN (dG (by decide) rfl)]
     have hb:¬ (gZ L).bad=0:=by rw [e];exact dG (by decide) rfl
     rw [if_pos hk,Cx hb,e];rfl
abbrev ptV (x:List UInt8):Value:=.agg #[.bool (kP x),.bool (eP x),.bool (bP x)]
abbrev ptO (k e b:Bool):Obj:=.cells #[.bool k,.bool e,.bool b] 212
theorem dV {W:World} {B:Nat} {x0 x1 x2:Value} {t:TypeId} (h:W.heap[B]? = some (.cells #[x0,x1,x2] t (0,0))) :
 (W.cell? ⟨B,0,none⟩=some x0/\W.cell? ⟨B,1,none⟩=some x1/\W.cell? ⟨B,2,none⟩=some x2)/\W.frozen? ⟨B,0,none⟩=false/\W.frozen? ⟨B,1,none⟩=false/\W.frozen? ⟨B,2,none⟩=false:=by
 refine ⟨⟨?_,?_,?_⟩,?_,?_,?_⟩ <;> simp [World.cell?,World.frozen?,h]
theorem iN {W:World} {B:Nat} {x0 x1 x2:Value} {t:TypeId} (h:W.heap[B]? = some (.cells #[x0,x1,x2] t (0,0))) (v0 v1 v2:Value) :
 (((W.setCell ⟨B,0,none⟩ v0).setCell ⟨B,1,none⟩ v1).setCell ⟨B,2,none⟩ v2).heap[B]? = some (.cells #[v0,v1,v2] t (0,0)):=by
 have h0:=heap_setCell_same W B 0 _ t v0 h;have g0:(W.setCell ⟨B,0,none⟩ v0).heap[B]? = some (.cells #[v0,x1,x2] t (0,0)):=by simpa using h0
 have h1:=heap_setCell_same _ B 1 _ t v1 g0;have g1:((W.setCell ⟨B,0,none⟩ v0).setCell ⟨B,1,none⟩ v1).heap[B]? = some (.cells #[v0,v1,x2] t (0,0)):=by simpa using h1
 have h2:=heap_setCell_same _ B 2 _ t v2 g1;simpa using h2
theorem iV (W:World) (B:Nat) (v0 v1 v2:Value):aD (· = B) W (((W.setCell ⟨B,0,none⟩ v0).setCell ⟨B,1,none⟩ v1).setCell ⟨B,2,none⟩ v2) :=
 (((aD.refl (· = B) W).setCell (p:=⟨B,0,none⟩) (.inl rfl) v0).setCell (p:=⟨B,1,none⟩) (.inl rfl) v1).setCell (p:=⟨B,2,none⟩) (.inl rfl) v2
theorem mE (o:ByteArray) (w:World):Calls Tryz.prog 130 #[.string o] w fun e w'=>e=.returned (.tuple #[ptV o.data.toList,.bool (dX o.data.toList)])/\Below w.heap.size w w':=by
 unfold ptV;have B1:=bA0 w (ptO false false false);have N1:=heap_alloc_new w (ptO false false false);have hs0:(w.alloc (ptO false false false)).heap.size=w.heap.size+1:=World.size_alloc _ _;generalize hW:w.alloc (ptO false false false)=W at *;have HW:=aA hW;have HB:=aA B1;have HN:=aA N1;obtain ⟨⟨m0,m1,m2⟩,f0,f1,f2⟩:=dV N1;clear hW B1 N1;cases h0:(o.data.toList == aO) with
 | true =>
   have g0:=bQ h0;unfold aO at g0;have hE:o.data.toList=aO:=by simpa using h0
   rw [show kP o.data.toList=false by rw [hE];decide,show eP o.data.toList=false by rw [hE];decide,show bP o.data.toList=false by rw [hE];decide,show dX o.data.toList=true by rw [hE];decide];clear hE;clear h0;go_enter Tryz.func130,Tryz.ntmps130
   go_upto_region 1 with fail
   rw [HW.out];go_wp2_with fail
   obtain ⟨⟨d0,d1,d2⟩, -⟩:=dV (iN HN.out (.bool false) (.bool false) (.bool false));exact bodyPost_ret (v:=.tuple #[.agg #[.bool false,.bool false,.bool false],.bool true]) (by simp [results,Tryz.results130,go_sem,d0,d1,d2]) rfl ⟨rfl,HB.out.trans ((iV W w.heap.size _ _ _).below (fun i hi=>by omega) (by omega))⟩
 | false =>
   cases h1:(o.data.toList == lU) with
   | true =>
     have g0:=aI h0;unfold aO at g0;have g1:=bQ h1;unfold lU at g1;have hE:o.data.toList=lU:=by simpa using h1
     rw [show kP o.data.toList=false by rw [hE];decide,show eP o.data.toList=true by rw [hE];decide,show bP o.data.toList=false by rw [hE];decide,show dX o.data.toList=true by rw [hE];decide];clear hE;clear h0 h1;go_enter Tryz.func130,Tryz.ntmps130
     go_upto_region 1 with fail
     rw [HW.out];go_wp2_with fail
     obtain ⟨⟨d0,d1,d2⟩, -⟩:=dV (iN HN.out (.bool false) (.bool true) (.bool false));exact bodyPost_ret (v:=.tuple #[.agg #[.bool false,.bool true,.bool false],.bool true]) (by simp [results,Tryz.results130,go_sem,d0,d1,d2]) rfl ⟨rfl,HB.out.trans ((iV W w.heap.size _ _ _).below (fun i hi=>by omega) (by omega))⟩
   | false =>
     cases h2:(o.data.toList == oK) with
     | true =>
       have g0:=aI h0;unfold aO at g0;have g1:=aI h1;unfold lU at g1;have g2:=bQ h2;unfold oK at g2;have hE:o.data.toList=oK:=by simpa using h2
       rw [show kP o.data.toList=false by rw [hE];decide,show eP o.data.toList=true by rw [hE];decide,show bP o.data.toList=false by rw [hE];decide,show dX o.data.toList=true by rw [hE];decide];clear hE;clear h0 h1 h2;go_enter Tryz.func130,Tryz.ntmps130
       go_upto_region 1 with fail
       rw [HW.out];go_wp2_with fail
       obtain ⟨⟨d0,d1,d2⟩, -⟩:=dV (iN HN.out (.bool false) (.bool true) (.bool false));exact bodyPost_ret (v:=.tuple #[.agg #[.bool false,.bool true,.bool false],.bool true]) (by simp [results,Tryz.results130,go_sem,d0,d1,d2]) rfl ⟨rfl,HB.out.trans ((iV W w.heap.size _ _ _).below (fun i hi=>by omega) (by omega))⟩
     | false =>
       cases h3:(o.data.toList == lT) with
       | true =>
         have g0:=aI h0;unfold aO at g0;have g1:=aI h1;unfold lU at g1;have g2:=aI h2;unfold oK at g2;have g3:=bQ h3;unfold lT at g3;have hE:o.data.toList=lT:=by simpa using h3
         rw [show kP o.data.toList=false by rw [hE];decide,show eP o.data.toList=true by rw [hE];decide,show bP o.data.toList=false by rw [hE];decide,show dX o.data.toList=true by rw [hE];decide];clear hE;clear h0 h1 h2 h3;go_enter Tryz.func130,Tryz.ntmps130
         go_upto_region 1 with fail
         rw [HW.out];go_wp2_with fail
         obtain ⟨⟨d0,d1,d2⟩, -⟩:=dV (iN HN.out (.bool false) (.bool true) (.bool false));exact bodyPost_ret (v:=.tuple #[.agg #[.bool false,.bool true,.bool false],.bool true]) (by simp [results,Tryz.results130,go_sem,d0,d1,d2]) rfl ⟨rfl,HB.out.trans ((iV W w.heap.size _ _ _).below (fun i hi=>by omega) (by omega))⟩
       | false =>
         cases h4:(o.data.toList == aW) with
         | true =>
           have g0:=aI h0;unfold aO at g0;have g1:=aI h1;unfold lU at g1;have g2:=aI h2;unfold oK at g2;have g3:=aI h3;unfold lT at g3;have g4:=bQ h4;unfold aW at g4;have hE:o.data.toList=aW:=by simpa using h4
           rw [show kP o.data.toList=false by rw [hE];decide,show eP o.data.toList=true by rw [hE];decide,show bP o.data.toList=true by rw [hE];decide,show dX o.data.toList=true by rw [hE];decide];clear hE;clear h0 h1 h2 h3 h4;go_enter Tryz.func130,Tryz.ntmps130
           go_upto_region 1 with fail
           rw [HW.out];go_wp2_with fail
           obtain ⟨⟨d0,d1,d2⟩, -⟩:=dV (iN HN.out (.bool false) (.bool true) (.bool true));exact bodyPost_ret (v:=.tuple #[.agg #[.bool false,.bool true,.bool true],.bool true]) (by simp [results,Tryz.results130,go_sem,d0,d1,d2]) rfl ⟨rfl,HB.out.trans ((iV W w.heap.size _ _ _).below (fun i hi=>by omega) (by omega))⟩
         | false =>
           cases h5:(o.data.toList == dJ) with
           | true =>
             have g0:=aI h0;unfold aO at g0;have g1:=aI h1;unfold lU at g1;have g2:=aI h2;unfold oK at g2;have g3:=aI h3;unfold lT at g3;have g4:=aI h4;unfold aW at g4;have g5:=bQ h5;unfold dJ at g5;have hE:o.data.toList=dJ:=by simpa using h5
             rw [show kP o.data.toList=true by rw [hE];decide,show eP o.data.toList=true by rw [hE];decide,show bP o.data.toList=false by rw [hE];decide,show dX o.data.toList=true by rw [hE];decide];clear hE;clear h0 h1 h2 h3 h4 h5;go_enter Tryz.func130,Tryz.ntmps130
             go_upto_region 1 with fail
             rw [HW.out];go_wp2_with fail
             obtain ⟨⟨d0,d1,d2⟩, -⟩:=dV (iN HN.out (.bool true) (.bool true) (.bool false));exact bodyPost_ret (v:=.tuple #[.agg #[.bool true,.bool true,.bool false],.bool true]) (by simp [results,Tryz.results130,go_sem,d0,d1,d2]) rfl ⟨rfl,HB.out.trans ((iV W w.heap.size _ _ _).below (fun i hi=>by omega) (by omega))⟩
           | false =>
             have g0:=aI h0;unfold aO at g0;have g1:=aI h1;unfold lU at g1;have g2:=aI h2;unfold oK at g2;have g3:=aI h3;unfold lT at g3;have g4:=aI h4;unfold aW at g4;have g5:=aI h5;unfold dJ at g5;have hF:dX o.data.toList=false:=by unfold dX;rw [h0,h1,h2,h3,h4,h5];rfl
             rw [show kP o.data.toList=false from h5,show eP o.data.toList=false by unfold eP;rw [hF];rfl,show bP o.data.toList=false from h4,hF];clear hF;clear h0 h1 h2 h3 h4 h5;go_enter Tryz.func130,Tryz.ntmps130
             go_upto_region 1 with fail
             rw [HW.out];go_wp2_with fail
             obtain ⟨⟨d0,d1,d2⟩, -⟩:=dV (iN HN.out (.bool false) (.bool false) (.bool false));exact bodyPost_ret (v:=.tuple #[.agg #[.bool false,.bool false,.bool false],.bool false]) (by simp [results,Tryz.results130,go_sem,d0,d1,d2]) rfl ⟨rfl,HB.out.trans ((iV W w.heap.size _ _ _).below (fun i hi=>by omega) (by omega))⟩
theorem D6 (k:Int) (w:World):Calls Tryz.prog 187 #[.int .i64 k] w fun e w'=>e=.returned (.bool (decide (1<=k) && decide (k<=16)))/\w=w':=by
 by_cases h:1<=k
 · rw [decide_eq_true h,Bool.true_and]
   go_enter Tryz.func187,Tryz.ntmps187
   go_wp2_with fail
   go_ret;exact ⟨rfl,rfl⟩
 · rw [decide_eq_false h,Bool.false_and]
   have h2:decide (1<=k)=false:=decide_eq_false h;go_enter Tryz.func187,Tryz.ntmps187
   go_wp2_with fail
   go_ret;exact ⟨rfl,rfl⟩
theorem AJ (o:ByteArray) (w:World):Calls Tryz.prog 189 #[.string o] w fun e w'=>e=.returned (.bool (bD o 0 0).isSome)/\w=w':=by
 have C:=aA (xO o 0 0 w);obtain ⟨z,hz⟩:∃ z,(bD o 0 0).isSome=z:=⟨_,rfl⟩;obtain ⟨y,hy⟩:∃ y,(bD o 0 0).getD false=y:=⟨_,rfl⟩;rw [hz,hy] at C;rw [hz];clear hz hy;go_enter Tryz.func189,Tryz.ntmps189
 go_wp2_with fail
 refine C.out.mono ?_;rintro e w1 ⟨rfl,rfl⟩;clear C;go_wp2_with fail
 go_ret;exact ⟨rfl,rfl⟩
def Ck (d:CD):Int:=if (bD d.op 0 0).isSome=false then 5 else if aT d.a=0 then aT d.b else aT d.a
theorem MF (d:CD) (r:List CD):gD (d::r)=if Ck d=0 then gD r else Ck d:=by
 rw [gD];unfold Ck;by_cases hz:(bD d.op 0 0).isSome=false
 · rw [if_pos hz,if_pos hz,if_neg (show ¬ (5:Int)=0 by decide)]
 · rw [if_neg hz,if_neg hz]
   by_cases h:aT d.a=0
   · rw [if_pos h,if_pos h]
   · rw [if_neg h,if_neg h,if_neg h]
abbrev cdX (d:CD) (a1:Option Addr) (c1:Nat) (a2:Option Addr) (c2:Nat):Obj:=.cells #[.string d.op,.string d.a.op,.string d.a.nm,.int .i64 d.a.n,.slice a1 d.a.ks.len c1,.string d.b.op,.string d.b.nm,.int .i64 d.b.n,.slice a2 d.b.ks.len c2] 144
theorem Ai (d:CD) (G:Nat->Prop) (w:World) (a1:Option Addr) (c1:Nat) (a2:Option Addr) (c2:Nat) (h1:SzF d.a.f) (h2:SzF d.b.f) (r1:aN G w a1 d.a.ks) (r2:aN G w a2 d.b.ks) :
 Calls Tryz.prog 138 #[cdV d a1 c1 a2 c2] w fun e w'=>e=.returned (.int .i64 (Ck d))/\Below w.heap.size w w':=by
 have B0:=bA0 w (cdX d a1 c1 a2 c2);have N0:=heap_alloc_new w (cdX d a1 c1 a2 c2);have hs0:(w.alloc (cdX d a1 c1 a2 c2)).heap.size=w.heap.size+1:=World.size_alloc _ _;have R1:=aA (r1.kept B0);have R2:=aA (r2.kept B0);generalize hW:w.alloc (cdX d a1 c1 a2 c2)=W at *;have HW:=aA hW;have HB:=aA B0;have HN:=aA N0;have CO:=aA (AJ d.op W);have CA:=aA (iS d.a G W a1 c1 h1 R1.out);have CB:=aA (fun V (hV:Below W.heap.size W V)=>iS d.b G V a2 c2 h2 (R2.out.kept hV));obtain ⟨z,hz⟩:∃ z,(bD d.op 0 0).isSome=z:=⟨_,rfl⟩;obtain ⟨e1,he1⟩:∃ e,aT d.a=e:=⟨_,rfl⟩;obtain ⟨e2,he2⟩:∃ e,aT d.b=e:=⟨_,rfl⟩;obtain ⟨r,hr⟩:∃ r,Ck d=r:=⟨_,rfl⟩;rw [hr];unfold Ck at hr;rw [hz,he1,he2] at hr;have HR:=aA hr;rw [hz] at CO;rw [he1] at CA;rw [he2] at CB;obtain ⟨p0,p1,p2,p3,p4,p5,p6,p7,p8⟩:=gT N0;clear hW B0 N0 h1 h2 r1 r2 hz he1 he2 hr;go_enter Tryz.func138,Tryz.ntmps138
 go_upto_region 1 with fail
 rw [show w.alloc (.cells #[.string d.op,.string d.a.op,.string d.a.nm,.int .i64 d.a.n,.slice a1 d.a.ks.len c1,.string d.b.op,.string d.b.nm,.int .i64 d.b.n,.slice a2 d.b.ks.len c2] 144)=W from HW.out];go_wp2_with fail
 refine CO.out.mono ?_;rintro e w1 ⟨rfl,rfl⟩;cases z with
 | false =>
   have TR:=aA (show (5:Int)=r from HR.out);go_wp2_with fail
   go_ret;exact ⟨congrArg (fun z=>Ending.returned (.int .i64 z)) TR.out,HB.out⟩
 | true =>
   have TR:=aA (show (if e1=0 then e2 else e1)=r from HR.out);go_wp2_with fail
   refine CA.out.mono ?_;rintro e w2 ⟨rfl,hb⟩;have HB2:=aA (HB.out.trans (hb.mono HB.out.size));have N2:=(hb.block w.heap.size (by omega)).trans HN.out;have C2:=aA (CB.out w2 hb);clear hb CA CO CB p0 p1 p2 p3 p4 p5 p6 p7 p8;obtain ⟨p0,p1,p2,p3,p4,p5,p6,p7,p8⟩:=gT N2;clear N2;by_cases he:e1=0
   · have TS:=aA (show e2=r by rw [<- TR.out,if_pos he])
     subst he;go_wp2_with fail
     refine C2.out.mono ?_;rintro e w3 ⟨rfl,hb⟩;have HB3:=aA (HB2.out.trans (hb.mono HB2.out.size));clear hb;go_wp2_with fail
     go_ret;exact ⟨congrArg (fun z=>Ending.returned (.int .i64 z)) TS.out,HB3.out⟩
   · have TS:=aA (show e1=r by rw [<- TR.out,if_neg he])
     have q1:((e1:Int) != 0)=true:=by simpa using he
     go_wp2_with fail
     go_ret;exact ⟨congrArg (fun z=>Ending.returned (.int .i64 z)) TS.out,HB2.out⟩
def Ez (x:AG):Int :=
 if kP x.fn.data.toList=true/\¬ (1<=x.k/\x.k<=16) then 1 else
 if eP x.fn.data.toList=true/\¬ aT x.e=0 then aT x.e else
 if bP x.fn.data.toList=true then aT x.g else 0
theorem Pf (x:AG):iY x=if dX x.fn.data.toList=false then 5 else if Ez x=0 then (if 4<x.wh.length then 4 else gD x.wh) else Ez x:=by
 unfold iY;by_cases hf:dX x.fn.data.toList=false
 · rw [if_pos hf,if_pos hf]
 rw [if_neg hf,if_neg hf];have hf':dX x.fn.data.toList=true:=by simpa using hf
 unfold Ez Ey;obtain ⟨F,hF⟩:∃ F,x.fn.data.toList=F:=⟨_,rfl⟩;rw [hF] at hf' |-
 have eK:kP F=true ↔ F=dJ:=by unfold kP;exact beq_iff_eq
 have eB:bP F=true ↔ F=aW:=by unfold bP;exact beq_iff_eq
 have eE:eP F=true ↔ ¬ F=aO:=by
  unfold eP;rw [hf',Bool.true_and];simp
 have d1:¬ dJ=aO:=by decide
 have d2:¬ dJ=aW:=by decide
 have d3:¬ aW=aO:=by decide
 have d4:¬ aO=aW:=by decide
 by_cases ht:F=dJ
 · have k1:=eK.2 ht
   have e1:eP F=true:=eE.2 (by rw [ht];exact d1);have b1:¬ bP F=true:=fun h=>d2 (ht.symm.trans (eB.1 h))
   by_cases hk:x.k<1\/16<x.k
   · rw [if_pos ⟨ht,hk⟩,if_pos (show kP F=true/\¬ (1<=x.k/\x.k<=16) from ⟨k1,by omega⟩),if_neg (show ¬ (1:Int)=0 by decide)]
   · rw [if_neg (fun h=>hk h.2),if_neg (show ¬ (kP F=true/\¬ (1<=x.k/\x.k<=16)) from fun h=>h.2 (by omega)),if_neg (show ¬ F=aO by rw [ht];exact d1),if_neg (show ¬ F=aW by rw [ht];exact d2),if_neg b1]
     by_cases he:aT x.e=0
     · rw [if_pos he,if_neg (show ¬ (eP F=true/\¬ aT x.e=0) from fun h=>h.2 he)]
     · rw [if_neg he,if_pos (show eP F=true/\¬ aT x.e=0 from ⟨e1,he⟩)]
 · rw [if_neg (fun h=>ht h.1),if_neg (show ¬ (kP F=true/\¬ (1<=x.k/\x.k<=16)) from fun h=>ht (eK.1 h.1))]
   by_cases hc:F=aO
   · have e1:¬ eP F=true:=fun h=>eE.1 h hc
     have b1:¬ bP F=true:=fun h=>d4 (hc.symm.trans (eB.1 h))
     rw [if_pos hc,if_neg (show ¬ (eP F=true/\¬ aT x.e=0) from fun h=>e1 h.1),if_neg b1]
   · have e1:eP F=true:=eE.2 hc
     rw [if_neg hc];by_cases he:aT x.e=0
     · rw [if_pos he,if_neg (show ¬ (eP F=true/\¬ aT x.e=0) from fun h=>h.2 he)]
       by_cases hb:F=aW
       · rw [if_pos hb,if_pos (eB.2 hb)]
       · rw [if_neg hb,if_neg (show ¬ bP F=true from fun h=>hb (eB.1 h))]
     · rw [if_neg he,if_pos (show eP F=true/\¬ aT x.e=0 from ⟨e1,he⟩)]
def vN:Bool->Int->Int
 | true,e2=>e2
 | false,_=>0
def zB:Bool->Bool->Int->Int->Int
 | true,bb,e1,e2=>if e1=0 then vN bb e2 else e1
 | false,bb,_,e2=>vN bb e2
def Sb:Bool->Bool->Bool->Bool->Int->Int->Int
 | true,false,_,_,_,_=>1
 | true,true,ee,bb,e1,e2=>zB ee bb e1 e2
 | false,_,ee,bb,e1,e2=>zB ee bb e1 e2
theorem yZ (bb:Bool) {e1 e2:Int} (h:e1=0):zB true bb e1 e2=vN bb e2:=if_pos h
theorem zA (bb:Bool) {e1 e2:Int} (h:¬ e1=0):zB true bb e1 e2=e1:=if_neg h
theorem Pg (x:AG):Ez x=Sb (kP x.fn.data.toList) (decide (1<=x.k) && decide (x.k<=16)) (eP x.fn.data.toList) (bP x.fn.data.toList) (aT x.e) (aT x.g):=by
 unfold Ez;have hz:(decide (1<=x.k) && decide (x.k<=16))=true ↔ 1<=x.k/\x.k<=16:=by rw [Bool.and_eq_true,decide_eq_true_eq,decide_eq_true_eq]
 obtain ⟨zk,hzk⟩:∃ z,(decide (1<=x.k) && decide (x.k<=16))=z:=⟨_,rfl⟩;rw [hzk] at hz |-
 have tail:(if eP x.fn.data.toList=true/\¬ aT x.e=0 then aT x.e else if bP x.fn.data.toList=true then aT x.g else 0)=zB (eP x.fn.data.toList) (bP x.fn.data.toList) (aT x.e) (aT x.g):=by
  have e3:(if bP x.fn.data.toList=true then aT x.g else 0)=vN (bP x.fn.data.toList) (aT x.g):=by cases bP x.fn.data.toList <;> rfl
  rw [e3];cases eP x.fn.data.toList with
  | false=>rw [if_neg (fun h=>by cases h.1)];rfl
  | true =>
    by_cases h:aT x.e=0
    · rw [if_neg (fun g=>g.2 h),yZ _ h]
    · rw [if_pos ⟨rfl,h⟩,zA _ h]
 rw [tail];cases kP x.fn.data.toList with
 | false=>rw [if_neg (fun h=>by cases h.1)];cases zk <;> rfl
 | true =>
   cases zk with
   | false=>rw [if_pos ⟨rfl,fun h=>by have:=hz.2 h;cases this⟩];rfl
   | true=>rw [if_neg (fun h=>h.2 (hz.1 rfl))];rfl
theorem Aj (x:AG) (p:PA) (G:Nat->Prop) (w:World) (h1:SzF x.e.f) (h2:SzF x.g.f) (r1:aN G w p.ea x.e.ks) (r2:aN G w p.ga x.g.ks) :
 Calls Tryz.prog 137 #[agV x p,ptV x.fn.data.toList] w fun e w'=>e=.returned (.int .i64 (Ez x))/\Below w.heap.size w w':=by
 unfold ptV;have B0:=bA0 w (agP x p);have N0:=heap_alloc_new w (agP x p);have hs0:(w.alloc (agP x p)).heap.size=w.heap.size+1:=World.size_alloc _ _;have R1:=r1.kept B0;have R2:=r2.kept B0;generalize hW0:w.alloc (agP x p)=W0 at *;obtain ⟨kk,hk⟩:∃ b,kP x.fn.data.toList=b:=⟨_,rfl⟩;obtain ⟨ee,he⟩:∃ b,eP x.fn.data.toList=b:=⟨_,rfl⟩;obtain ⟨bb,hb⟩:∃ b,bP x.fn.data.toList=b:=⟨_,rfl⟩;obtain ⟨r,hr⟩:∃ r,Ez x=r:=⟨_,rfl⟩;rw [hr];rw [Pg,hk,he,hb] at hr;rw [hk,he,hb];have B1:=bA0 W0 (ptO kk ee bb);have N1:=heap_alloc_new W0 (ptO kk ee bb);have hs1:(W0.alloc (ptO kk ee bb)).heap.size=W0.heap.size+1:=World.size_alloc _ _;have NA:=(B1.block w.heap.size (by omega)).trans N0;have BB:=B0.trans (B1.mono (by omega));have R3:=aA (R1.kept B1);have R4:=aA (R2.kept B1);generalize hW:W0.alloc (ptO kk ee bb)=W at *;rw [hs0] at N1;have HW0:=aA hW0;have HW:=aA hW;have HB:=aA BB;have HA:=aA NA;have HN:=aA N1;have MK:=aA (D6 x.k W);obtain ⟨zk,hzk⟩:∃ z,(decide (1<=x.k) && decide (x.k<=16))=z:=⟨_,rfl⟩;rw [hzk] at MK hr;have CA:=aA (iS x.e G W p.ea p.ec h1 R3.out);have CB:=aA (fun V (hV:Below W.heap.size W V)=>iS x.g G V p.ga p.gc h2 (R4.out.kept hV));have C0:=aA (iS x.g G W p.ga p.gc h2 R4.out);obtain ⟨e1,he1⟩:∃ e,aT x.e=e:=⟨_,rfl⟩;obtain ⟨e2,he2⟩:∃ e,aT x.g=e:=⟨_,rfl⟩;rw [he1,he2] at hr;rw [he1] at CA;rw [he2] at CB C0;have HR:=aA hr;have HZK:=aA hzk;obtain ⟨m0,m1,m2,m3,m4,m5,m6,m7,m8,m9,m10⟩:=aF NA;obtain ⟨⟨y0,y1,y2⟩, -⟩:=dV N1;clear hW0 hW B0 B1 N0 N1 NA BB R1 R2 h1 h2 r1 r2 he1 he2 hr hk he hb hzk hs0 hs1
 go_enter Tryz.func137,Tryz.ntmps137
 go_upto_region 1 with fail
 rw [show w.alloc (.cells #[.string x.fn,.int .i64 x.k,.string x.e.op,.string x.e.nm,.int .i64 x.e.n,.slice p.ea x.e.ks.len p.ec,.string x.g.op,.string x.g.nm,.int .i64 x.g.n,.slice p.ga x.g.ks.len p.gc,.slice p.wa x.wh.length p.wc] 70)=W0 from HW0.out,HW.out];cases kk with
 | true =>
   go_wp2_with fail
   refine MK.out.mono ?_;rintro e v ⟨rfl,rfl⟩;cases zk with
   | false =>
     have TS:=aA (show (1:Int)=r from HR.out);go_wp2_with fail
     go_ret;exact ⟨congrArg (fun z=>Ending.returned (.int .i64 z)) TS.out,HB.out⟩
   | true =>
     have TR:=aA (show zB ee bb e1 e2=r from HR.out);cases ee with
     | true =>
       go_wp2_with fail
       refine CA.out.mono ?_;rintro e w2 ⟨rfl,hb2⟩;have HB2:=aA (HB.out.trans (hb2.mono HB.out.size));have N2:=(hb2.block _ (aK HN.out)).trans HN.out;have A2:=(hb2.block _ (aK HA.out)).trans HA.out;have C2:=aA (CB.out w2 hb2);clear hb2 CA CB C0 MK m0 m1 m2 m3 m4 m5 m6 m7 m8 m9 m10 y0 y1 y2;obtain ⟨m0,m1,m2,m3,m4,m5,m6,m7,m8,m9,m10⟩:=aF A2;obtain ⟨⟨y0,y1,y2⟩, -⟩:=dV N2;clear N2 A2;by_cases hz1:e1=0
       · have TS:=aA (show vN bb e2=r by rw [<- TR.out,yZ _ hz1])
         subst hz1;cases bb with
         | true =>
           have TU:=aA (show e2=r from TS.out);go_wp2_with fail
           refine C2.out.mono ?_;rintro e w3 ⟨rfl,hb3⟩;have HB3:=aA (HB2.out.trans (hb3.mono HB2.out.size));clear hb3;go_wp2_with fail
           go_ret;exact ⟨congrArg (fun z=>Ending.returned (.int .i64 z)) TU.out,HB3.out⟩
         | false =>
           have TU:=aA (show (0:Int)=r from TS.out);go_wp2_with fail
           go_ret;exact ⟨congrArg (fun z=>Ending.returned (.int .i64 z)) TU.out,HB2.out⟩
       · have TS:=aA (show e1=r by rw [<- TR.out,zA _ hz1])
         have q1:((e1:Int) != 0)=true:=by simpa using hz1
         go_wp2_with fail
         go_ret;exact ⟨congrArg (fun z=>Ending.returned (.int .i64 z)) TS.out,HB2.out⟩
     | false =>
       have TS:=aA (show vN bb e2=r from TR.out);cases bb with
       | true =>
         have TU:=aA (show e2=r from TS.out);go_wp2_with fail
         refine C0.out.mono ?_;rintro e w3 ⟨rfl,hb3⟩;have HB3:=aA (HB.out.trans (hb3.mono HB.out.size));clear hb3;go_wp2_with fail
         go_ret;exact ⟨congrArg (fun z=>Ending.returned (.int .i64 z)) TU.out,HB3.out⟩
       | false =>
         have TU:=aA (show (0:Int)=r from TS.out);go_wp2_with fail
         go_ret;exact ⟨congrArg (fun z=>Ending.returned (.int .i64 z)) TU.out,HB.out⟩
 | false =>
   have TR:=aA (show zB ee bb e1 e2=r from HR.out);cases ee with
   | true =>
     go_wp2_with fail
     refine CA.out.mono ?_;rintro e w2 ⟨rfl,hb2⟩;have HB2:=aA (HB.out.trans (hb2.mono HB.out.size));have N2:=(hb2.block _ (aK HN.out)).trans HN.out;have A2:=(hb2.block _ (aK HA.out)).trans HA.out;have C2:=aA (CB.out w2 hb2);clear hb2 CA CB C0 MK m0 m1 m2 m3 m4 m5 m6 m7 m8 m9 m10 y0 y1 y2;obtain ⟨m0,m1,m2,m3,m4,m5,m6,m7,m8,m9,m10⟩:=aF A2;obtain ⟨⟨y0,y1,y2⟩, -⟩:=dV N2;clear N2 A2;by_cases hz1:e1=0
     · have TS:=aA (show vN bb e2=r by rw [<- TR.out,yZ _ hz1])
       subst hz1;cases bb with
       | true =>
         have TU:=aA (show e2=r from TS.out);go_wp2_with fail
         refine C2.out.mono ?_;rintro e w3 ⟨rfl,hb3⟩;have HB3:=aA (HB2.out.trans (hb3.mono HB2.out.size));clear hb3;go_wp2_with fail
         go_ret;exact ⟨congrArg (fun z=>Ending.returned (.int .i64 z)) TU.out,HB3.out⟩
       | false =>
         have TU:=aA (show (0:Int)=r from TS.out);go_wp2_with fail
         go_ret;exact ⟨congrArg (fun z=>Ending.returned (.int .i64 z)) TU.out,HB2.out⟩
     · have TS:=aA (show e1=r by rw [<- TR.out,zA _ hz1])
       have q1:((e1:Int) != 0)=true:=by simpa using hz1
       go_wp2_with fail
       go_ret;exact ⟨congrArg (fun z=>Ending.returned (.int .i64 z)) TS.out,HB2.out⟩
   | false =>
     have TS:=aA (show vN bb e2=r from TR.out);cases bb with
     | true =>
       have TU:=aA (show e2=r from TS.out);go_wp2_with fail
       refine C0.out.mono ?_;rintro e w3 ⟨rfl,hb3⟩;have HB3:=aA (HB.out.trans (hb3.mono HB.out.size));clear hb3;go_wp2_with fail
       go_ret;exact ⟨congrArg (fun z=>Ending.returned (.int .i64 z)) TU.out,HB3.out⟩
     | false =>
       have TU:=aA (show (0:Int)=r from TS.out);go_wp2_with fail
       go_ret;exact ⟨congrArg (fun z=>Ending.returned (.int .i64 z)) TU.out,HB.out⟩
theorem rG {G:Nat->Prop} (x:AG) (p:PA) (w:World) (hS:SzG x) (hwl:x.wh.length<=9223372036854775807) (hr:bC G w x p):Calls Tryz.prog 81 #[agV x p] w fun e w'=>e=.returned (.int .i64 (iY x))/\Below w.heap.size w w':=by
 rw [Pf];have K0:=sX hr;generalize hW:w.alloc (agP x p)=W at K0;have HW:=aA hW;have HK:=aA K0;have HS:=aA hS;have CP:=aA (mE x.fn W);obtain ⟨F,hF⟩:∃ F,x.fn.data.toList=F:=⟨_,rfl⟩;have HF:=aA hF;rw [hF] at CP |-
 obtain ⟨ff,hf⟩:∃ b,dX F=b:=⟨_,rfl⟩;rw [hf] at CP |-
 obtain ⟨ea,hea⟩:∃ e,Ez x=e:=⟨_,rfl⟩;rw [hea];have HEA:=aA hea;obtain ⟨r,hR⟩:∃ r,(if ff=false then (5:Int) else if ea=0 then (if 4<x.wh.length then 4 else gD x.wh) else ea)=r:=⟨_,rfl⟩;rw [hR];have HR:=aA hR;clear hW K0 hr hS hf hea hR hF;obtain ⟨m0,m1,m2,m3,m4,m5,m6,m7,m8,m9,m10⟩:=aF HK.out.n;go_enter Tryz.func81,Tryz.ntmps81
 go_upto_region 1 with fail
 rw [show w.alloc (.cells #[.string x.fn,.int .i64 x.k,.string x.e.op,.string x.e.nm,.int .i64 x.e.n,.slice p.ea x.e.ks.len p.ec,.string x.g.op,.string x.g.nm,.int .i64 x.g.n,.slice p.ga x.g.ks.len p.gc,.slice p.wa x.wh.length p.wc] 70)=W from HW.out];go_wp2_with fail
 refine CP.out.mono ?_;rintro e w1 ⟨rfl,hb1⟩;have K1:=HK.out.step hb1;have BA:=bA0 w1 (ptO (kP F) (eP F) (bP F));have NA:=heap_alloc_new w1 (ptO (kP F) (eP F) (bP F));have K2:=aA (K1.step BA);clear hb1 K1 BA CP HK m0 m1 m2 m3 m4 m5 m6 m7 m8 m9 m10;go_upto_region 2 with fail
 generalize w1.alloc (ptO (kP F) (eP F) (bP F))=V at *;generalize w1.heap.size=B at *;obtain ⟨m0,m1,m2,m3,m4,m5,m6,m7,m8,m9,m10⟩:=aF K2.out.n;obtain ⟨⟨y0,y1,y2⟩, -⟩:=dV NA;clear NA;cases ff with
 | false =>
   have TS:=aA (show (5:Int)=r from HR.out);go_wp2_with fail
   go_ret;exact ⟨congrArg (fun z=>Ending.returned (.int .i64 z)) TS.out,K2.out.b⟩
 | true =>
   have TR:=aA (show (if ea=0 then (if 4<x.wh.length then (4:Int) else gD x.wh) else ea)=r from HR.out)
   have CA:=aA (show Calls Tryz.prog 137 #[agV x p,.agg #[.bool (kP F),.bool (eP F),.bool (bP F)]] V fun e w'=>e=.returned (.int .i64 ea)/\Below V.heap.size V w' by
    have:=Aj x p G V HS.out.e HS.out.g K2.out.r.e K2.out.r.g;rw [HEA.out,HF.out] at this;exact this)
   clear HR;go_wp2_with fail
   refine CA.out.mono ?_;rintro e w2 ⟨rfl,hb2⟩;have K3:=aA (K2.out.step hb2);clear hb2 CA K2 m0 m1 m2 m3 m4 m5 m6 m7 m8 m9 m10 y0 y1 y2;obtain ⟨m0,m1,m2,m3,m4,m5,m6,m7,m8,m9,m10⟩:=aF K3.out.n;by_cases hea:ea=0
   · have TB:=aA (show (if 4<x.wh.length then (4:Int) else gD x.wh)=r by rw [<- TR.out,if_pos hea])
     subst hea;by_cases h4:4<x.wh.length
     · have TS:=aA (show (4:Int)=r by rw [<- TB.out,if_pos h4])
       have a4:(4:Int)<(x.wh.length:Int):=by omega
       go_wp2_with fail
       go_ret;exact ⟨congrArg (fun z=>Ending.returned (.int .i64 z)) TS.out,K3.out.b⟩
     · have T0:=aA (show gD (x.wh.drop 0)=r by rw [List.drop_zero, <- TB.out,if_neg h4])
       have a4:¬ (4:Int)<(x.wh.length:Int):=by omega
       have a5:decide (4<x.wh.length)=false:=decide_eq_false h4;clear TB TR;go_wp2_with fail
       clear m0 m1 m2 m3 m4 m5 m6 m7 m8 m9 m10;go_loopw [7,8,30] (fun x7 x8 i wr=>∃ (k:Nat) (u v:Value),x7=u/\x8=v/\i=.int .i64 k/\k<=x.wh.length/\Hid (gD (x.wh.drop k)=r)/\Hid (KP9 G w x p wr)) (fun _ _ i _=>x.wh.length-(intOf i).toNat)
       case atStart=>exact ⟨0,_,_,rfl,rfl,rfl,Nat.zero_le _,T0,K3⟩
       case round =>
        obtain ⟨k,u,v,rfl,rfl,rfl,hk,HC,HK⟩:=hrel;clear T0 K3;obtain ⟨m0,m1,m2,m3,m4,m5,m6,m7,m8,m9,m10⟩:=aF HK.out.n;by_cases hlt:k<x.wh.length
        · obtain ⟨d,hd⟩:∃ d,x.wh[k]? = some d:=⟨_,List.getElem?_eq_getElem hlt⟩
          have hne:¬ x.wh=[]:=fun e=>by rw [e] at hlt;simp at hlt
          obtain ⟨b,off,hwa', -, -,hcc⟩:=HK.out.r.c.resolve_left hne;obtain ⟨a1,c1,a2,c2,⟨p0,p1,p2,p3,p4,p5,p6,p7,p8⟩,r1,r2⟩:=hcc k d hd
          have hdr:x.wh.drop k=d::x.wh.drop (k+1):=by
           rw [List.drop_eq_getElem_cons hlt];have:=List.getElem?_eq_getElem hlt;rw [this] at hd;rw [Option.some.inj hd]
          have hsz:=HS.out.c d (List.mem_of_getElem? hd);have HD:=aA (show (if Ck d=0 then gD (x.wh.drop (k+1)) else Ck d)=r by rw [<- HC.out,hdr,MF]);have BD:=bA0 wr (cdX d a1 c1 a2 c2);have ND:=heap_alloc_new wr (cdX d a1 c1 a2 c2);have K4:=aA (HK.out.step BD);have CC:=aA (Ai d G (wr.alloc (cdX d a1 c1 a2 c2)) a1 c1 a2 c2 hsz.1 hsz.2 (r1.kept BD) (r2.kept BD));obtain ⟨e1,he1⟩:∃ e,Ck d=e:=⟨_,rfl⟩;rw [he1] at CC HD;rw [hwa'] at m10 |-
          have b1:(k:Int)<(x.wh.length:Int):=by omega
          have b2:(0:Int)<=(k:Int):=by omega
          have b3:((k:Int)).toNat=k:=by omega
          clear hne hcc hdr hsz hd r1 r2 BD he1 hwa' HC HK;go_upto_region 12 with fail
          rw [show wr.alloc (.cells #[.string d.op,.string d.a.op,.string d.a.nm,.int .i64 d.a.n,.slice a1 d.a.ks.len c1,.string d.b.op,.string d.b.nm,.int .i64 d.b.n,.slice a2 d.b.ks.len c2] 144)=wr.alloc (cdX d a1 c1 a2 c2) from rfl];generalize wr.alloc (cdX d a1 c1 a2 c2)=V1 at *;clear p0 p1 p2 p3 p4 p5 p6 p7 p8;obtain ⟨p0,p1,p2,p3,p4,p5,p6,p7,p8⟩:=gT ND;clear ND;go_wp2_with fail
          refine CC.out.mono ?_;rintro e w5 ⟨rfl,hb5⟩;have K5:=aA (K4.out.step hb5);clear hb5 CC K4 p0 p1 p2 p3 p4 p5 p6 p7 p8 m0 m1 m2 m3 m4 m5 m6 m7 m8 m9 m10;by_cases he:e1=0
          · have HC2:=aA (show gD (x.wh.drop (k+1))=r by rw [<- HD.out,if_pos he])
            subst he;go_wp2_with fail
            go_roundw
            case rel=>exact ⟨k+1,_,_,rfl,rfl,by simp,by omega,HC2,K5⟩
            case measure=>simp [intOf];omega
          · have TS:=aA (show e1=r by rw [<- HD.out,if_neg he])
            have q1:((e1:Int) != 0)=true:=by simpa using he
            go_wp2_with fail
            go_ret;exact ⟨congrArg (fun z=>Ending.returned (.int .i64 z)) TS.out,K5.out.b⟩
        · have TS:=aA (show (0:Int)=r by rw [<- HC.out,List.drop_of_length_le (by omega)];rfl)
          have b1:¬ (k:Int)<(x.wh.length:Int):=by omega
          have b2:decide (k<x.wh.length)=false:=decide_eq_false hlt;go_wp2_with fail
          go_ret;exact ⟨congrArg (fun z=>Ending.returned (.int .i64 z)) TS.out,HK.out.b⟩
   · have TS:=aA (show ea=r by rw [<- TR.out,if_neg hea])
     have q1:((ea:Int) != 0)=true:=by simpa using hea
     go_wp2_with fail
     go_ret;exact ⟨congrArg (fun z=>Ending.returned (.int .i64 z)) TS.out,K3.out.b⟩
def rC (x:AG) (k:Nat):List UInt8:=if k=0 then oO x.wh else iH (x.wh.drop k)
theorem xC (x:AG):rC x 0=oO x.wh:=if_pos rfl
theorem DB {x:AG} {k:Nat} (h:¬ k=0):rC x k=iH (x.wh.drop k):=if_neg h
theorem Iw {x:AG} {k:Nat}:rC x (k+1)=iH (x.wh.drop (k+1)):=if_neg (by omega)
theorem Iv {x:AG} {d:CD} {r:List CD} {k:Nat} (h0:k=0) (h:x.wh.drop k=d::r):rC x k=[32,119,104,101,114,101,32]++(bB d.a++32::(d.op.data.toList++32::bB d.b))++iH r:=by
 subst h0;rw [xC];rw [List.drop_zero] at h;rw [h,oO]
theorem KM {x:AG} {k:Nat} (h:x.wh.drop k=[]):rC x k=[]:=by
 by_cases h0:k=0
 · subst h0
   rw [xC];rw [List.drop_zero] at h;rw [h,oO]
 · rw [DB h0,h,iH]
theorem gL {t:TN} (h:aT t=0) (hn:dR t.f):(bB t).length<=700:=by
 obtain ⟨h1,h2⟩:=(dO t).1 h;have:=Dk t h1 hn;omega
theorem G6 {o:ByteArray} (h:(bD o 0 0).isSome=true):o.size<=2:=by
 have:o.size=o.data.toList.length:=by simp
 rw [this];rcases FH h with h | h | h | h | h | h <;> rw [h] <;> simp
theorem yY:∀ l:List CD,gD l=0->∀ d∈l,(bD d.op 0 0).isSome=true/\aT d.a=0/\aT d.b=0
 | [],_,d,hd=>by cases hd
 | c :: r, h, d, hd => by
   obtain ⟨h1,h2,h3,h4⟩:=iZ h;rcases List.mem_cons.1 hd with rfl | hd
   · exact ⟨h1,h2,h3⟩
   · exact yY r h4 d hd
theorem Hn {x:AG} (h:dX x.fn.data.toList=true):x.fn.size<=5:=by
 have:x.fn.size=x.fn.data.toList.length:=by simp
 rw [this];unfold dX at h;simp only [Bool.or_eq_true,beq_iff_eq] at h;rcases h with ((((h | h) | h) | h) | h) | h <;> rw [h] <;> decide
theorem Ao:∀ l:List CD,gD l=0->zT l->(iH l).length<=1500*l.length
 | [],_,_=>by simp [iH]
 | c :: l, h, hn => by
   obtain ⟨h1,h2,h3,h4⟩:=iZ h;have ih:=Ao l h4 (fun d hd=>hn d (by simp [hd]));have a1:=gL h2 (hn c (by simp)).1;have a2:=gL h3 (hn c (by simp)).2;have a3:=G6 h1;have a4:c.op.data.toList.length=c.op.size:=by simp
   rw [iH];simp only [List.length_append,List.length_cons,List.length_nil];omega
theorem If {a:AG} (h:iY a=0) (hn:jP a):(fP a).length<=8000:=by
 obtain ⟨h1,h2,h3,h4,h5,h6⟩:=dU h;have a1:=Hn h1;have a2:a.fn.data.toList.length=a.fn.size:=by simp
 have a3:(oO a.wh).length<=1500*a.wh.length+10:=by
  cases hw:a.wh with
  | nil=>simp [oO]
  | cons c l =>
    rw [hw] at h6;have hc:zT (c::l):=by rw [<- hw];exact hn.c
    have:=Ao (c::l) h6 hc;rw [iH] at this;rw [oO];simp only [List.length_append,List.length_cons,List.length_nil] at this |-
    omega
 have a4:(nZ a).length<=1500:=by
  unfold nZ;by_cases c1:a.fn.data.toList=aO
  · rw [if_pos c1];simp
  · rw [if_neg c1]
    have e1:=gL (h3 c1) hn.e;by_cases c2:a.fn.data.toList=dJ
    · rw [if_pos c2]
      have:=Ek (n:=a.k) (by have:=h2 c2;omega) (by have:=h2 c2;omega);simp only [List.length_append,List.length_cons];omega
    · rw [if_neg c2]
      by_cases c3:a.fn.data.toList=aW
      · rw [if_pos c3]
        have e2:=gL (h4 c3) hn.g;simp only [List.length_append,List.length_cons];omega
      · rw [if_neg c3];omega
 unfold fP;simp only [List.length_append,List.length_cons];omega
structure KLN (G:Nat->Prop) (w:World) (a:Option Addr) (l:List LN) (V:World):Prop where
 b:Below w.heap.size w V
 r:dH G V a l
theorem KLN.step {G:Nat->Prop} {w V V':World} {a:Option Addr} {l:List LN} (h:KLN G w a l V) (hb:Below V.heap.size V V'):KLN G w a l V':=⟨h.b.trans (hb.mono h.b.size),h.r.kept hb⟩
def PU (l:List LN):Prop:=∀ x∈l,iY x.a=0/\jP x.a/\x.nm.size<=8
structure PO (l:List LN):Prop where
 len:l.length<=8
 sm:∀ x∈l,SmG x.a
 fine:PU l
 sz:∀ x∈l,SzG x.a/\x.a.wh.length<=4
theorem xJ {s:List UInt8} {l:List LN} (h:iJ s=.ok l):PO l:=by
 have ok:=DI h;refine ⟨ok.len,fun x hx=>?_,fun x hx=>?_,fun x hx=>?_⟩
 · obtain ⟨r,hr⟩:=ok.ag x hx
   exact (tL hr).1
 · obtain ⟨r,hr⟩:=ok.ag x hx
   obtain ⟨c,t,e, -,h7, -⟩:=yM (ok.nm x hx).1;have h2:x.nm.data.toList.length=x.nm.size:=by simp
   rw [e] at h2;simp at h2;exact ⟨(tL hr).2.2,MY hr,by omega⟩
 · obtain ⟨r,hr⟩:=ok.ag x hx
   exact ⟨(tL hr).2.1,(dU (tL hr).2.2).2.2.2.2.1⟩
structure GJ (w V:World):Prop where
 b:Below w.heap.size w V
 l:vT V
theorem GJ.step {w V V':World} (h:GJ w V) (hb:Below V.heap.size V V'):GJ w V':=⟨h.b.trans (hb.mono h.b.size),h.l.step hb⟩
def vW:AG:=⟨⟨#[115,117,109]⟩,0,e9 [120],aC,[]⟩
def uF:AG:=⟨⟨#[99,111,117,110,116]⟩,0,aC,aC,[⟨⟨#[62]⟩,e9 [120],sU 2⟩]⟩
def Ae:AG:=⟨⟨#[99,111,117,110,116]⟩,0,aC,aC,[]⟩
theorem Mc:iY vW=0:=by rfl
theorem Mb:iY uF=0:=by rfl
theorem Eh:iY Ae=0:=by rfl
theorem Ji:jP vW:=⟨by simp [vW,e9,TN.f,dR],by simp [vW,aC,TN.f,dR],fun d hd=>by simp [vW] at hd⟩
theorem Jh:jP uF:=⟨by simp [uF,aC,TN.f,dR],by simp [uF,aC,TN.f,dR],fun d hd=>by
 simp only [uF,List.mem_cons,List.not_mem_nil,or_false] at hd;rcases hd with rfl;simp [e9,sU,TN.f,dR]⟩
theorem AZ:jP Ae:=⟨by simp [Ae,aC,TN.f,dR],by simp [Ae,aC,TN.f,dR],fun d hd=>by simp [Ae] at hd⟩
theorem uG:fP vW=[115,117,109,40,120,41]:=by rfl
theorem uE:fP uF=[99,111,117,110,116,40,41,32,119,104,101,114,101,32,120,32,62,32,50]:=by
 have h1:Lib.itoa 2=[50]:=by simp [Lib.itoa,Lib.decDigits]
 have:fP uF=[99,111,117,110,116,40,41,32,119,104,101,114,101,32,120,32,62,32]++(Lib.itoa 2++[]):=by rfl
 rw [this,h1];rfl
theorem qK:fP Ae=[99,111,117,110,116,40,41]:=by rfl
def uD:List LN:=[⟨⟨#[97,108,108]⟩,vW⟩,⟨⟨#[99]⟩,uF⟩]
def RY:List LN:=[⟨⟨#[97]⟩,Ae⟩]
abbrev Jg:ByteArray:=⟨#[97,108,108,32,61,32,115,117,109,40,120,41,10,99,32,61,32,99,111,117,110,116,40,41,32,119,104,101,114,101,32,120,32,62,32,50,10]⟩
abbrev OO:ByteArray:=⟨#[97,32,61,32,99,111,117,110,116,40,41,10,114,101,112,32,61,32,99,111,117,110,116,40,41]⟩
abbrev ON:ByteArray:=⟨#[97,32,61,32,99,111,117,110,116,40,41]⟩
theorem sW {acc:List LN} {nm:List UInt8} {a:AG} (h1:bH nm=true) (h2:cT nm=false) (h3:acc.any (fun x=>x.nm.data.toList == nm)=false) (he:iY a=0) (hn:jP a) (hl:(fP a).length+1<=1024) :
 fM acc (nm++32::61::32::fP a)=.ok ⟨⟨nm.toArray⟩,Cu a⟩:=by
 rw [wG (Be h1),if_neg (by rw [h1,h2];simp),h3,if_neg (by decide),Kd he hn hl]
theorem Cb:iJ Jg.data.toList=.ok uD:=by
 have e:cE Jg.data.toList=[[97,108,108]++32::61::32::fP vW,[99]++32::61::32::fP uF]:=by
  rw [uG,uE];rfl
 unfold iJ;rw [e,pX (by decide) (sW (acc:=[]) (by decide) (by decide) rfl Mc Ji (by rw [uG];decide)),pX (by decide) (sW (by decide) (by decide) (by rfl) Mb Jh (by rw [uE];decide))];rfl
theorem QK:iJ ON.data.toList=.ok RY:=by
 have e:cE ON.data.toList=[[97]++32::61::32::fP Ae]:=by
  rw [qK];rfl
 unfold iJ;rw [e,pX (by decide) (sW (acc:=[]) (by decide) (by decide) rfl Eh AZ (by rw [qK];decide))];rfl
theorem QL:iJ OO.data.toList=.bad 1 5:=by
 have e:cE OO.data.toList=[[97]++32::61::32::fP Ae,[114,101,112]++32::61::32::fP Ae]:=by
  rw [qK];rfl
 unfold iJ;rw [e,pX (by decide) (sW (acc:=[]) (by decide) (by decide) rfl Eh AZ (by rw [qK];decide)),kM (by decide) (show fM _ _=.bad 5 by rw [wG (Be (by decide)),if_pos (.inr (by decide))])];rfl
theorem L9:rD uD=Jg.data.toList:=by
 show rI _++(rI _++[])=_;unfold rI;rw [show (⟨⟨#[97,108,108]⟩,vW⟩:LN).a=vW from rfl,show (⟨⟨#[99]⟩,uF⟩:LN).a=uF from rfl,uG,uE];rfl
def Ad:PD:=⟨1,⟨#[47,97,47,120]⟩,ON⟩
def Rr:PD:=⟨0,⟨#[]⟩,⟨#[]⟩⟩
theorem OQ:tA Ad=0:=by
 unfold tA;rw [if_neg (by decide),if_neg (by decide),if_neg (by decide),if_neg (by decide),show Ad.t=ON from rfl,QK];rfl
theorem OP:rT Ad Rr=true:=by rfl
theorem Ma:rT Ad Ad=false:=by
 unfold rT;rw [if_pos rfl];simp
def A12 (x:Int) (_:Nat):Wr.AD:=⟨⟨#[120]⟩,1,x,⟨#[]⟩,0,fun _=>0⟩
def g12 (x:Int) (m:ByteArray):Option Int:=if m=⟨#[120]⟩ then some x else none
theorem Np (x:Int) (hx:bN x):mW (A12 x) 1 (g12 x) where
 ok:={
  yes:=fun j hj=>by
   have:j=0:=by omega
   subst this;rfl
  no:=fun z h=>by
   unfold g12;rw [if_neg fun e=>h 0 (by decide) (by rw [e];rfl)]
  fit:=fun z v h=>by
   unfold g12 at h;split at h
   · cases h;exact hx
   · cases h }
 ri:=fun i j hij hj=>by omega
 few:=by decide
 sm:=fun j hj=>Nat.zero_le _
abbrev o12 (x:Int):Obj:=.cells #[.string ⟨#[120]⟩,.int .i64 1,.int .i64 x,.string ⟨#[]⟩,.slice none 0 0] 62
theorem GY {w:World} {b:Nat} {x:Int} (h:w.heap[b]? = some (o12 x)):Wr.ReadsA w (some ⟨b,0,none⟩) 1 (A12 x):=by
 refine ⟨by unfold maxLen;omega,.inr ⟨b,0,rfl,fun j hj=>?_⟩⟩;have:j=0:=by omega
 subst this;exact ⟨none,0,⟨by simp [World.cell?,h,A12],by simp [World.cell?,h,A12],by simp [World.cell?,h,A12],by simp [World.cell?,h,A12],by simp [World.cell?,h,A12]⟩,Nat.zero_le _,.inl rfl⟩
def r12 (x:Int):RW:=⟨1,A12 x,g12 x⟩
def tU:List RW:=[r12 2,r12 3]
theorem wZ:∀ r∈tU,mW r.A r.n r.g:=by
 intro r hr;simp only [tU,List.mem_cons,List.not_mem_nil,or_false] at hr;rcases hr with rfl | rfl <;> exact Np _ (by unfold bN;omega)
theorem Qi:evG vW (tU.map RW.g)=.num 5:=by rfl
theorem Qh:evG uF (tU.map RW.g)=.num 1:=by rfl
def d12:List Wr.AD:=[evA ⟨#[97,108,108]⟩ (.num 5),evA ⟨#[99]⟩ (.num 1)]
theorem KH:qZ (tU.map RW.g) uD []=d12:=by
 have h1:qZ (tU.map RW.g) uD []=Wr.putD (Wr.putD [] (evA ⟨#[97,108,108]⟩ (.num 5))) (evA ⟨#[99]⟩ (.num 1)):=by
  show qZ (tU.map RW.g) [⟨⟨#[97,108,108]⟩,vW⟩,⟨⟨#[99]⟩,uF⟩] []=_;rw [qZ,Qi,qZ,Qh,qZ];rfl
 rw [h1];have h2:Wr.putD [] (evA ⟨#[97,108,108]⟩ (.num 5))=[evA ⟨#[97,108,108]⟩ (.num 5)]:=by rfl
 rw [h2]
 have h3:lsS (⟨#[97,108,108]⟩:ByteArray) ⟨#[99]⟩=true:=by
  show Op.bytesLess (⟨#[97,108,108]⟩:ByteArray).toList (⟨#[99]⟩:ByteArray).toList=true;rw [Lib.toList_data,Lib.toList_data];decide
 unfold Wr.putD;rw [if_neg (by decide)]
 have h4:pos lsS (Wr.nmD [evA ⟨#[97,108,108]⟩ (.num 5)]) (evA ⟨#[99]⟩ (.num 1)).m=1:=by
  show pos lsS [(⟨#[97,108,108]⟩:ByteArray)] ⟨#[99]⟩=1;simp [pos,h3]
 rw [h4];rfl
abbrev Fl (a:Nat):Obj:=.cells #[.slice (some ⟨a,0,none⟩) 1 1,.slice (some ⟨a+1,0,none⟩) 1 1] 39
theorem Qj (V:World):dD (((V.alloc (o12 2)).alloc (o12 3)).alloc (Fl V.heap.size)) (some ⟨V.heap.size+1+1,0,none⟩) tU/\Below V.heap.size V (((V.alloc (o12 2)).alloc (o12 3)).alloc (Fl V.heap.size)):=by
 have N0:=heap_alloc_new V (o12 2);have B0:=bA0 V (o12 2);have s0:(V.alloc (o12 2)).heap.size=V.heap.size+1:=World.size_alloc _ _;generalize V.alloc (o12 2)=w1 at *;have N1:=heap_alloc_new w1 (o12 3);have B1:=bA0 w1 (o12 3);have s1:(w1.alloc (o12 3)).heap.size=w1.heap.size+1:=World.size_alloc _ _;generalize w1.alloc (o12 3)=w2 at *;have N2:=heap_alloc_new w2 (Fl V.heap.size);have B2:=bA0 w2 (Fl V.heap.size);have s2:(w2.alloc (Fl V.heap.size)).heap.size=w2.heap.size+1:=World.size_alloc _ _;generalize w2.alloc (Fl V.heap.size)=w3 at *;rw [s0] at N1;rw [s1,s0] at N2;have M1:=(B2.block _ (by omega)).trans N1;have M0:=(B2.block _ (by omega)).trans ((B1.block _ (by omega)).trans N0);refine ⟨.inr ⟨V.heap.size+1+1,0,rfl,by omega,fun j r hj=>?_⟩,(B0.trans (B1.mono (by omega))).trans (B2.mono (by omega))⟩;have hj2:j<2:=(List.getElem?_eq_some_iff.1 hj).1;match j,hj2,hj with
 | 0,_,h=>cases h;exact ⟨some ⟨V.heap.size,0,none⟩,1,by simp [World.cell?,N2,r12],GY M0⟩
 | 1,_,h=>cases h;exact ⟨some ⟨V.heap.size+1,0,none⟩,1,by simp [World.cell?,N2,r12],GY M1⟩
structure K12 (w:World) (la:Option Addr) (V:World):Prop where
 k:GJ w V
 r:dH (fun _=>True) V la uD
theorem K12.step {w V V':World} {la:Option Addr} (h:K12 w la V) (hb:Below V.heap.size V V'):K12 w la V':=⟨h.k.step hb,h.r.kept hb⟩
structure QY:Prop where
 ps:∀ w,iG w->Calls Tryz.prog 9 #[.string Jg] w (CQ (.ok uD) w)
 pt:∀ w,iG w->Calls Tryz.prog 9 #[.string OO] w (CQ (.bad 1 5) w)
 rn:∀ (a:Option Addr) (c:Nat) (ya:Option Addr) (yc:Nat) (w:World),dH (fun _=>True) w a uD->dD w ya tU->Calls Tryz.prog 17 #[.slice a 2 c,.slice ya 2 yc] w fun e w'=>∃ oa oc,e=.returned (.slice oa 2 oc)/\Wr.ReadsA w' oa 2 (Wr.atD d12)/\Below w.heap.size w w'
 tx:∀ (a:Option Addr) (c:Nat) (w:World),lP w->dH (fun _=>True) w a uD->Calls Tryz.prog 12 #[.slice a 2 c] w fun e w'=>e=.returned (.string ⟨Jg.data.toList.toArray⟩)/\Below w.heap.size w w'
 ck:∀ w,iG w->Calls Tryz.prog 20 #[pdV Ad] w fun e w'=>e=.returned (.int .i64 0)/\Below w.heap.size w w'
theorem Eg (C:QY) (w:World) (hw:vT w):Calls Tryz.prog 8 #[] w fun e w'=>e=.returned (.bool true)/\Below w.heap.size w w':=by
 have HC:=aA C;clear C;have K0:=aA (show GJ w w from ⟨Below.refl _ _,hw⟩);have A1:=HC.out.ps w hw.1;have HA1:=aA A1;clear A1 hw;go_enter Tryz.func8,Tryz.ntmps8
 go_wp2_with fail
 refine HA1.out.mono ?_;rintro e w1 ⟨hb,la,lc,rfl,hr⟩;rw [show uD.length=2 from rfl];have K1:=aA (show K12 w la w1 from ⟨K0.out.step hb,hr.imp (fun _ _ _=>trivial)⟩);have A2:=HC.out.pt w1 K1.out.k.l.1;have HA2:=aA A2;clear hb hr HA1 K0 A2;go_wp2_with fail
 refine HA2.out.mono ?_;rintro e V ⟨hb,rfl⟩;have K2:=aA (K1.out.step hb);have RW:=Qj V
 have RN:=aA (p:=Calls Tryz.prog 17 #[.slice la 2 lc,.slice (some ⟨V.heap.size+1+1,0,none⟩) 2 2] (((V.alloc (.cells #[.string ⟨#[120]⟩,.int .i64 1,.int .i64 2,.string ⟨#[]⟩,.slice none 0 0] 62)).alloc (.cells #[.string ⟨#[120]⟩,.int .i64 1,.int .i64 3,.string ⟨#[]⟩,.slice none 0 0] 62)).alloc (.cells #[.slice (some ⟨V.heap.size,0,none⟩) 1 1,.slice (some ⟨V.heap.size+1,0,none⟩) 1 1] 39)) fun e w'=>∃ oa oc,e=.returned (.slice oa 2 oc)/\Wr.ReadsA w' oa 2 (Wr.atD d12)/\Below V.heap.size V w') (by
  have h:=HC.out.rn la lc (some ⟨V.heap.size+1+1,0,none⟩) 2 (((V.alloc (o12 2)).alloc (o12 3)).alloc (Fl V.heap.size)) (K2.out.step RW.2).r RW.1;exact h.mono fun e w' ⟨oa,oc,h1,h2,h3⟩=>⟨oa,oc,h1,h2,RW.2.trans (h3.mono RW.2.size)⟩)
 clear hb K1 HA2 RW;go_wp2_with fail
 refine RN.out.mono ?_;rintro e w3 ⟨oa,oc,rfl,hA,hb⟩;have K3:=aA (K2.out.step hb);have HA:=aA hA;clear hb RN K2 hA;have K4:=aA (K3.out.step (bA0 w3 (.cells #[.int .i64 1,.string ⟨#[47,97,47,120]⟩,.string ⟨#[97,32,61,32,99,111,117,110,116,40,41]⟩] 46)));have A4:=aA (HA.out.kept (bA0 w3 (.cells #[.int .i64 1,.string ⟨#[47,97,47,120]⟩,.string ⟨#[97,32,61,32,99,111,117,110,116,40,41]⟩] 46)));have N4:=aA (heap_alloc_new w3 (.cells #[.int .i64 1,.string ⟨#[47,97,47,120]⟩,.string ⟨#[97,32,61,32,99,111,117,110,116,40,41]⟩] 46));have TX:=HC.out.tx la lc (w3.alloc (.cells #[.int .i64 1,.string ⟨#[47,97,47,120]⟩,.string ⟨#[97,32,61,32,99,111,117,110,116,40,41]⟩] 46)) K4.out.k.l.2 K4.out.r;have HTX:=aA TX;clear TX;go_wp2_with fail
 refine HTX.out.mono ?_;rintro e w5 ⟨rfl,hb⟩;have hz:=hb.size;have z4:(w3.alloc (.cells #[.int .i64 1,.string ⟨#[47,97,47,120]⟩,.string ⟨#[97,32,61,32,99,111,117,110,116,40,41]⟩] 46)).heap.size=w3.heap.size+1:=World.size_alloc _ _;have K5:=aA (K4.out.step hb);have A5:=A4.out.kept hb;have N5:=aA ((hb.block _ (by omega)).trans N4.out);obtain ⟨c0,c1,c2⟩:=gB N5.out;obtain ⟨ab,ao,hoa,hc⟩:=A5.2.resolve_left (by decide);subst hoa;obtain ⟨y0,u0,e0, -⟩:=hc 0 (by decide);obtain ⟨y1,u1,e1, -⟩:=hc 1 (by decide);have f0:w5.cell? ⟨ab,ao+2,none⟩=some (.int .i64 5):=e0.2.2.1;have f1:w5.cell? ⟨ab,ao+7,none⟩=some (.int .i64 1):=e1.2.2.1;have f0':w5.cell? ⟨ab,ao+1+1,none⟩=some (.int .i64 5):=f0;have f1':w5.cell? ⟨ab,ao+5+1+1,none⟩=some (.int .i64 1):=f1;have CK:=HC.out.ck w5 K5.out.k.l.1;have HCK:=aA CK;have NW1:=fun V=>nH Ad Rr V
 have NW2:=fun V=>nH Ad Ad V
 rw [OP] at NW1;rw [Ma] at NW2;have HN1:=aA NW1;have HN2:=aA NW2;have KP1:=fun V=>pZ ⟨#[118,101,114]⟩ V
 have KP2:=fun V=>pZ ⟨#[120]⟩ V
 rw [show cT (⟨#[118,101,114]⟩:ByteArray).data.toList=true by decide] at KP1;rw [show cT (⟨#[120]⟩:ByteArray).data.toList=false by decide] at KP2;have HK1:=aA KP1;have HK2:=aA KP2;clear hb hz z4 K4 A4 N4 A5 hc e0 e1 CK NW1 NW2 KP1 KP2 HTX HA;go_wp2_with fail
 refine HCK.out.mono ?_;rintro e w6 ⟨rfl,hb⟩;have K6:=aA (K5.out.step hb);have N6:=aA ((hb.block _ (aK N5.out)).trans N5.out);clear hb K5 N5 c0 c1 c2 f0 f1 f0' f1' HCK;obtain ⟨c0,c1,c2⟩:=gB N6.out;go_wp2_with fail
 refine (HN1.out _).mono ?_;rintro e w7 ⟨rfl,hb⟩;have K7:=aA (K6.out.step hb);have N7:=aA ((hb.block _ (aK N6.out)).trans N6.out);clear hb K6 N6 c0 c1 c2;obtain ⟨c0,c1,c2⟩:=gB N7.out;go_wp2_with fail
 refine (HN2.out _).mono ?_;rintro e w8 ⟨rfl,hb⟩;have K8:=aA (K7.out.step hb);clear hb K7 N7 c0 c1 c2;go_wp2_with fail
 refine (HK1.out _).mono ?_;rintro e w9 ⟨rfl,hb⟩;have K9:=aA (K8.out.step hb);clear hb K8;go_wp2_with fail
 refine (HK2.out _).mono ?_;rintro e w10 ⟨rfl,hb⟩;have K10:=aA (K9.out.step hb);clear hb K9;go_wp2_with fail
 go_ret;exact ⟨rfl,K10.out.k.b⟩
end
end Go.Proofs.YtgfkjkokmcejbaaGreatDoor
