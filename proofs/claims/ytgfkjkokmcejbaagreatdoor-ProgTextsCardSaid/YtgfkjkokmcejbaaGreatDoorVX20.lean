/-
 No statement: what ProgTextsLift needs, of the texts ZPNext, ZPParse, OBuild, OText, OTx, ZPText, ProgTextsWalk, OHold.
-/
import Derived.Test.YtgfkjkokmcejbaaGreatDoorVX19
set_option maxHeartbeats 40000000
set_option maxRecDepth 100000
open List renaming length_append -> Tb, length_cons -> Te
open Go.World renaming size_alloc -> Tc
open Nat renaming le_refl -> Td
open Go.Value renaming slice -> Tj
open Go.Lib renaming toList_data -> Tm
namespace Go.Proofs.YtgfkjkokmcejbaaGreatDoor
open Go.RowKit Tryz
def vW (acc:List LN) (s:Tq):Fo:=if acc.length=8 then .bad 4 else eU acc s
def Hc (r:Fo) (w:World) (e:Ending) (w':World):Prop:=Below w.heap.size w w'/\match r with
 | .bad er=>e=.returned (.tuple #[lnV fS aI,.int .i64 er])
 | .ok x=>∃ p,e=.returned (.tuple #[lnV x p,.int .i64 0])/\aX (fun b=>w.heap.size<=b) w' x.a p
structure NW (G:Nat->Prop) (w:World) (a:Tp) (l:List LN) (V:World):Prop where
 b:Below w.heap.size w V
 r:cQ G V a l
 o:V.heap[w.heap.size]? = some (lnO fS aI)
 l:iE V
theorem NW.step {G:Nat->Prop} {w V V':World} {a:Tp} {l:List LN} (h:NW G w a l V) (c:Below V.heap.size V V'):NW G w a l V' :=
 ⟨h.b.trans (c.mono h.b.size),h.r.kept c,(c.block _ (aG h.o)).trans h.o,h.l.step c⟩
structure NM (G:Nat->Prop) (w:World) (a:Tp) (l:List LN) (nb:Nat) (nm:Tr) (V:World):Prop where
 x:NW G w a l V
 n:V.heap[nb]? = some (.cells #[.string nm] 9 (0,0))
 lt:w.heap.size<nb
theorem NM.step {G:Nat->Prop} {w V V':World} {a:Tp} {l:List LN} {nb:Nat} {nm:Tr} (h:NM G w a l nb nm V) (b:Below V.heap.size V V'):NM G w a l nb nm V' :=
 ⟨h.x.step b,(b.block _ (aG h.n)).trans h.n,h.lt⟩
theorem uL {w V:World} {er:Int} {r:Fo} (q:V.heap[w.heap.size]? = some (lnO fS aI)) (c:Below w.heap.size w V) (hr:r=.bad er) :
 (dP V w.heap.size (.string ⟨#[]⟩) (.string ⟨#[]⟩) (.int .i64 0) (.string ⟨#[]⟩) (.string ⟨#[]⟩) (.int .i64 0) (.slice none 0 0) (.string ⟨#[]⟩) (.string ⟨#[]⟩) (.int .i64 0) (.slice none 0 0) (.slice none 0 0)).cell? ⟨w.heap.size,0,none⟩=some (.string ⟨#[]⟩)/\(dP V w.heap.size (.string ⟨#[]⟩) (.string ⟨#[]⟩) (.int .i64 0) (.string ⟨#[]⟩) (.string ⟨#[]⟩) (.int .i64 0) (.slice none 0 0) (.string ⟨#[]⟩) (.string ⟨#[]⟩) (.int .i64 0) (.slice none 0 0) (.slice none 0 0)).cell? ⟨w.heap.size,1,none⟩=some (.string ⟨#[]⟩)/\(dP V w.heap.size (.string ⟨#[]⟩) (.string ⟨#[]⟩) (.int .i64 0) (.string ⟨#[]⟩) (.string ⟨#[]⟩) (.int .i64 0) (.slice none 0 0) (.string ⟨#[]⟩) (.string ⟨#[]⟩) (.int .i64 0) (.slice none 0 0) (.slice none 0 0)).cell? ⟨w.heap.size,2,none⟩=some (.int .i64 0)/\(dP V w.heap.size (.string ⟨#[]⟩) (.string ⟨#[]⟩) (.int .i64 0) (.string ⟨#[]⟩) (.string ⟨#[]⟩) (.int .i64 0) (.slice none 0 0) (.string ⟨#[]⟩) (.string ⟨#[]⟩) (.int .i64 0) (.slice none 0 0) (.slice none 0 0)).cell? ⟨w.heap.size,3,none⟩=some (.string ⟨#[]⟩)/\(dP V w.heap.size (.string ⟨#[]⟩) (.string ⟨#[]⟩) (.int .i64 0) (.string ⟨#[]⟩) (.string ⟨#[]⟩) (.int .i64 0) (.slice none 0 0) (.string ⟨#[]⟩) (.string ⟨#[]⟩) (.int .i64 0) (.slice none 0 0) (.slice none 0 0)).cell? ⟨w.heap.size,4,none⟩=some (.string ⟨#[]⟩)/\(dP V w.heap.size (.string ⟨#[]⟩) (.string ⟨#[]⟩) (.int .i64 0) (.string ⟨#[]⟩) (.string ⟨#[]⟩) (.int .i64 0) (.slice none 0 0) (.string ⟨#[]⟩) (.string ⟨#[]⟩) (.int .i64 0) (.slice none 0 0) (.slice none 0 0)).cell? ⟨w.heap.size,5,none⟩=some (.int .i64 0)/\(dP V w.heap.size (.string ⟨#[]⟩) (.string ⟨#[]⟩) (.int .i64 0) (.string ⟨#[]⟩) (.string ⟨#[]⟩) (.int .i64 0) (.slice none 0 0) (.string ⟨#[]⟩) (.string ⟨#[]⟩) (.int .i64 0) (.slice none 0 0) (.slice none 0 0)).cell? ⟨w.heap.size,6,none⟩=some (.slice none 0 0)/\(dP V w.heap.size (.string ⟨#[]⟩) (.string ⟨#[]⟩) (.int .i64 0) (.string ⟨#[]⟩) (.string ⟨#[]⟩) (.int .i64 0) (.slice none 0 0) (.string ⟨#[]⟩) (.string ⟨#[]⟩) (.int .i64 0) (.slice none 0 0) (.slice none 0 0)).cell? ⟨w.heap.size,7,none⟩=some (.string ⟨#[]⟩)/\(dP V w.heap.size (.string ⟨#[]⟩) (.string ⟨#[]⟩) (.int .i64 0) (.string ⟨#[]⟩) (.string ⟨#[]⟩) (.int .i64 0) (.slice none 0 0) (.string ⟨#[]⟩) (.string ⟨#[]⟩) (.int .i64 0) (.slice none 0 0) (.slice none 0 0)).cell? ⟨w.heap.size,8,none⟩=some (.string ⟨#[]⟩)/\(dP V w.heap.size (.string ⟨#[]⟩) (.string ⟨#[]⟩) (.int .i64 0) (.string ⟨#[]⟩) (.string ⟨#[]⟩) (.int .i64 0) (.slice none 0 0) (.string ⟨#[]⟩) (.string ⟨#[]⟩) (.int .i64 0) (.slice none 0 0) (.slice none 0 0)).cell? ⟨w.heap.size,9,none⟩=some (.int .i64 0)/\(dP V w.heap.size (.string ⟨#[]⟩) (.string ⟨#[]⟩) (.int .i64 0) (.string ⟨#[]⟩) (.string ⟨#[]⟩) (.int .i64 0) (.slice none 0 0) (.string ⟨#[]⟩) (.string ⟨#[]⟩) (.int .i64 0) (.slice none 0 0) (.slice none 0 0)).cell? ⟨w.heap.size,10,none⟩=some (.slice none 0 0)/\(dP V w.heap.size (.string ⟨#[]⟩) (.string ⟨#[]⟩) (.int .i64 0) (.string ⟨#[]⟩) (.string ⟨#[]⟩) (.int .i64 0) (.slice none 0 0) (.string ⟨#[]⟩) (.string ⟨#[]⟩) (.int .i64 0) (.slice none 0 0) (.slice none 0 0)).cell? ⟨w.heap.size,11,none⟩=some (.slice none 0 0)/\Hc r w (.returned (.tuple #[lnV fS aI,.int .i64 er])) (dP V w.heap.size (.string ⟨#[]⟩) (.string ⟨#[]⟩) (.int .i64 0) (.string ⟨#[]⟩) (.string ⟨#[]⟩) (.int .i64 0) (.slice none 0 0) (.string ⟨#[]⟩) (.string ⟨#[]⟩) (.int .i64 0) (.slice none 0 0) (.slice none 0 0)):=by
 have H:=zC (W:=V) (B:=w.heap.size) (t:=72) q (.string ⟨#[]⟩) (.string ⟨#[]⟩) (.int .i64 0) (.string ⟨#[]⟩) (.string ⟨#[]⟩) (.int .i64 0) (.slice none 0 0) (.string ⟨#[]⟩) (.string ⟨#[]⟩) (.int .i64 0) (.slice none 0 0) (.slice none 0 0);obtain ⟨p,o,n,m,l,j,h,g,f,d,b,a⟩:=oT (W:=dP V w.heap.size (.string ⟨#[]⟩) (.string ⟨#[]⟩) (.int .i64 0) (.string ⟨#[]⟩) (.string ⟨#[]⟩) (.int .i64 0) (.slice none 0 0) (.string ⟨#[]⟩) (.string ⟨#[]⟩) (.int .i64 0) (.slice none 0 0) (.slice none 0 0)) H;refine ⟨p,o,n,m,l,j,h,g,f,d,b,a,(c.trans ((yY V w.heap.size (.string ⟨#[]⟩) (.string ⟨#[]⟩) (.int .i64 0) (.string ⟨#[]⟩) (.string ⟨#[]⟩) (.int .i64 0) (.slice none 0 0) (.string ⟨#[]⟩) (.string ⟨#[]⟩) (.int .i64 0) (.slice none 0 0) (.slice none 0 0)).below (B:=w.heap.size) (fun k s=>by omega) c.size)),by rw [hr]⟩
theorem Sk {w V:World} {nm:Tr} {x:AG} {p:PA} {r:Fo} {B:Nat} (f:V.heap[w.heap.size]? = some (lnO fS aI)) (a:Below w.heap.size w V) (hr:r=.ok ⟨nm,x⟩) (h:w.heap.size<B) (hd:aX (fun b=>B<=b) V x p) :
 (dP V w.heap.size (.string nm) (.string x.fn) (.int .i64 x.k) (.string x.e.op) (.string x.e.nm) (.int .i64 x.e.n) (.slice p.ea x.e.ks.len p.ec) (.string x.g.op) (.string x.g.nm) (.int .i64 x.g.n) (.slice p.ga x.g.ks.len p.gc) (.slice p.wa x.wh.length p.wc)).cell? ⟨w.heap.size,0,none⟩=some (.string nm)/\(dP V w.heap.size (.string nm) (.string x.fn) (.int .i64 x.k) (.string x.e.op) (.string x.e.nm) (.int .i64 x.e.n) (.slice p.ea x.e.ks.len p.ec) (.string x.g.op) (.string x.g.nm) (.int .i64 x.g.n) (.slice p.ga x.g.ks.len p.gc) (.slice p.wa x.wh.length p.wc)).cell? ⟨w.heap.size,1,none⟩=some (.string x.fn)/\(dP V w.heap.size (.string nm) (.string x.fn) (.int .i64 x.k) (.string x.e.op) (.string x.e.nm) (.int .i64 x.e.n) (.slice p.ea x.e.ks.len p.ec) (.string x.g.op) (.string x.g.nm) (.int .i64 x.g.n) (.slice p.ga x.g.ks.len p.gc) (.slice p.wa x.wh.length p.wc)).cell? ⟨w.heap.size,2,none⟩=some (.int .i64 x.k)/\(dP V w.heap.size (.string nm) (.string x.fn) (.int .i64 x.k) (.string x.e.op) (.string x.e.nm) (.int .i64 x.e.n) (.slice p.ea x.e.ks.len p.ec) (.string x.g.op) (.string x.g.nm) (.int .i64 x.g.n) (.slice p.ga x.g.ks.len p.gc) (.slice p.wa x.wh.length p.wc)).cell? ⟨w.heap.size,3,none⟩=some (.string x.e.op)/\(dP V w.heap.size (.string nm) (.string x.fn) (.int .i64 x.k) (.string x.e.op) (.string x.e.nm) (.int .i64 x.e.n) (.slice p.ea x.e.ks.len p.ec) (.string x.g.op) (.string x.g.nm) (.int .i64 x.g.n) (.slice p.ga x.g.ks.len p.gc) (.slice p.wa x.wh.length p.wc)).cell? ⟨w.heap.size,4,none⟩=some (.string x.e.nm)/\(dP V w.heap.size (.string nm) (.string x.fn) (.int .i64 x.k) (.string x.e.op) (.string x.e.nm) (.int .i64 x.e.n) (.slice p.ea x.e.ks.len p.ec) (.string x.g.op) (.string x.g.nm) (.int .i64 x.g.n) (.slice p.ga x.g.ks.len p.gc) (.slice p.wa x.wh.length p.wc)).cell? ⟨w.heap.size,5,none⟩=some (.int .i64 x.e.n)/\(dP V w.heap.size (.string nm) (.string x.fn) (.int .i64 x.k) (.string x.e.op) (.string x.e.nm) (.int .i64 x.e.n) (.slice p.ea x.e.ks.len p.ec) (.string x.g.op) (.string x.g.nm) (.int .i64 x.g.n) (.slice p.ga x.g.ks.len p.gc) (.slice p.wa x.wh.length p.wc)).cell? ⟨w.heap.size,6,none⟩=some (.slice p.ea x.e.ks.len p.ec)/\(dP V w.heap.size (.string nm) (.string x.fn) (.int .i64 x.k) (.string x.e.op) (.string x.e.nm) (.int .i64 x.e.n) (.slice p.ea x.e.ks.len p.ec) (.string x.g.op) (.string x.g.nm) (.int .i64 x.g.n) (.slice p.ga x.g.ks.len p.gc) (.slice p.wa x.wh.length p.wc)).cell? ⟨w.heap.size,7,none⟩=some (.string x.g.op)/\(dP V w.heap.size (.string nm) (.string x.fn) (.int .i64 x.k) (.string x.e.op) (.string x.e.nm) (.int .i64 x.e.n) (.slice p.ea x.e.ks.len p.ec) (.string x.g.op) (.string x.g.nm) (.int .i64 x.g.n) (.slice p.ga x.g.ks.len p.gc) (.slice p.wa x.wh.length p.wc)).cell? ⟨w.heap.size,8,none⟩=some (.string x.g.nm)/\(dP V w.heap.size (.string nm) (.string x.fn) (.int .i64 x.k) (.string x.e.op) (.string x.e.nm) (.int .i64 x.e.n) (.slice p.ea x.e.ks.len p.ec) (.string x.g.op) (.string x.g.nm) (.int .i64 x.g.n) (.slice p.ga x.g.ks.len p.gc) (.slice p.wa x.wh.length p.wc)).cell? ⟨w.heap.size,9,none⟩=some (.int .i64 x.g.n)/\(dP V w.heap.size (.string nm) (.string x.fn) (.int .i64 x.k) (.string x.e.op) (.string x.e.nm) (.int .i64 x.e.n) (.slice p.ea x.e.ks.len p.ec) (.string x.g.op) (.string x.g.nm) (.int .i64 x.g.n) (.slice p.ga x.g.ks.len p.gc) (.slice p.wa x.wh.length p.wc)).cell? ⟨w.heap.size,10,none⟩=some (.slice p.ga x.g.ks.len p.gc)/\(dP V w.heap.size (.string nm) (.string x.fn) (.int .i64 x.k) (.string x.e.op) (.string x.e.nm) (.int .i64 x.e.n) (.slice p.ea x.e.ks.len p.ec) (.string x.g.op) (.string x.g.nm) (.int .i64 x.g.n) (.slice p.ga x.g.ks.len p.gc) (.slice p.wa x.wh.length p.wc)).cell? ⟨w.heap.size,11,none⟩=some (.slice p.wa x.wh.length p.wc)/\Hc r w (.returned (.tuple #[lnV ⟨nm,x⟩ p,.int .i64 0])) (dP V w.heap.size (.string nm) (.string x.fn) (.int .i64 x.k) (.string x.e.op) (.string x.e.nm) (.int .i64 x.e.n) (.slice p.ea x.e.ks.len p.ec) (.string x.g.op) (.string x.g.nm) (.int .i64 x.g.n) (.slice p.ga x.g.ks.len p.gc) (.slice p.wa x.wh.length p.wc)):=by
 have H:=zC (W:=V) (B:=w.heap.size) (t:=72) f (.string nm) (.string x.fn) (.int .i64 x.k) (.string x.e.op) (.string x.e.nm) (.int .i64 x.e.n) (.slice p.ea x.e.ks.len p.ec) (.string x.g.op) (.string x.g.nm) (.int .i64 x.g.n) (.slice p.ga x.g.ks.len p.gc) (.slice p.wa x.wh.length p.wc);have K:=yY V w.heap.size (.string nm) (.string x.fn) (.int .i64 x.k) (.string x.e.op) (.string x.e.nm) (.int .i64 x.e.n) (.slice p.ea x.e.ks.len p.ec) (.string x.g.op) (.string x.g.nm) (.int .i64 x.g.n) (.slice p.ga x.g.ks.len p.gc) (.slice p.wa x.wh.length p.wc);generalize dP V w.heap.size (.string nm) (.string x.fn) (.int .i64 x.k) (.string x.e.op) (.string x.e.nm) (.int .i64 x.e.n) (.slice p.ea x.e.ks.len p.ec) (.string x.g.op) (.string x.g.nm) (.int .i64 x.g.n) (.slice p.ga x.g.ks.len p.gc) (.slice p.wa x.wh.length p.wc)=V2 at H K;refine ⟨?_,?_,?_,?_,?_,?_,?_,?_,?_,?_,?_,?_,a.trans (K.below (B:=w.heap.size) (fun k c=>by omega) a.size),?_⟩;rotate_right
 · rw [hr]
   exact ⟨p,rfl,(hd.keptS K (fun k c d=>by omega)).imp (fun b _ d=>by omega)⟩
 all_goals simp [World.cell?,H]
theorem I6 {G:Nat->Prop} (acc:List LN) (a:Tp) (c:Nat) (s:Tr) (hs:s.size<=5000) (w:World) (hw:iE w) (hl:acc.length<=8) (hr:cQ G w a acc) :
 Calls prog 28 #[.slice a acc.length c,.string s] w (Hc (vW acc s.data.toList) w):=by
 obtain ⟨r,D⟩:∃ r,vW acc s.data.toList=r:=⟨_,rfl⟩;rw [D];have B1:=bA0 w (lnO fS aI);have U:=aA (show NW G w a acc (w.alloc (lnO fS aI)) from ⟨B1,hr.kept B1,heap_alloc_new w (lnO fS aI),hw.step B1⟩);generalize hW:w.alloc (lnO fS aI)=W at U;have HW:=aA hW;clear hW B1 hr hw;obtain ⟨k,hk⟩:∃ k,acc.length=k:=⟨_,rfl⟩;have jh:=aA hk;unfold vW at D;rw [hk] at D hl |-
 clear hk;go_enter func28,ntmps28
 go_upto_region 1 with fail
 rw [show w.alloc (.cells #[.string ⟨#[]⟩,.string ⟨#[]⟩,.int .i64 0,.string ⟨#[]⟩,.string ⟨#[]⟩,.int .i64 0,.slice none 0 0,.string ⟨#[]⟩,.string ⟨#[]⟩,.int .i64 0,.slice none 0 0,.slice none 0 0] 72)=W from HW.out];clear HW;by_cases h8:k=8
 · rw [if_pos h8] at D
   have q8:((k:Int) == 8)=true:=by rw [h8];rfl
   have N:=aA D.symm;clear D h8;obtain ⟨z0,z1,z2,z3,z4,z5,z6,z7,z8,z9,I,H⟩:=nG U.out.o;obtain ⟨b0,b1,b2,b3,b4,b5,b6,b7,b8,b9,M,L⟩:=oT U.out.o;go_wp2_with fail
   obtain ⟨B,A,z,y,u,t,q,m,j,h,f,d,C⟩:=uL U.out.o U.out.b N.out;dsimp only [dP] at B A z y u t q m j h f d C;exact bodyPost_ret (v:=.tuple #[lnV fS aI,.int .i64 4]) (by simp [results,results28,go_sem,B,A,z,y,u,t,q,m,j,h,f,d,fS,aO,aI,aD,F.len]) rfl C
 · rw [if_neg h8] at D
   have q8:((k:Int) == 8)=false:=by rw [beq_eq_false_iff_ne];omega
   have CU:=aA (Lz s hs W);have E:=aA D;clear h8 D;cases hh:fN s.data.toList with
   | none =>
     have N:=aA (show r=.bad 2 by rw [<- E.out];unfold eU;rw [hh]);rw [hh] at CU;clear hh E;go_wp2_with fail
     refine CU.out.mono ?_;rintro e w2 ⟨g,sa,sb,rfl⟩;have N2:=(U.out.step g).step (bA0 w2 (.cells #[.string sa] 9));clear g CU U;go_upto_region 4 with fail
     generalize w2.alloc (.cells #[.string sa] 9)=W2 at N2;have ja:=aA N2;clear N2;obtain ⟨z0,z1,z2,z3,z4,z5,z6,z7,z8,z9,I,H⟩:=nG ja.out.o;obtain ⟨b0,b1,b2,b3,b4,b5,b6,b7,b8,b9,M,L⟩:=oT ja.out.o;go_wp2_with fail
     obtain ⟨B,A,z,y,u,t,q,m,j,h,f,d,C⟩:=uL ja.out.o ja.out.b N.out;dsimp only [dP] at B A z y u t q m j h f d C;exact bodyPost_ret (v:=.tuple #[lnV fS aI,.int .i64 2]) (by simp [results,results28,go_sem,B,A,z,y,u,t,q,m,j,h,f,d,fS,aO,aI,aD,F.len]) rfl C
   | some nr =>
     obtain ⟨js,jq⟩:=nr;obtain ⟨nm,rs,jb,jf,jd⟩:=EJ hh;have jl:=EL hh;have jk:s.data.toList.length=s.size:=by simp
     have jp:nm.size<=5000:=by
      have:nm.data.toList.length=nm.size:=by simp
      rw [<- this,jf];omega
     have jo:rs.size<=5000:=by
      have:rs.data.toList.length=rs.size:=by simp
      rw [<- this,jd];omega
     have LX:=aA (wY (acc:=acc) jb);rw [jb] at CU;have NX:=aA (fun V=>kJ nm (by omega) V);have Z:=aA (fun V=>uJ nm V);clear hh jb jf jd jl jk;go_wp2_with fail
     refine CU.out.mono ?_;rintro e w2 ⟨g,rfl⟩;have N1:=U.out.step g;have BA:=bA0 w2 (.cells #[.string nm] 9);have N2:=N1.step BA;have NB:=heap_alloc_new w2 (.cells #[.string nm] 9);have R:w.heap.size<w2.heap.size:=aG N1.o;clear g CU U;go_upto_region 4 with fail
     generalize w2.alloc (.cells #[.string nm] 9)=W2 at N2 NB;generalize w2.heap.size=nb at NB R;have M2:=aA (show NM G w a acc nb nm W2 from ⟨N2,NB,R⟩);clear N1 BA N2 NB R;have n0:=yI M2.out.n;go_wp2_with fail
     refine (NX.out _).mono ?_;rintro e w3 ⟨rfl,rfl⟩;cases hg:cD nm.data.toList with
     | false =>
       have N:=aA (show r=.bad 5 by rw [<- E.out,LX.out,if_pos (.inl hg)]);clear hg n0 NX Z LX;obtain ⟨z0,z1,z2,z3,z4,z5,z6,z7,z8,z9,I,H⟩:=nG M2.out.x.o;obtain ⟨b0,b1,b2,b3,b4,b5,b6,b7,b8,b9,M,L⟩:=oT M2.out.x.o;go_wp2_with fail
       obtain ⟨B,A,z,y,u,t,q,m,j,h,f,d,C⟩:=uL M2.out.x.o M2.out.x.b N.out;dsimp only [dP] at B A z y u t q m j h f d C;exact bodyPost_ret (v:=.tuple #[lnV fS aI,.int .i64 5]) (by simp [results,results28,go_sem,B,A,z,y,u,t,q,m,j,h,f,d,fS,aO,aI,aD,F.len]) rfl C
     | true =>
       have HG:=aA hg;clear hg;go_wp2_with fail
       refine (Z.out _).mono ?_;rintro e w4 ⟨rfl,g⟩;have X:=aA (M2.out.step g);clear g M2 n0;cases T:dD nm.data.toList with
       | true =>
         have N:=aA (show r=.bad 5 by rw [<- E.out,LX.out,if_pos (.inr T)]);clear T NX Z LX;obtain ⟨z0,z1,z2,z3,z4,z5,z6,z7,z8,z9,I,H⟩:=nG X.out.x.o;obtain ⟨b0,b1,b2,b3,b4,b5,b6,b7,b8,b9,M,L⟩:=oT X.out.x.o;go_wp2_with fail
         obtain ⟨B,A,z,y,u,t,q,m,j,h,f,d,C⟩:=uL X.out.x.o X.out.x.b N.out;dsimp only [dP] at B A z y u t q m j h f d C;exact bodyPost_ret (v:=.tuple #[lnV fS aI,.int .i64 5]) (by simp [results,results28,go_sem,B,A,z,y,u,t,q,m,j,h,f,d,fS,aO,aI,aD,F.len]) rfl C
       | false =>
         have Y:=aA (show eU acc s.data.toList=if acc.any (fun x=>x.nm.data.toList == nm.data.toList)=true then .bad 6 else match agX rs.data.toList with
          | .bad _ e=>.bad e
          | .ok a=>.ok ⟨⟨nm.data.toList.toArray⟩,a⟩ by rw [LX.out,if_neg (by rw [HG.out,T];simp)];all_goals rfl)
         have CF:=Si acc a c nb nm w4 (by rw [jh.out];omega) X.out.x.r X.out.n;rw [jh.out] at CF;have ji:=aA CF;have n0:=yI X.out.n;clear T LX HG NX Z CF;go_wp2_with fail
         refine ji.out.mono ?_;rintro e w5 ⟨rfl,g⟩;have P:=aA (X.out.step g);clear g X n0 ji;cases hq:acc.any (fun x=>x.nm.data.toList == nm.data.toList) with
         | true =>
           have N:=aA (show r=.bad 6 by rw [<- E.out,Y.out,if_pos hq]);clear hq Y;obtain ⟨z0,z1,z2,z3,z4,z5,z6,z7,z8,z9,I,H⟩:=nG P.out.x.o;obtain ⟨b0,b1,b2,b3,b4,b5,b6,b7,b8,b9,M,L⟩:=oT P.out.x.o;go_wp2_with fail
           obtain ⟨B,A,z,y,u,t,q,m,j,h,f,d,C⟩:=uL P.out.x.o P.out.x.b N.out;dsimp only [dP] at B A z y u t q m j h f d C;exact bodyPost_ret (v:=.tuple #[lnV fS aI,.int .i64 6]) (by simp [results,results28,go_sem,B,A,z,y,u,t,q,m,j,h,f,d,fS,aO,aI,aD,F.len]) rfl C
         | false =>
           have O:=aA (show eU acc s.data.toList=match agX rs.data.toList with
            | .bad _ e=>.bad e
            | .ok a=>.ok ⟨⟨nm.data.toList.toArray⟩,a⟩ by rw [Y.out,if_neg (by rw [hq];decide)];all_goals rfl)
           have PG:=aA (Av rs (by omega) w5 P.out.x.l);clear hq Y;cases hp:agX rs.data.toList with
           | bad p er =>
             rw [hp] at PG O;obtain ⟨qe,qn⟩:=oF hp;have N:=aA (show r=.bad er by rw [<- E.out,O.out]);clear hp O;go_wp2_with fail
             refine PG.out.mono ?_;rintro e S ⟨g,rfl⟩;have M5:=(P.out.step g).step (bA0 S (agP aO aI));clear g P PG;go_upto_region 11 with fail
             generalize World.alloc S _=W6 at M5;have M6:=aA M5;clear M5;obtain ⟨z0,z1,z2,z3,z4,z5,z6,z7,z8,z9,I,H⟩:=nG M6.out.x.o;obtain ⟨b0,b1,b2,b3,b4,b5,b6,b7,b8,b9,M,L⟩:=oT M6.out.x.o;go_wp2_with fail
             obtain ⟨B,A,z,y,u,t,q,m,j,h,f,d,C⟩:=uL M6.out.x.o M6.out.x.b N.out;dsimp only [dP] at B A z y u t q m j h f d C;exact bodyPost_ret (v:=.tuple #[lnV fS aI,.int .i64 er]) (by simp [results,results28,go_sem,B,A,z,y,u,t,q,m,j,h,f,d,fS,aO,aI,aD,F.len]) rfl C
           | ok x =>
             rw [hp] at PG O;have N:=aA (show r=.ok ⟨nm,x⟩ by rw [<- E.out,O.out]);clear hp O;go_wp2_with fail
             refine PG.out.mono ?_;rintro e S ⟨g,p,rfl,je⟩;have BA:=bA0 S (agP x p);have M5:=(P.out.step g).step BA;have NA:=heap_alloc_new S (agP x p);have R5:=je.kept BA;have jm:nb<S.heap.size:=aG (P.out.step g).n;have R:w5.heap.size<=S.heap.size:=g.size;have jj:=Nat.lt_trans P.out.lt (aG P.out.n);clear g P PG BA je;go_upto_region 11 with fail
             generalize World.alloc S _=W6 at M5 NA R5;generalize S.heap.size=ab at NA jm R;have M6:=aA M5;have jc:=aA NA;have jn:=aA R5;have CL:=aA (QY nm (by omega));have n0:=yI M6.out.n;obtain ⟨m0,m1,m2,m3,m4,m5,m6,m7,m8,m9,jt⟩:=aE jc.out;clear M5 NA R5;go_upto_region 13 with fail
             go_region_law (first
              | (go_simp
                 go_at_call 58
                 with_reducible refine (CL.out _).mono ?_
                 rintro e v1 ⟨rfl,g⟩;have D7:=(aT W6).trans g;have M7:=aA (M6.out.step D7);have jg:=(D7.block _ (aG jc.out)).trans jc.out;have R7:=aA (jn.out.kept D7);have n7:=yI M7.out.n;obtain ⟨p0,p1,p2,p3,p4,p5,p6,p7,p8,p9,jr⟩:=aE jg;obtain ⟨z0,z1,z2,z3,z4,z5,z6,z7,z8,z9,I,H⟩:=nG M7.out.x.o;obtain ⟨b0,b1,b2,b3,b4,b5,b6,b7,b8,b9,M,L⟩:=oT M7.out.x.o;clear g D7 jg)
              | fail)
             all_goals go_wp2_with fail
             all_goals
              obtain ⟨B,A,z,y,u,t,q,m,j,h,f,d,C⟩:=Sk (r:=r) (nm:=nm) M7.out.x.o M7.out.x.b N.out jj R7.out;dsimp only [dP] at B A z y u t q m j h f d C;exact bodyPost_ret (v:=.tuple #[lnV ⟨nm,x⟩ p,.int .i64 0]) (by simp [results,results28,go_sem,B,A,z,y,u,t,q,m,j,h,f,d]) rfl C
theorem JJ:∃ i z,prog.info? 72=some i/\i.zero=some z/\i.size=12/\i.bytes=192/\z.cells.size=12:=by
 have h:(prog.info? 72).map (fun i=>(i.zero.map (fun z=>z.cells.size),i.size,i.bytes))=some (some 12,12,192):=by kernel_rfl
 cases hx:prog.info? 72 with
 | none=>rw [hx] at h;cases h
 | some i =>
   rw [hx] at h;simp only [Option.map_some,Option.some.injEq,Prod.mk.injEq] at h;obtain ⟨a,c,b⟩:=h;cases hz:i.zero with
   | none=>rw [hz] at a;cases a
   | some z =>
     rw [hz] at a;exact ⟨i,z,rfl,hz,c,b,by simpa using a⟩
theorem Jl (W:World) (x:LN) (p:PA):∀ j u,(lnL x p)[j]? = some u->(W.alloc (lnO x p)).cell? ((⟨W.heap.size,0,none⟩:Addr).add j)=some u:=fun j u a=>by
 have h:=heap_alloc_new W (lnO x p);rw [Addr.add_lit,Nat.zero_add,cell_of_row _ _ _ _ _ (0,0) h];have b:j<12:=(List.getElem?_eq_some_iff.1 a).1;match j,b,a with
 | 0,_,h=>exact h
 | 1,_,h=>exact h
 | 2,_,h=>exact h
 | 3,_,h=>exact h
 | 4,_,h=>exact h
 | 5,_,h=>exact h
 | 6,_,h=>exact h
 | 7,_,h=>exact h
 | 8,_,h=>exact h
 | 9,_,h=>exact h
 | 10,_,h=>exact h
 | 11,_,h=>exact h
theorem L5 {acc:List LN} {s:Tq} {q:List (Tq)} {er:Int} (h:vW acc s=.bad er):fD (s::q) acc=.bad acc.length er/\¬ er=0:=by
 unfold vW at h;by_cases a:acc.length=8
 · rw [if_pos a] at h
   cases h;exact ⟨Bc a,by decide⟩
 · rw [if_neg a] at h
   exact ⟨kZ a h,vY (fun l p e b=>by obtain ⟨c, -⟩:=oF b;simpa using c) h⟩
theorem Pg {acc:List LN} {s:Tq} {q:List (Tq)} {x:LN} (h:vW acc s=.ok x):fD (s::q) acc=fD q (acc++[x])/\¬ acc.length=8:=by
 unfold vW at h;by_cases a:acc.length=8
 · rw [if_pos a] at h;cases h
 · rw [if_neg a] at h
   exact ⟨qI a h,a⟩
def szV:Value->Nat
 | .string s=>s.size
 | _=>0
theorem fY (s:Tr) (hm:s.size<=5000) (w:World) (hw:iE w):Calls prog 9 #[.string s] w (Aj (fX s.data.toList) w):=by
 obtain ⟨r,hr⟩:∃ r,fX s.data.toList=r:=⟨_,rfl⟩;have HR:=aA (show fD (cE s.data.toList) []=r from hr);rw [hr];have K0:=aA (Cx (E:=72) (Below.refl w.heap.size w));have HL:=aA hw;have T:=underlying23;obtain ⟨i,zv,hi,jc,jb,ja,Z⟩:=JJ;obtain ⟨B,hB⟩:∃ B,w.heap.size=B:=⟨_,rfl⟩;rw [hB] at K0;clear hr hw hB;go_enter func9,ntmps9
 go_wp2_with fail
 go_loopw [5,6] (fun v i wr=>∃ (acc:List LN) (f:Tp) (oc:Nat) (ps:List PA) (R:Tr),v=.slice f acc.length oc/\i=.string R/\R.size<=5000/\acc.length<=8/\Hid (fD (cE R.data.toList) acc=r)/\Hid (LBK w B 72 acc f oc ps wr)) (fun _ i _=>szV i)
 case atStart=>exact ⟨[],none,0,[],s,rfl,rfl,hm,by decide,HR,K0⟩
 case round =>
  obtain ⟨acc,f,oc,ps,R,rfl,rfl,jf,A,HP,P⟩:=hrel;clear K0 HR hm;obtain ⟨k,c⟩:∃ k,acc.length=k:=⟨_,rfl⟩;have a:=aA c;rw [c] at A;by_cases l:R.data.toList=[]
  · have q0:R.toList.isEmpty=true:=by rw [Tm,l];rfl
    have RR:=aA (show r=.ok acc by rw [<- HP.out,l];rfl);rw [c];clear c l;go_wp2_with fail
    exact bodyPost_ret (v:=.tuple #[.slice f k oc,.int .i64 0,.int .i64 0]) (by simp [results,results9,go_sem]) rfl (by rw [RR.out];exact ⟨P.out.b,f,oc,by rw [a.out],P.out.reads⟩)
  · have q0:R.toList.isEmpty=false:=by
     rw [Tm];cases jg:R.data.toList with
     | nil=>exact absurd jg l
     | cons _ _=>rfl
    have CL:=J8 l;have CZ:=Qd R.data.toList l;have SC:=aA (OX R jf);obtain ⟨X,hX⟩:∃ X:Tr,(⟨(Lib.cut R.data.toList [10]).1.toArray⟩:Tr)=X:=⟨_,rfl⟩;obtain ⟨Y,hY⟩:∃ Y:Tr,(⟨(Lib.cut R.data.toList [10]).2.1.toArray⟩:Tr)=Y:=⟨_,rfl⟩;obtain ⟨tb,z⟩:∃ t,(Lib.cut R.data.toList [10]).2.2=t:=⟨_,rfl⟩;rw [hX,hY,z] at SC;have G:(Lib.cut R.data.toList [10]).1=X.data.toList:=by rw [<- hX]
    have C:(Lib.cut R.data.toList [10]).2.1=Y.data.toList:=by rw [<- hY]
    rw [G,C] at CL CZ
    have je:X.size<=5000:=by
     have j:X.data.toList.length=X.size:=by simp
     have h:R.data.toList.length=R.size:=by simp
     omega
    have jd:Y.size<R.size:=by
     have j:Y.data.toList.length=Y.size:=by simp
     have h:R.data.toList.length=R.size:=by simp
     omega
    have HQ:=aA HP.out;rw [CL] at HQ;rw [c];clear hX hY z G C CL CZ HP c l;go_wp2_with fail
    refine (SC.out _).mono ?_;rintro e w2 ⟨rfl,d⟩;have o:=aA (P.out.step d);have n:=aA (I6 acc f oc X je w2 (HL.out.step o.out.b) (by rw [a.out];exact A) o.out.reads);rw [a.out] at n;clear d SC P;cases hn:vW acc X.data.toList with
    | bad er =>
      rw [hn] at n;obtain ⟨j,h⟩:=L5 (q:=cE Y.data.toList) hn;have RR:=aA (show r=.bad k er by rw [<- HQ.out,j,a.out]);have qn:((er:Int) != 0)=true:=by rw [bne_iff_ne];exact h
      clear hn j h;go_wp2_with fail
      refine n.out.mono ?_;rintro e w3 ⟨d,rfl⟩;have K3:=o.out.step d;have K4:=aA (K3.step (bA0 w3 (lnO fS aI)));clear d K3 o n;go_upto_region 6 with fail
      generalize World.alloc w3 _=W3 at K4;go_wp2_with fail
      exact bodyPost_ret (v:=.tuple #[.slice none 0 0,.int .i64 (k:Nat),.int .i64 er]) (by simp [results,results9,go_sem]) rfl (by rw [RR.out];exact ⟨K4.out.b,rfl⟩)
    | ok x =>
      rw [hn] at n;obtain ⟨j,h⟩:=Pg (q:=cE Y.data.toList) hn;have jh:=aA (show fD (cE Y.data.toList) (acc++[x])=r by rw [<- HQ.out,j]);have jj:k<8:=by rw [a.out] at h;omega
      clear hn j h;go_wp2_with fail
      refine n.out.mono ?_;rintro e N ⟨d,p,rfl,hr⟩;have y:=d.size;have BA:=bA0 N (lnO x p);have O:=heap_alloc_new N (lnO x p);have g:=aA (d.trans (BA.mono y));have L:=aA (hr.kept BA);clear d BA n hr y;go_upto_region 6 with fail
      generalize World.alloc N _=W at O g L;generalize N.heap.size=D at O;have ji:=aA O;obtain ⟨m0,m1,m2,m3,m4,m5,m6,m7,m8,m9,V,U⟩:=KM ji.out;have K5:=aA (o.out.step g.out);have S:=aA (bA0 W (lnO x p));have m:=aA (show (W.alloc (lnO x p)).ownsRow B 72 12 (.slice f acc.length oc) acc.length (jO acc ps) from K5.out.own.alloc _);have I:=aA (Jl W x p);have H:=aA (fun u (hu:u∈lnL x p)=>tK [x] [p] u (by simpa [jO] using hu));have M:=aA (show B<=(W.alloc (lnO x p)).heap.size by have j:=K5.out.hz;have h:=S.out.size;omega);rw [a.out] at m;clear O
      go_upto_region 9 with (first
       | (at_builtin
          refine aS rfl _ _ 23 rfl (base:=B) T hi jc jb ja Z (by decide) (.slice f k oc) k 1 1 ⟨W.heap.size,0,none⟩ (jO acc ps) (lnL x p) rfl rfl m.out rfl I.out H.out (by unfold maxLen;omega) (by omega) M.out ?_;intro v4 w6 ho hg hn;obtain ⟨a',c',hv⟩:=eQ ho;subst hv;have KA:=(aC.refl (fun b=>(Tj f k oc).ownBlock=some b) _).grown hg (fun k hk=>.inl hk);have K6:=aA (yX (x:=x) (p:=p) o.out (V2:=W.alloc (lnO x p)) (g.out.trans (S.out.mono g.out.size)) (fun w7 k7=>((L.out.kept S.out).keptS k7 (fun b d hg=>by have:=d.2;omega)).imp (fun b _ d=>by have:=o.out.hz;omega)) (by rw [a.out];exact KA) (by rw [a.out];exact ho) (by rw [a.out];exact hn));clear ho hg hn KA m I H M S)
       | fail)
      clear m0 m1 m2 m3 m4 m5 m6 m7 m8 m9 V U;go_wp2_with fail
      go_roundw
      case rel=>exact ⟨acc++[x],a',c',ps++[p],Y,by rw [Tb,a.out];rfl,rfl,by omega,by rw [Tb,a.out];simp;omega,jh,K6⟩
      case measure=>exact jd
def Oth (b:Nat) (w w':World):Prop:=∀ (k:Nat) (cs:Array Value) (t:TypeId),k ≠ b->t ≠ 5->w.heap[k]? = some (.cells cs t (0,0))->w'.heap[k]? = some (.cells cs t (0,0))
theorem Ql:(prog.info? 92).map (·.size)=some 2:=by kernel_rfl
theorem Qm:liesAt prog prog.depth 92 (2 / prog.cellsOf 92) 0 92 1=true:=by kernel_rfl
theorem Qn:(prog.info? 5).map (fun i=>(i.zero,i.size,i.bytes))=some (some (.int .u8 0),1,1):=by kernel_rfl
theorem G1 (B b:Nat) (f:List Value) (w:World) (h:Bd B b f w):Calls prog 71 #[.pointer (some ⟨b,0,none⟩)] w fun e w' =>
 e=.returned (.tuple #[])/\Lib.BuilderAt 92 5 B b (.pointer (some ⟨b,0,none⟩)) f w'/\Below B w w'/\Oth b w w':=by
 obtain ⟨j,d,c⟩:=Option.map_eq_some_iff.1 Ql;rcases h with h | h
 · have l:=h.cell0
   have m:=h.frozen0;have a:=h.shape;have H:=aA h;clear h;go_enter func71,ntmps71
   go_wp2
   rw [Lib.run_to_unsafe w ⟨b,0,none⟩ underlying90 underlying209 d (by rw [c];decide) a (Nat.zero_lt_succ 1)];simp only [Result.andThen];rw [Oper.upon_value];go_wp2
   rw [run_callFunc_extern func128 (by kernel_rfl) (by kernel_rfl) (by kernel_rfl) (e:=Extern.AbiNoEscape.same) (by kernel_rfl)];rw [Lib.run_noEscape];simp only [Result.andThen];rw [Oper.upon_value];go_wp2
   rw [Lib.run_from_unsafe w ⟨b,0,none⟩ underlying209 underlying90 d a Qm];simp only [Result.andThen];rw [Oper.upon_value];go_wp2
   go_end0
   exact ⟨rfl,H.out.used _,(Below.refl B w).setCell (p:=⟨b,0,none⟩) H.out.1 _,fun k n t g _ h=>(Below.heap_setCell _ ⟨b,0,none⟩ _ k g).trans h⟩
 · have l:=h.cell0
   have H:=aA h;clear h;go_enter func71,ntmps71
   go_wp2
   rw [Lib.run_neq_ptr_same w _ underlying90 d];go_wp2
   go_end0
   exact ⟨rfl,H.out,Below.refl B _,fun _ _ _ _ _ h=>h⟩
theorem Nr {w:World} {B:Nat} {e:TypeId} {v:Value} {n:Nat} {xs:List Value} (h:w.ownsRow B e 1 v n xs):∃ a l c,v=.slice a l c:=by
 rcases h.2 with ⟨h,_⟩ | ⟨g,b,_,h,_⟩
 · exact ⟨_,_,_,h⟩
 · exact ⟨_,_,_,h⟩
theorem Cd (s:Tr):(Lib.strCells s).length=s.size:=by simp [Lib.strCells]
theorem RJ {B b n:Nat} {P bs':List Value} {v r:Value} {w c f a:World} (H:B<=b) (m:c.ownsRow B 5 1 v n P) (o:Oth b w c) (y:∀ k,k<c.heap.size->f.heap[k]? = c.heap[k]?) (L:c.heap.size<=f.heap.size) (A:c.heap[b]? = some (.cells #[.pointer (some ⟨b,0,none⟩),v] 92 (0,0))) (s:v.ownBlock ≠ some b)
 (S:Below B w c) (R:Below B c f) (G:f.heap[b]? = c.heap[b]?) (I:∀ k,v.ownBlock=some k->B<=k) (C:B<=f.heap.size) (ho:a.ownsRow B 5 1 r bs'.length bs') (z:f.grownBy a v.ownBlock) :
 (a.cell? ⟨b,0,none⟩=some (.pointer (some ⟨b,0,none⟩))/\a.cell? ⟨b,1,none⟩=some v/\a.frozen? ⟨b,1,none⟩=false)/\Bd B b bs' (a.setCell ⟨b,1,none⟩ r)/\Below B w (a.setCell ⟨b,1,none⟩ r)/\Oth b w (a.setCell ⟨b,1,none⟩ r):=by
 have u:b<f.heap.size:=by
  rcases Nat.lt_or_ge b f.heap.size with h' | h'
  · exact h'
  · rw [<- G] at A;simp [Array.getElem?_eq_none h'] at A
 have d:a.heap[b]? = some (.cells #[.pointer (some ⟨b,0,none⟩),v] 92 (0,0)):=by rw [z.block b u (fun e=>s e.symm),G];exact A
 refine ⟨⟨by rw [Lib.cell_of_heap d];rfl,by rw [Lib.cell_of_heap d];rfl,Lib.frozen_of_heap d 1⟩,.inr (Lib.BuilderAt.put H d ho (by decide)),?_⟩;refine ⟨((S.trans R).grown z C I).setCell (p:=⟨b,1,none⟩) H _,fun k N t q E h=>?_⟩;have D:=o k N t q E h;have x:=lt_of_block D;rw [Below.heap_setCell _ ⟨b,1,none⟩ _ k q,z.block k (by omega) (fun e=>?_),y k x]
 · exact D
 · rcases m.2 with ⟨j,_⟩ | ⟨g,O,M,j,_,l,_⟩
   · rw [j] at e;cases e
   · rw [j] at e
     obtain rfl:k=g:=by simpa [Value.ownBlock] using e
     rw [D] at l;simp only [Option.some.injEq,Obj.cells.injEq] at l;exact E l.2.1
theorem tX (B b:Nat) (j:List Value) (s:Tr) (w:World) (h:Bd B b j w) (hl:j.length+s.size<=1000000000) (A:B<=w.heap.size) :
 Calls prog 36 #[.pointer (some ⟨b,0,none⟩),.string s] w fun e w'=>e=.returned (.tuple #[.int .i64 s.size,.nilIface])/\Bd B b (j++Lib.strCells s) w'/\Below B w w'/\Oth b w w':=by
 obtain ⟨x,z,t,r,q⟩:=info_parts Qn;have C:=aA (G1 B b j w h);clear h;go_enter func36,ntmps36
 go_wp2_with fail
 refine C.out.mono ?_;rintro e p ⟨rfl,⟨D,v,a,c,n⟩,g,m⟩;have E:p.cell? ⟨b,0,none⟩=some (.pointer (some ⟨b,0,none⟩)):=by rw [Lib.cell_of_heap a];rfl
 have c1:p.cell? ⟨b,1,none⟩=some v:=by rw [Lib.cell_of_heap a];rfl
 have l:=aA (And.intro a (And.intro c (And.intro n (And.intro g m))));have hz:=g.size;clear a c n g m C;go_wp2_with (at_builtin;refine Lib.wpList_append_own_string _ rfl _ _ 54 9 rfl B 5 x underlying54 underlying9 z t r q v j.length j rfl l.out.2.1 s rfl (by unfold maxLen;omega) (by omega) (by omega) ?_)
 intro H G ho u _;obtain ⟨O,no,N,rfl⟩:=Nr ho;obtain ⟨⟨M,L,I⟩,o,f,d⟩:=RJ (bs':=j++Lib.strCells s) D l.out.2.1 l.out.2.2.2.2 (fun _ _=>rfl) (Td _) l.out.1 l.out.2.2.1 l.out.2.2.2.1 (Below.refl B p) rfl (fun k y=>(l.out.2.1.lt k y).1) (by omega) (by rw [Tb,Cd];exact ho) u;have R:=aA (And.intro o (And.intro f d));clear ho u o f d E c1;go_wp2
 go_ret2;exact ⟨rfl,R.out.1,R.out.2⟩
theorem Nt {B b:Nat} {f:List Value} {w w':World} (h:Bd B b f w) (a:Below w.heap.size w w'):Bd B b f w':=by
 have c:∀ p,Lib.BuilderAt 92 5 B b p f w->Lib.BuilderAt 92 5 B b p f w':=fun p ⟨g,v,d,ho,hne⟩ =>
  ⟨g,v,(a.block b (lt_of_block d)).trans d,ho.kept (row:=none) ⟨a.os,a.tape,a.output,a.size,fun k d _=>a.block k d⟩ (by cases v.ownBlock <;> simp),hne⟩
 rcases h with h | h
 · exact .inl (c _ h)
 · exact .inr (c _ h)
theorem Ns {B b:Nat} {a:List Value} {w:World} (h:Bd B b a w):b<w.heap.size:=by
 rcases h with h | h
 · exact h.lt
 · exact h.lt
theorem rW (l:Tq) (s:Tr):Lib.byteCells l++Lib.strCells s=Lib.byteCells (l++s.data.toList):=by simp [Lib.byteCells,Lib.strCells]
abbrev txB (l:Tq):Tr:=⟨l.toArray⟩
def iS (x:AG):List ByteArray:=if kP x.fn.data.toList=true then [txB (Lib.itoa x.k)] else []
def jV (x:AG):List ByteArray:=if eP x.fn.data.toList=true then iS x++[txB (aV x.e)] else iS x
def lV (x:AG):List ByteArray:=if bP x.fn.data.toList=true then jV x++[txB (aV x.g)] else jV x
theorem Kr (x:AG) (d:dZ x.fn.data.toList=true):Lib.join ((lV x).map (·.data.toList)) [44,32]=gL x:=by
 unfold lV jV iS gL;obtain ⟨F,f⟩:∃ F,x.fn.data.toList=F:=⟨_,rfl⟩;rw [f] at d |-
 have h:eP F= !(F == aN):=by unfold eP;rw [d,Bool.true_and]
 by_cases b:F=aN
 · subst b
   rfl
 · have g:eP F=true:=by rw [h,beq_eq_false_iff_ne.2 b];rfl
   rw [if_neg b,if_pos g];by_cases a:F=cH
   · subst a
     rw [if_pos rfl,if_neg (show ¬ bP cH=true by decide),if_pos (show kP cH=true by decide)];simp [Lib.join,txB]
   · rw [if_neg a,if_neg (show ¬ kP F=true by unfold kP;rw [beq_eq_false_iff_ne.2 a];decide)]
     by_cases c:F=aP
     · subst c
       rw [if_pos rfl,if_pos (show bP aP=true by decide)];simp [Lib.join,txB]
     · rw [if_neg c,if_neg (show ¬ bP F=true by unfold bP;rw [beq_eq_false_iff_ne.2 c];decide)]
       simp [Lib.join,txB]
theorem Fj (x:AG):(iS x).length<=1/\(jV x).length<=2/\(lV x).length<=3:=by
 have c:(iS x).length<=1:=by unfold iS;split <;> simp
 have b:(jV x).length<=2:=by
  unfold jV;split
  · rw [Tb,List.length_singleton];omega
  · omega
 have a:(lV x).length<=3:=by
  unfold lV;split
  · rw [Tb,List.length_singleton];omega
  · omega
 exact ⟨c,b,a⟩
structure TA (G:Nat->Prop) (w:World) (x:AG) (p:PA) (B:Nat) (v:Value) (L:List ByteArray) (V:World):Prop where
 k:KP9 G w x p V
 t:V.heap[B]? = some (ptO (kP x.fn.data.toList) (eP x.fn.data.toList) (bP x.fn.data.toList))
 own:V.ownsRow (B+1) 9 1 v L.length (L.map Value.string)
 lo:w.heap.size<B
theorem TA.step {G:Nat->Prop} {w:World} {x:AG} {p:PA} {B:Nat} {v:Value} {L:List ByteArray} {V V':World} (h:TA G w x p B v L V) (a:Below V.heap.size V V'):TA G w x p B v L V' :=
 ⟨h.k.step a,(a.block _ (aG h.t)).trans h.t,cK h.own a,h.lo⟩
theorem TA.push {G:Nat->Prop} {w:World} {x:AG} {p:PA} {B:Nat} {v g:Value} {L:List ByteArray} {s:Tr} {V V':World} (h:TA G w x p B v L V) (j:∀ b,G b->b<w.heap.size) (ho:V'.ownsRow (B+1) 9 1 g (L.length+1) (L.map Value.string++[.string s])) (f:V.grownBy V' v.ownBlock):TA G w x p B g (L++[s]) V':=by
 have a:=(aC.refl (fun b=>v.ownBlock=some b) V).grown f (fun k a=>.inl a);have d:=h.lo;have o:=aG h.t;have lo:∀ b,v.ownBlock=some b->B+1<=b:=fun b c=>(h.own.lt b c).1
 refine ⟨⟨h.k.b.trans (a.below (B:=w.heap.size) (fun b c=>by have:=lo b c;omega) h.k.z),Nat.le_trans h.k.z a.size,a.heap h.k.n (fun e=>by have:=lo _ e;omega),h.k.r.keptS a (fun b c f=>by have:=lo b c;have:=j b f;omega)⟩,a.heap h.t (fun e=>by have:=lo _ e;omega),?_,d⟩;have m:(L++[s]).length=L.length+1:=by simp
 have l:(L++[s]).map Value.string=L.map Value.string++[.string s]:=by simp
 rw [m,l];exact ho
theorem ML:(prog.info? 9).map (fun i=>(i.zero,i.size,i.bytes))=some (some (.string ⟨#[]⟩),1,16):=by kernel_rfl
theorem Cw (W:World) (v:Value) (t:TypeId):∀ j u,([v]:List Value)[j]? = some u->(W.alloc (.cells #[v] t)).cell? ((⟨W.heap.size,0,none⟩:Addr).add j)=some u:=fun j u a=>by
 match j,a with
 | 0, h =>
   cases h;rw [Addr.add_lit];unfold World.cell?;rw [heap_alloc_new];rfl
 | n+1,h=>simp at h
theorem Kp {G:Nat->Prop} (x:AG) (p:PA) (w:World) (he:gA x=0) (hn:gM x) (hl:lW w) (hr:aX G w x p) :
 Calls prog 73 #[agV x p] w fun e w'=>Below w.heap.size w w'/\∃ v,e=.returned v/\w'.ownsRow w.heap.size 9 1 v (lV x).length ((lV x).map Value.string):=by
 obtain ⟨h1,h2,h3,h4,h5,h6⟩:=cY he;have jf:aX (fun b=>b<w.heap.size) w x p:=hr.imp (fun b hb _=>hb);have K0:=qS jf;have HL:=aA (fun V (hV:Below w.heap.size w V)=>hl.step hV);have AL:=aA (Fj x);have HN:=aA hn;generalize hW:w.alloc (agP x p)=W at K0;have HW:=aA hW;have HK:=aA K0;have CP:=aA (mO x.fn W);have jj:=aA (show (kP x.fn.data.toList=true->1<=x.k/\x.k<=16) from fun h=>h2 (by unfold kP at h;simpa using h));have ji:=aA (show (eP x.fn.data.toList=true->aW x.e=0) from fun h=>h3 (by unfold eP at h;intro hc;rw [hc] at h;simp at h));have jh:=aA (show (bP x.fn.data.toList=true->aW x.g=0) from fun h=>h4 (by unfold bP at h;simpa using h));unfold ptV at CP;have F1:∀ L,iS x=L->iS x=L:=fun _ h=>h
 have D1:=aA (show iS x=if kP x.fn.data.toList=true then [txB (Lib.itoa x.k)] else [] from rfl);have D2:=aA (show jV x=if eP x.fn.data.toList=true then iS x++[txB (aV x.e)] else iS x from rfl);have D3:=aA (show lV x=if bP x.fn.data.toList=true then jV x++[txB (aV x.g)] else jV x from rfl);have DT:=aA (fun B v L V=>@TA.mk (fun b=>b<w.heap.size) w x p B v L V);have TQ:=aA (fun B v L V (h:TA (fun b=>b<w.heap.size) w x p B v L V)=>h.t);obtain ⟨kk,jc⟩:∃ b,kP x.fn.data.toList=b:=⟨_,rfl⟩;obtain ⟨ee,jd⟩:∃ b,eP x.fn.data.toList=b:=⟨_,rfl⟩;obtain ⟨bb,je⟩:∃ b,bP x.fn.data.toList=b:=⟨_,rfl⟩;rw [jc,jd,je] at CP TQ DT;rw [jc] at D1 jj;rw [jd] at D2 ji;rw [je] at D3 jh;clear hW K0 hr jf hn hl he h1 h2 h3 h4 h5 h6 F1 jc jd je;obtain ⟨E,D,C,A,z,y,s,q,o,m,a⟩:=aE HK.out.n;have Y:=underlying55;obtain ⟨i,hi,jb,ja,Z⟩:=info_parts ML;go_enter func73,ntmps73
 go_upto_region 1 with fail
 rw [show w.alloc (.cells #[.string x.fn,.int .i64 x.k,.string x.e.op,.string x.e.nm,.int .i64 x.e.n,.slice p.ea x.e.ks.len p.ec,.string x.g.op,.string x.g.nm,.int .i64 x.g.n,.slice p.ga x.g.ks.len p.gc,.slice p.wa x.wh.length p.wc] 70)=W from HW.out];go_wp2_with fail
 refine CP.out.mono ?_;rintro e w1 ⟨rfl,jg⟩;have K1:=HK.out.step jg;have BA:=bA0 w1 (ptO kk ee bb);have l:=heap_alloc_new w1 (ptO kk ee bb);have K2:=aA (K1.step BA);have jk:w.heap.size<w1.heap.size:=aG K1.n;clear jg K1 BA CP HK E D C A z y s q o m a;go_upto_region 2 with fail
 generalize w1.alloc (ptO kk ee bb)=V at *;generalize w1.heap.size=B at *;go_cut [5] (fun v5 wc=>Hid (TA (fun b=>b<w.heap.size) w x p B v5 [] wc))
 case first =>
  have I:=aA (DT.out B (.slice none 0 0) [] V K2.out l ⟨rfl,.inl ⟨rfl,rfl⟩⟩ jk);go_wp2_with fail
  go_meet;case rel=>exact I
 case rest =>
 have I:=hcut;clear K2 l hcut;have K2:=aA I.out.k;have l:=TQ.out _ _ _ _ I.out;obtain ⟨E,D,C,A,z,y,s,q,o,m,a⟩:=aE K2.out.n;obtain ⟨⟨X,U,T⟩, -⟩:=d9 l;clear l K2;go_upto_if 13 with fail
 go_cut [5] (fun v5 wc=>Hid (TA (fun b=>b<w.heap.size) w x p B v5 (iS x) wc))
 case first =>
  cases kk with
  | true =>
    have hk:=jj.out rfl;have R:=aA (zI x.k (by omega) (by omega) _ (HL.out _ I.out.k.b));go_wp2_with fail
    refine R.out.mono ?_;rintro e f ⟨rfl,c⟩;have S:=bA0 f (.cells #[.string (txB (Lib.itoa x.k))] 9);have j:=aA ((I.out.step c).step S);have P:=aA (Cw f (.string (txB (Lib.itoa x.k))) 9);have d:=aA (show B+1<=(f.alloc (.cells #[.string (txB (Lib.itoa x.k))] 9)).heap.size from aG j.out.t);clear c S R I E D C A z y s q o m a X U T
    go_wp2_with (first
     | (at_builtin
        refine aS rfl _ _ 55 rfl (base:=B+1) Y hi jb ja Z rfl (by decide) u5 ([]:List ByteArray).length 1 1 ⟨f.heap.size,0,none⟩ (([]:List ByteArray).map Value.string) [.string (txB (Lib.itoa x.k))] rfl rfl j.out.own rfl P.out (fun u M=>by simp only [List.mem_singleton] at M;subst M;rfl) (by have:=AL.out;have l0:([]:List ByteArray).length=0:=rfl;unfold maxLen;omega) (by have:=AL.out;have l0:([]:List ByteArray).length=0:=rfl;omega) d.out ?_;intro v9 w9 ho N hn;have T9:=aA (j.out.push (fun _ h=>h) ho N);clear ho N hn j P d)
     | fail)
    go_wp2_with fail
    go_meet
    case rel =>
     have:=T9;rw [show iS x=[]++[txB (Lib.itoa x.k)] from D1.out];exact this
  | false =>
    go_wp2_with fail
    go_meet
    case rel =>
     have:=I;rw [show iS x=[] from D1.out];exact this
 case rest =>
  have O:=hcut;clear I hcut E D C A z y s q o m a X U T D1;have l:=TQ.out _ _ _ _ O.out;obtain ⟨E,D,C,A,z,y,s,q,o,m,a⟩:=aE O.out.k.n;obtain ⟨⟨X,U,T⟩, -⟩:=d9 l;go_upto_if 21 with fail
  go_cut [5] (fun v5 wc=>Hid (TA (fun b=>b<w.heap.size) w x p B v5 (jV x) wc))
  case first =>
   cases ee with
   | true =>
     have hk:=ji.out rfl;obtain ⟨ok,sz⟩:=(cC x.e).1 hk;have R:=aA (qJ x.e (fun b=>b<w.heap.size) _ p.ea p.ec ok HN.out.e sz (HL.out _ O.out.k.b) O.out.k.r.e);go_wp2_with fail
     refine R.out.mono ?_;rintro e f ⟨rfl,c⟩;have S:=bA0 f (.cells #[.string (txB (aV x.e))] 9);have j:=aA ((O.out.step c).step S);have P:=aA (Cw f (.string (txB (aV x.e))) 9);have d:=aA (show B+1<=(f.alloc (.cells #[.string (txB (aV x.e))] 9)).heap.size from aG j.out.t);clear c S R O E D C A z y s q o m a X U T
     go_wp2_with (first
      | (at_builtin
         refine aS rfl _ _ 55 rfl (base:=B+1) Y hi jb ja Z rfl (by decide) u5 (iS x).length 1 1 ⟨f.heap.size,0,none⟩ ((iS x).map Value.string) [.string (txB (aV x.e))] rfl rfl j.out.own rfl P.out (fun u M=>by simp only [List.mem_singleton] at M;subst M;rfl) (by have:=AL.out;have l0:([]:List ByteArray).length=0:=rfl;unfold maxLen;omega) (by have:=AL.out;have l0:([]:List ByteArray).length=0:=rfl;omega) d.out ?_;intro v9 w9 ho N hn;have T9:=aA (j.out.push (fun _ h=>h) ho N);clear ho N hn j P d)
      | fail)
     go_wp2_with fail
     go_meet
     case rel =>
      have:=T9;rw [show jV x=iS x++[txB (aV x.e)] from D2.out];exact this
   | false =>
     go_wp2_with fail
     go_meet
     case rel =>
      have:=O;rw [show jV x=iS x from D2.out];exact this
  case rest =>
   have H:=hcut;clear O l hcut E D C A z y s q o m a X U T D2;have l:=TQ.out _ _ _ _ H.out;obtain ⟨E,D,C,A,z,y,s,q,o,m,a⟩:=aE H.out.k.n;obtain ⟨⟨X,U,T⟩, -⟩:=d9 l;cases bb with
   | true =>
     have hk:=jh.out rfl;obtain ⟨ok,sz⟩:=(cC x.g).1 hk;have R:=aA (qJ x.g (fun b=>b<w.heap.size) _ p.ga p.gc ok HN.out.g sz (HL.out _ H.out.k.b) H.out.k.r.g);go_wp2_with fail
     refine R.out.mono ?_;rintro e f ⟨rfl,c⟩;have S:=bA0 f (.cells #[.string (txB (aV x.g))] 9);have j:=aA ((H.out.step c).step S);have P:=aA (Cw f (.string (txB (aV x.g))) 9);have d:=aA (show B+1<=(f.alloc (.cells #[.string (txB (aV x.g))] 9)).heap.size from aG j.out.t);clear c S R H E D C A z y s q o m a X U T
     go_wp2_with (first
      | (at_builtin
         refine aS rfl _ _ 55 rfl (base:=B+1) Y hi jb ja Z rfl (by decide) u5 (jV x).length 1 1 ⟨f.heap.size,0,none⟩ ((jV x).map Value.string) [.string (txB (aV x.g))] rfl rfl j.out.own rfl P.out (fun u M=>by simp only [List.mem_singleton] at M;subst M;rfl) (by have:=AL.out;have l0:([]:List ByteArray).length=0:=rfl;unfold maxLen;omega) (by have:=AL.out;have l0:([]:List ByteArray).length=0:=rfl;omega) d.out ?_;intro v9 w9 ho N hn;have T9:=aA (j.out.push (fun _ h=>h) ho N);clear ho N hn j P d)
      | fail)
     have D4:=aA (show lV x=jV x++[txB (aV x.g)] from D3.out);go_wp2_with fail
     go_ret;refine ⟨T9.out.k.b,_,rfl,?_⟩;rw [D4.out];exact mP T9.out.own (by have:=T9.out.lo;omega)
   | false =>
     have D4:=aA (show lV x=jV x from D3.out);go_wp2_with fail
     go_ret;refine ⟨H.out.k.b,_,rfl,?_⟩;rw [D4.out];exact mP H.out.own (by have:=H.out.lo;omega)
theorem JC (L:List ByteArray) (v:Value) (B:Nat) (b:Tr) (w:World) (ho:w.ownsRow B 9 1 v L.length (L.map Value.string)) (p:L.length<=1000) (h:(Lib.join (L.map (·.data.toList)) b.data.toList).length<=100000) :
 Calls prog 72 #[v,.string b] w fun e w'=>e=.returned (.string (txB (Lib.join (L.map (·.data.toList)) b.data.toList)))/\Below w.heap.size w w':=by
 obtain ⟨a,c,rfl⟩:=eQ ho;have m:=(El ho).1;cases L with
 | nil=>exact (strings_Join_none a c b w).mono fun e w' ⟨l,hw⟩=>⟨l,hw ▸ Below.refl _ _⟩
 | cons s r =>
   obtain ⟨g,rfl,o⟩:=lD (j:=0) (u:=.string s) ho rfl;have d:g<w.heap.size:=by have:=World.block_lt_of_cell? w _ o;simpa using this
   exact strings_Join g 0 c (s::r) b w (fun j y k=>by
    obtain ⟨q,f,n⟩:=lD (j:=j) (u:=.string y) ho (by rw [List.getElem?_map,k];rfl);cases f;rw [Nat.zero_add];exact n) d (by omega) m (by omega)
structure TX (w:World) (x:AG) (p:PA) (l:Tq) (V:World):Prop where
 k:KP9 (fun b=>b<w.heap.size) w x p V
 bd:Bd (w.heap.size+1) (w.heap.size+1) (Lib.byteCells l) V
theorem TX.step {w:World} {x:AG} {p:PA} {l:Tq} {V V':World} (h:TX w x p l V) (a:Below V.heap.size V V'):TX w x p l V':=⟨h.k.step a,Nt h.bd a⟩
theorem TX.str {w:World} {x:AG} {p:PA} {l:Tq} {V:World} (h:TX w x p l V) (s:Tr) (hl:l.length+s.size<=1000000) :
 Calls prog 36 #[.pointer (some ⟨w.heap.size+1,0,none⟩),.string s] V fun e w'=>e=.returned (.tuple #[.int .i64 s.size,.nilIface])/\TX w x p (l++s.data.toList) w'/\Oth (w.heap.size+1) V w' :=
 (tX _ _ _ s V h.bd (by rw [Lib.byteCells_length];omega) (by have:=Ns h.bd;omega)).mono fun e w' ⟨d,c,hw,hoth⟩=>by
  have hz:=Ns h.bd;have a:aC (fun b=>w.heap.size+1<=b) V w':=⟨hw.os,hw.tape,hw.output,hw.size,fun b _ hn=>hw.block b (by omega)⟩;exact ⟨d,⟨⟨h.k.b.trans (a.below (B:=w.heap.size) (fun b c=>by omega) h.k.z),Nat.le_trans h.k.z a.size,a.heap h.k.n (by omega),h.k.r.keptS a (fun b c f=>by omega)⟩,by rwa [rW] at c⟩,hoth⟩
theorem TX.done {w:World} {x:AG} {p:PA} {l:Tq} {V:World} (h:TX w x p l V) :
 Calls prog 38 #[.pointer (some ⟨w.heap.size+1,0,none⟩)] V fun e w'=>e=.returned (.string ⟨l.toArray⟩)/\Below w.heap.size w w' :=
 (Builder_String_any _ _ l V h.bd (by have:=Ns h.bd;omega)).mono fun e w' ⟨a,hb⟩=>⟨a,h.k.b.trans (hb.mono (by omega))⟩
theorem QF {w:World} {x:AG} {p:PA} (hr:aX (fun b=>b<w.heap.size) w x p):TX w x p [] ((w.alloc (agP x p)).alloc (.cells #[.pointer none,.slice none 0 0] 92)):=by
 have K:=qS hr;refine ⟨K.step (bA0 _ _),?_⟩;have:=Lib.fresh_isBuilder 92 5 (w.alloc (agP x p));rwa [Tc] at this
def vI (k:Nat):Tr:=if k=0 then ⟨#[119,104,101,114,101]⟩ else ⟨#[97,110,100]⟩
theorem Fu (k:Nat):(vI k).size<=5:=by unfold vI;split <;> decide
theorem Ln {x:AG} {d:CD} {r:List CD} {k:Nat} (h:x.wh.drop k=d::r):mL x k=32::((vI k).data.toList++32::(aV d.a++32::(d.op.data.toList++32::aV d.b)))++gQ r:=by
 by_cases c:k=0
 · rw [A6 c h]
   unfold vI;rw [if_pos c];simp
 · rw [xT c,h,gQ]
   unfold vI;rw [if_neg c];simp
theorem Bo (s:Tr):s.data.toList.length=s.size:=by simp
theorem KL (l:Tq):(txB l).size=l.length:=by show l.toArray.size=_;simp
theorem Ct {G:Nat->Prop} (x:AG) (p:PA) (w:World) (he:gA x=0) (hn:gM x) (hl:lW w) (hr:aX G w x p) :
 Calls prog 37 #[agV x p] w fun e w'=>e=.returned (.string ⟨(dY x).toArray⟩)/\Below w.heap.size w w':=by
 obtain ⟨N,R,X,h4,h5,h6⟩:=cY he;have jd:aX (fun b=>b<w.heap.size) w x p:=hr.imp (fun b j _=>j);have K0:=QF jd;have HL:=aA (fun V (m:Below w.heap.size w V)=>hl.step m);have HJ:=aA (Kr x N);have AL:=aA (Fj x);have HC:=aA (pN x.wh h6);have kf:=aA hn.c;have jg:=C8 N;have CA:=aA (fun V (m:TX w x p [] V)=>Kp x p V he hn (HL.out V m.k.b) m.k.r)
 have jf:(gL x).length<=1500:=by
  unfold gL;have eS:∀ t:TN,aW t=0->dU t.f->(aV t).length<=700:=fun t a b=>dQ a b
  split
  · simp
  · rename_i hc
    have l1:=eS x.e (X hc) hn.e;split
    · rename_i ht
      have:=R ht;have l2:=Lib.itoa_length_le x.k (by omega) (by omega);simp only [Tb,Te];omega
    · split
      · rename_i j
        have l2:=eS x.g (h4 j) hn.g;simp only [Tb,Te];omega
      · omega
 have jr:=h5;have kl:x.wh.length<=4:=h5;generalize hW:(w.alloc (agP x p)).alloc (.cells #[.pointer none,.slice none 0 0] 92)=W at K0;have HW:=aA hW;have O:=aA K0;have h:=aA (p:=∀ V,KP9 (fun b=>b<w.heap.size) w x p V->(V.cell? ⟨w.heap.size,0,none⟩=some (.string x.fn)/\V.cell? ⟨w.heap.size,1,none⟩=some (.int .i64 x.k)/\V.cell? ⟨w.heap.size,2,none⟩=some (.string x.e.op)/\V.cell? ⟨w.heap.size,3,none⟩=some (.string x.e.nm)/\V.cell? ⟨w.heap.size,4,none⟩=some (.int .i64 x.e.n)/\V.cell? ⟨w.heap.size,5,none⟩=some (.slice p.ea x.e.ks.len p.ec)/\V.cell? ⟨w.heap.size,6,none⟩=some (.string x.g.op)/\V.cell? ⟨w.heap.size,7,none⟩=some (.string x.g.nm)/\V.cell? ⟨w.heap.size,8,none⟩=some (.int .i64 x.g.n)/\V.cell? ⟨w.heap.size,9,none⟩=some (.slice p.ga x.g.ks.len p.gc)/\V.cell? ⟨w.heap.size,10,none⟩=some (.slice p.wa x.wh.length p.wc))) (fun V m=>aE m.n);obtain ⟨J,hJ⟩:∃ J:Tr,txB (gL x)=J:=⟨_,rfl⟩;have jj:J.size<=1500:=by rw [<- hJ,KL];exact jf
 have jm:=aA (show ∀ V v,V.ownsRow 0 9 1 v (lV x).length ((lV x).map Value.string)->Calls prog 72 #[v,.string ⟨#[44,32]⟩] V fun e w'=>e=.returned (.string J)/\Below V.heap.size V w' from fun V v ho=>by
  have:=JC (lV x) v 0 ⟨#[44,32]⟩ V ho (by have:=AL.out;omega) (by
   show (Lib.join ((lV x).map (·.data.toList)) [44,32]).length<=100000;rw [HJ.out];omega)
  rw [show (⟨#[44,32]⟩:Tr).data.toList=[44,32] from rfl,HJ.out,hJ] at this;exact this)
 have x1:(9223372036854775807<x.fn.size+1)=False:=by rw [eq_iff_iff,iff_false];omega
 have x2:(9223372036854775807<x.fn.size+1+J.size)=False:=by rw [eq_iff_iff,iff_false];omega
 have x3:(9223372036854775807<x.fn.size+1+J.size+1)=False:=by rw [eq_iff_iff,iff_false];omega
 have jl:=aA (show J.data.toList=gL x by rw [<- hJ]);have Z:=aA jg;have Y:=aA jj;obtain ⟨q,o⟩:∃ l,dY x=l:=⟨_,rfl⟩;rw [o];have jn:=aA o;clear hW K0 hr jd hn hl he N R X h4 h5 jr h6 jf hJ jg jj o;obtain ⟨m0,m1,m2,m3,m4,m5,m6,m7,m8,m9,E⟩:=h.out _ O.out.k;go_enter func37,ntmps37
 go_upto_region 2 with fail
 rw [show (w.alloc (.cells #[.string x.fn,.int .i64 x.k,.string x.e.op,.string x.e.nm,.int .i64 x.e.n,.slice p.ea x.e.ks.len p.ec,.string x.g.op,.string x.g.nm,.int .i64 x.g.n,.slice p.ga x.g.ks.len p.gc,.slice p.wa x.wh.length p.wc] 70)).alloc (.cells #[.pointer none,.slice none 0 0] 92)=W from HW.out]
 go_region_held3 (fun V=>V.cell? ⟨w.heap.size,0,none⟩=some (.string x.fn)/\V.cell? ⟨w.heap.size,1,none⟩=some (.int .i64 x.k)/\V.cell? ⟨w.heap.size,2,none⟩=some (.string x.e.op)/\V.cell? ⟨w.heap.size,3,none⟩=some (.string x.e.nm)/\V.cell? ⟨w.heap.size,4,none⟩=some (.int .i64 x.e.n)/\V.cell? ⟨w.heap.size,5,none⟩=some (.slice p.ea x.e.ks.len p.ec)/\V.cell? ⟨w.heap.size,6,none⟩=some (.string x.g.op)/\V.cell? ⟨w.heap.size,7,none⟩=some (.string x.g.nm)/\V.cell? ⟨w.heap.size,8,none⟩=some (.int .i64 x.g.n)/\V.cell? ⟨w.heap.size,9,none⟩=some (.slice p.ga x.g.ks.len p.gc)/\V.cell? ⟨w.heap.size,10,none⟩=some (.slice p.wa x.wh.length p.wc)) (first | assumption | exact ⟨m0,m1,m2,m3,m4,m5,m6,m7,m8,m9,E⟩ | exact h.out _ K4.out.k | exact h.out _ K3.out.k | exact h.out _ K2.out.k) (first
  | (go_at_call 73
     with_reducible refine (CA.out _ (O.out.step (aT W))).mono ?_
     rintro e v1 ⟨j,va,rfl,ho⟩;have K2:=aA ((O.out.step (aT W)).step j);have jx:=h.out _ K2.out.k;have JO:=aA (jm.out v1 va (mP ho (Nat.zero_le _)));clear j ho)
  | (go_at_call 72
     with_reducible refine JO.out.mono ?_
     rintro e v2 ⟨rfl,j⟩;have K3:=aA (K2.out.step j);have jw:=h.out _ K3.out.k;clear j)
  | (go_at_call 36
     with_reducible refine (K3.out.str _ (by simp only [ByteArray.size_append,List.length_nil];have N:(⟨#[40]⟩:Tr).size=1:=rfl;have R:(⟨#[41]⟩:Tr).size=1:=rfl;have:=Z.out;have:=Y.out;omega)).mono ?_
     rintro e v3 ⟨rfl,j, -⟩;have K4:=aA j;have jv:=h.out _ K4.out.k;clear j)
  | fail)
 obtain ⟨l0,H⟩:∃ l,([]:Tq)++(x.fn++(⟨#[40]⟩:Tr)++J++(⟨#[41]⟩:Tr)).data.toList=l:=⟨_,rfl⟩;have K5:=aA (show TX w x p l0 v3 by rw [<- H];exact K4.out)
 have T0:=aA (show l0++mL x 0=q by
  rw [<- H, <- jn.out,tC];unfold dY;simp [jl.out])
 have L0:=aA (show l0.length<=2000+2000*0 by
  rw [<- H];simp only [ByteArray.data_append,Array.toList_append,Tb,List.nil_append];have e1:x.fn.data.toList.length=x.fn.size:=by simp
  have e2:J.data.toList.length=J.size:=by simp
  have e3:(⟨#[40]⟩:Tr).data.toList.length=1:=rfl;have e4:(⟨#[41]⟩:Tr).data.toList.length=1:=rfl;have e5:([40]:Tq).length=1:=rfl;have e6:([41]:Tq).length=1:=rfl;have:=Z.out;have:=Y.out;omega)
 clear K4 K3 K2 O JO CA jm H jn x1 x2 x3 jx jw jv m0 m1 m2 m3 m4 m5 m6 m7 m8 m9 E Z Y jl AL HJ;obtain ⟨m0,m1,m2,m3,m4,m5,m6,m7,m8,m9,E⟩:=h.out _ K5.out.k;go_wp2_with fail
 clear m0 m1 m2 m3 m4 m5 m6 m7 m8 m9 E;go_loopw [4,6,19] (fun v4 v6 i wr=>∃ (k:Nat) (l:Tq) (y:Value),v4=.string (vI k)/\v6=y/\i=.int .i64 k/\k<=x.wh.length/\Hid (l++mL x k=q)/\Hid (l.length<=2000+2000*k)/\Hid (TX w x p l wr)) (fun _ _ i _=>x.wh.length-(intOf i).toNat)
 case atStart=>exact ⟨0,l0,_,rfl,rfl,rfl,Nat.zero_le _,T0,L0,K5⟩
 case round =>
  obtain ⟨k,l,y,rfl,rfl,rfl,hk,HT,HZ,HK⟩:=hrel;clear T0 L0 K5;by_cases u:k<x.wh.length
  · obtain ⟨d,hd⟩:∃ d,x.wh[k]? = some d:=⟨_,List.getElem?_eq_getElem u⟩
    have je:¬ x.wh=[]:=fun e=>by rw [e] at u;simp at u
    obtain ⟨b,off,jb, -,km,ji⟩:=HK.out.k.r.c.resolve_left je;obtain ⟨a1,c1,a2,c2,⟨p0,p1,p2,p3,p4,p5,p6,p7,p8⟩,r1,r2⟩:=ji k d hd
    have jh:x.wh.drop k=d::x.wh.drop (k+1):=by
     rw [List.drop_eq_getElem_cons u];have:=List.getElem?_eq_getElem u;rw [this] at hd;rw [Option.some.inj hd]
    obtain ⟨N,R,X⟩:=HC.out d (List.mem_of_getElem? hd);have A:=kf.out d (List.mem_of_getElem? hd);have U:=dQ R A.1;have T:=dQ X A.2;have jp:d.op.size<=2:=Cv N;have BD:=bA0 wr (cdX d a1 c1 a2 c2);have ND:=heap_alloc_new wr (cdX d a1 c1 a2 c2);have ki:=aA (Ns HK.out.bd);have O:=aA (HK.out.step BD);have A1:=aA (fun V (m:Below (wr.alloc (cdX d a1 c1 a2 c2)).heap.size (wr.alloc (cdX d a1 c1 a2 c2)) V)=>qJ d.a (fun b=>b<w.heap.size) V a1 c1 ((cC _).1 R).1 A.1 ((cC _).1 R).2 (HL.out V (O.out.k.step m).b) ((r1.kept BD).kept m));have A2:=aA (fun V (m:Below (wr.alloc (cdX d a1 c1 a2 c2)).heap.size (wr.alloc (cdX d a1 c1 a2 c2)) V)=>qJ d.b (fun b=>b<w.heap.size) V a2 c2 ((cC _).1 X).1 A.2 ((cC _).1 X).2 (HL.out V (O.out.k.step m).b) ((r2.kept BD).kept m));obtain ⟨TA,M⟩:∃ S:Tr,⟨(aV d.a).toArray⟩=S:=⟨_,rfl⟩;obtain ⟨TB,L⟩:∃ S:Tr,⟨(aV d.b).toArray⟩=S:=⟨_,rfl⟩;rw [M] at A1;rw [L] at A2;have U:TA.size<=700:=by rw [<- M];show (aV d.a).toArray.size<=700;rw [List.size_toArray];exact U
    have T:TB.size<=700:=by rw [<- L];show (aV d.b).toArray.size<=700;rw [List.size_toArray];exact T
    have ja:=Fu k;obtain ⟨B,I⟩:∃ s,vI k=s:=⟨_,rfl⟩;rw [I] at ja;have jz:=aA (show ((⟨#[32]⟩:Tr)++B++⟨#[32]⟩++TA++⟨#[32]⟩++d.op++⟨#[32]⟩++TB).data.toList++gQ (x.wh.drop (k+1))=mL x k by rw [Ln jh,I, <- M, <- L];simp);have b1:(k:Int)<(x.wh.length:Int):=by omega
    have b2:(0:Int)<=(k:Int):=by omega
    have b3:((k:Int)).toNat=k:=by omega
    have x0:(9223372036854775807<1+B.size)=False:=by rw [eq_iff_iff,iff_false];omega
    have x1:(9223372036854775807<1+B.size+1)=False:=by rw [eq_iff_iff,iff_false];omega
    have x2:(9223372036854775807<1+B.size+1+TA.size)=False:=by rw [eq_iff_iff,iff_false];omega
    have x3:(9223372036854775807<1+B.size+1+TA.size+1)=False:=by rw [eq_iff_iff,iff_false];omega
    have x4:(9223372036854775807<1+B.size+1+TA.size+1+d.op.size)=False:=by rw [eq_iff_iff,iff_false];omega
    have x5:(9223372036854775807<1+B.size+1+TA.size+1+d.op.size+1)=False:=by rw [eq_iff_iff,iff_false];omega
    have x6:(9223372036854775807<1+B.size+1+TA.size+1+d.op.size+1+TB.size)=False:=by rw [eq_iff_iff,iff_false];omega
    have jc:((⟨#[32]⟩:Tr)++B++⟨#[32]⟩++TA++⟨#[32]⟩++d.op++⟨#[32]⟩++TB).size<=1500:=by simp only [ByteArray.size_append];have N:(⟨#[32]⟩:Tr).size=1:=rfl;rw [N];omega
    have jk:=aA jc;rw [I];rw [jb];clear je ji jb hd jh N R X A r1 r2 M L U T jp ja I BD HK jc;have kh:=aA (show wr.heap.size ≠ w.heap.size+1 by have:=ki.out;omega);go_upto_region 7 with fail
    rw [show wr.alloc (.cells #[.string d.op,.string d.a.op,.string d.a.nm,.int .i64 d.a.n,.slice a1 d.a.ks.len c1,.string d.b.op,.string d.b.nm,.int .i64 d.b.n,.slice a2 d.b.ks.len c2] 144)=wr.alloc (cdX d a1 c1 a2 c2) from rfl];generalize wr.alloc (cdX d a1 c1 a2 c2)=V at *;generalize wr.heap.size=D at *;clear p0 p1 p2 p3 p4 p5 p6 p7 p8;have C:=aA (p:=∀ V':World,Below V.heap.size V V'->(V'.cell? ⟨D,0,none⟩=some (.string d.op)/\V'.cell? ⟨D,1,none⟩=some (.string d.a.op)/\V'.cell? ⟨D,2,none⟩=some (.string d.a.nm)/\V'.cell? ⟨D,3,none⟩=some (.int .i64 d.a.n)/\V'.cell? ⟨D,4,none⟩=some (.slice a1 d.a.ks.len c1)/\V'.cell? ⟨D,5,none⟩=some (.string d.b.op)/\V'.cell? ⟨D,6,none⟩=some (.string d.b.nm)/\V'.cell? ⟨D,7,none⟩=some (.int .i64 d.b.n)/\V'.cell? ⟨D,8,none⟩=some (.slice a2 d.b.ks.len c2))) (fun V' m=>iD ((m.block D (aG ND)).trans ND));have jo:=aA (p:=∀ V':World,V'.heap[D]? = some (cdX d a1 c1 a2 c2)->(V'.cell? ⟨D,0,none⟩=some (.string d.op)/\V'.cell? ⟨D,1,none⟩=some (.string d.a.op)/\V'.cell? ⟨D,2,none⟩=some (.string d.a.nm)/\V'.cell? ⟨D,3,none⟩=some (.int .i64 d.a.n)/\V'.cell? ⟨D,4,none⟩=some (.slice a1 d.a.ks.len c1)/\V'.cell? ⟨D,5,none⟩=some (.string d.b.op)/\V'.cell? ⟨D,6,none⟩=some (.string d.b.nm)/\V'.cell? ⟨D,7,none⟩=some (.int .i64 d.b.n)/\V'.cell? ⟨D,8,none⟩=some (.slice a2 d.b.ks.len c2))) (fun V' m=>iD m);have jq:=aG ND;have ke:=aA ND;obtain ⟨p0,p1,p2,p3,p4,p5,p6,p7,p8⟩:=iD ND
    go_region_held3 (fun V=>V.cell? ⟨D,0,none⟩=some (.string d.op)/\V.cell? ⟨D,1,none⟩=some (.string d.a.op)/\V.cell? ⟨D,2,none⟩=some (.string d.a.nm)/\V.cell? ⟨D,3,none⟩=some (.int .i64 d.a.n)/\V.cell? ⟨D,4,none⟩=some (.slice a1 d.a.ks.len c1)/\V.cell? ⟨D,5,none⟩=some (.string d.b.op)/\V.cell? ⟨D,6,none⟩=some (.string d.b.nm)/\V.cell? ⟨D,7,none⟩=some (.int .i64 d.b.n)/\V.cell? ⟨D,8,none⟩=some (.slice a2 d.b.ks.len c2)) (first | assumption | exact ⟨p0,p1,p2,p3,p4,p5,p6,p7,p8⟩ | exact C.out _ B6.out | exact C.out _ B5.out) (first
     | (go_at_call 74
        with_reducible refine (A1.out _ (aT V)).mono ?_
        rintro e w5 ⟨rfl,j⟩;have B5:=aA ((aT V).trans j);have ju:=C.out _ B5.out;clear j)
     | (go_at_call 74
        with_reducible refine (A2.out w5 B5.out).mono ?_
        rintro e w6 ⟨rfl,j⟩;have B6:=aA (B5.out.trans (j.mono B5.out.size));have jt:=C.out _ B6.out;clear j)
     | (go_at_call 36
        with_reducible refine ((O.out.step B6.out).str _ (by have:=jk.out;have:=HZ.out;omega)).mono ?_
        rintro e w7 ⟨rfl,j,P⟩;have K7:=aA j;have js:=jo.out w7 (P D _ _ kh.out (by decide) ((B6.out.block D jq).trans ke.out));clear j P)
     | fail)
    have kb:=aA (show (l++((⟨#[32]⟩:Tr)++B++⟨#[32]⟩++TA++⟨#[32]⟩++d.op++⟨#[32]⟩++TB).data.toList)++mL x (k+1)=q by rw [A7,List.append_assoc,jz.out];exact HT.out)
    have jy:=aA (show (l++((⟨#[32]⟩:Tr)++B++⟨#[32]⟩++TA++⟨#[32]⟩++d.op++⟨#[32]⟩++TB).data.toList).length<=2000+2000*(k+1) by
     rw [Tb,Bo];have:=jk.out;have:=HZ.out;omega)
    clear B5 B6 A1 A2 ju jt js O C jo p0 p1 p2 p3 p4 p5 p6 p7 p8 x0 x1 x2 x3 x4 x5 x6 HT HZ;go_wp2_with fail
    go_roundw
    case rel=>exact ⟨k+1,_,_,by unfold vI;rw [if_neg (by omega)],rfl,by go_num,by omega,kb,jy,K7⟩
    case measure=>simp [intOf];omega
  · have e1:x.wh.drop k=[]:=List.drop_of_length_le (by omega)
    have TR:=aA (show q=l by rw [<- HT.out,D6 e1];simp);have b1:¬ (k:Int)<(x.wh.length:Int):=by omega
    have b2:decide (k<x.wh.length)=false:=decide_eq_false u;have CD:=aA (HK.out.done);go_wp2_with fail
    refine CD.out.mono ?_;rintro e w9 ⟨rfl,j⟩;have kj:=aA j;clear j;go_wp2_with fail
    go_ret;exact ⟨congrArg (fun z=>Ending.returned (.string ⟨List.toArray z⟩)) TR.out.symm,kj.out⟩
structure LT (w:World) (a:Tp) (l:List LN) (t:Tq) (V:World):Prop where
 k:KLN (fun b=>b<w.heap.size) w a l V
 bd:Bd w.heap.size w.heap.size (Lib.byteCells t) V
theorem LT.step {w:World} {a:Tp} {l:List LN} {t:Tq} {V V':World} (h:LT w a l t V) (b:Below V.heap.size V V'):LT w a l t V':=⟨h.k.step b,Nt h.bd b⟩
theorem LT.str {w:World} {a:Tp} {l:List LN} {t:Tq} {V:World} (h:LT w a l t V) (s:Tr) (hl:t.length+s.size<=1000000) :
 Calls prog 36 #[.pointer (some ⟨w.heap.size,0,none⟩),.string s] V fun e w'=>e=.returned (.tuple #[.int .i64 s.size,.nilIface])/\LT w a l (t++s.data.toList) w'/\Oth w.heap.size V w' :=
 (tX _ _ _ s V h.bd (by rw [Lib.byteCells_length];omega) h.k.b.size).mono fun e w' ⟨f,c,hw,hoth⟩=>by
  have d:aC (fun b=>w.heap.size<=b) V w':=⟨hw.os,hw.tape,hw.output,hw.size,fun b _ hn=>hw.block b (by omega)⟩;exact ⟨f,⟨⟨h.k.b.trans hw,h.k.r.keptS d (fun b c g=>by omega)⟩,by rwa [rW] at c⟩,hoth⟩
theorem LT.done {w:World} {a:Tp} {l:List LN} {t:Tq} {V:World} (h:LT w a l t V) :
 Calls prog 38 #[.pointer (some ⟨w.heap.size,0,none⟩)] V fun e w'=>e=.returned (.string ⟨t.toArray⟩)/\Below w.heap.size w w' :=
 (Builder_String_any _ _ t V h.bd h.k.b.size).mono fun _ _ ⟨c,hb⟩=>⟨c,h.k.b.trans hb⟩
theorem Rm {w:World} {a:Tp} {l:List LN} (hr:cQ (fun b=>b<w.heap.size) w a l):LT w a l [] (w.alloc (.cells #[.pointer none,.slice none 0 0] 92)):=by
 have B:=bA0 w (.cells #[.pointer none,.slice none 0 0] 92);exact ⟨⟨B,hr.kept B⟩,Lib.fresh_isBuilder 92 5 w⟩
theorem sR {W:World} {B:Nat} {x:LN} {p:PA} (h:W.heap[B]? = some (lnO x p)):W.cell? ⟨B,0,none⟩=some (.string x.nm)/\W.cell? ⟨B,1,none⟩=some (.string x.a.fn)/\W.cell? ⟨B,2,none⟩=some (.int .i64 x.a.k)/\W.cell? ⟨B,3,none⟩=some (.string x.a.e.op)/\W.cell? ⟨B,4,none⟩=some (.string x.a.e.nm)/\W.cell? ⟨B,5,none⟩=some (.int .i64 x.a.e.n)/\W.cell? ⟨B,6,none⟩=some (.slice p.ea x.a.e.ks.len p.ec)/\W.cell? ⟨B,7,none⟩=some (.string x.a.g.op)/\W.cell? ⟨B,8,none⟩=some (.string x.a.g.nm)/\W.cell? ⟨B,9,none⟩=some (.int .i64 x.a.g.n)/\W.cell? ⟨B,10,none⟩=some (.slice p.ga x.a.g.ks.len p.gc)/\W.cell? ⟨B,11,none⟩=some (.slice p.wa x.a.wh.length p.wc):=by
 refine ⟨?_,?_,?_,?_,?_,?_,?_,?_,?_,?_,?_,?_⟩ <;> simp [World.cell?,h]
theorem rR {G:Nat->Prop} (l:List LN) (a:Tp) (c:Nat) (w:World) (hl:l.length<=100) (hf:Oa l) (hw:lW w) (hr:cQ G w a l) :
 Calls prog 12 #[.slice a l.length c] w fun e w'=>e=.returned (.string ⟨(fK l).toArray⟩)/\Below w.heap.size w w':=by
 obtain ⟨d,f⟩:∃ t,fK l=t:=⟨_,rfl⟩;have I:=aA (show ([]:Tq)++fK (l.drop 0)=d by rw [List.drop_zero];exact f);have K0:=Rm (hr.imp (fun b h _=>h));have jh:=aA hf;have HL:=aA (fun V (u:Below w.heap.size w V)=>hw.step u);rw [f];generalize hW:w.alloc (.cells #[.pointer none,.slice none 0 0] 92)=W at K0;have HW:=aA hW;have K1:=aA K0;clear f hr hf hw hW K0;go_enter func12,ntmps12
 go_upto_region 2 with fail
 rw [show w.alloc (.cells #[.pointer none,.slice none 0 0] 92)=W from HW.out];clear HW;go_wp2_with fail
 go_loopw [8] (fun i wr=>∃ (k:Nat) (t:Tq),i=.int .i64 (k:Nat)/\k<=l.length/\Hid (t++fK (l.drop k)=d)/\Hid (t.length<=9000*k)/\Hid (LT w a l t wr)) (fun i _=>l.length-(intOf i).toNat)
 case atStart=>exact ⟨0,[],rfl,Nat.zero_le _,I,aA (by show 0<=_;omega),K1⟩
 case round =>
  obtain ⟨k,t,rfl,hk,HF,HZ,H⟩:=hrel;clear K1 I;by_cases m:k<l.length
  · obtain ⟨x,hx⟩:∃ x,l[k]? = some x:=⟨_,List.getElem?_eq_getElem m⟩
    have hd:l.drop k=x::l.drop (k+1):=by
     rw [List.drop_eq_getElem_cons m];rw [List.getElem?_eq_getElem m] at hx;rw [Option.some.inj hx]
    obtain ⟨Y,hn,hs⟩:=jh.out x (List.mem_of_getElem? hx);obtain ⟨b,off,p,X,jl,hG,⟨p0,p1,p2,p3,p4,p5,p6,p7,p8,p9,U,S⟩,s⟩:=H.out.k.r.at hx;subst X;have y:=AM Y hn;have P:=bA0 wr (lnO x p);have o:=heap_alloc_new wr (lnO x p);have jj:=aA (Ns H.out.bd);have O:=aA (H.out.step P);have R:=aA (fun V (h:Below (wr.alloc (lnO x p)).heap.size (wr.alloc (lnO x p)) V)=>Ct (G:=fun b=>b<w.heap.size) x.a p V Y hn (HL.out V (O.out.k.step h).b) ((s.kept P).kept h));obtain ⟨T,N⟩:∃ T:Tr,(⟨(dY x.a).toArray⟩:Tr)=T:=⟨_,rfl⟩;rw [N] at R;have Z:T.size<=8000:=by rw [<- N];show (dY x.a).toArray.size<=8000;rw [List.size_toArray];exact y
    have hF:=HF.out;rw [hd,fK,oJ] at hF;have x1:(9223372036854775807<x.nm.size+1)=False:=by rw [eq_iff_iff,iff_false];omega
    have x2:(9223372036854775807<x.nm.size+1+1)=False:=by rw [eq_iff_iff,iff_false];omega
    have x3:(9223372036854775807<x.nm.size+1+1+1)=False:=by rw [eq_iff_iff,iff_false];omega
    have x4:(9223372036854775807<x.nm.size+1+1+1+T.size)=False:=by rw [eq_iff_iff,iff_false];omega
    have x5:(9223372036854775807<x.nm.size+1+1+1+T.size+1)=False:=by rw [eq_iff_iff,iff_false];omega
    have HN:=aA (show (x.nm++⟨#[32]⟩++⟨#[61]⟩++⟨#[32]⟩++T++⟨#[10]⟩).data.toList=oJ x by unfold oJ;rw [<- N];simp)
    have E:=aA (show (x.nm++⟨#[32]⟩++⟨#[61]⟩++⟨#[32]⟩++T++⟨#[10]⟩).size<=8020 by
     simp only [ByteArray.size_append];have h1:(⟨#[32]⟩:Tr).size=1:=rfl;have h2:(⟨#[61]⟩:Tr).size=1:=rfl;have h3:(⟨#[10]⟩:Tr).size=1:=rfl;rw [h1,h2,h3];omega)
    have C:=aA (show t++(oJ x++fK (l.drop (k+1)))=d from hF);have b1:(k:Int)<(l.length:Int):=by omega
    have b2:(0:Int)<=(k:Int):=by omega
    have b3:((k:Int)).toNat=k:=by omega
    have ji:=aA (show wr.heap.size ≠ w.heap.size by have:=jj.out;omega);clear hd hx hF N y Z Y hn hs s hG H;go_upto_region 5 with fail
    generalize World.alloc wr _=V at P o O R;generalize wr.heap.size=D at *;have ja:=aG o;have jf:=aA o;have q:=aA (p:=∀ V':World,Below V.heap.size V V'->(V'.cell? ⟨D,0,none⟩=some (.string x.nm)/\V'.cell? ⟨D,1,none⟩=some (.string x.a.fn)/\V'.cell? ⟨D,2,none⟩=some (.int .i64 x.a.k)/\V'.cell? ⟨D,3,none⟩=some (.string x.a.e.op)/\V'.cell? ⟨D,4,none⟩=some (.string x.a.e.nm)/\V'.cell? ⟨D,5,none⟩=some (.int .i64 x.a.e.n)/\V'.cell? ⟨D,6,none⟩=some (.slice p.ea x.a.e.ks.len p.ec)/\V'.cell? ⟨D,7,none⟩=some (.string x.a.g.op)/\V'.cell? ⟨D,8,none⟩=some (.string x.a.g.nm)/\V'.cell? ⟨D,9,none⟩=some (.int .i64 x.a.g.n)/\V'.cell? ⟨D,10,none⟩=some (.slice p.ga x.a.g.ks.len p.gc)/\V'.cell? ⟨D,11,none⟩=some (.slice p.wa x.a.wh.length p.wc))) (fun V' u=>sR ((u.block D (aG o)).trans o));have L:=aA (p:=∀ V':World,V'.heap[D]? = some (lnO x p)->(V'.cell? ⟨D,0,none⟩=some (.string x.nm)/\V'.cell? ⟨D,1,none⟩=some (.string x.a.fn)/\V'.cell? ⟨D,2,none⟩=some (.int .i64 x.a.k)/\V'.cell? ⟨D,3,none⟩=some (.string x.a.e.op)/\V'.cell? ⟨D,4,none⟩=some (.string x.a.e.nm)/\V'.cell? ⟨D,5,none⟩=some (.int .i64 x.a.e.n)/\V'.cell? ⟨D,6,none⟩=some (.slice p.ea x.a.e.ks.len p.ec)/\V'.cell? ⟨D,7,none⟩=some (.string x.a.g.op)/\V'.cell? ⟨D,8,none⟩=some (.string x.a.g.nm)/\V'.cell? ⟨D,9,none⟩=some (.int .i64 x.a.g.n)/\V'.cell? ⟨D,10,none⟩=some (.slice p.ga x.a.g.ks.len p.gc)/\V'.cell? ⟨D,11,none⟩=some (.slice p.wa x.a.wh.length p.wc))) (fun V' u=>sR u);clear P p0 p1 p2 p3 p4 p5 p6 p7 p8 p9 U S;obtain ⟨c0,c1,c2,c3,c4,c5,c6,c7,c8,c9,B,A⟩:=sR o
    clear o
    go_region_held3 (fun V'=>V'.cell? ⟨D,0,none⟩=some (.string x.nm)/\V'.cell? ⟨D,1,none⟩=some (.string x.a.fn)/\V'.cell? ⟨D,2,none⟩=some (.int .i64 x.a.k)/\V'.cell? ⟨D,3,none⟩=some (.string x.a.e.op)/\V'.cell? ⟨D,4,none⟩=some (.string x.a.e.nm)/\V'.cell? ⟨D,5,none⟩=some (.int .i64 x.a.e.n)/\V'.cell? ⟨D,6,none⟩=some (.slice p.ea x.a.e.ks.len p.ec)/\V'.cell? ⟨D,7,none⟩=some (.string x.a.g.op)/\V'.cell? ⟨D,8,none⟩=some (.string x.a.g.nm)/\V'.cell? ⟨D,9,none⟩=some (.int .i64 x.a.g.n)/\V'.cell? ⟨D,10,none⟩=some (.slice p.ga x.a.g.ks.len p.gc)/\V'.cell? ⟨D,11,none⟩=some (.slice p.wa x.a.wh.length p.wc)) (first | assumption | exact ⟨c0,c1,c2,c3,c4,c5,c6,c7,c8,c9,B,A⟩ | exact q.out _ M.out) (first
     | (go_at_call 37
        with_reducible refine (R.out _ (aT V)).mono ?_
        rintro e w5 ⟨rfl,h⟩;have M:=aA ((aT V).trans h);have jc:=q.out _ M.out;clear h)
     | (go_at_call 36
        with_reducible refine ((O.out.step M.out).str _ (by have:=E.out;have:=HZ.out;omega)).mono ?_
        rintro e w7 ⟨rfl,h,j⟩;have K7:=aA h;have jb:=L.out w7 (j D _ _ ji.out (by decide) ((M.out.block D ja).trans jf.out));clear h j)
     | fail)
    have K8:=K7.out;rw [HN.out] at K8;have jg:=aA K8;have je:=aA (show (t++oJ x)++fK (l.drop (k+1))=d by rw [List.append_assoc];exact C.out)
    have jd:=aA (show (t++oJ x).length<=9000*(k+1) by
     rw [<- HN.out,Tb,Bo];have:=E.out;have:=HZ.out;omega)
    clear M R jc jb O q L c0 c1 c2 c3 c4 c5 c6 c7 c8 c9 B A x1 x2 x3 x4 x5 C HZ K7 K8 HN;go_wp2_with fail
    go_roundw
    case rel=>exact ⟨k+1,_,by go_num,by omega,je,jd,jg⟩
    case measure=>simp [intOf];omega
  · have e1:l.drop k=[]:=List.drop_of_length_le (by omega)
    have TR:=aA (show d=t by rw [<- HF.out,e1];simp [fK]);have b1:¬ (k:Int)<(l.length:Int):=by omega
    have CD:=aA (H.out.done);clear e1;go_wp2_with fail
    refine CD.out.mono ?_;rintro e w9 ⟨rfl,h⟩;have jk:=aA h;clear h;go_wp2_with fail
    go_ret;exact ⟨congrArg (fun z=>Ending.returned (.string ⟨List.toArray z⟩)) TR.out.symm,jk.out⟩
theorem xY (C:RZ) (s:Tr) (w:World) (O:An w):Calls prog 3 #[.string s] w fun e w'=>e=.returned (.bool true)/\Below w.heap.size w w':=by
 have KN:=aA (EA C w O);have K0:=aA (show Kt w w from ⟨Below.refl _ _,O⟩);clear O;go_enter func3,ntmps3
 go_wp2_with fail
 refine KN.out.mono ?_;rintro e w1 ⟨rfl,a⟩;have I:=aA (K0.out.step a);clear a K0 KN;by_cases hl:2000<s.size
 · have b1:(2000:Int)<(s.size:Int):=by omega
   go_wp2_with fail
   go_ret;exact ⟨rfl,I.out.b⟩
 · have b1:¬ (2000:Int)<(s.size:Int):=by omega
   have m:=aA (fY s (by omega) w1 I.out.l.1);have k:=aA (fun V=>pF s (by omega) V);clear hl;cases hp:fX s.data.toList with
   | bad p er =>
     rw [hp] at m k;obtain ⟨qe,qn⟩:=Cq hp;clear hp;go_wp2_with fail
     refine m.out.mono ?_;rintro e w2 ⟨a,rfl⟩;have u:=aA (I.out.step a);clear a m;go_wp2_with fail
     refine (k.out _).mono ?_;rintro e L ⟨a,rfl⟩;have E:=aA (u.out.step a);have B:=aA (s9 (G:=fun _=>True) (H:=fun _=>True) [] [] none 0 none 0 L (Nat.zero_le _) (fun x h=>by cases h) ⟨rfl,fun i x y h=>by cases h⟩ (.inl rfl) (.inl rfl));clear a k u;go_wp2_with fail
     refine B.out.mono ?_;rintro e A ⟨rfl,a⟩;have t:=aA (E.out.step a);clear a;go_wp2_with fail
     go_ret;exact ⟨rfl,t.out.b⟩
   | ok l =>
     rw [hp] at m k;have c:=aA (nO hp);have HO:=aA (xX hp);clear hp;go_wp2_with fail
     refine m.out.mono ?_;rintro e w2 ⟨a,la,lc,rfl,hr⟩;have u:=aA (I.out.step a);have R2:=aA (hr.imp (H:=fun _=>True) (fun _ _ _=>trivial));clear a m hr;go_wp2_with fail
     refine (k.out _).mono ?_;rintro e L ⟨a,N,M,rfl,hr⟩;have E:=aA (u.out.step a);have X:=aA (R2.out.kept a);have Z:=aA (hr.imp (H:=fun _=>True) (fun _ _ _=>trivial));have B:=aA (s9 l l la lc N M L (by have:=c.out.len;omega) c.out.sm c.out.self X.out Z.out);clear a k u R2 hr;go_wp2_with fail
     refine B.out.mono ?_;rintro e A ⟨rfl,a⟩;have t:=aA (E.out.step a);have R4:=aA (X.out.kept a);have Y:=aA (Z.out.kept a);have U:=aA (rR l la lc A (by have:=c.out.len;omega) c.out.fine t.out.l.2 R4.out);have S:=aA (fun V (a:Below A.heap.size A V)=>As l N M V (by have:=c.out.len;omega) c.out.fine (Y.out.kept a));obtain ⟨T,P⟩:∃ T:Tr,(⟨(fK l).toArray⟩:Tr)=T:=⟨_,rfl⟩;rw [P] at U S;have HT:=aA (show T.data.toList=fK l by rw [<- P]);clear a E X Z B P;go_wp2_with fail
     refine U.out.mono ?_;rintro e w5 ⟨rfl,a⟩;have K5:=aA (t.out.step a);have B5:=aA a;have M5:=aA (Y.out.kept a);clear a U t R4;go_wp2_with fail
     refine (S.out _ B5.out).mono ?_;rintro e w6 ⟨rfl,a⟩;have n:=aA (K5.out.step a);have M6:=aA (M5.out.kept a);have qT:(T.toList == T.toList)=true:=by simp
     clear a S K5 M5 Y B5;by_cases hz:2000<T.size
     · have b2:(2000:Int)<(T.size:Int):=by omega
       clear hz;go_wp2_with fail
       go_ret;exact ⟨rfl,n.out.b⟩
     · have b2:¬ (2000:Int)<(T.size:Int):=by omega
       have g:=aA (fY T (by omega) w6 n.out.l.1);have f:=aA (fun V=>pF T (by omega) V);clear hz;have HX:=FU HO.out (fun x hx=>⟨(c.out.fine x hx).1,(c.out.fine x hx).2.1⟩);rw [<- HT.out] at HX;rcases HX with hx | ⟨p,hx⟩
       · have d:=nO hx
         have j:=c.out.can d;rw [hx] at g f;obtain ⟨q,o⟩:∃ q,l.map vB=q:=⟨_,rfl⟩;rw [o] at g f d j;have z:=aA d;have HS:=aA j;clear hx o d j;go_wp2_with fail
         refine g.out.mono ?_;rintro e w7 ⟨a,xa,xc,rfl,hr⟩;have r:=aA (n.out.step a);have M7:=aA (M6.out.kept a);have X7:=aA (hr.imp (H:=fun _=>True) (fun _ _ _=>trivial));clear a g hr n M6;go_wp2_with fail
         refine (f.out _).mono ?_;rintro e w8 ⟨a,ya,yc,rfl,hr⟩;have D:=aA (r.out.step a);have M8:=aA (M7.out.kept a);have R:=aA (X7.out.kept a);have Y8:=aA (hr.imp (H:=fun _=>True) (fun _ _ _=>trivial));have S1:=aA (s9 q l xa xc N M w8 (by have:=z.out.len;omega) z.out.sm HS.out R.out M8.out);clear a f hr r M7 X7;go_wp2_with fail
         refine S1.out.mono ?_;rintro e w9 ⟨rfl,a⟩;have K9:=aA (D.out.step a);have S2:=aA (s9 q q xa xc ya yc w9 (by have:=z.out.len;omega) z.out.sm z.out.self (R.out.kept a) (Y8.out.kept a));clear a D M8 R Y8 S1;go_wp2_with fail
         refine S2.out.mono ?_;rintro e jb ⟨rfl,a⟩;have ja:=aA (K9.out.step a);clear a;go_wp2_with fail
         go_ret;exact ⟨rfl,ja.out.b⟩
       · rw [hx] at g f
         clear hx;go_wp2_with fail
         refine g.out.mono ?_;rintro e w7 ⟨a,rfl⟩;have r:=aA (n.out.step a);clear a g n;go_wp2_with fail
         refine (f.out _).mono ?_;rintro e w8 ⟨a,rfl⟩;have D:=aA (r.out.step a);clear a f r;go_wp2_with fail
         go_ret;exact ⟨rfl,D.out.b⟩
def BO (g:Tr->Option Int) (c:CD):Bool:=match evT g c.a,evT g c.b with | some x,some y=>(bE c.op x y).getD false | _,_=>false
theorem Iz (g:Tr->Option Int) (c:CD) (r:List CD):eH g (c::r)=(BO g c && eH g r):=rfl
theorem Nl (g:Tr->Option Int) (c:CD):BO g c=((evT g c.a).isSome && (evT g c.b).isSome && (bE c.op ((evT g c.a).getD 0) ((evT g c.b).getD 0)).getD false):=by
 unfold BO;cases evT g c.a with
 | none=>rfl
 | some x=>cases evT g c.b <;> rfl
structure OkE (t:TN):Prop where
 c:aW t=0
 n:dU t.f
 s:SzF t.f
theorem Gt {A:Nat->Wr.AD} {n:Nat} {g:Tr->Option Int} (U:nD A n g) (d:CD) (Z:OkE d.a) (Y:OkE d.b) (G:Nat->Prop) (a1:Tp) (c1:Nat) (a2:Tp) (c2:Nat) (y:Tp) (cy:Nat) (w:World)
 (r1:aK G w a1 d.a.ks) (r2:aK G w a2 d.b.ks) (X:Wr.ReadsA w y n A) :
 Calls prog 190 #[cdV d a1 c1 a2 c2,.slice y n cy] w fun e w'=>e=.returned (.bool (BO g d))/\Below w.heap.size w w':=by
 have B0:=bA0 w (cdX d a1 c1 a2 c2);have N0:=heap_alloc_new w (cdX d a1 c1 a2 c2);generalize hW:w.alloc (cdX d a1 c1 a2 c2)=W at *;have HW:=aA hW;have HB:=aA B0;have HN:=aA N0;have R:=aA (fun V (x:Below w.heap.size w V)=>qK U d.a Z.c Z.n Z.s G V a1 c1 y cy (r1.kept x) (X.kept x));have P:=aA (fun V (x:Below w.heap.size w V)=>qK U d.b Y.c Y.n Y.s G V a2 c2 y cy (r2.kept x) (X.kept x));obtain ⟨va,o⟩:∃ v,evT g d.a=v:=⟨_,rfl⟩;obtain ⟨vb,m⟩:∃ v,evT g d.b=v:=⟨_,rfl⟩;rw [Nl,o,m];rw [o] at R;rw [m] at P;obtain ⟨T,l⟩:∃ n,va.getD 0=n:=⟨_,rfl⟩;obtain ⟨S,k⟩:∃ n,vb.getD 0=n:=⟨_,rfl⟩;obtain ⟨za,j⟩:∃ n,va.isSome=n:=⟨_,rfl⟩;obtain ⟨zb,h⟩:∃ n,vb.isSome=n:=⟨_,rfl⟩;rw [l,j] at R;rw [k,h] at P;have HO:=aA (fun V=>yE d.op T S V);obtain ⟨zo,f⟩:∃ z,(bE d.op T S).getD false=z:=⟨_,rfl⟩;obtain ⟨zs,u⟩:∃ z,(bE d.op T S).isSome=z:=⟨_,rfl⟩;rw [f,u] at HO;rw [l,j,k,h,f];obtain ⟨r,hr⟩:∃ r,(za && zb && zo)=r:=⟨_,rfl⟩;rw [hr];have HR:=aA hr;obtain ⟨O,N,M,L,I,H,E,D,C⟩:=iD N0;clear hW B0 N0 r1 r2 X o m l k j h f u hr;go_enter func190,ntmps190
 go_upto_region 1 with fail
 rw [show w.alloc (.cells #[.string d.op,.string d.a.op,.string d.a.nm,.int .i64 d.a.n,.slice a1 d.a.ks.len c1,.string d.b.op,.string d.b.nm,.int .i64 d.b.n,.slice a2 d.b.ks.len c2] 144)=W from HW.out];go_wp2_with fail
 refine (R.out W HB.out).mono ?_;rintro e w1 ⟨rfl,p⟩;have t:=aA (HB.out.trans (p.mono HB.out.size));have N1:=aA ((p.block _ (aG HN.out)).trans HN.out);clear p R O N M L I H E D C;obtain ⟨O,N,M,L,I,H,E,D,C⟩:=iD N1.out;go_wp2_with fail
 refine (P.out w1 t.out).mono ?_;rintro e w2 ⟨rfl,p⟩;have q:=aA (t.out.trans (p.mono t.out.size));have N2:=(p.block _ (aG N1.out)).trans N1.out;clear p P O N M L I H E D C;obtain ⟨O,N,M,L,I,H,E,D,C⟩:=iD N2;clear N2;go_wp2_with fail
 refine (HO.out w2).mono ?_;rintro e w3 ⟨rfl,rfl⟩;cases za with
 | false =>
   have B:=aA (show false=r from HR.out);go_wp2_with fail
   go_ret;exact ⟨congrArg (fun z=>Ending.returned (.bool z)) B.out,q.out⟩
 | true =>
   cases zb with
   | false =>
     have B:=aA (show false=r from HR.out);go_wp2_with fail
     go_ret;exact ⟨congrArg (fun z=>Ending.returned (.bool z)) B.out,q.out⟩
   | true =>
     have B:=aA (show zo=r from HR.out);go_wp2_with fail
     go_ret;exact ⟨congrArg (fun z=>Ending.returned (.bool z)) B.out,q.out⟩
end Go.Proofs.YtgfkjkokmcejbaaGreatDoor
