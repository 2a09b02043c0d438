/-
 No statement: what ProgOrderLift needs, of the texts ZPNext, ZPParse, OBuild, OText, OTx, ZPText, ProgOrderWalk, ZPCheck, OHold.
-/
import Derived.Test.YtgfkjkokmcejbaaGreatDoorVO10
set_option maxHeartbeats 40000000
set_option maxRecDepth 100000
namespace Go.Proofs.YtgfkjkokmcejbaaGreatDoor
section
open Go.RowKit
def sV (acc:List LN) (s:List UInt8):Cp:=if acc.length=8 then .bad 4 else jN acc s
def DU (r:Cp) (w:World) (e:Ending) (w':World):Prop:=Below w.heap.size w w'/\match r with
 | .bad er=>e=.returned (.tuple #[lnV eJ aR,.int .i64 er])
 | .ok x=>∃ p,e=.returned (.tuple #[lnV x p,.int .i64 0])/\aJ (fun b=>w.heap.size<=b) w' x.a p
structure NW (G:Nat->Prop) (w:World) (a:Option Addr) (l:List LN) (V:World):Prop where
 b:Below w.heap.size w V
 r:cU G V a l
 o:V.heap[w.heap.size]? = some (lnO eJ aR)
 l:gO V
theorem NW.step {G:Nat->Prop} {w V V':World} {a:Option Addr} {l:List LN} (h:NW G w a l V) (hb:Below V.heap.size V V'):NW G w a l V' :=
 ⟨h.b.trans (hb.mono h.b.size),h.r.kept hb,(hb.block _ (aB h.o)).trans h.o,h.l.step hb⟩
structure NM (G:Nat->Prop) (w:World) (a:Option Addr) (l:List LN) (nb:Nat) (nm:ByteArray) (V:World):Prop where
 x:NW G w a l V
 n:V.heap[nb]? = some (.cells #[.string nm] 9 (0,0))
 lt:w.heap.size<nb
theorem NM.step {G:Nat->Prop} {w V V':World} {a:Option Addr} {l:List LN} {nb:Nat} {nm:ByteArray} (h:NM G w a l nb nm V) (hb:Below V.heap.size V V'):NM G w a l nb nm V' :=
 ⟨h.x.step hb,(hb.block _ (aB h.n)).trans h.n,h.lt⟩
theorem rT {w V:World} {er:Int} {r:Cp} (hN:V.heap[w.heap.size]? = some (lnO eJ aR)) (hb:Below w.heap.size w V) (hr:r=.bad er) :
 (cV V w.heap.size (.string ⟨#[]⟩) (.string ⟨#[]⟩) (.int .i64 0) (.string ⟨#[]⟩) (.string ⟨#[]⟩) (.int .i64 0) (.slice none 0 0) (.string ⟨#[]⟩) (.string ⟨#[]⟩) (.int .i64 0) (.slice none 0 0) (.slice none 0 0)).cell? ⟨w.heap.size,0,none⟩=some (.string ⟨#[]⟩)/\(cV V w.heap.size (.string ⟨#[]⟩) (.string ⟨#[]⟩) (.int .i64 0) (.string ⟨#[]⟩) (.string ⟨#[]⟩) (.int .i64 0) (.slice none 0 0) (.string ⟨#[]⟩) (.string ⟨#[]⟩) (.int .i64 0) (.slice none 0 0) (.slice none 0 0)).cell? ⟨w.heap.size,1,none⟩=some (.string ⟨#[]⟩)/\(cV V w.heap.size (.string ⟨#[]⟩) (.string ⟨#[]⟩) (.int .i64 0) (.string ⟨#[]⟩) (.string ⟨#[]⟩) (.int .i64 0) (.slice none 0 0) (.string ⟨#[]⟩) (.string ⟨#[]⟩) (.int .i64 0) (.slice none 0 0) (.slice none 0 0)).cell? ⟨w.heap.size,2,none⟩=some (.int .i64 0)/\(cV V w.heap.size (.string ⟨#[]⟩) (.string ⟨#[]⟩) (.int .i64 0) (.string ⟨#[]⟩) (.string ⟨#[]⟩) (.int .i64 0) (.slice none 0 0) (.string ⟨#[]⟩) (.string ⟨#[]⟩) (.int .i64 0) (.slice none 0 0) (.slice none 0 0)).cell? ⟨w.heap.size,3,none⟩=some (.string ⟨#[]⟩)/\(cV V w.heap.size (.string ⟨#[]⟩) (.string ⟨#[]⟩) (.int .i64 0) (.string ⟨#[]⟩) (.string ⟨#[]⟩) (.int .i64 0) (.slice none 0 0) (.string ⟨#[]⟩) (.string ⟨#[]⟩) (.int .i64 0) (.slice none 0 0) (.slice none 0 0)).cell? ⟨w.heap.size,4,none⟩=some (.string ⟨#[]⟩)/\(cV V w.heap.size (.string ⟨#[]⟩) (.string ⟨#[]⟩) (.int .i64 0) (.string ⟨#[]⟩) (.string ⟨#[]⟩) (.int .i64 0) (.slice none 0 0) (.string ⟨#[]⟩) (.string ⟨#[]⟩) (.int .i64 0) (.slice none 0 0) (.slice none 0 0)).cell? ⟨w.heap.size,5,none⟩=some (.int .i64 0)/\(cV V w.heap.size (.string ⟨#[]⟩) (.string ⟨#[]⟩) (.int .i64 0) (.string ⟨#[]⟩) (.string ⟨#[]⟩) (.int .i64 0) (.slice none 0 0) (.string ⟨#[]⟩) (.string ⟨#[]⟩) (.int .i64 0) (.slice none 0 0) (.slice none 0 0)).cell? ⟨w.heap.size,6,none⟩=some (.slice none 0 0)/\(cV V w.heap.size (.string ⟨#[]⟩) (.string ⟨#[]⟩) (.int .i64 0) (.string ⟨#[]⟩) (.string ⟨#[]⟩) (.int .i64 0) (.slice none 0 0) (.string ⟨#[]⟩) (.string ⟨#[]⟩) (.int .i64 0) (.slice none 0 0) (.slice none 0 0)).cell? ⟨w.heap.size,7,none⟩=some (.string ⟨#[]⟩)/\(cV V w.heap.size (.string ⟨#[]⟩) (.string ⟨#[]⟩) (.int .i64 0) (.string ⟨#[]⟩) (.string ⟨#[]⟩) (.int .i64 0) (.slice none 0 0) (.string ⟨#[]⟩) (.string ⟨#[]⟩) (.int .i64 0) (.slice none 0 0) (.slice none 0 0)).cell? ⟨w.heap.size,8,none⟩=some (.string ⟨#[]⟩)/\(cV V w.heap.size (.string ⟨#[]⟩) (.string ⟨#[]⟩) (.int .i64 0) (.string ⟨#[]⟩) (.string ⟨#[]⟩) (.int .i64 0) (.slice none 0 0) (.string ⟨#[]⟩) (.string ⟨#[]⟩) (.int .i64 0) (.slice none 0 0) (.slice none 0 0)).cell? ⟨w.heap.size,9,none⟩=some (.int .i64 0)/\(cV V w.heap.size (.string ⟨#[]⟩) (.string ⟨#[]⟩) (.int .i64 0) (.string ⟨#[]⟩) (.string ⟨#[]⟩) (.int .i64 0) (.slice none 0 0) (.string ⟨#[]⟩) (.string ⟨#[]⟩) (.int .i64 0) (.slice none 0 0) (.slice none 0 0)).cell? ⟨w.heap.size,10,none⟩=some (.slice none 0 0)/\(cV V w.heap.size (.string ⟨#[]⟩) (.string ⟨#[]⟩) (.int .i64 0) (.string ⟨#[]⟩) (.string ⟨#[]⟩) (.int .i64 0) (.slice none 0 0) (.string ⟨#[]⟩) (.string ⟨#[]⟩) (.int .i64 0) (.slice none 0 0) (.slice none 0 0)).cell? ⟨w.heap.size,11,none⟩=some (.slice none 0 0)/\DU r w (.returned (.tuple #[lnV eJ aR,.int .i64 er])) (cV V w.heap.size (.string ⟨#[]⟩) (.string ⟨#[]⟩) (.int .i64 0) (.string ⟨#[]⟩) (.string ⟨#[]⟩) (.int .i64 0) (.slice none 0 0) (.string ⟨#[]⟩) (.string ⟨#[]⟩) (.int .i64 0) (.slice none 0 0) (.slice none 0 0)):=by
 have H:=vC (W:=V) (B:=w.heap.size) (t:=72) hN (.string ⟨#[]⟩) (.string ⟨#[]⟩) (.int .i64 0) (.string ⟨#[]⟩) (.string ⟨#[]⟩) (.int .i64 0) (.slice none 0 0) (.string ⟨#[]⟩) (.string ⟨#[]⟩) (.int .i64 0) (.slice none 0 0) (.slice none 0 0);obtain ⟨y0,y1,y2,y3,y4,y5,y6,y7,y8,y9,y10,y11⟩:=mO (W:=cV V w.heap.size (.string ⟨#[]⟩) (.string ⟨#[]⟩) (.int .i64 0) (.string ⟨#[]⟩) (.string ⟨#[]⟩) (.int .i64 0) (.slice none 0 0) (.string ⟨#[]⟩) (.string ⟨#[]⟩) (.int .i64 0) (.slice none 0 0) (.slice none 0 0)) H;refine ⟨y0,y1,y2,y3,y4,y5,y6,y7,y8,y9,y10,y11,(hb.trans ((vA V w.heap.size (.string ⟨#[]⟩) (.string ⟨#[]⟩) (.int .i64 0) (.string ⟨#[]⟩) (.string ⟨#[]⟩) (.int .i64 0) (.slice none 0 0) (.string ⟨#[]⟩) (.string ⟨#[]⟩) (.int .i64 0) (.slice none 0 0) (.slice none 0 0)).below (B:=w.heap.size) (fun k hk=>by omega) hb.size)),by rw [hr]⟩
theorem Nq {w V:World} {nm:ByteArray} {x:AG} {p:PA} {r:Cp} {B:Nat} (hN:V.heap[w.heap.size]? = some (lnO eJ aR)) (hb:Below w.heap.size w V) (hr:r=.ok ⟨nm,x⟩) (hB:w.heap.size<B) (hd:aJ (fun b=>B<=b) V x p) :
 (cV V w.heap.size (.string nm) (.string x.fn) (.int .i64 x.k) (.string x.e.op) (.string x.e.nm) (.int .i64 x.e.n) (.slice p.ea x.e.ks.len p.ec) (.string x.g.op) (.string x.g.nm) (.int .i64 x.g.n) (.slice p.ga x.g.ks.len p.gc) (.slice p.wa x.wh.length p.wc)).cell? ⟨w.heap.size,0,none⟩=some (.string nm)/\(cV V w.heap.size (.string nm) (.string x.fn) (.int .i64 x.k) (.string x.e.op) (.string x.e.nm) (.int .i64 x.e.n) (.slice p.ea x.e.ks.len p.ec) (.string x.g.op) (.string x.g.nm) (.int .i64 x.g.n) (.slice p.ga x.g.ks.len p.gc) (.slice p.wa x.wh.length p.wc)).cell? ⟨w.heap.size,1,none⟩=some (.string x.fn)/\(cV V w.heap.size (.string nm) (.string x.fn) (.int .i64 x.k) (.string x.e.op) (.string x.e.nm) (.int .i64 x.e.n) (.slice p.ea x.e.ks.len p.ec) (.string x.g.op) (.string x.g.nm) (.int .i64 x.g.n) (.slice p.ga x.g.ks.len p.gc) (.slice p.wa x.wh.length p.wc)).cell? ⟨w.heap.size,2,none⟩=some (.int .i64 x.k)/\(cV V w.heap.size (.string nm) (.string x.fn) (.int .i64 x.k) (.string x.e.op) (.string x.e.nm) (.int .i64 x.e.n) (.slice p.ea x.e.ks.len p.ec) (.string x.g.op) (.string x.g.nm) (.int .i64 x.g.n) (.slice p.ga x.g.ks.len p.gc) (.slice p.wa x.wh.length p.wc)).cell? ⟨w.heap.size,3,none⟩=some (.string x.e.op)/\(cV V w.heap.size (.string nm) (.string x.fn) (.int .i64 x.k) (.string x.e.op) (.string x.e.nm) (.int .i64 x.e.n) (.slice p.ea x.e.ks.len p.ec) (.string x.g.op) (.string x.g.nm) (.int .i64 x.g.n) (.slice p.ga x.g.ks.len p.gc) (.slice p.wa x.wh.length p.wc)).cell? ⟨w.heap.size,4,none⟩=some (.string x.e.nm)/\(cV V w.heap.size (.string nm) (.string x.fn) (.int .i64 x.k) (.string x.e.op) (.string x.e.nm) (.int .i64 x.e.n) (.slice p.ea x.e.ks.len p.ec) (.string x.g.op) (.string x.g.nm) (.int .i64 x.g.n) (.slice p.ga x.g.ks.len p.gc) (.slice p.wa x.wh.length p.wc)).cell? ⟨w.heap.size,5,none⟩=some (.int .i64 x.e.n)/\(cV V w.heap.size (.string nm) (.string x.fn) (.int .i64 x.k) (.string x.e.op) (.string x.e.nm) (.int .i64 x.e.n) (.slice p.ea x.e.ks.len p.ec) (.string x.g.op) (.string x.g.nm) (.int .i64 x.g.n) (.slice p.ga x.g.ks.len p.gc) (.slice p.wa x.wh.length p.wc)).cell? ⟨w.heap.size,6,none⟩=some (.slice p.ea x.e.ks.len p.ec)/\(cV V w.heap.size (.string nm) (.string x.fn) (.int .i64 x.k) (.string x.e.op) (.string x.e.nm) (.int .i64 x.e.n) (.slice p.ea x.e.ks.len p.ec) (.string x.g.op) (.string x.g.nm) (.int .i64 x.g.n) (.slice p.ga x.g.ks.len p.gc) (.slice p.wa x.wh.length p.wc)).cell? ⟨w.heap.size,7,none⟩=some (.string x.g.op)/\(cV V w.heap.size (.string nm) (.string x.fn) (.int .i64 x.k) (.string x.e.op) (.string x.e.nm) (.int .i64 x.e.n) (.slice p.ea x.e.ks.len p.ec) (.string x.g.op) (.string x.g.nm) (.int .i64 x.g.n) (.slice p.ga x.g.ks.len p.gc) (.slice p.wa x.wh.length p.wc)).cell? ⟨w.heap.size,8,none⟩=some (.string x.g.nm)/\(cV V w.heap.size (.string nm) (.string x.fn) (.int .i64 x.k) (.string x.e.op) (.string x.e.nm) (.int .i64 x.e.n) (.slice p.ea x.e.ks.len p.ec) (.string x.g.op) (.string x.g.nm) (.int .i64 x.g.n) (.slice p.ga x.g.ks.len p.gc) (.slice p.wa x.wh.length p.wc)).cell? ⟨w.heap.size,9,none⟩=some (.int .i64 x.g.n)/\(cV V w.heap.size (.string nm) (.string x.fn) (.int .i64 x.k) (.string x.e.op) (.string x.e.nm) (.int .i64 x.e.n) (.slice p.ea x.e.ks.len p.ec) (.string x.g.op) (.string x.g.nm) (.int .i64 x.g.n) (.slice p.ga x.g.ks.len p.gc) (.slice p.wa x.wh.length p.wc)).cell? ⟨w.heap.size,10,none⟩=some (.slice p.ga x.g.ks.len p.gc)/\(cV V w.heap.size (.string nm) (.string x.fn) (.int .i64 x.k) (.string x.e.op) (.string x.e.nm) (.int .i64 x.e.n) (.slice p.ea x.e.ks.len p.ec) (.string x.g.op) (.string x.g.nm) (.int .i64 x.g.n) (.slice p.ga x.g.ks.len p.gc) (.slice p.wa x.wh.length p.wc)).cell? ⟨w.heap.size,11,none⟩=some (.slice p.wa x.wh.length p.wc)/\DU r w (.returned (.tuple #[lnV ⟨nm,x⟩ p,.int .i64 0])) (cV V w.heap.size (.string nm) (.string x.fn) (.int .i64 x.k) (.string x.e.op) (.string x.e.nm) (.int .i64 x.e.n) (.slice p.ea x.e.ks.len p.ec) (.string x.g.op) (.string x.g.nm) (.int .i64 x.g.n) (.slice p.ga x.g.ks.len p.gc) (.slice p.wa x.wh.length p.wc)):=by
 have H:=vC (W:=V) (B:=w.heap.size) (t:=72) hN (.string nm) (.string x.fn) (.int .i64 x.k) (.string x.e.op) (.string x.e.nm) (.int .i64 x.e.n) (.slice p.ea x.e.ks.len p.ec) (.string x.g.op) (.string x.g.nm) (.int .i64 x.g.n) (.slice p.ga x.g.ks.len p.gc) (.slice p.wa x.wh.length p.wc);have K:=vA V w.heap.size (.string nm) (.string x.fn) (.int .i64 x.k) (.string x.e.op) (.string x.e.nm) (.int .i64 x.e.n) (.slice p.ea x.e.ks.len p.ec) (.string x.g.op) (.string x.g.nm) (.int .i64 x.g.n) (.slice p.ga x.g.ks.len p.gc) (.slice p.wa x.wh.length p.wc);generalize cV V w.heap.size (.string nm) (.string x.fn) (.int .i64 x.k) (.string x.e.op) (.string x.e.nm) (.int .i64 x.e.n) (.slice p.ea x.e.ks.len p.ec) (.string x.g.op) (.string x.g.nm) (.int .i64 x.g.n) (.slice p.ga x.g.ks.len p.gc) (.slice p.wa x.wh.length p.wc)=V2 at H K;refine ⟨?_,?_,?_,?_,?_,?_,?_,?_,?_,?_,?_,?_,hb.trans (K.below (B:=w.heap.size) (fun k hk=>by omega) hb.size),?_⟩;rotate_right
 · rw [hr]
   exact ⟨p,rfl,(hd.keptS K (fun k hk hg=>by omega)).imp (fun b _ hg=>by omega)⟩
 all_goals simp [World.cell?,H]
theorem Fu {G:Nat->Prop} (acc:List LN) (a:Option Addr) (c:Nat) (s:ByteArray) (hs:s.size<=5000) (w:World) (hw:gO w) (hl:acc.length<=8) (hr:cU G w a acc) :
 Calls Tryz.prog 28 #[.slice a acc.length c,.string s] w (DU (sV acc s.data.toList) w):=by
 obtain ⟨r,hrr⟩:∃ r,sV acc s.data.toList=r:=⟨_,rfl⟩;rw [hrr];have B1:=bA0 w (lnO eJ aR);have N0:=aA (show NW G w a acc (w.alloc (lnO eJ aR)) from ⟨B1,hr.kept B1,heap_alloc_new w (lnO eJ aR),hw.step B1⟩);generalize hW:w.alloc (lnO eJ aR)=W at N0;have HW:=aA hW;clear hW B1 hr hw;obtain ⟨k,hk⟩:∃ k,acc.length=k:=⟨_,rfl⟩;have HKK:=aA hk;unfold sV at hrr;rw [hk] at hrr hl |-
 clear hk;go_enter Tryz.func28,Tryz.ntmps28
 go_upto_region 1 with fail
 rw [show w.alloc (.cells #[.string ⟨#[]⟩,.string ⟨#[]⟩,.int .i64 0,.string ⟨#[]⟩,.string ⟨#[]⟩,.int .i64 0,.slice none 0 0,.string ⟨#[]⟩,.string ⟨#[]⟩,.int .i64 0,.slice none 0 0,.slice none 0 0] 72)=W from HW.out];clear HW;by_cases h8:k=8
 · rw [if_pos h8] at hrr
   have q8:((k:Int) == 8)=true:=by rw [h8];rfl
   have RR:=aA hrr.symm;clear hrr h8;obtain ⟨z0,z1,z2,z3,z4,z5,z6,z7,z8,z9,z10,z11⟩:=lK N0.out.o;obtain ⟨b0,b1,b2,b3,b4,b5,b6,b7,b8,b9,b10,b11⟩:=mO N0.out.o;go_wp2_with fail
   obtain ⟨y0,y1,y2,y3,y4,y5,y6,y7,y8,y9,y10,y11,PP⟩:=rT N0.out.o N0.out.b RR.out;dsimp only [cV] at y0 y1 y2 y3 y4 y5 y6 y7 y8 y9 y10 y11 PP;exact bodyPost_ret (v:=.tuple #[lnV eJ aR,.int .i64 4]) (by simp [results,Tryz.results28,go_sem,y0,y1,y2,y3,y4,y5,y6,y7,y8,y9,y10,y11,eJ,cB,aR,aI,F.len]) rfl PP
 · rw [if_neg h8] at hrr
   have q8:((k:Int) == 8)=false:=by rw [beq_eq_false_iff_ne];omega
   have CU:=aA (Ij s hs W);have HRR:=aA hrr;clear h8 hrr;cases hh:j6 s.data.toList with
   | none =>
     have RR:=aA (show r=.bad 2 by rw [<- HRR.out];unfold jN;rw [hh]);rw [hh] at CU;clear hh HRR;go_wp2_with fail
     refine CU.out.mono ?_;rintro e w2 ⟨hb,sa,sb,rfl⟩;have N2:=(N0.out.step hb).step (bA0 w2 (.cells #[.string sa] 9));clear hb CU N0;go_upto_region 4 with fail
     generalize w2.alloc (.cells #[.string sa] 9)=W2 at N2;have HN2:=aA N2;clear N2;obtain ⟨z0,z1,z2,z3,z4,z5,z6,z7,z8,z9,z10,z11⟩:=lK HN2.out.o;obtain ⟨b0,b1,b2,b3,b4,b5,b6,b7,b8,b9,b10,b11⟩:=mO HN2.out.o;go_wp2_with fail
     obtain ⟨y0,y1,y2,y3,y4,y5,y6,y7,y8,y9,y10,y11,PP⟩:=rT HN2.out.o HN2.out.b RR.out;dsimp only [cV] at y0 y1 y2 y3 y4 y5 y6 y7 y8 y9 y10 y11 PP;exact bodyPost_ret (v:=.tuple #[lnV eJ aR,.int .i64 2]) (by simp [results,Tryz.results28,go_sem,y0,y1,y2,y3,y4,y5,y6,y7,y8,y9,y10,y11,eJ,cB,aR,aI,F.len]) rfl PP
   | some nr =>
     obtain ⟨nm0,rs0⟩:=nr;obtain ⟨nm,rs,hh2,hnm,hrs⟩:=Ja hh;have hln:=Jb hh;have hsz:s.data.toList.length=s.size:=by simp
     have hnms:nm.size<=5000:=by
      have:nm.data.toList.length=nm.size:=by simp
      rw [<- this,hnm];omega
     have hrss:rs.size<=5000:=by
      have:rs.data.toList.length=rs.size:=by simp
      rw [<- this,hrs];omega
     have LX:=aA (zX (acc:=acc) hh2);rw [hh2] at CU;have NX:=aA (fun V=>i8 nm (by omega) V);have KX2:=aA (fun V=>rQ nm V);clear hh hh2 hnm hrs hln hsz;go_wp2_with fail
     refine CU.out.mono ?_;rintro e w2 ⟨hb,rfl⟩;have N1:=N0.out.step hb;have BA:=bA0 w2 (.cells #[.string nm] 9);have N2:=N1.step BA;have NB:=heap_alloc_new w2 (.cells #[.string nm] 9);have hlo:w.heap.size<w2.heap.size:=aB N1.o;clear hb CU N0;go_upto_region 4 with fail
     generalize w2.alloc (.cells #[.string nm] 9)=W2 at N2 NB;generalize w2.heap.size=nb at NB hlo;have M2:=aA (show NM G w a acc nb nm W2 from ⟨N2,NB,hlo⟩);clear N1 BA N2 NB hlo;have n0:=uN M2.out.n;go_wp2_with fail
     refine (NX.out _).mono ?_;rintro e w3 ⟨rfl,rfl⟩;cases hg:bD nm.data.toList with
     | false =>
       have RR:=aA (show r=.bad 5 by rw [<- HRR.out,LX.out,if_pos (.inl hg)]);clear hg n0 NX KX2 LX;obtain ⟨z0,z1,z2,z3,z4,z5,z6,z7,z8,z9,z10,z11⟩:=lK M2.out.x.o;obtain ⟨b0,b1,b2,b3,b4,b5,b6,b7,b8,b9,b10,b11⟩:=mO M2.out.x.o;go_wp2_with fail
       obtain ⟨y0,y1,y2,y3,y4,y5,y6,y7,y8,y9,y10,y11,PP⟩:=rT M2.out.x.o M2.out.x.b RR.out;dsimp only [cV] at y0 y1 y2 y3 y4 y5 y6 y7 y8 y9 y10 y11 PP;exact bodyPost_ret (v:=.tuple #[lnV eJ aR,.int .i64 5]) (by simp [results,Tryz.results28,go_sem,y0,y1,y2,y3,y4,y5,y6,y7,y8,y9,y10,y11,eJ,cB,aR,aI,F.len]) rfl PP
     | true =>
       have HG:=aA hg;clear hg;go_wp2_with fail
       refine (KX2.out _).mono ?_;rintro e w4 ⟨rfl,hb⟩;have M3:=aA (M2.out.step hb);clear hb M2 n0;cases hkp:dX nm.data.toList with
       | true =>
         have RR:=aA (show r=.bad 5 by rw [<- HRR.out,LX.out,if_pos (.inr hkp)]);clear hkp NX KX2 LX;obtain ⟨z0,z1,z2,z3,z4,z5,z6,z7,z8,z9,z10,z11⟩:=lK M3.out.x.o;obtain ⟨b0,b1,b2,b3,b4,b5,b6,b7,b8,b9,b10,b11⟩:=mO M3.out.x.o;go_wp2_with fail
         obtain ⟨y0,y1,y2,y3,y4,y5,y6,y7,y8,y9,y10,y11,PP⟩:=rT M3.out.x.o M3.out.x.b RR.out;dsimp only [cV] at y0 y1 y2 y3 y4 y5 y6 y7 y8 y9 y10 y11 PP;exact bodyPost_ret (v:=.tuple #[lnV eJ aR,.int .i64 5]) (by simp [results,Tryz.results28,go_sem,y0,y1,y2,y3,y4,y5,y6,y7,y8,y9,y10,y11,eJ,cB,aR,aI,F.len]) rfl PP
       | false =>
         have LX2:=aA (show jN acc s.data.toList=if acc.any (fun x=>x.nm.data.toList == nm.data.toList)=true then .bad 6 else match agX rs.data.toList with
          | .bad _ e=>.bad e
          | .ok a=>.ok ⟨⟨nm.data.toList.toArray⟩,a⟩ by rw [LX.out,if_neg (by rw [HG.out,hkp];simp)];all_goals rfl)
         have CF:=No acc a c nb nm w4 (by rw [HKK.out];omega) M3.out.x.r M3.out.n;rw [HKK.out] at CF;have HCF:=aA CF;have n0:=uN M3.out.n;clear hkp LX HG NX KX2 CF;go_wp2_with fail
         refine HCF.out.mono ?_;rintro e w5 ⟨rfl,hb⟩;have M4:=aA (M3.out.step hb);clear hb M3 n0 HCF;cases hq:acc.any (fun x=>x.nm.data.toList == nm.data.toList) with
         | true =>
           have RR:=aA (show r=.bad 6 by rw [<- HRR.out,LX2.out,if_pos hq]);clear hq LX2;obtain ⟨z0,z1,z2,z3,z4,z5,z6,z7,z8,z9,z10,z11⟩:=lK M4.out.x.o;obtain ⟨b0,b1,b2,b3,b4,b5,b6,b7,b8,b9,b10,b11⟩:=mO M4.out.x.o;go_wp2_with fail
           obtain ⟨y0,y1,y2,y3,y4,y5,y6,y7,y8,y9,y10,y11,PP⟩:=rT M4.out.x.o M4.out.x.b RR.out;dsimp only [cV] at y0 y1 y2 y3 y4 y5 y6 y7 y8 y9 y10 y11 PP;exact bodyPost_ret (v:=.tuple #[lnV eJ aR,.int .i64 6]) (by simp [results,Tryz.results28,go_sem,y0,y1,y2,y3,y4,y5,y6,y7,y8,y9,y10,y11,eJ,cB,aR,aI,F.len]) rfl PP
         | false =>
           have LX3:=aA (show jN acc s.data.toList=match agX rs.data.toList with
            | .bad _ e=>.bad e
            | .ok a=>.ok ⟨⟨nm.data.toList.toArray⟩,a⟩ by rw [LX2.out,if_neg (by rw [hq];decide)];all_goals rfl)
           have PG:=aA (wV rs (by omega) w5 M4.out.x.l);clear hq LX2;cases hp:agX rs.data.toList with
           | bad p er =>
             rw [hp] at PG LX3;obtain ⟨qe,qn⟩:=wJ hp;have RR:=aA (show r=.bad er by rw [<- HRR.out,LX3.out]);clear hp LX3;go_wp2_with fail
             refine PG.out.mono ?_;rintro e w6 ⟨hb,rfl⟩;have M5:=(M4.out.step hb).step (bA0 w6 (agP cB aR));clear hb M4 PG;go_upto_region 11 with fail
             generalize World.alloc w6 _=W6 at M5;have M6:=aA M5;clear M5;obtain ⟨z0,z1,z2,z3,z4,z5,z6,z7,z8,z9,z10,z11⟩:=lK M6.out.x.o;obtain ⟨b0,b1,b2,b3,b4,b5,b6,b7,b8,b9,b10,b11⟩:=mO M6.out.x.o;go_wp2_with fail
             obtain ⟨y0,y1,y2,y3,y4,y5,y6,y7,y8,y9,y10,y11,PP⟩:=rT M6.out.x.o M6.out.x.b RR.out;dsimp only [cV] at y0 y1 y2 y3 y4 y5 y6 y7 y8 y9 y10 y11 PP;exact bodyPost_ret (v:=.tuple #[lnV eJ aR,.int .i64 er]) (by simp [results,Tryz.results28,go_sem,y0,y1,y2,y3,y4,y5,y6,y7,y8,y9,y10,y11,eJ,cB,aR,aI,F.len]) rfl PP
           | ok x =>
             rw [hp] at PG LX3;have RR:=aA (show r=.ok ⟨nm,x⟩ by rw [<- HRR.out,LX3.out]);clear hp LX3;go_wp2_with fail
             refine PG.out.mono ?_;rintro e w6 ⟨hb,p,rfl,hrd⟩;have BA:=bA0 w6 (agP x p);have M5:=(M4.out.step hb).step BA;have NA:=heap_alloc_new w6 (agP x p);have R5:=hrd.kept BA;have hab:nb<w6.heap.size:=aB (M4.out.step hb).n;have hlo:w5.heap.size<=w6.heap.size:=hb.size;have hw5:=Nat.lt_trans M4.out.lt (aB M4.out.n);clear hb M4 PG BA hrd;go_upto_region 11 with fail
             generalize World.alloc w6 _=W6 at M5 NA R5;generalize w6.heap.size=ab at NA hab hlo;have M6:=aA M5;have HNA:=aA NA;have HR5:=aA R5;have CL:=aA (Mz nm (by omega));have n0:=uN M6.out.n;obtain ⟨m0,m1,m2,m3,m4,m5,m6,m7,m8,m9,m10⟩:=aP HNA.out;clear M5 NA R5;go_upto_region 13 with fail
             go_region_law (first
              | (go_simp
                 go_at_call 58
                 with_reducible refine (CL.out _).mono ?_
                 rintro e v1 ⟨rfl,hb⟩;have D7:=(fT W6).trans hb;have M7:=aA (M6.out.step D7);have NA7:=(D7.block _ (aB HNA.out)).trans HNA.out;have R7:=aA (HR5.out.kept D7);have n7:=uN M7.out.n;obtain ⟨p0,p1,p2,p3,p4,p5,p6,p7,p8,p9,p10⟩:=aP NA7;obtain ⟨z0,z1,z2,z3,z4,z5,z6,z7,z8,z9,z10,z11⟩:=lK M7.out.x.o;obtain ⟨b0,b1,b2,b3,b4,b5,b6,b7,b8,b9,b10,b11⟩:=mO M7.out.x.o;clear hb D7 NA7)
              | fail)
             all_goals go_wp2_with fail
             all_goals
              obtain ⟨y0,y1,y2,y3,y4,y5,y6,y7,y8,y9,y10,y11,PP⟩:=Nq (r:=r) (nm:=nm) M7.out.x.o M7.out.x.b RR.out hw5 R7.out;dsimp only [cV] at y0 y1 y2 y3 y4 y5 y6 y7 y8 y9 y10 y11 PP;exact bodyPost_ret (v:=.tuple #[lnV ⟨nm,x⟩ p,.int .i64 0]) (by simp [results,Tryz.results28,go_sem,y0,y1,y2,y3,y4,y5,y6,y7,y8,y9,y10,y11]) rfl PP
theorem Gp:∃ i z,Tryz.prog.info? 72=some i/\i.zero=some z/\i.size=12/\i.bytes=192/\z.cells.size=12:=by
 have h:(Tryz.prog.info? 72).map (fun i=>(i.zero.map (fun z=>z.cells.size),i.size,i.bytes))=some (some 12,12,192):=by kernel_rfl
 cases hx:Tryz.prog.info? 72 with
 | none=>rw [hx] at h;cases h
 | some i =>
   rw [hx] at h;simp only [Option.map_some,Option.some.injEq,Prod.mk.injEq] at h;obtain ⟨h1,h2,h3⟩:=h;cases hz:i.zero with
   | none=>rw [hz] at h1;cases h1
   | some z =>
     rw [hz] at h1;exact ⟨i,z,rfl,hz,h2,h3,by simpa using h1⟩
theorem FL (W:World) (x:LN) (p:PA):∀ j u,(lnL x p)[j]? = some u->(W.alloc (lnO x p)).cell? ((⟨W.heap.size,0,none⟩:Addr).add j)=some u:=fun j u hu=>by
 have h:=heap_alloc_new W (lnO x p);rw [Addr.add_lit,Nat.zero_add,cell_of_row _ _ _ _ _ (0,0) h];have hj:j<12:=(List.getElem?_eq_some_iff.1 hu).1;match j,hj,hu with
 | 0,_,h=>exact h
 | 1,_,h=>exact h
 | 2,_,h=>exact h
 | 3,_,h=>exact h
 | 4,_,h=>exact h
 | 5,_,h=>exact h
 | 6,_,h=>exact h
 | 7,_,h=>exact h
 | 8,_,h=>exact h
 | 9,_,h=>exact h
 | 10,_,h=>exact h
 | 11,_,h=>exact h
theorem Ix {acc:List LN} {s:List UInt8} {q:List (List UInt8)} {er:Int} (h:sV acc s=.bad er):gR (s::q) acc=.bad acc.length er/\¬ er=0:=by
 unfold sV at h;by_cases h8:acc.length=8
 · rw [if_pos h8] at h
   cases h;exact ⟨Fn h8,by decide⟩
 · rw [if_neg h8] at h
   exact ⟨Bk h8 h,Bz (fun l p e he=>by obtain ⟨h1, -⟩:=wJ he;simpa using h1) h⟩
theorem KR {acc:List LN} {s:List UInt8} {q:List (List UInt8)} {x:LN} (h:sV acc s=.ok x):gR (s::q) acc=gR q (acc++[x])/\¬ acc.length=8:=by
 unfold sV at h;by_cases h8:acc.length=8
 · rw [if_pos h8] at h;cases h
 · rw [if_neg h8] at h
   exact ⟨qJ h8 h,h8⟩
def szV:Value->Nat
 | .string s=>s.size
 | _=>0
theorem jJ (s:ByteArray) (hm:s.size<=5000) (w:World) (hw:gO w):Calls Tryz.prog 9 #[.string s] w (DS (mE s.data.toList) w):=by
 obtain ⟨r,hr⟩:∃ r,mE s.data.toList=r:=⟨_,rfl⟩;have HR:=aA (show gR (dV s.data.toList) []=r from hr);rw [hr];have K0:=aA (Le (E:=72) (Below.refl w.heap.size w));have HL:=aA hw;have und:=Tryz.underlying23;obtain ⟨i,zv,hi,hz0,hz1,hz2,hz3⟩:=Gp;obtain ⟨B,hB⟩:∃ B,w.heap.size=B:=⟨_,rfl⟩;rw [hB] at K0;clear hr hw hB;go_enter Tryz.func9,Tryz.ntmps9
 go_wp2_with fail
 go_loopw [5,6] (fun v i wr=>∃ (acc:List LN) (oa:Option Addr) (oc:Nat) (ps:List PA) (R:ByteArray),v=.slice oa acc.length oc/\i=.string R/\R.size<=5000/\acc.length<=8/\Hid (gR (dV R.data.toList) acc=r)/\Hid (LBK w B 72 acc oa oc ps wr)) (fun _ i _=>szV i)
 case atStart=>exact ⟨[],none,0,[],s,rfl,rfl,hm,by decide,HR,K0⟩
 case round =>
  obtain ⟨acc,oa,oc,ps,R,rfl,rfl,hRz,hk8,HP,HK⟩:=hrel;clear K0 HR hm;obtain ⟨k,hkk⟩:∃ k,acc.length=k:=⟨_,rfl⟩;have HKK:=aA hkk;rw [hkk] at hk8;by_cases hR:R.data.toList=[]
  · have q0:R.toList.isEmpty=true:=by rw [Lib.toList_data,hR];rfl
    have RR:=aA (show r=.ok acc by rw [<- HP.out,hR];rfl);rw [hkk];clear hkk hR;go_wp2_with fail
    exact bodyPost_ret (v:=.tuple #[.slice oa k oc,.int .i64 0,.int .i64 0]) (by simp [results,Tryz.results9,go_sem]) rfl (by rw [RR.out];exact ⟨HK.out.b,oa,oc,by rw [HKK.out],HK.out.reads⟩)
  · have q0:R.toList.isEmpty=false:=by
     rw [Lib.toList_data];cases hR2:R.data.toList with
     | nil=>exact absurd hR2 hR
     | cons _ _=>rfl
    have CL:=GQ hR;have CZ:=LJ R.data.toList hR;have SC:=aA (Kt R hRz);obtain ⟨X,hX⟩:∃ X:ByteArray,(⟨(Lib.cut R.data.toList [10]).1.toArray⟩:ByteArray)=X:=⟨_,rfl⟩;obtain ⟨Y,hY⟩:∃ Y:ByteArray,(⟨(Lib.cut R.data.toList [10]).2.1.toArray⟩:ByteArray)=Y:=⟨_,rfl⟩;obtain ⟨tb,htb⟩:∃ t,(Lib.cut R.data.toList [10]).2.2=t:=⟨_,rfl⟩;rw [hX,hY,htb] at SC;have hXl:(Lib.cut R.data.toList [10]).1=X.data.toList:=by rw [<- hX]
    have hYl:(Lib.cut R.data.toList [10]).2.1=Y.data.toList:=by rw [<- hY]
    rw [hXl,hYl] at CL CZ
    have hXz:X.size<=5000:=by
     have h1:X.data.toList.length=X.size:=by simp
     have h2:R.data.toList.length=R.size:=by simp
     omega
    have hYz:Y.size<R.size:=by
     have h1:Y.data.toList.length=Y.size:=by simp
     have h2:R.data.toList.length=R.size:=by simp
     omega
    have HQ:=aA HP.out;rw [CL] at HQ;rw [hkk];clear hX hY htb hXl hYl CL CZ HP hkk hR;go_wp2_with fail
    refine (SC.out _).mono ?_;rintro e w2 ⟨rfl,hb⟩;have K2:=aA (HK.out.step hb);have NX:=aA (Fu acc oa oc X hXz w2 (HL.out.step K2.out.b) (by rw [HKK.out];exact hk8) K2.out.reads);rw [HKK.out] at NX;clear hb SC HK;cases hn:sV acc X.data.toList with
    | bad er =>
      rw [hn] at NX;obtain ⟨h1,h2⟩:=Ix (q:=dV Y.data.toList) hn;have RR:=aA (show r=.bad k er by rw [<- HQ.out,h1,HKK.out]);have qn:((er:Int) != 0)=true:=by rw [bne_iff_ne];exact h2
      clear hn h1 h2;go_wp2_with fail
      refine NX.out.mono ?_;rintro e w3 ⟨hb,rfl⟩;have K3:=K2.out.step hb;have K4:=aA (K3.step (bA0 w3 (lnO eJ aR)));clear hb K3 K2 NX;go_upto_region 6 with fail
      generalize World.alloc w3 _=W3 at K4;go_wp2_with fail
      exact bodyPost_ret (v:=.tuple #[.slice none 0 0,.int .i64 (k:Nat),.int .i64 er]) (by simp [results,Tryz.results9,go_sem]) rfl (by rw [RR.out];exact ⟨K4.out.b,rfl⟩)
    | ok x =>
      rw [hn] at NX;obtain ⟨h1,h2⟩:=KR (q:=dV Y.data.toList) hn;have HP3:=aA (show gR (dV Y.data.toList) (acc++[x])=r by rw [<- HQ.out,h1]);have hk7:k<8:=by rw [HKK.out] at h2;omega
      clear hn h1 h2;go_wp2_with fail
      refine NX.out.mono ?_;rintro e w5 ⟨hb,p,rfl,hr⟩;have hz5:=hb.size;have BA:=bA0 w5 (lnO x p);have NB:=heap_alloc_new w5 (lnO x p);have HB6:=aA (hb.trans (BA.mono hz5));have HR6:=aA (hr.kept BA);clear hb BA NX hr hz5;go_upto_region 6 with fail
      generalize World.alloc w5 _=W at NB HB6 HR6;generalize w5.heap.size=D at NB;have HNB:=aA NB;obtain ⟨m0,m1,m2,m3,m4,m5,m6,m7,m8,m9,m10,m11⟩:=Hj HNB.out;have K5:=aA (K2.out.step HB6.out);have BU:=aA (bA0 W (lnO x p));have OWN:=aA (show (W.alloc (lnO x p)).ownsRow B 72 12 (.slice oa acc.length oc) acc.length (kY acc ps) from K5.out.own.alloc _);have NEW:=aA (FL W x p);have ONE:=aA (fun u (hu:u∈lnL x p)=>Bv [x] [p] u (by simpa [kY] using hu));have HBS:=aA (show B<=(W.alloc (lnO x p)).heap.size by have h1:=K5.out.hz;have h2:=BU.out.size;omega);rw [HKK.out] at OWN;clear NB
      go_upto_region 9 with (first
       | (at_builtin
          refine bB rfl _ _ 23 rfl (base:=B) und hi hz0 hz1 hz2 hz3 (by decide) (.slice oa k oc) k 1 1 ⟨W.heap.size,0,none⟩ (kY acc ps) (lnL x p) rfl rfl OWN.out rfl NEW.out ONE.out (by unfold maxLen;omega) (by omega) HBS.out ?_;intro v4 w6 ho hg hn;obtain ⟨a',c',hv⟩:=eD ho;subst hv;have KA:=(aC.refl (fun b=>(Value.slice oa k oc).ownBlock=some b) _).grown hg (fun k hk=>.inl hk);have K6:=aA (IQ (x:=x) (p:=p) K2.out (V2:=W.alloc (lnO x p)) (HB6.out.trans (BU.out.mono HB6.out.size)) (fun w7 k7=>((HR6.out.kept BU.out).keptS k7 (fun b hb hg=>by have:=hb.2;omega)).imp (fun b _ hb=>by have:=K2.out.hz;omega)) (by rw [HKK.out];exact KA) (by rw [HKK.out];exact ho) (by rw [HKK.out];exact hn));clear ho hg hn KA OWN NEW ONE HBS BU)
       | fail)
      clear m0 m1 m2 m3 m4 m5 m6 m7 m8 m9 m10 m11;go_wp2_with fail
      go_roundw
      case rel=>exact ⟨acc++[x],a',c',ps++[p],Y,by rw [List.length_append,HKK.out];rfl,rfl,by omega,by rw [List.length_append,HKK.out];simp;omega,HP3,K6⟩
      case measure=>exact hYz
def Oth (b:Nat) (w w':World):Prop:=∀ (k:Nat) (cs:Array Value) (t:TypeId),k ≠ b->t ≠ 5->w.heap[k]? = some (.cells cs t (0,0))->w'.heap[k]? = some (.cells cs t (0,0))
theorem LV:(Tryz.prog.info? 92).map (·.size)=some 2:=by kernel_rfl
theorem LY:liesAt Tryz.prog Tryz.prog.depth 92 (2 / Tryz.prog.cellsOf 92) 0 92 1=true:=by kernel_rfl
theorem LZ:(Tryz.prog.info? 5).map (fun i=>(i.zero,i.size,i.bytes))=some (some (.int .u8 0),1,1):=by kernel_rfl
theorem DQ (B b:Nat) (bs:List Value) (w:World) (h:Bd B b bs w):Calls Tryz.prog 71 #[.pointer (some ⟨b,0,none⟩)] w fun e w' =>
 e=.returned (.tuple #[])/\Lib.BuilderAt 92 5 B b (.pointer (some ⟨b,0,none⟩)) bs w'/\Below B w w'/\Oth b w w':=by
 obtain ⟨j,hj,hjs⟩:=Option.map_eq_some_iff.1 LV;rcases h with h | h
 · have h0:=h.cell0
   have hf:=h.frozen0;have hsh:=h.shape;have H:=aA h;clear h;go_enter Tryz.func71,Tryz.ntmps71
   go_wp2
   rw [Lib.run_to_unsafe w ⟨b,0,none⟩ Tryz.underlying90 Tryz.underlying209 hj (by rw [hjs];decide) hsh (Nat.zero_lt_succ 1)];simp only [Result.andThen];rw [Oper.upon_value];go_wp2
   rw [run_callFunc_extern Tryz.func128 (by kernel_rfl) (by kernel_rfl) (by kernel_rfl) (e:=Extern.AbiNoEscape.same) (by kernel_rfl)];rw [Lib.run_noEscape];simp only [Result.andThen];rw [Oper.upon_value];go_wp2
   rw [Lib.run_from_unsafe w ⟨b,0,none⟩ Tryz.underlying209 Tryz.underlying90 hj hsh LY];simp only [Result.andThen];rw [Oper.upon_value];go_wp2
   go_end0
   exact ⟨rfl,H.out.used _,(Below.refl B w).setCell (p:=⟨b,0,none⟩) H.out.1 _,fun k cs t hk _ h=>(Below.heap_setCell _ ⟨b,0,none⟩ _ k hk).trans h⟩
 · have h0:=h.cell0
   have H:=aA h;clear h;go_enter Tryz.func71,Tryz.ntmps71
   go_wp2
   rw [Lib.run_neq_ptr_same w _ Tryz.underlying90 hj];go_wp2
   go_end0
   exact ⟨rfl,H.out,Below.refl B _,fun _ _ _ _ _ h=>h⟩
theorem JE {w:World} {B:Nat} {e:TypeId} {v:Value} {n:Nat} {xs:List Value} (h:w.ownsRow B e 1 v n xs):∃ a l c,v=.slice a l c:=by
 rcases h.2 with ⟨h,_⟩ | ⟨g,cap,_,h,_⟩
 · exact ⟨_,_,_,h⟩
 · exact ⟨_,_,_,h⟩
theorem zC (s:ByteArray):(Lib.strCells s).length=s.size:=by simp [Lib.strCells]
theorem MZ {B b n:Nat} {bs bs':List Value} {v v':Value} {w w1 w2 w3:World} (hB:B<=b) (hown:w1.ownsRow B 5 1 v n bs) (hoth:Oth b w w1) (hk2:∀ k,k<w1.heap.size->w2.heap[k]? = w1.heap[k]?) (hs2:w1.heap.size<=w2.heap.size) (hb:w1.heap[b]? = some (.cells #[.pointer (some ⟨b,0,none⟩),v] 92 (0,0))) (hne:v.ownBlock ≠ some b)
 (b1:Below B w w1) (b2:Below B w1 w2) (hk:w2.heap[b]? = w1.heap[b]?) (hv:∀ k,v.ownBlock=some k->B<=k) (hBw:B<=w2.heap.size) (ho:w3.ownsRow B 5 1 v' bs'.length bs') (hg:w2.grownBy w3 v.ownBlock) :
 (w3.cell? ⟨b,0,none⟩=some (.pointer (some ⟨b,0,none⟩))/\w3.cell? ⟨b,1,none⟩=some v/\w3.frozen? ⟨b,1,none⟩=false)/\Bd B b bs' (w3.setCell ⟨b,1,none⟩ v')/\Below B w (w3.setCell ⟨b,1,none⟩ v')/\Oth b w (w3.setCell ⟨b,1,none⟩ v'):=by
 have hlt:b<w2.heap.size:=by
  rcases Nat.lt_or_ge b w2.heap.size with h' | h'
  · exact h'
  · rw [<- hk] at hb;simp [Array.getElem?_eq_none h'] at hb
 have hb3:w3.heap[b]? = some (.cells #[.pointer (some ⟨b,0,none⟩),v] 92 (0,0)):=by rw [hg.block b hlt (fun e=>hne e.symm),hk];exact hb
 refine ⟨⟨by rw [Lib.cell_of_heap hb3];rfl,by rw [Lib.cell_of_heap hb3];rfl,Lib.frozen_of_heap hb3 1⟩,.inr (Lib.BuilderAt.put hB hb3 ho (by decide)),?_⟩;refine ⟨((b1.trans b2).grown hg hBw hv).setCell (p:=⟨b,1,none⟩) hB _,fun k cs t hkb ht h=>?_⟩;have h1:=hoth k cs t hkb ht h;have hl1:=lt_of_block h1;rw [Below.heap_setCell _ ⟨b,1,none⟩ _ k hkb,hg.block k (by omega) (fun e=>?_),hk2 k hl1]
 · exact h1
 · rcases hown.2 with ⟨hv0,_⟩ | ⟨g,cap,cur,hv0,_,hgg,_⟩
   · rw [hv0] at e;cases e
   · rw [hv0] at e
     obtain rfl:k=g:=by simpa [Value.ownBlock] using e
     rw [h1] at hgg;simp only [Option.some.injEq,Obj.cells.injEq] at hgg;exact ht hgg.2.1
theorem rB (B b:Nat) (bs:List Value) (s:ByteArray) (w:World) (h:Bd B b bs w) (hl:bs.length+s.size<=1000000000) (hBw:B<=w.heap.size) :
 Calls Tryz.prog 36 #[.pointer (some ⟨b,0,none⟩),.string s] w fun e w'=>e=.returned (.tuple #[.int .i64 s.size,.nilIface])/\Bd B b (bs++Lib.strCells s) w'/\Below B w w'/\Oth b w w':=by
 obtain ⟨i0,hi,hz0,hz1,hz2⟩:=info_parts LZ;have C:=aA (DQ B b bs w h);clear h;go_enter Tryz.func36,Tryz.ntmps36
 go_wp2_with fail
 refine C.out.mono ?_;rintro e w1 ⟨rfl,⟨hB,v,hbk,hown,hne⟩,hb1,ho1⟩;have c0:w1.cell? ⟨b,0,none⟩=some (.pointer (some ⟨b,0,none⟩)):=by rw [Lib.cell_of_heap hbk];rfl
 have c1:w1.cell? ⟨b,1,none⟩=some v:=by rw [Lib.cell_of_heap hbk];rfl
 have H1:=aA (And.intro hbk (And.intro hown (And.intro hne (And.intro hb1 ho1))));have hz:=hb1.size;clear hbk hown hne hb1 ho1 C;go_wp2_with (at_builtin;refine Lib.wpList_append_own_string _ rfl _ _ 54 9 rfl B 5 i0 Tryz.underlying54 Tryz.underlying9 hi hz0 hz1 hz2 v bs.length bs rfl H1.out.2.1 s rfl (by unfold maxLen;omega) (by omega) (by omega) ?_)
 intro v' w2 ho hg _;obtain ⟨ao,no,co,rfl⟩:=JE ho;obtain ⟨⟨d0,d1,f1⟩,hbd,hbel,hoth⟩:=MZ (bs':=bs++Lib.strCells s) hB H1.out.2.1 H1.out.2.2.2.2 (fun _ _=>rfl) (Nat.le_refl _) H1.out.1 H1.out.2.2.1 H1.out.2.2.2.1 (Below.refl B w1) rfl (fun k hk=>(H1.out.2.1.lt k hk).1) (by omega) (by rw [List.length_append,zC];exact ho) hg;have R:=aA (And.intro hbd (And.intro hbel hoth));clear ho hg hbd hbel hoth c0 c1;go_wp2
 go_ret2;exact ⟨rfl,R.out.1,R.out.2⟩
theorem JG {B b:Nat} {bs:List Value} {w w':World} (h:Bd B b bs w) (hb:Below w.heap.size w w'):Bd B b bs w':=by
 have one:∀ p,Lib.BuilderAt 92 5 B b p bs w->Lib.BuilderAt 92 5 B b p bs w':=fun p ⟨hB,v,hk,ho,hne⟩ =>
  ⟨hB,v,(hb.block b (lt_of_block hk)).trans hk,ho.kept (row:=none) ⟨hb.os,hb.tape,hb.output,hb.size,fun k hk _=>hb.block k hk⟩ (by cases v.ownBlock <;> simp),hne⟩
 rcases h with h | h
 · exact .inl (one _ h)
 · exact .inr (one _ h)
theorem JF {B b:Nat} {bs:List Value} {w:World} (h:Bd B b bs w):b<w.heap.size:=by
 rcases h with h | h
 · exact h.lt
 · exact h.lt
theorem o9 (l:List UInt8) (s:ByteArray):Lib.byteCells l++Lib.strCells s=Lib.byteCells (l++s.data.toList):=by simp [Lib.byteCells,Lib.strCells]
abbrev txB (l:List UInt8):ByteArray:=⟨l.toArray⟩
def gS (x:AG):List ByteArray:=if kP x.fn.data.toList=true then [txB (Lib.itoa x.k)] else []
def iY (x:AG):List ByteArray:=if eP x.fn.data.toList=true then gS x++[txB (aO x.e)] else gS x
def kA (x:AG):List ByteArray:=if bP x.fn.data.toList=true then iY x++[txB (aO x.g)] else iY x
theorem G9 (x:AG) (hf:fC x.fn.data.toList=true):Lib.join ((kA x).map (·.data.toList)) [44,32]=mC x:=by
 unfold kA iY gS mC;obtain ⟨F,hF⟩:∃ F,x.fn.data.toList=F:=⟨_,rfl⟩;rw [hF] at hf |-
 have eE:eP F= !(F == aT):=by unfold eP;rw [hf,Bool.true_and]
 by_cases hc:F=aT
 · subst hc
   rfl
 · have h1:eP F=true:=by rw [eE,beq_eq_false_iff_ne.2 hc];rfl
   rw [if_neg hc,if_pos h1];by_cases ht:F=eO
   · subst ht
     rw [if_pos rfl,if_neg (show ¬ bP eO=true by decide),if_pos (show kP eO=true by decide)];simp [Lib.join,txB]
   · rw [if_neg ht,if_neg (show ¬ kP F=true by unfold kP;rw [beq_eq_false_iff_ne.2 ht];decide)]
     by_cases hb:F=bE
     · subst hb
       rw [if_pos rfl,if_pos (show bP bE=true by decide)];simp [Lib.join,txB]
     · rw [if_neg hb,if_neg (show ¬ bP F=true by unfold bP;rw [beq_eq_false_iff_ne.2 hb];decide)]
       simp [Lib.join,txB]
theorem Ck (x:AG):(gS x).length<=1/\(iY x).length<=2/\(kA x).length<=3:=by
 have h1:(gS x).length<=1:=by unfold gS;split <;> simp
 have h2:(iY x).length<=2:=by
  unfold iY;split
  · rw [List.length_append,List.length_singleton];omega
  · omega
 have h3:(kA x).length<=3:=by
  unfold kA;split
  · rw [List.length_append,List.length_singleton];omega
  · omega
 exact ⟨h1,h2,h3⟩
structure TA (G:Nat->Prop) (w:World) (x:AG) (p:PA) (B:Nat) (v:Value) (L:List ByteArray) (V:World):Prop where
 k:KP9 G w x p V
 t:V.heap[B]? = some (ptO (kP x.fn.data.toList) (eP x.fn.data.toList) (bP x.fn.data.toList))
 own:V.ownsRow (B+1) 9 1 v L.length (L.map Value.string)
 lo:w.heap.size<B
theorem TA.step {G:Nat->Prop} {w:World} {x:AG} {p:PA} {B:Nat} {v:Value} {L:List ByteArray} {V V':World} (h:TA G w x p B v L V) (hb:Below V.heap.size V V'):TA G w x p B v L V' :=
 ⟨h.k.step hb,(hb.block _ (aB h.t)).trans h.t,cI h.own hb,h.lo⟩
theorem TA.push {G:Nat->Prop} {w:World} {x:AG} {p:PA} {B:Nat} {v v':Value} {L:List ByteArray} {s:ByteArray} {V V':World} (h:TA G w x p B v L V) (hG:∀ b,G b->b<w.heap.size) (ho:V'.ownsRow (B+1) 9 1 v' (L.length+1) (L.map Value.string++[.string s])) (hg:V.grownBy V' v.ownBlock):TA G w x p B v' (L++[s]) V':=by
 have hk:=(aC.refl (fun b=>v.ownBlock=some b) V).grown hg (fun k hk=>.inl hk);have hlo:=h.lo;have hB:=aB h.t;have lo:∀ b,v.ownBlock=some b->B+1<=b:=fun b hb=>(h.own.lt b hb).1
 refine ⟨⟨h.k.b.trans (hk.below (B:=w.heap.size) (fun b hb=>by have:=lo b hb;omega) h.k.z),Nat.le_trans h.k.z hk.size,hk.heap h.k.n (fun e=>by have:=lo _ e;omega),h.k.r.keptS hk (fun b hb hg=>by have:=lo b hb;have:=hG b hg;omega)⟩,hk.heap h.t (fun e=>by have:=lo _ e;omega),?_,hlo⟩;have e1:(L++[s]).length=L.length+1:=by simp
 have e2:(L++[s]).map Value.string=L.map Value.string++[.string s]:=by simp
 rw [e1,e2];exact ho
theorem I9:(Tryz.prog.info? 9).map (fun i=>(i.zero,i.size,i.bytes))=some (some (.string ⟨#[]⟩),1,16):=by kernel_rfl
theorem zU (W:World) (v:Value) (t:TypeId):∀ j u,([v]:List Value)[j]? = some u->(W.alloc (.cells #[v] t)).cell? ((⟨W.heap.size,0,none⟩:Addr).add j)=some u:=fun j u hu=>by
 match j,hu with
 | 0, h =>
   cases h;rw [Addr.add_lit];unfold World.cell?;rw [heap_alloc_new];rfl
 | n+1,h=>simp at h
theorem G7 {G:Nat->Prop} (x:AG) (p:PA) (w:World) (he:fK x=0) (hn:fL x) (hl:kB w) (hr:aJ G w x p) :
 Calls Tryz.prog 73 #[agV x p] w fun e w'=>Below w.heap.size w w'/\∃ v,e=.returned v/\w'.ownsRow w.heap.size 9 1 v (kA x).length ((kA x).map Value.string):=by
 obtain ⟨h1,h2,h3,h4,h5,h6⟩:=cQ he;have hr':aJ (fun b=>b<w.heap.size) w x p:=hr.imp (fun b hb _=>hb);have K0:=qP hr';have HL:=aA (fun V (hV:Below w.heap.size w V)=>hl.step hV);have AL:=aA (Ck x);have HN:=aA hn;generalize hW:w.alloc (agP x p)=W at K0;have HW:=aA hW;have HK:=aA K0;have CP:=aA (kQ x.fn W);have EK1:=aA (show (kP x.fn.data.toList=true->1<=x.k/\x.k<=16) from fun h=>h2 (by unfold kP at h;simpa using h));have EK2:=aA (show (eP x.fn.data.toList=true->aK x.e=0) from fun h=>h3 (by unfold eP at h;intro hc;rw [hc] at h;simp at h));have EK3:=aA (show (bP x.fn.data.toList=true->aK x.g=0) from fun h=>h4 (by unfold bP at h;simpa using h));unfold ptV at CP;have F1:∀ L,gS x=L->gS x=L:=fun _ h=>h
 have D1:=aA (show gS x=if kP x.fn.data.toList=true then [txB (Lib.itoa x.k)] else [] from rfl);have D2:=aA (show iY x=if eP x.fn.data.toList=true then gS x++[txB (aO x.e)] else gS x from rfl);have D3:=aA (show kA x=if bP x.fn.data.toList=true then iY x++[txB (aO x.g)] else iY x from rfl);have DT:=aA (fun B v L V=>@TA.mk (fun b=>b<w.heap.size) w x p B v L V);have TQ:=aA (fun B v L V (h:TA (fun b=>b<w.heap.size) w x p B v L V)=>h.t);obtain ⟨kk,hkk⟩:∃ b,kP x.fn.data.toList=b:=⟨_,rfl⟩;obtain ⟨ee,hee⟩:∃ b,eP x.fn.data.toList=b:=⟨_,rfl⟩;obtain ⟨bb,hbb⟩:∃ b,bP x.fn.data.toList=b:=⟨_,rfl⟩;rw [hkk,hee,hbb] at CP TQ DT;rw [hkk] at D1 EK1;rw [hee] at D2 EK2;rw [hbb] at D3 EK3;clear hW K0 hr hr' hn hl he h1 h2 h3 h4 h5 h6 F1 hkk hee hbb;obtain ⟨m0,m1,m2,m3,m4,m5,m6,m7,m8,m9,m10⟩:=aP HK.out.n;have und:=Tryz.underlying55;obtain ⟨i,hi,hz0,hz1,hz2⟩:=info_parts I9;go_enter Tryz.func73,Tryz.ntmps73
 go_upto_region 1 with fail
 rw [show w.alloc (.cells #[.string x.fn,.int .i64 x.k,.string x.e.op,.string x.e.nm,.int .i64 x.e.n,.slice p.ea x.e.ks.len p.ec,.string x.g.op,.string x.g.nm,.int .i64 x.g.n,.slice p.ga x.g.ks.len p.gc,.slice p.wa x.wh.length p.wc] 70)=W from HW.out];go_wp2_with fail
 refine CP.out.mono ?_;rintro e w1 ⟨rfl,hb1⟩;have K1:=HK.out.step hb1;have BA:=bA0 w1 (ptO kk ee bb);have NA:=heap_alloc_new w1 (ptO kk ee bb);have K2:=aA (K1.step BA);have hlo:w.heap.size<w1.heap.size:=aB K1.n;clear hb1 K1 BA CP HK m0 m1 m2 m3 m4 m5 m6 m7 m8 m9 m10;go_upto_region 2 with fail
 generalize w1.alloc (ptO kk ee bb)=V at *;generalize w1.heap.size=B at *;go_cut [5] (fun v5 wc=>Hid (TA (fun b=>b<w.heap.size) w x p B v5 [] wc))
 case first =>
  have T0:=aA (DT.out B (.slice none 0 0) [] V K2.out NA ⟨rfl,.inl ⟨rfl,rfl⟩⟩ hlo);go_wp2_with fail
  go_meet;case rel=>exact T0
 case rest =>
 have T0:=hcut;clear K2 NA hcut;have K2:=aA T0.out.k;have NA:=TQ.out _ _ _ _ T0.out;obtain ⟨m0,m1,m2,m3,m4,m5,m6,m7,m8,m9,m10⟩:=aP K2.out.n;obtain ⟨⟨y0,y1,y2⟩, -⟩:=dC NA;clear NA K2;go_upto_if 13 with fail
 go_cut [5] (fun v5 wc=>Hid (TA (fun b=>b<w.heap.size) w x p B v5 (gS x) wc))
 case first =>
  cases kk with
  | true =>
    have hk:=EK1.out rfl;have CF:=aA (vJ x.k (by omega) (by omega) _ (HL.out _ T0.out.k.b));go_wp2_with fail
    refine CF.out.mono ?_;rintro e w7 ⟨rfl,hb7⟩;have BU:=bA0 w7 (.cells #[.string (txB (Lib.itoa x.k))] 9);have T7:=aA ((T0.out.step hb7).step BU);have NU:=aA (zU w7 (.string (txB (Lib.itoa x.k))) 9);have HBS:=aA (show B+1<=(w7.alloc (.cells #[.string (txB (Lib.itoa x.k))] 9)).heap.size from aB T7.out.t);clear hb7 BU CF T0 m0 m1 m2 m3 m4 m5 m6 m7 m8 m9 m10 y0 y1 y2
    go_wp2_with (first
     | (at_builtin
        refine bB rfl _ _ 55 rfl (base:=B+1) und hi hz0 hz1 hz2 rfl (by decide) u5 ([]:List ByteArray).length 1 1 ⟨w7.heap.size,0,none⟩ (([]:List ByteArray).map Value.string) [.string (txB (Lib.itoa x.k))] rfl rfl T7.out.own rfl NU.out (fun u hu=>by simp only [List.mem_singleton] at hu;subst hu;rfl) (by have:=AL.out;have l0:([]:List ByteArray).length=0:=rfl;unfold maxLen;omega) (by have:=AL.out;have l0:([]:List ByteArray).length=0:=rfl;omega) HBS.out ?_;intro v9 w9 ho hg hn;have T9:=aA (T7.out.push (fun _ h=>h) ho hg);clear ho hg hn T7 NU HBS)
     | fail)
    go_wp2_with fail
    go_meet
    case rel =>
     have:=T9;rw [show gS x=[]++[txB (Lib.itoa x.k)] from D1.out];exact this
  | false =>
    go_wp2_with fail
    go_meet
    case rel =>
     have:=T0;rw [show gS x=[] from D1.out];exact this
 case rest =>
  have T1:=hcut;clear T0 hcut m0 m1 m2 m3 m4 m5 m6 m7 m8 m9 m10 y0 y1 y2 D1;have NA:=TQ.out _ _ _ _ T1.out;obtain ⟨m0,m1,m2,m3,m4,m5,m6,m7,m8,m9,m10⟩:=aP T1.out.k.n;obtain ⟨⟨y0,y1,y2⟩, -⟩:=dC NA;go_upto_if 21 with fail
  go_cut [5] (fun v5 wc=>Hid (TA (fun b=>b<w.heap.size) w x p B v5 (iY x) wc))
  case first =>
   cases ee with
   | true =>
     have hk:=EK2.out rfl;obtain ⟨ok,sz⟩:=(cX x.e).1 hk;have CF:=aA (n6 x.e (fun b=>b<w.heap.size) _ p.ea p.ec ok HN.out.e sz (HL.out _ T1.out.k.b) T1.out.k.r.e);go_wp2_with fail
     refine CF.out.mono ?_;rintro e w7 ⟨rfl,hb7⟩;have BU:=bA0 w7 (.cells #[.string (txB (aO x.e))] 9);have T7:=aA ((T1.out.step hb7).step BU);have NU:=aA (zU w7 (.string (txB (aO x.e))) 9);have HBS:=aA (show B+1<=(w7.alloc (.cells #[.string (txB (aO x.e))] 9)).heap.size from aB T7.out.t);clear hb7 BU CF T1 m0 m1 m2 m3 m4 m5 m6 m7 m8 m9 m10 y0 y1 y2
     go_wp2_with (first
      | (at_builtin
         refine bB rfl _ _ 55 rfl (base:=B+1) und hi hz0 hz1 hz2 rfl (by decide) u5 (gS x).length 1 1 ⟨w7.heap.size,0,none⟩ ((gS x).map Value.string) [.string (txB (aO x.e))] rfl rfl T7.out.own rfl NU.out (fun u hu=>by simp only [List.mem_singleton] at hu;subst hu;rfl) (by have:=AL.out;have l0:([]:List ByteArray).length=0:=rfl;unfold maxLen;omega) (by have:=AL.out;have l0:([]:List ByteArray).length=0:=rfl;omega) HBS.out ?_;intro v9 w9 ho hg hn;have T9:=aA (T7.out.push (fun _ h=>h) ho hg);clear ho hg hn T7 NU HBS)
      | fail)
     go_wp2_with fail
     go_meet
     case rel =>
      have:=T9;rw [show iY x=gS x++[txB (aO x.e)] from D2.out];exact this
   | false =>
     go_wp2_with fail
     go_meet
     case rel =>
      have:=T1;rw [show iY x=gS x from D2.out];exact this
  case rest =>
   have T2:=hcut;clear T1 NA hcut m0 m1 m2 m3 m4 m5 m6 m7 m8 m9 m10 y0 y1 y2 D2;have NA:=TQ.out _ _ _ _ T2.out;obtain ⟨m0,m1,m2,m3,m4,m5,m6,m7,m8,m9,m10⟩:=aP T2.out.k.n;obtain ⟨⟨y0,y1,y2⟩, -⟩:=dC NA;cases bb with
   | true =>
     have hk:=EK3.out rfl;obtain ⟨ok,sz⟩:=(cX x.g).1 hk;have CF:=aA (n6 x.g (fun b=>b<w.heap.size) _ p.ga p.gc ok HN.out.g sz (HL.out _ T2.out.k.b) T2.out.k.r.g);go_wp2_with fail
     refine CF.out.mono ?_;rintro e w7 ⟨rfl,hb7⟩;have BU:=bA0 w7 (.cells #[.string (txB (aO x.g))] 9);have T7:=aA ((T2.out.step hb7).step BU);have NU:=aA (zU w7 (.string (txB (aO x.g))) 9);have HBS:=aA (show B+1<=(w7.alloc (.cells #[.string (txB (aO x.g))] 9)).heap.size from aB T7.out.t);clear hb7 BU CF T2 m0 m1 m2 m3 m4 m5 m6 m7 m8 m9 m10 y0 y1 y2
     go_wp2_with (first
      | (at_builtin
         refine bB rfl _ _ 55 rfl (base:=B+1) und hi hz0 hz1 hz2 rfl (by decide) u5 (iY x).length 1 1 ⟨w7.heap.size,0,none⟩ ((iY x).map Value.string) [.string (txB (aO x.g))] rfl rfl T7.out.own rfl NU.out (fun u hu=>by simp only [List.mem_singleton] at hu;subst hu;rfl) (by have:=AL.out;have l0:([]:List ByteArray).length=0:=rfl;unfold maxLen;omega) (by have:=AL.out;have l0:([]:List ByteArray).length=0:=rfl;omega) HBS.out ?_;intro v9 w9 ho hg hn;have T9:=aA (T7.out.push (fun _ h=>h) ho hg);clear ho hg hn T7 NU HBS)
      | fail)
     have D4:=aA (show kA x=iY x++[txB (aO x.g)] from D3.out);go_wp2_with fail
     go_ret;refine ⟨T9.out.k.b,_,rfl,?_⟩;rw [D4.out];exact fZ T9.out.own (by have:=T9.out.lo;omega)
   | false =>
     have D4:=aA (show kA x=iY x from D3.out);go_wp2_with fail
     go_ret;refine ⟨T2.out.k.b,_,rfl,?_⟩;rw [D4.out];exact fZ T2.out.own (by have:=T2.out.lo;omega)
theorem Gd (L:List ByteArray) (v:Value) (B:Nat) (sep:ByteArray) (w:World) (ho:w.ownsRow B 9 1 v L.length (L.map Value.string)) (hN:L.length<=1000) (hlen:(Lib.join (L.map (·.data.toList)) sep.data.toList).length<=100000) :
 Calls Tryz.prog 72 #[v,.string sep] w fun e w'=>e=.returned (.string (txB (Lib.join (L.map (·.data.toList)) sep.data.toList)))/\Below w.heap.size w w':=by
 obtain ⟨a,c,rfl⟩:=eD ho;have hc:=(Il ho).1;cases L with
 | nil=>exact (Tryz.strings_Join_none a c sep w).mono fun e w' ⟨he,hw⟩=>⟨he,hw ▸ Below.refl _ _⟩
 | cons s r =>
   obtain ⟨g,rfl,c0⟩:=iI (j:=0) (u:=.string s) ho rfl;have hlt:g<w.heap.size:=by have:=World.block_lt_of_cell? w _ c0;simpa using this
   exact Tryz.strings_Join g 0 c (s::r) sep w (fun j y hj=>by
    obtain ⟨g',hg',cj⟩:=iI (j:=j) (u:=.string y) ho (by rw [List.getElem?_map,hj];rfl);cases hg';rw [Nat.zero_add];exact cj) hlt (by omega) hc (by omega)
structure TX (w:World) (x:AG) (p:PA) (l:List UInt8) (V:World):Prop where
 k:KP9 (fun b=>b<w.heap.size) w x p V
 bd:Bd (w.heap.size+1) (w.heap.size+1) (Lib.byteCells l) V
theorem TX.step {w:World} {x:AG} {p:PA} {l:List UInt8} {V V':World} (h:TX w x p l V) (hb:Below V.heap.size V V'):TX w x p l V':=⟨h.k.step hb,JG h.bd hb⟩
theorem TX.str {w:World} {x:AG} {p:PA} {l:List UInt8} {V:World} (h:TX w x p l V) (s:ByteArray) (hl:l.length+s.size<=1000000) :
 Calls Tryz.prog 36 #[.pointer (some ⟨w.heap.size+1,0,none⟩),.string s] V fun e w'=>e=.returned (.tuple #[.int .i64 s.size,.nilIface])/\TX w x p (l++s.data.toList) w'/\Oth (w.heap.size+1) V w' :=
 (rB _ _ _ s V h.bd (by rw [Lib.byteCells_length];omega) (by have:=JF h.bd;omega)).mono fun e w' ⟨he,hb,hw,hoth⟩=>by
  have hz:=JF h.bd;have hk:aC (fun b=>w.heap.size+1<=b) V w':=⟨hw.os,hw.tape,hw.output,hw.size,fun b _ hn=>hw.block b (by omega)⟩;exact ⟨he,⟨⟨h.k.b.trans (hk.below (B:=w.heap.size) (fun b hb=>by omega) h.k.z),Nat.le_trans h.k.z hk.size,hk.heap h.k.n (by omega),h.k.r.keptS hk (fun b hb hg=>by omega)⟩,by rwa [o9] at hb⟩,hoth⟩
theorem TX.done {w:World} {x:AG} {p:PA} {l:List UInt8} {V:World} (h:TX w x p l V) :
 Calls Tryz.prog 38 #[.pointer (some ⟨w.heap.size+1,0,none⟩)] V fun e w'=>e=.returned (.string ⟨l.toArray⟩)/\Below w.heap.size w w' :=
 (Tryz.Builder_String_any _ _ l V h.bd (by have:=JF h.bd;omega)).mono fun e w' ⟨he,hb⟩=>⟨he,h.k.b.trans (hb.mono (by omega))⟩
theorem Mi {w:World} {x:AG} {p:PA} (hr:aJ (fun b=>b<w.heap.size) w x p):TX w x p [] ((w.alloc (agP x p)).alloc (.cells #[.pointer none,.slice none 0 0] 92)):=by
 have K:=qP hr;refine ⟨K.step (bA0 _ _),?_⟩;have:=Lib.fresh_isBuilder 92 5 (w.alloc (agP x p));rwa [World.size_alloc] at this
def sQ (k:Nat):ByteArray:=if k=0 then ⟨#[119,104,101,114,101]⟩ else ⟨#[97,110,100]⟩
theorem Ct (k:Nat):(sQ k).size<=5:=by unfold sQ;split <;> decide
theorem Hz {x:AG} {d:CD} {r:List CD} {k:Nat} (h:x.wh.drop k=d::r):oU x k=32::((sQ k).data.toList++32::(aO d.a++32::(d.op.data.toList++32::aO d.b)))++gQ r:=by
 by_cases h0:k=0
 · rw [Fi h0 h]
   unfold sQ;rw [if_pos h0];simp
 · rw [Be h0,h,gQ]
   unfold sQ;rw [if_neg h0];simp
theorem yC (s:ByteArray):s.data.toList.length=s.size:=by simp
theorem Hi (l:List UInt8):(txB l).size=l.length:=by show l.toArray.size=_;simp
theorem zP {G:Nat->Prop} (x:AG) (p:PA) (w:World) (he:fK x=0) (hn:fL x) (hl:kB w) (hr:aJ G w x p) :
 Calls Tryz.prog 37 #[agV x p] w fun e w'=>e=.returned (.string ⟨(eR x).toArray⟩)/\Below w.heap.size w w':=by
 obtain ⟨h1,h2,h3,h4,h5,h6⟩:=cQ he;have hr':aJ (fun b=>b<w.heap.size) w x p:=hr.imp (fun b hb _=>hb);have K0:=Mi hr';have HL:=aA (fun V (hV:Below w.heap.size w V)=>hl.step hV);have HJ:=aA (G9 x h1);have AL:=aA (Ck x);have HC:=aA (vQ x.wh h6);have HNC:=aA hn.c;have hfz:=Ez h1;have CA:=aA (fun V (hV:TX w x p [] V)=>G7 x p V he hn (HL.out V hV.k.b) hV.k.r)
 have hiz:(mC x).length<=1500:=by
  unfold mC;have eS:∀ t:TN,aK t=0->cZ t.f->(aO t).length<=700:=fun t a b=>fR a b
  split
  · simp
  · rename_i hc
    have l1:=eS x.e (h3 hc) hn.e;split
    · rename_i ht
      have:=h2 ht;have l2:=Lib.itoa_length_le x.k (by omega) (by omega);simp only [List.length_append,List.length_cons];omega
    · split
      · rename_i hb
        have l2:=eS x.g (h4 hb) hn.g;simp only [List.length_append,List.length_cons];omega
      · omega
 have h5':=h5;have hwl:x.wh.length<=4:=h5;generalize hW:(w.alloc (agP x p)).alloc (.cells #[.pointer none,.slice none 0 0] 92)=W at K0;have HW:=aA hW;have K1:=aA K0;have CELLS:=aA (p:=∀ V,KP9 (fun b=>b<w.heap.size) w x p V->(V.cell? ⟨w.heap.size,0,none⟩=some (.string x.fn)/\V.cell? ⟨w.heap.size,1,none⟩=some (.int .i64 x.k)/\V.cell? ⟨w.heap.size,2,none⟩=some (.string x.e.op)/\V.cell? ⟨w.heap.size,3,none⟩=some (.string x.e.nm)/\V.cell? ⟨w.heap.size,4,none⟩=some (.int .i64 x.e.n)/\V.cell? ⟨w.heap.size,5,none⟩=some (.slice p.ea x.e.ks.len p.ec)/\V.cell? ⟨w.heap.size,6,none⟩=some (.string x.g.op)/\V.cell? ⟨w.heap.size,7,none⟩=some (.string x.g.nm)/\V.cell? ⟨w.heap.size,8,none⟩=some (.int .i64 x.g.n)/\V.cell? ⟨w.heap.size,9,none⟩=some (.slice p.ga x.g.ks.len p.gc)/\V.cell? ⟨w.heap.size,10,none⟩=some (.slice p.wa x.wh.length p.wc))) (fun V hV=>aP hV.n);obtain ⟨J,hJ⟩:∃ J:ByteArray,txB (mC x)=J:=⟨_,rfl⟩;have hJz:J.size<=1500:=by rw [<- hJ,Hi];exact hiz
 have HJJ:=aA (show ∀ V v,V.ownsRow 0 9 1 v (kA x).length ((kA x).map Value.string)->Calls Tryz.prog 72 #[v,.string ⟨#[44,32]⟩] V fun e w'=>e=.returned (.string J)/\Below V.heap.size V w' from fun V v ho=>by
  have:=Gd (kA x) v 0 ⟨#[44,32]⟩ V ho (by have:=AL.out;omega) (by
   show (Lib.join ((kA x).map (·.data.toList)) [44,32]).length<=100000;rw [HJ.out];omega)
  rw [show (⟨#[44,32]⟩:ByteArray).data.toList=[44,32] from rfl,HJ.out,hJ] at this;exact this)
 have x1:(9223372036854775807<x.fn.size+1)=False:=by rw [eq_iff_iff,iff_false];omega
 have x2:(9223372036854775807<x.fn.size+1+J.size)=False:=by rw [eq_iff_iff,iff_false];omega
 have x3:(9223372036854775807<x.fn.size+1+J.size+1)=False:=by rw [eq_iff_iff,iff_false];omega
 have HJL:=aA (show J.data.toList=mC x by rw [<- hJ]);have HFZ:=aA hfz;have HJZ:=aA hJz;obtain ⟨full,hfull⟩:∃ l,eR x=l:=⟨_,rfl⟩;rw [hfull];have HFU:=aA hfull;clear hW K0 hr hr' hn hl he h1 h2 h3 h4 h5 h5' h6 hiz hJ hfz hJz hfull;obtain ⟨m0,m1,m2,m3,m4,m5,m6,m7,m8,m9,m10⟩:=CELLS.out _ K1.out.k;go_enter Tryz.func37,Tryz.ntmps37
 go_upto_region 2 with fail
 rw [show (w.alloc (.cells #[.string x.fn,.int .i64 x.k,.string x.e.op,.string x.e.nm,.int .i64 x.e.n,.slice p.ea x.e.ks.len p.ec,.string x.g.op,.string x.g.nm,.int .i64 x.g.n,.slice p.ga x.g.ks.len p.gc,.slice p.wa x.wh.length p.wc] 70)).alloc (.cells #[.pointer none,.slice none 0 0] 92)=W from HW.out]
 go_region_held3 (fun V=>V.cell? ⟨w.heap.size,0,none⟩=some (.string x.fn)/\V.cell? ⟨w.heap.size,1,none⟩=some (.int .i64 x.k)/\V.cell? ⟨w.heap.size,2,none⟩=some (.string x.e.op)/\V.cell? ⟨w.heap.size,3,none⟩=some (.string x.e.nm)/\V.cell? ⟨w.heap.size,4,none⟩=some (.int .i64 x.e.n)/\V.cell? ⟨w.heap.size,5,none⟩=some (.slice p.ea x.e.ks.len p.ec)/\V.cell? ⟨w.heap.size,6,none⟩=some (.string x.g.op)/\V.cell? ⟨w.heap.size,7,none⟩=some (.string x.g.nm)/\V.cell? ⟨w.heap.size,8,none⟩=some (.int .i64 x.g.n)/\V.cell? ⟨w.heap.size,9,none⟩=some (.slice p.ga x.g.ks.len p.gc)/\V.cell? ⟨w.heap.size,10,none⟩=some (.slice p.wa x.wh.length p.wc)) (first | assumption | exact ⟨m0,m1,m2,m3,m4,m5,m6,m7,m8,m9,m10⟩ | exact CELLS.out _ K4.out.k | exact CELLS.out _ K3.out.k | exact CELLS.out _ K2.out.k) (first
  | (go_at_call 73
     with_reducible refine (CA.out _ (K1.out.step (fT W))).mono ?_
     rintro e v1 ⟨hb,va,rfl,ho⟩;have K2:=aA ((K1.out.step (fT W)).step hb);have c2':=CELLS.out _ K2.out.k;have JO:=aA (HJJ.out v1 va (fZ ho (Nat.zero_le _)));clear hb ho)
  | (go_at_call 72
     with_reducible refine JO.out.mono ?_
     rintro e v2 ⟨rfl,hb⟩;have K3:=aA (K2.out.step hb);have c3':=CELLS.out _ K3.out.k;clear hb)
  | (go_at_call 36
     with_reducible refine (K3.out.str _ (by simp only [ByteArray.size_append,List.length_nil];have h1:(⟨#[40]⟩:ByteArray).size=1:=rfl;have h2:(⟨#[41]⟩:ByteArray).size=1:=rfl;have:=HFZ.out;have:=HJZ.out;omega)).mono ?_
     rintro e v3 ⟨rfl,hb, -⟩;have K4:=aA hb;have c4':=CELLS.out _ K4.out.k;clear hb)
  | fail)
 obtain ⟨l0,hl0⟩:∃ l,([]:List UInt8)++(x.fn++(⟨#[40]⟩:ByteArray)++J++(⟨#[41]⟩:ByteArray)).data.toList=l:=⟨_,rfl⟩;have K5:=aA (show TX w x p l0 v3 by rw [<- hl0];exact K4.out)
 have T0:=aA (show l0++oU x 0=full by
  rw [<- hl0, <- HFU.out,uC];unfold eR;simp [HJL.out])
 have L0:=aA (show l0.length<=2000+2000*0 by
  rw [<- hl0];simp only [ByteArray.data_append,Array.toList_append,List.length_append,List.nil_append];have e1:x.fn.data.toList.length=x.fn.size:=by simp
  have e2:J.data.toList.length=J.size:=by simp
  have e3:(⟨#[40]⟩:ByteArray).data.toList.length=1:=rfl;have e4:(⟨#[41]⟩:ByteArray).data.toList.length=1:=rfl;have e5:([40]:List UInt8).length=1:=rfl;have e6:([41]:List UInt8).length=1:=rfl;have:=HFZ.out;have:=HJZ.out;omega)
 clear K4 K3 K2 K1 JO CA HJJ hl0 HFU x1 x2 x3 c2' c3' c4' m0 m1 m2 m3 m4 m5 m6 m7 m8 m9 m10 HFZ HJZ HJL AL HJ;obtain ⟨m0,m1,m2,m3,m4,m5,m6,m7,m8,m9,m10⟩:=CELLS.out _ K5.out.k;go_wp2_with fail
 clear m0 m1 m2 m3 m4 m5 m6 m7 m8 m9 m10;go_loopw [4,6,19] (fun v4 v6 i wr=>∃ (k:Nat) (l:List UInt8) (y:Value),v4=.string (sQ k)/\v6=y/\i=.int .i64 k/\k<=x.wh.length/\Hid (l++oU x k=full)/\Hid (l.length<=2000+2000*k)/\Hid (TX w x p l wr)) (fun _ _ i _=>x.wh.length-(intOf i).toNat)
 case atStart=>exact ⟨0,l0,_,rfl,rfl,rfl,Nat.zero_le _,T0,L0,K5⟩
 case round =>
  obtain ⟨k,l,y,rfl,rfl,rfl,hk,HT,HZ,HK⟩:=hrel;clear T0 L0 K5;by_cases hlt:k<x.wh.length
  · obtain ⟨d,hd⟩:∃ d,x.wh[k]? = some d:=⟨_,List.getElem?_eq_getElem hlt⟩
    have hne:¬ x.wh=[]:=fun e=>by rw [e] at hlt;simp at hlt
    obtain ⟨b,off,hwa, -,hbl,hcc⟩:=HK.out.k.r.c.resolve_left hne;obtain ⟨a1,c1,a2,c2,⟨p0,p1,p2,p3,p4,p5,p6,p7,p8⟩,r1,r2⟩:=hcc k d hd
    have hdr:x.wh.drop k=d::x.wh.drop (k+1):=by
     rw [List.drop_eq_getElem_cons hlt];have:=List.getElem?_eq_getElem hlt;rw [this] at hd;rw [Option.some.inj hd]
    obtain ⟨h1,h2,h3⟩:=HC.out d (List.mem_of_getElem? hd);have hnd:=HNC.out d (List.mem_of_getElem? hd);have hAz:=fR h2 hnd.1;have hBz:=fR h3 hnd.2;have hoz:d.op.size<=2:=Ek h1;have BD:=bA0 wr (cdX d a1 c1 a2 c2);have ND:=heap_alloc_new wr (cdX d a1 c1 a2 c2);have HBL:=aA (JF HK.out.bd);have K1:=aA (HK.out.step BD);have A1:=aA (fun V (hV:Below (wr.alloc (cdX d a1 c1 a2 c2)).heap.size (wr.alloc (cdX d a1 c1 a2 c2)) V)=>n6 d.a (fun b=>b<w.heap.size) V a1 c1 ((cX _).1 h2).1 hnd.1 ((cX _).1 h2).2 (HL.out V (K1.out.k.step hV).b) ((r1.kept BD).kept hV));have A2:=aA (fun V (hV:Below (wr.alloc (cdX d a1 c1 a2 c2)).heap.size (wr.alloc (cdX d a1 c1 a2 c2)) V)=>n6 d.b (fun b=>b<w.heap.size) V a2 c2 ((cX _).1 h3).1 hnd.2 ((cX _).1 h3).2 (HL.out V (K1.out.k.step hV).b) ((r2.kept BD).kept hV));obtain ⟨TA,hTA⟩:∃ S:ByteArray,⟨(aO d.a).toArray⟩=S:=⟨_,rfl⟩;obtain ⟨TB,hTB⟩:∃ S:ByteArray,⟨(aO d.b).toArray⟩=S:=⟨_,rfl⟩;rw [hTA] at A1;rw [hTB] at A2;have hAz:TA.size<=700:=by rw [<- hTA];show (aO d.a).toArray.size<=700;rw [List.size_toArray];exact hAz
    have hBz:TB.size<=700:=by rw [<- hTB];show (aO d.b).toArray.size<=700;rw [List.size_toArray];exact hBz
    have hwz:=Ct k;obtain ⟨W0,hW0⟩:∃ s,sQ k=s:=⟨_,rfl⟩;rw [hW0] at hwz;have HW2:=aA (show ((⟨#[32]⟩:ByteArray)++W0++⟨#[32]⟩++TA++⟨#[32]⟩++d.op++⟨#[32]⟩++TB).data.toList++gQ (x.wh.drop (k+1))=oU x k by rw [Hz hdr,hW0, <- hTA, <- hTB];simp);have b1:(k:Int)<(x.wh.length:Int):=by omega
    have b2:(0:Int)<=(k:Int):=by omega
    have b3:((k:Int)).toNat=k:=by omega
    have x0:(9223372036854775807<1+W0.size)=False:=by rw [eq_iff_iff,iff_false];omega
    have x1:(9223372036854775807<1+W0.size+1)=False:=by rw [eq_iff_iff,iff_false];omega
    have x2:(9223372036854775807<1+W0.size+1+TA.size)=False:=by rw [eq_iff_iff,iff_false];omega
    have x3:(9223372036854775807<1+W0.size+1+TA.size+1)=False:=by rw [eq_iff_iff,iff_false];omega
    have x4:(9223372036854775807<1+W0.size+1+TA.size+1+d.op.size)=False:=by rw [eq_iff_iff,iff_false];omega
    have x5:(9223372036854775807<1+W0.size+1+TA.size+1+d.op.size+1)=False:=by rw [eq_iff_iff,iff_false];omega
    have x6:(9223372036854775807<1+W0.size+1+TA.size+1+d.op.size+1+TB.size)=False:=by rw [eq_iff_iff,iff_false];omega
    have hsz:((⟨#[32]⟩:ByteArray)++W0++⟨#[32]⟩++TA++⟨#[32]⟩++d.op++⟨#[32]⟩++TB).size<=1500:=by simp only [ByteArray.size_append];have h1:(⟨#[32]⟩:ByteArray).size=1:=rfl;rw [h1];omega
    have HSZ:=aA hsz;rw [hW0];rw [hwa];clear hne hcc hwa hd hdr h1 h2 h3 hnd r1 r2 hTA hTB hAz hBz hoz hwz hW0 BD HK hsz;have HDN:=aA (show wr.heap.size ≠ w.heap.size+1 by have:=HBL.out;omega);go_upto_region 7 with fail
    rw [show wr.alloc (.cells #[.string d.op,.string d.a.op,.string d.a.nm,.int .i64 d.a.n,.slice a1 d.a.ks.len c1,.string d.b.op,.string d.b.nm,.int .i64 d.b.n,.slice a2 d.b.ks.len c2] 144)=wr.alloc (cdX d a1 c1 a2 c2) from rfl];generalize wr.alloc (cdX d a1 c1 a2 c2)=V at *;generalize wr.heap.size=D at *;clear p0 p1 p2 p3 p4 p5 p6 p7 p8;have CD9:=aA (p:=∀ V':World,Below V.heap.size V V'->(V'.cell? ⟨D,0,none⟩=some (.string d.op)/\V'.cell? ⟨D,1,none⟩=some (.string d.a.op)/\V'.cell? ⟨D,2,none⟩=some (.string d.a.nm)/\V'.cell? ⟨D,3,none⟩=some (.int .i64 d.a.n)/\V'.cell? ⟨D,4,none⟩=some (.slice a1 d.a.ks.len c1)/\V'.cell? ⟨D,5,none⟩=some (.string d.b.op)/\V'.cell? ⟨D,6,none⟩=some (.string d.b.nm)/\V'.cell? ⟨D,7,none⟩=some (.int .i64 d.b.n)/\V'.cell? ⟨D,8,none⟩=some (.slice a2 d.b.ks.len c2))) (fun V' hV=>rU ((hV.block D (aB ND)).trans ND));have CDX:=aA (p:=∀ V':World,V'.heap[D]? = some (cdX d a1 c1 a2 c2)->(V'.cell? ⟨D,0,none⟩=some (.string d.op)/\V'.cell? ⟨D,1,none⟩=some (.string d.a.op)/\V'.cell? ⟨D,2,none⟩=some (.string d.a.nm)/\V'.cell? ⟨D,3,none⟩=some (.int .i64 d.a.n)/\V'.cell? ⟨D,4,none⟩=some (.slice a1 d.a.ks.len c1)/\V'.cell? ⟨D,5,none⟩=some (.string d.b.op)/\V'.cell? ⟨D,6,none⟩=some (.string d.b.nm)/\V'.cell? ⟨D,7,none⟩=some (.int .i64 d.b.n)/\V'.cell? ⟨D,8,none⟩=some (.slice a2 d.b.ks.len c2))) (fun V' hV=>rU hV);have hDb:=aB ND;have HND:=aA ND;obtain ⟨p0,p1,p2,p3,p4,p5,p6,p7,p8⟩:=rU ND
    go_region_held3 (fun V=>V.cell? ⟨D,0,none⟩=some (.string d.op)/\V.cell? ⟨D,1,none⟩=some (.string d.a.op)/\V.cell? ⟨D,2,none⟩=some (.string d.a.nm)/\V.cell? ⟨D,3,none⟩=some (.int .i64 d.a.n)/\V.cell? ⟨D,4,none⟩=some (.slice a1 d.a.ks.len c1)/\V.cell? ⟨D,5,none⟩=some (.string d.b.op)/\V.cell? ⟨D,6,none⟩=some (.string d.b.nm)/\V.cell? ⟨D,7,none⟩=some (.int .i64 d.b.n)/\V.cell? ⟨D,8,none⟩=some (.slice a2 d.b.ks.len c2)) (first | assumption | exact ⟨p0,p1,p2,p3,p4,p5,p6,p7,p8⟩ | exact CD9.out _ B6.out | exact CD9.out _ B5.out) (first
     | (go_at_call 74
        with_reducible refine (A1.out _ (fT V)).mono ?_
        rintro e w5 ⟨rfl,hb⟩;have B5:=aA ((fT V).trans hb);have c5':=CD9.out _ B5.out;clear hb)
     | (go_at_call 74
        with_reducible refine (A2.out w5 B5.out).mono ?_
        rintro e w6 ⟨rfl,hb⟩;have B6:=aA (B5.out.trans (hb.mono B5.out.size));have c6':=CD9.out _ B6.out;clear hb)
     | (go_at_call 36
        with_reducible refine ((K1.out.step B6.out).str _ (by have:=HSZ.out;have:=HZ.out;omega)).mono ?_
        rintro e w7 ⟨rfl,hb,hbel⟩;have K7:=aA hb;have c7':=CDX.out w7 (hbel D _ _ HDN.out (by decide) ((B6.out.block D hDb).trans HND.out));clear hb hbel)
     | fail)
    have HT2:=aA (show (l++((⟨#[32]⟩:ByteArray)++W0++⟨#[32]⟩++TA++⟨#[32]⟩++d.op++⟨#[32]⟩++TB).data.toList)++oU x (k+1)=full by rw [Fj,List.append_assoc,HW2.out];exact HT.out)
    have HZ2:=aA (show (l++((⟨#[32]⟩:ByteArray)++W0++⟨#[32]⟩++TA++⟨#[32]⟩++d.op++⟨#[32]⟩++TB).data.toList).length<=2000+2000*(k+1) by
     rw [List.length_append,yC];have:=HSZ.out;have:=HZ.out;omega)
    clear B5 B6 A1 A2 c5' c6' c7' K1 CD9 CDX p0 p1 p2 p3 p4 p5 p6 p7 p8 x0 x1 x2 x3 x4 x5 x6 HT HZ;go_wp2_with fail
    go_roundw
    case rel=>exact ⟨k+1,_,_,by unfold sQ;rw [if_neg (by omega)],rfl,by go_num,by omega,HT2,HZ2,K7⟩
    case measure=>simp [intOf];omega
  · have e1:x.wh.drop k=[]:=List.drop_of_length_le (by omega)
    have TR:=aA (show full=l by rw [<- HT.out,H6 e1];simp);have b1:¬ (k:Int)<(x.wh.length:Int):=by omega
    have b2:decide (k<x.wh.length)=false:=decide_eq_false hlt;have CD:=aA (HK.out.done);go_wp2_with fail
    refine CD.out.mono ?_;rintro e w9 ⟨rfl,hb⟩;have HB9:=aA hb;clear hb;go_wp2_with fail
    go_ret;exact ⟨congrArg (fun z=>Ending.returned (.string ⟨List.toArray z⟩)) TR.out.symm,HB9.out⟩
structure LT (w:World) (a:Option Addr) (l:List LN) (t:List UInt8) (V:World):Prop where
 k:KLN (fun b=>b<w.heap.size) w a l V
 bd:Bd w.heap.size w.heap.size (Lib.byteCells t) V
theorem LT.step {w:World} {a:Option Addr} {l:List LN} {t:List UInt8} {V V':World} (h:LT w a l t V) (hb:Below V.heap.size V V'):LT w a l t V':=⟨h.k.step hb,JG h.bd hb⟩
theorem LT.str {w:World} {a:Option Addr} {l:List LN} {t:List UInt8} {V:World} (h:LT w a l t V) (s:ByteArray) (hl:t.length+s.size<=1000000) :
 Calls Tryz.prog 36 #[.pointer (some ⟨w.heap.size,0,none⟩),.string s] V fun e w'=>e=.returned (.tuple #[.int .i64 s.size,.nilIface])/\LT w a l (t++s.data.toList) w'/\Oth w.heap.size V w' :=
 (rB _ _ _ s V h.bd (by rw [Lib.byteCells_length];omega) h.k.b.size).mono fun e w' ⟨he,hb,hw,hoth⟩=>by
  have hk:aC (fun b=>w.heap.size<=b) V w':=⟨hw.os,hw.tape,hw.output,hw.size,fun b _ hn=>hw.block b (by omega)⟩;exact ⟨he,⟨⟨h.k.b.trans hw,h.k.r.keptS hk (fun b hb hg=>by omega)⟩,by rwa [o9] at hb⟩,hoth⟩
theorem LT.done {w:World} {a:Option Addr} {l:List LN} {t:List UInt8} {V:World} (h:LT w a l t V) :
 Calls Tryz.prog 38 #[.pointer (some ⟨w.heap.size,0,none⟩)] V fun e w'=>e=.returned (.string ⟨t.toArray⟩)/\Below w.heap.size w w' :=
 (Tryz.Builder_String_any _ _ t V h.bd h.k.b.size).mono fun _ _ ⟨he,hb⟩=>⟨he,h.k.b.trans hb⟩
theorem MN {w:World} {a:Option Addr} {l:List LN} (hr:cU (fun b=>b<w.heap.size) w a l):LT w a l [] (w.alloc (.cells #[.pointer none,.slice none 0 0] 92)):=by
 have B:=bA0 w (.cells #[.pointer none,.slice none 0 0] 92);exact ⟨⟨B,hr.kept B⟩,Lib.fresh_isBuilder 92 5 w⟩
theorem pZ {W:World} {B:Nat} {x:LN} {p:PA} (h:W.heap[B]? = some (lnO x p)):W.cell? ⟨B,0,none⟩=some (.string x.nm)/\W.cell? ⟨B,1,none⟩=some (.string x.a.fn)/\W.cell? ⟨B,2,none⟩=some (.int .i64 x.a.k)/\W.cell? ⟨B,3,none⟩=some (.string x.a.e.op)/\W.cell? ⟨B,4,none⟩=some (.string x.a.e.nm)/\W.cell? ⟨B,5,none⟩=some (.int .i64 x.a.e.n)/\W.cell? ⟨B,6,none⟩=some (.slice p.ea x.a.e.ks.len p.ec)/\W.cell? ⟨B,7,none⟩=some (.string x.a.g.op)/\W.cell? ⟨B,8,none⟩=some (.string x.a.g.nm)/\W.cell? ⟨B,9,none⟩=some (.int .i64 x.a.g.n)/\W.cell? ⟨B,10,none⟩=some (.slice p.ga x.a.g.ks.len p.gc)/\W.cell? ⟨B,11,none⟩=some (.slice p.wa x.a.wh.length p.wc):=by
 refine ⟨?_,?_,?_,?_,?_,?_,?_,?_,?_,?_,?_,?_⟩ <;> simp [World.cell?,h]
theorem wU {G:Nat->Prop} (l:List LN) (a:Option Addr) (c:Nat) (w:World) (hl:l.length<=100) (hf:Mg l) (hw:kB w) (hr:cU G w a l) :
 Calls Tryz.prog 12 #[.slice a l.length c] w fun e w'=>e=.returned (.string ⟨(oV l).toArray⟩)/\Below w.heap.size w w':=by
 obtain ⟨full,hfull⟩:∃ t,oV l=t:=⟨_,rfl⟩;have HF0:=aA (show ([]:List UInt8)++oV (l.drop 0)=full by rw [List.drop_zero];exact hfull);have K0:=MN (hr.imp (fun b hb _=>hb));have HFI:=aA hf;have HL:=aA (fun V (hV:Below w.heap.size w V)=>hw.step hV);rw [hfull];generalize hW:w.alloc (.cells #[.pointer none,.slice none 0 0] 92)=W at K0;have HW:=aA hW;have K1:=aA K0;clear hfull hr hf hw hW K0;go_enter Tryz.func12,Tryz.ntmps12
 go_upto_region 2 with fail
 rw [show w.alloc (.cells #[.pointer none,.slice none 0 0] 92)=W from HW.out];clear HW;go_wp2_with fail
 go_loopw [8] (fun i wr=>∃ (k:Nat) (t:List UInt8),i=.int .i64 (k:Nat)/\k<=l.length/\Hid (t++oV (l.drop k)=full)/\Hid (t.length<=9000*k)/\Hid (LT w a l t wr)) (fun i _=>l.length-(intOf i).toNat)
 case atStart=>exact ⟨0,[],rfl,Nat.zero_le _,HF0,aA (by show 0<=_;omega),K1⟩
 case round =>
  obtain ⟨k,t,rfl,hk,HF,HZ,HK⟩:=hrel;clear K1 HF0;by_cases hlt:k<l.length
  · obtain ⟨x,hx⟩:∃ x,l[k]? = some x:=⟨_,List.getElem?_eq_getElem hlt⟩
    have hd:l.drop k=x::l.drop (k+1):=by
     rw [List.drop_eq_getElem_cons hlt];rw [List.getElem?_eq_getElem hlt] at hx;rw [Option.some.inj hx]
    obtain ⟨he,hn,hs⟩:=HFI.out x (List.mem_of_getElem? hx);obtain ⟨b,off,p,hya,hbl,hG,⟨p0,p1,p2,p3,p4,p5,p6,p7,p8,p9,p10,p11⟩,hrd⟩:=HK.out.k.r.at hx;subst hya;have hTz:=EW he hn;have BD:=bA0 wr (lnO x p);have ND:=heap_alloc_new wr (lnO x p);have HBL:=aA (JF HK.out.bd);have K2:=aA (HK.out.step BD);have AT:=aA (fun V (hb:Below (wr.alloc (lnO x p)).heap.size (wr.alloc (lnO x p)) V)=>zP (G:=fun b=>b<w.heap.size) x.a p V he hn (HL.out V (K2.out.k.step hb).b) ((hrd.kept BD).kept hb));obtain ⟨T,hT⟩:∃ T:ByteArray,(⟨(eR x.a).toArray⟩:ByteArray)=T:=⟨_,rfl⟩;rw [hT] at AT;have hTs:T.size<=8000:=by rw [<- hT];show (eR x.a).toArray.size<=8000;rw [List.size_toArray];exact hTz
    have hF:=HF.out;rw [hd,oV,oY] at hF;have x1:(9223372036854775807<x.nm.size+1)=False:=by rw [eq_iff_iff,iff_false];omega
    have x2:(9223372036854775807<x.nm.size+1+1)=False:=by rw [eq_iff_iff,iff_false];omega
    have x3:(9223372036854775807<x.nm.size+1+1+1)=False:=by rw [eq_iff_iff,iff_false];omega
    have x4:(9223372036854775807<x.nm.size+1+1+1+T.size)=False:=by rw [eq_iff_iff,iff_false];omega
    have x5:(9223372036854775807<x.nm.size+1+1+1+T.size+1)=False:=by rw [eq_iff_iff,iff_false];omega
    have HN:=aA (show (x.nm++⟨#[32]⟩++⟨#[61]⟩++⟨#[32]⟩++T++⟨#[10]⟩).data.toList=oY x by unfold oY;rw [<- hT];simp)
    have HSZ:=aA (show (x.nm++⟨#[32]⟩++⟨#[61]⟩++⟨#[32]⟩++T++⟨#[10]⟩).size<=8020 by
     simp only [ByteArray.size_append];have h1:(⟨#[32]⟩:ByteArray).size=1:=rfl;have h2:(⟨#[61]⟩:ByteArray).size=1:=rfl;have h3:(⟨#[10]⟩:ByteArray).size=1:=rfl;rw [h1,h2,h3];omega)
    have HT2:=aA (show t++(oY x++oV (l.drop (k+1)))=full from hF);have b1:(k:Int)<(l.length:Int):=by omega
    have b2:(0:Int)<=(k:Int):=by omega
    have b3:((k:Int)).toNat=k:=by omega
    have HDN:=aA (show wr.heap.size ≠ w.heap.size by have:=HBL.out;omega);clear hd hx hF hT hTz hTs he hn hs hrd hG HK;go_upto_region 5 with fail
    generalize World.alloc wr _=V at BD ND K2 AT;generalize wr.heap.size=D at *;have hDb:=aB ND;have HND:=aA ND;have CD9:=aA (p:=∀ V':World,Below V.heap.size V V'->(V'.cell? ⟨D,0,none⟩=some (.string x.nm)/\V'.cell? ⟨D,1,none⟩=some (.string x.a.fn)/\V'.cell? ⟨D,2,none⟩=some (.int .i64 x.a.k)/\V'.cell? ⟨D,3,none⟩=some (.string x.a.e.op)/\V'.cell? ⟨D,4,none⟩=some (.string x.a.e.nm)/\V'.cell? ⟨D,5,none⟩=some (.int .i64 x.a.e.n)/\V'.cell? ⟨D,6,none⟩=some (.slice p.ea x.a.e.ks.len p.ec)/\V'.cell? ⟨D,7,none⟩=some (.string x.a.g.op)/\V'.cell? ⟨D,8,none⟩=some (.string x.a.g.nm)/\V'.cell? ⟨D,9,none⟩=some (.int .i64 x.a.g.n)/\V'.cell? ⟨D,10,none⟩=some (.slice p.ga x.a.g.ks.len p.gc)/\V'.cell? ⟨D,11,none⟩=some (.slice p.wa x.a.wh.length p.wc))) (fun V' hV=>pZ ((hV.block D (aB ND)).trans ND));have CDX:=aA (p:=∀ V':World,V'.heap[D]? = some (lnO x p)->(V'.cell? ⟨D,0,none⟩=some (.string x.nm)/\V'.cell? ⟨D,1,none⟩=some (.string x.a.fn)/\V'.cell? ⟨D,2,none⟩=some (.int .i64 x.a.k)/\V'.cell? ⟨D,3,none⟩=some (.string x.a.e.op)/\V'.cell? ⟨D,4,none⟩=some (.string x.a.e.nm)/\V'.cell? ⟨D,5,none⟩=some (.int .i64 x.a.e.n)/\V'.cell? ⟨D,6,none⟩=some (.slice p.ea x.a.e.ks.len p.ec)/\V'.cell? ⟨D,7,none⟩=some (.string x.a.g.op)/\V'.cell? ⟨D,8,none⟩=some (.string x.a.g.nm)/\V'.cell? ⟨D,9,none⟩=some (.int .i64 x.a.g.n)/\V'.cell? ⟨D,10,none⟩=some (.slice p.ga x.a.g.ks.len p.gc)/\V'.cell? ⟨D,11,none⟩=some (.slice p.wa x.a.wh.length p.wc))) (fun V' hV=>pZ hV);clear BD p0 p1 p2 p3 p4 p5 p6 p7 p8 p9 p10 p11;obtain ⟨c0,c1,c2,c3,c4,c5,c6,c7,c8,c9,c10,c11⟩:=pZ ND
    clear ND
    go_region_held3 (fun V'=>V'.cell? ⟨D,0,none⟩=some (.string x.nm)/\V'.cell? ⟨D,1,none⟩=some (.string x.a.fn)/\V'.cell? ⟨D,2,none⟩=some (.int .i64 x.a.k)/\V'.cell? ⟨D,3,none⟩=some (.string x.a.e.op)/\V'.cell? ⟨D,4,none⟩=some (.string x.a.e.nm)/\V'.cell? ⟨D,5,none⟩=some (.int .i64 x.a.e.n)/\V'.cell? ⟨D,6,none⟩=some (.slice p.ea x.a.e.ks.len p.ec)/\V'.cell? ⟨D,7,none⟩=some (.string x.a.g.op)/\V'.cell? ⟨D,8,none⟩=some (.string x.a.g.nm)/\V'.cell? ⟨D,9,none⟩=some (.int .i64 x.a.g.n)/\V'.cell? ⟨D,10,none⟩=some (.slice p.ga x.a.g.ks.len p.gc)/\V'.cell? ⟨D,11,none⟩=some (.slice p.wa x.a.wh.length p.wc)) (first | assumption | exact ⟨c0,c1,c2,c3,c4,c5,c6,c7,c8,c9,c10,c11⟩ | exact CD9.out _ B6.out) (first
     | (go_at_call 37
        with_reducible refine (AT.out _ (fT V)).mono ?_
        rintro e w5 ⟨rfl,hb⟩;have B6:=aA ((fT V).trans hb);have c6':=CD9.out _ B6.out;clear hb)
     | (go_at_call 36
        with_reducible refine ((K2.out.step B6.out).str _ (by have:=HSZ.out;have:=HZ.out;omega)).mono ?_
        rintro e w7 ⟨rfl,hb,hbel⟩;have K7:=aA hb;have c7':=CDX.out w7 (hbel D _ _ HDN.out (by decide) ((B6.out.block D hDb).trans HND.out));clear hb hbel)
     | fail)
    have K8:=K7.out;rw [HN.out] at K8;have HK8:=aA K8;have HT3:=aA (show (t++oY x)++oV (l.drop (k+1))=full by rw [List.append_assoc];exact HT2.out)
    have HZ2:=aA (show (t++oY x).length<=9000*(k+1) by
     rw [<- HN.out,List.length_append,yC];have:=HSZ.out;have:=HZ.out;omega)
    clear B6 AT c6' c7' K2 CD9 CDX c0 c1 c2 c3 c4 c5 c6 c7 c8 c9 c10 c11 x1 x2 x3 x4 x5 HT2 HZ K7 K8 HN;go_wp2_with fail
    go_roundw
    case rel=>exact ⟨k+1,_,by go_num,by omega,HT3,HZ2,HK8⟩
    case measure=>simp [intOf];omega
  · have e1:l.drop k=[]:=List.drop_of_length_le (by omega)
    have TR:=aA (show full=t by rw [<- HF.out,e1];simp [oV]);have b1:¬ (k:Int)<(l.length:Int):=by omega
    have CD:=aA (HK.out.done);clear e1;go_wp2_with fail
    refine CD.out.mono ?_;rintro e w9 ⟨rfl,hb⟩;have HB9:=aA hb;clear hb;go_wp2_with fail
    go_ret;exact ⟨congrArg (fun z=>Ending.returned (.string ⟨List.toArray z⟩)) TR.out.symm,HB9.out⟩
structure L6 (w:World) (x y z:PD) (B:Nat) (V:World):Prop where
 k:DV w V
 x:V.heap[B]? = some (pdO x 46)
 y:V.heap[B+1]? = some (pdO y 46)
 z:V.heap[B+2]? = some (pdO z 46)
theorem L6.step {w V V':World} {x y z:PD} {B:Nat} (h:L6 w x y z B V) (hb:Below V.heap.size V V'):L6 w x y z B V' :=
 ⟨h.k.step hb,(hb.block _ (aB h.x)).trans h.x,(hb.block _ (aB h.y)).trans h.y,(hb.block _ (aB h.z)).trans h.z⟩
theorem IZ {w:World} (x y z:PD) (hw:tF w):L6 w x y z w.heap.size (((w.alloc (pdO x 46)).alloc (pdO y 46)).alloc (pdO z 46)):=by
 have B1:=bA0 w (pdO x 46);have n1:=heap_alloc_new w (pdO x 46);have z1:(w.alloc (pdO x 46)).heap.size=w.heap.size+1:=World.size_alloc _ _;generalize w.alloc (pdO x 46)=W1 at B1 n1 z1;have B2:=bA0 W1 (pdO y 46);have n2:=heap_alloc_new W1 (pdO y 46);have z2:(W1.alloc (pdO y 46)).heap.size=W1.heap.size+1:=World.size_alloc _ _;generalize W1.alloc (pdO y 46)=W2 at B2 n2 z2;have B3:=bA0 W2 (pdO z 46);have n3:=heap_alloc_new W2 (pdO z 46);rw [z1] at n2;rw [z2,z1] at n3;have K0:DV w w:=⟨Below.refl _ _,hw⟩;exact ⟨((K0.step B1).step B2).step B3,(B3.block _ (by omega)).trans ((B2.block _ (by omega)).trans n1),(B3.block _ (by omega)).trans n2,n3⟩
theorem uE (C:Nd) (x y z:PD) (w:World) (hw:tF w):Calls Tryz.prog 7 #[pdV x,pdV y,pdV z] w fun e w'=>e=.returned (.bool true)/\Below w.heap.size w w':=by
 have K0:=IZ x y z hw;generalize hW:((w.alloc (pdO x 46)).alloc (pdO y 46)).alloc (pdO z 46)=W at K0;have HW:=aA hW;have HK:=aA K0;have KN:=aA (BH C W K0.k.l);have NW:=aA (fun a b V=>pL a b V);clear hW K0 hw;go_enter Tryz.func7,Tryz.ntmps7
 go_upto_region 1 with fail
 rw [show ((w.alloc (.cells #[.int .i64 x.v,.string x.o,.string x.t] 46)).alloc (.cells #[.int .i64 y.v,.string y.o,.string y.t] 46)).alloc (.cells #[.int .i64 z.v,.string z.o,.string z.t] 46)=W from HW.out];clear HW;go_wp2_with fail
 refine KN.out.mono ?_;rintro e w1 ⟨rfl,hb⟩;have K1:=aA (HK.out.step hb);clear hb HK KN;obtain ⟨x0,x1,x2⟩:=eQ K1.out.x;obtain ⟨y0,y1,y2⟩:=eQ K1.out.y;obtain ⟨z0,z1,z2⟩:=eQ K1.out.z;go_wp2_with fail
 refine (NW.out x y _).mono ?_;rintro e w2 ⟨rfl,hb⟩;have K2:=aA (K1.out.step hb);clear hb K1 x0 x1 x2 y0 y1 y2 z0 z1 z2;obtain ⟨x0,x1,x2⟩:=eQ K2.out.x;obtain ⟨y0,y1,y2⟩:=eQ K2.out.y;obtain ⟨z0,z1,z2⟩:=eQ K2.out.z;go_wp2_with fail
 refine (NW.out y z _).mono ?_;rintro e w3 ⟨rfl,hb⟩;have K3:=aA (K2.out.step hb);clear hb K2 x0 x1 x2 y0 y1 y2 z0 z1 z2;obtain ⟨x0,x1,x2⟩:=eQ K3.out.x;obtain ⟨y0,y1,y2⟩:=eQ K3.out.y;obtain ⟨z0,z1,z2⟩:=eQ K3.out.z;go_wp2_with fail
 refine (NW.out x z _).mono ?_;rintro e w4 ⟨rfl,hb⟩;have K4:=aA (K3.out.step hb);clear hb K3 x0 x1 x2 y0 y1 y2 z0 z1 z2;obtain ⟨x0,x1,x2⟩:=eQ K4.out.x;obtain ⟨y0,y1,y2⟩:=eQ K4.out.y;obtain ⟨z0,z1,z2⟩:=eQ K4.out.z;have NYX:=aA (NW.out y x w4)
 have SAME:∀ b:Bool,(¬ (x.v=y.v/\x.o=y.o))->(((x.v:Int) == (y.v:Int))=false)\/((((x.v:Int) == (y.v:Int))=true)/\(x.o.toList == y.o.toList)=false):=fun _ h=>by
  by_cases hv:x.v=y.v
  · right
    refine ⟨by rw [hv];simp,?_⟩;rw [Bool.eq_false_iff];intro ho;exact h ⟨hv,By.1 ho⟩
  · left
    rw [beq_eq_false_iff_ne];exact hv
 cases hxy:jX x y with
 | true =>
   have h1:=Iz hxy;rw [h1] at NYX;have HYZ:=aA (fun h:jX y z=true=>FF hxy h);have hs:=SAME true (Er hxy);clear hxy h1 SAME;cases hyz:jX y z with
   | true =>
     have hxz:=HYZ.out hyz;rw [hxz];rcases hs with q | ⟨q,q2⟩
     · go_wp2_with fail
       refine NYX.out.mono ?_;rintro e w5 ⟨rfl,hb⟩;have K5:=aA (K4.out.step hb);clear hb;go_wp2_with fail
       go_ret;exact ⟨rfl,K5.out.k.b⟩
     · go_wp2_with fail
       refine NYX.out.mono ?_;rintro e w5 ⟨rfl,hb⟩;have K5:=aA (K4.out.step hb);clear hb;go_wp2_with fail
       go_ret;exact ⟨rfl,K5.out.k.b⟩
   | false =>
     rcases hs with q | ⟨q,q2⟩
     · go_wp2_with fail
       refine NYX.out.mono ?_;rintro e w5 ⟨rfl,hb⟩;have K5:=aA (K4.out.step hb);clear hb;go_wp2_with fail
       go_ret;exact ⟨rfl,K5.out.k.b⟩
     · go_wp2_with fail
       refine NYX.out.mono ?_;rintro e w5 ⟨rfl,hb⟩;have K5:=aA (K4.out.step hb);clear hb;go_wp2_with fail
       go_ret;exact ⟨rfl,K5.out.k.b⟩
 | false =>
   cases hyx:jX y x with
   | true =>
     rw [hyx] at NYX;have hs:=SAME true (fun h=>Er hyx ⟨h.1.symm,h.2.symm⟩);clear hxy hyx SAME;rcases hs with q | ⟨q,q2⟩
     · go_wp2_with fail
       refine NYX.out.mono ?_;rintro e w5 ⟨rfl,hb⟩;have K5:=aA (K4.out.step hb);clear hb;go_wp2_with fail
       go_ret;exact ⟨rfl,K5.out.k.b⟩
     · go_wp2_with fail
       refine NYX.out.mono ?_;rintro e w5 ⟨rfl,hb⟩;have K5:=aA (K4.out.step hb);clear hb;go_wp2_with fail
       go_ret;exact ⟨rfl,K5.out.k.b⟩
   | false =>
     rw [hyx] at NYX;obtain ⟨hv,ho⟩:=Iy hxy hyx;have q:((x.v:Int) == (y.v:Int))=true:=by rw [hv];simp
     have q2:(x.o.toList == y.o.toList)=true:=by rw [ho];simp
     clear hxy hyx SAME hv ho;go_wp2_with fail
     refine NYX.out.mono ?_;rintro e w5 ⟨rfl,hb⟩;have K5:=aA (K4.out.step hb);clear hb;go_wp2_with fail
     go_ret;exact ⟨rfl,K5.out.k.b⟩
theorem Jr (c:UInt8) (r:List UInt8):Wr.depthP (c::r)=if c=47 then (if r=[] then 0 else if (dG r).all bD=true then if (dG r).length<=4 then ((dG r).length:Int) else -1 else -1) else -1:=by
 by_cases hc:c=47
 · subst hc
   rw [if_pos rfl];by_cases hr:r=[]
   · subst hr;rfl
   · have hs:Wr.cutL (47::r)=some (dG r):=by
      show (if (47:UInt8)=47 then if r=[] then some [] else some (dG r) else none)=_;rw [if_pos rfl,if_neg hr]
     have hE:Wr.errP (47::r)=Wr.errQ (dG r):=by unfold Wr.errP;rw [hs]
     have hP:Wr.partsP (47::r)=if Wr.errQ (dG r)=0 then dG r else []:=by unfold Wr.partsP;rw [hs]
     rw [if_neg hr];by_cases h1:(dG r).all bD=true
     · by_cases h2:(dG r).length<=4
       · have hq:Wr.errQ (dG r)=0:=by unfold Wr.errQ;rw [if_pos h1,if_pos h2]
         unfold Wr.depthP;rw [hE,hP,hq,if_pos rfl,if_pos rfl,if_pos h1,if_pos h2]
       · have hq:Wr.errQ (dG r)=4:=by unfold Wr.errQ;rw [if_pos h1,if_neg h2]
         unfold Wr.depthP;rw [hE,hq,if_neg (by decide),if_pos h1,if_neg h2]
     · have hq:Wr.errQ (dG r)=2:=by unfold Wr.errQ;rw [if_neg h1]
       unfold Wr.depthP;rw [hE,hq,if_neg (by decide),if_neg h1]
 · have hs:Wr.errP (c::r)=2:=by
    have:Wr.cutL (c::r)=none:=by
     show (if c=47 then if r=[] then some [] else some (dG r) else none)=_;rw [if_neg hc]
    unfold Wr.errP;rw [this]
   unfold Wr.depthP;rw [hs,if_neg (by decide),if_neg hc]
theorem Dg (l:List UInt8):Ir l=decide (1<=Wr.depthP l):=by
 cases l with
 | nil=>rfl
 | cons c r =>
   unfold Ir;rw [FB,Jr];by_cases hc:c=47
   · subst hc
     by_cases hr:r=[]
     · subst hr;rfl
     · obtain ⟨a,q,e⟩:=zE r
       have hl:1<=(dG r).length:=by rw [e];simp
       by_cases h1:(dG r).all bD=true
       · by_cases h2:(dG r).length<=4
         · simp [hr,h1,h2];omega
         · simp [hr,h1,h2]
       · simp [hr,h1]
   · simp [hc]
theorem uJ (x:PD) (ho:x.o.size<=1000) (ht:x.t.size<=5000) (w:World) (hw:gO w):Calls Tryz.prog 20 #[pdV x] w fun e w'=>e=.returned (.int .i64 (B8 x))/\Below w.heap.size w w':=by
 have B1:=bA0 w (pdO x 46);have N1:=heap_alloc_new w (pdO x 46);have z1:(w.alloc (pdO x 46)).heap.size=w.heap.size+1:=World.size_alloc _ _;generalize hW:w.alloc (pdO x 46)=W at B1 N1 z1;have HW:=aA hW;have HB:=aA B1;have HN:=aA N1;have HL:=aA (hw.step B1);obtain ⟨r,hr⟩:∃ r,B8 x=r:=⟨_,rfl⟩;rw [hr];unfold B8 at hr;clear hW B1 N1 hw;obtain ⟨c0,c1,c2⟩:=eQ HN.out;go_enter Tryz.func20,Tryz.ntmps20
 go_upto_region 1 with fail
 rw [show w.alloc (.cells #[.int .i64 x.v,.string x.o,.string x.t] 46)=W from HW.out];clear HW;by_cases h1:x.v<0
 · rw [if_pos (by unfold Wr.countB;simp;omega)] at hr
   subst hr;go_wp2_with fail
   go_ret;exact ⟨rfl,HB.out⟩
 by_cases h2:(1000000000:Int)<x.v
 · rw [if_pos (by unfold Wr.countB;simp;omega)] at hr
   subst hr;go_wp2_with fail
   go_ret;exact ⟨rfl,HB.out⟩
 rw [if_neg (by unfold Wr.countB;simp;omega)] at hr;by_cases h0:x.v=0
 · rw [if_pos h0] at hr
   have q0:((x.v:Int) == 0)=true:=by rw [h0];rfl
   have PN:=aA (Ft x W);rw [hr] at PN;clear h0 hr;go_wp2_with fail
   refine PN.out.mono ?_;rintro e w2 ⟨rfl,hb⟩;have HB2:=aA (HB.out.trans (hb.mono (by omega)));clear hb;go_wp2_with fail
   go_ret;exact ⟨rfl,HB2.out⟩
 · rw [if_neg h0] at hr
   have q0:((x.v:Int) == 0)=false:=by rw [beq_eq_false_iff_ne];exact h0
   have ND:=aA (Wr.depth_any x.o (by omega) W);obtain ⟨dp,hdp⟩:∃ d,Wr.depthP x.o.data.toList=d:=⟨_,rfl⟩;rw [hdp] at ND;rw [Dg,hdp] at hr;clear h0 hdp;go_wp2_with fail
   refine ND.out.mono ?_;rintro e w2 ⟨rfl,hb⟩;have HN2:=aA ((hb.block _ (by omega)).trans HN.out);have HB2:=aA (HB.out.trans (hb.mono (by omega)));have HL2:=aA (HL.out.step hb);have z2:=hb.size;clear hb HN HB ND c0 c1 c2 HL;obtain ⟨c0,c1,c2⟩:=eQ HN2.out;by_cases hn:dp<1
   · rw [if_pos (by rw [decide_eq_false (by omega)])] at hr
     subst hr;go_wp2_with fail
     go_ret;exact ⟨rfl,HB2.out⟩
   · rw [if_neg (by rw [decide_eq_true (by omega)];decide)] at hr
     by_cases hl:4096<x.t.size
     · rw [if_pos hl] at hr
       subst hr;have q2:(4096:Int)<(x.t.size:Int):=by omega
       clear hl;go_wp2_with fail
       go_ret;exact ⟨rfl,HB2.out⟩
     · rw [if_neg hl] at hr
       have q2:¬ (4096:Int)<(x.t.size:Int):=by omega
       have PP:=aA (jJ x.t ht w2 HL2.out);clear hl;cases hp:mE x.t.data.toList with
       | bad p er =>
         rw [hp] at PP hr;subst hr;clear hp;go_wp2_with fail
         refine PP.out.mono ?_;rintro e w3 ⟨hb,rfl⟩;have HB3:=aA (HB2.out.trans (hb.mono (by omega)));clear hb;go_wp2_with fail
         go_ret;exact ⟨rfl,HB3.out⟩
       | ok l =>
         rw [hp] at PP hr;subst hr;clear hp;go_wp2_with fail
         refine PP.out.mono ?_;rintro e w3 ⟨hb,a,c,rfl,hrd⟩;have HB3:=aA (HB2.out.trans (hb.mono (by omega)));clear hb hrd;go_wp2_with fail
         go_ret;exact ⟨rfl,HB3.out⟩
def yT (g:ByteArray->Option Int) (c:CD):Bool:=match evT g c.a,evT g c.b with | some x,some y=>(bH c.op x y).getD false | _,_=>false
theorem EX (g:ByteArray->Option Int) (c:CD) (r:List CD):dB g (c::r)=(yT g c && dB g r):=rfl
theorem Jw (g:ByteArray->Option Int) (c:CD):yT g c=((evT g c.a).isSome && (evT g c.b).isSome && (bH c.op ((evT g c.a).getD 0) ((evT g c.b).getD 0)).getD false):=by
 unfold yT;cases evT g c.a with
 | none=>rfl
 | some x=>cases evT g c.b <;> rfl
structure OkE (t:TN):Prop where
 c:aK t=0
 n:cZ t.f
 s:SzF t.f
theorem Dw {A:Nat->Wr.AD} {n:Nat} {g:ByteArray->Option Int} (U:gN A n g) (d:CD) (hA:OkE d.a) (hB:OkE d.b) (G:Nat->Prop) (a1:Option Addr) (c1:Nat) (a2:Option Addr) (c2:Nat) (y:Option Addr) (cy:Nat) (w:World)
 (r1:aQ G w a1 d.a.ks) (r2:aQ G w a2 d.b.ks) (hy:Wr.ReadsA w y n A) :
 Calls Tryz.prog 190 #[cdV d a1 c1 a2 c2,.slice y n cy] w fun e w'=>e=.returned (.bool (yT g d))/\Below w.heap.size w w':=by
 have B0:=bA0 w (cdX d a1 c1 a2 c2);have N0:=heap_alloc_new w (cdX d a1 c1 a2 c2);generalize hW:w.alloc (cdX d a1 c1 a2 c2)=W at *;have HW:=aA hW;have HB:=aA B0;have HN:=aA N0;have CA:=aA (fun V (hV:Below w.heap.size w V)=>n8 U d.a hA.c hA.n hA.s G V a1 c1 y cy (r1.kept hV) (hy.kept hV));have CB:=aA (fun V (hV:Below w.heap.size w V)=>n8 U d.b hB.c hB.n hB.s G V a2 c2 y cy (r2.kept hV) (hy.kept hV));obtain ⟨va,hva⟩:∃ v,evT g d.a=v:=⟨_,rfl⟩;obtain ⟨vb,hvb⟩:∃ v,evT g d.b=v:=⟨_,rfl⟩;rw [Jw,hva,hvb];rw [hva] at CA;rw [hvb] at CB;obtain ⟨xa,hxa⟩:∃ n,va.getD 0=n:=⟨_,rfl⟩;obtain ⟨xb,hxb⟩:∃ n,vb.getD 0=n:=⟨_,rfl⟩;obtain ⟨za,hza⟩:∃ n,va.isSome=n:=⟨_,rfl⟩;obtain ⟨zb,hzb⟩:∃ n,vb.isSome=n:=⟨_,rfl⟩;rw [hxa,hza] at CA;rw [hxb,hzb] at CB;have HO:=aA (fun V=>uI d.op xa xb V);obtain ⟨zo,hzo⟩:∃ z,(bH d.op xa xb).getD false=z:=⟨_,rfl⟩;obtain ⟨zs,hzs⟩:∃ z,(bH d.op xa xb).isSome=z:=⟨_,rfl⟩;rw [hzo,hzs] at HO;rw [hxa,hza,hxb,hzb,hzo];obtain ⟨r,hr⟩:∃ r,(za && zb && zo)=r:=⟨_,rfl⟩;rw [hr];have HR:=aA hr;obtain ⟨p0,p1,p2,p3,p4,p5,p6,p7,p8⟩:=rU N0;clear hW B0 N0 r1 r2 hy hva hvb hxa hxb hza hzb hzo hzs hr;go_enter Tryz.func190,Tryz.ntmps190
 go_upto_region 1 with fail
 rw [show w.alloc (.cells #[.string d.op,.string d.a.op,.string d.a.nm,.int .i64 d.a.n,.slice a1 d.a.ks.len c1,.string d.b.op,.string d.b.nm,.int .i64 d.b.n,.slice a2 d.b.ks.len c2] 144)=W from HW.out];go_wp2_with fail
 refine (CA.out W HB.out).mono ?_;rintro e w1 ⟨rfl,hb⟩;have HB1:=aA (HB.out.trans (hb.mono HB.out.size));have N1:=aA ((hb.block _ (aB HN.out)).trans HN.out);clear hb CA p0 p1 p2 p3 p4 p5 p6 p7 p8;obtain ⟨p0,p1,p2,p3,p4,p5,p6,p7,p8⟩:=rU N1.out;go_wp2_with fail
 refine (CB.out w1 HB1.out).mono ?_;rintro e w2 ⟨rfl,hb⟩;have HB2:=aA (HB1.out.trans (hb.mono HB1.out.size));have N2:=(hb.block _ (aB N1.out)).trans N1.out;clear hb CB p0 p1 p2 p3 p4 p5 p6 p7 p8;obtain ⟨p0,p1,p2,p3,p4,p5,p6,p7,p8⟩:=rU N2;clear N2;go_wp2_with fail
 refine (HO.out w2).mono ?_;rintro e w3 ⟨rfl,rfl⟩;cases za with
 | false =>
   have TR:=aA (show false=r from HR.out);go_wp2_with fail
   go_ret;exact ⟨congrArg (fun z=>Ending.returned (.bool z)) TR.out,HB2.out⟩
 | true =>
   cases zb with
   | false =>
     have TR:=aA (show false=r from HR.out);go_wp2_with fail
     go_ret;exact ⟨congrArg (fun z=>Ending.returned (.bool z)) TR.out,HB2.out⟩
   | true =>
     have TR:=aA (show zo=r from HR.out);go_wp2_with fail
     go_ret;exact ⟨congrArg (fun z=>Ending.returned (.bool z)) TR.out,HB2.out⟩
end
end Go.Proofs.YtgfkjkokmcejbaaGreatDoor
