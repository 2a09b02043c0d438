/-
 No statement: what ProgLinesLift needs, of the texts OStep, OFold, OFoldL, OBest, OEvM, OEv.
-/
import Derived.Test.YtgfkjkokmcejbaaGreatDoorVL12
set_option maxHeartbeats 40000000
set_option maxRecDepth 100000
namespace Go.Proofs.YtgfkjkokmcejbaaGreatDoor
section
open Go.RowKit
set_option maxHeartbeats 2000000
theorem Fn (n u v:Int) (w:World) (h0:0<=n) (h1:n<=1000000):Calls Tryz.prog 85 #[.int .i64 n,.agg #[.int .i64 u,.int .i64 v]] w fun e w'=>e=.returned (.int .i64 (n+1))/\Below w.heap.size w w':=by
 go_enter Tryz.func85,Tryz.ntmps85
 go_wp2
 go_ret;exact ⟨rfl,bA0 w _⟩
theorem Fm (n u v:Int) (w:World) (h0:bU n) (h1:bU u):Calls Tryz.prog 86 #[.int .i64 n,.agg #[.int .i64 u,.int .i64 v]] w fun e w'=>e=.returned (.int .i64 (dC (n+u)))/\Below w.heap.size w w':=by
 have VA:=aA (fun w=>AO n u w h0 h1);have B1:=aA (bA0 w (aG u v));have N1:=heap_alloc_new w (aG u v);generalize hW:w.alloc (aG u v)=W at *;have HW:=aA hW;obtain ⟨⟨m0,m1⟩, -⟩:=two N1;clear hW N1 h0 h1;go_enter Tryz.func86,Tryz.ntmps86
 go_upto_region 1 with fail
 rw [show w.alloc (.cells #[.int .i64 u,.int .i64 v] 163)=W from HW.out];go_wp2_with fail
 refine (VA.out _).mono ?_;rintro e w1 ⟨rfl,rfl⟩;go_wp2_with fail
 go_ret;exact ⟨rfl,B1.out⟩
theorem Fl (B:Nat) (x:AG) (p:PA) (b:Nat) (vv:Value) (ks:List Int) (u v:Int) (most:Nat) (w:World) (hK:x.k=(most:Int)) (hm:1<=most) (hm16:most<=1000) (hk:ks.length<=most) (hr:aS lsL ks) (hB:B<=w.heap.size) (ho:w.ownsRow B 2 1 vv ks.length (ks.map (Value.int .i64)))
 (ha:w.heap[b]? = some (agP x p)) :
 Calls Tryz.prog 89 #[vv,.agg #[.int .i64 u,.int .i64 v],.pointer (some ⟨b,0,none⟩)] w fun e w'=>∃ v',e=.returned v'/\w'.ownsRow B 2 1 v' (fF most ks u).length ((fF most ks u).map (Value.int .i64))/\aC (fun b=>vv.ownBlock=some b) w w':=by
 have B1:=bA0 w (aG u v);have N1:=heap_alloc_new w (aG u v);have hz:(w.alloc (aG u v)).heap.size=w.heap.size+1:=World.size_alloc _ _;have o1:=ho.alloc (aG u v);have a1:=(B1.block b (aB ha)).trans ha;have K1:aC (fun b=>vv.ownBlock=some b) w (w.alloc (aG u v)):=(aC.refl _ w).alloc _;generalize hW:w.alloc (aG u v)=W at *;have KA:=aA (Gh B vv ks u most W hm hm16 hk hr (by omega) o1);have HW:=aA hW;have HK:=aA K1;obtain ⟨⟨n0,n1⟩, -⟩:=two N1;obtain ⟨m0,m1,m2,m3,m4,m5,m6,m7,m8,m9,m10⟩:=aP a1;rw [hK] at m1;obtain ⟨av,cv,rfl⟩:=eC ho;clear hW N1 o1 a1 K1 B1 ho hr hz ha;go_enter Tryz.func89,Tryz.ntmps89
 go_upto_region 1 with fail
 rw [show w.alloc (.cells #[.int .i64 u,.int .i64 v] 163)=W from HW.out];go_wp2_with fail
 refine KA.out.mono ?_;rintro e w1 ⟨v',rfl,h1,h2⟩;go_wp2_with fail
 go_ret;exact ⟨v',rfl,h1,HK.out.trans h2 (fun i h _=>h)⟩
abbrev vlA (k n:Int) (a:Option Addr) (l c:Nat):Obj:=.cells #[.int .i64 k,.int .i64 n,.string ⟨#[]⟩,.slice a l c] 60
theorem iK (n:Int) (w:World):Calls Tryz.prog 83 #[.int .i64 n] w fun e w'=>e=.returned (vlV 1 n none 0 0)/\Below w.heap.size w w':=by
 go_enter Tryz.func83,Tryz.ntmps83
 go_wp2_with fail
 obtain ⟨⟨y0,y1,y2,y3⟩, -⟩:=aL (heap_alloc_new w (vlA 1 n none 0 0));exact bodyPost_ret (v:=vlV 1 n none 0 0) (by simp [results,Tryz.results83,go_sem,y0,y1,y2,y3]) rfl ⟨rfl,bA0 _ _⟩
theorem F3 (a0 a1 b0 b1:Int) (w:World):Calls Tryz.prog 145 #[.agg #[.int .i64 a0,.int .i64 a1],.agg #[.int .i64 b0,.int .i64 b1]] w fun e w'=>e=.returned (.bool (decide (a0<b0)))/\Below w.heap.size w w':=by
 have N1:=heap_alloc_new w (aG a0 a1);have B1:=bA0 w (aG a0 a1);have hz1:(w.alloc (aG a0 a1)).heap.size=w.heap.size+1:=World.size_alloc _ _;have N2:=heap_alloc_new (w.alloc (aG a0 a1)) (aG b0 b1);have B2:=(Below.refl w.heap.size (w.alloc (aG a0 a1))).alloc (by omega) (aG b0 b1);have M1:=(((Below.refl _ (w.alloc (aG a0 a1))).alloc (Nat.le_refl _) (aG b0 b1)).block w.heap.size (by omega)).trans N1;have BB:=aA (B1.trans B2);rw [hz1] at N2;generalize hW:(w.alloc (aG a0 a1)).alloc (aG b0 b1)=W at *;have HW:=aA hW;obtain ⟨⟨m0,m1⟩, -⟩:=two M1;obtain ⟨⟨n0,n1⟩, -⟩:=two N2;clear hW N1 N2 M1 B1 B2;go_enter Tryz.func145,Tryz.ntmps145
 go_upto_region 1 with fail
 rw [show (w.alloc (.cells #[.int .i64 a0,.int .i64 a1] 163)).alloc (.cells #[.int .i64 b0,.int .i64 b1] 163)=W from HW.out];go_wp2_with fail
 go_ret;exact ⟨rfl,BB.out⟩
theorem FZ (a0 a1 b0 b1:Int) (w:World):Calls Tryz.prog 146 #[.agg #[.int .i64 a0,.int .i64 a1],.agg #[.int .i64 b0,.int .i64 b1]] w fun e w'=>e=.returned (.bool (decide (b0<a0)))/\Below w.heap.size w w':=by
 have N1:=heap_alloc_new w (aG a0 a1);have B1:=bA0 w (aG a0 a1);have hz1:(w.alloc (aG a0 a1)).heap.size=w.heap.size+1:=World.size_alloc _ _;have N2:=heap_alloc_new (w.alloc (aG a0 a1)) (aG b0 b1);have B2:=(Below.refl w.heap.size (w.alloc (aG a0 a1))).alloc (by omega) (aG b0 b1);have M1:=(((Below.refl _ (w.alloc (aG a0 a1))).alloc (Nat.le_refl _) (aG b0 b1)).block w.heap.size (by omega)).trans N1;have BB:=aA (B1.trans B2);rw [hz1] at N2;generalize hW:(w.alloc (aG a0 a1)).alloc (aG b0 b1)=W at *;have HW:=aA hW;obtain ⟨⟨m0,m1⟩, -⟩:=two M1;obtain ⟨⟨n0,n1⟩, -⟩:=two N2;clear hW N1 N2 M1 B1 B2;go_enter Tryz.func146,Tryz.ntmps146
 go_upto_region 1 with fail
 rw [show (w.alloc (.cells #[.int .i64 a0,.int .i64 a1] 163)).alloc (.cells #[.int .i64 b0,.int .i64 b1] 163)=W from HW.out];go_wp2_with fail
 go_ret;exact ⟨rfl,BB.out⟩
theorem FY (a0 a1 b0 b1:Int) (w:World):Calls Tryz.prog 147 #[.agg #[.int .i64 a0,.int .i64 a1],.agg #[.int .i64 b0,.int .i64 b1]] w fun e w'=>e=.returned (.bool (decide (a1<b1)))/\Below w.heap.size w w':=by
 have N1:=heap_alloc_new w (aG a0 a1);have B1:=bA0 w (aG a0 a1);have hz1:(w.alloc (aG a0 a1)).heap.size=w.heap.size+1:=World.size_alloc _ _;have N2:=heap_alloc_new (w.alloc (aG a0 a1)) (aG b0 b1);have B2:=(Below.refl w.heap.size (w.alloc (aG a0 a1))).alloc (by omega) (aG b0 b1);have M1:=(((Below.refl _ (w.alloc (aG a0 a1))).alloc (Nat.le_refl _) (aG b0 b1)).block w.heap.size (by omega)).trans N1;have BB:=aA (B1.trans B2);rw [hz1] at N2;generalize hW:(w.alloc (aG a0 a1)).alloc (aG b0 b1)=W at *;have HW:=aA hW;obtain ⟨⟨m0,m1⟩, -⟩:=two M1;obtain ⟨⟨n0,n1⟩, -⟩:=two N2;clear hW N1 N2 M1 B1 B2;go_enter Tryz.func147,Tryz.ntmps147
 go_upto_region 1 with fail
 rw [show (w.alloc (.cells #[.int .i64 a0,.int .i64 a1] 163)).alloc (.cells #[.int .i64 b0,.int .i64 b1] 163)=W from HW.out];go_wp2_with fail
 go_ret;exact ⟨rfl,BB.out⟩
theorem AA (o:ByteArray) (w:World) (h:o.data.toList=pG):Calls Tryz.prog 92 #[.string o] w fun e w'=>e=.returned (.func (.func 145) #[] #[])/\w=w':=by
 have g1:(o.toList == [109,105,110])=true:=cO (by rw [h];decide);clear h;go_enter Tryz.func92,Tryz.ntmps92
 go_wp2
 go_ret;exact ⟨rfl,rfl⟩
theorem AB (o:ByteArray) (w:World) (h:o.data.toList=rN):Calls Tryz.prog 92 #[.string o] w fun e w'=>e=.returned (.func (.func 146) #[] #[])/\w=w':=by
 have g1:(o.toList == [109,105,110])=false:=aF (by rw [h];decide);have g2:(o.toList == [109,97,120])=true:=cO (by rw [h];decide);clear h;go_enter Tryz.func92,Tryz.ntmps92
 go_wp2
 go_ret;exact ⟨rfl,rfl⟩
theorem wS (o:ByteArray) (w:World) (h:o.data.toList=bE):Calls Tryz.prog 92 #[.string o] w fun e w'=>e=.returned (.func (.func 147) #[] #[])/\w=w':=by
 have g1:(o.toList == [109,105,110])=false:=aF (by rw [h];decide);have g2:(o.toList == [109,97,120])=false:=aF (by rw [h];decide);clear h;go_enter Tryz.func92,Tryz.ntmps92
 go_wp2
 go_ret;exact ⟨rfl,rfl⟩
end
section
open Go.RowKit Go.Shelf
attribute [local go_sem] Oper.semAt_some
theorem dM {B:Nat} {vs:Array Value} {t:TypeId} {fz:Nat×Nat} {W W':World} {row:Option Nat} (h:W.heap[B]? = some (.cells vs t fz)) (hg:W.grownBy W' row) (hr:∀ r,row=some r->∃ o:Obj,W.heap[r]? = some o/\o.isCells=false):W'.heap[B]? = some (.cells vs t fz) :=
 (hg.block B (aB h) (fun e=>by obtain ⟨o,ho,hc⟩:=hr B e.symm;rw [h] at ho;cases ho;cases hc)).trans h
theorem d9 {W W':World} (h:Below W.heap.size W W') (D:Nat):KeepsFrom D W W' :=
 (KeepsOthers.of_grownBy (row:=none) ⟨h.os,h.tape,h.output,h.size,fun k hk _=>h.block k hk⟩ (fun j o e=>by cases e)).from D
abbrev Hk (bl ba bp:Nat) (L:List Q64) (w0:World):Prop:=SeqStopsK Fence.wide 3 Tryz.prog 139 (tkF bl ba bp) tkE (Below w0.heap.size) (fun ys=>ys=L) (fun pre=>pre <+: L) L.length w0
theorem lK {n₀ : Nat} {w:World} (hn:n₀ <= w.heap.size) (W:World) (l:Nat) (o o':Obj) (hl:w.heap.size<=l) (h:W.heap[l]? = some o):Below n₀ W (W.putObj l o') :=
 (Below.refl n₀ W).grown (grownBy_putObj' W l o') (by have:=(Array.getElem?_eq_some_iff.1 h).1;omega) (fun k e=>by cases e;omega)
theorem Jo (bl ba bp:Nat) (L:List Q64) (w0 w:World) (hL:L.length<=1000) (hseq:Hk bl ba bp L w0) (hb0:Below w0.heap.size w0 w) (F:List Q64->Int) (hF0:F []=0)
 (hst:∀ (pre:List Q64) (q:Q64) (W:World),pre.length<L.length->Calls Tryz.prog 85 #[.int .i64 (F pre),jZ q.1] W fun e W'=>e=.returned (.int .i64 (F (pre++[q])))/\Below W.heap.size W W') :
 CallsIn Fence.wide 4 Tryz.prog 84 #[.func (.func 139) #[] (tkF bl ba bp),.int .i64 0,.func (.func 85) #[] #[]] w fun e w'=>e=.returned (.int .i64 (F L))/\Below w.heap.size w w':=by
 refine callsIn_of_wp_marks Tryz.func84 rfl trivial ?_ rfl;simp only [Tryz.ntmps84,List.size_toArray,List.length_cons,List.length_nil,Nat.reduceAdd,Nat.reduceSub,Array.replicate_succ,Array.replicate_zero,List.push_toArray,List.append_toArray,List.nil_append,List.cons_append];gi_wp2
 obtain ⟨B,hB0⟩:∃ B,w.heap.size=B:=⟨_,rfl⟩;have bF:=(Boxed.new w 164 (.func (.func 85) #[] #[])).alloc (.cells #[.int .i64 0] 2);have bS:=Boxed.new (w.alloc (.cells #[.func (.func 85) #[] #[]] 164)) 2 (.int .i64 0);have hBw:Below B w ((w.alloc (.cells #[.func (.func 85) #[] #[]] 164)).alloc (.cells #[.int .i64 0] 2)):=((Below.refl _ w).alloc (by omega) _).alloc (by simp;omega) _;have hsz:((w.alloc (.cells #[.func (.func 85) #[] #[]] 164)).alloc (.cells #[.int .i64 0] 2)).heap.size=B+2:=by simp;omega
 simp only [World.size_alloc,hB0] at bF bS |-
 obtain ⟨W0,hW0⟩:∃ W0,(w.alloc (.cells #[.func (.func 85) #[] #[]] 164)).alloc (.cells #[.int .i64 0] 2)=W0:=⟨_,rfl⟩;rw [hW0] at bF bS hBw hsz |-
 have hz0:w0.heap.size<=B:=by have:=hb0.size;omega
 clear hW0
 refine wpIn_rangeFunc_ownH rfl (by decide) (gf:=139) (lb:=tkF bl ba bp) rfl trivial (enters_of Tryz.func139 (by kernel_rfl) rfl)
  hseq belowK_t (belowK_b (by omega)) (hb0.trans (hBw.mono hz0)) (fun _=>rfl)
  (fun pre W=>(Boxed W (B+1) 2 (.int .i64 (F pre))/\Boxed W B 164 (.func (.func 85) #[] #[]))/\Below B w W)
  (fun _ _ _=>False)
  (OwnFrom.and (OwnFrom.and (Own.from (boxed_own _ _ _) _) (Own.from (boxed_own _ _ _) _)) (ownFrom_below (by omega) (by omega)))
  (fun _ _ _ _ _ hs _ _=>hs)
  ⟨⟨by rw [hF0];exact bS,bF⟩,hBw⟩
  (fun x a' W=>∃ Bx,B+1<Bx/\W.heap[Bx]? = some (aG x.1.1 x.1.2)/\a'={ tmps:=#[.func (.func 139) #[] (tkF bl ba bp),.int .i64 0,.func (.func 85) #[] #[],undef,undef,.pointer (some ⟨B,0,none⟩),.int .i64 0,.pointer (some ⟨B+1,0,none⟩),.pointer (some ⟨Bx,0,none⟩),.int .i64 0,.func (.func 139) #[] (tkF bl ba bp),jZ x.1,undef,undef,undef,undef,undef],defers:=[] })
  (fun x a' _ X Y row hs hg hr=>by obtain ⟨Bx,h1,h2,h3⟩:=hs;exact ⟨Bx,h1,dM h2 hg (fun r e=>(hr r e).2),h3⟩)
  ?assign ?body ?done ?stop
 case assign =>
  rintro l pre x W K ⟨⟨bS1,bF1⟩,hB1⟩ hK;have h2:=bS1.lt;gi_wp2
  exact hK _ _ ((KeepsOthers.alloc _ _).from _) ((Below.refl _ W).alloc (by omega) _) ⟨⟨bS1.alloc _,bF1.alloc _⟩,hB1.alloc (by omega) _⟩ ⟨W.heap.size,bS1.lt,heap_alloc_new W _,rfl⟩
 case body =>
  rintro l pre x a' W hl ⟨r,hr⟩ ⟨⟨bS1,bF1⟩,hB1⟩ ⟨Bx,hBx,bX,rfl⟩ hlt;obtain ⟨⟨x0,x1⟩, -⟩:=two bX;have c1:=bS1.cell;have c2:=bF1.cell;have ST:=aA (hst pre x W hlt);have hz:=bS1.lt;gi_wp2_with (refine ⟨trivial,?_⟩;gi_at_call 85;refine (CallsIn.inRound l (callsIn_wide.2 ST.out)).mono ?_;rintro e W2 ⟨rfl,hb2⟩;have bS2:Boxed W2 (B+1) 2 (.int .i64 (F pre)):=(hb2.block _ bS1.lt).trans bS1;have bF2:Boxed W2 B 164 (.func (.func 85) #[] #[]):=(hb2.block _ bF1.lt).trans bF1;have d1:=bS2.cell;have d2:=bF2.cell;have f1:=bS2.frozen)
  exact ⟨(d9 hb2 _).trans ((KeepsOthers.setCell _ _ _).from _),(hb2.mono (by omega)).setCell (p:=⟨B+1,0,none⟩) (by simp;omega) _,⟨bS2.set _,bF2.other (by omega) _⟩,(hB1.trans (hb2.mono (by omega))).setCell (p:=⟨B+1,0,none⟩) (by simp) _⟩
 case done =>
  rintro D ys W hD rfl ⟨⟨bS1,bF1⟩,hB1⟩ hK;have c1:=bS1.cell;gi_wp2
  refine ⟨by simp,.inl ⟨_,_,rfl,run_takeDeferred hK,?_⟩⟩;exact ⟨_,results_tmp rfl _ _ _,rfl,by rw [hB0];exact hB1.trans (lK (w:=W0) (by omega) W D _ _ hD hK)⟩
 case stop =>
  rintro D c pre W _ _ h _;exact h.elim
theorem Jn (bl ba bp:Nat) (L:List Q64) (w0 w:World) (hL:L.length<=1000) (hseq:Hk bl ba bp L w0) (hb0:Below w0.heap.size w0 w) (F:List Q64->Int) (hF0:F []=0)
 (hst:∀ (pre:List Q64) (q:Q64) (W:World),pre.length<L.length->Calls Tryz.prog 86 #[.int .i64 (F pre),jZ q.1] W fun e W'=>e=.returned (.int .i64 (F (pre++[q])))/\Below W.heap.size W W') :
 CallsIn Fence.wide 4 Tryz.prog 84 #[.func (.func 139) #[] (tkF bl ba bp),.int .i64 0,.func (.func 86) #[] #[]] w fun e w'=>e=.returned (.int .i64 (F L))/\Below w.heap.size w w':=by
 refine callsIn_of_wp_marks Tryz.func84 rfl trivial ?_ rfl;simp only [Tryz.ntmps84,List.size_toArray,List.length_cons,List.length_nil,Nat.reduceAdd,Nat.reduceSub,Array.replicate_succ,Array.replicate_zero,List.push_toArray,List.append_toArray,List.nil_append,List.cons_append];gi_wp2
 obtain ⟨B,hB0⟩:∃ B,w.heap.size=B:=⟨_,rfl⟩;have bF:=(Boxed.new w 164 (.func (.func 86) #[] #[])).alloc (.cells #[.int .i64 0] 2);have bS:=Boxed.new (w.alloc (.cells #[.func (.func 86) #[] #[]] 164)) 2 (.int .i64 0);have hBw:Below B w ((w.alloc (.cells #[.func (.func 86) #[] #[]] 164)).alloc (.cells #[.int .i64 0] 2)):=((Below.refl _ w).alloc (by omega) _).alloc (by simp;omega) _;have hsz:((w.alloc (.cells #[.func (.func 86) #[] #[]] 164)).alloc (.cells #[.int .i64 0] 2)).heap.size=B+2:=by simp;omega
 simp only [World.size_alloc,hB0] at bF bS |-
 obtain ⟨W0,hW0⟩:∃ W0,(w.alloc (.cells #[.func (.func 86) #[] #[]] 164)).alloc (.cells #[.int .i64 0] 2)=W0:=⟨_,rfl⟩;rw [hW0] at bF bS hBw hsz |-
 have hz0:w0.heap.size<=B:=by have:=hb0.size;omega
 clear hW0
 refine wpIn_rangeFunc_ownH rfl (by decide) (gf:=139) (lb:=tkF bl ba bp) rfl trivial (enters_of Tryz.func139 (by kernel_rfl) rfl)
  hseq belowK_t (belowK_b (by omega)) (hb0.trans (hBw.mono hz0)) (fun _=>rfl)
  (fun pre W=>(Boxed W (B+1) 2 (.int .i64 (F pre))/\Boxed W B 164 (.func (.func 86) #[] #[]))/\Below B w W)
  (fun _ _ _=>False)
  (OwnFrom.and (OwnFrom.and (Own.from (boxed_own _ _ _) _) (Own.from (boxed_own _ _ _) _)) (ownFrom_below (by omega) (by omega)))
  (fun _ _ _ _ _ hs _ _=>hs)
  ⟨⟨by rw [hF0];exact bS,bF⟩,hBw⟩
  (fun x a' W=>∃ Bx,B+1<Bx/\W.heap[Bx]? = some (aG x.1.1 x.1.2)/\a'={ tmps:=#[.func (.func 139) #[] (tkF bl ba bp),.int .i64 0,.func (.func 86) #[] #[],undef,undef,.pointer (some ⟨B,0,none⟩),.int .i64 0,.pointer (some ⟨B+1,0,none⟩),.pointer (some ⟨Bx,0,none⟩),.int .i64 0,.func (.func 139) #[] (tkF bl ba bp),jZ x.1,undef,undef,undef,undef,undef],defers:=[] })
  (fun x a' _ X Y row hs hg hr=>by obtain ⟨Bx,h1,h2,h3⟩:=hs;exact ⟨Bx,h1,dM h2 hg (fun r e=>(hr r e).2),h3⟩)
  ?assign ?body ?done ?stop
 case assign =>
  rintro l pre x W K ⟨⟨bS1,bF1⟩,hB1⟩ hK;have h2:=bS1.lt;gi_wp2
  exact hK _ _ ((KeepsOthers.alloc _ _).from _) ((Below.refl _ W).alloc (by omega) _) ⟨⟨bS1.alloc _,bF1.alloc _⟩,hB1.alloc (by omega) _⟩ ⟨W.heap.size,bS1.lt,heap_alloc_new W _,rfl⟩
 case body =>
  rintro l pre x a' W hl ⟨r,hr⟩ ⟨⟨bS1,bF1⟩,hB1⟩ ⟨Bx,hBx,bX,rfl⟩ hlt;obtain ⟨⟨x0,x1⟩, -⟩:=two bX;have c1:=bS1.cell;have c2:=bF1.cell;have ST:=aA (hst pre x W hlt);have hz:=bS1.lt;gi_wp2_with (refine ⟨trivial,?_⟩;gi_at_call 86;refine (CallsIn.inRound l (callsIn_wide.2 ST.out)).mono ?_;rintro e W2 ⟨rfl,hb2⟩;have bS2:Boxed W2 (B+1) 2 (.int .i64 (F pre)):=(hb2.block _ bS1.lt).trans bS1;have bF2:Boxed W2 B 164 (.func (.func 86) #[] #[]):=(hb2.block _ bF1.lt).trans bF1;have d1:=bS2.cell;have d2:=bF2.cell;have f1:=bS2.frozen)
  exact ⟨(d9 hb2 _).trans ((KeepsOthers.setCell _ _ _).from _),(hb2.mono (by omega)).setCell (p:=⟨B+1,0,none⟩) (by simp;omega) _,⟨bS2.set _,bF2.other (by omega) _⟩,(hB1.trans (hb2.mono (by omega))).setCell (p:=⟨B+1,0,none⟩) (by simp) _⟩
 case done =>
  rintro D ys W hD rfl ⟨⟨bS1,bF1⟩,hB1⟩ hK;have c1:=bS1.cell;gi_wp2
  refine ⟨by simp,.inl ⟨_,_,rfl,run_takeDeferred hK,?_⟩⟩;exact ⟨_,results_tmp rfl _ _ _,rfl,by rw [hB0];exact hB1.trans (lK (w:=W0) (by omega) W D _ _ hD hK)⟩
 case stop =>
  rintro D c pre W _ _ h _;exact h.elim
end
section
open Go.RowKit Go.Shelf
attribute [local go_sem] Oper.semAt_some
theorem Bk {w:World} {B:Nat} {e:TypeId} {size:Nat} {v:Value} {n:Nat} {xs:List Value} (h:w.ownsRow B e size v n xs):∀ g,v.ownBlock=some g->B<=g:=by
 intro g hg;rcases h.2 with ⟨rfl,_⟩ | ⟨g',cap,cur,rfl,hb,_⟩
 · cases hg
 · simp only [Value.ownBlock,Option.some.injEq] at hg
   omega
theorem Fv {w w':World} {B:Nat} {e:TypeId} {size:Nat} {v:Value} {n:Nat} {xs:List Value} (h:w.ownsRow B e size v n xs) (hk:aC (fun b=>v.ownBlock=some b) w w') (D:Nat):KeepsFrom D w w' :=
 ⟨hk.size,fun k o _ h0 ho=>hk.heap h0 (fun hg=>by
  rcases h.2 with ⟨rfl,_⟩ | ⟨g',cap,cur,rfl,hb,hgb,_⟩
  · cases hg
  · simp only [Value.ownBlock,Option.some.injEq] at hg
    subst hg;rw [hgb] at h0;cases h0;cases ho)⟩
abbrev ivK (l:List Int):List Value:=l.map (Value.int .i64)
abbrev rP (most:Nat) (pre:List Q64):List Int:=pre.foldl (fun ks q=>fF most ks q.1.1) []
theorem Fe (most:Nat) (pre:List Q64) (q:Q64):rP most (pre++[q])=fF most (rP most pre) q.1.1:=by simp [rP]
theorem Eo (most:Nat):∀ (pre:List Q64) (ks:List Int),aS lsL ks->ks.length<=most->aS lsL (pre.foldl (fun ks q=>fF most ks q.1.1) ks)/\(pre.foldl (fun ks q=>fF most ks q.1.1) ks).length<=most
 | [],_,h,hl=>⟨h,hl⟩
 | _::pre,_,h,hl=>Eo most pre _ (Aj h _) (Gg hl _)
theorem Jm (bl ba bp ea:Nat) (x:AG) (p:PA) (most:Nat) (L:List Q64) (w0 w:World) (hK:x.k=(most:Int)) (hm:1<=most) (hm16:most<=1000) (hea:w.heap[ea]? = some (agP x p)) (hseq:Hk bl ba bp L w0) (hb0:Below w0.heap.size w0 w) :
 CallsIn Fence.wide 4 Tryz.prog 88 #[.func (.func 139) #[] (tkF bl ba bp),.slice none 0 0,.func (.func 89) #[] #[.pointer (some ⟨ea,0,none⟩)]] w fun e w' =>
  ∃ v,e=.returned v/\w'.ownsRow w.heap.size 2 1 v (rP most L).length (ivK (rP most L))/\Below w.heap.size w w':=by
 refine callsIn_of_wp_marks Tryz.func88 rfl trivial ?_ rfl;simp only [Tryz.ntmps88,List.size_toArray,List.length_cons,List.length_nil,Nat.reduceAdd,Nat.reduceSub,Array.replicate_succ,Array.replicate_zero,List.push_toArray,List.append_toArray,List.nil_append,List.cons_append];gi_wp2
 obtain ⟨B,hB0⟩:∃ B,w.heap.size=B:=⟨_,rfl⟩;have bF:=(Boxed.new w 168 (.func (.func 89) #[] #[.pointer (some ⟨ea,0,none⟩)])).alloc (.cells #[.slice none 0 0] 58);have bS:=Boxed.new (w.alloc (.cells #[.func (.func 89) #[] #[.pointer (some ⟨ea,0,none⟩)]] 168)) 58 (.slice none 0 0);have hBw:Below B w ((w.alloc (.cells #[.func (.func 89) #[] #[.pointer (some ⟨ea,0,none⟩)]] 168)).alloc (.cells #[.slice none 0 0] 58)):=((Below.refl _ w).alloc (by omega) _).alloc (by simp;omega) _;have hsz:((w.alloc (.cells #[.func (.func 89) #[] #[.pointer (some ⟨ea,0,none⟩)]] 168)).alloc (.cells #[.slice none 0 0] 58)).heap.size=B+2:=by simp;omega
 simp only [World.size_alloc,hB0] at bF bS |-
 obtain ⟨W0,hW0⟩:∃ W0,(w.alloc (.cells #[.func (.func 89) #[] #[.pointer (some ⟨ea,0,none⟩)]] 168)).alloc (.cells #[.slice none 0 0] 58)=W0:=⟨_,rfl⟩;rw [hW0] at bF bS hBw hsz |-
 have hz0:w0.heap.size<=B:=by have:=hb0.size;omega
 have hel:ea<B:=by have:=aB hea;omega
 clear hW0
 refine wpIn_rangeFunc_ownH rfl (by decide) (gf:=139) (lb:=tkF bl ba bp) rfl trivial (enters_of Tryz.func139 (by kernel_rfl) rfl)
  hseq belowK_t (belowK_b (by omega)) (hb0.trans (hBw.mono hz0)) (fun _=>rfl)
  (fun pre W=>((∃ v,Boxed W (B+1) 58 v/\W.ownsRow (B+2) 2 1 v (rP most pre).length (ivK (rP most pre))/\True)/\Boxed W B 168 (.func (.func 89) #[] #[.pointer (some ⟨ea,0,none⟩)]))/\Below B w W)
  (fun _ _ _=>False)
  (OwnFrom.and (OwnFrom.and (Own.from (holdsRow_own (B+2) (B+1) _ _ 1 (fun pre=>(rP most pre).length) (fun pre=>ivK (rP most pre)) (fun _ _=>True)) _) (Own.from (boxed_own _ _ _) _)) (ownFrom_below (by omega) (by omega)))
  (fun _ _ _ _ _ hs _ _=>hs)
  ⟨⟨⟨_,bS,World.ownsRow_nil _ _ _ _,trivial⟩,bF⟩,hBw⟩
  (fun x a' W=>∃ Bx,B+1<Bx/\W.heap[Bx]? = some (aG x.1.1 x.1.2)/\a'={ tmps:=#[.func (.func 139) #[] (tkF bl ba bp),.slice none 0 0,.func (.func 89) #[] #[.pointer (some ⟨ea,0,none⟩)],undef,undef,.pointer (some ⟨B,0,none⟩),.slice none 0 0,.pointer (some ⟨B+1,0,none⟩),.pointer (some ⟨Bx,0,none⟩),.slice none 0 0,.func (.func 139) #[] (tkF bl ba bp),jZ x.1,undef,undef,undef,undef,undef],defers:=[] })
  (fun x a' _ X Y row hs hg hr=>by obtain ⟨Bx,h1,h2,h3⟩:=hs;exact ⟨Bx,h1,dM h2 hg (fun r e=>(hr r e).2),h3⟩)
  ?assign ?body ?done ?stop
 case assign =>
  rintro l pre x W K ⟨⟨⟨v,bS1,rS1, -⟩,bF1⟩,hB1⟩ hK;have h2:=bS1.lt;gi_wp2
  exact hK _ _ ((KeepsOthers.alloc _ _).from _) ((Below.refl _ W).alloc (by omega) _) ⟨⟨⟨v,bS1.alloc _,rS1.alloc _,trivial⟩,bF1.alloc _⟩,hB1.alloc (by omega) _⟩ ⟨W.heap.size,bS1.lt,heap_alloc_new W _,rfl⟩
 case body =>
  rintro l pre q a' W hl ⟨r,hr⟩ ⟨⟨⟨v,bS1,rS1, -⟩,bF1⟩,hB1⟩ ⟨Bx,hBx,bX,rfl⟩ hlt;obtain ⟨⟨x0,x1⟩, -⟩:=two bX;have c1:=bS1.cell;have c2:=bF1.cell;have hz:=bS1.lt;have hlx:=aB bX;obtain ⟨k1,k2⟩:=Eo most pre [] List.Pairwise.nil (Nat.zero_le _);have ST:=aA (Fl (B+2) x p ea v (rP most pre) q.1.1 q.1.2 most W hK hm hm16 k2 k1 (by omega) rS1 ((hB1.block ea (by omega)).trans hea));have hrb:=Bk rS1;have hrk:=fun W2 hk=>Fv (w':=W2) rS1 hk
  obtain ⟨av,cv,rfl⟩:=eC rS1;gi_wp2_with (refine ⟨trivial,?_⟩;gi_at_call 89;refine (CallsIn.inRound l (callsIn_wide.2 ST.out)).mono ?_;rintro e W2 ⟨v',rfl,rS2,hk2⟩;obtain ⟨av2,cv2,rfl⟩:=eC rS2;have bS2:=(show W2.heap[B+1]? = _ from hk2.heap bS1 (fun h=>by have:=hrb _ h;omega));have bF2:Boxed W2 B 168 (.func (.func 89) #[] #[.pointer (some ⟨ea,0,none⟩)]):=hk2.heap bF1 (fun h=>by have:=hrb _ h;omega);have d1:=Boxed.cell bS2;have d2:=bF2.cell;have f1:=Boxed.frozen bS2)
  have hb2:Below (B+2) W W2:=hk2.below (fun i hi=>hrb i hi) (by omega);have rb2:=Bk rS2;refine ⟨(hrk _ hk2 _).trans ((KeepsOthers.setCell _ _ _).from _),(hb2.mono (by omega)).setCell (p:=⟨B+1,0,none⟩) (by simp;omega) _,⟨⟨_,Boxed.set _ bS2,?_,trivial⟩,bF2.other (by omega) _⟩,(hB1.trans (hb2.mono (by omega))).setCell (p:=⟨B+1,0,none⟩) (by simp) _⟩;rw [Fe];exact rS2.kept (grownBy_setCell' W2 (B+1) _) (.inr fun e=>by have:=rb2 _ e;omega)
 case done =>
  rintro D ys W hD rfl ⟨⟨⟨v,bS1,rS1, -⟩,bF1⟩,hB1⟩ hK;have c1:=bS1.cell;gi_wp2
  refine ⟨by simp,.inl ⟨_,_,rfl,run_takeDeferred hK,?_⟩⟩;exact ⟨_,results_tmp rfl _ _ _,_,rfl,fZ (ownsRow_putObj rS1 _ hK rfl) (by omega),by rw [hB0];exact hB1.trans (lK (w:=W0) (by omega) W D _ _ hD hK)⟩
 case stop =>
  rintro D c pre W _ _ h _;exact h.elim
end
section
open Go.RowKit Go.Shelf
attribute [local go_sem] Oper.semAt_some
abbrev cQ (o:Option Q64):Int×Int:=match o with | none=>(0,0) | some q=>q.1
theorem lJ {D n0 B:Nat} {w W:World} {t0 t1:TypeId} {fv:Value} {v0 v1 u0 u1:Int} {b:Bool} (bS:Boxed W (B+3) t0 (.bool b)) (bT:W.heap[B+2]? = some (aG u0 u1)) (bF:Boxed W B t1 fv) (bR:W.heap[B+1]? = some (aG 0 0)) (hB1:Below B w W) (hn:n0<=B) :
 let V:=((W.setCell ⟨B+2,0,none⟩ (.int .i64 v0)).setCell ⟨B+2,1,none⟩ (.int .i64 v1)).setCell ⟨B+3,0,none⟩ (.bool true)
 KeepsFrom D W V/\Below n0 W V/\(((Boxed V (B+3) t0 (.bool true)/\V.heap[B+2]? = some (aG v0 v1))/\(Boxed V B t1 fv/\V.heap[B+1]? = some (aG 0 0)))/\Below B w V):=by
 intro V;have hk:=(((aC.refl (fun b=>b=B+2\/b=B+3) W).setCell (p:=⟨B+2,0,none⟩) (.inl (.inl rfl)) (.int .i64 v0)).setCell (p:=⟨B+2,1,none⟩) (.inl (.inl rfl)) (.int .i64 v1)).setCell (p:=⟨B+3,0,none⟩) (.inl (.inr rfl)) (.bool true);have hz:=Boxed.lt bS;have hb:Below (B+2) W V:=hk.below (fun i hi=>by omega) (by omega)
 have kS:(((W.setCell ⟨B+2,0,none⟩ (.int .i64 v0)).setCell ⟨B+2,1,none⟩ (.int .i64 v1))).heap[B+3]? = _ :=
  (((aC.refl (fun b=>b=B+2) W).setCell (p:=⟨B+2,0,none⟩) (.inl rfl) (.int .i64 v0)).setCell (p:=⟨B+2,1,none⟩) (.inl rfl) (.int .i64 v1)).heap bS (by omega)
 refine ⟨(((KeepsOthers.setCell _ _ _).trans (KeepsOthers.setCell _ _ _)).trans (KeepsOthers.setCell _ _ _)).from _,hb.mono (by omega),⟨⟨Boxed.set _ kS,?_⟩,?_,?_⟩,hB1.trans (hb.mono (by omega))⟩
 · exact ((aC.refl (fun b=>b=B+3) _).setCell (p:=⟨B+3,0,none⟩) (.inl rfl) _).heap (iF bT _ _) (by omega)
 · exact (hb.block _ (by omega)).trans bF
 · exact (hb.block _ (by omega)).trans bR
theorem pX {K:Type} (less:K->K->Bool) (l:List K) (q:K):aY less (l++[q])=stB less (aY less l) q:=by unfold aY;rw [List.foldl_append];rfl
theorem JK (bl ba bp:Nat) (L:List Q64) (w0 w:World) (hseq:Hk bl ba bp L w0) (hb0:Below w0.heap.size w0 w) (less:Q64->Q64->Bool)
 (hst:∀ (a b:Q64) (W:World),Calls Tryz.prog 145 #[jZ a.1,jZ b.1] W fun e W'=>e=.returned (.bool (less a b))/\Below W.heap.size W W') :
 CallsIn Fence.wide 4 Tryz.prog 91 #[.func (.func 139) #[] (tkF bl ba bp),.func (.func 145) #[] #[]] w fun e w'=>e=.returned (.tuple #[jZ (cQ (aY less L)),.bool (aY less L).isSome])/\Below w.heap.size w w':=by
 refine callsIn_of_wp_marks Tryz.func91 rfl trivial ?_ rfl;simp only [Tryz.ntmps91,List.size_toArray,List.length_cons,List.length_nil,Nat.reduceAdd,Nat.reduceSub,Array.replicate_succ,Array.replicate_zero,List.push_toArray,List.append_toArray,List.nil_append,List.cons_append];gi_wp2
 obtain ⟨B,hB0⟩:∃ B,w.heap.size=B:=⟨_,rfl⟩;have bF:=(((Boxed.new w 171 (.func (.func 145) #[] #[])).alloc (aG 0 0)).alloc (aG 0 0)).alloc (.cells #[.bool false] 4);have bR:=heap_alloc_new (w.alloc (.cells #[.func (.func 145) #[] #[]] 171)) (aG 0 0);have bT:=heap_alloc_new ((w.alloc (.cells #[.func (.func 145) #[] #[]] 171)).alloc (aG 0 0)) (aG 0 0);have bS:=Boxed.new (((w.alloc (.cells #[.func (.func 145) #[] #[]] 171)).alloc (aG 0 0)).alloc (aG 0 0)) 4 (.bool false);have hBw:Below B w ((((w.alloc (.cells #[.func (.func 145) #[] #[]] 171)).alloc (aG 0 0)).alloc (aG 0 0)).alloc (.cells #[.bool false] 4)):=((((Below.refl _ w).alloc (by omega) _).alloc (by simp;omega) _).alloc (by simp;omega) _).alloc (by simp;omega) _;have hsz:((((w.alloc (.cells #[.func (.func 145) #[] #[]] 171)).alloc (aG 0 0)).alloc (aG 0 0)).alloc (.cells #[.bool false] 4)).heap.size=B+4:=by simp;omega
 have bR2:((((w.alloc (.cells #[.func (.func 145) #[] #[]] 171)).alloc (aG 0 0)).alloc (aG 0 0)).alloc (.cells #[.bool false] 4)).heap[B+1]? = some (aG 0 0):=by
  rw [World.size_alloc,hB0] at bR;exact ((((Below.refl (B+2) ((w.alloc (.cells #[.func (.func 145) #[] #[]] 171)).alloc (aG 0 0))).alloc (by simp;omega) (aG 0 0)).alloc (by simp;omega) (.cells #[.bool false] 4)).block _ (by omega)).trans bR
 have bT2:((((w.alloc (.cells #[.func (.func 145) #[] #[]] 171)).alloc (aG 0 0)).alloc (aG 0 0)).alloc (.cells #[.bool false] 4)).heap[B+2]? = some (aG 0 0):=by
  rw [World.size_alloc,World.size_alloc,hB0] at bT;exact (((Below.refl (B+3) (((w.alloc (.cells #[.func (.func 145) #[] #[]] 171)).alloc (aG 0 0)).alloc (aG 0 0))).alloc (by simp;omega) (.cells #[.bool false] 4)).block _ (by omega)).trans bT
 clear bR bT;simp only [World.size_alloc,hB0] at bF bS |-
 obtain ⟨W0,hW0⟩:∃ W0,(((w.alloc (.cells #[.func (.func 145) #[] #[]] 171)).alloc (aG 0 0)).alloc (aG 0 0)).alloc (.cells #[.bool false] 4)=W0:=⟨_,rfl⟩;rw [hW0] at bF bS bR2 bT2 hBw hsz;rw [show (((w.alloc (.cells #[.func (.func 145) #[] #[]] 171)).alloc (.cells #[.int .i64 0,.int .i64 0] 163)).alloc (.cells #[.int .i64 0,.int .i64 0] 163)).alloc (.cells #[.bool false] 4)=W0 from hW0];have hz0:w0.heap.size<=B:=by have:=hb0.size;omega
 clear hW0
 refine wpIn_rangeFunc_ownH rfl (by decide) (gf:=139) (lb:=tkF bl ba bp) rfl trivial (enters_of Tryz.func139 (by kernel_rfl) rfl)
  hseq belowK_t (belowK_b (by omega)) (hb0.trans (hBw.mono hz0)) (fun _=>rfl)
  (fun pre W=>((Boxed W (B+3) 4 (.bool (aY less pre).isSome)/\W.heap[B+2]? = some (aG (cQ (aY less pre)).1 (cQ (aY less pre)).2))/\(Boxed W B 171 (.func (.func 145) #[] #[])/\W.heap[B+1]? = some (aG 0 0)))/\Below B w W)
  (fun _ _ _=>False)
  (OwnFrom.and (OwnFrom.and (OwnFrom.and (Own.from (boxed_own _ _ _) _) (fun s X Y row hs hg hr=>dM hs hg (fun r e=>(hr r e).2))) (OwnFrom.and (Own.from (boxed_own _ _ _) _) (fun s X Y row hs hg hr=>dM hs hg (fun r e=>(hr r e).2)))) (ownFrom_below (by omega) (by omega)))
  (fun _ _ _ _ _ hs _ _=>hs)
  ⟨⟨⟨bS,bT2⟩,bF,bR2⟩,hBw⟩
  (fun x a' W=>∃ Bx,B+3<Bx/\W.heap[Bx]? = some (aG x.1.1 x.1.2)/\a'={ tmps:=#[.func (.func 139) #[] (tkF bl ba bp),.func (.func 145) #[] #[],undef,.pointer (some ⟨B,0,none⟩),.pointer (some ⟨B+1,0,none⟩),.bool false,.pointer (some ⟨B+2,0,none⟩),.pointer (some ⟨B+3,0,none⟩),.pointer (some ⟨Bx,0,none⟩),.func (.func 139) #[] (tkF bl ba bp),jZ x.1,undef,undef,undef,undef,undef,undef,undef,undef,undef,undef,undef],defers:=[] })
  (fun x a' _ X Y row hs hg hr=>by obtain ⟨Bx,h1,h2,h3⟩:=hs;exact ⟨Bx,h1,dM h2 hg (fun r e=>(hr r e).2),h3⟩)
  ?assign ?body ?done ?stop
 case assign =>
  rintro l pre x W K ⟨⟨⟨bS1,bT1⟩,bF1,bR1⟩,hB1⟩ hK;have h2:=bS1.lt;gi_wp2
  exact hK _ _ ((KeepsOthers.alloc _ _).from _) ((Below.refl _ W).alloc (by omega) _) ⟨⟨⟨bS1.alloc _,(Below.heap_alloc W _ _ (aB bT1)).trans bT1⟩,bF1.alloc _,(Below.heap_alloc W _ _ (aB bR1)).trans bR1⟩,hB1.alloc (by omega) _⟩ ⟨W.heap.size,bS1.lt,heap_alloc_new W _,rfl⟩
 case body =>
  rintro l pre x a' W hl ⟨r,hr⟩ ⟨⟨⟨bS1,bT1⟩,bF1,bR1⟩,hB1⟩ ⟨Bx,hBx,bX,rfl⟩ hlt;have hz:=bS1.lt;obtain ⟨⟨x0,x1⟩, -⟩:=two bX;have c1:=bS1.cell;have c2:=bF1.cell;have f1:=bS1.frozen;obtain ⟨⟨t0,t1⟩,g0,g1⟩:=two bT1;have hsn:=pX less pre x;cases ho:aY less pre with
  | none =>
    rw [ho] at bS1 c1 bT1 t0 t1 hsn;simp only [Option.isSome_none] at c1 bS1;gi_wp2
    refine ⟨fun _ h=>(by cases h),?_⟩;gi_wp2
    obtain ⟨q1,q2,q3⟩:=lJ (D:=W0.heap.size) (n0:=w0.heap.size) (v0:=x.1.1) (v1:=x.1.2) bS1 bT1 bF1 bR1 hB1 hz0;refine ⟨q1,q2,?_⟩;dsimp only;rw [hsn];exact q3
  | some b =>
    rw [ho] at bS1 c1 t0 t1 bT1 hsn;simp only [Option.isSome_some] at c1 bS1;have ST:=aA (hst x b W);cases hlb:less x b with
    | true =>
      rw [hlb] at ST;gi_wp2_with (refine ⟨trivial,?_⟩;gi_at_call 145;refine (CallsIn.inRound l (callsIn_wide.2 ST.out)).mono ?_;rintro e W2 ⟨rfl,hb2⟩;have bX2:=(hb2.block _ (aB bX)).trans bX;have bT2':=(hb2.block _ (aB bT1)).trans bT1;have bS2:Boxed W2 (B+3) 4 (.bool true):=(hb2.block _ bS1.lt).trans bS1;obtain ⟨⟨x20,x21⟩, -⟩:=two bX2;obtain ⟨⟨t20,t21⟩,g20,g21⟩:=two bT2';have f2:=bS2.frozen;have c21:=bS2.cell)
      have bF2:=(hb2.block _ bF1.lt).trans bF1;have bR2':=(hb2.block _ (aB bR1)).trans bR1;obtain ⟨q1,q2,q3⟩:=lJ (D:=W0.heap.size) (n0:=w0.heap.size) (v0:=x.1.1) (v1:=x.1.2) bS2 bT2' bF2 bR2' (hB1.trans (hb2.mono (by omega))) hz0;refine ⟨(d9 hb2 _).trans q1,(hb2.mono (by omega)).trans q2,?_⟩;dsimp only;rw [hsn,show stB less (some b) x=some x by simp [stB,hlb]];exact q3
    | false =>
      rw [hlb] at ST;gi_wp2_with (refine ⟨trivial,?_⟩;gi_at_call 145;refine (CallsIn.inRound l (callsIn_wide.2 ST.out)).mono ?_;rintro e W2 ⟨rfl,hb2⟩)
      refine ⟨d9 hb2 _,hb2.mono (by omega),?_⟩;dsimp only;rw [hsn,show stB less (some b) x=some b by simp [stB,hlb]];exact ⟨⟨⟨(hb2.block _ bS1.lt).trans bS1,(hb2.block _ (aB bT1)).trans bT1⟩,(hb2.block _ bF1.lt).trans bF1,(hb2.block _ (aB bR1)).trans bR1⟩,hB1.trans (hb2.mono (by omega))⟩
 case done =>
  rintro D ys W hD rfl ⟨⟨⟨bS1,bT1⟩,bF1,bR1⟩,hB1⟩ hK;have c1:=bS1.cell;obtain ⟨⟨t0,t1⟩,g0,g1⟩:=two bT1;obtain ⟨⟨r00,r01⟩,r0,r1⟩:=two bR1;have e0:W.drew.frozen? ⟨B+1,0,none⟩=false:=r0;have e1:W.drew.frozen? ⟨B+1,1,none⟩=false:=r1;have e2:W.drew.cell? ⟨B+1,0,none⟩=some (.int .i64 0):=r00;have e3:W.drew.cell? ⟨B+1,1,none⟩=some (.int .i64 0):=r01;gi_wp2
  gi_region
  gi_wp2
  have hz:=bS1.lt;obtain ⟨V,hV⟩:∃ V,((W.setCell ⟨B+1,0,none⟩ (.int .i64 (cQ (aY less ys)).1)).setCell ⟨B+1,1,none⟩ (.int .i64 (cQ (aY less ys)).2)).drew=V:=⟨_,rfl⟩;have hkp:=((((aC.refl (fun b=>b=B+1) W).setCell (p:=⟨B+1,0,none⟩) (.inl rfl) (.int .i64 (cQ (aY less ys)).1)).setCell (p:=⟨B+1,1,none⟩) (.inl rfl) (.int .i64 (cQ (aY less ys)).2))).drew;have hT:V.heap[B+1]? = some (aG (cQ (aY less ys)).1 (cQ (aY less ys)).2):=by rw [<- hV];exact iF bR1 _ _
  rw [hV] at hkp |-
  have hKV:=hkp.heap hK (by omega);have hBV:Below B w V:=hB1.trans (hkp.below (fun i hi=>by omega) (by omega));clear hV e0 e1 e2 e3 r00 r01 r0 r1 t0 t1 g0 g1 c1;refine ⟨by simp,.inl ⟨_,_,rfl,run_takeDeferred hKV,?_⟩⟩;have hT2:(V.putObj D (.deferred none)).heap[B+1]? = some (aG (cQ (aY less ys)).1 (cQ (aY less ys)).2):=(World.putObj_heap_other (by omega)).trans hT;obtain ⟨⟨y0,y1⟩, -⟩:=two hT2;refine ⟨.tuple #[jZ (cQ (aY less ys)),.bool (aY less ys).isSome],by simp [results,Tryz.f91,go_sem,y0,y1],rfl,?_⟩;rw [hB0];exact hBV.trans (lK (w:=W0) (by omega) V D _ _ hD hKV)
 case stop =>
  rintro D c pre W _ _ h _;exact h.elim
theorem JJ (bl ba bp:Nat) (L:List Q64) (w0 w:World) (hseq:Hk bl ba bp L w0) (hb0:Below w0.heap.size w0 w) (less:Q64->Q64->Bool)
 (hst:∀ (a b:Q64) (W:World),Calls Tryz.prog 146 #[jZ a.1,jZ b.1] W fun e W'=>e=.returned (.bool (less a b))/\Below W.heap.size W W') :
 CallsIn Fence.wide 4 Tryz.prog 91 #[.func (.func 139) #[] (tkF bl ba bp),.func (.func 146) #[] #[]] w fun e w'=>e=.returned (.tuple #[jZ (cQ (aY less L)),.bool (aY less L).isSome])/\Below w.heap.size w w':=by
 refine callsIn_of_wp_marks Tryz.func91 rfl trivial ?_ rfl;simp only [Tryz.ntmps91,List.size_toArray,List.length_cons,List.length_nil,Nat.reduceAdd,Nat.reduceSub,Array.replicate_succ,Array.replicate_zero,List.push_toArray,List.append_toArray,List.nil_append,List.cons_append];gi_wp2
 obtain ⟨B,hB0⟩:∃ B,w.heap.size=B:=⟨_,rfl⟩;have bF:=(((Boxed.new w 171 (.func (.func 146) #[] #[])).alloc (aG 0 0)).alloc (aG 0 0)).alloc (.cells #[.bool false] 4);have bR:=heap_alloc_new (w.alloc (.cells #[.func (.func 146) #[] #[]] 171)) (aG 0 0);have bT:=heap_alloc_new ((w.alloc (.cells #[.func (.func 146) #[] #[]] 171)).alloc (aG 0 0)) (aG 0 0);have bS:=Boxed.new (((w.alloc (.cells #[.func (.func 146) #[] #[]] 171)).alloc (aG 0 0)).alloc (aG 0 0)) 4 (.bool false);have hBw:Below B w ((((w.alloc (.cells #[.func (.func 146) #[] #[]] 171)).alloc (aG 0 0)).alloc (aG 0 0)).alloc (.cells #[.bool false] 4)):=((((Below.refl _ w).alloc (by omega) _).alloc (by simp;omega) _).alloc (by simp;omega) _).alloc (by simp;omega) _;have hsz:((((w.alloc (.cells #[.func (.func 146) #[] #[]] 171)).alloc (aG 0 0)).alloc (aG 0 0)).alloc (.cells #[.bool false] 4)).heap.size=B+4:=by simp;omega
 have bR2:((((w.alloc (.cells #[.func (.func 146) #[] #[]] 171)).alloc (aG 0 0)).alloc (aG 0 0)).alloc (.cells #[.bool false] 4)).heap[B+1]? = some (aG 0 0):=by
  rw [World.size_alloc,hB0] at bR;exact ((((Below.refl (B+2) ((w.alloc (.cells #[.func (.func 146) #[] #[]] 171)).alloc (aG 0 0))).alloc (by simp;omega) (aG 0 0)).alloc (by simp;omega) (.cells #[.bool false] 4)).block _ (by omega)).trans bR
 have bT2:((((w.alloc (.cells #[.func (.func 146) #[] #[]] 171)).alloc (aG 0 0)).alloc (aG 0 0)).alloc (.cells #[.bool false] 4)).heap[B+2]? = some (aG 0 0):=by
  rw [World.size_alloc,World.size_alloc,hB0] at bT;exact (((Below.refl (B+3) (((w.alloc (.cells #[.func (.func 146) #[] #[]] 171)).alloc (aG 0 0)).alloc (aG 0 0))).alloc (by simp;omega) (.cells #[.bool false] 4)).block _ (by omega)).trans bT
 clear bR bT;simp only [World.size_alloc,hB0] at bF bS |-
 obtain ⟨W0,hW0⟩:∃ W0,(((w.alloc (.cells #[.func (.func 146) #[] #[]] 171)).alloc (aG 0 0)).alloc (aG 0 0)).alloc (.cells #[.bool false] 4)=W0:=⟨_,rfl⟩;rw [hW0] at bF bS bR2 bT2 hBw hsz;rw [show (((w.alloc (.cells #[.func (.func 146) #[] #[]] 171)).alloc (.cells #[.int .i64 0,.int .i64 0] 163)).alloc (.cells #[.int .i64 0,.int .i64 0] 163)).alloc (.cells #[.bool false] 4)=W0 from hW0];have hz0:w0.heap.size<=B:=by have:=hb0.size;omega
 clear hW0
 refine wpIn_rangeFunc_ownH rfl (by decide) (gf:=139) (lb:=tkF bl ba bp) rfl trivial (enters_of Tryz.func139 (by kernel_rfl) rfl)
  hseq belowK_t (belowK_b (by omega)) (hb0.trans (hBw.mono hz0)) (fun _=>rfl)
  (fun pre W=>((Boxed W (B+3) 4 (.bool (aY less pre).isSome)/\W.heap[B+2]? = some (aG (cQ (aY less pre)).1 (cQ (aY less pre)).2))/\(Boxed W B 171 (.func (.func 146) #[] #[])/\W.heap[B+1]? = some (aG 0 0)))/\Below B w W)
  (fun _ _ _=>False)
  (OwnFrom.and (OwnFrom.and (OwnFrom.and (Own.from (boxed_own _ _ _) _) (fun s X Y row hs hg hr=>dM hs hg (fun r e=>(hr r e).2))) (OwnFrom.and (Own.from (boxed_own _ _ _) _) (fun s X Y row hs hg hr=>dM hs hg (fun r e=>(hr r e).2)))) (ownFrom_below (by omega) (by omega)))
  (fun _ _ _ _ _ hs _ _=>hs)
  ⟨⟨⟨bS,bT2⟩,bF,bR2⟩,hBw⟩
  (fun x a' W=>∃ Bx,B+3<Bx/\W.heap[Bx]? = some (aG x.1.1 x.1.2)/\a'={ tmps:=#[.func (.func 139) #[] (tkF bl ba bp),.func (.func 146) #[] #[],undef,.pointer (some ⟨B,0,none⟩),.pointer (some ⟨B+1,0,none⟩),.bool false,.pointer (some ⟨B+2,0,none⟩),.pointer (some ⟨B+3,0,none⟩),.pointer (some ⟨Bx,0,none⟩),.func (.func 139) #[] (tkF bl ba bp),jZ x.1,undef,undef,undef,undef,undef,undef,undef,undef,undef,undef,undef],defers:=[] })
  (fun x a' _ X Y row hs hg hr=>by obtain ⟨Bx,h1,h2,h3⟩:=hs;exact ⟨Bx,h1,dM h2 hg (fun r e=>(hr r e).2),h3⟩)
  ?assign ?body ?done ?stop
 case assign =>
  rintro l pre x W K ⟨⟨⟨bS1,bT1⟩,bF1,bR1⟩,hB1⟩ hK;have h2:=bS1.lt;gi_wp2
  exact hK _ _ ((KeepsOthers.alloc _ _).from _) ((Below.refl _ W).alloc (by omega) _) ⟨⟨⟨bS1.alloc _,(Below.heap_alloc W _ _ (aB bT1)).trans bT1⟩,bF1.alloc _,(Below.heap_alloc W _ _ (aB bR1)).trans bR1⟩,hB1.alloc (by omega) _⟩ ⟨W.heap.size,bS1.lt,heap_alloc_new W _,rfl⟩
 case body =>
  rintro l pre x a' W hl ⟨r,hr⟩ ⟨⟨⟨bS1,bT1⟩,bF1,bR1⟩,hB1⟩ ⟨Bx,hBx,bX,rfl⟩ hlt;have hz:=bS1.lt;obtain ⟨⟨x0,x1⟩, -⟩:=two bX;have c1:=bS1.cell;have c2:=bF1.cell;have f1:=bS1.frozen;obtain ⟨⟨t0,t1⟩,g0,g1⟩:=two bT1;have hsn:=pX less pre x;cases ho:aY less pre with
  | none =>
    rw [ho] at bS1 c1 bT1 t0 t1 hsn;simp only [Option.isSome_none] at c1 bS1;gi_wp2
    refine ⟨fun _ h=>(by cases h),?_⟩;gi_wp2
    obtain ⟨q1,q2,q3⟩:=lJ (D:=W0.heap.size) (n0:=w0.heap.size) (v0:=x.1.1) (v1:=x.1.2) bS1 bT1 bF1 bR1 hB1 hz0;refine ⟨q1,q2,?_⟩;dsimp only;rw [hsn];exact q3
  | some b =>
    rw [ho] at bS1 c1 t0 t1 bT1 hsn;simp only [Option.isSome_some] at c1 bS1;have ST:=aA (hst x b W);cases hlb:less x b with
    | true =>
      rw [hlb] at ST;gi_wp2_with (refine ⟨trivial,?_⟩;gi_at_call 146;refine (CallsIn.inRound l (callsIn_wide.2 ST.out)).mono ?_;rintro e W2 ⟨rfl,hb2⟩;have bX2:=(hb2.block _ (aB bX)).trans bX;have bT2':=(hb2.block _ (aB bT1)).trans bT1;have bS2:Boxed W2 (B+3) 4 (.bool true):=(hb2.block _ bS1.lt).trans bS1;obtain ⟨⟨x20,x21⟩, -⟩:=two bX2;obtain ⟨⟨t20,t21⟩,g20,g21⟩:=two bT2';have f2:=bS2.frozen;have c21:=bS2.cell)
      have bF2:=(hb2.block _ bF1.lt).trans bF1;have bR2':=(hb2.block _ (aB bR1)).trans bR1;obtain ⟨q1,q2,q3⟩:=lJ (D:=W0.heap.size) (n0:=w0.heap.size) (v0:=x.1.1) (v1:=x.1.2) bS2 bT2' bF2 bR2' (hB1.trans (hb2.mono (by omega))) hz0;refine ⟨(d9 hb2 _).trans q1,(hb2.mono (by omega)).trans q2,?_⟩;dsimp only;rw [hsn,show stB less (some b) x=some x by simp [stB,hlb]];exact q3
    | false =>
      rw [hlb] at ST;gi_wp2_with (refine ⟨trivial,?_⟩;gi_at_call 146;refine (CallsIn.inRound l (callsIn_wide.2 ST.out)).mono ?_;rintro e W2 ⟨rfl,hb2⟩)
      refine ⟨d9 hb2 _,hb2.mono (by omega),?_⟩;dsimp only;rw [hsn,show stB less (some b) x=some b by simp [stB,hlb]];exact ⟨⟨⟨(hb2.block _ bS1.lt).trans bS1,(hb2.block _ (aB bT1)).trans bT1⟩,(hb2.block _ bF1.lt).trans bF1,(hb2.block _ (aB bR1)).trans bR1⟩,hB1.trans (hb2.mono (by omega))⟩
 case done =>
  rintro D ys W hD rfl ⟨⟨⟨bS1,bT1⟩,bF1,bR1⟩,hB1⟩ hK;have c1:=bS1.cell;obtain ⟨⟨t0,t1⟩,g0,g1⟩:=two bT1;obtain ⟨⟨r00,r01⟩,r0,r1⟩:=two bR1;have e0:W.drew.frozen? ⟨B+1,0,none⟩=false:=r0;have e1:W.drew.frozen? ⟨B+1,1,none⟩=false:=r1;have e2:W.drew.cell? ⟨B+1,0,none⟩=some (.int .i64 0):=r00;have e3:W.drew.cell? ⟨B+1,1,none⟩=some (.int .i64 0):=r01;gi_wp2
  gi_region
  gi_wp2
  have hz:=bS1.lt;obtain ⟨V,hV⟩:∃ V,((W.setCell ⟨B+1,0,none⟩ (.int .i64 (cQ (aY less ys)).1)).setCell ⟨B+1,1,none⟩ (.int .i64 (cQ (aY less ys)).2)).drew=V:=⟨_,rfl⟩;have hkp:=((((aC.refl (fun b=>b=B+1) W).setCell (p:=⟨B+1,0,none⟩) (.inl rfl) (.int .i64 (cQ (aY less ys)).1)).setCell (p:=⟨B+1,1,none⟩) (.inl rfl) (.int .i64 (cQ (aY less ys)).2))).drew;have hT:V.heap[B+1]? = some (aG (cQ (aY less ys)).1 (cQ (aY less ys)).2):=by rw [<- hV];exact iF bR1 _ _
  rw [hV] at hkp |-
  have hKV:=hkp.heap hK (by omega);have hBV:Below B w V:=hB1.trans (hkp.below (fun i hi=>by omega) (by omega));clear hV e0 e1 e2 e3 r00 r01 r0 r1 t0 t1 g0 g1 c1;refine ⟨by simp,.inl ⟨_,_,rfl,run_takeDeferred hKV,?_⟩⟩;have hT2:(V.putObj D (.deferred none)).heap[B+1]? = some (aG (cQ (aY less ys)).1 (cQ (aY less ys)).2):=(World.putObj_heap_other (by omega)).trans hT;obtain ⟨⟨y0,y1⟩, -⟩:=two hT2;refine ⟨.tuple #[jZ (cQ (aY less ys)),.bool (aY less ys).isSome],by simp [results,Tryz.f91,go_sem,y0,y1],rfl,?_⟩;rw [hB0];exact hBV.trans (lK (w:=W0) (by omega) V D _ _ hD hKV)
 case stop =>
  rintro D c pre W _ _ h _;exact h.elim
theorem JI (bl ba bp:Nat) (L:List Q64) (w0 w:World) (hseq:Hk bl ba bp L w0) (hb0:Below w0.heap.size w0 w) (less:Q64->Q64->Bool)
 (hst:∀ (a b:Q64) (W:World),Calls Tryz.prog 147 #[jZ a.1,jZ b.1] W fun e W'=>e=.returned (.bool (less a b))/\Below W.heap.size W W') :
 CallsIn Fence.wide 4 Tryz.prog 91 #[.func (.func 139) #[] (tkF bl ba bp),.func (.func 147) #[] #[]] w fun e w'=>e=.returned (.tuple #[jZ (cQ (aY less L)),.bool (aY less L).isSome])/\Below w.heap.size w w':=by
 refine callsIn_of_wp_marks Tryz.func91 rfl trivial ?_ rfl;simp only [Tryz.ntmps91,List.size_toArray,List.length_cons,List.length_nil,Nat.reduceAdd,Nat.reduceSub,Array.replicate_succ,Array.replicate_zero,List.push_toArray,List.append_toArray,List.nil_append,List.cons_append];gi_wp2
 obtain ⟨B,hB0⟩:∃ B,w.heap.size=B:=⟨_,rfl⟩;have bF:=(((Boxed.new w 171 (.func (.func 147) #[] #[])).alloc (aG 0 0)).alloc (aG 0 0)).alloc (.cells #[.bool false] 4);have bR:=heap_alloc_new (w.alloc (.cells #[.func (.func 147) #[] #[]] 171)) (aG 0 0);have bT:=heap_alloc_new ((w.alloc (.cells #[.func (.func 147) #[] #[]] 171)).alloc (aG 0 0)) (aG 0 0);have bS:=Boxed.new (((w.alloc (.cells #[.func (.func 147) #[] #[]] 171)).alloc (aG 0 0)).alloc (aG 0 0)) 4 (.bool false);have hBw:Below B w ((((w.alloc (.cells #[.func (.func 147) #[] #[]] 171)).alloc (aG 0 0)).alloc (aG 0 0)).alloc (.cells #[.bool false] 4)):=((((Below.refl _ w).alloc (by omega) _).alloc (by simp;omega) _).alloc (by simp;omega) _).alloc (by simp;omega) _;have hsz:((((w.alloc (.cells #[.func (.func 147) #[] #[]] 171)).alloc (aG 0 0)).alloc (aG 0 0)).alloc (.cells #[.bool false] 4)).heap.size=B+4:=by simp;omega
 have bR2:((((w.alloc (.cells #[.func (.func 147) #[] #[]] 171)).alloc (aG 0 0)).alloc (aG 0 0)).alloc (.cells #[.bool false] 4)).heap[B+1]? = some (aG 0 0):=by
  rw [World.size_alloc,hB0] at bR;exact ((((Below.refl (B+2) ((w.alloc (.cells #[.func (.func 147) #[] #[]] 171)).alloc (aG 0 0))).alloc (by simp;omega) (aG 0 0)).alloc (by simp;omega) (.cells #[.bool false] 4)).block _ (by omega)).trans bR
 have bT2:((((w.alloc (.cells #[.func (.func 147) #[] #[]] 171)).alloc (aG 0 0)).alloc (aG 0 0)).alloc (.cells #[.bool false] 4)).heap[B+2]? = some (aG 0 0):=by
  rw [World.size_alloc,World.size_alloc,hB0] at bT;exact (((Below.refl (B+3) (((w.alloc (.cells #[.func (.func 147) #[] #[]] 171)).alloc (aG 0 0)).alloc (aG 0 0))).alloc (by simp;omega) (.cells #[.bool false] 4)).block _ (by omega)).trans bT
 clear bR bT;simp only [World.size_alloc,hB0] at bF bS |-
 obtain ⟨W0,hW0⟩:∃ W0,(((w.alloc (.cells #[.func (.func 147) #[] #[]] 171)).alloc (aG 0 0)).alloc (aG 0 0)).alloc (.cells #[.bool false] 4)=W0:=⟨_,rfl⟩;rw [hW0] at bF bS bR2 bT2 hBw hsz;rw [show (((w.alloc (.cells #[.func (.func 147) #[] #[]] 171)).alloc (.cells #[.int .i64 0,.int .i64 0] 163)).alloc (.cells #[.int .i64 0,.int .i64 0] 163)).alloc (.cells #[.bool false] 4)=W0 from hW0];have hz0:w0.heap.size<=B:=by have:=hb0.size;omega
 clear hW0
 refine wpIn_rangeFunc_ownH rfl (by decide) (gf:=139) (lb:=tkF bl ba bp) rfl trivial (enters_of Tryz.func139 (by kernel_rfl) rfl)
  hseq belowK_t (belowK_b (by omega)) (hb0.trans (hBw.mono hz0)) (fun _=>rfl)
  (fun pre W=>((Boxed W (B+3) 4 (.bool (aY less pre).isSome)/\W.heap[B+2]? = some (aG (cQ (aY less pre)).1 (cQ (aY less pre)).2))/\(Boxed W B 171 (.func (.func 147) #[] #[])/\W.heap[B+1]? = some (aG 0 0)))/\Below B w W)
  (fun _ _ _=>False)
  (OwnFrom.and (OwnFrom.and (OwnFrom.and (Own.from (boxed_own _ _ _) _) (fun s X Y row hs hg hr=>dM hs hg (fun r e=>(hr r e).2))) (OwnFrom.and (Own.from (boxed_own _ _ _) _) (fun s X Y row hs hg hr=>dM hs hg (fun r e=>(hr r e).2)))) (ownFrom_below (by omega) (by omega)))
  (fun _ _ _ _ _ hs _ _=>hs)
  ⟨⟨⟨bS,bT2⟩,bF,bR2⟩,hBw⟩
  (fun x a' W=>∃ Bx,B+3<Bx/\W.heap[Bx]? = some (aG x.1.1 x.1.2)/\a'={ tmps:=#[.func (.func 139) #[] (tkF bl ba bp),.func (.func 147) #[] #[],undef,.pointer (some ⟨B,0,none⟩),.pointer (some ⟨B+1,0,none⟩),.bool false,.pointer (some ⟨B+2,0,none⟩),.pointer (some ⟨B+3,0,none⟩),.pointer (some ⟨Bx,0,none⟩),.func (.func 139) #[] (tkF bl ba bp),jZ x.1,undef,undef,undef,undef,undef,undef,undef,undef,undef,undef,undef],defers:=[] })
  (fun x a' _ X Y row hs hg hr=>by obtain ⟨Bx,h1,h2,h3⟩:=hs;exact ⟨Bx,h1,dM h2 hg (fun r e=>(hr r e).2),h3⟩)
  ?assign ?body ?done ?stop
 case assign =>
  rintro l pre x W K ⟨⟨⟨bS1,bT1⟩,bF1,bR1⟩,hB1⟩ hK;have h2:=bS1.lt;gi_wp2
  exact hK _ _ ((KeepsOthers.alloc _ _).from _) ((Below.refl _ W).alloc (by omega) _) ⟨⟨⟨bS1.alloc _,(Below.heap_alloc W _ _ (aB bT1)).trans bT1⟩,bF1.alloc _,(Below.heap_alloc W _ _ (aB bR1)).trans bR1⟩,hB1.alloc (by omega) _⟩ ⟨W.heap.size,bS1.lt,heap_alloc_new W _,rfl⟩
 case body =>
  rintro l pre x a' W hl ⟨r,hr⟩ ⟨⟨⟨bS1,bT1⟩,bF1,bR1⟩,hB1⟩ ⟨Bx,hBx,bX,rfl⟩ hlt;have hz:=bS1.lt;obtain ⟨⟨x0,x1⟩, -⟩:=two bX;have c1:=bS1.cell;have c2:=bF1.cell;have f1:=bS1.frozen;obtain ⟨⟨t0,t1⟩,g0,g1⟩:=two bT1;have hsn:=pX less pre x;cases ho:aY less pre with
  | none =>
    rw [ho] at bS1 c1 bT1 t0 t1 hsn;simp only [Option.isSome_none] at c1 bS1;gi_wp2
    refine ⟨fun _ h=>(by cases h),?_⟩;gi_wp2
    obtain ⟨q1,q2,q3⟩:=lJ (D:=W0.heap.size) (n0:=w0.heap.size) (v0:=x.1.1) (v1:=x.1.2) bS1 bT1 bF1 bR1 hB1 hz0;refine ⟨q1,q2,?_⟩;dsimp only;rw [hsn];exact q3
  | some b =>
    rw [ho] at bS1 c1 t0 t1 bT1 hsn;simp only [Option.isSome_some] at c1 bS1;have ST:=aA (hst x b W);cases hlb:less x b with
    | true =>
      rw [hlb] at ST;gi_wp2_with (refine ⟨trivial,?_⟩;gi_at_call 147;refine (CallsIn.inRound l (callsIn_wide.2 ST.out)).mono ?_;rintro e W2 ⟨rfl,hb2⟩;have bX2:=(hb2.block _ (aB bX)).trans bX;have bT2':=(hb2.block _ (aB bT1)).trans bT1;have bS2:Boxed W2 (B+3) 4 (.bool true):=(hb2.block _ bS1.lt).trans bS1;obtain ⟨⟨x20,x21⟩, -⟩:=two bX2;obtain ⟨⟨t20,t21⟩,g20,g21⟩:=two bT2';have f2:=bS2.frozen;have c21:=bS2.cell)
      have bF2:=(hb2.block _ bF1.lt).trans bF1;have bR2':=(hb2.block _ (aB bR1)).trans bR1;obtain ⟨q1,q2,q3⟩:=lJ (D:=W0.heap.size) (n0:=w0.heap.size) (v0:=x.1.1) (v1:=x.1.2) bS2 bT2' bF2 bR2' (hB1.trans (hb2.mono (by omega))) hz0;refine ⟨(d9 hb2 _).trans q1,(hb2.mono (by omega)).trans q2,?_⟩;dsimp only;rw [hsn,show stB less (some b) x=some x by simp [stB,hlb]];exact q3
    | false =>
      rw [hlb] at ST;gi_wp2_with (refine ⟨trivial,?_⟩;gi_at_call 147;refine (CallsIn.inRound l (callsIn_wide.2 ST.out)).mono ?_;rintro e W2 ⟨rfl,hb2⟩)
      refine ⟨d9 hb2 _,hb2.mono (by omega),?_⟩;dsimp only;rw [hsn,show stB less (some b) x=some b by simp [stB,hlb]];exact ⟨⟨⟨(hb2.block _ bS1.lt).trans bS1,(hb2.block _ (aB bT1)).trans bT1⟩,(hb2.block _ bF1.lt).trans bF1,(hb2.block _ (aB bR1)).trans bR1⟩,hB1.trans (hb2.mono (by omega))⟩
 case done =>
  rintro D ys W hD rfl ⟨⟨⟨bS1,bT1⟩,bF1,bR1⟩,hB1⟩ hK;have c1:=bS1.cell;obtain ⟨⟨t0,t1⟩,g0,g1⟩:=two bT1;obtain ⟨⟨r00,r01⟩,r0,r1⟩:=two bR1;have e0:W.drew.frozen? ⟨B+1,0,none⟩=false:=r0;have e1:W.drew.frozen? ⟨B+1,1,none⟩=false:=r1;have e2:W.drew.cell? ⟨B+1,0,none⟩=some (.int .i64 0):=r00;have e3:W.drew.cell? ⟨B+1,1,none⟩=some (.int .i64 0):=r01;gi_wp2
  gi_region
  gi_wp2
  have hz:=bS1.lt;obtain ⟨V,hV⟩:∃ V,((W.setCell ⟨B+1,0,none⟩ (.int .i64 (cQ (aY less ys)).1)).setCell ⟨B+1,1,none⟩ (.int .i64 (cQ (aY less ys)).2)).drew=V:=⟨_,rfl⟩;have hkp:=((((aC.refl (fun b=>b=B+1) W).setCell (p:=⟨B+1,0,none⟩) (.inl rfl) (.int .i64 (cQ (aY less ys)).1)).setCell (p:=⟨B+1,1,none⟩) (.inl rfl) (.int .i64 (cQ (aY less ys)).2))).drew;have hT:V.heap[B+1]? = some (aG (cQ (aY less ys)).1 (cQ (aY less ys)).2):=by rw [<- hV];exact iF bR1 _ _
  rw [hV] at hkp |-
  have hKV:=hkp.heap hK (by omega);have hBV:Below B w V:=hB1.trans (hkp.below (fun i hi=>by omega) (by omega));clear hV e0 e1 e2 e3 r00 r01 r0 r1 t0 t1 g0 g1 c1;refine ⟨by simp,.inl ⟨_,_,rfl,run_takeDeferred hKV,?_⟩⟩;have hT2:(V.putObj D (.deferred none)).heap[B+1]? = some (aG (cQ (aY less ys)).1 (cQ (aY less ys)).2):=(World.putObj_heap_other (by omega)).trans hT;obtain ⟨⟨y0,y1⟩, -⟩:=two hT2;refine ⟨.tuple #[jZ (cQ (aY less ys)),.bool (aY less ys).isSome],by simp [results,Tryz.f91,go_sem,y0,y1],rfl,?_⟩;rw [hB0];exact hBV.trans (lK (w:=W0) (by omega) V D _ _ hD hKV)
 case stop =>
  rintro D c pre W _ _ h _;exact h.elim
theorem Dd {x:AG} (h:x.fn.data.toList=aT) (gs:List (ByteArray->Option Int)):gB x gs=(gA x gs).map (fun _=>((0:Int),(0:Int))):=by
 have hE:eP x.fn.data.toList=false:=by rw [h];decide
 have hB:bP x.fn.data.toList=false:=by rw [h];decide
 unfold gB gA;induction gs with
 | nil=>rfl
 | cons g gs ih =>
   have h1:jH x g=if cZ g x.wh=true then some (0,0) else none:=by unfold jH;rw [hE,hB];cases cZ g x.wh <;> rfl
   rw [List.filterMap_cons,List.filter_cons,h1];cases cZ g x.wh
   · simpa using ih
   · simp [ih]
theorem zO {x:AG} (hE:eP x.fn.data.toList=true) (hB:bP x.fn.data.toList=false) (gs:List (ByteArray->Option Int)):gB x gs=(wD x gs).map (fun e=>(e,(0:Int))):=by
 unfold gB wD gA;induction gs with
 | nil=>rfl
 | cons g gs ih =>
   have h1:jH x g=if cZ g x.wh=true then (evT g x.e).map (fun e=>(e,0)) else none:=by unfold jH;rw [hE,hB];cases cZ g x.wh <;> cases evT g x.e <;> rfl
   rw [List.filterMap_cons,List.filter_cons,h1];cases cZ g x.wh
   · simpa using ih
   · cases he:evT g x.e <;> simp [he,ih]
theorem Mv {x:AG} (hE:eP x.fn.data.toList=true) (hB:bP x.fn.data.toList=true) (gs:List (ByteArray->Option Int)):gB x gs=pQ x gs:=by
 unfold gB pQ gA;induction gs with
 | nil=>rfl
 | cons g gs ih =>
   have h1:jH x g=if cZ g x.wh=true then (match evT g x.e,evT g x.g with | some e,some b=>some (e,b) | _,_=>none) else none:=by unfold jH;rw [hE,hB];cases cZ g x.wh <;> cases evT g x.e <;> cases evT g x.g <;> rfl
   rw [List.filterMap_cons,List.filter_cons,h1];cases cZ g x.wh
   · simpa using ih
   · cases he:evT g x.e <;> cases hg:evT g x.g <;> simp [he,hg,ih]
abbrev xG (pre:List Q64):Int:=pre.foldl (fun s q=>dC (s+q.1.1)) 0
theorem Fk (pre:List Q64) (q:Q64):xG (pre++[q])=dC (xG pre+q.1.1):=by simp [xG]
theorem Km:∀ (pre:List Q64),bU (xG pre):=by
 intro pre;have z:bU 0:=by unfold bU;omega
 have:∀ (l:List Q64) (s:Int),bU s->bU (l.foldl (fun s q=>dC (s+q.1.1)) s):=by
  intro l;induction l with
  | nil=>exact fun s h=>h
  | cons q l ih=>exact fun s _=>ih _ (lH _)
 exact this pre 0 z
theorem An {L:List Q64} {evs:List Int} (h:L.map Subtype.val=evs.map (fun e=>(e,(0:Int)))):L.map (fun q=>q.1.1)=evs:=by
 have h2:=congrArg (List.map Prod.fst) h;simpa [List.map_map,Function.comp_def] using h2
theorem Mw {L:List Q64} {evs:List Int} (h:L.map (fun q=>q.1.1)=evs):xG L=evs.foldl (fun s e=>dC (s+e)) 0:=by rw [<- h,List.foldl_map]
theorem Ms {L:List Q64} {evs:List Int} (h:L.map (fun q=>q.1.1)=evs) (most:Nat):rP most L=iN most (evs.foldl (eD lsL) []):=by
 subst h;rw [<- Gf most (L.map (fun q=>q.1.1)) [] List.Pairwise.nil,List.foldl_map];simp [rP,iN]
theorem Kn {K K':Type} (f:K->K') {less:K->K->Bool} {less':K'->K'->Bool} (h:∀ a b,less a b=less' (f a) (f b)) (l:List K):∀ (o:Option K),(l.foldl (stB less) o).map f=(l.map f).foldl (stB less') (o.map f):=by
 induction l with
 | nil=>intro o;rfl
 | cons q l ih =>
   intro o;rw [List.foldl_cons,ih,List.map_cons,List.foldl_cons];congr 1
   cases o with
   | none=>rfl
   | some b =>
     simp only [stB,Option.map_some];rw [<- h];split <;> rfl
theorem wT {K K':Type} (f:K->K') {less:K->K->Bool} {less':K'->K'->Bool} (h:∀ a b,less a b=less' (f a) (f b)) (l:List K):(aY less l).map f=aY less' (l.map f):=Kn f h l none
theorem rZ {x:AG} (h:fJ x=0) (hn:fK x) (hS:SzG x):OkX x:=by
 obtain ⟨h1,h2,h3,h4,h5,h6⟩:=cP h;refine ⟨fun he=>?_,fun he=>?_,fun d hd=>?_,by omega⟩
 · have hc:¬ x.fn.data.toList=aT:=fun hc=>by unfold eP at he;rw [hc] at he;simp at he
   exact ⟨h3 hc,hn.e,hS.e⟩
 · have hc:x.fn.data.toList=bE:=by unfold bP at he;simpa using he
   exact ⟨h4 hc,hn.g,hS.g⟩
 · have:=wF x.wh h6 d hd
   exact ⟨⟨(this.2.1),(hn.c d hd).1,(hS.c d hd).1⟩,⟨(this.2.2),(hn.c d hd).2,(hS.c d hd).2⟩⟩
structure EPW (w:World) (x:AG) (p:PA) (V:World):Prop where
 k:KP9 (fun b=>b<w.heap.size) w x p V
 o:V.heap[w.heap.size+1]? = some (vlA 0 0 none 0 0)
theorem EPW.step {w V V':World} {x:AG} {p:PA} (h:EPW w x p V) (hb:Below V.heap.size V V'):EPW w x p V' :=
 ⟨h.k.step hb,(hb.block _ (aB h.o)).trans h.o⟩
theorem oP {w:World} {x:AG} {p:PA} (hr:aJ (fun b=>b<w.heap.size) w x p):EPW w x p ((w.alloc (agP x p)).alloc (vlA 0 0 none 0 0)):=by
 have hz:(w.alloc (agP x p)).heap.size=w.heap.size+1:=World.size_alloc _ _;have n2:=heap_alloc_new (w.alloc (agP x p)) (vlA 0 0 none 0 0);rw [hz] at n2;exact ⟨(qW hr).step (bA0 _ _),n2⟩
theorem EPW.put {w V:World} {x:AG} {p:PA} (h:EPW w x p V) (u0 u1 u2 u3:Value) :
 Below w.heap.size w ((((V.setCell ⟨w.heap.size+1,0,none⟩ u0).setCell ⟨w.heap.size+1,1,none⟩ u1).setCell ⟨w.heap.size+1,2,none⟩ u2).setCell ⟨w.heap.size+1,3,none⟩ u3) :=
 h.k.b.trans ((((((aC.refl (· = w.heap.size+1) V).setCell (p:=⟨w.heap.size+1,0,none⟩) (.inl rfl) _).setCell (p:=⟨w.heap.size+1,1,none⟩) (.inl rfl) _).setCell (p:=⟨w.heap.size+1,2,none⟩) (.inl rfl) _).setCell (p:=⟨w.heap.size+1,3,none⟩) (.inl rfl) _).below (fun b hb=>by omega) h.k.z)
theorem NS {V w:World} {B:Nat} {T:List Int} {ta:Option Addr} {tc:Nat} (hB:w.heap.size+1<B) (ho:V.ownsRow B 2 1 (.slice ta T.length tc) T.length (ivK T)) {u0 u1 u2 u3:Value}:T=[]\/∃ b off,ta=some ⟨b,off,none⟩/\w.heap.size<=b/\b<((((V.setCell ⟨w.heap.size+1,0,none⟩ u0).setCell ⟨w.heap.size+1,1,none⟩ u1).setCell ⟨w.heap.size+1,2,none⟩ u2).setCell ⟨w.heap.size+1,3,none⟩ u3).heap.size/\∀ j n,T[j]? = some n->((((V.setCell ⟨w.heap.size+1,0,none⟩ u0).setCell ⟨w.heap.size+1,1,none⟩ u1).setCell ⟨w.heap.size+1,2,none⟩ u2).setCell ⟨w.heap.size+1,3,none⟩ u3).cell? ⟨b,off+j,none⟩=some (.int .i64 n):=by
 cases T with
 | nil=>exact .inl rfl
 | cons t T =>
   right;obtain ⟨g,hg,c0⟩:=iJ ho (show (ivK (t::T))[0]? = some (.int .i64 t) from rfl);have hlt:=(ho.lt g (by rw [hg];rfl));refine ⟨g,0,hg,by have:=hlt.1;omega,by simp only [World.size_setCell];exact hlt.2,fun j n hj=>?_⟩;obtain ⟨g',hg',c⟩:=iJ ho (show (ivK (t::T))[j]? = some (.int .i64 n) by rw [List.getElem?_map,hj];rfl);rw [hg] at hg';cases hg';rw [Nat.zero_add]
   exact (((((aC.refl (· = w.heap.size+1) V).setCell (p:=⟨w.heap.size+1,0,none⟩) (.inl rfl) u0).setCell (p:=⟨w.heap.size+1,1,none⟩) (.inl rfl) u1).setCell (p:=⟨w.heap.size+1,2,none⟩) (.inl rfl) u2).setCell (p:=⟨w.heap.size+1,3,none⟩) (.inl rfl) u3).cell c (fun e=>by
    have h1:=hlt.1;simp only at e;omega)
theorem zJ {f:Nat} {args:Array Value} {w:World} {Q:Ending->World->Prop} (h:CallsIn Fence.wide 4 Tryz.prog f args w Q):Calls Tryz.prog f args w Q:=callsIn_wide.1 h
theorem FK {G:Nat->Prop} (x:AG) (p:PA) (rs:List RW) (ya:Option Addr) (yc:Nat) (w:World) (h:fJ x=0) (hn:fK x) (hS:SzG x) (hU:∀ r∈rs,gN r.A r.n r.g) (hl:rs.length<=1000) (hr:aJ G w x p) (hy:bL w ya rs) (hc:x.fn.data.toList=aT) :
 Calls Tryz.prog 43 #[agV x p,.slice ya rs.length yc] w (mD (evG x (rs.map RW.g)) w):=by
 have hX:=rZ h hn hS;have gCount:(x.fn.toList == [99,111,117,110,116])=true:=cO (by rw [hc];decide);have gSum:(x.fn.toList == [115,117,109])=false:=aF (by rw [hc];decide);have gTop:(x.fn.toList == [116,111,112])=false:=aF (by rw [hc];decide);have gMin:(x.fn.toList == [109,105,110])=false:=aF (by rw [hc];decide);have gMax:(x.fn.toList == [109,97,120])=false:=aF (by rw [hc];decide);have gFirst:(x.fn.toList == [102,105,114,115,116])=false:=aF (by rw [hc];decide);have hr':aJ (fun b=>b<w.heap.size) w x p:=hr.imp (fun b hb _=>hb);have E0:=oP hr';have K1:=hX.l;obtain ⟨L,hL⟩:=jK _ (nZ hX hU)
 have hLl:L.length<=1000:=by
  have h1:(gB x (rs.map RW.g)).length<=(rs.map RW.g).length:=List.length_filterMap_le ..;rw [<- hL,List.length_map,List.length_map] at h1;omega
 have hcl:=sP hc (rs.map RW.g)
 rw [show ((gA x (rs.map RW.g)).length:Int)=(L.length:Int) by
  have h1:=congrArg List.length (hL.trans (Dd hc _));rw [List.length_map,List.length_map] at h1;rw [h1]] at hcl
 rw [hcl];have HX:=aA hX;have HU:=aA hU;have HL:=aA hL;have HLl:=aA hLl;have HY:=aA (fun V (hV:Below w.heap.size w V)=>fX hy hV);have CK:=aA (fun V (rd:aJ (fun b=>b<w.heap.size) V x p)=>eI x p V hS (by omega) rd);rw [h] at CK;generalize hW1:w.alloc (agP x p)=W1 at E0;generalize hW:W1.alloc (vlA 0 0 none 0 0)=W at E0;have HW1:=aA hW1;have HW:=aA hW;have HK:=aA E0;clear hW1 hW E0 h hn hS hU hr hr' hy hX hL hLl hcl;obtain ⟨m0,m1,m2,m3,m4,m5,m6,m7,m8,m9,m10⟩:=aP HK.out.k.n;go_enter Tryz.func43,Tryz.ntmps43
 go_upto_region 1 with fail
 rw [show w.alloc (.cells #[.string x.fn,.int .i64 x.k,.string x.e.op,.string x.e.nm,.int .i64 x.e.n,.slice p.ea x.e.ks.len p.ec,.string x.g.op,.string x.g.nm,.int .i64 x.g.n,.slice p.ga x.g.ks.len p.gc,.slice p.wa x.wh.length p.wc] 70)=W1 from HW1.out,show W1.alloc (.cells #[.int .i64 0,.int .i64 0,.string ⟨#[]⟩,.slice none 0 0] 60)=W from HW.out];go_wp2_with fail
 refine (CK.out _ HK.out.k.r).mono ?_;rintro e w1 ⟨rfl,hb1⟩;have K1:=aA (HK.out.step hb1);clear hb1 m0 m1 m2 m3 m4 m5 m6 m7 m8 m9 m10;obtain ⟨m0,m1,m2,m3,m4,m5,m6,m7,m8,m9,m10⟩:=aP K1.out.k.n;have TO:=aA (fU x p rs ya yc w1 K1.out.k.r (HY.out _ K1.out.k.b));go_wp2_with fail
 refine TO.out.mono ?_;rintro e w2 ⟨bl,ba,bp,rfl,ta,hb2⟩;have TA:=aA ta;have K2:=aA (K1.out.step hb2);clear hb2 ta TO m0 m1 m2 m3 m4 m5 m6 m7 m8 m9 m10;obtain ⟨m0,m1,m2,m3,m4,m5,m6,m7,m8,m9,m10⟩:=aP K2.out.k.n
 have FD:=aA (zJ (Jo bl ba bp L w2 w2 HLl.out (fT 2 HX.out HU.out (by omega) TA.out L HL.out) (Below.refl _ _) (fun pre:List Q64=>(pre.length:Int)) rfl (fun pre q V hlt=>by
  have h9:=HLl.out;refine (Fn (pre.length:Int) q.1.1 q.1.2 V (by omega) (by omega)).mono ?_;rintro e V' ⟨rfl,hb⟩;exact ⟨by simp,hb⟩)))
 go_wp2_with fail
 refine FD.out.mono ?_;rintro e w3 ⟨rfl,hb3⟩;have K3:=aA (K2.out.step hb3);clear hb3 FD m0 m1 m2 m3 m4 m5 m6 m7 m8 m9 m10;obtain ⟨m0,m1,m2,m3,m4,m5,m6,m7,m8,m9,m10⟩:=aP K3.out.k.n;have NU:=aA (fun V=>iK ((L.length:Int)) V);go_wp2_with fail
 refine (NU.out _).mono ?_;rintro e w4 ⟨rfl,hb4⟩;have K4:=aA (K3.out.step hb4);clear hb4 NU m0 m1 m2 m3 m4 m5 m6 m7 m8 m9 m10;obtain ⟨⟨o0,o1,o2,o3⟩,z0,z1,z2,z3⟩:=aL K4.out.o;go_wp2_with fail
 obtain ⟨⟨y0,y1,y2,y3⟩, -⟩:=aL (aU K4.out.o (.int .i64 1) (.int .i64 ((L.length:Int))) (.string ⟨#[]⟩) (.slice none 0 0));exact bodyPost_ret (v:=.tuple #[vlV 1 ((L.length:Int)) none 0 0,.bool true]) (by simp [results,Tryz.results43,go_sem,y0,y1,y2,y3]) rfl ⟨K4.out.put _ _ _ _,rfl⟩
theorem KH {G:Nat->Prop} (x:AG) (p:PA) (rs:List RW) (ya:Option Addr) (yc:Nat) (w:World) (h:fJ x=0) (hn:fK x) (hS:SzG x) (hU:∀ r∈rs,gN r.A r.n r.g) (hl:rs.length<=1000) (hr:aJ G w x p) (hy:bL w ya rs) (hc:x.fn.data.toList=qE) :
 Calls Tryz.prog 43 #[agV x p,.slice ya rs.length yc] w (mD (evG x (rs.map RW.g)) w):=by
 have hX:=rZ h hn hS;have gCount:(x.fn.toList == [99,111,117,110,116])=false:=aF (by rw [hc];decide);have gSum:(x.fn.toList == [115,117,109])=true:=cO (by rw [hc];decide);have gTop:(x.fn.toList == [116,111,112])=false:=aF (by rw [hc];decide);have gMin:(x.fn.toList == [109,105,110])=false:=aF (by rw [hc];decide);have gMax:(x.fn.toList == [109,97,120])=false:=aF (by rw [hc];decide);have gFirst:(x.fn.toList == [102,105,114,115,116])=false:=aF (by rw [hc];decide);have hr':aJ (fun b=>b<w.heap.size) w x p:=hr.imp (fun b hb _=>hb);have E0:=oP hr';have K1:=hX.l;obtain ⟨L,hL⟩:=jK _ (nZ hX hU)
 have hLl:L.length<=1000:=by
  have h1:(gB x (rs.map RW.g)).length<=(rs.map RW.g).length:=List.length_filterMap_le ..;rw [<- hL,List.length_map,List.length_map] at h1;omega
 have hcl:=Aq hc (rs.map RW.g);rw [<- Mw (An (hL.trans (zO (by rw [hc];decide) (by rw [hc];decide) _)))] at hcl;rw [hcl];have HX:=aA hX;have HU:=aA hU;have HL:=aA hL;have HLl:=aA hLl;have HY:=aA (fun V (hV:Below w.heap.size w V)=>fX hy hV);have CK:=aA (fun V (rd:aJ (fun b=>b<w.heap.size) V x p)=>eI x p V hS (by omega) rd);rw [h] at CK;generalize hW1:w.alloc (agP x p)=W1 at E0;generalize hW:W1.alloc (vlA 0 0 none 0 0)=W at E0;have HW1:=aA hW1;have HW:=aA hW;have HK:=aA E0;clear hW1 hW E0 h hn hS hU hr hr' hy hX hL hLl hcl;obtain ⟨m0,m1,m2,m3,m4,m5,m6,m7,m8,m9,m10⟩:=aP HK.out.k.n;go_enter Tryz.func43,Tryz.ntmps43
 go_upto_region 1 with fail
 rw [show w.alloc (.cells #[.string x.fn,.int .i64 x.k,.string x.e.op,.string x.e.nm,.int .i64 x.e.n,.slice p.ea x.e.ks.len p.ec,.string x.g.op,.string x.g.nm,.int .i64 x.g.n,.slice p.ga x.g.ks.len p.gc,.slice p.wa x.wh.length p.wc] 70)=W1 from HW1.out,show W1.alloc (.cells #[.int .i64 0,.int .i64 0,.string ⟨#[]⟩,.slice none 0 0] 60)=W from HW.out];go_wp2_with fail
 refine (CK.out _ HK.out.k.r).mono ?_;rintro e w1 ⟨rfl,hb1⟩;have K1:=aA (HK.out.step hb1);clear hb1 m0 m1 m2 m3 m4 m5 m6 m7 m8 m9 m10;obtain ⟨m0,m1,m2,m3,m4,m5,m6,m7,m8,m9,m10⟩:=aP K1.out.k.n;have TO:=aA (fU x p rs ya yc w1 K1.out.k.r (HY.out _ K1.out.k.b));go_wp2_with fail
 refine TO.out.mono ?_;rintro e w2 ⟨bl,ba,bp,rfl,ta,hb2⟩;have TA:=aA ta;have K2:=aA (K1.out.step hb2);clear hb2 ta TO m0 m1 m2 m3 m4 m5 m6 m7 m8 m9 m10;obtain ⟨m0,m1,m2,m3,m4,m5,m6,m7,m8,m9,m10⟩:=aP K2.out.k.n
 have FD:=aA (zJ (Jn bl ba bp L w2 w2 HLl.out (fT 2 HX.out HU.out (by omega) TA.out L HL.out) (Below.refl _ _) xG rfl (fun pre q V _=>by
  refine (Fm (xG pre) q.1.1 q.1.2 V (Km pre) q.2.1).mono ?_;rintro e V' ⟨rfl,hb⟩;exact ⟨by rw [Fk],hb⟩)))
 go_wp2_with fail
 refine FD.out.mono ?_;rintro e w3 ⟨rfl,hb3⟩;have K3:=aA (K2.out.step hb3);clear hb3 FD m0 m1 m2 m3 m4 m5 m6 m7 m8 m9 m10;obtain ⟨m0,m1,m2,m3,m4,m5,m6,m7,m8,m9,m10⟩:=aP K3.out.k.n;have NU:=aA (fun V=>iK (xG L) V);go_wp2_with fail
 refine (NU.out _).mono ?_;rintro e w4 ⟨rfl,hb4⟩;have K4:=aA (K3.out.step hb4);clear hb4 NU m0 m1 m2 m3 m4 m5 m6 m7 m8 m9 m10;obtain ⟨⟨o0,o1,o2,o3⟩,z0,z1,z2,z3⟩:=aL K4.out.o;go_wp2_with fail
 obtain ⟨⟨y0,y1,y2,y3⟩, -⟩:=aL (aU K4.out.o (.int .i64 1) (.int .i64 (xG L)) (.string ⟨#[]⟩) (.slice none 0 0));exact bodyPost_ret (v:=.tuple #[vlV 1 (xG L) none 0 0,.bool true]) (by simp [results,Tryz.results43,go_sem,y0,y1,y2,y3]) rfl ⟨K4.out.put _ _ _ _,rfl⟩
theorem KG {G:Nat->Prop} (x:AG) (p:PA) (rs:List RW) (ya:Option Addr) (yc:Nat) (w:World) (h:fJ x=0) (hn:fK x) (hS:SzG x) (hU:∀ r∈rs,gN r.A r.n r.g) (hl:rs.length<=1000) (hr:aJ G w x p) (hy:bL w ya rs) (hc:x.fn.data.toList=eQ) :
 Calls Tryz.prog 43 #[agV x p,.slice ya rs.length yc] w (mD (evG x (rs.map RW.g)) w):=by
 have hX:=rZ h hn hS;have gCount:(x.fn.toList == [99,111,117,110,116])=false:=aF (by rw [hc];decide);have gSum:(x.fn.toList == [115,117,109])=false:=aF (by rw [hc];decide);have gTop:(x.fn.toList == [116,111,112])=true:=cO (by rw [hc];decide);have gMin:(x.fn.toList == [109,105,110])=false:=aF (by rw [hc];decide);have gMax:(x.fn.toList == [109,97,120])=false:=aF (by rw [hc];decide);have gFirst:(x.fn.toList == [102,105,114,115,116])=false:=aF (by rw [hc];decide);have hr':aJ (fun b=>b<w.heap.size) w x p:=hr.imp (fun b hb _=>hb);have E0:=oP hr';have K1:=hX.l;obtain ⟨L,hL⟩:=jK _ (nZ hX hU)
 have hLl:L.length<=1000:=by
  have h1:(gB x (rs.map RW.g)).length<=(rs.map RW.g).length:=List.length_filterMap_le ..;rw [<- hL,List.length_map,List.length_map] at h1;omega
 obtain ⟨hk1,hk2⟩:=(cP h).2.1 hc;obtain ⟨most,hK⟩:∃ most:Nat,x.k=(most:Int):=⟨x.k.toNat,by omega⟩;have hcl:=Ap hc (rs.map RW.g);rw [show x.k.toNat=most by omega] at hcl;have hto:=Ms (An (hL.trans (zO (by rw [hc];decide) (by rw [hc];decide) _))) most;unfold iN at hto;rw [<- hto] at hcl;obtain ⟨T,hT⟩:∃ T,rP most L=T:=⟨_,rfl⟩;rw [hT] at hcl;obtain ⟨R,hR⟩:∃ R,evG x (rs.map RW.g)=R:=⟨_,rfl⟩;rw [hR] at hcl |-
 have HR:=aA hcl;have HKK:=aA hK;have HT:=aA hT;have HK1:=aA (show 1<=most/\most<=1000 by omega);clear hR hK hT hk1 hk2 hto;have HX:=aA hX;have HU:=aA hU;have HL:=aA hL;have HLl:=aA hLl;have HY:=aA (fun V (hV:Below w.heap.size w V)=>fX hy hV);have CK:=aA (fun V (rd:aJ (fun b=>b<w.heap.size) V x p)=>eI x p V hS (by omega) rd);rw [h] at CK;generalize hW1:w.alloc (agP x p)=W1 at E0;generalize hW:W1.alloc (vlA 0 0 none 0 0)=W at E0;have HW1:=aA hW1;have HW:=aA hW;have HK:=aA E0;clear hW1 hW E0 h hn hS hU hr hr' hy hX hL hLl hcl;obtain ⟨m0,m1,m2,m3,m4,m5,m6,m7,m8,m9,m10⟩:=aP HK.out.k.n;go_enter Tryz.func43,Tryz.ntmps43
 go_upto_region 1 with fail
 rw [show w.alloc (.cells #[.string x.fn,.int .i64 x.k,.string x.e.op,.string x.e.nm,.int .i64 x.e.n,.slice p.ea x.e.ks.len p.ec,.string x.g.op,.string x.g.nm,.int .i64 x.g.n,.slice p.ga x.g.ks.len p.gc,.slice p.wa x.wh.length p.wc] 70)=W1 from HW1.out,show W1.alloc (.cells #[.int .i64 0,.int .i64 0,.string ⟨#[]⟩,.slice none 0 0] 60)=W from HW.out];go_wp2_with fail
 refine (CK.out _ HK.out.k.r).mono ?_;rintro e w1 ⟨rfl,hb1⟩;have K1:=aA (HK.out.step hb1);clear hb1 m0 m1 m2 m3 m4 m5 m6 m7 m8 m9 m10;obtain ⟨m0,m1,m2,m3,m4,m5,m6,m7,m8,m9,m10⟩:=aP K1.out.k.n;have TO:=aA (fU x p rs ya yc w1 K1.out.k.r (HY.out _ K1.out.k.b));go_wp2_with fail
 refine TO.out.mono ?_;rintro e w2 ⟨bl,ba,bp,rfl,ta,hb2⟩;have TA:=aA ta;have K2:=aA (K1.out.step hb2);clear hb2 ta TO m0 m1 m2 m3 m4 m5 m6 m7 m8 m9 m10;obtain ⟨m0,m1,m2,m3,m4,m5,m6,m7,m8,m9,m10⟩:=aP K2.out.k.n;have FD:=aA (zJ (Jm bl ba bp w.heap.size x p most L w2 w2 HKK.out HK1.out.1 HK1.out.2 K2.out.k.n (fT 2 HX.out HU.out (by omega) TA.out L HL.out) (Below.refl _ _)));rw [HT.out] at FD;go_wp2_with fail
 refine FD.out.mono ?_;rintro e w3 ⟨v,rfl,ro,hb3⟩;obtain ⟨va,vc,rfl⟩:=eC ro;have HRO:=aA ro;have K3:=aA (K2.out.step hb3);have HB2:=aA K2.out.k.z;have HN2:=aA (aB K2.out.o);clear hb3 FD ro m0 m1 m2 m3 m4 m5 m6 m7 m8 m9 m10;obtain ⟨⟨o0,o1,o2,o3⟩,z0,z1,z2,z3⟩:=aL K3.out.o;go_wp2_with fail
 obtain ⟨⟨y0,y1,y2,y3⟩, -⟩:=aL (aU K3.out.o (.int .i64 3) (.int .i64 0) (.string ⟨#[]⟩) (.slice va T.length vc));refine bodyPost_ret (v:=.tuple #[vlV 3 0 va T.length vc,.bool true]) (by simp [results,Tryz.results43,go_sem,y0,y1,y2,y3]) rfl (by rw [HR.out];refine ⟨K3.out.put _ _ _ _,va,vc,rfl,NS HN2.out HRO.out⟩)
theorem KI {G:Nat->Prop} (x:AG) (p:PA) (rs:List RW) (ya:Option Addr) (yc:Nat) (w:World) (h:fJ x=0) (hn:fK x) (hS:SzG x) (hU:∀ r∈rs,gN r.A r.n r.g) (hl:rs.length<=1000) (hr:aJ G w x p) (hy:bL w ya rs) (hc:x.fn.data.toList=pG) :
 Calls Tryz.prog 43 #[agV x p,.slice ya rs.length yc] w (mD (evG x (rs.map RW.g)) w):=by
 have hX:=rZ h hn hS;have gCount:(x.fn.toList == [99,111,117,110,116])=false:=aF (by rw [hc];decide);have gSum:(x.fn.toList == [115,117,109])=false:=aF (by rw [hc];decide);have gTop:(x.fn.toList == [116,111,112])=false:=aF (by rw [hc];decide);have gMin:(x.fn.toList == [109,105,110])=true:=cO (by rw [hc];decide);have gMax:(x.fn.toList == [109,97,120])=false:=aF (by rw [hc];decide);have gFirst:(x.fn.toList == [102,105,114,115,116])=false:=aF (by rw [hc];decide);have hr':aJ (fun b=>b<w.heap.size) w x p:=hr.imp (fun b hb _=>hb);have E0:=oP hr';have K1:=hX.l;obtain ⟨L,hL⟩:=jK _ (nZ hX hU)
 have hLl:L.length<=1000:=by
  have h1:(gB x (rs.map RW.g)).length<=(rs.map RW.g).length:=List.length_filterMap_le ..;rw [<- hL,List.length_map,List.length_map] at h1;omega
 have hcl:=Ar hc (rs.map RW.g);rw [<- (An (hL.trans (zO (by rw [hc];decide) (by rw [hc];decide) _))), <- wT (less:=fun a b:Q64=>decide (a.1.1<b.1.1)) (fun q=>q.1.1) (fun a b=>by simp [lsL])] at hcl;obtain ⟨o,ho⟩:∃ o,aY (fun a b:Q64=>decide (a.1.1<b.1.1)) L=o:=⟨_,rfl⟩;rw [ho] at hcl;obtain ⟨R,hR⟩:∃ R,evG x (rs.map RW.g)=R:=⟨_,rfl⟩;rw [hR] at hcl |-
 have HR:=aA hcl;clear hR;have HX:=aA hX;have HU:=aA hU;have HL:=aA hL;have HLl:=aA hLl;have HY:=aA (fun V (hV:Below w.heap.size w V)=>fX hy hV);have CK:=aA (fun V (rd:aJ (fun b=>b<w.heap.size) V x p)=>eI x p V hS (by omega) rd);rw [h] at CK;generalize hW1:w.alloc (agP x p)=W1 at E0;generalize hW:W1.alloc (vlA 0 0 none 0 0)=W at E0;have HW1:=aA hW1;have HW:=aA hW;have HK:=aA E0;clear hW1 hW E0 h hn hS hU hr hr' hy hX hL hLl hcl;obtain ⟨m0,m1,m2,m3,m4,m5,m6,m7,m8,m9,m10⟩:=aP HK.out.k.n;go_enter Tryz.func43,Tryz.ntmps43
 go_upto_region 1 with fail
 rw [show w.alloc (.cells #[.string x.fn,.int .i64 x.k,.string x.e.op,.string x.e.nm,.int .i64 x.e.n,.slice p.ea x.e.ks.len p.ec,.string x.g.op,.string x.g.nm,.int .i64 x.g.n,.slice p.ga x.g.ks.len p.gc,.slice p.wa x.wh.length p.wc] 70)=W1 from HW1.out,show W1.alloc (.cells #[.int .i64 0,.int .i64 0,.string ⟨#[]⟩,.slice none 0 0] 60)=W from HW.out];go_wp2_with fail
 refine (CK.out _ HK.out.k.r).mono ?_;rintro e w1 ⟨rfl,hb1⟩;have K1:=aA (HK.out.step hb1);clear hb1 m0 m1 m2 m3 m4 m5 m6 m7 m8 m9 m10;obtain ⟨m0,m1,m2,m3,m4,m5,m6,m7,m8,m9,m10⟩:=aP K1.out.k.n;have TO:=aA (fU x p rs ya yc w1 K1.out.k.r (HY.out _ K1.out.k.b));go_wp2_with fail
 refine TO.out.mono ?_;rintro e w2 ⟨bl,ba,bp,rfl,ta,hb2⟩;have TA:=aA ta;have K2:=aA (K1.out.step hb2);clear hb2 ta TO m0 m1 m2 m3 m4 m5 m6 m7 m8 m9 m10;obtain ⟨m0,m1,m2,m3,m4,m5,m6,m7,m8,m9,m10⟩:=aP K2.out.k.n;have FD:=aA (zJ (JK bl ba bp L w2 w2 (fT 2 HX.out HU.out (by omega) TA.out L HL.out) (Below.refl _ _) (fun a b:Q64=>decide (a.1.1<b.1.1)) (fun a b V=>F3 a.1.1 a.1.2 b.1.1 b.1.2 V)));rw [ho] at FD;have BO:=aA (AA x.fn w2 hc);clear ho;cases o with
 | none =>
   go_wp2_with fail
   refine BO.out.mono ?_;rintro e w2' ⟨rfl,rfl⟩;go_wp2_with fail
   refine FD.out.mono ?_;rintro e w3 ⟨rfl,hb3⟩;have K3:=aA (K2.out.step hb3);clear hb3 FD BO m0 m1 m2 m3 m4 m5 m6 m7 m8 m9 m10;have K4:=aA (K3.out.step (bA0 w3 (aG 0 0)));obtain ⟨⟨o0,o1,o2,o3⟩,z0,z1,z2,z3⟩:=aL K4.out.o;go_wp2_with fail
   obtain ⟨⟨y0,y1,y2,y3⟩, -⟩:=aL (aU K4.out.o (.int .i64 0) (.int .i64 0) (.string ⟨#[]⟩) (.slice none 0 0));exact bodyPost_ret (v:=.tuple #[vlV 0 0 none 0 0,.bool false]) (by simp [results,Tryz.results43,go_sem,y0,y1,y2,y3]) rfl (by rw [HR.out];exact ⟨K4.out.put _ _ _ _,rfl⟩)
 | some q =>
   obtain ⟨⟨q0,q1⟩,hq⟩:=q;go_wp2_with fail
   refine BO.out.mono ?_;rintro e w2' ⟨rfl,rfl⟩;go_wp2_with fail
   refine FD.out.mono ?_;rintro e w3 ⟨rfl,hb3⟩;have K3:=aA (K2.out.step hb3);clear hb3 FD BO m0 m1 m2 m3 m4 m5 m6 m7 m8 m9 m10;have N4:=heap_alloc_new w3 (aG q0 q1);have K4:=aA (K3.out.step (bA0 w3 (aG q0 q1)));generalize hV:w3.alloc (aG q0 q1)=V at N4 K4;have HV:=aA hV;obtain ⟨⟨n0,n1⟩, -⟩:=two N4;clear hV N4;have NU:=aA (fun V=>iK q0 V);dsimp only [cQ,Option.isSome];go_upto_region 13 with fail
   rw [show w3.alloc (.cells #[.int .i64 q0,.int .i64 q1] 163)=V from HV.out];go_wp2_with fail
   refine (NU.out _).mono ?_;rintro e w4 ⟨rfl,hb4⟩;have K5:=aA (K4.out.step hb4);clear hb4 NU n0 n1;obtain ⟨⟨o0,o1,o2,o3⟩,z0,z1,z2,z3⟩:=aL K5.out.o;go_wp2_with fail
   obtain ⟨⟨y0,y1,y2,y3⟩, -⟩:=aL (aU K5.out.o (.int .i64 1) (.int .i64 q0) (.string ⟨#[]⟩) (.slice none 0 0));exact bodyPost_ret (v:=.tuple #[vlV 1 q0 none 0 0,.bool true]) (by simp [results,Tryz.results43,go_sem,y0,y1,y2,y3]) rfl (by rw [HR.out];exact ⟨K5.out.put _ _ _ _,rfl⟩)
theorem KJ {G:Nat->Prop} (x:AG) (p:PA) (rs:List RW) (ya:Option Addr) (yc:Nat) (w:World) (h:fJ x=0) (hn:fK x) (hS:SzG x) (hU:∀ r∈rs,gN r.A r.n r.g) (hl:rs.length<=1000) (hr:aJ G w x p) (hy:bL w ya rs) (hc:x.fn.data.toList=rN) :
 Calls Tryz.prog 43 #[agV x p,.slice ya rs.length yc] w (mD (evG x (rs.map RW.g)) w):=by
 have hX:=rZ h hn hS;have gCount:(x.fn.toList == [99,111,117,110,116])=false:=aF (by rw [hc];decide);have gSum:(x.fn.toList == [115,117,109])=false:=aF (by rw [hc];decide);have gTop:(x.fn.toList == [116,111,112])=false:=aF (by rw [hc];decide);have gMin:(x.fn.toList == [109,105,110])=false:=aF (by rw [hc];decide);have gMax:(x.fn.toList == [109,97,120])=true:=cO (by rw [hc];decide);have gFirst:(x.fn.toList == [102,105,114,115,116])=false:=aF (by rw [hc];decide);have hr':aJ (fun b=>b<w.heap.size) w x p:=hr.imp (fun b hb _=>hb);have E0:=oP hr';have K1:=hX.l;obtain ⟨L,hL⟩:=jK _ (nZ hX hU)
 have hLl:L.length<=1000:=by
  have h1:(gB x (rs.map RW.g)).length<=(rs.map RW.g).length:=List.length_filterMap_le ..;rw [<- hL,List.length_map,List.length_map] at h1;omega
 have hcl:=As hc (rs.map RW.g);rw [<- (An (hL.trans (zO (by rw [hc];decide) (by rw [hc];decide) _))), <- wT (less:=fun a b:Q64=>decide (b.1.1<a.1.1)) (fun q=>q.1.1) (fun a b=>by simp [lsG])] at hcl;obtain ⟨o,ho⟩:∃ o,aY (fun a b:Q64=>decide (b.1.1<a.1.1)) L=o:=⟨_,rfl⟩;rw [ho] at hcl;obtain ⟨R,hR⟩:∃ R,evG x (rs.map RW.g)=R:=⟨_,rfl⟩;rw [hR] at hcl |-
 have HR:=aA hcl;clear hR;have HX:=aA hX;have HU:=aA hU;have HL:=aA hL;have HLl:=aA hLl;have HY:=aA (fun V (hV:Below w.heap.size w V)=>fX hy hV);have CK:=aA (fun V (rd:aJ (fun b=>b<w.heap.size) V x p)=>eI x p V hS (by omega) rd);rw [h] at CK;generalize hW1:w.alloc (agP x p)=W1 at E0;generalize hW:W1.alloc (vlA 0 0 none 0 0)=W at E0;have HW1:=aA hW1;have HW:=aA hW;have HK:=aA E0;clear hW1 hW E0 h hn hS hU hr hr' hy hX hL hLl hcl;obtain ⟨m0,m1,m2,m3,m4,m5,m6,m7,m8,m9,m10⟩:=aP HK.out.k.n;go_enter Tryz.func43,Tryz.ntmps43
 go_upto_region 1 with fail
 rw [show w.alloc (.cells #[.string x.fn,.int .i64 x.k,.string x.e.op,.string x.e.nm,.int .i64 x.e.n,.slice p.ea x.e.ks.len p.ec,.string x.g.op,.string x.g.nm,.int .i64 x.g.n,.slice p.ga x.g.ks.len p.gc,.slice p.wa x.wh.length p.wc] 70)=W1 from HW1.out,show W1.alloc (.cells #[.int .i64 0,.int .i64 0,.string ⟨#[]⟩,.slice none 0 0] 60)=W from HW.out];go_wp2_with fail
 refine (CK.out _ HK.out.k.r).mono ?_;rintro e w1 ⟨rfl,hb1⟩;have K1:=aA (HK.out.step hb1);clear hb1 m0 m1 m2 m3 m4 m5 m6 m7 m8 m9 m10;obtain ⟨m0,m1,m2,m3,m4,m5,m6,m7,m8,m9,m10⟩:=aP K1.out.k.n;have TO:=aA (fU x p rs ya yc w1 K1.out.k.r (HY.out _ K1.out.k.b));go_wp2_with fail
 refine TO.out.mono ?_;rintro e w2 ⟨bl,ba,bp,rfl,ta,hb2⟩;have TA:=aA ta;have K2:=aA (K1.out.step hb2);clear hb2 ta TO m0 m1 m2 m3 m4 m5 m6 m7 m8 m9 m10;obtain ⟨m0,m1,m2,m3,m4,m5,m6,m7,m8,m9,m10⟩:=aP K2.out.k.n;have FD:=aA (zJ (JJ bl ba bp L w2 w2 (fT 2 HX.out HU.out (by omega) TA.out L HL.out) (Below.refl _ _) (fun a b:Q64=>decide (b.1.1<a.1.1)) (fun a b V=>FZ a.1.1 a.1.2 b.1.1 b.1.2 V)));rw [ho] at FD;have BO:=aA (AB x.fn w2 hc);clear ho;cases o with
 | none =>
   go_wp2_with fail
   refine BO.out.mono ?_;rintro e w2' ⟨rfl,rfl⟩;go_wp2_with fail
   refine FD.out.mono ?_;rintro e w3 ⟨rfl,hb3⟩;have K3:=aA (K2.out.step hb3);clear hb3 FD BO m0 m1 m2 m3 m4 m5 m6 m7 m8 m9 m10;have K4:=aA (K3.out.step (bA0 w3 (aG 0 0)));obtain ⟨⟨o0,o1,o2,o3⟩,z0,z1,z2,z3⟩:=aL K4.out.o;go_wp2_with fail
   obtain ⟨⟨y0,y1,y2,y3⟩, -⟩:=aL (aU K4.out.o (.int .i64 0) (.int .i64 0) (.string ⟨#[]⟩) (.slice none 0 0));exact bodyPost_ret (v:=.tuple #[vlV 0 0 none 0 0,.bool false]) (by simp [results,Tryz.results43,go_sem,y0,y1,y2,y3]) rfl (by rw [HR.out];exact ⟨K4.out.put _ _ _ _,rfl⟩)
 | some q =>
   obtain ⟨⟨q0,q1⟩,hq⟩:=q;go_wp2_with fail
   refine BO.out.mono ?_;rintro e w2' ⟨rfl,rfl⟩;go_wp2_with fail
   refine FD.out.mono ?_;rintro e w3 ⟨rfl,hb3⟩;have K3:=aA (K2.out.step hb3);clear hb3 FD BO m0 m1 m2 m3 m4 m5 m6 m7 m8 m9 m10;have N4:=heap_alloc_new w3 (aG q0 q1);have K4:=aA (K3.out.step (bA0 w3 (aG q0 q1)));generalize hV:w3.alloc (aG q0 q1)=V at N4 K4;have HV:=aA hV;obtain ⟨⟨n0,n1⟩, -⟩:=two N4;clear hV N4;have NU:=aA (fun V=>iK q0 V);dsimp only [cQ,Option.isSome];go_upto_region 13 with fail
   rw [show w3.alloc (.cells #[.int .i64 q0,.int .i64 q1] 163)=V from HV.out];go_wp2_with fail
   refine (NU.out _).mono ?_;rintro e w4 ⟨rfl,hb4⟩;have K5:=aA (K4.out.step hb4);clear hb4 NU n0 n1;obtain ⟨⟨o0,o1,o2,o3⟩,z0,z1,z2,z3⟩:=aL K5.out.o;go_wp2_with fail
   obtain ⟨⟨y0,y1,y2,y3⟩, -⟩:=aL (aU K5.out.o (.int .i64 1) (.int .i64 q0) (.string ⟨#[]⟩) (.slice none 0 0));exact bodyPost_ret (v:=.tuple #[vlV 1 q0 none 0 0,.bool true]) (by simp [results,Tryz.results43,go_sem,y0,y1,y2,y3]) rfl (by rw [HR.out];exact ⟨K5.out.put _ _ _ _,rfl⟩)
theorem FJ {G:Nat->Prop} (x:AG) (p:PA) (rs:List RW) (ya:Option Addr) (yc:Nat) (w:World) (h:fJ x=0) (hn:fK x) (hS:SzG x) (hU:∀ r∈rs,gN r.A r.n r.g) (hl:rs.length<=1000) (hr:aJ G w x p) (hy:bL w ya rs) (hc:x.fn.data.toList=bE) :
 Calls Tryz.prog 43 #[agV x p,.slice ya rs.length yc] w (mD (evG x (rs.map RW.g)) w):=by
 have hX:=rZ h hn hS;have gCount:(x.fn.toList == [99,111,117,110,116])=false:=aF (by rw [hc];decide);have gSum:(x.fn.toList == [115,117,109])=false:=aF (by rw [hc];decide);have gTop:(x.fn.toList == [116,111,112])=false:=aF (by rw [hc];decide);have gMin:(x.fn.toList == [109,105,110])=false:=aF (by rw [hc];decide);have gMax:(x.fn.toList == [109,97,120])=false:=aF (by rw [hc];decide);have gFirst:(x.fn.toList == [102,105,114,115,116])=true:=cO (by rw [hc];decide);have hr':aJ (fun b=>b<w.heap.size) w x p:=hr.imp (fun b hb _=>hb);have E0:=oP hr';have K1:=hX.l;obtain ⟨L,hL⟩:=jK _ (nZ hX hU)
 have hLl:L.length<=1000:=by
  have h1:(gB x (rs.map RW.g)).length<=(rs.map RW.g).length:=List.length_filterMap_le ..;rw [<- hL,List.length_map,List.length_map] at h1;omega
 have hcl:=sO hc (rs.map RW.g);rw [<- (hL.trans (Mv (by rw [hc];decide) (by rw [hc];decide) _)), <- wT (less:=fun a b:Q64=>decide (a.1.2<b.1.2)) (Subtype.val) (fun a b=>by simp [lsP])] at hcl;obtain ⟨o,ho⟩:∃ o,aY (fun a b:Q64=>decide (a.1.2<b.1.2)) L=o:=⟨_,rfl⟩;rw [ho] at hcl;obtain ⟨R,hR⟩:∃ R,evG x (rs.map RW.g)=R:=⟨_,rfl⟩;rw [hR] at hcl |-
 have HR:=aA hcl;clear hR;have HX:=aA hX;have HU:=aA hU;have HL:=aA hL;have HLl:=aA hLl;have HY:=aA (fun V (hV:Below w.heap.size w V)=>fX hy hV);have CK:=aA (fun V (rd:aJ (fun b=>b<w.heap.size) V x p)=>eI x p V hS (by omega) rd);rw [h] at CK;generalize hW1:w.alloc (agP x p)=W1 at E0;generalize hW:W1.alloc (vlA 0 0 none 0 0)=W at E0;have HW1:=aA hW1;have HW:=aA hW;have HK:=aA E0;clear hW1 hW E0 h hn hS hU hr hr' hy hX hL hLl hcl;obtain ⟨m0,m1,m2,m3,m4,m5,m6,m7,m8,m9,m10⟩:=aP HK.out.k.n;go_enter Tryz.func43,Tryz.ntmps43
 go_upto_region 1 with fail
 rw [show w.alloc (.cells #[.string x.fn,.int .i64 x.k,.string x.e.op,.string x.e.nm,.int .i64 x.e.n,.slice p.ea x.e.ks.len p.ec,.string x.g.op,.string x.g.nm,.int .i64 x.g.n,.slice p.ga x.g.ks.len p.gc,.slice p.wa x.wh.length p.wc] 70)=W1 from HW1.out,show W1.alloc (.cells #[.int .i64 0,.int .i64 0,.string ⟨#[]⟩,.slice none 0 0] 60)=W from HW.out];go_wp2_with fail
 refine (CK.out _ HK.out.k.r).mono ?_;rintro e w1 ⟨rfl,hb1⟩;have K1:=aA (HK.out.step hb1);clear hb1 m0 m1 m2 m3 m4 m5 m6 m7 m8 m9 m10;obtain ⟨m0,m1,m2,m3,m4,m5,m6,m7,m8,m9,m10⟩:=aP K1.out.k.n;have TO:=aA (fU x p rs ya yc w1 K1.out.k.r (HY.out _ K1.out.k.b));go_wp2_with fail
 refine TO.out.mono ?_;rintro e w2 ⟨bl,ba,bp,rfl,ta,hb2⟩;have TA:=aA ta;have K2:=aA (K1.out.step hb2);clear hb2 ta TO m0 m1 m2 m3 m4 m5 m6 m7 m8 m9 m10;obtain ⟨m0,m1,m2,m3,m4,m5,m6,m7,m8,m9,m10⟩:=aP K2.out.k.n;have FD:=aA (zJ (JI bl ba bp L w2 w2 (fT 2 HX.out HU.out (by omega) TA.out L HL.out) (Below.refl _ _) (fun a b:Q64=>decide (a.1.2<b.1.2)) (fun a b V=>FY a.1.1 a.1.2 b.1.1 b.1.2 V)));rw [ho] at FD;have BO:=aA (wS x.fn w2 hc);clear ho;cases o with
 | none =>
   go_wp2_with fail
   refine BO.out.mono ?_;rintro e w2' ⟨rfl,rfl⟩;go_wp2_with fail
   refine FD.out.mono ?_;rintro e w3 ⟨rfl,hb3⟩;have K3:=aA (K2.out.step hb3);clear hb3 FD BO m0 m1 m2 m3 m4 m5 m6 m7 m8 m9 m10;have K4:=aA (K3.out.step (bA0 w3 (aG 0 0)));obtain ⟨⟨o0,o1,o2,o3⟩,z0,z1,z2,z3⟩:=aL K4.out.o;go_wp2_with fail
   obtain ⟨⟨y0,y1,y2,y3⟩, -⟩:=aL (aU K4.out.o (.int .i64 0) (.int .i64 0) (.string ⟨#[]⟩) (.slice none 0 0));exact bodyPost_ret (v:=.tuple #[vlV 0 0 none 0 0,.bool false]) (by simp [results,Tryz.results43,go_sem,y0,y1,y2,y3]) rfl (by rw [HR.out];exact ⟨K4.out.put _ _ _ _,rfl⟩)
 | some q =>
   obtain ⟨⟨q0,q1⟩,hq⟩:=q;go_wp2_with fail
   refine BO.out.mono ?_;rintro e w2' ⟨rfl,rfl⟩;go_wp2_with fail
   refine FD.out.mono ?_;rintro e w3 ⟨rfl,hb3⟩;have K3:=aA (K2.out.step hb3);clear hb3 FD BO m0 m1 m2 m3 m4 m5 m6 m7 m8 m9 m10;have N4:=heap_alloc_new w3 (aG q0 q1);have K4:=aA (K3.out.step (bA0 w3 (aG q0 q1)));generalize hV:w3.alloc (aG q0 q1)=V at N4 K4;have HV:=aA hV;obtain ⟨⟨n0,n1⟩, -⟩:=two N4;clear hV N4;have NU:=aA (fun V=>iK q0 V);dsimp only [cQ,Option.isSome];go_upto_region 13 with fail
   rw [show w3.alloc (.cells #[.int .i64 q0,.int .i64 q1] 163)=V from HV.out];go_wp2_with fail
   refine (NU.out _).mono ?_;rintro e w4 ⟨rfl,hb4⟩;have K5:=aA (K4.out.step hb4);clear hb4 NU n0 n1;obtain ⟨⟨o0,o1,o2,o3⟩,z0,z1,z2,z3⟩:=aL K5.out.o;go_wp2_with fail
   obtain ⟨⟨y0,y1,y2,y3⟩, -⟩:=aL (aU K5.out.o (.int .i64 1) (.int .i64 q0) (.string ⟨#[]⟩) (.slice none 0 0));exact bodyPost_ret (v:=.tuple #[vlV 1 q0 none 0 0,.bool true]) (by simp [results,Tryz.results43,go_sem,y0,y1,y2,y3]) rfl (by rw [HR.out];exact ⟨K5.out.put _ _ _ _,rfl⟩)
theorem Ac {G:Nat->Prop} (x:AG) (p:PA) (rs:List RW) (ya:Option Addr) (yc:Nat) (w:World) (h:fJ x=0) (hn:fK x) (hS:SzG x) (hU:∀ r∈rs,gN r.A r.n r.g) (hl:rs.length<=1000) (hr:aJ G w x p) (hy:bL w ya rs) :
 Calls Tryz.prog 43 #[agV x p,.slice ya rs.length yc] w (mD (evG x (rs.map RW.g)) w):=by
 have h1:=(cP h).1;unfold fB at h1;simp only [Bool.or_eq_true,beq_iff_eq] at h1;rcases h1 with ((((h1 | h1) | h1) | h1) | h1) | h1
 · exact FK x p rs ya yc w h hn hS hU hl hr hy h1
 · exact KI x p rs ya yc w h hn hS hU hl hr hy h1
 · exact KJ x p rs ya yc w h hn hS hU hl hr hy h1
 · exact KH x p rs ya yc w h hn hS hU hl hr hy h1
 · exact FJ x p rs ya yc w h hn hS hU hl hr hy h1
 · exact KG x p rs ya yc w h hn hS hU hl hr hy h1
end
end Go.Proofs.YtgfkjkokmcejbaaGreatDoor
