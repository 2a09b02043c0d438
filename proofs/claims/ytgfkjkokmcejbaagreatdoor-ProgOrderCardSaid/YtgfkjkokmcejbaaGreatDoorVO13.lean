/-
 No statement: what ProgOrderLift needs, of the texts OFold, OFoldL, OBest, OEvM, OEv, ZPRun, ZKG, ZLay, ZOf.
-/
import Derived.Test.YtgfkjkokmcejbaaGreatDoorVO12
import Derived.Test.YtgfkjkokmcejbaaGreatDoorTie
import Derived.ProofKit
import Derived.OpenShut
import Derived.LaidMore
import Derived.Lay
import Derived.SevenTiedAt
import Derived.Stop.Joined
import Derived.Stop.LaidErr
import Derived.Lib.LaidTab
import Derived.Carry
set_option maxHeartbeats 40000000
set_option maxRecDepth 100000
namespace Go.Proofs.YtgfkjkokmcejbaaGreatDoor
section
open Go.RowKit Go.Shelf
attribute [local go_sem] Oper.semAt_some
theorem dN {B:Nat} {vs:Array Value} {t:TypeId} {fz:Nat×Nat} {W W':World} {row:Option Nat} (h:W.heap[B]? = some (.cells vs t fz)) (hg:W.grownBy W' row) (hr:∀ r,row=some r->∃ o:Obj,W.heap[r]? = some o/\o.isCells=false):W'.heap[B]? = some (.cells vs t fz) :=
 (hg.block B (aB h) (fun e=>by obtain ⟨o,ho,hc⟩:=hr B e.symm;rw [h] at ho;cases ho;cases hc)).trans h
theorem eA {W W':World} (h:Below W.heap.size W W') (D:Nat):KeepsFrom D W W' :=
 (KeepsOthers.of_grownBy (row:=none) ⟨h.os,h.tape,h.output,h.size,fun k hk _=>h.block k hk⟩ (fun j o e=>by cases e)).from D
abbrev Hb (bl ba bp:Nat) (L:List Q64) (w0:World):Prop:=SeqStopsK Fence.wide 3 Tryz.prog 139 (tkF bl ba bp) tkE (Below w0.heap.size) (fun ys=>ys=L) (fun pre=>pre <+: L) L.length w0
theorem lH {n₀ : Nat} {w:World} (hn:n₀ <= w.heap.size) (W:World) (l:Nat) (o o':Obj) (hl:w.heap.size<=l) (h:W.heap[l]? = some o):Below n₀ W (W.putObj l o') :=
 (Below.refl n₀ W).grown (grownBy_putObj' W l o') (by have:=(Array.getElem?_eq_some_iff.1 h).1;omega) (fun k e=>by cases e;omega)
theorem Jh (bl ba bp:Nat) (L:List Q64) (w0 w:World) (hL:L.length<=1000) (hseq:Hb bl ba bp L w0) (hb0:Below w0.heap.size w0 w) (F:List Q64->Int) (hF0:F []=0)
 (hst:∀ (pre:List Q64) (q:Q64) (W:World),pre.length<L.length->Calls Tryz.prog 85 #[.int .i64 (F pre),jW q.1] W fun e W'=>e=.returned (.int .i64 (F (pre++[q])))/\Below W.heap.size W W') :
 CallsIn Fence.wide 4 Tryz.prog 84 #[.func (.func 139) #[] (tkF bl ba bp),.int .i64 0,.func (.func 85) #[] #[]] w fun e w'=>e=.returned (.int .i64 (F L))/\Below w.heap.size w w':=by
 refine callsIn_of_wp_marks Tryz.func84 rfl trivial ?_ rfl;simp only [Tryz.ntmps84,List.size_toArray,List.length_cons,List.length_nil,Nat.reduceAdd,Nat.reduceSub,Array.replicate_succ,Array.replicate_zero,List.push_toArray,List.append_toArray,List.nil_append,List.cons_append];gi_wp2
 obtain ⟨B,hB0⟩:∃ B,w.heap.size=B:=⟨_,rfl⟩;have bF:=(Boxed.new w 164 (.func (.func 85) #[] #[])).alloc (.cells #[.int .i64 0] 2);have bS:=Boxed.new (w.alloc (.cells #[.func (.func 85) #[] #[]] 164)) 2 (.int .i64 0);have hBw:Below B w ((w.alloc (.cells #[.func (.func 85) #[] #[]] 164)).alloc (.cells #[.int .i64 0] 2)):=((Below.refl _ w).alloc (by omega) _).alloc (by simp;omega) _;have hsz:((w.alloc (.cells #[.func (.func 85) #[] #[]] 164)).alloc (.cells #[.int .i64 0] 2)).heap.size=B+2:=by simp;omega
 simp only [World.size_alloc,hB0] at bF bS |-
 obtain ⟨W0,hW0⟩:∃ W0,(w.alloc (.cells #[.func (.func 85) #[] #[]] 164)).alloc (.cells #[.int .i64 0] 2)=W0:=⟨_,rfl⟩;rw [hW0] at bF bS hBw hsz |-
 have hz0:w0.heap.size<=B:=by have:=hb0.size;omega
 clear hW0
 refine wpIn_rangeFunc_ownH rfl (by decide) (gf:=139) (lb:=tkF bl ba bp) rfl trivial (enters_of Tryz.func139 (by kernel_rfl) rfl)
  hseq belowK_t (belowK_b (by omega)) (hb0.trans (hBw.mono hz0)) (fun _=>rfl)
  (fun pre W=>(Boxed W (B+1) 2 (.int .i64 (F pre))/\Boxed W B 164 (.func (.func 85) #[] #[]))/\Below B w W)
  (fun _ _ _=>False)
  (OwnFrom.and (OwnFrom.and (Own.from (boxed_own _ _ _) _) (Own.from (boxed_own _ _ _) _)) (ownFrom_below (by omega) (by omega)))
  (fun _ _ _ _ _ hs _ _=>hs)
  ⟨⟨by rw [hF0];exact bS,bF⟩,hBw⟩
  (fun x a' W=>∃ Bx,B+1<Bx/\W.heap[Bx]? = some (aG x.1.1 x.1.2)/\a'={ tmps:=#[.func (.func 139) #[] (tkF bl ba bp),.int .i64 0,.func (.func 85) #[] #[],undef,undef,.pointer (some ⟨B,0,none⟩),.int .i64 0,.pointer (some ⟨B+1,0,none⟩),.pointer (some ⟨Bx,0,none⟩),.int .i64 0,.func (.func 139) #[] (tkF bl ba bp),jW x.1,undef,undef,undef,undef,undef],defers:=[] })
  (fun x a' _ X Y row hs hg hr=>by obtain ⟨Bx,h1,h2,h3⟩:=hs;exact ⟨Bx,h1,dN h2 hg (fun r e=>(hr r e).2),h3⟩)
  ?assign ?body ?done ?stop
 case assign =>
  rintro l pre x W K ⟨⟨bS1,bF1⟩,hB1⟩ hK;have h2:=bS1.lt;gi_wp2
  exact hK _ _ ((KeepsOthers.alloc _ _).from _) ((Below.refl _ W).alloc (by omega) _) ⟨⟨bS1.alloc _,bF1.alloc _⟩,hB1.alloc (by omega) _⟩ ⟨W.heap.size,bS1.lt,heap_alloc_new W _,rfl⟩
 case body =>
  rintro l pre x a' W hl ⟨r,hr⟩ ⟨⟨bS1,bF1⟩,hB1⟩ ⟨Bx,hBx,bX,rfl⟩ hlt;obtain ⟨⟨x0,x1⟩, -⟩:=two bX;have c1:=bS1.cell;have c2:=bF1.cell;have ST:=aA (hst pre x W hlt);have hz:=bS1.lt;gi_wp2_with (refine ⟨trivial,?_⟩;gi_at_call 85;refine (CallsIn.inRound l (callsIn_wide.2 ST.out)).mono ?_;rintro e W2 ⟨rfl,hb2⟩;have bS2:Boxed W2 (B+1) 2 (.int .i64 (F pre)):=(hb2.block _ bS1.lt).trans bS1;have bF2:Boxed W2 B 164 (.func (.func 85) #[] #[]):=(hb2.block _ bF1.lt).trans bF1;have d1:=bS2.cell;have d2:=bF2.cell;have f1:=bS2.frozen)
  exact ⟨(eA hb2 _).trans ((KeepsOthers.setCell _ _ _).from _),(hb2.mono (by omega)).setCell (p:=⟨B+1,0,none⟩) (by simp;omega) _,⟨bS2.set _,bF2.other (by omega) _⟩,(hB1.trans (hb2.mono (by omega))).setCell (p:=⟨B+1,0,none⟩) (by simp) _⟩
 case done =>
  rintro D ys W hD rfl ⟨⟨bS1,bF1⟩,hB1⟩ hK;have c1:=bS1.cell;gi_wp2
  refine ⟨by simp,.inl ⟨_,_,rfl,run_takeDeferred hK,?_⟩⟩;exact ⟨_,results_tmp rfl _ _ _,rfl,by rw [hB0];exact hB1.trans (lH (w:=W0) (by omega) W D _ _ hD hK)⟩
 case stop =>
  rintro D c pre W _ _ h _;exact h.elim
theorem Jg (bl ba bp:Nat) (L:List Q64) (w0 w:World) (hL:L.length<=1000) (hseq:Hb bl ba bp L w0) (hb0:Below w0.heap.size w0 w) (F:List Q64->Int) (hF0:F []=0)
 (hst:∀ (pre:List Q64) (q:Q64) (W:World),pre.length<L.length->Calls Tryz.prog 86 #[.int .i64 (F pre),jW q.1] W fun e W'=>e=.returned (.int .i64 (F (pre++[q])))/\Below W.heap.size W W') :
 CallsIn Fence.wide 4 Tryz.prog 84 #[.func (.func 139) #[] (tkF bl ba bp),.int .i64 0,.func (.func 86) #[] #[]] w fun e w'=>e=.returned (.int .i64 (F L))/\Below w.heap.size w w':=by
 refine callsIn_of_wp_marks Tryz.func84 rfl trivial ?_ rfl;simp only [Tryz.ntmps84,List.size_toArray,List.length_cons,List.length_nil,Nat.reduceAdd,Nat.reduceSub,Array.replicate_succ,Array.replicate_zero,List.push_toArray,List.append_toArray,List.nil_append,List.cons_append];gi_wp2
 obtain ⟨B,hB0⟩:∃ B,w.heap.size=B:=⟨_,rfl⟩;have bF:=(Boxed.new w 164 (.func (.func 86) #[] #[])).alloc (.cells #[.int .i64 0] 2);have bS:=Boxed.new (w.alloc (.cells #[.func (.func 86) #[] #[]] 164)) 2 (.int .i64 0);have hBw:Below B w ((w.alloc (.cells #[.func (.func 86) #[] #[]] 164)).alloc (.cells #[.int .i64 0] 2)):=((Below.refl _ w).alloc (by omega) _).alloc (by simp;omega) _;have hsz:((w.alloc (.cells #[.func (.func 86) #[] #[]] 164)).alloc (.cells #[.int .i64 0] 2)).heap.size=B+2:=by simp;omega
 simp only [World.size_alloc,hB0] at bF bS |-
 obtain ⟨W0,hW0⟩:∃ W0,(w.alloc (.cells #[.func (.func 86) #[] #[]] 164)).alloc (.cells #[.int .i64 0] 2)=W0:=⟨_,rfl⟩;rw [hW0] at bF bS hBw hsz |-
 have hz0:w0.heap.size<=B:=by have:=hb0.size;omega
 clear hW0
 refine wpIn_rangeFunc_ownH rfl (by decide) (gf:=139) (lb:=tkF bl ba bp) rfl trivial (enters_of Tryz.func139 (by kernel_rfl) rfl)
  hseq belowK_t (belowK_b (by omega)) (hb0.trans (hBw.mono hz0)) (fun _=>rfl)
  (fun pre W=>(Boxed W (B+1) 2 (.int .i64 (F pre))/\Boxed W B 164 (.func (.func 86) #[] #[]))/\Below B w W)
  (fun _ _ _=>False)
  (OwnFrom.and (OwnFrom.and (Own.from (boxed_own _ _ _) _) (Own.from (boxed_own _ _ _) _)) (ownFrom_below (by omega) (by omega)))
  (fun _ _ _ _ _ hs _ _=>hs)
  ⟨⟨by rw [hF0];exact bS,bF⟩,hBw⟩
  (fun x a' W=>∃ Bx,B+1<Bx/\W.heap[Bx]? = some (aG x.1.1 x.1.2)/\a'={ tmps:=#[.func (.func 139) #[] (tkF bl ba bp),.int .i64 0,.func (.func 86) #[] #[],undef,undef,.pointer (some ⟨B,0,none⟩),.int .i64 0,.pointer (some ⟨B+1,0,none⟩),.pointer (some ⟨Bx,0,none⟩),.int .i64 0,.func (.func 139) #[] (tkF bl ba bp),jW x.1,undef,undef,undef,undef,undef],defers:=[] })
  (fun x a' _ X Y row hs hg hr=>by obtain ⟨Bx,h1,h2,h3⟩:=hs;exact ⟨Bx,h1,dN h2 hg (fun r e=>(hr r e).2),h3⟩)
  ?assign ?body ?done ?stop
 case assign =>
  rintro l pre x W K ⟨⟨bS1,bF1⟩,hB1⟩ hK;have h2:=bS1.lt;gi_wp2
  exact hK _ _ ((KeepsOthers.alloc _ _).from _) ((Below.refl _ W).alloc (by omega) _) ⟨⟨bS1.alloc _,bF1.alloc _⟩,hB1.alloc (by omega) _⟩ ⟨W.heap.size,bS1.lt,heap_alloc_new W _,rfl⟩
 case body =>
  rintro l pre x a' W hl ⟨r,hr⟩ ⟨⟨bS1,bF1⟩,hB1⟩ ⟨Bx,hBx,bX,rfl⟩ hlt;obtain ⟨⟨x0,x1⟩, -⟩:=two bX;have c1:=bS1.cell;have c2:=bF1.cell;have ST:=aA (hst pre x W hlt);have hz:=bS1.lt;gi_wp2_with (refine ⟨trivial,?_⟩;gi_at_call 86;refine (CallsIn.inRound l (callsIn_wide.2 ST.out)).mono ?_;rintro e W2 ⟨rfl,hb2⟩;have bS2:Boxed W2 (B+1) 2 (.int .i64 (F pre)):=(hb2.block _ bS1.lt).trans bS1;have bF2:Boxed W2 B 164 (.func (.func 86) #[] #[]):=(hb2.block _ bF1.lt).trans bF1;have d1:=bS2.cell;have d2:=bF2.cell;have f1:=bS2.frozen)
  exact ⟨(eA hb2 _).trans ((KeepsOthers.setCell _ _ _).from _),(hb2.mono (by omega)).setCell (p:=⟨B+1,0,none⟩) (by simp;omega) _,⟨bS2.set _,bF2.other (by omega) _⟩,(hB1.trans (hb2.mono (by omega))).setCell (p:=⟨B+1,0,none⟩) (by simp) _⟩
 case done =>
  rintro D ys W hD rfl ⟨⟨bS1,bF1⟩,hB1⟩ hK;have c1:=bS1.cell;gi_wp2
  refine ⟨by simp,.inl ⟨_,_,rfl,run_takeDeferred hK,?_⟩⟩;exact ⟨_,results_tmp rfl _ _ _,rfl,by rw [hB0];exact hB1.trans (lH (w:=W0) (by omega) W D _ _ hD hK)⟩
 case stop =>
  rintro D c pre W _ _ h _;exact h.elim
end
section
open Go.RowKit Go.Shelf
attribute [local go_sem] Oper.semAt_some
theorem A8 {w:World} {B:Nat} {e:TypeId} {size:Nat} {v:Value} {n:Nat} {xs:List Value} (h:w.ownsRow B e size v n xs):∀ g,v.ownBlock=some g->B<=g:=by
 intro g hg;rcases h.2 with ⟨rfl,_⟩ | ⟨g',cap,cur,rfl,hb,_⟩
 · cases hg
 · simp only [Value.ownBlock,Option.some.injEq] at hg
   omega
theorem Fh {w w':World} {B:Nat} {e:TypeId} {size:Nat} {v:Value} {n:Nat} {xs:List Value} (h:w.ownsRow B e size v n xs) (hk:aC (fun b=>v.ownBlock=some b) w w') (D:Nat):KeepsFrom D w w' :=
 ⟨hk.size,fun k o _ h0 ho=>hk.heap h0 (fun hg=>by
  rcases h.2 with ⟨rfl,_⟩ | ⟨g',cap,cur,rfl,hb,hgb,_⟩
  · cases hg
  · simp only [Value.ownBlock,Option.some.injEq] at hg
    subst hg;rw [hgb] at h0;cases h0;cases ho)⟩
abbrev ivK (l:List Int):List Value:=l.map (Value.int .i64)
abbrev rH (most:Nat) (pre:List Q64):List Int:=pre.foldl (fun ks q=>fG most ks q.1.1) []
theorem ET (most:Nat) (pre:List Q64) (q:Q64):rH most (pre++[q])=fG most (rH most pre) q.1.1:=by simp [rH]
theorem Eb (most:Nat):∀ (pre:List Q64) (ks:List Int),aS lsL ks->ks.length<=most->aS lsL (pre.foldl (fun ks q=>fG most ks q.1.1) ks)/\(pre.foldl (fun ks q=>fG most ks q.1.1) ks).length<=most
 | [],_,h,hl=>⟨h,hl⟩
 | _::pre,_,h,hl=>Eb most pre _ (zZ h _) (F5 hl _)
theorem Jf (bl ba bp ea:Nat) (x:AG) (p:PA) (most:Nat) (L:List Q64) (w0 w:World) (hK:x.k=(most:Int)) (hm:1<=most) (hm16:most<=1000) (hea:w.heap[ea]? = some (agP x p)) (hseq:Hb bl ba bp L w0) (hb0:Below w0.heap.size w0 w) :
 CallsIn Fence.wide 4 Tryz.prog 88 #[.func (.func 139) #[] (tkF bl ba bp),.slice none 0 0,.func (.func 89) #[] #[.pointer (some ⟨ea,0,none⟩)]] w fun e w' =>
  ∃ v,e=.returned v/\w'.ownsRow w.heap.size 2 1 v (rH most L).length (ivK (rH most L))/\Below w.heap.size w w':=by
 refine callsIn_of_wp_marks Tryz.func88 rfl trivial ?_ rfl;simp only [Tryz.ntmps88,List.size_toArray,List.length_cons,List.length_nil,Nat.reduceAdd,Nat.reduceSub,Array.replicate_succ,Array.replicate_zero,List.push_toArray,List.append_toArray,List.nil_append,List.cons_append];gi_wp2
 obtain ⟨B,hB0⟩:∃ B,w.heap.size=B:=⟨_,rfl⟩;have bF:=(Boxed.new w 168 (.func (.func 89) #[] #[.pointer (some ⟨ea,0,none⟩)])).alloc (.cells #[.slice none 0 0] 58);have bS:=Boxed.new (w.alloc (.cells #[.func (.func 89) #[] #[.pointer (some ⟨ea,0,none⟩)]] 168)) 58 (.slice none 0 0);have hBw:Below B w ((w.alloc (.cells #[.func (.func 89) #[] #[.pointer (some ⟨ea,0,none⟩)]] 168)).alloc (.cells #[.slice none 0 0] 58)):=((Below.refl _ w).alloc (by omega) _).alloc (by simp;omega) _;have hsz:((w.alloc (.cells #[.func (.func 89) #[] #[.pointer (some ⟨ea,0,none⟩)]] 168)).alloc (.cells #[.slice none 0 0] 58)).heap.size=B+2:=by simp;omega
 simp only [World.size_alloc,hB0] at bF bS |-
 obtain ⟨W0,hW0⟩:∃ W0,(w.alloc (.cells #[.func (.func 89) #[] #[.pointer (some ⟨ea,0,none⟩)]] 168)).alloc (.cells #[.slice none 0 0] 58)=W0:=⟨_,rfl⟩;rw [hW0] at bF bS hBw hsz |-
 have hz0:w0.heap.size<=B:=by have:=hb0.size;omega
 have hel:ea<B:=by have:=aB hea;omega
 clear hW0
 refine wpIn_rangeFunc_ownH rfl (by decide) (gf:=139) (lb:=tkF bl ba bp) rfl trivial (enters_of Tryz.func139 (by kernel_rfl) rfl)
  hseq belowK_t (belowK_b (by omega)) (hb0.trans (hBw.mono hz0)) (fun _=>rfl)
  (fun pre W=>((∃ v,Boxed W (B+1) 58 v/\W.ownsRow (B+2) 2 1 v (rH most pre).length (ivK (rH most pre))/\True)/\Boxed W B 168 (.func (.func 89) #[] #[.pointer (some ⟨ea,0,none⟩)]))/\Below B w W)
  (fun _ _ _=>False)
  (OwnFrom.and (OwnFrom.and (Own.from (holdsRow_own (B+2) (B+1) _ _ 1 (fun pre=>(rH most pre).length) (fun pre=>ivK (rH most pre)) (fun _ _=>True)) _) (Own.from (boxed_own _ _ _) _)) (ownFrom_below (by omega) (by omega)))
  (fun _ _ _ _ _ hs _ _=>hs)
  ⟨⟨⟨_,bS,World.ownsRow_nil _ _ _ _,trivial⟩,bF⟩,hBw⟩
  (fun x a' W=>∃ Bx,B+1<Bx/\W.heap[Bx]? = some (aG x.1.1 x.1.2)/\a'={ tmps:=#[.func (.func 139) #[] (tkF bl ba bp),.slice none 0 0,.func (.func 89) #[] #[.pointer (some ⟨ea,0,none⟩)],undef,undef,.pointer (some ⟨B,0,none⟩),.slice none 0 0,.pointer (some ⟨B+1,0,none⟩),.pointer (some ⟨Bx,0,none⟩),.slice none 0 0,.func (.func 139) #[] (tkF bl ba bp),jW x.1,undef,undef,undef,undef,undef],defers:=[] })
  (fun x a' _ X Y row hs hg hr=>by obtain ⟨Bx,h1,h2,h3⟩:=hs;exact ⟨Bx,h1,dN h2 hg (fun r e=>(hr r e).2),h3⟩)
  ?assign ?body ?done ?stop
 case assign =>
  rintro l pre x W K ⟨⟨⟨v,bS1,rS1, -⟩,bF1⟩,hB1⟩ hK;have h2:=bS1.lt;gi_wp2
  exact hK _ _ ((KeepsOthers.alloc _ _).from _) ((Below.refl _ W).alloc (by omega) _) ⟨⟨⟨v,bS1.alloc _,rS1.alloc _,trivial⟩,bF1.alloc _⟩,hB1.alloc (by omega) _⟩ ⟨W.heap.size,bS1.lt,heap_alloc_new W _,rfl⟩
 case body =>
  rintro l pre q a' W hl ⟨r,hr⟩ ⟨⟨⟨v,bS1,rS1, -⟩,bF1⟩,hB1⟩ ⟨Bx,hBx,bX,rfl⟩ hlt;obtain ⟨⟨x0,x1⟩, -⟩:=two bX;have c1:=bS1.cell;have c2:=bF1.cell;have hz:=bS1.lt;have hlx:=aB bX;obtain ⟨k1,k2⟩:=Eb most pre [] List.Pairwise.nil (Nat.zero_le _);have ST:=aA (E7 (B+2) x p ea v (rH most pre) q.1.1 q.1.2 most W hK hm hm16 k2 k1 (by omega) rS1 ((hB1.block ea (by omega)).trans hea));have hrb:=A8 rS1;have hrk:=fun W2 hk=>Fh (w':=W2) rS1 hk
  obtain ⟨av,cv,rfl⟩:=eD rS1;gi_wp2_with (refine ⟨trivial,?_⟩;gi_at_call 89;refine (CallsIn.inRound l (callsIn_wide.2 ST.out)).mono ?_;rintro e W2 ⟨v',rfl,rS2,hk2⟩;obtain ⟨av2,cv2,rfl⟩:=eD rS2;have bS2:=(show W2.heap[B+1]? = _ from hk2.heap bS1 (fun h=>by have:=hrb _ h;omega));have bF2:Boxed W2 B 168 (.func (.func 89) #[] #[.pointer (some ⟨ea,0,none⟩)]):=hk2.heap bF1 (fun h=>by have:=hrb _ h;omega);have d1:=Boxed.cell bS2;have d2:=bF2.cell;have f1:=Boxed.frozen bS2)
  have hb2:Below (B+2) W W2:=hk2.below (fun i hi=>hrb i hi) (by omega);have rb2:=A8 rS2;refine ⟨(hrk _ hk2 _).trans ((KeepsOthers.setCell _ _ _).from _),(hb2.mono (by omega)).setCell (p:=⟨B+1,0,none⟩) (by simp;omega) _,⟨⟨_,Boxed.set _ bS2,?_,trivial⟩,bF2.other (by omega) _⟩,(hB1.trans (hb2.mono (by omega))).setCell (p:=⟨B+1,0,none⟩) (by simp) _⟩;rw [ET];exact rS2.kept (grownBy_setCell' W2 (B+1) _) (.inr fun e=>by have:=rb2 _ e;omega)
 case done =>
  rintro D ys W hD rfl ⟨⟨⟨v,bS1,rS1, -⟩,bF1⟩,hB1⟩ hK;have c1:=bS1.cell;gi_wp2
  refine ⟨by simp,.inl ⟨_,_,rfl,run_takeDeferred hK,?_⟩⟩;exact ⟨_,results_tmp rfl _ _ _,_,rfl,fZ (ownsRow_putObj rS1 _ hK rfl) (by omega),by rw [hB0];exact hB1.trans (lH (w:=W0) (by omega) W D _ _ hD hK)⟩
 case stop =>
  rintro D c pre W _ _ h _;exact h.elim
end
section
open Go.RowKit Go.Shelf
attribute [local go_sem] Oper.semAt_some
abbrev cR (o:Option Q64):Int×Int:=match o with | none=>(0,0) | some q=>q.1
theorem lG {D n0 B:Nat} {w W:World} {t0 t1:TypeId} {fv:Value} {v0 v1 u0 u1:Int} {b:Bool} (bS:Boxed W (B+3) t0 (.bool b)) (bT:W.heap[B+2]? = some (aG u0 u1)) (bF:Boxed W B t1 fv) (bR:W.heap[B+1]? = some (aG 0 0)) (hB1:Below B w W) (hn:n0<=B) :
 let V:=((W.setCell ⟨B+2,0,none⟩ (.int .i64 v0)).setCell ⟨B+2,1,none⟩ (.int .i64 v1)).setCell ⟨B+3,0,none⟩ (.bool true)
 KeepsFrom D W V/\Below n0 W V/\(((Boxed V (B+3) t0 (.bool true)/\V.heap[B+2]? = some (aG v0 v1))/\(Boxed V B t1 fv/\V.heap[B+1]? = some (aG 0 0)))/\Below B w V):=by
 intro V;have hk:=(((aC.refl (fun b=>b=B+2\/b=B+3) W).setCell (p:=⟨B+2,0,none⟩) (.inl (.inl rfl)) (.int .i64 v0)).setCell (p:=⟨B+2,1,none⟩) (.inl (.inl rfl)) (.int .i64 v1)).setCell (p:=⟨B+3,0,none⟩) (.inl (.inr rfl)) (.bool true);have hz:=Boxed.lt bS;have hb:Below (B+2) W V:=hk.below (fun i hi=>by omega) (by omega)
 have kS:(((W.setCell ⟨B+2,0,none⟩ (.int .i64 v0)).setCell ⟨B+2,1,none⟩ (.int .i64 v1))).heap[B+3]? = _ :=
  (((aC.refl (fun b=>b=B+2) W).setCell (p:=⟨B+2,0,none⟩) (.inl rfl) (.int .i64 v0)).setCell (p:=⟨B+2,1,none⟩) (.inl rfl) (.int .i64 v1)).heap bS (by omega)
 refine ⟨(((KeepsOthers.setCell _ _ _).trans (KeepsOthers.setCell _ _ _)).trans (KeepsOthers.setCell _ _ _)).from _,hb.mono (by omega),⟨⟨Boxed.set _ kS,?_⟩,?_,?_⟩,hB1.trans (hb.mono (by omega))⟩
 · exact ((aC.refl (fun b=>b=B+3) _).setCell (p:=⟨B+3,0,none⟩) (.inl rfl) _).heap (iE bT _ _) (by omega)
 · exact (hb.block _ (by omega)).trans bF
 · exact (hb.block _ (by omega)).trans bR
theorem pR {K:Type} (less:K->K->Bool) (l:List K) (q:K):aX less (l++[q])=stB less (aX less l) q:=by unfold aX;rw [List.foldl_append];rfl
theorem JD (bl ba bp:Nat) (L:List Q64) (w0 w:World) (hseq:Hb bl ba bp L w0) (hb0:Below w0.heap.size w0 w) (less:Q64->Q64->Bool)
 (hst:∀ (a b:Q64) (W:World),Calls Tryz.prog 145 #[jW a.1,jW b.1] W fun e W'=>e=.returned (.bool (less a b))/\Below W.heap.size W W') :
 CallsIn Fence.wide 4 Tryz.prog 91 #[.func (.func 139) #[] (tkF bl ba bp),.func (.func 145) #[] #[]] w fun e w'=>e=.returned (.tuple #[jW (cR (aX less L)),.bool (aX less L).isSome])/\Below w.heap.size w w':=by
 refine callsIn_of_wp_marks Tryz.func91 rfl trivial ?_ rfl;simp only [Tryz.ntmps91,List.size_toArray,List.length_cons,List.length_nil,Nat.reduceAdd,Nat.reduceSub,Array.replicate_succ,Array.replicate_zero,List.push_toArray,List.append_toArray,List.nil_append,List.cons_append];gi_wp2
 obtain ⟨B,hB0⟩:∃ B,w.heap.size=B:=⟨_,rfl⟩;have bF:=(((Boxed.new w 171 (.func (.func 145) #[] #[])).alloc (aG 0 0)).alloc (aG 0 0)).alloc (.cells #[.bool false] 4);have bR:=heap_alloc_new (w.alloc (.cells #[.func (.func 145) #[] #[]] 171)) (aG 0 0);have bT:=heap_alloc_new ((w.alloc (.cells #[.func (.func 145) #[] #[]] 171)).alloc (aG 0 0)) (aG 0 0);have bS:=Boxed.new (((w.alloc (.cells #[.func (.func 145) #[] #[]] 171)).alloc (aG 0 0)).alloc (aG 0 0)) 4 (.bool false);have hBw:Below B w ((((w.alloc (.cells #[.func (.func 145) #[] #[]] 171)).alloc (aG 0 0)).alloc (aG 0 0)).alloc (.cells #[.bool false] 4)):=((((Below.refl _ w).alloc (by omega) _).alloc (by simp;omega) _).alloc (by simp;omega) _).alloc (by simp;omega) _;have hsz:((((w.alloc (.cells #[.func (.func 145) #[] #[]] 171)).alloc (aG 0 0)).alloc (aG 0 0)).alloc (.cells #[.bool false] 4)).heap.size=B+4:=by simp;omega
 have bR2:((((w.alloc (.cells #[.func (.func 145) #[] #[]] 171)).alloc (aG 0 0)).alloc (aG 0 0)).alloc (.cells #[.bool false] 4)).heap[B+1]? = some (aG 0 0):=by
  rw [World.size_alloc,hB0] at bR;exact ((((Below.refl (B+2) ((w.alloc (.cells #[.func (.func 145) #[] #[]] 171)).alloc (aG 0 0))).alloc (by simp;omega) (aG 0 0)).alloc (by simp;omega) (.cells #[.bool false] 4)).block _ (by omega)).trans bR
 have bT2:((((w.alloc (.cells #[.func (.func 145) #[] #[]] 171)).alloc (aG 0 0)).alloc (aG 0 0)).alloc (.cells #[.bool false] 4)).heap[B+2]? = some (aG 0 0):=by
  rw [World.size_alloc,World.size_alloc,hB0] at bT;exact (((Below.refl (B+3) (((w.alloc (.cells #[.func (.func 145) #[] #[]] 171)).alloc (aG 0 0)).alloc (aG 0 0))).alloc (by simp;omega) (.cells #[.bool false] 4)).block _ (by omega)).trans bT
 clear bR bT;simp only [World.size_alloc,hB0] at bF bS |-
 obtain ⟨W0,hW0⟩:∃ W0,(((w.alloc (.cells #[.func (.func 145) #[] #[]] 171)).alloc (aG 0 0)).alloc (aG 0 0)).alloc (.cells #[.bool false] 4)=W0:=⟨_,rfl⟩;rw [hW0] at bF bS bR2 bT2 hBw hsz;rw [show (((w.alloc (.cells #[.func (.func 145) #[] #[]] 171)).alloc (.cells #[.int .i64 0,.int .i64 0] 163)).alloc (.cells #[.int .i64 0,.int .i64 0] 163)).alloc (.cells #[.bool false] 4)=W0 from hW0];have hz0:w0.heap.size<=B:=by have:=hb0.size;omega
 clear hW0
 refine wpIn_rangeFunc_ownH rfl (by decide) (gf:=139) (lb:=tkF bl ba bp) rfl trivial (enters_of Tryz.func139 (by kernel_rfl) rfl)
  hseq belowK_t (belowK_b (by omega)) (hb0.trans (hBw.mono hz0)) (fun _=>rfl)
  (fun pre W=>((Boxed W (B+3) 4 (.bool (aX less pre).isSome)/\W.heap[B+2]? = some (aG (cR (aX less pre)).1 (cR (aX less pre)).2))/\(Boxed W B 171 (.func (.func 145) #[] #[])/\W.heap[B+1]? = some (aG 0 0)))/\Below B w W)
  (fun _ _ _=>False)
  (OwnFrom.and (OwnFrom.and (OwnFrom.and (Own.from (boxed_own _ _ _) _) (fun s X Y row hs hg hr=>dN hs hg (fun r e=>(hr r e).2))) (OwnFrom.and (Own.from (boxed_own _ _ _) _) (fun s X Y row hs hg hr=>dN hs hg (fun r e=>(hr r e).2)))) (ownFrom_below (by omega) (by omega)))
  (fun _ _ _ _ _ hs _ _=>hs)
  ⟨⟨⟨bS,bT2⟩,bF,bR2⟩,hBw⟩
  (fun x a' W=>∃ Bx,B+3<Bx/\W.heap[Bx]? = some (aG x.1.1 x.1.2)/\a'={ tmps:=#[.func (.func 139) #[] (tkF bl ba bp),.func (.func 145) #[] #[],undef,.pointer (some ⟨B,0,none⟩),.pointer (some ⟨B+1,0,none⟩),.bool false,.pointer (some ⟨B+2,0,none⟩),.pointer (some ⟨B+3,0,none⟩),.pointer (some ⟨Bx,0,none⟩),.func (.func 139) #[] (tkF bl ba bp),jW x.1,undef,undef,undef,undef,undef,undef,undef,undef,undef,undef,undef],defers:=[] })
  (fun x a' _ X Y row hs hg hr=>by obtain ⟨Bx,h1,h2,h3⟩:=hs;exact ⟨Bx,h1,dN h2 hg (fun r e=>(hr r e).2),h3⟩)
  ?assign ?body ?done ?stop
 case assign =>
  rintro l pre x W K ⟨⟨⟨bS1,bT1⟩,bF1,bR1⟩,hB1⟩ hK;have h2:=bS1.lt;gi_wp2
  exact hK _ _ ((KeepsOthers.alloc _ _).from _) ((Below.refl _ W).alloc (by omega) _) ⟨⟨⟨bS1.alloc _,(Below.heap_alloc W _ _ (aB bT1)).trans bT1⟩,bF1.alloc _,(Below.heap_alloc W _ _ (aB bR1)).trans bR1⟩,hB1.alloc (by omega) _⟩ ⟨W.heap.size,bS1.lt,heap_alloc_new W _,rfl⟩
 case body =>
  rintro l pre x a' W hl ⟨r,hr⟩ ⟨⟨⟨bS1,bT1⟩,bF1,bR1⟩,hB1⟩ ⟨Bx,hBx,bX,rfl⟩ hlt;have hz:=bS1.lt;obtain ⟨⟨x0,x1⟩, -⟩:=two bX;have c1:=bS1.cell;have c2:=bF1.cell;have f1:=bS1.frozen;obtain ⟨⟨t0,t1⟩,g0,g1⟩:=two bT1;have hsn:=pR less pre x;cases ho:aX less pre with
  | none =>
    rw [ho] at bS1 c1 bT1 t0 t1 hsn;simp only [Option.isSome_none] at c1 bS1;gi_wp2
    refine ⟨fun _ h=>(by cases h),?_⟩;gi_wp2
    obtain ⟨q1,q2,q3⟩:=lG (D:=W0.heap.size) (n0:=w0.heap.size) (v0:=x.1.1) (v1:=x.1.2) bS1 bT1 bF1 bR1 hB1 hz0;refine ⟨q1,q2,?_⟩;dsimp only;rw [hsn];exact q3
  | some b =>
    rw [ho] at bS1 c1 t0 t1 bT1 hsn;simp only [Option.isSome_some] at c1 bS1;have ST:=aA (hst x b W);cases hlb:less x b with
    | true =>
      rw [hlb] at ST;gi_wp2_with (refine ⟨trivial,?_⟩;gi_at_call 145;refine (CallsIn.inRound l (callsIn_wide.2 ST.out)).mono ?_;rintro e W2 ⟨rfl,hb2⟩;have bX2:=(hb2.block _ (aB bX)).trans bX;have bT2':=(hb2.block _ (aB bT1)).trans bT1;have bS2:Boxed W2 (B+3) 4 (.bool true):=(hb2.block _ bS1.lt).trans bS1;obtain ⟨⟨x20,x21⟩, -⟩:=two bX2;obtain ⟨⟨t20,t21⟩,g20,g21⟩:=two bT2';have f2:=bS2.frozen;have c21:=bS2.cell)
      have bF2:=(hb2.block _ bF1.lt).trans bF1;have bR2':=(hb2.block _ (aB bR1)).trans bR1;obtain ⟨q1,q2,q3⟩:=lG (D:=W0.heap.size) (n0:=w0.heap.size) (v0:=x.1.1) (v1:=x.1.2) bS2 bT2' bF2 bR2' (hB1.trans (hb2.mono (by omega))) hz0;refine ⟨(eA hb2 _).trans q1,(hb2.mono (by omega)).trans q2,?_⟩;dsimp only;rw [hsn,show stB less (some b) x=some x by simp [stB,hlb]];exact q3
    | false =>
      rw [hlb] at ST;gi_wp2_with (refine ⟨trivial,?_⟩;gi_at_call 145;refine (CallsIn.inRound l (callsIn_wide.2 ST.out)).mono ?_;rintro e W2 ⟨rfl,hb2⟩)
      refine ⟨eA hb2 _,hb2.mono (by omega),?_⟩;dsimp only;rw [hsn,show stB less (some b) x=some b by simp [stB,hlb]];exact ⟨⟨⟨(hb2.block _ bS1.lt).trans bS1,(hb2.block _ (aB bT1)).trans bT1⟩,(hb2.block _ bF1.lt).trans bF1,(hb2.block _ (aB bR1)).trans bR1⟩,hB1.trans (hb2.mono (by omega))⟩
 case done =>
  rintro D ys W hD rfl ⟨⟨⟨bS1,bT1⟩,bF1,bR1⟩,hB1⟩ hK;have c1:=bS1.cell;obtain ⟨⟨t0,t1⟩,g0,g1⟩:=two bT1;obtain ⟨⟨r00,r01⟩,r0,r1⟩:=two bR1;have e0:W.drew.frozen? ⟨B+1,0,none⟩=false:=r0;have e1:W.drew.frozen? ⟨B+1,1,none⟩=false:=r1;have e2:W.drew.cell? ⟨B+1,0,none⟩=some (.int .i64 0):=r00;have e3:W.drew.cell? ⟨B+1,1,none⟩=some (.int .i64 0):=r01;gi_wp2
  gi_region
  gi_wp2
  have hz:=bS1.lt;obtain ⟨V,hV⟩:∃ V,((W.setCell ⟨B+1,0,none⟩ (.int .i64 (cR (aX less ys)).1)).setCell ⟨B+1,1,none⟩ (.int .i64 (cR (aX less ys)).2)).drew=V:=⟨_,rfl⟩;have hkp:=((((aC.refl (fun b=>b=B+1) W).setCell (p:=⟨B+1,0,none⟩) (.inl rfl) (.int .i64 (cR (aX less ys)).1)).setCell (p:=⟨B+1,1,none⟩) (.inl rfl) (.int .i64 (cR (aX less ys)).2))).drew;have hT:V.heap[B+1]? = some (aG (cR (aX less ys)).1 (cR (aX less ys)).2):=by rw [<- hV];exact iE bR1 _ _
  rw [hV] at hkp |-
  have hKV:=hkp.heap hK (by omega);have hBV:Below B w V:=hB1.trans (hkp.below (fun i hi=>by omega) (by omega));clear hV e0 e1 e2 e3 r00 r01 r0 r1 t0 t1 g0 g1 c1;refine ⟨by simp,.inl ⟨_,_,rfl,run_takeDeferred hKV,?_⟩⟩;have hT2:(V.putObj D (.deferred none)).heap[B+1]? = some (aG (cR (aX less ys)).1 (cR (aX less ys)).2):=(World.putObj_heap_other (by omega)).trans hT;obtain ⟨⟨y0,y1⟩, -⟩:=two hT2;refine ⟨.tuple #[jW (cR (aX less ys)),.bool (aX less ys).isSome],by simp [results,Tryz.f91,go_sem,y0,y1],rfl,?_⟩;rw [hB0];exact hBV.trans (lH (w:=W0) (by omega) V D _ _ hD hKV)
 case stop =>
  rintro D c pre W _ _ h _;exact h.elim
theorem JC (bl ba bp:Nat) (L:List Q64) (w0 w:World) (hseq:Hb bl ba bp L w0) (hb0:Below w0.heap.size w0 w) (less:Q64->Q64->Bool)
 (hst:∀ (a b:Q64) (W:World),Calls Tryz.prog 146 #[jW a.1,jW b.1] W fun e W'=>e=.returned (.bool (less a b))/\Below W.heap.size W W') :
 CallsIn Fence.wide 4 Tryz.prog 91 #[.func (.func 139) #[] (tkF bl ba bp),.func (.func 146) #[] #[]] w fun e w'=>e=.returned (.tuple #[jW (cR (aX less L)),.bool (aX less L).isSome])/\Below w.heap.size w w':=by
 refine callsIn_of_wp_marks Tryz.func91 rfl trivial ?_ rfl;simp only [Tryz.ntmps91,List.size_toArray,List.length_cons,List.length_nil,Nat.reduceAdd,Nat.reduceSub,Array.replicate_succ,Array.replicate_zero,List.push_toArray,List.append_toArray,List.nil_append,List.cons_append];gi_wp2
 obtain ⟨B,hB0⟩:∃ B,w.heap.size=B:=⟨_,rfl⟩;have bF:=(((Boxed.new w 171 (.func (.func 146) #[] #[])).alloc (aG 0 0)).alloc (aG 0 0)).alloc (.cells #[.bool false] 4);have bR:=heap_alloc_new (w.alloc (.cells #[.func (.func 146) #[] #[]] 171)) (aG 0 0);have bT:=heap_alloc_new ((w.alloc (.cells #[.func (.func 146) #[] #[]] 171)).alloc (aG 0 0)) (aG 0 0);have bS:=Boxed.new (((w.alloc (.cells #[.func (.func 146) #[] #[]] 171)).alloc (aG 0 0)).alloc (aG 0 0)) 4 (.bool false);have hBw:Below B w ((((w.alloc (.cells #[.func (.func 146) #[] #[]] 171)).alloc (aG 0 0)).alloc (aG 0 0)).alloc (.cells #[.bool false] 4)):=((((Below.refl _ w).alloc (by omega) _).alloc (by simp;omega) _).alloc (by simp;omega) _).alloc (by simp;omega) _;have hsz:((((w.alloc (.cells #[.func (.func 146) #[] #[]] 171)).alloc (aG 0 0)).alloc (aG 0 0)).alloc (.cells #[.bool false] 4)).heap.size=B+4:=by simp;omega
 have bR2:((((w.alloc (.cells #[.func (.func 146) #[] #[]] 171)).alloc (aG 0 0)).alloc (aG 0 0)).alloc (.cells #[.bool false] 4)).heap[B+1]? = some (aG 0 0):=by
  rw [World.size_alloc,hB0] at bR;exact ((((Below.refl (B+2) ((w.alloc (.cells #[.func (.func 146) #[] #[]] 171)).alloc (aG 0 0))).alloc (by simp;omega) (aG 0 0)).alloc (by simp;omega) (.cells #[.bool false] 4)).block _ (by omega)).trans bR
 have bT2:((((w.alloc (.cells #[.func (.func 146) #[] #[]] 171)).alloc (aG 0 0)).alloc (aG 0 0)).alloc (.cells #[.bool false] 4)).heap[B+2]? = some (aG 0 0):=by
  rw [World.size_alloc,World.size_alloc,hB0] at bT;exact (((Below.refl (B+3) (((w.alloc (.cells #[.func (.func 146) #[] #[]] 171)).alloc (aG 0 0)).alloc (aG 0 0))).alloc (by simp;omega) (.cells #[.bool false] 4)).block _ (by omega)).trans bT
 clear bR bT;simp only [World.size_alloc,hB0] at bF bS |-
 obtain ⟨W0,hW0⟩:∃ W0,(((w.alloc (.cells #[.func (.func 146) #[] #[]] 171)).alloc (aG 0 0)).alloc (aG 0 0)).alloc (.cells #[.bool false] 4)=W0:=⟨_,rfl⟩;rw [hW0] at bF bS bR2 bT2 hBw hsz;rw [show (((w.alloc (.cells #[.func (.func 146) #[] #[]] 171)).alloc (.cells #[.int .i64 0,.int .i64 0] 163)).alloc (.cells #[.int .i64 0,.int .i64 0] 163)).alloc (.cells #[.bool false] 4)=W0 from hW0];have hz0:w0.heap.size<=B:=by have:=hb0.size;omega
 clear hW0
 refine wpIn_rangeFunc_ownH rfl (by decide) (gf:=139) (lb:=tkF bl ba bp) rfl trivial (enters_of Tryz.func139 (by kernel_rfl) rfl)
  hseq belowK_t (belowK_b (by omega)) (hb0.trans (hBw.mono hz0)) (fun _=>rfl)
  (fun pre W=>((Boxed W (B+3) 4 (.bool (aX less pre).isSome)/\W.heap[B+2]? = some (aG (cR (aX less pre)).1 (cR (aX less pre)).2))/\(Boxed W B 171 (.func (.func 146) #[] #[])/\W.heap[B+1]? = some (aG 0 0)))/\Below B w W)
  (fun _ _ _=>False)
  (OwnFrom.and (OwnFrom.and (OwnFrom.and (Own.from (boxed_own _ _ _) _) (fun s X Y row hs hg hr=>dN hs hg (fun r e=>(hr r e).2))) (OwnFrom.and (Own.from (boxed_own _ _ _) _) (fun s X Y row hs hg hr=>dN hs hg (fun r e=>(hr r e).2)))) (ownFrom_below (by omega) (by omega)))
  (fun _ _ _ _ _ hs _ _=>hs)
  ⟨⟨⟨bS,bT2⟩,bF,bR2⟩,hBw⟩
  (fun x a' W=>∃ Bx,B+3<Bx/\W.heap[Bx]? = some (aG x.1.1 x.1.2)/\a'={ tmps:=#[.func (.func 139) #[] (tkF bl ba bp),.func (.func 146) #[] #[],undef,.pointer (some ⟨B,0,none⟩),.pointer (some ⟨B+1,0,none⟩),.bool false,.pointer (some ⟨B+2,0,none⟩),.pointer (some ⟨B+3,0,none⟩),.pointer (some ⟨Bx,0,none⟩),.func (.func 139) #[] (tkF bl ba bp),jW x.1,undef,undef,undef,undef,undef,undef,undef,undef,undef,undef,undef],defers:=[] })
  (fun x a' _ X Y row hs hg hr=>by obtain ⟨Bx,h1,h2,h3⟩:=hs;exact ⟨Bx,h1,dN h2 hg (fun r e=>(hr r e).2),h3⟩)
  ?assign ?body ?done ?stop
 case assign =>
  rintro l pre x W K ⟨⟨⟨bS1,bT1⟩,bF1,bR1⟩,hB1⟩ hK;have h2:=bS1.lt;gi_wp2
  exact hK _ _ ((KeepsOthers.alloc _ _).from _) ((Below.refl _ W).alloc (by omega) _) ⟨⟨⟨bS1.alloc _,(Below.heap_alloc W _ _ (aB bT1)).trans bT1⟩,bF1.alloc _,(Below.heap_alloc W _ _ (aB bR1)).trans bR1⟩,hB1.alloc (by omega) _⟩ ⟨W.heap.size,bS1.lt,heap_alloc_new W _,rfl⟩
 case body =>
  rintro l pre x a' W hl ⟨r,hr⟩ ⟨⟨⟨bS1,bT1⟩,bF1,bR1⟩,hB1⟩ ⟨Bx,hBx,bX,rfl⟩ hlt;have hz:=bS1.lt;obtain ⟨⟨x0,x1⟩, -⟩:=two bX;have c1:=bS1.cell;have c2:=bF1.cell;have f1:=bS1.frozen;obtain ⟨⟨t0,t1⟩,g0,g1⟩:=two bT1;have hsn:=pR less pre x;cases ho:aX less pre with
  | none =>
    rw [ho] at bS1 c1 bT1 t0 t1 hsn;simp only [Option.isSome_none] at c1 bS1;gi_wp2
    refine ⟨fun _ h=>(by cases h),?_⟩;gi_wp2
    obtain ⟨q1,q2,q3⟩:=lG (D:=W0.heap.size) (n0:=w0.heap.size) (v0:=x.1.1) (v1:=x.1.2) bS1 bT1 bF1 bR1 hB1 hz0;refine ⟨q1,q2,?_⟩;dsimp only;rw [hsn];exact q3
  | some b =>
    rw [ho] at bS1 c1 t0 t1 bT1 hsn;simp only [Option.isSome_some] at c1 bS1;have ST:=aA (hst x b W);cases hlb:less x b with
    | true =>
      rw [hlb] at ST;gi_wp2_with (refine ⟨trivial,?_⟩;gi_at_call 146;refine (CallsIn.inRound l (callsIn_wide.2 ST.out)).mono ?_;rintro e W2 ⟨rfl,hb2⟩;have bX2:=(hb2.block _ (aB bX)).trans bX;have bT2':=(hb2.block _ (aB bT1)).trans bT1;have bS2:Boxed W2 (B+3) 4 (.bool true):=(hb2.block _ bS1.lt).trans bS1;obtain ⟨⟨x20,x21⟩, -⟩:=two bX2;obtain ⟨⟨t20,t21⟩,g20,g21⟩:=two bT2';have f2:=bS2.frozen;have c21:=bS2.cell)
      have bF2:=(hb2.block _ bF1.lt).trans bF1;have bR2':=(hb2.block _ (aB bR1)).trans bR1;obtain ⟨q1,q2,q3⟩:=lG (D:=W0.heap.size) (n0:=w0.heap.size) (v0:=x.1.1) (v1:=x.1.2) bS2 bT2' bF2 bR2' (hB1.trans (hb2.mono (by omega))) hz0;refine ⟨(eA hb2 _).trans q1,(hb2.mono (by omega)).trans q2,?_⟩;dsimp only;rw [hsn,show stB less (some b) x=some x by simp [stB,hlb]];exact q3
    | false =>
      rw [hlb] at ST;gi_wp2_with (refine ⟨trivial,?_⟩;gi_at_call 146;refine (CallsIn.inRound l (callsIn_wide.2 ST.out)).mono ?_;rintro e W2 ⟨rfl,hb2⟩)
      refine ⟨eA hb2 _,hb2.mono (by omega),?_⟩;dsimp only;rw [hsn,show stB less (some b) x=some b by simp [stB,hlb]];exact ⟨⟨⟨(hb2.block _ bS1.lt).trans bS1,(hb2.block _ (aB bT1)).trans bT1⟩,(hb2.block _ bF1.lt).trans bF1,(hb2.block _ (aB bR1)).trans bR1⟩,hB1.trans (hb2.mono (by omega))⟩
 case done =>
  rintro D ys W hD rfl ⟨⟨⟨bS1,bT1⟩,bF1,bR1⟩,hB1⟩ hK;have c1:=bS1.cell;obtain ⟨⟨t0,t1⟩,g0,g1⟩:=two bT1;obtain ⟨⟨r00,r01⟩,r0,r1⟩:=two bR1;have e0:W.drew.frozen? ⟨B+1,0,none⟩=false:=r0;have e1:W.drew.frozen? ⟨B+1,1,none⟩=false:=r1;have e2:W.drew.cell? ⟨B+1,0,none⟩=some (.int .i64 0):=r00;have e3:W.drew.cell? ⟨B+1,1,none⟩=some (.int .i64 0):=r01;gi_wp2
  gi_region
  gi_wp2
  have hz:=bS1.lt;obtain ⟨V,hV⟩:∃ V,((W.setCell ⟨B+1,0,none⟩ (.int .i64 (cR (aX less ys)).1)).setCell ⟨B+1,1,none⟩ (.int .i64 (cR (aX less ys)).2)).drew=V:=⟨_,rfl⟩;have hkp:=((((aC.refl (fun b=>b=B+1) W).setCell (p:=⟨B+1,0,none⟩) (.inl rfl) (.int .i64 (cR (aX less ys)).1)).setCell (p:=⟨B+1,1,none⟩) (.inl rfl) (.int .i64 (cR (aX less ys)).2))).drew;have hT:V.heap[B+1]? = some (aG (cR (aX less ys)).1 (cR (aX less ys)).2):=by rw [<- hV];exact iE bR1 _ _
  rw [hV] at hkp |-
  have hKV:=hkp.heap hK (by omega);have hBV:Below B w V:=hB1.trans (hkp.below (fun i hi=>by omega) (by omega));clear hV e0 e1 e2 e3 r00 r01 r0 r1 t0 t1 g0 g1 c1;refine ⟨by simp,.inl ⟨_,_,rfl,run_takeDeferred hKV,?_⟩⟩;have hT2:(V.putObj D (.deferred none)).heap[B+1]? = some (aG (cR (aX less ys)).1 (cR (aX less ys)).2):=(World.putObj_heap_other (by omega)).trans hT;obtain ⟨⟨y0,y1⟩, -⟩:=two hT2;refine ⟨.tuple #[jW (cR (aX less ys)),.bool (aX less ys).isSome],by simp [results,Tryz.f91,go_sem,y0,y1],rfl,?_⟩;rw [hB0];exact hBV.trans (lH (w:=W0) (by omega) V D _ _ hD hKV)
 case stop =>
  rintro D c pre W _ _ h _;exact h.elim
theorem JA (bl ba bp:Nat) (L:List Q64) (w0 w:World) (hseq:Hb bl ba bp L w0) (hb0:Below w0.heap.size w0 w) (less:Q64->Q64->Bool)
 (hst:∀ (a b:Q64) (W:World),Calls Tryz.prog 147 #[jW a.1,jW b.1] W fun e W'=>e=.returned (.bool (less a b))/\Below W.heap.size W W') :
 CallsIn Fence.wide 4 Tryz.prog 91 #[.func (.func 139) #[] (tkF bl ba bp),.func (.func 147) #[] #[]] w fun e w'=>e=.returned (.tuple #[jW (cR (aX less L)),.bool (aX less L).isSome])/\Below w.heap.size w w':=by
 refine callsIn_of_wp_marks Tryz.func91 rfl trivial ?_ rfl;simp only [Tryz.ntmps91,List.size_toArray,List.length_cons,List.length_nil,Nat.reduceAdd,Nat.reduceSub,Array.replicate_succ,Array.replicate_zero,List.push_toArray,List.append_toArray,List.nil_append,List.cons_append];gi_wp2
 obtain ⟨B,hB0⟩:∃ B,w.heap.size=B:=⟨_,rfl⟩;have bF:=(((Boxed.new w 171 (.func (.func 147) #[] #[])).alloc (aG 0 0)).alloc (aG 0 0)).alloc (.cells #[.bool false] 4);have bR:=heap_alloc_new (w.alloc (.cells #[.func (.func 147) #[] #[]] 171)) (aG 0 0);have bT:=heap_alloc_new ((w.alloc (.cells #[.func (.func 147) #[] #[]] 171)).alloc (aG 0 0)) (aG 0 0);have bS:=Boxed.new (((w.alloc (.cells #[.func (.func 147) #[] #[]] 171)).alloc (aG 0 0)).alloc (aG 0 0)) 4 (.bool false);have hBw:Below B w ((((w.alloc (.cells #[.func (.func 147) #[] #[]] 171)).alloc (aG 0 0)).alloc (aG 0 0)).alloc (.cells #[.bool false] 4)):=((((Below.refl _ w).alloc (by omega) _).alloc (by simp;omega) _).alloc (by simp;omega) _).alloc (by simp;omega) _;have hsz:((((w.alloc (.cells #[.func (.func 147) #[] #[]] 171)).alloc (aG 0 0)).alloc (aG 0 0)).alloc (.cells #[.bool false] 4)).heap.size=B+4:=by simp;omega
 have bR2:((((w.alloc (.cells #[.func (.func 147) #[] #[]] 171)).alloc (aG 0 0)).alloc (aG 0 0)).alloc (.cells #[.bool false] 4)).heap[B+1]? = some (aG 0 0):=by
  rw [World.size_alloc,hB0] at bR;exact ((((Below.refl (B+2) ((w.alloc (.cells #[.func (.func 147) #[] #[]] 171)).alloc (aG 0 0))).alloc (by simp;omega) (aG 0 0)).alloc (by simp;omega) (.cells #[.bool false] 4)).block _ (by omega)).trans bR
 have bT2:((((w.alloc (.cells #[.func (.func 147) #[] #[]] 171)).alloc (aG 0 0)).alloc (aG 0 0)).alloc (.cells #[.bool false] 4)).heap[B+2]? = some (aG 0 0):=by
  rw [World.size_alloc,World.size_alloc,hB0] at bT;exact (((Below.refl (B+3) (((w.alloc (.cells #[.func (.func 147) #[] #[]] 171)).alloc (aG 0 0)).alloc (aG 0 0))).alloc (by simp;omega) (.cells #[.bool false] 4)).block _ (by omega)).trans bT
 clear bR bT;simp only [World.size_alloc,hB0] at bF bS |-
 obtain ⟨W0,hW0⟩:∃ W0,(((w.alloc (.cells #[.func (.func 147) #[] #[]] 171)).alloc (aG 0 0)).alloc (aG 0 0)).alloc (.cells #[.bool false] 4)=W0:=⟨_,rfl⟩;rw [hW0] at bF bS bR2 bT2 hBw hsz;rw [show (((w.alloc (.cells #[.func (.func 147) #[] #[]] 171)).alloc (.cells #[.int .i64 0,.int .i64 0] 163)).alloc (.cells #[.int .i64 0,.int .i64 0] 163)).alloc (.cells #[.bool false] 4)=W0 from hW0];have hz0:w0.heap.size<=B:=by have:=hb0.size;omega
 clear hW0
 refine wpIn_rangeFunc_ownH rfl (by decide) (gf:=139) (lb:=tkF bl ba bp) rfl trivial (enters_of Tryz.func139 (by kernel_rfl) rfl)
  hseq belowK_t (belowK_b (by omega)) (hb0.trans (hBw.mono hz0)) (fun _=>rfl)
  (fun pre W=>((Boxed W (B+3) 4 (.bool (aX less pre).isSome)/\W.heap[B+2]? = some (aG (cR (aX less pre)).1 (cR (aX less pre)).2))/\(Boxed W B 171 (.func (.func 147) #[] #[])/\W.heap[B+1]? = some (aG 0 0)))/\Below B w W)
  (fun _ _ _=>False)
  (OwnFrom.and (OwnFrom.and (OwnFrom.and (Own.from (boxed_own _ _ _) _) (fun s X Y row hs hg hr=>dN hs hg (fun r e=>(hr r e).2))) (OwnFrom.and (Own.from (boxed_own _ _ _) _) (fun s X Y row hs hg hr=>dN hs hg (fun r e=>(hr r e).2)))) (ownFrom_below (by omega) (by omega)))
  (fun _ _ _ _ _ hs _ _=>hs)
  ⟨⟨⟨bS,bT2⟩,bF,bR2⟩,hBw⟩
  (fun x a' W=>∃ Bx,B+3<Bx/\W.heap[Bx]? = some (aG x.1.1 x.1.2)/\a'={ tmps:=#[.func (.func 139) #[] (tkF bl ba bp),.func (.func 147) #[] #[],undef,.pointer (some ⟨B,0,none⟩),.pointer (some ⟨B+1,0,none⟩),.bool false,.pointer (some ⟨B+2,0,none⟩),.pointer (some ⟨B+3,0,none⟩),.pointer (some ⟨Bx,0,none⟩),.func (.func 139) #[] (tkF bl ba bp),jW x.1,undef,undef,undef,undef,undef,undef,undef,undef,undef,undef,undef],defers:=[] })
  (fun x a' _ X Y row hs hg hr=>by obtain ⟨Bx,h1,h2,h3⟩:=hs;exact ⟨Bx,h1,dN h2 hg (fun r e=>(hr r e).2),h3⟩)
  ?assign ?body ?done ?stop
 case assign =>
  rintro l pre x W K ⟨⟨⟨bS1,bT1⟩,bF1,bR1⟩,hB1⟩ hK;have h2:=bS1.lt;gi_wp2
  exact hK _ _ ((KeepsOthers.alloc _ _).from _) ((Below.refl _ W).alloc (by omega) _) ⟨⟨⟨bS1.alloc _,(Below.heap_alloc W _ _ (aB bT1)).trans bT1⟩,bF1.alloc _,(Below.heap_alloc W _ _ (aB bR1)).trans bR1⟩,hB1.alloc (by omega) _⟩ ⟨W.heap.size,bS1.lt,heap_alloc_new W _,rfl⟩
 case body =>
  rintro l pre x a' W hl ⟨r,hr⟩ ⟨⟨⟨bS1,bT1⟩,bF1,bR1⟩,hB1⟩ ⟨Bx,hBx,bX,rfl⟩ hlt;have hz:=bS1.lt;obtain ⟨⟨x0,x1⟩, -⟩:=two bX;have c1:=bS1.cell;have c2:=bF1.cell;have f1:=bS1.frozen;obtain ⟨⟨t0,t1⟩,g0,g1⟩:=two bT1;have hsn:=pR less pre x;cases ho:aX less pre with
  | none =>
    rw [ho] at bS1 c1 bT1 t0 t1 hsn;simp only [Option.isSome_none] at c1 bS1;gi_wp2
    refine ⟨fun _ h=>(by cases h),?_⟩;gi_wp2
    obtain ⟨q1,q2,q3⟩:=lG (D:=W0.heap.size) (n0:=w0.heap.size) (v0:=x.1.1) (v1:=x.1.2) bS1 bT1 bF1 bR1 hB1 hz0;refine ⟨q1,q2,?_⟩;dsimp only;rw [hsn];exact q3
  | some b =>
    rw [ho] at bS1 c1 t0 t1 bT1 hsn;simp only [Option.isSome_some] at c1 bS1;have ST:=aA (hst x b W);cases hlb:less x b with
    | true =>
      rw [hlb] at ST;gi_wp2_with (refine ⟨trivial,?_⟩;gi_at_call 147;refine (CallsIn.inRound l (callsIn_wide.2 ST.out)).mono ?_;rintro e W2 ⟨rfl,hb2⟩;have bX2:=(hb2.block _ (aB bX)).trans bX;have bT2':=(hb2.block _ (aB bT1)).trans bT1;have bS2:Boxed W2 (B+3) 4 (.bool true):=(hb2.block _ bS1.lt).trans bS1;obtain ⟨⟨x20,x21⟩, -⟩:=two bX2;obtain ⟨⟨t20,t21⟩,g20,g21⟩:=two bT2';have f2:=bS2.frozen;have c21:=bS2.cell)
      have bF2:=(hb2.block _ bF1.lt).trans bF1;have bR2':=(hb2.block _ (aB bR1)).trans bR1;obtain ⟨q1,q2,q3⟩:=lG (D:=W0.heap.size) (n0:=w0.heap.size) (v0:=x.1.1) (v1:=x.1.2) bS2 bT2' bF2 bR2' (hB1.trans (hb2.mono (by omega))) hz0;refine ⟨(eA hb2 _).trans q1,(hb2.mono (by omega)).trans q2,?_⟩;dsimp only;rw [hsn,show stB less (some b) x=some x by simp [stB,hlb]];exact q3
    | false =>
      rw [hlb] at ST;gi_wp2_with (refine ⟨trivial,?_⟩;gi_at_call 147;refine (CallsIn.inRound l (callsIn_wide.2 ST.out)).mono ?_;rintro e W2 ⟨rfl,hb2⟩)
      refine ⟨eA hb2 _,hb2.mono (by omega),?_⟩;dsimp only;rw [hsn,show stB less (some b) x=some b by simp [stB,hlb]];exact ⟨⟨⟨(hb2.block _ bS1.lt).trans bS1,(hb2.block _ (aB bT1)).trans bT1⟩,(hb2.block _ bF1.lt).trans bF1,(hb2.block _ (aB bR1)).trans bR1⟩,hB1.trans (hb2.mono (by omega))⟩
 case done =>
  rintro D ys W hD rfl ⟨⟨⟨bS1,bT1⟩,bF1,bR1⟩,hB1⟩ hK;have c1:=bS1.cell;obtain ⟨⟨t0,t1⟩,g0,g1⟩:=two bT1;obtain ⟨⟨r00,r01⟩,r0,r1⟩:=two bR1;have e0:W.drew.frozen? ⟨B+1,0,none⟩=false:=r0;have e1:W.drew.frozen? ⟨B+1,1,none⟩=false:=r1;have e2:W.drew.cell? ⟨B+1,0,none⟩=some (.int .i64 0):=r00;have e3:W.drew.cell? ⟨B+1,1,none⟩=some (.int .i64 0):=r01;gi_wp2
  gi_region
  gi_wp2
  have hz:=bS1.lt;obtain ⟨V,hV⟩:∃ V,((W.setCell ⟨B+1,0,none⟩ (.int .i64 (cR (aX less ys)).1)).setCell ⟨B+1,1,none⟩ (.int .i64 (cR (aX less ys)).2)).drew=V:=⟨_,rfl⟩;have hkp:=((((aC.refl (fun b=>b=B+1) W).setCell (p:=⟨B+1,0,none⟩) (.inl rfl) (.int .i64 (cR (aX less ys)).1)).setCell (p:=⟨B+1,1,none⟩) (.inl rfl) (.int .i64 (cR (aX less ys)).2))).drew;have hT:V.heap[B+1]? = some (aG (cR (aX less ys)).1 (cR (aX less ys)).2):=by rw [<- hV];exact iE bR1 _ _
  rw [hV] at hkp |-
  have hKV:=hkp.heap hK (by omega);have hBV:Below B w V:=hB1.trans (hkp.below (fun i hi=>by omega) (by omega));clear hV e0 e1 e2 e3 r00 r01 r0 r1 t0 t1 g0 g1 c1;refine ⟨by simp,.inl ⟨_,_,rfl,run_takeDeferred hKV,?_⟩⟩;have hT2:(V.putObj D (.deferred none)).heap[B+1]? = some (aG (cR (aX less ys)).1 (cR (aX less ys)).2):=(World.putObj_heap_other (by omega)).trans hT;obtain ⟨⟨y0,y1⟩, -⟩:=two hT2;refine ⟨.tuple #[jW (cR (aX less ys)),.bool (aX less ys).isSome],by simp [results,Tryz.f91,go_sem,y0,y1],rfl,?_⟩;rw [hB0];exact hBV.trans (lH (w:=W0) (by omega) V D _ _ hD hKV)
 case stop =>
  rintro D c pre W _ _ h _;exact h.elim
theorem Cw {x:AG} (h:x.fn.data.toList=aT) (gs:List (ByteArray->Option Int)):gC x gs=(gB x gs).map (fun _=>((0:Int),(0:Int))):=by
 have hE:eP x.fn.data.toList=false:=by rw [h];decide
 have hB:bP x.fn.data.toList=false:=by rw [h];decide
 unfold gC gB;induction gs with
 | nil=>rfl
 | cons g gs ih =>
   have h1:jE x g=if dB g x.wh=true then some (0,0) else none:=by unfold jE;rw [hE,hB];cases dB g x.wh <;> rfl
   rw [List.filterMap_cons,List.filter_cons,h1];cases dB g x.wh
   · simpa using ih
   · simp [ih]
theorem zB {x:AG} (hE:eP x.fn.data.toList=true) (hB:bP x.fn.data.toList=false) (gs:List (ByteArray->Option Int)):gC x gs=(vO x gs).map (fun e=>(e,(0:Int))):=by
 unfold gC vO gB;induction gs with
 | nil=>rfl
 | cons g gs ih =>
   have h1:jE x g=if dB g x.wh=true then (evT g x.e).map (fun e=>(e,0)) else none:=by unfold jE;rw [hE,hB];cases dB g x.wh <;> cases evT g x.e <;> rfl
   rw [List.filterMap_cons,List.filter_cons,h1];cases dB g x.wh
   · simpa using ih
   · cases he:evT g x.e <;> simp [he,ih]
theorem Mn {x:AG} (hE:eP x.fn.data.toList=true) (hB:bP x.fn.data.toList=true) (gs:List (ByteArray->Option Int)):gC x gs=pK x gs:=by
 unfold gC pK gB;induction gs with
 | nil=>rfl
 | cons g gs ih =>
   have h1:jE x g=if dB g x.wh=true then (match evT g x.e,evT g x.g with | some e,some b=>some (e,b) | _,_=>none) else none:=by unfold jE;rw [hE,hB];cases dB g x.wh <;> cases evT g x.e <;> cases evT g x.g <;> rfl
   rw [List.filterMap_cons,List.filter_cons,h1];cases dB g x.wh
   · simpa using ih
   · cases he:evT g x.e <;> cases hg:evT g x.g <;> simp [he,hg,ih]
abbrev wQ (pre:List Q64):Int:=pre.foldl (fun s q=>dD (s+q.1.1)) 0
theorem E4 (pre:List Q64) (q:Q64):wQ (pre++[q])=dD (wQ pre+q.1.1):=by simp [wQ]
theorem Kf:∀ (pre:List Q64),bU (wQ pre):=by
 intro pre;have z:bU 0:=by unfold bU;omega
 have:∀ (l:List Q64) (s:Int),bU s->bU (l.foldl (fun s q=>dD (s+q.1.1)) s):=by
  intro l;induction l with
  | nil=>exact fun s h=>h
  | cons q l ih=>exact fun s _=>ih _ (lE _)
 exact this pre 0 z
theorem Ad {L:List Q64} {evs:List Int} (h:L.map Subtype.val=evs.map (fun e=>(e,(0:Int)))):L.map (fun q=>q.1.1)=evs:=by
 have h2:=congrArg (List.map Prod.fst) h;simpa [List.map_map,Function.comp_def] using h2
theorem Mo {L:List Q64} {evs:List Int} (h:L.map (fun q=>q.1.1)=evs):wQ L=evs.foldl (fun s e=>dD (s+e)) 0:=by rw [<- h,List.foldl_map]
theorem Mk {L:List Q64} {evs:List Int} (h:L.map (fun q=>q.1.1)=evs) (most:Nat):rH most L=iM most (evs.foldl (eF lsL) []):=by
 subst h;rw [<- F3 most (L.map (fun q=>q.1.1)) [] List.Pairwise.nil,List.foldl_map];simp [rH,iM]
theorem Kg {K K':Type} (f:K->K') {less:K->K->Bool} {less':K'->K'->Bool} (h:∀ a b,less a b=less' (f a) (f b)) (l:List K):∀ (o:Option K),(l.foldl (stB less) o).map f=(l.map f).foldl (stB less') (o.map f):=by
 induction l with
 | nil=>intro o;rfl
 | cons q l ih =>
   intro o;rw [List.foldl_cons,ih,List.map_cons,List.foldl_cons];congr 1
   cases o with
   | none=>rfl
   | some b =>
     simp only [stB,Option.map_some];rw [<- h];split <;> rfl
theorem wE {K K':Type} (f:K->K') {less:K->K->Bool} {less':K'->K'->Bool} (h:∀ a b,less a b=less' (f a) (f b)) (l:List K):(aX less l).map f=aX less' (l.map f):=Kg f h l none
theorem rS {x:AG} (h:fK x=0) (hn:fL x) (hS:SzG x):OkX x:=by
 obtain ⟨h1,h2,h3,h4,h5,h6⟩:=cQ h;refine ⟨fun he=>?_,fun he=>?_,fun d hd=>?_,by omega⟩
 · have hc:¬ x.fn.data.toList=aT:=fun hc=>by unfold eP at he;rw [hc] at he;simp at he
   exact ⟨h3 hc,hn.e,hS.e⟩
 · have hc:x.fn.data.toList=bE:=by unfold bP at he;simpa using he
   exact ⟨h4 hc,hn.g,hS.g⟩
 · have:=vQ x.wh h6 d hd
   exact ⟨⟨(this.2.1),(hn.c d hd).1,(hS.c d hd).1⟩,⟨(this.2.2),(hn.c d hd).2,(hS.c d hd).2⟩⟩
structure EPW (w:World) (x:AG) (p:PA) (V:World):Prop where
 k:KP9 (fun b=>b<w.heap.size) w x p V
 o:V.heap[w.heap.size+1]? = some (vlA 0 0 none 0 0)
theorem EPW.step {w V V':World} {x:AG} {p:PA} (h:EPW w x p V) (hb:Below V.heap.size V V'):EPW w x p V' :=
 ⟨h.k.step hb,(hb.block _ (aB h.o)).trans h.o⟩
theorem oM {w:World} {x:AG} {p:PA} (hr:aJ (fun b=>b<w.heap.size) w x p):EPW w x p ((w.alloc (agP x p)).alloc (vlA 0 0 none 0 0)):=by
 have hz:(w.alloc (agP x p)).heap.size=w.heap.size+1:=World.size_alloc _ _;have n2:=heap_alloc_new (w.alloc (agP x p)) (vlA 0 0 none 0 0);rw [hz] at n2;exact ⟨(qP hr).step (bA0 _ _),n2⟩
theorem EPW.put {w V:World} {x:AG} {p:PA} (h:EPW w x p V) (u0 u1 u2 u3:Value) :
 Below w.heap.size w ((((V.setCell ⟨w.heap.size+1,0,none⟩ u0).setCell ⟨w.heap.size+1,1,none⟩ u1).setCell ⟨w.heap.size+1,2,none⟩ u2).setCell ⟨w.heap.size+1,3,none⟩ u3) :=
 h.k.b.trans ((((((aC.refl (· = w.heap.size+1) V).setCell (p:=⟨w.heap.size+1,0,none⟩) (.inl rfl) _).setCell (p:=⟨w.heap.size+1,1,none⟩) (.inl rfl) _).setCell (p:=⟨w.heap.size+1,2,none⟩) (.inl rfl) _).setCell (p:=⟨w.heap.size+1,3,none⟩) (.inl rfl) _).below (fun b hb=>by omega) h.k.z)
theorem NK {V w:World} {B:Nat} {T:List Int} {ta:Option Addr} {tc:Nat} (hB:w.heap.size+1<B) (ho:V.ownsRow B 2 1 (.slice ta T.length tc) T.length (ivK T)) {u0 u1 u2 u3:Value}:T=[]\/∃ b off,ta=some ⟨b,off,none⟩/\w.heap.size<=b/\b<((((V.setCell ⟨w.heap.size+1,0,none⟩ u0).setCell ⟨w.heap.size+1,1,none⟩ u1).setCell ⟨w.heap.size+1,2,none⟩ u2).setCell ⟨w.heap.size+1,3,none⟩ u3).heap.size/\∀ j n,T[j]? = some n->((((V.setCell ⟨w.heap.size+1,0,none⟩ u0).setCell ⟨w.heap.size+1,1,none⟩ u1).setCell ⟨w.heap.size+1,2,none⟩ u2).setCell ⟨w.heap.size+1,3,none⟩ u3).cell? ⟨b,off+j,none⟩=some (.int .i64 n):=by
 cases T with
 | nil=>exact .inl rfl
 | cons t T =>
   right;obtain ⟨g,hg,c0⟩:=iI ho (show (ivK (t::T))[0]? = some (.int .i64 t) from rfl);have hlt:=(ho.lt g (by rw [hg];rfl));refine ⟨g,0,hg,by have:=hlt.1;omega,by simp only [World.size_setCell];exact hlt.2,fun j n hj=>?_⟩;obtain ⟨g',hg',c⟩:=iI ho (show (ivK (t::T))[j]? = some (.int .i64 n) by rw [List.getElem?_map,hj];rfl);rw [hg] at hg';cases hg';rw [Nat.zero_add]
   exact (((((aC.refl (· = w.heap.size+1) V).setCell (p:=⟨w.heap.size+1,0,none⟩) (.inl rfl) u0).setCell (p:=⟨w.heap.size+1,1,none⟩) (.inl rfl) u1).setCell (p:=⟨w.heap.size+1,2,none⟩) (.inl rfl) u2).setCell (p:=⟨w.heap.size+1,3,none⟩) (.inl rfl) u3).cell c (fun e=>by
    have h1:=hlt.1;simp only at e;omega)
theorem yW {f:Nat} {args:Array Value} {w:World} {Q:Ending->World->Prop} (h:CallsIn Fence.wide 4 Tryz.prog f args w Q):Calls Tryz.prog f args w Q:=callsIn_wide.1 h
theorem Fw {G:Nat->Prop} (x:AG) (p:PA) (rs:List RW) (ya:Option Addr) (yc:Nat) (w:World) (h:fK x=0) (hn:fL x) (hS:SzG x) (hU:∀ r∈rs,gN r.A r.n r.g) (hl:rs.length<=1000) (hr:aJ G w x p) (hy:bL w ya rs) (hc:x.fn.data.toList=aT) :
 Calls Tryz.prog 43 #[agV x p,.slice ya rs.length yc] w (mA (evG x (rs.map RW.g)) w):=by
 have hX:=rS h hn hS;have gCount:(x.fn.toList == [99,111,117,110,116])=true:=cP (by rw [hc];decide);have gSum:(x.fn.toList == [115,117,109])=false:=aF (by rw [hc];decide);have gTop:(x.fn.toList == [116,111,112])=false:=aF (by rw [hc];decide);have gMin:(x.fn.toList == [109,105,110])=false:=aF (by rw [hc];decide);have gMax:(x.fn.toList == [109,97,120])=false:=aF (by rw [hc];decide);have gFirst:(x.fn.toList == [102,105,114,115,116])=false:=aF (by rw [hc];decide);have hr':aJ (fun b=>b<w.heap.size) w x p:=hr.imp (fun b hb _=>hb);have E0:=oM hr';have K1:=hX.l;obtain ⟨L,hL⟩:=jH _ (nX hX hU)
 have hLl:L.length<=1000:=by
  have h1:(gC x (rs.map RW.g)).length<=(rs.map RW.g).length:=List.length_filterMap_le ..;rw [<- hL,List.length_map,List.length_map] at h1;omega
 have hcl:=sF hc (rs.map RW.g)
 rw [show ((gB x (rs.map RW.g)).length:Int)=(L.length:Int) by
  have h1:=congrArg List.length (hL.trans (Cw hc _));rw [List.length_map,List.length_map] at h1;rw [h1]] at hcl
 rw [hcl];have HX:=aA hX;have HU:=aA hU;have HL:=aA hL;have HLl:=aA hLl;have HY:=aA (fun V (hV:Below w.heap.size w V)=>fY hy hV);have CK:=aA (fun V (rd:aJ (fun b=>b<w.heap.size) V x p)=>eI x p V hS (by omega) rd);rw [h] at CK;generalize hW1:w.alloc (agP x p)=W1 at E0;generalize hW:W1.alloc (vlA 0 0 none 0 0)=W at E0;have HW1:=aA hW1;have HW:=aA hW;have HK:=aA E0;clear hW1 hW E0 h hn hS hU hr hr' hy hX hL hLl hcl;obtain ⟨m0,m1,m2,m3,m4,m5,m6,m7,m8,m9,m10⟩:=aP HK.out.k.n;go_enter Tryz.func43,Tryz.ntmps43
 go_upto_region 1 with fail
 rw [show w.alloc (.cells #[.string x.fn,.int .i64 x.k,.string x.e.op,.string x.e.nm,.int .i64 x.e.n,.slice p.ea x.e.ks.len p.ec,.string x.g.op,.string x.g.nm,.int .i64 x.g.n,.slice p.ga x.g.ks.len p.gc,.slice p.wa x.wh.length p.wc] 70)=W1 from HW1.out,show W1.alloc (.cells #[.int .i64 0,.int .i64 0,.string ⟨#[]⟩,.slice none 0 0] 60)=W from HW.out];go_wp2_with fail
 refine (CK.out _ HK.out.k.r).mono ?_;rintro e w1 ⟨rfl,hb1⟩;have K1:=aA (HK.out.step hb1);clear hb1 m0 m1 m2 m3 m4 m5 m6 m7 m8 m9 m10;obtain ⟨m0,m1,m2,m3,m4,m5,m6,m7,m8,m9,m10⟩:=aP K1.out.k.n;have TO:=aA (fV x p rs ya yc w1 K1.out.k.r (HY.out _ K1.out.k.b));go_wp2_with fail
 refine TO.out.mono ?_;rintro e w2 ⟨bl,ba,bp,rfl,ta,hb2⟩;have TA:=aA ta;have K2:=aA (K1.out.step hb2);clear hb2 ta TO m0 m1 m2 m3 m4 m5 m6 m7 m8 m9 m10;obtain ⟨m0,m1,m2,m3,m4,m5,m6,m7,m8,m9,m10⟩:=aP K2.out.k.n
 have FD:=aA (yW (Jh bl ba bp L w2 w2 HLl.out (fU 2 HX.out HU.out (by omega) TA.out L HL.out) (Below.refl _ _) (fun pre:List Q64=>(pre.length:Int)) rfl (fun pre q V hlt=>by
  have h9:=HLl.out;refine (Fa (pre.length:Int) q.1.1 q.1.2 V (by omega) (by omega)).mono ?_;rintro e V' ⟨rfl,hb⟩;exact ⟨by simp,hb⟩)))
 go_wp2_with fail
 refine FD.out.mono ?_;rintro e w3 ⟨rfl,hb3⟩;have K3:=aA (K2.out.step hb3);clear hb3 FD m0 m1 m2 m3 m4 m5 m6 m7 m8 m9 m10;obtain ⟨m0,m1,m2,m3,m4,m5,m6,m7,m8,m9,m10⟩:=aP K3.out.k.n;have NU:=aA (fun V=>iJ ((L.length:Int)) V);go_wp2_with fail
 refine (NU.out _).mono ?_;rintro e w4 ⟨rfl,hb4⟩;have K4:=aA (K3.out.step hb4);clear hb4 NU m0 m1 m2 m3 m4 m5 m6 m7 m8 m9 m10;obtain ⟨⟨o0,o1,o2,o3⟩,z0,z1,z2,z3⟩:=aL K4.out.o;go_wp2_with fail
 obtain ⟨⟨y0,y1,y2,y3⟩, -⟩:=aL (aU K4.out.o (.int .i64 1) (.int .i64 ((L.length:Int))) (.string ⟨#[]⟩) (.slice none 0 0));exact bodyPost_ret (v:=.tuple #[vlV 1 ((L.length:Int)) none 0 0,.bool true]) (by simp [results,Tryz.results43,go_sem,y0,y1,y2,y3]) rfl ⟨K4.out.put _ _ _ _,rfl⟩
theorem Kx {G:Nat->Prop} (x:AG) (p:PA) (rs:List RW) (ya:Option Addr) (yc:Nat) (w:World) (h:fK x=0) (hn:fL x) (hS:SzG x) (hU:∀ r∈rs,gN r.A r.n r.g) (hl:rs.length<=1000) (hr:aJ G w x p) (hy:bL w ya rs) (hc:x.fn.data.toList=pY) :
 Calls Tryz.prog 43 #[agV x p,.slice ya rs.length yc] w (mA (evG x (rs.map RW.g)) w):=by
 have hX:=rS h hn hS;have gCount:(x.fn.toList == [99,111,117,110,116])=false:=aF (by rw [hc];decide);have gSum:(x.fn.toList == [115,117,109])=true:=cP (by rw [hc];decide);have gTop:(x.fn.toList == [116,111,112])=false:=aF (by rw [hc];decide);have gMin:(x.fn.toList == [109,105,110])=false:=aF (by rw [hc];decide);have gMax:(x.fn.toList == [109,97,120])=false:=aF (by rw [hc];decide);have gFirst:(x.fn.toList == [102,105,114,115,116])=false:=aF (by rw [hc];decide);have hr':aJ (fun b=>b<w.heap.size) w x p:=hr.imp (fun b hb _=>hb);have E0:=oM hr';have K1:=hX.l;obtain ⟨L,hL⟩:=jH _ (nX hX hU)
 have hLl:L.length<=1000:=by
  have h1:(gC x (rs.map RW.g)).length<=(rs.map RW.g).length:=List.length_filterMap_le ..;rw [<- hL,List.length_map,List.length_map] at h1;omega
 have hcl:=Ag hc (rs.map RW.g);rw [<- Mo (Ad (hL.trans (zB (by rw [hc];decide) (by rw [hc];decide) _)))] at hcl;rw [hcl];have HX:=aA hX;have HU:=aA hU;have HL:=aA hL;have HLl:=aA hLl;have HY:=aA (fun V (hV:Below w.heap.size w V)=>fY hy hV);have CK:=aA (fun V (rd:aJ (fun b=>b<w.heap.size) V x p)=>eI x p V hS (by omega) rd);rw [h] at CK;generalize hW1:w.alloc (agP x p)=W1 at E0;generalize hW:W1.alloc (vlA 0 0 none 0 0)=W at E0;have HW1:=aA hW1;have HW:=aA hW;have HK:=aA E0;clear hW1 hW E0 h hn hS hU hr hr' hy hX hL hLl hcl;obtain ⟨m0,m1,m2,m3,m4,m5,m6,m7,m8,m9,m10⟩:=aP HK.out.k.n;go_enter Tryz.func43,Tryz.ntmps43
 go_upto_region 1 with fail
 rw [show w.alloc (.cells #[.string x.fn,.int .i64 x.k,.string x.e.op,.string x.e.nm,.int .i64 x.e.n,.slice p.ea x.e.ks.len p.ec,.string x.g.op,.string x.g.nm,.int .i64 x.g.n,.slice p.ga x.g.ks.len p.gc,.slice p.wa x.wh.length p.wc] 70)=W1 from HW1.out,show W1.alloc (.cells #[.int .i64 0,.int .i64 0,.string ⟨#[]⟩,.slice none 0 0] 60)=W from HW.out];go_wp2_with fail
 refine (CK.out _ HK.out.k.r).mono ?_;rintro e w1 ⟨rfl,hb1⟩;have K1:=aA (HK.out.step hb1);clear hb1 m0 m1 m2 m3 m4 m5 m6 m7 m8 m9 m10;obtain ⟨m0,m1,m2,m3,m4,m5,m6,m7,m8,m9,m10⟩:=aP K1.out.k.n;have TO:=aA (fV x p rs ya yc w1 K1.out.k.r (HY.out _ K1.out.k.b));go_wp2_with fail
 refine TO.out.mono ?_;rintro e w2 ⟨bl,ba,bp,rfl,ta,hb2⟩;have TA:=aA ta;have K2:=aA (K1.out.step hb2);clear hb2 ta TO m0 m1 m2 m3 m4 m5 m6 m7 m8 m9 m10;obtain ⟨m0,m1,m2,m3,m4,m5,m6,m7,m8,m9,m10⟩:=aP K2.out.k.n
 have FD:=aA (yW (Jg bl ba bp L w2 w2 HLl.out (fU 2 HX.out HU.out (by omega) TA.out L HL.out) (Below.refl _ _) wQ rfl (fun pre q V _=>by
  refine (E9 (wQ pre) q.1.1 q.1.2 V (Kf pre) q.2.1).mono ?_;rintro e V' ⟨rfl,hb⟩;exact ⟨by rw [E4],hb⟩)))
 go_wp2_with fail
 refine FD.out.mono ?_;rintro e w3 ⟨rfl,hb3⟩;have K3:=aA (K2.out.step hb3);clear hb3 FD m0 m1 m2 m3 m4 m5 m6 m7 m8 m9 m10;obtain ⟨m0,m1,m2,m3,m4,m5,m6,m7,m8,m9,m10⟩:=aP K3.out.k.n;have NU:=aA (fun V=>iJ (wQ L) V);go_wp2_with fail
 refine (NU.out _).mono ?_;rintro e w4 ⟨rfl,hb4⟩;have K4:=aA (K3.out.step hb4);clear hb4 NU m0 m1 m2 m3 m4 m5 m6 m7 m8 m9 m10;obtain ⟨⟨o0,o1,o2,o3⟩,z0,z1,z2,z3⟩:=aL K4.out.o;go_wp2_with fail
 obtain ⟨⟨y0,y1,y2,y3⟩, -⟩:=aL (aU K4.out.o (.int .i64 1) (.int .i64 (wQ L)) (.string ⟨#[]⟩) (.slice none 0 0));exact bodyPost_ret (v:=.tuple #[vlV 1 (wQ L) none 0 0,.bool true]) (by simp [results,Tryz.results43,go_sem,y0,y1,y2,y3]) rfl ⟨K4.out.put _ _ _ _,rfl⟩
theorem Kw {G:Nat->Prop} (x:AG) (p:PA) (rs:List RW) (ya:Option Addr) (yc:Nat) (w:World) (h:fK x=0) (hn:fL x) (hS:SzG x) (hU:∀ r∈rs,gN r.A r.n r.g) (hl:rs.length<=1000) (hr:aJ G w x p) (hy:bL w ya rs) (hc:x.fn.data.toList=eO) :
 Calls Tryz.prog 43 #[agV x p,.slice ya rs.length yc] w (mA (evG x (rs.map RW.g)) w):=by
 have hX:=rS h hn hS;have gCount:(x.fn.toList == [99,111,117,110,116])=false:=aF (by rw [hc];decide);have gSum:(x.fn.toList == [115,117,109])=false:=aF (by rw [hc];decide);have gTop:(x.fn.toList == [116,111,112])=true:=cP (by rw [hc];decide);have gMin:(x.fn.toList == [109,105,110])=false:=aF (by rw [hc];decide);have gMax:(x.fn.toList == [109,97,120])=false:=aF (by rw [hc];decide);have gFirst:(x.fn.toList == [102,105,114,115,116])=false:=aF (by rw [hc];decide);have hr':aJ (fun b=>b<w.heap.size) w x p:=hr.imp (fun b hb _=>hb);have E0:=oM hr';have K1:=hX.l;obtain ⟨L,hL⟩:=jH _ (nX hX hU)
 have hLl:L.length<=1000:=by
  have h1:(gC x (rs.map RW.g)).length<=(rs.map RW.g).length:=List.length_filterMap_le ..;rw [<- hL,List.length_map,List.length_map] at h1;omega
 obtain ⟨hk1,hk2⟩:=(cQ h).2.1 hc;obtain ⟨most,hK⟩:∃ most:Nat,x.k=(most:Int):=⟨x.k.toNat,by omega⟩;have hcl:=Af hc (rs.map RW.g);rw [show x.k.toNat=most by omega] at hcl;have hto:=Mk (Ad (hL.trans (zB (by rw [hc];decide) (by rw [hc];decide) _))) most;unfold iM at hto;rw [<- hto] at hcl;obtain ⟨T,hT⟩:∃ T,rH most L=T:=⟨_,rfl⟩;rw [hT] at hcl;obtain ⟨R,hR⟩:∃ R,evG x (rs.map RW.g)=R:=⟨_,rfl⟩;rw [hR] at hcl |-
 have HR:=aA hcl;have HKK:=aA hK;have HT:=aA hT;have HK1:=aA (show 1<=most/\most<=1000 by omega);clear hR hK hT hk1 hk2 hto;have HX:=aA hX;have HU:=aA hU;have HL:=aA hL;have HLl:=aA hLl;have HY:=aA (fun V (hV:Below w.heap.size w V)=>fY hy hV);have CK:=aA (fun V (rd:aJ (fun b=>b<w.heap.size) V x p)=>eI x p V hS (by omega) rd);rw [h] at CK;generalize hW1:w.alloc (agP x p)=W1 at E0;generalize hW:W1.alloc (vlA 0 0 none 0 0)=W at E0;have HW1:=aA hW1;have HW:=aA hW;have HK:=aA E0;clear hW1 hW E0 h hn hS hU hr hr' hy hX hL hLl hcl;obtain ⟨m0,m1,m2,m3,m4,m5,m6,m7,m8,m9,m10⟩:=aP HK.out.k.n;go_enter Tryz.func43,Tryz.ntmps43
 go_upto_region 1 with fail
 rw [show w.alloc (.cells #[.string x.fn,.int .i64 x.k,.string x.e.op,.string x.e.nm,.int .i64 x.e.n,.slice p.ea x.e.ks.len p.ec,.string x.g.op,.string x.g.nm,.int .i64 x.g.n,.slice p.ga x.g.ks.len p.gc,.slice p.wa x.wh.length p.wc] 70)=W1 from HW1.out,show W1.alloc (.cells #[.int .i64 0,.int .i64 0,.string ⟨#[]⟩,.slice none 0 0] 60)=W from HW.out];go_wp2_with fail
 refine (CK.out _ HK.out.k.r).mono ?_;rintro e w1 ⟨rfl,hb1⟩;have K1:=aA (HK.out.step hb1);clear hb1 m0 m1 m2 m3 m4 m5 m6 m7 m8 m9 m10;obtain ⟨m0,m1,m2,m3,m4,m5,m6,m7,m8,m9,m10⟩:=aP K1.out.k.n;have TO:=aA (fV x p rs ya yc w1 K1.out.k.r (HY.out _ K1.out.k.b));go_wp2_with fail
 refine TO.out.mono ?_;rintro e w2 ⟨bl,ba,bp,rfl,ta,hb2⟩;have TA:=aA ta;have K2:=aA (K1.out.step hb2);clear hb2 ta TO m0 m1 m2 m3 m4 m5 m6 m7 m8 m9 m10;obtain ⟨m0,m1,m2,m3,m4,m5,m6,m7,m8,m9,m10⟩:=aP K2.out.k.n;have FD:=aA (yW (Jf bl ba bp w.heap.size x p most L w2 w2 HKK.out HK1.out.1 HK1.out.2 K2.out.k.n (fU 2 HX.out HU.out (by omega) TA.out L HL.out) (Below.refl _ _)));rw [HT.out] at FD;go_wp2_with fail
 refine FD.out.mono ?_;rintro e w3 ⟨v,rfl,ro,hb3⟩;obtain ⟨va,vc,rfl⟩:=eD ro;have HRO:=aA ro;have K3:=aA (K2.out.step hb3);have HB2:=aA K2.out.k.z;have HN2:=aA (aB K2.out.o);clear hb3 FD ro m0 m1 m2 m3 m4 m5 m6 m7 m8 m9 m10;obtain ⟨⟨o0,o1,o2,o3⟩,z0,z1,z2,z3⟩:=aL K3.out.o;go_wp2_with fail
 obtain ⟨⟨y0,y1,y2,y3⟩, -⟩:=aL (aU K3.out.o (.int .i64 3) (.int .i64 0) (.string ⟨#[]⟩) (.slice va T.length vc));refine bodyPost_ret (v:=.tuple #[vlV 3 0 va T.length vc,.bool true]) (by simp [results,Tryz.results43,go_sem,y0,y1,y2,y3]) rfl (by rw [HR.out];refine ⟨K3.out.put _ _ _ _,va,vc,rfl,NK HN2.out HRO.out⟩)
theorem Ky {G:Nat->Prop} (x:AG) (p:PA) (rs:List RW) (ya:Option Addr) (yc:Nat) (w:World) (h:fK x=0) (hn:fL x) (hS:SzG x) (hU:∀ r∈rs,gN r.A r.n r.g) (hl:rs.length<=1000) (hr:aJ G w x p) (hy:bL w ya rs) (hc:x.fn.data.toList=pB) :
 Calls Tryz.prog 43 #[agV x p,.slice ya rs.length yc] w (mA (evG x (rs.map RW.g)) w):=by
 have hX:=rS h hn hS;have gCount:(x.fn.toList == [99,111,117,110,116])=false:=aF (by rw [hc];decide);have gSum:(x.fn.toList == [115,117,109])=false:=aF (by rw [hc];decide);have gTop:(x.fn.toList == [116,111,112])=false:=aF (by rw [hc];decide);have gMin:(x.fn.toList == [109,105,110])=true:=cP (by rw [hc];decide);have gMax:(x.fn.toList == [109,97,120])=false:=aF (by rw [hc];decide);have gFirst:(x.fn.toList == [102,105,114,115,116])=false:=aF (by rw [hc];decide);have hr':aJ (fun b=>b<w.heap.size) w x p:=hr.imp (fun b hb _=>hb);have E0:=oM hr';have K1:=hX.l;obtain ⟨L,hL⟩:=jH _ (nX hX hU)
 have hLl:L.length<=1000:=by
  have h1:(gC x (rs.map RW.g)).length<=(rs.map RW.g).length:=List.length_filterMap_le ..;rw [<- hL,List.length_map,List.length_map] at h1;omega
 have hcl:=Ah hc (rs.map RW.g);rw [<- (Ad (hL.trans (zB (by rw [hc];decide) (by rw [hc];decide) _))), <- wE (less:=fun a b:Q64=>decide (a.1.1<b.1.1)) (fun q=>q.1.1) (fun a b=>by simp [lsL])] at hcl;obtain ⟨o,ho⟩:∃ o,aX (fun a b:Q64=>decide (a.1.1<b.1.1)) L=o:=⟨_,rfl⟩;rw [ho] at hcl;obtain ⟨R,hR⟩:∃ R,evG x (rs.map RW.g)=R:=⟨_,rfl⟩;rw [hR] at hcl |-
 have HR:=aA hcl;clear hR;have HX:=aA hX;have HU:=aA hU;have HL:=aA hL;have HLl:=aA hLl;have HY:=aA (fun V (hV:Below w.heap.size w V)=>fY hy hV);have CK:=aA (fun V (rd:aJ (fun b=>b<w.heap.size) V x p)=>eI x p V hS (by omega) rd);rw [h] at CK;generalize hW1:w.alloc (agP x p)=W1 at E0;generalize hW:W1.alloc (vlA 0 0 none 0 0)=W at E0;have HW1:=aA hW1;have HW:=aA hW;have HK:=aA E0;clear hW1 hW E0 h hn hS hU hr hr' hy hX hL hLl hcl;obtain ⟨m0,m1,m2,m3,m4,m5,m6,m7,m8,m9,m10⟩:=aP HK.out.k.n;go_enter Tryz.func43,Tryz.ntmps43
 go_upto_region 1 with fail
 rw [show w.alloc (.cells #[.string x.fn,.int .i64 x.k,.string x.e.op,.string x.e.nm,.int .i64 x.e.n,.slice p.ea x.e.ks.len p.ec,.string x.g.op,.string x.g.nm,.int .i64 x.g.n,.slice p.ga x.g.ks.len p.gc,.slice p.wa x.wh.length p.wc] 70)=W1 from HW1.out,show W1.alloc (.cells #[.int .i64 0,.int .i64 0,.string ⟨#[]⟩,.slice none 0 0] 60)=W from HW.out];go_wp2_with fail
 refine (CK.out _ HK.out.k.r).mono ?_;rintro e w1 ⟨rfl,hb1⟩;have K1:=aA (HK.out.step hb1);clear hb1 m0 m1 m2 m3 m4 m5 m6 m7 m8 m9 m10;obtain ⟨m0,m1,m2,m3,m4,m5,m6,m7,m8,m9,m10⟩:=aP K1.out.k.n;have TO:=aA (fV x p rs ya yc w1 K1.out.k.r (HY.out _ K1.out.k.b));go_wp2_with fail
 refine TO.out.mono ?_;rintro e w2 ⟨bl,ba,bp,rfl,ta,hb2⟩;have TA:=aA ta;have K2:=aA (K1.out.step hb2);clear hb2 ta TO m0 m1 m2 m3 m4 m5 m6 m7 m8 m9 m10;obtain ⟨m0,m1,m2,m3,m4,m5,m6,m7,m8,m9,m10⟩:=aP K2.out.k.n;have FD:=aA (yW (JD bl ba bp L w2 w2 (fU 2 HX.out HU.out (by omega) TA.out L HL.out) (Below.refl _ _) (fun a b:Q64=>decide (a.1.1<b.1.1)) (fun a b V=>FQ a.1.1 a.1.2 b.1.1 b.1.2 V)));rw [ho] at FD;have BO:=aA (Aq x.fn w2 hc);clear ho;cases o with
 | none =>
   go_wp2_with fail
   refine BO.out.mono ?_;rintro e w2' ⟨rfl,rfl⟩;go_wp2_with fail
   refine FD.out.mono ?_;rintro e w3 ⟨rfl,hb3⟩;have K3:=aA (K2.out.step hb3);clear hb3 FD BO m0 m1 m2 m3 m4 m5 m6 m7 m8 m9 m10;have K4:=aA (K3.out.step (bA0 w3 (aG 0 0)));obtain ⟨⟨o0,o1,o2,o3⟩,z0,z1,z2,z3⟩:=aL K4.out.o;go_wp2_with fail
   obtain ⟨⟨y0,y1,y2,y3⟩, -⟩:=aL (aU K4.out.o (.int .i64 0) (.int .i64 0) (.string ⟨#[]⟩) (.slice none 0 0));exact bodyPost_ret (v:=.tuple #[vlV 0 0 none 0 0,.bool false]) (by simp [results,Tryz.results43,go_sem,y0,y1,y2,y3]) rfl (by rw [HR.out];exact ⟨K4.out.put _ _ _ _,rfl⟩)
 | some q =>
   obtain ⟨⟨q0,q1⟩,hq⟩:=q;go_wp2_with fail
   refine BO.out.mono ?_;rintro e w2' ⟨rfl,rfl⟩;go_wp2_with fail
   refine FD.out.mono ?_;rintro e w3 ⟨rfl,hb3⟩;have K3:=aA (K2.out.step hb3);clear hb3 FD BO m0 m1 m2 m3 m4 m5 m6 m7 m8 m9 m10;have N4:=heap_alloc_new w3 (aG q0 q1);have K4:=aA (K3.out.step (bA0 w3 (aG q0 q1)));generalize hV:w3.alloc (aG q0 q1)=V at N4 K4;have HV:=aA hV;obtain ⟨⟨n0,n1⟩, -⟩:=two N4;clear hV N4;have NU:=aA (fun V=>iJ q0 V);dsimp only [cR,Option.isSome];go_upto_region 13 with fail
   rw [show w3.alloc (.cells #[.int .i64 q0,.int .i64 q1] 163)=V from HV.out];go_wp2_with fail
   refine (NU.out _).mono ?_;rintro e w4 ⟨rfl,hb4⟩;have K5:=aA (K4.out.step hb4);clear hb4 NU n0 n1;obtain ⟨⟨o0,o1,o2,o3⟩,z0,z1,z2,z3⟩:=aL K5.out.o;go_wp2_with fail
   obtain ⟨⟨y0,y1,y2,y3⟩, -⟩:=aL (aU K5.out.o (.int .i64 1) (.int .i64 q0) (.string ⟨#[]⟩) (.slice none 0 0));exact bodyPost_ret (v:=.tuple #[vlV 1 q0 none 0 0,.bool true]) (by simp [results,Tryz.results43,go_sem,y0,y1,y2,y3]) rfl (by rw [HR.out];exact ⟨K5.out.put _ _ _ _,rfl⟩)
theorem Kz {G:Nat->Prop} (x:AG) (p:PA) (rs:List RW) (ya:Option Addr) (yc:Nat) (w:World) (h:fK x=0) (hn:fL x) (hS:SzG x) (hU:∀ r∈rs,gN r.A r.n r.g) (hl:rs.length<=1000) (hr:aJ G w x p) (hy:bL w ya rs) (hc:x.fn.data.toList=rG) :
 Calls Tryz.prog 43 #[agV x p,.slice ya rs.length yc] w (mA (evG x (rs.map RW.g)) w):=by
 have hX:=rS h hn hS;have gCount:(x.fn.toList == [99,111,117,110,116])=false:=aF (by rw [hc];decide);have gSum:(x.fn.toList == [115,117,109])=false:=aF (by rw [hc];decide);have gTop:(x.fn.toList == [116,111,112])=false:=aF (by rw [hc];decide);have gMin:(x.fn.toList == [109,105,110])=false:=aF (by rw [hc];decide);have gMax:(x.fn.toList == [109,97,120])=true:=cP (by rw [hc];decide);have gFirst:(x.fn.toList == [102,105,114,115,116])=false:=aF (by rw [hc];decide);have hr':aJ (fun b=>b<w.heap.size) w x p:=hr.imp (fun b hb _=>hb);have E0:=oM hr';have K1:=hX.l;obtain ⟨L,hL⟩:=jH _ (nX hX hU)
 have hLl:L.length<=1000:=by
  have h1:(gC x (rs.map RW.g)).length<=(rs.map RW.g).length:=List.length_filterMap_le ..;rw [<- hL,List.length_map,List.length_map] at h1;omega
 have hcl:=Ai hc (rs.map RW.g);rw [<- (Ad (hL.trans (zB (by rw [hc];decide) (by rw [hc];decide) _))), <- wE (less:=fun a b:Q64=>decide (b.1.1<a.1.1)) (fun q=>q.1.1) (fun a b=>by simp [lsG])] at hcl;obtain ⟨o,ho⟩:∃ o,aX (fun a b:Q64=>decide (b.1.1<a.1.1)) L=o:=⟨_,rfl⟩;rw [ho] at hcl;obtain ⟨R,hR⟩:∃ R,evG x (rs.map RW.g)=R:=⟨_,rfl⟩;rw [hR] at hcl |-
 have HR:=aA hcl;clear hR;have HX:=aA hX;have HU:=aA hU;have HL:=aA hL;have HLl:=aA hLl;have HY:=aA (fun V (hV:Below w.heap.size w V)=>fY hy hV);have CK:=aA (fun V (rd:aJ (fun b=>b<w.heap.size) V x p)=>eI x p V hS (by omega) rd);rw [h] at CK;generalize hW1:w.alloc (agP x p)=W1 at E0;generalize hW:W1.alloc (vlA 0 0 none 0 0)=W at E0;have HW1:=aA hW1;have HW:=aA hW;have HK:=aA E0;clear hW1 hW E0 h hn hS hU hr hr' hy hX hL hLl hcl;obtain ⟨m0,m1,m2,m3,m4,m5,m6,m7,m8,m9,m10⟩:=aP HK.out.k.n;go_enter Tryz.func43,Tryz.ntmps43
 go_upto_region 1 with fail
 rw [show w.alloc (.cells #[.string x.fn,.int .i64 x.k,.string x.e.op,.string x.e.nm,.int .i64 x.e.n,.slice p.ea x.e.ks.len p.ec,.string x.g.op,.string x.g.nm,.int .i64 x.g.n,.slice p.ga x.g.ks.len p.gc,.slice p.wa x.wh.length p.wc] 70)=W1 from HW1.out,show W1.alloc (.cells #[.int .i64 0,.int .i64 0,.string ⟨#[]⟩,.slice none 0 0] 60)=W from HW.out];go_wp2_with fail
 refine (CK.out _ HK.out.k.r).mono ?_;rintro e w1 ⟨rfl,hb1⟩;have K1:=aA (HK.out.step hb1);clear hb1 m0 m1 m2 m3 m4 m5 m6 m7 m8 m9 m10;obtain ⟨m0,m1,m2,m3,m4,m5,m6,m7,m8,m9,m10⟩:=aP K1.out.k.n;have TO:=aA (fV x p rs ya yc w1 K1.out.k.r (HY.out _ K1.out.k.b));go_wp2_with fail
 refine TO.out.mono ?_;rintro e w2 ⟨bl,ba,bp,rfl,ta,hb2⟩;have TA:=aA ta;have K2:=aA (K1.out.step hb2);clear hb2 ta TO m0 m1 m2 m3 m4 m5 m6 m7 m8 m9 m10;obtain ⟨m0,m1,m2,m3,m4,m5,m6,m7,m8,m9,m10⟩:=aP K2.out.k.n;have FD:=aA (yW (JC bl ba bp L w2 w2 (fU 2 HX.out HU.out (by omega) TA.out L HL.out) (Below.refl _ _) (fun a b:Q64=>decide (b.1.1<a.1.1)) (fun a b V=>FP a.1.1 a.1.2 b.1.1 b.1.2 V)));rw [ho] at FD;have BO:=aA (Ar x.fn w2 hc);clear ho;cases o with
 | none =>
   go_wp2_with fail
   refine BO.out.mono ?_;rintro e w2' ⟨rfl,rfl⟩;go_wp2_with fail
   refine FD.out.mono ?_;rintro e w3 ⟨rfl,hb3⟩;have K3:=aA (K2.out.step hb3);clear hb3 FD BO m0 m1 m2 m3 m4 m5 m6 m7 m8 m9 m10;have K4:=aA (K3.out.step (bA0 w3 (aG 0 0)));obtain ⟨⟨o0,o1,o2,o3⟩,z0,z1,z2,z3⟩:=aL K4.out.o;go_wp2_with fail
   obtain ⟨⟨y0,y1,y2,y3⟩, -⟩:=aL (aU K4.out.o (.int .i64 0) (.int .i64 0) (.string ⟨#[]⟩) (.slice none 0 0));exact bodyPost_ret (v:=.tuple #[vlV 0 0 none 0 0,.bool false]) (by simp [results,Tryz.results43,go_sem,y0,y1,y2,y3]) rfl (by rw [HR.out];exact ⟨K4.out.put _ _ _ _,rfl⟩)
 | some q =>
   obtain ⟨⟨q0,q1⟩,hq⟩:=q;go_wp2_with fail
   refine BO.out.mono ?_;rintro e w2' ⟨rfl,rfl⟩;go_wp2_with fail
   refine FD.out.mono ?_;rintro e w3 ⟨rfl,hb3⟩;have K3:=aA (K2.out.step hb3);clear hb3 FD BO m0 m1 m2 m3 m4 m5 m6 m7 m8 m9 m10;have N4:=heap_alloc_new w3 (aG q0 q1);have K4:=aA (K3.out.step (bA0 w3 (aG q0 q1)));generalize hV:w3.alloc (aG q0 q1)=V at N4 K4;have HV:=aA hV;obtain ⟨⟨n0,n1⟩, -⟩:=two N4;clear hV N4;have NU:=aA (fun V=>iJ q0 V);dsimp only [cR,Option.isSome];go_upto_region 13 with fail
   rw [show w3.alloc (.cells #[.int .i64 q0,.int .i64 q1] 163)=V from HV.out];go_wp2_with fail
   refine (NU.out _).mono ?_;rintro e w4 ⟨rfl,hb4⟩;have K5:=aA (K4.out.step hb4);clear hb4 NU n0 n1;obtain ⟨⟨o0,o1,o2,o3⟩,z0,z1,z2,z3⟩:=aL K5.out.o;go_wp2_with fail
   obtain ⟨⟨y0,y1,y2,y3⟩, -⟩:=aL (aU K5.out.o (.int .i64 1) (.int .i64 q0) (.string ⟨#[]⟩) (.slice none 0 0));exact bodyPost_ret (v:=.tuple #[vlV 1 q0 none 0 0,.bool true]) (by simp [results,Tryz.results43,go_sem,y0,y1,y2,y3]) rfl (by rw [HR.out];exact ⟨K5.out.put _ _ _ _,rfl⟩)
theorem Fv {G:Nat->Prop} (x:AG) (p:PA) (rs:List RW) (ya:Option Addr) (yc:Nat) (w:World) (h:fK x=0) (hn:fL x) (hS:SzG x) (hU:∀ r∈rs,gN r.A r.n r.g) (hl:rs.length<=1000) (hr:aJ G w x p) (hy:bL w ya rs) (hc:x.fn.data.toList=bE) :
 Calls Tryz.prog 43 #[agV x p,.slice ya rs.length yc] w (mA (evG x (rs.map RW.g)) w):=by
 have hX:=rS h hn hS;have gCount:(x.fn.toList == [99,111,117,110,116])=false:=aF (by rw [hc];decide);have gSum:(x.fn.toList == [115,117,109])=false:=aF (by rw [hc];decide);have gTop:(x.fn.toList == [116,111,112])=false:=aF (by rw [hc];decide);have gMin:(x.fn.toList == [109,105,110])=false:=aF (by rw [hc];decide);have gMax:(x.fn.toList == [109,97,120])=false:=aF (by rw [hc];decide);have gFirst:(x.fn.toList == [102,105,114,115,116])=true:=cP (by rw [hc];decide);have hr':aJ (fun b=>b<w.heap.size) w x p:=hr.imp (fun b hb _=>hb);have E0:=oM hr';have K1:=hX.l;obtain ⟨L,hL⟩:=jH _ (nX hX hU)
 have hLl:L.length<=1000:=by
  have h1:(gC x (rs.map RW.g)).length<=(rs.map RW.g).length:=List.length_filterMap_le ..;rw [<- hL,List.length_map,List.length_map] at h1;omega
 have hcl:=sE hc (rs.map RW.g);rw [<- (hL.trans (Mn (by rw [hc];decide) (by rw [hc];decide) _)), <- wE (less:=fun a b:Q64=>decide (a.1.2<b.1.2)) (Subtype.val) (fun a b=>by simp [lsP])] at hcl;obtain ⟨o,ho⟩:∃ o,aX (fun a b:Q64=>decide (a.1.2<b.1.2)) L=o:=⟨_,rfl⟩;rw [ho] at hcl;obtain ⟨R,hR⟩:∃ R,evG x (rs.map RW.g)=R:=⟨_,rfl⟩;rw [hR] at hcl |-
 have HR:=aA hcl;clear hR;have HX:=aA hX;have HU:=aA hU;have HL:=aA hL;have HLl:=aA hLl;have HY:=aA (fun V (hV:Below w.heap.size w V)=>fY hy hV);have CK:=aA (fun V (rd:aJ (fun b=>b<w.heap.size) V x p)=>eI x p V hS (by omega) rd);rw [h] at CK;generalize hW1:w.alloc (agP x p)=W1 at E0;generalize hW:W1.alloc (vlA 0 0 none 0 0)=W at E0;have HW1:=aA hW1;have HW:=aA hW;have HK:=aA E0;clear hW1 hW E0 h hn hS hU hr hr' hy hX hL hLl hcl;obtain ⟨m0,m1,m2,m3,m4,m5,m6,m7,m8,m9,m10⟩:=aP HK.out.k.n;go_enter Tryz.func43,Tryz.ntmps43
 go_upto_region 1 with fail
 rw [show w.alloc (.cells #[.string x.fn,.int .i64 x.k,.string x.e.op,.string x.e.nm,.int .i64 x.e.n,.slice p.ea x.e.ks.len p.ec,.string x.g.op,.string x.g.nm,.int .i64 x.g.n,.slice p.ga x.g.ks.len p.gc,.slice p.wa x.wh.length p.wc] 70)=W1 from HW1.out,show W1.alloc (.cells #[.int .i64 0,.int .i64 0,.string ⟨#[]⟩,.slice none 0 0] 60)=W from HW.out];go_wp2_with fail
 refine (CK.out _ HK.out.k.r).mono ?_;rintro e w1 ⟨rfl,hb1⟩;have K1:=aA (HK.out.step hb1);clear hb1 m0 m1 m2 m3 m4 m5 m6 m7 m8 m9 m10;obtain ⟨m0,m1,m2,m3,m4,m5,m6,m7,m8,m9,m10⟩:=aP K1.out.k.n;have TO:=aA (fV x p rs ya yc w1 K1.out.k.r (HY.out _ K1.out.k.b));go_wp2_with fail
 refine TO.out.mono ?_;rintro e w2 ⟨bl,ba,bp,rfl,ta,hb2⟩;have TA:=aA ta;have K2:=aA (K1.out.step hb2);clear hb2 ta TO m0 m1 m2 m3 m4 m5 m6 m7 m8 m9 m10;obtain ⟨m0,m1,m2,m3,m4,m5,m6,m7,m8,m9,m10⟩:=aP K2.out.k.n;have FD:=aA (yW (JA bl ba bp L w2 w2 (fU 2 HX.out HU.out (by omega) TA.out L HL.out) (Below.refl _ _) (fun a b:Q64=>decide (a.1.2<b.1.2)) (fun a b V=>FO a.1.1 a.1.2 b.1.1 b.1.2 V)));rw [ho] at FD;have BO:=aA (wD x.fn w2 hc);clear ho;cases o with
 | none =>
   go_wp2_with fail
   refine BO.out.mono ?_;rintro e w2' ⟨rfl,rfl⟩;go_wp2_with fail
   refine FD.out.mono ?_;rintro e w3 ⟨rfl,hb3⟩;have K3:=aA (K2.out.step hb3);clear hb3 FD BO m0 m1 m2 m3 m4 m5 m6 m7 m8 m9 m10;have K4:=aA (K3.out.step (bA0 w3 (aG 0 0)));obtain ⟨⟨o0,o1,o2,o3⟩,z0,z1,z2,z3⟩:=aL K4.out.o;go_wp2_with fail
   obtain ⟨⟨y0,y1,y2,y3⟩, -⟩:=aL (aU K4.out.o (.int .i64 0) (.int .i64 0) (.string ⟨#[]⟩) (.slice none 0 0));exact bodyPost_ret (v:=.tuple #[vlV 0 0 none 0 0,.bool false]) (by simp [results,Tryz.results43,go_sem,y0,y1,y2,y3]) rfl (by rw [HR.out];exact ⟨K4.out.put _ _ _ _,rfl⟩)
 | some q =>
   obtain ⟨⟨q0,q1⟩,hq⟩:=q;go_wp2_with fail
   refine BO.out.mono ?_;rintro e w2' ⟨rfl,rfl⟩;go_wp2_with fail
   refine FD.out.mono ?_;rintro e w3 ⟨rfl,hb3⟩;have K3:=aA (K2.out.step hb3);clear hb3 FD BO m0 m1 m2 m3 m4 m5 m6 m7 m8 m9 m10;have N4:=heap_alloc_new w3 (aG q0 q1);have K4:=aA (K3.out.step (bA0 w3 (aG q0 q1)));generalize hV:w3.alloc (aG q0 q1)=V at N4 K4;have HV:=aA hV;obtain ⟨⟨n0,n1⟩, -⟩:=two N4;clear hV N4;have NU:=aA (fun V=>iJ q0 V);dsimp only [cR,Option.isSome];go_upto_region 13 with fail
   rw [show w3.alloc (.cells #[.int .i64 q0,.int .i64 q1] 163)=V from HV.out];go_wp2_with fail
   refine (NU.out _).mono ?_;rintro e w4 ⟨rfl,hb4⟩;have K5:=aA (K4.out.step hb4);clear hb4 NU n0 n1;obtain ⟨⟨o0,o1,o2,o3⟩,z0,z1,z2,z3⟩:=aL K5.out.o;go_wp2_with fail
   obtain ⟨⟨y0,y1,y2,y3⟩, -⟩:=aL (aU K5.out.o (.int .i64 1) (.int .i64 q0) (.string ⟨#[]⟩) (.slice none 0 0));exact bodyPost_ret (v:=.tuple #[vlV 1 q0 none 0 0,.bool true]) (by simp [results,Tryz.results43,go_sem,y0,y1,y2,y3]) rfl (by rw [HR.out];exact ⟨K5.out.put _ _ _ _,rfl⟩)
theorem zQ {G:Nat->Prop} (x:AG) (p:PA) (rs:List RW) (ya:Option Addr) (yc:Nat) (w:World) (h:fK x=0) (hn:fL x) (hS:SzG x) (hU:∀ r∈rs,gN r.A r.n r.g) (hl:rs.length<=1000) (hr:aJ G w x p) (hy:bL w ya rs) :
 Calls Tryz.prog 43 #[agV x p,.slice ya rs.length yc] w (mA (evG x (rs.map RW.g)) w):=by
 have h1:=(cQ h).1;unfold fC at h1;simp only [Bool.or_eq_true,beq_iff_eq] at h1;rcases h1 with ((((h1 | h1) | h1) | h1) | h1) | h1
 · exact Fw x p rs ya yc w h hn hS hU hl hr hy h1
 · exact Ky x p rs ya yc w h hn hS hU hl hr hy h1
 · exact Kz x p rs ya yc w h hn hS hU hl hr hy h1
 · exact Kx x p rs ya yc w h hn hS hU hl hr hy h1
 · exact Fv x p rs ya yc w h hn hS hU hl hr hy h1
 · exact Kw x p rs ya yc w h hn hS hU hl hr hy h1
theorem uS {D:List Wr.AD} {e x:Wr.AD} (h:x∈Wr.putD D e):x∈D\/x=e:=by
 unfold Wr.putD at h;split at h
 · exact List.mem_or_eq_of_mem_set h
 · rcases List.mem_append.1 h with h | h
   · exact .inl (List.mem_of_mem_take h)
   · rcases List.mem_cons.1 h with h | h
     · exact .inr h
     · exact .inl (List.mem_of_mem_drop h)
theorem Hk (nm:ByteArray) (R:EvR):Wr.twA (evA nm R)=evA nm R:=by
 cases R <;> rfl
theorem MP {a b:Int} (h:lsL a b=true):a<b:=by simpa [lsL] using h
theorem Hx {l:List Int} (h:aS lsL l):Wr.risesB l=true:=by
 rw [Wr.risesB_iff];intro j hj;have:=List.pairwise_iff_getElem.1 h j (j+1) (by omega) hj (by omega);have h1:l.getD j 0=l[j]:=by simp [List.getD,List.getElem?_eq_getElem (show j<l.length by omega)]
 have h2:l.getD (j+1) 0=l[j+1]:=by simp [List.getD,List.getElem?_eq_getElem hj]
 rw [h1,h2];exact MP this
theorem EQ (l:List Int):Wr.upTo (fun j=>l.getD j 0) l.length=l:=by
 unfold Wr.upTo;apply List.ext_getElem
 · simp
 · intro i h1 h2
   simp [List.getD,List.getElem?_eq_getElem h2]
theorem MX {x:AG} (h:fK x=0) (gs:List (ByteArray->Option Int)) (hok:Hv (evG x gs)=true):Wr.errV (rzK (evG x gs)) ⟨#[]⟩ (rzL (evG x gs)).length (rzZ (evG x gs))=0:=by
 have hl:=EC h gs;obtain ⟨h1,h2, -⟩:=cQ h;unfold fC at h1;simp only [Bool.or_eq_true,beq_iff_eq] at h1
 have num:∀ R:EvR,Hv R=true->(∃ n,R=.num n)\/R=.no->Wr.errV (rzK R) ⟨#[]⟩ (rzL R).length (rzZ R)=0:=by
  intro R hR hc;rcases hc with ⟨n,rfl⟩ | rfl
  · rfl
  · cases hR
 rcases h1 with ((((h1 | h1) | h1) | h1) | h1) | h1
 · exact num _ hok (by rw [sF h1];exact .inl ⟨_,rfl⟩)
 · exact num _ hok (by rw [Ah h1];split <;> first | exact .inr rfl | exact .inl ⟨_,rfl⟩)
 · exact num _ hok (by rw [Ai h1];split <;> first | exact .inr rfl | exact .inl ⟨_,rfl⟩)
 · exact num _ hok (by rw [Ag h1];exact .inl ⟨_,rfl⟩)
 · exact num _ hok (by rw [sE h1];split <;> first | exact .inr rfl | exact .inl ⟨_,rfl⟩)
 · have ht:=Af h1 gs
   have hr:=(AH (vO x gs) [] List.Pairwise.nil).1;generalize (vO x gs).foldl (eF lsL) []=T at ht hr;have hr2:aS lsL (T.drop (T.length-x.k.toNat)):=List.Pairwise.sublist (List.drop_sublist _ _) hr;rw [ht] at hl |-
   generalize T.drop (T.length-x.k.toNat)=L at hl hr2;show Wr.errV 3 ⟨#[]⟩ L.length (fun j=>L.getD j 0)=0;unfold Wr.errV;rw [if_neg (by decide),if_neg (by decide),if_pos rfl,EQ];unfold Wr.errL;rw [if_neg (by simp only [rzL] at hl;omega),Hx hr2];rfl
theorem J6 {D:List Wr.AD} (h:∀ x∈D,Wr.twA x=x):Wr.twsA (Wr.atD D) D.length=D:=by
 unfold Wr.twsA;apply List.ext_getElem
 · simp
 · intro i h1 h2
   have e:Wr.atD D i=D[i]:=by simp [Wr.atD,List.getD,List.getElem?_eq_getElem h2]
   simp [e,h D[i] (List.getElem_mem h2)]
theorem Km {D:List Wr.AD} (h:aS lsS (Wr.nmD D)):Wr.RiseA (Wr.atD D) D.length:=by
 intro i j hij hj;have e:∀ i,(hi:i<D.length)->Wr.atD D i=D[i]:=fun i hi=>by simp [Wr.atD,List.getD,List.getElem?_eq_getElem hi]
 rw [e i (by omega),e j hj];have hz:(Wr.nmD D).length=D.length:=by simp [Wr.nmD]
 have:=List.pairwise_iff_getElem.1 h i j (by omega) (by omega) hij;simpa [Wr.nmD] using this
structure OkQ (D:List Wr.AD):Prop where
 tw:∀ x∈D,Wr.twA x=x
 ln:∀ x∈D,x.len<=16
 ri:aS lsS (Wr.nmD D)
theorem OkQ.put {D:List Wr.AD} (h:OkQ D) (nm:ByteArray) {R:EvR} (hl:(rzL R).length<=16):OkQ (Wr.putD D (evA nm R)) where
 tw:=fun x hx=>by
  rcases uS hx with hx | rfl
  · exact h.tw x hx
  · exact Hk _ _
 ln:=fun x hx=>by
  rcases uS hx with hx | rfl
  · exact h.ln x hx
  · exact hl
 ri:=by rw [Wr.nmD_put h.ri];exact dO cN h.ri _
theorem Ki {V:World} {oa:Option Addr} {oc:Nat} {D:List Wr.AD} {nm:ByteArray} {R:EvR} {va:Option Addr} {vc:Nat} (hD:OkQ D) (h8:D.length<=20) (hg:bD nm.data.toList=true) (hn:nm.size<=8) (hl:(rzL R).length<=16) (hv:Wr.errV (rzK R) ⟨#[]⟩ (rzL R).length (rzZ R)=0)
 (h:Wr.ReadsA V oa D.length (Wr.atD D)) (hy:Wr.Reads V va (rzL R).length (rzZ R)) :
 Calls Tryz.prog 44 #[.slice oa D.length oc,.string nm,.agg #[.int .i64 (rzK R),.int .i64 (rzN R),.string ⟨#[]⟩,.slice va (rzL R).length vc]] V fun e w'=>(∃ a c,e=.returned (.tuple #[.slice a (Wr.putD D (evA nm R)).length c,.int .i64 0])/\Wr.ReadsA w' a (Wr.putD D (evA nm R)).length (Wr.atD (Wr.putD D (evA nm R))))/\Below V.heap.size V w':=by
 have at_:∀ j,j<D.length->(Wr.atD D j).len<=1000000:=fun j hj=>by
  have e:Wr.atD D j=D[j]:=by simp [Wr.atD,List.getD,List.getElem?_eq_getElem hj]
  rw [e];have:=hD.ln _ (List.getElem_mem hj);omega
 have S:=Wr.setL_any oa D.length oc (Wr.atD D) (evA nm R) va vc (by omega) at_ (Km hD.ri) (by show nm.size<=_;omega) (by show (0:Nat)<=_;omega) (by show (rzL R).length<=_;omega) V h hy;refine S.mono fun e w' hp=>?_
 unfold Wr.SetPost at hp;rw [J6 hD.tw,Hk] at hp
 have he:Wr.errSet D (evA nm R)=0:=by
  unfold Wr.errSet;rw [if_neg (show ¬ bD (evA nm R).m.data.toList=false by show ¬ bD nm.data.toList=false;rw [hg];decide)];rw [if_pos (show Wr.errV (evA nm R).k (evA nm R).s (evA nm R).len (evA nm R).z=0 from hv),if_neg (fun hh=>by have:=hh.2;omega)]
 rw [if_pos he] at hp;exact hp
theorem Fs {G:Nat->Prop} (l:List LN) (a:Option Addr) (c:Nat) (rs:List RW) (ya:Option Addr) (yc:Nat) (w:World) (hN:JU l) (hO:OkP l) (hr:cU G w a l) (hy:bL w ya rs)
 (EV0:∀ (x:LN),x∈l->∀ (p:PA) (V:World),aJ G V x.a p->bL V ya rs->Calls Tryz.prog 43 #[agV x.a p,.slice ya rs.length yc] V (mA (evG x.a (rs.map RW.g)) V)) :
 Calls Tryz.prog 17 #[.slice a l.length c,.slice ya rs.length yc] w fun e w'=>∃ oa oc,e=.returned (.slice oa (lO (rs.map RW.g) l []).length oc)/\Wr.ReadsA w' oa (lO (rs.map RW.g) l []).length (Wr.atD (lO (rs.map RW.g) l []))/\Below w.heap.size w w':=by
 obtain ⟨gs,hgs⟩:∃ gs,rs.map RW.g=gs:=⟨_,rfl⟩;obtain ⟨full,hfull⟩:∃ t,lO gs l []=t:=⟨_,rfl⟩;have EV:=aA EV0;clear EV0;rw [hgs] at EV |-
 rw [hfull];have HE:=aA (fun (x:LN) (hx:x∈l)=>And.intro (hN.fine x hx).1 (And.intro (hN.fine x hx).2.2 (hO.nm x hx).1));have hl:l.length<=8:=hN.len;have K0:=aA (show RNW G w a l ya rs none [] w from ⟨Below.refl _ _,hr,hy,⟨Nat.zero_le _,.inl rfl⟩⟩);have HF0:=aA (show lO gs (l.drop 0) []=full by rw [List.drop_zero];exact hfull);have R0:=aA (show OkQ ([]:List Wr.AD) from ⟨fun _ h=>(nomatch h),fun _ h=>(nomatch h),List.Pairwise.nil⟩);clear hr hy hfull hgs hN hO;go_enter Tryz.func17,Tryz.ntmps17
 go_wp2_with fail
 go_loopw [5,14] (fun v i wr=>∃ (k n:Nat) (D:List Wr.AD) (oa:Option Addr) (oc:Nat),v=.slice oa n oc/\i=.int .i64 (k:Nat)/\k<=l.length/\n<=k/\Hid (D.length=n)/\Hid (lO gs (l.drop k) D=full)/\Hid (OkQ D)/\Hid (RNW G w a l ya rs oa D wr)) (fun _ i _=>l.length-(intOf i).toNat)
 case atStart=>exact ⟨0,0,[],none,0,rfl,rfl,Nat.zero_le _,Nat.le_refl _,aA rfl,HF0,R0,K0⟩
 case round =>
  obtain ⟨k,n,D,oa,oc,rfl,rfl,hk,hnk,HL,HF,HR,HK⟩:=hrel;clear K0 HF0 R0;by_cases hlt:k<l.length
  · obtain ⟨x,hx⟩:∃ x,l[k]? = some x:=⟨_,List.getElem?_eq_getElem hlt⟩
    have hd:l.drop k=x::l.drop (k+1):=by
     rw [List.drop_eq_getElem_cons hlt];rw [List.getElem?_eq_getElem hlt] at hx;rw [Option.some.inj hx]
    have hmem:=List.mem_of_getElem? hx;obtain ⟨b,off,p,hya,hbl,hG,⟨p0,p1,p2,p3,p4,p5,p6,p7,p8,p9,p10,p11⟩,hrd⟩:=HK.out.l.at hx;subst hya;obtain ⟨R,hR⟩:∃ R,evG x.a gs=R:=⟨_,rfl⟩;have hF:=HF.out;rw [hd,lO,hR] at hF;have BD:=bA0 wr (lnO x p);have ND:=heap_alloc_new wr (lnO x p);have E1:=EV.out x hmem p (wr.alloc (lnO x p)) (hrd.kept BD) (nC HK.out.y BD);have hz:=EC (HE.out x hmem).1 gs;have hfit:=MX (HE.out x hmem).1 gs;rw [hR] at E1 hz hfit;have E2:=aA (E1.mono (fun e w' h=>Lz hz h));have HF2:=aA hF;have HZ:=aA hz;have HFIT:=aA hfit;have HGN:=aA (HE.out x hmem).2;have K2:=aA (HK.out.step BD);have b1:(k:Int)<(l.length:Int):=by omega
    have b2:(0:Int)<=(k:Int):=by omega
    have b3:((k:Int)).toNat=k:=by omega
    clear hd hx hF hG hR E1 hmem hz hrd hfit BD HK;go_upto_region 5 with fail
    generalize World.alloc wr _=V at ND K2 E2;generalize wr.heap.size=B2 at ND;have HND:=aA ND;obtain ⟨q0,q1,q2,q3,q4,q5,q6,q7,q8,q9,q10,q11⟩:=pZ HND.out;clear ND p0 p1 p2 p3 p4 p5 p6 p7 p8 p9 p10 p11;go_wp2_with fail
    refine E2.out.mono ?_;rintro e w5 ⟨hb,va,vc,rfl,hv⟩;have BV:=bA0 w5 (.cells #[.int .i64 (rzK R),.int .i64 (rzN R),.string ⟨#[]⟩,.slice va (rzL R).length vc] 60);have K5:=(K2.out.step hb).step BV;have V5:=hv.kept BV;have NB:=heap_alloc_new w5 (.cells #[.int .i64 (rzK R),.int .i64 (rzN R),.string ⟨#[]⟩,.slice va (rzL R).length vc] 60);have P0:=(hb.trans (BV.mono hb.size)).block _ (aB HND.out);have P1:=P0.trans HND.out;clear hb hv BV P0 E2 q0 q1 q2 q3 q4 q5 q6 q7 q8 q9 q10 q11 K2 HND;go_upto_region 6 with fail
    generalize World.alloc w5 _=W at K5 V5 NB P1;generalize w5.heap.size=B at NB;have HK5:=aA K5;have HV5:=aA V5;have HNB:=aA NB;have HP1:=aA P1;clear K5 V5 NB P1;cases hok:Hv R with
    | false =>
      have HF3:=aA (show lO gs (l.drop (k+1)) D=full by have:=HF2.out;rw [hok,if_neg (by decide)] at this;exact this);clear hok HF2;go_wp2_with fail
      go_roundw
      case rel=>exact ⟨k+1,n,D,oa,oc,rfl,by go_num,by omega,by omega,HL,HF3,HR,HK5⟩
      case measure=>simp [intOf];omega
    | true =>
      have HF3:=aA (show lO gs (l.drop (k+1)) (Wr.putD D (evA x.nm R))=full by have:=HF2.out;rw [hok,if_pos rfl] at this;exact this);have SC:=Ki (nm:=x.nm) (R:=R) (oc:=oc) (vc:=vc) HR.out (by rw [HL.out];omega) HGN.out.2 HGN.out.1 HZ.out (HFIT.out hok) HK5.out.o HV5.out;rw [HL.out] at SC;have HSC:=aA SC;obtain ⟨c0,c1,c2,c3⟩:=Nz HNB.out;obtain ⟨q0, -⟩:=pZ HP1.out;have hput:(Wr.putD D (evA x.nm R)).length<=D.length+1:=by unfold Wr.putD;split <;> simp <;> omega
      have hp2:(Wr.putD D (evA x.nm R)).length<=n+1:=by rw [<- HL.out];exact hput
      have HR2:=aA (HR.out.put x.nm HZ.out);clear hok HF2 SC hput;obtain ⟨m,hm⟩:∃ m,(Wr.putD D (evA x.nm R)).length=m:=⟨_,rfl⟩;rw [hm] at hp2 HSC;have HM:=aA hm;clear hm;go_wp2_with fail
      refine HSC.out.mono ?_;rintro e w6 ⟨⟨oa2,oc2,rfl,hA⟩,hb⟩;have K6:=HK5.out.step hb;have HK6:=aA (show RNW G w (some ⟨b,off,none⟩) l ya rs oa2 (Wr.putD D (evA x.nm R)) w6 from ⟨K6.b,K6.l,K6.y,by rw [HM.out];exact hA⟩);clear hb hA K6 c0 c1 c2 c3 q0 HSC;go_wp2_with fail
      go_roundw
      case rel=>exact ⟨k+1,m,_,oa2,oc2,rfl,by go_num,by omega,by omega,HM,HF3,HR2,HK6⟩
      case measure=>simp [intOf];omega
  · have e1:l.drop k=[]:=List.drop_of_length_le (by omega)
    have HD:=aA (show D=full by rw [<- HF.out,e1];rfl);have b1:¬ (k:Int)<(l.length:Int):=by omega
    clear e1;go_wp2_with fail
    go_ret;exact ⟨oa,⟨oc,by rw [<- HD.out,HL.out];rfl⟩,by rw [<- HD.out];exact HK.out.o,HK.out.b⟩
theorem Ih {G:Nat->Prop} (l:List LN) (a:Option Addr) (c:Nat) (rs:List RW) (ya:Option Addr) (yc:Nat) (w:World) (hN:JU l) (hO:OkP l) (hU:∀ r∈rs,gN r.A r.n r.g) (hl2:rs.length<=1000) (hr:cU G w a l) (hy:bL w ya rs) :
 Calls Tryz.prog 17 #[.slice a l.length c,.slice ya rs.length yc] w fun e w'=>∃ oa oc,e=.returned (.slice oa (lO (rs.map RW.g) l []).length oc)/\Wr.ReadsA w' oa (lO (rs.map RW.g) l []).length (Wr.atD (lO (rs.map RW.g) l []))/\Below w.heap.size w w' :=
 Fs l a c rs ya yc w hN hO hr hy (fun x hx p V h1 h2=>zQ x.a p rs ya yc V (hN.fine x hx).1 (hN.fine x hx).2.1 (hN.sz x hx).1 hU hl2 h1 h2)
theorem Nv:Nd where
 ps:=fun w hw=>by have h:=jJ F8 (by decide) w hw;rwa [Aa] at h
 pt:=fun w hw=>by have h:=jJ Lp (by decide) w hw;rwa [MV] at h
 rn:=fun a c ya yc w hr hy=>by
  have h:=Ih vB a c wS ya yc w (uD Aa) (Bl Aa) CG (by decide) hr hy;rw [Hw] at h;exact h
 tx:=fun a c w hw hr=>by
  have h:=wU vB a c w (by decide) (uD Aa).fine hw hr;rwa [I1] at h
 ck:=fun w hw=>by
  have h:=uJ wW (by decide) (by decide) w hw;rwa [Lr] at h
end
section
open Go.ChangeShapes Go.WideShapes Go.ChangeAt Go.RowKit
theorem FA:ownKnob Tryz.prog.godebug=none:=by kernel_rfl
theorem rY:laidOutB Tryz.prog=true:=by kernel_rfl
theorem s9 {w:World} {n:String} {g:Nat} {cs:Array Value} (hg:Tryz.prog.globalNamed n=some g) (h:w.var? Tryz.prog n=some cs):∃ t f,w.heap[g]? = some (.cells cs t f):=by
 unfold World.var? at h;rw [hg] at h;simp only [Option.bind_some] at h;split at h
 · rename_i cs' t f e
   cases h;exact ⟨t,f,e⟩
 · cases h
abbrev oZ:List (String×DataW Unit):=Rows.progOrderRow.laid
theorem AW: "*" ++ "errors.errorString" = "*errors.errorString" := by decide
theorem Kl (u:TypeId) (h:Tryz.prog.typeName? 3 u=some "*errors.errorString"):u=361 :=
 typeName_ptr_named (nm:= "errors.errorString") (by rw [AW];kernel_rfl) (by kernel_rfl) (by decide) u (by rw [AW];exact h)
theorem IW {W:World} (h:laidMetH Tryz.prog oZ W):kB W:=by
 rw [MakeChecks.laidMetH_plain _ _ _ (by kernel_rfl)] at h;have h2:=h.tail.tail;have htab:=Lib.tabIs_of_head (g:=1) (k:=.u64) (zs:=Lib.pow10Tab) (by kernel_rfl) (by kernel_rfl) Tryz.underlying316 Tryz.underlying268 (by kernel_rfl) (by kernel_rfl) h2;unfold Lib.TabIs World.var? at htab;rw [show Tryz.prog.globalNamed "internal/strconv.uint64pow10" = some 1 by kernel_rfl] at htab;simp only [Option.bind_some] at htab;split at htab
 · rename_i cs' t f e
   cases htab;exact ⟨t,f,e⟩
 · cases htab
theorem IV {W:World} (h:laidMetH Tryz.prog oZ W):gO W:=by
 rw [MakeChecks.laidMetH_plain _ _ _ (by kernel_rfl)] at h;have h4:=h.tail.tail.tail.tail;have h5:=h4.tail;have hrow:∀ u,Tryz.prog.typeName? 3 u=some "*errors.errorString" -> u=361:=Kl;obtain ⟨a0,s0,v0, -, -, -⟩:=laid_sentinel (g:=7) h4 (by kernel_rfl) (by kernel_rfl) Tryz.underlying94 hrow Tryz.underlying361 Tryz.underlying363 rfl rfl Tryz.underlying9 (by kernel_rfl) (by kernel_rfl);obtain ⟨a1,s1,v1, -, -, -⟩:=laid_sentinel (g:=6) h5 (by kernel_rfl) (by kernel_rfl) Tryz.underlying94 hrow Tryz.underlying361 Tryz.underlying363 rfl rfl Tryz.underlying9 (by kernel_rfl) (by kernel_rfl);obtain ⟨t1,f1,p1⟩:=s9 (g:=7) (by kernel_rfl) v0;obtain ⟨t2,f2,p2⟩:=s9 (g:=6) (by kernel_rfl) v1;exact ⟨⟨_,_,t2,f2,p2⟩,⟨_,_,t1,f1,p1⟩⟩
theorem IT {W:World} (h:laidMetH Tryz.prog oZ W):tF W:=⟨IV h,IW h⟩
theorem Cy (os:Os) (args:Array Value):laidMetH Tryz.prog oZ ((World.laidAll Tryz.prog os oZ).forCall (fun _ _=>0) ⟨#[],args,[]⟩).memory:=by
 rw [MakeChecks.laidMetH_plain _ _ _ (by kernel_rfl)];exact laidMet_laidAll _ (by kernel_rfl) (by kernel_rfl)
theorem wR (os:Os):(World.laidAll Tryz.prog os oZ).Shaped Tryz.prog:=World.shaped_of_ZipB (by kernel_rfl) (by kernel_rfl)
end
section
open Go.RowKit Go.ChangeShapes Go.WideShapes Go.Deep
theorem Fo:Tryz.prog.cellsOf 46=3:=by kernel_rfl
theorem zM {H:Type} {enc:TypeId×Value->H} {W:World} {base:Nat} {v:Value} {d:DataW H} {p:List MemPlace} (hv:Value.okWide Tryz.prog W .any base 46 v) (h:DataW.Trod enc Tryz.prog W 0 (fun _=>true) true 46 v d p) :
 ∃ x:PD,v=pdV x:=by
 obtain ⟨cs,rfl,hsz⟩:=okWide_struct Tryz.underlying46 hv;obtain ⟨fuel,hf⟩:=h;obtain ⟨l⟩:=cs;obtain ⟨zs,m', -, -,hlen,hzl,hz⟩:=DataW.trod_struct Tryz.underlying46 hf;rw [Fo] at hlen;have z3:zs.length=3:=hzl;match l,hlen with
 | [c1, c2, c3], _ =>
   match zs,z3 with
   | [z0, z1, z2], _ =>
     have g0:DataW.trod enc Tryz.prog W 0 (fun _=>true) true m' 2 [c1]=some z0:=hz 0 _ rfl;have g1:DataW.trod enc Tryz.prog W 0 (fun _=>true) true m' 9 [c2]=some z1:=hz 1 _ rfl;have g2:DataW.trod enc Tryz.prog W 0 (fun _=>true) true m' 9 [c3]=some z2:=hz 2 _ rfl;obtain ⟨t,e1, -, -⟩:=DataW.trod_int Tryz.underlying2 g0;obtain ⟨o,e2, -, -⟩:=DataW.trod_string Tryz.underlying9 g1;obtain ⟨u,e3, -, -⟩:=DataW.trod_string Tryz.underlying9 g2;cases e1;cases e2;cases e3;exact ⟨⟨t,o,u⟩,rfl⟩
end
end Go.Proofs.YtgfkjkokmcejbaaGreatDoor
