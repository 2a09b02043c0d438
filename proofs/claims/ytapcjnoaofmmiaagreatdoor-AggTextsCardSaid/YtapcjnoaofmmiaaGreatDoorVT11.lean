/-
 No statement: what AggTextsCard needs, of the texts OParts, QRead, QExpr, QBox, QCheck.
-/
import Derived.Test.YtapcjnoaofmmiaaGreatDoorVT10
import Derived.WalkLawsBesides
set_option maxHeartbeats 40000000
set_option maxRecDepth 100000
namespace Go.Proofs.YtapcjnoaofmmiaaGreatDoor
section
open Go.RowKit
abbrev ptV (x:List UInt8):Value:=.agg #[.bool (kP x),.bool (eP x),.bool (bP x)]
abbrev ptO (k e b:Bool):Obj:=.cells #[.bool k,.bool e,.bool b] 102
theorem cV {W:World} {B:Nat} {x0 x1 x2:Value} {t:TypeId} (h:W.heap[B]? = some (.cells #[x0,x1,x2] t (0,0))) :
 (W.cell? ⟨B,0,none⟩=some x0/\W.cell? ⟨B,1,none⟩=some x1/\W.cell? ⟨B,2,none⟩=some x2)/\W.frozen? ⟨B,0,none⟩=false/\W.frozen? ⟨B,1,none⟩=false/\W.frozen? ⟨B,2,none⟩=false:=by
 refine ⟨⟨?_,?_,?_⟩,?_,?_,?_⟩ <;> simp [World.cell?,World.frozen?,h]
theorem gL {W:World} {B:Nat} {x0 x1 x2:Value} {t:TypeId} (h:W.heap[B]? = some (.cells #[x0,x1,x2] t (0,0))) (v0 v1 v2:Value) :
 (((W.setCell ⟨B,0,none⟩ v0).setCell ⟨B,1,none⟩ v1).setCell ⟨B,2,none⟩ v2).heap[B]? = some (.cells #[v0,v1,v2] t (0,0)):=by
 have h0:=heap_setCell_same W B 0 _ t v0 h;have g0:(W.setCell ⟨B,0,none⟩ v0).heap[B]? = some (.cells #[v0,x1,x2] t (0,0)):=by simpa using h0
 have h1:=heap_setCell_same _ B 1 _ t v1 g0;have g1:((W.setCell ⟨B,0,none⟩ v0).setCell ⟨B,1,none⟩ v1).heap[B]? = some (.cells #[v0,v1,x2] t (0,0)):=by simpa using h1
 have h2:=heap_setCell_same _ B 2 _ t v2 g1;simpa using h2
theorem gQ (W:World) (B:Nat) (v0 v1 v2:Value):aE (· = B) W (((W.setCell ⟨B,0,none⟩ v0).setCell ⟨B,1,none⟩ v1).setCell ⟨B,2,none⟩ v2) :=
 (((aE.refl (· = B) W).setCell (p:=⟨B,0,none⟩) (.inl rfl) v0).setCell (p:=⟨B,1,none⟩) (.inl rfl) v1).setCell (p:=⟨B,2,none⟩) (.inl rfl) v2
theorem i6 (o:ByteArray) (w:World):Calls Tryz.prog 44 #[.string o] w fun e w'=>e=.returned (.tuple #[ptV o.data.toList,.bool (dM o.data.toList)])/\Below w.heap.size w w':=by
 unfold ptV;have B1:=(Below.refl w.heap.size w).alloc (Nat.le_refl _) (ptO false false false);have N1:=heap_alloc_new w (ptO false false false);have hs0:(w.alloc (ptO false false false)).heap.size=w.heap.size+1:=World.size_alloc _ _;generalize hW:w.alloc (ptO false false false)=W at *;have HW:=aA hW;have HB:=aA B1;have HN:=aA N1;obtain ⟨⟨m0,m1,m2⟩,f0,f1,f2⟩:=cV N1;clear hW B1 N1;cases h0:(o.data.toList == aQ) with
 | true =>
   have g0:=bT h0;unfold aQ at g0;have hE:o.data.toList=aQ:=by simpa using h0
   rw [show kP o.data.toList=false by rw [hE];decide,show eP o.data.toList=false by rw [hE];decide,show bP o.data.toList=false by rw [hE];decide,show dM o.data.toList=true by rw [hE];decide];clear hE;clear h0;go_enter Tryz.func44,Tryz.ntmps44
   go_upto_region 1 with fail
   rw [HW.out];go_wp2_with fail
   obtain ⟨⟨d0,d1,d2⟩, -⟩:=cV (gL HN.out (.bool false) (.bool false) (.bool false));exact bodyPost_ret (v:=.tuple #[.agg #[.bool false,.bool false,.bool false],.bool true]) (by simp [results,Tryz.results44,go_sem,d0,d1,d2]) rfl ⟨rfl,HB.out.trans ((gQ W w.heap.size _ _ _).below (fun i hi=>by omega) (by omega))⟩
 | false =>
   cases h1:(o.data.toList == mH) with
   | true =>
     have g0:=aM h0;unfold aQ at g0;have g1:=bT h1;unfold mH at g1;have hE:o.data.toList=mH:=by simpa using h1
     rw [show kP o.data.toList=false by rw [hE];decide,show eP o.data.toList=true by rw [hE];decide,show bP o.data.toList=false by rw [hE];decide,show dM o.data.toList=true by rw [hE];decide];clear hE;clear h0 h1;go_enter Tryz.func44,Tryz.ntmps44
     go_upto_region 1 with fail
     rw [HW.out];go_wp2_with fail
     obtain ⟨⟨d0,d1,d2⟩, -⟩:=cV (gL HN.out (.bool false) (.bool true) (.bool false));exact bodyPost_ret (v:=.tuple #[.agg #[.bool false,.bool true,.bool false],.bool true]) (by simp [results,Tryz.results44,go_sem,d0,d1,d2]) rfl ⟨rfl,HB.out.trans ((gQ W w.heap.size _ _ _).below (fun i hi=>by omega) (by omega))⟩
   | false =>
     cases h2:(o.data.toList == oO) with
     | true =>
       have g0:=aM h0;unfold aQ at g0;have g1:=aM h1;unfold mH at g1;have g2:=bT h2;unfold oO at g2;have hE:o.data.toList=oO:=by simpa using h2
       rw [show kP o.data.toList=false by rw [hE];decide,show eP o.data.toList=true by rw [hE];decide,show bP o.data.toList=false by rw [hE];decide,show dM o.data.toList=true by rw [hE];decide];clear hE;clear h0 h1 h2;go_enter Tryz.func44,Tryz.ntmps44
       go_upto_region 1 with fail
       rw [HW.out];go_wp2_with fail
       obtain ⟨⟨d0,d1,d2⟩, -⟩:=cV (gL HN.out (.bool false) (.bool true) (.bool false));exact bodyPost_ret (v:=.tuple #[.agg #[.bool false,.bool true,.bool false],.bool true]) (by simp [results,Tryz.results44,go_sem,d0,d1,d2]) rfl ⟨rfl,HB.out.trans ((gQ W w.heap.size _ _ _).below (fun i hi=>by omega) (by omega))⟩
     | false =>
       cases h3:(o.data.toList == mG) with
       | true =>
         have g0:=aM h0;unfold aQ at g0;have g1:=aM h1;unfold mH at g1;have g2:=aM h2;unfold oO at g2;have g3:=bT h3;unfold mG at g3;have hE:o.data.toList=mG:=by simpa using h3
         rw [show kP o.data.toList=false by rw [hE];decide,show eP o.data.toList=true by rw [hE];decide,show bP o.data.toList=false by rw [hE];decide,show dM o.data.toList=true by rw [hE];decide];clear hE;clear h0 h1 h2 h3;go_enter Tryz.func44,Tryz.ntmps44
         go_upto_region 1 with fail
         rw [HW.out];go_wp2_with fail
         obtain ⟨⟨d0,d1,d2⟩, -⟩:=cV (gL HN.out (.bool false) (.bool true) (.bool false));exact bodyPost_ret (v:=.tuple #[.agg #[.bool false,.bool true,.bool false],.bool true]) (by simp [results,Tryz.results44,go_sem,d0,d1,d2]) rfl ⟨rfl,HB.out.trans ((gQ W w.heap.size _ _ _).below (fun i hi=>by omega) (by omega))⟩
       | false =>
         cases h4:(o.data.toList == aW) with
         | true =>
           have g0:=aM h0;unfold aQ at g0;have g1:=aM h1;unfold mH at g1;have g2:=aM h2;unfold oO at g2;have g3:=aM h3;unfold mG at g3;have g4:=bT h4;unfold aW at g4;have hE:o.data.toList=aW:=by simpa using h4
           rw [show kP o.data.toList=false by rw [hE];decide,show eP o.data.toList=true by rw [hE];decide,show bP o.data.toList=true by rw [hE];decide,show dM o.data.toList=true by rw [hE];decide];clear hE;clear h0 h1 h2 h3 h4;go_enter Tryz.func44,Tryz.ntmps44
           go_upto_region 1 with fail
           rw [HW.out];go_wp2_with fail
           obtain ⟨⟨d0,d1,d2⟩, -⟩:=cV (gL HN.out (.bool false) (.bool true) (.bool true));exact bodyPost_ret (v:=.tuple #[.agg #[.bool false,.bool true,.bool true],.bool true]) (by simp [results,Tryz.results44,go_sem,d0,d1,d2]) rfl ⟨rfl,HB.out.trans ((gQ W w.heap.size _ _ _).below (fun i hi=>by omega) (by omega))⟩
         | false =>
           cases h5:(o.data.toList == cQ) with
           | true =>
             have g0:=aM h0;unfold aQ at g0;have g1:=aM h1;unfold mH at g1;have g2:=aM h2;unfold oO at g2;have g3:=aM h3;unfold mG at g3;have g4:=aM h4;unfold aW at g4;have g5:=bT h5;unfold cQ at g5;have hE:o.data.toList=cQ:=by simpa using h5
             rw [show kP o.data.toList=true by rw [hE];decide,show eP o.data.toList=true by rw [hE];decide,show bP o.data.toList=false by rw [hE];decide,show dM o.data.toList=true by rw [hE];decide];clear hE;clear h0 h1 h2 h3 h4 h5;go_enter Tryz.func44,Tryz.ntmps44
             go_upto_region 1 with fail
             rw [HW.out];go_wp2_with fail
             obtain ⟨⟨d0,d1,d2⟩, -⟩:=cV (gL HN.out (.bool true) (.bool true) (.bool false));exact bodyPost_ret (v:=.tuple #[.agg #[.bool true,.bool true,.bool false],.bool true]) (by simp [results,Tryz.results44,go_sem,d0,d1,d2]) rfl ⟨rfl,HB.out.trans ((gQ W w.heap.size _ _ _).below (fun i hi=>by omega) (by omega))⟩
           | false =>
             have g0:=aM h0;unfold aQ at g0;have g1:=aM h1;unfold mH at g1;have g2:=aM h2;unfold oO at g2;have g3:=aM h3;unfold mG at g3;have g4:=aM h4;unfold aW at g4;have g5:=aM h5;unfold cQ at g5;have hF:dM o.data.toList=false:=by unfold dM;rw [h0,h1,h2,h3,h4,h5];rfl
             rw [show kP o.data.toList=false from h5,show eP o.data.toList=false by unfold eP;rw [hF];rfl,show bP o.data.toList=false from h4,hF];clear hF;clear h0 h1 h2 h3 h4 h5;go_enter Tryz.func44,Tryz.ntmps44
             go_upto_region 1 with fail
             rw [HW.out];go_wp2_with fail
             obtain ⟨⟨d0,d1,d2⟩, -⟩:=cV (gL HN.out (.bool false) (.bool false) (.bool false));exact bodyPost_ret (v:=.tuple #[.agg #[.bool false,.bool false,.bool false],.bool false]) (by simp [results,Tryz.results44,go_sem,d0,d1,d2]) rfl ⟨rfl,HB.out.trans ((gQ W w.heap.size _ _ _).below (fun i hi=>by omega) (by omega))⟩
theorem Ag (k:Int) (w:World):Calls Tryz.prog 95 #[.int .i64 k] w fun e w'=>e=.returned (.bool (decide (1<=k) && decide (k<=16)))/\w=w':=by
 by_cases h:1<=k
 · rw [decide_eq_true h,Bool.true_and]
   go_enter Tryz.func95,Tryz.ntmps95
   go_wp2_with fail
   go_ret;exact ⟨rfl,rfl⟩
 · rw [decide_eq_false h,Bool.false_and]
   have h2:decide (1<=k)=false:=decide_eq_false h;go_enter Tryz.func95,Tryz.ntmps95
   go_wp2_with fail
   go_ret;exact ⟨rfl,rfl⟩
theorem vQ (o:ByteArray) (w:World):Calls Tryz.prog 97 #[.string o] w fun e w'=>e=.returned (.bool (aX o 0 0).isSome)/\w=w':=by
 have C:=aA (tH o 0 0 w);obtain ⟨z,hz⟩:∃ z,(aX o 0 0).isSome=z:=⟨_,rfl⟩;obtain ⟨y,hy⟩:∃ y,(aX o 0 0).getD false=y:=⟨_,rfl⟩;rw [hz,hy] at C;rw [hz];clear hz hy;go_enter Tryz.func97,Tryz.ntmps97
 go_wp2_with fail
 refine C.out.mono ?_;rintro e w1 ⟨rfl,rfl⟩;clear C;go_wp2_with fail
 go_ret;exact ⟨rfl,rfl⟩
theorem Fq {ts:List Tk} {x:List UInt8} {p:Nat} (hp:p<ts.length):dU ts x p=(ts[p].kind == 1 && ts[p].text == x):=by
 unfold dU;rw [List.getElem?_eq_getElem hp]
theorem Ft {ts:List Tk} {x:List UInt8} {p:Nat} (hp:ts.length<=p):dU ts x p=false:=by
 unfold dU;rw [List.getElem?_eq_none hp]
theorem yI (ts:List Tk) (rb:Nat) (a:Option Addr) (c:Nat) (s:RS) (x:ByteArray) (w:World) (h:PW ts rb a c s w) :
 Calls Tryz.prog 36 #[.pointer (some ⟨rb,0,none⟩),.string x] w fun e w'=>e=.returned (.bool (dU ts x.data.toList s.pos))/\aE (fun _=>False) w w':=by
 obtain ⟨⟨c0,c1,c2,c3,c4⟩,f1,f2,f3,f4⟩:=h.r.cells;have hpos:=h.f.2.1;have hn:=h.f.2.2.2;have K:=aA (aE.refl (fun _=>False) w);by_cases hlt:s.pos<ts.length
 · obtain ⟨b,off,ha, -,p0,p1, -, -⟩:=aY h.t hlt
   subst ha;rw [Fq hlt];obtain ⟨k,hk⟩:∃ k,ts[s.pos].kind=k:=⟨_,rfl⟩;obtain ⟨X,hX⟩:∃ X:ByteArray,⟨ts[s.pos].text.toArray⟩=X:=⟨_,rfl⟩;have hXl:ts[s.pos].text=X.data.toList:=by rw [<- hX]
   rw [hk] at p0 |-
   rw [hX] at p1;rw [hXl, <- Lib.toList_data, <- Lib.toList_data];have a1:(s.pos:Int)<(ts.length:Int):=by omega
   have a2:(0:Int)<=(s.pos:Int):=by omega
   have a3:((s.pos:Int)).toNat=s.pos:=by omega
   clear hk hX hXl h;cases hk3:(k == 1) with
   | true =>
     have z:(k == 1)=true:=hk3;rw [Bool.true_and];clear hk3;go_enter Tryz.func36,Tryz.ntmps36
     go_wp2_with (go_quiet (fail))
     go_ret;exact ⟨rfl,K.out.drewN _⟩
   | false =>
     have z:(k == 1)=false:=hk3;rw [Bool.false_and];clear hk3;go_enter Tryz.func36,Tryz.ntmps36
     go_wp2_with (go_quiet (fail))
     go_ret;exact ⟨rfl,K.out.drewN _⟩
 · rw [Ft (by omega)]
   have a1:decide (s.pos<ts.length)=false:=decide_eq_false hlt;have a2:decide ((s.pos:Int)<(ts.length:Int))=false:=decide_eq_false (by omega);clear h;go_enter Tryz.func36,Tryz.ntmps36
   go_wp2_with (go_quiet (fail))
   go_ret;exact ⟨rfl,K.out.drewN _⟩
theorem Dr {n:Nat} {L:List Tk} {x:List UInt8} {s:RS} (hn:n=L.length) (h:j7 n s):j7 n (aU L x s):=by
 subst hn;obtain ⟨h1,h2,h3,h4⟩:=h;unfold aU;by_cases hb:s.bad=0
 · rw [if_pos hb]
   cases hs:isS L x s.pos with
   | true =>
     have:=fM hs;rw [if_pos rfl];exact ⟨fun _=>this,by show s.pos+1<=_;omega,h3,h4⟩
   | false =>
     rw [if_neg (by decide)];unfold aR;rw [if_pos hb];exact ⟨fun h'=>absurd h' (by show ¬ (2:Int)=0;decide),h2,h3,h4⟩
 · rw [if_neg hb];exact ⟨h1,h2,h3,h4⟩
theorem iB (ts:List Tk) (rb:Nat) (a:Option Addr) (c:Nat) (s:RS) (x:ByteArray) (w:World) (h:PW ts rb a c s w) :
 Calls Tryz.prog 34 #[.pointer (some ⟨rb,0,none⟩),.string x] w fun e w'=>e=.returned (.tuple #[])/\PW ts rb a c (aU ts x.data.toList s) w'/\aE (· = rb) w w':=by
 have HF:=Dr (x:=x.data.toList) rfl h.f;obtain ⟨⟨c0,c1,c2,c3,c4⟩,f1,f2,f3,f4⟩:=h.r.cells;have H:=aA h;by_cases hb:s.bad=0
 · have q:((s.bad:Int) == 0)=true:=by rw [hb];rfl
   have q2:((s.bad:Int) != 0)=false:=by rw [hb];rfl
   cases hs:isS ts x.data.toList s.pos with
   | true =>
     have F:aU ts x.data.toList s=aO s:=by unfold aU;rw [if_pos hb,hs,if_pos rfl]
     have IS:=aA (iP x hs w h);rw [F] at HF |-
     clear hb h F hs;go_enter Tryz.func34,Tryz.ntmps34
     go_wp2_with fail
     refine IS.out.mono ?_;rintro e w1 ⟨rfl,hk⟩;have H1:=aA (H.out.kept hk);have K1:=aA (show aE (· = rb) w w1 from hk.mono (fun _ h _=>h.elim));clear hk IS c0 c1 c2 c3 c4 f1 f2 f3 f4;obtain ⟨⟨c0,c1,c2,c3,c4⟩,f1,f2,f3,f4⟩:=H1.out.r.cells;have hpos:=H1.out.f.2.1;have hnn:=H1.out.f.2.2.2;go_wp2_with fail
     go_end0
     exact ⟨rfl,H1.out.set HF rfl,cS K1.out 1 _⟩
   | false =>
     have F:aU ts x.data.toList s=aR 2 s:=by unfold aU;rw [if_pos hb,hs,if_neg (by decide)]
     have IS:=aA (iP x hs w h);rw [F];clear hb h F hs HF;go_enter Tryz.func34,Tryz.ntmps34
     go_wp2_with fail
     refine IS.out.mono ?_;rintro e w1 ⟨rfl,hk⟩;have H1:=aA (H.out.kept hk);have K1:=aA (show aE (· = rb) w w1 from hk.mono (fun _ h _=>h.elim));have FA:=aA (cZ ts rb a c s 2 (by decide) w1 H1.out);clear hk IS c0 c1 c2 c3 c4 f1 f2 f3 f4;go_wp2_with fail
     refine FA.out.mono ?_;rintro e w2 ⟨rfl,h2,hk⟩;have H2:=aA h2;have K2:=aA (K1.out.trans hk (fun i hi _=>hi));clear h2 hk FA;go_wp2_with fail
     refine bodyPost_ret (results_none rfl _ _ _) rfl ?_;exact ⟨rfl,H2.out,K2.out⟩
 · have q:((s.bad:Int) == 0)=false:=beq_eq_false_iff_ne.2 hb
   have q2:((s.bad:Int) != 0)=true:=by simpa using hb
   have F:aU ts x.data.toList s=s:=e7 hb;rw [F];clear hb h F HF;go_enter Tryz.func34,Tryz.ntmps34
   go_wp2_with fail
   refine bodyPost_ret (results_none rfl _ _ _) rfl ?_;exact ⟨rfl,H.out,aE.refl _ _⟩
theorem PW.reads {ts:List Tk} {rb:Nat} {a:Option Addr} {c:Nat} {s:RS} {w:World} (h:PW ts rb a c s w):eW w a ts :=
 h.t.imp id fun ⟨b,off,e,hlt,hc⟩=>⟨b,off,e,Nat.lt_trans hlt h.r.lt,hc⟩
theorem ER (ts:List Tk) (rb:Nat) (a:Option Addr) (c:Nat) (s:RS) (w:World) (h:PW ts rb a c s w) (hb:¬ s.bad=0) :
 Calls Tryz.prog 91 #[.pointer (some ⟨rb,0,none⟩)] w (PE ts rb a c (a8 ts s) w):=by
 rw [e9 hb];have q:((s.bad:Int) != 0)=true:=by simpa using hb
 have K1:=aF ((Below.refl w.heap.size w).alloc (Nat.le_refl _) (ndO ⟨#[]⟩ ⟨#[]⟩ 0 none 0 0)) (· = rb);have H1:=h.below ((Below.refl _ w).alloc (Nat.le_refl _) (ndO ⟨#[]⟩ ⟨#[]⟩ 0 none 0 0));obtain ⟨⟨c0,c1,c2,c3,c4⟩,f1,f2,f3,f4⟩:=H1.r.cells;have P:=aA (PE.zero (w0:=w) H1 K1);have NB:=heap_alloc_new w (ndO ⟨#[]⟩ ⟨#[]⟩ 0 none 0 0);have hrb:=h.r.lt;have HH:=aA H1;have KK:=aA K1;clear h hb;go_enter Tryz.func91,Tryz.ntmps91
 go_wp2_with fail
 exact bodyPost_ret (v:=bB ⟨#[]⟩ ⟨#[]⟩ 0 none 0 0) (by simp [results,Tryz.results91,go_sem]) rfl P.out
theorem i7 {rb:Nat} {w X Y:World} (hb:Below w.heap.size w X) (hk:aE (· = rb) X Y) (_:w.heap.size+1<=X.heap.size):aE (· = rb) w Y :=
 (aF hb (· = rb)).trans hk (fun _ hi _=>hi)
theorem tV {W:World} {B:Nat} {x0 x1 x2 x3:Value} {t:TypeId} (h:W.heap[B]? = some (.cells #[x0,x1,x2,x3] t (0,0))) (o m:ByteArray) (n:Int) (a:Option Addr) (l c:Nat) :
 (jK W B o m n a l c).heap[B]? = some (.cells #[.string o,.string m,.int .i64 n,.slice a l c] t (0,0)):=aV h (.string o) (.string m) (.int .i64 n) (.slice a l c)
theorem nY {ts:List Tk} {rb:Nat} {a:Option Addr} {c:Nat} {s:RS} {W:World} (h:PW ts rb a c s W) (_:s.bad=0) {q:Nat} (hq:q<=ts.length):PW ts rb a c ⟨q,s.cnt,s.bad,s.whr⟩ (W.setCell ⟨rb,1,none⟩ (.int .i64 (q:Nat))) :=
 h.set ⟨fun _=>hq,by show q<=_;omega,h.f.2.2⟩ rfl
theorem Jf (ts:List Tk) (rb:Nat) (a:Option Addr) (c:Nat) (s:RS) (w:World) (h:PW ts rb a c s w) (hb:s.bad=0) {t:TN} {q:Nat} (ho:ofL ts s.pos=.ok t q) :
 Calls Tryz.prog 91 #[.pointer (some ⟨rb,0,none⟩)] w (PE ts rb a c (a8 ts s) w):=by
 have F:a8 ts s=(t,⟨q,s.cnt,s.bad,s.whr⟩):=by unfold a8;rw [if_pos hb,ho,hb]
 rw [F];have hq:=(oX (h.f.1 hb)).1 t q ho;have HB0:=aA hb;have g1:((s.bad:Int) != 0)=false:=by rw [hb];rfl
 have hrb:=h.r.lt;have B1:=(Below.refl w.heap.size w).alloc (Nat.le_refl _) (ndO ⟨#[]⟩ ⟨#[]⟩ 0 none 0 0);have NB:=heap_alloc_new w (ndO ⟨#[]⟩ ⟨#[]⟩ 0 none 0 0);have hs0:(w.alloc (ndO ⟨#[]⟩ ⟨#[]⟩ 0 none 0 0)).heap.size=w.heap.size+1:=World.size_alloc _ _;have H1:=h.below B1;generalize hW:w.alloc (ndO ⟨#[]⟩ ⟨#[]⟩ 0 none 0 0)=W at *;have B2:=(Below.refl W.heap.size W).alloc (Nat.le_refl _) (ndO ⟨#[]⟩ ⟨#[]⟩ 0 none 0 0);have NC:=heap_alloc_new W (ndO ⟨#[]⟩ ⟨#[]⟩ 0 none 0 0);have ND:=(B2.block w.heap.size (by omega)).trans NB;have hs1:(W.alloc (ndO ⟨#[]⟩ ⟨#[]⟩ 0 none 0 0)).heap.size=W.heap.size+1:=World.size_alloc _ _;have H2:=H1.below B2;have BB:Below w.heap.size w (W.alloc (ndO ⟨#[]⟩ ⟨#[]⟩ 0 none 0 0)):=B1.trans (B2.mono (by omega));have CO:=fun V hV=>CR ts a c s.pos h.f.2.2.2 (h.f.1 hb) V hV
 rw [ho] at CO;have C1:=aA (CO W.drew (H1.below (⟨rfl,rfl,rfl,Nat.le_refl _,fun _ _=>rfl⟩:Below W.heap.size W W.drew)).reads);have C2:=aA (CO (W.alloc (ndO ⟨#[]⟩ ⟨#[]⟩ 0 none 0 0)).drew (H2.below (⟨rfl,rfl,rfl,Nat.le_refl _,fun _ _=>rfl⟩:Below _ (W.alloc (ndO ⟨#[]⟩ ⟨#[]⟩ 0 none 0 0)) (W.alloc (ndO ⟨#[]⟩ ⟨#[]⟩ 0 none 0 0)).drew)).reads);have H:=aA H1;have G:=aA H2;have N0:=aA NB;have N1:=aA NC;have N2:=aA ND;have BV:=aA B1;have BW:=aA BB;have hpos:=h.f.2.1;have hnn:=h.f.2.2.2;have HW:=aA hW;have HS0:=aA hs0;have HS1:=aA hs1;obtain ⟨⟨c0,c1,c2,c3,c4⟩,f1,f2,f3,f4⟩:=H1.r.cells;have d0:=H2.r.cells.1.1;have d1:=H2.r.cells.1.2.1;clear h hb F H1 H2 NB NC ND B1 B2 BB ho hW hs0 hs1 CO;go_enter Tryz.func91,Tryz.ntmps91
 go_upto_region 1 with fail
 rw [HW.out];go_wp2_with fail
 go_region_law (first
  | (go_simp
     go_at_call 138
     refine C1.out.mono ?_;rintro e w2 ⟨hb2,ad,cc,rfl,hr⟩;have hb3:Below W.heap.size W w2:=⟨hb2.os,hb2.tape,hb2.output,hb2.size,hb2.block⟩;have H3:=aA (H.out.below hb3);have hz3:=hb3.size;have hzz:=HS0.out;have M0:=aA ((hb3.block w.heap.size (by omega)).trans N0.out);have B3:=aA (BV.out.trans (hb3.mono (by omega)));have ZZ:=aA hz3;have R3:=aA (show a7 W.heap.size w2 ad t.ks from hr);clear hb2 hb3 hr hz3 hzz)
  | (go_simp
     go_at_call 138
     refine C2.out.mono ?_;rintro e w2 ⟨hb2,ad,cc,rfl,hr⟩;have hb3:Below (W.alloc (ndO ⟨#[]⟩ ⟨#[]⟩ 0 none 0 0)).heap.size (W.alloc (ndO ⟨#[]⟩ ⟨#[]⟩ 0 none 0 0)) w2:=⟨hb2.os,hb2.tape,hb2.output,hb2.size,hb2.block⟩;have H3:=aA (G.out.below hb3);have hz3:=hb3.size;have hzz:=HS0.out;have hzy:=HS1.out;have M1:=aA ((hb3.block W.heap.size (by omega)).trans N1.out);have M0:=aA ((hb3.block w.heap.size (by omega)).trans N2.out);have B3:=aA (BW.out.trans (hb3.mono (by omega)));have ZZ:=aA hz3;obtain ⟨⟨n0,n1,n2,n3⟩,z0,z1,z2,z3⟩:=aK M1.out;have R3:=aA (show a7 (W.alloc (ndO ⟨#[]⟩ ⟨#[]⟩ 0 none 0 0)).heap.size w2 ad t.ks from hr);clear hb2 hb3 hr hz3 hzz hzy)
  | fail)
 all_goals first
  | (skip
     have BA:=(Below.refl w2.heap.size w2).alloc (Nat.le_refl _) (ndO t.op t.nm t.n ad t.ks.len cc);have K3:=aA (H3.out.below BA);have B4:=aA (show Below w.heap.size w (w2.alloc (ndO t.op t.nm t.n ad t.ks.len cc)) from B3.out.alloc (by have:=ZZ.out;have:=HS0.out;omega) _);have N4:=aA (heap_alloc_new w2 (ndO t.op t.nm t.n ad t.ks.len cc));have M4:=aA ((BA.block w.heap.size (by have:=ZZ.out;have:=HS0.out;omega)).trans M0.out);have R4:=aA ((R3.out.kept BA).mono (show w.heap.size+1<=W.heap.size by have:=HS0.out;omega));have hzw:w.heap.size+1<=(w2.alloc (ndO t.op t.nm t.n ad t.ks.len cc)).heap.size:=by rw [World.size_alloc];have:=ZZ.out;have:=HS0.out;omega
     have ZX:=aA hzw;clear BA hzw;generalize hX:w2.alloc (ndO t.op t.nm t.n ad t.ks.len cc)=X at K3 B4 N4 M4 ZX R4;generalize hBX:w2.heap.size=BX at N4;have HX:=aA hX;have HBX:=aA hBX;have LX:=aA (show w.heap.size<BX by have:=ZZ.out;have:=HS0.out;omega);clear hX hBX C1 C2 c0 c1 c2 c3 c4 f1 f2 f3 f4 d0 d1;go_upto_region 4 with fail
     obtain ⟨⟨c0,c1,c2,c3,c4⟩,f1,f2,f3,f4⟩:=K3.out.r.cells;have K5:=aA (nY K3.out HB0.out hq);have KS:=aA ((aE.refl (· = rb) X).setCell (p:=⟨rb,1,none⟩) (.inl rfl) (.int .i64 (q:Nat)));have N5:=aA (KS.out.heap N4.out (by have:=LX.out;omega));have M5:=aA (KS.out.heap M4.out (by omega));have R5:=aA (R4.out.keptS KS.out (fun k hk=>by omega));obtain ⟨⟨n0,n1,n2,n3⟩, -⟩:=aK N5.out;obtain ⟨⟨r0,r1,r2,r3⟩,z0,z1,z2,z3⟩:=aK M5.out;go_wp2_with fail
     have hk6:aE (· = rb) w (X.setCell ⟨rb,1,none⟩ (.int .i64 (q:Nat))):=i7 B4.out KS.out ZX.out;have P:=PE.put (q:=(t,⟨q,s.cnt,s.bad,s.whr⟩)) (cc:=cc) hrb K5.out hk6 R5.out;obtain ⟨⟨y0,y1,y2,y3⟩, -⟩:=aK (aV M5.out (.string t.op) (.string t.nm) (.int .i64 t.n) (.slice ad t.ks.len cc));exact bodyPost_ret (v:=bB t.op t.nm t.n ad t.ks.len cc) (by simp [results,Tryz.results91,go_sem,y0,y1,y2,y3]) rfl P)
  | (skip
     have KP:=dV w2 W.heap.size t.op t.nm t.n ad t.ks.len cc;have K3:=aA (H3.out.other KP (by have:=HS0.out;omega));have B4:=aA (B3.out.trans (KP.below (B:=w.heap.size) (fun b hb=>by have:=HS0.out;omega) (by have:=ZZ.out;have:=HS1.out;have:=HS0.out;omega)));have N4:=aA (tV M1.out t.op t.nm t.n ad t.ks.len cc);have M4:=aA (KP.heap M0.out (by have:=HS0.out;omega));have R4:=aA ((R3.out.keptS KP (fun k hk=>by have:=HS1.out;omega)).mono (show w.heap.size+1<=_ by have:=HS0.out;have:=HS1.out;omega));have hzw:w.heap.size+1<=(jK w2 W.heap.size t.op t.nm t.n ad t.ks.len cc).heap.size:=by have:=KP.size;have:=ZZ.out;have:=HS1.out;have:=HS0.out;omega
     have ZX:=aA hzw;clear KP hzw;obtain ⟨X,hX⟩:∃ X,jK w2 W.heap.size t.op t.nm t.n ad t.ks.len cc=X:=⟨_,rfl⟩;rw [hX] at K3 B4 N4 M4 ZX R4;have hX2:(((w2.setCell ⟨W.heap.size,0,none⟩ (.string t.op)).setCell ⟨W.heap.size,1,none⟩ (.string t.nm)).setCell ⟨W.heap.size,2,none⟩ (.int .i64 t.n)).setCell ⟨W.heap.size,3,none⟩ (.slice ad t.ks.len cc)=X:=hX;have LX:=aA (show w.heap.size<W.heap.size by have:=HS0.out;omega);rw [hX2];clear hX hX2 C1 C2 c0 c1 c2 c3 c4 f1 f2 f3 f4 d0 d1 n0 n1 n2 n3 z0 z1 z2 z3;go_upto_region 4 with fail
     obtain ⟨⟨c0,c1,c2,c3,c4⟩,f1,f2,f3,f4⟩:=K3.out.r.cells;have K5:=aA (nY K3.out HB0.out hq);have KS:=aA ((aE.refl (· = rb) X).setCell (p:=⟨rb,1,none⟩) (.inl rfl) (.int .i64 (q:Nat)));have N5:=aA (KS.out.heap N4.out (by have:=LX.out;omega));have M5:=aA (KS.out.heap M4.out (by omega));have R5:=aA (R4.out.keptS KS.out (fun k hk=>by omega));obtain ⟨⟨n0,n1,n2,n3⟩, -⟩:=aK N5.out;obtain ⟨⟨r0,r1,r2,r3⟩,z0,z1,z2,z3⟩:=aK M5.out;go_wp2_with fail
     have hk6:aE (· = rb) w (X.setCell ⟨rb,1,none⟩ (.int .i64 (q:Nat))):=i7 B4.out KS.out ZX.out;have P:=PE.put (q:=(t,⟨q,s.cnt,s.bad,s.whr⟩)) (cc:=cc) hrb K5.out hk6 R5.out;obtain ⟨⟨y0,y1,y2,y3⟩, -⟩:=aK (aV M5.out (.string t.op) (.string t.nm) (.int .i64 t.n) (.slice ad t.ks.len cc));exact bodyPost_ret (v:=bB t.op t.nm t.n ad t.ks.len cc) (by simp [results,Tryz.results91,go_sem,y0,y1,y2,y3]) rfl P)
theorem G1 (ts:List Tk) (rb:Nat) (a:Option Addr) (c:Nat) (s:RS) (w:World) (h:PW ts rb a c s w) (hb:s.bad=0) {er:Int} {q:Nat} (ho:ofL ts s.pos=.bad q er) :
 Calls Tryz.prog 91 #[.pointer (some ⟨rb,0,none⟩)] w (PE ts rb a c (a8 ts s) w):=by
 have F:a8 ts s=(aD,⟨q,s.cnt,er,q⟩):=by unfold a8;rw [if_pos hb,ho]
 rw [F];obtain ⟨hq,hne⟩:=(oX (h.f.1 hb)).2 q er ho;have HB0:=aA hb;have HE:=aA hne;have HF2:=aA (show aR er ⟨q,s.cnt,s.bad,s.whr⟩=⟨q,s.cnt,er,q⟩ by unfold aR;rw [if_pos hb]);have e1:((er:Int) == 0)=false:=by simpa using hne
 have e2:((er:Int) != 0)=true:=by simpa using hne
 clear hne;have g1:((s.bad:Int) != 0)=false:=by rw [hb];rfl
 have hrb:=h.r.lt;have B1:=(Below.refl w.heap.size w).alloc (Nat.le_refl _) (ndO ⟨#[]⟩ ⟨#[]⟩ 0 none 0 0);have NB:=heap_alloc_new w (ndO ⟨#[]⟩ ⟨#[]⟩ 0 none 0 0);have hs0:(w.alloc (ndO ⟨#[]⟩ ⟨#[]⟩ 0 none 0 0)).heap.size=w.heap.size+1:=World.size_alloc _ _;have H1:=h.below B1;generalize hW:w.alloc (ndO ⟨#[]⟩ ⟨#[]⟩ 0 none 0 0)=W at *;have B2:=(Below.refl W.heap.size W).alloc (Nat.le_refl _) (ndO ⟨#[]⟩ ⟨#[]⟩ 0 none 0 0);have NC:=heap_alloc_new W (ndO ⟨#[]⟩ ⟨#[]⟩ 0 none 0 0);have ND:=(B2.block w.heap.size (by omega)).trans NB;have hs1:(W.alloc (ndO ⟨#[]⟩ ⟨#[]⟩ 0 none 0 0)).heap.size=W.heap.size+1:=World.size_alloc _ _;have H2:=H1.below B2;have BB:Below w.heap.size w (W.alloc (ndO ⟨#[]⟩ ⟨#[]⟩ 0 none 0 0)):=B1.trans (B2.mono (by omega));have CO:=fun V hV=>CR ts a c s.pos h.f.2.2.2 (h.f.1 hb) V hV
 rw [ho] at CO;have C1:=aA (CO W.drew (H1.below (⟨rfl,rfl,rfl,Nat.le_refl _,fun _ _=>rfl⟩:Below W.heap.size W W.drew)).reads);have C2:=aA (CO (W.alloc (ndO ⟨#[]⟩ ⟨#[]⟩ 0 none 0 0)).drew (H2.below (⟨rfl,rfl,rfl,Nat.le_refl _,fun _ _=>rfl⟩:Below _ (W.alloc (ndO ⟨#[]⟩ ⟨#[]⟩ 0 none 0 0)) (W.alloc (ndO ⟨#[]⟩ ⟨#[]⟩ 0 none 0 0)).drew)).reads);have H:=aA H1;have G:=aA H2;have N0:=aA NB;have N1:=aA NC;have N2:=aA ND;have BV:=aA B1;have BW:=aA BB;have hpos:=h.f.2.1;have hnn:=h.f.2.2.2;have HW:=aA hW;have HS0:=aA hs0;have HS1:=aA hs1;obtain ⟨⟨c0,c1,c2,c3,c4⟩,f1,f2,f3,f4⟩:=H1.r.cells;have d0:=H2.r.cells.1.1;have d1:=H2.r.cells.1.2.1;clear h hb F H1 H2 NB NC ND B1 B2 BB ho hW hs0 hs1 CO;go_enter Tryz.func91,Tryz.ntmps91
 go_upto_region 1 with fail
 rw [HW.out];go_wp2_with fail
 go_region_law (first
  | (go_simp
     go_at_call 138
     refine C1.out.mono ?_;rintro e w2 ⟨hb2,rfl⟩;have hb3:Below W.heap.size W w2:=⟨hb2.os,hb2.tape,hb2.output,hb2.size,hb2.block⟩;have H3:=aA (H.out.below hb3);have hz3:=hb3.size;have hzz:=HS0.out;have M0:=aA ((hb3.block w.heap.size (by omega)).trans N0.out);have B3:=aA (BV.out.trans (hb3.mono (by omega)));have ZZ:=aA hz3;clear hb2 hb3 hz3 hzz)
  | (go_simp
     go_at_call 138
     refine C2.out.mono ?_;rintro e w2 ⟨hb2,rfl⟩;have hb3:Below (W.alloc (ndO ⟨#[]⟩ ⟨#[]⟩ 0 none 0 0)).heap.size (W.alloc (ndO ⟨#[]⟩ ⟨#[]⟩ 0 none 0 0)) w2:=⟨hb2.os,hb2.tape,hb2.output,hb2.size,hb2.block⟩;have H3:=aA (G.out.below hb3);have hz3:=hb3.size;have hzz:=HS0.out;have hzy:=HS1.out;have M1:=aA ((hb3.block W.heap.size (by omega)).trans N1.out);have M0:=aA ((hb3.block w.heap.size (by omega)).trans N2.out);have B3:=aA (BW.out.trans (hb3.mono (by omega)));have ZZ:=aA hz3;obtain ⟨⟨n0,n1,n2,n3⟩,z0,z1,z2,z3⟩:=aK M1.out;clear hb2 hb3 hz3 hzz hzy)
  | fail)
 all_goals first
  | (skip
     have BA:=(Below.refl w2.heap.size w2).alloc (Nat.le_refl _) (ndO ⟨#[]⟩ ⟨#[]⟩ 0 none 0 0);have K3:=aA (H3.out.below BA);have B4:=aA (show Below w.heap.size w (w2.alloc (ndO ⟨#[]⟩ ⟨#[]⟩ 0 none 0 0)) from B3.out.alloc (by have:=ZZ.out;have:=HS0.out;omega) _);have N4:=aA (heap_alloc_new w2 (ndO ⟨#[]⟩ ⟨#[]⟩ 0 none 0 0));have M4:=aA ((BA.block w.heap.size (by have:=ZZ.out;have:=HS0.out;omega)).trans M0.out);have hzw:w.heap.size+1<=(w2.alloc (ndO ⟨#[]⟩ ⟨#[]⟩ 0 none 0 0)).heap.size:=by rw [World.size_alloc];have:=ZZ.out;have:=HS0.out;omega
     have ZX:=aA hzw;clear BA hzw;generalize hX:w2.alloc (ndO ⟨#[]⟩ ⟨#[]⟩ 0 none 0 0)=X at K3 B4 N4 M4 ZX;generalize hBX:w2.heap.size=BX at N4;have HX:=aA hX;have HBX:=aA hBX;have LX:=aA (show w.heap.size<BX by have:=ZZ.out;have:=HS0.out;omega);clear hX hBX C1 C2 c0 c1 c2 c3 c4 f1 f2 f3 f4 d0 d1;go_upto_region 4 with fail
     obtain ⟨⟨c0,c1,c2,c3,c4⟩,f1,f2,f3,f4⟩:=K3.out.r.cells;have K5:=aA (nY K3.out HB0.out hq);have KS:=aA ((aE.refl (· = rb) X).setCell (p:=⟨rb,1,none⟩) (.inl rfl) (.int .i64 (q:Nat)));have N5:=aA (KS.out.heap N4.out (by have:=LX.out;omega));have M5:=aA (KS.out.heap M4.out (by omega));have FA:=aA (cZ ts rb a c ⟨q,s.cnt,s.bad,s.whr⟩ er HE.out _ K5.out);rw [HF2.out] at FA;go_wp2_with fail
     refine FA.out.mono ?_;rintro e w6 ⟨rfl,h6,hk6⟩;have H6:=aA h6;have hk7:aE (· = rb) w w6:=(i7 B4.out KS.out ZX.out).trans hk6 (fun i hi _=>hi);have K7:=aA hk7;have N6:=hk6.heap N5.out (by have:=LX.out;omega);have M6:=aA (hk6.heap M5.out (by omega));clear h6 hk6 hk7 FA;obtain ⟨⟨n0,n1,n2,n3⟩, -⟩:=aK N6;obtain ⟨⟨r0,r1,r2,r3⟩,z0,z1,z2,z3⟩:=aK M6.out;clear c0 c1 c2 c3 c4 f1 f2 f3 f4 N6;go_wp2_with fail
     have P:=PE.put (q:=(aD,⟨q,s.cnt,er,q⟩)) (ad:=none) (cc:=0) hrb H6.out K7.out (.inl rfl);obtain ⟨⟨y0,y1,y2,y3⟩, -⟩:=aK (aV M6.out (.string ⟨#[]⟩) (.string ⟨#[]⟩) (.int .i64 0) (.slice none 0 0));exact bodyPost_ret (v:=bB ⟨#[]⟩ ⟨#[]⟩ 0 none 0 0) (by simp [results,Tryz.results91,go_sem,y0,y1,y2,y3]) rfl P)
  | (skip
     have KP:=dV w2 W.heap.size ⟨#[]⟩ ⟨#[]⟩ 0 none 0 0;have K3:=aA (H3.out.other KP (by have:=HS0.out;omega));have B4:=aA (B3.out.trans (KP.below (B:=w.heap.size) (fun b hb=>by have:=HS0.out;omega) (by have:=ZZ.out;have:=HS1.out;have:=HS0.out;omega)));have N4:=aA (tV M1.out ⟨#[]⟩ ⟨#[]⟩ 0 none 0 0);have M4:=aA (KP.heap M0.out (by have:=HS0.out;omega));have hzw:w.heap.size+1<=(jK w2 W.heap.size ⟨#[]⟩ ⟨#[]⟩ 0 none 0 0).heap.size:=by have:=KP.size;have:=ZZ.out;have:=HS1.out;have:=HS0.out;omega
     have ZX:=aA hzw;clear KP hzw;obtain ⟨X,hX⟩:∃ X,jK w2 W.heap.size ⟨#[]⟩ ⟨#[]⟩ 0 none 0 0=X:=⟨_,rfl⟩;rw [hX] at K3 B4 N4 M4 ZX;have hX2:(((w2.setCell ⟨W.heap.size,0,none⟩ (.string ⟨#[]⟩)).setCell ⟨W.heap.size,1,none⟩ (.string ⟨#[]⟩)).setCell ⟨W.heap.size,2,none⟩ (.int .i64 0)).setCell ⟨W.heap.size,3,none⟩ (.slice none 0 0)=X:=hX;have LX:=aA (show w.heap.size<W.heap.size by have:=HS0.out;omega);rw [hX2];clear hX hX2 C1 C2 c0 c1 c2 c3 c4 f1 f2 f3 f4 d0 d1 n0 n1 n2 n3 z0 z1 z2 z3;go_upto_region 4 with fail
     obtain ⟨⟨c0,c1,c2,c3,c4⟩,f1,f2,f3,f4⟩:=K3.out.r.cells;have K5:=aA (nY K3.out HB0.out hq);have KS:=aA ((aE.refl (· = rb) X).setCell (p:=⟨rb,1,none⟩) (.inl rfl) (.int .i64 (q:Nat)));have N5:=aA (KS.out.heap N4.out (by have:=LX.out;omega));have M5:=aA (KS.out.heap M4.out (by omega));have FA:=aA (cZ ts rb a c ⟨q,s.cnt,s.bad,s.whr⟩ er HE.out _ K5.out);rw [HF2.out] at FA;go_wp2_with fail
     refine FA.out.mono ?_;rintro e w6 ⟨rfl,h6,hk6⟩;have H6:=aA h6;have hk7:aE (· = rb) w w6:=(i7 B4.out KS.out ZX.out).trans hk6 (fun i hi _=>hi);have K7:=aA hk7;have N6:=hk6.heap N5.out (by have:=LX.out;omega);have M6:=aA (hk6.heap M5.out (by omega));clear h6 hk6 hk7 FA;obtain ⟨⟨n0,n1,n2,n3⟩, -⟩:=aK N6;obtain ⟨⟨r0,r1,r2,r3⟩,z0,z1,z2,z3⟩:=aK M6.out;clear c0 c1 c2 c3 c4 f1 f2 f3 f4 N6;go_wp2_with fail
     have P:=PE.put (q:=(aD,⟨q,s.cnt,er,q⟩)) (ad:=none) (cc:=0) hrb H6.out K7.out (.inl rfl);obtain ⟨⟨y0,y1,y2,y3⟩, -⟩:=aK (aV M6.out (.string ⟨#[]⟩) (.string ⟨#[]⟩) (.int .i64 0) (.slice none 0 0));exact bodyPost_ret (v:=bB ⟨#[]⟩ ⟨#[]⟩ 0 none 0 0) (by simp [results,Tryz.results91,go_sem,y0,y1,y2,y3]) rfl P)
theorem fA (ts:List Tk) (rb:Nat) (a:Option Addr) (c:Nat) (s:RS) (w:World) (h:PW ts rb a c s w):Calls Tryz.prog 91 #[.pointer (some ⟨rb,0,none⟩)] w (PE ts rb a c (a8 ts s) w):=by
 by_cases hb:s.bad=0
 · cases ho:ofL ts s.pos with
   | ok t q=>exact Jf ts rb a c s w h hb ho
   | bad q er=>exact G1 ts rb a c s w h hb ho
 · exact ER ts rb a c s w h hb
def aN:AG:=⟨⟨#[]⟩,0,aD,aD,[]⟩
def aI:PA:=⟨none,0,none,0,none,0⟩
abbrev dX (W:World) (B:Nat) (x:AG) (p:PA):World:=((((((((((W.setCell ⟨B,0,none⟩ (.string x.fn)).setCell ⟨B,1,none⟩ (.int .i64 x.k)).setCell ⟨B,2,none⟩ (.string x.e.op)).setCell ⟨B,3,none⟩ (.string x.e.nm)).setCell ⟨B,4,none⟩ (.int .i64 x.e.n)).setCell ⟨B,5,none⟩ (.slice p.ea x.e.ks.len p.ec)).setCell ⟨B,6,none⟩ (.string x.g.op)).setCell ⟨B,7,none⟩ (.string x.g.nm)).setCell ⟨B,8,none⟩ (.int .i64 x.g.n)).setCell ⟨B,9,none⟩ (.slice p.ga x.g.ks.len p.gc)).setCell ⟨B,10,none⟩ (.slice p.wa x.wh.length p.wc)
theorem bH (W:World) (B:Nat) (x:AG) (p:PA):aE (· = B) W (dX W B x p) :=
 ((((((((((((aE.refl (· = B) W).setCell (p:=⟨B,0,none⟩) (.inl rfl) _).setCell (p:=⟨B,1,none⟩) (.inl rfl) _).setCell (p:=⟨B,2,none⟩) (.inl rfl) _).setCell (p:=⟨B,3,none⟩) (.inl rfl) _).setCell (p:=⟨B,4,none⟩) (.inl rfl) _).setCell (p:=⟨B,5,none⟩) (.inl rfl) _).setCell (p:=⟨B,6,none⟩) (.inl rfl) _).setCell (p:=⟨B,7,none⟩) (.inl rfl) _).setCell (p:=⟨B,8,none⟩) (.inl rfl) _).setCell (p:=⟨B,9,none⟩) (.inl rfl) _).setCell (p:=⟨B,10,none⟩) (.inl rfl) _)
theorem cB {W:World} {B:Nat} {u0 u1 u2 u3 u4 u5 u6 u7 u8 u9 u10:Value} {t:TypeId} (h:W.heap[B]? = some (.cells #[u0,u1,u2,u3,u4,u5,u6,u7,u8,u9,u10] t (0,0))) (x:AG) (p:PA):(dX W B x p).heap[B]? = some (.cells (agC x p) t (0,0)):=by
 have h0:=heap_setCell_same (W) B 0 _ t (.string x.fn) h;have g0:((W).setCell ⟨B,0,none⟩ (.string x.fn)).heap[B]? = some (.cells #[.string x.fn,u1,u2,u3,u4,u5,u6,u7,u8,u9,u10] t (0,0)):=by simpa using h0
 have h1:=heap_setCell_same ((W).setCell ⟨B,0,none⟩ (.string x.fn)) B 1 _ t (.int .i64 x.k) g0;have g1:(((W).setCell ⟨B,0,none⟩ (.string x.fn)).setCell ⟨B,1,none⟩ (.int .i64 x.k)).heap[B]? = some (.cells #[.string x.fn,.int .i64 x.k,u2,u3,u4,u5,u6,u7,u8,u9,u10] t (0,0)):=by simpa using h1
 have h2:=heap_setCell_same (((W).setCell ⟨B,0,none⟩ (.string x.fn)).setCell ⟨B,1,none⟩ (.int .i64 x.k)) B 2 _ t (.string x.e.op) g1;have g2:((((W).setCell ⟨B,0,none⟩ (.string x.fn)).setCell ⟨B,1,none⟩ (.int .i64 x.k)).setCell ⟨B,2,none⟩ (.string x.e.op)).heap[B]? = some (.cells #[.string x.fn,.int .i64 x.k,.string x.e.op,u3,u4,u5,u6,u7,u8,u9,u10] t (0,0)):=by simpa using h2
 have h3:=heap_setCell_same ((((W).setCell ⟨B,0,none⟩ (.string x.fn)).setCell ⟨B,1,none⟩ (.int .i64 x.k)).setCell ⟨B,2,none⟩ (.string x.e.op)) B 3 _ t (.string x.e.nm) g2;have g3:(((((W).setCell ⟨B,0,none⟩ (.string x.fn)).setCell ⟨B,1,none⟩ (.int .i64 x.k)).setCell ⟨B,2,none⟩ (.string x.e.op)).setCell ⟨B,3,none⟩ (.string x.e.nm)).heap[B]? = some (.cells #[.string x.fn,.int .i64 x.k,.string x.e.op,.string x.e.nm,u4,u5,u6,u7,u8,u9,u10] t (0,0)):=by simpa using h3
 have h4:=heap_setCell_same (((((W).setCell ⟨B,0,none⟩ (.string x.fn)).setCell ⟨B,1,none⟩ (.int .i64 x.k)).setCell ⟨B,2,none⟩ (.string x.e.op)).setCell ⟨B,3,none⟩ (.string x.e.nm)) B 4 _ t (.int .i64 x.e.n) g3;have g4:((((((W).setCell ⟨B,0,none⟩ (.string x.fn)).setCell ⟨B,1,none⟩ (.int .i64 x.k)).setCell ⟨B,2,none⟩ (.string x.e.op)).setCell ⟨B,3,none⟩ (.string x.e.nm)).setCell ⟨B,4,none⟩ (.int .i64 x.e.n)).heap[B]? = some (.cells #[.string x.fn,.int .i64 x.k,.string x.e.op,.string x.e.nm,.int .i64 x.e.n,u5,u6,u7,u8,u9,u10] t (0,0)):=by simpa using h4
 have h5:=heap_setCell_same ((((((W).setCell ⟨B,0,none⟩ (.string x.fn)).setCell ⟨B,1,none⟩ (.int .i64 x.k)).setCell ⟨B,2,none⟩ (.string x.e.op)).setCell ⟨B,3,none⟩ (.string x.e.nm)).setCell ⟨B,4,none⟩ (.int .i64 x.e.n)) B 5 _ t (.slice p.ea x.e.ks.len p.ec) g4;have g5:(((((((W).setCell ⟨B,0,none⟩ (.string x.fn)).setCell ⟨B,1,none⟩ (.int .i64 x.k)).setCell ⟨B,2,none⟩ (.string x.e.op)).setCell ⟨B,3,none⟩ (.string x.e.nm)).setCell ⟨B,4,none⟩ (.int .i64 x.e.n)).setCell ⟨B,5,none⟩ (.slice p.ea x.e.ks.len p.ec)).heap[B]? = some (.cells #[.string x.fn,.int .i64 x.k,.string x.e.op,.string x.e.nm,.int .i64 x.e.n,.slice p.ea x.e.ks.len p.ec,u6,u7,u8,u9,u10] t (0,0)):=by simpa using h5
 have h6:=heap_setCell_same (((((((W).setCell ⟨B,0,none⟩ (.string x.fn)).setCell ⟨B,1,none⟩ (.int .i64 x.k)).setCell ⟨B,2,none⟩ (.string x.e.op)).setCell ⟨B,3,none⟩ (.string x.e.nm)).setCell ⟨B,4,none⟩ (.int .i64 x.e.n)).setCell ⟨B,5,none⟩ (.slice p.ea x.e.ks.len p.ec)) B 6 _ t (.string x.g.op) g5;have g6:((((((((W).setCell ⟨B,0,none⟩ (.string x.fn)).setCell ⟨B,1,none⟩ (.int .i64 x.k)).setCell ⟨B,2,none⟩ (.string x.e.op)).setCell ⟨B,3,none⟩ (.string x.e.nm)).setCell ⟨B,4,none⟩ (.int .i64 x.e.n)).setCell ⟨B,5,none⟩ (.slice p.ea x.e.ks.len p.ec)).setCell ⟨B,6,none⟩ (.string x.g.op)).heap[B]? = some (.cells #[.string x.fn,.int .i64 x.k,.string x.e.op,.string x.e.nm,.int .i64 x.e.n,.slice p.ea x.e.ks.len p.ec,.string x.g.op,u7,u8,u9,u10] t (0,0)):=by simpa using h6
 have h7:=heap_setCell_same ((((((((W).setCell ⟨B,0,none⟩ (.string x.fn)).setCell ⟨B,1,none⟩ (.int .i64 x.k)).setCell ⟨B,2,none⟩ (.string x.e.op)).setCell ⟨B,3,none⟩ (.string x.e.nm)).setCell ⟨B,4,none⟩ (.int .i64 x.e.n)).setCell ⟨B,5,none⟩ (.slice p.ea x.e.ks.len p.ec)).setCell ⟨B,6,none⟩ (.string x.g.op)) B 7 _ t (.string x.g.nm) g6;have g7:(((((((((W).setCell ⟨B,0,none⟩ (.string x.fn)).setCell ⟨B,1,none⟩ (.int .i64 x.k)).setCell ⟨B,2,none⟩ (.string x.e.op)).setCell ⟨B,3,none⟩ (.string x.e.nm)).setCell ⟨B,4,none⟩ (.int .i64 x.e.n)).setCell ⟨B,5,none⟩ (.slice p.ea x.e.ks.len p.ec)).setCell ⟨B,6,none⟩ (.string x.g.op)).setCell ⟨B,7,none⟩ (.string x.g.nm)).heap[B]? = some (.cells #[.string x.fn,.int .i64 x.k,.string x.e.op,.string x.e.nm,.int .i64 x.e.n,.slice p.ea x.e.ks.len p.ec,.string x.g.op,.string x.g.nm,u8,u9,u10] t (0,0)):=by simpa using h7
 have h8:=heap_setCell_same (((((((((W).setCell ⟨B,0,none⟩ (.string x.fn)).setCell ⟨B,1,none⟩ (.int .i64 x.k)).setCell ⟨B,2,none⟩ (.string x.e.op)).setCell ⟨B,3,none⟩ (.string x.e.nm)).setCell ⟨B,4,none⟩ (.int .i64 x.e.n)).setCell ⟨B,5,none⟩ (.slice p.ea x.e.ks.len p.ec)).setCell ⟨B,6,none⟩ (.string x.g.op)).setCell ⟨B,7,none⟩ (.string x.g.nm)) B 8 _ t (.int .i64 x.g.n) g7;have g8:((((((((((W).setCell ⟨B,0,none⟩ (.string x.fn)).setCell ⟨B,1,none⟩ (.int .i64 x.k)).setCell ⟨B,2,none⟩ (.string x.e.op)).setCell ⟨B,3,none⟩ (.string x.e.nm)).setCell ⟨B,4,none⟩ (.int .i64 x.e.n)).setCell ⟨B,5,none⟩ (.slice p.ea x.e.ks.len p.ec)).setCell ⟨B,6,none⟩ (.string x.g.op)).setCell ⟨B,7,none⟩ (.string x.g.nm)).setCell ⟨B,8,none⟩ (.int .i64 x.g.n)).heap[B]? = some (.cells #[.string x.fn,.int .i64 x.k,.string x.e.op,.string x.e.nm,.int .i64 x.e.n,.slice p.ea x.e.ks.len p.ec,.string x.g.op,.string x.g.nm,.int .i64 x.g.n,u9,u10] t (0,0)):=by simpa using h8
 have h9:=heap_setCell_same ((((((((((W).setCell ⟨B,0,none⟩ (.string x.fn)).setCell ⟨B,1,none⟩ (.int .i64 x.k)).setCell ⟨B,2,none⟩ (.string x.e.op)).setCell ⟨B,3,none⟩ (.string x.e.nm)).setCell ⟨B,4,none⟩ (.int .i64 x.e.n)).setCell ⟨B,5,none⟩ (.slice p.ea x.e.ks.len p.ec)).setCell ⟨B,6,none⟩ (.string x.g.op)).setCell ⟨B,7,none⟩ (.string x.g.nm)).setCell ⟨B,8,none⟩ (.int .i64 x.g.n)) B 9 _ t (.slice p.ga x.g.ks.len p.gc) g8;have g9:(((((((((((W).setCell ⟨B,0,none⟩ (.string x.fn)).setCell ⟨B,1,none⟩ (.int .i64 x.k)).setCell ⟨B,2,none⟩ (.string x.e.op)).setCell ⟨B,3,none⟩ (.string x.e.nm)).setCell ⟨B,4,none⟩ (.int .i64 x.e.n)).setCell ⟨B,5,none⟩ (.slice p.ea x.e.ks.len p.ec)).setCell ⟨B,6,none⟩ (.string x.g.op)).setCell ⟨B,7,none⟩ (.string x.g.nm)).setCell ⟨B,8,none⟩ (.int .i64 x.g.n)).setCell ⟨B,9,none⟩ (.slice p.ga x.g.ks.len p.gc)).heap[B]? = some (.cells #[.string x.fn,.int .i64 x.k,.string x.e.op,.string x.e.nm,.int .i64 x.e.n,.slice p.ea x.e.ks.len p.ec,.string x.g.op,.string x.g.nm,.int .i64 x.g.n,.slice p.ga x.g.ks.len p.gc,u10] t (0,0)):=by simpa using h9
 have h10:=heap_setCell_same (((((((((((W).setCell ⟨B,0,none⟩ (.string x.fn)).setCell ⟨B,1,none⟩ (.int .i64 x.k)).setCell ⟨B,2,none⟩ (.string x.e.op)).setCell ⟨B,3,none⟩ (.string x.e.nm)).setCell ⟨B,4,none⟩ (.int .i64 x.e.n)).setCell ⟨B,5,none⟩ (.slice p.ea x.e.ks.len p.ec)).setCell ⟨B,6,none⟩ (.string x.g.op)).setCell ⟨B,7,none⟩ (.string x.g.nm)).setCell ⟨B,8,none⟩ (.int .i64 x.g.n)).setCell ⟨B,9,none⟩ (.slice p.ga x.g.ks.len p.gc)) B 10 _ t (.slice p.wa x.wh.length p.wc) g9;have g10:((((((((((((W).setCell ⟨B,0,none⟩ (.string x.fn)).setCell ⟨B,1,none⟩ (.int .i64 x.k)).setCell ⟨B,2,none⟩ (.string x.e.op)).setCell ⟨B,3,none⟩ (.string x.e.nm)).setCell ⟨B,4,none⟩ (.int .i64 x.e.n)).setCell ⟨B,5,none⟩ (.slice p.ea x.e.ks.len p.ec)).setCell ⟨B,6,none⟩ (.string x.g.op)).setCell ⟨B,7,none⟩ (.string x.g.nm)).setCell ⟨B,8,none⟩ (.int .i64 x.g.n)).setCell ⟨B,9,none⟩ (.slice p.ga x.g.ks.len p.gc)).setCell ⟨B,10,none⟩ (.slice p.wa x.wh.length p.wc)).heap[B]? = some (.cells #[.string x.fn,.int .i64 x.k,.string x.e.op,.string x.e.nm,.int .i64 x.e.n,.slice p.ea x.e.ks.len p.ec,.string x.g.op,.string x.g.nm,.int .i64 x.g.n,.slice p.ga x.g.ks.len p.gc,.slice p.wa x.wh.length p.wc] t (0,0)):=by simpa using h10
 exact g10
abbrev putE (W:World) (B:Nat) (t:TN) (ad:Option Addr) (cc:Nat):World:=(((W.setCell ⟨B,2,none⟩ (.string t.op)).setCell ⟨B,3,none⟩ (.string t.nm)).setCell ⟨B,4,none⟩ (.int .i64 t.n)).setCell ⟨B,5,none⟩ (.slice ad t.ks.len cc)
theorem fK (W:World) (B:Nat) (t:TN) (ad:Option Addr) (cc:Nat):aE (· = B) W (putE W B t ad cc) :=
 (((((aE.refl (· = B) W).setCell (p:=⟨B,2,none⟩) (.inl rfl) _).setCell (p:=⟨B,3,none⟩) (.inl rfl) _).setCell (p:=⟨B,4,none⟩) (.inl rfl) _).setCell (p:=⟨B,5,none⟩) (.inl rfl) _)
theorem gR {W:World} {B:Nat} {x:AG} {p:PA} (h:W.heap[B]? = some (agO x p)) (t:TN) (ad:Option Addr) (cc:Nat):(putE W B t ad cc).heap[B]? = some (agO { x with e:=t } { p with ea:=ad,ec:=cc }):=by
 have h0:=heap_setCell_same (W) B 2 _ 37 (.string t.op) h;have g0:((W).setCell ⟨B,2,none⟩ (.string t.op)).heap[B]? = some (.cells #[.string x.fn,.int .i64 x.k,.string t.op,.string x.e.nm,.int .i64 x.e.n,.slice p.ea x.e.ks.len p.ec,.string x.g.op,.string x.g.nm,.int .i64 x.g.n,.slice p.ga x.g.ks.len p.gc,.slice p.wa x.wh.length p.wc] 37 (0,0)):=by simpa using h0
 have h1:=heap_setCell_same ((W).setCell ⟨B,2,none⟩ (.string t.op)) B 3 _ 37 (.string t.nm) g0;have g1:(((W).setCell ⟨B,2,none⟩ (.string t.op)).setCell ⟨B,3,none⟩ (.string t.nm)).heap[B]? = some (.cells #[.string x.fn,.int .i64 x.k,.string t.op,.string t.nm,.int .i64 x.e.n,.slice p.ea x.e.ks.len p.ec,.string x.g.op,.string x.g.nm,.int .i64 x.g.n,.slice p.ga x.g.ks.len p.gc,.slice p.wa x.wh.length p.wc] 37 (0,0)):=by simpa using h1
 have h2:=heap_setCell_same (((W).setCell ⟨B,2,none⟩ (.string t.op)).setCell ⟨B,3,none⟩ (.string t.nm)) B 4 _ 37 (.int .i64 t.n) g1;have g2:((((W).setCell ⟨B,2,none⟩ (.string t.op)).setCell ⟨B,3,none⟩ (.string t.nm)).setCell ⟨B,4,none⟩ (.int .i64 t.n)).heap[B]? = some (.cells #[.string x.fn,.int .i64 x.k,.string t.op,.string t.nm,.int .i64 t.n,.slice p.ea x.e.ks.len p.ec,.string x.g.op,.string x.g.nm,.int .i64 x.g.n,.slice p.ga x.g.ks.len p.gc,.slice p.wa x.wh.length p.wc] 37 (0,0)):=by simpa using h2
 have h3:=heap_setCell_same ((((W).setCell ⟨B,2,none⟩ (.string t.op)).setCell ⟨B,3,none⟩ (.string t.nm)).setCell ⟨B,4,none⟩ (.int .i64 t.n)) B 5 _ 37 (.slice ad t.ks.len cc) g2;have g3:(((((W).setCell ⟨B,2,none⟩ (.string t.op)).setCell ⟨B,3,none⟩ (.string t.nm)).setCell ⟨B,4,none⟩ (.int .i64 t.n)).setCell ⟨B,5,none⟩ (.slice ad t.ks.len cc)).heap[B]? = some (.cells #[.string x.fn,.int .i64 x.k,.string t.op,.string t.nm,.int .i64 t.n,.slice ad t.ks.len cc,.string x.g.op,.string x.g.nm,.int .i64 x.g.n,.slice p.ga x.g.ks.len p.gc,.slice p.wa x.wh.length p.wc] 37 (0,0)):=by simpa using h3
 exact g3
abbrev putG (W:World) (B:Nat) (t:TN) (ad:Option Addr) (cc:Nat):World:=(((W.setCell ⟨B,6,none⟩ (.string t.op)).setCell ⟨B,7,none⟩ (.string t.nm)).setCell ⟨B,8,none⟩ (.int .i64 t.n)).setCell ⟨B,9,none⟩ (.slice ad t.ks.len cc)
theorem vU (W:World) (B:Nat) (t:TN) (ad:Option Addr) (cc:Nat):aE (· = B) W (putG W B t ad cc) :=
 (((((aE.refl (· = B) W).setCell (p:=⟨B,6,none⟩) (.inl rfl) _).setCell (p:=⟨B,7,none⟩) (.inl rfl) _).setCell (p:=⟨B,8,none⟩) (.inl rfl) _).setCell (p:=⟨B,9,none⟩) (.inl rfl) _)
theorem Ey {W:World} {B:Nat} {x:AG} {p:PA} (h:W.heap[B]? = some (agO x p)) (t:TN) (ad:Option Addr) (cc:Nat):(putG W B t ad cc).heap[B]? = some (agO { x with g:=t } { p with ga:=ad,gc:=cc }):=by
 have h0:=heap_setCell_same (W) B 6 _ 37 (.string t.op) h;have g0:((W).setCell ⟨B,6,none⟩ (.string t.op)).heap[B]? = some (.cells #[.string x.fn,.int .i64 x.k,.string x.e.op,.string x.e.nm,.int .i64 x.e.n,.slice p.ea x.e.ks.len p.ec,.string t.op,.string x.g.nm,.int .i64 x.g.n,.slice p.ga x.g.ks.len p.gc,.slice p.wa x.wh.length p.wc] 37 (0,0)):=by simpa using h0
 have h1:=heap_setCell_same ((W).setCell ⟨B,6,none⟩ (.string t.op)) B 7 _ 37 (.string t.nm) g0;have g1:(((W).setCell ⟨B,6,none⟩ (.string t.op)).setCell ⟨B,7,none⟩ (.string t.nm)).heap[B]? = some (.cells #[.string x.fn,.int .i64 x.k,.string x.e.op,.string x.e.nm,.int .i64 x.e.n,.slice p.ea x.e.ks.len p.ec,.string t.op,.string t.nm,.int .i64 x.g.n,.slice p.ga x.g.ks.len p.gc,.slice p.wa x.wh.length p.wc] 37 (0,0)):=by simpa using h1
 have h2:=heap_setCell_same (((W).setCell ⟨B,6,none⟩ (.string t.op)).setCell ⟨B,7,none⟩ (.string t.nm)) B 8 _ 37 (.int .i64 t.n) g1;have g2:((((W).setCell ⟨B,6,none⟩ (.string t.op)).setCell ⟨B,7,none⟩ (.string t.nm)).setCell ⟨B,8,none⟩ (.int .i64 t.n)).heap[B]? = some (.cells #[.string x.fn,.int .i64 x.k,.string x.e.op,.string x.e.nm,.int .i64 x.e.n,.slice p.ea x.e.ks.len p.ec,.string t.op,.string t.nm,.int .i64 t.n,.slice p.ga x.g.ks.len p.gc,.slice p.wa x.wh.length p.wc] 37 (0,0)):=by simpa using h2
 have h3:=heap_setCell_same ((((W).setCell ⟨B,6,none⟩ (.string t.op)).setCell ⟨B,7,none⟩ (.string t.nm)).setCell ⟨B,8,none⟩ (.int .i64 t.n)) B 9 _ 37 (.slice ad t.ks.len cc) g2;have g3:(((((W).setCell ⟨B,6,none⟩ (.string t.op)).setCell ⟨B,7,none⟩ (.string t.nm)).setCell ⟨B,8,none⟩ (.int .i64 t.n)).setCell ⟨B,9,none⟩ (.slice ad t.ks.len cc)).heap[B]? = some (.cells #[.string x.fn,.int .i64 x.k,.string x.e.op,.string x.e.nm,.int .i64 x.e.n,.slice p.ea x.e.ks.len p.ec,.string t.op,.string t.nm,.int .i64 t.n,.slice ad t.ks.len cc,.slice p.wa x.wh.length p.wc] 37 (0,0)):=by simpa using h3
 exact g3
theorem vX {W:World} {B:Nat} {x:AG} {p:PA} (h:W.heap[B]? = some (agO x p)) (k:Int):(W.setCell ⟨B,1,none⟩ (.int .i64 k)).heap[B]? = some (agO { x with k:=k } p):=by
 have h0:=heap_setCell_same W B 1 _ 37 (.int .i64 k) h;simpa using h0
theorem bE {W:World} {B:Nat} {v0 v1 v2 v3 v4 v5 v6 v7 v8 v9 v10:Value} {t:TypeId} (h:W.heap[B]? = some (.cells #[v0,v1,v2,v3,v4,v5,v6,v7,v8,v9,v10] t (0,0))) :
 W.frozen? ⟨B,0,none⟩=false/\W.frozen? ⟨B,1,none⟩=false/\W.frozen? ⟨B,2,none⟩=false/\W.frozen? ⟨B,3,none⟩=false/\W.frozen? ⟨B,4,none⟩=false/\W.frozen? ⟨B,5,none⟩=false/\W.frozen? ⟨B,6,none⟩=false/\W.frozen? ⟨B,7,none⟩=false/\W.frozen? ⟨B,8,none⟩=false/\W.frozen? ⟨B,9,none⟩=false/\W.frozen? ⟨B,10,none⟩=false:=by
 refine ⟨?_,?_,?_,?_,?_,?_,?_,?_,?_,?_,?_⟩ <;> simp [World.frozen?,h]
structure AW (w:World) (ts:List Tk) (rb:Nat) (a:Option Addr) (c:Nat) (x:AG) (p:PA) (s:RS) (V:World):Prop where
 r:PW ts rb a c s V
 k:aE (· = rb) w V
 n:V.heap[w.heap.size]? = some (agO x p)
 o:V.heap[w.heap.size+1]? = some (agO aN aI)
 e:a7 (w.heap.size+2) V p.ea x.e.ks
 g:a7 (w.heap.size+2) V p.ga x.g.ks
 z:w.heap.size+2<=V.heap.size
 h:rb<w.heap.size
theorem AW.step {w V V':World} {ts:List Tk} {rb:Nat} {a:Option Addr} {c:Nat} {x:AG} {p:PA} {s s':RS} (h:AW w ts rb a c x p s V) (hp:PW ts rb a c s' V') (hk:aE (· = rb) V V'):AW w ts rb a c x p s' V' :=
 ⟨hp,h.k.trans hk (fun i hi _=>hi),hk.heap h.n (fun e=>by have:=h.h;omega),hk.heap h.o (fun e=>by have:=h.h;omega),h.e.keptS hk (fun k hk=>by have:=h.h;omega),h.g.keptS hk (fun k hk=>by have:=h.h;omega),Nat.le_trans h.z hk.size,h.h⟩
theorem AW.box {w V V':World} {ts:List Tk} {rb:Nat} {a:Option Addr} {c:Nat} {x y:AG} {p q:PA} {s:RS} (h:AW w ts rb a c x p s V) (hk:aE (· = w.heap.size) V V') (hn:V'.heap[w.heap.size]? = some (agO y q)) (he:a7 (w.heap.size+2) V q.ea y.e.ks) (hg:a7 (w.heap.size+2) V q.ga y.g.ks):AW w ts rb a c y q s V' :=
 ⟨h.r.other hk h.h,h.k.trans hk (fun i hi hlt=>by omega),hn,hk.heap h.o (fun e=>by omega),he.keptS hk (fun k hk=>by omega),hg.keptS hk (fun k hk=>by omega),Nat.le_trans h.z hk.size,h.h⟩
theorem As {x:AG} {a b:List UInt8} (h:(x.fn.data.toList == a)=true) (hne:a ≠ b):(x.fn.data.toList == b)=false:=by
 rw [beq_iff_eq] at h;rw [h];exact beq_eq_false_iff_ne.2 hne
theorem uT {G:Nat->Prop} (x:AG) (p:PA) (w:World) (hS:SzG x) (hr:aP G w x p):Calls Tryz.prog 11 #[agV x p] w fun e w'=>e=.returned (.int .i64 (jT x))/\Below w.heap.size w w':=by
 have K0:=Kk hr;generalize hW:w.alloc (agO x p)=W at K0;have HW:=aA hW;have HK:=aA K0;have HS:=aA hS;have FA:=aA (fun V=>vL x.fn V);obtain ⟨r,hR⟩:∃ r,jT x=r:=⟨_,rfl⟩;rw [hR];unfold jT at hR;clear hW K0 hr hS;obtain ⟨m0,m1,m2,m3,m4,m5,m6,m7,m8,m9,m10⟩:=aC HK.out.n;go_enter Tryz.func11,Tryz.ntmps11
 go_upto_region 1 with fail
 rw [HW.out];go_wp2_with fail
 refine (FA.out _).mono ?_;rintro e v0 ⟨rfl,rfl⟩;cases hfn:dM x.fn.data.toList with
 | false =>
   have TR:=aA (show (5:Int)=r by rw [<- hR,hfn,if_pos rfl]);clear hR;go_wp2_with fail
   go_ret;exact ⟨congrArg (fun z=>Ending.returned (.int .i64 z)) TR.out,HK.out.b⟩
 | true =>
   rw [hfn,if_neg (by decide)] at hR;clear hfn FA;cases ht:(x.fn.data.toList == cQ) with
   | true =>
     have f1:=As ht (b:=aQ) (by decide);have f2:=As ht (b:=aW) (by decide);have g0:=bT ht;have g1:=aM f1;have g2:=aM f2;have ht':x.fn.data.toList=cQ:=by simpa using ht
     have EE:gT x=aL x.e:=by
      unfold gT;rw [if_neg (show ¬ x.fn.data.toList=aQ by simpa using f1),if_neg (show ¬ x.fn.data.toList=aW by simpa using f2)];by_cases h:aL x.e=0
      · rw [if_pos h,h]
      · rw [if_neg h]
     have HEE:=aA EE;by_cases hk:x.k<1\/16<x.k
     · have TR:=aA (show (1:Int)=r by rw [<- hR,if_pos ⟨ht',hk⟩])
       clear hR EE ht' ht f1 f2;unfold cQ at g0;rcases hk with hk | hk
       · go_wp2_with fail
         go_ret;exact ⟨congrArg (fun z=>Ending.returned (.int .i64 z)) TR.out,HK.out.b⟩
       · have hk1:¬ x.k<1:=by omega
         go_wp2_with fail
         go_ret;exact ⟨congrArg (fun z=>Ending.returned (.int .i64 z)) TR.out,HK.out.b⟩
     · rw [if_neg (fun h=>hk h.2)] at hR
       have HT:=aA hR;have hk1:¬ x.k<1:=fun h=>hk (.inl h)
       have hk2:¬ 16<x.k:=fun h=>hk (.inr h)
       have hk3:decide (x.k<1)=false:=decide_eq_false hk1;have hk4:decide (16<x.k)=false:=decide_eq_false hk2;have CE:=aA (dS (t:=x.e) p.ec HS.out.e HK.out.r.e);clear hR EE ht' ht f1 f2 hk;unfold cQ at g0;unfold aQ at g1;unfold aW at g2;obtain ⟨ev,hev⟩:∃ e,aL x.e=e:=⟨_,rfl⟩;rw [hev] at CE HEE;go_wp2_with fail
       refine CE.out.mono ?_;rintro e v1 ⟨rfl,hb⟩;have K1:=aA (HK.out.step hb);clear hb CE hev m0 m1 m2 m3 m4 m5 m6 m7 m8 m9 m10;by_cases he:ev=0
       · subst he
         have HE:=HEE;have TA:=aA (p:=(if gT x=0 then (if 4<x.wh.length then (4:Int) else c7 x.wh) else gT x)=r) HT.out;obtain ⟨m0,m1,m2,m3,m4,m5,m6,m7,m8,m9,m10⟩:=aC K1.out.n;have TB:=aA (show (if 4<x.wh.length then (4:Int) else c7 x.wh)=r by rw [<- TA.out,HE.out,if_pos rfl]);by_cases h4:4<x.wh.length
         · have a4:(4:Int)<(x.wh.length:Int):=by omega
           have TR:=aA (show (4:Int)=r by rw [<- TB.out,if_pos h4]);go_wp2_with fail
           go_ret;exact ⟨congrArg (fun z=>Ending.returned (.int .i64 z)) TR.out,K1.out.b⟩
         · have a4:¬ (4:Int)<(x.wh.length:Int):=by omega
           have a5:decide (4<x.wh.length)=false:=decide_eq_false h4;have T0:=aA (show c7 (x.wh.drop 0)=r by rw [List.drop_zero, <- TB.out,if_neg h4]);clear TA TB;go_wp2_with fail
           clear m0 m1 m2 m3 m4 m5 m6 m7 m8 m9 m10;go_loopw [4,5,6,7] (fun i x5 x6 x7 wr=>∃ (k:Nat) (y5 y6 y7:Value),i=.int .i64 k/\x5=y5/\x6=y6/\x7=y7/\k<=x.wh.length/\Hid (c7 (x.wh.drop k)=r)/\Hid (KA G w x p wr)) (fun i _ _ _ _=>x.wh.length-(intOf i).toNat)
           case atStart=>exact ⟨0,_,_,_,rfl,rfl,rfl,rfl,Nat.zero_le _,T0,K1⟩
           case round =>
            obtain ⟨k,y5,y6,y7,rfl,rfl,rfl,rfl,hk,HC,HK⟩:=hrel;obtain ⟨m0,m1,m2,m3,m4,m5,m6,m7,m8,m9,m10⟩:=aC HK.out.n;by_cases hlt:k<x.wh.length
            · obtain ⟨d,hd⟩:∃ d,x.wh[k]? = some d:=⟨_,List.getElem?_eq_getElem hlt⟩
              have hne:¬ x.wh=[]:=fun e=>by rw [e] at hlt;simp at hlt
              obtain ⟨b,off,hwa', -, -,hcc⟩:=HK.out.r.c.resolve_left hne;have hwa:=aA hwa';clear hwa';obtain ⟨a1,c1,a2,c2,⟨p0,p1,p2,p3,p4,p5,p6,p7,p8⟩,r1,r2⟩:=hcc k d hd
              have hdr:x.wh.drop k=d::x.wh.drop (k+1):=by
               rw [List.drop_eq_getElem_cons hlt];have:=List.getElem?_eq_getElem hlt;rw [this] at hd;rw [Option.some.inj hd]
              have hsz:=HS.out.c d (List.mem_of_getElem? hd);have HD:=aA (show (if (aX d.op 0 0).isSome=false then (5:Int) else if aL d.a=0 then (if aL d.b=0 then c7 (x.wh.drop (k+1)) else aL d.b) else aL d.a)=r by rw [<- HC.out,hdr];rfl);have A1:=aA (fun V (hV:Below wr.heap.size wr V)=>dS (t:=d.a) c1 hsz.1 (r1.kept hV));have A2:=aA (fun V (hV:Below wr.heap.size wr V)=>dS (t:=d.b) c2 hsz.2 (r2.kept hV));have HO:=aA (fun V=>jJ d.op 0 0 V)
              have CE:=aA (p:=∀ V,Below wr.heap.size wr V->(V.cell? ⟨b,off+k*9,none⟩=some (.string d.op)/\V.cell? ⟨b,off+k*9+1,none⟩=some (.string d.a.op)/\V.cell? ⟨b,off+k*9+1+1,none⟩=some (.string d.a.nm)/\V.cell? ⟨b,off+k*9+1+2,none⟩=some (.int .i64 d.a.n)/\V.cell? ⟨b,off+k*9+1+3,none⟩=some (.slice a1 d.a.ks.len c1)/\V.cell? ⟨b,off+k*9+5,none⟩=some (.string d.b.op)/\V.cell? ⟨b,off+k*9+5+1,none⟩=some (.string d.b.nm)/\V.cell? ⟨b,off+k*9+5+2,none⟩=some (.int .i64 d.b.n)/\V.cell? ⟨b,off+k*9+5+3,none⟩=some (.slice a2 d.b.ks.len c2))) (fun V hV=>by
               have hbl:b<wr.heap.size:=by have:=World.block_lt_of_cell? wr _ p0;simpa using this
               exact ⟨(hV.cell (p:=⟨b,_,none⟩) hbl).trans p0,(hV.cell (p:=⟨b,_,none⟩) hbl).trans p1,(hV.cell (p:=⟨b,_,none⟩) hbl).trans p2,(hV.cell (p:=⟨b,_,none⟩) hbl).trans p3,(hV.cell (p:=⟨b,_,none⟩) hbl).trans p4,(hV.cell (p:=⟨b,_,none⟩) hbl).trans p5,(hV.cell (p:=⟨b,_,none⟩) hbl).trans p6,(hV.cell (p:=⟨b,_,none⟩) hbl).trans p7,(hV.cell (p:=⟨b,_,none⟩) hbl).trans p8⟩)
              obtain ⟨z,hz⟩:∃ z,(aX d.op 0 0).isSome=z:=⟨_,rfl⟩;obtain ⟨y,hy⟩:∃ y,(aX d.op 0 0).getD false=y:=⟨_,rfl⟩;obtain ⟨e1,he1⟩:∃ e,aL d.a=e:=⟨_,rfl⟩;obtain ⟨e2,he2⟩:∃ e,aL d.b=e:=⟨_,rfl⟩;rw [hz,hy] at HO;rw [hz,he1,he2] at HD;rw [he1] at A1;rw [he2] at A2;rw [hwa.out] at m10;have b1:(k:Int)<(x.wh.length:Int):=by omega
              have b2:(0:Int)<=(k:Int):=by omega
              have b3:((k:Int)).toNat=k:=by omega
              clear hd hne hcc hdr hsz r1 r2 hz hy he1 he2;go_wp2_with fail
              refine (HO.out _).mono ?_;rintro e v1 ⟨rfl,rfl⟩;cases z with
              | false =>
                have TR:=aA (show (5:Int)=r by rw [<- HD.out];rfl);go_wp2_with fail
                go_ret;exact ⟨congrArg (fun z=>Ending.returned (.int .i64 z)) TR.out,HK.out.b⟩
              | true =>
                have HD1:=aA (show (if e1=0 then (if e2=0 then c7 (x.wh.drop (k+1)) else e2) else e1)=r by rw [<- HD.out];rfl);clear HD;go_wp2_with fail
                refine (A1.out wr (Below.refl _ _)).mono ?_;rintro e v2 ⟨rfl,hb⟩;have K2:=aA (HK.out.step hb);have B2:=aA hb;clear hb p0 p1 p2 p3 p4 p5 p6 p7 p8 m0 m1 m2 m3 m4 m5 m6 m7 m8 m9 m10;obtain ⟨m0,m1,m2,m3,m4,m5,m6,m7,m8,m9,m10⟩:=aC K2.out.n;obtain ⟨p0,p1,p2,p3,p4,p5,p6,p7,p8⟩:=CE.out v2 B2.out;rw [hwa.out] at m10;by_cases he:e1=0
                · subst he
                  have HD2:=aA (show (if e2=0 then c7 (x.wh.drop (k+1)) else e2)=r by rw [<- HD1.out,if_pos rfl]);clear HD1;go_wp2_with fail
                  refine (A2.out v2 B2.out).mono ?_;rintro e v3 ⟨rfl,hb⟩;have K3:=aA (K2.out.step hb);clear hb;by_cases he:e2=0
                  · subst he
                    have HD3:=aA (show c7 (x.wh.drop (k+1))=r by rw [<- HD2.out,if_pos rfl]);go_wp2_with fail
                    go_roundw
                    case rel=>exact ⟨k+1,_,_,_,by go_num,rfl,rfl,rfl,by omega,HD3,K3⟩
                    case measure=>simp [intOf];omega
                  · have q1:(e2 == 0)=false:=by simpa using he
                    have q2:(e2 != 0)=true:=by simpa using he
                    have TR:=aA (show e2=r by rw [<- HD2.out,if_neg he]);go_wp2_with fail
                    go_ret;exact ⟨congrArg (fun z=>Ending.returned (.int .i64 z)) TR.out,K3.out.b⟩
                · have q1:(e1 == 0)=false:=by simpa using he
                  have q2:(e1 != 0)=true:=by simpa using he
                  have TR:=aA (show e1=r by rw [<- HD1.out,if_neg he]);go_wp2_with fail
                  go_ret;exact ⟨congrArg (fun z=>Ending.returned (.int .i64 z)) TR.out,K2.out.b⟩
            · have TR:=aA (show (0:Int)=r by rw [<- HC.out,List.drop_of_length_le (by omega)];rfl)
              have b1:¬ (k:Int)<(x.wh.length:Int):=by omega
              go_wp2_with fail
              go_ret;exact ⟨congrArg (fun z=>Ending.returned (.int .i64 z)) TR.out,HK.out.b⟩
       · have q1:(ev == 0)=false:=by simpa using he
         have q2:(ev != 0)=true:=by simpa using he
         have TR:=aA (show ev=r by rw [<- HT.out,HEE.out,if_neg he]);obtain ⟨m0,m1,m2,m3,m4,m5,m6,m7,m8,m9,m10⟩:=aC K1.out.n;go_wp2_with fail
         go_ret;exact ⟨congrArg (fun z=>Ending.returned (.int .i64 z)) TR.out,K1.out.b⟩
   | false =>
     have ht':¬ x.fn.data.toList=cQ:=by simpa using ht
     rw [if_neg (fun h=>ht' h.1)] at hR;have HT:=aA hR;have g0:=aM ht;unfold cQ at g0;clear hR ht';cases hc:(x.fn.data.toList == aQ) with
     | true =>
       have HE:=aA (show gT x=0 by unfold gT;rw [if_pos (show x.fn.data.toList=aQ by simpa using hc)]);have g1:=bT hc;unfold aQ at g1;clear hc ht;clear m1 m2 m3 m4 m5 m6 m7 m8 m9 m10;have TA:=aA (p:=(if gT x=0 then (if 4<x.wh.length then (4:Int) else c7 x.wh) else gT x)=r) HT.out;obtain ⟨-,m1,m2,m3,m4,m5,m6,m7,m8,m9,m10⟩:=aC HK.out.n;have TB:=aA (show (if 4<x.wh.length then (4:Int) else c7 x.wh)=r by rw [<- TA.out,HE.out,if_pos rfl]);by_cases h4:4<x.wh.length
       · have a4:(4:Int)<(x.wh.length:Int):=by omega
         have TR:=aA (show (4:Int)=r by rw [<- TB.out,if_pos h4]);go_wp2_with fail
         go_ret;exact ⟨congrArg (fun z=>Ending.returned (.int .i64 z)) TR.out,HK.out.b⟩
       · have a4:¬ (4:Int)<(x.wh.length:Int):=by omega
         have a5:decide (4<x.wh.length)=false:=decide_eq_false h4;have T0:=aA (show c7 (x.wh.drop 0)=r by rw [List.drop_zero, <- TB.out,if_neg h4]);clear TA TB;go_wp2_with fail
         clear m0 m1 m2 m3 m4 m5 m6 m7 m8 m9 m10;go_loopw [4,5,6,7] (fun i x5 x6 x7 wr=>∃ (k:Nat) (y5 y6 y7:Value),i=.int .i64 k/\x5=y5/\x6=y6/\x7=y7/\k<=x.wh.length/\Hid (c7 (x.wh.drop k)=r)/\Hid (KA G w x p wr)) (fun i _ _ _ _=>x.wh.length-(intOf i).toNat)
         case atStart=>exact ⟨0,_,_,_,rfl,rfl,rfl,rfl,Nat.zero_le _,T0,HK⟩
         case round =>
          obtain ⟨k,y5,y6,y7,rfl,rfl,rfl,rfl,hk,HC,HK⟩:=hrel;obtain ⟨m0,m1,m2,m3,m4,m5,m6,m7,m8,m9,m10⟩:=aC HK.out.n;by_cases hlt:k<x.wh.length
          · obtain ⟨d,hd⟩:∃ d,x.wh[k]? = some d:=⟨_,List.getElem?_eq_getElem hlt⟩
            have hne:¬ x.wh=[]:=fun e=>by rw [e] at hlt;simp at hlt
            obtain ⟨b,off,hwa', -, -,hcc⟩:=HK.out.r.c.resolve_left hne;have hwa:=aA hwa';clear hwa';obtain ⟨a1,c1,a2,c2,⟨p0,p1,p2,p3,p4,p5,p6,p7,p8⟩,r1,r2⟩:=hcc k d hd
            have hdr:x.wh.drop k=d::x.wh.drop (k+1):=by
             rw [List.drop_eq_getElem_cons hlt];have:=List.getElem?_eq_getElem hlt;rw [this] at hd;rw [Option.some.inj hd]
            have hsz:=HS.out.c d (List.mem_of_getElem? hd);have HD:=aA (show (if (aX d.op 0 0).isSome=false then (5:Int) else if aL d.a=0 then (if aL d.b=0 then c7 (x.wh.drop (k+1)) else aL d.b) else aL d.a)=r by rw [<- HC.out,hdr];rfl);have A1:=aA (fun V (hV:Below wr.heap.size wr V)=>dS (t:=d.a) c1 hsz.1 (r1.kept hV));have A2:=aA (fun V (hV:Below wr.heap.size wr V)=>dS (t:=d.b) c2 hsz.2 (r2.kept hV));have HO:=aA (fun V=>jJ d.op 0 0 V)
            have CE:=aA (p:=∀ V,Below wr.heap.size wr V->(V.cell? ⟨b,off+k*9,none⟩=some (.string d.op)/\V.cell? ⟨b,off+k*9+1,none⟩=some (.string d.a.op)/\V.cell? ⟨b,off+k*9+1+1,none⟩=some (.string d.a.nm)/\V.cell? ⟨b,off+k*9+1+2,none⟩=some (.int .i64 d.a.n)/\V.cell? ⟨b,off+k*9+1+3,none⟩=some (.slice a1 d.a.ks.len c1)/\V.cell? ⟨b,off+k*9+5,none⟩=some (.string d.b.op)/\V.cell? ⟨b,off+k*9+5+1,none⟩=some (.string d.b.nm)/\V.cell? ⟨b,off+k*9+5+2,none⟩=some (.int .i64 d.b.n)/\V.cell? ⟨b,off+k*9+5+3,none⟩=some (.slice a2 d.b.ks.len c2))) (fun V hV=>by
             have hbl:b<wr.heap.size:=by have:=World.block_lt_of_cell? wr _ p0;simpa using this
             exact ⟨(hV.cell (p:=⟨b,_,none⟩) hbl).trans p0,(hV.cell (p:=⟨b,_,none⟩) hbl).trans p1,(hV.cell (p:=⟨b,_,none⟩) hbl).trans p2,(hV.cell (p:=⟨b,_,none⟩) hbl).trans p3,(hV.cell (p:=⟨b,_,none⟩) hbl).trans p4,(hV.cell (p:=⟨b,_,none⟩) hbl).trans p5,(hV.cell (p:=⟨b,_,none⟩) hbl).trans p6,(hV.cell (p:=⟨b,_,none⟩) hbl).trans p7,(hV.cell (p:=⟨b,_,none⟩) hbl).trans p8⟩)
            obtain ⟨z,hz⟩:∃ z,(aX d.op 0 0).isSome=z:=⟨_,rfl⟩;obtain ⟨y,hy⟩:∃ y,(aX d.op 0 0).getD false=y:=⟨_,rfl⟩;obtain ⟨e1,he1⟩:∃ e,aL d.a=e:=⟨_,rfl⟩;obtain ⟨e2,he2⟩:∃ e,aL d.b=e:=⟨_,rfl⟩;rw [hz,hy] at HO;rw [hz,he1,he2] at HD;rw [he1] at A1;rw [he2] at A2;rw [hwa.out] at m10;have b1:(k:Int)<(x.wh.length:Int):=by omega
            have b2:(0:Int)<=(k:Int):=by omega
            have b3:((k:Int)).toNat=k:=by omega
            clear hd hne hcc hdr hsz r1 r2 hz hy he1 he2;go_wp2_with fail
            refine (HO.out _).mono ?_;rintro e v1 ⟨rfl,rfl⟩;cases z with
            | false =>
              have TR:=aA (show (5:Int)=r by rw [<- HD.out];rfl);go_wp2_with fail
              go_ret;exact ⟨congrArg (fun z=>Ending.returned (.int .i64 z)) TR.out,HK.out.b⟩
            | true =>
              have HD1:=aA (show (if e1=0 then (if e2=0 then c7 (x.wh.drop (k+1)) else e2) else e1)=r by rw [<- HD.out];rfl);clear HD;go_wp2_with fail
              refine (A1.out wr (Below.refl _ _)).mono ?_;rintro e v2 ⟨rfl,hb⟩;have K2:=aA (HK.out.step hb);have B2:=aA hb;clear hb p0 p1 p2 p3 p4 p5 p6 p7 p8 m0 m1 m2 m3 m4 m5 m6 m7 m8 m9 m10;obtain ⟨m0,m1,m2,m3,m4,m5,m6,m7,m8,m9,m10⟩:=aC K2.out.n;obtain ⟨p0,p1,p2,p3,p4,p5,p6,p7,p8⟩:=CE.out v2 B2.out;rw [hwa.out] at m10;by_cases he:e1=0
              · subst he
                have HD2:=aA (show (if e2=0 then c7 (x.wh.drop (k+1)) else e2)=r by rw [<- HD1.out,if_pos rfl]);clear HD1;go_wp2_with fail
                refine (A2.out v2 B2.out).mono ?_;rintro e v3 ⟨rfl,hb⟩;have K3:=aA (K2.out.step hb);clear hb;by_cases he:e2=0
                · subst he
                  have HD3:=aA (show c7 (x.wh.drop (k+1))=r by rw [<- HD2.out,if_pos rfl]);go_wp2_with fail
                  go_roundw
                  case rel=>exact ⟨k+1,_,_,_,by go_num,rfl,rfl,rfl,by omega,HD3,K3⟩
                  case measure=>simp [intOf];omega
                · have q1:(e2 == 0)=false:=by simpa using he
                  have q2:(e2 != 0)=true:=by simpa using he
                  have TR:=aA (show e2=r by rw [<- HD2.out,if_neg he]);go_wp2_with fail
                  go_ret;exact ⟨congrArg (fun z=>Ending.returned (.int .i64 z)) TR.out,K3.out.b⟩
              · have q1:(e1 == 0)=false:=by simpa using he
                have q2:(e1 != 0)=true:=by simpa using he
                have TR:=aA (show e1=r by rw [<- HD1.out,if_neg he]);go_wp2_with fail
                go_ret;exact ⟨congrArg (fun z=>Ending.returned (.int .i64 z)) TR.out,K2.out.b⟩
          · have TR:=aA (show (0:Int)=r by rw [<- HC.out,List.drop_of_length_le (by omega)];rfl)
            have b1:¬ (k:Int)<(x.wh.length:Int):=by omega
            go_wp2_with fail
            go_ret;exact ⟨congrArg (fun z=>Ending.returned (.int .i64 z)) TR.out,HK.out.b⟩
     | false =>
       have g1:=aM hc;have hc':¬ x.fn.data.toList=aQ:=by simpa using hc
       unfold aQ at g1;have CE:=aA (dS (t:=x.e) p.ec HS.out.e HK.out.r.e);have CG:=aA (fun V (hV:Below W.heap.size W V)=>dS (t:=x.g) p.gc HS.out.g (HK.out.r.g.kept hV));cases hf:(x.fn.data.toList == aW) with
       | true =>
         have g2:=bT hf;unfold aW at g2;have HEE:=aA (show gT x=if aL x.e=0 then aL x.g else aL x.e by unfold gT;rw [if_neg hc',if_pos (show x.fn.data.toList=aW by simpa using hf)]);clear hc hf ht hc';obtain ⟨ev,hev⟩:∃ e,aL x.e=e:=⟨_,rfl⟩;obtain ⟨gv,hgv⟩:∃ e,aL x.g=e:=⟨_,rfl⟩;rw [hev] at CE HEE;rw [hgv] at CG HEE;go_wp2_with fail
         refine CE.out.mono ?_;rintro e v1 ⟨rfl,hb⟩;have K1:=aA (HK.out.step hb);have B1:=aA hb;clear hb CE hev hgv m0 m1 m2 m3 m4 m5 m6 m7 m8 m9 m10;obtain ⟨m0,m1,m2,m3,m4,m5,m6,m7,m8,m9,m10⟩:=aC K1.out.n;by_cases he:ev=0
         · subst he
           go_wp2_with fail
           refine (CG.out v1 B1.out).mono ?_;rintro e v2 ⟨rfl,hb⟩;have K2:=aA (K1.out.step hb);clear hb CG m0 m1 m2 m3 m4 m5 m6 m7 m8 m9 m10;by_cases he:gv=0
           · subst he
             have HE:=aA (show gT x=0 by have h1:=HEE.out;simpa using h1);have TA:=aA (p:=(if gT x=0 then (if 4<x.wh.length then (4:Int) else c7 x.wh) else gT x)=r) HT.out;obtain ⟨m0,m1,m2,m3,m4,m5,m6,m7,m8,m9,m10⟩:=aC K2.out.n;have TB:=aA (show (if 4<x.wh.length then (4:Int) else c7 x.wh)=r by rw [<- TA.out,HE.out,if_pos rfl]);by_cases h4:4<x.wh.length
             · have a4:(4:Int)<(x.wh.length:Int):=by omega
               have TR:=aA (show (4:Int)=r by rw [<- TB.out,if_pos h4]);go_wp2_with fail
               go_ret;exact ⟨congrArg (fun z=>Ending.returned (.int .i64 z)) TR.out,K2.out.b⟩
             · have a4:¬ (4:Int)<(x.wh.length:Int):=by omega
               have a5:decide (4<x.wh.length)=false:=decide_eq_false h4;have T0:=aA (show c7 (x.wh.drop 0)=r by rw [List.drop_zero, <- TB.out,if_neg h4]);clear TA TB;go_wp2_with fail
               clear m0 m1 m2 m3 m4 m5 m6 m7 m8 m9 m10;go_loopw [4,5,6,7] (fun i x5 x6 x7 wr=>∃ (k:Nat) (y5 y6 y7:Value),i=.int .i64 k/\x5=y5/\x6=y6/\x7=y7/\k<=x.wh.length/\Hid (c7 (x.wh.drop k)=r)/\Hid (KA G w x p wr)) (fun i _ _ _ _=>x.wh.length-(intOf i).toNat)
               case atStart=>exact ⟨0,_,_,_,rfl,rfl,rfl,rfl,Nat.zero_le _,T0,K2⟩
               case round =>
                obtain ⟨k,y5,y6,y7,rfl,rfl,rfl,rfl,hk,HC,HK⟩:=hrel;obtain ⟨m0,m1,m2,m3,m4,m5,m6,m7,m8,m9,m10⟩:=aC HK.out.n;by_cases hlt:k<x.wh.length
                · obtain ⟨d,hd⟩:∃ d,x.wh[k]? = some d:=⟨_,List.getElem?_eq_getElem hlt⟩
                  have hne:¬ x.wh=[]:=fun e=>by rw [e] at hlt;simp at hlt
                  obtain ⟨b,off,hwa', -, -,hcc⟩:=HK.out.r.c.resolve_left hne;have hwa:=aA hwa';clear hwa';obtain ⟨a1,c1,a2,c2,⟨p0,p1,p2,p3,p4,p5,p6,p7,p8⟩,r1,r2⟩:=hcc k d hd
                  have hdr:x.wh.drop k=d::x.wh.drop (k+1):=by
                   rw [List.drop_eq_getElem_cons hlt];have:=List.getElem?_eq_getElem hlt;rw [this] at hd;rw [Option.some.inj hd]
                  have hsz:=HS.out.c d (List.mem_of_getElem? hd);have HD:=aA (show (if (aX d.op 0 0).isSome=false then (5:Int) else if aL d.a=0 then (if aL d.b=0 then c7 (x.wh.drop (k+1)) else aL d.b) else aL d.a)=r by rw [<- HC.out,hdr];rfl);have A1:=aA (fun V (hV:Below wr.heap.size wr V)=>dS (t:=d.a) c1 hsz.1 (r1.kept hV));have A2:=aA (fun V (hV:Below wr.heap.size wr V)=>dS (t:=d.b) c2 hsz.2 (r2.kept hV));have HO:=aA (fun V=>jJ d.op 0 0 V)
                  have CE:=aA (p:=∀ V,Below wr.heap.size wr V->(V.cell? ⟨b,off+k*9,none⟩=some (.string d.op)/\V.cell? ⟨b,off+k*9+1,none⟩=some (.string d.a.op)/\V.cell? ⟨b,off+k*9+1+1,none⟩=some (.string d.a.nm)/\V.cell? ⟨b,off+k*9+1+2,none⟩=some (.int .i64 d.a.n)/\V.cell? ⟨b,off+k*9+1+3,none⟩=some (.slice a1 d.a.ks.len c1)/\V.cell? ⟨b,off+k*9+5,none⟩=some (.string d.b.op)/\V.cell? ⟨b,off+k*9+5+1,none⟩=some (.string d.b.nm)/\V.cell? ⟨b,off+k*9+5+2,none⟩=some (.int .i64 d.b.n)/\V.cell? ⟨b,off+k*9+5+3,none⟩=some (.slice a2 d.b.ks.len c2))) (fun V hV=>by
                   have hbl:b<wr.heap.size:=by have:=World.block_lt_of_cell? wr _ p0;simpa using this
                   exact ⟨(hV.cell (p:=⟨b,_,none⟩) hbl).trans p0,(hV.cell (p:=⟨b,_,none⟩) hbl).trans p1,(hV.cell (p:=⟨b,_,none⟩) hbl).trans p2,(hV.cell (p:=⟨b,_,none⟩) hbl).trans p3,(hV.cell (p:=⟨b,_,none⟩) hbl).trans p4,(hV.cell (p:=⟨b,_,none⟩) hbl).trans p5,(hV.cell (p:=⟨b,_,none⟩) hbl).trans p6,(hV.cell (p:=⟨b,_,none⟩) hbl).trans p7,(hV.cell (p:=⟨b,_,none⟩) hbl).trans p8⟩)
                  obtain ⟨z,hz⟩:∃ z,(aX d.op 0 0).isSome=z:=⟨_,rfl⟩;obtain ⟨y,hy⟩:∃ y,(aX d.op 0 0).getD false=y:=⟨_,rfl⟩;obtain ⟨e1,he1⟩:∃ e,aL d.a=e:=⟨_,rfl⟩;obtain ⟨e2,he2⟩:∃ e,aL d.b=e:=⟨_,rfl⟩;rw [hz,hy] at HO;rw [hz,he1,he2] at HD;rw [he1] at A1;rw [he2] at A2;rw [hwa.out] at m10;have b1:(k:Int)<(x.wh.length:Int):=by omega
                  have b2:(0:Int)<=(k:Int):=by omega
                  have b3:((k:Int)).toNat=k:=by omega
                  clear hd hne hcc hdr hsz r1 r2 hz hy he1 he2;go_wp2_with fail
                  refine (HO.out _).mono ?_;rintro e v1 ⟨rfl,rfl⟩;cases z with
                  | false =>
                    have TR:=aA (show (5:Int)=r by rw [<- HD.out];rfl);go_wp2_with fail
                    go_ret;exact ⟨congrArg (fun z=>Ending.returned (.int .i64 z)) TR.out,HK.out.b⟩
                  | true =>
                    have HD1:=aA (show (if e1=0 then (if e2=0 then c7 (x.wh.drop (k+1)) else e2) else e1)=r by rw [<- HD.out];rfl);clear HD;go_wp2_with fail
                    refine (A1.out wr (Below.refl _ _)).mono ?_;rintro e v2 ⟨rfl,hb⟩;have K2:=aA (HK.out.step hb);have B2:=aA hb;clear hb p0 p1 p2 p3 p4 p5 p6 p7 p8 m0 m1 m2 m3 m4 m5 m6 m7 m8 m9 m10;obtain ⟨m0,m1,m2,m3,m4,m5,m6,m7,m8,m9,m10⟩:=aC K2.out.n;obtain ⟨p0,p1,p2,p3,p4,p5,p6,p7,p8⟩:=CE.out v2 B2.out;rw [hwa.out] at m10;by_cases he:e1=0
                    · subst he
                      have HD2:=aA (show (if e2=0 then c7 (x.wh.drop (k+1)) else e2)=r by rw [<- HD1.out,if_pos rfl]);clear HD1;go_wp2_with fail
                      refine (A2.out v2 B2.out).mono ?_;rintro e v3 ⟨rfl,hb⟩;have K3:=aA (K2.out.step hb);clear hb;by_cases he:e2=0
                      · subst he
                        have HD3:=aA (show c7 (x.wh.drop (k+1))=r by rw [<- HD2.out,if_pos rfl]);go_wp2_with fail
                        go_roundw
                        case rel=>exact ⟨k+1,_,_,_,by go_num,rfl,rfl,rfl,by omega,HD3,K3⟩
                        case measure=>simp [intOf];omega
                      · have q1:(e2 == 0)=false:=by simpa using he
                        have q2:(e2 != 0)=true:=by simpa using he
                        have TR:=aA (show e2=r by rw [<- HD2.out,if_neg he]);go_wp2_with fail
                        go_ret;exact ⟨congrArg (fun z=>Ending.returned (.int .i64 z)) TR.out,K3.out.b⟩
                    · have q1:(e1 == 0)=false:=by simpa using he
                      have q2:(e1 != 0)=true:=by simpa using he
                      have TR:=aA (show e1=r by rw [<- HD1.out,if_neg he]);go_wp2_with fail
                      go_ret;exact ⟨congrArg (fun z=>Ending.returned (.int .i64 z)) TR.out,K2.out.b⟩
                · have TR:=aA (show (0:Int)=r by rw [<- HC.out,List.drop_of_length_le (by omega)];rfl)
                  have b1:¬ (k:Int)<(x.wh.length:Int):=by omega
                  go_wp2_with fail
                  go_ret;exact ⟨congrArg (fun z=>Ending.returned (.int .i64 z)) TR.out,HK.out.b⟩
           · have q1:(gv == 0)=false:=by simpa using he
             have q2:(gv != 0)=true:=by simpa using he
             have TR:=aA (show gv=r by
              have h1:gT x=gv:=by have h:=HEE.out;simpa using h
              rw [<- HT.out,h1,if_neg he])
             go_wp2_with fail
             go_ret;exact ⟨congrArg (fun z=>Ending.returned (.int .i64 z)) TR.out,K2.out.b⟩
         · have q1:(ev == 0)=false:=by simpa using he
           have q2:(ev != 0)=true:=by simpa using he
           have TR:=aA (show ev=r by
            have h1:gT x=ev:=by rw [HEE.out,if_neg he]
            rw [<- HT.out,h1,if_neg he])
           go_wp2_with fail
           go_ret;exact ⟨congrArg (fun z=>Ending.returned (.int .i64 z)) TR.out,K1.out.b⟩
       | false =>
         have g2:=aM hf;unfold aW at g2
         have HEE:=aA (show gT x=aL x.e by
          unfold gT;rw [if_neg hc',if_neg (show ¬ x.fn.data.toList=aW by simpa using hf)];by_cases h:aL x.e=0
          · rw [if_pos h,h]
          · rw [if_neg h])
         clear hc hf ht hc' CG;obtain ⟨ev,hev⟩:∃ e,aL x.e=e:=⟨_,rfl⟩;rw [hev] at CE HEE;go_wp2_with fail
         refine CE.out.mono ?_;rintro e v1 ⟨rfl,hb⟩;have K1:=aA (HK.out.step hb);clear hb CE hev m0 m1 m2 m3 m4 m5 m6 m7 m8 m9 m10;by_cases he:ev=0
         · subst he
           have HE:=HEE;have TA:=aA (p:=(if gT x=0 then (if 4<x.wh.length then (4:Int) else c7 x.wh) else gT x)=r) HT.out;obtain ⟨m0,m1,m2,m3,m4,m5,m6,m7,m8,m9,m10⟩:=aC K1.out.n;have TB:=aA (show (if 4<x.wh.length then (4:Int) else c7 x.wh)=r by rw [<- TA.out,HE.out,if_pos rfl]);by_cases h4:4<x.wh.length
           · have a4:(4:Int)<(x.wh.length:Int):=by omega
             have TR:=aA (show (4:Int)=r by rw [<- TB.out,if_pos h4]);go_wp2_with fail
             go_ret;exact ⟨congrArg (fun z=>Ending.returned (.int .i64 z)) TR.out,K1.out.b⟩
           · have a4:¬ (4:Int)<(x.wh.length:Int):=by omega
             have a5:decide (4<x.wh.length)=false:=decide_eq_false h4;have T0:=aA (show c7 (x.wh.drop 0)=r by rw [List.drop_zero, <- TB.out,if_neg h4]);clear TA TB;go_wp2_with fail
             clear m0 m1 m2 m3 m4 m5 m6 m7 m8 m9 m10;go_loopw [4,5,6,7] (fun i x5 x6 x7 wr=>∃ (k:Nat) (y5 y6 y7:Value),i=.int .i64 k/\x5=y5/\x6=y6/\x7=y7/\k<=x.wh.length/\Hid (c7 (x.wh.drop k)=r)/\Hid (KA G w x p wr)) (fun i _ _ _ _=>x.wh.length-(intOf i).toNat)
             case atStart=>exact ⟨0,_,_,_,rfl,rfl,rfl,rfl,Nat.zero_le _,T0,K1⟩
             case round =>
              obtain ⟨k,y5,y6,y7,rfl,rfl,rfl,rfl,hk,HC,HK⟩:=hrel;obtain ⟨m0,m1,m2,m3,m4,m5,m6,m7,m8,m9,m10⟩:=aC HK.out.n;by_cases hlt:k<x.wh.length
              · obtain ⟨d,hd⟩:∃ d,x.wh[k]? = some d:=⟨_,List.getElem?_eq_getElem hlt⟩
                have hne:¬ x.wh=[]:=fun e=>by rw [e] at hlt;simp at hlt
                obtain ⟨b,off,hwa', -, -,hcc⟩:=HK.out.r.c.resolve_left hne;have hwa:=aA hwa';clear hwa';obtain ⟨a1,c1,a2,c2,⟨p0,p1,p2,p3,p4,p5,p6,p7,p8⟩,r1,r2⟩:=hcc k d hd
                have hdr:x.wh.drop k=d::x.wh.drop (k+1):=by
                 rw [List.drop_eq_getElem_cons hlt];have:=List.getElem?_eq_getElem hlt;rw [this] at hd;rw [Option.some.inj hd]
                have hsz:=HS.out.c d (List.mem_of_getElem? hd);have HD:=aA (show (if (aX d.op 0 0).isSome=false then (5:Int) else if aL d.a=0 then (if aL d.b=0 then c7 (x.wh.drop (k+1)) else aL d.b) else aL d.a)=r by rw [<- HC.out,hdr];rfl);have A1:=aA (fun V (hV:Below wr.heap.size wr V)=>dS (t:=d.a) c1 hsz.1 (r1.kept hV));have A2:=aA (fun V (hV:Below wr.heap.size wr V)=>dS (t:=d.b) c2 hsz.2 (r2.kept hV));have HO:=aA (fun V=>jJ d.op 0 0 V)
                have CE:=aA (p:=∀ V,Below wr.heap.size wr V->(V.cell? ⟨b,off+k*9,none⟩=some (.string d.op)/\V.cell? ⟨b,off+k*9+1,none⟩=some (.string d.a.op)/\V.cell? ⟨b,off+k*9+1+1,none⟩=some (.string d.a.nm)/\V.cell? ⟨b,off+k*9+1+2,none⟩=some (.int .i64 d.a.n)/\V.cell? ⟨b,off+k*9+1+3,none⟩=some (.slice a1 d.a.ks.len c1)/\V.cell? ⟨b,off+k*9+5,none⟩=some (.string d.b.op)/\V.cell? ⟨b,off+k*9+5+1,none⟩=some (.string d.b.nm)/\V.cell? ⟨b,off+k*9+5+2,none⟩=some (.int .i64 d.b.n)/\V.cell? ⟨b,off+k*9+5+3,none⟩=some (.slice a2 d.b.ks.len c2))) (fun V hV=>by
                 have hbl:b<wr.heap.size:=by have:=World.block_lt_of_cell? wr _ p0;simpa using this
                 exact ⟨(hV.cell (p:=⟨b,_,none⟩) hbl).trans p0,(hV.cell (p:=⟨b,_,none⟩) hbl).trans p1,(hV.cell (p:=⟨b,_,none⟩) hbl).trans p2,(hV.cell (p:=⟨b,_,none⟩) hbl).trans p3,(hV.cell (p:=⟨b,_,none⟩) hbl).trans p4,(hV.cell (p:=⟨b,_,none⟩) hbl).trans p5,(hV.cell (p:=⟨b,_,none⟩) hbl).trans p6,(hV.cell (p:=⟨b,_,none⟩) hbl).trans p7,(hV.cell (p:=⟨b,_,none⟩) hbl).trans p8⟩)
                obtain ⟨z,hz⟩:∃ z,(aX d.op 0 0).isSome=z:=⟨_,rfl⟩;obtain ⟨y,hy⟩:∃ y,(aX d.op 0 0).getD false=y:=⟨_,rfl⟩;obtain ⟨e1,he1⟩:∃ e,aL d.a=e:=⟨_,rfl⟩;obtain ⟨e2,he2⟩:∃ e,aL d.b=e:=⟨_,rfl⟩;rw [hz,hy] at HO;rw [hz,he1,he2] at HD;rw [he1] at A1;rw [he2] at A2;rw [hwa.out] at m10;have b1:(k:Int)<(x.wh.length:Int):=by omega
                have b2:(0:Int)<=(k:Int):=by omega
                have b3:((k:Int)).toNat=k:=by omega
                clear hd hne hcc hdr hsz r1 r2 hz hy he1 he2;go_wp2_with fail
                refine (HO.out _).mono ?_;rintro e v1 ⟨rfl,rfl⟩;cases z with
                | false =>
                  have TR:=aA (show (5:Int)=r by rw [<- HD.out];rfl);go_wp2_with fail
                  go_ret;exact ⟨congrArg (fun z=>Ending.returned (.int .i64 z)) TR.out,HK.out.b⟩
                | true =>
                  have HD1:=aA (show (if e1=0 then (if e2=0 then c7 (x.wh.drop (k+1)) else e2) else e1)=r by rw [<- HD.out];rfl);clear HD;go_wp2_with fail
                  refine (A1.out wr (Below.refl _ _)).mono ?_;rintro e v2 ⟨rfl,hb⟩;have K2:=aA (HK.out.step hb);have B2:=aA hb;clear hb p0 p1 p2 p3 p4 p5 p6 p7 p8 m0 m1 m2 m3 m4 m5 m6 m7 m8 m9 m10;obtain ⟨m0,m1,m2,m3,m4,m5,m6,m7,m8,m9,m10⟩:=aC K2.out.n;obtain ⟨p0,p1,p2,p3,p4,p5,p6,p7,p8⟩:=CE.out v2 B2.out;rw [hwa.out] at m10;by_cases he:e1=0
                  · subst he
                    have HD2:=aA (show (if e2=0 then c7 (x.wh.drop (k+1)) else e2)=r by rw [<- HD1.out,if_pos rfl]);clear HD1;go_wp2_with fail
                    refine (A2.out v2 B2.out).mono ?_;rintro e v3 ⟨rfl,hb⟩;have K3:=aA (K2.out.step hb);clear hb;by_cases he:e2=0
                    · subst he
                      have HD3:=aA (show c7 (x.wh.drop (k+1))=r by rw [<- HD2.out,if_pos rfl]);go_wp2_with fail
                      go_roundw
                      case rel=>exact ⟨k+1,_,_,_,by go_num,rfl,rfl,rfl,by omega,HD3,K3⟩
                      case measure=>simp [intOf];omega
                    · have q1:(e2 == 0)=false:=by simpa using he
                      have q2:(e2 != 0)=true:=by simpa using he
                      have TR:=aA (show e2=r by rw [<- HD2.out,if_neg he]);go_wp2_with fail
                      go_ret;exact ⟨congrArg (fun z=>Ending.returned (.int .i64 z)) TR.out,K3.out.b⟩
                  · have q1:(e1 == 0)=false:=by simpa using he
                    have q2:(e1 != 0)=true:=by simpa using he
                    have TR:=aA (show e1=r by rw [<- HD1.out,if_neg he]);go_wp2_with fail
                    go_ret;exact ⟨congrArg (fun z=>Ending.returned (.int .i64 z)) TR.out,K2.out.b⟩
              · have TR:=aA (show (0:Int)=r by rw [<- HC.out,List.drop_of_length_le (by omega)];rfl)
                have b1:¬ (k:Int)<(x.wh.length:Int):=by omega
                go_wp2_with fail
                go_ret;exact ⟨congrArg (fun z=>Ending.returned (.int .i64 z)) TR.out,HK.out.b⟩
         · have q1:(ev == 0)=false:=by simpa using he
           have q2:(ev != 0)=true:=by simpa using he
           have TR:=aA (show ev=r by rw [<- HT.out,HEE.out,if_neg he]);obtain ⟨m0,m1,m2,m3,m4,m5,m6,m7,m8,m9,m10⟩:=aC K1.out.n;go_wp2_with fail
           go_ret;exact ⟨congrArg (fun z=>Ending.returned (.int .i64 z)) TR.out,K1.out.b⟩
end
end Go.Proofs.YtapcjnoaofmmiaaGreatDoor
