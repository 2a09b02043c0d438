/-
 No statement: what ProgTextsLift needs, of the texts QLawOf, ZTp, ZParse, ZProg, ZPSmall.
-/
import Derived.Test.YtgfkjkokmcejbaaGreatDoorVX13
set_option maxHeartbeats 40000000
set_option maxRecDepth 100000
open List renaming length_append -> Tb, length_eq_zero_iff -> Tg, length_take -> Th, mem_iff_getElem -> Tn
open Go.World renaming size_alloc -> Tc
open Nat renaming le_refl -> Td
open Go.Value renaming slice -> Tj
open Go.Lib renaming toList_data -> Tm
namespace Go.Proofs.YtgfkjkokmcejbaaGreatDoor
open Go.RowKit Tryz
structure SmG (x:AG):Prop where
 e:aR x.e<=1000
 g:aR x.g<=1000
 c:∀ d∈x.wh,aR d.a<=1000/\aR d.b<=1000
 wh:x.wh.length<=1000
abbrev GL (n X:Nat) (wa:Tp) (b:Nat):Prop:=n+1<b/\b ≠ X/\wa ≠ some ⟨b,0,none⟩
structure LOA (G:Nat->Prop) (w:World) (x:AG) (pa:PA) (X k:Nat) (p:PA) (qs:List QC) (V:World):Prop where
 b:Below w.heap.size w V
 bx:V.heap[w.heap.size]? = some (agP x pa)
 rs:V.heap[w.heap.size+1]? = some (agO aO aI)
 n:V.heap[X]? = some (agO { x with wh:=x.wh.take k } p)
 e:aK (GL w.heap.size X p.wa) V p.ea x.e.ks
 g:aK (GL w.heap.size X p.wa) V p.ga x.g.ks
 own:V.ownsRow (X+1) 133 9 (.slice p.wa k p.wc) k (cdL (x.wh.take k) qs)
 ql:qs.length=k
 kd:nE (GL w.heap.size X p.wa) V (x.wh.take k) qs
 lo:w.heap.size+1<X
 hz:X<V.heap.size
section
variable {G : Nat -> Prop} {w : World} {x : AG} {pa p : PA} {X k : Nat} {qs : List QC} {V V' : World}
theorem LOA.step (h:LOA G w x pa X k p qs V) (a:Below V.heap.size V V'):LOA G w x pa X k p qs V':=by
 have c:=aF a (fun _=>False);have f:=h.lo;have d:=h.hz;exact ⟨h.b.trans (a.mono (by omega)),(a.block _ (by omega)).trans h.bx,(a.block _ (by omega)).trans h.rs,(a.block _ h.hz).trans h.n,h.e.keptS c (fun _ h=>h.elim),h.g.keptS c (fun _ h=>h.elim),cK h.own a,h.ql,h.kd.keptS c (fun _ h=>h.elim),h.lo,Nat.lt_of_lt_of_le h.hz a.size⟩
theorem LOA.wlo (h:LOA G w x pa X k p qs V) {b:Nat} (a:(Tj p.wa k p.wc).ownBlock=some b):X+1<=b:=(h.own.lt b a).1
theorem LOA.fresh (h:LOA G w x pa X k p qs V) {b:Nat} (a:V.heap.size<=b):GL w.heap.size X p.wa b:=by
 have d:=h.lo;have c:=h.hz;refine ⟨by omega,by omega,fun e=>?_⟩;have:=(h.own.lt b (by rw [e];rfl)).2;omega
theorem LOA.push (h:LOA G w x pa X k p qs V) {d:CD} {q:QC} {j:Tp} {m:Nat} (hd:x.wh[k]? = some d) (f:aC (fun b=>(Tj p.wa k p.wc).ownBlock=some b) V V')
 (y:V'.ownsRow (X+1) 133 9 (.slice j (k+1) m) (k+1) (cdL (x.wh.take k) qs++e7 d q))
 (r:∀ b,(Tj j (k+1) m).ownBlock=some b->(Tj p.wa k p.wc).ownBlock=some b\/V.heap.size<=b)
 (C:aK (GL w.heap.size X p.wa) V q.a1 d.a.ks) (B:aK (GL w.heap.size X p.wa) V q.a2 d.b.ks) :
 LOA G w x pa X (k+1) { p with wa:=j,wc:=m } (qs++[q]) (V'.setCell ⟨X,10,none⟩ (.slice j (k+1) m)):=by
 have D:=h.lo;have L:=h.hz
 have own:∀ b,(Tj p.wa k p.wc).ownBlock=some b->p.wa=some ⟨b,0,none⟩:=fun b l=>by
  rcases h.own.2 with ⟨u,_⟩ | ⟨g,I,E,u,_⟩
  · rw [u] at l;cases l
  · rw [u] at l
    cases l;simp only [Value.slice.injEq] at u;exact u.1
 have o:∀ b,j=some ⟨b,0,none⟩->(Tj j (k+1) m).ownBlock=some b:=fun b l=>by rw [l];rfl
 have lo:=fun b l=>h.wlo (b:=b) l
 have s:x.wh.take (k+1)=x.wh.take k++[d]:=by
  obtain ⟨hl,e⟩:=List.getElem?_eq_some_iff.1 hd;rw [List.take_succ_eq_append_getElem hl,e]
 have t:(x.wh.take k).length=k:=by rw [Th];have:=(List.getElem?_eq_some_iff.1 hd).1;omega
 have z:(x.wh.take (k+1)).length=k+1:=by rw [s,Tb,t];rfl
 have KS:=(aC.refl (· = X) V').setCell (p:=⟨X,10,none⟩) (.inl rfl) (.slice j (k+1) m);have n1:=f.heap h.n (fun e=>by have:=lo _ e;omega)
 have A:(V'.setCell ⟨X,10,none⟩ (.slice j (k+1) m)).heap[X]? = some (agO { x with wh:=x.wh.take (k+1) } { p with wa:=j,wc:=m }):=by
  have:=heap_setCell_same V' X 10 _ _ (.slice j (k+1) m) n1;rw [show agO { x with wh:=x.wh.take (k+1) } { p with wa:=j,wc:=m }=.cells #[.string x.fn,.int .i64 x.k,.string x.e.op,.string x.e.nm,.int .i64 x.e.n,.slice p.ea x.e.ks.len p.ec,.string x.g.op,.string x.g.nm,.int .i64 x.g.n,.slice p.ga x.g.ks.len p.gc,.slice j (k+1) m] 82 by show Obj.cells #[_,_,_,_,_,_,_,_,_,_,.slice j (x.wh.take (k+1)).length m] _=_;rw [z]];simpa using this
 have kd:=h.kd.snoc (by rw [t];exact h.ql) C B;refine ⟨(h.b.trans (f.below (fun b l=>by have:=lo b l;omega) (by omega))).trans (KS.below (fun b l=>by omega) (by have:=f.size;omega)),KS.heap (f.heap h.bx (fun e=>by have:=lo _ e;omega)) (by omega),KS.heap (f.heap h.rs (fun e=>by have:=lo _ e;omega)) (by omega),A,?_,?_,?_,by rw [Tb,h.ql];rfl,?_,D,by rw [World.size_setCell];exact Nat.lt_of_lt_of_le h.hz f.size⟩
 · exact ((h.e.imp (H:=fun b=>GL w.heap.size X p.wa b/\j ≠ some ⟨b,0,none⟩) (fun b l c=>⟨c,fun e=>by
    rcases r b (o b e) with h | h
    · exact c.2.2 (own b h)
    · omega⟩)).keptS f (fun k f c=>c.1.2.2 (own k f))).keptS KS (fun k f c=>c.1.2.1 f) |>.imp (fun b _ c=>⟨c.1.1,c.1.2.1,c.2⟩)
 · exact ((h.g.imp (H:=fun b=>GL w.heap.size X p.wa b/\j ≠ some ⟨b,0,none⟩) (fun b l c=>⟨c,fun e=>by
    rcases r b (o b e) with h | h
    · exact c.2.2 (own b h)
    · omega⟩)).keptS f (fun k f c=>c.1.2.2 (own k f))).keptS KS (fun k f c=>c.1.2.1 f) |>.imp (fun b _ c=>⟨c.1.1,c.1.2.1,c.2⟩)
 · rw [s,xA _ _ _ _ (by rw [t];exact h.ql)]
   have e:cdL [d] [q]=e7 d q:=by simp [cdL]
   rw [e];exact iI y (by omega) _ _
 · rw [s]
   exact ((kd.imp (H:=fun b=>GL w.heap.size X p.wa b/\j ≠ some ⟨b,0,none⟩) (fun b l c=>⟨c,fun e=>by
    rcases r b (o b e) with h | h
    · exact c.2.2 (own b h)
    · omega⟩)).keptS f (fun k f c=>c.1.2.2 (own k f))).keptS KS (fun k f c=>c.1.2.1 f) |>.imp (fun b _ c=>⟨c.1.1,c.1.2.1,c.2⟩)
theorem LOA.done (h:LOA G w x pa X x.wh.length p qs V):aX (fun b=>w.heap.size<=b) (eJ V (w.heap.size+1) x p) x p/\Below w.heap.size w (eJ V (w.heap.size+1) x p):=by
 have n:=h.lo;have m:=h.hz;have c:=bL V (w.heap.size+1) x p;have own:=h.own;have kd:=h.kd;rw [List.take_length] at own kd;refine ⟨⟨(h.e.keptS c (fun k f a=>by have:=a.1;omega)).imp (fun b _ a=>by have:=a.1;omega),(h.g.keptS c (fun k f a=>by have:=a.1;omega)).imp (fun b _ a=>by have:=a.1;omega),?_⟩,h.b.trans (c.below (fun b d=>by omega) (by omega))⟩;exact sA (eZ (row:=some (w.heap.size+1)) own (c.mono (fun i j _=>by rw [j])) (fun b d l=>by have:=h.wlo d;have:=Option.some.inj l;omega)) h.ql ((kd.keptS c (fun k f a=>by have:=a.1;omega)).imp (fun b _ a=>by have:=a.1;omega)) (fun b d=>by have:=h.wlo (b:=b) (by rw [d];rfl);omega)
end
abbrev agZ:Obj:=(.cells #[.string ⟨#[]⟩,.int .i64 0,.string ⟨#[]⟩,.string ⟨#[]⟩,.int .i64 0,.slice none 0 0,.string ⟨#[]⟩,.string ⟨#[]⟩,.int .i64 0,.slice none 0 0,.slice none 0 0] 82)
section
variable {G : Nat -> Prop} {w W V : World} {x : AG} {pa : PA} {X : Nat} {a3 a4 : Tp} {c3 c4 : Nat}
theorem Hv (t:KP9 G w x pa W) (s:W.heap[w.heap.size+1]? = some (agO aO aI)) (y:W.heap.size=w.heap.size+2) (B:Below W.heap.size W V) (m:V.heap[X]? = some agZ) (p:w.heap.size+1<X)
 (e:aK (fun b=>w.heap.size+1<b/\b ≠ X) V a3 x.e.ks) (g:aK (fun b=>w.heap.size+1<b/\b ≠ X) V a4 x.g.ks):LOA G w x pa X 0 ⟨a3,c3,a4,c4,none,0⟩ [] (eJ V X ⟨x.fn,x.k,x.e,x.g,[]⟩ ⟨a3,c3,a4,c4,none,0⟩):=by
 have f:=t.step B;have c:=bL V X ⟨x.fn,x.k,x.e,x.g,[]⟩ ⟨a3,c3,a4,c4,none,0⟩;have h:=aG m;have o:=aG f.n;refine ⟨f.b.trans (c.below (fun b u=>by omega) f.z),c.heap f.n (by omega),c.heap ((B.block _ (by omega)).trans s) (by omega),cF m ⟨x.fn,x.k,x.e,x.g,[]⟩ ⟨a3,c3,a4,c4,none,0⟩,?_,?_,⟨rfl,.inl ⟨rfl,rfl⟩⟩,rfl,fun j d q r _=>by simp at r,p,Nat.lt_of_lt_of_le h c.size⟩
 · exact (e.keptS c (fun k l a=>a.2 l)).imp (fun b _ a=>⟨a.1,a.2,fun e=>by cases e⟩)
 · exact (g.keptS c (fun k l a=>a.2 l)).imp (fun b _ a=>⟨a.1,a.2,fun e=>by cases e⟩)
theorem Jh (o:KP9 G w x pa W) (m:W.heap[w.heap.size+1]? = some (agO aO aI)) (p:W.heap.size=w.heap.size+2) (B:Below W.heap.size W V)
 (e:aK (fun b=>w.heap.size+1<b/\b<V.heap.size) V a3 x.e.ks) (g:aK (fun b=>w.heap.size+1<b/\b<V.heap.size) V a4 x.g.ks):LOA G w x pa V.heap.size 0 ⟨a3,c3,a4,c4,none,0⟩ [] (V.alloc (agO ⟨x.fn,x.k,x.e,x.g,[]⟩ ⟨a3,c3,a4,c4,none,0⟩)):=by
 have f:=o.step B;have a:=bA0 V (agO ⟨x.fn,x.k,x.e,x.g,[]⟩ ⟨a3,c3,a4,c4,none,0⟩);have h:=aG f.n;have hz:=B.size;refine ⟨(f.step a).b,(f.step a).n,(a.block _ (by omega)).trans ((B.block _ (by omega)).trans m),heap_alloc_new V _,?_,?_,⟨rfl,.inl ⟨rfl,rfl⟩⟩,rfl,fun j d q l _=>by simp at l,by omega,by rw [Tc];omega⟩
 · exact (e.kept a).imp (fun b _ c=>⟨c.1,by omega,fun e=>by cases e⟩)
 · exact (g.kept a).imp (fun b _ c=>⟨c.1,by omega,fun e=>by cases e⟩)
end
theorem yZ {a c:World} {o:Obj} (h:Below (a.alloc o).heap.size (a.alloc o) c):aC (fun b=>a.heap.size<=b) a c :=
 (aF (bA0 _ o) _).trans (aF h _) (fun _ d _=>d)
theorem SA {B:Nat} {w w':World} (h:Below B w w'):Below B w w'.drew:=⟨h.os,h.tape,h.output,h.size,h.block⟩
theorem NJ (W:World):Below W.heap.size W (W.alloc agZ).drew:=SA (bA0 _ _)
theorem Lh (W:World):(W.alloc agZ).drew.heap.size=W.heap.size+1:=Tc _ _
theorem Pj (W:World) {a:World} (b:Below (W.alloc agZ).drew.heap.size (W.alloc agZ).drew a):a.heap[W.heap.size]? = some agZ :=
 (b.block W.heap.size (by rw [Lh];exact Nat.lt_succ_self _)).trans (heap_alloc_new W agZ)
theorem Mi {G:Nat->Prop} (x:AG) (pa:PA) (w:World) (hS:SmG x) (hr:aX G w x pa):Calls prog 67 #[agV x pa] w fun e w'=>∃ p,e=.returned (agV x p)/\aX (fun b=>w.heap.size<=b) w' x p/\Below w.heap.size w w':=by
 have ja:(w.alloc (agP x pa)).heap.size=w.heap.size+1:=Tc _ _;have K0:=qS hr;generalize ju:w.alloc (agP x pa)=W1 at K0 ja;have BA:=bA0 W1 (agO aO aI);have n2:=heap_alloc_new W1 (agO aO aI);have jc:(W1.alloc (agO aO aI)).heap.size=w.heap.size+2:=by rw [Tc,ja]
 rw [ja] at n2;have K1:=K0.step BA;generalize hW:W1.alloc (agO aO aI)=W at K1 n2 jc;have jx:=aA ju;have HW:=aA hW;have HK:=aA K1;have HN:=aA n2;have HZ:=aA jc;have HS:=aA hS;have RD:=aA hr;have C1:=aA (fun V (T:Below W.heap.size W V)=>wW x.e G V pa.ea pa.ec hS.e (HK.out.r.e.kept T));have C2:=aA (fun V (T:Below W.heap.size W V)=>wW x.g G V pa.ga pa.gc hS.g (HK.out.r.g.kept T));have kh:=hS.wh;clear ju hW K0 K1 BA n2 ja jc hS hr;obtain ⟨m0,m1,m2,m3,m4,m5,m6,m7,m8,m9,l⟩:=aE HK.out.n
 have CL:=aA (p:=∀ V,Below W.heap.size W V->(V.cell? ⟨w.heap.size,0,none⟩=some (.string x.fn)/\V.cell? ⟨w.heap.size,1,none⟩=some (.int .i64 x.k)/\V.cell? ⟨w.heap.size,2,none⟩=some (.string x.e.op)/\V.cell? ⟨w.heap.size,2+1,none⟩=some (.string x.e.nm)/\V.cell? ⟨w.heap.size,2+2,none⟩=some (.int .i64 x.e.n)/\V.cell? ⟨w.heap.size,2+3,none⟩=some (.slice pa.ea x.e.ks.len pa.ec)/\V.cell? ⟨w.heap.size,6,none⟩=some (.string x.g.op)/\V.cell? ⟨w.heap.size,6+1,none⟩=some (.string x.g.nm)/\V.cell? ⟨w.heap.size,6+2,none⟩=some (.int .i64 x.g.n)/\V.cell? ⟨w.heap.size,6+3,none⟩=some (.slice pa.ga x.g.ks.len pa.gc))) (fun V T=>by
  obtain ⟨m0,m1,m2,m3,m4,m5,m6,m7,m8,m9,l⟩:=aE (HK.out.step T).n;exact ⟨m0,m1,m2,m3,m4,m5,m6,m7,m8,m9⟩)
 go_enter func67,ntmps67
 go_upto_region 1 with fail
 rw [jx.out,show W1.alloc (.cells #[.string ⟨#[]⟩,.int .i64 0,.string ⟨#[]⟩,.string ⟨#[]⟩,.int .i64 0,.slice none 0 0,.string ⟨#[]⟩,.string ⟨#[]⟩,.int .i64 0,.slice none 0 0,.slice none 0 0] 82)=W from HW.out];clear jx HW;go_cut [3] (fun v wc=>∃ (X:Nat) (p:PA),v=.pointer (some ⟨X,0,none⟩)/\Hid (LOA G w x pa X 0 p [] wc))
 case first =>
  go_region_held3 (fun V=>V.cell? ⟨w.heap.size,0,none⟩=some (.string x.fn)/\V.cell? ⟨w.heap.size,1,none⟩=some (.int .i64 x.k)/\V.cell? ⟨w.heap.size,2,none⟩=some (.string x.e.op)/\V.cell? ⟨w.heap.size,2+1,none⟩=some (.string x.e.nm)/\V.cell? ⟨w.heap.size,2+2,none⟩=some (.int .i64 x.e.n)/\V.cell? ⟨w.heap.size,2+3,none⟩=some (.slice pa.ea x.e.ks.len pa.ec)/\V.cell? ⟨w.heap.size,6,none⟩=some (.string x.g.op)/\V.cell? ⟨w.heap.size,6+1,none⟩=some (.string x.g.nm)/\V.cell? ⟨w.heap.size,6+2,none⟩=some (.int .i64 x.g.n)/\V.cell? ⟨w.heap.size,6+3,none⟩=some (.slice pa.ga x.g.ks.len pa.gc)) (first | with_reducible assumption | with_reducible exact ⟨m0,m1,m2,m3,m4,m5,m6,m7,m8,m9⟩ | with_reducible exact CL.out _ (B3.out.alloc B3.out.size _) | with_reducible exact CL.out _ (B4.out.alloc B4.out.size _) | with_reducible exact CL.out _ (aT W) | with_reducible exact CL.out _ (NJ W)) (first
   | (go_at_call 125
      with_reducible refine (C1.out _ (aT W)).mono ?_
      rintro e w3 ⟨a3,c3,rfl,r3,j⟩;have B3:=aA ((aT W).trans j);have R3:=aA (show aK (fun b=>W.heap.size<=b) w3 a3 x.e.ks from r3);have cc:=CL.out _ B3.out;clear j r3)
   | (go_at_call 125
      with_reducible refine (C1.out _ (NJ W)).mono ?_
      rintro e w3 ⟨a3,c3,rfl,r3,j⟩;have NX:=aA (Pj W j);have B3:=aA ((NJ W).trans (j.mono (by rw [Lh];exact Nat.le_succ _)));have R3:=aA (aK.imp (G:=fun b=>(W.alloc agZ).drew.heap.size<=b) (H:=fun b=>W.heap.size+1<=b) r3 (fun b _ h=>by have h2:(W.alloc agZ).drew.heap.size<=b:=h;rw [Lh] at h2;exact h2));have cc:=CL.out _ B3.out;clear j r3)
   | (go_at_call 125
      with_reducible refine (C2.out w3 B3.out).mono ?_
      rintro e w4 ⟨a4,c4,rfl,r4,j⟩;have B4:=aA (B3.out.trans (j.mono B3.out.size));have HB:=aA j;have R4:=aA (show aK (fun b=>w3.heap.size<=b) w4 a4 x.g.ks from r4);have cd:=CL.out _ B4.out;have NY:=aA ((j.block _ (aG NX.out)).trans NX.out);have BS:=B4.out.trans ((bL w4 W.heap.size ⟨x.fn,x.k,x.e,x.g,[]⟩ ⟨a3,c3,a4,c4,none,0⟩).below (B:=W.heap.size) (fun b j=>by rw [j];first | exact Td _ | exact B3.out.size) B4.out.size);have CS:=CL.out _ BS;dsimp only [eJ,List.length_nil] at CS;clear BS;obtain ⟨u0,u1,u2,u3,u4,u5,u6,u7,u8,u9,u10⟩:=aE NY.out;obtain ⟨z0,z1,z2,z3,z4,z5,z6,z7,z8,z9,je⟩:=bI NY.out;clear j r4)
   | (go_at_call 125
      with_reducible refine (C2.out w3 B3.out).mono ?_
      rintro e w4 ⟨a4,c4,rfl,r4,j⟩;have B4:=aA (B3.out.trans (j.mono B3.out.size));have HB:=aA j;have R4:=aA (show aK (fun b=>w3.heap.size<=b) w4 a4 x.g.ks from r4);have cd:=CL.out _ B4.out;have NZ:=aA (heap_alloc_new w4 agZ);obtain ⟨u0,u1,u2,u3,u4,u5,u6,u7,u8,u9,u10⟩:=aE NZ.out;obtain ⟨z0,z1,z2,z3,z4,z5,z6,z7,z8,z9,je⟩:=bI NZ.out;clear j r4)
   | (go_at_call 125
      with_reducible refine (C2.out _ (B3.out.alloc B3.out.size agZ)).mono ?_
      rintro e w4 ⟨a4,c4,rfl,r4,j⟩;have B4:=aA ((B3.out.alloc B3.out.size agZ).trans (j.mono (by rw [Tc];exact Nat.le_succ_of_le B3.out.size)));have HB:=aA j;have R4:=aA (show aK (fun b=>(w3.alloc agZ).heap.size<=b) w4 a4 x.g.ks from r4);have cd:=CL.out _ B4.out;have NY:=aA ((j.block _ (aG (heap_alloc_new w3 agZ))).trans (heap_alloc_new w3 agZ));have BS:=B4.out.trans ((bL w4 w3.heap.size ⟨x.fn,x.k,x.e,x.g,[]⟩ ⟨a3,c3,a4,c4,none,0⟩).below (B:=W.heap.size) (fun b j=>by rw [j];first | exact Td _ | exact B3.out.size) B4.out.size);have CS:=CL.out _ BS;dsimp only [eJ,List.length_nil] at CS;clear BS;obtain ⟨u0,u1,u2,u3,u4,u5,u6,u7,u8,u9,u10⟩:=aE NY.out;obtain ⟨z0,z1,z2,z3,z4,z5,z6,z7,z8,z9,je⟩:=bI NY.out;clear j r4)
   | fail)
  all_goals
   go_wp2_with fail
   go_meet
   case rel=>first
    | (have hq:=NX;clear hq;exact ⟨W.heap.size,⟨a3,c3,a4,c4,none,0⟩,rfl,aA (Hv HK.out HN.out HZ.out B4.out NY.out (by have:=HZ.out;omega) ((R3.out.kept HB.out).imp (fun b _ j=>by have h:W.heap.size+1<=b:=j;have:=HZ.out;exact ⟨by omega,by omega⟩)) (R4.out.imp (fun b _ j=>by have h:w3.heap.size<=b:=j;have:=HZ.out;have:=aG NX.out;exact ⟨by omega,by omega⟩)))⟩)
    | (have hq:=NZ;clear hq;exact ⟨w4.heap.size,⟨a3,c3,a4,c4,none,0⟩,rfl,aA (Jh HK.out HN.out HZ.out B4.out ((R3.out.kept HB.out).imp (fun b hl j=>by have h:W.heap.size<=b:=j;have:=HZ.out;exact ⟨by omega,by omega⟩)) (R4.out.imp (fun b hl j=>by have h:w3.heap.size<=b:=j;have:=HZ.out;have:=B3.out.size;exact ⟨by omega,by omega⟩)))⟩)
    | exact ⟨w3.heap.size,⟨a3,c3,a4,c4,none,0⟩,rfl,aA (Hv HK.out HN.out HZ.out B4.out NY.out (by have:=HZ.out;have:=B3.out.size;omega) ((aK.imp (H:=fun b=>W.heap.size<=b/\b<w3.heap.size) R3.out (fun b hl j=>⟨j,hl⟩)).keptS (S:=fun b=>w3.heap.size<=b) (yZ HB.out) (fun k hk hg=>by have h:w3.heap.size<=k:=hk;omega) |>.imp (fun b _ j=>by have:=HZ.out;exact ⟨by omega,by omega⟩)) (R4.out.imp (fun b _ j=>by have h:(w3.alloc agZ).heap.size<=b:=j;rw [Tc] at h;have:=HZ.out;have:=B3.out.size;exact ⟨by omega,by omega⟩)))⟩
 case rest =>
  obtain ⟨X,pz,rfl,L0⟩:=hcut;clear C1 C2 CL HK HN HZ m0 m1 m2 m3 m4 m5 m6 m7 m8 m9 l;go_wp2_with fail
  go_loopw [4] (fun i wr=>∃ (k:Nat) (p:PA) (qs:List QC),i=.int .i64 k/\k<=x.wh.length/\Hid (LOA G w x pa X k p qs wr)) (fun i _=>x.wh.length-(intOf i).toNat)
  case atStart=>exact ⟨0,pz,[],rfl,Nat.zero_le _,L0⟩
  case round =>
   obtain ⟨k,p,qs,rfl,hk,U⟩:=hrel;clear L0;by_cases jq:k<x.wh.length
   · obtain ⟨d,hd⟩:∃ d,x.wh[k]? = some d:=⟨_,List.getElem?_eq_getElem jq⟩
     have jr:¬ x.wh=[]:=fun e=>by rw [e] at jq;simp at jq
     obtain ⟨b,off,jz, -,jb,jt⟩:=RD.out.c.resolve_left jr;obtain ⟨a1,c1,a2,c2,⟨P,O,N,M,L,I,E,D,C⟩,r1,r2⟩:=jt k d hd;have jp:=HS.out.c d (List.mem_of_getElem? hd);obtain ⟨-, -, -, -, -, -, -, -, -, -,jg⟩:=aE U.out.n;have js:(x.wh.take k).length=k:=by rw [Th];omega
     have jo:wr.cell? ⟨X,10,none⟩=some (.slice p.wa k p.wc):=by rw [jg];show some (Tj p.wa (x.wh.take k).length p.wc)=_;rw [js]
     clear jg;have jg:=jo;clear jo
     have CS:=aA (p:=∀ V,Below w.heap.size w V->V.heap[w.heap.size]? = some (agP x pa)->(V.cell? ⟨w.heap.size,10,none⟩=some (.slice (some ⟨b,off,none⟩) x.wh.length pa.wc)/\V.cell? ⟨b,off+k*9,none⟩=some (.string d.op)/\V.cell? ⟨b,off+k*9+1,none⟩=some (.string d.a.op)/\V.cell? ⟨b,off+k*9+1+1,none⟩=some (.string d.a.nm)/\V.cell? ⟨b,off+k*9+1+2,none⟩=some (.int .i64 d.a.n)/\V.cell? ⟨b,off+k*9+1+3,none⟩=some (.slice a1 d.a.ks.len c1)/\V.cell? ⟨b,off+k*9+5,none⟩=some (.string d.b.op)/\V.cell? ⟨b,off+k*9+5+1,none⟩=some (.string d.b.nm)/\V.cell? ⟨b,off+k*9+5+2,none⟩=some (.int .i64 d.b.n)/\V.cell? ⟨b,off+k*9+5+3,none⟩=some (.slice a2 d.b.ks.len c2))) (fun V T hn=>by
      obtain ⟨-, -, -, -, -, -, -, -, -, -,l⟩:=aE hn;rw [jz] at l;exact ⟨l,(T.cell (p:=⟨b,_,none⟩) jb).trans P,(T.cell (p:=⟨b,_,none⟩) jb).trans O,(T.cell (p:=⟨b,_,none⟩) jb).trans N,(T.cell (p:=⟨b,_,none⟩) jb).trans M,(T.cell (p:=⟨b,_,none⟩) jb).trans L,(T.cell (p:=⟨b,_,none⟩) jb).trans I,(T.cell (p:=⟨b,_,none⟩) jb).trans E,(T.cell (p:=⟨b,_,none⟩) jb).trans D,(T.cell (p:=⟨b,_,none⟩) jb).trans C⟩)
     have BV:=aA (fun V (T:Below wr.heap.size wr V)=>U.out.b.trans (T.mono U.out.b.size));have CL:=aA (p:=∀ V,Below wr.heap.size wr V->(V.cell? ⟨w.heap.size,10,none⟩=some (.slice (some ⟨b,off,none⟩) x.wh.length pa.wc)/\V.cell? ⟨b,off+k*9,none⟩=some (.string d.op)/\V.cell? ⟨b,off+k*9+1,none⟩=some (.string d.a.op)/\V.cell? ⟨b,off+k*9+1+1,none⟩=some (.string d.a.nm)/\V.cell? ⟨b,off+k*9+1+2,none⟩=some (.int .i64 d.a.n)/\V.cell? ⟨b,off+k*9+1+3,none⟩=some (.slice a1 d.a.ks.len c1)/\V.cell? ⟨b,off+k*9+5,none⟩=some (.string d.b.op)/\V.cell? ⟨b,off+k*9+5+1,none⟩=some (.string d.b.nm)/\V.cell? ⟨b,off+k*9+5+2,none⟩=some (.int .i64 d.b.n)/\V.cell? ⟨b,off+k*9+5+3,none⟩=some (.slice a2 d.b.ks.len c2))) (fun V T=>CS.out V (BV.out V T) ((T.block _ (aG U.out.bx)).trans U.out.bx));have XC:=aA (p:=∀ V,Below wr.heap.size wr V->V.cell? ⟨X,10,none⟩=some (.slice p.wa k p.wc)) (fun V T=>(T.cell (p:=⟨X,_,none⟩) U.out.hz).trans jg);have D1:=aA (fun V (T:Below wr.heap.size wr V)=>wW d.a G V a1 c1 jp.1 (r1.kept (BV.out V T)));have D2:=aA (fun V (T:Below wr.heap.size wr V)=>wW d.b G V a2 c2 jp.2 (r2.kept (BV.out V T)));have jl:=underlying80;obtain ⟨i,zv,hi,jn,ja,jc,jm⟩:=EI;have HD:=aA hd;have b1:(k:Int)<(x.wh.length:Int):=by omega
     have b2:(0:Int)<=(k:Int):=by omega
     have b3:((k:Int)).toNat=k:=by omega
     have jd:=aA (show k<1000 by omega);clear jr jt hd jp r1 r2 js jg P O N M L I E D C;obtain ⟨-, -, -, -, -, -, -, -, -, -,l⟩:=aE U.out.bx;go_upto_region 5 with fail
     clear l;refine wp_region_held (S:=fun V=>V.cell? ⟨w.heap.size,10,none⟩=some (.slice (some ⟨b,off,none⟩) x.wh.length pa.wc)/\V.cell? ⟨b,off+k*9,none⟩=some (.string d.op)/\V.cell? ⟨b,off+k*9+1,none⟩=some (.string d.a.op)/\V.cell? ⟨b,off+k*9+1+1,none⟩=some (.string d.a.nm)/\V.cell? ⟨b,off+k*9+1+2,none⟩=some (.int .i64 d.a.n)/\V.cell? ⟨b,off+k*9+1+3,none⟩=some (.slice a1 d.a.ks.len c1)/\V.cell? ⟨b,off+k*9+5,none⟩=some (.string d.b.op)/\V.cell? ⟨b,off+k*9+5+1,none⟩=some (.string d.b.nm)/\V.cell? ⟨b,off+k*9+5+2,none⟩=some (.int .i64 d.b.n)/\V.cell? ⟨b,off+k*9+5+3,none⟩=some (.slice a2 d.b.ks.len c2)) (by kernel_rfl) ?_;have s:(fun V:World=>V.cell? ⟨w.heap.size,10,none⟩=some (.slice (some ⟨b,off,none⟩) x.wh.length pa.wc)/\V.cell? ⟨b,off+k*9,none⟩=some (.string d.op)/\V.cell? ⟨b,off+k*9+1,none⟩=some (.string d.a.op)/\V.cell? ⟨b,off+k*9+1+1,none⟩=some (.string d.a.nm)/\V.cell? ⟨b,off+k*9+1+2,none⟩=some (.int .i64 d.a.n)/\V.cell? ⟨b,off+k*9+1+3,none⟩=some (.slice a1 d.a.ks.len c1)/\V.cell? ⟨b,off+k*9+5,none⟩=some (.string d.b.op)/\V.cell? ⟨b,off+k*9+5+1,none⟩=some (.string d.b.nm)/\V.cell? ⟨b,off+k*9+5+2,none⟩=some (.int .i64 d.b.n)/\V.cell? ⟨b,off+k*9+5+3,none⟩=some (.slice a2 d.b.ks.len c2)) wr.drew:=CL.out _ (aT wr);have x4:=XC.out _ (aT wr);refine aB (i:=0) (d:=some 23) (v:=.pointer (some ⟨X,10,none⟩)) rfl rfl (by kernel_rfl) (by kernel_rfl) (by kernel_rfl) (fun _ _ _ h=>h) (Or.inl ⟨by rfl,by rintro w ⟨l,P,O,N,M,L,I,E,D,C⟩;go_simp⟩) s ?_;simp only [Act.put,S7,S9,Ta];refine aB (i:=2) (d:=some 25) (v:=.pointer (some ⟨w.heap.size,10,none⟩)) rfl rfl (by kernel_rfl) (by kernel_rfl) (by kernel_rfl) (fun _ _ _ h=>h) (Or.inl ⟨by rfl,by rintro w ⟨l,P,O,N,M,L,I,E,D,C⟩;go_simp⟩) s ?_
     simp only [Act.put,S7,S9,Ta];refine aB (i:=3) (d:=some 26) (v:=.slice (some ⟨b,off,none⟩) x.wh.length pa.wc) rfl rfl (by kernel_rfl) (by kernel_rfl) (by kernel_rfl) (fun _ _ _ h=>h) (Or.inl ⟨by rfl,by rintro w ⟨l,P,O,N,M,L,I,E,D,C⟩;go_simp⟩) s ?_;simp only [Act.put,S7,S9,Ta];refine aB (i:=4) (d:=some 27) (v:=.int .i64 (k:Nat)) rfl rfl (by kernel_rfl) (by kernel_rfl) (by kernel_rfl) (fun _ _ _ h=>h) (Or.inl ⟨by rfl,by rintro w ⟨l,P,O,N,M,L,I,E,D,C⟩;go_simp⟩) s ?_;simp only [Act.put,S7,S9,Ta];refine aB (i:=5) (d:=some 28) (v:=.pointer (some ⟨b,off+k*9,none⟩)) rfl rfl (by kernel_rfl) (by kernel_rfl) (by kernel_rfl) (fun _ _ _ h=>h) (Or.inl ⟨by rfl,by rintro w ⟨l,P,O,N,M,L,I,E,D,C⟩;go_simp⟩) s ?_;simp only [Act.put,S7,S9,Ta];refine aB (i:=6) (d:=some 29) (v:=.pointer (some ⟨b,off+k*9,none⟩)) rfl rfl (by kernel_rfl) (by kernel_rfl) (by kernel_rfl) (fun _ _ _ h=>h) (Or.inl ⟨by rfl,by rintro w ⟨l,P,O,N,M,L,I,E,D,C⟩;go_simp⟩) s ?_;simp only [Act.put,S7,S9,Ta];refine aB (i:=7) (d:=some 30) (v:=.string d.op) rfl rfl (by kernel_rfl) (by kernel_rfl) (by kernel_rfl) (fun _ _ _ h=>h) (Or.inl ⟨by rfl,by rintro w ⟨l,P,O,N,M,L,I,E,D,C⟩;go_simp⟩) s ?_;simp only [Act.put,S7,S9,Ta];refine aB (i:=8) (d:=some 31) (v:=.pointer (some ⟨w.heap.size,10,none⟩)) rfl rfl (by kernel_rfl) (by kernel_rfl) (by kernel_rfl) (fun _ _ _ h=>h) (Or.inl ⟨by rfl,by rintro w ⟨l,P,O,N,M,L,I,E,D,C⟩;go_simp⟩) s ?_;simp only [Act.put,S7,S9,Ta];refine aB (i:=9) (d:=some 32) (v:=.slice (some ⟨b,off,none⟩) x.wh.length pa.wc) rfl rfl (by kernel_rfl) (by kernel_rfl) (by kernel_rfl) (fun _ _ _ h=>h) (Or.inl ⟨by rfl,by rintro w ⟨l,P,O,N,M,L,I,E,D,C⟩;go_simp⟩) s ?_
     simp only [Act.put,S7,S9,Ta];refine aB (i:=10) (d:=some 33) (v:=.int .i64 (k:Nat)) rfl rfl (by kernel_rfl) (by kernel_rfl) (by kernel_rfl) (fun _ _ _ h=>h) (Or.inl ⟨by rfl,by rintro w ⟨l,P,O,N,M,L,I,E,D,C⟩;go_simp⟩) s ?_;simp only [Act.put,S7,S9,Ta];refine aB (i:=11) (d:=some 34) (v:=.pointer (some ⟨b,off+k*9,none⟩)) rfl rfl (by kernel_rfl) (by kernel_rfl) (by kernel_rfl) (fun _ _ _ h=>h) (Or.inl ⟨by rfl,by rintro w ⟨l,P,O,N,M,L,I,E,D,C⟩;go_simp⟩) s ?_;simp only [Act.put,S7,S9,Ta];refine aB (i:=12) (d:=some 35) (v:=.pointer (some ⟨b,off+k*9+1,none⟩)) rfl rfl (by kernel_rfl) (by kernel_rfl) (by kernel_rfl) (fun _ _ _ h=>h) (Or.inl ⟨by rfl,by rintro w ⟨l,P,O,N,M,L,I,E,D,C⟩;go_simp⟩) s ?_;simp only [Act.put,S7,S9,Ta];refine aB (i:=13) (d:=some 36) (v:=bN d.a.op d.a.nm d.a.n a1 d.a.ks.len c1) rfl rfl (by kernel_rfl) (by kernel_rfl) (by kernel_rfl) (fun _ _ _ h=>h) (Or.inl ⟨by rfl,by rintro w ⟨l,P,O,N,M,L,I,E,D,C⟩;go_simp⟩) s ?_;simp only [Act.put,S7,S9,Ta];refine aB (i:=15) (d:=some 38) (v:=.pointer (some ⟨w.heap.size,10,none⟩)) rfl rfl (by kernel_rfl) (by kernel_rfl) (by kernel_rfl) (fun _ _ _ h=>h) (Or.inl ⟨by rfl,by rintro w ⟨l,P,O,N,M,L,I,E,D,C⟩;go_simp⟩) s ?_;simp only [Act.put,S7,S9,Ta];refine aB (i:=16) (d:=some 39) (v:=.slice (some ⟨b,off,none⟩) x.wh.length pa.wc) rfl rfl (by kernel_rfl) (by kernel_rfl) (by kernel_rfl) (fun _ _ _ h=>h) (Or.inl ⟨by rfl,by rintro w ⟨l,P,O,N,M,L,I,E,D,C⟩;go_simp⟩) s ?_;simp only [Act.put,S7,S9,Ta];refine aB (i:=17) (d:=some 40) (v:=.int .i64 (k:Nat)) rfl rfl (by kernel_rfl) (by kernel_rfl) (by kernel_rfl) (fun _ _ _ h=>h) (Or.inl ⟨by rfl,by rintro w ⟨l,P,O,N,M,L,I,E,D,C⟩;go_simp⟩) s ?_
     simp only [Act.put,S7,S9,Ta];refine aB (i:=18) (d:=some 41) (v:=.pointer (some ⟨b,off+k*9,none⟩)) rfl rfl (by kernel_rfl) (by kernel_rfl) (by kernel_rfl) (fun _ _ _ h=>h) (Or.inl ⟨by rfl,by rintro w ⟨l,P,O,N,M,L,I,E,D,C⟩;go_simp⟩) s ?_;simp only [Act.put,S7,S9,Ta];refine aB (i:=19) (d:=some 42) (v:=.pointer (some ⟨b,off+k*9+5,none⟩)) rfl rfl (by kernel_rfl) (by kernel_rfl) (by kernel_rfl) (fun _ _ _ h=>h) (Or.inl ⟨by rfl,by rintro w ⟨l,P,O,N,M,L,I,E,D,C⟩;go_simp⟩) s ?_;simp only [Act.put,S7,S9,Ta];refine aB (i:=20) (d:=some 43) (v:=bN d.b.op d.b.nm d.b.n a2 d.b.ks.len c2) rfl rfl (by kernel_rfl) (by kernel_rfl) (by kernel_rfl) (fun _ _ _ h=>h) (Or.inl ⟨by rfl,by rintro w ⟨l,P,O,N,M,L,I,E,D,C⟩;go_simp⟩) s ?_;simp only [Act.put,S7,S9,Ta];refine wpAnyH_ready (rs:=[1,14]) (by kernel_rfl) (by simp) ?_;refine AllReadyH.cons (o:=_) rfl (fun K hK=>?_) (AllReadyH.cons (o:=_) rfl (fun K hK=>?_) AllReadyH.nil)
     · go_simp
       refine hK.out _ _ s (fun ki=>?_);try simp only [Act.put,S7,S9,Ta]
       clear hK K;refine wpAnyH_ready (rs:=[14]) (by kernel_rfl) (by simp) ?_;refine AllReadyH.cons (o:=_) rfl (fun K hK=>?_) AllReadyH.nil;go_simp
       refine (D1.out _ (aT wr)).mono ?_;rintro e w5 ⟨y,R,rfl,r5,j⟩;have B5:=aA ((aT wr).trans j);have R5:=aA (show aK (fun b=>wr.heap.size<=b) w5 y d.a.ks from r5);have cc:=CL.out _ B5.out;have x5:=XC.out _ B5.out;clear j r5;refine hK.out _ _ cc (fun jw=>?_);try simp only [Act.put,S7,S9,Ta]
       clear hK K;refine wpAnyH_ready (rs:=[21]) (by kernel_rfl) (by simp) ?_;refine AllReadyH.cons (o:=_) rfl (fun K hK=>?_) AllReadyH.nil;go_simp
       refine (D2.out w5 B5.out).mono ?_;rintro e w6 ⟨A,z,rfl,r6,j⟩;have B6:=aA (B5.out.trans (j.mono B5.out.size));have R6:=aA (aK.imp (G:=fun b=>w5.heap.size<=b) (H:=fun b=>wr.heap.size<=b) r6 (fun b _ h=>Nat.le_trans B5.out.size h));have R7:=aA (R5.out.kept j);have cd:=CL.out _ B6.out;have L6:=aA (U.out.step B6.out);have ji:=aA (L6.out.own.alloc (.cells #[.string d.op,.string d.a.op,.string d.a.nm,.int .i64 d.a.n,.slice y d.a.ks.len R,.string d.b.op,.string d.b.nm,.int .i64 d.b.n,.slice A d.b.ks.len z] 133));have jk:=aA (tI w6 d ⟨y,R,A,z⟩);have jj:=aA (fun u (hu:u∈e7 d ⟨y,R,A,z⟩)=>rF [d] [⟨y,R,A,z⟩] u (by simpa [cdL] using hu));have ce:=CL.out _ (B6.out.alloc B6.out.size (.cells #[.string d.op,.string d.a.op,.string d.a.nm,.int .i64 d.a.n,.slice y d.a.ks.len R,.string d.b.op,.string d.b.nm,.int .i64 d.b.n,.slice A d.b.ks.len z] 133));have x6:=XC.out _ B6.out;clear j r6;refine hK.out _ _ cd (fun jh=>?_);try simp only [Act.put,S7,S9,Ta]
       clear hK K;refine aB (i:=22) (d:=some 45) (v:=.agg #[.string d.op,.string d.a.op,.string d.a.nm,.int .i64 d.a.n,.slice y d.a.ks.len R,.string d.b.op,.string d.b.nm,.int .i64 d.b.n,.slice A d.b.ks.len z]) rfl rfl (by kernel_rfl) (by kernel_rfl) (by kernel_rfl) (fun _ _ _ h=>h) (Or.inl ⟨by rfl,by rintro w ⟨l,P,O,N,M,L,I,E,D,C⟩;go_simp⟩) jh ?_;simp only [Act.put,S7,S9,Ta];refine wpAnyH_ready (rs:=[23]) (by kernel_rfl) (by simp) ?_;refine AllReadyH.cons (o:=_) rfl (fun K hK=>?_) AllReadyH.nil;go_simp
       refine hK.out _ _ ce (fun jf=>?_);try simp only [Act.put,S7,S9,Ta]
       clear hK K;refine wpAnyH_ready (rs:=[24]) (by kernel_rfl) (by simp) ?_;refine AllReadyH.cons (o:=_) rfl (fun K hK=>?_) AllReadyH.nil;refine dK rfl (.tmp 24) (.tmp 46) 80 rfl (base:=X+1) jl hi jn ja jc jm (by decide) (.slice p.wa k p.wc) k 1 (cdL (x.wh.take k) qs) (e7 d ⟨y,R,A,z⟩) ⟨w6.heap.size,0,none⟩ 1 (by first | (simp [Act.eval];done) | (simp [Act.eval,Act.put];done) | fail) (by first | (simp [Act.eval];done) | (simp [Act.eval,Act.put];done) | fail) ji.out rfl jk.out jj.out (by have:=jd.out;unfold maxLen;omega) (by have:=jd.out;omega) (by rw [Tc];have:=L6.out.hz;omega) ?_;intro v7 w7 ho hg hn;obtain ⟨a',c',hv⟩:=eQ ho;subst hv;have BU:=bA0 w6 (.cells #[.string d.op,.string d.a.op,.string d.a.nm,.int .i64 d.a.n,.slice y d.a.ks.len R,.string d.b.op,.string d.b.nm,.int .i64 d.b.n,.slice A d.b.ks.len z] 133);have m:=L6.out.step BU;have KA:=(aC.refl (fun b=>(Tj p.wa k p.wc).ownBlock=some b) _).grown hg (fun k hk=>.inl hk);have N7:=KA.heap m.n (fun e=>by have:=m.wlo e;omega);have L8:=aA (m.push HD.out KA ho hn (((R7.out.kept BU)).imp (fun b _ j=>U.out.fresh j)) ((R6.out.kept BU).imp (fun b _ j=>U.out.fresh j)));have CF:=aA (CS.out w7 (m.b.trans (KA.below (fun q hq=>by have:=m.wlo hq;have:=m.lo;omega) (by have:=m.lo;have:=m.hz;omega))) (KA.heap m.bx (fun e=>by have:=m.wlo e;have:=m.lo;omega)));have CG:=aA (CS.out _ L8.out.b L8.out.bx);obtain ⟨u0,u1,u2,u3,u4,u5,u6,u7,u8,u9,u10⟩:=aE N7;obtain ⟨z0,z1,z2,z3,z4,z5,z6,z7,z8,z9,je⟩:=bI N7;clear ho hg hn KA N7 m BU;have cf:=CF.out;refine hK.out _ _ cf (fun Y=>?_)
       try simp only [Act.put,S7]
       clear hK K;refine aB (i:=25) (d:=some 48) (v:=.pointer (some ⟨X,10,none⟩)) rfl rfl (by kernel_rfl) (by kernel_rfl) (by kernel_rfl) (fun _ _ _ h=>h) (Or.inl ⟨by rfl,by rintro w ⟨l,P,O,N,M,L,I,E,D,C⟩;go_simp⟩) Y ?_;simp only [Act.put];refine wpAnyH_ready (rs:=[26]) (by kernel_rfl) (by simp) ?_;refine AllReadyH.cons (o:=_) rfl (fun K hK=>?_) AllReadyH.nil;go_simp
       refine hK.out _ _ CG.out (fun Z=>?_);try simp only [Act.put,S7,S9,Ta]
       clear hK K;refine wpAnyH_done (by kernel_rfl) ?_ _;clear jf Y Z cf;go_wp2_with fail
       go_roundw
       case rel=>exact ⟨k+1,_,_,by go_num,by omega,L8⟩
       case measure=>simp [intOf];omega
     · go_simp
       refine (D1.out _ (aT wr)).mono ?_;rintro e w5 ⟨y,R,rfl,r5,j⟩;have B5:=aA ((aT wr).trans j);have R5:=aA (show aK (fun b=>wr.heap.size<=b) w5 y d.a.ks from r5);have cc:=CL.out _ B5.out;have x5:=XC.out _ B5.out;clear j r5;refine hK.out _ _ cc (fun jw=>?_);try simp only [Act.put,S7,S9,Ta]
       clear hK K;refine wpAnyH_ready (rs:=[1,21]) (by kernel_rfl) (by simp) ?_;refine AllReadyH.cons (o:=_) rfl (fun K hK=>?_) (AllReadyH.cons (o:=_) rfl (fun K hK=>?_) AllReadyH.nil)
       · go_simp
         refine hK.out _ _ jw (fun jv=>?_);try simp only [Act.put,S7,S9,Ta]
         clear hK K;refine wpAnyH_ready (rs:=[21]) (by kernel_rfl) (by simp) ?_;refine AllReadyH.cons (o:=_) rfl (fun K hK=>?_) AllReadyH.nil;go_simp
         refine (D2.out w5 B5.out).mono ?_;rintro e w6 ⟨A,z,rfl,r6,j⟩;have B6:=aA (B5.out.trans (j.mono B5.out.size));have R6:=aA (aK.imp (G:=fun b=>w5.heap.size<=b) (H:=fun b=>wr.heap.size<=b) r6 (fun b _ h=>Nat.le_trans B5.out.size h));have R7:=aA (R5.out.kept j);have cd:=CL.out _ B6.out;have L6:=aA (U.out.step B6.out);have ji:=aA (L6.out.own.alloc (.cells #[.string d.op,.string d.a.op,.string d.a.nm,.int .i64 d.a.n,.slice y d.a.ks.len R,.string d.b.op,.string d.b.nm,.int .i64 d.b.n,.slice A d.b.ks.len z] 133));have jk:=aA (tI w6 d ⟨y,R,A,z⟩);have jj:=aA (fun u (hu:u∈e7 d ⟨y,R,A,z⟩)=>rF [d] [⟨y,R,A,z⟩] u (by simpa [cdL] using hu));have ce:=CL.out _ (B6.out.alloc B6.out.size (.cells #[.string d.op,.string d.a.op,.string d.a.nm,.int .i64 d.a.n,.slice y d.a.ks.len R,.string d.b.op,.string d.b.nm,.int .i64 d.b.n,.slice A d.b.ks.len z] 133));have x6:=XC.out _ B6.out;clear j r6;refine hK.out _ _ cd (fun jh=>?_);try simp only [Act.put,S7,S9,Ta]
         clear hK K;refine aB (i:=22) (d:=some 45) (v:=.agg #[.string d.op,.string d.a.op,.string d.a.nm,.int .i64 d.a.n,.slice y d.a.ks.len R,.string d.b.op,.string d.b.nm,.int .i64 d.b.n,.slice A d.b.ks.len z]) rfl rfl (by kernel_rfl) (by kernel_rfl) (by kernel_rfl) (fun _ _ _ h=>h) (Or.inl ⟨by rfl,by rintro w ⟨l,P,O,N,M,L,I,E,D,C⟩;go_simp⟩) jh ?_;simp only [Act.put,S7,S9,Ta];refine wpAnyH_ready (rs:=[23]) (by kernel_rfl) (by simp) ?_;refine AllReadyH.cons (o:=_) rfl (fun K hK=>?_) AllReadyH.nil;go_simp
         refine hK.out _ _ ce (fun jf=>?_);try simp only [Act.put,S7,S9,Ta]
         clear hK K;refine wpAnyH_ready (rs:=[24]) (by kernel_rfl) (by simp) ?_;refine AllReadyH.cons (o:=_) rfl (fun K hK=>?_) AllReadyH.nil;refine dK rfl (.tmp 24) (.tmp 46) 80 rfl (base:=X+1) jl hi jn ja jc jm (by decide) (.slice p.wa k p.wc) k 1 (cdL (x.wh.take k) qs) (e7 d ⟨y,R,A,z⟩) ⟨w6.heap.size,0,none⟩ 1 (by first | (simp [Act.eval];done) | (simp [Act.eval,Act.put];done) | fail) (by first | (simp [Act.eval];done) | (simp [Act.eval,Act.put];done) | fail) ji.out rfl jk.out jj.out (by have:=jd.out;unfold maxLen;omega) (by have:=jd.out;omega) (by rw [Tc];have:=L6.out.hz;omega) ?_;intro v7 w7 ho hg hn;obtain ⟨a',c',hv⟩:=eQ ho;subst hv;have BU:=bA0 w6 (.cells #[.string d.op,.string d.a.op,.string d.a.nm,.int .i64 d.a.n,.slice y d.a.ks.len R,.string d.b.op,.string d.b.nm,.int .i64 d.b.n,.slice A d.b.ks.len z] 133);have m:=L6.out.step BU;have KA:=(aC.refl (fun b=>(Tj p.wa k p.wc).ownBlock=some b) _).grown hg (fun k hk=>.inl hk);have N7:=KA.heap m.n (fun e=>by have:=m.wlo e;omega);have L8:=aA (m.push HD.out KA ho hn (((R7.out.kept BU)).imp (fun b _ j=>U.out.fresh j)) ((R6.out.kept BU).imp (fun b _ j=>U.out.fresh j)));have CF:=aA (CS.out w7 (m.b.trans (KA.below (fun q hq=>by have:=m.wlo hq;have:=m.lo;omega) (by have:=m.lo;have:=m.hz;omega))) (KA.heap m.bx (fun e=>by have:=m.wlo e;have:=m.lo;omega)));have CG:=aA (CS.out _ L8.out.b L8.out.bx);obtain ⟨u0,u1,u2,u3,u4,u5,u6,u7,u8,u9,u10⟩:=aE N7;obtain ⟨z0,z1,z2,z3,z4,z5,z6,z7,z8,z9,je⟩:=bI N7;clear ho hg hn KA N7 m BU;have cf:=CF.out
         refine hK.out _ _ cf (fun Y=>?_);try simp only [Act.put,S7]
         clear hK K;refine aB (i:=25) (d:=some 48) (v:=.pointer (some ⟨X,10,none⟩)) rfl rfl (by kernel_rfl) (by kernel_rfl) (by kernel_rfl) (fun _ _ _ h=>h) (Or.inl ⟨by rfl,by rintro w ⟨l,P,O,N,M,L,I,E,D,C⟩;go_simp⟩) Y ?_;simp only [Act.put];refine wpAnyH_ready (rs:=[26]) (by kernel_rfl) (by simp) ?_;refine AllReadyH.cons (o:=_) rfl (fun K hK=>?_) AllReadyH.nil;go_simp
         refine hK.out _ _ CG.out (fun Z=>?_);try simp only [Act.put,S7,S9,Ta]
         clear hK K;refine wpAnyH_done (by kernel_rfl) ?_ _;clear jf Y Z cf;go_wp2_with fail
         go_roundw
         case rel=>exact ⟨k+1,_,_,by go_num,by omega,L8⟩
         case measure=>simp [intOf];omega
       · go_simp
         refine (D2.out w5 B5.out).mono ?_;rintro e w6 ⟨A,z,rfl,r6,j⟩;have B6:=aA (B5.out.trans (j.mono B5.out.size));have R6:=aA (aK.imp (G:=fun b=>w5.heap.size<=b) (H:=fun b=>wr.heap.size<=b) r6 (fun b _ h=>Nat.le_trans B5.out.size h));have R7:=aA (R5.out.kept j);have cd:=CL.out _ B6.out;have L6:=aA (U.out.step B6.out);have ji:=aA (L6.out.own.alloc (.cells #[.string d.op,.string d.a.op,.string d.a.nm,.int .i64 d.a.n,.slice y d.a.ks.len R,.string d.b.op,.string d.b.nm,.int .i64 d.b.n,.slice A d.b.ks.len z] 133));have jk:=aA (tI w6 d ⟨y,R,A,z⟩);have jj:=aA (fun u (hu:u∈e7 d ⟨y,R,A,z⟩)=>rF [d] [⟨y,R,A,z⟩] u (by simpa [cdL] using hu));have ce:=CL.out _ (B6.out.alloc B6.out.size (.cells #[.string d.op,.string d.a.op,.string d.a.nm,.int .i64 d.a.n,.slice y d.a.ks.len R,.string d.b.op,.string d.b.nm,.int .i64 d.b.n,.slice A d.b.ks.len z] 133));have x6:=XC.out _ B6.out;clear j r6;refine hK.out _ _ cd (fun jh=>?_);try simp only [Act.put,S7,S9,Ta]
         clear hK K;refine aB (i:=22) (d:=some 45) (v:=.agg #[.string d.op,.string d.a.op,.string d.a.nm,.int .i64 d.a.n,.slice y d.a.ks.len R,.string d.b.op,.string d.b.nm,.int .i64 d.b.n,.slice A d.b.ks.len z]) rfl rfl (by kernel_rfl) (by kernel_rfl) (by kernel_rfl) (fun _ _ _ h=>h) (Or.inl ⟨by rfl,by rintro w ⟨l,P,O,N,M,L,I,E,D,C⟩;go_simp⟩) jh ?_;simp only [Act.put,S7,S9,Ta];have x7:=XC.out _ (B6.out.alloc B6.out.size (.cells #[.string d.op,.string d.a.op,.string d.a.nm,.int .i64 d.a.n,.slice y d.a.ks.len R,.string d.b.op,.string d.b.nm,.int .i64 d.b.n,.slice A d.b.ks.len z] 133));refine wpAnyH_ready (rs:=[1,23]) (by kernel_rfl) (by simp) ?_;refine AllReadyH.cons (o:=_) rfl (fun K hK=>?_) (AllReadyH.cons (o:=_) rfl (fun K hK=>?_) AllReadyH.nil)
         · go_simp
           refine hK.out _ _ jh (fun jv=>?_);try simp only [Act.put,S7,S9,Ta]
           clear hK K;refine wpAnyH_ready (rs:=[23]) (by kernel_rfl) (by simp) ?_;refine AllReadyH.cons (o:=_) rfl (fun K hK=>?_) AllReadyH.nil;go_simp
           refine hK.out _ _ ce (fun jf=>?_);try simp only [Act.put,S7,S9,Ta]
           clear hK K;refine wpAnyH_ready (rs:=[24]) (by kernel_rfl) (by simp) ?_;refine AllReadyH.cons (o:=_) rfl (fun K hK=>?_) AllReadyH.nil;refine dK rfl (.tmp 24) (.tmp 46) 80 rfl (base:=X+1) jl hi jn ja jc jm (by decide) (.slice p.wa k p.wc) k 1 (cdL (x.wh.take k) qs) (e7 d ⟨y,R,A,z⟩) ⟨w6.heap.size,0,none⟩ 1 (by first | (simp [Act.eval];done) | (simp [Act.eval,Act.put];done) | fail) (by first | (simp [Act.eval];done) | (simp [Act.eval,Act.put];done) | fail) ji.out rfl jk.out jj.out (by have:=jd.out;unfold maxLen;omega) (by have:=jd.out;omega) (by rw [Tc];have:=L6.out.hz;omega) ?_;intro v7 w7 ho hg hn;obtain ⟨a',c',hv⟩:=eQ ho;subst hv;have BU:=bA0 w6 (.cells #[.string d.op,.string d.a.op,.string d.a.nm,.int .i64 d.a.n,.slice y d.a.ks.len R,.string d.b.op,.string d.b.nm,.int .i64 d.b.n,.slice A d.b.ks.len z] 133);have m:=L6.out.step BU;have KA:=(aC.refl (fun b=>(Tj p.wa k p.wc).ownBlock=some b) _).grown hg (fun k hk=>.inl hk);have N7:=KA.heap m.n (fun e=>by have:=m.wlo e;omega);have L8:=aA (m.push HD.out KA ho hn (((R7.out.kept BU)).imp (fun b _ j=>U.out.fresh j)) ((R6.out.kept BU).imp (fun b _ j=>U.out.fresh j)));have CF:=aA (CS.out w7 (m.b.trans (KA.below (fun q hq=>by have:=m.wlo hq;have:=m.lo;omega) (by have:=m.lo;have:=m.hz;omega))) (KA.heap m.bx (fun e=>by have:=m.wlo e;have:=m.lo;omega)));have CG:=aA (CS.out _ L8.out.b L8.out.bx);obtain ⟨u0,u1,u2,u3,u4,u5,u6,u7,u8,u9,u10⟩:=aE N7;obtain ⟨z0,z1,z2,z3,z4,z5,z6,z7,z8,z9,je⟩:=bI N7;clear ho hg hn KA N7 m BU;have cf:=CF.out
           refine hK.out _ _ cf (fun Y=>?_);try simp only [Act.put,S7]
           clear hK K;refine aB (i:=25) (d:=some 48) (v:=.pointer (some ⟨X,10,none⟩)) rfl rfl (by kernel_rfl) (by kernel_rfl) (by kernel_rfl) (fun _ _ _ h=>h) (Or.inl ⟨by rfl,by rintro w ⟨l,P,O,N,M,L,I,E,D,C⟩;go_simp⟩) Y ?_;simp only [Act.put];refine wpAnyH_ready (rs:=[26]) (by kernel_rfl) (by simp) ?_;refine AllReadyH.cons (o:=_) rfl (fun K hK=>?_) AllReadyH.nil;go_simp
           refine hK.out _ _ CG.out (fun Z=>?_);try simp only [Act.put,S7,S9,Ta]
           clear hK K;refine wpAnyH_done (by kernel_rfl) ?_ _;clear jf Y Z cf;go_wp2_with fail
           go_roundw
           case rel=>exact ⟨k+1,_,_,by go_num,by omega,L8⟩
           case measure=>simp [intOf];omega
         · go_simp
           refine hK.out _ _ ce (fun jf=>?_);try simp only [Act.put,S7,S9,Ta]
           clear hK K;refine wpAnyH_ready (rs:=[1]) (by kernel_rfl) (by simp) ?_;refine AllReadyH.cons (o:=_) rfl (fun K hK=>?_) AllReadyH.nil;go_simp
           refine hK.out _ _ ce (fun jv=>?_);try simp only [Act.put,S7,S9,Ta]
           clear hK K;refine wpAnyH_ready (rs:=[24]) (by kernel_rfl) (by simp) ?_;refine AllReadyH.cons (o:=_) rfl (fun K hK=>?_) AllReadyH.nil;refine dK rfl (.tmp 24) (.tmp 46) 80 rfl (base:=X+1) jl hi jn ja jc jm (by decide) (.slice p.wa k p.wc) k 1 (cdL (x.wh.take k) qs) (e7 d ⟨y,R,A,z⟩) ⟨w6.heap.size,0,none⟩ 1 (by first | (simp [Act.eval];done) | (simp [Act.eval,Act.put];done) | fail) (by first | (simp [Act.eval];done) | (simp [Act.eval,Act.put];done) | fail) ji.out rfl jk.out jj.out (by have:=jd.out;unfold maxLen;omega) (by have:=jd.out;omega) (by rw [Tc];have:=L6.out.hz;omega) ?_;intro v7 w7 ho hg hn;obtain ⟨a',c',hv⟩:=eQ ho;subst hv;have BU:=bA0 w6 (.cells #[.string d.op,.string d.a.op,.string d.a.nm,.int .i64 d.a.n,.slice y d.a.ks.len R,.string d.b.op,.string d.b.nm,.int .i64 d.b.n,.slice A d.b.ks.len z] 133);have m:=L6.out.step BU;have KA:=(aC.refl (fun b=>(Tj p.wa k p.wc).ownBlock=some b) _).grown hg (fun k hk=>.inl hk);have N7:=KA.heap m.n (fun e=>by have:=m.wlo e;omega);have L8:=aA (m.push HD.out KA ho hn (((R7.out.kept BU)).imp (fun b _ j=>U.out.fresh j)) ((R6.out.kept BU).imp (fun b _ j=>U.out.fresh j)));have CF:=aA (CS.out w7 (m.b.trans (KA.below (fun q hq=>by have:=m.wlo hq;have:=m.lo;omega) (by have:=m.lo;have:=m.hz;omega))) (KA.heap m.bx (fun e=>by have:=m.wlo e;have:=m.lo;omega)));have CG:=aA (CS.out _ L8.out.b L8.out.bx);obtain ⟨u0,u1,u2,u3,u4,u5,u6,u7,u8,u9,u10⟩:=aE N7;obtain ⟨z0,z1,z2,z3,z4,z5,z6,z7,z8,z9,je⟩:=bI N7;clear ho hg hn KA N7 m BU;have cf:=CF.out
           refine hK.out _ _ cf (fun Y=>?_);try simp only [Act.put,S7]
           clear hK K;refine aB (i:=25) (d:=some 48) (v:=.pointer (some ⟨X,10,none⟩)) rfl rfl (by kernel_rfl) (by kernel_rfl) (by kernel_rfl) (fun _ _ _ h=>h) (Or.inl ⟨by rfl,by rintro w ⟨l,P,O,N,M,L,I,E,D,C⟩;go_simp⟩) Y ?_;simp only [Act.put];refine wpAnyH_ready (rs:=[26]) (by kernel_rfl) (by simp) ?_;refine AllReadyH.cons (o:=_) rfl (fun K hK=>?_) AllReadyH.nil;go_simp
           refine hK.out _ _ CG.out (fun Z=>?_);try simp only [Act.put,S7,S9,Ta]
           clear hK K;refine wpAnyH_done (by kernel_rfl) ?_ _;clear jf Y Z cf;go_wp2_with fail
           go_roundw
           case rel=>exact ⟨k+1,_,_,by go_num,by omega,L8⟩
           case measure=>simp [intOf];omega
   · have kb:k=x.wh.length:=by omega
     subst kb;have LD:=aA U.out.done;have b1:¬ (x.wh.length:Int)<(x.wh.length:Int):=by omega
     obtain ⟨-, -, -, -, -, -, -, -, -, -,l⟩:=aE U.out.bx;have N0:=U.out.n;rw [List.take_length] at N0;obtain ⟨x0,x1,x2,x3,x4,x5,x6,x7,x8,x9,jg⟩:=aE N0;obtain ⟨o0,o1,o2,o3,o4,o5,o6,o7,o8,o9,kf⟩:=aE U.out.rs;obtain ⟨z0,z1,z2,z3,z4,z5,z6,z7,z8,z9,je⟩:=bI U.out.rs;have ke:=aA U.out.rs;clear N0;go_wp2_with fail
     obtain ⟨y0,y1,y2,y3,y4,y5,y6,y7,y8,y9,jy⟩:=aE (cF (t:=82) ke.out x p);exact bodyPost_ret (v:=agV x p) (by simp [results,results67,go_sem,y0,y1,y2,y3,y4,y5,y6,y7,y8,y9,jy]) rfl ⟨p,rfl,LD.out⟩
theorem yO:∀ {f:F},MdF f->dU f
 | .nil,_=>trivial
 | .cons _ _ _ _ _,h=>⟨h.2.1,yO h.2.2.2.1,yO h.2.2.2.2⟩
def jL (t:TN):Prop:=aR t<=32/\SzF t.f/\dU t.f
theorem i6:jL aD:=⟨by decide,by simp [aD,TN.f,SzF,F.len,ByteArray.size],by simp [aD,TN.f,dU]⟩
theorem LQ {L:List Tk} (a:∀ t∈L,cS t) {p q:Nat} {t:TN} (h:ofL L p=.ok t q):jL t:=⟨(Eo a h).2,Mc (En a h),yO (En a h)⟩
theorem jB {L:List Tk} (a:∀ t∈L,cS t) (s:RS):jL (bC L s).1:=by
 unfold bC;split
 · cases ho:ofL L s.pos with
   | ok t q=>exact LQ a ho
   | bad q e=>exact i6
 · exact i6
theorem rG {L:List Tk} (a:∀ t∈L,cS t) (fn:Tq) (s:RS):jL (bJ L fn s).1.2.1/\jL (bJ L fn s).1.2.2:=by
 unfold bJ;split
 · exact ⟨i6,i6⟩
 · simp only
   split
   · exact ⟨jB a _,jB a _⟩
   · exact ⟨jB a _,i6⟩
theorem Kc {L:List Tk} (c:∀ t∈L,cS t) (s:RS):jL (cB L s).1.a/\jL (cB L s).1.b:=by
 unfold cB;simp only;split
 · split
   · exact ⟨jB c _,jB c _⟩
   · exact ⟨jB c _,i6⟩
 · exact ⟨jB c _,i6⟩
theorem zV {L:List Tk} (c:∀ t∈L,cS t):∀ (f:Nat) (acc:List CD) (s:RS),(∀ d∈acc,jL d.a/\jL d.b)->∀ d∈(eT L f acc s).1,jL d.a/\jL d.b
 | 0,acc,s,h=>h
 | f + 1, acc, s, h => by
   have g:∀ d∈acc++[(cB L (aM s)).1],jL d.a/\jL d.b:=fun d hd=>by
    rcases List.mem_append.1 hd with hd | hd
    · exact h d hd
    · rw [List.mem_singleton.1 hd];exact Kc c _
   rw [eT];split
   · exact h
   · simp only
     split
     · exact zV c f _ _ g
     · exact g
theorem Fl {L:List Tk} (c:∀ t∈L,cS t) {a:AG} (h:agL L=.ok a):jL a.e/\jL a.g/\∀ d∈a.wh,jL d.a/\jL d.b:=by
 unfold agL at h;cases f:L[0]? with
 | none=>rw [f] at h;cases h
 | some t =>
   rw [f] at h;simp only at h;split at h
   · cases h
   split at h
   · cases h
   split at h
   · cases h
   split at h
   · cases h
   split at h
   · cases h
     exact ⟨(rG c _ _).1,(rG c _ _).2,fun d hd=>by cases hd⟩
   split at h
   · cases h
   split at h
   · cases h
   split at h
   · cases h
   · cases h
     exact ⟨(rG c _ _).1,(rG c _ _).2,zV c 5 [] _ (fun d hd=>by cases hd)⟩
theorem tY {l:Tq} {a:AG} (h:agX l=.ok a):SmG a/\SzG a/\gA a=0:=by
 have f:=NE h;have g:=(cY f).2.2.2.2.1;unfold agX at h;cases hx:gY l with
 | bad p e=>rw [hx] at h;cases h
 | ok L =>
   rw [hx] at h;simp only at h;cases ha:agL L with
   | bad p e=>rw [ha] at h;cases h
   | ok b =>
     rw [ha] at h;cases h;obtain ⟨n1,n2,c⟩:=Fl (qO hx) ha;refine ⟨⟨Nat.le_trans n1.1 (by decide),Nat.le_trans n2.1 (by decide),fun d hd=>⟨Nat.le_trans (c d hd).1.1 (by decide),Nat.le_trans (c d hd).2.1 (by decide)⟩,by omega⟩,⟨n1.2.1,n2.2.1,fun d hd=>⟨(c d hd).1.2.1,(c d hd).2.2.1⟩⟩,f⟩
theorem Ny {l:Tq} {a:AG} (h:agX l=.ok a):gM a:=by
 unfold agX at h;cases hx:gY l with
 | bad p e=>rw [hx] at h;cases h
 | ok L =>
   rw [hx] at h;simp only at h;cases ha:agL L with
   | bad p e=>rw [ha] at h;cases h
   | ok b =>
     rw [ha] at h;cases h;obtain ⟨n1,n2,c⟩:=Fl (qO hx) ha;exact ⟨n1.2.2,n2.2.2,fun d hd=>⟨(c d hd).1.2.2,(c d hd).2.2.2⟩⟩
theorem G8 {L:List Tk} {p:Nat} {e:Int} (h:agL L=.bad p e):¬ e=0:=by
 unfold agL at h;cases b:L[0]? with
 | none=>rw [b] at h;cases h;decide
 | some t =>
   rw [b] at h;simp only at h;split at h
   · cases h;decide
   split at h
   · cases h;decide
   split at h
   · rename_i a;cases h;exact a
   split at h
   · rename_i a;cases h;exact a
   split at h
   · cases h
   split at h
   · cases h;decide
   split at h
   · rename_i a;cases h;exact a
   split at h
   · cases h;decide
   · cases h
theorem oF {l:Tq} {p:Nat} {e:Int} (h:agX l=.bad p e):(e == 0)=false/\(e != 0)=true:=by
 unfold agX at h;cases hx:gY l with
 | bad q f=>rw [hx] at h;cases h;exact pI hx
 | ok L =>
   rw [hx] at h;simp only at h;cases ha:agL L with
   | bad q f =>
     rw [ha] at h;cases h;have:=G8 ha;exact ⟨by simpa using this,by simpa using this⟩
   | ok b=>rw [ha] at h;cases h
theorem EH:∃ i z,prog.info? 84=some i/\i.zero=some z/\i.size=12/\i.bytes=192/\z.cells.size=12:=by
 have h:(prog.info? 84).map (fun i=>(i.zero.map (fun z=>z.cells.size),i.size,i.bytes))=some (some 12,12,192):=by kernel_rfl
 cases hx:prog.info? 84 with
 | none=>rw [hx] at h;cases h
 | some i =>
   rw [hx] at h;simp only [Option.map_some,Option.some.injEq,Prod.mk.injEq] at h;obtain ⟨a,c,b⟩:=h;cases hz:i.zero with
   | none=>rw [hz] at a;cases a
   | some z =>
     rw [hz] at a;exact ⟨i,z,rfl,hz,c,b,by simpa using a⟩
structure LBK (w:World) (B:Nat) (E:TypeId) (l:List LN) (oa:Tp) (oc:Nat) (ps:List PA) (V:World):Prop where
 b:Below w.heap.size w V
 lo:w.heap.size<=B
 hz:B<=V.heap.size
 own:V.ownsRow B E 12 (.slice oa l.length oc) l.length (jO l ps)
 ql:ps.length=l.length
 rd:∀ (j:Nat) (x:LN) (p:PA),l[j]? = some x->ps[j]? = some p->∀ w3,aC (fun b=>(Tj oa l.length oc).ownBlock=some b) V w3->aX (fun b=>B<=b) w3 x.a p
theorem LBK.step {w:World} {B:Nat} {E:TypeId} {l:List LN} {c:Tp} {oc:Nat} {ps:List PA} {V V':World} (h:LBK w B E l c oc ps V) (a:Below V.heap.size V V'):LBK w B E l c oc ps V' :=
 ⟨h.b.trans (a.mono h.b.size),h.lo,Nat.le_trans h.hz a.size,cK h.own a,h.ql,fun j x p m k d f=>h.rd j x p m k d ((aF a _).trans f (fun _ g _=>g))⟩
theorem yX {w:World} {B:Nat} {E:TypeId} {l:List LN} {q:Tp} {oc:Nat} {ps:List PA} {V V2 y:World} (h:LBK w B E l q oc ps V) {x:LN} {p:PA} {d:Tp} {c:Nat}
 (n:Below V.heap.size V V2) (C:∀ k,aC (fun b=>B<=b/\b<V.heap.size) V2 k->aX (fun b=>B<=b) k x.a p) (r:aC (fun b=>(Tj q l.length oc).ownBlock=some b) V2 y)
 (ho:y.ownsRow B E 12 (.slice d (l.length+1) c) (l.length+1) (jO l ps++lnL x p)) (hn:∀ b,(Tj d (l.length+1) c).ownBlock=some b->(Tj q l.length oc).ownBlock=some b\/V2.heap.size<=b) :
 LBK w B E (l++[x]) d c (ps++[p]) y:=by
 have lo:=fun b (n:(Tj q l.length oc).ownBlock=some b)=>h.own.lt b n
 have hz:=n.size;have u:=h.lo;have D:=h.hz;have hl:(l++[x]).length=l.length+1:=by simp
 refine ⟨(h.b.trans (n.mono h.b.size)).trans (r.below (fun b e=>by have:=(lo b e).1;omega) (by have:=h.b.size;omega)),u,by have:=r.size;omega,?_,by rw [Tb,Tb,h.ql];rfl,fun j A q' o g k s=>?_⟩
 · rw [hl,Ev _ _ _ _ h.ql]
   simpa [jO] using ho
 · rw [hl] at s
   rcases Nat.lt_or_ge j l.length with hj | hj
   · rw [List.getElem?_append_left hj] at o
     rw [List.getElem?_append_left (by rw [h.ql];exact hj)] at g;refine h.rd j A q' o g k (((aF n _).trans r (fun i f _=>f)).trans s (fun i f t=>?_));rcases hn i f with h1 | h1
     · exact h1
     · omega
   · rw [List.getElem?_append_right hj] at o
     rw [List.getElem?_append_right (by rw [h.ql];exact hj),h.ql] at g;cases z:j-l.length with
     | zero =>
       rw [z] at o g;cases o;cases g;refine C k ((r.mono (fun i f _=>lo i f)).trans s (fun i f t=>?_));rcases hn i f with h1 | h1
       · exact lo i h1
       · omega
     | succ m=>rw [z] at g;simp at g
theorem LBK.reads {w:World} {B:Nat} {E:TypeId} {l:List LN} {c:Tp} {oc:Nat} {ps:List PA} {V:World} (h:LBK w B E l c oc ps V):cQ (fun b=>w.heap.size<=b) V c l :=
 FM h.own h.ql (fun j x p f d=>(h.rd j x p f d V (aC.refl _ _)).imp (fun b _ a=>Nat.le_trans h.lo a)) (fun b a=>by
  have:=(h.own.lt b (by rw [a];rfl)).1;have:=h.lo;omega)
theorem Cx {w V:World} {E:TypeId} (a:Below w.heap.size w V):LBK w V.heap.size E [] none 0 [] V :=
 ⟨a,a.size,Td _,⟨rfl,.inl ⟨rfl,rfl⟩⟩,rfl,fun j x p h=>by cases h⟩
theorem LBK.cell {w:World} {B:Nat} {E:TypeId} {l:List LN} {a:Tp} {oc:Nat} {ps:List PA} {V:World} (h:LBK w B E l a oc ps V) {j:Nat} {x:LN} (b:l[j]? = some x):∃ g,a=some ⟨g,0,none⟩/\V.cell? ⟨g,j*12,none⟩=some (.string x.nm):=by
 obtain ⟨p,hp,f⟩:=wX l ps h.ql b;obtain ⟨g,d,c⟩:=lD h.own (f 0 _ rfl);exact ⟨g,d,c⟩
theorem Ml (W:World) (x:LN) (p:PA):∀ j u,(lnL x p)[j]? = some u->(W.alloc (.cells #[.string x.nm,.string x.a.fn,.int .i64 x.a.k,.string x.a.e.op,.string x.a.e.nm,.int .i64 x.a.e.n,.slice p.ea x.a.e.ks.len p.ec,.string x.a.g.op,.string x.a.g.nm,.int .i64 x.a.g.n,.slice p.ga x.a.g.ks.len p.gc,.slice p.wa x.a.wh.length p.wc] 84)).cell? ((⟨W.heap.size,0,none⟩:Addr).add j)=some u:=fun j u b=>by
 have h:=heap_alloc_new W (.cells #[.string x.nm,.string x.a.fn,.int .i64 x.a.k,.string x.a.e.op,.string x.a.e.nm,.int .i64 x.a.e.n,.slice p.ea x.a.e.ks.len p.ec,.string x.a.g.op,.string x.a.g.nm,.int .i64 x.a.g.n,.slice p.ga x.a.g.ks.len p.gc,.slice p.wa x.a.wh.length p.wc] 84);rw [Addr.add_lit,Nat.zero_add,cell_of_row _ _ _ _ _ (0,0) h];have c:j<12:=(List.getElem?_eq_some_iff.1 b).1;match j,c,b with
 | 0,_,h=>exact h
 | 1,_,h=>exact h
 | 2,_,h=>exact h
 | 3,_,h=>exact h
 | 4,_,h=>exact h
 | 5,_,h=>exact h
 | 6,_,h=>exact h
 | 7,_,h=>exact h
 | 8,_,h=>exact h
 | 9,_,h=>exact h
 | 10,_,h=>exact h
 | 11,_,h=>exact h
theorem ON (s:Tr) (d:s.size<=5000) (w:World):Calls prog 29 #[.string s] w fun e w'=>(∃ a c,e=.returned (.slice a (cE s.data.toList).length c)/\Ai (fun b=>w.heap.size<=b) w' a (cE s.data.toList))/\Below w.heap.size w w':=by
 by_cases f:1<=s.size
 · exact FT s f d w
 · have e:s=⟨#[]⟩:=by
    apply dO
    have g:s.data.toList.length=s.size:=by simp
    exact Tg.1 (by omega)
   subst e;clear f d;go_enter func29,ntmps29
   go_wp2_with fail
   go_ret;exact ⟨⟨none,0,rfl,.inl rfl⟩,Below.refl _ _⟩
theorem I1 (s:Tr) (a:s.size<=281474976710656) (w:World) {x:Tr} {r:Tr} (h:fN s.data.toList=some (x.data.toList,r.data.toList)) :
 Calls prog 30 #[.string s] w fun e w'=>e=.returned (.tuple #[.string x,.string r,.bool true])/\Below w.heap.size w w':=by
 have H:=Ba s a w;rw [h] at H;exact H.mono fun e w' ⟨b,he⟩=>⟨he,b⟩
theorem Lo (s:Tr) (a:s.size<=281474976710656) (w:World) (h:fN s.data.toList=none) :
 Calls prog 30 #[.string s] w fun e w'=>e=.returned (.tuple #[.string ⟨#[]⟩,.string ⟨#[]⟩,.bool false])/\Below w.heap.size w w':=by
 have H:=Ba s a w;rw [h] at H;exact H.mono fun e w' ⟨b,he⟩=>⟨he,b⟩
theorem EJ {l:Tq} {nm r:Tq} (h:fN l=some (nm,r)):∃ (x y:Tr),fN l=some (x.data.toList,y.data.toList)/\x.data.toList=nm/\y.data.toList=r:=⟨⟨nm.toArray⟩,⟨r.toArray⟩,h,rfl,rfl⟩
theorem xE (q:UInt8->Bool) (l:Tq):(l.takeWhile q).length<=l.length/\(l.dropWhile q).length<=l.length:=by
 have h:=congrArg List.length (List.takeWhile_append_dropWhile (p:=q) (l:=l));rw [Tb] at h;omega
theorem EL {l nm r:Tq} (h:fN l=some (nm,r)):nm.length<=l.length/\r.length<=l.length:=by
 have d:=xE jS l;have c:=xE eM (l.dropWhile jS);have a:=xE jS ((l.dropWhile jS).dropWhile eM);unfold fN at h;simp only at h;split at h
 · cases h
 · split at h
   · rename_i b hr
     cases h;rw [hr] at a;simp at a;exact ⟨by omega,by omega⟩
   · cases h
theorem wY {acc:List LN} {s nm r:Tq} (h:fN s=some (nm,r)):eU acc s=if cD nm=false\/dD nm=true then .bad 5 else if acc.any (fun x=>x.nm.data.toList == nm)=true then .bad 6 else match agX r with
 | .bad _ e=>.bad e
 | .ok a=>.ok ⟨⟨nm.toArray⟩,a⟩:=by
 unfold eU;rw [h];all_goals rfl
theorem kZ {acc:List LN} {s:Tq} {q:List (Tq)} {e:Int} (a:¬ acc.length=8) (h:eU acc s=.bad e):fD (s::q) acc=.bad acc.length e:=by
 unfold fD;rw [if_neg a,h]
theorem qI {acc:List LN} {s:Tq} {q:List (Tq)} {x:LN} (a:¬ acc.length=8) (h:eU acc s=.ok x):fD (s::q) acc=fD q (acc++[x]):=by
 conv=>lhs;unfold fD
 rw [if_neg a,h]
theorem Bc {acc:List LN} {s:Tq} {q:List (Tq)} (a:acc.length=8):fD (s::q) acc=.bad acc.length 4:=by
 unfold fD;rw [if_pos a]
theorem pF (s:Tr) (hm:s.size<=5000) (w:World):Calls prog 10 #[.string s] w (Aj (fX s.data.toList) w):=by
 obtain ⟨r,hr⟩:∃ r,fX s.data.toList=r:=⟨_,rfl⟩;have jm:=aA (Ge s.data.toList);have jv:=Ji s.data.toList;have ko:s.data.toList.length=s.size:=by simp
 have CU:=aA (ON s hm w);unfold fX at hr;obtain ⟨L,hL⟩:∃ L,cE s.data.toList=L:=⟨_,rfl⟩;rw [hL] at hr jm jv CU;rw [show fX s.data.toList=r by unfold fX;rw [hL];exact hr];have HR:=aA hr;clear hr hL;have jn:=underlying27;obtain ⟨i,zv,hi,js,jr,jq,jp⟩:=EH;go_enter func10,ntmps10
 go_wp2_with fail
 refine CU.out.mono ?_;rintro e w1 ⟨⟨la,lc,rfl,hx⟩,f⟩;have HX:=aA hx;have kr:=aA f;have K0:=aA (Cx (E:=84) f);obtain ⟨B,hB⟩:∃ B,w1.heap.size=B:=⟨_,rfl⟩;rw [hB] at K0;have kf:=aA hB;clear hx f hB CU;go_wp2_with fail
 go_loopw [6,7] (fun v i wr=>∃ (acc:List LN) (M:Tp) (oc:Nat) (ps:List PA),v=.slice M acc.length oc/\i=.int .i64 (acc.length:Nat)/\acc.length<=L.length/\acc.length<=8/\Hid (fD (L.drop acc.length) acc=r)/\Hid (LBK w B 84 acc M oc ps wr)/\Hid (Below B w1 wr)) (fun _ i _=>L.length-(intOf i).toNat)
 case atStart=>exact ⟨[],none,0,[],rfl,rfl,Nat.zero_le _,Nat.zero_le _,HR,K0,aA (Below.refl _ _)⟩
 case round =>
  obtain ⟨acc,M,oc,ps,rfl,rfl,hk,jx,HP,U,ja⟩:=hrel;clear K0 HR;obtain ⟨k,d⟩:∃ k,acc.length=k:=⟨_,rfl⟩;have c:=aA d;rw [d] at hk jx;have kj:k<=10:=by omega
  by_cases O:k<L.length
  · obtain ⟨x,hx⟩:∃ x,L[k]? = some x:=⟨_,List.getElem?_eq_getElem O⟩
    have hd:L.drop acc.length=x::L.drop (acc.length+1):=by
     rw [d,List.drop_eq_getElem_cons O];rw [List.getElem?_eq_getElem O] at hx;rw [Option.some.inj hx]
    have je:x.length<=5000:=by have:=jm.out x (List.mem_of_getElem? hx);omega
    have z:=HP.out;rw [hd] at z;by_cases h8:k=8
    · have q8:((k:Int) == 8)=true:=by rw [h8];rfl
      have l:=aA (show r=.bad k 4 by rw [<- z,Bc (by omega),d]);rw [d];clear z hd hx d h8;go_wp2_with fail
      exact bodyPost_ret (v:=.tuple #[.slice none 0 0,.int .i64 (k:Nat),.int .i64 4]) (by simp [results,results10,go_sem]) rfl (by rw [l.out];exact ⟨U.out.b,rfl⟩)
    · have q8:((k:Int) == 8)=false:=by rw [beq_eq_false_iff_ne];omega
      obtain ⟨lb,lo,jw,jh,jg⟩:=HX.out.at hx;subst jw;have o:=(ja.out.cell (p:=⟨lb,lo+k,none⟩) (by rw [<- kf.out];exact jh)).trans jg;obtain ⟨X,hX⟩:∃ X:Tr,(⟨x.toArray⟩:Tr)=X:=⟨_,rfl⟩;have q:X.data.toList=x:=by rw [<- hX]
      rw [hX] at o
      have kq:X.size<=5000:=by
       have:X.data.toList.length=X.size:=by simp
       rw [<- this,q];exact je
      have HQ:=aA z;have Y:=aA (by rw [d];exact h8:¬ acc.length=8);have jl:=aA q;clear z hd hx hX jg jh je h8;cases hh:fN x with
      | none =>
        have Z:=aA (fun V=>Lo X (by omega) V (by rw [jl.out];exact hh));have l:=aA (show r=.bad k 2 by rw [<- HQ.out,kZ Y.out (show eU acc x=.bad 2 by unfold eU;rw [hh]),d]);rw [d];clear hh d q;go_wp2_with fail
        refine (Z.out _).mono ?_;rintro e w2 ⟨rfl,f⟩;have kh:=aA (U.out.step f);clear f;go_wp2_with fail
        exact bodyPost_ret (v:=.tuple #[.slice none 0 0,.int .i64 (k:Nat),.int .i64 2]) (by simp [results,results10,go_sem]) rfl (by rw [l.out];exact ⟨kh.out.b,rfl⟩)
      | some nr =>
        obtain ⟨km,kl⟩:=nr;obtain ⟨nm,rs,P,jf,jt⟩:=EJ hh;have ju:=EL hh
        have ki:nm.size<=5000:=by
         have:nm.data.toList.length=nm.size:=by simp
         rw [<- this,jf];have:X.data.toList.length=X.size:=by simp
         rw [q] at this;omega
        have Z:=aA (fun V=>I1 X (by omega) V (x:=nm) (r:=rs) (by rw [jl.out];exact P));have NX:=aA (fun V=>A9 nm (by omega) V);have KX:=aA (fun V=>I0 nm V);have LX:=aA (wY (acc:=acc) P);rw [d];clear hh P jf jt ju q d;go_wp2_with fail
        refine (Z.out _).mono ?_;rintro e w2 ⟨rfl,f⟩;have C:=aA (U.out.step f);have B2:=aA (ja.out.trans (f.mono U.out.hz));clear f Z o U ja;go_wp2_with fail
        refine (NX.out _).mono ?_;rintro e w3 ⟨rfl,rfl⟩;cases A:cD nm.data.toList with
        | false =>
          have l:=aA (show r=.bad k 5 by rw [<- HQ.out,kZ Y.out (show eU acc x=.bad 5 by rw [LX.out,if_pos (.inl A)]),c.out]);clear A;go_wp2_with fail
          exact bodyPost_ret (v:=.tuple #[.slice none 0 0,.int .i64 (k:Nat),.int .i64 5]) (by simp [results,results10,go_sem]) rfl (by rw [l.out];exact ⟨C.out.b,rfl⟩)
        | true =>
          have HG:=aA A;clear A;go_wp2_with fail
          refine (KX.out _).mono ?_;rintro e w4 ⟨rfl,rfl⟩;cases H:dD nm.data.toList with
          | true =>
            have l:=aA (show r=.bad k 5 by rw [<- HQ.out,kZ Y.out (show eU acc x=.bad 5 by rw [LX.out,if_pos (.inr H)]),c.out]);clear H;go_wp2_with fail
            exact bodyPost_ret (v:=.tuple #[.slice none 0 0,.int .i64 (k:Nat),.int .i64 5]) (by simp [results,results10,go_sem]) rfl (by rw [l.out];exact ⟨C.out.b,rfl⟩)
          | false =>
            have S:=aA (show eU acc x=if acc.any (fun x=>x.nm.data.toList == nm.data.toList)=true then .bad 6 else match agX rs.data.toList with
             | .bad _ e=>.bad e
             | .ok a=>.ok ⟨⟨nm.data.toList.toArray⟩,a⟩ by rw [LX.out,if_neg (by rw [HG.out,H];simp)])
            clear H LX HG NX KX;go_wp2_with fail
            go_loop [11] (fun i=>∃ j:Nat,j<=k/\i=.int .i64 (j:Nat)/\Hid (∀ (t:Nat) y,t<j->acc[t]? = some y->(y.nm.data.toList == nm.data.toList)=false)) (fun i=>k-(intOf i).toNat)
            case atStart=>exact ⟨0,Nat.zero_le _,rfl,aA (fun t y h _=>by omega)⟩
            case round =>
             obtain ⟨j,hj,rfl,HN⟩:=hrel;by_cases ji:j<k
             · obtain ⟨y,hy⟩:∃ y,acc[j]? = some y:=⟨_,List.getElem?_eq_getElem (by rw [c.out];exact ji)⟩
               obtain ⟨g,A,cj⟩:=C.out.cell hy;subst A;have HY:=aA hy;clear hy;cases hq:(y.nm.data.toList == nm.data.toList) with
               | true =>
                 have q1:(y.nm.toList == nm.toList)=true:=by rw [Tm,Tm];exact hq
                 have l:=aA (show r=.bad k 6 by rw [<- HQ.out,kZ Y.out (show eU acc x=.bad 6 by rw [S.out,if_pos (List.any_eq_true.2 ⟨y,List.mem_of_getElem? HY.out,hq⟩)]),c.out]);clear hq;go_wp2_with fail
                 exact bodyPost_ret (v:=.tuple #[.slice none 0 0,.int .i64 (k:Nat),.int .i64 6]) (by simp [results,results10,go_sem]) rfl (by rw [l.out];exact ⟨C.out.b,rfl⟩)
               | false =>
                 have q1:(y.nm.toList == nm.toList)=false:=by rw [Tm,Tm];exact hq
                 have ke:=aA (show ∀ (t:Nat) y',t<j+1->acc[t]? = some y'->(y'.nm.data.toList == nm.data.toList)=false from fun t y' ht N=>by
                  by_cases e:t=j
                  · subst e
                    rw [HY.out] at N;cases N;exact hq
                  · exact HN.out t y' (by omega) N)
                 clear hq;go_wp2_with fail
                 go_round
                 case rel=>exact ⟨j+1,by omega,by go_num,ke⟩
                 case measure=>simp [intOf];omega
             · obtain rfl:j=k:=by omega
               have m:=aA (show eU acc x=match agX rs.data.toList with
                | .bad _ e=>.bad e
                | .ok a=>.ok ⟨⟨nm.data.toList.toArray⟩,a⟩ by
                rw [S.out,if_neg];intro ht;obtain ⟨y,hy,e⟩:=List.any_eq_true.1 ht;obtain ⟨t,ht,e2⟩:=Tn.1 hy;have:=HN.out t y (by rw [<- c.out];exact ht) (by rw [List.getElem?_eq_getElem ht,e2]);rw [this] at e;cases e)
               have PG:=aA (At rs w2);clear HN S ji hj;cases hp:agX rs.data.toList with
               | bad p er =>
                 rw [hp] at PG m;obtain ⟨qe,qn⟩:=oF hp;have l:=aA (show r=.bad j er by rw [<- HQ.out,kZ Y.out (show eU acc x=.bad er by rw [m.out]),c.out]);clear hp m;go_wp2_with fail
                 refine PG.out.mono ?_;rintro e G ⟨f,rfl⟩;have BA:=aA (bA0 G (agO aO aI));have K3:=C.out.step f;have K4:=aA (K3.step BA.out);generalize hW:G.alloc (agO aO aI)=W at K4;have HW:=aA hW;clear f BA K3 hW PG;go_upto_region 19 with fail
                 rw [show G.alloc (.cells #[.string aO.fn,.int .i64 aO.k,.string aO.e.op,.string aO.e.nm,.int .i64 aO.e.n,.slice aI.ea aO.e.ks.len aI.ec,.string aO.g.op,.string aO.g.nm,.int .i64 aO.g.n,.slice aI.ga aO.g.ks.len aI.gc,.slice aI.wa aO.wh.length aI.wc] 82)=W from HW.out];clear HW;go_wp2_with fail
                 exact bodyPost_ret (v:=.tuple #[.slice none 0 0,.int .i64 (j:Nat),.int .i64 er]) (by simp [results,results10,go_sem]) rfl (by rw [l.out];exact ⟨K4.out.b,rfl⟩)
               | ok a =>
                 rw [hp] at PG m;have jz:=aA (show fD (L.drop (acc.length+1)) (acc++[⟨nm,a⟩])=r by rw [<- HQ.out,qI Y.out (show eU acc x=.ok ⟨nm,a⟩ by rw [m.out])]);clear hp m;go_wp2_with fail
                 refine PG.out.mono ?_;rintro e G ⟨f,p,rfl,hr⟩;have jd:=f.size;have BA:=bA0 G (agO a p);have NB:=heap_alloc_new G (agO a p);have I:=f.trans (BA.mono jd);have T:=hr.kept BA;generalize hW:G.alloc (agO a p)=W at BA NB I T;generalize hD:G.heap.size=D at NB;have HW:=aA hW;have Z:=aA hD;have kb:=aA NB;have jc:=aA I;have jy:=aA T;have B3:=aA (B2.out.trans (I.mono C.out.hz));clear f BA NB I T hW hD PG hr jd;go_upto_region 19 with fail
                 rw [show G.alloc (.cells #[.string a.fn,.int .i64 a.k,.string a.e.op,.string a.e.nm,.int .i64 a.e.n,.slice p.ea a.e.ks.len p.ec,.string a.g.op,.string a.g.nm,.int .i64 a.g.n,.slice p.ga a.g.ks.len p.gc,.slice p.wa a.wh.length p.wc] 82)=W from HW.out,Z.out];clear HW Z;obtain ⟨m0,m1,m2,m3,m4,m5,m6,m7,m8,m9,jo⟩:=aE kb.out;have K5:=aA (C.out.step jc.out);have BU:=aA (bA0 W (.cells #[.string nm,.string a.fn,.int .i64 a.k,.string a.e.op,.string a.e.nm,.int .i64 a.e.n,.slice p.ea a.e.ks.len p.ec,.string a.g.op,.string a.g.nm,.int .i64 a.g.n,.slice p.ga a.g.ks.len p.gc,.slice p.wa a.wh.length p.wc] 84));have R:=aA (show (W.alloc (.cells #[.string nm,.string a.fn,.int .i64 a.k,.string a.e.op,.string a.e.nm,.int .i64 a.e.n,.slice p.ea a.e.ks.len p.ec,.string a.g.op,.string a.g.nm,.int .i64 a.g.n,.slice p.ga a.g.ks.len p.gc,.slice p.wa a.wh.length p.wc] 84)).ownsRow B 84 12 (.slice M acc.length oc) acc.length (jO acc ps) from K5.out.own.alloc _);have jk:=aA (show ∀ j u,(lnL ⟨nm,a⟩ p)[j]? = some u->(W.alloc (.cells #[.string nm,.string a.fn,.int .i64 a.k,.string a.e.op,.string a.e.nm,.int .i64 a.e.n,.slice p.ea a.e.ks.len p.ec,.string a.g.op,.string a.g.nm,.int .i64 a.g.n,.slice p.ga a.g.ks.len p.gc,.slice p.wa a.wh.length p.wc] 84)).cell? ((⟨W.heap.size,0,none⟩:Addr).add j)=some u from Ml W ⟨nm,a⟩ p);have jj:=aA (fun u (hu:u∈lnL ⟨nm,a⟩ p)=>tK [⟨nm,a⟩] [p] u (by simpa [jO] using hu));have jb:=aA (show B<=(W.alloc (.cells #[.string nm,.string a.fn,.int .i64 a.k,.string a.e.op,.string a.e.nm,.int .i64 a.e.n,.slice p.ea a.e.ks.len p.ec,.string a.g.op,.string a.g.nm,.int .i64 a.g.n,.slice p.ga a.g.ks.len p.gc,.slice p.wa a.wh.length p.wc] 84)).heap.size by have h1:=K5.out.hz;have h2:=BU.out.size;omega)
                 rw [c.out] at R
                 go_upto_region 5 with (first
                  | (at_builtin
                     refine aS rfl _ _ 27 rfl (base:=B) jn hi js jr jq jp (by decide) (.slice M j oc) j 1 1 ⟨W.heap.size,0,none⟩ (jO acc ps) (lnL ⟨nm,a⟩ p) rfl rfl R.out rfl jk.out jj.out (by unfold maxLen;omega) (by omega) jb.out ?_;intro v4 w6 ho A hn;obtain ⟨a',c',hv⟩:=eQ ho;subst hv;have KA:=(aC.refl (fun b=>(Tj M j oc).ownBlock=some b) _).grown A (fun k hk=>.inl hk);have K6:=aA (yX (x:=⟨nm,a⟩) (p:=p) C.out (V2:=W.alloc (.cells #[.string nm,.string a.fn,.int .i64 a.k,.string a.e.op,.string a.e.nm,.int .i64 a.e.n,.slice p.ea a.e.ks.len p.ec,.string a.g.op,.string a.g.nm,.int .i64 a.g.n,.slice p.ga a.g.ks.len p.gc,.slice p.wa a.wh.length p.wc] 84)) (jc.out.trans (BU.out.mono jc.out.size)) (fun w7 k7=>((jy.out.kept BU.out).keptS k7 (fun b f A=>by have:=f.2;omega)).imp (fun b _ f=>by have:=C.out.hz;omega)) (by rw [c.out];exact KA) (by rw [c.out];exact ho) (by rw [c.out];exact hn));have B4:=aA ((B3.out.trans (BU.out.mono (by have:=K5.out.hz;exact this))).trans (KA.below (fun b f=>(C.out.own.lt b (by rw [c.out];exact f)).1) (by have:=jb.out;omega)));clear ho A hn KA R jk jj jb BU)
                  | fail)
                 clear m0 m1 m2 m3 m4 m5 m6 m7 m8 m9 jo;go_wp2_with fail
                 go_roundw
                 case rel=>exact ⟨acc++[⟨nm,a⟩],a',c',ps++[p],by rw [Tb,c.out];rfl,by rw [Tb,c.out];go_num,by rw [Tb,c.out];simp;omega,by have h8:=Y.out;rw [c.out] at h8;rw [Tb,c.out];simp;omega,by rw [Tb];exact jz,K6,B4⟩
                 case measure=>simp [intOf];omega
  · obtain rfl:k=L.length:=by omega
    have l:=aA (show r=.ok acc by rw [<- HP.out,c.out,List.drop_length];rfl);rw [c.out];clear d;go_wp2_with fail
    exact bodyPost_ret (v:=.tuple #[.slice M L.length oc,.int .i64 0,.int .i64 0]) (by simp [results,results10,go_sem]) rfl (by rw [l.out];exact ⟨U.out.b,M,oc,by rw [c.out],U.out.reads⟩)
structure PD where
 v:Int
 o:Tr
 t:Tr
abbrev pdV (x:PD):Value:=.agg #[.int .i64 x.v,.string x.o,.string x.t]
abbrev pdO (x:PD) (T:TypeId):Obj:=.cells #[.int .i64 x.v,.string x.o,.string x.t] T
theorem xN {W:World} {B:Nat} {c b a:Value} {t:TypeId} (h:W.heap[B]? = some (.cells #[c,b,a] t (0,0))):W.cell? ⟨B,0,none⟩=some c/\W.cell? ⟨B,1,none⟩=some b/\W.cell? ⟨B,2,none⟩=some a:=by
 refine ⟨?_,?_,?_⟩ <;> simp [World.cell?,h]
def Sw:Ip->Int
 | .bad _ e=>e
 | .ok _=>0
def EY (x:PD):Int :=
 if Wr.countB x.v=false then 1 else if x.v=0 then (if x.o.toList.isEmpty=true/\x.t.toList.isEmpty=true then 0 else 2) else
 if Qv x.o.data.toList=false then 5 else if 4096<x.t.size then 4 else Sw (fX x.t.data.toList)
def Es (x y:PD):Bool:=if x.v=y.v then (!lsS x.o y.o && !(x.o.toList == y.o.toList)) else decide (y.v<x.v)
theorem uJ (s:Tr) (w:World):Calls prog 25 #[.string s] w fun e w'=>e=.returned (.bool (dD s.data.toList))/\Below w.heap.size w w':=by
 cases a:(s.data.toList == [114,101,112]) with
 | true =>
   have f:=bG a;have R:dD s.data.toList=true:=by unfold dD;rw [a];simp
   rw [R];clear R  a;go_enter func25,ntmps25
   go_wp2_with fail
   go_ret;exact ⟨rfl,Below.refl _ _⟩
 | false =>
   cases b:(s.data.toList == [108,111,97,100]) with
   | true =>
     have f:=aH a;have g:=bG b;have R:dD s.data.toList=true:=by unfold dD;rw [b];simp
     rw [R];clear R a b;go_enter func25,ntmps25
     go_wp2_with fail
     go_ret;exact ⟨rfl,Below.refl _ _⟩
   | false =>
     cases c:(s.data.toList == [110]) with
     | true =>
       have f:=aH a;have g:=aH b;have h:=bG c;have R:dD s.data.toList=true:=by unfold dD;rw [c];simp
       rw [R];clear R a b c;go_enter func25,ntmps25
       go_wp2_with fail
       go_ret;exact ⟨rfl,Below.refl _ _⟩
     | false =>
       cases d:(s.data.toList == [118,101,114]) with
       | true =>
         have f:=aH a;have g:=aH b;have h:=aH c;have j:=bG d;have R:dD s.data.toList=true:=by unfold dD;rw [d];simp
         rw [R];clear R a b c d;go_enter func25,ntmps25
         go_wp2_with fail
         go_ret;exact ⟨rfl,Below.refl _ _⟩
       | false =>
         have f:=aH a;have g:=aH b;have h:=aH c;have j:=aH d;have R:dD s.data.toList=false:=by unfold dD;rw [a,b,c,d];rfl
         rw [R];clear R a b c d;go_enter func25,ntmps25
         go_wp2_with fail
         go_ret;exact ⟨rfl,Below.refl _ _⟩
theorem yD (x y:PD) (w:World):Calls prog 23 #[pdV x,pdV y] w fun e w'=>e=.returned (.bool (Es x y))/\Below w.heap.size w w':=by
 have b:=bA0 w (pdO x 46);have a:=aA (b.alloc (by rw [Tc];omega) (pdO y 46));clear b;by_cases h:x.v=y.v
 · have R:=aA (show Es x y=(!lsS x.o y.o && !(x.o.toList == y.o.toList)) by unfold Es;rw [if_pos h])
   have c:((x.v:Int) != (y.v:Int))=false:=by rw [h];simp
   clear h;go_enter func23,ntmps23
   go_wp2_with fail
   go_ret;exact ⟨by rw [R.out];rfl,a.out⟩
 · have R:=aA (show Es x y=decide (y.v<x.v) by unfold Es;rw [if_neg h])
   have c:((x.v:Int) != (y.v:Int))=true:=by rw [bne_iff_ne];exact h
   clear h;go_enter func23,ntmps23
   go_wp2_with fail
   go_ret;exact ⟨by rw [R.out];rfl,a.out⟩
theorem I5 (x:PD) (w:World):Calls prog 48 #[pdV x] w fun e w'=>e=.returned (.int .i64 (if x.o.toList.isEmpty=true/\x.t.toList.isEmpty=true then 0 else 2))/\Below w.heap.size w w':=by
 have a:=aA (bA0 w (pdO x 46));obtain ⟨r,hr⟩:∃ r:Int,(if x.o.toList.isEmpty=true/\x.t.toList.isEmpty=true then 0 else 2)=r:=⟨_,rfl⟩;rw [hr];cases c:x.o.toList.isEmpty with
 | false =>
   rw [c,if_neg (by simp)] at hr;subst hr;go_enter func48,ntmps48
   go_wp2_with fail
   go_ret;exact ⟨rfl,a.out⟩
 | true =>
   cases b:x.t.toList.isEmpty with
   | false =>
     rw [b,if_neg (by simp)] at hr;subst hr;go_enter func48,ntmps48
     go_wp2_with fail
     go_ret;exact ⟨rfl,a.out⟩
   | true =>
     rw [c,b,if_pos ⟨rfl,rfl⟩] at hr;subst hr;go_enter func48,ntmps48
     go_wp2_with fail
     go_ret;exact ⟨rfl,a.out⟩
end Go.Proofs.YtgfkjkokmcejbaaGreatDoor
