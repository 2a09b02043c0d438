/-
 No statement: what AggTextsCard needs, of the texts QLawOf, OTextsP.
-/
import Derived.Test.YtapcjnoaofmmiaaGreatDoorVT17
set_option maxHeartbeats 40000000
set_option maxRecDepth 100000
namespace Go.Proofs.YtapcjnoaofmmiaaGreatDoor
section
open Go.RowKit
structure SmG (x:AG):Prop where
 e:aT x.e<=1000
 g:aT x.g<=1000
 c:∀ d∈x.wh,aT d.a<=1000/\aT d.b<=1000
 wh:x.wh.length<=1000
abbrev GL (n X:Nat) (wa:Option Addr) (b:Nat):Prop:=n+1<b/\b ≠ X/\wa ≠ some ⟨b,0,none⟩
structure LOA (G:Nat->Prop) (w:World) (x:AG) (pa:PA) (X k:Nat) (p:PA) (qs:List QC) (V:World):Prop where
 b:Below w.heap.size w V
 bx:V.heap[w.heap.size]? = some (agP x pa)
 rs:V.heap[w.heap.size+1]? = some (agO aN aI)
 n:V.heap[X]? = some (agO { x with wh:=x.wh.take k } p)
 e:aH (GL w.heap.size X p.wa) V p.ea x.e.ks
 g:aH (GL w.heap.size X p.wa) V p.ga x.g.ks
 own:V.ownsRow (X+1) 90 9 (.slice p.wa k p.wc) k (cdL (x.wh.take k) qs)
 ql:qs.length=k
 kd:lE (GL w.heap.size X p.wa) V (x.wh.take k) qs
 lo:w.heap.size+1<X
 hz:X<V.heap.size
section
variable {G:Nat->Prop} {w:World} {x:AG} {pa p:PA} {X k:Nat} {qs:List QC} {V V':World}
theorem LOA.step (h:LOA G w x pa X k p qs V) (hb:Below V.heap.size V V'):LOA G w x pa X k p qs V':=by
 have hk:=aF hb (fun _=>False);have h1:=h.lo;have h2:=h.hz;exact ⟨h.b.trans (hb.mono (by omega)),(hb.block _ (by omega)).trans h.bx,(hb.block _ (by omega)).trans h.rs,(hb.block _ h.hz).trans h.n,h.e.keptS hk (fun _ h=>h.elim),h.g.keptS hk (fun _ h=>h.elim),bR h.own hb,h.ql,h.kd.keptS hk (fun _ h=>h.elim),h.lo,Nat.lt_of_lt_of_le h.hz hb.size⟩
theorem LOA.wlo (h:LOA G w x pa X k p qs V) {b:Nat} (hb:(Value.slice p.wa k p.wc).ownBlock=some b):X+1<=b:=(h.own.lt b hb).1
theorem LOA.fresh (h:LOA G w x pa X k p qs V) {b:Nat} (hb:V.heap.size<=b):GL w.heap.size X p.wa b:=by
 have h1:=h.lo;have h2:=h.hz;refine ⟨by omega,by omega,fun e=>?_⟩;have:=(h.own.lt b (by rw [e];rfl)).2;omega
theorem LOA.push (h:LOA G w x pa X k p qs V) {d:CD} {q:QC} {a':Option Addr} {c':Nat} (hd:x.wh[k]? = some d) (hk:aE (fun b=>(Value.slice p.wa k p.wc).ownBlock=some b) V V')
 (hrow:V'.ownsRow (X+1) 90 9 (.slice a' (k+1) c') (k+1) (cdL (x.wh.take k) qs++eF d q))
 (hnew:∀ b,(Value.slice a' (k+1) c').ownBlock=some b->(Value.slice p.wa k p.wc).ownBlock=some b\/V.heap.size<=b)
 (h1:aH (GL w.heap.size X p.wa) V q.a1 d.a.ks) (h2:aH (GL w.heap.size X p.wa) V q.a2 d.b.ks) :
 LOA G w x pa X (k+1) { p with wa:=a',wc:=c' } (qs++[q]) (V'.setCell ⟨X,10,none⟩ (.slice a' (k+1) c')):=by
 have e1:=h.lo;have e2:=h.hz
 have own:∀ b,(Value.slice p.wa k p.wc).ownBlock=some b->p.wa=some ⟨b,0,none⟩:=fun b hb=>by
  rcases h.own.2 with ⟨q1,_⟩ | ⟨g,cap,cur,q1,_⟩
  · rw [q1] at hb;cases hb
  · rw [q1] at hb
    cases hb;simp only [Value.slice.injEq] at q1;exact q1.1
 have own':∀ b,a'=some ⟨b,0,none⟩->(Value.slice a' (k+1) c').ownBlock=some b:=fun b hb=>by rw [hb];rfl
 have lo:=fun b hb=>h.wlo (b:=b) hb
 have htk:x.wh.take (k+1)=x.wh.take k++[d]:=by
  obtain ⟨hl,e⟩:=List.getElem?_eq_some_iff.1 hd;rw [List.take_succ_eq_append_getElem hl,e]
 have hlk:(x.wh.take k).length=k:=by rw [List.length_take];have:=(List.getElem?_eq_some_iff.1 hd).1;omega
 have hlk1:(x.wh.take (k+1)).length=k+1:=by rw [htk,List.length_append,hlk];rfl
 have KS:=(aE.refl (· = X) V').setCell (p:=⟨X,10,none⟩) (.inl rfl) (.slice a' (k+1) c');have n1:=hk.heap h.n (fun e=>by have:=lo _ e;omega)
 have hnn:(V'.setCell ⟨X,10,none⟩ (.slice a' (k+1) c')).heap[X]? = some (agO { x with wh:=x.wh.take (k+1) } { p with wa:=a',wc:=c' }):=by
  have:=heap_setCell_same V' X 10 _ _ (.slice a' (k+1) c') n1;rw [show agO { x with wh:=x.wh.take (k+1) } { p with wa:=a',wc:=c' }=.cells #[.string x.fn,.int .i64 x.k,.string x.e.op,.string x.e.nm,.int .i64 x.e.n,.slice p.ea x.e.ks.len p.ec,.string x.g.op,.string x.g.nm,.int .i64 x.g.n,.slice p.ga x.g.ks.len p.gc,.slice a' (k+1) c'] 37 by show Obj.cells #[_,_,_,_,_,_,_,_,_,_,.slice a' (x.wh.take (k+1)).length c'] _=_;rw [hlk1]];simpa using this
 have kd:=h.kd.snoc (by rw [hlk];exact h.ql) h1 h2;refine ⟨(h.b.trans (hk.below (fun b hb=>by have:=lo b hb;omega) (by omega))).trans (KS.below (fun b hb=>by omega) (by have:=hk.size;omega)),KS.heap (hk.heap h.bx (fun e=>by have:=lo _ e;omega)) (by omega),KS.heap (hk.heap h.rs (fun e=>by have:=lo _ e;omega)) (by omega),hnn,?_,?_,?_,by rw [List.length_append,h.ql];rfl,?_,e1,by rw [World.size_setCell];exact Nat.lt_of_lt_of_le h.hz hk.size⟩
 · exact ((h.e.imp (H:=fun b=>GL w.heap.size X p.wa b/\a' ≠ some ⟨b,0,none⟩) (fun b hb hg=>⟨hg,fun e=>by
    rcases hnew b (own' b e) with h | h
    · exact hg.2.2 (own b h)
    · omega⟩)).keptS hk (fun k hk hg=>hg.1.2.2 (own k hk))).keptS KS (fun k hk hg=>hg.1.2.1 hk) |>.imp (fun b _ hg=>⟨hg.1.1,hg.1.2.1,hg.2⟩)
 · exact ((h.g.imp (H:=fun b=>GL w.heap.size X p.wa b/\a' ≠ some ⟨b,0,none⟩) (fun b hb hg=>⟨hg,fun e=>by
    rcases hnew b (own' b e) with h | h
    · exact hg.2.2 (own b h)
    · omega⟩)).keptS hk (fun k hk hg=>hg.1.2.2 (own k hk))).keptS KS (fun k hk hg=>hg.1.2.1 hk) |>.imp (fun b _ hg=>⟨hg.1.1,hg.1.2.1,hg.2⟩)
 · rw [htk,sI _ _ _ _ (by rw [hlk];exact h.ql)]
   have e:cdL [d] [q]=eF d q:=by simp [cdL]
   rw [e];exact gC hrow (by omega) _ _
 · rw [htk]
   exact ((kd.imp (H:=fun b=>GL w.heap.size X p.wa b/\a' ≠ some ⟨b,0,none⟩) (fun b hb hg=>⟨hg,fun e=>by
    rcases hnew b (own' b e) with h | h
    · exact hg.2.2 (own b h)
    · omega⟩)).keptS hk (fun k hk hg=>hg.1.2.2 (own k hk))).keptS KS (fun k hk hg=>hg.1.2.1 hk) |>.imp (fun b _ hg=>⟨hg.1.1,hg.1.2.1,hg.2⟩)
theorem LOA.done (h:LOA G w x pa X x.wh.length p qs V):aP (fun b=>w.heap.size<=b) (dX V (w.heap.size+1) x p) x p/\Below w.heap.size w (dX V (w.heap.size+1) x p):=by
 have e1:=h.lo;have e2:=h.hz;have KP:=bH V (w.heap.size+1) x p;have own:=h.own;have kd:=h.kd;rw [List.take_length] at own kd;refine ⟨⟨(h.e.keptS KP (fun k hk hg=>by have:=hg.1;omega)).imp (fun b _ hg=>by have:=hg.1;omega),(h.g.keptS KP (fun k hk hg=>by have:=hg.1;omega)).imp (fun b _ hg=>by have:=hg.1;omega),?_⟩,h.b.trans (KP.below (fun b hb=>by omega) (by omega))⟩;exact oU (dH (row:=some (w.heap.size+1)) own (KP.mono (fun i hi _=>by rw [hi])) (fun b hb he=>by have:=h.wlo hb;have:=Option.some.inj he;omega)) h.ql ((kd.keptS KP (fun k hk hg=>by have:=hg.1;omega)).imp (fun b _ hg=>by have:=hg.1;omega)) (fun b hb=>by have:=h.wlo (b:=b) (by rw [hb];rfl);omega)
end
abbrev agZ:Obj:=(.cells #[.string ⟨#[]⟩,.int .i64 0,.string ⟨#[]⟩,.string ⟨#[]⟩,.int .i64 0,.slice none 0 0,.string ⟨#[]⟩,.string ⟨#[]⟩,.int .i64 0,.slice none 0 0,.slice none 0 0] 37)
section
variable {G:Nat->Prop} {w W V:World} {x:AG} {pa:PA} {X:Nat} {a3 a4:Option Addr} {c3 c4:Nat}
theorem Db (HK:KP9 G w x pa W) (HN:W.heap[w.heap.size+1]? = some (agO aN aI)) (HZ:W.heap.size=w.heap.size+2) (B:Below W.heap.size W V) (NY:V.heap[X]? = some agZ) (hX:w.heap.size+1<X)
 (e:aH (fun b=>w.heap.size+1<b/\b ≠ X) V a3 x.e.ks) (g:aH (fun b=>w.heap.size+1<b/\b ≠ X) V a4 x.g.ks):LOA G w x pa X 0 ⟨a3,c3,a4,c4,none,0⟩ [] (dX V X ⟨x.fn,x.k,x.e,x.g,[]⟩ ⟨a3,c3,a4,c4,none,0⟩):=by
 have K1:=HK.step B;have KP:=bH V X ⟨x.fn,x.k,x.e,x.g,[]⟩ ⟨a3,c3,a4,c4,none,0⟩;have hlt:=aG NY;have hb0:=aG K1.n;refine ⟨K1.b.trans (KP.below (fun b hb=>by omega) K1.z),KP.heap K1.n (by omega),KP.heap ((B.block _ (by omega)).trans HN) (by omega),cB NY ⟨x.fn,x.k,x.e,x.g,[]⟩ ⟨a3,c3,a4,c4,none,0⟩,?_,?_,⟨rfl,.inl ⟨rfl,rfl⟩⟩,rfl,fun j d q h1 _=>by simp at h1,hX,Nat.lt_of_lt_of_le hlt KP.size⟩
 · exact (e.keptS KP (fun k hk hg=>hg.2 hk)).imp (fun b _ hg=>⟨hg.1,hg.2,fun e=>by cases e⟩)
 · exact (g.keptS KP (fun k hk hg=>hg.2 hk)).imp (fun b _ hg=>⟨hg.1,hg.2,fun e=>by cases e⟩)
theorem Ea (HK:KP9 G w x pa W) (HN:W.heap[w.heap.size+1]? = some (agO aN aI)) (HZ:W.heap.size=w.heap.size+2) (B:Below W.heap.size W V)
 (e:aH (fun b=>w.heap.size+1<b/\b<V.heap.size) V a3 x.e.ks) (g:aH (fun b=>w.heap.size+1<b/\b<V.heap.size) V a4 x.g.ks):LOA G w x pa V.heap.size 0 ⟨a3,c3,a4,c4,none,0⟩ [] (V.alloc (agO ⟨x.fn,x.k,x.e,x.g,[]⟩ ⟨a3,c3,a4,c4,none,0⟩)):=by
 have K1:=HK.step B;have BA:=(Below.refl V.heap.size V).alloc (Nat.le_refl _) (agO ⟨x.fn,x.k,x.e,x.g,[]⟩ ⟨a3,c3,a4,c4,none,0⟩);have hb0:=aG K1.n;have hz:=B.size;refine ⟨(K1.step BA).b,(K1.step BA).n,(BA.block _ (by omega)).trans ((B.block _ (by omega)).trans HN),heap_alloc_new V _,?_,?_,⟨rfl,.inl ⟨rfl,rfl⟩⟩,rfl,fun j d q h1 _=>by simp at h1,by omega,by rw [World.size_alloc];omega⟩
 · exact (e.kept BA).imp (fun b _ hg=>⟨hg.1,by omega,fun e=>by cases e⟩)
 · exact (g.kept BA).imp (fun b _ hg=>⟨hg.1,by omega,fun e=>by cases e⟩)
end
theorem tR {w3 w4:World} {o:Obj} (h:Below (w3.alloc o).heap.size (w3.alloc o) w4):aE (fun b=>w3.heap.size<=b) w3 w4 :=
 (aF ((Below.refl _ _).alloc (Nat.le_refl _) o) _).trans (aF h _) (fun _ hi _=>hi)
theorem Lo {B:Nat} {w w':World} (h:Below B w w'):Below B w w'.drew:=⟨h.os,h.tape,h.output,h.size,h.block⟩
theorem Ht (W:World):Below W.heap.size W (W.alloc agZ).drew:=Lo ((Below.refl _ _).alloc (Nat.le_refl _) _)
theorem FP (W:World):(W.alloc agZ).drew.heap.size=W.heap.size+1:=World.size_alloc _ _
theorem IQ (W:World) {w3:World} (hb:Below (W.alloc agZ).drew.heap.size (W.alloc agZ).drew w3):w3.heap[W.heap.size]? = some agZ :=
 (hb.block W.heap.size (by rw [FP];exact Nat.lt_succ_self _)).trans (heap_alloc_new W agZ)
theorem Gh {G:Nat->Prop} (x:AG) (pa:PA) (w:World) (hS:SmG x) (hr:aP G w x pa):Calls Tryz.prog 12 #[agV x pa] w fun e w'=>∃ p,e=.returned (agV x p)/\aP (fun b=>w.heap.size<=b) w' x p/\Below w.heap.size w w':=by
 have hz1:(w.alloc (agP x pa)).heap.size=w.heap.size+1:=World.size_alloc _ _;have K0:=nS hr;generalize hW1:w.alloc (agP x pa)=W1 at K0 hz1;have BA:=(Below.refl W1.heap.size W1).alloc (Nat.le_refl _) (agO aN aI);have n2:=heap_alloc_new W1 (agO aN aI);have hz2:(W1.alloc (agO aN aI)).heap.size=w.heap.size+2:=by rw [World.size_alloc,hz1]
 rw [hz1] at n2;have K1:=K0.step BA;generalize hW:W1.alloc (agO aN aI)=W at K1 n2 hz2;have HW1:=aA hW1;have HW:=aA hW;have HK:=aA K1;have HN:=aA n2;have HZ:=aA hz2;have HS:=aA hS;have RD:=aA hr;have C1:=aA (fun V (hV:Below W.heap.size W V)=>sG x.e G V pa.ea pa.ec hS.e (HK.out.r.e.kept hV));have C2:=aA (fun V (hV:Below W.heap.size W V)=>sG x.g G V pa.ga pa.gc hS.g (HK.out.r.g.kept hV));have hwl:=hS.wh;clear hW1 hW K0 K1 BA n2 hz1 hz2 hS hr;obtain ⟨m0,m1,m2,m3,m4,m5,m6,m7,m8,m9,m10⟩:=aC HK.out.n
 have CL:=aA (p:=∀ V,Below W.heap.size W V->(V.cell? ⟨w.heap.size,0,none⟩=some (.string x.fn)/\V.cell? ⟨w.heap.size,1,none⟩=some (.int .i64 x.k)/\V.cell? ⟨w.heap.size,2,none⟩=some (.string x.e.op)/\V.cell? ⟨w.heap.size,2+1,none⟩=some (.string x.e.nm)/\V.cell? ⟨w.heap.size,2+2,none⟩=some (.int .i64 x.e.n)/\V.cell? ⟨w.heap.size,2+3,none⟩=some (.slice pa.ea x.e.ks.len pa.ec)/\V.cell? ⟨w.heap.size,6,none⟩=some (.string x.g.op)/\V.cell? ⟨w.heap.size,6+1,none⟩=some (.string x.g.nm)/\V.cell? ⟨w.heap.size,6+2,none⟩=some (.int .i64 x.g.n)/\V.cell? ⟨w.heap.size,6+3,none⟩=some (.slice pa.ga x.g.ks.len pa.gc))) (fun V hV=>by
  obtain ⟨m0,m1,m2,m3,m4,m5,m6,m7,m8,m9,m10⟩:=aC (HK.out.step hV).n;exact ⟨m0,m1,m2,m3,m4,m5,m6,m7,m8,m9⟩)
 go_enter Tryz.func12,Tryz.ntmps12
 go_upto_region 1 with fail
 rw [HW1.out,show W1.alloc (.cells #[.string ⟨#[]⟩,.int .i64 0,.string ⟨#[]⟩,.string ⟨#[]⟩,.int .i64 0,.slice none 0 0,.string ⟨#[]⟩,.string ⟨#[]⟩,.int .i64 0,.slice none 0 0,.slice none 0 0] 37)=W from HW.out];clear HW1 HW;go_cut [3] (fun v wc=>∃ (X:Nat) (p:PA),v=.pointer (some ⟨X,0,none⟩)/\Hid (LOA G w x pa X 0 p [] wc))
 case first =>
  go_region_held3 (fun V=>V.cell? ⟨w.heap.size,0,none⟩=some (.string x.fn)/\V.cell? ⟨w.heap.size,1,none⟩=some (.int .i64 x.k)/\V.cell? ⟨w.heap.size,2,none⟩=some (.string x.e.op)/\V.cell? ⟨w.heap.size,2+1,none⟩=some (.string x.e.nm)/\V.cell? ⟨w.heap.size,2+2,none⟩=some (.int .i64 x.e.n)/\V.cell? ⟨w.heap.size,2+3,none⟩=some (.slice pa.ea x.e.ks.len pa.ec)/\V.cell? ⟨w.heap.size,6,none⟩=some (.string x.g.op)/\V.cell? ⟨w.heap.size,6+1,none⟩=some (.string x.g.nm)/\V.cell? ⟨w.heap.size,6+2,none⟩=some (.int .i64 x.g.n)/\V.cell? ⟨w.heap.size,6+3,none⟩=some (.slice pa.ga x.g.ks.len pa.gc)) (first | with_reducible assumption | with_reducible exact ⟨m0,m1,m2,m3,m4,m5,m6,m7,m8,m9⟩ | with_reducible exact CL.out _ (B3.out.alloc B3.out.size _) | with_reducible exact CL.out _ (B4.out.alloc B4.out.size _) | with_reducible exact CL.out _ (bK W) | with_reducible exact CL.out _ (Ht W)) (first
   | (go_at_call 41
      with_reducible refine (C1.out _ (bK W)).mono ?_
      rintro e w3 ⟨a3,c3,rfl,r3,hb⟩;have B3:=aA ((bK W).trans hb);have R3:=aA (show aH (fun b=>W.heap.size<=b) w3 a3 x.e.ks from r3);have cc:=CL.out _ B3.out;clear hb r3)
   | (go_at_call 41
      with_reducible refine (C1.out _ (Ht W)).mono ?_
      rintro e w3 ⟨a3,c3,rfl,r3,hb⟩;have NX:=aA (IQ W hb);have B3:=aA ((Ht W).trans (hb.mono (by rw [FP];exact Nat.le_succ _)));have R3:=aA (aH.imp (G:=fun b=>(W.alloc agZ).drew.heap.size<=b) (H:=fun b=>W.heap.size+1<=b) r3 (fun b _ h=>by have h2:(W.alloc agZ).drew.heap.size<=b:=h;rw [FP] at h2;exact h2));have cc:=CL.out _ B3.out;clear hb r3)
   | (go_at_call 41
      with_reducible refine (C2.out w3 B3.out).mono ?_
      rintro e w4 ⟨a4,c4,rfl,r4,hb⟩;have B4:=aA (B3.out.trans (hb.mono B3.out.size));have HB:=aA hb;have R4:=aA (show aH (fun b=>w3.heap.size<=b) w4 a4 x.g.ks from r4);have cd:=CL.out _ B4.out;have NY:=aA ((hb.block _ (aG NX.out)).trans NX.out);have BS:=B4.out.trans ((bH w4 W.heap.size ⟨x.fn,x.k,x.e,x.g,[]⟩ ⟨a3,c3,a4,c4,none,0⟩).below (B:=W.heap.size) (fun b hb=>by rw [hb];first | exact Nat.le_refl _ | exact B3.out.size) B4.out.size);have CS:=CL.out _ BS;dsimp only [dX,List.length_nil] at CS;clear BS;obtain ⟨u0,u1,u2,u3,u4,u5,u6,u7,u8,u9,u10⟩:=aC NY.out;obtain ⟨z0,z1,z2,z3,z4,z5,z6,z7,z8,z9,z10⟩:=bE NY.out;clear hb r4)
   | (go_at_call 41
      with_reducible refine (C2.out w3 B3.out).mono ?_
      rintro e w4 ⟨a4,c4,rfl,r4,hb⟩;have B4:=aA (B3.out.trans (hb.mono B3.out.size));have HB:=aA hb;have R4:=aA (show aH (fun b=>w3.heap.size<=b) w4 a4 x.g.ks from r4);have cd:=CL.out _ B4.out;have NZ:=aA (heap_alloc_new w4 agZ);obtain ⟨u0,u1,u2,u3,u4,u5,u6,u7,u8,u9,u10⟩:=aC NZ.out;obtain ⟨z0,z1,z2,z3,z4,z5,z6,z7,z8,z9,z10⟩:=bE NZ.out;clear hb r4)
   | (go_at_call 41
      with_reducible refine (C2.out _ (B3.out.alloc B3.out.size agZ)).mono ?_
      rintro e w4 ⟨a4,c4,rfl,r4,hb⟩;have B4:=aA ((B3.out.alloc B3.out.size agZ).trans (hb.mono (by rw [World.size_alloc];exact Nat.le_succ_of_le B3.out.size)));have HB:=aA hb;have R4:=aA (show aH (fun b=>(w3.alloc agZ).heap.size<=b) w4 a4 x.g.ks from r4);have cd:=CL.out _ B4.out;have NY:=aA ((hb.block _ (aG (heap_alloc_new w3 agZ))).trans (heap_alloc_new w3 agZ));have BS:=B4.out.trans ((bH w4 w3.heap.size ⟨x.fn,x.k,x.e,x.g,[]⟩ ⟨a3,c3,a4,c4,none,0⟩).below (B:=W.heap.size) (fun b hb=>by rw [hb];first | exact Nat.le_refl _ | exact B3.out.size) B4.out.size);have CS:=CL.out _ BS;dsimp only [dX,List.length_nil] at CS;clear BS;obtain ⟨u0,u1,u2,u3,u4,u5,u6,u7,u8,u9,u10⟩:=aC NY.out;obtain ⟨z0,z1,z2,z3,z4,z5,z6,z7,z8,z9,z10⟩:=bE NY.out;clear hb r4)
   | fail)
  all_goals
   go_wp2_with fail
   go_meet
   case rel=>first
    | (have hq:=NX;clear hq;exact ⟨W.heap.size,⟨a3,c3,a4,c4,none,0⟩,rfl,aA (Db HK.out HN.out HZ.out B4.out NY.out (by have:=HZ.out;omega) ((R3.out.kept HB.out).imp (fun b _ hb=>by have h:W.heap.size+1<=b:=hb;have:=HZ.out;exact ⟨by omega,by omega⟩)) (R4.out.imp (fun b _ hb=>by have h:w3.heap.size<=b:=hb;have:=HZ.out;have:=aG NX.out;exact ⟨by omega,by omega⟩)))⟩)
    | (have hq:=NZ;clear hq;exact ⟨w4.heap.size,⟨a3,c3,a4,c4,none,0⟩,rfl,aA (Ea HK.out HN.out HZ.out B4.out ((R3.out.kept HB.out).imp (fun b hl hb=>by have h:W.heap.size<=b:=hb;have:=HZ.out;exact ⟨by omega,by omega⟩)) (R4.out.imp (fun b hl hb=>by have h:w3.heap.size<=b:=hb;have:=HZ.out;have:=B3.out.size;exact ⟨by omega,by omega⟩)))⟩)
    | exact ⟨w3.heap.size,⟨a3,c3,a4,c4,none,0⟩,rfl,aA (Db HK.out HN.out HZ.out B4.out NY.out (by have:=HZ.out;have:=B3.out.size;omega) ((aH.imp (H:=fun b=>W.heap.size<=b/\b<w3.heap.size) R3.out (fun b hl hb=>⟨hb,hl⟩)).keptS (S:=fun b=>w3.heap.size<=b) (tR HB.out) (fun k hk hg=>by have h:w3.heap.size<=k:=hk;omega) |>.imp (fun b _ hb=>by have:=HZ.out;exact ⟨by omega,by omega⟩)) (R4.out.imp (fun b _ hb=>by have h:(w3.alloc agZ).heap.size<=b:=hb;rw [World.size_alloc] at h;have:=HZ.out;have:=B3.out.size;exact ⟨by omega,by omega⟩)))⟩
 case rest =>
  obtain ⟨X,pz,rfl,L0⟩:=hcut;clear C1 C2 CL HK HN HZ m0 m1 m2 m3 m4 m5 m6 m7 m8 m9 m10;go_wp2_with fail
  go_loopw [4] (fun i wr=>∃ (k:Nat) (p:PA) (qs:List QC),i=.int .i64 k/\k<=x.wh.length/\Hid (LOA G w x pa X k p qs wr)) (fun i _=>x.wh.length-(intOf i).toNat)
  case atStart=>exact ⟨0,pz,[],rfl,Nat.zero_le _,L0⟩
  case round =>
   obtain ⟨k,p,qs,rfl,hk,HL⟩:=hrel;clear L0;by_cases hlt:k<x.wh.length
   · obtain ⟨d,hd⟩:∃ d,x.wh[k]? = some d:=⟨_,List.getElem?_eq_getElem hlt⟩
     have hne:¬ x.wh=[]:=fun e=>by rw [e] at hlt;simp at hlt
     obtain ⟨b,off,hwa, -,hbl,hcc⟩:=RD.out.c.resolve_left hne;obtain ⟨a1,c1,a2,c2,⟨p0,p1,p2,p3,p4,p5,p6,p7,p8⟩,r1,r2⟩:=hcc k d hd;have hsz:=HS.out.c d (List.mem_of_getElem? hd);obtain ⟨-, -, -, -, -, -, -, -, -, -,x10⟩:=aC HL.out.n;have hlk:(x.wh.take k).length=k:=by rw [List.length_take];omega
     have x10':wr.cell? ⟨X,10,none⟩=some (.slice p.wa k p.wc):=by rw [x10];show some (Value.slice p.wa (x.wh.take k).length p.wc)=_;rw [hlk]
     clear x10;have x10:=x10';clear x10'
     have CS:=aA (p:=∀ V,Below w.heap.size w V->V.heap[w.heap.size]? = some (agP x pa)->(V.cell? ⟨w.heap.size,10,none⟩=some (.slice (some ⟨b,off,none⟩) x.wh.length pa.wc)/\V.cell? ⟨b,off+k*9,none⟩=some (.string d.op)/\V.cell? ⟨b,off+k*9+1,none⟩=some (.string d.a.op)/\V.cell? ⟨b,off+k*9+1+1,none⟩=some (.string d.a.nm)/\V.cell? ⟨b,off+k*9+1+2,none⟩=some (.int .i64 d.a.n)/\V.cell? ⟨b,off+k*9+1+3,none⟩=some (.slice a1 d.a.ks.len c1)/\V.cell? ⟨b,off+k*9+5,none⟩=some (.string d.b.op)/\V.cell? ⟨b,off+k*9+5+1,none⟩=some (.string d.b.nm)/\V.cell? ⟨b,off+k*9+5+2,none⟩=some (.int .i64 d.b.n)/\V.cell? ⟨b,off+k*9+5+3,none⟩=some (.slice a2 d.b.ks.len c2))) (fun V hV hn=>by
      obtain ⟨-, -, -, -, -, -, -, -, -, -,m10⟩:=aC hn;rw [hwa] at m10;exact ⟨m10,(hV.cell (p:=⟨b,_,none⟩) hbl).trans p0,(hV.cell (p:=⟨b,_,none⟩) hbl).trans p1,(hV.cell (p:=⟨b,_,none⟩) hbl).trans p2,(hV.cell (p:=⟨b,_,none⟩) hbl).trans p3,(hV.cell (p:=⟨b,_,none⟩) hbl).trans p4,(hV.cell (p:=⟨b,_,none⟩) hbl).trans p5,(hV.cell (p:=⟨b,_,none⟩) hbl).trans p6,(hV.cell (p:=⟨b,_,none⟩) hbl).trans p7,(hV.cell (p:=⟨b,_,none⟩) hbl).trans p8⟩)
     have BV:=aA (fun V (hV:Below wr.heap.size wr V)=>HL.out.b.trans (hV.mono HL.out.b.size));have CL:=aA (p:=∀ V,Below wr.heap.size wr V->(V.cell? ⟨w.heap.size,10,none⟩=some (.slice (some ⟨b,off,none⟩) x.wh.length pa.wc)/\V.cell? ⟨b,off+k*9,none⟩=some (.string d.op)/\V.cell? ⟨b,off+k*9+1,none⟩=some (.string d.a.op)/\V.cell? ⟨b,off+k*9+1+1,none⟩=some (.string d.a.nm)/\V.cell? ⟨b,off+k*9+1+2,none⟩=some (.int .i64 d.a.n)/\V.cell? ⟨b,off+k*9+1+3,none⟩=some (.slice a1 d.a.ks.len c1)/\V.cell? ⟨b,off+k*9+5,none⟩=some (.string d.b.op)/\V.cell? ⟨b,off+k*9+5+1,none⟩=some (.string d.b.nm)/\V.cell? ⟨b,off+k*9+5+2,none⟩=some (.int .i64 d.b.n)/\V.cell? ⟨b,off+k*9+5+3,none⟩=some (.slice a2 d.b.ks.len c2))) (fun V hV=>CS.out V (BV.out V hV) ((hV.block _ (aG HL.out.bx)).trans HL.out.bx));have XC:=aA (p:=∀ V,Below wr.heap.size wr V->V.cell? ⟨X,10,none⟩=some (.slice p.wa k p.wc)) (fun V hV=>(hV.cell (p:=⟨X,_,none⟩) HL.out.hz).trans x10);have D1:=aA (fun V (hV:Below wr.heap.size wr V)=>sG d.a G V a1 c1 hsz.1 (r1.kept (BV.out V hV)));have D2:=aA (fun V (hV:Below wr.heap.size wr V)=>sG d.b G V a2 c2 hsz.2 (r2.kept (BV.out V hV)));have und:=Tryz.underlying35;obtain ⟨i,zv,hi,hz0,hz1,hz2,hz3⟩:=Ap;have HD:=aA hd;have b1:(k:Int)<(x.wh.length:Int):=by omega
     have b2:(0:Int)<=(k:Int):=by omega
     have b3:((k:Int)).toNat=k:=by omega
     have HKB:=aA (show k<1000 by omega);clear hne hcc hd hsz r1 r2 hlk x10 p0 p1 p2 p3 p4 p5 p6 p7 p8;obtain ⟨-, -, -, -, -, -, -, -, -, -,m10⟩:=aC HL.out.bx;go_upto_region 5 with fail
     clear m10;refine wp_region_held (S:=fun V=>V.cell? ⟨w.heap.size,10,none⟩=some (.slice (some ⟨b,off,none⟩) x.wh.length pa.wc)/\V.cell? ⟨b,off+k*9,none⟩=some (.string d.op)/\V.cell? ⟨b,off+k*9+1,none⟩=some (.string d.a.op)/\V.cell? ⟨b,off+k*9+1+1,none⟩=some (.string d.a.nm)/\V.cell? ⟨b,off+k*9+1+2,none⟩=some (.int .i64 d.a.n)/\V.cell? ⟨b,off+k*9+1+3,none⟩=some (.slice a1 d.a.ks.len c1)/\V.cell? ⟨b,off+k*9+5,none⟩=some (.string d.b.op)/\V.cell? ⟨b,off+k*9+5+1,none⟩=some (.string d.b.nm)/\V.cell? ⟨b,off+k*9+5+2,none⟩=some (.int .i64 d.b.n)/\V.cell? ⟨b,off+k*9+5+3,none⟩=some (.slice a2 d.b.ks.len c2)) (by kernel_rfl) ?_;have hH0:(fun V:World=>V.cell? ⟨w.heap.size,10,none⟩=some (.slice (some ⟨b,off,none⟩) x.wh.length pa.wc)/\V.cell? ⟨b,off+k*9,none⟩=some (.string d.op)/\V.cell? ⟨b,off+k*9+1,none⟩=some (.string d.a.op)/\V.cell? ⟨b,off+k*9+1+1,none⟩=some (.string d.a.nm)/\V.cell? ⟨b,off+k*9+1+2,none⟩=some (.int .i64 d.a.n)/\V.cell? ⟨b,off+k*9+1+3,none⟩=some (.slice a1 d.a.ks.len c1)/\V.cell? ⟨b,off+k*9+5,none⟩=some (.string d.b.op)/\V.cell? ⟨b,off+k*9+5+1,none⟩=some (.string d.b.nm)/\V.cell? ⟨b,off+k*9+5+2,none⟩=some (.int .i64 d.b.n)/\V.cell? ⟨b,off+k*9+5+3,none⟩=some (.slice a2 d.b.ks.len c2)) wr.drew:=CL.out _ (bK wr);have x4:=XC.out _ (bK wr);refine aB (i:=0) (d:=some 23) (v:=.pointer (some ⟨X,10,none⟩)) rfl rfl (by kernel_rfl) (by kernel_rfl) (by kernel_rfl) (fun _ _ _ h=>h) (Or.inl ⟨by rfl,by rintro w ⟨m10,p0,p1,p2,p3,p4,p5,p6,p7,p8⟩;go_simp⟩) hH0 ?_;simp only [Act.put,LG,LH,LI]
     refine aB (i:=2) (d:=some 25) (v:=.pointer (some ⟨w.heap.size,10,none⟩)) rfl rfl (by kernel_rfl) (by kernel_rfl) (by kernel_rfl) (fun _ _ _ h=>h) (Or.inl ⟨by rfl,by rintro w ⟨m10,p0,p1,p2,p3,p4,p5,p6,p7,p8⟩;go_simp⟩) hH0 ?_;simp only [Act.put,LG,LH,LI];refine aB (i:=3) (d:=some 26) (v:=.slice (some ⟨b,off,none⟩) x.wh.length pa.wc) rfl rfl (by kernel_rfl) (by kernel_rfl) (by kernel_rfl) (fun _ _ _ h=>h) (Or.inl ⟨by rfl,by rintro w ⟨m10,p0,p1,p2,p3,p4,p5,p6,p7,p8⟩;go_simp⟩) hH0 ?_;simp only [Act.put,LG,LH,LI];refine aB (i:=4) (d:=some 27) (v:=.int .i64 (k:Nat)) rfl rfl (by kernel_rfl) (by kernel_rfl) (by kernel_rfl) (fun _ _ _ h=>h) (Or.inl ⟨by rfl,by rintro w ⟨m10,p0,p1,p2,p3,p4,p5,p6,p7,p8⟩;go_simp⟩) hH0 ?_;simp only [Act.put,LG,LH,LI];refine aB (i:=5) (d:=some 28) (v:=.pointer (some ⟨b,off+k*9,none⟩)) rfl rfl (by kernel_rfl) (by kernel_rfl) (by kernel_rfl) (fun _ _ _ h=>h) (Or.inl ⟨by rfl,by rintro w ⟨m10,p0,p1,p2,p3,p4,p5,p6,p7,p8⟩;go_simp⟩) hH0 ?_;simp only [Act.put,LG,LH,LI];refine aB (i:=6) (d:=some 29) (v:=.pointer (some ⟨b,off+k*9,none⟩)) rfl rfl (by kernel_rfl) (by kernel_rfl) (by kernel_rfl) (fun _ _ _ h=>h) (Or.inl ⟨by rfl,by rintro w ⟨m10,p0,p1,p2,p3,p4,p5,p6,p7,p8⟩;go_simp⟩) hH0 ?_;simp only [Act.put,LG,LH,LI];refine aB (i:=7) (d:=some 30) (v:=.string d.op) rfl rfl (by kernel_rfl) (by kernel_rfl) (by kernel_rfl) (fun _ _ _ h=>h) (Or.inl ⟨by rfl,by rintro w ⟨m10,p0,p1,p2,p3,p4,p5,p6,p7,p8⟩;go_simp⟩) hH0 ?_;simp only [Act.put,LG,LH,LI];refine aB (i:=8) (d:=some 31) (v:=.pointer (some ⟨w.heap.size,10,none⟩)) rfl rfl (by kernel_rfl) (by kernel_rfl) (by kernel_rfl) (fun _ _ _ h=>h) (Or.inl ⟨by rfl,by rintro w ⟨m10,p0,p1,p2,p3,p4,p5,p6,p7,p8⟩;go_simp⟩) hH0 ?_
     simp only [Act.put,LG,LH,LI];refine aB (i:=9) (d:=some 32) (v:=.slice (some ⟨b,off,none⟩) x.wh.length pa.wc) rfl rfl (by kernel_rfl) (by kernel_rfl) (by kernel_rfl) (fun _ _ _ h=>h) (Or.inl ⟨by rfl,by rintro w ⟨m10,p0,p1,p2,p3,p4,p5,p6,p7,p8⟩;go_simp⟩) hH0 ?_;simp only [Act.put,LG,LH,LI];refine aB (i:=10) (d:=some 33) (v:=.int .i64 (k:Nat)) rfl rfl (by kernel_rfl) (by kernel_rfl) (by kernel_rfl) (fun _ _ _ h=>h) (Or.inl ⟨by rfl,by rintro w ⟨m10,p0,p1,p2,p3,p4,p5,p6,p7,p8⟩;go_simp⟩) hH0 ?_;simp only [Act.put,LG,LH,LI];refine aB (i:=11) (d:=some 34) (v:=.pointer (some ⟨b,off+k*9,none⟩)) rfl rfl (by kernel_rfl) (by kernel_rfl) (by kernel_rfl) (fun _ _ _ h=>h) (Or.inl ⟨by rfl,by rintro w ⟨m10,p0,p1,p2,p3,p4,p5,p6,p7,p8⟩;go_simp⟩) hH0 ?_;simp only [Act.put,LG,LH,LI];refine aB (i:=12) (d:=some 35) (v:=.pointer (some ⟨b,off+k*9+1,none⟩)) rfl rfl (by kernel_rfl) (by kernel_rfl) (by kernel_rfl) (fun _ _ _ h=>h) (Or.inl ⟨by rfl,by rintro w ⟨m10,p0,p1,p2,p3,p4,p5,p6,p7,p8⟩;go_simp⟩) hH0 ?_;simp only [Act.put,LG,LH,LI];refine aB (i:=13) (d:=some 36) (v:=bB d.a.op d.a.nm d.a.n a1 d.a.ks.len c1) rfl rfl (by kernel_rfl) (by kernel_rfl) (by kernel_rfl) (fun _ _ _ h=>h) (Or.inl ⟨by rfl,by rintro w ⟨m10,p0,p1,p2,p3,p4,p5,p6,p7,p8⟩;go_simp⟩) hH0 ?_;simp only [Act.put,LG,LH,LI];refine aB (i:=15) (d:=some 38) (v:=.pointer (some ⟨w.heap.size,10,none⟩)) rfl rfl (by kernel_rfl) (by kernel_rfl) (by kernel_rfl) (fun _ _ _ h=>h) (Or.inl ⟨by rfl,by rintro w ⟨m10,p0,p1,p2,p3,p4,p5,p6,p7,p8⟩;go_simp⟩) hH0 ?_
     simp only [Act.put,LG,LH,LI];refine aB (i:=16) (d:=some 39) (v:=.slice (some ⟨b,off,none⟩) x.wh.length pa.wc) rfl rfl (by kernel_rfl) (by kernel_rfl) (by kernel_rfl) (fun _ _ _ h=>h) (Or.inl ⟨by rfl,by rintro w ⟨m10,p0,p1,p2,p3,p4,p5,p6,p7,p8⟩;go_simp⟩) hH0 ?_;simp only [Act.put,LG,LH,LI];refine aB (i:=17) (d:=some 40) (v:=.int .i64 (k:Nat)) rfl rfl (by kernel_rfl) (by kernel_rfl) (by kernel_rfl) (fun _ _ _ h=>h) (Or.inl ⟨by rfl,by rintro w ⟨m10,p0,p1,p2,p3,p4,p5,p6,p7,p8⟩;go_simp⟩) hH0 ?_;simp only [Act.put,LG,LH,LI];refine aB (i:=18) (d:=some 41) (v:=.pointer (some ⟨b,off+k*9,none⟩)) rfl rfl (by kernel_rfl) (by kernel_rfl) (by kernel_rfl) (fun _ _ _ h=>h) (Or.inl ⟨by rfl,by rintro w ⟨m10,p0,p1,p2,p3,p4,p5,p6,p7,p8⟩;go_simp⟩) hH0 ?_;simp only [Act.put,LG,LH,LI];refine aB (i:=19) (d:=some 42) (v:=.pointer (some ⟨b,off+k*9+5,none⟩)) rfl rfl (by kernel_rfl) (by kernel_rfl) (by kernel_rfl) (fun _ _ _ h=>h) (Or.inl ⟨by rfl,by rintro w ⟨m10,p0,p1,p2,p3,p4,p5,p6,p7,p8⟩;go_simp⟩) hH0 ?_;simp only [Act.put,LG,LH,LI];refine aB (i:=20) (d:=some 43) (v:=bB d.b.op d.b.nm d.b.n a2 d.b.ks.len c2) rfl rfl (by kernel_rfl) (by kernel_rfl) (by kernel_rfl) (fun _ _ _ h=>h) (Or.inl ⟨by rfl,by rintro w ⟨m10,p0,p1,p2,p3,p4,p5,p6,p7,p8⟩;go_simp⟩) hH0 ?_;simp only [Act.put,LG,LH,LI];refine wpAnyH_ready (rs:=[1,14]) (by kernel_rfl) (by simp) ?_;refine AllReadyH.cons (o:=_) rfl (fun K hK=>?_) (AllReadyH.cons (o:=_) rfl (fun K hK=>?_) AllReadyH.nil)
     · go_simp
       refine hK.out _ _ hH0 (fun hH1=>?_);try simp only [Act.put,LG,LH,LI]
       clear hK K;refine wpAnyH_ready (rs:=[14]) (by kernel_rfl) (by simp) ?_;refine AllReadyH.cons (o:=_) rfl (fun K hK=>?_) AllReadyH.nil;go_simp
       refine (D1.out _ (bK wr)).mono ?_;rintro e w5 ⟨a5,c5,rfl,r5,hb⟩;have B5:=aA ((bK wr).trans hb);have R5:=aA (show aH (fun b=>wr.heap.size<=b) w5 a5 d.a.ks from r5);have cc:=CL.out _ B5.out;have x5:=XC.out _ B5.out;clear hb r5;refine hK.out _ _ cc (fun hH5=>?_);try simp only [Act.put,LG,LH,LI]
       clear hK K;refine wpAnyH_ready (rs:=[21]) (by kernel_rfl) (by simp) ?_;refine AllReadyH.cons (o:=_) rfl (fun K hK=>?_) AllReadyH.nil;go_simp
       refine (D2.out w5 B5.out).mono ?_;rintro e w6 ⟨a6,c6,rfl,r6,hb⟩;have B6:=aA (B5.out.trans (hb.mono B5.out.size));have R6:=aA (aH.imp (G:=fun b=>w5.heap.size<=b) (H:=fun b=>wr.heap.size<=b) r6 (fun b _ h=>Nat.le_trans B5.out.size h));have R7:=aA (R5.out.kept hb);have cd:=CL.out _ B6.out;have L6:=aA (HL.out.step B6.out);have OWN:=aA (L6.out.own.alloc (.cells #[.string d.op,.string d.a.op,.string d.a.nm,.int .i64 d.a.n,.slice a5 d.a.ks.len c5,.string d.b.op,.string d.b.nm,.int .i64 d.b.n,.slice a6 d.b.ks.len c6] 90));have NEW:=aA (pY w6 d ⟨a5,c5,a6,c6⟩);have ONE:=aA (fun u (hu:u∈eF d ⟨a5,c5,a6,c6⟩)=>oA [d] [⟨a5,c5,a6,c6⟩] u (by simpa [cdL] using hu));have ce:=CL.out _ (B6.out.alloc B6.out.size (.cells #[.string d.op,.string d.a.op,.string d.a.nm,.int .i64 d.a.n,.slice a5 d.a.ks.len c5,.string d.b.op,.string d.b.nm,.int .i64 d.b.n,.slice a6 d.b.ks.len c6] 90));have x6:=XC.out _ B6.out;clear hb r6;refine hK.out _ _ cd (fun hH6=>?_);try simp only [Act.put,LG,LH,LI]
       clear hK K;refine aB (i:=22) (d:=some 45) (v:=.agg #[.string d.op,.string d.a.op,.string d.a.nm,.int .i64 d.a.n,.slice a5 d.a.ks.len c5,.string d.b.op,.string d.b.nm,.int .i64 d.b.n,.slice a6 d.b.ks.len c6]) rfl rfl (by kernel_rfl) (by kernel_rfl) (by kernel_rfl) (fun _ _ _ h=>h) (Or.inl ⟨by rfl,by rintro w ⟨m10,p0,p1,p2,p3,p4,p5,p6,p7,p8⟩;go_simp⟩) hH6 ?_;simp only [Act.put,LG,LH,LI];refine wpAnyH_ready (rs:=[23]) (by kernel_rfl) (by simp) ?_;refine AllReadyH.cons (o:=_) rfl (fun K hK=>?_) AllReadyH.nil;go_simp
       refine hK.out _ _ ce (fun hH8=>?_);try simp only [Act.put,LG,LH,LI]
       clear hK K;refine wpAnyH_ready (rs:=[24]) (by kernel_rfl) (by simp) ?_;refine AllReadyH.cons (o:=_) rfl (fun K hK=>?_) AllReadyH.nil;refine cO rfl (.tmp 24) (.tmp 46) 35 rfl (base:=X+1) und hi hz0 hz1 hz2 hz3 (by decide) (.slice p.wa k p.wc) k 1 (cdL (x.wh.take k) qs) (eF d ⟨a5,c5,a6,c6⟩) ⟨w6.heap.size,0,none⟩ 1 (by first | (simp [Act.eval];done) | (simp [Act.eval,Act.put];done) | fail) (by first | (simp [Act.eval];done) | (simp [Act.eval,Act.put];done) | fail) OWN.out rfl NEW.out ONE.out (by have:=HKB.out;unfold maxLen;omega) (by have:=HKB.out;omega) (by rw [World.size_alloc];have:=L6.out.hz;omega) ?_;intro v7 w7 ho hg hn;obtain ⟨a',c',hv⟩:=cX ho;subst hv;have BU:=(Below.refl w6.heap.size w6).alloc (Nat.le_refl _) (.cells #[.string d.op,.string d.a.op,.string d.a.nm,.int .i64 d.a.n,.slice a5 d.a.ks.len c5,.string d.b.op,.string d.b.nm,.int .i64 d.b.n,.slice a6 d.b.ks.len c6] 90);have L7:=L6.out.step BU;have KA:=(aE.refl (fun b=>(Value.slice p.wa k p.wc).ownBlock=some b) _).grown hg (fun k hk=>.inl hk);have N7:=KA.heap L7.n (fun e=>by have:=L7.wlo e;omega);have L8:=aA (L7.push HD.out KA ho hn (((R7.out.kept BU)).imp (fun b _ hb=>HL.out.fresh hb)) ((R6.out.kept BU).imp (fun b _ hb=>HL.out.fresh hb)));have CF:=aA (CS.out w7 (L7.b.trans (KA.below (fun q hq=>by have:=L7.wlo hq;have:=L7.lo;omega) (by have:=L7.lo;have:=L7.hz;omega))) (KA.heap L7.bx (fun e=>by have:=L7.wlo e;have:=L7.lo;omega)));have CG:=aA (CS.out _ L8.out.b L8.out.bx);obtain ⟨u0,u1,u2,u3,u4,u5,u6,u7,u8,u9,u10⟩:=aC N7
       obtain ⟨z0,z1,z2,z3,z4,z5,z6,z7,z8,z9,z10⟩:=bE N7;clear ho hg hn KA N7 L7 BU;have cf:=CF.out;refine hK.out _ _ cf (fun hH9=>?_);try simp only [Act.put,LG]
       clear hK K;refine aB (i:=25) (d:=some 48) (v:=.pointer (some ⟨X,10,none⟩)) rfl rfl (by kernel_rfl) (by kernel_rfl) (by kernel_rfl) (fun _ _ _ h=>h) (Or.inl ⟨by rfl,by rintro w ⟨m10,p0,p1,p2,p3,p4,p5,p6,p7,p8⟩;go_simp⟩) hH9 ?_;simp only [Act.put];refine wpAnyH_ready (rs:=[26]) (by kernel_rfl) (by simp) ?_;refine AllReadyH.cons (o:=_) rfl (fun K hK=>?_) AllReadyH.nil;go_simp
       refine hK.out _ _ CG.out (fun hH10=>?_);try simp only [Act.put,LG,LH,LI]
       clear hK K;refine wpAnyH_done (by kernel_rfl) ?_ _;clear hH8 hH9 hH10 cf;go_wp2_with fail
       go_roundw
       case rel=>exact ⟨k+1,_,_,by go_num,by omega,L8⟩
       case measure=>simp [intOf];omega
     · go_simp
       refine (D1.out _ (bK wr)).mono ?_;rintro e w5 ⟨a5,c5,rfl,r5,hb⟩;have B5:=aA ((bK wr).trans hb);have R5:=aA (show aH (fun b=>wr.heap.size<=b) w5 a5 d.a.ks from r5);have cc:=CL.out _ B5.out;have x5:=XC.out _ B5.out;clear hb r5;refine hK.out _ _ cc (fun hH5=>?_);try simp only [Act.put,LG,LH,LI]
       clear hK K;refine wpAnyH_ready (rs:=[1,21]) (by kernel_rfl) (by simp) ?_;refine AllReadyH.cons (o:=_) rfl (fun K hK=>?_) (AllReadyH.cons (o:=_) rfl (fun K hK=>?_) AllReadyH.nil)
       · go_simp
         refine hK.out _ _ hH5 (fun hH7=>?_);try simp only [Act.put,LG,LH,LI]
         clear hK K;refine wpAnyH_ready (rs:=[21]) (by kernel_rfl) (by simp) ?_;refine AllReadyH.cons (o:=_) rfl (fun K hK=>?_) AllReadyH.nil;go_simp
         refine (D2.out w5 B5.out).mono ?_;rintro e w6 ⟨a6,c6,rfl,r6,hb⟩;have B6:=aA (B5.out.trans (hb.mono B5.out.size));have R6:=aA (aH.imp (G:=fun b=>w5.heap.size<=b) (H:=fun b=>wr.heap.size<=b) r6 (fun b _ h=>Nat.le_trans B5.out.size h));have R7:=aA (R5.out.kept hb);have cd:=CL.out _ B6.out;have L6:=aA (HL.out.step B6.out);have OWN:=aA (L6.out.own.alloc (.cells #[.string d.op,.string d.a.op,.string d.a.nm,.int .i64 d.a.n,.slice a5 d.a.ks.len c5,.string d.b.op,.string d.b.nm,.int .i64 d.b.n,.slice a6 d.b.ks.len c6] 90));have NEW:=aA (pY w6 d ⟨a5,c5,a6,c6⟩);have ONE:=aA (fun u (hu:u∈eF d ⟨a5,c5,a6,c6⟩)=>oA [d] [⟨a5,c5,a6,c6⟩] u (by simpa [cdL] using hu));have ce:=CL.out _ (B6.out.alloc B6.out.size (.cells #[.string d.op,.string d.a.op,.string d.a.nm,.int .i64 d.a.n,.slice a5 d.a.ks.len c5,.string d.b.op,.string d.b.nm,.int .i64 d.b.n,.slice a6 d.b.ks.len c6] 90));have x6:=XC.out _ B6.out;clear hb r6;refine hK.out _ _ cd (fun hH6=>?_);try simp only [Act.put,LG,LH,LI]
         clear hK K;refine aB (i:=22) (d:=some 45) (v:=.agg #[.string d.op,.string d.a.op,.string d.a.nm,.int .i64 d.a.n,.slice a5 d.a.ks.len c5,.string d.b.op,.string d.b.nm,.int .i64 d.b.n,.slice a6 d.b.ks.len c6]) rfl rfl (by kernel_rfl) (by kernel_rfl) (by kernel_rfl) (fun _ _ _ h=>h) (Or.inl ⟨by rfl,by rintro w ⟨m10,p0,p1,p2,p3,p4,p5,p6,p7,p8⟩;go_simp⟩) hH6 ?_;simp only [Act.put,LG,LH,LI];refine wpAnyH_ready (rs:=[23]) (by kernel_rfl) (by simp) ?_;refine AllReadyH.cons (o:=_) rfl (fun K hK=>?_) AllReadyH.nil;go_simp
         refine hK.out _ _ ce (fun hH8=>?_);try simp only [Act.put,LG,LH,LI]
         clear hK K;refine wpAnyH_ready (rs:=[24]) (by kernel_rfl) (by simp) ?_;refine AllReadyH.cons (o:=_) rfl (fun K hK=>?_) AllReadyH.nil;refine cO rfl (.tmp 24) (.tmp 46) 35 rfl (base:=X+1) und hi hz0 hz1 hz2 hz3 (by decide) (.slice p.wa k p.wc) k 1 (cdL (x.wh.take k) qs) (eF d ⟨a5,c5,a6,c6⟩) ⟨w6.heap.size,0,none⟩ 1 (by first | (simp [Act.eval];done) | (simp [Act.eval,Act.put];done) | fail) (by first | (simp [Act.eval];done) | (simp [Act.eval,Act.put];done) | fail) OWN.out rfl NEW.out ONE.out (by have:=HKB.out;unfold maxLen;omega) (by have:=HKB.out;omega) (by rw [World.size_alloc];have:=L6.out.hz;omega) ?_;intro v7 w7 ho hg hn;obtain ⟨a',c',hv⟩:=cX ho;subst hv;have BU:=(Below.refl w6.heap.size w6).alloc (Nat.le_refl _) (.cells #[.string d.op,.string d.a.op,.string d.a.nm,.int .i64 d.a.n,.slice a5 d.a.ks.len c5,.string d.b.op,.string d.b.nm,.int .i64 d.b.n,.slice a6 d.b.ks.len c6] 90);have L7:=L6.out.step BU;have KA:=(aE.refl (fun b=>(Value.slice p.wa k p.wc).ownBlock=some b) _).grown hg (fun k hk=>.inl hk);have N7:=KA.heap L7.n (fun e=>by have:=L7.wlo e;omega);have L8:=aA (L7.push HD.out KA ho hn (((R7.out.kept BU)).imp (fun b _ hb=>HL.out.fresh hb)) ((R6.out.kept BU).imp (fun b _ hb=>HL.out.fresh hb)));have CF:=aA (CS.out w7 (L7.b.trans (KA.below (fun q hq=>by have:=L7.wlo hq;have:=L7.lo;omega) (by have:=L7.lo;have:=L7.hz;omega))) (KA.heap L7.bx (fun e=>by have:=L7.wlo e;have:=L7.lo;omega)));have CG:=aA (CS.out _ L8.out.b L8.out.bx);obtain ⟨u0,u1,u2,u3,u4,u5,u6,u7,u8,u9,u10⟩:=aC N7
         obtain ⟨z0,z1,z2,z3,z4,z5,z6,z7,z8,z9,z10⟩:=bE N7;clear ho hg hn KA N7 L7 BU;have cf:=CF.out;refine hK.out _ _ cf (fun hH9=>?_);try simp only [Act.put,LG]
         clear hK K;refine aB (i:=25) (d:=some 48) (v:=.pointer (some ⟨X,10,none⟩)) rfl rfl (by kernel_rfl) (by kernel_rfl) (by kernel_rfl) (fun _ _ _ h=>h) (Or.inl ⟨by rfl,by rintro w ⟨m10,p0,p1,p2,p3,p4,p5,p6,p7,p8⟩;go_simp⟩) hH9 ?_;simp only [Act.put];refine wpAnyH_ready (rs:=[26]) (by kernel_rfl) (by simp) ?_;refine AllReadyH.cons (o:=_) rfl (fun K hK=>?_) AllReadyH.nil;go_simp
         refine hK.out _ _ CG.out (fun hH10=>?_);try simp only [Act.put,LG,LH,LI]
         clear hK K;refine wpAnyH_done (by kernel_rfl) ?_ _;clear hH8 hH9 hH10 cf;go_wp2_with fail
         go_roundw
         case rel=>exact ⟨k+1,_,_,by go_num,by omega,L8⟩
         case measure=>simp [intOf];omega
       · go_simp
         refine (D2.out w5 B5.out).mono ?_;rintro e w6 ⟨a6,c6,rfl,r6,hb⟩;have B6:=aA (B5.out.trans (hb.mono B5.out.size));have R6:=aA (aH.imp (G:=fun b=>w5.heap.size<=b) (H:=fun b=>wr.heap.size<=b) r6 (fun b _ h=>Nat.le_trans B5.out.size h));have R7:=aA (R5.out.kept hb);have cd:=CL.out _ B6.out;have L6:=aA (HL.out.step B6.out);have OWN:=aA (L6.out.own.alloc (.cells #[.string d.op,.string d.a.op,.string d.a.nm,.int .i64 d.a.n,.slice a5 d.a.ks.len c5,.string d.b.op,.string d.b.nm,.int .i64 d.b.n,.slice a6 d.b.ks.len c6] 90));have NEW:=aA (pY w6 d ⟨a5,c5,a6,c6⟩);have ONE:=aA (fun u (hu:u∈eF d ⟨a5,c5,a6,c6⟩)=>oA [d] [⟨a5,c5,a6,c6⟩] u (by simpa [cdL] using hu));have ce:=CL.out _ (B6.out.alloc B6.out.size (.cells #[.string d.op,.string d.a.op,.string d.a.nm,.int .i64 d.a.n,.slice a5 d.a.ks.len c5,.string d.b.op,.string d.b.nm,.int .i64 d.b.n,.slice a6 d.b.ks.len c6] 90));have x6:=XC.out _ B6.out;clear hb r6;refine hK.out _ _ cd (fun hH6=>?_);try simp only [Act.put,LG,LH,LI]
         clear hK K;refine aB (i:=22) (d:=some 45) (v:=.agg #[.string d.op,.string d.a.op,.string d.a.nm,.int .i64 d.a.n,.slice a5 d.a.ks.len c5,.string d.b.op,.string d.b.nm,.int .i64 d.b.n,.slice a6 d.b.ks.len c6]) rfl rfl (by kernel_rfl) (by kernel_rfl) (by kernel_rfl) (fun _ _ _ h=>h) (Or.inl ⟨by rfl,by rintro w ⟨m10,p0,p1,p2,p3,p4,p5,p6,p7,p8⟩;go_simp⟩) hH6 ?_;simp only [Act.put,LG,LH,LI];have x7:=XC.out _ (B6.out.alloc B6.out.size (.cells #[.string d.op,.string d.a.op,.string d.a.nm,.int .i64 d.a.n,.slice a5 d.a.ks.len c5,.string d.b.op,.string d.b.nm,.int .i64 d.b.n,.slice a6 d.b.ks.len c6] 90));refine wpAnyH_ready (rs:=[1,23]) (by kernel_rfl) (by simp) ?_;refine AllReadyH.cons (o:=_) rfl (fun K hK=>?_) (AllReadyH.cons (o:=_) rfl (fun K hK=>?_) AllReadyH.nil)
         · go_simp
           refine hK.out _ _ hH6 (fun hH7=>?_);try simp only [Act.put,LG,LH,LI]
           clear hK K;refine wpAnyH_ready (rs:=[23]) (by kernel_rfl) (by simp) ?_;refine AllReadyH.cons (o:=_) rfl (fun K hK=>?_) AllReadyH.nil;go_simp
           refine hK.out _ _ ce (fun hH8=>?_);try simp only [Act.put,LG,LH,LI]
           clear hK K;refine wpAnyH_ready (rs:=[24]) (by kernel_rfl) (by simp) ?_;refine AllReadyH.cons (o:=_) rfl (fun K hK=>?_) AllReadyH.nil;refine cO rfl (.tmp 24) (.tmp 46) 35 rfl (base:=X+1) und hi hz0 hz1 hz2 hz3 (by decide) (.slice p.wa k p.wc) k 1 (cdL (x.wh.take k) qs) (eF d ⟨a5,c5,a6,c6⟩) ⟨w6.heap.size,0,none⟩ 1 (by first | (simp [Act.eval];done) | (simp [Act.eval,Act.put];done) | fail) (by first | (simp [Act.eval];done) | (simp [Act.eval,Act.put];done) | fail) OWN.out rfl NEW.out ONE.out (by have:=HKB.out;unfold maxLen;omega) (by have:=HKB.out;omega) (by rw [World.size_alloc];have:=L6.out.hz;omega) ?_;intro v7 w7 ho hg hn;obtain ⟨a',c',hv⟩:=cX ho;subst hv;have BU:=(Below.refl w6.heap.size w6).alloc (Nat.le_refl _) (.cells #[.string d.op,.string d.a.op,.string d.a.nm,.int .i64 d.a.n,.slice a5 d.a.ks.len c5,.string d.b.op,.string d.b.nm,.int .i64 d.b.n,.slice a6 d.b.ks.len c6] 90);have L7:=L6.out.step BU;have KA:=(aE.refl (fun b=>(Value.slice p.wa k p.wc).ownBlock=some b) _).grown hg (fun k hk=>.inl hk);have N7:=KA.heap L7.n (fun e=>by have:=L7.wlo e;omega);have L8:=aA (L7.push HD.out KA ho hn (((R7.out.kept BU)).imp (fun b _ hb=>HL.out.fresh hb)) ((R6.out.kept BU).imp (fun b _ hb=>HL.out.fresh hb)));have CF:=aA (CS.out w7 (L7.b.trans (KA.below (fun q hq=>by have:=L7.wlo hq;have:=L7.lo;omega) (by have:=L7.lo;have:=L7.hz;omega))) (KA.heap L7.bx (fun e=>by have:=L7.wlo e;have:=L7.lo;omega)));have CG:=aA (CS.out _ L8.out.b L8.out.bx);obtain ⟨u0,u1,u2,u3,u4,u5,u6,u7,u8,u9,u10⟩:=aC N7
           obtain ⟨z0,z1,z2,z3,z4,z5,z6,z7,z8,z9,z10⟩:=bE N7;clear ho hg hn KA N7 L7 BU;have cf:=CF.out;refine hK.out _ _ cf (fun hH9=>?_);try simp only [Act.put,LG]
           clear hK K;refine aB (i:=25) (d:=some 48) (v:=.pointer (some ⟨X,10,none⟩)) rfl rfl (by kernel_rfl) (by kernel_rfl) (by kernel_rfl) (fun _ _ _ h=>h) (Or.inl ⟨by rfl,by rintro w ⟨m10,p0,p1,p2,p3,p4,p5,p6,p7,p8⟩;go_simp⟩) hH9 ?_;simp only [Act.put];refine wpAnyH_ready (rs:=[26]) (by kernel_rfl) (by simp) ?_;refine AllReadyH.cons (o:=_) rfl (fun K hK=>?_) AllReadyH.nil;go_simp
           refine hK.out _ _ CG.out (fun hH10=>?_);try simp only [Act.put,LG,LH,LI]
           clear hK K;refine wpAnyH_done (by kernel_rfl) ?_ _;clear hH8 hH9 hH10 cf;go_wp2_with fail
           go_roundw
           case rel=>exact ⟨k+1,_,_,by go_num,by omega,L8⟩
           case measure=>simp [intOf];omega
         · go_simp
           refine hK.out _ _ ce (fun hH8=>?_);try simp only [Act.put,LG,LH,LI]
           clear hK K;refine wpAnyH_ready (rs:=[1]) (by kernel_rfl) (by simp) ?_;refine AllReadyH.cons (o:=_) rfl (fun K hK=>?_) AllReadyH.nil;go_simp
           refine hK.out _ _ ce (fun hH7=>?_);try simp only [Act.put,LG,LH,LI]
           clear hK K;refine wpAnyH_ready (rs:=[24]) (by kernel_rfl) (by simp) ?_;refine AllReadyH.cons (o:=_) rfl (fun K hK=>?_) AllReadyH.nil;refine cO rfl (.tmp 24) (.tmp 46) 35 rfl (base:=X+1) und hi hz0 hz1 hz2 hz3 (by decide) (.slice p.wa k p.wc) k 1 (cdL (x.wh.take k) qs) (eF d ⟨a5,c5,a6,c6⟩) ⟨w6.heap.size,0,none⟩ 1 (by first | (simp [Act.eval];done) | (simp [Act.eval,Act.put];done) | fail) (by first | (simp [Act.eval];done) | (simp [Act.eval,Act.put];done) | fail) OWN.out rfl NEW.out ONE.out (by have:=HKB.out;unfold maxLen;omega) (by have:=HKB.out;omega) (by rw [World.size_alloc];have:=L6.out.hz;omega) ?_;intro v7 w7 ho hg hn;obtain ⟨a',c',hv⟩:=cX ho;subst hv;have BU:=(Below.refl w6.heap.size w6).alloc (Nat.le_refl _) (.cells #[.string d.op,.string d.a.op,.string d.a.nm,.int .i64 d.a.n,.slice a5 d.a.ks.len c5,.string d.b.op,.string d.b.nm,.int .i64 d.b.n,.slice a6 d.b.ks.len c6] 90);have L7:=L6.out.step BU;have KA:=(aE.refl (fun b=>(Value.slice p.wa k p.wc).ownBlock=some b) _).grown hg (fun k hk=>.inl hk);have N7:=KA.heap L7.n (fun e=>by have:=L7.wlo e;omega);have L8:=aA (L7.push HD.out KA ho hn (((R7.out.kept BU)).imp (fun b _ hb=>HL.out.fresh hb)) ((R6.out.kept BU).imp (fun b _ hb=>HL.out.fresh hb)));have CF:=aA (CS.out w7 (L7.b.trans (KA.below (fun q hq=>by have:=L7.wlo hq;have:=L7.lo;omega) (by have:=L7.lo;have:=L7.hz;omega))) (KA.heap L7.bx (fun e=>by have:=L7.wlo e;have:=L7.lo;omega)));have CG:=aA (CS.out _ L8.out.b L8.out.bx);obtain ⟨u0,u1,u2,u3,u4,u5,u6,u7,u8,u9,u10⟩:=aC N7
           obtain ⟨z0,z1,z2,z3,z4,z5,z6,z7,z8,z9,z10⟩:=bE N7;clear ho hg hn KA N7 L7 BU;have cf:=CF.out;refine hK.out _ _ cf (fun hH9=>?_);try simp only [Act.put,LG]
           clear hK K;refine aB (i:=25) (d:=some 48) (v:=.pointer (some ⟨X,10,none⟩)) rfl rfl (by kernel_rfl) (by kernel_rfl) (by kernel_rfl) (fun _ _ _ h=>h) (Or.inl ⟨by rfl,by rintro w ⟨m10,p0,p1,p2,p3,p4,p5,p6,p7,p8⟩;go_simp⟩) hH9 ?_;simp only [Act.put];refine wpAnyH_ready (rs:=[26]) (by kernel_rfl) (by simp) ?_;refine AllReadyH.cons (o:=_) rfl (fun K hK=>?_) AllReadyH.nil;go_simp
           refine hK.out _ _ CG.out (fun hH10=>?_);try simp only [Act.put,LG,LH,LI]
           clear hK K;refine wpAnyH_done (by kernel_rfl) ?_ _;clear hH8 hH9 hH10 cf;go_wp2_with fail
           go_roundw
           case rel=>exact ⟨k+1,_,_,by go_num,by omega,L8⟩
           case measure=>simp [intOf];omega
   · have hke:k=x.wh.length:=by omega
     subst hke;have LD:=aA HL.out.done;have b1:¬ (x.wh.length:Int)<(x.wh.length:Int):=by omega
     obtain ⟨-, -, -, -, -, -, -, -, -, -,m10⟩:=aC HL.out.bx;have N0:=HL.out.n;rw [List.take_length] at N0;obtain ⟨x0,x1,x2,x3,x4,x5,x6,x7,x8,x9,x10⟩:=aC N0;obtain ⟨o0,o1,o2,o3,o4,o5,o6,o7,o8,o9,o10⟩:=aC HL.out.rs;obtain ⟨z0,z1,z2,z3,z4,z5,z6,z7,z8,z9,z10⟩:=bE HL.out.rs;have HRS:=aA HL.out.rs;clear N0;go_wp2_with fail
     obtain ⟨y0,y1,y2,y3,y4,y5,y6,y7,y8,y9,y10⟩:=aC (cB (t:=37) HRS.out x p);exact bodyPost_ret (v:=agV x p) (by simp [results,Tryz.results12,go_sem,y0,y1,y2,y3,y4,y5,y6,y7,y8,y9,y10]) rfl ⟨p,rfl,LD.out⟩
def iD (t:TN):Prop:=aT t<=32/\SzF t.f
theorem gO:iD aD:=⟨by decide,by simp [aD,TN.f,SzF,F.len,ByteArray.size]⟩
theorem F7 {L:List Tk} (hL:∀ t∈L,cK t) {p q:Nat} {t:TN} (h:ofL L p=.ok t q):iD t:=⟨(Ad hL h).2,Gf (F8 hL h)⟩
theorem gS {L:List Tk} (hL:∀ t∈L,cK t) (s:RS):iD (a8 L s).1:=by
 unfold a8;split
 · cases ho:ofL L s.pos with
   | ok t q=>exact F7 hL ho
   | bad q e=>exact gO
 · exact gO
theorem oB {L:List Tk} (hL:∀ t∈L,cK t) (fn:List UInt8) (s:RS):iD (bG L fn s).1.2.1/\iD (bG L fn s).1.2.2:=by
 unfold bG;split
 · exact ⟨gO,gO⟩
 · simp only
   split
   · exact ⟨gS hL _,gS hL _⟩
   · exact ⟨gS hL _,gO⟩
theorem E9 {L:List Tk} (hL:∀ t∈L,cK t) (s:RS):iD (cE L s).1.a/\iD (cE L s).1.b:=by
 unfold cE;simp only;split
 · split
   · exact ⟨gS hL _,gS hL _⟩
   · exact ⟨gS hL _,gO⟩
 · exact ⟨gS hL _,gO⟩
theorem uD {L:List Tk} (hL:∀ t∈L,cK t):∀ (f:Nat) (acc:List CD) (s:RS),(∀ d∈acc,iD d.a/\iD d.b)->∀ d∈(eU L f acc s).1,iD d.a/\iD d.b
 | 0,acc,s,h=>h
 | f + 1, acc, s, h => by
   have h2:∀ d∈acc++[(cE L (aO s)).1],iD d.a/\iD d.b:=fun d hd=>by
    rcases List.mem_append.1 hd with hd | hd
    · exact h d hd
    · rw [List.mem_singleton.1 hd];exact E9 hL _
   rw [eU];split
   · exact h
   · simp only
     split
     · exact uD hL f _ _ h2
     · exact h2
theorem Hq {L:List Tk} (hL:∀ t∈L,cK t) {a:AG} (h:agL L=.ok a):iD a.e/\iD a.g/\∀ d∈a.wh,iD d.a/\iD d.b:=by
 unfold agL at h;cases h0:L[0]? with
 | none=>rw [h0] at h;cases h
 | some t =>
   rw [h0] at h;simp only at h;split at h
   · cases h
   split at h
   · cases h
   split at h
   · cases h
   split at h
   · cases h
   split at h
   · cases h
     exact ⟨(oB hL _ _).1,(oB hL _ _).2,fun d hd=>by cases hd⟩
   split at h
   · cases h
   split at h
   · cases h
   split at h
   · cases h
   · cases h
     exact ⟨(oB hL _ _).1,(oB hL _ _).2,uD hL 5 [] _ (fun d hd=>by cases hd)⟩
theorem Hn {l:List UInt8} {a:AG} (h:agX l=.ok a):SmG a/\SzG a/\jT a=0:=by
 have he:=Ho h;have h4:=(fX he).2.2.2.2.1;unfold agX at h;cases hx:fJ l with
 | bad p e=>rw [hx] at h;cases h
 | ok L =>
   rw [hx] at h;simp only at h;cases ha:agL L with
   | bad p e=>rw [ha] at h;cases h
   | ok b =>
     rw [ha] at h;cases h;obtain ⟨n1,n2,n3⟩:=Hq (qR hx) ha;refine ⟨⟨Nat.le_trans n1.1 (by decide),Nat.le_trans n2.1 (by decide),fun d hd=>⟨Nat.le_trans (n3 d hd).1.1 (by decide),Nat.le_trans (n3 d hd).2.1 (by decide)⟩,by omega⟩,⟨n1.2,n2.2,fun d hd=>⟨(n3 d hd).1.2,(n3 d hd).2.2⟩⟩,he⟩
theorem Cr {L:List Tk} {p:Nat} {e:Int} (h:agL L=.bad p e):¬ e=0:=by
 unfold agL at h;cases h0:L[0]? with
 | none=>rw [h0] at h;cases h;decide
 | some t =>
   rw [h0] at h;simp only at h;split at h
   · cases h;decide
   split at h
   · cases h;decide
   split at h
   · rename_i hb;cases h;exact hb
   split at h
   · rename_i hb;cases h;exact hb
   split at h
   · cases h
   split at h
   · cases h;decide
   split at h
   · rename_i hb;cases h;exact hb
   split at h
   · cases h;decide
   · cases h
theorem Cq {l:List UInt8} {p:Nat} {e:Int} (h:agX l=.bad p e):(e == 0)=false/\(e != 0)=true:=by
 unfold agX at h;cases hx:fJ l with
 | bad q f=>rw [hx] at h;cases h;exact mS hx
 | ok L =>
   rw [hx] at h;simp only at h;cases ha:agL L with
   | bad q f =>
     rw [ha] at h;cases h;have:=Cr ha;exact ⟨by simpa using this,by simpa using this⟩
   | ok b=>rw [ha] at h;cases h
end
end Go.Proofs.YtapcjnoaofmmiaaGreatDoor
