/-
 No statement: what ProgTextsLift needs, of the texts OE8.
-/
import Derived.Test.YtgfkjkokmcejbaaGreatDoorVX6
set_option maxHeartbeats 40000000
set_option maxRecDepth 100000
open List renaming length_append -> Tb, length_cons -> Te, take_append_of_le_length -> Tf, length_take -> Th, mem_iff_getElem -> Tn
open Nat renaming le_refl -> Td
open Array renaming length_toList -> Ti
open Go.Value renaming slice -> Tj
open Go.Lib renaming toList_data -> Tm
namespace Go.Proofs.YtgfkjkokmcejbaaGreatDoor
open Go.RowKit Tryz
theorem yF {w:World} {B m size:Nat} {e:TypeId} {v:Value} {xs:List Value} (h:w.ownsRow B e size v m xs) (a:m ≠ 0):∃ g c,v=.slice (some ⟨g,0,none⟩) m c:=by
 rcases h.2 with ⟨rfl,b⟩ | ⟨g,d,_,rfl,_⟩
 · exact absurd b a
 · exact ⟨_,_,rfl⟩
theorem I9 {w:World} {B:Nat} {e:TypeId} {g n c:Nat} {xs:List Value} {A z y x:Value} (h:w.ownsRow B e 4 (.slice (some ⟨g,0,none⟩) (n+1) c) (n+1) (xs++[A,z,y,x])) (hl:xs.length=n*4) (k j f d:Value) :
 ((((w.setCell ⟨g,n*4,none⟩ k).setCell ⟨g,n*4+1,none⟩ j).setCell ⟨g,n*4+2,none⟩ f).setCell ⟨g,n*4+3,none⟩ d).ownsRow B e 4 (.slice (some ⟨g,0,none⟩) (n+1) c) (n+1) (xs++[k,j,f,d]):=by
 refine ⟨by rw [Tb,hl];simp;omega,?_⟩;rcases h.2 with ⟨o,_⟩ | ⟨I,u,a,o,G,E,q,s,r,D⟩
 · cases o
 · simp only [Value.slice.injEq,Option.some.injEq,Addr.mk.injEq,and_true,true_and] at o
   obtain ⟨rfl,rfl⟩:=o;obtain ⟨b,t,m⟩:=cN g e [k,j,f,d] (n*4) w a E (by simp;omega);have C:w.setCells g (n*4) [k,j,f,d]=(((w.setCell ⟨g,n*4,none⟩ k).setCell ⟨g,n*4+1,none⟩ j).setCell ⟨g,n*4+2,none⟩ f).setCell ⟨g,n*4+3,none⟩ d:=rfl;rw [C] at t
   have l:b.size=a.size:=by
    have p:b.toList.length=b.size:=Ti;have L:a.toList.length=a.size:=Ti;rw [m] at p;simp only [Tb,Th,List.length_drop,Te,List.length_nil] at p;omega
   refine .inr ⟨g,c,b,rfl,G,t,q,s,by rw [l,r],?_⟩
   have p:a.toList.take (n*4)=xs:=by
    have H:a.toList.take (n*4)=(a.toList.take ((n+1)*4)).take (n*4):=by rw [List.take_take,Nat.min_eq_left (by omega)]
    rw [H,D,Tf (by omega),List.take_of_length_le (by omega)]
   rw [m,p,Tf (by simp [hl];omega),List.take_of_length_le (by simp [hl];omega)]
theorem Ek {w:World} {B:Nat} {e:TypeId} {g n k:Nat} {xs:List Value} {j f d b:Value} (h:w.ownsRow B e 4 (.slice (some ⟨g,0,none⟩) (n+1) k) (n+1) (xs++[j,f,d,b])) (hl:xs.length=n*4) :
 (w.cell? ⟨g,n*4,none⟩=some j/\w.cell? ⟨g,n*4+1,none⟩=some f/\w.cell? ⟨g,n*4+2,none⟩=some d/\w.cell? ⟨g,n*4+3,none⟩=some b) /\
 (w.frozen? ⟨g,n*4,none⟩=false/\w.frozen? ⟨g,n*4+1,none⟩=false/\w.frozen? ⟨g,n*4+2,none⟩=false/\w.frozen? ⟨g,n*4+3,none⟩=false):=by
 have l:∀ i,(xs++[j,f,d,b])[n*4+i]? = [j,f,d,b][i]? := fun i=>by rw [<- hl,List.getElem?_append_right (Nat.le_add_right _ _),Nat.add_sub_cancel_left]
 have c:∀ i u,[j,f,d,b][i]? = some u->w.cell? ⟨g,n*4+i,none⟩=some u:=fun i u o=>by
  obtain ⟨x,a,t⟩:=qL h ((l i).trans o);simp only [Addr.mk.injEq,and_true] at a;subst a;exact t
 refine ⟨⟨c 0 _ rfl,c 1 _ rfl,c 2 _ rfl,c 3 _ rfl⟩,?_⟩;rcases h.2 with ⟨a,_⟩ | ⟨x,m,y,a,A,q,p,s,r,z⟩
 · cases a
 · simp only [Value.slice.injEq,Option.some.injEq,Addr.mk.injEq,and_true,true_and] at a
   obtain ⟨rfl,rfl⟩:=a;refine ⟨?_,?_,?_,?_⟩ <;> simp [World.frozen?,q]
theorem jY (w:World) (a b:Addr) (h:a.block ≠ b.block) (u v:Value):(w.setCell a u).setCell b v=(w.setCell b v).setCell a u:=by
 unfold World.setCell;simp only [World.mk.injEq,and_true];apply Array.ext_getElem?
 intro i;simp only [Array.getElem?_modify];by_cases c:a.block=i
 · have d:¬ b.block=i:=fun e=>h (c.trans e.symm)
   simp [c,d]
 · simp [c]
theorem IM (w:World) (rb g o x:Nat) (h:rb ≠ g) (u d c b a:Value):(((((w.setCell ⟨rb,x,none⟩ u).setCell ⟨g,o,none⟩ d).setCell ⟨g,o+1,none⟩ c).setCell ⟨g,o+2,none⟩ b).setCell ⟨g,o+3,none⟩ a) =
 (((((w.setCell ⟨g,o,none⟩ d).setCell ⟨g,o+1,none⟩ c).setCell ⟨g,o+2,none⟩ b).setCell ⟨g,o+3,none⟩ a).setCell ⟨rb,x,none⟩ u):=by
 rw [jY w ⟨rb,x,none⟩ ⟨g,o,none⟩ h,jY _ ⟨rb,x,none⟩ ⟨g,o+1,none⟩ h,jY _ ⟨rb,x,none⟩ ⟨g,o+2,none⟩ h,jY _ ⟨rb,x,none⟩ ⟨g,o+3,none⟩ h]
theorem Rj (w:World) (E:TypeId):∀ j u,(ndL aD (none,0))[j]? = some u->(w.alloc (.cells #[.string ⟨#[]⟩,.string ⟨#[]⟩,.int .i64 0,.slice none 0 0] E)).cell? ((⟨w.heap.size,0,none⟩:Addr).add j)=some u:=fun j u a=>by
 have e:ndL aD (none,0)=[.string ⟨#[]⟩,.string ⟨#[]⟩,.int .i64 0,.slice none 0 0]:=rfl;rw [e] at a;rw [Addr.add_lit,Nat.zero_add,cell_of_row _ _ _ _ _ (0,0) (heap_alloc_new w _)];simpa using a
theorem Ey (ts:List Tk) (rb:Nat) (a:Tp) (c p o n:Nat) (sg:List (Tq×Nat)) (dn:List TN) (sv dv:Value) (q:List (Tp×Nat)) (t:TN) (ht:t.ks=.nil) (w:World) (h:RG ts rb a c p o n sg dn sv dv q w) (O:p<ts.length) :
 Calls prog 291 #[.pointer (some ⟨rb,0,none⟩),.agg #[.string t.op,.string t.nm,.int .i64 t.n,.slice none 0 0]] w fun e w'=>cJ rb w w' /\
  (n=32->e=.returned (.int .i64 4)/\RG ts rb a c p o n sg dn sv dv q w')/\(¬ n=32->e=.returned (.int .i64 0)/\∃ R q',RG ts rb a c (p+1) o (n+1) sg (t::dn) sv R q' w'):=by
 obtain ⟨i0,hi,M,L,I⟩:=info_parts Gc;have H:prog.underlying 65=some (.slice 67):=underlying65;have je:=h.lt;have G:=bA0 w (.cells #[.string t.op,.string t.nm,.int .i64 t.n,.slice none 0 0] 67);have S:=heap_alloc_new w (.cells #[.string t.op,.string t.nm,.int .i64 t.n,.slice none 0 0] 67);have E:=h.below G;have X:=cJ.below (rb:=rb) G;generalize hW:w.alloc (.cells #[.string t.op,.string t.nm,.int .i64 t.n,.slice none 0 0] 67)=W at G S E X;have y:=aA E;have Y:=aA S;have D:=aA X;have HW:=aA hW;have HT:=aA ht;have C:=aA (BK ts rb a c p o n sv dv W E.g O);clear h E S G X hW ht;by_cases s:n=32
 · have j:=aA s
   clear s;go_enter func291,ntmps291
   go_upto_region 1 with fail
   rw [HW.out];go_wp2_with fail
   refine C.out.mono ?_;rintro e z ⟨hA, -⟩;obtain ⟨rfl,rfl⟩:=hA j.out;go_wp2_with fail
   go_ret;exact ⟨D.out,fun _=>⟨rfl,y.out⟩,fun hn=>absurd j.out hn⟩
 · have j:=aA s
   clear s;go_enter func291,ntmps291
   go_upto_region 1 with fail
   rw [HW.out];go_wp2_with fail
   refine C.out.mono ?_;rintro e z ⟨-,hB⟩;obtain ⟨rfl,B,l⟩:=hB j.out;have u:=y.out.count B l (Nat.le_succ n);have N2:=aA (l.heap Y.out (by omega));obtain ⟨⟨c0,c1,c2,c3,c4,c5⟩,f1,f2,f3,f4,f5⟩:=u.g.r.cells;have P:=(aL N2.out).1;have f:=aA u;have Z:=aA (D.out.trans (cJ.of l));have jb:=y.out.hd;have A:=aA (wZ u.dk);have ja:=u.g.hn;have jd:=u.lt;have jc:w.heap.size<z.heap.size:=(Array.getElem?_eq_some_iff.1 N2.out).1;have OD:=aA (show z.drew.ownsRow (rb+1) 67 4 dv dn.length (dnL dn q) from u.dw);obtain ⟨va,vc,hv⟩:=eL u.dw;subst hv;have a1:(0:Int)<=(dn.length:Int):=by omega
   have a2:(dn.length:Int)<(dn.length:Int)+1:=by omega
   have a3:((dn.length:Int)).toNat=dn.length:=by omega
   clear B l u C hB;go_upto_region 4 with fail
   obtain ⟨b0,b1,b2,b3⟩:=P
   go_region_law (first
    | (refine dK rfl (.tmp 14) (.tmp 17) 65 rfl (base := rb + 1) H hi M L I rfl (by decide) (.slice va dn.length vc) dn.length 1 (dnL dn q) (ndL aD (none, 0)) ⟨z.heap.size, 0, none⟩ 1 (by first | (simp [Act.eval]; done) | (simp [Act.eval, Act.put]; done) | fail) (by first | (simp [Act.eval]; done) | (simp [Act.eval, Act.put]; done) | fail) (OD.out.alloc _) rfl (Rj z.drew 67) (nW aD _) (by unfold maxLen; omega) (by omega) (by simp; omega) ?_
       intro v3 w3 ho hg N;obtain ⟨d,x,rfl⟩:=yF ho (Nat.succ_ne_zero _);have Z3:=Ek ho (tR A.out);have U:=((aC.refl (fun b=>(Tj va dn.length vc).ownBlock=some b) z).drew.alloc (.cells #[.string ⟨#[]⟩,.string ⟨#[]⟩,.int .i64 0,.slice none 0 0] 67)).grown hg (fun k l=>.inl l);have O4:=I9 ho (tR A.out) (.string t.op) (.string t.nm) (.int .i64 t.n) (.slice none 0 0);have m:=(N d rfl).imp id Gb;have T:=(((U.setCell (p:=⟨d,dn.length*4,none⟩) m (.string t.op)).setCell (p:=⟨d,dn.length*4+1,none⟩) m (.string t.nm)).setCell (p:=⟨d,dn.length*4+2,none⟩) m (.int .i64 t.n)).setCell (p:=⟨d,dn.length*4+3,none⟩) m (.slice none 0 0);have P3:=aA (f.out.put_dn (dn':=t::dn) (q':=(none,0)::q) T (by rw [dnL,ndL,HT.out];exact O4) (fun b hb=>(N b hb).imp id Gb) ⟨.inl HT.out,f.out.dk⟩ (by rw [Te];omega));have KK:=aA ((Z.out.trans (T.mono (fun k l _=>by have:=(f.out.dvNe l).1;omega))).set 5 (.slice (some ⟨d,0,none⟩) (dn.length+1) x));have jf:=(ho.lt d rfl).1;have CM:=aA (IM w3 rb d (dn.length*4) 5 (by omega) (.slice (some ⟨d,0,none⟩) (dn.length+1) x) (.string t.op) (.string t.nm) (.int .i64 t.n) (.slice none 0 0));have G3:=(f.out.g.kept U (fun k l=>(f.out.dvNe l).1)).r.cells;clear ho hg N U T O4 c0 c1 c2 c3 c4 c5 f1 f2 f3 f4 f5 b0 b1 b2 b3;obtain ⟨⟨c0,c1,c2,c3,c4,c5⟩,f1,f2,f3,f4,f5⟩:=G3;obtain ⟨⟨z0,z1,z2,z3⟩,y0,y1,y2,y3⟩:=Z3)
    | fail)
   all_goals
    first | rw [CM.out] | skip
    clear CM;generalize (((((w3.setCell ⟨d,dn.length*4,none⟩ (.string t.op)).setCell ⟨d,dn.length*4+1,none⟩ (.string t.nm)).setCell ⟨d,dn.length*4+2,none⟩ (.int .i64 t.n)).setCell ⟨d,dn.length*4+3,none⟩ (.slice none 0 0)).setCell ⟨rb,5,none⟩ (.slice (some ⟨d,0,none⟩) (dn.length+1) x))=V at P3 KK |-
    go_wp2_with fail
    go_ret;exact ⟨KK.out,fun hn=>absurd hn j.out,fun _=>⟨rfl,_,_,P3.out⟩⟩
theorem LH (w:World) (E:TypeId) (size:Nat):(w.alloc (.cells #[] E)).ownsRow w.heap.size E size (.slice (some ⟨w.heap.size,0,none⟩) 0 0) 0 [] :=
 World.ownsRow_made w #[] 0 (Td _) (Nat.zero_le _) (by simp)
theorem yM (b:Addr) (n c:Nat) (xs:List Value) (hl:xs.length=n*4) (hn:n<=100) (w:World) (m:∀ j u,xs[j]? = some u->w.cell? (b.add j)=some u) (o:∀ u∈xs,u.oneCell'=true) :
 Calls prog 292 #[.slice (some b) n c] w fun e w'=>∃ d,e=.returned d/\w'.ownsRow w.heap.size 67 4 d n xs/\Below w.heap.size w w':=by
 obtain ⟨E,s,h,g,f⟩:=info_parts Gc;have a:prog.underlying 65=some (.slice 67):=underlying65;have t:=aA (LH w 67 4);have B:=aA (bA0 w (.cells #[] 67));have z:=aA (p:=∀ j u,xs[j]? = some u->(w.alloc (.cells #[] 67)).cell? (b.add j)=some u) (fun j u r=>Lib.cell?_alloc_some _ (m j u r));have y:=aA hl;have A:=aA o;clear m hl o;go_enter func292,ntmps292
 go_wp2
 rw [Lib.run_eql_slice_nil w _ _ _ _ _ _ _ a];simp only [Result.andThen];rw [Oper.upon_value];go_wp2_with (at_builtin;refine aS rfl _ _ 65 rfl a s h g f rfl (by decide) _ 0 n c b [] xs rfl rfl t.out y.out z.out A.out (by unfold maxLen;omega) (by omega) (by simp) ?_)
 intro d D ho l _;have x:=aA ho;have C:=aA (B.out.grown l (by simp) (fun k q=>by simp [Value.ownBlock] at q;omega));clear ho l;go_wp2_with fail
 go_ret;exact ⟨d,rfl,by simpa using x.out,C.out⟩
def kG:List (Tq×Nat)->Nat
 | []=>0
 | x::r=>kG r+(if x.1=iQ then 0 else 1)
def pU (sg:List (Tq×Nat)):Prop:=∀ x∈sg,x.1=iQ\/vL x.1
theorem Ki:cV ⟨iQ.toArray⟩=1:=by decide
theorem Ae {o:Tq} (h:vL o):cV ⟨o.toArray⟩=2/\o ≠ iQ:=by
 rcases h with rfl | rfl | rfl | rfl | rfl <;> decide
theorem ED {h:Nat}:∀ {sg:List (Tq×Nat)} {dn:List TN},pU sg->dn.length=kG sg+1->pU (cX h sg dn).1/\(cX h sg dn).2.length=kG (cX h sg dn).1+1
 | [],dn,_,hd=>⟨fun _ hx=>(by cases hx),hd⟩
 | (o, k) :: sg, dn, hs, hd => by
   rw [cX];by_cases c:h<=k
   · rw [if_pos c]
     refine ED (fun x hx=>hs x (List.mem_cons_of_mem _ hx)) ?_;rw [kG] at hd;unfold qW;by_cases ho:o=iQ
     · rw [if_pos ho] at hd |-
       cases dn with
       | nil=>simp at hd
       | cons a r=>simpa using hd
     · rw [if_neg ho] at hd |-
       match dn,hd with
       | [],hd=>simp at hd
       | [a],hd=>simp at hd
       | b::a::r,hd=>simp at hd |-;omega
   · rw [if_neg c];exact ⟨hs,hd⟩
theorem fL {w:World} {B m size:Nat} {e:TypeId} {v:Value} {xs:List Value} (h:w.ownsRow B e size v m xs) (f:m ≠ 0):∃ g c,v=.slice (some ⟨g,0,none⟩) m c/\m<=c/\c<=maxLen/\∀ j u,xs[j]? = some u->w.cell? ⟨g,j,none⟩=some u:=by
 rcases h.2 with ⟨rfl,l⟩ | ⟨g,d,_,rfl,_,_,a,b,_⟩
 · exact absurd l f
 · refine ⟨g,d,rfl,a,b,fun j u k=>?_⟩
   obtain ⟨n,a,b⟩:=qL h k;simp only [Addr.mk.injEq,and_true] at a;subst a;exact b
theorem qH {G:Nat->Prop} {w:World} {g:Nat} {t:TN} {q:Tp×Nat} {r:F} {off:Nat} (d:G g) (b:g<w.heap.size) (a:∀ j u,(ndL t q)[j]? = some u->w.cell? ⟨g,off+j,none⟩=some u) (c:aK G w q.1 t.ks) (hr:eF G w r g (off+4)):eF G w (.cons t.op t.nm t.n t.ks r) g off :=
 ⟨d,b,⟨q.1,q.2,⟨a 0 _ rfl,a 1 _ rfl,a 2 _ rfl,a 3 _ rfl⟩,c⟩,hr⟩
section
variable {x : Nat} {ts : List Tk} {rb : Nat} {a : Tp} {c p o n : Nat} {sg : List (Tq × Nat)} {dn : List TN} {sv dv : Value} {q : List (Tp × Nat)} {w w' : World}
theorem RGx.pop {y:Tq×Nat} {g vc:Nat} (h:RGx x ts rb a c p o n (y::sg) dn (.slice (some ⟨g,0,none⟩) (sg.length+1) vc) dv q w):RGx x ts rb a c p o n sg dn (.slice (some ⟨g,0,none⟩) sg.length vc) dv q (w.setCell ⟨rb,4,none⟩ (.slice (some ⟨g,0,none⟩) sg.length vc)):=by
 have ho:=uK (m:=sg.length) h.so (by simp) (by simp);rw [Ao,Tf (by rw [kT];exact Td _),List.take_of_length_le (by rw [kT];exact Td _)] at ho;exact h.put_sg (aC.refl _ w) ho (fun b d=>.inl d) (by have:=h.hs;simp at this;omega)
theorem RGx.take {g r:World} {f:List TN} {s:List (Tp×Nat)} {t:TN} {d:Value} {gk ck:Nat} {j:Obj} (h:RGx x ts rb a c p o n sg dn sv dv q g)
 (C:(g.alloc j).grownBy r dv.ownBlock) (l:r.ownsRow (rb+1) 67 4 d (f.length+1) (dnL f s++ndL t (some ⟨gk,0,none⟩,ck)))
 (m:∀ b,d.ownBlock=some b->dv.ownBlock=some b\/g.heap.size+1<=b) (y:DnK (Gk x rb sv dv) g f s) (u:aK (Gk x rb sv dv) g (some ⟨gk,0,none⟩) t.ks) (hd:f.length+1<=n) :
 RGx x ts rb a c p o n sg (t::f) sv d ((some ⟨gk,0,none⟩,ck)::s) (r.setCell ⟨rb,5,none⟩ d)/\cJ rb g (r.setCell ⟨rb,5,none⟩ d):=by
 have A:=((aC.refl (fun b=>dv.ownBlock=some b) g).alloc j).grown C (fun k z=>.inl z)
 exact ⟨h.put_dn (dn':=t::f) A l (fun b D=>(m b D).imp id (fun B=>by omega)) ⟨u,y⟩ (by rw [Te];omega),
  (A.mono (T:=fun b=>rb<=b) (fun k z _=>Nat.le_of_lt (h.dvNe z).1)).setCell (p:=⟨rb,5,none⟩) (.inl (Td _)) d⟩
end
def QD (x:Nat) (ts:List Tk) (rb:Nat) (a:Tp) (c p o n:Nat) (r:List (Tq×Nat)×List TN) (w0 w':World):Prop:=cJ rb w0 w'/\∃ sv dv q,RGx x ts rb a c p o n r.1 r.2 sv dv q w'
structure Fr (rb:Nat) (sv dv:Value) (w:World) (sv1 dv1:Value) (w1:World):Prop where
 b:∀ b,b<w.heap.size->b ≠ rb->sv.ownBlock ≠ some b->dv.ownBlock ≠ some b->w1.heap[b]? = w.heap[b]?
 s:∀ b,sv1.ownBlock=some b->sv.ownBlock=some b\/w.heap.size<=b
 d:∀ b,dv1.ownBlock=some b->dv.ownBlock=some b\/w.heap.size<=b
 z:w.heap.size<=w1.heap.size
theorem Fr.step {rb:Nat} {sv dv f c sv2 dv2:Value} {w wr j g:World} (h:Fr rb sv dv w f c wr) (l:Below wr.heap.size wr j) (k:aC (fun b=>c.ownBlock=some b) j g) (hs:sv2.ownBlock=f.ownBlock) (hd:∀ b,dv2.ownBlock=some b->c.ownBlock=some b\/j.heap.size+1<=b) (x y:Nat) (u v:Value) :
 Fr rb sv dv w sv2 dv2 ((g.setCell ⟨rb,x,none⟩ u).setCell ⟨rb,y,none⟩ v):=by
 have hz:=h.z;have r:=l.size;have q:=k.size;have ks:=(((aC.refl (· = rb) g).setCell (p:=⟨rb,x,none⟩) (.inl rfl) u).setCell (p:=⟨rb,y,none⟩) (.inl rfl) v);have o:=ks.size;refine ⟨fun b h1 n A m=>?_,fun b a=>h.s b (by rw [<- hs];exact a),fun b a=>?_,by omega⟩
 · rw [ks.block b (by omega) n,k.block b (by omega) (fun e=>(h.d b e).elim m (fun t=>by omega)),l.block b (by omega)]
   exact h.b b h1 n A m
 · rcases hd b a with h1 | h1
   · exact h.d b h1
   · exact .inr (by omega)
theorem Hy (x:Nat) (ts:List Tk) (rb:Nat) (a:Tp) (c p o n h:Nat) (sg:List (Tq×Nat)) (dn:List TN) (sv dv:Value) (q:List (Tp×Nat)) (w:World) (H:RGx x ts rb a c p o n sg dn sv dv q w) (hs:pU sg) (hd:dn.length=kG sg+1) :
 Calls prog 280 #[.pointer (some ⟨rb,0,none⟩),.int .i64 h] w fun e w'=>e=.returned (.tuple #[])/\QD x ts rb a c p o n (cX h sg dn) w w'/\(∀ b,b<w.heap.size->b ≠ rb->sv.ownBlock ≠ some b->dv.ownBlock ≠ some b->w'.heap[b]? = w.heap[b]?):=by
 obtain ⟨i0,hi,js,jr,jq⟩:=info_parts Gc;have jp:prog.underlying 65=some (.slice 67):=underlying65;obtain ⟨r0,jg⟩:∃ r,cX h sg dn=r:=⟨_,rfl⟩;rw [jg];have K0:=aA (cJ.refl rb w);have HR:=aA H;have HS:=aA hs;have HD:=aA hd;have HE:=aA jg;have kb:=H.hs;have kh:=H.g.hn;obtain ⟨va,vc,hv⟩:=eL H.so;subst hv;obtain ⟨⟨c0,c1,c2,c3,c4,P⟩,f1,f2,f3,f4,f5⟩:=H.g.r.cells;clear hs hd jg H;go_enter func280,ntmps280
 go_wp2_with fail
 go_loopg [4] sg.length (fun g v wr=>∃ (z:Int) (N:List (Tq×Nat)) (B:List TN) (je jj:Value) (q1:List (Tp×Nat)),v=.int .i64 z/\z=(N.length:Int)-1/\N.length<=g/\Hid (RGx x ts rb a c p o n N B je jj q1 wr)/\Hid (pU N)/\Hid (B.length=kG N+1)/\Hid (cX h N B=r0)/\Hid (cJ rb w wr)/\Hid (Fr rb (.slice va sg.length vc) dv w je jj wr))
 case atStart=>exact ⟨_,sg,dn,_,dv,q,rfl,by first | rfl | (simp;done) | omega,Td _,HR,HS,HD,HE,K0,aA ⟨fun _ _ _ _ _=>rfl,fun _ h=>.inl h,fun _ h=>.inl h,Td _⟩⟩
 case round =>
  obtain ⟨z,N,B,je,jj,q1,rfl,hz,hg,C,hS,hD,hE,hK,hF⟩:=hrel;clear c0 c1 c2 c3 c4 P f1 f2 f3 f4 f5;cases N with
  | nil =>
    have a0:¬ (0:Int)<=z:=by rw [hz];simp
    clear hz;have E:=aA (show r0=([],B) by rw [<- hE.out];rfl);go_wp2_with fail
    go_end0
    rw [E.out];exact ⟨rfl,⟨hK.out,_,_,_,C.out⟩,hF.out.b⟩
  | cons y r =>
    obtain ⟨o',k⟩:=y;obtain rfl:z=(r.length:Int):=by rw [hz,Te];omega
    have R1:=C.out;obtain ⟨g,A,hv,jy,ki,G⟩:=fL R1.so (by simp);have s0:=G (r.length*2) (.string ⟨o'.toArray⟩) (by rw [Ao,List.getElem?_append_right (by rw [kT];exact Td _),kT,Nat.sub_self];rfl);have s1:=G (r.length*2+1) (.int .i64 k) (by rw [Ao,List.getElem?_append_right (by rw [kT];omega),kT,show r.length*2+1-r.length*2=1 by omega];rfl);subst hv;have ke:=R1.hs;rw [Te] at ke jy hg;obtain ⟨⟨c0,c1,c2,c3,c4,P⟩,f1,f2,f3,f4,f5⟩:=R1.g.r.cells;rw [Te] at c4;have a1:(0:Int)<=(r.length:Int):=by omega
    have a2:(r.length:Int)<(r.length:Int)+1:=by omega
    have a3:((r.length:Int)).toNat=r.length:=by omega
    clear G R1 hz;by_cases L:h<=k
    · have b1:(h:Int)<=(k:Int):=by omega
      have KO:=aA (fun w=>sF ⟨o'.toArray⟩ w);have Z:=wZ C.out.dk;by_cases ho:o'=iQ
      · subst ho
        rw [Ki] at KO
        obtain ⟨t1,r1,rfl⟩:∃ t r,B=t::r:=by
         cases B with
         | nil=>exact absurd hD.out (by simp)
         | cons t r=>exact ⟨t,r,rfl⟩
        obtain ⟨qa,q2,rfl⟩:∃ a b,q1=a::b:=by
         cases q1 with
         | nil=>simp at Z
         | cons a b=>exact ⟨a,b,rfl⟩
        obtain ⟨d,Y,hv,jf,jt,G⟩:=fL C.out.dw (by simp);subst hv;have jh:q2.length=r1.length:=by simpa using Z
        have U:=tR jh
        have HC:=aA (p:=∀ j u,(ndL t1 qa)[j]? = some u->wr.cell? ((⟨d,r1.length*4,none⟩:Addr).add j)=some u) (fun j u O=>by
         rw [Addr.add_lit];refine G _ _ ?_;rw [dnL,List.getElem?_append_right (by omega),U,Nat.add_sub_cancel_left];exact O)
        have CL:=aA (fun nq c=>yM ⟨d,r1.length*4,none⟩ 1 c (ndL t1 qa) rfl (by omega) (wr.drewN nq) HC.out (nW t1 qa));rw [Te] at P jf;have d1:(0:Int)<=(r1.length:Int):=by omega
        have d2:(r1.length:Int)<=(r1.length:Int)+1:=by omega
        have d3:((r1.length:Int)).toNat=r1.length:=by omega
        have d4:(r1.length:Int)<=(Y:Int):=by omega
        have ji:=C.out.hd;rw [Te] at ji;have OT:=uK (m:=r1.length) C.out.dw (by rw [Te];omega) (by simp);rw [dnL,Tf (by rw [U];exact Td _),List.take_of_length_le (by rw [U];exact Td _)] at OT;have jl:=aA OT;clear G Z OT;go_upto_region 4 with fail
        go_upto_region 5 with (go_quiet ((go_at_call 186;refine (KO.out _).mono ?_;rintro e w' ⟨he,rfl⟩;exact ⟨he,_,rfl⟩)))
        go_wp2_with fail
        refine (CL.out _ _).mono ?_;rintro e M ⟨v1,rfl,R,hb⟩;obtain ⟨f,ck,rfl, -, -,l⟩:=fL R (by decide);have I:Below wr.heap.size wr M:=⟨hb.os,hb.tape,hb.output,hb.size,hb.block⟩;have X:=C.out.below I;have jd:=(R.lt f rfl);have jx:=C.out.lt
        have GK:Gk x rb (.slice (some ⟨g,0,none⟩) (r.length+1) A) (.slice (some ⟨d,0,none⟩) (r1.length+1) Y) f:=by
         have hz:(wr.drewN nq).heap.size=wr.heap.size:=rfl;have k1:g<wr.heap.size:=(C.out.svNe rfl).2;have k2:d<wr.heap.size:=(C.out.dvNe rfl).2;have k3:x<wr.heap.size:=C.out.hx;exact ⟨by omega,by omega,fun e=>by have:=Option.some.inj (show some g=some f from e);omega,fun e=>by have:=Option.some.inj (show some d=some f from e);omega⟩
        have KT:aK (Gk x rb (.slice (some ⟨g,0,none⟩) (r.length+1) A) (.slice (some ⟨d,0,none⟩) (r1.length+1) Y)) M (some ⟨f,0,none⟩) (pG t1).ks:=.inr ⟨f,0,rfl,qH (q:=qa) (t:=t1) GK jd.2 (fun j u O=>by rw [Nat.zero_add];exact l j u O) X.dk.1 trivial⟩;have jc:=X.dk.2;have jk:=aA (cK jl.out I)
        have jm:=aA (p:=∀ j u,(ndL (pG t1) (some ⟨f,0,none⟩,ck))[j]? = some u->(M.alloc (.cells #[.string ⟨iQ.toArray⟩,.string ⟨#[]⟩,.int .i64 0,.slice (some ⟨f,0,none⟩) 1 ck] 67)).cell? ((⟨M.heap.size,0,none⟩:Addr).add j)=some u) (fun j u O=>by
         have e:ndL (pG t1) (some ⟨f,0,none⟩,ck)=(#[.string ⟨iQ.toArray⟩,.string ⟨#[]⟩,.int .i64 0,.slice (some ⟨f,0,none⟩) 1 ck]:Array Value).toList:=rfl;rw [e] at O;rw [Addr.add_lit,Nat.zero_add,cell_of_row _ _ _ _ _ (0,0) (heap_alloc_new M _)];simpa using O)
        clear c0 c1 c2 c3 c4 P f1 f2 f3 f4 f5 s0 s1;obtain ⟨⟨c0,c1,c2,c3,c4,P⟩,f1,f2,f3,f4,f5⟩:=X.g.r.cells;rw [Te] at c4;rw [Te] at P;have V:=aA X;have jn:=aA KT;have jo:=aA jc;have jb:=aA I;have ju:=X.lt;clear R hb l X KT jc GK I CL HC;go_wp2_with (at_builtin;refine aS rfl _ _ 65 rfl jp hi js jr jq rfl (by decide) (.slice (some ⟨d,0,none⟩) r1.length Y) r1.length 1 1 ⟨M.heap.size,0,none⟩ (dnL r1 q2) (ndL (pG t1) (some ⟨f,0,none⟩,ck)) rfl rfl (jk.out.alloc _) rfl jm.out (nW _ _) (by unfold maxLen;omega) (by omega) (by simp;omega) ?_)
        intro v3 w3 T D S;obtain ⟨gg,ja,rfl⟩:=yF T (Nat.succ_ne_zero _);obtain ⟨P3,K3⟩:=V.out.take D T S jo.out jn.out (by omega);have KD:=(((aC.refl (fun b=>(Tj (some ⟨d,0,none⟩) (r1.length+1) Y).ownBlock=some b) M).alloc _).grown D (fun k L=>.inl L));have F4:=aA (hF.out.step (sv2:=.slice (some ⟨g,0,none⟩) r.length A) (dv2:=.slice (some ⟨gg,0,none⟩) (r1.length+1) ja) jb.out KD rfl S 5 4 (.slice (some ⟨gg,0,none⟩) (r1.length+1) ja) (.slice (some ⟨g,0,none⟩) r.length A));clear KD;have G3:=((V.out.g.kept (((aC.refl (fun b=>(Tj (some ⟨d,0,none⟩) (r1.length+1) Y).ownBlock=some b) M).alloc _).grown D (fun k L=>.inl L)) (fun k L=>(V.out.dvNe L).1)).r.cells);have P4:=aA P3.pop;have K4:=aA (((hK.out.trans (cJ.below jb.out)).trans K3).set 4 (.slice (some ⟨g,0,none⟩) r.length A));clear c0 c1 c2 c3 c4 P f1 f2 f3 f4 f5 T D S P3 K3;obtain ⟨⟨c0,c1,c2,c3,c4,P⟩,f1,f2,f3,f4,f5⟩:=G3;rw [Te] at c4;rw [Te] at P;have S5:=aA (show pU r from fun x hx=>hS.out x (List.mem_cons_of_mem _ hx));have D5:=aA (show ((pG t1)::r1).length=kG r+1 by have:=hD.out;rw [kG,if_pos rfl] at this;simp at this |-;omega);have E5:=aA (show cX h r ((pG t1)::r1)=r0 by rw [<- hE.out];conv=>rhs;rw [cX,if_pos L,qW,if_pos rfl]);have jw:(r.length:Int)<=(r.length:Int)+1:=by omega
        have jv:(r.length:Int)<=(A:Int):=by omega
        clear L;go_wp2_with fail
        go_roundg r.length
        case measure=>omega
        case rel=>exact ⟨(r.length:Int)-1,r,(pG t1)::r1,_,_,_,rfl,rfl,Td _,P4,S5,D5,E5,K4,F4⟩
      · have jz:vL o':=(hS.out _ List.mem_cons_self).resolve_left ho
        rw [(Ae jz).1] at KO
        obtain ⟨t2,t1,r1,rfl⟩:∃ t s r,B=t::s::r:=by
         have h0:=hD.out;rw [kG,if_neg ho] at h0;match B,h0 with
         | [],h0=>simp at h0
         | [_],h0=>simp at h0
         | t::s::r,_=>exact ⟨t,s,r,rfl⟩
        obtain ⟨qb,qa,q2,rfl⟩:∃ a b c,q1=a::b::c:=by
         match q1,Z with
         | [],h0=>simp at h0
         | [_],h0=>simp at h0
         | a::b::c,_=>exact ⟨a,b,c,rfl⟩
        obtain ⟨d,Y,hv,jf,jt,G⟩:=fL C.out.dw (by simp);subst hv;have jh:q2.length=r1.length:=by simpa using Z
        have U:=tR jh
        have HC:=aA (p:=∀ j u,(ndL t1 qa++ndL t2 qb)[j]? = some u->wr.cell? ((⟨d,r1.length*4,none⟩:Addr).add j)=some u) (fun j u O=>by
         rw [Addr.add_lit];refine G _ _ ?_;rw [dnL,dnL,List.append_assoc,List.getElem?_append_right (by omega),U,Nat.add_sub_cancel_left];exact O)
        have CL:=aA (fun nq c=>yM ⟨d,r1.length*4,none⟩ 2 c (ndL t1 qa++ndL t2 qb) rfl (by omega) (wr.drewN nq) HC.out (fun u hu=>(List.mem_append.1 hu).elim (nW t1 qa u) (nW t2 qb u)));rw [Te,Te] at P jf;have d1:(0:Int)<=(r1.length:Int):=by omega
        have d2:(r1.length:Int)<=(r1.length:Int)+2:=by omega
        have d3:((r1.length:Int)).toNat=r1.length:=by omega
        have d4:(r1.length:Int)<=(Y:Int):=by omega
        have d5:(r1.length:Int)<=(r1.length:Int)+1+1:=by omega
        have d6:(r1.length:Int)+1+1-2=(r1.length:Int):=by omega
        have d7:r1.length+1+1-r1.length=2:=by omega
        have ji:=C.out.hd;rw [Te,Te] at ji;have OT:=uK (m:=r1.length) C.out.dw (by rw [Te,Te];omega) (by simp);rw [dnL,dnL,List.append_assoc,Tf (by rw [U];exact Td _),List.take_of_length_le (by rw [U];exact Td _)] at OT;have jl:=aA OT;clear G Z OT;go_upto_region 4 with fail
        go_upto_region 5 with (go_quiet ((go_at_call 186;refine (KO.out _).mono ?_;rintro e w' ⟨he,rfl⟩;exact ⟨he,_,rfl⟩)))
        go_wp2_with fail
        refine (CL.out _ _).mono ?_;rintro e M ⟨v1,rfl,R,hb⟩;obtain ⟨f,ck,rfl, -, -,l⟩:=fL R (by decide);have I:Below wr.heap.size wr M:=⟨hb.os,hb.tape,hb.output,hb.size,hb.block⟩;have X:=C.out.below I;have jd:=(R.lt f rfl);have jx:=C.out.lt
        have GK:Gk x rb (.slice (some ⟨g,0,none⟩) (r.length+1) A) (.slice (some ⟨d,0,none⟩) (r1.length+1+1) Y) f:=by
         have hz:(wr.drewN nq).heap.size=wr.heap.size:=rfl;have k1:g<wr.heap.size:=(C.out.svNe rfl).2;have k2:d<wr.heap.size:=(C.out.dvNe rfl).2;have k3:x<wr.heap.size:=C.out.hx;exact ⟨by omega,by omega,fun e=>by have:=Option.some.inj (show some g=some f from e);omega,fun e=>by have:=Option.some.inj (show some d=some f from e);omega⟩
        have KT:aK (Gk x rb (.slice (some ⟨g,0,none⟩) (r.length+1) A) (.slice (some ⟨d,0,none⟩) (r1.length+1+1) Y)) M (some ⟨f,0,none⟩) (fG o' t1 t2).ks:=.inr ⟨f,0,rfl,qH (q:=qa) (t:=t1) GK jd.2 (fun j u O=>by
         have kf:j<4:=(List.getElem?_eq_some_iff.1 O).1;rw [Nat.zero_add];exact l j u (by rw [List.getElem?_append_left (by exact kf)];exact O)) X.dk.2.1 (qH (q:=qb) (t:=t2) GK jd.2 (fun j u O=>l (0+4+j) u (by rw [List.getElem?_append_right (by show 4<=_;omega),show 0+4+j-(ndL t1 qa).length=j by show 0+4+j-4=j;omega];exact O)) X.dk.1 trivial)⟩
        have jc:=X.dk.2.2;have jk:=aA (cK jl.out I)
        have jm:=aA (p:=∀ j u,(ndL (fG o' t1 t2) (some ⟨f,0,none⟩,ck))[j]? = some u->(M.alloc (.cells #[.string ⟨o'.toArray⟩,.string ⟨#[]⟩,.int .i64 0,.slice (some ⟨f,0,none⟩) 2 ck] 67)).cell? ((⟨M.heap.size,0,none⟩:Addr).add j)=some u) (fun j u O=>by
         have e:ndL (fG o' t1 t2) (some ⟨f,0,none⟩,ck)=(#[.string ⟨o'.toArray⟩,.string ⟨#[]⟩,.int .i64 0,.slice (some ⟨f,0,none⟩) 2 ck]:Array Value).toList:=rfl;rw [e] at O;rw [Addr.add_lit,Nat.zero_add,cell_of_row _ _ _ _ _ (0,0) (heap_alloc_new M _)];simpa using O)
        clear c0 c1 c2 c3 c4 P f1 f2 f3 f4 f5 s0 s1;obtain ⟨⟨c0,c1,c2,c3,c4,P⟩,f1,f2,f3,f4,f5⟩:=X.g.r.cells;rw [Te] at c4;rw [Te,Te] at P;have V:=aA X;have jn:=aA KT;have jo:=aA jc;have jb:=aA I;have ju:=X.lt;clear R hb l X KT jc GK I CL HC;go_wp2_with (at_builtin;refine aS rfl _ _ 65 rfl jp hi js jr jq rfl (by decide) (.slice (some ⟨d,0,none⟩) r1.length Y) r1.length 1 1 ⟨M.heap.size,0,none⟩ (dnL r1 q2) (ndL (fG o' t1 t2) (some ⟨f,0,none⟩,ck)) rfl rfl (jk.out.alloc _) rfl jm.out (nW _ _) (by unfold maxLen;omega) (by omega) (by simp;omega) ?_)
        intro v3 w3 T D S;obtain ⟨gg,ja,rfl⟩:=yF T (Nat.succ_ne_zero _);obtain ⟨P3,K3⟩:=V.out.take D T S jo.out jn.out (by omega);have KD:=(((aC.refl (fun b=>(Tj (some ⟨d,0,none⟩) (r1.length+1+1) Y).ownBlock=some b) M).alloc _).grown D (fun k L=>.inl L));have F4:=aA (hF.out.step (sv2:=.slice (some ⟨g,0,none⟩) r.length A) (dv2:=.slice (some ⟨gg,0,none⟩) (r1.length+1) ja) jb.out KD rfl S 5 4 (.slice (some ⟨gg,0,none⟩) (r1.length+1) ja) (.slice (some ⟨g,0,none⟩) r.length A));clear KD;have G3:=((V.out.g.kept (((aC.refl (fun b=>(Tj (some ⟨d,0,none⟩) (r1.length+1+1) Y).ownBlock=some b) M).alloc _).grown D (fun k L=>.inl L)) (fun k L=>(V.out.dvNe L).1)).r.cells);have P4:=aA P3.pop;have K4:=aA (((hK.out.trans (cJ.below jb.out)).trans K3).set 4 (.slice (some ⟨g,0,none⟩) r.length A));clear c0 c1 c2 c3 c4 P f1 f2 f3 f4 f5 T D S P3 K3;obtain ⟨⟨c0,c1,c2,c3,c4,P⟩,f1,f2,f3,f4,f5⟩:=G3;rw [Te] at c4;rw [Te,Te] at P;have S5:=aA (show pU r from fun x hx=>hS.out x (List.mem_cons_of_mem _ hx));have D5:=aA (show ((fG o' t1 t2)::r1).length=kG r+1 by have:=hD.out;rw [kG,if_neg ho] at this;simp at this |-;omega);have E5:=aA (show cX h r ((fG o' t1 t2)::r1)=r0 by rw [<- hE.out];conv=>rhs;rw [cX,if_pos L,qW,if_neg ho]);have jw:(r.length:Int)<=(r.length:Int)+1:=by omega
        have jv:(r.length:Int)<=(A:Int):=by omega
        clear L;go_wp2_with fail
        go_roundg r.length
        case measure=>omega
        case rel=>exact ⟨(r.length:Int)-1,r,(fG o' t1 t2)::r1,_,_,_,rfl,rfl,Td _,P4,S5,D5,E5,K4,F4⟩
    · have b1:¬ (h:Int)<=(k:Int):=by omega
      have E:=aA (show r0=((o',k)::r,B) by rw [<- hE.out,cX,if_neg L]);clear L;go_wp2_with fail
      go_end0
      rw [E.out];exact ⟨rfl,⟨hK.out,_,_,_,C.out⟩,hF.out.b⟩
theorem MH (ts:List Tk) (rb:Nat) (a:Tp) (c p o n h:Nat) (sg:List (Tq×Nat)) (dn:List TN) (sv dv:Value) (q:List (Tp×Nat)) (w:World) (H:RG ts rb a c p o n sg dn sv dv q w) (hs:pU sg) (hd:dn.length=kG sg+1) :
 Calls prog 280 #[.pointer (some ⟨rb,0,none⟩),.int .i64 h] w fun e w'=>e=.returned (.tuple #[])/\QD rb ts rb a c p o n (cX h sg dn) w w' :=
 (Hy rb ts rb a c p o n h sg dn sv dv q w H hs hd).mono fun _ _ b=>⟨b.1,b.2.1⟩
theorem C7 {s:Tr} (h:s.size<1\/8<s.size):cD s.data.toList=false:=by
 have hl:s.data.toList.length=s.size:=by simp
 cases e:s.data.toList with
 | nil=>rfl
 | cons c r =>
   rw [e] at hl;rw [mV,decide_eq_false (by simp at hl;omega),Bool.and_false,Bool.false_and]
theorem Ic {s:Tr} (h:1<=s.size) (b:s.size<=8):cD s.data.toList=(bH s[0] && s.data.toList.all a8):=by
 have hl:s.data.toList.length=s.size:=by simp
 have a:s.data.toList[0]? = some s[0]:=List.getElem?_eq_getElem (by omega);cases e:s.data.toList with
 | nil=>rw [e] at hl;simp at hl;omega
 | cons c r =>
   rw [e] at hl a;have:c=s[0]:=by simpa using a
   subst this;rw [mV,decide_eq_true (by simp at hl;omega),Bool.and_true,List.all_cons];unfold a8;cases bH s[0] <;> simp
theorem Di {s:Tr} {j:Nat} (a:j<s.size) (h:a8 s[j]=false):s.data.toList.all a8=false:=by
 rw [List.all_eq_false];exact ⟨s[j],Tn.2 ⟨j,by simpa using a,rfl⟩,by rw [h];simp⟩
theorem Io {s:Tr} (h:∀ j (a:j<s.size),a8 s[j]=true):s.data.toList.all a8=true:=by
 rw [List.all_eq_true];intro c b;obtain ⟨j,a,rfl⟩:=Tn.1 b;exact h j (by simpa using a)
theorem A9 (s:Tr) (D:s.size<=281474976710656) (w:World):Calls prog 31 #[.string s] w fun e w'=>e=.returned (.bool (cD s.data.toList))/\w=w':=by
 by_cases h1:s.size<1\/8<s.size
 · have R:=aA (C7 h1)
   rcases h1 with h1 | h1
   · go_enter func31,ntmps31
     go_wp2_with fail
     go_ret;exact ⟨eX (a:=false) R.out.symm,rfl⟩
   · have y:1<=s.size:=by omega
     go_enter func31,ntmps31
     go_wp2_with fail
     go_ret;exact ⟨eX (a:=false) R.out.symm,rfl⟩
 · have y:1<=s.size:=by omega
   have C:s.size<=8:=by omega
   have R:=aA (Ic y C);obtain ⟨c,B⟩:∃ c:Int,(s[0].toNat:Int)=c:=⟨_,rfl⟩;have hs:bH s[0]=(decide (97<=c) && decide (c<=122)):=by unfold bH;rw [B]
   by_cases k:97<=c/\c<=122
   · obtain ⟨A,z⟩:=k
     have q:=aA (R.out.trans (by rw [hs,decide_eq_true A,decide_eq_true z];rfl:_=s.data.toList.all a8));clear R hs h1;go_enter func31,ntmps31
     go_wp2_with fail
     go_loop [3] (fun i=>∃ k:Nat,k<=s.size/\i=.int .i64 k/\Hid (∀ j (g:j<s.size),j<k->a8 s[j]=true)) (fun i=>s.size-(intOf i).toNat)
     case atStart=>exact ⟨0,Nat.zero_le _,rfl,aA (fun j _ h=>by omega)⟩
     case round =>
      obtain ⟨k,E,rfl,l⟩:=hrel;by_cases m:k<s.size
      · obtain ⟨d,hd⟩:∃ c:Int,(s[k].toNat:Int)=c:=⟨_,rfl⟩
        have b:a8 s[k]=(decide (97<=d) && decide (d<=122) || decide (48<=d) && decide (d<=57)):=by unfold a8 bH aZ;rw [hd]
        have n:(97<=d/\d<=122)\/(48<=d/\d<=57)\/d<48\/(57<d/\d<97)\/122<d:=by omega
        rcases n with ⟨g1,r⟩ | ⟨g1,r⟩ | g1 | ⟨g1,r⟩ | g1
        · have f:=aA (show ∀ j (g:j<s.size),j<k+1->a8 s[j]=true from fun j g t=>by
           by_cases e:j=k
           · subst e;rw [b,decide_eq_true g1,decide_eq_true r];rfl
           · exact l.out j g (by omega))
          clear b;go_wp2_with fail
          go_round
          case rel=>exact ⟨k+1,by omega,by go_num,f⟩
          case measure=>simp [intOf];omega
        · have f:=aA (show ∀ j (g:j<s.size),j<k+1->a8 s[j]=true from fun j g t=>by
           by_cases e:j=k
           · subst e;rw [b,decide_eq_true g1,decide_eq_true r,Bool.and_self,Bool.or_true]
           · exact l.out j g (by omega))
          have u:d<97:=by omega
          clear b;go_wp2_with fail
          go_round
          case rel=>exact ⟨k+1,by omega,by go_num,f⟩
          case measure=>simp [intOf];omega
        · have o:=aA (q.out.trans (Di m (by rw [b,decide_eq_false (by omega),decide_eq_false (p:=48<=d) (by omega)];rfl)))
          have u:d<97:=by omega
          clear b;go_wp2_with fail
          go_ret;exact ⟨eX (a:=false) o.out.symm,rfl⟩
        · have o:=aA (q.out.trans (Di m (by rw [b,decide_eq_false (by omega),decide_eq_false (p:=d<=57) (by omega)];simp)))
          have u:48<=d:=by omega
          clear b;go_wp2_with fail
          go_ret;exact ⟨eX (a:=false) o.out.symm,rfl⟩
        · have o:=aA (q.out.trans (Di m (by rw [b,decide_eq_false (p:=d<=122) (by omega),decide_eq_false (p:=d<=57) (by omega)];simp)))
          have u:97<=d:=by omega
          have H:48<=d:=by omega
          have G:57<d:=by omega
          clear b;go_wp2_with fail
          go_ret;exact ⟨eX (a:=false) o.out.symm,rfl⟩
      · have o:=aA (q.out.trans (Io fun j g=>l.out j g (by omega)))
        go_wp2_with fail
        go_ret;exact ⟨eX (a:=true) o.out.symm,rfl⟩
   · have b:(decide (97<=c) && decide (c<=122))=false:=by
      rcases Int.lt_or_le c 97 with h | h
      · rw [decide_eq_false (by omega)];rfl
      · rw [decide_eq_true h,decide_eq_false (by omega)];rfl
     have q:=aA (R.out.trans (by rw [hs,b];rfl:_=false));clear b R hs h1;have x:c<97\/(97<=c/\122<c):=by omega
     clear k;rcases x with k | ⟨k,x⟩
     · go_enter func31,ntmps31
       go_wp2_with fail
       go_ret;exact ⟨eX (a:=false) q.out.symm,rfl⟩
     · go_enter func31,ntmps31
       go_wp2_with fail
       go_ret;exact ⟨eX (a:=false) q.out.symm,rfl⟩
theorem nF (c:UInt8) (w:World):Calls prog 112 #[.int .u8 c.toNat] w fun e w'=>e=.returned (.bool (bH c))/\w=w':=by
 obtain ⟨x,hx⟩:∃ x:Int,(c.toNat:Int)=x:=⟨_,rfl⟩;unfold bH;rw [hx];by_cases h:97<=x
 · go_enter func112,ntmps112
   go_wp2
   go_ret;exact ⟨eX (a:=decide (x<=122)) (by rw [decide_eq_true h];rfl),rfl⟩
 · go_enter func112,ntmps112
   go_wp2
   go_ret;exact ⟨eX (a:=false) (by rw [decide_eq_false (by omega)];rfl),rfl⟩
theorem xG (c:UInt8) (w:World):Calls prog 113 #[.int .u8 c.toNat] w fun e w'=>e=.returned (.bool (aZ c))/\w=w':=by
 obtain ⟨x,hx⟩:∃ x:Int,(c.toNat:Int)=x:=⟨_,rfl⟩;unfold aZ;rw [hx];by_cases h:48<=x
 · go_enter func113,ntmps113
   go_wp2
   go_ret;exact ⟨eX (a:=decide (x<=57)) (by rw [decide_eq_true h];rfl),rfl⟩
 · go_enter func113,ntmps113
   go_wp2
   go_ret;exact ⟨eX (a:=false) (by rw [decide_eq_false (by omega)];rfl),rfl⟩
theorem kJ (s:Tr) (x:s.size<=281474976710656) (w:World):Calls prog 54 #[.string s] w fun e w'=>e=.returned (.bool (cD s.data.toList))/\w=w':=by
 have f:1<=s.size->(s.toList == [])=false:=fun h=>by
  rw [beq_eq_false_iff_ne,Tm];intro e;have hl:s.data.toList.length=s.size:=by simp
  rw [e] at hl;simp at hl;omega
 by_cases l:s.size<1
 · have R:=aA (C7 (.inl l))
   obtain rfl:s=⟨#[]⟩:=(by simpa using l:s=ByteArray.empty);clear f l x;go_enter func54,ntmps54
   go_wp2_with fail
   go_ret;exact ⟨eX (a:=false) R.out.symm,rfl⟩
 have q:1<=s.size:=by omega
 have G:=f q;clear f l;by_cases z:8<s.size
 · have R:=aA (C7 (.inr z))
   go_enter func54,ntmps54
   go_wp2_with fail
   go_ret;exact ⟨eX (a:=false) R.out.symm,rfl⟩
 have t:s.size<=8:=by omega
 have R:=aA (Ic q t);have u:0<s.size:=by omega
 cases g:bH s[0] with
 | false =>
   have m:=aA (R.out.trans (by rw [g];rfl:_=false));have C:=aA (p:=∀ w,Calls prog 112 #[.int .u8 s[0].toNat] w fun e w'=>e=.returned (.bool false)/\w=w') (fun w=>by have:=nF s[0] w;rwa [g] at this);clear R g t;go_enter func54,ntmps54
   go_wp2_with (go_at_call 112;refine (C.out _).mono ?_;rintro e w' ⟨rfl,rfl⟩)
   go_ret;exact ⟨eX (a:=false) m.out.symm,rfl⟩
 | true =>
   have m:=aA (R.out.trans (by rw [g];rfl:_=s.data.toList.all a8));have C:=aA (p:=∀ w,Calls prog 112 #[.int .u8 s[0].toNat] w fun e w'=>e=.returned (.bool true)/\w=w') (fun w=>by have:=nF s[0] w;rwa [g] at this);have A:=aA (show a8 s[0]=true by unfold a8;rw [g];rfl);clear R g;go_enter func54,ntmps54
   go_wp2_with (go_at_call 112;refine (C.out _).mono ?_;rintro e w' ⟨rfl,rfl⟩)
   go_loop [3] (fun i=>∃ k:Nat,1<=k/\k<=s.size/\i=.int .i64 k/\Hid (∀ j (c:j<s.size),j<k->a8 s[j]=true)) (fun i=>s.size-(intOf i).toNat)
   case atStart=>exact ⟨1,Td _,q,rfl,aA (fun j _ h=>by
    obtain rfl:j=0:=(by omega);exact A.out)⟩
   case round =>
    obtain ⟨k,y,B,rfl,d⟩:=hrel;by_cases n:k<s.size
    · cases ha:bH s[k] with
      | true =>
        have b:=aA (show ∀ j (c:j<s.size),j<k+1->a8 s[j]=true from fun j c o=>by
         by_cases e:j=k
         · subst e;unfold a8;rw [ha];rfl
         · exact d.out j c (by omega))
        have D:=aA (p:=∀ w,Calls prog 112 #[.int .u8 s[k].toNat] w fun e w'=>e=.returned (.bool true)/\w=w') (fun w=>by have:=nF s[k] w;rwa [ha] at this);clear ha C;go_wp2_with (go_at_call 112;refine (D.out _).mono ?_;rintro e w' ⟨rfl,rfl⟩)
        go_round
        case rel=>exact ⟨k+1,by omega,by omega,by go_num,b⟩
        case measure=>simp [intOf];omega
      | false =>
        have D:=aA (p:=∀ w,Calls prog 112 #[.int .u8 s[k].toNat] w fun e w'=>e=.returned (.bool false)/\w=w') (fun w=>by have:=nF s[k] w;rwa [ha] at this);cases hd:aZ s[k] with
        | true =>
          have b:=aA (show ∀ j (c:j<s.size),j<k+1->a8 s[j]=true from fun j c o=>by
           by_cases e:j=k
           · subst e;unfold a8;rw [ha,hd];rfl
           · exact d.out j c (by omega))
          have E:=aA (p:=∀ w,Calls prog 113 #[.int .u8 s[k].toNat] w fun e w'=>e=.returned (.bool true)/\w=w') (fun w=>by have:=xG s[k] w;rwa [hd] at this);clear ha hd C;go_wp2_with (first | (go_at_call 112;refine (D.out _).mono ?_;rintro e w' ⟨rfl,rfl⟩) | (go_at_call 113;refine (E.out _).mono ?_;rintro e w' ⟨rfl,rfl⟩))
          go_round
          case rel=>exact ⟨k+1,by omega,by omega,by go_num,b⟩
          case measure=>simp [intOf];omega
        | false =>
          have E:=aA (p:=∀ w,Calls prog 113 #[.int .u8 s[k].toNat] w fun e w'=>e=.returned (.bool false)/\w=w') (fun w=>by have:=xG s[k] w;rwa [hd] at this);have r:=aA (m.out.trans (Di n (by unfold a8;rw [ha,hd];rfl)));clear ha hd C;go_wp2_with (first | (go_at_call 112;refine (D.out _).mono ?_;rintro e w' ⟨rfl,rfl⟩) | (go_at_call 113;refine (E.out _).mono ?_;rintro e w' ⟨rfl,rfl⟩))
          go_ret;exact ⟨eX (a:=false) r.out.symm,rfl⟩
    · have r:=aA (m.out.trans (Io fun j c=>d.out j c (by omega)))
      go_wp2_with fail
      go_ret;exact ⟨eX (a:=true) r.out.symm,rfl⟩
end Go.Proofs.YtgfkjkokmcejbaaGreatDoor
