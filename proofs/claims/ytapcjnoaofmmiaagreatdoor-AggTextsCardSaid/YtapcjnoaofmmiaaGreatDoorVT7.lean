/-
 No statement: what AggTextsCard needs, of the texts OE8, OE9.
-/
import Derived.Test.YtapcjnoaofmmiaaGreatDoorVT6
set_option maxHeartbeats 40000000
set_option maxRecDepth 100000
namespace Go.Proofs.YtapcjnoaofmmiaaGreatDoor
open Go.RowKit
section
section
open Go.RowKit
theorem tI {w:World} {B m size:Nat} {e:TypeId} {v:Value} {xs:List Value} (h:w.ownsRow B e size v m xs) (hm:m ≠ 0):∃ g c,v=.slice (some ⟨g,0,none⟩) m c:=by
 rcases h.2 with ⟨rfl,h0⟩ | ⟨g,cap,_,rfl,_⟩
 · exact absurd h0 hm
 · exact ⟨_,_,rfl⟩
theorem DW {w:World} {B:Nat} {e:TypeId} {g n cap:Nat} {xs:List Value} {z0 z1 z2 z3:Value} (h:w.ownsRow B e 4 (.slice (some ⟨g,0,none⟩) (n+1) cap) (n+1) (xs++[z0,z1,z2,z3])) (hl:xs.length=n*4) (v0 v1 v2 v3:Value) :
 ((((w.setCell ⟨g,n*4,none⟩ v0).setCell ⟨g,n*4+1,none⟩ v1).setCell ⟨g,n*4+2,none⟩ v2).setCell ⟨g,n*4+3,none⟩ v3).ownsRow B e 4 (.slice (some ⟨g,0,none⟩) (n+1) cap) (n+1) (xs++[v0,v1,v2,v3]):=by
 refine ⟨by rw [List.length_append,hl];simp;omega,?_⟩;rcases h.2 with ⟨h1,_⟩ | ⟨g',cap',cur,h1,hb,hg,hnc,hcm,hcs,ht⟩
 · cases h1
 · simp only [Value.slice.injEq,Option.some.injEq,Addr.mk.injEq,and_true,true_and] at h1
   obtain ⟨rfl,rfl⟩:=h1;obtain ⟨cur',hc,hcl⟩:=cW g e [v0,v1,v2,v3] (n*4) w cur hg (by simp;omega);have hw:w.setCells g (n*4) [v0,v1,v2,v3]=(((w.setCell ⟨g,n*4,none⟩ v0).setCell ⟨g,n*4+1,none⟩ v1).setCell ⟨g,n*4+2,none⟩ v2).setCell ⟨g,n*4+3,none⟩ v3:=rfl;rw [hw] at hc
   have hcs':cur'.size=cur.size:=by
    have e1:cur'.toList.length=cur'.size:=Array.length_toList;have e2:cur.toList.length=cur.size:=Array.length_toList;rw [hcl] at e1;simp only [List.length_append,List.length_take,List.length_drop,List.length_cons,List.length_nil] at e1;omega
   refine .inr ⟨g,cap,cur',rfl,hb,hc,hnc,hcm,by rw [hcs',hcs],?_⟩
   have e1:cur.toList.take (n*4)=xs:=by
    have h2:cur.toList.take (n*4)=(cur.toList.take ((n+1)*4)).take (n*4):=by rw [List.take_take,Nat.min_eq_left (by omega)]
    rw [h2,ht,List.take_append_of_le_length (by omega),List.take_of_length_le (by omega)]
   rw [hcl,e1,List.take_append_of_le_length (by simp [hl];omega),List.take_of_length_le (by simp [hl];omega)]
theorem Ac {w:World} {B:Nat} {e:TypeId} {g n cap:Nat} {xs:List Value} {z0 z1 z2 z3:Value} (h:w.ownsRow B e 4 (.slice (some ⟨g,0,none⟩) (n+1) cap) (n+1) (xs++[z0,z1,z2,z3])) (hl:xs.length=n*4) :
 (w.cell? ⟨g,n*4,none⟩=some z0/\w.cell? ⟨g,n*4+1,none⟩=some z1/\w.cell? ⟨g,n*4+2,none⟩=some z2/\w.cell? ⟨g,n*4+3,none⟩=some z3) /\
 (w.frozen? ⟨g,n*4,none⟩=false/\w.frozen? ⟨g,n*4+1,none⟩=false/\w.frozen? ⟨g,n*4+2,none⟩=false/\w.frozen? ⟨g,n*4+3,none⟩=false):=by
 have at_:∀ i,(xs++[z0,z1,z2,z3])[n*4+i]? = [z0,z1,z2,z3][i]? := fun i=>by rw [<- hl,List.getElem?_append_right (Nat.le_add_right _ _),Nat.add_sub_cancel_left]
 have c:∀ i u,[z0,z1,z2,z3][i]? = some u->w.cell? ⟨g,n*4+i,none⟩=some u:=fun i u hu=>by
  obtain ⟨g',h1,h2⟩:=nN h ((at_ i).trans hu);simp only [Addr.mk.injEq,and_true] at h1;subst h1;exact h2
 refine ⟨⟨c 0 _ rfl,c 1 _ rfl,c 2 _ rfl,c 3 _ rfl⟩,?_⟩;rcases h.2 with ⟨h1,_⟩ | ⟨g',cap',cur,h1,hb,hg,hnc,hcm,hcs,ht⟩
 · cases h1
 · simp only [Value.slice.injEq,Option.some.injEq,Addr.mk.injEq,and_true,true_and] at h1
   obtain ⟨rfl,rfl⟩:=h1;refine ⟨?_,?_,?_,?_⟩ <;> simp [World.frozen?,hg]
theorem iU (w:World) (a b:Addr) (h:a.block ≠ b.block) (u v:Value):(w.setCell a u).setCell b v=(w.setCell b v).setCell a u:=by
 unfold World.setCell;simp only [World.mk.injEq,and_true];apply Array.ext_getElem?
 intro i;simp only [Array.getElem?_modify];by_cases h1:a.block=i
 · have h2:¬ b.block=i:=fun e=>h (h1.trans e.symm)
   simp [h1,h2]
 · simp [h1]
theorem DG (w:World) (rb g o x:Nat) (h:rb ≠ g) (u v0 v1 v2 v3:Value):(((((w.setCell ⟨rb,x,none⟩ u).setCell ⟨g,o,none⟩ v0).setCell ⟨g,o+1,none⟩ v1).setCell ⟨g,o+2,none⟩ v2).setCell ⟨g,o+3,none⟩ v3) =
 (((((w.setCell ⟨g,o,none⟩ v0).setCell ⟨g,o+1,none⟩ v1).setCell ⟨g,o+2,none⟩ v2).setCell ⟨g,o+3,none⟩ v3).setCell ⟨rb,x,none⟩ u):=by
 rw [iU w ⟨rb,x,none⟩ ⟨g,o,none⟩ h,iU _ ⟨rb,x,none⟩ ⟨g,o+1,none⟩ h,iU _ ⟨rb,x,none⟩ ⟨g,o+2,none⟩ h,iU _ ⟨rb,x,none⟩ ⟨g,o+3,none⟩ h]
theorem Kc (w:World) (E:TypeId):∀ j u,(ndL aD (none,0))[j]? = some u->(w.alloc (.cells #[.string ⟨#[]⟩,.string ⟨#[]⟩,.int .i64 0,.slice none 0 0] E)).cell? ((⟨w.heap.size,0,none⟩:Addr).add j)=some u:=fun j u hj=>by
 have e:ndL aD (none,0)=[.string ⟨#[]⟩,.string ⟨#[]⟩,.int .i64 0,.slice none 0 0]:=rfl;rw [e] at hj;rw [Addr.add_lit,Nat.zero_add,cell_of_row _ _ _ _ _ (0,0) (heap_alloc_new w _)];simpa using hj
theorem Ai (ts:List Tk) (rb:Nat) (a:Option Addr) (c p o n:Nat) (sg:List (List UInt8×Nat)) (dn:List TN) (sv dv:Value) (q:List (Option Addr×Nat)) (t:TN) (ht:t.ks=.nil) (w:World) (h:RG ts rb a c p o n sg dn sv dv q w) (hlt:p<ts.length) :
 Calls Tryz.prog 230 #[.pointer (some ⟨rb,0,none⟩),.agg #[.string t.op,.string t.nm,.int .i64 t.n,.slice none 0 0]] w fun e w'=>cF rb w w' /\
  (n=32->e=.returned (.int .i64 4)/\RG ts rb a c p o n sg dn sv dv q w')/\(¬ n=32->e=.returned (.int .i64 0)/\∃ dv' q',RG ts rb a c (p+1) o (n+1) sg (t::dn) sv dv' q' w'):=by
 obtain ⟨i0,hi,hz0,hz1,hz2⟩:=info_parts qQ;have und:Tryz.prog.underlying 23=some (.slice 25):=Tryz.underlying23;have hrb:=h.lt;have BA:=(Below.refl w.heap.size w).alloc (Nat.le_refl _) (.cells #[.string t.op,.string t.nm,.int .i64 t.n,.slice none 0 0] 25);have NB:=heap_alloc_new w (.cells #[.string t.op,.string t.nm,.int .i64 t.n,.slice none 0 0] 25);have H1:=h.below BA;have K1:=cF.below (rb:=rb) BA;generalize hW:w.alloc (.cells #[.string t.op,.string t.nm,.int .i64 t.n,.slice none 0 0] 25)=W at BA NB H1 K1;have HH1:=aA H1;have HNB:=aA NB;have HK1:=aA K1;have HW:=aA hW;have HT:=aA ht;have C:=aA (wH ts rb a c p o n sv dv W H1.g hlt);clear h H1 NB BA K1 hW ht;by_cases h32:n=32
 · have G32:=aA h32
   clear h32;go_enter Tryz.func230,Tryz.ntmps230
   go_upto_region 1 with fail
   rw [HW.out];go_wp2_with fail
   refine C.out.mono ?_;rintro e w2 ⟨hA, -⟩;obtain ⟨rfl,rfl⟩:=hA G32.out;go_wp2_with fail
   go_ret;exact ⟨HK1.out,fun _=>⟨rfl,HH1.out⟩,fun hn=>absurd G32.out hn⟩
 · have G32:=aA h32
   clear h32;go_enter Tryz.func230,Tryz.ntmps230
   go_upto_region 1 with fail
   rw [HW.out];go_wp2_with fail
   refine C.out.mono ?_;rintro e w2 ⟨-,hB⟩;obtain ⟨rfl,hPG,hk⟩:=hB G32.out;have R2:=HH1.out.count hPG hk (Nat.le_succ n);have N2:=aA (hk.heap HNB.out (by omega));obtain ⟨⟨c0,c1,c2,c3,c4,c5⟩,f1,f2,f3,f4,f5⟩:=R2.g.r.cells;have hb4:=(aK N2.out).1;have HR2:=aA R2;have HK2:=aA (HK1.out.trans (cF.of hk));have hlen:=HH1.out.hd;have hlq:=aA (sH R2.dk);have hn32:=R2.g.hn;have hsz:=R2.lt;have hw2:w.heap.size<w2.heap.size:=(Array.getElem?_eq_some_iff.1 N2.out).1;have OD:=aA (show w2.drew.ownsRow (rb+1) 25 4 dv dn.length (dnL dn q) from R2.dw);obtain ⟨va,vc,hv⟩:=dF R2.dw;subst hv;have a1:(0:Int)<=(dn.length:Int):=by omega
   have a2:(dn.length:Int)<(dn.length:Int)+1:=by omega
   have a3:((dn.length:Int)).toNat=dn.length:=by omega
   clear hPG hk R2 C hB;go_upto_region 4 with fail
   obtain ⟨b0,b1,b2,b3⟩:=hb4
   go_region_law (first
    | (refine cO rfl (.tmp 14) (.tmp 17) 23 rfl (base := rb + 1) und hi hz0 hz1 hz2 rfl (by decide) (.slice va dn.length vc) dn.length 1 (dnL dn q) (ndL aD (none, 0)) ⟨w2.heap.size, 0, none⟩ 1 (by first | (simp [Act.eval]; done) | (simp [Act.eval, Act.put]; done) | fail) (by first | (simp [Act.eval]; done) | (simp [Act.eval, Act.put]; done) | fail) (OD.out.alloc _) rfl (Kc w2.drew 25) (j0 aD _) (by unfold maxLen; omega) (by omega) (by simp; omega) ?_
       intro v3 w3 ho hg hq;obtain ⟨g3,vc3,rfl⟩:=tI ho (Nat.succ_ne_zero _);have Z3:=Ac ho (qD hlq.out);have K3:=((aE.refl (fun b=>(Value.slice va dn.length vc).ownBlock=some b) w2).drew.alloc (.cells #[.string ⟨#[]⟩,.string ⟨#[]⟩,.int .i64 0,.slice none 0 0] 25)).grown hg (fun k hk=>.inl hk);have O4:=DW ho (qD hlq.out) (.string t.op) (.string t.nm) (.int .i64 t.n) (.slice none 0 0);have hg3:=(hq g3 rfl).imp id Bq;have K4:=(((K3.setCell (p:=⟨g3,dn.length*4,none⟩) hg3 (.string t.op)).setCell (p:=⟨g3,dn.length*4+1,none⟩) hg3 (.string t.nm)).setCell (p:=⟨g3,dn.length*4+2,none⟩) hg3 (.int .i64 t.n)).setCell (p:=⟨g3,dn.length*4+3,none⟩) hg3 (.slice none 0 0);have P3:=aA (HR2.out.put_dn (dn':=t::dn) (q':=(none,0)::q) K4 (by rw [dnL,ndL,HT.out];exact O4) (fun b hb=>(hq b hb).imp id Bq) ⟨.inl HT.out,HR2.out.dk⟩ (by rw [List.length_cons];omega));have KK:=aA ((HK2.out.trans (K4.mono (fun k hk _=>by have:=(HR2.out.dvNe hk).1;omega))).set 5 (.slice (some ⟨g3,0,none⟩) (dn.length+1) vc3));have hgb:=(ho.lt g3 rfl).1;have CM:=aA (DG w3 rb g3 (dn.length*4) 5 (by omega) (.slice (some ⟨g3,0,none⟩) (dn.length+1) vc3) (.string t.op) (.string t.nm) (.int .i64 t.n) (.slice none 0 0));have G3:=(HR2.out.g.kept K3 (fun k hk=>(HR2.out.dvNe hk).1)).r.cells;clear ho hg hq K3 K4 O4 c0 c1 c2 c3 c4 c5 f1 f2 f3 f4 f5 b0 b1 b2 b3;obtain ⟨⟨c0,c1,c2,c3,c4,c5⟩,f1,f2,f3,f4,f5⟩:=G3;obtain ⟨⟨z0,z1,z2,z3⟩,y0,y1,y2,y3⟩:=Z3)
    | fail)
   all_goals
    first | rw [CM.out] | skip
    clear CM;generalize (((((w3.setCell ⟨g3,dn.length*4,none⟩ (.string t.op)).setCell ⟨g3,dn.length*4+1,none⟩ (.string t.nm)).setCell ⟨g3,dn.length*4+2,none⟩ (.int .i64 t.n)).setCell ⟨g3,dn.length*4+3,none⟩ (.slice none 0 0)).setCell ⟨rb,5,none⟩ (.slice (some ⟨g3,0,none⟩) (dn.length+1) vc3))=V at P3 KK |-
    go_wp2_with fail
    go_ret;exact ⟨KK.out,fun hn=>absurd hn G32.out,fun _=>⟨rfl,_,_,P3.out⟩⟩
end
section
open Go.RowKit
theorem F3 (w:World) (E:TypeId) (size:Nat):(w.alloc (.cells #[] E)).ownsRow w.heap.size E size (.slice (some ⟨w.heap.size,0,none⟩) 0 0) 0 [] :=
 World.ownsRow_made w #[] 0 (Nat.le_refl _) (Nat.zero_le _) (by simp)
theorem tO (b:Addr) (n c:Nat) (xs:List Value) (hl:xs.length=n*4) (hn:n<=100) (w:World) (hc:∀ j u,xs[j]? = some u->w.cell? (b.add j)=some u) (h1:∀ u∈xs,u.oneCell'=true) :
 Calls Tryz.prog 231 #[.slice (some b) n c] w fun e w'=>∃ v',e=.returned v'/\w'.ownsRow w.heap.size 25 4 v' n xs/\Below w.heap.size w w':=by
 obtain ⟨i0,hi,hz0,hz1,hz2⟩:=info_parts qQ;have und:Tryz.prog.underlying 23=some (.slice 25):=Tryz.underlying23;have OA:=aA (F3 w 25 4);have BA:=aA ((Below.refl w.heap.size w).alloc (Nat.le_refl _) (.cells #[] 25));have HC:=aA (p:=∀ j u,xs[j]? = some u->(w.alloc (.cells #[] 25)).cell? (b.add j)=some u) (fun j u hj=>Lib.cell?_alloc_some _ (hc j u hj));have HL:=aA hl;have H1:=aA h1;clear hc hl h1;go_enter Tryz.func231,Tryz.ntmps231
 go_wp2
 rw [Lib.run_eql_slice_nil w _ _ _ _ _ _ _ und];simp only [Result.andThen];rw [Oper.upon_value];go_wp2_with (at_builtin;refine aS rfl _ _ 23 rfl und hi hz0 hz1 hz2 rfl (by decide) _ 0 n c b [] xs rfl rfl OA.out HL.out HC.out H1.out (by unfold maxLen;omega) (by omega) (by simp) ?_)
 intro v' w2 ho hg _;have O2:=aA ho;have B2:=aA (BA.out.grown hg (by simp) (fun k hk=>by simp [Value.ownBlock] at hk;omega));clear ho hg;go_wp2_with fail
 go_ret;exact ⟨v',rfl,by simpa using O2.out,B2.out⟩
def iX:List (List UInt8×Nat)->Nat
 | []=>0
 | x::r=>iX r+(if x.1=iI then 0 else 1)
def mZ (sg:List (List UInt8×Nat)):Prop:=∀ x∈sg,x.1=iI\/rE x.1
theorem Fe:bI ⟨iI.toArray⟩=1:=by decide
theorem uL {o:List UInt8} (h:rE o):bI ⟨o.toArray⟩=2/\o ≠ iI:=by
 rcases h with rfl | rfl | rfl | rfl | rfl <;> decide
theorem Am {h:Nat}:∀ {sg:List (List UInt8×Nat)} {dn:List TN},mZ sg->dn.length=iX sg+1->mZ (cP h sg dn).1/\(cP h sg dn).2.length=iX (cP h sg dn).1+1
 | [],dn,_,hd=>⟨fun _ hx=>(by cases hx),hd⟩
 | (o, k) :: sg, dn, hs, hd => by
   rw [cP];by_cases hk:h<=k
   · rw [if_pos hk]
     refine Am (fun x hx=>hs x (List.mem_cons_of_mem _ hx)) ?_;rw [iX] at hd;unfold nU;by_cases ho:o=iI
     · rw [if_pos ho] at hd |-
       cases dn with
       | nil=>simp at hd
       | cons a r=>simpa using hd
     · rw [if_neg ho] at hd |-
       match dn,hd with
       | [],hd=>simp at hd
       | [a],hd=>simp at hd
       | b::a::r,hd=>simp at hd |-;omega
   · rw [if_neg hk];exact ⟨hs,hd⟩
theorem dG {w:World} {B m size:Nat} {e:TypeId} {v:Value} {xs:List Value} (h:w.ownsRow B e size v m xs) (hm:m ≠ 0):∃ g c,v=.slice (some ⟨g,0,none⟩) m c/\m<=c/\c<=maxLen/\∀ j u,xs[j]? = some u->w.cell? ⟨g,j,none⟩=some u:=by
 rcases h.2 with ⟨rfl,h0⟩ | ⟨g,cap,_,rfl,_,_,h1,h2,_⟩
 · exact absurd h0 hm
 · refine ⟨g,cap,rfl,h1,h2,fun j u hj=>?_⟩
   obtain ⟨g',h1,h2⟩:=nN h hj;simp only [Addr.mk.injEq,and_true] at h1;subst h1;exact h2
theorem nI {G:Nat->Prop} {w:World} {g:Nat} {t:TN} {q:Option Addr×Nat} {r:F} {off:Nat} (hG:G g) (hlt:g<w.heap.size) (hc:∀ j u,(ndL t q)[j]? = some u->w.cell? ⟨g,off+j,none⟩=some u) (hk:aH G w q.1 t.ks) (hr:dT G w r g (off+4)):dT G w (.cons t.op t.nm t.n t.ks r) g off :=
 ⟨hG,hlt,⟨q.1,q.2,⟨hc 0 _ rfl,hc 1 _ rfl,hc 2 _ rfl,hc 3 _ rfl⟩,hk⟩,hr⟩
section
variable {x:Nat} {ts:List Tk} {rb:Nat} {a:Option Addr} {c p o n:Nat} {sg:List (List UInt8×Nat)} {dn:List TN} {sv dv:Value} {q:List (Option Addr×Nat)} {w w':World}
theorem RGx.pop {y:List UInt8×Nat} {g vc:Nat} (h:RGx x ts rb a c p o n (y::sg) dn (.slice (some ⟨g,0,none⟩) (sg.length+1) vc) dv q w):RGx x ts rb a c p o n sg dn (.slice (some ⟨g,0,none⟩) sg.length vc) dv q (w.setCell ⟨rb,4,none⟩ (.slice (some ⟨g,0,none⟩) sg.length vc)):=by
 have ho:=qO (m:=sg.length) h.so (by simp) (by simp);rw [uO,List.take_append_of_le_length (by rw [jA];exact Nat.le_refl _),List.take_of_length_le (by rw [jA];exact Nat.le_refl _)] at ho;exact h.put_sg (aE.refl _ w) ho (fun b hb=>.inl hb) (by have:=h.hs;simp at this;omega)
theorem RGx.take {w1 w3:World} {dn1:List TN} {q1:List (Option Addr×Nat)} {t:TN} {dv':Value} {gk ck:Nat} {obj:Obj} (h:RGx x ts rb a c p o n sg dn sv dv q w1)
 (hg:(w1.alloc obj).grownBy w3 dv.ownBlock) (hrow:w3.ownsRow (rb+1) 25 4 dv' (dn1.length+1) (dnL dn1 q1++ndL t (some ⟨gk,0,none⟩,ck)))
 (hnew:∀ b,dv'.ownBlock=some b->dv.ownBlock=some b\/w1.heap.size+1<=b) (hk1:DnK (Gk x rb sv dv) w1 dn1 q1) (hkt:aH (Gk x rb sv dv) w1 (some ⟨gk,0,none⟩) t.ks) (hd:dn1.length+1<=n) :
 RGx x ts rb a c p o n sg (t::dn1) sv dv' ((some ⟨gk,0,none⟩,ck)::q1) (w3.setCell ⟨rb,5,none⟩ dv')/\cF rb w1 (w3.setCell ⟨rb,5,none⟩ dv'):=by
 have K3:=((aE.refl (fun b=>dv.ownBlock=some b) w1).alloc obj).grown hg (fun k hk=>.inl hk)
 exact ⟨h.put_dn (dn':=t::dn1) K3 hrow (fun b hb=>(hnew b hb).imp id (fun hle=>by omega)) ⟨hkt,hk1⟩ (by rw [List.length_cons];omega),
  (K3.mono (T:=fun b=>rb<=b) (fun k hk _=>Nat.le_of_lt (h.dvNe hk).1)).setCell (p:=⟨rb,5,none⟩) (.inl (Nat.le_refl _)) dv'⟩
end
def JJ (x:Nat) (ts:List Tk) (rb:Nat) (a:Option Addr) (c p o n:Nat) (r:List (List UInt8×Nat)×List TN) (w0 w':World):Prop:=cF rb w0 w'/\∃ sv dv q,RGx x ts rb a c p o n r.1 r.2 sv dv q w'
structure Fr (rb:Nat) (sv dv:Value) (w:World) (sv1 dv1:Value) (w1:World):Prop where
 b:∀ b,b<w.heap.size->b ≠ rb->sv.ownBlock ≠ some b->dv.ownBlock ≠ some b->w1.heap[b]? = w.heap[b]?
 s:∀ b,sv1.ownBlock=some b->sv.ownBlock=some b\/w.heap.size<=b
 d:∀ b,dv1.ownBlock=some b->dv.ownBlock=some b\/w.heap.size<=b
 z:w.heap.size<=w1.heap.size
theorem Fr.step {rb:Nat} {sv dv sv1 dv1 sv2 dv2:Value} {w wr w1 w3:World} (h:Fr rb sv dv w sv1 dv1 wr) (hb:Below wr.heap.size wr w1) (hk:aE (fun b=>dv1.ownBlock=some b) w1 w3) (hs:sv2.ownBlock=sv1.ownBlock) (hd:∀ b,dv2.ownBlock=some b->dv1.ownBlock=some b\/w1.heap.size+1<=b) (x y:Nat) (u v:Value) :
 Fr rb sv dv w sv2 dv2 ((w3.setCell ⟨rb,x,none⟩ u).setCell ⟨rb,y,none⟩ v):=by
 have hz:=h.z;have hz1:=hb.size;have hz3:=hk.size;have ks:=(((aE.refl (· = rb) w3).setCell (p:=⟨rb,x,none⟩) (.inl rfl) u).setCell (p:=⟨rb,y,none⟩) (.inl rfl) v);have hz4:=ks.size;refine ⟨fun b h1 h2 h3 h4=>?_,fun b hb2=>h.s b (by rw [<- hs];exact hb2),fun b hb2=>?_,by omega⟩
 · rw [ks.block b (by omega) h2,hk.block b (by omega) (fun e=>(h.d b e).elim h4 (fun hle=>by omega)),hb.block b (by omega)]
   exact h.b b h1 h2 h3 h4
 · rcases hd b hb2 with h1 | h1
   · exact h.d b h1
   · exact .inr (by omega)
theorem Dd (x:Nat) (ts:List Tk) (rb:Nat) (a:Option Addr) (c p o n h:Nat) (sg:List (List UInt8×Nat)) (dn:List TN) (sv dv:Value) (q:List (Option Addr×Nat)) (w:World) (H:RGx x ts rb a c p o n sg dn sv dv q w) (hs:mZ sg) (hd:dn.length=iX sg+1) :
 Calls Tryz.prog 215 #[.pointer (some ⟨rb,0,none⟩),.int .i64 h] w fun e w'=>e=.returned (.tuple #[])/\JJ x ts rb a c p o n (cP h sg dn) w w'/\(∀ b,b<w.heap.size->b ≠ rb->sv.ownBlock ≠ some b->dv.ownBlock ≠ some b->w'.heap[b]? = w.heap[b]?):=by
 obtain ⟨i0,hi,hz0,hz1,hz2⟩:=info_parts qQ;have und:Tryz.prog.underlying 23=some (.slice 25):=Tryz.underlying23;obtain ⟨r0,hr0⟩:∃ r,cP h sg dn=r:=⟨_,rfl⟩;rw [hr0];have K0:=aA (cF.refl rb w);have HR:=aA H;have HS:=aA hs;have HD:=aA hd;have HE:=aA hr0;have hslen:=H.hs;have hn32:=H.g.hn;obtain ⟨va,vc,hv⟩:=dF H.so;subst hv;obtain ⟨⟨c0,c1,c2,c3,c4,c5⟩,f1,f2,f3,f4,f5⟩:=H.g.r.cells;clear hs hd hr0 H;go_enter Tryz.func215,Tryz.ntmps215
 go_wp2_with fail
 go_loopg [4] sg.length (fun g v wr=>∃ (z:Int) (sg1:List (List UInt8×Nat)) (dn1:List TN) (sv1 dv1:Value) (q1:List (Option Addr×Nat)),v=.int .i64 z/\z=(sg1.length:Int)-1/\sg1.length<=g/\Hid (RGx x ts rb a c p o n sg1 dn1 sv1 dv1 q1 wr)/\Hid (mZ sg1)/\Hid (dn1.length=iX sg1+1)/\Hid (cP h sg1 dn1=r0)/\Hid (cF rb w wr)/\Hid (Fr rb (.slice va sg.length vc) dv w sv1 dv1 wr))
 case atStart=>exact ⟨_,sg,dn,_,dv,q,rfl,by first | rfl | (simp;done) | omega,Nat.le_refl _,HR,HS,HD,HE,K0,aA ⟨fun _ _ _ _ _=>rfl,fun _ h=>.inl h,fun _ h=>.inl h,Nat.le_refl _⟩⟩
 case round =>
  obtain ⟨z,sg1,dn1,sv1,dv1,q1,rfl,hz,hg,hR,hS,hD,hE,hK,hF⟩:=hrel;clear c0 c1 c2 c3 c4 c5 f1 f2 f3 f4 f5;cases sg1 with
  | nil =>
    have a0:¬ (0:Int)<=z:=by rw [hz];simp
    clear hz;have E:=aA (show r0=([],dn1) by rw [<- hE.out];rfl);go_wp2_with fail
    go_end0
    rw [E.out];exact ⟨rfl,⟨hK.out,_,_,_,hR.out⟩,hF.out.b⟩
  | cons y r =>
    obtain ⟨o',k⟩:=y;obtain rfl:z=(r.length:Int):=by rw [hz,List.length_cons];omega
    have R1:=hR.out;obtain ⟨g,vc1,hv,hvc,hvm,hcs⟩:=dG R1.so (by simp);have s0:=hcs (r.length*2) (.string ⟨o'.toArray⟩) (by rw [uO,List.getElem?_append_right (by rw [jA];exact Nat.le_refl _),jA,Nat.sub_self];rfl);have s1:=hcs (r.length*2+1) (.int .i64 k) (by rw [uO,List.getElem?_append_right (by rw [jA];omega),jA,show r.length*2+1-r.length*2=1 by omega];rfl);subst hv;have hrl:=R1.hs;rw [List.length_cons] at hrl hvc hg;obtain ⟨⟨c0,c1,c2,c3,c4,c5⟩,f1,f2,f3,f4,f5⟩:=R1.g.r.cells;rw [List.length_cons] at c4;have a1:(0:Int)<=(r.length:Int):=by omega
    have a2:(r.length:Int)<(r.length:Int)+1:=by omega
    have a3:((r.length:Int)).toNat=r.length:=by omega
    clear hcs R1 hz;by_cases hk:h<=k
    · have b1:(h:Int)<=(k:Int):=by omega
      have KO:=aA (fun w=>lV ⟨o'.toArray⟩ w);have hlq:=sH hR.out.dk;by_cases ho:o'=iI
      · subst ho
        rw [Fe] at KO
        obtain ⟨t1,r1,rfl⟩:∃ t r,dn1=t::r:=by
         cases dn1 with
         | nil=>exact absurd hD.out (by simp)
         | cons t r=>exact ⟨t,r,rfl⟩
        obtain ⟨qa,q2,rfl⟩:∃ a b,q1=a::b:=by
         cases q1 with
         | nil=>simp at hlq
         | cons a b=>exact ⟨a,b,rfl⟩
        obtain ⟨d,vd,hv,hvd,hvm2,hcs⟩:=dG hR.out.dw (by simp);subst hv;have hl2:q2.length=r1.length:=by simpa using hlq
        have hdl:=qD hl2
        have HC:=aA (p:=∀ j u,(ndL t1 qa)[j]? = some u->wr.cell? ((⟨d,r1.length*4,none⟩:Addr).add j)=some u) (fun j u hj=>by
         rw [Addr.add_lit];refine hcs _ _ ?_;rw [dnL,List.getElem?_append_right (by omega),hdl,Nat.add_sub_cancel_left];exact hj)
        have CL:=aA (fun nq c=>tO ⟨d,r1.length*4,none⟩ 1 c (ndL t1 qa) rfl (by omega) (wr.drewN nq) HC.out (j0 t1 qa));rw [List.length_cons] at c5 hvd;have d1:(0:Int)<=(r1.length:Int):=by omega
        have d2:(r1.length:Int)<=(r1.length:Int)+1:=by omega
        have d3:((r1.length:Int)).toNat=r1.length:=by omega
        have d4:(r1.length:Int)<=(vd:Int):=by omega
        have hdn:=hR.out.hd;rw [List.length_cons] at hdn;have OT:=qO (m:=r1.length) hR.out.dw (by rw [List.length_cons];omega) (by simp);rw [dnL,List.take_append_of_le_length (by rw [hdl];exact Nat.le_refl _),List.take_of_length_le (by rw [hdl];exact Nat.le_refl _)] at OT;have OT2:=aA OT;clear hcs hlq OT;go_upto_region 4 with fail
        go_upto_region 5 with (go_quiet ((go_at_call 147;refine (KO.out _).mono ?_;rintro e w' ⟨he,rfl⟩;exact ⟨he,_,rfl⟩)))
        go_wp2_with fail
        refine (CL.out _ _).mono ?_;rintro e w1 ⟨v1,rfl,hro,hb⟩;obtain ⟨gk1,ck,rfl, -, -,hcell⟩:=dG hro (by decide);have hbb:Below wr.heap.size wr w1:=⟨hb.os,hb.tape,hb.output,hb.size,hb.block⟩;have R2:=hR.out.below hbb;have hgk:=(hro.lt gk1 rfl);have hwr:=hR.out.lt
        have GK:Gk x rb (.slice (some ⟨g,0,none⟩) (r.length+1) vc1) (.slice (some ⟨d,0,none⟩) (r1.length+1) vd) gk1:=by
         have hz:(wr.drewN nq).heap.size=wr.heap.size:=rfl;have k1:g<wr.heap.size:=(hR.out.svNe rfl).2;have k2:d<wr.heap.size:=(hR.out.dvNe rfl).2;have k3:x<wr.heap.size:=hR.out.hx;exact ⟨by omega,by omega,fun e=>by have:=Option.some.inj (show some g=some gk1 from e);omega,fun e=>by have:=Option.some.inj (show some d=some gk1 from e);omega⟩
        have KT:aH (Gk x rb (.slice (some ⟨g,0,none⟩) (r.length+1) vc1) (.slice (some ⟨d,0,none⟩) (r1.length+1) vd)) w1 (some ⟨gk1,0,none⟩) (oD t1).ks:=.inr ⟨gk1,0,rfl,nI (q:=qa) (t:=t1) GK hgk.2 (fun j u hj=>by rw [Nat.zero_add];exact hcell j u hj) R2.dk.1 trivial⟩;have DK2:=R2.dk.2;have OT3:=aA (bR OT2.out hbb)
        have NEW:=aA (p:=∀ j u,(ndL (oD t1) (some ⟨gk1,0,none⟩,ck))[j]? = some u->(w1.alloc (.cells #[.string ⟨iI.toArray⟩,.string ⟨#[]⟩,.int .i64 0,.slice (some ⟨gk1,0,none⟩) 1 ck] 25)).cell? ((⟨w1.heap.size,0,none⟩:Addr).add j)=some u) (fun j u hj=>by
         have e:ndL (oD t1) (some ⟨gk1,0,none⟩,ck)=(#[.string ⟨iI.toArray⟩,.string ⟨#[]⟩,.int .i64 0,.slice (some ⟨gk1,0,none⟩) 1 ck]:Array Value).toList:=rfl;rw [e] at hj;rw [Addr.add_lit,Nat.zero_add,cell_of_row _ _ _ _ _ (0,0) (heap_alloc_new w1 _)];simpa using hj)
        clear c0 c1 c2 c3 c4 c5 f1 f2 f3 f4 f5 s0 s1;obtain ⟨⟨c0,c1,c2,c3,c4,c5⟩,f1,f2,f3,f4,f5⟩:=R2.g.r.cells;rw [List.length_cons] at c4;rw [List.length_cons] at c5;have HR2:=aA R2;have HKT:=aA KT;have HDK:=aA DK2;have HBB:=aA hbb;have hsz2:=R2.lt;clear hro hb hcell R2 KT DK2 GK hbb CL HC;go_wp2_with (at_builtin;refine aS rfl _ _ 23 rfl und hi hz0 hz1 hz2 rfl (by decide) (.slice (some ⟨d,0,none⟩) r1.length vd) r1.length 1 1 ⟨w1.heap.size,0,none⟩ (dnL r1 q2) (ndL (oD t1) (some ⟨gk1,0,none⟩,ck)) rfl rfl (OT3.out.alloc _) rfl NEW.out (j0 _ _) (by unfold maxLen;omega) (by omega) (by simp;omega) ?_)
        intro v3 w3 ho3 hg3 hq3;obtain ⟨gg,cc3,rfl⟩:=tI ho3 (Nat.succ_ne_zero _);obtain ⟨P3,K3⟩:=HR2.out.take hg3 ho3 hq3 HDK.out HKT.out (by omega);have KD:=(((aE.refl (fun b=>(Value.slice (some ⟨d,0,none⟩) (r1.length+1) vd).ownBlock=some b) w1).alloc _).grown hg3 (fun k hk=>.inl hk));have F4:=aA (hF.out.step (sv2:=.slice (some ⟨g,0,none⟩) r.length vc1) (dv2:=.slice (some ⟨gg,0,none⟩) (r1.length+1) cc3) HBB.out KD rfl hq3 5 4 (.slice (some ⟨gg,0,none⟩) (r1.length+1) cc3) (.slice (some ⟨g,0,none⟩) r.length vc1));clear KD;have G3:=((HR2.out.g.kept (((aE.refl (fun b=>(Value.slice (some ⟨d,0,none⟩) (r1.length+1) vd).ownBlock=some b) w1).alloc _).grown hg3 (fun k hk=>.inl hk)) (fun k hk=>(HR2.out.dvNe hk).1)).r.cells);have P4:=aA P3.pop;have K4:=aA (((hK.out.trans (cF.below HBB.out)).trans K3).set 4 (.slice (some ⟨g,0,none⟩) r.length vc1));clear c0 c1 c2 c3 c4 c5 f1 f2 f3 f4 f5 ho3 hg3 hq3 P3 K3;obtain ⟨⟨c0,c1,c2,c3,c4,c5⟩,f1,f2,f3,f4,f5⟩:=G3;rw [List.length_cons] at c4;rw [List.length_cons] at c5;have S5:=aA (show mZ r from fun x hx=>hS.out x (List.mem_cons_of_mem _ hx));have D5:=aA (show ((oD t1)::r1).length=iX r+1 by have:=hD.out;rw [iX,if_pos rfl] at this;simp at this |-;omega);have E5:=aA (show cP h r ((oD t1)::r1)=r0 by rw [<- hE.out];conv=>rhs;rw [cP,if_pos hk,nU,if_pos rfl]);have r1a:(r.length:Int)<=(r.length:Int)+1:=by omega
        have r1b:(r.length:Int)<=(vc1:Int):=by omega
        clear hk;go_wp2_with fail
        go_roundg r.length
        case measure=>omega
        case rel=>exact ⟨(r.length:Int)-1,r,(oD t1)::r1,_,_,_,rfl,rfl,Nat.le_refl _,P4,S5,D5,E5,K4,F4⟩
      · have hso:rE o':=(hS.out _ List.mem_cons_self).resolve_left ho
        rw [(uL hso).1] at KO
        obtain ⟨t2,t1,r1,rfl⟩:∃ t s r,dn1=t::s::r:=by
         have h0:=hD.out;rw [iX,if_neg ho] at h0;match dn1,h0 with
         | [],h0=>simp at h0
         | [_],h0=>simp at h0
         | t::s::r,_=>exact ⟨t,s,r,rfl⟩
        obtain ⟨qb,qa,q2,rfl⟩:∃ a b c,q1=a::b::c:=by
         match q1,hlq with
         | [],h0=>simp at h0
         | [_],h0=>simp at h0
         | a::b::c,_=>exact ⟨a,b,c,rfl⟩
        obtain ⟨d,vd,hv,hvd,hvm2,hcs⟩:=dG hR.out.dw (by simp);subst hv;have hl2:q2.length=r1.length:=by simpa using hlq
        have hdl:=qD hl2
        have HC:=aA (p:=∀ j u,(ndL t1 qa++ndL t2 qb)[j]? = some u->wr.cell? ((⟨d,r1.length*4,none⟩:Addr).add j)=some u) (fun j u hj=>by
         rw [Addr.add_lit];refine hcs _ _ ?_;rw [dnL,dnL,List.append_assoc,List.getElem?_append_right (by omega),hdl,Nat.add_sub_cancel_left];exact hj)
        have CL:=aA (fun nq c=>tO ⟨d,r1.length*4,none⟩ 2 c (ndL t1 qa++ndL t2 qb) rfl (by omega) (wr.drewN nq) HC.out (fun u hu=>(List.mem_append.1 hu).elim (j0 t1 qa u) (j0 t2 qb u)));rw [List.length_cons,List.length_cons] at c5 hvd;have d1:(0:Int)<=(r1.length:Int):=by omega
        have d2:(r1.length:Int)<=(r1.length:Int)+2:=by omega
        have d3:((r1.length:Int)).toNat=r1.length:=by omega
        have d4:(r1.length:Int)<=(vd:Int):=by omega
        have d5:(r1.length:Int)<=(r1.length:Int)+1+1:=by omega
        have d6:(r1.length:Int)+1+1-2=(r1.length:Int):=by omega
        have d7:r1.length+1+1-r1.length=2:=by omega
        have hdn:=hR.out.hd;rw [List.length_cons,List.length_cons] at hdn;have OT:=qO (m:=r1.length) hR.out.dw (by rw [List.length_cons,List.length_cons];omega) (by simp);rw [dnL,dnL,List.append_assoc,List.take_append_of_le_length (by rw [hdl];exact Nat.le_refl _),List.take_of_length_le (by rw [hdl];exact Nat.le_refl _)] at OT;have OT2:=aA OT;clear hcs hlq OT;go_upto_region 4 with fail
        go_upto_region 5 with (go_quiet ((go_at_call 147;refine (KO.out _).mono ?_;rintro e w' ⟨he,rfl⟩;exact ⟨he,_,rfl⟩)))
        go_wp2_with fail
        refine (CL.out _ _).mono ?_;rintro e w1 ⟨v1,rfl,hro,hb⟩;obtain ⟨gk1,ck,rfl, -, -,hcell⟩:=dG hro (by decide);have hbb:Below wr.heap.size wr w1:=⟨hb.os,hb.tape,hb.output,hb.size,hb.block⟩;have R2:=hR.out.below hbb;have hgk:=(hro.lt gk1 rfl);have hwr:=hR.out.lt
        have GK:Gk x rb (.slice (some ⟨g,0,none⟩) (r.length+1) vc1) (.slice (some ⟨d,0,none⟩) (r1.length+1+1) vd) gk1:=by
         have hz:(wr.drewN nq).heap.size=wr.heap.size:=rfl;have k1:g<wr.heap.size:=(hR.out.svNe rfl).2;have k2:d<wr.heap.size:=(hR.out.dvNe rfl).2;have k3:x<wr.heap.size:=hR.out.hx;exact ⟨by omega,by omega,fun e=>by have:=Option.some.inj (show some g=some gk1 from e);omega,fun e=>by have:=Option.some.inj (show some d=some gk1 from e);omega⟩
        have KT:aH (Gk x rb (.slice (some ⟨g,0,none⟩) (r.length+1) vc1) (.slice (some ⟨d,0,none⟩) (r1.length+1+1) vd)) w1 (some ⟨gk1,0,none⟩) (eI o' t1 t2).ks:=.inr ⟨gk1,0,rfl,nI (q:=qa) (t:=t1) GK hgk.2 (fun j u hj=>by
         have hj4:j<4:=(List.getElem?_eq_some_iff.1 hj).1;rw [Nat.zero_add];exact hcell j u (by rw [List.getElem?_append_left (by exact hj4)];exact hj)) R2.dk.2.1 (nI (q:=qb) (t:=t2) GK hgk.2 (fun j u hj=>hcell (0+4+j) u (by rw [List.getElem?_append_right (by show 4<=_;omega),show 0+4+j-(ndL t1 qa).length=j by show 0+4+j-4=j;omega];exact hj)) R2.dk.1 trivial)⟩
        have DK2:=R2.dk.2.2;have OT3:=aA (bR OT2.out hbb)
        have NEW:=aA (p:=∀ j u,(ndL (eI o' t1 t2) (some ⟨gk1,0,none⟩,ck))[j]? = some u->(w1.alloc (.cells #[.string ⟨o'.toArray⟩,.string ⟨#[]⟩,.int .i64 0,.slice (some ⟨gk1,0,none⟩) 2 ck] 25)).cell? ((⟨w1.heap.size,0,none⟩:Addr).add j)=some u) (fun j u hj=>by
         have e:ndL (eI o' t1 t2) (some ⟨gk1,0,none⟩,ck)=(#[.string ⟨o'.toArray⟩,.string ⟨#[]⟩,.int .i64 0,.slice (some ⟨gk1,0,none⟩) 2 ck]:Array Value).toList:=rfl;rw [e] at hj;rw [Addr.add_lit,Nat.zero_add,cell_of_row _ _ _ _ _ (0,0) (heap_alloc_new w1 _)];simpa using hj)
        clear c0 c1 c2 c3 c4 c5 f1 f2 f3 f4 f5 s0 s1;obtain ⟨⟨c0,c1,c2,c3,c4,c5⟩,f1,f2,f3,f4,f5⟩:=R2.g.r.cells;rw [List.length_cons] at c4;rw [List.length_cons,List.length_cons] at c5;have HR2:=aA R2;have HKT:=aA KT;have HDK:=aA DK2;have HBB:=aA hbb;have hsz2:=R2.lt;clear hro hb hcell R2 KT DK2 GK hbb CL HC;go_wp2_with (at_builtin;refine aS rfl _ _ 23 rfl und hi hz0 hz1 hz2 rfl (by decide) (.slice (some ⟨d,0,none⟩) r1.length vd) r1.length 1 1 ⟨w1.heap.size,0,none⟩ (dnL r1 q2) (ndL (eI o' t1 t2) (some ⟨gk1,0,none⟩,ck)) rfl rfl (OT3.out.alloc _) rfl NEW.out (j0 _ _) (by unfold maxLen;omega) (by omega) (by simp;omega) ?_)
        intro v3 w3 ho3 hg3 hq3;obtain ⟨gg,cc3,rfl⟩:=tI ho3 (Nat.succ_ne_zero _);obtain ⟨P3,K3⟩:=HR2.out.take hg3 ho3 hq3 HDK.out HKT.out (by omega);have KD:=(((aE.refl (fun b=>(Value.slice (some ⟨d,0,none⟩) (r1.length+1+1) vd).ownBlock=some b) w1).alloc _).grown hg3 (fun k hk=>.inl hk));have F4:=aA (hF.out.step (sv2:=.slice (some ⟨g,0,none⟩) r.length vc1) (dv2:=.slice (some ⟨gg,0,none⟩) (r1.length+1) cc3) HBB.out KD rfl hq3 5 4 (.slice (some ⟨gg,0,none⟩) (r1.length+1) cc3) (.slice (some ⟨g,0,none⟩) r.length vc1));clear KD;have G3:=((HR2.out.g.kept (((aE.refl (fun b=>(Value.slice (some ⟨d,0,none⟩) (r1.length+1+1) vd).ownBlock=some b) w1).alloc _).grown hg3 (fun k hk=>.inl hk)) (fun k hk=>(HR2.out.dvNe hk).1)).r.cells);have P4:=aA P3.pop;have K4:=aA (((hK.out.trans (cF.below HBB.out)).trans K3).set 4 (.slice (some ⟨g,0,none⟩) r.length vc1));clear c0 c1 c2 c3 c4 c5 f1 f2 f3 f4 f5 ho3 hg3 hq3 P3 K3;obtain ⟨⟨c0,c1,c2,c3,c4,c5⟩,f1,f2,f3,f4,f5⟩:=G3;rw [List.length_cons] at c4;rw [List.length_cons,List.length_cons] at c5;have S5:=aA (show mZ r from fun x hx=>hS.out x (List.mem_cons_of_mem _ hx));have D5:=aA (show ((eI o' t1 t2)::r1).length=iX r+1 by have:=hD.out;rw [iX,if_neg ho] at this;simp at this |-;omega);have E5:=aA (show cP h r ((eI o' t1 t2)::r1)=r0 by rw [<- hE.out];conv=>rhs;rw [cP,if_pos hk,nU,if_neg ho]);have r1a:(r.length:Int)<=(r.length:Int)+1:=by omega
        have r1b:(r.length:Int)<=(vc1:Int):=by omega
        clear hk;go_wp2_with fail
        go_roundg r.length
        case measure=>omega
        case rel=>exact ⟨(r.length:Int)-1,r,(eI o' t1 t2)::r1,_,_,_,rfl,rfl,Nat.le_refl _,P4,S5,D5,E5,K4,F4⟩
    · have b1:¬ (h:Int)<=(k:Int):=by omega
      have E:=aA (show r0=((o',k)::r,dn1) by rw [<- hE.out,cP,if_neg hk]);clear hk;go_wp2_with fail
      go_end0
      rw [E.out];exact ⟨rfl,⟨hK.out,_,_,_,hR.out⟩,hF.out.b⟩
theorem Gw (ts:List Tk) (rb:Nat) (a:Option Addr) (c p o n h:Nat) (sg:List (List UInt8×Nat)) (dn:List TN) (sv dv:Value) (q:List (Option Addr×Nat)) (w:World) (H:RG ts rb a c p o n sg dn sv dv q w) (hs:mZ sg) (hd:dn.length=iX sg+1) :
 Calls Tryz.prog 215 #[.pointer (some ⟨rb,0,none⟩),.int .i64 h] w fun e w'=>e=.returned (.tuple #[])/\JJ rb ts rb a c p o n (cP h sg dn) w w' :=
 (Dd rb ts rb a c p o n h sg dn sv dv q w H hs hd).mono fun _ _ hP=>⟨hP.1,hP.2.1⟩
end
section
open Go.RowKit
theorem xR {s:ByteArray} (h:s.size<1\/8<s.size):eM s.data.toList=false:=by
 have hl:s.data.toList.length=s.size:=by simp
 cases e:s.data.toList with
 | nil=>rfl
 | cons c r =>
   rw [e] at hl;rw [nW,decide_eq_false (by simp at hl;omega),Bool.and_false,Bool.false_and]
theorem Dg {s:ByteArray} (h:1<=s.size) (h8:s.size<=8):eM s.data.toList=(bJ s[0] && s.data.toList.all bC):=by
 have hl:s.data.toList.length=s.size:=by simp
 have h0:s.data.toList[0]? = some s[0]:=List.getElem?_eq_getElem (by omega);cases e:s.data.toList with
 | nil=>rw [e] at hl;simp at hl;omega
 | cons c r =>
   rw [e] at hl h0;have:c=s[0]:=by simpa using h0
   subst this;rw [nW,decide_eq_true (by simp at hl;omega),Bool.and_true,List.all_cons];unfold bC;cases bJ s[0] <;> simp
theorem yA {s:ByteArray} {j:Nat} (hj:j<s.size) (h:bC s[j]=false):s.data.toList.all bC=false:=by
 rw [List.all_eq_false];exact ⟨s[j],List.mem_iff_getElem.2 ⟨j,by simpa using hj,rfl⟩,by rw [h];simp⟩
theorem Dn {s:ByteArray} (h:∀ j (hj:j<s.size),bC s[j]=true):s.data.toList.all bC=true:=by
 rw [List.all_eq_true];intro c hc;obtain ⟨j,hj,rfl⟩:=List.mem_iff_getElem.1 hc;exact h j (by simpa using hj)
theorem DR (s:ByteArray) (hm:s.size<=281474976710656) (w:World):Calls Tryz.prog 123 #[.string s] w fun e w'=>e=.returned (.bool (eM s.data.toList))/\w=w':=by
 by_cases h1:s.size<1\/8<s.size
 · have R:=aA (xR h1)
   rcases h1 with h1 | h1
   · go_enter Tryz.func123,Tryz.ntmps123
     go_wp2_with fail
     go_ret;exact ⟨eC (a:=false) R.out.symm,rfl⟩
   · have h2:1<=s.size:=by omega
     go_enter Tryz.func123,Tryz.ntmps123
     go_wp2_with fail
     go_ret;exact ⟨eC (a:=false) R.out.symm,rfl⟩
 · have h2:1<=s.size:=by omega
   have h3:s.size<=8:=by omega
   have R:=aA (Dg h2 h3);obtain ⟨c,hc⟩:∃ c:Int,(s[0].toNat:Int)=c:=⟨_,rfl⟩;have hs:bJ s[0]=(decide (97<=c) && decide (c<=122)):=by unfold bJ;rw [hc]
   by_cases k:97<=c/\c<=122
   · obtain ⟨k1,k2⟩:=k
     have R2:=aA (R.out.trans (by rw [hs,decide_eq_true k1,decide_eq_true k2];rfl:_=s.data.toList.all bC));clear R hs h1;go_enter Tryz.func123,Tryz.ntmps123
     go_wp2_with fail
     go_loop [3] (fun i=>∃ k:Nat,k<=s.size/\i=.int .i64 k/\Hid (∀ j (hj:j<s.size),j<k->bC s[j]=true)) (fun i=>s.size-(intOf i).toNat)
     case atStart=>exact ⟨0,Nat.zero_le _,rfl,aA (fun j _ h=>by omega)⟩
     case round =>
      obtain ⟨k,hk,rfl,hok⟩:=hrel;by_cases hlt:k<s.size
      · obtain ⟨d,hd⟩:∃ c:Int,(s[k].toNat:Int)=c:=⟨_,rfl⟩
        have hb:bC s[k]=(decide (97<=d) && decide (d<=122) || decide (48<=d) && decide (d<=57)):=by unfold bC bJ aZ;rw [hd]
        have hcase:(97<=d/\d<=122)\/(48<=d/\d<=57)\/d<48\/(57<d/\d<97)\/122<d:=by omega
        rcases hcase with ⟨g1,g2⟩ | ⟨g1,g2⟩ | g1 | ⟨g1,g2⟩ | g1
        · have hok1:=aA (show ∀ j (hj:j<s.size),j<k+1->bC s[j]=true from fun j hj hjk=>by
           by_cases e:j=k
           · subst e;rw [hb,decide_eq_true g1,decide_eq_true g2];rfl
           · exact hok.out j hj (by omega))
          clear hb;go_wp2_with fail
          go_round
          case rel=>exact ⟨k+1,by omega,by go_num,hok1⟩
          case measure=>simp [intOf];omega
        · have hok1:=aA (show ∀ j (hj:j<s.size),j<k+1->bC s[j]=true from fun j hj hjk=>by
           by_cases e:j=k
           · subst e;rw [hb,decide_eq_true g1,decide_eq_true g2,Bool.and_self,Bool.or_true]
           · exact hok.out j hj (by omega))
          have g3:d<97:=by omega
          clear hb;go_wp2_with fail
          go_round
          case rel=>exact ⟨k+1,by omega,by go_num,hok1⟩
          case measure=>simp [intOf];omega
        · have R3:=aA (R2.out.trans (yA hlt (by rw [hb,decide_eq_false (by omega),decide_eq_false (p:=48<=d) (by omega)];rfl)))
          have g3:d<97:=by omega
          clear hb;go_wp2_with fail
          go_ret;exact ⟨eC (a:=false) R3.out.symm,rfl⟩
        · have R3:=aA (R2.out.trans (yA hlt (by rw [hb,decide_eq_false (by omega),decide_eq_false (p:=d<=57) (by omega)];simp)))
          have g3:48<=d:=by omega
          clear hb;go_wp2_with fail
          go_ret;exact ⟨eC (a:=false) R3.out.symm,rfl⟩
        · have R3:=aA (R2.out.trans (yA hlt (by rw [hb,decide_eq_false (p:=d<=122) (by omega),decide_eq_false (p:=d<=57) (by omega)];simp)))
          have g3:97<=d:=by omega
          have g4:48<=d:=by omega
          have g5:57<d:=by omega
          clear hb;go_wp2_with fail
          go_ret;exact ⟨eC (a:=false) R3.out.symm,rfl⟩
      · have R3:=aA (R2.out.trans (Dn fun j hj=>hok.out j hj (by omega)))
        go_wp2_with fail
        go_ret;exact ⟨eC (a:=true) R3.out.symm,rfl⟩
   · have hb:(decide (97<=c) && decide (c<=122))=false:=by
      rcases Int.lt_or_le c 97 with h | h
      · rw [decide_eq_false (by omega)];rfl
      · rw [decide_eq_true h,decide_eq_false (by omega)];rfl
     have R2:=aA (R.out.trans (by rw [hs,hb];rfl:_=false));clear hb R hs h1;have k':c<97\/(97<=c/\122<c):=by omega
     clear k;rcases k' with k | ⟨k,k'⟩
     · go_enter Tryz.func123,Tryz.ntmps123
       go_wp2_with fail
       go_ret;exact ⟨eC (a:=false) R2.out.symm,rfl⟩
     · go_enter Tryz.func123,Tryz.ntmps123
       go_wp2_with fail
       go_ret;exact ⟨eC (a:=false) R2.out.symm,rfl⟩
end
section
open Go.RowKit
theorem lF (c:UInt8) (w:World):Calls Tryz.prog 190 #[.int .u8 c.toNat] w fun e w'=>e=.returned (.bool (bJ c))/\w=w':=by
 obtain ⟨x,hx⟩:∃ x:Int,(c.toNat:Int)=x:=⟨_,rfl⟩;unfold bJ;rw [hx];by_cases h:97<=x
 · go_enter Tryz.func190,Tryz.ntmps190
   go_wp2
   go_ret;exact ⟨eC (a:=decide (x<=122)) (by rw [decide_eq_true h];rfl),rfl⟩
 · go_enter Tryz.func190,Tryz.ntmps190
   go_wp2
   go_ret;exact ⟨eC (a:=false) (by rw [decide_eq_false (by omega)];rfl),rfl⟩
theorem sM (c:UInt8) (w:World):Calls Tryz.prog 191 #[.int .u8 c.toNat] w fun e w'=>e=.returned (.bool (aZ c))/\w=w':=by
 obtain ⟨x,hx⟩:∃ x:Int,(c.toNat:Int)=x:=⟨_,rfl⟩;unfold aZ;rw [hx];by_cases h:48<=x
 · go_enter Tryz.func191,Tryz.ntmps191
   go_wp2
   go_ret;exact ⟨eC (a:=decide (x<=57)) (by rw [decide_eq_true h];rfl),rfl⟩
 · go_enter Tryz.func191,Tryz.ntmps191
   go_wp2
   go_ret;exact ⟨eC (a:=false) (by rw [decide_eq_false (by omega)];rfl),rfl⟩
theorem vE (s:ByteArray) (hm:s.size<=281474976710656) (w:World):Calls Tryz.prog 168 #[.string s] w fun e w'=>e=.returned (.bool (eM s.data.toList))/\w=w':=by
 have hne:1<=s.size->(s.toList == [])=false:=fun h=>by
  rw [beq_eq_false_iff_ne,Lib.toList_data];intro e;have hl:s.data.toList.length=s.size:=by simp
  rw [e] at hl;simp at hl;omega
 by_cases h1:s.size<1
 · have R:=aA (xR (.inl h1))
   obtain rfl:s=⟨#[]⟩:=(by simpa using h1:s=ByteArray.empty);clear hne h1 hm;go_enter Tryz.func168,Tryz.ntmps168
   go_wp2_with fail
   go_ret;exact ⟨eC (a:=false) R.out.symm,rfl⟩
 have h2:1<=s.size:=by omega
 have he:=hne h2;clear hne h1;by_cases h8:8<s.size
 · have R:=aA (xR (.inr h8))
   go_enter Tryz.func168,Tryz.ntmps168
   go_wp2_with fail
   go_ret;exact ⟨eC (a:=false) R.out.symm,rfl⟩
 have h3:s.size<=8:=by omega
 have R:=aA (Dg h2 h3);have hs0:0<s.size:=by omega
 cases hc:bJ s[0] with
 | false =>
   have R2:=aA (R.out.trans (by rw [hc];rfl:_=false));have C:=aA (p:=∀ w,Calls Tryz.prog 190 #[.int .u8 s[0].toNat] w fun e w'=>e=.returned (.bool false)/\w=w') (fun w=>by have:=lF s[0] w;rwa [hc] at this);clear R hc h3;go_enter Tryz.func168,Tryz.ntmps168
   go_wp2_with (go_at_call 190;refine (C.out _).mono ?_;rintro e w' ⟨rfl,rfl⟩)
   go_ret;exact ⟨eC (a:=false) R2.out.symm,rfl⟩
 | true =>
   have R2:=aA (R.out.trans (by rw [hc];rfl:_=s.data.toList.all bC));have C:=aA (p:=∀ w,Calls Tryz.prog 190 #[.int .u8 s[0].toNat] w fun e w'=>e=.returned (.bool true)/\w=w') (fun w=>by have:=lF s[0] w;rwa [hc] at this);have h0:=aA (show bC s[0]=true by unfold bC;rw [hc];rfl);clear R hc;go_enter Tryz.func168,Tryz.ntmps168
   go_wp2_with (go_at_call 190;refine (C.out _).mono ?_;rintro e w' ⟨rfl,rfl⟩)
   go_loop [3] (fun i=>∃ k:Nat,1<=k/\k<=s.size/\i=.int .i64 k/\Hid (∀ j (hj:j<s.size),j<k->bC s[j]=true)) (fun i=>s.size-(intOf i).toNat)
   case atStart=>exact ⟨1,Nat.le_refl _,h2,rfl,aA (fun j _ h=>by
    obtain rfl:j=0:=(by omega);exact h0.out)⟩
   case round =>
    obtain ⟨k,hk1,hk,rfl,hok⟩:=hrel;by_cases hlt:k<s.size
    · cases ha:bJ s[k] with
      | true =>
        have hok1:=aA (show ∀ j (hj:j<s.size),j<k+1->bC s[j]=true from fun j hj hjk=>by
         by_cases e:j=k
         · subst e;unfold bC;rw [ha];rfl
         · exact hok.out j hj (by omega))
        have D:=aA (p:=∀ w,Calls Tryz.prog 190 #[.int .u8 s[k].toNat] w fun e w'=>e=.returned (.bool true)/\w=w') (fun w=>by have:=lF s[k] w;rwa [ha] at this);clear ha C;go_wp2_with (go_at_call 190;refine (D.out _).mono ?_;rintro e w' ⟨rfl,rfl⟩)
        go_round
        case rel=>exact ⟨k+1,by omega,by omega,by go_num,hok1⟩
        case measure=>simp [intOf];omega
      | false =>
        have D:=aA (p:=∀ w,Calls Tryz.prog 190 #[.int .u8 s[k].toNat] w fun e w'=>e=.returned (.bool false)/\w=w') (fun w=>by have:=lF s[k] w;rwa [ha] at this);cases hd:aZ s[k] with
        | true =>
          have hok1:=aA (show ∀ j (hj:j<s.size),j<k+1->bC s[j]=true from fun j hj hjk=>by
           by_cases e:j=k
           · subst e;unfold bC;rw [ha,hd];rfl
           · exact hok.out j hj (by omega))
          have E:=aA (p:=∀ w,Calls Tryz.prog 191 #[.int .u8 s[k].toNat] w fun e w'=>e=.returned (.bool true)/\w=w') (fun w=>by have:=sM s[k] w;rwa [hd] at this);clear ha hd C;go_wp2_with (first | (go_at_call 190;refine (D.out _).mono ?_;rintro e w' ⟨rfl,rfl⟩) | (go_at_call 191;refine (E.out _).mono ?_;rintro e w' ⟨rfl,rfl⟩))
          go_round
          case rel=>exact ⟨k+1,by omega,by omega,by go_num,hok1⟩
          case measure=>simp [intOf];omega
        | false =>
          have E:=aA (p:=∀ w,Calls Tryz.prog 191 #[.int .u8 s[k].toNat] w fun e w'=>e=.returned (.bool false)/\w=w') (fun w=>by have:=sM s[k] w;rwa [hd] at this);have R3:=aA (R2.out.trans (yA hlt (by unfold bC;rw [ha,hd];rfl)));clear ha hd C;go_wp2_with (first | (go_at_call 190;refine (D.out _).mono ?_;rintro e w' ⟨rfl,rfl⟩) | (go_at_call 191;refine (E.out _).mono ?_;rintro e w' ⟨rfl,rfl⟩))
          go_ret;exact ⟨eC (a:=false) R3.out.symm,rfl⟩
    · have R3:=aA (R2.out.trans (Dn fun j hj=>hok.out j hj (by omega)))
      go_wp2_with fail
      go_ret;exact ⟨eC (a:=true) R3.out.symm,rfl⟩
end
end
section
section
open Go.RowKit
theorem Gy {n:Int} (h:0<=n):Lib.itoa n=Lib.decDigits n.toNat:=by unfold Lib.itoa;rw [if_neg (by omega)]
def DV (c:UInt8):Prop:=c=40\/c=41\/c=43\/c=45\/c=42\/c=47\/c=37
def yS (o m:ByteArray) (n:Int) (ts:List (List (Int×List UInt8×Int))):List (Int×List UInt8×Int) :=
 if bY o=true then [(2,Lib.itoa n,n)] else if bN o=true then [(1,m.data.toList,0)]
 else if fP o=true then (3,[45],0)::ts.headD [] else (3,[40],0)::(ts.headD []++(3,o.data.toList,0)::(ts.tail.headD []++[(3,[41],0)]))
def FC:F->List (List (Int×List UInt8×Int))
 | .nil=>[]
 | .cons o m n ks r=>yS o m n (FC ks)::FC r
def wU (t:TN):List (Int×List UInt8×Int):=yS t.op t.nm t.n (FC t.ks)
theorem Bo {o m:ByteArray} {n:Int} {ks:F} (h:iW o m n ks.len=0) :
 (bY o=true/\ks=.nil/\0<=n)\/(bY o=false/\bN o=true/\ks=.nil/\eM m.data.toList=true) \/
 (bY o=false/\bN o=false/\fP o=true/\∃ a:TN,ks=a.f) \/
 (bY o=false/\bN o=false/\fP o=false/\k8 o=true/\∃ a b:TN,ks=.cons a.op a.nm a.n a.ks b.f):=by
 unfold iW at h;split at h
 · cases h
 · rename_i h1
   split at h
   · cases h
   · rename_i h2
     split at h
     · cases h
     · rename_i h3
       have ha:bI o=(ks.len:Int):=by simpa using h1
       unfold bI at ha;cases e1:bY o with
       | true =>
         rw [e1,Bool.true_or,if_pos rfl] at ha;rw [e1] at h3;refine .inl ⟨rfl,?_,by simpa using h3⟩;cases ks with
         | nil=>rfl
         | cons _ _ _ _ _=>rw [F.len] at ha;omega
       | false =>
         cases e2:bN o with
         | true =>
           rw [e1,e2,Bool.or_true,if_pos rfl] at ha;rw [e2] at h2;refine .inr (.inl ⟨rfl,rfl,?_,by simpa using h2⟩);cases ks with
           | nil=>rfl
           | cons _ _ _ _ _=>rw [F.len] at ha;omega
         | false =>
           rw [e1,e2,Bool.or_false,if_neg (by decide)] at ha;cases e3:fP o with
           | true =>
             rw [e3,if_pos rfl] at ha;refine .inr (.inr (.inl ⟨rfl,rfl,rfl,?_⟩));cases ks with
             | nil=>rw [F.len] at ha;omega
             | cons o' m' n' k' r' =>
               cases r' with
               | nil=>exact ⟨⟨o',m',n',k'⟩,rfl⟩
               | cons _ _ _ _ _=>rw [F.len,F.len] at ha;omega
           | false =>
             rw [e3,if_neg (by decide)] at ha;cases e4:k8 o with
             | true =>
               rw [e4,if_pos rfl] at ha;refine .inr (.inr (.inr ⟨rfl,rfl,rfl,rfl,?_⟩));cases ks with
               | nil=>rw [F.len] at ha;omega
               | cons o' m' n' k' r' =>
                 cases r' with
                 | nil=>rw [F.len,F.len] at ha;omega
                 | cons o2 m2 n2 k2 r2 =>
                   cases r2 with
                   | nil=>exact ⟨⟨o',m',n',k'⟩,⟨o2,m2,n2,k2⟩,rfl⟩
                   | cons _ _ _ _ _=>rw [F.len,F.len,F.len] at ha;omega
             | false =>
               rw [e4,if_neg (by decide)] at ha;omega
theorem yP {o:ByteArray} (h:k8 o=true):rE o.data.toList/\∃ c,o.data.toList=[c]/\DV c:=by
 unfold k8 at h;simp only [Bool.or_eq_true,beq_iff_eq] at h;rcases h with (((h | h) | h) | h) | h
 · exact ⟨.inl h,43,h,.inr (.inr (.inl rfl))⟩
 · exact ⟨.inr (.inl h),45,h,.inr (.inr (.inr (.inl rfl)))⟩
 · exact ⟨.inr (.inr (.inl h)),42,h,.inr (.inr (.inr (.inr (.inl rfl))))⟩
 · exact ⟨.inr (.inr (.inr (.inl h))),47,h,.inr (.inr (.inr (.inr (.inr (.inl rfl)))))⟩
 · exact ⟨.inr (.inr (.inr (.inr h))),37,h,.inr (.inr (.inr (.inr (.inr (.inr rfl)))))⟩
def eV:F->Prop
 | .nil=>True
 | .cons _ _ n ks r=>n<=9223372036854775807/\eV ks/\eV r
def eO (P:TN->Prop):F->Prop
 | .nil=>True
 | .cons o m n ks r=>P ⟨o,m,n,ks⟩/\eO P r
theorem mI {P:TN->Prop} (hnum:∀ o m n,bY o=true->0<=n->n<=9223372036854775807->P ⟨o,m,n,.nil⟩)
 (hname:∀ o m n,bY o=false->bN o=true->eM m.data.toList=true->P ⟨o,m,n,.nil⟩)
 (hneg:∀ o m n (a:TN),bY o=false->bN o=false->fP o=true->P a->P ⟨o,m,n,a.f⟩)
 (htwo:∀ o m n (a b:TN),bY o=false->bN o=false->fP o=false->k8 o=true->P a->P b->P ⟨o,m,n,.cons a.op a.nm a.n a.ks b.f⟩) :
 ∀ f:F,bD f=0->eV f->eO P f
 | .nil,_,_=>trivial
 | .cons o m n ks r, h, hn => by
   rw [bD] at h;by_cases h1:iW o m n ks.len=0
   · rw [if_pos h1] at h
     by_cases h2:bD ks=0
     · rw [if_pos h2] at h
       have ik:=mI hnum hname hneg htwo ks h2 hn.2.1;refine ⟨?_,mI hnum hname hneg htwo r h hn.2.2⟩;rcases Bo h1 with ⟨a,rfl,b⟩ | ⟨a,b,rfl,c⟩ | ⟨a,b,c,k,rfl⟩ | ⟨a,b,c,d,k,l,rfl⟩
       · exact hnum o m n a b hn.1
       · exact hname o m n a b c
       · exact hneg o m n k a b c ik.1
       · exact htwo o m n k l a b c d ik.1 ik.2.1
     · rw [if_neg h2] at h;exact absurd h h2
   · rw [if_neg h1] at h;exact absurd h h1
theorem lH {P:TN->Prop} (hnum:∀ o m n,bY o=true->0<=n->n<=9223372036854775807->P ⟨o,m,n,.nil⟩)
 (hname:∀ o m n,bY o=false->bN o=true->eM m.data.toList=true->P ⟨o,m,n,.nil⟩)
 (hneg:∀ o m n (a:TN),bY o=false->bN o=false->fP o=true->P a->P ⟨o,m,n,a.f⟩)
 (htwo:∀ o m n (a b:TN),bY o=false->bN o=false->fP o=false->k8 o=true->P a->P b->P ⟨o,m,n,.cons a.op a.nm a.n a.ks b.f⟩)
 (t:TN) (h:OkT t) (hn:eV t.f):P t:=(mI hnum hname hneg htwo t.f h hn).1
theorem yU {o m:ByteArray} {n:Int} {ks:F} (h:bY o=true):bU ⟨o,m,n,ks⟩=Lib.itoa n/\wU ⟨o,m,n,ks⟩=[(2,Lib.itoa n,n)]:=by
 unfold bU wU yO yS;rw [if_pos h,if_pos h];exact ⟨rfl,rfl⟩
theorem vF {o m:ByteArray} {n:Int} {ks:F} (h:bY o=false) (h2:bN o=true):bU ⟨o,m,n,ks⟩=m.data.toList/\wU ⟨o,m,n,ks⟩=[(1,m.data.toList,0)]:=by
 unfold bU wU yO yS;simp only;rw [if_neg (by rw [h];decide),if_pos h2,if_neg (by rw [h];decide),if_pos h2];exact ⟨rfl,rfl⟩
theorem sS {o m:ByteArray} {n:Int} (a:TN) (h:bY o=false) (h2:bN o=false) (h3:fP o=true):bU ⟨o,m,n,a.f⟩=45::bU a/\wU ⟨o,m,n,a.f⟩=(3,[45],0)::wU a:=by
 show yO o m n (Fx a.f)=_/\yS o m n (FC a.f)=_;rw [yO,yS,if_neg (by rw [h];decide),if_neg (by rw [h2];decide),if_pos h3,if_neg (by rw [h];decide),if_neg (by rw [h2];decide),if_pos h3];exact ⟨rfl,rfl⟩
theorem sR {o m:ByteArray} {n:Int} (a b:TN) (h:bY o=false) (h2:bN o=false) (h3:fP o=false) :
 bU ⟨o,m,n,.cons a.op a.nm a.n a.ks b.f⟩=40::(bU a++32::(o.data.toList++32::(bU b++[41]))) /\
 wU ⟨o,m,n,.cons a.op a.nm a.n a.ks b.f⟩=(3,[40],0)::(wU a++(3,o.data.toList,0)::(wU b++[(3,[41],0)])):=by
 show yO o m n (Fx (.cons a.op a.nm a.n a.ks b.f))=_/\yS o m n (FC (.cons a.op a.nm a.n a.ks b.f))=_;rw [yO,yS,if_neg (by rw [h];decide),if_neg (by rw [h2];decide),if_neg (by rw [h3];decide),if_neg (by rw [h];decide),if_neg (by rw [h2];decide),if_neg (by rw [h3];decide)];exact ⟨rfl,rfl⟩
theorem Kb {o:ByteArray} (h:bY o=true):o=⟨#[110,117,109]⟩:=by
 unfold bY l5 at h;exact gW (by rw [beq_iff_eq.1 h])
end
section
open Go.RowKit
theorem Gx {n:Int} (h0:0<=n) (h1:n<=9223372036854775807):(Lib.itoa n).length<=19:=by
 rw [Gy h0];exact qE 18 _ (by omega)
theorem tT {x:List UInt8} (h:eM x=true):x.length<=8:=by
 cases x with
 | nil=>simp
 | cons c r =>
   rw [nW] at h;simp only [Bool.and_eq_true,decide_eq_true_eq] at h;have:=h.1.2;simp;omega
theorem yV (t:TN) (h:OkT t) (hn:eV t.f):(bU t).length<=19*aT t:=by
 refine lH (P:=fun t=>(bU t).length<=19*aT t) ?_ ?_ ?_ ?_ t h hn
 · intro o m n h1 h2 h3
   rw [(yU h1).1];have:=Gx h2 h3;have hs:aT ⟨o,m,n,.nil⟩=1:=rfl;omega
 · intro o m n h1 h2 h3
   rw [(vF h1 h2).1];have:=tT h3;have hs:aT ⟨o,m,n,.nil⟩=1:=rfl;omega
 · intro o m n a h1 h2 h3 ih
   rw [(sS a h1 h2 h3).1];have hs:aT ⟨o,m,n,a.f⟩=1+aT a:=by unfold aT;rw [show (⟨o,m,n,a.f⟩:TN).ks=a.f from rfl,jE];rfl
   rw [hs,List.length_cons];omega
 · intro o m n a b h1 h2 h3 h4 ia ib
   rw [(sR a b h1 h2 h3).1];obtain ⟨_,c,hc,_⟩:=yP h4;have hs:aT ⟨o,m,n,.cons a.op a.nm a.n a.ks b.f⟩=1+aT a+aT b:=by unfold aT;simp only;rw [cG,jE];unfold aT;omega
   rw [hs,hc];simp only [List.length_cons,List.length_append,List.length_nil];omega
end
section
open Go.RowKit
theorem DJ {L:List Tk} {p o n:Nat} {sg:List (List UInt8×Nat)} {dn:List TN} (hp:p<=L.length):eQ L true ⟨p,o,n,sg,dn⟩ =
 if isS L [40] p=true then eQ L true ⟨p+1,o+1,n,sg,dn⟩
 else if isS L [45] p=true then (if n=32 then .bad p 4 else eQ L true ⟨p+1,o,n+1,(iI,3+o*3)::sg,dn⟩)
 else if (eJ L p).kind=2/\0<=(eJ L p).num then (if n=32 then .bad p 4 else eQ L false ⟨p+1,o,n+1,sg,mR (eJ L p).num::dn⟩)
 else if (eJ L p).kind=1/\eM (eJ L p).text=true then (if n=32 then .bad p 4 else eQ L false ⟨p+1,o,n+1,sg,dO (eJ L p).text::dn⟩)
 else .bad p 2:=by
 have h:=zJ (L:=L) (s:=⟨p,o,n,sg,dn⟩) hp;simp only at h;rw [h];unfold eJ;cases e:L[p]? with
 | none =>
   have hz:¬ (zTk.kind=2/\0<=zTk.num):=by decide
   have hz1:¬ (zTk.kind=1/\eM zTk.text=true):=by decide
   simp only [if_neg hz,if_neg hz1]
 | some t=>rfl
def Cu (ts:List Tk) (rb:Nat) (a:Option Addr) (c p0:Nat) (r0:rB) (w0:World) (e:Ending) (w':World):Prop :=
 cF rb w0 w'/\∃ (er:Int) (p o n:Nat) (sg:List (List UInt8×Nat)) (dn:List TN) (sv dv:Value) (q:List (Option Addr×Nat)),e=.returned (.int .i64 er)/\RG ts rb a c p o n sg dn sv dv q w' /\
  ((er=0/\r0=eQ ts false ⟨p,o,n,sg,dn⟩/\mZ sg/\dn.length=iX sg+1/\p0<p/\o<=p)\/(er ≠ 0/\r0=.bad p er))
theorem BP {ts:List Tk} (hL:∀ t∈ts,cK t) (p:Nat):eJ ts p=zTk\/cK (eJ ts p)/\p<ts.length:=by
 by_cases h:p<ts.length
 · right;rw [sO h];exact ⟨hL _ (List.getElem_mem h),h⟩
 · left;exact sP (Nat.le_of_not_lt h)
theorem B9 (ts:List Tk) (hL:∀ t∈ts,cK t) (rb:Nat) (a:Option Addr) (c p0 o0 n0:Nat) (sg0:List (List UInt8×Nat)) (dn:List TN) (sv0 dv:Value) (q:List (Option Addr×Nat)) (w:World) (H:RG ts rb a c p0 o0 n0 sg0 dn sv0 dv q w) (hs:mZ sg0) (hd:dn.length=iX sg0) (ho:o0<=p0) :
 Calls Tryz.prog 210 #[.pointer (some ⟨rb,0,none⟩)] w (Cu ts rb a c p0 (eQ ts true ⟨p0,o0,n0,sg0,dn⟩) w):=by
 obtain ⟨r0,hr0⟩:∃ r,eQ ts true ⟨p0,o0,n0,sg0,dn⟩=r:=⟨_,rfl⟩;rw [hr0];have K0:=aA (cF.refl rb w);have HR:=aA H;have HS:=aA hs;have HD:=aA hd;have HE:=aA hr0;have HL:=aA hL;have hn:ts.length<=100000:=H.g.hl;have hp0:=H.g.hp;clear hs hd hr0 H hL;go_enter Tryz.func210,Tryz.ntmps210
 go_wp2_with fail
 go_loopg [] ts.length (fun g wr=>∃ (p o n:Nat) (sg:List (List UInt8×Nat)) (sv:Value),p0<=p/\o<=p/\p<=ts.length/\ts.length-p<=g/\Hid (RG ts rb a c p o n sg dn sv dv q wr)/\Hid (mZ sg)/\Hid (dn.length=iX sg)/\Hid (eQ ts true ⟨p,o,n,sg,dn⟩=r0)/\Hid (cF rb w wr))
 case atStart=>exact ⟨p0,o0,n0,sg0,sv0,Nat.le_refl _,ho,hp0,Nat.sub_le _ _,HR,HS,HD,HE,K0⟩
 case round =>
  obtain ⟨p,o,n,sg,sv,hp,hop,hpl,hg,hR,hS,hD,hE,hK⟩:=hrel;have CN:=aA (pZ ts rb a c p o n sv dv wr hR.out.g);have RF:=aA (hE.out.symm.trans (DJ (o:=o) (n:=n) (sg:=sg) (dn:=dn) hpl));have hgt:=aA (BP HL.out p);have D:=aA (fun x w=>De ts x p w);obtain ⟨tk,htk⟩:∃ t,eJ ts p=t:=⟨_,rfl⟩
  have LT:Hid (¬ tk=zTk->p<ts.length):=aA (fun hne=>by
   rcases hgt.out with h1 | h1
   · exact absurd (htk.symm.trans h1) hne
   · exact h1.2)
  rw [htk] at CN RF hgt D;have HTK:=aA htk;clear htk;obtain ⟨X,hX⟩:∃ X:ByteArray,⟨tk.text.toArray⟩=X:=⟨_,rfl⟩;have hag:tkG tk=.agg #[.int .i64 tk.kind,.string X,.int .i64 tk.num,.int .i64 tk.place]:=by rw [<- hX];rfl
  rw [hag] at CN D;have HX:=aA hX;clear hag hX;have hob:o<=100000:=by omega
  go_wp2_with fail
  refine CN.out.mono ?_;rintro e w1 ⟨rfl,hb1⟩;have hrw:=hR.out.lt;have hsz:=hb1.size;have R1:=hR.out.below hb1;have K1:=hK.out.trans (cF.below hb1);have BA:=(Below.refl w1.heap.size w1).alloc (Nat.le_refl _) (.cells #[.int .i64 tk.kind,.string X,.int .i64 tk.num,.int .i64 tk.place] 158);have NA:=heap_alloc_new w1 (.cells #[.int .i64 tk.kind,.string X,.int .i64 tk.num,.int .i64 tk.place] 158);have R2:=R1.below BA;have K2:=K1.trans (cF.below BA);obtain ⟨tb,htb⟩:∃ b,w1.heap.size=b:=⟨_,rfl⟩;go_upto_region 3 with fail
  generalize hW:w1.alloc (.cells #[.int .i64 tk.kind,.string X,.int .i64 tk.num,.int .i64 tk.place] 158)=W at R2 K2 NA;try rw [hW]
  rw [htb] at NA;try rw [htb]
  have HR2:=aA R2;have HK2:=aA K2;have HNA:=aA NA;obtain ⟨⟨x0,x1,x2,x3⟩, -⟩:=aK NA;clear hb1 R1 K1 BA R2 K2 NA hW htb CN;go_wp2_with fail
  refine (D.out ⟨#[40]⟩ W).mono ?_;rintro e w2 ⟨rfl,hb2⟩;have hE40:isS ts (⟨#[40]⟩:ByteArray).data.toList p=isS ts [40] p:=rfl;rw [hE40];have R3:=HR2.out.below hb2;have K3:=HK2.out.trans (cF.below hb2);have N3:=(hb2.block _ (Array.getElem?_eq_some_iff.1 HNA.out).1).trans HNA.out;have HR3:=aA R3;have HK3:=aA K3;have HN3:=aA N3;clear x0 x1 x2 x3 hb2 hE40 R3 K3 N3 HR2 HK2 HNA;by_cases h40:isS ts [40] p=true
  · have hlt:=fM h40
    have E2:=aA (show eQ ts true ⟨p+1,o+1,n,sg,dn⟩=r0 by have:=RF.out;rw [if_pos h40] at this;exact this.symm);obtain ⟨⟨c0,c1,c2,c3,c4,c5⟩,f1,f2,f3,f4,f5⟩:=HR3.out.g.r.cells;have H1:=HR3.out.set (p':=p) (o':=o+1) (n':=n) (y:=2) (v:=.int .i64 ((o:Int)+1)) hpl (by omega) HR3.out.g.hn (Nat.le_refl _) rfl;have H2:=aA (H1.set (p':=p+1) (o':=o+1) (n':=n) (y:=1) (v:=.int .i64 ((p:Int)+1)) (by omega) (by omega) HR3.out.g.hn (Nat.le_refl _) rfl);have K4:=aA ((HK3.out.set 2 (.int .i64 ((o:Int)+1))).set 1 (.int .i64 ((p:Int)+1)));rw [h40];clear H1 h40 D RF;go_wp2_with fail
    go_roundg (ts.length-(p+1))
    case measure=>omega
    case rel=>exact ⟨p+1,o+1,n,sg,sv,by omega,by omega,by omega,Nat.le_refl _,H2,hS,hD,E2,K4⟩
  · rw [if_neg h40] at RF
    have h40':isS ts [40] p=false:=by simpa using h40
    rw [h40'];have H40:=aA h40';obtain ⟨⟨x0,x1,x2,x3⟩, -⟩:=aK HN3.out;clear h40 h40';go_wp2_with fail
    refine (D.out ⟨#[45]⟩ w2).mono ?_;rintro e w3 ⟨rfl,hb3⟩;have HR4:=aA (HR3.out.below hb3);have HK4:=aA (HK3.out.trans (cF.below hb3));have HN4:=aA ((hb3.block _ (Array.getElem?_eq_some_iff.1 HN3.out).1).trans HN3.out);clear x0 x1 x2 x3 hb3 HR3 HK3 HN3 D;obtain ⟨⟨x0,x1,x2,x3⟩, -⟩:=aK HN4.out;obtain ⟨⟨c0,c1,c2,c3,c4,c5⟩,f1,f2,f3,f4,f5⟩:=HR4.out.g.r.cells;by_cases h45:isS ts [45] p=true
    · have hlt:=fM h45
      have CW:=yJ ts rb a c p o n sg dn sv dv q (iI,3+o*3) w3 HR4.out hlt;rw [show (((iI,3+o*3):List UInt8×Nat).2:Int)=3+(o:Int)*3 by simp] at CW;have HCW:=aA CW;rw [if_pos h45] at RF;rw [h45];clear h45 CW;by_cases h32:n=32
      · rw [if_pos h32] at RF
        have G32:=aA h32;clear h32;go_wp2_with fail
        refine HCW.out.mono ?_;rintro e w4 ⟨k4,hA, -⟩;obtain ⟨rfl,r4⟩:=hA G32.out;have P:=aA (show Cu ts rb a c p0 r0 w (.returned (.int .i64 4)) w4 from ⟨HK4.out.trans k4,4,p,o,n,sg,dn,sv,dv,q,rfl,r4,.inr ⟨by decide,RF.out⟩⟩);clear c0 c1 c2 c3 c4 c5 f1 f2 f3 f4 f5 x0 x1 x2 x3;go_wp2_with fail
        go_ret;exact P.out
      · rw [if_neg h32] at RF
        have G32:=aA h32;clear h32;go_wp2_with fail
        refine HCW.out.mono ?_;rintro e w4 ⟨k4, -,hB⟩;obtain ⟨rfl,sv',r4⟩:=hB G32.out;have R5:=aA r4;have K5:=aA (HK4.out.trans k4);have S5:=aA (show mZ ((iI,3+o*3)::sg) from fun x hx=>(List.mem_cons.1 hx).elim (fun e=>.inl (by rw [e])) (hS.out x));have D5:=aA (show dn.length=iX ((iI,3+o*3)::sg) by rw [iX,if_pos rfl];exact hD.out);have E5:=aA RF.out.symm;clear c0 c1 c2 c3 c4 c5 f1 f2 f3 f4 f5 x0 x1 x2 x3 hB;go_wp2_with fail
        go_roundg (ts.length-(p+1))
        case measure=>omega
        case rel=>exact ⟨p+1,o,n+1,_,sv',by omega,by omega,by omega,Nat.le_refl _,R5,S5,D5,E5,K5⟩
    · rw [if_neg h45] at RF
      have h45':isS ts [45] p=false:=by simpa using h45
      rw [h45'];clear h45 h45' H40;by_cases hk2:tk.kind=2
      · obtain ⟨hm,hlt⟩:0<=tk.num/\p<ts.length:=by
         rcases hgt.out with h1 | ⟨h1,h2⟩
         · rw [h1] at hk2;exact absurd hk2 (by decide)
         · rcases h1 with ⟨h3,_⟩ | ⟨_,h3,_⟩ | h3
           · rw [h3] at hk2;exact absurd hk2 (by decide)
           · exact ⟨h3,h2⟩
           · rw [h3] at hk2;exact absurd hk2 (by decide)
        rw [if_pos ⟨hk2,hm⟩] at RF;have CL:=aA (Ai ts rb a c p o n sg dn sv dv q (mR tk.num) rfl w3 HR4.out hlt);have b1:(tk.kind == 2)=true:=by rw [hk2];rfl
        have HK:=aA hk2;clear hk2;by_cases h32:n=32
        · rw [if_pos h32] at RF
          have G32:=aA h32;clear h32;go_wp2_with fail
          refine CL.out.mono ?_;rintro e w4 ⟨k4,hA, -⟩;obtain ⟨rfl,r4⟩:=hA G32.out;have P:=aA (show Cu ts rb a c p0 r0 w (.returned (.int .i64 4)) w4 from ⟨HK4.out.trans k4,4,p,o,n,sg,dn,sv,dv,q,rfl,r4,.inr ⟨by decide,RF.out⟩⟩);clear c0 c1 c2 c3 c4 c5 f1 f2 f3 f4 f5 x0 x1 x2 x3;go_wp2_with fail
          go_ret;exact P.out
        · rw [if_neg h32] at RF
          have G32:=aA h32;clear h32;go_wp2_with fail
          refine CL.out.mono ?_;rintro e w4 ⟨k4, -,hB⟩;obtain ⟨rfl,dv',q',r4⟩:=hB G32.out;have P:=aA (show Cu ts rb a c p0 r0 w (.returned (.int .i64 0)) w4 from ⟨HK4.out.trans k4,0,p+1,o,n+1,sg,_,sv,dv',q',rfl,r4,.inl ⟨rfl,RF.out,hS.out,by rw [List.length_cons,hD.out],by omega,by omega⟩⟩);clear c0 c1 c2 c3 c4 c5 f1 f2 f3 f4 f5 x0 x1 x2 x3 hB;go_wp2_with fail
          go_ret;exact P.out
      · rw [if_neg (fun h=>hk2 h.1)] at RF
        have b1:(tk.kind == 2)=false:=by simpa using hk2
        by_cases hk1:tk.kind=1
        · obtain ⟨hm,hlt⟩:eM tk.text=true/\p<ts.length:=by
           rcases hgt.out with h1 | ⟨h1,h2⟩
           · rw [h1] at hk1;exact absurd hk1 (by decide)
           · rcases h1 with ⟨_,h3⟩ | ⟨h3,_⟩ | h3
             · exact ⟨h3,h2⟩
             · rw [h3] at hk1;exact absurd hk1 (by decide)
             · rw [h3] at hk1;exact absurd hk1 (by decide)
          rw [if_pos ⟨hk1,hm⟩] at RF;have b2:(tk.kind == 1)=true:=by rw [hk1];rfl
          have CL:=fun w4 (h:RG ts rb a c p o n sg dn sv dv q w4)=>Ai ts rb a c p o n sg dn sv dv q (dO tk.text) rfl w4 h hlt
          have CX:(dO tk.text).nm=X:=HX.out;rw [CX] at CL;have HCL:=aA CL;have NM:=aA (fun w=>vE X (by rw [<- HX.out];have:=tT hm;show tk.text.toArray.size<=_;rw [List.size_toArray];omega) w);have NM2:eM X.data.toList=true:=by rw [<- HX.out];simpa using hm
          rw [NM2] at NM;clear hk1 hk2 CL CX NM2 hm;have PB:=aA (p:=∀ w4,cF rb w3 w4->RG ts rb a c p o n sg dn sv dv q w4->n=32->Cu ts rb a c p0 r0 w (.returned (.int .i64 4)) w4) (fun w4 k4 r4 h32=>⟨HK4.out.trans k4,4,p,o,n,sg,dn,sv,dv,q,rfl,r4,.inr ⟨by decide,by rw [RF.out,if_pos h32]⟩⟩);have PG:=aA (p:=∀ w4 dv' q',cF rb w3 w4->¬ n=32->RG ts rb a c (p+1) o (n+1) sg (dO tk.text::dn) sv dv' q' w4->Cu ts rb a c p0 r0 w (.returned (.int .i64 0)) w4) (fun w4 dv' q' k4 h32 r4=>⟨HK4.out.trans k4,0,p+1,o,n+1,sg,_,sv,dv',q',rfl,r4,.inl ⟨rfl,by rw [RF.out,if_neg h32],hS.out,by rw [List.length_cons,hD.out],by omega,by omega⟩⟩);go_wp2_with fail
          refine (NM.out _).mono ?_;rintro e w4 ⟨rfl,rfl⟩;go_wp2_with fail
          refine (HCL.out _ HR4.out).mono ?_;rintro e w4 ⟨k4,hA,hB⟩;by_cases h32:n=32
          · obtain ⟨rfl,r4⟩:=hA h32
            have P:=aA (PB.out w4 k4 r4 h32);clear c0 c1 c2 c3 c4 c5 f1 f2 f3 f4 f5 x0 x1 x2 x3 hA hB h32;go_wp2_with fail
            go_ret;exact P.out
          · obtain ⟨rfl,dv',q',r4⟩:=hB h32
            have P:=aA (PG.out w4 dv' q' k4 h32 r4);clear c0 c1 c2 c3 c4 c5 f1 f2 f3 f4 f5 x0 x1 x2 x3 hA hB h32;go_wp2_with fail
            go_ret;exact P.out
        · rw [if_neg (fun h=>hk1 h.1)] at RF
          have b2:(tk.kind == 1)=false:=by simpa using hk1
          have P:=aA (show Cu ts rb a c p0 r0 w (.returned (.int .i64 2)) w3 from ⟨HK4.out,2,p,o,n,sg,dn,sv,dv,q,rfl,HR4.out,.inr ⟨by decide,RF.out⟩⟩);clear hk1 hk2;go_wp2_with fail
          go_ret;exact P.out
end
section
open Go.RowKit
def Jy (ts:List Tk) (rb:Nat) (a:Option Addr) (c:Nat) (r0:rB) (w0:World) (e:Ending) (w':World):Prop :=
 cF rb w0 w'/\∃ (er:Int) (p o n:Nat) (sg:List (List UInt8×Nat)) (dn:List TN) (sv dv:Value) (q:List (Option Addr×Nat)),e=.returned (.int .i64 er)/\RG ts rb a c p o n sg dn sv dv q w' /\
  ((er=0/\r0=.ok ⟨p,o,n,sg,dn⟩/\mZ sg/\dn.length=iX sg+1)\/(er ≠ 0/\r0=.bad p er))
theorem Js (ts:List Tk) (p:Nat) (w:World):Calls Tryz.prog 212 #[tkG (eJ ts p)] w fun e w'=>e=.returned (.int .i64 (cT ts p:Nat))/\Below w.heap.size w w':=by
 have h:=AK (eJ ts p).kind ⟨(eJ ts p).text.toArray⟩ (eJ ts p).num (eJ ts p).place w;have e:qI (eJ ts p).kind (⟨(eJ ts p).text.toArray⟩:ByteArray).data.toList=cT ts p:=FE ts p;rw [e] at h;exact h
theorem BI {ts:List Tk} {p:Nat} (h:¬ cT ts p=0):rE (dQ ts p)/\p<ts.length/\cT ts p<=2:=by
 unfold cT at h |-
 by_cases hA:isA ts p=true
 · rw [if_pos hA];exact ⟨opA hA,mU hA,by omega⟩
 · rw [if_neg hA] at h |-
   by_cases hM:isM ts p=true
   · rw [if_pos hM];exact ⟨opM hM,mT hM,by omega⟩
   · rw [if_neg hM] at h;exact absurd rfl h
theorem B8 (k m pl:Int) (X:ByteArray) (w:World):(Instr.field 158 (.agg #[.int .i64 k,.string X,.int .i64 m,.int .i64 pl]) 1).run Tryz.prog w=.ok (.string X) w:=by
 simp [Instr.field,go_sem,asAgg]
theorem FJ (ts:List Tk) (hL:∀ t∈ts,cK t) (rb:Nat) (a:Option Addr) (c p0 o0 n0:Nat) (sg0:List (List UInt8×Nat)) (dn0:List TN) (sv0 dv0:Value) (q0:List (Option Addr×Nat)) (w:World) (H:RG ts rb a c p0 o0 n0 sg0 dn0 sv0 dv0 q0 w) (hs:mZ sg0) (hd:dn0.length=iX sg0) (ho:o0<=p0) :
 Calls Tryz.prog 186 #[.pointer (some ⟨rb,0,none⟩)] w (Jy ts rb a c (eQ ts true ⟨p0,o0,n0,sg0,dn0⟩) w):=by
 obtain ⟨r0,hr0⟩:∃ r,eQ ts true ⟨p0,o0,n0,sg0,dn0⟩=r:=⟨_,rfl⟩;rw [hr0];have K0:=aA (cF.refl rb w);have HR:=aA H;have HS:=aA hs;have HD:=aA hd;have HE:=aA hr0;have HL:=aA hL;have hn:ts.length<=100000:=H.g.hl;have hp0:=H.g.hp;clear hs hd hr0 H hL;go_enter Tryz.func186,Tryz.ntmps186
 go_wp2_with fail
 go_loopg [] ts.length (fun g wr=>∃ (p o n:Nat) (sg:List (List UInt8×Nat)) (dn:List TN) (sv dv:Value) (q:List (Option Addr×Nat)),o<=p/\p<=ts.length/\ts.length-p<=g/\Hid (RG ts rb a c p o n sg dn sv dv q wr)/\Hid (mZ sg)/\Hid (dn.length=iX sg)/\Hid (eQ ts true ⟨p,o,n,sg,dn⟩=r0)/\Hid (cF rb w wr))
 case atStart=>exact ⟨p0,o0,n0,sg0,dn0,sv0,dv0,q0,ho,hp0,Nat.sub_le _ _,HR,HS,HD,HE,K0⟩
 case round =>
  obtain ⟨p,o,n,sg,dn,sv,dv,q,hop,hpl,hg,hR,hS,hD,hE,hK⟩:=hrel;have CF:=aA (B9 ts HL.out rb a c p o n sg dn sv dv q wr hR.out hS.out hD.out hop);rw [hE.out] at CF;clear hR hS hD hE;go_wp2_with fail
  refine CF.out.mono ?_;rintro e w1 ⟨k1,er,p1,o1,n1,sg1,dn1,sv1,dv1,q1,rfl,R1,h⟩;rcases h with ⟨rfl,hE1,S1,D1,hp1,ho1⟩ | ⟨hne,hE1⟩
  · have HR1:=aA R1
    have HE1:=aA hE1;have HS1:=aA S1;have HD1:=aA D1;have HK1:=aA (hK.out.trans k1);clear R1 hE1 S1 D1 k1 hK CF;go_wp2_with fail
    refine (FM ts rb a c p1 o1 n1 sg1 dn1 sv1 dv1 q1 w1 HR1.out).mono ?_;rintro e w2 ⟨rfl,k2,p2,o2,R2,hp2,ho2,hE2,hno⟩;have hpl2:p2<=ts.length:=R2.g.hp;have RF:=kN (L:=ts) (s:=⟨p2,o2,n1,sg1,dn1⟩) hpl2;simp only at RF;rw [if_neg (fun hh=>by rw [hno hh.1] at hh;exact absurd hh.2 (by decide)),hE2, <- HE1.out] at RF;have HRF:=aA RF;have HR2:=aA R2;have HK2:=aA (HK1.out.trans k2);have CN:=aA (fun w (h:RG ts rb a c p2 o2 n1 sg1 dn1 sv1 dv1 q1 w)=>pZ ts rb a c p2 o2 n1 sv1 dv1 w h.g);have CB:=aA (fun w=>Js ts p2 w);obtain ⟨hh,hhh⟩:∃ x,cT ts p2=x:=⟨_,rfl⟩;have hsg:=@BI ts p2;rw [hhh] at HRF CB hsg;have HSG:=aA hsg;clear R2 k2 RF hE2 hno HE1 HR1 HK1 hsg hhh;go_wp2_with fail
    refine (CN.out w2 HR2.out).mono ?_;rintro e w3 ⟨rfl,b3⟩;have HR3:=aA (HR2.out.below b3);have HK3:=aA (HK2.out.trans (cF.below b3));clear b3 HR2 HK2;go_wp2_with fail
    refine (CB.out w3).mono ?_;rintro e w4 ⟨rfl,b4⟩;have HR4:=aA (HR3.out.below b4);have HK4:=aA (HK3.out.trans (cF.below b4));clear b4 HR3 HK3 CB;by_cases h0:hh=0
    · rw [if_pos h0] at HRF
      have a1:((hh:Int) == 0)=true:=by rw [h0];rfl
      have CE:=aA (Jk ts rb a c p2 o2 n1 sv1 dv1 w4 HR4.out.g)
      have P:=aA (p:=∀ x:Int,x=(if 0<o2 then 2 else 0)->Jy ts rb a c r0 w (.returned (.int .i64 x)) w4) (fun x hx=>⟨HK4.out,x,p2,o2,n1,sg1,dn1,sv1,dv1,q1,rfl,HR4.out,by
       by_cases h2:0<o2
       · rw [if_pos h2] at hx
         refine .inr ⟨by rw [hx];decide,?_⟩;rw [HRF.out,if_pos h2,hx]
       · rw [if_neg h2] at hx
         refine .inl ⟨hx,?_,HS1.out,HD1.out⟩;rw [HRF.out,if_neg h2]⟩)
      clear h0 CN;go_wp2_with fail
      refine CE.out.mono ?_;rintro e w5 ⟨rfl,rfl⟩;generalize hx:(if 0<o2 then (2:Int) else 0)=x at P |-
      have P2:=aA (P.out x rfl);clear P hx;go_wp2_with fail
      go_ret;exact P2.out
    · rw [if_neg h0] at HRF
      obtain ⟨hso,hlt,h2⟩:=HSG.out h0;have HSO:=aA hso;have a1:((hh:Int) == 0)=false:=by rw [beq_eq_false_iff_ne];omega
      have ho100:o2<=100000:=by omega
      have CJ:=aA (Gw ts rb a c p2 o2 n1 (hh+o2*3) sg1 dn1 sv1 dv1 q1 w4 HR4.out HS1.out HD1.out);rw [show ((hh+o2*3:Nat):Int)=(hh:Int)+(o2:Int)*3 by simp] at CJ;have JB:=aA (Am (h:=hh+o2*3) HS1.out HD1.out);obtain ⟨⟨J1,J2⟩,hJ⟩:∃ r,cP (hh+o2*3) sg1 dn1=r:=⟨_,rfl⟩;rw [hJ] at CJ JB HRF;simp only at JB HRF;obtain ⟨⟨c0,c1,c2,c3,c4,c5⟩,f1,f2,f3,f4,f5⟩:=HR4.out.g.r.cells;clear h0 hJ hso HSG;go_wp2_with fail
      refine CJ.out.mono ?_;rintro e w5 ⟨rfl,k5,sv5,dv5,q5,R5⟩;have HR5:=aA R5;have HK5:=aA (HK4.out.trans k5);have CN2:=aA (pZ ts rb a c p2 o2 n1 sv5 dv5 w5 R5.g);obtain ⟨tk,htk⟩:∃ t,eJ ts p2=t:=⟨_,rfl⟩;have hop2:=Ih ts p2;rw [htk] at CN2 hop2;obtain ⟨X,hX⟩:∃ X:ByteArray,⟨tk.text.toArray⟩=X:=⟨_,rfl⟩;have hag:tkG tk=.agg #[.int .i64 tk.kind,.string X,.int .i64 tk.num,.int .i64 tk.place]:=by rw [<- hX];rfl
      rw [hag] at CN2;have CW:=fun w (h:RG ts rb a c p2 o2 n1 J1 J2 sv5 dv5 q5 w)=>yJ ts rb a c p2 o2 n1 J1 J2 sv5 dv5 q5 (dQ ts p2,hh+o2*3) w h hlt
      have e1:(⟨(dQ ts p2).toArray⟩:ByteArray)=X:=by rw [<- hop2];exact hX
      have e2:(((dQ ts p2,hh+o2*3):List UInt8×Nat).2:Int)=(hh:Int)+(o2:Int)*3:=by simp
      simp only [e1,e2] at CW;have HCW:=aA CW;clear R5 k5 CJ c0 c1 c2 c3 c4 c5 f1 f2 f3 f4 f5 HR4 HK4 htk hX hop2 hag e1 e2 CW CN;go_wp2_with fail
      refine CN2.out.mono ?_;rintro e w6 ⟨rfl,b6⟩;have HR6:=aA (HR5.out.below b6);have HK6:=aA (HK5.out.trans (cF.below b6));clear b6 HR5 HK5 CN2;go_wp2_with fail
      rw [B8];simp only [Result.andThen];rw [Oper.upon_value];go_wp2_with fail
      refine (HCW.out w6 HR6.out).mono ?_;rintro e w7 ⟨k7,hA,hB⟩;by_cases h32:n1=32
      · obtain ⟨rfl,r7⟩:=hA h32
        have P:=aA (show Jy ts rb a c r0 w (.returned (.int .i64 4)) w7 from ⟨HK6.out.trans k7,4,p2,o2,n1,J1,J2,sv5,dv5,q5,rfl,r7,.inr ⟨by decide,by rw [HRF.out,if_pos h32]⟩⟩);clear hA hB h32;go_wp2_with fail
        go_ret;exact P.out
      · obtain ⟨rfl,sv',r7⟩:=hB h32
        have R8:=aA r7;have K8:=aA (HK6.out.trans k7);have S8:=aA (show mZ ((dQ ts p2,hh+o2*3)::J1) from fun x hx=>(List.mem_cons.1 hx).elim (fun e=>.inr (by rw [e];exact HSO.out)) (JB.out.1 x));have D8:=aA (show J2.length=iX ((dQ ts p2,hh+o2*3)::J1) by rw [iX,if_neg (uL HSO.out).2];exact JB.out.2);have E8:=aA (show eQ ts true ⟨p2+1,o2,n1+1,(dQ ts p2,hh+o2*3)::J1,J2⟩=r0 by rw [HRF.out,if_neg h32]);clear hA hB h32;go_wp2_with fail
        go_roundg (ts.length-(p2+1))
        case measure=>omega
        case rel=>exact ⟨p2+1,o2,n1+1,_,J2,sv',dv5,q5,by omega,by omega,Nat.le_refl _,R8,S8,D8,E8,K8⟩
  · have b1:((er:Int) != 0)=true:=by simpa using hne
    have P:=aA (show Jy ts rb a c r0 w (.returned (.int .i64 er)) w1 from ⟨hK.out.trans k1,er,p1,o1,n1,sg1,dn1,sv1,dv1,q1,rfl,R1,.inr ⟨hne,hE1⟩⟩);clear hne hE1 R1 k1;go_wp2_with fail
    go_ret;exact P.out
end
section
open Go.RowKit
abbrev ndG (o m:ByteArray) (n:Int) (a:Option Addr) (l c:Nat):Obj:=.cells #[.string o,.string m,.int .i64 n,.slice a l c] 25
theorem RGx.mark {ts:List Tk} {rb:Nat} {a:Option Addr} {c p o n:Nat} {sg:List (List UInt8×Nat)} {dn:List TN} {sv dv:Value} {q:List (Option Addr×Nat)} {w:World} (h:RG ts rb a c p o n sg dn sv dv q w) (ob:Obj):RGx w.heap.size ts rb a c p o n sg dn sv dv q (w.alloc ob):=by
 have hb:=(Below.refl w.heap.size w).alloc (Nat.le_refl _) ob;have h2:=h.below hb;exact ⟨h2.g,h2.so,h2.dw,(h.dk.imp (fun b hlt hg=>(⟨hg.1,by omega,hg.2.2⟩:Gk w.heap.size rb sv dv b))).keptS (aF hb (fun _=>False)) (fun _ h=>h.elim),h2.ap,by rw [World.size_alloc];omega,h2.hs,h2.hd⟩
theorem Dq (ts:List Tk) (rb:Nat) (a:Option Addr) (c p o n:Nat) (sg:List (List UInt8×Nat)) (dn:List TN) (sv dv:Value) (q:List (Option Addr×Nat)) (w:World) (H:RG ts rb a c p o n sg dn sv dv q w) (hs:mZ sg) (hd:dn.length=iX sg+1) (t:TN) (hj:cP 0 sg dn=([],[t])) :
 Calls Tryz.prog 187 #[.pointer (some ⟨rb,0,none⟩)] w fun e w'=>∃ ad cc,e=.returned (bB t.op t.nm t.n ad t.ks.len cc)/\cF rb w w'/\aH (fun b=>rb<b) w' ad t.ks/\w'.cell? ⟨rb,1,none⟩=some (.int .i64 p):=by
 have hrb:=H.lt;have HX:=H.mark (ndG ⟨#[]⟩ ⟨#[]⟩ 0 none 0 0);have KA:=cF.below (rb:=rb) ((Below.refl w.heap.size w).alloc (Nat.le_refl _) (ndG ⟨#[]⟩ ⟨#[]⟩ 0 none 0 0));have NB:=heap_alloc_new w (ndG ⟨#[]⟩ ⟨#[]⟩ 0 none 0 0);have hs0:(w.alloc (ndG ⟨#[]⟩ ⟨#[]⟩ 0 none 0 0)).heap.size=w.heap.size+1:=World.size_alloc _ _;generalize hW:w.alloc (ndG ⟨#[]⟩ ⟨#[]⟩ 0 none 0 0)=W at HX KA NB hs0;have CJ:=Dd w.heap.size ts rb a c p o n 0 sg dn sv dv q W HX hs hd;rw [hj] at CJ;have HCJ:=aA CJ;have HSV:=aA (fun (e:sv.ownBlock=some w.heap.size)=>(Nat.lt_irrefl _ (H.svNe e).2));have HDV:=aA (fun (e:dv.ownBlock=some w.heap.size)=>(Nat.lt_irrefl _ (H.dvNe e).2));have HW:=aA hW;have HNB:=aA NB;have HKA:=aA KA;clear hW HX CJ hs hd hj H NB KA;go_enter Tryz.func187,Tryz.ntmps187
 go_upto_region 1 with fail
 rw [HW.out];go_wp2_with fail
 refine HCJ.out.mono ?_;rintro e w2 ⟨rfl,⟨k2,sv2,dv2,q2,R2⟩,hf⟩;have N2:=(hf w.heap.size (by omega) (by omega) HSV.out HDV.out).trans HNB.out;obtain ⟨g,vc,hv, -, -,hcs⟩:=dG R2.dw (by simp);subst hv
 obtain ⟨qa,rfl⟩:∃ x,q2=[x]:=by
  have:=sH R2.dk;match q2,this with
  | [x],_=>exact ⟨x,rfl⟩
 have hx0:=hcs 0 _ rfl;have hx1:=hcs 1 _ rfl;have hx2:=hcs 2 _ rfl;have hx3:=hcs 3 _ rfl;have RK:=R2.dk.1;obtain ⟨⟨c0,c1,c2,c3,c4,c5⟩, -⟩:=R2.g.r.cells;obtain ⟨⟨z0,z1,z2,z3⟩,y0,y1,y2,y3⟩:=aK N2;have HN2:=aA N2;have HK2:=aA (HKA.out.trans k2);have HRK:=aA RK;have hgr:=(R2.g.r);have HGR:=aA hgr;have hl1:([t]:List TN).length=1:=rfl;rw [hl1] at c5;clear hcs R2 k2 hf N2 RK hgr HCJ hl1;go_wp2_with fail
 have h4:=aV HN2.out (.string t.op) (.string t.nm) (.int .i64 t.n) (.slice qa.1 t.ks.len qa.2);obtain ⟨⟨d0,d1,d2,d3⟩, -⟩:=aK h4;have KP:=((((aE.refl (· = w.heap.size) w2).setCell (p:=⟨w.heap.size,0,none⟩) (.inl rfl) (.string t.op)).setCell (p:=⟨w.heap.size,1,none⟩) (.inl rfl) (.string t.nm)).setCell (p:=⟨w.heap.size,2,none⟩) (.inl rfl) (.int .i64 t.n)).setCell (p:=⟨w.heap.size,3,none⟩) (.inl rfl) (.slice qa.1 t.ks.len qa.2);have RF:=(HRK.out.keptS KP (fun k hk hg=>hg.2.1 hk)).imp (H:=fun b=>rb<b) (fun b _ hg=>hg.1);have KF:=HK2.out.trans (KP.mono (T:=fun b=>rb<=b) (fun i hi _=>by omega));have GF:IsG _ rb a ts.length c p o n sv2 (Value.slice (some ⟨g,0,none⟩) [t].length vc):=KP.heap HGR.out (by omega);exact bodyPost_ret (v:=bB t.op t.nm t.n qa.1 t.ks.len qa.2) (by simp [results,Tryz.results187,go_sem,d0,d1,d2,d3]) rfl ⟨qa.1,qa.2,rfl,KF,RF,GF.cells.1.2.1⟩
theorem FT {ts:List Tk} {rb:Nat} {a:Option Addr} {c p:Nat} {w:World} (h:w.heap[rb]? = some (.cells #[.slice a ts.length c,.int .i64 p,.int .i64 0,.int .i64 0,.slice none 0 0,.slice none 0 0] 245 (0,0))) (ht:yC rb w a ts) (hp:p<=ts.length) (hl:ts.length<=100000) :
 RG ts rb a c p 0 0 [] [] (.slice none 0 0) (.slice none 0 0) [] w :=
 ⟨⟨h,ht,hp,hl,by omega,by omega⟩,World.ownsRow_nil _ _ _ _,World.ownsRow_nil _ _ _ _,trivial,(fun _ h=>by cases h),(Array.getElem?_eq_some_iff.1 h).1,Nat.le_refl _,Nat.le_refl _⟩
theorem IC (ts:List Tk) (hL:∀ t∈ts,cK t) (a:Option Addr) (c p:Nat) (hn:ts.length<=100000) (hp:p<=ts.length) (w:World) (hr:eW w a ts) :
 Calls Tryz.prog 165 #[.slice a ts.length c,.int .i64 p] w fun e w'=>yE (ofL ts p) w e w'/\∀ q er,ofL ts p=.bad q er->q<=ts.length:=by
 have B1:=(Below.refl w.heap.size w).alloc (Nat.le_refl _) (ndG ⟨#[]⟩ ⟨#[]⟩ 0 none 0 0);have NB:=heap_alloc_new w (ndG ⟨#[]⟩ ⟨#[]⟩ 0 none 0 0);have hs0:(w.alloc (ndG ⟨#[]⟩ ⟨#[]⟩ 0 none 0 0)).heap.size=w.heap.size+1:=World.size_alloc _ _;generalize hW:w.alloc (ndG ⟨#[]⟩ ⟨#[]⟩ 0 none 0 0)=W at B1 NB hs0;have B2:=(Below.refl W.heap.size W).alloc (Nat.le_refl _) (.cells #[.slice a ts.length c,.int .i64 p,.int .i64 0,.int .i64 0,.slice none 0 0,.slice none 0 0] 245);have NV:=heap_alloc_new W (.cells #[.slice a ts.length c,.int .i64 p,.int .i64 0,.int .i64 0,.slice none 0 0,.slice none 0 0] 245);have hs1:(W.alloc (.cells #[.slice a ts.length c,.int .i64 p,.int .i64 0,.int .i64 0,.slice none 0 0,.slice none 0 0] 245)).heap.size=w.heap.size+2:=by rw [World.size_alloc];omega
 generalize hV:W.alloc (.cells #[.slice a ts.length c,.int .i64 p,.int .i64 0,.int .i64 0,.slice none 0 0,.slice none 0 0] 245)=V at B2 NV hs1;rw [hs0] at NV;have R0:=FT NV ((r9 (hr.kept B1)).kept (aF B2 (fun _=>False)) (fun _ h=>h.elim) |>.imp id (fun ⟨b,off,e,hlt,hc⟩=>⟨b,off,e,by omega,hc⟩)) hp hn;have BV:=aA (B1.trans (B2.mono (by omega)));have NDV:=aA ((B2.block w.heap.size (by omega)).trans NB);have CS:=aA (FJ ts hL (w.heap.size+1) a c p 0 0 [] [] (.slice none 0 0) (.slice none 0 0) [] V R0 (fun _ hx=>by cases hx) rfl (Nat.zero_le _));have RO:=JU hL hp;obtain ⟨rO,hrO⟩:∃ r,ofL ts p=r:=⟨_,rfl⟩;rw [hrO] at RO |-
 have RO:=aA RO;clear hrO;have HW:=aA hW;have HV:=aA hV;have a1:¬ (p:Int)<0:=by omega
 have a2:(p:Int)<=(ts.length:Int):=by omega
 have a3:min (p:Int) (ts.length:Int)=p:=by omega
 clear hW hV B1 B2 NV NB R0 hr hL;go_enter Tryz.func165,Tryz.ntmps165
 go_upto_region 1 with fail
 rw [HW.out];go_upto_region 4 with fail
 rw [HV.out];clear a1 a2 a3 HW HV;go_wp2_with fail
 refine CS.out.mono ?_;rintro e w1 ⟨k1,er,p1,o1,n1,sg1,dn1,sv1,dv1,q1,rfl,R1,h⟩;have hz1:=k1.size;have N1:=k1.heap NDV.out (by omega);have B1:=BV.out.trans (aE.below k1 (B:=w.heap.size) (fun k hk=>by omega) (by omega));obtain ⟨⟨c0,c1,c2,c3,c4,c5⟩, -⟩:=R1.g.r.cells;obtain ⟨⟨z0,z1,z2,z3⟩,y0,y1,y2,y3⟩:=aK N1;have HN1:=aA N1;have HB1:=aA B1;have HR1:=aA R1;have HO:=RO.out;cases rO with
 | bad qb eb =>
   have h0:=HO.1 qb eb rfl;rw [h0] at h
   obtain ⟨hne,rfl,rfl⟩:er ≠ 0/\qb=p1/\eb=er:=by
    rcases h with ⟨_,h,_⟩ | ⟨hne,h⟩
    · cases h
    · cases h;exact ⟨hne,rfl,rfl⟩
   have b1:((eb:Int) != 0)=true:=by simpa using hne
   clear HO h h0 hne N1 B1 R1 k1 CS RO;go_wp2_with fail
   go_region
   go_wp2_with fail
   have h4:=aV (W:=w1) HN1.out (.string ⟨#[]⟩) (.string ⟨#[]⟩) (.int .i64 0) (.slice none 0 0);obtain ⟨⟨d0,d1,d2,d3⟩, -⟩:=aK h4;have KP:=jW (b:=w.heap.size) HB1.out (Nat.le_refl _) (by omega) 1 (.string ⟨#[]⟩) (.string ⟨#[]⟩) (.int .i64 0) (.slice none 0 0);exact bodyPost_ret (v:=.tuple #[bB ⟨#[]⟩ ⟨#[]⟩ 0 none 0 0,.int .i64 (qb:Nat),.int .i64 eb]) (by simp [results,Tryz.results165,go_sem,d0,d1,d2,d3]) rfl ⟨⟨KP,rfl⟩,fun q er h=>by cases h;exact HR1.out.g.hp⟩
 | ok t qo =>
   obtain ⟨s,h0,hsp,hql,hj⟩:=HO.2 t qo rfl;rw [h0] at h
   obtain ⟨rfl,rfl,S1,D1⟩:er=0/\s=⟨p1,o1,n1,sg1,dn1⟩/\mZ sg1/\dn1.length=iX sg1+1:=by
    rcases h with ⟨he,h,h1,h2⟩ | ⟨hne,h⟩
    · cases h;exact ⟨he,rfl,h1,h2⟩
    · cases h
   simp only at hsp hj;subst hsp;have CW:=aA (Dq ts (w.heap.size+1) a c p1 o1 n1 sg1 dn1 sv1 dv1 q1 w1.drew (HR1.out.below ⟨rfl,rfl,rfl,Nat.le_refl _,fun _ _=>rfl⟩) S1 D1 t hj);have HN1d:=aA (show w1.drew.heap[w.heap.size]? = some (ndG ⟨#[]⟩ ⟨#[]⟩ 0 none 0 0) from HN1.out);have HB1d:=aA (show Below w.heap.size w w1.drew from ⟨HB1.out.os,HB1.out.tape,HB1.out.output,HB1.out.size,HB1.out.block⟩);have hz1d:V.heap.size<=w1.drew.heap.size:=hz1;clear HO h h0 N1 B1 R1 k1 CS RO S1 D1 hj;go_wp2_with fail
   go_region_law (first
    | (go_simp
       go_at_call 187
       refine CW.out.mono ?_;rintro e w2 ⟨ad,cc,rfl,k2,rr,cc1⟩;have N2:=k2.heap HN1d.out (by omega);have hz2:=k2.size;have HB2:=aA (HB1d.out.trans (aE.below k2 (B:=w.heap.size) (fun k hk=>by omega) (by omega)));have HRR:=aA rr;have HN2:=aA N2;clear z0 z1 z2 z3 y0 y1 y2 y3 c0 c1 c2 c3 c4 c5 k2 rr;obtain ⟨⟨z0,z1,z2,z3⟩,y0,y1,y2,y3⟩:=aK N2;clear N2)
    | fail)
   all_goals
    go_wp2_with fail
    have KP:=((((aE.refl (· = w.heap.size) w2).setCell (p:=⟨w.heap.size,0,none⟩) (.inl rfl) (.string t.op)).setCell (p:=⟨w.heap.size,1,none⟩) (.inl rfl) (.string t.nm)).setCell (p:=⟨w.heap.size,2,none⟩) (.inl rfl) (.int .i64 t.n)).setCell (p:=⟨w.heap.size,3,none⟩) (.inl rfl) (.slice ad t.ks.len cc);obtain ⟨⟨d0,d1,d2,d3⟩, -⟩:=aK (aV (W:=w2) HN2.out (.string t.op) (.string t.nm) (.int .i64 t.n) (.slice ad t.ks.len cc));have BF:=HB2.out.trans (aE.below KP (B:=w.heap.size) (fun k hk=>by omega) (by omega));have RF:=(HRR.out.keptS KP (fun k hk hg=>by omega)).imp (H:=fun b=>w.heap.size<=b) (fun b _ hg=>by omega);exact bodyPost_ret (v:=.tuple #[bB t.op t.nm t.n ad t.ks.len cc,.int .i64 p1,.int .i64 0]) (by simp [results,Tryz.results165,go_sem,Act.put,d0,d1,d2,d3]) (by simp [Act.put]) ⟨⟨BF,ad,cc,rfl,RF⟩,fun _ _ h=>by cases h⟩
end
end
end Go.Proofs.YtapcjnoaofmmiaaGreatDoor
