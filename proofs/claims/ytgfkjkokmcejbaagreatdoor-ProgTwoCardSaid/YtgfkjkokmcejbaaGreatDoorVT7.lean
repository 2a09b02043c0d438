/-
 No statement: what ProgTwoLift needs, of the texts OE8.
-/
import Derived.Test.YtgfkjkokmcejbaaGreatDoorVT6
set_option maxHeartbeats 40000000
set_option maxRecDepth 100000
namespace Go.Proofs.YtgfkjkokmcejbaaGreatDoor
open Go.RowKit
section
section
open Go.RowKit
theorem xP {w:World} {B m size:Nat} {e:TypeId} {v:Value} {xs:List Value} (h:w.ownsRow B e size v m xs) (hm:m ≠ 0):∃ g c,v=.slice (some ⟨g,0,none⟩) m c:=by
 rcases h.2 with ⟨rfl,h0⟩ | ⟨g,cap,_,rfl,_⟩
 · exact absurd h0 hm
 · exact ⟨_,_,rfl⟩
theorem IT {w:World} {B:Nat} {e:TypeId} {g n cap:Nat} {xs:List Value} {z0 z1 z2 z3:Value} (h:w.ownsRow B e 4 (.slice (some ⟨g,0,none⟩) (n+1) cap) (n+1) (xs++[z0,z1,z2,z3])) (hl:xs.length=n*4) (v0 v1 v2 v3:Value) :
 ((((w.setCell ⟨g,n*4,none⟩ v0).setCell ⟨g,n*4+1,none⟩ v1).setCell ⟨g,n*4+2,none⟩ v2).setCell ⟨g,n*4+3,none⟩ v3).ownsRow B e 4 (.slice (some ⟨g,0,none⟩) (n+1) cap) (n+1) (xs++[v0,v1,v2,v3]):=by
 refine ⟨by rw [List.length_append,hl];simp;omega,?_⟩;rcases h.2 with ⟨h1,_⟩ | ⟨g',cap',cur,h1,hb,hg,hnc,hcm,hcs,ht⟩
 · cases h1
 · simp only [Value.slice.injEq,Option.some.injEq,Addr.mk.injEq,and_true,true_and] at h1
   obtain ⟨rfl,rfl⟩:=h1;obtain ⟨cur',hc,hcl⟩:=cH g e [v0,v1,v2,v3] (n*4) w cur hg (by simp;omega);have hw:w.setCells g (n*4) [v0,v1,v2,v3]=(((w.setCell ⟨g,n*4,none⟩ v0).setCell ⟨g,n*4+1,none⟩ v1).setCell ⟨g,n*4+2,none⟩ v2).setCell ⟨g,n*4+3,none⟩ v3:=rfl;rw [hw] at hc
   have hcs':cur'.size=cur.size:=by
    have e1:cur'.toList.length=cur'.size:=Array.length_toList;have e2:cur.toList.length=cur.size:=Array.length_toList;rw [hcl] at e1;simp only [List.length_append,List.length_take,List.length_drop,List.length_cons,List.length_nil] at e1;omega
   refine .inr ⟨g,cap,cur',rfl,hb,hc,hnc,hcm,by rw [hcs',hcs],?_⟩
   have e1:cur.toList.take (n*4)=xs:=by
    have h2:cur.toList.take (n*4)=(cur.toList.take ((n+1)*4)).take (n*4):=by rw [List.take_take,Nat.min_eq_left (by omega)]
    rw [h2,ht,List.take_append_of_le_length (by omega),List.take_of_length_le (by omega)]
   rw [hcl,e1,List.take_append_of_le_length (by simp [hl];omega),List.take_of_length_le (by simp [hl];omega)]
theorem DQ {w:World} {B:Nat} {e:TypeId} {g n cap:Nat} {xs:List Value} {z0 z1 z2 z3:Value} (h:w.ownsRow B e 4 (.slice (some ⟨g,0,none⟩) (n+1) cap) (n+1) (xs++[z0,z1,z2,z3])) (hl:xs.length=n*4) :
 (w.cell? ⟨g,n*4,none⟩=some z0/\w.cell? ⟨g,n*4+1,none⟩=some z1/\w.cell? ⟨g,n*4+2,none⟩=some z2/\w.cell? ⟨g,n*4+3,none⟩=some z3) /\
 (w.frozen? ⟨g,n*4,none⟩=false/\w.frozen? ⟨g,n*4+1,none⟩=false/\w.frozen? ⟨g,n*4+2,none⟩=false/\w.frozen? ⟨g,n*4+3,none⟩=false):=by
 have at_:∀ i,(xs++[z0,z1,z2,z3])[n*4+i]? = [z0,z1,z2,z3][i]? := fun i=>by rw [<- hl,List.getElem?_append_right (Nat.le_add_right _ _),Nat.add_sub_cancel_left]
 have c:∀ i u,[z0,z1,z2,z3][i]? = some u->w.cell? ⟨g,n*4+i,none⟩=some u:=fun i u hu=>by
  obtain ⟨g',h1,h2⟩:=qB h ((at_ i).trans hu);simp only [Addr.mk.injEq,and_true] at h1;subst h1;exact h2
 refine ⟨⟨c 0 _ rfl,c 1 _ rfl,c 2 _ rfl,c 3 _ rfl⟩,?_⟩;rcases h.2 with ⟨h1,_⟩ | ⟨g',cap',cur,h1,hb,hg,hnc,hcm,hcs,ht⟩
 · cases h1
 · simp only [Value.slice.injEq,Option.some.injEq,Addr.mk.injEq,and_true,true_and] at h1
   obtain ⟨rfl,rfl⟩:=h1;refine ⟨?_,?_,?_,?_⟩ <;> simp [World.frozen?,hg]
theorem jR (w:World) (a b:Addr) (h:a.block ≠ b.block) (u v:Value):(w.setCell a u).setCell b v=(w.setCell b v).setCell a u:=by
 unfold World.setCell;simp only [World.mk.injEq,and_true];apply Array.ext_getElem?
 intro i;simp only [Array.getElem?_modify];by_cases h1:a.block=i
 · have h2:¬ b.block=i:=fun e=>h (h1.trans e.symm)
   simp [h1,h2]
 · simp [h1]
theorem Ir (w:World) (rb g o x:Nat) (h:rb ≠ g) (u v0 v1 v2 v3:Value):(((((w.setCell ⟨rb,x,none⟩ u).setCell ⟨g,o,none⟩ v0).setCell ⟨g,o+1,none⟩ v1).setCell ⟨g,o+2,none⟩ v2).setCell ⟨g,o+3,none⟩ v3) =
 (((((w.setCell ⟨g,o,none⟩ v0).setCell ⟨g,o+1,none⟩ v1).setCell ⟨g,o+2,none⟩ v2).setCell ⟨g,o+3,none⟩ v3).setCell ⟨rb,x,none⟩ u):=by
 rw [jR w ⟨rb,x,none⟩ ⟨g,o,none⟩ h,jR _ ⟨rb,x,none⟩ ⟨g,o+1,none⟩ h,jR _ ⟨rb,x,none⟩ ⟨g,o+2,none⟩ h,jR _ ⟨rb,x,none⟩ ⟨g,o+3,none⟩ h]
theorem Qy (w:World) (E:TypeId):∀ j u,(ndL aC (none,0))[j]? = some u->(w.alloc (.cells #[.string ⟨#[]⟩,.string ⟨#[]⟩,.int .i64 0,.slice none 0 0] E)).cell? ((⟨w.heap.size,0,none⟩:Addr).add j)=some u:=fun j u hj=>by
 have e:ndL aC (none,0)=[.string ⟨#[]⟩,.string ⟨#[]⟩,.int .i64 0,.slice none 0 0]:=rfl;rw [e] at hj;rw [Addr.add_lit,Nat.zero_add,cell_of_row _ _ _ _ _ (0,0) (heap_alloc_new w _)];simpa using hj
theorem Ed (ts:List Tk) (rb:Nat) (a:Option Addr) (c p o n:Nat) (sg:List (List UInt8×Nat)) (dn:List TN) (sv dv:Value) (q:List (Option Addr×Nat)) (t:TN) (ht:t.ks=.nil) (w:World) (h:RG ts rb a c p o n sg dn sv dv q w) (hlt:p<ts.length) :
 Calls Tryz.prog 291 #[.pointer (some ⟨rb,0,none⟩),.agg #[.string t.op,.string t.nm,.int .i64 t.n,.slice none 0 0]] w fun e w'=>cD rb w w' /\
  (n=32->e=.returned (.int .i64 4)/\RG ts rb a c p o n sg dn sv dv q w')/\(¬ n=32->e=.returned (.int .i64 0)/\∃ dv' q',RG ts rb a c (p+1) o (n+1) sg (t::dn) sv dv' q' w'):=by
 obtain ⟨i0,hi,hz0,hz1,hz2⟩:=info_parts FS;have und:Tryz.prog.underlying 65=some (.slice 67):=Tryz.underlying65;have hrb:=h.lt;have BA:=bA0 w (.cells #[.string t.op,.string t.nm,.int .i64 t.n,.slice none 0 0] 67);have NB:=heap_alloc_new w (.cells #[.string t.op,.string t.nm,.int .i64 t.n,.slice none 0 0] 67);have H1:=h.below BA;have K1:=cD.below (rb:=rb) BA;generalize hW:w.alloc (.cells #[.string t.op,.string t.nm,.int .i64 t.n,.slice none 0 0] 67)=W at BA NB H1 K1;have HH1:=aA H1;have HNB:=aA NB;have HK1:=aA K1;have HW:=aA hW;have HT:=aA ht;have C:=aA (Bm ts rb a c p o n sv dv W H1.g hlt);clear h H1 NB BA K1 hW ht;by_cases h32:n=32
 · have G32:=aA h32
   clear h32;go_enter Tryz.func291,Tryz.ntmps291
   go_upto_region 1 with fail
   rw [HW.out];go_wp2_with fail
   refine C.out.mono ?_;rintro e w2 ⟨hA, -⟩;obtain ⟨rfl,rfl⟩:=hA G32.out;go_wp2_with fail
   go_ret;exact ⟨HK1.out,fun _=>⟨rfl,HH1.out⟩,fun hn=>absurd G32.out hn⟩
 · have G32:=aA h32
   clear h32;go_enter Tryz.func291,Tryz.ntmps291
   go_upto_region 1 with fail
   rw [HW.out];go_wp2_with fail
   refine C.out.mono ?_;rintro e w2 ⟨-,hB⟩;obtain ⟨rfl,hPG,hk⟩:=hB G32.out;have R2:=HH1.out.count hPG hk (Nat.le_succ n);have N2:=aA (hk.heap HNB.out (by omega));obtain ⟨⟨c0,c1,c2,c3,c4,c5⟩,f1,f2,f3,f4,f5⟩:=R2.g.r.cells;have hb4:=(aL N2.out).1;have HR2:=aA R2;have HK2:=aA (HK1.out.trans (cD.of hk));have hlen:=HH1.out.hd;have hlq:=aA (wI R2.dk);have hn32:=R2.g.hn;have hsz:=R2.lt;have hw2:w.heap.size<w2.heap.size:=(Array.getElem?_eq_some_iff.1 N2.out).1;have OD:=aA (show w2.drew.ownsRow (rb+1) 67 4 dv dn.length (dnL dn q) from R2.dw);obtain ⟨va,vc,hv⟩:=eV R2.dw;subst hv;have a1:(0:Int)<=(dn.length:Int):=by omega
   have a2:(dn.length:Int)<(dn.length:Int)+1:=by omega
   have a3:((dn.length:Int)).toNat=dn.length:=by omega
   clear hPG hk R2 C hB;go_upto_region 4 with fail
   obtain ⟨b0,b1,b2,b3⟩:=hb4
   go_region_law (first
    | (refine n4 rfl (.tmp 14) (.tmp 17) 65 rfl (base := rb + 1) und hi hz0 hz1 hz2 rfl (by decide) (.slice va dn.length vc) dn.length 1 (dnL dn q) (ndL aC (none, 0)) ⟨w2.heap.size, 0, none⟩ 1 (by first | (simp [Act.eval]; done) | (simp [Act.eval, Act.put]; done) | fail) (by first | (simp [Act.eval]; done) | (simp [Act.eval, Act.put]; done) | fail) (OD.out.alloc _) rfl (Qy w2.drew 67) (qF aC _) (by unfold maxLen; omega) (by omega) (by simp; omega) ?_
       intro v3 w3 ho hg hq;obtain ⟨g3,vc3,rfl⟩:=xP ho (Nat.succ_ne_zero _);have Z3:=DQ ho (tB hlq.out);have K3:=((aD.refl (fun b=>(Value.slice va dn.length vc).ownBlock=some b) w2).drew.alloc (.cells #[.string ⟨#[]⟩,.string ⟨#[]⟩,.int .i64 0,.slice none 0 0] 67)).grown hg (fun k hk=>.inl hk);have O4:=IT ho (tB hlq.out) (.string t.op) (.string t.nm) (.int .i64 t.n) (.slice none 0 0);have hg3:=(hq g3 rfl).imp id FR;have K4:=(((K3.setCell (p:=⟨g3,dn.length*4,none⟩) hg3 (.string t.op)).setCell (p:=⟨g3,dn.length*4+1,none⟩) hg3 (.string t.nm)).setCell (p:=⟨g3,dn.length*4+2,none⟩) hg3 (.int .i64 t.n)).setCell (p:=⟨g3,dn.length*4+3,none⟩) hg3 (.slice none 0 0);have P3:=aA (HR2.out.put_dn (dn':=t::dn) (q':=(none,0)::q) K4 (by rw [dnL,ndL,HT.out];exact O4) (fun b hb=>(hq b hb).imp id FR) ⟨.inl HT.out,HR2.out.dk⟩ (by rw [List.length_cons];omega));have KK:=aA ((HK2.out.trans (K4.mono (fun k hk _=>by have:=(HR2.out.dvNe hk).1;omega))).set 5 (.slice (some ⟨g3,0,none⟩) (dn.length+1) vc3));have hgb:=(ho.lt g3 rfl).1;have CM:=aA (Ir w3 rb g3 (dn.length*4) 5 (by omega) (.slice (some ⟨g3,0,none⟩) (dn.length+1) vc3) (.string t.op) (.string t.nm) (.int .i64 t.n) (.slice none 0 0));have G3:=(HR2.out.g.kept K3 (fun k hk=>(HR2.out.dvNe hk).1)).r.cells;clear ho hg hq K3 K4 O4 c0 c1 c2 c3 c4 c5 f1 f2 f3 f4 f5 b0 b1 b2 b3;obtain ⟨⟨c0,c1,c2,c3,c4,c5⟩,f1,f2,f3,f4,f5⟩:=G3;obtain ⟨⟨z0,z1,z2,z3⟩,y0,y1,y2,y3⟩:=Z3)
    | fail)
   all_goals
    first | rw [CM.out] | skip
    clear CM;generalize (((((w3.setCell ⟨g3,dn.length*4,none⟩ (.string t.op)).setCell ⟨g3,dn.length*4+1,none⟩ (.string t.nm)).setCell ⟨g3,dn.length*4+2,none⟩ (.int .i64 t.n)).setCell ⟨g3,dn.length*4+3,none⟩ (.slice none 0 0)).setCell ⟨rb,5,none⟩ (.slice (some ⟨g3,0,none⟩) (dn.length+1) vc3))=V at P3 KK |-
    go_wp2_with fail
    go_ret;exact ⟨KK.out,fun hn=>absurd hn G32.out,fun _=>⟨rfl,_,_,P3.out⟩⟩
end
section
open Go.RowKit
theorem Lj (w:World) (E:TypeId) (size:Nat):(w.alloc (.cells #[] E)).ownsRow w.heap.size E size (.slice (some ⟨w.heap.size,0,none⟩) 0 0) 0 [] :=
 World.ownsRow_made w #[] 0 (Nat.le_refl _) (Nat.zero_le _) (by simp)
theorem xX (b:Addr) (n c:Nat) (xs:List Value) (hl:xs.length=n*4) (hn:n<=100) (w:World) (hc:∀ j u,xs[j]? = some u->w.cell? (b.add j)=some u) (h1:∀ u∈xs,u.oneCell'=true) :
 Calls Tryz.prog 292 #[.slice (some b) n c] w fun e w'=>∃ v',e=.returned v'/\w'.ownsRow w.heap.size 67 4 v' n xs/\Below w.heap.size w w':=by
 obtain ⟨i0,hi,hz0,hz1,hz2⟩:=info_parts FS;have und:Tryz.prog.underlying 65=some (.slice 67):=Tryz.underlying65;have OA:=aA (Lj w 67 4);have BA:=aA (bA0 w (.cells #[] 67));have HC:=aA (p:=∀ j u,xs[j]? = some u->(w.alloc (.cells #[] 67)).cell? (b.add j)=some u) (fun j u hj=>Lib.cell?_alloc_some _ (hc j u hj));have HL:=aA hl;have H1:=aA h1;clear hc hl h1;go_enter Tryz.func292,Tryz.ntmps292
 go_wp2
 rw [Lib.run_eql_slice_nil w _ _ _ _ _ _ _ und];simp only [Result.andThen];rw [Oper.upon_value];go_wp2_with (at_builtin;refine aQ rfl _ _ 65 rfl und hi hz0 hz1 hz2 rfl (by decide) _ 0 n c b [] xs rfl rfl OA.out HL.out HC.out H1.out (by unfold maxLen;omega) (by omega) (by simp) ?_)
 intro v' w2 ho hg _;have O2:=aA ho;have B2:=aA (BA.out.grown hg (by simp) (fun k hk=>by simp [Value.ownBlock] at hk;omega));clear ho hg;go_wp2_with fail
 go_ret;exact ⟨v',rfl,by simpa using O2.out,B2.out⟩
def jU:List (List UInt8×Nat)->Nat
 | []=>0
 | x::r=>jU r+(if x.1=jE then 0 else 1)
def pM (sg:List (List UInt8×Nat)):Prop:=∀ x∈sg,x.1=jE\/uW x.1
theorem J0:eC ⟨jE.toArray⟩=1:=by decide
theorem zO {o:List UInt8} (h:uW o):eC ⟨o.toArray⟩=2/\o ≠ jE:=by
 rcases h with rfl | rfl | rfl | rfl | rfl <;> decide
theorem Ei {h:Nat}:∀ {sg:List (List UInt8×Nat)} {dn:List TN},pM sg->dn.length=jU sg+1->pM (cP h sg dn).1/\(cP h sg dn).2.length=jU (cP h sg dn).1+1
 | [],dn,_,hd=>⟨fun _ hx=>(by cases hx),hd⟩
 | (o, k) :: sg, dn, hs, hd => by
   rw [cP];by_cases hk:h<=k
   · rw [if_pos hk]
     refine Ei (fun x hx=>hs x (List.mem_cons_of_mem _ hx)) ?_;rw [jU] at hd;unfold qM;by_cases ho:o=jE
     · rw [if_pos ho] at hd |-
       cases dn with
       | nil=>simp at hd
       | cons a r=>simpa using hd
     · rw [if_neg ho] at hd |-
       match dn,hd with
       | [],hd=>simp at hd
       | [a],hd=>simp at hd
       | b::a::r,hd=>simp at hd |-;omega
   · rw [if_neg hk];exact ⟨hs,hd⟩
theorem fQ {w:World} {B m size:Nat} {e:TypeId} {v:Value} {xs:List Value} (h:w.ownsRow B e size v m xs) (hm:m ≠ 0):∃ g c,v=.slice (some ⟨g,0,none⟩) m c/\m<=c/\c<=maxLen/\∀ j u,xs[j]? = some u->w.cell? ⟨g,j,none⟩=some u:=by
 rcases h.2 with ⟨rfl,h0⟩ | ⟨g,cap,_,rfl,_,_,h1,h2,_⟩
 · exact absurd h0 hm
 · refine ⟨g,cap,rfl,h1,h2,fun j u hj=>?_⟩
   obtain ⟨g',h1,h2⟩:=qB h hj;simp only [Addr.mk.injEq,and_true] at h1;subst h1;exact h2
theorem tX {G:Nat->Prop} {w:World} {g:Nat} {t:TN} {q:Option Addr×Nat} {r:F} {off:Nat} (hG:G g) (hlt:g<w.heap.size) (hc:∀ j u,(ndL t q)[j]? = some u->w.cell? ⟨g,off+j,none⟩=some u) (hk:aN G w q.1 t.ks) (hr:eF G w r g (off+4)):eF G w (.cons t.op t.nm t.n t.ks r) g off :=
 ⟨hG,hlt,⟨q.1,q.2,⟨hc 0 _ rfl,hc 1 _ rfl,hc 2 _ rfl,hc 3 _ rfl⟩,hk⟩,hr⟩
section
variable {x : Nat} {ts : List Tk} {rb : Nat} {a : Option Addr} {c p o n : Nat} {sg : List (List UInt8 × Nat)} {dn : List TN} {sv dv : Value} {q : List (Option Addr × Nat)} {w w' : World}
theorem RGx.pop {y:List UInt8×Nat} {g vc:Nat} (h:RGx x ts rb a c p o n (y::sg) dn (.slice (some ⟨g,0,none⟩) (sg.length+1) vc) dv q w):RGx x ts rb a c p o n sg dn (.slice (some ⟨g,0,none⟩) sg.length vc) dv q (w.setCell ⟨rb,4,none⟩ (.slice (some ⟨g,0,none⟩) sg.length vc)):=by
 have ho:=t6 (m:=sg.length) h.so (by simp) (by simp);rw [zV,List.take_append_of_le_length (by rw [kH];exact Nat.le_refl _),List.take_of_length_le (by rw [kH];exact Nat.le_refl _)] at ho;exact h.put_sg (aD.refl _ w) ho (fun b hb=>.inl hb) (by have:=h.hs;simp at this;omega)
theorem RGx.take {w1 w3:World} {dn1:List TN} {q1:List (Option Addr×Nat)} {t:TN} {dv':Value} {gk ck:Nat} {obj:Obj} (h:RGx x ts rb a c p o n sg dn sv dv q w1)
 (hg:(w1.alloc obj).grownBy w3 dv.ownBlock) (hrow:w3.ownsRow (rb+1) 67 4 dv' (dn1.length+1) (dnL dn1 q1++ndL t (some ⟨gk,0,none⟩,ck)))
 (hnew:∀ b,dv'.ownBlock=some b->dv.ownBlock=some b\/w1.heap.size+1<=b) (hk1:DnK (Gk x rb sv dv) w1 dn1 q1) (hkt:aN (Gk x rb sv dv) w1 (some ⟨gk,0,none⟩) t.ks) (hd:dn1.length+1<=n) :
 RGx x ts rb a c p o n sg (t::dn1) sv dv' ((some ⟨gk,0,none⟩,ck)::q1) (w3.setCell ⟨rb,5,none⟩ dv')/\cD rb w1 (w3.setCell ⟨rb,5,none⟩ dv'):=by
 have K3:=((aD.refl (fun b=>dv.ownBlock=some b) w1).alloc obj).grown hg (fun k hk=>.inl hk)
 exact ⟨h.put_dn (dn':=t::dn1) K3 hrow (fun b hb=>(hnew b hb).imp id (fun hle=>by omega)) ⟨hkt,hk1⟩ (by rw [List.length_cons];omega),
  (K3.mono (T:=fun b=>rb<=b) (fun k hk _=>Nat.le_of_lt (h.dvNe hk).1)).setCell (p:=⟨rb,5,none⟩) (.inl (Nat.le_refl _)) dv'⟩
end
def PT (x:Nat) (ts:List Tk) (rb:Nat) (a:Option Addr) (c p o n:Nat) (r:List (List UInt8×Nat)×List TN) (w0 w':World):Prop:=cD rb w0 w'/\∃ sv dv q,RGx x ts rb a c p o n r.1 r.2 sv dv q w'
structure Fr (rb:Nat) (sv dv:Value) (w:World) (sv1 dv1:Value) (w1:World):Prop where
 b:∀ b,b<w.heap.size->b ≠ rb->sv.ownBlock ≠ some b->dv.ownBlock ≠ some b->w1.heap[b]? = w.heap[b]?
 s:∀ b,sv1.ownBlock=some b->sv.ownBlock=some b\/w.heap.size<=b
 d:∀ b,dv1.ownBlock=some b->dv.ownBlock=some b\/w.heap.size<=b
 z:w.heap.size<=w1.heap.size
theorem Fr.step {rb:Nat} {sv dv sv1 dv1 sv2 dv2:Value} {w wr w1 w3:World} (h:Fr rb sv dv w sv1 dv1 wr) (hb:Below wr.heap.size wr w1) (hk:aD (fun b=>dv1.ownBlock=some b) w1 w3) (hs:sv2.ownBlock=sv1.ownBlock) (hd:∀ b,dv2.ownBlock=some b->dv1.ownBlock=some b\/w1.heap.size+1<=b) (x y:Nat) (u v:Value) :
 Fr rb sv dv w sv2 dv2 ((w3.setCell ⟨rb,x,none⟩ u).setCell ⟨rb,y,none⟩ v):=by
 have hz:=h.z;have hz1:=hb.size;have hz3:=hk.size;have ks:=(((aD.refl (· = rb) w3).setCell (p:=⟨rb,x,none⟩) (.inl rfl) u).setCell (p:=⟨rb,y,none⟩) (.inl rfl) v);have hz4:=ks.size;refine ⟨fun b h1 h2 h3 h4=>?_,fun b hb2=>h.s b (by rw [<- hs];exact hb2),fun b hb2=>?_,by omega⟩
 · rw [ks.block b (by omega) h2,hk.block b (by omega) (fun e=>(h.d b e).elim h4 (fun hle=>by omega)),hb.block b (by omega)]
   exact h.b b h1 h2 h3 h4
 · rcases hd b hb2 with h1 | h1
   · exact h.d b h1
   · exact .inr (by omega)
theorem Hh (x:Nat) (ts:List Tk) (rb:Nat) (a:Option Addr) (c p o n h:Nat) (sg:List (List UInt8×Nat)) (dn:List TN) (sv dv:Value) (q:List (Option Addr×Nat)) (w:World) (H:RGx x ts rb a c p o n sg dn sv dv q w) (hs:pM sg) (hd:dn.length=jU sg+1) :
 Calls Tryz.prog 280 #[.pointer (some ⟨rb,0,none⟩),.int .i64 h] w fun e w'=>e=.returned (.tuple #[])/\PT x ts rb a c p o n (cP h sg dn) w w'/\(∀ b,b<w.heap.size->b ≠ rb->sv.ownBlock ≠ some b->dv.ownBlock ≠ some b->w'.heap[b]? = w.heap[b]?):=by
 obtain ⟨i0,hi,hz0,hz1,hz2⟩:=info_parts FS;have und:Tryz.prog.underlying 65=some (.slice 67):=Tryz.underlying65;obtain ⟨r0,hr0⟩:∃ r,cP h sg dn=r:=⟨_,rfl⟩;rw [hr0];have K0:=aA (cD.refl rb w);have HR:=aA H;have HS:=aA hs;have HD:=aA hd;have HE:=aA hr0;have hslen:=H.hs;have hn32:=H.g.hn;obtain ⟨va,vc,hv⟩:=eV H.so;subst hv;obtain ⟨⟨c0,c1,c2,c3,c4,c5⟩,f1,f2,f3,f4,f5⟩:=H.g.r.cells;clear hs hd hr0 H;go_enter Tryz.func280,Tryz.ntmps280
 go_wp2_with fail
 go_loopg [4] sg.length (fun g v wr=>∃ (z:Int) (sg1:List (List UInt8×Nat)) (dn1:List TN) (sv1 dv1:Value) (q1:List (Option Addr×Nat)),v=.int .i64 z/\z=(sg1.length:Int)-1/\sg1.length<=g/\Hid (RGx x ts rb a c p o n sg1 dn1 sv1 dv1 q1 wr)/\Hid (pM sg1)/\Hid (dn1.length=jU sg1+1)/\Hid (cP h sg1 dn1=r0)/\Hid (cD rb w wr)/\Hid (Fr rb (.slice va sg.length vc) dv w sv1 dv1 wr))
 case atStart=>exact ⟨_,sg,dn,_,dv,q,rfl,by first | rfl | (simp;done) | omega,Nat.le_refl _,HR,HS,HD,HE,K0,aA ⟨fun _ _ _ _ _=>rfl,fun _ h=>.inl h,fun _ h=>.inl h,Nat.le_refl _⟩⟩
 case round =>
  obtain ⟨z,sg1,dn1,sv1,dv1,q1,rfl,hz,hg,hR,hS,hD,hE,hK,hF⟩:=hrel;clear c0 c1 c2 c3 c4 c5 f1 f2 f3 f4 f5;cases sg1 with
  | nil =>
    have a0:¬ (0:Int)<=z:=by rw [hz];simp
    clear hz;have E:=aA (show r0=([],dn1) by rw [<- hE.out];rfl);go_wp2_with fail
    go_end0
    rw [E.out];exact ⟨rfl,⟨hK.out,_,_,_,hR.out⟩,hF.out.b⟩
  | cons y r =>
    obtain ⟨o',k⟩:=y;obtain rfl:z=(r.length:Int):=by rw [hz,List.length_cons];omega
    have R1:=hR.out;obtain ⟨g,vc1,hv,hvc,hvm,hcs⟩:=fQ R1.so (by simp);have s0:=hcs (r.length*2) (.string ⟨o'.toArray⟩) (by rw [zV,List.getElem?_append_right (by rw [kH];exact Nat.le_refl _),kH,Nat.sub_self];rfl);have s1:=hcs (r.length*2+1) (.int .i64 k) (by rw [zV,List.getElem?_append_right (by rw [kH];omega),kH,show r.length*2+1-r.length*2=1 by omega];rfl);subst hv;have hrl:=R1.hs;rw [List.length_cons] at hrl hvc hg;obtain ⟨⟨c0,c1,c2,c3,c4,c5⟩,f1,f2,f3,f4,f5⟩:=R1.g.r.cells;rw [List.length_cons] at c4;have a1:(0:Int)<=(r.length:Int):=by omega
    have a2:(r.length:Int)<(r.length:Int)+1:=by omega
    have a3:((r.length:Int)).toNat=r.length:=by omega
    clear hcs R1 hz;by_cases hk:h<=k
    · have b1:(h:Int)<=(k:Int):=by omega
      have KO:=aA (fun w=>rU ⟨o'.toArray⟩ w);have hlq:=wI hR.out.dk;by_cases ho:o'=jE
      · subst ho
        rw [J0] at KO
        obtain ⟨t1,r1,rfl⟩:∃ t r,dn1=t::r:=by
         cases dn1 with
         | nil=>exact absurd hD.out (by simp)
         | cons t r=>exact ⟨t,r,rfl⟩
        obtain ⟨qa,q2,rfl⟩:∃ a b,q1=a::b:=by
         cases q1 with
         | nil=>simp at hlq
         | cons a b=>exact ⟨a,b,rfl⟩
        obtain ⟨d,vd,hv,hvd,hvm2,hcs⟩:=fQ hR.out.dw (by simp);subst hv;have hl2:q2.length=r1.length:=by simpa using hlq
        have hdl:=tB hl2
        have HC:=aA (p:=∀ j u,(ndL t1 qa)[j]? = some u->wr.cell? ((⟨d,r1.length*4,none⟩:Addr).add j)=some u) (fun j u hj=>by
         rw [Addr.add_lit];refine hcs _ _ ?_;rw [dnL,List.getElem?_append_right (by omega),hdl,Nat.add_sub_cancel_left];exact hj)
        have CL:=aA (fun nq c=>xX ⟨d,r1.length*4,none⟩ 1 c (ndL t1 qa) rfl (by omega) (wr.drewN nq) HC.out (qF t1 qa));rw [List.length_cons] at c5 hvd;have d1:(0:Int)<=(r1.length:Int):=by omega
        have d2:(r1.length:Int)<=(r1.length:Int)+1:=by omega
        have d3:((r1.length:Int)).toNat=r1.length:=by omega
        have d4:(r1.length:Int)<=(vd:Int):=by omega
        have hdn:=hR.out.hd;rw [List.length_cons] at hdn;have OT:=t6 (m:=r1.length) hR.out.dw (by rw [List.length_cons];omega) (by simp);rw [dnL,List.take_append_of_le_length (by rw [hdl];exact Nat.le_refl _),List.take_of_length_le (by rw [hdl];exact Nat.le_refl _)] at OT;have OT2:=aA OT;clear hcs hlq OT;go_upto_region 4 with fail
        go_upto_region 5 with (go_quiet ((go_at_call 186;refine (KO.out _).mono ?_;rintro e w' ⟨he,rfl⟩;exact ⟨he,_,rfl⟩)))
        go_wp2_with fail
        refine (CL.out _ _).mono ?_;rintro e w1 ⟨v1,rfl,hro,hb⟩;obtain ⟨gk1,ck,rfl, -, -,hcell⟩:=fQ hro (by decide);have hbb:Below wr.heap.size wr w1:=⟨hb.os,hb.tape,hb.output,hb.size,hb.block⟩;have R2:=hR.out.below hbb;have hgk:=(hro.lt gk1 rfl);have hwr:=hR.out.lt
        have GK:Gk x rb (.slice (some ⟨g,0,none⟩) (r.length+1) vc1) (.slice (some ⟨d,0,none⟩) (r1.length+1) vd) gk1:=by
         have hz:(wr.drewN nq).heap.size=wr.heap.size:=rfl;have k1:g<wr.heap.size:=(hR.out.svNe rfl).2;have k2:d<wr.heap.size:=(hR.out.dvNe rfl).2;have k3:x<wr.heap.size:=hR.out.hx;exact ⟨by omega,by omega,fun e=>by have:=Option.some.inj (show some g=some gk1 from e);omega,fun e=>by have:=Option.some.inj (show some d=some gk1 from e);omega⟩
        have KT:aN (Gk x rb (.slice (some ⟨g,0,none⟩) (r.length+1) vc1) (.slice (some ⟨d,0,none⟩) (r1.length+1) vd)) w1 (some ⟨gk1,0,none⟩) (oY t1).ks:=.inr ⟨gk1,0,rfl,tX (q:=qa) (t:=t1) GK hgk.2 (fun j u hj=>by rw [Nat.zero_add];exact hcell j u hj) R2.dk.1 trivial⟩;have DK2:=R2.dk.2;have OT3:=aA (cQ OT2.out hbb)
        have NEW:=aA (p:=∀ j u,(ndL (oY t1) (some ⟨gk1,0,none⟩,ck))[j]? = some u->(w1.alloc (.cells #[.string ⟨jE.toArray⟩,.string ⟨#[]⟩,.int .i64 0,.slice (some ⟨gk1,0,none⟩) 1 ck] 67)).cell? ((⟨w1.heap.size,0,none⟩:Addr).add j)=some u) (fun j u hj=>by
         have e:ndL (oY t1) (some ⟨gk1,0,none⟩,ck)=(#[.string ⟨jE.toArray⟩,.string ⟨#[]⟩,.int .i64 0,.slice (some ⟨gk1,0,none⟩) 1 ck]:Array Value).toList:=rfl;rw [e] at hj;rw [Addr.add_lit,Nat.zero_add,cell_of_row _ _ _ _ _ (0,0) (heap_alloc_new w1 _)];simpa using hj)
        clear c0 c1 c2 c3 c4 c5 f1 f2 f3 f4 f5 s0 s1;obtain ⟨⟨c0,c1,c2,c3,c4,c5⟩,f1,f2,f3,f4,f5⟩:=R2.g.r.cells;rw [List.length_cons] at c4;rw [List.length_cons] at c5;have HR2:=aA R2;have HKT:=aA KT;have HDK:=aA DK2;have HBB:=aA hbb;have hsz2:=R2.lt;clear hro hb hcell R2 KT DK2 GK hbb CL HC;go_wp2_with (at_builtin;refine aQ rfl _ _ 65 rfl und hi hz0 hz1 hz2 rfl (by decide) (.slice (some ⟨d,0,none⟩) r1.length vd) r1.length 1 1 ⟨w1.heap.size,0,none⟩ (dnL r1 q2) (ndL (oY t1) (some ⟨gk1,0,none⟩,ck)) rfl rfl (OT3.out.alloc _) rfl NEW.out (qF _ _) (by unfold maxLen;omega) (by omega) (by simp;omega) ?_)
        intro v3 w3 ho3 hg3 hq3;obtain ⟨gg,cc3,rfl⟩:=xP ho3 (Nat.succ_ne_zero _);obtain ⟨P3,K3⟩:=HR2.out.take hg3 ho3 hq3 HDK.out HKT.out (by omega);have KD:=(((aD.refl (fun b=>(Value.slice (some ⟨d,0,none⟩) (r1.length+1) vd).ownBlock=some b) w1).alloc _).grown hg3 (fun k hk=>.inl hk));have F4:=aA (hF.out.step (sv2:=.slice (some ⟨g,0,none⟩) r.length vc1) (dv2:=.slice (some ⟨gg,0,none⟩) (r1.length+1) cc3) HBB.out KD rfl hq3 5 4 (.slice (some ⟨gg,0,none⟩) (r1.length+1) cc3) (.slice (some ⟨g,0,none⟩) r.length vc1));clear KD;have G3:=((HR2.out.g.kept (((aD.refl (fun b=>(Value.slice (some ⟨d,0,none⟩) (r1.length+1) vd).ownBlock=some b) w1).alloc _).grown hg3 (fun k hk=>.inl hk)) (fun k hk=>(HR2.out.dvNe hk).1)).r.cells);have P4:=aA P3.pop;have K4:=aA (((hK.out.trans (cD.below HBB.out)).trans K3).set 4 (.slice (some ⟨g,0,none⟩) r.length vc1));clear c0 c1 c2 c3 c4 c5 f1 f2 f3 f4 f5 ho3 hg3 hq3 P3 K3;obtain ⟨⟨c0,c1,c2,c3,c4,c5⟩,f1,f2,f3,f4,f5⟩:=G3;rw [List.length_cons] at c4;rw [List.length_cons] at c5;have S5:=aA (show pM r from fun x hx=>hS.out x (List.mem_cons_of_mem _ hx));have D5:=aA (show ((oY t1)::r1).length=jU r+1 by have:=hD.out;rw [jU,if_pos rfl] at this;simp at this |-;omega);have E5:=aA (show cP h r ((oY t1)::r1)=r0 by rw [<- hE.out];conv=>rhs;rw [cP,if_pos hk,qM,if_pos rfl]);have r1a:(r.length:Int)<=(r.length:Int)+1:=by omega
        have r1b:(r.length:Int)<=(vc1:Int):=by omega
        clear hk;go_wp2_with fail
        go_roundg r.length
        case measure=>omega
        case rel=>exact ⟨(r.length:Int)-1,r,(oY t1)::r1,_,_,_,rfl,rfl,Nat.le_refl _,P4,S5,D5,E5,K4,F4⟩
      · have hso:uW o':=(hS.out _ List.mem_cons_self).resolve_left ho
        rw [(zO hso).1] at KO
        obtain ⟨t2,t1,r1,rfl⟩:∃ t s r,dn1=t::s::r:=by
         have h0:=hD.out;rw [jU,if_neg ho] at h0;match dn1,h0 with
         | [],h0=>simp at h0
         | [_],h0=>simp at h0
         | t::s::r,_=>exact ⟨t,s,r,rfl⟩
        obtain ⟨qb,qa,q2,rfl⟩:∃ a b c,q1=a::b::c:=by
         match q1,hlq with
         | [],h0=>simp at h0
         | [_],h0=>simp at h0
         | a::b::c,_=>exact ⟨a,b,c,rfl⟩
        obtain ⟨d,vd,hv,hvd,hvm2,hcs⟩:=fQ hR.out.dw (by simp);subst hv;have hl2:q2.length=r1.length:=by simpa using hlq
        have hdl:=tB hl2
        have HC:=aA (p:=∀ j u,(ndL t1 qa++ndL t2 qb)[j]? = some u->wr.cell? ((⟨d,r1.length*4,none⟩:Addr).add j)=some u) (fun j u hj=>by
         rw [Addr.add_lit];refine hcs _ _ ?_;rw [dnL,dnL,List.append_assoc,List.getElem?_append_right (by omega),hdl,Nat.add_sub_cancel_left];exact hj)
        have CL:=aA (fun nq c=>xX ⟨d,r1.length*4,none⟩ 2 c (ndL t1 qa++ndL t2 qb) rfl (by omega) (wr.drewN nq) HC.out (fun u hu=>(List.mem_append.1 hu).elim (qF t1 qa u) (qF t2 qb u)));rw [List.length_cons,List.length_cons] at c5 hvd;have d1:(0:Int)<=(r1.length:Int):=by omega
        have d2:(r1.length:Int)<=(r1.length:Int)+2:=by omega
        have d3:((r1.length:Int)).toNat=r1.length:=by omega
        have d4:(r1.length:Int)<=(vd:Int):=by omega
        have d5:(r1.length:Int)<=(r1.length:Int)+1+1:=by omega
        have d6:(r1.length:Int)+1+1-2=(r1.length:Int):=by omega
        have d7:r1.length+1+1-r1.length=2:=by omega
        have hdn:=hR.out.hd;rw [List.length_cons,List.length_cons] at hdn;have OT:=t6 (m:=r1.length) hR.out.dw (by rw [List.length_cons,List.length_cons];omega) (by simp);rw [dnL,dnL,List.append_assoc,List.take_append_of_le_length (by rw [hdl];exact Nat.le_refl _),List.take_of_length_le (by rw [hdl];exact Nat.le_refl _)] at OT;have OT2:=aA OT;clear hcs hlq OT;go_upto_region 4 with fail
        go_upto_region 5 with (go_quiet ((go_at_call 186;refine (KO.out _).mono ?_;rintro e w' ⟨he,rfl⟩;exact ⟨he,_,rfl⟩)))
        go_wp2_with fail
        refine (CL.out _ _).mono ?_;rintro e w1 ⟨v1,rfl,hro,hb⟩;obtain ⟨gk1,ck,rfl, -, -,hcell⟩:=fQ hro (by decide);have hbb:Below wr.heap.size wr w1:=⟨hb.os,hb.tape,hb.output,hb.size,hb.block⟩;have R2:=hR.out.below hbb;have hgk:=(hro.lt gk1 rfl);have hwr:=hR.out.lt
        have GK:Gk x rb (.slice (some ⟨g,0,none⟩) (r.length+1) vc1) (.slice (some ⟨d,0,none⟩) (r1.length+1+1) vd) gk1:=by
         have hz:(wr.drewN nq).heap.size=wr.heap.size:=rfl;have k1:g<wr.heap.size:=(hR.out.svNe rfl).2;have k2:d<wr.heap.size:=(hR.out.dvNe rfl).2;have k3:x<wr.heap.size:=hR.out.hx;exact ⟨by omega,by omega,fun e=>by have:=Option.some.inj (show some g=some gk1 from e);omega,fun e=>by have:=Option.some.inj (show some d=some gk1 from e);omega⟩
        have KT:aN (Gk x rb (.slice (some ⟨g,0,none⟩) (r.length+1) vc1) (.slice (some ⟨d,0,none⟩) (r1.length+1+1) vd)) w1 (some ⟨gk1,0,none⟩) (fB o' t1 t2).ks:=.inr ⟨gk1,0,rfl,tX (q:=qa) (t:=t1) GK hgk.2 (fun j u hj=>by
         have hj4:j<4:=(List.getElem?_eq_some_iff.1 hj).1;rw [Nat.zero_add];exact hcell j u (by rw [List.getElem?_append_left (by exact hj4)];exact hj)) R2.dk.2.1 (tX (q:=qb) (t:=t2) GK hgk.2 (fun j u hj=>hcell (0+4+j) u (by rw [List.getElem?_append_right (by show 4<=_;omega),show 0+4+j-(ndL t1 qa).length=j by show 0+4+j-4=j;omega];exact hj)) R2.dk.1 trivial)⟩
        have DK2:=R2.dk.2.2;have OT3:=aA (cQ OT2.out hbb)
        have NEW:=aA (p:=∀ j u,(ndL (fB o' t1 t2) (some ⟨gk1,0,none⟩,ck))[j]? = some u->(w1.alloc (.cells #[.string ⟨o'.toArray⟩,.string ⟨#[]⟩,.int .i64 0,.slice (some ⟨gk1,0,none⟩) 2 ck] 67)).cell? ((⟨w1.heap.size,0,none⟩:Addr).add j)=some u) (fun j u hj=>by
         have e:ndL (fB o' t1 t2) (some ⟨gk1,0,none⟩,ck)=(#[.string ⟨o'.toArray⟩,.string ⟨#[]⟩,.int .i64 0,.slice (some ⟨gk1,0,none⟩) 2 ck]:Array Value).toList:=rfl;rw [e] at hj;rw [Addr.add_lit,Nat.zero_add,cell_of_row _ _ _ _ _ (0,0) (heap_alloc_new w1 _)];simpa using hj)
        clear c0 c1 c2 c3 c4 c5 f1 f2 f3 f4 f5 s0 s1;obtain ⟨⟨c0,c1,c2,c3,c4,c5⟩,f1,f2,f3,f4,f5⟩:=R2.g.r.cells;rw [List.length_cons] at c4;rw [List.length_cons,List.length_cons] at c5;have HR2:=aA R2;have HKT:=aA KT;have HDK:=aA DK2;have HBB:=aA hbb;have hsz2:=R2.lt;clear hro hb hcell R2 KT DK2 GK hbb CL HC;go_wp2_with (at_builtin;refine aQ rfl _ _ 65 rfl und hi hz0 hz1 hz2 rfl (by decide) (.slice (some ⟨d,0,none⟩) r1.length vd) r1.length 1 1 ⟨w1.heap.size,0,none⟩ (dnL r1 q2) (ndL (fB o' t1 t2) (some ⟨gk1,0,none⟩,ck)) rfl rfl (OT3.out.alloc _) rfl NEW.out (qF _ _) (by unfold maxLen;omega) (by omega) (by simp;omega) ?_)
        intro v3 w3 ho3 hg3 hq3;obtain ⟨gg,cc3,rfl⟩:=xP ho3 (Nat.succ_ne_zero _);obtain ⟨P3,K3⟩:=HR2.out.take hg3 ho3 hq3 HDK.out HKT.out (by omega);have KD:=(((aD.refl (fun b=>(Value.slice (some ⟨d,0,none⟩) (r1.length+1+1) vd).ownBlock=some b) w1).alloc _).grown hg3 (fun k hk=>.inl hk));have F4:=aA (hF.out.step (sv2:=.slice (some ⟨g,0,none⟩) r.length vc1) (dv2:=.slice (some ⟨gg,0,none⟩) (r1.length+1) cc3) HBB.out KD rfl hq3 5 4 (.slice (some ⟨gg,0,none⟩) (r1.length+1) cc3) (.slice (some ⟨g,0,none⟩) r.length vc1));clear KD;have G3:=((HR2.out.g.kept (((aD.refl (fun b=>(Value.slice (some ⟨d,0,none⟩) (r1.length+1+1) vd).ownBlock=some b) w1).alloc _).grown hg3 (fun k hk=>.inl hk)) (fun k hk=>(HR2.out.dvNe hk).1)).r.cells);have P4:=aA P3.pop;have K4:=aA (((hK.out.trans (cD.below HBB.out)).trans K3).set 4 (.slice (some ⟨g,0,none⟩) r.length vc1));clear c0 c1 c2 c3 c4 c5 f1 f2 f3 f4 f5 ho3 hg3 hq3 P3 K3;obtain ⟨⟨c0,c1,c2,c3,c4,c5⟩,f1,f2,f3,f4,f5⟩:=G3;rw [List.length_cons] at c4;rw [List.length_cons,List.length_cons] at c5;have S5:=aA (show pM r from fun x hx=>hS.out x (List.mem_cons_of_mem _ hx));have D5:=aA (show ((fB o' t1 t2)::r1).length=jU r+1 by have:=hD.out;rw [jU,if_neg ho] at this;simp at this |-;omega);have E5:=aA (show cP h r ((fB o' t1 t2)::r1)=r0 by rw [<- hE.out];conv=>rhs;rw [cP,if_pos hk,qM,if_neg ho]);have r1a:(r.length:Int)<=(r.length:Int)+1:=by omega
        have r1b:(r.length:Int)<=(vc1:Int):=by omega
        clear hk;go_wp2_with fail
        go_roundg r.length
        case measure=>omega
        case rel=>exact ⟨(r.length:Int)-1,r,(fB o' t1 t2)::r1,_,_,_,rfl,rfl,Nat.le_refl _,P4,S5,D5,E5,K4,F4⟩
    · have b1:¬ (h:Int)<=(k:Int):=by omega
      have E:=aA (show r0=((o',k)::r,dn1) by rw [<- hE.out,cP,if_neg hk]);clear hk;go_wp2_with fail
      go_end0
      rw [E.out];exact ⟨rfl,⟨hK.out,_,_,_,hR.out⟩,hF.out.b⟩
theorem Me (ts:List Tk) (rb:Nat) (a:Option Addr) (c p o n h:Nat) (sg:List (List UInt8×Nat)) (dn:List TN) (sv dv:Value) (q:List (Option Addr×Nat)) (w:World) (H:RG ts rb a c p o n sg dn sv dv q w) (hs:pM sg) (hd:dn.length=jU sg+1) :
 Calls Tryz.prog 280 #[.pointer (some ⟨rb,0,none⟩),.int .i64 h] w fun e w'=>e=.returned (.tuple #[])/\PT rb ts rb a c p o n (cP h sg dn) w w' :=
 (Hh rb ts rb a c p o n h sg dn sv dv q w H hs hd).mono fun _ _ hP=>⟨hP.1,hP.2.1⟩
end
section
open Go.RowKit
theorem Ch {s:ByteArray} (h:s.size<1\/8<s.size):bH s.data.toList=false:=by
 have hl:s.data.toList.length=s.size:=by simp
 cases e:s.data.toList with
 | nil=>rfl
 | cons c r =>
   rw [e] at hl;rw [mO,decide_eq_false (by simp at hl;omega),Bool.and_false,Bool.false_and]
theorem Hm {s:ByteArray} (h:1<=s.size) (h8:s.size<=8):bH s.data.toList=(bE s[0] && s.data.toList.all aX):=by
 have hl:s.data.toList.length=s.size:=by simp
 have h0:s.data.toList[0]? = some s[0]:=List.getElem?_eq_getElem (by omega);cases e:s.data.toList with
 | nil=>rw [e] at hl;simp at hl;omega
 | cons c r =>
   rw [e] at hl h0;have:c=s[0]:=by simpa using h0
   subst this;rw [mO,decide_eq_true (by simp at hl;omega),Bool.and_true,List.all_cons];unfold aX;cases bE s[0] <;> simp
theorem Cw {s:ByteArray} {j:Nat} (hj:j<s.size) (h:aX s[j]=false):s.data.toList.all aX=false:=by
 rw [List.all_eq_false];exact ⟨s[j],List.mem_iff_getElem.2 ⟨j,by simpa using hj,rfl⟩,by rw [h];simp⟩
theorem Hw {s:ByteArray} (h:∀ j (hj:j<s.size),aX s[j]=true):s.data.toList.all aX=true:=by
 rw [List.all_eq_true];intro c hc;obtain ⟨j,hj,rfl⟩:=List.mem_iff_getElem.1 hc;exact h j (by simpa using hj)
theorem Az (s:ByteArray) (hm:s.size<=281474976710656) (w:World):Calls Tryz.prog 31 #[.string s] w fun e w'=>e=.returned (.bool (bH s.data.toList))/\w=w':=by
 by_cases h1:s.size<1\/8<s.size
 · have R:=aA (Ch h1)
   rcases h1 with h1 | h1
   · go_enter Tryz.func31,Tryz.ntmps31
     go_wp2_with fail
     go_ret;exact ⟨eA (a:=false) R.out.symm,rfl⟩
   · have h2:1<=s.size:=by omega
     go_enter Tryz.func31,Tryz.ntmps31
     go_wp2_with fail
     go_ret;exact ⟨eA (a:=false) R.out.symm,rfl⟩
 · have h2:1<=s.size:=by omega
   have h3:s.size<=8:=by omega
   have R:=aA (Hm h2 h3);obtain ⟨c,hc⟩:∃ c:Int,(s[0].toNat:Int)=c:=⟨_,rfl⟩;have hs:bE s[0]=(decide (97<=c) && decide (c<=122)):=by unfold bE;rw [hc]
   by_cases k:97<=c/\c<=122
   · obtain ⟨k1,k2⟩:=k
     have R2:=aA (R.out.trans (by rw [hs,decide_eq_true k1,decide_eq_true k2];rfl:_=s.data.toList.all aX));clear R hs h1;go_enter Tryz.func31,Tryz.ntmps31
     go_wp2_with fail
     go_loop [3] (fun i=>∃ k:Nat,k<=s.size/\i=.int .i64 k/\Hid (∀ j (hj:j<s.size),j<k->aX s[j]=true)) (fun i=>s.size-(intOf i).toNat)
     case atStart=>exact ⟨0,Nat.zero_le _,rfl,aA (fun j _ h=>by omega)⟩
     case round =>
      obtain ⟨k,hk,rfl,hok⟩:=hrel;by_cases hlt:k<s.size
      · obtain ⟨d,hd⟩:∃ c:Int,(s[k].toNat:Int)=c:=⟨_,rfl⟩
        have hb:aX s[k]=(decide (97<=d) && decide (d<=122) || decide (48<=d) && decide (d<=57)):=by unfold aX bE aV;rw [hd]
        have hcase:(97<=d/\d<=122)\/(48<=d/\d<=57)\/d<48\/(57<d/\d<97)\/122<d:=by omega
        rcases hcase with ⟨g1,g2⟩ | ⟨g1,g2⟩ | g1 | ⟨g1,g2⟩ | g1
        · have hok1:=aA (show ∀ j (hj:j<s.size),j<k+1->aX s[j]=true from fun j hj hjk=>by
           by_cases e:j=k
           · subst e;rw [hb,decide_eq_true g1,decide_eq_true g2];rfl
           · exact hok.out j hj (by omega))
          clear hb;go_wp2_with fail
          go_round
          case rel=>exact ⟨k+1,by omega,by go_num,hok1⟩
          case measure=>simp [intOf];omega
        · have hok1:=aA (show ∀ j (hj:j<s.size),j<k+1->aX s[j]=true from fun j hj hjk=>by
           by_cases e:j=k
           · subst e;rw [hb,decide_eq_true g1,decide_eq_true g2,Bool.and_self,Bool.or_true]
           · exact hok.out j hj (by omega))
          have g3:d<97:=by omega
          clear hb;go_wp2_with fail
          go_round
          case rel=>exact ⟨k+1,by omega,by go_num,hok1⟩
          case measure=>simp [intOf];omega
        · have R3:=aA (R2.out.trans (Cw hlt (by rw [hb,decide_eq_false (by omega),decide_eq_false (p:=48<=d) (by omega)];rfl)))
          have g3:d<97:=by omega
          clear hb;go_wp2_with fail
          go_ret;exact ⟨eA (a:=false) R3.out.symm,rfl⟩
        · have R3:=aA (R2.out.trans (Cw hlt (by rw [hb,decide_eq_false (by omega),decide_eq_false (p:=d<=57) (by omega)];simp)))
          have g3:48<=d:=by omega
          clear hb;go_wp2_with fail
          go_ret;exact ⟨eA (a:=false) R3.out.symm,rfl⟩
        · have R3:=aA (R2.out.trans (Cw hlt (by rw [hb,decide_eq_false (p:=d<=122) (by omega),decide_eq_false (p:=d<=57) (by omega)];simp)))
          have g3:97<=d:=by omega
          have g4:48<=d:=by omega
          have g5:57<d:=by omega
          clear hb;go_wp2_with fail
          go_ret;exact ⟨eA (a:=false) R3.out.symm,rfl⟩
      · have R3:=aA (R2.out.trans (Hw fun j hj=>hok.out j hj (by omega)))
        go_wp2_with fail
        go_ret;exact ⟨eA (a:=true) R3.out.symm,rfl⟩
   · have hb:(decide (97<=c) && decide (c<=122))=false:=by
      rcases Int.lt_or_le c 97 with h | h
      · rw [decide_eq_false (by omega)];rfl
      · rw [decide_eq_true h,decide_eq_false (by omega)];rfl
     have R2:=aA (R.out.trans (by rw [hs,hb];rfl:_=false));clear hb R hs h1;have k':c<97\/(97<=c/\122<c):=by omega
     clear k;rcases k' with k | ⟨k,k'⟩
     · go_enter Tryz.func31,Tryz.ntmps31
       go_wp2_with fail
       go_ret;exact ⟨eA (a:=false) R2.out.symm,rfl⟩
     · go_enter Tryz.func31,Tryz.ntmps31
       go_wp2_with fail
       go_ret;exact ⟨eA (a:=false) R2.out.symm,rfl⟩
end
section
open Go.RowKit
theorem mX (c:UInt8) (w:World):Calls Tryz.prog 112 #[.int .u8 c.toNat] w fun e w'=>e=.returned (.bool (bE c))/\w=w':=by
 obtain ⟨x,hx⟩:∃ x:Int,(c.toNat:Int)=x:=⟨_,rfl⟩;unfold bE;rw [hx];by_cases h:97<=x
 · go_enter Tryz.func112,Tryz.ntmps112
   go_wp2
   go_ret;exact ⟨eA (a:=decide (x<=122)) (by rw [decide_eq_true h];rfl),rfl⟩
 · go_enter Tryz.func112,Tryz.ntmps112
   go_wp2
   go_ret;exact ⟨eA (a:=false) (by rw [decide_eq_false (by omega)];rfl),rfl⟩
theorem wO (c:UInt8) (w:World):Calls Tryz.prog 113 #[.int .u8 c.toNat] w fun e w'=>e=.returned (.bool (aV c))/\w=w':=by
 obtain ⟨x,hx⟩:∃ x:Int,(c.toNat:Int)=x:=⟨_,rfl⟩;unfold aV;rw [hx];by_cases h:48<=x
 · go_enter Tryz.func113,Tryz.ntmps113
   go_wp2
   go_ret;exact ⟨eA (a:=decide (x<=57)) (by rw [decide_eq_true h];rfl),rfl⟩
 · go_enter Tryz.func113,Tryz.ntmps113
   go_wp2
   go_ret;exact ⟨eA (a:=false) (by rw [decide_eq_false (by omega)];rfl),rfl⟩
theorem jX (s:ByteArray) (hm:s.size<=281474976710656) (w:World):Calls Tryz.prog 54 #[.string s] w fun e w'=>e=.returned (.bool (bH s.data.toList))/\w=w':=by
 have hne:1<=s.size->(s.toList == [])=false:=fun h=>by
  rw [beq_eq_false_iff_ne,Lib.toList_data];intro e;have hl:s.data.toList.length=s.size:=by simp
  rw [e] at hl;simp at hl;omega
 by_cases h1:s.size<1
 · have R:=aA (Ch (.inl h1))
   obtain rfl:s=⟨#[]⟩:=(by simpa using h1:s=ByteArray.empty);clear hne h1 hm;go_enter Tryz.func54,Tryz.ntmps54
   go_wp2_with fail
   go_ret;exact ⟨eA (a:=false) R.out.symm,rfl⟩
 have h2:1<=s.size:=by omega
 have he:=hne h2;clear hne h1;by_cases h8:8<s.size
 · have R:=aA (Ch (.inr h8))
   go_enter Tryz.func54,Tryz.ntmps54
   go_wp2_with fail
   go_ret;exact ⟨eA (a:=false) R.out.symm,rfl⟩
 have h3:s.size<=8:=by omega
 have R:=aA (Hm h2 h3);have hs0:0<s.size:=by omega
 cases hc:bE s[0] with
 | false =>
   have R2:=aA (R.out.trans (by rw [hc];rfl:_=false));have C:=aA (p:=∀ w,Calls Tryz.prog 112 #[.int .u8 s[0].toNat] w fun e w'=>e=.returned (.bool false)/\w=w') (fun w=>by have:=mX s[0] w;rwa [hc] at this);clear R hc h3;go_enter Tryz.func54,Tryz.ntmps54
   go_wp2_with (go_at_call 112;refine (C.out _).mono ?_;rintro e w' ⟨rfl,rfl⟩)
   go_ret;exact ⟨eA (a:=false) R2.out.symm,rfl⟩
 | true =>
   have R2:=aA (R.out.trans (by rw [hc];rfl:_=s.data.toList.all aX));have C:=aA (p:=∀ w,Calls Tryz.prog 112 #[.int .u8 s[0].toNat] w fun e w'=>e=.returned (.bool true)/\w=w') (fun w=>by have:=mX s[0] w;rwa [hc] at this);have h0:=aA (show aX s[0]=true by unfold aX;rw [hc];rfl);clear R hc;go_enter Tryz.func54,Tryz.ntmps54
   go_wp2_with (go_at_call 112;refine (C.out _).mono ?_;rintro e w' ⟨rfl,rfl⟩)
   go_loop [3] (fun i=>∃ k:Nat,1<=k/\k<=s.size/\i=.int .i64 k/\Hid (∀ j (hj:j<s.size),j<k->aX s[j]=true)) (fun i=>s.size-(intOf i).toNat)
   case atStart=>exact ⟨1,Nat.le_refl _,h2,rfl,aA (fun j _ h=>by
    obtain rfl:j=0:=(by omega);exact h0.out)⟩
   case round =>
    obtain ⟨k,hk1,hk,rfl,hok⟩:=hrel;by_cases hlt:k<s.size
    · cases ha:bE s[k] with
      | true =>
        have hok1:=aA (show ∀ j (hj:j<s.size),j<k+1->aX s[j]=true from fun j hj hjk=>by
         by_cases e:j=k
         · subst e;unfold aX;rw [ha];rfl
         · exact hok.out j hj (by omega))
        have D:=aA (p:=∀ w,Calls Tryz.prog 112 #[.int .u8 s[k].toNat] w fun e w'=>e=.returned (.bool true)/\w=w') (fun w=>by have:=mX s[k] w;rwa [ha] at this);clear ha C;go_wp2_with (go_at_call 112;refine (D.out _).mono ?_;rintro e w' ⟨rfl,rfl⟩)
        go_round
        case rel=>exact ⟨k+1,by omega,by omega,by go_num,hok1⟩
        case measure=>simp [intOf];omega
      | false =>
        have D:=aA (p:=∀ w,Calls Tryz.prog 112 #[.int .u8 s[k].toNat] w fun e w'=>e=.returned (.bool false)/\w=w') (fun w=>by have:=mX s[k] w;rwa [ha] at this);cases hd:aV s[k] with
        | true =>
          have hok1:=aA (show ∀ j (hj:j<s.size),j<k+1->aX s[j]=true from fun j hj hjk=>by
           by_cases e:j=k
           · subst e;unfold aX;rw [ha,hd];rfl
           · exact hok.out j hj (by omega))
          have E:=aA (p:=∀ w,Calls Tryz.prog 113 #[.int .u8 s[k].toNat] w fun e w'=>e=.returned (.bool true)/\w=w') (fun w=>by have:=wO s[k] w;rwa [hd] at this);clear ha hd C;go_wp2_with (first | (go_at_call 112;refine (D.out _).mono ?_;rintro e w' ⟨rfl,rfl⟩) | (go_at_call 113;refine (E.out _).mono ?_;rintro e w' ⟨rfl,rfl⟩))
          go_round
          case rel=>exact ⟨k+1,by omega,by omega,by go_num,hok1⟩
          case measure=>simp [intOf];omega
        | false =>
          have E:=aA (p:=∀ w,Calls Tryz.prog 113 #[.int .u8 s[k].toNat] w fun e w'=>e=.returned (.bool false)/\w=w') (fun w=>by have:=wO s[k] w;rwa [hd] at this);have R3:=aA (R2.out.trans (Cw hlt (by unfold aX;rw [ha,hd];rfl)));clear ha hd C;go_wp2_with (first | (go_at_call 112;refine (D.out _).mono ?_;rintro e w' ⟨rfl,rfl⟩) | (go_at_call 113;refine (E.out _).mono ?_;rintro e w' ⟨rfl,rfl⟩))
          go_ret;exact ⟨eA (a:=false) R3.out.symm,rfl⟩
    · have R3:=aA (R2.out.trans (Hw fun j hj=>hok.out j hj (by omega)))
      go_wp2_with fail
      go_ret;exact ⟨eA (a:=true) R3.out.symm,rfl⟩
end
end
end Go.Proofs.YtgfkjkokmcejbaaGreatDoor
