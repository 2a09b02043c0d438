/-
 No statement: the lifted proof of ProgLines.
-/
import Derived.Test.YtgfkjkokmcejbaaGreatDoorVL13
import Derived.Test.YtgfkjkokmcejbaaGreatDoorTie
import Derived.ProofKit
import Derived.OpenShut
import Derived.LaidMore
import Derived.Lay
import Derived.SevenTiedAt
import Derived.Stop.Joined
import Derived.Stop.LaidErr
import Derived.Lib.LaidTab
import Derived.Carry
import Derived.Test.YtgfkjkokmcejbaaGreatDoorCards
import Derived.ShutString
import Derived.ChangeOld
set_option maxHeartbeats 40000000
set_option maxRecDepth 100000
namespace Go.Proofs.YtgfkjkokmcejbaaGreatDoor
section
open Go.RowKit
theorem vH {D:List Wr.AD} {e x:Wr.AD} (h:x∈Wr.putD D e):x∈D\/x=e:=by
 unfold Wr.putD at h;split at h
 · exact List.mem_or_eq_of_mem_set h
 · rcases List.mem_append.1 h with h | h
   · exact .inl (List.mem_of_mem_take h)
   · rcases List.mem_cons.1 h with h | h
     · exact .inr h
     · exact .inl (List.mem_of_mem_drop h)
theorem Hu (nm:ByteArray) (R:EvR):Wr.twA (evA nm R)=evA nm R:=by
 cases R <;> rfl
theorem MX {a b:Int} (h:lsL a b=true):a<b:=by simpa [lsL] using h
theorem Ie {l:List Int} (h:aS lsL l):Wr.risesB l=true:=by
 rw [Wr.risesB_iff];intro j hj;have:=List.pairwise_iff_getElem.1 h j (j+1) (by omega) hj (by omega);have h1:l.getD j 0=l[j]:=by simp [List.getD,List.getElem?_eq_getElem (show j<l.length by omega)]
 have h2:l.getD (j+1) 0=l[j+1]:=by simp [List.getD,List.getElem?_eq_getElem hj]
 rw [h1,h2];exact MX this
theorem Fc (l:List Int):Wr.upTo (fun j=>l.getD j 0) l.length=l:=by
 unfold Wr.upTo;apply List.ext_getElem
 · simp
 · intro i h1 h2
   simp [List.getD,List.getElem?_eq_getElem h2]
theorem Nc {x:AG} (h:fJ x=0) (gs:List (ByteArray->Option Int)) (hok:Ib (evG x gs)=true):Wr.errV (rzK (evG x gs)) ⟨#[]⟩ (rzL (evG x gs)).length (rzZ (evG x gs))=0:=by
 have hl:=EU h gs;obtain ⟨h1,h2, -⟩:=cP h;unfold fB at h1;simp only [Bool.or_eq_true,beq_iff_eq] at h1
 have num:∀ R:EvR,Ib R=true->(∃ n,R=.num n)\/R=.no->Wr.errV (rzK R) ⟨#[]⟩ (rzL R).length (rzZ R)=0:=by
  intro R hR hc;rcases hc with ⟨n,rfl⟩ | rfl
  · rfl
  · cases hR
 rcases h1 with ((((h1 | h1) | h1) | h1) | h1) | h1
 · exact num _ hok (by rw [sP h1];exact .inl ⟨_,rfl⟩)
 · exact num _ hok (by rw [Ar h1];split <;> first | exact .inr rfl | exact .inl ⟨_,rfl⟩)
 · exact num _ hok (by rw [As h1];split <;> first | exact .inr rfl | exact .inl ⟨_,rfl⟩)
 · exact num _ hok (by rw [Aq h1];exact .inl ⟨_,rfl⟩)
 · exact num _ hok (by rw [sO h1];split <;> first | exact .inr rfl | exact .inl ⟨_,rfl⟩)
 · have ht:=Ap h1 gs
   have hr:=(AW (wD x gs) [] List.Pairwise.nil).1;generalize (wD x gs).foldl (eD lsL) []=T at ht hr;have hr2:aS lsL (T.drop (T.length-x.k.toNat)):=List.Pairwise.sublist (List.drop_sublist _ _) hr;rw [ht] at hl |-
   generalize T.drop (T.length-x.k.toNat)=L at hl hr2;show Wr.errV 3 ⟨#[]⟩ L.length (fun j=>L.getD j 0)=0;unfold Wr.errV;rw [if_neg (by decide),if_neg (by decide),if_pos rfl,Fc];unfold Wr.errL;rw [if_neg (by simp only [rzL] at hl;omega),Ie hr2];rfl
theorem Kd {D:List Wr.AD} (h:∀ x∈D,Wr.twA x=x):Wr.twsA (Wr.atD D) D.length=D:=by
 unfold Wr.twsA;apply List.ext_getElem
 · simp
 · intro i h1 h2
   have e:Wr.atD D i=D[i]:=by simp [Wr.atD,List.getD,List.getElem?_eq_getElem h2]
   simp [e,h D[i] (List.getElem_mem h2)]
theorem Kt {D:List Wr.AD} (h:aS lsS (Wr.nmD D)):Wr.RiseA (Wr.atD D) D.length:=by
 intro i j hij hj;have e:∀ i,(hi:i<D.length)->Wr.atD D i=D[i]:=fun i hi=>by simp [Wr.atD,List.getD,List.getElem?_eq_getElem hi]
 rw [e i (by omega),e j hj];have hz:(Wr.nmD D).length=D.length:=by simp [Wr.nmD]
 have:=List.pairwise_iff_getElem.1 h i j (by omega) (by omega) hij;simpa [Wr.nmD] using this
structure OkQ (D:List Wr.AD):Prop where
 tw:∀ x∈D,Wr.twA x=x
 ln:∀ x∈D,x.len<=16
 ri:aS lsS (Wr.nmD D)
theorem OkQ.put {D:List Wr.AD} (h:OkQ D) (nm:ByteArray) {R:EvR} (hl:(rzL R).length<=16):OkQ (Wr.putD D (evA nm R)) where
 tw:=fun x hx=>by
  rcases vH hx with hx | rfl
  · exact h.tw x hx
  · exact Hu _ _
 ln:=fun x hx=>by
  rcases vH hx with hx | rfl
  · exact h.ln x hx
  · exact hl
 ri:=by rw [Wr.nmD_put h.ri];exact dN eM h.ri _
theorem Kp {V:World} {oa:Option Addr} {oc:Nat} {D:List Wr.AD} {nm:ByteArray} {R:EvR} {va:Option Addr} {vc:Nat} (hD:OkQ D) (h8:D.length<=20) (hg:aW nm.data.toList=true) (hn:nm.size<=8) (hl:(rzL R).length<=16) (hv:Wr.errV (rzK R) ⟨#[]⟩ (rzL R).length (rzZ R)=0)
 (h:Wr.ReadsA V oa D.length (Wr.atD D)) (hy:Wr.Reads V va (rzL R).length (rzZ R)) :
 Calls Tryz.prog 44 #[.slice oa D.length oc,.string nm,.agg #[.int .i64 (rzK R),.int .i64 (rzN R),.string ⟨#[]⟩,.slice va (rzL R).length vc]] V fun e w'=>(∃ a c,e=.returned (.tuple #[.slice a (Wr.putD D (evA nm R)).length c,.int .i64 0])/\Wr.ReadsA w' a (Wr.putD D (evA nm R)).length (Wr.atD (Wr.putD D (evA nm R))))/\Below V.heap.size V w':=by
 have at_:∀ j,j<D.length->(Wr.atD D j).len<=1000000:=fun j hj=>by
  have e:Wr.atD D j=D[j]:=by simp [Wr.atD,List.getD,List.getElem?_eq_getElem hj]
  rw [e];have:=hD.ln _ (List.getElem_mem hj);omega
 have S:=Wr.setL_any oa D.length oc (Wr.atD D) (evA nm R) va vc (by omega) at_ (Kt hD.ri) (by show nm.size<=_;omega) (by show (0:Nat)<=_;omega) (by show (rzL R).length<=_;omega) V h hy;refine S.mono fun e w' hp=>?_
 unfold Wr.SetPost at hp;rw [Kd hD.tw,Hu] at hp
 have he:Wr.errSet D (evA nm R)=0:=by
  unfold Wr.errSet;rw [if_neg (show ¬ aW (evA nm R).m.data.toList=false by show ¬ aW nm.data.toList=false;rw [hg];decide)];rw [if_pos (show Wr.errV (evA nm R).k (evA nm R).s (evA nm R).len (evA nm R).z=0 from hv),if_neg (fun hh=>by have:=hh.2;omega)]
 rw [if_pos he] at hp;exact hp
theorem FF {G:Nat->Prop} (l:List LN) (a:Option Addr) (c:Nat) (rs:List RW) (ya:Option Addr) (yc:Nat) (w:World) (hN:J3 l) (hO:OkP l) (hr:cT G w a l) (hy:bL w ya rs)
 (EV0:∀ (x:LN),x∈l->∀ (p:PA) (V:World),aJ G V x.a p->bL V ya rs->Calls Tryz.prog 43 #[agV x.a p,.slice ya rs.length yc] V (mD (evG x.a (rs.map RW.g)) V)) :
 Calls Tryz.prog 17 #[.slice a l.length c,.slice ya rs.length yc] w fun e w'=>∃ oa oc,e=.returned (.slice oa (lR (rs.map RW.g) l []).length oc)/\Wr.ReadsA w' oa (lR (rs.map RW.g) l []).length (Wr.atD (lR (rs.map RW.g) l []))/\Below w.heap.size w w':=by
 obtain ⟨gs,hgs⟩:∃ gs,rs.map RW.g=gs:=⟨_,rfl⟩;obtain ⟨full,hfull⟩:∃ t,lR gs l []=t:=⟨_,rfl⟩;have EV:=aA EV0;clear EV0;rw [hgs] at EV |-
 rw [hfull];have HE:=aA (fun (x:LN) (hx:x∈l)=>And.intro (hN.fine x hx).1 (And.intro (hN.fine x hx).2.2 (hO.nm x hx).1));have hl:l.length<=8:=hN.len;have K0:=aA (show RNW G w a l ya rs none [] w from ⟨Below.refl _ _,hr,hy,⟨Nat.zero_le _,.inl rfl⟩⟩);have HF0:=aA (show lR gs (l.drop 0) []=full by rw [List.drop_zero];exact hfull);have R0:=aA (show OkQ ([]:List Wr.AD) from ⟨fun _ h=>(nomatch h),fun _ h=>(nomatch h),List.Pairwise.nil⟩);clear hr hy hfull hgs hN hO;go_enter Tryz.func17,Tryz.ntmps17
 go_wp2_with fail
 go_loopw [5,14] (fun v i wr=>∃ (k n:Nat) (D:List Wr.AD) (oa:Option Addr) (oc:Nat),v=.slice oa n oc/\i=.int .i64 (k:Nat)/\k<=l.length/\n<=k/\Hid (D.length=n)/\Hid (lR gs (l.drop k) D=full)/\Hid (OkQ D)/\Hid (RNW G w a l ya rs oa D wr)) (fun _ i _=>l.length-(intOf i).toNat)
 case atStart=>exact ⟨0,0,[],none,0,rfl,rfl,Nat.zero_le _,Nat.le_refl _,aA rfl,HF0,R0,K0⟩
 case round =>
  obtain ⟨k,n,D,oa,oc,rfl,rfl,hk,hnk,HL,HF,HR,HK⟩:=hrel;clear K0 HF0 R0;by_cases hlt:k<l.length
  · obtain ⟨x,hx⟩:∃ x,l[k]? = some x:=⟨_,List.getElem?_eq_getElem hlt⟩
    have hd:l.drop k=x::l.drop (k+1):=by
     rw [List.drop_eq_getElem_cons hlt];rw [List.getElem?_eq_getElem hlt] at hx;rw [Option.some.inj hx]
    have hmem:=List.mem_of_getElem? hx;obtain ⟨b,off,p,hya,hbl,hG,⟨p0,p1,p2,p3,p4,p5,p6,p7,p8,p9,p10,p11⟩,hrd⟩:=HK.out.l.at hx;subst hya;obtain ⟨R,hR⟩:∃ R,evG x.a gs=R:=⟨_,rfl⟩;have hF:=HF.out;rw [hd,lR,hR] at hF;have BD:=bA0 wr (lnO x p);have ND:=heap_alloc_new wr (lnO x p);have E1:=EV.out x hmem p (wr.alloc (lnO x p)) (hrd.kept BD) (nE HK.out.y BD);have hz:=EU (HE.out x hmem).1 gs;have hfit:=Nc (HE.out x hmem).1 gs;rw [hR] at E1 hz hfit;have E2:=aA (E1.mono (fun e w' h=>LL hz h));have HF2:=aA hF;have HZ:=aA hz;have HFIT:=aA hfit;have HGN:=aA (HE.out x hmem).2;have K2:=aA (HK.out.step BD);have b1:(k:Int)<(l.length:Int):=by omega
    have b2:(0:Int)<=(k:Int):=by omega
    have b3:((k:Int)).toNat=k:=by omega
    clear hd hx hF hG hR E1 hmem hz hrd hfit BD HK;go_upto_region 5 with fail
    generalize World.alloc wr _=V at ND K2 E2;generalize wr.heap.size=B2 at ND;have HND:=aA ND;obtain ⟨q0,q1,q2,q3,q4,q5,q6,q7,q8,q9,q10,q11⟩:=qF HND.out;clear ND p0 p1 p2 p3 p4 p5 p6 p7 p8 p9 p10 p11;go_wp2_with fail
    refine E2.out.mono ?_;rintro e w5 ⟨hb,va,vc,rfl,hv⟩;have BV:=bA0 w5 (.cells #[.int .i64 (rzK R),.int .i64 (rzN R),.string ⟨#[]⟩,.slice va (rzL R).length vc] 60);have K5:=(K2.out.step hb).step BV;have V5:=hv.kept BV;have NB:=heap_alloc_new w5 (.cells #[.int .i64 (rzK R),.int .i64 (rzN R),.string ⟨#[]⟩,.slice va (rzL R).length vc] 60);have P0:=(hb.trans (BV.mono hb.size)).block _ (aB HND.out);have P1:=P0.trans HND.out;clear hb hv BV P0 E2 q0 q1 q2 q3 q4 q5 q6 q7 q8 q9 q10 q11 K2 HND;go_upto_region 6 with fail
    generalize World.alloc w5 _=W at K5 V5 NB P1;generalize w5.heap.size=B at NB;have HK5:=aA K5;have HV5:=aA V5;have HNB:=aA NB;have HP1:=aA P1;clear K5 V5 NB P1;cases hok:Ib R with
    | false =>
      have HF3:=aA (show lR gs (l.drop (k+1)) D=full by have:=HF2.out;rw [hok,if_neg (by decide)] at this;exact this);clear hok HF2;go_wp2_with fail
      go_roundw
      case rel=>exact ⟨k+1,n,D,oa,oc,rfl,by go_num,by omega,by omega,HL,HF3,HR,HK5⟩
      case measure=>simp [intOf];omega
    | true =>
      have HF3:=aA (show lR gs (l.drop (k+1)) (Wr.putD D (evA x.nm R))=full by have:=HF2.out;rw [hok,if_pos rfl] at this;exact this);have SC:=Kp (nm:=x.nm) (R:=R) (oc:=oc) (vc:=vc) HR.out (by rw [HL.out];omega) HGN.out.2 HGN.out.1 HZ.out (HFIT.out hok) HK5.out.o HV5.out;rw [HL.out] at SC;have HSC:=aA SC;obtain ⟨c0,c1,c2,c3⟩:=NK HNB.out;obtain ⟨q0, -⟩:=qF HP1.out;have hput:(Wr.putD D (evA x.nm R)).length<=D.length+1:=by unfold Wr.putD;split <;> simp <;> omega
      have hp2:(Wr.putD D (evA x.nm R)).length<=n+1:=by rw [<- HL.out];exact hput
      have HR2:=aA (HR.out.put x.nm HZ.out);clear hok HF2 SC hput;obtain ⟨m,hm⟩:∃ m,(Wr.putD D (evA x.nm R)).length=m:=⟨_,rfl⟩;rw [hm] at hp2 HSC;have HM:=aA hm;clear hm;go_wp2_with fail
      refine HSC.out.mono ?_;rintro e w6 ⟨⟨oa2,oc2,rfl,hA⟩,hb⟩;have K6:=HK5.out.step hb;have HK6:=aA (show RNW G w (some ⟨b,off,none⟩) l ya rs oa2 (Wr.putD D (evA x.nm R)) w6 from ⟨K6.b,K6.l,K6.y,by rw [HM.out];exact hA⟩);clear hb hA K6 c0 c1 c2 c3 q0 HSC;go_wp2_with fail
      go_roundw
      case rel=>exact ⟨k+1,m,_,oa2,oc2,rfl,by go_num,by omega,by omega,HM,HF3,HR2,HK6⟩
      case measure=>simp [intOf];omega
  · have e1:l.drop k=[]:=List.drop_of_length_le (by omega)
    have HD:=aA (show D=full by rw [<- HF.out,e1];rfl);have b1:¬ (k:Int)<(l.length:Int):=by omega
    clear e1;go_wp2_with fail
    go_ret;exact ⟨oa,⟨oc,by rw [<- HD.out,HL.out];rfl⟩,by rw [<- HD.out];exact HK.out.o,HK.out.b⟩
theorem Ir {G:Nat->Prop} (l:List LN) (a:Option Addr) (c:Nat) (rs:List RW) (ya:Option Addr) (yc:Nat) (w:World) (hN:J3 l) (hO:OkP l) (hU:∀ r∈rs,gN r.A r.n r.g) (hl2:rs.length<=1000) (hr:cT G w a l) (hy:bL w ya rs) :
 Calls Tryz.prog 17 #[.slice a l.length c,.slice ya rs.length yc] w fun e w'=>∃ oa oc,e=.returned (.slice oa (lR (rs.map RW.g) l []).length oc)/\Wr.ReadsA w' oa (lR (rs.map RW.g) l []).length (Wr.atD (lR (rs.map RW.g) l []))/\Below w.heap.size w w' :=
 FF l a c rs ya yc w hN hO hr hy (fun x hx p V h1 h2=>Ac x.a p rs ya yc V (hN.fine x hx).1 (hN.fine x hx).2.1 (hN.sz x hx).1 hU hl2 h1 h2)
theorem NG:Nl where
 ps:=fun w hw=>by have h:=gE Gi (by decide) w hw;rwa [Ak] at h
 pt:=fun w hw=>by have h:=gE Lx (by decide) w hw;rwa [Nb] at h
 rn:=fun a c ya yc w hr hy=>by
  have h:=Ir vR a c xI ya yc w (pM Ak) (Bv Ak) Dh (by decide) hr hy;rw [Ic] at h;exact h
 tx:=fun a c w hw hr=>by
  have h:=o9 vR a c w (by decide) (pM Ak).fine hw hr;rwa [I8] at h
 ck:=fun w hw=>by
  have h:=uX xL (by decide) (by decide) w hw;rwa [Lz] at h
end
section
open Go.ChangeShapes Go.WideShapes Go.ChangeAt Go.RowKit
theorem FO:ownKnob Tryz.prog.godebug=none:=by kernel_rfl
theorem tM {w:World} {n:String} {g:Nat} {cs:Array Value} (hg:Tryz.prog.globalNamed n=some g) (h:w.var? Tryz.prog n=some cs):∃ t f,w.heap[g]? = some (.cells cs t f):=by
 unfold World.var? at h;rw [hg] at h;simp only [Option.bind_some] at h;split at h
 · rename_i cs' t f e
   cases h;exact ⟨t,f,e⟩
 · cases h
abbrev pC:List (String×DataW Unit):=Rows.progOrderRow.laid
theorem Be: "*" ++ "errors.errorString" = "*errors.errorString" := by decide
theorem Ks (u:TypeId) (h:Tryz.prog.typeName? 3 u=some "*errors.errorString"):u=361 :=
 typeName_ptr_named (nm:= "errors.errorString") (by rw [Be];kernel_rfl) (by kernel_rfl) (by decide) u (by rw [Be];exact h)
theorem I5 {W:World} (h:laidMetH Tryz.prog pC W):kC W:=by
 rw [MakeChecks.laidMetH_plain _ _ _ (by kernel_rfl)] at h;have h2:=h.tail.tail;have htab:=Lib.tabIs_of_head (g:=1) (k:=.u64) (zs:=Lib.pow10Tab) (by kernel_rfl) (by kernel_rfl) Tryz.underlying316 Tryz.underlying268 (by kernel_rfl) (by kernel_rfl) h2;unfold Lib.TabIs World.var? at htab;rw [show Tryz.prog.globalNamed "internal/strconv.uint64pow10" = some 1 by kernel_rfl] at htab;simp only [Option.bind_some] at htab;split at htab
 · rename_i cs' t f e
   cases htab;exact ⟨t,f,e⟩
 · cases htab
theorem I4 {W:World} (h:laidMetH Tryz.prog pC W):gO W:=by
 rw [MakeChecks.laidMetH_plain _ _ _ (by kernel_rfl)] at h;have h4:=h.tail.tail.tail.tail;have h5:=h4.tail;have hrow:∀ u,Tryz.prog.typeName? 3 u=some "*errors.errorString" -> u=361:=Ks;obtain ⟨a0,s0,v0, -, -, -⟩:=laid_sentinel (g:=7) h4 (by kernel_rfl) (by kernel_rfl) Tryz.underlying94 hrow Tryz.underlying361 Tryz.underlying363 rfl rfl Tryz.underlying9 (by kernel_rfl) (by kernel_rfl);obtain ⟨a1,s1,v1, -, -, -⟩:=laid_sentinel (g:=6) h5 (by kernel_rfl) (by kernel_rfl) Tryz.underlying94 hrow Tryz.underlying361 Tryz.underlying363 rfl rfl Tryz.underlying9 (by kernel_rfl) (by kernel_rfl);obtain ⟨t1,f1,p1⟩:=tM (g:=7) (by kernel_rfl) v0;obtain ⟨t2,f2,p2⟩:=tM (g:=6) (by kernel_rfl) v1;exact ⟨⟨_,_,t2,f2,p2⟩,⟨_,_,t1,f1,p1⟩⟩
theorem I3 {W:World} (h:laidMetH Tryz.prog pC W):xC W:=⟨I4 h,I5 h⟩
theorem Hq {n:Int} (h:(Lit.int .u8 n).wf=true):∃ t:Nat,t<256/\n=t:=by
 simp [Lit.wf,IntKind.min,IntKind.max,IntKind.bits,IntKind.signed] at h;exact ⟨n.toNat,by omega,by omega⟩
theorem Df (os:Os) (args:Array Value):laidMetH Tryz.prog pC ((World.laidAll Tryz.prog os pC).forCall (fun _ _=>0) ⟨#[],args,[]⟩).memory:=by
 rw [MakeChecks.laidMetH_plain _ _ _ (by kernel_rfl)];exact laidMet_laidAll _ (by kernel_rfl) (by kernel_rfl)
theorem xH (os:Os):(World.laidAll Tryz.prog os pC).Shaped Tryz.prog:=World.shaped_of_ZipB (by kernel_rfl) (by kernel_rfl)
end
section
open Go.ChangeShapes Go.WideShapes Go.ChangeAt Go.RowKit
open Go.ChangeMaps (open_string shut_string)
theorem progLines_lifted (os:Os) (started:os.Started) (H:Type) (enc:TypeId×Value->H) :
 ReturnsInHanded {} Tryz.checked os 6 .any (fun w args=>(Rows.progLinesSpec.pre enc Tryz.prog Tryz.f6 Rows.progLinesRow.domain false w args/\laidMetH Tryz.prog pC w)/\sizedMet enc Tryz.prog Tryz.f6 (OpenSpec.ofChange Rows.progLinesSpec) false w args)
  (Rows.progLinesSpec.post enc Tryz.prog Tryz.f6 false true false false):=by
 refine returnsInHanded_of_change_and (C:=Tryz.checked) (X:=fun w _=>laidMetH Tryz.prog pC w) (fun _ _ _ hh h=>h.of_heap hh) FO started (by kernel_rfl) Tryz.func6
  (ChangeSpec.witness_shaped (enc:=enc) (C:=Tryz.checked) (os:=os) (X:=fun w _=>laidMetH Tryz.prog pC w) false (World.laidAll Tryz.prog os pC) #[.int .u8 0,.int .u8 0,.int .u8 0] 8 (World.laidAll_os _ _ _)
   (xH os) (by kernel_rfl) (by kernel_rfl) (by kernel_rfl) (Df os _)) ?_
 intro W base args ds gs before hval0 hW _ _ hL _;have hval:∀ (j:Nat) t v,Tryz.f6.params[j]? = some t->args[j]? = some v->Value.okWide Tryz.prog W .any base t v:=hval0;have hW':=hW;obtain ⟨p,q,hA0,hV,rfl,_,_⟩:=hW;have hA:DataW.TrodAll enc Tryz.prog W 0 (fun _=>true) true Tryz.f6.params.toList args.toList ds p:=hA0;rw [Tryz.params6] at hA hval;obtain ⟨v0,vs0,d0,ds0,p0,q0,hargs,rfl,rfl,h0,r0⟩:=trodAll_cons hA;obtain ⟨v1,vs1,d1,ds1,p1,q1,rfl,rfl,rfl,h1,r1⟩:=trodAll_cons r0;obtain ⟨v2,vs2,d2,ds2,p2,q2,rfl,rfl,rfl,h2,r2⟩:=trodAll_cons r1;obtain ⟨rfl,rfl,rfl⟩:=trodAll_nil r2;obtain rfl:args=#[v0,v1,v2]:=by cases args;simp_all
 obtain ⟨rfl,rfl⟩:=trodVars_none hV;obtain ⟨n0,rfl,rfl,rfl,w0⟩:=open_int Tryz.underlying5 (hval 0 5 v0 rfl rfl) h0;obtain ⟨t0,ht0,rfl⟩:=Hq w0;obtain ⟨n1,rfl,rfl,rfl,w1⟩:=open_int Tryz.underlying5 (hval 1 5 v1 rfl rfl) h1;obtain ⟨t1,ht1,rfl⟩:=Hq w1;obtain ⟨n2,rfl,rfl,rfl,w2⟩:=open_int Tryz.underlying5 (hval 2 5 v2 rfl rfl) h2;obtain ⟨t2,ht2,rfl⟩:=Hq w2;have hw:=I3 hL;clear hA0 hval0 hL;refine (uR NG t0 t1 t2 ht0 ht1 ht2 W hw).mono fun e W' ⟨he,bel⟩=>?_
 subst he;exact ⟨_,rfl,_,_,_,[],_,[],hW',trodAll_mk1 (shut_bool Tryz.underlying4 _),(trodAll_cons_mk (shut_int Tryz.underlying5 w0) (trodAll_cons_mk (shut_int Tryz.underlying5 w1) (trodAll_cons_mk (shut_int Tryz.underlying5 w2) trodAll_mk0))),rfl,bel.frame _,fun h=>by cases h⟩
end
end Go.Proofs.YtgfkjkokmcejbaaGreatDoor
