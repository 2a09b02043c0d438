/-
 No statement: what AggBackCard needs, of the texts QCheck, QCond, OCheck, QEval, QOk, QBack.
-/
import Derived.Test.YtapcjnoaofmmiaaGreatDoorVB9
set_option maxHeartbeats 40000000
set_option maxRecDepth 100000
namespace Go.Proofs.YtapcjnoaofmmiaaGreatDoor
section
open Go.RowKit
theorem Ae {x:AG} {a b:List UInt8} (h:(x.fn.data.toList == a)=true) (hne:a ≠ b):(x.fn.data.toList == b)=false:=by
 rw [beq_iff_eq] at h;rw [h];exact beq_eq_false_iff_ne.2 hne
theorem j7 {G:Nat->Prop} (x:AG) (p:PA) (w:World) (hS:SzG x) (hr:aJ G w x p):Calls Tryz.prog 11 #[agV x p] w fun e w'=>e=.returned (.int .i64 (eM x))/\Below w.heap.size w w':=by
 have K0:=tP hr;generalize hW:w.alloc (agO x p)=W at K0;have HW:=aA hW;have HK:=aA K0;have HS:=aA hS;have FA:=aA (fun V=>Du x.fn V);obtain ⟨r,hR⟩:∃ r,eM x=r:=⟨_,rfl⟩;rw [hR];unfold eM at hR;clear hW K0 hr hS;obtain ⟨m0,m1,m2,m3,m4,m5,m6,m7,m8,m9,m10⟩:=aD HK.out.n;go_enter Tryz.func11,Tryz.ntmps11
 go_upto_region 1 with fail
 rw [HW.out];go_wp2_with fail
 refine (FA.out _).mono ?_;rintro e v0 ⟨rfl,rfl⟩;cases hfn:dD x.fn.data.toList with
 | false =>
   have TR:=aA (show (5:Int)=r by rw [<- hR,hfn,if_pos rfl]);clear hR;go_wp2_with fail
   go_ret;exact ⟨congrArg (fun z=>Ending.returned (.int .i64 z)) TR.out,HK.out.b⟩
 | true =>
   rw [hfn,if_neg (by decide)] at hR;clear hfn FA;cases ht:(x.fn.data.toList == cU) with
   | true =>
     have f1:=Ae ht (b:=aP) (by decide);have f2:=Ae ht (b:=aQ) (by decide);have g0:=bG ht;have g1:=aG f1;have g2:=aG f2;have ht':x.fn.data.toList=cU:=by simpa using ht
     have EE:gW x=aF x.e:=by
      unfold gW;rw [if_neg (show ¬ x.fn.data.toList=aP by simpa using f1),if_neg (show ¬ x.fn.data.toList=aQ by simpa using f2)];by_cases h:aF x.e=0
      · rw [if_pos h,h]
      · rw [if_neg h]
     have HEE:=aA EE;by_cases hk:x.k<1\/16<x.k
     · have TR:=aA (show (1:Int)=r by rw [<- hR,if_pos ⟨ht',hk⟩])
       clear hR EE ht' ht f1 f2;unfold cU at g0;rcases hk with hk | hk
       · go_wp2_with fail
         go_ret;exact ⟨congrArg (fun z=>Ending.returned (.int .i64 z)) TR.out,HK.out.b⟩
       · have hk1:¬ x.k<1:=by omega
         go_wp2_with fail
         go_ret;exact ⟨congrArg (fun z=>Ending.returned (.int .i64 z)) TR.out,HK.out.b⟩
     · rw [if_neg (fun h=>hk h.2)] at hR
       have HT:=aA hR;have hk1:¬ x.k<1:=fun h=>hk (.inl h)
       have hk2:¬ 16<x.k:=fun h=>hk (.inr h)
       have hk3:decide (x.k<1)=false:=decide_eq_false hk1;have hk4:decide (16<x.k)=false:=decide_eq_false hk2;have CE:=aA (dJ (t:=x.e) p.ec HS.out.e HK.out.r.e);clear hR EE ht' ht f1 f2 hk;unfold cU at g0;unfold aP at g1;unfold aQ at g2;obtain ⟨ev,hev⟩:∃ e,aF x.e=e:=⟨_,rfl⟩;rw [hev] at CE HEE;go_wp2_with fail
       refine CE.out.mono ?_;rintro e v1 ⟨rfl,hb⟩;have K1:=aA (HK.out.step hb);clear hb CE hev m0 m1 m2 m3 m4 m5 m6 m7 m8 m9 m10;by_cases he:ev=0
       · subst he
         have HE:=HEE;have TA:=aA (p:=(if gW x=0 then (if 4<x.wh.length then (4:Int) else cL x.wh) else gW x)=r) HT.out;obtain ⟨m0,m1,m2,m3,m4,m5,m6,m7,m8,m9,m10⟩:=aD K1.out.n;have TB:=aA (show (if 4<x.wh.length then (4:Int) else cL x.wh)=r by rw [<- TA.out,HE.out,if_pos rfl]);by_cases h4:4<x.wh.length
         · have a4:(4:Int)<(x.wh.length:Int):=by omega
           have TR:=aA (show (4:Int)=r by rw [<- TB.out,if_pos h4]);go_wp2_with fail
           go_ret;exact ⟨congrArg (fun z=>Ending.returned (.int .i64 z)) TR.out,K1.out.b⟩
         · have a4:¬ (4:Int)<(x.wh.length:Int):=by omega
           have a5:decide (4<x.wh.length)=false:=decide_eq_false h4;have T0:=aA (show cL (x.wh.drop 0)=r by rw [List.drop_zero, <- TB.out,if_neg h4]);clear TA TB;go_wp2_with fail
           clear m0 m1 m2 m3 m4 m5 m6 m7 m8 m9 m10;go_loopw [4,5,6,7] (fun i x5 x6 x7 wr=>∃ (k:Nat) (y5 y6 y7:Value),i=.int .i64 k/\x5=y5/\x6=y6/\x7=y7/\k<=x.wh.length/\Hid (cL (x.wh.drop k)=r)/\Hid (KA G w x p wr)) (fun i _ _ _ _=>x.wh.length-(intOf i).toNat)
           case atStart=>exact ⟨0,_,_,_,rfl,rfl,rfl,rfl,Nat.zero_le _,T0,K1⟩
           case round =>
            obtain ⟨k,y5,y6,y7,rfl,rfl,rfl,rfl,hk,HC,HK⟩:=hrel;obtain ⟨m0,m1,m2,m3,m4,m5,m6,m7,m8,m9,m10⟩:=aD HK.out.n;by_cases hlt:k<x.wh.length
            · obtain ⟨d,hd⟩:∃ d,x.wh[k]? = some d:=⟨_,List.getElem?_eq_getElem hlt⟩
              have hne:¬ x.wh=[]:=fun e=>by rw [e] at hlt;simp at hlt
              obtain ⟨b,off,hwa', -, -,hcc⟩:=HK.out.r.c.resolve_left hne;have hwa:=aA hwa';clear hwa';obtain ⟨a1,c1,a2,c2,⟨p0,p1,p2,p3,p4,p5,p6,p7,p8⟩,r1,r2⟩:=hcc k d hd
              have hdr:x.wh.drop k=d::x.wh.drop (k+1):=by
               rw [List.drop_eq_getElem_cons hlt];have:=List.getElem?_eq_getElem hlt;rw [this] at hd;rw [Option.some.inj hd]
              have hsz:=HS.out.c d (List.mem_of_getElem? hd);have HD:=aA (show (if (aS d.op 0 0).isSome=false then (5:Int) else if aF d.a=0 then (if aF d.b=0 then cL (x.wh.drop (k+1)) else aF d.b) else aF d.a)=r by rw [<- HC.out,hdr];rfl);have A1:=aA (fun V (hV:Below wr.heap.size wr V)=>dJ (t:=d.a) c1 hsz.1 (r1.kept hV));have A2:=aA (fun V (hV:Below wr.heap.size wr V)=>dJ (t:=d.b) c2 hsz.2 (r2.kept hV));have HO:=aA (fun V=>lG d.op 0 0 V)
              have CE:=aA (p:=∀ V,Below wr.heap.size wr V->(V.cell? ⟨b,off+k*9,none⟩=some (.string d.op)/\V.cell? ⟨b,off+k*9+1,none⟩=some (.string d.a.op)/\V.cell? ⟨b,off+k*9+1+1,none⟩=some (.string d.a.nm)/\V.cell? ⟨b,off+k*9+1+2,none⟩=some (.int .i64 d.a.n)/\V.cell? ⟨b,off+k*9+1+3,none⟩=some (.slice a1 d.a.ks.len c1)/\V.cell? ⟨b,off+k*9+5,none⟩=some (.string d.b.op)/\V.cell? ⟨b,off+k*9+5+1,none⟩=some (.string d.b.nm)/\V.cell? ⟨b,off+k*9+5+2,none⟩=some (.int .i64 d.b.n)/\V.cell? ⟨b,off+k*9+5+3,none⟩=some (.slice a2 d.b.ks.len c2))) (fun V hV=>by
               have hbl:b<wr.heap.size:=by have:=World.block_lt_of_cell? wr _ p0;simpa using this
               exact ⟨(hV.cell (p:=⟨b,_,none⟩) hbl).trans p0,(hV.cell (p:=⟨b,_,none⟩) hbl).trans p1,(hV.cell (p:=⟨b,_,none⟩) hbl).trans p2,(hV.cell (p:=⟨b,_,none⟩) hbl).trans p3,(hV.cell (p:=⟨b,_,none⟩) hbl).trans p4,(hV.cell (p:=⟨b,_,none⟩) hbl).trans p5,(hV.cell (p:=⟨b,_,none⟩) hbl).trans p6,(hV.cell (p:=⟨b,_,none⟩) hbl).trans p7,(hV.cell (p:=⟨b,_,none⟩) hbl).trans p8⟩)
              obtain ⟨z,hz⟩:∃ z,(aS d.op 0 0).isSome=z:=⟨_,rfl⟩;obtain ⟨y,hy⟩:∃ y,(aS d.op 0 0).getD false=y:=⟨_,rfl⟩;obtain ⟨e1,he1⟩:∃ e,aF d.a=e:=⟨_,rfl⟩;obtain ⟨e2,he2⟩:∃ e,aF d.b=e:=⟨_,rfl⟩;rw [hz,hy] at HO;rw [hz,he1,he2] at HD;rw [he1] at A1;rw [he2] at A2;rw [hwa.out] at m10;have b1:(k:Int)<(x.wh.length:Int):=by omega
              have b2:(0:Int)<=(k:Int):=by omega
              have b3:((k:Int)).toNat=k:=by omega
              clear hd hne hcc hdr hsz r1 r2 hz hy he1 he2;go_wp2_with fail
              refine (HO.out _).mono ?_;rintro e v1 ⟨rfl,rfl⟩;cases z with
              | false =>
                have TR:=aA (show (5:Int)=r by rw [<- HD.out];rfl);go_wp2_with fail
                go_ret;exact ⟨congrArg (fun z=>Ending.returned (.int .i64 z)) TR.out,HK.out.b⟩
              | true =>
                have HD1:=aA (show (if e1=0 then (if e2=0 then cL (x.wh.drop (k+1)) else e2) else e1)=r by rw [<- HD.out];rfl);clear HD;go_wp2_with fail
                refine (A1.out wr (Below.refl _ _)).mono ?_;rintro e v2 ⟨rfl,hb⟩;have K2:=aA (HK.out.step hb);have B2:=aA hb;clear hb p0 p1 p2 p3 p4 p5 p6 p7 p8 m0 m1 m2 m3 m4 m5 m6 m7 m8 m9 m10;obtain ⟨m0,m1,m2,m3,m4,m5,m6,m7,m8,m9,m10⟩:=aD K2.out.n;obtain ⟨p0,p1,p2,p3,p4,p5,p6,p7,p8⟩:=CE.out v2 B2.out;rw [hwa.out] at m10;by_cases he:e1=0
                · subst he
                  have HD2:=aA (show (if e2=0 then cL (x.wh.drop (k+1)) else e2)=r by rw [<- HD1.out,if_pos rfl]);clear HD1;go_wp2_with fail
                  refine (A2.out v2 B2.out).mono ?_;rintro e v3 ⟨rfl,hb⟩;have K3:=aA (K2.out.step hb);clear hb;by_cases he:e2=0
                  · subst he
                    have HD3:=aA (show cL (x.wh.drop (k+1))=r by rw [<- HD2.out,if_pos rfl]);go_wp2_with fail
                    go_roundw
                    case rel=>exact ⟨k+1,_,_,_,by go_num,rfl,rfl,rfl,by omega,HD3,K3⟩
                    case measure=>simp [intOf];omega
                  · have q1:(e2 == 0)=false:=by simpa using he
                    have q2:(e2 != 0)=true:=by simpa using he
                    have TR:=aA (show e2=r by rw [<- HD2.out,if_neg he]);go_wp2_with fail
                    go_ret;exact ⟨congrArg (fun z=>Ending.returned (.int .i64 z)) TR.out,K3.out.b⟩
                · have q1:(e1 == 0)=false:=by simpa using he
                  have q2:(e1 != 0)=true:=by simpa using he
                  have TR:=aA (show e1=r by rw [<- HD1.out,if_neg he]);go_wp2_with fail
                  go_ret;exact ⟨congrArg (fun z=>Ending.returned (.int .i64 z)) TR.out,K2.out.b⟩
            · have TR:=aA (show (0:Int)=r by rw [<- HC.out,List.drop_of_length_le (by omega)];rfl)
              have b1:¬ (k:Int)<(x.wh.length:Int):=by omega
              go_wp2_with fail
              go_ret;exact ⟨congrArg (fun z=>Ending.returned (.int .i64 z)) TR.out,HK.out.b⟩
       · have q1:(ev == 0)=false:=by simpa using he
         have q2:(ev != 0)=true:=by simpa using he
         have TR:=aA (show ev=r by rw [<- HT.out,HEE.out,if_neg he]);obtain ⟨m0,m1,m2,m3,m4,m5,m6,m7,m8,m9,m10⟩:=aD K1.out.n;go_wp2_with fail
         go_ret;exact ⟨congrArg (fun z=>Ending.returned (.int .i64 z)) TR.out,K1.out.b⟩
   | false =>
     have ht':¬ x.fn.data.toList=cU:=by simpa using ht
     rw [if_neg (fun h=>ht' h.1)] at hR;have HT:=aA hR;have g0:=aG ht;unfold cU at g0;clear hR ht';cases hc:(x.fn.data.toList == aP) with
     | true =>
       have HE:=aA (show gW x=0 by unfold gW;rw [if_pos (show x.fn.data.toList=aP by simpa using hc)]);have g1:=bG hc;unfold aP at g1;clear hc ht;clear m1 m2 m3 m4 m5 m6 m7 m8 m9 m10;have TA:=aA (p:=(if gW x=0 then (if 4<x.wh.length then (4:Int) else cL x.wh) else gW x)=r) HT.out;obtain ⟨-,m1,m2,m3,m4,m5,m6,m7,m8,m9,m10⟩:=aD HK.out.n;have TB:=aA (show (if 4<x.wh.length then (4:Int) else cL x.wh)=r by rw [<- TA.out,HE.out,if_pos rfl]);by_cases h4:4<x.wh.length
       · have a4:(4:Int)<(x.wh.length:Int):=by omega
         have TR:=aA (show (4:Int)=r by rw [<- TB.out,if_pos h4]);go_wp2_with fail
         go_ret;exact ⟨congrArg (fun z=>Ending.returned (.int .i64 z)) TR.out,HK.out.b⟩
       · have a4:¬ (4:Int)<(x.wh.length:Int):=by omega
         have a5:decide (4<x.wh.length)=false:=decide_eq_false h4;have T0:=aA (show cL (x.wh.drop 0)=r by rw [List.drop_zero, <- TB.out,if_neg h4]);clear TA TB;go_wp2_with fail
         clear m0 m1 m2 m3 m4 m5 m6 m7 m8 m9 m10;go_loopw [4,5,6,7] (fun i x5 x6 x7 wr=>∃ (k:Nat) (y5 y6 y7:Value),i=.int .i64 k/\x5=y5/\x6=y6/\x7=y7/\k<=x.wh.length/\Hid (cL (x.wh.drop k)=r)/\Hid (KA G w x p wr)) (fun i _ _ _ _=>x.wh.length-(intOf i).toNat)
         case atStart=>exact ⟨0,_,_,_,rfl,rfl,rfl,rfl,Nat.zero_le _,T0,HK⟩
         case round =>
          obtain ⟨k,y5,y6,y7,rfl,rfl,rfl,rfl,hk,HC,HK⟩:=hrel;obtain ⟨m0,m1,m2,m3,m4,m5,m6,m7,m8,m9,m10⟩:=aD HK.out.n;by_cases hlt:k<x.wh.length
          · obtain ⟨d,hd⟩:∃ d,x.wh[k]? = some d:=⟨_,List.getElem?_eq_getElem hlt⟩
            have hne:¬ x.wh=[]:=fun e=>by rw [e] at hlt;simp at hlt
            obtain ⟨b,off,hwa', -, -,hcc⟩:=HK.out.r.c.resolve_left hne;have hwa:=aA hwa';clear hwa';obtain ⟨a1,c1,a2,c2,⟨p0,p1,p2,p3,p4,p5,p6,p7,p8⟩,r1,r2⟩:=hcc k d hd
            have hdr:x.wh.drop k=d::x.wh.drop (k+1):=by
             rw [List.drop_eq_getElem_cons hlt];have:=List.getElem?_eq_getElem hlt;rw [this] at hd;rw [Option.some.inj hd]
            have hsz:=HS.out.c d (List.mem_of_getElem? hd);have HD:=aA (show (if (aS d.op 0 0).isSome=false then (5:Int) else if aF d.a=0 then (if aF d.b=0 then cL (x.wh.drop (k+1)) else aF d.b) else aF d.a)=r by rw [<- HC.out,hdr];rfl);have A1:=aA (fun V (hV:Below wr.heap.size wr V)=>dJ (t:=d.a) c1 hsz.1 (r1.kept hV));have A2:=aA (fun V (hV:Below wr.heap.size wr V)=>dJ (t:=d.b) c2 hsz.2 (r2.kept hV));have HO:=aA (fun V=>lG d.op 0 0 V)
            have CE:=aA (p:=∀ V,Below wr.heap.size wr V->(V.cell? ⟨b,off+k*9,none⟩=some (.string d.op)/\V.cell? ⟨b,off+k*9+1,none⟩=some (.string d.a.op)/\V.cell? ⟨b,off+k*9+1+1,none⟩=some (.string d.a.nm)/\V.cell? ⟨b,off+k*9+1+2,none⟩=some (.int .i64 d.a.n)/\V.cell? ⟨b,off+k*9+1+3,none⟩=some (.slice a1 d.a.ks.len c1)/\V.cell? ⟨b,off+k*9+5,none⟩=some (.string d.b.op)/\V.cell? ⟨b,off+k*9+5+1,none⟩=some (.string d.b.nm)/\V.cell? ⟨b,off+k*9+5+2,none⟩=some (.int .i64 d.b.n)/\V.cell? ⟨b,off+k*9+5+3,none⟩=some (.slice a2 d.b.ks.len c2))) (fun V hV=>by
             have hbl:b<wr.heap.size:=by have:=World.block_lt_of_cell? wr _ p0;simpa using this
             exact ⟨(hV.cell (p:=⟨b,_,none⟩) hbl).trans p0,(hV.cell (p:=⟨b,_,none⟩) hbl).trans p1,(hV.cell (p:=⟨b,_,none⟩) hbl).trans p2,(hV.cell (p:=⟨b,_,none⟩) hbl).trans p3,(hV.cell (p:=⟨b,_,none⟩) hbl).trans p4,(hV.cell (p:=⟨b,_,none⟩) hbl).trans p5,(hV.cell (p:=⟨b,_,none⟩) hbl).trans p6,(hV.cell (p:=⟨b,_,none⟩) hbl).trans p7,(hV.cell (p:=⟨b,_,none⟩) hbl).trans p8⟩)
            obtain ⟨z,hz⟩:∃ z,(aS d.op 0 0).isSome=z:=⟨_,rfl⟩;obtain ⟨y,hy⟩:∃ y,(aS d.op 0 0).getD false=y:=⟨_,rfl⟩;obtain ⟨e1,he1⟩:∃ e,aF d.a=e:=⟨_,rfl⟩;obtain ⟨e2,he2⟩:∃ e,aF d.b=e:=⟨_,rfl⟩;rw [hz,hy] at HO;rw [hz,he1,he2] at HD;rw [he1] at A1;rw [he2] at A2;rw [hwa.out] at m10;have b1:(k:Int)<(x.wh.length:Int):=by omega
            have b2:(0:Int)<=(k:Int):=by omega
            have b3:((k:Int)).toNat=k:=by omega
            clear hd hne hcc hdr hsz r1 r2 hz hy he1 he2;go_wp2_with fail
            refine (HO.out _).mono ?_;rintro e v1 ⟨rfl,rfl⟩;cases z with
            | false =>
              have TR:=aA (show (5:Int)=r by rw [<- HD.out];rfl);go_wp2_with fail
              go_ret;exact ⟨congrArg (fun z=>Ending.returned (.int .i64 z)) TR.out,HK.out.b⟩
            | true =>
              have HD1:=aA (show (if e1=0 then (if e2=0 then cL (x.wh.drop (k+1)) else e2) else e1)=r by rw [<- HD.out];rfl);clear HD;go_wp2_with fail
              refine (A1.out wr (Below.refl _ _)).mono ?_;rintro e v2 ⟨rfl,hb⟩;have K2:=aA (HK.out.step hb);have B2:=aA hb;clear hb p0 p1 p2 p3 p4 p5 p6 p7 p8 m0 m1 m2 m3 m4 m5 m6 m7 m8 m9 m10;obtain ⟨m0,m1,m2,m3,m4,m5,m6,m7,m8,m9,m10⟩:=aD K2.out.n;obtain ⟨p0,p1,p2,p3,p4,p5,p6,p7,p8⟩:=CE.out v2 B2.out;rw [hwa.out] at m10;by_cases he:e1=0
              · subst he
                have HD2:=aA (show (if e2=0 then cL (x.wh.drop (k+1)) else e2)=r by rw [<- HD1.out,if_pos rfl]);clear HD1;go_wp2_with fail
                refine (A2.out v2 B2.out).mono ?_;rintro e v3 ⟨rfl,hb⟩;have K3:=aA (K2.out.step hb);clear hb;by_cases he:e2=0
                · subst he
                  have HD3:=aA (show cL (x.wh.drop (k+1))=r by rw [<- HD2.out,if_pos rfl]);go_wp2_with fail
                  go_roundw
                  case rel=>exact ⟨k+1,_,_,_,by go_num,rfl,rfl,rfl,by omega,HD3,K3⟩
                  case measure=>simp [intOf];omega
                · have q1:(e2 == 0)=false:=by simpa using he
                  have q2:(e2 != 0)=true:=by simpa using he
                  have TR:=aA (show e2=r by rw [<- HD2.out,if_neg he]);go_wp2_with fail
                  go_ret;exact ⟨congrArg (fun z=>Ending.returned (.int .i64 z)) TR.out,K3.out.b⟩
              · have q1:(e1 == 0)=false:=by simpa using he
                have q2:(e1 != 0)=true:=by simpa using he
                have TR:=aA (show e1=r by rw [<- HD1.out,if_neg he]);go_wp2_with fail
                go_ret;exact ⟨congrArg (fun z=>Ending.returned (.int .i64 z)) TR.out,K2.out.b⟩
          · have TR:=aA (show (0:Int)=r by rw [<- HC.out,List.drop_of_length_le (by omega)];rfl)
            have b1:¬ (k:Int)<(x.wh.length:Int):=by omega
            go_wp2_with fail
            go_ret;exact ⟨congrArg (fun z=>Ending.returned (.int .i64 z)) TR.out,HK.out.b⟩
     | false =>
       have g1:=aG hc;have hc':¬ x.fn.data.toList=aP:=by simpa using hc
       unfold aP at g1;have CE:=aA (dJ (t:=x.e) p.ec HS.out.e HK.out.r.e);have CG:=aA (fun V (hV:Below W.heap.size W V)=>dJ (t:=x.g) p.gc HS.out.g (HK.out.r.g.kept hV));cases hf:(x.fn.data.toList == aQ) with
       | true =>
         have g2:=bG hf;unfold aQ at g2;have HEE:=aA (show gW x=if aF x.e=0 then aF x.g else aF x.e by unfold gW;rw [if_neg hc',if_pos (show x.fn.data.toList=aQ by simpa using hf)]);clear hc hf ht hc';obtain ⟨ev,hev⟩:∃ e,aF x.e=e:=⟨_,rfl⟩;obtain ⟨gv,hgv⟩:∃ e,aF x.g=e:=⟨_,rfl⟩;rw [hev] at CE HEE;rw [hgv] at CG HEE;go_wp2_with fail
         refine CE.out.mono ?_;rintro e v1 ⟨rfl,hb⟩;have K1:=aA (HK.out.step hb);have B1:=aA hb;clear hb CE hev hgv m0 m1 m2 m3 m4 m5 m6 m7 m8 m9 m10;obtain ⟨m0,m1,m2,m3,m4,m5,m6,m7,m8,m9,m10⟩:=aD K1.out.n;by_cases he:ev=0
         · subst he
           go_wp2_with fail
           refine (CG.out v1 B1.out).mono ?_;rintro e v2 ⟨rfl,hb⟩;have K2:=aA (K1.out.step hb);clear hb CG m0 m1 m2 m3 m4 m5 m6 m7 m8 m9 m10;by_cases he:gv=0
           · subst he
             have HE:=aA (show gW x=0 by have h1:=HEE.out;simpa using h1);have TA:=aA (p:=(if gW x=0 then (if 4<x.wh.length then (4:Int) else cL x.wh) else gW x)=r) HT.out;obtain ⟨m0,m1,m2,m3,m4,m5,m6,m7,m8,m9,m10⟩:=aD K2.out.n;have TB:=aA (show (if 4<x.wh.length then (4:Int) else cL x.wh)=r by rw [<- TA.out,HE.out,if_pos rfl]);by_cases h4:4<x.wh.length
             · have a4:(4:Int)<(x.wh.length:Int):=by omega
               have TR:=aA (show (4:Int)=r by rw [<- TB.out,if_pos h4]);go_wp2_with fail
               go_ret;exact ⟨congrArg (fun z=>Ending.returned (.int .i64 z)) TR.out,K2.out.b⟩
             · have a4:¬ (4:Int)<(x.wh.length:Int):=by omega
               have a5:decide (4<x.wh.length)=false:=decide_eq_false h4;have T0:=aA (show cL (x.wh.drop 0)=r by rw [List.drop_zero, <- TB.out,if_neg h4]);clear TA TB;go_wp2_with fail
               clear m0 m1 m2 m3 m4 m5 m6 m7 m8 m9 m10;go_loopw [4,5,6,7] (fun i x5 x6 x7 wr=>∃ (k:Nat) (y5 y6 y7:Value),i=.int .i64 k/\x5=y5/\x6=y6/\x7=y7/\k<=x.wh.length/\Hid (cL (x.wh.drop k)=r)/\Hid (KA G w x p wr)) (fun i _ _ _ _=>x.wh.length-(intOf i).toNat)
               case atStart=>exact ⟨0,_,_,_,rfl,rfl,rfl,rfl,Nat.zero_le _,T0,K2⟩
               case round =>
                obtain ⟨k,y5,y6,y7,rfl,rfl,rfl,rfl,hk,HC,HK⟩:=hrel;obtain ⟨m0,m1,m2,m3,m4,m5,m6,m7,m8,m9,m10⟩:=aD HK.out.n;by_cases hlt:k<x.wh.length
                · obtain ⟨d,hd⟩:∃ d,x.wh[k]? = some d:=⟨_,List.getElem?_eq_getElem hlt⟩
                  have hne:¬ x.wh=[]:=fun e=>by rw [e] at hlt;simp at hlt
                  obtain ⟨b,off,hwa', -, -,hcc⟩:=HK.out.r.c.resolve_left hne;have hwa:=aA hwa';clear hwa';obtain ⟨a1,c1,a2,c2,⟨p0,p1,p2,p3,p4,p5,p6,p7,p8⟩,r1,r2⟩:=hcc k d hd
                  have hdr:x.wh.drop k=d::x.wh.drop (k+1):=by
                   rw [List.drop_eq_getElem_cons hlt];have:=List.getElem?_eq_getElem hlt;rw [this] at hd;rw [Option.some.inj hd]
                  have hsz:=HS.out.c d (List.mem_of_getElem? hd);have HD:=aA (show (if (aS d.op 0 0).isSome=false then (5:Int) else if aF d.a=0 then (if aF d.b=0 then cL (x.wh.drop (k+1)) else aF d.b) else aF d.a)=r by rw [<- HC.out,hdr];rfl);have A1:=aA (fun V (hV:Below wr.heap.size wr V)=>dJ (t:=d.a) c1 hsz.1 (r1.kept hV));have A2:=aA (fun V (hV:Below wr.heap.size wr V)=>dJ (t:=d.b) c2 hsz.2 (r2.kept hV));have HO:=aA (fun V=>lG d.op 0 0 V)
                  have CE:=aA (p:=∀ V,Below wr.heap.size wr V->(V.cell? ⟨b,off+k*9,none⟩=some (.string d.op)/\V.cell? ⟨b,off+k*9+1,none⟩=some (.string d.a.op)/\V.cell? ⟨b,off+k*9+1+1,none⟩=some (.string d.a.nm)/\V.cell? ⟨b,off+k*9+1+2,none⟩=some (.int .i64 d.a.n)/\V.cell? ⟨b,off+k*9+1+3,none⟩=some (.slice a1 d.a.ks.len c1)/\V.cell? ⟨b,off+k*9+5,none⟩=some (.string d.b.op)/\V.cell? ⟨b,off+k*9+5+1,none⟩=some (.string d.b.nm)/\V.cell? ⟨b,off+k*9+5+2,none⟩=some (.int .i64 d.b.n)/\V.cell? ⟨b,off+k*9+5+3,none⟩=some (.slice a2 d.b.ks.len c2))) (fun V hV=>by
                   have hbl:b<wr.heap.size:=by have:=World.block_lt_of_cell? wr _ p0;simpa using this
                   exact ⟨(hV.cell (p:=⟨b,_,none⟩) hbl).trans p0,(hV.cell (p:=⟨b,_,none⟩) hbl).trans p1,(hV.cell (p:=⟨b,_,none⟩) hbl).trans p2,(hV.cell (p:=⟨b,_,none⟩) hbl).trans p3,(hV.cell (p:=⟨b,_,none⟩) hbl).trans p4,(hV.cell (p:=⟨b,_,none⟩) hbl).trans p5,(hV.cell (p:=⟨b,_,none⟩) hbl).trans p6,(hV.cell (p:=⟨b,_,none⟩) hbl).trans p7,(hV.cell (p:=⟨b,_,none⟩) hbl).trans p8⟩)
                  obtain ⟨z,hz⟩:∃ z,(aS d.op 0 0).isSome=z:=⟨_,rfl⟩;obtain ⟨y,hy⟩:∃ y,(aS d.op 0 0).getD false=y:=⟨_,rfl⟩;obtain ⟨e1,he1⟩:∃ e,aF d.a=e:=⟨_,rfl⟩;obtain ⟨e2,he2⟩:∃ e,aF d.b=e:=⟨_,rfl⟩;rw [hz,hy] at HO;rw [hz,he1,he2] at HD;rw [he1] at A1;rw [he2] at A2;rw [hwa.out] at m10;have b1:(k:Int)<(x.wh.length:Int):=by omega
                  have b2:(0:Int)<=(k:Int):=by omega
                  have b3:((k:Int)).toNat=k:=by omega
                  clear hd hne hcc hdr hsz r1 r2 hz hy he1 he2;go_wp2_with fail
                  refine (HO.out _).mono ?_;rintro e v1 ⟨rfl,rfl⟩;cases z with
                  | false =>
                    have TR:=aA (show (5:Int)=r by rw [<- HD.out];rfl);go_wp2_with fail
                    go_ret;exact ⟨congrArg (fun z=>Ending.returned (.int .i64 z)) TR.out,HK.out.b⟩
                  | true =>
                    have HD1:=aA (show (if e1=0 then (if e2=0 then cL (x.wh.drop (k+1)) else e2) else e1)=r by rw [<- HD.out];rfl);clear HD;go_wp2_with fail
                    refine (A1.out wr (Below.refl _ _)).mono ?_;rintro e v2 ⟨rfl,hb⟩;have K2:=aA (HK.out.step hb);have B2:=aA hb;clear hb p0 p1 p2 p3 p4 p5 p6 p7 p8 m0 m1 m2 m3 m4 m5 m6 m7 m8 m9 m10;obtain ⟨m0,m1,m2,m3,m4,m5,m6,m7,m8,m9,m10⟩:=aD K2.out.n;obtain ⟨p0,p1,p2,p3,p4,p5,p6,p7,p8⟩:=CE.out v2 B2.out;rw [hwa.out] at m10;by_cases he:e1=0
                    · subst he
                      have HD2:=aA (show (if e2=0 then cL (x.wh.drop (k+1)) else e2)=r by rw [<- HD1.out,if_pos rfl]);clear HD1;go_wp2_with fail
                      refine (A2.out v2 B2.out).mono ?_;rintro e v3 ⟨rfl,hb⟩;have K3:=aA (K2.out.step hb);clear hb;by_cases he:e2=0
                      · subst he
                        have HD3:=aA (show cL (x.wh.drop (k+1))=r by rw [<- HD2.out,if_pos rfl]);go_wp2_with fail
                        go_roundw
                        case rel=>exact ⟨k+1,_,_,_,by go_num,rfl,rfl,rfl,by omega,HD3,K3⟩
                        case measure=>simp [intOf];omega
                      · have q1:(e2 == 0)=false:=by simpa using he
                        have q2:(e2 != 0)=true:=by simpa using he
                        have TR:=aA (show e2=r by rw [<- HD2.out,if_neg he]);go_wp2_with fail
                        go_ret;exact ⟨congrArg (fun z=>Ending.returned (.int .i64 z)) TR.out,K3.out.b⟩
                    · have q1:(e1 == 0)=false:=by simpa using he
                      have q2:(e1 != 0)=true:=by simpa using he
                      have TR:=aA (show e1=r by rw [<- HD1.out,if_neg he]);go_wp2_with fail
                      go_ret;exact ⟨congrArg (fun z=>Ending.returned (.int .i64 z)) TR.out,K2.out.b⟩
                · have TR:=aA (show (0:Int)=r by rw [<- HC.out,List.drop_of_length_le (by omega)];rfl)
                  have b1:¬ (k:Int)<(x.wh.length:Int):=by omega
                  go_wp2_with fail
                  go_ret;exact ⟨congrArg (fun z=>Ending.returned (.int .i64 z)) TR.out,HK.out.b⟩
           · have q1:(gv == 0)=false:=by simpa using he
             have q2:(gv != 0)=true:=by simpa using he
             have TR:=aA (show gv=r by
              have h1:gW x=gv:=by have h:=HEE.out;simpa using h
              rw [<- HT.out,h1,if_neg he])
             go_wp2_with fail
             go_ret;exact ⟨congrArg (fun z=>Ending.returned (.int .i64 z)) TR.out,K2.out.b⟩
         · have q1:(ev == 0)=false:=by simpa using he
           have q2:(ev != 0)=true:=by simpa using he
           have TR:=aA (show ev=r by
            have h1:gW x=ev:=by rw [HEE.out,if_neg he]
            rw [<- HT.out,h1,if_neg he])
           go_wp2_with fail
           go_ret;exact ⟨congrArg (fun z=>Ending.returned (.int .i64 z)) TR.out,K1.out.b⟩
       | false =>
         have g2:=aG hf;unfold aQ at g2
         have HEE:=aA (show gW x=aF x.e by
          unfold gW;rw [if_neg hc',if_neg (show ¬ x.fn.data.toList=aQ by simpa using hf)];by_cases h:aF x.e=0
          · rw [if_pos h,h]
          · rw [if_neg h])
         clear hc hf ht hc' CG;obtain ⟨ev,hev⟩:∃ e,aF x.e=e:=⟨_,rfl⟩;rw [hev] at CE HEE;go_wp2_with fail
         refine CE.out.mono ?_;rintro e v1 ⟨rfl,hb⟩;have K1:=aA (HK.out.step hb);clear hb CE hev m0 m1 m2 m3 m4 m5 m6 m7 m8 m9 m10;by_cases he:ev=0
         · subst he
           have HE:=HEE;have TA:=aA (p:=(if gW x=0 then (if 4<x.wh.length then (4:Int) else cL x.wh) else gW x)=r) HT.out;obtain ⟨m0,m1,m2,m3,m4,m5,m6,m7,m8,m9,m10⟩:=aD K1.out.n;have TB:=aA (show (if 4<x.wh.length then (4:Int) else cL x.wh)=r by rw [<- TA.out,HE.out,if_pos rfl]);by_cases h4:4<x.wh.length
           · have a4:(4:Int)<(x.wh.length:Int):=by omega
             have TR:=aA (show (4:Int)=r by rw [<- TB.out,if_pos h4]);go_wp2_with fail
             go_ret;exact ⟨congrArg (fun z=>Ending.returned (.int .i64 z)) TR.out,K1.out.b⟩
           · have a4:¬ (4:Int)<(x.wh.length:Int):=by omega
             have a5:decide (4<x.wh.length)=false:=decide_eq_false h4;have T0:=aA (show cL (x.wh.drop 0)=r by rw [List.drop_zero, <- TB.out,if_neg h4]);clear TA TB;go_wp2_with fail
             clear m0 m1 m2 m3 m4 m5 m6 m7 m8 m9 m10;go_loopw [4,5,6,7] (fun i x5 x6 x7 wr=>∃ (k:Nat) (y5 y6 y7:Value),i=.int .i64 k/\x5=y5/\x6=y6/\x7=y7/\k<=x.wh.length/\Hid (cL (x.wh.drop k)=r)/\Hid (KA G w x p wr)) (fun i _ _ _ _=>x.wh.length-(intOf i).toNat)
             case atStart=>exact ⟨0,_,_,_,rfl,rfl,rfl,rfl,Nat.zero_le _,T0,K1⟩
             case round =>
              obtain ⟨k,y5,y6,y7,rfl,rfl,rfl,rfl,hk,HC,HK⟩:=hrel;obtain ⟨m0,m1,m2,m3,m4,m5,m6,m7,m8,m9,m10⟩:=aD HK.out.n;by_cases hlt:k<x.wh.length
              · obtain ⟨d,hd⟩:∃ d,x.wh[k]? = some d:=⟨_,List.getElem?_eq_getElem hlt⟩
                have hne:¬ x.wh=[]:=fun e=>by rw [e] at hlt;simp at hlt
                obtain ⟨b,off,hwa', -, -,hcc⟩:=HK.out.r.c.resolve_left hne;have hwa:=aA hwa';clear hwa';obtain ⟨a1,c1,a2,c2,⟨p0,p1,p2,p3,p4,p5,p6,p7,p8⟩,r1,r2⟩:=hcc k d hd
                have hdr:x.wh.drop k=d::x.wh.drop (k+1):=by
                 rw [List.drop_eq_getElem_cons hlt];have:=List.getElem?_eq_getElem hlt;rw [this] at hd;rw [Option.some.inj hd]
                have hsz:=HS.out.c d (List.mem_of_getElem? hd);have HD:=aA (show (if (aS d.op 0 0).isSome=false then (5:Int) else if aF d.a=0 then (if aF d.b=0 then cL (x.wh.drop (k+1)) else aF d.b) else aF d.a)=r by rw [<- HC.out,hdr];rfl);have A1:=aA (fun V (hV:Below wr.heap.size wr V)=>dJ (t:=d.a) c1 hsz.1 (r1.kept hV));have A2:=aA (fun V (hV:Below wr.heap.size wr V)=>dJ (t:=d.b) c2 hsz.2 (r2.kept hV));have HO:=aA (fun V=>lG d.op 0 0 V)
                have CE:=aA (p:=∀ V,Below wr.heap.size wr V->(V.cell? ⟨b,off+k*9,none⟩=some (.string d.op)/\V.cell? ⟨b,off+k*9+1,none⟩=some (.string d.a.op)/\V.cell? ⟨b,off+k*9+1+1,none⟩=some (.string d.a.nm)/\V.cell? ⟨b,off+k*9+1+2,none⟩=some (.int .i64 d.a.n)/\V.cell? ⟨b,off+k*9+1+3,none⟩=some (.slice a1 d.a.ks.len c1)/\V.cell? ⟨b,off+k*9+5,none⟩=some (.string d.b.op)/\V.cell? ⟨b,off+k*9+5+1,none⟩=some (.string d.b.nm)/\V.cell? ⟨b,off+k*9+5+2,none⟩=some (.int .i64 d.b.n)/\V.cell? ⟨b,off+k*9+5+3,none⟩=some (.slice a2 d.b.ks.len c2))) (fun V hV=>by
                 have hbl:b<wr.heap.size:=by have:=World.block_lt_of_cell? wr _ p0;simpa using this
                 exact ⟨(hV.cell (p:=⟨b,_,none⟩) hbl).trans p0,(hV.cell (p:=⟨b,_,none⟩) hbl).trans p1,(hV.cell (p:=⟨b,_,none⟩) hbl).trans p2,(hV.cell (p:=⟨b,_,none⟩) hbl).trans p3,(hV.cell (p:=⟨b,_,none⟩) hbl).trans p4,(hV.cell (p:=⟨b,_,none⟩) hbl).trans p5,(hV.cell (p:=⟨b,_,none⟩) hbl).trans p6,(hV.cell (p:=⟨b,_,none⟩) hbl).trans p7,(hV.cell (p:=⟨b,_,none⟩) hbl).trans p8⟩)
                obtain ⟨z,hz⟩:∃ z,(aS d.op 0 0).isSome=z:=⟨_,rfl⟩;obtain ⟨y,hy⟩:∃ y,(aS d.op 0 0).getD false=y:=⟨_,rfl⟩;obtain ⟨e1,he1⟩:∃ e,aF d.a=e:=⟨_,rfl⟩;obtain ⟨e2,he2⟩:∃ e,aF d.b=e:=⟨_,rfl⟩;rw [hz,hy] at HO;rw [hz,he1,he2] at HD;rw [he1] at A1;rw [he2] at A2;rw [hwa.out] at m10;have b1:(k:Int)<(x.wh.length:Int):=by omega
                have b2:(0:Int)<=(k:Int):=by omega
                have b3:((k:Int)).toNat=k:=by omega
                clear hd hne hcc hdr hsz r1 r2 hz hy he1 he2;go_wp2_with fail
                refine (HO.out _).mono ?_;rintro e v1 ⟨rfl,rfl⟩;cases z with
                | false =>
                  have TR:=aA (show (5:Int)=r by rw [<- HD.out];rfl);go_wp2_with fail
                  go_ret;exact ⟨congrArg (fun z=>Ending.returned (.int .i64 z)) TR.out,HK.out.b⟩
                | true =>
                  have HD1:=aA (show (if e1=0 then (if e2=0 then cL (x.wh.drop (k+1)) else e2) else e1)=r by rw [<- HD.out];rfl);clear HD;go_wp2_with fail
                  refine (A1.out wr (Below.refl _ _)).mono ?_;rintro e v2 ⟨rfl,hb⟩;have K2:=aA (HK.out.step hb);have B2:=aA hb;clear hb p0 p1 p2 p3 p4 p5 p6 p7 p8 m0 m1 m2 m3 m4 m5 m6 m7 m8 m9 m10;obtain ⟨m0,m1,m2,m3,m4,m5,m6,m7,m8,m9,m10⟩:=aD K2.out.n;obtain ⟨p0,p1,p2,p3,p4,p5,p6,p7,p8⟩:=CE.out v2 B2.out;rw [hwa.out] at m10;by_cases he:e1=0
                  · subst he
                    have HD2:=aA (show (if e2=0 then cL (x.wh.drop (k+1)) else e2)=r by rw [<- HD1.out,if_pos rfl]);clear HD1;go_wp2_with fail
                    refine (A2.out v2 B2.out).mono ?_;rintro e v3 ⟨rfl,hb⟩;have K3:=aA (K2.out.step hb);clear hb;by_cases he:e2=0
                    · subst he
                      have HD3:=aA (show cL (x.wh.drop (k+1))=r by rw [<- HD2.out,if_pos rfl]);go_wp2_with fail
                      go_roundw
                      case rel=>exact ⟨k+1,_,_,_,by go_num,rfl,rfl,rfl,by omega,HD3,K3⟩
                      case measure=>simp [intOf];omega
                    · have q1:(e2 == 0)=false:=by simpa using he
                      have q2:(e2 != 0)=true:=by simpa using he
                      have TR:=aA (show e2=r by rw [<- HD2.out,if_neg he]);go_wp2_with fail
                      go_ret;exact ⟨congrArg (fun z=>Ending.returned (.int .i64 z)) TR.out,K3.out.b⟩
                  · have q1:(e1 == 0)=false:=by simpa using he
                    have q2:(e1 != 0)=true:=by simpa using he
                    have TR:=aA (show e1=r by rw [<- HD1.out,if_neg he]);go_wp2_with fail
                    go_ret;exact ⟨congrArg (fun z=>Ending.returned (.int .i64 z)) TR.out,K2.out.b⟩
              · have TR:=aA (show (0:Int)=r by rw [<- HC.out,List.drop_of_length_le (by omega)];rfl)
                have b1:¬ (k:Int)<(x.wh.length:Int):=by omega
                go_wp2_with fail
                go_ret;exact ⟨congrArg (fun z=>Ending.returned (.int .i64 z)) TR.out,HK.out.b⟩
         · have q1:(ev == 0)=false:=by simpa using he
           have q2:(ev != 0)=true:=by simpa using he
           have TR:=aA (show ev=r by rw [<- HT.out,HEE.out,if_neg he]);obtain ⟨m0,m1,m2,m3,m4,m5,m6,m7,m8,m9,m10⟩:=aD K1.out.n;go_wp2_with fail
           go_ret;exact ⟨congrArg (fun z=>Ending.returned (.int .i64 z)) TR.out,K1.out.b⟩
set_option linter.unusedSimpArgs false
abbrev cdC (x:CD) (a1:Option Addr) (c1:Nat) (a2:Option Addr) (c2:Nat):Array Value:=#[.string x.op,.string x.a.op,.string x.a.nm,.int .i64 x.a.n,.slice a1 x.a.ks.len c1,.string x.b.op,.string x.b.nm,.int .i64 x.b.n,.slice a2 x.b.ks.len c2]
abbrev cdV (x:CD) (a1:Option Addr) (c1:Nat) (a2:Option Addr) (c2:Nat):Value:=.agg (cdC x a1 c1 a2 c2)
abbrev cdO (x:CD) (a1:Option Addr) (c1:Nat) (a2:Option Addr) (c2:Nat):Obj:=.cells (cdC x a1 c1 a2 c2) 90
theorem kQ {W:World} {B:Nat} {v0 v1 v2 v3 v4 v5 v6 v7 v8:Value} {t:TypeId} (h:W.heap[B]? = some (.cells #[v0,v1,v2,v3,v4,v5,v6,v7,v8] t (0,0))) :
 W.cell? ⟨B,0,none⟩=some v0/\W.cell? ⟨B,1,none⟩=some v1/\W.cell? ⟨B,2,none⟩=some v2/\W.cell? ⟨B,3,none⟩=some v3/\W.cell? ⟨B,4,none⟩=some v4/\W.cell? ⟨B,5,none⟩=some v5/\W.cell? ⟨B,6,none⟩=some v6/\W.cell? ⟨B,7,none⟩=some v7/\W.cell? ⟨B,8,none⟩=some v8:=by
 refine ⟨?_,?_,?_,?_,?_,?_,?_,?_,?_⟩ <;> simp [World.cell?,h]
theorem JV {W:World} {B:Nat} {v0 v1 v2 v3 v4 v5 v6 v7 v8:Value} {t:TypeId} (h:W.heap[B]? = some (.cells #[v0,v1,v2,v3,v4,v5,v6,v7,v8] t (0,0))) :
 W.frozen? ⟨B,0,none⟩=false/\W.frozen? ⟨B,1,none⟩=false/\W.frozen? ⟨B,2,none⟩=false/\W.frozen? ⟨B,3,none⟩=false/\W.frozen? ⟨B,4,none⟩=false/\W.frozen? ⟨B,5,none⟩=false/\W.frozen? ⟨B,6,none⟩=false/\W.frozen? ⟨B,7,none⟩=false/\W.frozen? ⟨B,8,none⟩=false:=by
 refine ⟨?_,?_,?_,?_,?_,?_,?_,?_,?_⟩ <;> simp [World.frozen?,h]
def xT (d:CD):Int:=if (aS d.op 0 0).isSome=false then 5 else if aF d.a=0 then aF d.b else aF d.a
theorem Gm (d:CD) (r:List CD):cL (d::r)=if xT d=0 then cL r else xT d:=by
 rw [cL];unfold xT;by_cases hz:(aS d.op 0 0).isSome=false
 · rw [if_pos hz,if_pos hz,if_neg (show ¬ (5:Int)=0 by decide)]
 · rw [if_neg hz,if_neg hz]
   by_cases h:aF d.a=0
   · rw [if_pos h,if_pos h]
   · rw [if_neg h,if_neg h,if_neg h]
abbrev cdX (d:CD) (a1:Option Addr) (c1:Nat) (a2:Option Addr) (c2:Nat):Obj:=.cells #[.string d.op,.string d.a.op,.string d.a.nm,.int .i64 d.a.n,.slice a1 d.a.ks.len c1,.string d.b.op,.string d.b.nm,.int .i64 d.b.n,.slice a2 d.b.ks.len c2] 98
theorem uV (d:CD) (G:Nat->Prop) (w:World) (a1:Option Addr) (c1:Nat) (a2:Option Addr) (c2:Nat) (h1:SzF d.a.f) (h2:SzF d.b.f) (r1:aI G w a1 d.a.ks) (r2:aI G w a2 d.b.ks) :
 Calls Tryz.prog 46 #[cdV d a1 c1 a2 c2] w fun e w'=>e=.returned (.int .i64 (xT d))/\Below w.heap.size w w':=by
 have B0:=(Below.refl w.heap.size w).alloc (Nat.le_refl _) (cdX d a1 c1 a2 c2);have N0:=heap_alloc_new w (cdX d a1 c1 a2 c2);have hs0:(w.alloc (cdX d a1 c1 a2 c2)).heap.size=w.heap.size+1:=World.size_alloc _ _;have R1:=aA (r1.kept B0);have R2:=aA (r2.kept B0);generalize hW:w.alloc (cdX d a1 c1 a2 c2)=W at *;have HW:=aA hW;have HB:=aA B0;have HN:=aA N0;have CO:=aA (vN d.op W);have CA:=aA (gP d.a G W a1 c1 h1 R1.out);have CB:=aA (fun V (hV:Below W.heap.size W V)=>gP d.b G V a2 c2 h2 (R2.out.kept hV));obtain ⟨z,hz⟩:∃ z,(aS d.op 0 0).isSome=z:=⟨_,rfl⟩;obtain ⟨e1,he1⟩:∃ e,aF d.a=e:=⟨_,rfl⟩;obtain ⟨e2,he2⟩:∃ e,aF d.b=e:=⟨_,rfl⟩;obtain ⟨r,hr⟩:∃ r,xT d=r:=⟨_,rfl⟩;rw [hr];unfold xT at hr;rw [hz,he1,he2] at hr;have HR:=aA hr;rw [hz] at CO;rw [he1] at CA;rw [he2] at CB;obtain ⟨p0,p1,p2,p3,p4,p5,p6,p7,p8⟩:=kQ N0;clear hW B0 N0 h1 h2 r1 r2 hz he1 he2 hr;go_enter Tryz.func46,Tryz.ntmps46
 go_upto_region 1 with fail
 rw [show w.alloc (.cells #[.string d.op,.string d.a.op,.string d.a.nm,.int .i64 d.a.n,.slice a1 d.a.ks.len c1,.string d.b.op,.string d.b.nm,.int .i64 d.b.n,.slice a2 d.b.ks.len c2] 98)=W from HW.out];go_wp2_with fail
 refine CO.out.mono ?_;rintro e w1 ⟨rfl,rfl⟩;cases z with
 | false =>
   have TR:=aA (show (5:Int)=r from HR.out);go_wp2_with fail
   go_ret;exact ⟨congrArg (fun z=>Ending.returned (.int .i64 z)) TR.out,HB.out⟩
 | true =>
   have TR:=aA (show (if e1=0 then e2 else e1)=r from HR.out);go_wp2_with fail
   refine CA.out.mono ?_;rintro e w2 ⟨rfl,hb⟩;have HB2:=aA (HB.out.trans (hb.mono HB.out.size));have N2:=(hb.block w.heap.size (by omega)).trans HN.out;have C2:=aA (CB.out w2 hb);clear hb CA CO CB p0 p1 p2 p3 p4 p5 p6 p7 p8;obtain ⟨p0,p1,p2,p3,p4,p5,p6,p7,p8⟩:=kQ N2;clear N2;by_cases he:e1=0
   · have TS:=aA (show e2=r by rw [<- TR.out,if_pos he])
     subst he;go_wp2_with fail
     refine C2.out.mono ?_;rintro e w3 ⟨rfl,hb⟩;have HB3:=aA (HB2.out.trans (hb.mono HB2.out.size));clear hb;go_wp2_with fail
     go_ret;exact ⟨congrArg (fun z=>Ending.returned (.int .i64 z)) TS.out,HB3.out⟩
   · have TS:=aA (show e1=r by rw [<- TR.out,if_neg he])
     have q1:((e1:Int) != 0)=true:=by simpa using he
     go_wp2_with fail
     go_ret;exact ⟨congrArg (fun z=>Ending.returned (.int .i64 z)) TS.out,HB2.out⟩
def Ag (x:AG):Int :=
 if kP x.fn.data.toList=true/\¬ (1<=x.k/\x.k<=16) then 1 else
 if eP x.fn.data.toList=true/\¬ aF x.e=0 then aF x.e else
 if bP x.fn.data.toList=true then aF x.g else 0
theorem Iz (x:AG):eM x=if dD x.fn.data.toList=false then 5 else if Ag x=0 then (if 4<x.wh.length then 4 else cL x.wh) else Ag x:=by
 unfold eM;by_cases hf:dD x.fn.data.toList=false
 · rw [if_pos hf,if_pos hf]
 rw [if_neg hf,if_neg hf];have hf':dD x.fn.data.toList=true:=by simpa using hf
 unfold Ag gW;obtain ⟨F,hF⟩:∃ F,x.fn.data.toList=F:=⟨_,rfl⟩;rw [hF] at hf' |-
 have eK:kP F=true ↔ F=cU:=by unfold kP;exact beq_iff_eq
 have eB:bP F=true ↔ F=aQ:=by unfold bP;exact beq_iff_eq
 have eE:eP F=true ↔ ¬ F=aP:=by
  unfold eP;rw [hf',Bool.true_and];simp
 have d1:¬ cU=aP:=by decide
 have d2:¬ cU=aQ:=by decide
 have d3:¬ aQ=aP:=by decide
 have d4:¬ aP=aQ:=by decide
 by_cases ht:F=cU
 · have k1:=eK.2 ht
   have e1:eP F=true:=eE.2 (by rw [ht];exact d1);have b1:¬ bP F=true:=fun h=>d2 (ht.symm.trans (eB.1 h))
   by_cases hk:x.k<1\/16<x.k
   · rw [if_pos ⟨ht,hk⟩,if_pos (show kP F=true/\¬ (1<=x.k/\x.k<=16) from ⟨k1,by omega⟩),if_neg (show ¬ (1:Int)=0 by decide)]
   · rw [if_neg (fun h=>hk h.2),if_neg (show ¬ (kP F=true/\¬ (1<=x.k/\x.k<=16)) from fun h=>h.2 (by omega)),if_neg (show ¬ F=aP by rw [ht];exact d1),if_neg (show ¬ F=aQ by rw [ht];exact d2),if_neg b1]
     by_cases he:aF x.e=0
     · rw [if_pos he,if_neg (show ¬ (eP F=true/\¬ aF x.e=0) from fun h=>h.2 he)]
     · rw [if_neg he,if_pos (show eP F=true/\¬ aF x.e=0 from ⟨e1,he⟩)]
 · rw [if_neg (fun h=>ht h.1),if_neg (show ¬ (kP F=true/\¬ (1<=x.k/\x.k<=16)) from fun h=>ht (eK.1 h.1))]
   by_cases hc:F=aP
   · have e1:¬ eP F=true:=fun h=>eE.1 h hc
     have b1:¬ bP F=true:=fun h=>d4 (hc.symm.trans (eB.1 h))
     rw [if_pos hc,if_neg (show ¬ (eP F=true/\¬ aF x.e=0) from fun h=>e1 h.1),if_neg b1]
   · have e1:eP F=true:=eE.2 hc
     rw [if_neg hc];by_cases he:aF x.e=0
     · rw [if_pos he,if_neg (show ¬ (eP F=true/\¬ aF x.e=0) from fun h=>h.2 he)]
       by_cases hb:F=aQ
       · rw [if_pos hb,if_pos (eB.2 hb)]
       · rw [if_neg hb,if_neg (show ¬ bP F=true from fun h=>hb (eB.1 h))]
     · rw [if_neg he,if_pos (show eP F=true/\¬ aF x.e=0 from ⟨e1,he⟩)]
def rP:Bool->Int->Int
 | true,e2=>e2
 | false,_=>0
def t6:Bool->Bool->Int->Int->Int
 | true,bb,e1,e2=>if e1=0 then rP bb e2 else e1
 | false,bb,_,e2=>rP bb e2
def Kg:Bool->Bool->Bool->Bool->Int->Int->Int
 | true,false,_,_,_,_=>1
 | true,true,ee,bb,e1,e2=>t6 ee bb e1 e2
 | false,_,ee,bb,e1,e2=>t6 ee bb e1 e2
theorem tY (bb:Bool) {e1 e2:Int} (h:e1=0):t6 true bb e1 e2=rP bb e2:=if_pos h
theorem tZ (bb:Bool) {e1 e2:Int} (h:¬ e1=0):t6 true bb e1 e2=e1:=if_neg h
theorem IA (x:AG):Ag x=Kg (kP x.fn.data.toList) (decide (1<=x.k) && decide (x.k<=16)) (eP x.fn.data.toList) (bP x.fn.data.toList) (aF x.e) (aF x.g):=by
 unfold Ag;have hz:(decide (1<=x.k) && decide (x.k<=16))=true ↔ 1<=x.k/\x.k<=16:=by rw [Bool.and_eq_true,decide_eq_true_eq,decide_eq_true_eq]
 obtain ⟨zk,hzk⟩:∃ z,(decide (1<=x.k) && decide (x.k<=16))=z:=⟨_,rfl⟩;rw [hzk] at hz |-
 have tail:(if eP x.fn.data.toList=true/\¬ aF x.e=0 then aF x.e else if bP x.fn.data.toList=true then aF x.g else 0)=t6 (eP x.fn.data.toList) (bP x.fn.data.toList) (aF x.e) (aF x.g):=by
  have e3:(if bP x.fn.data.toList=true then aF x.g else 0)=rP (bP x.fn.data.toList) (aF x.g):=by cases bP x.fn.data.toList <;> rfl
  rw [e3];cases eP x.fn.data.toList with
  | false=>rw [if_neg (fun h=>by cases h.1)];rfl
  | true =>
    by_cases h:aF x.e=0
    · rw [if_neg (fun g=>g.2 h),tY _ h]
    · rw [if_pos ⟨rfl,h⟩,tZ _ h]
 rw [tail];cases kP x.fn.data.toList with
 | false=>rw [if_neg (fun h=>by cases h.1)];cases zk <;> rfl
 | true =>
   cases zk with
   | false=>rw [if_pos ⟨rfl,fun h=>by have:=hz.2 h;cases this⟩];rfl
   | true=>rw [if_neg (fun h=>h.2 (hz.1 rfl))];rfl
theorem uW (x:AG) (p:PA) (G:Nat->Prop) (w:World) (h1:SzF x.e.f) (h2:SzF x.g.f) (r1:aI G w p.ea x.e.ks) (r2:aI G w p.ga x.g.ks) :
 Calls Tryz.prog 45 #[agV x p,ptV x.fn.data.toList] w fun e w'=>e=.returned (.int .i64 (Ag x))/\Below w.heap.size w w':=by
 unfold ptV;have B0:=(Below.refl w.heap.size w).alloc (Nat.le_refl _) (agP x p);have N0:=heap_alloc_new w (agP x p);have hs0:(w.alloc (agP x p)).heap.size=w.heap.size+1:=World.size_alloc _ _;have R1:=r1.kept B0;have R2:=r2.kept B0;generalize hW0:w.alloc (agP x p)=W0 at *;obtain ⟨kk,hk⟩:∃ b,kP x.fn.data.toList=b:=⟨_,rfl⟩;obtain ⟨ee,he⟩:∃ b,eP x.fn.data.toList=b:=⟨_,rfl⟩;obtain ⟨bb,hb⟩:∃ b,bP x.fn.data.toList=b:=⟨_,rfl⟩;obtain ⟨r,hr⟩:∃ r,Ag x=r:=⟨_,rfl⟩;rw [hr];rw [IA,hk,he,hb] at hr;rw [hk,he,hb];have B1:=(Below.refl W0.heap.size W0).alloc (Nat.le_refl _) (ptO kk ee bb);have N1:=heap_alloc_new W0 (ptO kk ee bb);have hs1:(W0.alloc (ptO kk ee bb)).heap.size=W0.heap.size+1:=World.size_alloc _ _;have NA:=(B1.block w.heap.size (by omega)).trans N0;have BB:=B0.trans (B1.mono (by omega));have R3:=aA (R1.kept B1);have R4:=aA (R2.kept B1);generalize hW:W0.alloc (ptO kk ee bb)=W at *;rw [hs0] at N1;have HW0:=aA hW0;have HW:=aA hW;have HB:=aA BB;have HA:=aA NA;have HN:=aA N1;have MK:=aA (zT x.k W);obtain ⟨zk,hzk⟩:∃ z,(decide (1<=x.k) && decide (x.k<=16))=z:=⟨_,rfl⟩;rw [hzk] at MK hr;have CA:=aA (gP x.e G W p.ea p.ec h1 R3.out);have CB:=aA (fun V (hV:Below W.heap.size W V)=>gP x.g G V p.ga p.gc h2 (R4.out.kept hV));have C0:=aA (gP x.g G W p.ga p.gc h2 R4.out);obtain ⟨e1,he1⟩:∃ e,aF x.e=e:=⟨_,rfl⟩;obtain ⟨e2,he2⟩:∃ e,aF x.g=e:=⟨_,rfl⟩;rw [he1,he2] at hr;rw [he1] at CA;rw [he2] at CB C0;have HR:=aA hr;have HZK:=aA hzk;obtain ⟨m0,m1,m2,m3,m4,m5,m6,m7,m8,m9,m10⟩:=aD NA;obtain ⟨⟨y0,y1,y2⟩, -⟩:=cS N1
 clear hW0 hW B0 B1 N0 N1 NA BB R1 R2 h1 h2 r1 r2 he1 he2 hr hk he hb hzk hs0 hs1;go_enter Tryz.func45,Tryz.ntmps45
 go_upto_region 1 with fail
 rw [show w.alloc (.cells #[.string x.fn,.int .i64 x.k,.string x.e.op,.string x.e.nm,.int .i64 x.e.n,.slice p.ea x.e.ks.len p.ec,.string x.g.op,.string x.g.nm,.int .i64 x.g.n,.slice p.ga x.g.ks.len p.gc,.slice p.wa x.wh.length p.wc] 28)=W0 from HW0.out,HW.out];cases kk with
 | true =>
   go_wp2_with fail
   refine MK.out.mono ?_;rintro e v ⟨rfl,rfl⟩;cases zk with
   | false =>
     have TS:=aA (show (1:Int)=r from HR.out);go_wp2_with fail
     go_ret;exact ⟨congrArg (fun z=>Ending.returned (.int .i64 z)) TS.out,HB.out⟩
   | true =>
     have TR:=aA (show t6 ee bb e1 e2=r from HR.out);cases ee with
     | true =>
       go_wp2_with fail
       refine CA.out.mono ?_;rintro e w2 ⟨rfl,hb2⟩;have HB2:=aA (HB.out.trans (hb2.mono HB.out.size));have N2:=(hb2.block _ (aC HN.out)).trans HN.out;have A2:=(hb2.block _ (aC HA.out)).trans HA.out;have C2:=aA (CB.out w2 hb2);clear hb2 CA CB C0 MK m0 m1 m2 m3 m4 m5 m6 m7 m8 m9 m10 y0 y1 y2;obtain ⟨m0,m1,m2,m3,m4,m5,m6,m7,m8,m9,m10⟩:=aD A2;obtain ⟨⟨y0,y1,y2⟩, -⟩:=cS N2;clear N2 A2;by_cases hz1:e1=0
       · have TS:=aA (show rP bb e2=r by rw [<- TR.out,tY _ hz1])
         subst hz1;cases bb with
         | true =>
           have TU:=aA (show e2=r from TS.out);go_wp2_with fail
           refine C2.out.mono ?_;rintro e w3 ⟨rfl,hb3⟩;have HB3:=aA (HB2.out.trans (hb3.mono HB2.out.size));clear hb3;go_wp2_with fail
           go_ret;exact ⟨congrArg (fun z=>Ending.returned (.int .i64 z)) TU.out,HB3.out⟩
         | false =>
           have TU:=aA (show (0:Int)=r from TS.out);go_wp2_with fail
           go_ret;exact ⟨congrArg (fun z=>Ending.returned (.int .i64 z)) TU.out,HB2.out⟩
       · have TS:=aA (show e1=r by rw [<- TR.out,tZ _ hz1])
         have q1:((e1:Int) != 0)=true:=by simpa using hz1
         go_wp2_with fail
         go_ret;exact ⟨congrArg (fun z=>Ending.returned (.int .i64 z)) TS.out,HB2.out⟩
     | false =>
       have TS:=aA (show rP bb e2=r from TR.out);cases bb with
       | true =>
         have TU:=aA (show e2=r from TS.out);go_wp2_with fail
         refine C0.out.mono ?_;rintro e w3 ⟨rfl,hb3⟩;have HB3:=aA (HB.out.trans (hb3.mono HB.out.size));clear hb3;go_wp2_with fail
         go_ret;exact ⟨congrArg (fun z=>Ending.returned (.int .i64 z)) TU.out,HB3.out⟩
       | false =>
         have TU:=aA (show (0:Int)=r from TS.out);go_wp2_with fail
         go_ret;exact ⟨congrArg (fun z=>Ending.returned (.int .i64 z)) TU.out,HB.out⟩
 | false =>
   have TR:=aA (show t6 ee bb e1 e2=r from HR.out);cases ee with
   | true =>
     go_wp2_with fail
     refine CA.out.mono ?_;rintro e w2 ⟨rfl,hb2⟩;have HB2:=aA (HB.out.trans (hb2.mono HB.out.size));have N2:=(hb2.block _ (aC HN.out)).trans HN.out;have A2:=(hb2.block _ (aC HA.out)).trans HA.out;have C2:=aA (CB.out w2 hb2);clear hb2 CA CB C0 MK m0 m1 m2 m3 m4 m5 m6 m7 m8 m9 m10 y0 y1 y2;obtain ⟨m0,m1,m2,m3,m4,m5,m6,m7,m8,m9,m10⟩:=aD A2;obtain ⟨⟨y0,y1,y2⟩, -⟩:=cS N2;clear N2 A2;by_cases hz1:e1=0
     · have TS:=aA (show rP bb e2=r by rw [<- TR.out,tY _ hz1])
       subst hz1;cases bb with
       | true =>
         have TU:=aA (show e2=r from TS.out);go_wp2_with fail
         refine C2.out.mono ?_;rintro e w3 ⟨rfl,hb3⟩;have HB3:=aA (HB2.out.trans (hb3.mono HB2.out.size));clear hb3;go_wp2_with fail
         go_ret;exact ⟨congrArg (fun z=>Ending.returned (.int .i64 z)) TU.out,HB3.out⟩
       | false =>
         have TU:=aA (show (0:Int)=r from TS.out);go_wp2_with fail
         go_ret;exact ⟨congrArg (fun z=>Ending.returned (.int .i64 z)) TU.out,HB2.out⟩
     · have TS:=aA (show e1=r by rw [<- TR.out,tZ _ hz1])
       have q1:((e1:Int) != 0)=true:=by simpa using hz1
       go_wp2_with fail
       go_ret;exact ⟨congrArg (fun z=>Ending.returned (.int .i64 z)) TS.out,HB2.out⟩
   | false =>
     have TS:=aA (show rP bb e2=r from TR.out);cases bb with
     | true =>
       have TU:=aA (show e2=r from TS.out);go_wp2_with fail
       refine C0.out.mono ?_;rintro e w3 ⟨rfl,hb3⟩;have HB3:=aA (HB.out.trans (hb3.mono HB.out.size));clear hb3;go_wp2_with fail
       go_ret;exact ⟨congrArg (fun z=>Ending.returned (.int .i64 z)) TU.out,HB3.out⟩
     | false =>
       have TU:=aA (show (0:Int)=r from TS.out);go_wp2_with fail
       go_ret;exact ⟨congrArg (fun z=>Ending.returned (.int .i64 z)) TU.out,HB.out⟩
theorem fD {G:Nat->Prop} (x:AG) (p:PA) (w:World) (hS:SzG x) (hwl:x.wh.length<=9223372036854775807) (hr:aJ G w x p):Calls Tryz.prog 15 #[agV x p] w fun e w'=>e=.returned (.int .i64 (eM x))/\Below w.heap.size w w':=by
 rw [Iz];have K0:=lQ hr;generalize hW:w.alloc (agP x p)=W at K0;have HW:=aA hW;have HK:=aA K0;have HS:=aA hS;have CP:=aA (i8 x.fn W);obtain ⟨F,hF⟩:∃ F,x.fn.data.toList=F:=⟨_,rfl⟩;have HF:=aA hF;rw [hF] at CP |-
 obtain ⟨ff,hf⟩:∃ b,dD F=b:=⟨_,rfl⟩;rw [hf] at CP |-
 obtain ⟨ea,hea⟩:∃ e,Ag x=e:=⟨_,rfl⟩;rw [hea];have HEA:=aA hea;obtain ⟨r,hR⟩:∃ r,(if ff=false then (5:Int) else if ea=0 then (if 4<x.wh.length then 4 else cL x.wh) else ea)=r:=⟨_,rfl⟩;rw [hR];have HR:=aA hR;clear hW K0 hr hS hf hea hR hF;obtain ⟨m0,m1,m2,m3,m4,m5,m6,m7,m8,m9,m10⟩:=aD HK.out.n;go_enter Tryz.func15,Tryz.ntmps15
 go_upto_region 1 with fail
 rw [show w.alloc (.cells #[.string x.fn,.int .i64 x.k,.string x.e.op,.string x.e.nm,.int .i64 x.e.n,.slice p.ea x.e.ks.len p.ec,.string x.g.op,.string x.g.nm,.int .i64 x.g.n,.slice p.ga x.g.ks.len p.gc,.slice p.wa x.wh.length p.wc] 28)=W from HW.out];go_wp2_with fail
 refine CP.out.mono ?_;rintro e w1 ⟨rfl,hb1⟩;have K1:=HK.out.step hb1;have BA:=(Below.refl w1.heap.size w1).alloc (Nat.le_refl _) (ptO (kP F) (eP F) (bP F));have NA:=heap_alloc_new w1 (ptO (kP F) (eP F) (bP F));have K2:=aA (K1.step BA);clear hb1 K1 BA CP HK m0 m1 m2 m3 m4 m5 m6 m7 m8 m9 m10;go_upto_region 2 with fail
 generalize w1.alloc (ptO (kP F) (eP F) (bP F))=V at *;generalize w1.heap.size=B at *;obtain ⟨m0,m1,m2,m3,m4,m5,m6,m7,m8,m9,m10⟩:=aD K2.out.n;obtain ⟨⟨y0,y1,y2⟩, -⟩:=cS NA;clear NA;cases ff with
 | false =>
   have TS:=aA (show (5:Int)=r from HR.out);go_wp2_with fail
   go_ret;exact ⟨congrArg (fun z=>Ending.returned (.int .i64 z)) TS.out,K2.out.b⟩
 | true =>
   have TR:=aA (show (if ea=0 then (if 4<x.wh.length then (4:Int) else cL x.wh) else ea)=r from HR.out)
   have CA:=aA (show Calls Tryz.prog 45 #[agV x p,.agg #[.bool (kP F),.bool (eP F),.bool (bP F)]] V fun e w'=>e=.returned (.int .i64 ea)/\Below V.heap.size V w' by
    have:=uW x p G V HS.out.e HS.out.g K2.out.r.e K2.out.r.g;rw [HEA.out,HF.out] at this;exact this)
   clear HR;go_wp2_with fail
   refine CA.out.mono ?_;rintro e w2 ⟨rfl,hb2⟩;have K3:=aA (K2.out.step hb2);clear hb2 CA K2 m0 m1 m2 m3 m4 m5 m6 m7 m8 m9 m10 y0 y1 y2;obtain ⟨m0,m1,m2,m3,m4,m5,m6,m7,m8,m9,m10⟩:=aD K3.out.n;by_cases hea:ea=0
   · have TB:=aA (show (if 4<x.wh.length then (4:Int) else cL x.wh)=r by rw [<- TR.out,if_pos hea])
     subst hea;by_cases h4:4<x.wh.length
     · have TS:=aA (show (4:Int)=r by rw [<- TB.out,if_pos h4])
       have a4:(4:Int)<(x.wh.length:Int):=by omega
       go_wp2_with fail
       go_ret;exact ⟨congrArg (fun z=>Ending.returned (.int .i64 z)) TS.out,K3.out.b⟩
     · have T0:=aA (show cL (x.wh.drop 0)=r by rw [List.drop_zero, <- TB.out,if_neg h4])
       have a4:¬ (4:Int)<(x.wh.length:Int):=by omega
       have a5:decide (4<x.wh.length)=false:=decide_eq_false h4;clear TB TR;go_wp2_with fail
       clear m0 m1 m2 m3 m4 m5 m6 m7 m8 m9 m10;go_loopw [7,8,30] (fun x7 x8 i wr=>∃ (k:Nat) (u v:Value),x7=u/\x8=v/\i=.int .i64 k/\k<=x.wh.length/\Hid (cL (x.wh.drop k)=r)/\Hid (KP9 G w x p wr)) (fun _ _ i _=>x.wh.length-(intOf i).toNat)
       case atStart=>exact ⟨0,_,_,rfl,rfl,rfl,Nat.zero_le _,T0,K3⟩
       case round =>
        obtain ⟨k,u,v,rfl,rfl,rfl,hk,HC,HK⟩:=hrel;clear T0 K3;obtain ⟨m0,m1,m2,m3,m4,m5,m6,m7,m8,m9,m10⟩:=aD HK.out.n;by_cases hlt:k<x.wh.length
        · obtain ⟨d,hd⟩:∃ d,x.wh[k]? = some d:=⟨_,List.getElem?_eq_getElem hlt⟩
          have hne:¬ x.wh=[]:=fun e=>by rw [e] at hlt;simp at hlt
          obtain ⟨b,off,hwa', -, -,hcc⟩:=HK.out.r.c.resolve_left hne;obtain ⟨a1,c1,a2,c2,⟨p0,p1,p2,p3,p4,p5,p6,p7,p8⟩,r1,r2⟩:=hcc k d hd
          have hdr:x.wh.drop k=d::x.wh.drop (k+1):=by
           rw [List.drop_eq_getElem_cons hlt];have:=List.getElem?_eq_getElem hlt;rw [this] at hd;rw [Option.some.inj hd]
          have hsz:=HS.out.c d (List.mem_of_getElem? hd);have HD:=aA (show (if xT d=0 then cL (x.wh.drop (k+1)) else xT d)=r by rw [<- HC.out,hdr,Gm]);have BD:=(Below.refl wr.heap.size wr).alloc (Nat.le_refl _) (cdX d a1 c1 a2 c2);have ND:=heap_alloc_new wr (cdX d a1 c1 a2 c2);have K4:=aA (HK.out.step BD);have CC:=aA (uV d G (wr.alloc (cdX d a1 c1 a2 c2)) a1 c1 a2 c2 hsz.1 hsz.2 (r1.kept BD) (r2.kept BD));obtain ⟨e1,he1⟩:∃ e,xT d=e:=⟨_,rfl⟩;rw [he1] at CC HD;rw [hwa'] at m10 |-
          have b1:(k:Int)<(x.wh.length:Int):=by omega
          have b2:(0:Int)<=(k:Int):=by omega
          have b3:((k:Int)).toNat=k:=by omega
          clear hne hcc hdr hsz hd r1 r2 BD he1 hwa' HC HK;go_upto_region 12 with fail
          rw [show wr.alloc (.cells #[.string d.op,.string d.a.op,.string d.a.nm,.int .i64 d.a.n,.slice a1 d.a.ks.len c1,.string d.b.op,.string d.b.nm,.int .i64 d.b.n,.slice a2 d.b.ks.len c2] 98)=wr.alloc (cdX d a1 c1 a2 c2) from rfl];generalize wr.alloc (cdX d a1 c1 a2 c2)=V1 at *;clear p0 p1 p2 p3 p4 p5 p6 p7 p8;obtain ⟨p0,p1,p2,p3,p4,p5,p6,p7,p8⟩:=kQ ND;clear ND;go_wp2_with fail
          refine CC.out.mono ?_;rintro e w5 ⟨rfl,hb5⟩;have K5:=aA (K4.out.step hb5);clear hb5 CC K4 p0 p1 p2 p3 p4 p5 p6 p7 p8 m0 m1 m2 m3 m4 m5 m6 m7 m8 m9 m10;by_cases he:e1=0
          · have HC2:=aA (show cL (x.wh.drop (k+1))=r by rw [<- HD.out,if_pos he])
            subst he;go_wp2_with fail
            go_roundw
            case rel=>exact ⟨k+1,_,_,rfl,rfl,by simp,by omega,HC2,K5⟩
            case measure=>simp [intOf];omega
          · have TS:=aA (show e1=r by rw [<- HD.out,if_neg he])
            have q1:((e1:Int) != 0)=true:=by simpa using he
            go_wp2_with fail
            go_ret;exact ⟨congrArg (fun z=>Ending.returned (.int .i64 z)) TS.out,K5.out.b⟩
        · have TS:=aA (show (0:Int)=r by rw [<- HC.out,List.drop_of_length_le (by omega)];rfl)
          have b1:¬ (k:Int)<(x.wh.length:Int):=by omega
          have b2:decide (k<x.wh.length)=false:=decide_eq_false hlt;go_wp2_with fail
          go_ret;exact ⟨congrArg (fun z=>Ending.returned (.int .i64 z)) TS.out,HK.out.b⟩
   · have TS:=aA (show ea=r by rw [<- TR.out,if_neg hea])
     have q1:((ea:Int) != 0)=true:=by simpa using hea
     go_wp2_with fail
     go_ret;exact ⟨congrArg (fun z=>Ending.returned (.int .i64 z)) TS.out,K3.out.b⟩
def dT (g:ByteArray->Option Int):List CD->Bool
 | []=>true
 | c::r=>(match evT g c.a,evT g c.b with | some x,some y=>(aS c.op x y).getD false | _,_=>false) && dT g r
inductive EvR | no | num (n:Int) | list (l:List Int)
structure ES where
 n:Int
 some:Bool
 best:Int
 by':Int
 sum:Int
 top:List Int
def es0:ES:=⟨0,false,0,0,0,[]⟩
def vG (fn:List UInt8) (g:ByteArray->Option Int) (y:TN) (s:ES) (e:Int):ES :=
 if fn=jY then { s with best:=if s.some=false\/e<s.best then e else s.best,some:=true }
 else if fn=kA then { s with best:=if s.some=false\/s.best<e then e else s.best,some:=true }
 else if fn=lA then { s with sum:=dE (s.sum+e),some:=true }
 else if fn=cU then { s with top:=f7 lsL s.top e,some:=true }
 else match evT g y with
  | none=>s
  | some b=>if s.some=false\/b<s.by' then { s with best:=e,by':=b,some:=true } else { s with some:=true }
def sN (a:AG) (s:ES) (g:ByteArray->Option Int):ES :=
 if dT g a.wh=false then s else
 if a.fn.data.toList=aP then { s with n:=s.n+1 } else
 match evT g a.e with
  | none=>{ s with n:=s.n+1 }
  | some e=>vG a.fn.data.toList g a.g { s with n:=s.n+1 } e
def Cv (a:AG) (s:ES):EvR :=
 if a.fn.data.toList=aP then .num s.n else
 if a.fn.data.toList=lA then .num s.sum else
 if a.fn.data.toList=cU then .list (s.top.drop (s.top.length-a.k.toNat)) else
 if s.some=false then .no else .num s.best
def evG (a:AG) (gs:List (ByteArray->Option Int)):EvR:=Cv a (gs.foldl (sN a) es0)
def iL (a:AG) (gs:List (ByteArray->Option Int)):List (ByteArray->Option Int):=gs.filter (fun g=>dT g a.wh)
def Bo (a:AG) (gs:List (ByteArray->Option Int)):List Int:=(iL a gs).filterMap (fun g=>evT g a.e)
theorem sM (a:AG) (g:ByteArray->Option Int) (gs:List (ByteArray->Option Int)):iL a (g::gs)=if dT g a.wh=true then g::iL a gs else iL a gs:=by
 unfold iL;rw [List.filter_cons]
theorem Ga (a:AG):∀ (gs:List (ByteArray->Option Int)) (s:ES),(gs.foldl (sN a) s).n=s.n+((iL a gs).length:Int)
 | [],s=>by simp [iL]
 | g :: gs, s => by
   rw [List.foldl_cons,Ga a gs,sM];unfold sN;cases h:dT g a.wh with
   | false=>rw [if_pos rfl,if_neg (by decide)]
   | true =>
     rw [if_neg (by decide),if_pos rfl,List.length_cons]
     have:∀ (t:ES),(if a.fn.data.toList=aP then ({ t with n:=t.n+1 }:ES) else match evT g a.e with
      | none=>{ t with n:=t.n+1 }
      | some e=>vG a.fn.data.toList g a.g { t with n:=t.n+1 } e).n=t.n+1:=fun t=>by
      split
      · rfl
      · split
        · rfl
        · unfold vG
          split
          · rfl
          split
          · rfl
          split
          · rfl
          split
          · rfl
          split
          · rfl
          split <;> rfl
     rw [this s];omega
theorem tV {α : Type} (a:AG) (hc:¬ a.fn.data.toList=aP) (f:ES -> α) (h: α -> Int -> α) (hn:∀ (s:ES) (m:Int),f { s with n:=m }=f s)
 (hs:∀ (g:ByteArray->Option Int) (s:ES) (e:Int),f (vG a.fn.data.toList g a.g s e)=h (f s) e):∀ (gs:List (ByteArray->Option Int)) (s:ES),f (gs.foldl (sN a) s)=(Bo a gs).foldl h (f s)
 | [],s=>rfl
 | g :: gs, s => by
   rw [List.foldl_cons,tV a hc f h hn hs gs];unfold Bo;rw [sM];unfold sN;cases ht:dT g a.wh with
   | false=>rw [if_pos rfl,if_neg (by decide)]
   | true =>
     rw [if_neg (by decide),if_pos rfl,if_neg hc];cases he:evT g a.e with
     | none=>simp only [List.filterMap_cons,he];rw [hn]
     | some e=>simp only [List.filterMap_cons,he,List.foldl_cons];rw [hs,hn]
theorem Eo {a:AG} (h:a.fn.data.toList=aP) (gs:List (ByteArray->Option Int)):evG a gs=.num ((iL a gs).length:Int):=by
 unfold evG Cv;rw [if_pos h,Ga];simp [es0]
theorem Iy {a:AG} (h:a.fn.data.toList=lA) (gs:List (ByteArray->Option Int)):evG a gs=.num ((Bo a gs).foldl (fun s e=>dE (s+e)) 0):=by
 have hc:¬ a.fn.data.toList=aP:=by rw [h];decide
 unfold evG Cv;rw [if_neg hc,if_pos h,tV a hc (fun s=>s.sum) (fun s e=>dE (s+e)) (fun _ _=>rfl) (fun g s e=>by unfold vG;rw [h];rfl)];rfl
theorem Ix {a:AG} (h:a.fn.data.toList=cU) (gs:List (ByteArray->Option Int)):evG a gs=.list (((Bo a gs).foldl (f7 lsL) []).drop (((Bo a gs).foldl (f7 lsL) []).length-a.k.toNat)):=by
 have hc:¬ a.fn.data.toList=aP:=by rw [h];decide
 have hs:¬ a.fn.data.toList=lA:=by rw [h];decide
 unfold evG Cv;rw [if_neg hc,if_neg hs,if_pos h,tV a hc (fun s=>s.top) (f7 lsL) (fun _ _=>rfl) (fun g s e=>by unfold vG;rw [h];rfl)];rfl
theorem kZ {L:List Tk} (hL:∀ t∈L,cI t) {s:RS} (hp:i1 L.length s) (h:(bC L s).2.bad=0):s.bad=0/\aF (bC L s).1=0:=by
 unfold bC at h |-
 by_cases hb:s.bad=0
 · rw [if_pos hb] at h |-
   cases ho:ofL L s.pos with
   | ok t q=>exact ⟨hb,(zS hL ho).1⟩
   | bad q e =>
     rw [ho] at h;exact absurd h ((tD (hp.1 hb)).2 q e ho).2
 · rw [if_neg hb] at h
   exact absurd h hb
theorem mO {e:Int} (he:¬ e=0) (s:RS):¬ (bY e s).bad=0:=pW e he s
theorem sG {L:List Tk} {x:List UInt8} {s:RS} (h:(bK L x s).bad=0):s.bad=0:=by
 unfold bK at h;by_cases hb:s.bad=0
 · exact hb
 · rw [if_neg hb] at h;exact h
theorem G7 {L:List Tk} {s:RS} (h:(nU L s).2.bad=0):s.bad=0/\¬ ((nU L s).1<1\/16<(nU L s).1):=by
 unfold nU at h |-
 by_cases hb:s.bad=0
 · rw [if_pos hb] at h |-
   refine ⟨hb,?_⟩;cases ht:L[s.pos]? with
   | none=>rw [ht] at h;exact absurd h (mO (by decide) s)
   | some t =>
     rw [ht] at h;simp only at h |-
     by_cases h2:t.kind=2
     · rw [if_pos h2] at h |-
       simp only at h |-
       by_cases hk:t.num<1\/16<t.num
       · rw [if_pos hk] at h
         exact absurd h (mO (by decide) s)
       · exact hk
     · rw [if_neg h2] at h
       exact absurd h (mO (by decide) s)
 · rw [if_neg hb] at h;exact absurd h hb
theorem Gx {L:List Tk} (hL:∀ t∈L,cI t) {fn:List UInt8} {s:RS} (hs:i1 L.length s) (h:(dR L fn s).2.bad=0) :
 s.bad=0/\i1 L.length (dR L fn s).2/\(fn=cU->¬ ((dR L fn s).1.1<1\/16<(dR L fn s).1.1))/\(¬ fn=aP->aF (dR L fn s).1.2.1=0)/\(fn=aQ->aF (dR L fn s).1.2.2=0):=by
 unfold dR at h |-
 by_cases hc:fn=aP
 · rw [if_pos hc] at h |-
   subst hc;exact ⟨h,hs,fun e=>absurd e (by decide),fun e=>absurd rfl e,fun e=>absurd e (by decide)⟩
 rw [if_neg hc] at h |-
 by_cases ht:fn=cU
 · subst ht
   have hf:¬ cU=aQ:=by decide
   simp only [if_pos,if_neg hf] at h |-
   have f1:=G6 (L:=L) hs;have f2:=oS (x:=[44]) f1;have e:=kZ hL f2 h;have t:=G7 (sG e.1);exact ⟨t.1,kY f2,fun _=>t.2,fun _=>e.2,fun e=>absurd e hf⟩
 · simp only [if_neg ht] at h |-
   by_cases hf:fn=aQ
   · simp only [if_pos hf] at h |-
     have f1:=kY (L:=L) hs;have f2:=oS (x:=[44]) f1;have e:=kZ hL f2 h;have d:=kZ hL hs (sG e.1);exact ⟨d.1,kY f2,fun x=>absurd x ht,fun _=>d.2,fun _=>e.2⟩
   · simp only [if_neg hf] at h |-
     have d:=kZ hL hs h;exact ⟨d.1,kY hs,fun x=>absurd x ht,fun _=>d.2,fun x=>absurd x hf⟩
theorem Hs {L:List Tk} {p:Nat} (h:opB L p=true):(aS ⟨(eO L p).toArray⟩ 0 0).isSome=true:=by
 unfold opB at h;unfold eO;cases ht:L[p]? with
 | none=>rw [ht] at h;cases h
 | some t=>rw [ht] at h;exact h
theorem Ao {L:List Tk} (hL:∀ t∈L,cI t) {s:RS} (hs:i1 L.length s) (h:(dF L s).2.bad=0):s.bad=0/\i1 L.length (dF L s).2/\cL [(dF L s).1]=0:=by
 unfold dF at h |-
 simp only at h |-
 by_cases hb:(bC L s).2.bad=0
 · rw [if_pos hb] at h |-
   have f1:=kY (L:=L) hs;have e:=kZ hL hs hb;by_cases ho:opB L (bC L s).2.pos=true
   · rw [if_pos ho] at h |-
     have f2:=gG f1 (fun _=>JT ho);have d:=kZ hL f2 h;refine ⟨e.1,kY f2,?_⟩;unfold cL;simp only;rw [if_neg (by rw [Hs ho];decide),if_pos e.2,if_pos d.2];rfl
   · rw [if_neg ho] at h
     exact absurd h (mO (by decide) _)
 · rw [if_neg hb] at h;exact absurd h hb
theorem tX (c:CD):∀ l:List CD,cL l=0->cL [c]=0->cL (l++[c])=0
 | [],_,h=>h
 | d :: l, h, hc => by
   rw [List.cons_append];rw [cL] at h |-
   by_cases h1:(aS d.op 0 0).isSome=false
   · rw [if_pos h1] at h;cases h
   rw [if_neg h1] at h |-
   by_cases h2:aF d.a=0
   · rw [if_pos h2] at h |-
     by_cases h3:aF d.b=0
     · rw [if_pos h3] at h |-;exact tX c l h hc
     · rw [if_neg h3] at h;exact absurd h h3
   · rw [if_neg h2] at h;exact absurd h h2
theorem wJ {L:List Tk} (hL:∀ t∈L,cI t):∀ (f:Nat) (acc:List CD) (s:RS),i1 L.length s->(s.bad=0->s.pos<L.length)->acc.length<=4->cL acc=0->(gI L f acc s).2.bad=0->cL (gI L f acc s).1=0/\(gI L f acc s).1.length<=4
 | 0,acc,s,_,_,hl,ha,_=>⟨ha,hl⟩
 | f + 1, acc, s, hs, hp, hl, ha, h => by
   rw [gI] at h |-
   by_cases h4:acc.length=4
   · rw [if_pos h4] at h
     exact absurd h (mO (by decide) _)
   rw [if_neg h4] at h |-
   simp only at h |-
   have f1:=gG hs hp;by_cases hm:((dF L (bZ s)).2.bad == 0 && eQ L l8 (dF L (bZ s)).2.pos)=true
   · rw [if_pos hm] at h |-
     simp only [Bool.and_eq_true,beq_iff_eq] at hm;have c:=Ao hL f1 hm.1;exact wJ hL f _ _ c.2.1 (fun _=>BY hm.2) (by rw [List.length_append];show acc.length+1<=4;omega) (tX _ _ ha c.2.2) h
   · rw [if_neg hm] at h |-
     have c:=Ao hL f1 h;exact ⟨tX _ _ ha c.2.2,by rw [List.length_append];show acc.length+1<=4;omega⟩
theorem GN {L:List Tk} (hL:∀ t∈L,cI t) {a:AG} (h:agL L=.ok a):eM a=0:=by
 unfold agL at h;cases h0:L[0]? with
 | none=>rw [h0] at h;cases h
 | some t =>
   rw [h0] at h;have hlen:1<=L.length:=by have:=(List.getElem?_eq_some_iff.1 h0).1;omega
   simp only at h;by_cases hk:t.kind=1
   · rw [if_neg (by simpa using hk)] at h
     cases hf:dD t.text with
     | false=>rw [hf,if_pos rfl] at h;cases h
     | true =>
       rw [hf,if_neg (by decide)] at h;by_cases h1:(bK L [40] ⟨1,0,0,0⟩).bad=0
       · rw [if_neg (by simpa using h1)] at h
         have f1:i1 L.length (bK L [40] ⟨1,0,0,0⟩):=oS ⟨fun _=>hlen,Nat.zero_le _⟩;by_cases h2:(bK L [41] (dR L t.text (bK L [40] ⟨1,0,0,0⟩)).2).bad=0
         · rw [if_neg (by simpa using h2)] at h
           obtain ⟨-,f2,a1,a2,a3⟩:=Gx hL f1 (sG h2);have f3:=oS (x:=[41]) f2
           have done:∀ wh:List CD,cL wh=0->wh.length<=4->eM ⟨⟨t.text.toArray⟩,(dR L t.text (bK L [40] ⟨1,0,0,0⟩)).1.1,(dR L t.text (bK L [40] ⟨1,0,0,0⟩)).1.2.1,(dR L t.text (bK L [40] ⟨1,0,0,0⟩)).1.2.2,wh⟩=0:=fun wh e1 e2=>by
            have hE:gW ⟨⟨t.text.toArray⟩,(dR L t.text (bK L [40] ⟨1,0,0,0⟩)).1.1,(dR L t.text (bK L [40] ⟨1,0,0,0⟩)).1.2.1,(dR L t.text (bK L [40] ⟨1,0,0,0⟩)).1.2.2,wh⟩=0:=by
             unfold gW;simp only;by_cases c1:t.text=aP
             · rw [if_pos c1]
             · rw [if_neg c1,if_pos (a2 c1)]
               by_cases c2:t.text=aQ
               · rw [if_pos c2];exact a3 c2
               · rw [if_neg c2]
            unfold eM;simp only;rw [if_neg (by rw [hf];decide),if_neg (fun x=>a1 x.1 x.2),if_pos hE,if_neg (by omega)];exact e1
           by_cases h3:L.length<=(bK L [41] (dR L t.text (bK L [40] ⟨1,0,0,0⟩)).2).pos
           · rw [if_pos h3] at h
             cases h;exact done [] rfl (by simp)
           · rw [if_neg h3] at h
             cases hw:eQ L fL (bK L [41] (dR L t.text (bK L [40] ⟨1,0,0,0⟩)).2).pos with
             | false=>rw [hw,if_pos rfl] at h;cases h
             | true =>
               rw [hw,if_neg (by decide)] at h;by_cases h5:(gI L 5 [] (bK L [41] (dR L t.text (bK L [40] ⟨1,0,0,0⟩)).2)).2.bad=0
               · rw [if_neg (by simpa using h5)] at h
                 have c:=wJ hL 5 [] _ f3 (fun _=>by omega) (by simp) rfl h5;split at h
                 · cases h
                 · cases h
                   exact done _ c.1 c.2
               · rw [if_pos h5] at h;cases h
         · rw [if_pos h2] at h;cases h
       · rw [if_pos h1] at h;cases h
   · rw [if_pos hk] at h;cases h
theorem GI {l:List UInt8} {a:AG} (h:agX l=.ok a):eM a=0:=by
 unfold agX at h;cases hx:gR l with
 | bad p e=>rw [hx] at h;cases h
 | ok L =>
   rw [hx] at h;simp only at h;cases ha:agL L with
   | bad p e=>rw [ha] at h;cases h
   | ok b =>
     rw [ha] at h;cases h;exact GN (qN hx) ha
def ED (c:CD):CD:=⟨c.op,iO c.a,iO c.b⟩
def nY (a:AG):AG:=⟨a.fn,if a.fn.data.toList=cU then a.k else 0,if a.fn.data.toList=aP then aR else iO a.e,if a.fn.data.toList=aQ then iO a.g else aR,a.wh.map ED⟩
abbrev Co:=Int×List UInt8×Int
def nW (c:CD):List Co:=a8 c.a++(3,c.op.data.toList,0)::a8 c.b
def mA:List CD->List Co
 | []=>[]
 | c::r=>(1,l8,0)::(nW c++mA r)
def sI:List CD->List Co
 | []=>[]
 | c::r=>(1,fL,0)::(nW c++mA r)
def nV (a:AG):List Co :=
 if a.fn.data.toList=aP then [] else
 if a.fn.data.toList=cU then (2,Lib.itoa a.k,a.k)::(3,[44],0)::a8 a.e else
 if a.fn.data.toList=aQ then a8 a.e++(3,[44],0)::a8 a.g else a8 a.e
def I3 (a:AG):List Co:=(1,a.fn.data.toList,0)::(3,[40],0)::(nV a++(3,[41],0)::sI a.wh)
def iZ (x:List UInt8) (cs:List Co):Prop:=∀ r p,∃ ts,ts.map cW=cs/\cZ (x++r) p=(cZ r (p+x.length)).after ts
def iR (x:List UInt8) (cs:List Co):Prop:=∀ r,jX r->∀ p,∃ ts,ts.map cW=cs/\cZ (x++r) p=(cZ r (p+x.length)).after ts
theorem iZ.s {x:List UInt8} {cs:List Co} (h:iZ x cs):iR x cs:=fun r _ p=>h r p
theorem tL:iZ [] []:=fun r p=>⟨[],rfl,by rw [rA];rfl⟩
theorem iZ.appS {x y:List UInt8} {cs ds:List Co} (h:iZ x cs) (k:iR y ds):iR (x++y) (cs++ds):=fun r hr p=>by
 obtain ⟨ts,a1,a2⟩:=h (y++r) p;obtain ⟨us,b1,b2⟩:=k r hr (p+x.length);exact ⟨ts++us,by rw [List.map_append,a1,b1],by rw [List.append_assoc,a2,b2,fY,List.length_append,Nat.add_assoc]⟩
theorem iR.appF {x y:List UInt8} {cs ds:List Co} (h:iR x cs) (k:iZ y ds) (hy:∀ r,jX (y++r)):iZ (x++y) (cs++ds):=fun r p=>by
 obtain ⟨ts,a1,a2⟩:=h (y++r) (hy r) p;obtain ⟨us,b1,b2⟩:=k r (p+x.length);exact ⟨ts++us,by rw [List.map_append,a1,b1],by rw [List.append_assoc,a2,b2,fY,List.length_append,Nat.add_assoc]⟩
theorem iR.app {x y:List UInt8} {cs ds:List Co} (h:iR x cs) (k:iR y ds) (hy:∀ r,jX r->jX (y++r)):iR (x++y) (cs++ds):=fun r hr p=>by
 obtain ⟨ts,a1,a2⟩:=h (y++r) (hy r hr) p;obtain ⟨us,b1,b2⟩:=k r hr (p+x.length);exact ⟨ts++us,by rw [List.map_append,a1,b1],by rw [List.append_assoc,a2,b2,fY,List.length_append,Nat.add_assoc]⟩
theorem fS {c:UInt8} (h:aX c=false) (r:List UInt8):jX (c::r):=fun _ _ e=>by cases e;exact h
theorem fO:iZ [32] []:=fun r p=>⟨[],rfl,by rw [rA];exact cN r p⟩
theorem qO {x:List UInt8} (h:dQ x=true):iR x [(1,x,0)]:=fun _ hr p=>⟨[⟨1,x,0,p⟩],rfl,zU h hr p⟩
theorem nJ (t:TN) (h:OkT t) (hn:cX t.f):iR (aK t) (a8 t):=fun r hr p=>FK t h hn r hr p
theorem FO {n:Int} (h0:0<=n) (h1:n<=9223372036854775807):iR (Lib.itoa n) [(2,Lib.itoa n,n)]:=fun _ hr p=>⟨[⟨2,Lib.itoa n,n,p⟩],rfl,Cn h0 h1 hr p⟩
theorem vT {c:UInt8} (hc:qI c):iZ [c] [(3,[c],0)]:=fun r p=>⟨[⟨3,[c],0,p⟩],rfl,mK hc r p⟩
theorem Ib {x:List UInt8} (hx:1<=x.length) (h:∀ r,cQ (x++r)=.tok 3 x.length 0) (h32:∀ r,¬ (x++r).head? = some 32):iZ x [(3,x,0)]:=fun r p =>
 ⟨[⟨3,x,0,p⟩],rfl,by rw [gF (h32 r) hx (h r),List.drop_left,List.take_left]⟩
theorem tM:iZ [44] [(3,[44],0)]:=Ib (by simp) (fun r=>by
 show kH (44::r)=.tok 3 1 0;unfold kH
 have:pC (44::r)=1:=by
  cases r with
  | nil=>rfl
  | cons d t =>
    show (if dM 44 d=true then 2 else if fJ 44=true then 1 else 0)=1;rw [if_neg (by unfold dM;simp),if_pos (by decide)]
 rw [this];rfl) (fun r=>by simp)
theorem tB {o:ByteArray} (h:(aS o 0 0).isSome=true):o.data.toList=[61]\/o.data.toList=[33,61]\/o.data.toList=[60]\/o.data.toList=[60,61]\/o.data.toList=[62]\/o.data.toList=[62,61]:=by
 unfold aS at h;by_cases h0:o=⟨#[61]⟩
 · left;rw [h0]
 rw [if_neg h0] at h;by_cases h1:o=⟨#[33,61]⟩
 · right;left;rw [h1]
 rw [if_neg h1] at h;by_cases h2:o=⟨#[60]⟩
 · right;right;left;rw [h2]
 rw [if_neg h2] at h;by_cases h3:o=⟨#[60,61]⟩
 · right;right;right;left;rw [h3]
 rw [if_neg h3] at h;by_cases h4:o=⟨#[62]⟩
 · right;right;right;right;left;rw [h4]
 rw [if_neg h4] at h;by_cases h5:o=⟨#[62,61]⟩
 · right;right;right;right;right;rw [h5]
 rw [if_neg h5] at h;cases h
theorem Ia {x:List UInt8} (h:x=[61]\/x=[33,61]\/x=[60]\/x=[60,61]\/x=[62]\/x=[62,61]):iZ (x++[32]) [(3,x,0)]:=fun r p=>by
 have hf:cQ (x++32::r)=.tok 3 x.length 0:=by
  rcases h with rfl | rfl | rfl | rfl | rfl | rfl <;> rfl
 have h32:¬ (x++32::r).head? = some 32:=by
  rcases h with rfl | rfl | rfl | rfl | rfl | rfl <;> simp
 have hx:1<=x.length:=by
  rcases h with rfl | rfl | rfl | rfl | rfl | rfl <;> simp
 refine ⟨[⟨3,x,0,p⟩],rfl,?_⟩;rw [show x++[32]++r=x++32::r by simp,gF h32 hx hf,List.drop_left,List.take_left,cN,List.length_append];rfl
def uN (l:List CD):Prop:=∀ d∈l,cX d.a.f/\cX d.b.f
structure fC (a:AG):Prop where
 e:cX a.e.f
 g:cX a.g.f
 c:uN a.wh
theorem fW {c:CD} {l:List CD} (h:cL (c::l)=0):(aS c.op 0 0).isSome=true/\aF c.a=0/\aF c.b=0/\cL l=0:=by
 rw [cL] at h;by_cases h1:(aS c.op 0 0).isSome=false
 · rw [if_pos h1] at h;cases h
 rw [if_neg h1] at h;by_cases h2:aF c.a=0
 · rw [if_pos h2] at h
   by_cases h3:aF c.b=0
   · rw [if_pos h3] at h;exact ⟨by cases hx:(aS c.op 0 0).isSome with | true=>rfl | false=>exact absurd hx h1,h2,h3,h⟩
   · rw [if_neg h3] at h;exact absurd h h3
 · rw [if_neg h2] at h;exact absurd h h2
theorem vS {c:CD} {l:List CD} (h:cL (c::l)=0) (hn:cX c.a.f/\cX c.b.f):iR (aK c.a++32::(c.op.data.toList++32::aK c.b)) (nW c):=by
 obtain ⟨h1,h2,h3, -⟩:=fW h;have A:=nJ c.a ((aN _).1 h2).1 hn.1;have B:=nJ c.b ((aN _).1 h3).1 hn.2;have y:=iZ.appS fO (iZ.appS (Ia (tB h1)) B);have z:=iR.app A y (fun r _=>fS (by decide) _);simpa [nW] using z
theorem tK:∀ l:List CD,cL l=0->uN l->iR (cE l) (mA l)
 | [],_,_=>tL.s
 | c :: r, h, hn => by
   have ih:=tK r (fW h).2.2.2 (fun d hd=>hn d (List.mem_cons_of_mem _ hd));have C:=vS h (hn c (List.mem_cons_self ..))
   have stop:∀ q,jX q->jX (cE r++q):=fun q hq=>by
    cases r with
    | nil=>exact hq
    | cons d t=>exact fS (by decide) _
   have y:=iR.app C ih stop;have n:=iZ.appS fO (iR.app (qO (x:=l8) (by decide)) (iZ.appS fO y) (fun q _=>fS (by decide) _));simpa [cE,mA,l8] using n
theorem AX:∀ l:List CD,cL l=0->uN l->iR (oB l) (sI l)
 | [],_,_=>tL.s
 | c :: r, h, hn => by
   have ih:=tK r (fW h).2.2.2 (fun d hd=>hn d (List.mem_cons_of_mem _ hd));have C:=vS h (hn c (List.mem_cons_self ..))
   have stop:∀ q,jX q->jX (cE r++q):=fun q hq=>by
    cases r with
    | nil=>exact hq
    | cons d t=>exact fS (by decide) _
   have y:=iR.app C ih stop;have n:=iZ.appS fO (iR.app (qO (x:=fL) (by decide)) (iZ.appS fO y) (fun q _=>fS (by decide) _));simpa [oB,sI,fL] using n
theorem Iv {x:List UInt8} (h:dD x=true):dQ x=true:=by
 unfold dD at h;simp only [Bool.or_eq_true,beq_iff_eq] at h;rcases h with ((((h | h) | h) | h) | h) | h <;> rw [h] <;> decide
theorem cB {a:AG} (h:eM a=0):dD a.fn.data.toList=true/\(a.fn.data.toList=cU->1<=a.k/\a.k<=16)/\(¬ a.fn.data.toList=aP->aF a.e=0)/\(a.fn.data.toList=aQ->aF a.g=0)/\a.wh.length<=4/\cL a.wh=0:=by
 unfold eM at h;cases hf:dD a.fn.data.toList with
 | false=>rw [hf,if_pos rfl] at h;cases h
 | true =>
   rw [hf,if_neg (by decide)] at h;by_cases h1:a.fn.data.toList=cU/\(a.k<1\/16<a.k)
   · rw [if_pos h1] at h;cases h
   rw [if_neg h1] at h;by_cases h2:gW a=0
   · rw [if_pos h2] at h
     by_cases h3:4<a.wh.length
     · rw [if_pos h3] at h;cases h
     rw [if_neg h3] at h;refine ⟨rfl,fun e=>?_,fun e=>?_,fun e=>?_,by omega,h⟩
     · have:¬ (a.k<1\/16<a.k):=fun x=>h1 ⟨e,x⟩
       omega
     · unfold gW at h2
       rw [if_neg e] at h2;by_cases h4:aF a.e=0
       · exact h4
       · rw [if_neg h4] at h2;exact absurd h2 h4
     · have e':¬ a.fn.data.toList=aP:=by rw [e];decide
       unfold gW at h2;rw [if_neg e'] at h2;by_cases h4:aF a.e=0
       · rw [if_pos h4,if_pos e] at h2;exact h2
       · rw [if_neg h4] at h2;exact absurd h2 h4
   · rw [if_neg h2] at h;exact absurd h h2
theorem H9 {a:AG} (h:eM a=0) (hn:fC a):iR (fR a) (nV a):=by
 obtain ⟨h1,h2,h3,h4,h5,h6⟩:=cB h;unfold fR nV;by_cases c1:a.fn.data.toList=aP
 · rw [if_pos c1,if_pos c1];exact tL.s
 rw [if_neg c1,if_neg c1];have E:=nJ a.e ((aN _).1 (h3 c1)).1 hn.e;by_cases c2:a.fn.data.toList=cU
 · rw [if_pos c2,if_pos c2]
   have hk:=h2 c2;have N:=FO (n:=a.k) (by omega) (by omega);have y:=iR.app N (iZ.appS tM (iZ.appS fO E)) (fun q _=>fS (by decide) _);simpa using y
 rw [if_neg c2,if_neg c2];by_cases c3:a.fn.data.toList=aQ
 · rw [if_pos c3,if_pos c3]
   have G:=nJ a.g ((aN _).1 (h4 c3)).1 hn.g;have y:=iR.app E (iZ.appS tM (iZ.appS fO G)) (fun q _=>fS (by decide) _);simpa using y
 rw [if_neg c3,if_neg c3];exact E
theorem Ke {a:AG} (h:eM a=0) (hn:fC a):∃ ts,ts.map cW=I3 a/\cZ (cJ a) 0=.ok ts:=by
 obtain ⟨h1,h2,h3,h4,h5,h6⟩:=cB h;have I:=iR.appF (H9 h hn) (vT (c:=41) (.inr (.inl rfl))) (fun r=>vF r);have W:=iZ.appS I (AX a.wh h6 hn.c);have y:=iR.app (qO (Iv h1)) (iZ.appS (vT (c:=40) (.inl rfl)) W) (fun q _=>fS (by decide) _);obtain ⟨ts,e1,e2⟩:=y [] Fh 0;refine ⟨ts,by rw [e1];simp [I3],?_⟩;have e3:cJ a=a.fn.data.toList++([40]++(fR a++[41]++oB a.wh)):=by simp [cJ]
 rw [e3];rw [List.append_nil,iB] at e2;rw [e2];simp [iS.after]
def oQ (post:List Co):Prop:=post=[]\/∃ k x v r,post=(k,x,v)::r/\(¬ k=3\/(([42] == x)=false/\([47] == x)=false/\([37] == x)=false/\([43] == x)=false/\([45] == x)=false))
theorem Kd {L:List Tk} {q post:List Co} (hL:L.map cW=q++post) (h:oQ post):isM L q.length=false/\isA L q.length=false:=by
 rcases h with rfl | ⟨k,x,v,r,rfl,h⟩
 · have:L.length=q.length:=by
    have:=congrArg List.length hL;simpa using this
   exact ⟨Is (by omega),It (by omega)⟩
 · obtain ⟨t,h1,h2,h3, -⟩:=iC hL
   have one:∀ y,(¬ k=3\/(y == x)=false)->isS L y q.length=false:=fun y hy=>by
    unfold isS;rw [h1];simp only;rw [h2,h3];simp only;rcases hy with hk | hy
    · have:(k == 3)=false:=by simpa using hk
      rw [this,Bool.false_and]
    · have:(x == y)=false:=by
       rw [beq_eq_false_iff_ne] at hy |-
       exact fun e=>hy e.symm
      rw [this,Bool.and_false]
   have h':∀ y,(y=[42]\/y=[47]\/y=[37]\/y=[43]\/y=[45])->(¬ k=3\/(y == x)=false):=fun y hy=>by
    rcases h with h | ⟨a,b,c,d,e⟩
    · exact .inl h
    · rcases hy with rfl | rfl | rfl | rfl | rfl
      · exact .inr a
      · exact .inr b
      · exact .inr c
      · exact .inr d
      · exact .inr e
   unfold isM isA;rw [one _ (h' [42] (.inl rfl)),one _ (h' [47] (.inr (.inl rfl))),one _ (h' [37] (.inr (.inr (.inl rfl)))),one _ (h' [43] (.inr (.inr (.inr (.inl rfl))))),one _ (h' [45] (.inr (.inr (.inr (.inr rfl)))))];exact ⟨rfl,rfl⟩
theorem Hv {t:TN} (h:aF t=0) (hn:cX t.f) {L:List Tk} {pre post:List Co} (hL:L.map cW=pre++(a8 t++post)) (hp:oQ post):ofL L pre.length=.ok (iO t) (pre.length+(a8 t).length):=by
 obtain ⟨ho,hs⟩:=(aN t).1 h;have hr:=Ds t ho hn L pre post hL ⟨pre.length,0,0,0⟩ rfl rfl (by show 0+_<=32;omega);simp only [Nat.zero_add] at hr;obtain ⟨nM,nA⟩:=Kd (q:=pre++a8 t) (by rw [hL];simp) hp;rw [List.length_append] at nM nA
 have e:pE L .sum ⟨pre.length,0,0,0⟩=(iO t,⟨pre.length+(a8 t).length,aM t,0,0⟩):=by
  rw [Ft,xE,hr];simp only;rw [mH];simp only;rw [if_neg (by rw [nM];decide),rZ];simp only;rw [if_neg (by rw [nA];decide)]
 unfold ofL;rw [e];rfl
abbrev rAt (p:Nat):RS:=⟨p,0,0,0⟩
theorem jB {t:TN} (h:aF t=0) (hn:cX t.f) {L:List Tk} {pre post:List Co} (hL:L.map cW=pre++(a8 t++post)) (hp:oQ post) {p:Nat} (e:p=pre.length):bC L (rAt p)=(iO t,rAt (p+(a8 t).length)):=by
 subst e;unfold bC;rw [if_pos rfl];simp only;rw [Hv h hn hL hp]
theorem mU {L:List Tk} {pre post:List Co} {x:List UInt8} {v:Int} (hL:L.map cW=pre++(3,x,v)::post) {p:Nat} (e:p=pre.length):bK L x (rAt p)=rAt (p+1):=by
 unfold bK;rw [if_pos rfl,if_pos (by rw [(dP hL e).1];simp)];rfl
theorem Ht {o:ByteArray} (h:(aS o 0 0).isSome=true) (v:Int) (r:List Co):oQ ((3,o.data.toList,v)::r):=by
 refine .inr ⟨_,_,_,_,rfl,.inr ?_⟩;rcases tB h with h | h | h | h | h | h <;> rw [h] <;> decide
theorem mY (c:UInt8) (h:c=41\/c=44) (v:Int) (r:List Co):oQ ((3,[c],v)::r):=by
 refine .inr ⟨_,_,_,_,rfl,.inr ?_⟩;rcases h with rfl | rfl <;> decide
theorem Bs (l:List CD):oQ (mA l):=by
 cases l with
 | nil=>exact .inl rfl
 | cons c r=>exact .inr ⟨_,_,_,_,rfl,.inl (by decide)⟩
theorem Eu {c:CD} {l:List CD} (h:cL (c::l)=0) (hn:cX c.a.f/\cX c.b.f) {L:List Tk} {pre post:List Co} (hL:L.map cW=pre++(nW c++post)) (hp:oQ post) {p:Nat} (e:p=pre.length):dF L (rAt p)=(ED c,rAt (p+(nW c).length)):=by
 obtain ⟨h1,h2,h3, -⟩:=fW h;have hL':L.map cW=pre++(a8 c.a++(3,c.op.data.toList,0)::(a8 c.b++post)):=by rw [hL];simp [nW]
 have hL1:L.map cW=(pre++a8 c.a)++(3,c.op.data.toList,0)::(a8 c.b++post):=by rw [hL'];simp
 have hL2:L.map cW=(pre++a8 c.a++[(3,c.op.data.toList,0)])++(a8 c.b++post):=by rw [hL'];simp
 have q1:p+(a8 c.a).length=(pre++a8 c.a).length:=by rw [e,List.length_append]
 have q2:p+(a8 c.a).length+1=(pre++a8 c.a++[(3,c.op.data.toList,0)]).length:=by rw [e];simp;omega
 have oe:=(dP (y:=[]) hL1 q1).2
 have ob:opB L (p+(a8 c.a).length)=true:=by
  obtain ⟨t,t1, -,t3, -⟩:=iC hL1;unfold opB;rw [q1,t1];simp only;rw [t3];simp only;rw [jD];exact h1
 unfold dF;simp only;rw [jB h2 hn.1 hL' (Ht h1 0 _) e];simp only;rw [if_pos trivial,if_pos ob];have st:bZ (rAt (p+(a8 c.a).length))=rAt (p+(a8 c.a).length+1):=rfl;rw [st,jB h3 hn.2 hL2 hp q2,oe,jD];simp only [nW,List.length_append,List.length_cons];rw [show p+(a8 c.a).length+1+(a8 c.b).length=p+((a8 c.a).length+((a8 c.b).length+1)) by omega];rfl
theorem BZ {L:List Tk} {pre post:List Co} {x:List UInt8} {v:Int} (hL:L.map cW=pre++(1,x,v)::post) {p:Nat} (e:p=pre.length) (y:List UInt8):eQ L y p=(x == y):=by
 obtain ⟨t,t1,t2,t3, -⟩:=iC hL;unfold eQ;rw [e,t1];simp only;rw [t2,t3];simp
theorem CY {L:List Tk} {p:Nat} (h:L.length<=p) (y:List UInt8):eQ L y p=false:=by
 unfold eQ;rw [List.getElem?_eq_none h]
theorem uC {L:List Tk}:∀ (l:List CD) (c:CD) (f:Nat) (acc:List CD) (pre:List Co) (x:List UInt8) (p:Nat),cL (c::l)=0->uN (c::l)->acc.length+(l.length+1)<=4->l.length+1<=f ->
 L.map cW=pre++(1,x,0)::(nW c++mA l)->p=pre.length->gI L f acc (rAt p)=(acc++(c::l).map ED,rAt L.length)
 | l,c,0,acc,pre,x,p,_,_,_,hf,_,_=>by omega
 | l, c, f + 1, acc, pre, x, p, h, hn, ha, hf, hL, e => by
   rw [gI,if_neg (by omega)];have st:bZ (rAt p)=rAt (p+1):=rfl;have hL1:L.map cW=(pre++[(1,x,0)])++(nW c++mA l):=by rw [hL];simp
   have C:=Eu h (hn c (List.mem_cons_self ..)) hL1 (Bs l) (p:=p+1) (by rw [e];simp);rw [st,C];simp only;cases l with
   | nil =>
     have hlen:L.length=p+1+(nW c).length:=by
      have:=congrArg List.length hL1;simp [mA] at this;omega
     rw [if_neg (by rw [CY (by omega)];simp),hlen];rfl
   | cons d r =>
     have hL2:L.map cW=(pre++[(1,x,0)]++nW c)++(1,l8,0)::(nW d++mA r):=by rw [hL1];simp [mA]
     have q:p+1+(nW c).length=(pre++[(1,x,0)]++nW c).length:=by rw [e];simp;omega
     rw [if_pos (by rw [BZ hL2 q];simp)];rw [uC r d f (acc++[ED c]) _ l8 _ (fW h).2.2.2 (fun y hy=>hn y (List.mem_cons_of_mem _ hy)) (by simp at ha |-;omega) (by simp at hf;omega) hL2 q];simp
theorem Fa {L:List Tk} {pre post:List Co} {x:List UInt8} {k:Int} (hL:L.map cW=pre++(2,x,k)::post) {p:Nat} (e:p=pre.length) (h1:1<=k) (h2:k<=16):nU L (rAt p)=(k,rAt (p+1)):=by
 obtain ⟨t,t1,t2, -,t4⟩:=iC hL;unfold nU;rw [if_pos rfl];simp only;rw [e,t1];simp only;rw [if_pos t2,t4,if_neg (by simp only;omega)];rfl
theorem EI {a:AG} (h:eM a=0) (hn:fC a) {L:List Tk} {pre post:List Co} (hL:L.map cW=pre++(nV a++(3,[41],0)::post)) {p:Nat} (e:p=pre.length) :
 dR L a.fn.data.toList (rAt p)=(((nY a).k,(nY a).e,(nY a).g),rAt (p+(nV a).length)):=by
 obtain ⟨h1,h2,h3,h4,h5,h6⟩:=cB h;unfold dR nY nV;unfold nV at hL;simp only;by_cases c1:a.fn.data.toList=aP
 · have c2:¬ a.fn.data.toList=cU:=by rw [c1];decide
   have c3:¬ a.fn.data.toList=aQ:=by rw [c1];decide
   rw [if_pos c1,if_neg c2,if_pos c1,if_neg c3,if_pos c1];rfl
 rw [if_neg c1] at hL;rw [if_neg c1,if_neg c1,if_neg c1];by_cases c2:a.fn.data.toList=cU
 · have c3:¬ a.fn.data.toList=aQ:=by rw [c2];decide
   rw [if_pos c2] at hL;have hk:=h2 c2;have hL0:L.map cW=pre++(2,Lib.itoa a.k,a.k)::((3,[44],0)::(a8 a.e++(3,[41],0)::post)):=by rw [hL];simp
   have hL1:L.map cW=(pre++[(2,Lib.itoa a.k,a.k)])++(3,[44],0)::(a8 a.e++(3,[41],0)::post):=by rw [hL];simp
   have hL2:L.map cW=(pre++[(2,Lib.itoa a.k,a.k),(3,[44],0)])++(a8 a.e++(3,[41],0)::post):=by rw [hL];simp
   simp only [if_pos c2,if_neg c3];rw [Fa hL0 e hk.1 hk.2];simp only;rw [mU hL1 (by rw [e];simp),jB (h3 c1) hn.e hL2 (mY 41 (.inl rfl) 0 _) (by rw [e];simp)];simp only [List.length_cons];rw [show p+1+1+(a8 a.e).length=p+((a8 a.e).length+1+1) by omega]
 · rw [if_neg c2] at hL
   simp only [if_neg c2];by_cases c3:a.fn.data.toList=aQ
   · rw [if_pos c3] at hL
     have hL0:L.map cW=pre++(a8 a.e++(3,[44],0)::(a8 a.g++(3,[41],0)::post)):=by rw [hL];simp
     have hL1:L.map cW=(pre++a8 a.e)++(3,[44],0)::(a8 a.g++(3,[41],0)::post):=by rw [hL];simp
     have hL2:L.map cW=(pre++a8 a.e++[(3,[44],0)])++(a8 a.g++(3,[41],0)::post):=by rw [hL];simp
     simp only [if_pos c3];rw [jB (h3 c1) hn.e hL0 (mY 44 (.inr rfl) 0 _) e];simp only;rw [mU hL1 (by rw [e];simp),jB (h4 c3) hn.g hL2 (mY 41 (.inl rfl) 0 _) (by rw [e];simp;omega)];simp only [List.length_append,List.length_cons];rw [show p+(a8 a.e).length+1+(a8 a.g).length=p+((a8 a.e).length+((a8 a.g).length+1)) by omega]
   · rw [if_neg c3] at hL
     simp only [if_neg c3];rw [jB (h3 c1) hn.e hL (mY 41 (.inl rfl) 0 _) e]
theorem GJ {a:AG} (h:eM a=0) (hn:fC a) {L:List Tk} (hL:L.map cW=I3 a):agL L=.ok (nY a):=by
 obtain ⟨h1,h2,h3,h4,h5,h6⟩:=cB h;have hL0:L.map cW=[]++(1,a.fn.data.toList,0)::((3,[40],0)::(nV a++(3,[41],0)::sI a.wh)):=hL;have hL1:L.map cW=[(1,a.fn.data.toList,0)]++(3,[40],0)::(nV a++(3,[41],0)::sI a.wh):=hL;have hL2:L.map cW=[(1,a.fn.data.toList,0),(3,[40],0)]++(nV a++(3,[41],0)::sI a.wh):=hL;have hL3:L.map cW=([(1,a.fn.data.toList,0),(3,[40],0)]++nV a)++(3,[41],0)::sI a.wh:=by rw [hL2];simp
 have hlen:L.length=2+(nV a).length+1+(sI a.wh).length:=by
  have:=congrArg List.length hL3;simp at this;omega
 obtain ⟨t,t1,t2,t3, -⟩:=iC hL0;have w1:=mU hL1 (p:=1) rfl;have w2:=EI h hn hL2 (p:=2) rfl;have w3:=mU hL3 (p:=2+(nV a).length) (by simp;omega);unfold agL;rw [show L[0]? = some t from t1];simp only;rw [t3];simp only;rw [if_neg (by rw [t2];simp),h1,if_neg (by decide),show (⟨1,0,0,0⟩:RS)=rAt 1 from rfl,w1];simp only;rw [if_neg (by simp),show rAt (1+1)=rAt 2 from rfl,w2];simp only;rw [w3,if_neg (by simp),jD];cases hw:a.wh with
 | nil =>
   rw [hw] at hlen;rw [if_pos (by simp only [hlen,sI,List.length_nil];omega)];simp [nY,hw]
 | cons c r =>
   rw [hw] at hlen hL3 h5 h6;have hn':uN (c::r):=by rw [<- hw];exact hn.c
   have hL4:L.map cW=([(1,a.fn.data.toList,0),(3,[40],0)]++nV a++[(3,[41],0)])++(1,fL,0)::(nW c++mA r):=by rw [hL3];simp [sI]
   have q:2+(nV a).length+1=([(1,a.fn.data.toList,0),(3,[40],0)]++nV a++[(3,[41],0)]).length:=by simp;omega
   rw [if_neg (by simp only [hlen,sI,List.length_cons];omega)];simp only;rw [BZ hL4 q,if_neg (by simp),uC r c 5 [] _ fL _ h6 hn' (by simpa using h5) (by simp at h5;omega) hL4 q];simp only;rw [if_neg (by simp),if_neg (by omega)];simp [nY,hw]
theorem GE {a:AG} (h:eM a=0) (hn:fC a) (hl:(cJ a).length<=1024):agX (cJ a)=.ok (nY a):=by
 obtain ⟨ts,e1,e2⟩:=Ke h hn;unfold agX gR;rw [if_neg (by omega),e2];simp only;rw [GJ h hn e1]
theorem GH {l:List UInt8} (hl:1024<l.length):agX l=.bad 0 4:=by
 unfold agX gR;rw [if_pos hl]
theorem vJ:∀ l:List CD,eI (l.map ED) l=true
 | []=>rfl
 | c :: r => by
   rw [List.map_cons,eI];have ha:bW (iO c.a) c.a=true:=kI c.a.f;have hb:bW (iO c.b) c.b=true:=kI c.b.f;show ((c.op.toList == c.op.toList) && bW (iO c.a) c.a && bW (iO c.b) c.b && eI (r.map ED) r)=true;rw [ha,hb,vJ r];simp
theorem Do (a:AG):j0 (nY a) a=true:=by
 have he:bW (iO a.e) a.e=true:=kI a.e.f;have hg:bW (iO a.g) a.g=true:=kI a.g.f;unfold j0 nY;simp only [List.length_map,beq_self_eq_true,vJ,Bool.true_and,Bool.and_true];by_cases c1:a.fn.data.toList=aP
 · have c2:¬ a.fn.data.toList=cU:=by rw [c1];decide
   have c3:¬ a.fn.data.toList=aQ:=by rw [c1];decide
   simp [c1,aP,cU,aQ]
 · by_cases c3:a.fn.data.toList=aQ
   · simp [c3,he,hg,aP,cU,aQ]
   · by_cases c2:a.fn.data.toList=cU
     · simp [c2,he,aP,cU,aQ]
     · simp [c1,c2,c3,he]
end
end Go.Proofs.YtapcjnoaofmmiaaGreatDoor
