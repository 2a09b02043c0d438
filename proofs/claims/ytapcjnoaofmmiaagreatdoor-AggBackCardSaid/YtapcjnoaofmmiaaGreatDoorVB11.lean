/-
 No statement: what AggBackCard needs, of the texts QText.
-/
import Derived.Test.YtapcjnoaofmmiaaGreatDoorVB10
set_option maxHeartbeats 40000000
set_option maxRecDepth 100000
namespace Go.Proofs.YtapcjnoaofmmiaaGreatDoor
section
open Go.RowKit
def fB (x:AG) (k:Nat):List UInt8:=if k=0 then oB x.wh else cE (x.wh.drop k)
theorem f6 (x:AG):fB x 0=oB x.wh:=if_pos rfl
theorem iE {x:AG} {k:Nat} (h:¬ k=0):fB x k=cE (x.wh.drop k):=if_neg h
theorem dH {x:AG} {k:Nat}:fB x (k+1)=cE (x.wh.drop (k+1)):=if_neg (by omega)
theorem gO {x:AG} {d:CD} {r:List CD} {k:Nat} (h0:k=0) (h:x.wh.drop k=d::r):fB x k=[32,119,104,101,114,101,32]++(aK d.a++32::(d.op.data.toList++32::aK d.b))++cE r:=by
 subst h0;rw [f6];rw [List.drop_zero] at h;rw [h,oB]
theorem jL {x:AG} {k:Nat} (h:x.wh.drop k=[]):fB x k=[]:=by
 by_cases h0:k=0
 · subst h0
   rw [f6];rw [List.drop_zero] at h;rw [h,oB]
 · rw [iE h0,h,cE]
theorem bN {t:TN} (h:aF t=0) (hn:cX t.f):(aK t).length<=700:=by
 obtain ⟨h1,h2⟩:=(aN t).1 h;have:=sL t h1 hn;omega
theorem lM {o:ByteArray} (h:(aS o 0 0).isSome=true):o.size<=2:=by
 have:o.size=o.data.toList.length:=by simp
 rw [this];rcases tB h with h | h | h | h | h | h <;> rw [h] <;> simp
theorem eU:∀ l:List CD,cL l=0->∀ d∈l,(aS d.op 0 0).isSome=true/\aF d.a=0/\aF d.b=0
 | [],_,d,hd=>by cases hd
 | c :: r, h, d, hd => by
   obtain ⟨h1,h2,h3,h4⟩:=fW h;rcases List.mem_cons.1 hd with rfl | hd
   · exact ⟨h1,h2,h3⟩
   · exact eU r h4 d hd
theorem pU {x:AG} (h:dD x.fn.data.toList=true):x.fn.size<=5:=by
 have:x.fn.size=x.fn.data.toList.length:=by simp
 rw [this];unfold dD at h;simp only [Bool.or_eq_true,beq_iff_eq] at h;rcases h with ((((h | h) | h) | h) | h) | h <;> rw [h] <;> decide
theorem Dw {G:Nat->Prop} (x:AG) (p:PA) (w:World) (h:eM x=0) (hn:fC x) (hr:aJ G w x p) (hc:x.fn.data.toList=aP):Calls Tryz.prog 16 #[agV x p] w fun e w'=>e=.returned (.string ⟨(cJ x).toArray⟩)/\Below w.heap.size w w':=by
 obtain ⟨h1,h2,h3,h4,h5,h6⟩:=cB h;have K0:=tP hr;generalize hW:w.alloc (agO x p)=W at K0;have HW:=aA hW;have HK:=aA K0;have HC:=aA (eU x.wh h6);have HNC:=aA hn.c;have hfz:=pU h1;obtain ⟨full,hfu⟩:∃ f,cJ x=f:=⟨_,rfl⟩;rw [hfu];have HFU:=aA hfu;obtain ⟨m0,m1,m2,m3,m4,m5,m6,m7,m8,m9,m10⟩:=aD HK.out.n;have f0:(9223372036854775807<x.fn.size+1)=False:=by rw [eq_iff_iff,iff_false];omega
 have g:=hc;unfold aP at g;have f1:¬ x.fn.data.toList=cU:=by rw [hc];decide
 have f2:¬ x.fn.data.toList=aQ:=by rw [hc];decide
 have gMin:(x.fn.toList == [109,105,110])=false:=aG (by rw [hc];decide);have gMax:(x.fn.toList == [109,97,120])=false:=aG (by rw [hc];decide);have gSum:(x.fn.toList == [115,117,109])=false:=aG (by rw [hc];decide);have gFirst:(x.fn.toList == [102,105,114,115,116])=false:=aG (by rw [hc];decide);have gTop:(x.fn.toList == [116,111,112])=false:=aG (by rw [hc];decide);obtain ⟨S0,hS0⟩:∃ S:ByteArray,x.fn++⟨#[40]⟩=S:=⟨_,rfl⟩;have HS0:=aA (show S0.data.toList=x.fn.data.toList++40::fR x by rw [<- hS0];unfold fR;rw [if_pos hc];simp);have HSZ:=aA (show S0.size<=1900 by rw [<- hS0,ByteArray.size_append];show x.fn.size+1<=_;omega);clear h1 h2 h3 h4 h6 hW K0 hr hn h g hfu hc f1 f2;go_enter Tryz.func16,Tryz.ntmps16
 go_upto_region 1 with fail
 rw [HW.out];go_upto_region 11 with fail
 try rw [hS0]
 clear hS0 m0 m1 m2 m3 m4 m5 m6 m7 m8 m9 m10;have HF0:=aA (show (S0++⟨#[41]⟩).data.toList++fB x 0=full by have e:(S0++⟨#[41]⟩:ByteArray).data.toList=S0.data.toList++[41]:=(by simp);rw [<- HFU.out,e,HS0.out];simp [cJ,f6]);have HZ0:=aA (show (S0++⟨#[41]⟩).size<=2000+2000*0 by rw [ByteArray.size_append];have:=HSZ.out;show S0.size+1<=_;omega);have K1:=aA HK.out;have x0:(9223372036854775807<S0.size+1)=False:=by rw [eq_iff_iff,iff_false];have:=HSZ.out;omega
 clear HS0 HSZ HFU hfz;go_wp2_with fail
 go_loopw [3,4] (fun sv i wr=>∃ (k:Nat) (S:ByteArray),sv=.string S/\i=.int .i64 k/\k<=x.wh.length/\Hid (S.data.toList++fB x k=full)/\Hid (S.size<=2000+2000*k)/\Hid (KA G w x p wr)) (fun _ i _=>x.wh.length-(intOf i).toNat)
 case atStart=>exact ⟨0,_,rfl,rfl,Nat.zero_le _,HF0,HZ0,K1⟩
 case round =>
  obtain ⟨k,S,rfl,rfl,hk,HF,HZ,HK⟩:=hrel;obtain ⟨m0,m1,m2,m3,m4,m5,m6,m7,m8,m9,m10⟩:=aD HK.out.n;by_cases hlt:k<x.wh.length
  · obtain ⟨d,hd⟩:∃ d,x.wh[k]? = some d:=⟨_,List.getElem?_eq_getElem hlt⟩
    have hne:¬ x.wh=[]:=fun e=>by rw [e] at hlt;simp at hlt
    obtain ⟨b,off,hwa, -,hbl,hcc⟩:=HK.out.r.c.resolve_left hne;obtain ⟨a1,c1,a2,c2,⟨p0,p1,p2,p3,p4,p5,p6,p7,p8⟩,r1,r2⟩:=hcc k d hd;rw [hwa] at m10
    have CELLS:=aA (p:=∀ V,Below wr.heap.size wr V->(V.cell? ⟨w.heap.size,10,none⟩=some (.slice (some ⟨b,off,none⟩) x.wh.length p.wc)/\V.cell? ⟨b,off+k*9,none⟩=some (.string d.op)/\V.cell? ⟨b,off+k*9+1,none⟩=some (.string d.a.op)/\V.cell? ⟨b,off+k*9+1+1,none⟩=some (.string d.a.nm)/\V.cell? ⟨b,off+k*9+1+2,none⟩=some (.int .i64 d.a.n)/\V.cell? ⟨b,off+k*9+1+3,none⟩=some (.slice a1 d.a.ks.len c1)/\V.cell? ⟨b,off+k*9+5,none⟩=some (.string d.b.op)/\V.cell? ⟨b,off+k*9+5+1,none⟩=some (.string d.b.nm)/\V.cell? ⟨b,off+k*9+5+2,none⟩=some (.int .i64 d.b.n)/\V.cell? ⟨b,off+k*9+5+3,none⟩=some (.slice a2 d.b.ks.len c2))) (fun V hV=>by
     have z1:=aC HK.out.n;exact ⟨(hV.cell (p:=⟨w.heap.size,_,none⟩) z1).trans m10,(hV.cell (p:=⟨b,_,none⟩) hbl).trans p0,(hV.cell (p:=⟨b,_,none⟩) hbl).trans p1,(hV.cell (p:=⟨b,_,none⟩) hbl).trans p2,(hV.cell (p:=⟨b,_,none⟩) hbl).trans p3,(hV.cell (p:=⟨b,_,none⟩) hbl).trans p4,(hV.cell (p:=⟨b,_,none⟩) hbl).trans p5,(hV.cell (p:=⟨b,_,none⟩) hbl).trans p6,(hV.cell (p:=⟨b,_,none⟩) hbl).trans p7,(hV.cell (p:=⟨b,_,none⟩) hbl).trans p8⟩)
    have hdr:x.wh.drop k=d::x.wh.drop (k+1):=by
     rw [List.drop_eq_getElem_cons hlt];have:=List.getElem?_eq_getElem hlt;rw [this] at hd;rw [Option.some.inj hd]
    obtain ⟨h1,h2,h3⟩:=HC.out d (List.mem_of_getElem? hd);have hnd:=HNC.out d (List.mem_of_getElem? hd);have hAz:=bN h2 hnd.1;have hBz:=bN h3 hnd.2;have hoz:d.op.size<=2:=lM h1;have A1:=aA (fun V (hV:Below wr.heap.size wr V)=>dW d.a ((aN _).1 h2).1 hnd.1 G V a1 c1 (by omega) (r1.kept hV));have A2:=aA (fun V (hV:Below wr.heap.size wr V)=>dW d.b ((aN _).1 h3).1 hnd.2 G V a2 c2 (by omega) (r2.kept hV));obtain ⟨TA,hTA⟩:∃ S:ByteArray,⟨(aK d.a).toArray⟩=S:=⟨_,rfl⟩;obtain ⟨TB,hTB⟩:∃ S:ByteArray,⟨(aK d.b).toArray⟩=S:=⟨_,rfl⟩;rw [hTA] at A1;rw [hTB] at A2;have hAz:TA.size<=700:=by rw [<- hTA];show (aK d.a).toArray.size<=700;rw [List.size_toArray];exact hAz
    have hBz:TB.size<=700:=by rw [<- hTB];show (aK d.b).toArray.size<=700;rw [List.size_toArray];exact hBz
    have hF:=HF.out;have b1:(k:Int)<(x.wh.length:Int):=by omega
    have b2:(0:Int)<=(k:Int):=by omega
    have b3:((k:Int)).toNat=k:=by omega
    clear hne hcc hwa r1 r2 hd h1 h2 h3 hnd HF m0 m1 m2 m3 m4 m5 m6 m7 m8 m9;by_cases h0:k=0
    · rw [gO h0 hdr] at hF
      have d1:(((k:Nat):Int) == 0)=true:=by rw [h0];rfl
      clear h0;have hw:S.data.toList++([32,119,104,101,114,101,32]++(aK d.a++32::(d.op.data.toList++32::aK d.b))++cE (x.wh.drop (k+1)))=full:=by first | (rw [<- hF];done) | (rw [<- hF];simp)
      obtain ⟨S1,hS1⟩:∃ S1:ByteArray,S++⟨#[32,119,104,101,114,101,32]⟩=S1:=⟨_,rfl⟩;have hS1z:S1.size<=2000+2000*k+10:=by rw [<- hS1,ByteArray.size_append];have:=HZ.out;show S.size+7<=_;omega
      have hx0:(9223372036854775807<S.size+7)=False:=by rw [eq_iff_iff,iff_false];have:=HZ.out;omega
      have HN:=aA (show (S1++TA++⟨#[32]⟩++d.op++⟨#[32]⟩++TB).data.toList++cE (x.wh.drop (k+1))=full by rw [<- hw, <- hS1, <- hTA, <- hTB];simp);have HZ1:=aA (show (S1++TA++⟨#[32]⟩++d.op++⟨#[32]⟩++TB).size<=2000+2000*(k+1) by simp only [ByteArray.size_append];have h1:(⟨#[32]⟩:ByteArray).size=1:=rfl;rw [h1];omega);have x1:(9223372036854775807<S1.size+TA.size)=False:=by rw [eq_iff_iff,iff_false];omega
      have x2:(9223372036854775807<S1.size+TA.size+1)=False:=by rw [eq_iff_iff,iff_false];omega
      have x3:(9223372036854775807<S1.size+TA.size+1+d.op.size)=False:=by rw [eq_iff_iff,iff_false];omega
      have x4:(9223372036854775807<S1.size+TA.size+1+d.op.size+1)=False:=by rw [eq_iff_iff,iff_false];omega
      have x5:(9223372036854775807<S1.size+TA.size+1+d.op.size+1+TB.size)=False:=by rw [eq_iff_iff,iff_false];omega
      clear hw hF hTA hTB hS1z hAz hBz hoz;go_upto_region 18 with fail
      try rw [hS1]
      clear hS1
      go_region_held3 (fun V=>V.cell? ⟨w.heap.size,10,none⟩=some (.slice (some ⟨b,off,none⟩) x.wh.length p.wc)/\V.cell? ⟨b,off+k*9,none⟩=some (.string d.op)/\V.cell? ⟨b,off+k*9+1,none⟩=some (.string d.a.op)/\V.cell? ⟨b,off+k*9+1+1,none⟩=some (.string d.a.nm)/\V.cell? ⟨b,off+k*9+1+2,none⟩=some (.int .i64 d.a.n)/\V.cell? ⟨b,off+k*9+1+3,none⟩=some (.slice a1 d.a.ks.len c1)/\V.cell? ⟨b,off+k*9+5,none⟩=some (.string d.b.op)/\V.cell? ⟨b,off+k*9+5+1,none⟩=some (.string d.b.nm)/\V.cell? ⟨b,off+k*9+5+2,none⟩=some (.int .i64 d.b.n)/\V.cell? ⟨b,off+k*9+5+3,none⟩=some (.slice a2 d.b.ks.len c2)) (first | assumption | exact ⟨m10,p0,p1,p2,p3,p4,p5,p6,p7,p8⟩ | exact CELLS.out _ B6.out | exact CELLS.out _ B5.out) (first
       | (go_at_call 47
          with_reducible refine (A1.out _ (aH wr)).mono ?_
          rintro e w5 ⟨rfl,hb⟩;have B5:=aA ((aH wr).trans hb);have c5':=CELLS.out _ B5.out;clear hb)
       | (go_at_call 47
          with_reducible refine (A2.out w5 B5.out).mono ?_
          rintro e w6 ⟨rfl,hb⟩;have B6:=aA (B5.out.trans (hb.mono B5.out.size));have c6':=CELLS.out _ B6.out;clear hb)
       | fail)
      have HE:=aA (HK.out.step B6.out);clear B5 B6 CELLS A1 A2 c5' c6' m10 p0 p1 p2 p3 p4 p5 p6 p7 p8;go_wp2_with fail
      go_roundw
      case rel=>exact ⟨k+1,_,rfl,by go_num,by omega,aA (by rw [dH];exact HN.out),HZ1,HE⟩
      case measure=>simp [intOf];omega
    · rw [iE h0,hdr,cE] at hF
      have d1:(((k:Nat):Int) == 0)=false:=by rw [beq_eq_false_iff_ne];omega
      clear h0;have hw:S.data.toList++([32,97,110,100,32]++(aK d.a++32::(d.op.data.toList++32::aK d.b))++cE (x.wh.drop (k+1)))=full:=by first | (rw [<- hF];done) | (rw [<- hF];simp)
      obtain ⟨S1,hS1⟩:∃ S1:ByteArray,S++⟨#[32,97,110,100,32]⟩=S1:=⟨_,rfl⟩;have hS1z:S1.size<=2000+2000*k+10:=by rw [<- hS1,ByteArray.size_append];have:=HZ.out;show S.size+5<=_;omega
      have hx0:(9223372036854775807<S.size+5)=False:=by rw [eq_iff_iff,iff_false];have:=HZ.out;omega
      have HN:=aA (show (S1++TA++⟨#[32]⟩++d.op++⟨#[32]⟩++TB).data.toList++cE (x.wh.drop (k+1))=full by rw [<- hw, <- hS1, <- hTA, <- hTB];simp);have HZ1:=aA (show (S1++TA++⟨#[32]⟩++d.op++⟨#[32]⟩++TB).size<=2000+2000*(k+1) by simp only [ByteArray.size_append];have h1:(⟨#[32]⟩:ByteArray).size=1:=rfl;rw [h1];omega);have x1:(9223372036854775807<S1.size+TA.size)=False:=by rw [eq_iff_iff,iff_false];omega
      have x2:(9223372036854775807<S1.size+TA.size+1)=False:=by rw [eq_iff_iff,iff_false];omega
      have x3:(9223372036854775807<S1.size+TA.size+1+d.op.size)=False:=by rw [eq_iff_iff,iff_false];omega
      have x4:(9223372036854775807<S1.size+TA.size+1+d.op.size+1)=False:=by rw [eq_iff_iff,iff_false];omega
      have x5:(9223372036854775807<S1.size+TA.size+1+d.op.size+1+TB.size)=False:=by rw [eq_iff_iff,iff_false];omega
      clear hw hF hTA hTB hS1z hAz hBz hoz;go_upto_region 18 with fail
      try rw [hS1]
      clear hS1
      go_region_held3 (fun V=>V.cell? ⟨w.heap.size,10,none⟩=some (.slice (some ⟨b,off,none⟩) x.wh.length p.wc)/\V.cell? ⟨b,off+k*9,none⟩=some (.string d.op)/\V.cell? ⟨b,off+k*9+1,none⟩=some (.string d.a.op)/\V.cell? ⟨b,off+k*9+1+1,none⟩=some (.string d.a.nm)/\V.cell? ⟨b,off+k*9+1+2,none⟩=some (.int .i64 d.a.n)/\V.cell? ⟨b,off+k*9+1+3,none⟩=some (.slice a1 d.a.ks.len c1)/\V.cell? ⟨b,off+k*9+5,none⟩=some (.string d.b.op)/\V.cell? ⟨b,off+k*9+5+1,none⟩=some (.string d.b.nm)/\V.cell? ⟨b,off+k*9+5+2,none⟩=some (.int .i64 d.b.n)/\V.cell? ⟨b,off+k*9+5+3,none⟩=some (.slice a2 d.b.ks.len c2)) (first | assumption | exact ⟨m10,p0,p1,p2,p3,p4,p5,p6,p7,p8⟩ | exact CELLS.out _ B6.out | exact CELLS.out _ B5.out) (first
       | (go_at_call 47
          with_reducible refine (A1.out _ (aH wr)).mono ?_
          rintro e w5 ⟨rfl,hb⟩;have B5:=aA ((aH wr).trans hb);have c5':=CELLS.out _ B5.out;clear hb)
       | (go_at_call 47
          with_reducible refine (A2.out w5 B5.out).mono ?_
          rintro e w6 ⟨rfl,hb⟩;have B6:=aA (B5.out.trans (hb.mono B5.out.size));have c6':=CELLS.out _ B6.out;clear hb)
       | fail)
      have HE:=aA (HK.out.step B6.out);clear B5 B6 CELLS A1 A2 c5' c6' m10 p0 p1 p2 p3 p4 p5 p6 p7 p8;go_wp2_with fail
      go_roundw
      case rel=>exact ⟨k+1,_,rfl,by go_num,by omega,aA (by rw [dH];exact HN.out),HZ1,HE⟩
      case measure=>simp [intOf];omega
  · have e1:x.wh.drop k=[]:=List.drop_of_length_le (by omega)
    have TR:=aA (show (⟨full.toArray⟩:ByteArray)=S from dO (by rw [<- HF.out,jL e1];simp));have b1:¬ (k:Int)<(x.wh.length:Int):=by omega
    go_wp2_with fail
    go_ret;exact ⟨congrArg (fun z=>Ending.returned (.string z)) TR.out.symm,HK.out.b⟩
theorem qH {G:Nat->Prop} (x:AG) (p:PA) (w:World) (h:eM x=0) (hn:fC x) (hr:aJ G w x p) (hc:x.fn.data.toList=jY\/x.fn.data.toList=kA\/x.fn.data.toList=lA):Calls Tryz.prog 16 #[agV x p] w fun e w'=>e=.returned (.string ⟨(cJ x).toArray⟩)/\Below w.heap.size w w':=by
 obtain ⟨h1,h2,h3,h4,h5,h6⟩:=cB h;have K0:=tP hr;generalize hW:w.alloc (agO x p)=W at K0;have HW:=aA hW;have HK:=aA K0;have HC:=aA (eU x.wh h6);have HNC:=aA hn.c;have hfz:=pU h1;obtain ⟨full,hfu⟩:∃ f,cJ x=f:=⟨_,rfl⟩;rw [hfu];have HFU:=aA hfu;obtain ⟨m0,m1,m2,m3,m4,m5,m6,m7,m8,m9,m10⟩:=aD HK.out.n;have f0:(9223372036854775807<x.fn.size+1)=False:=by rw [eq_iff_iff,iff_false];omega
 have f1:¬ x.fn.data.toList=aP:=by rcases hc with hc | hc | hc <;> rw [hc] <;> decide
 have f2:¬ x.fn.data.toList=cU:=by rcases hc with hc | hc | hc <;> rw [hc] <;> decide
 have f3:¬ x.fn.data.toList=aQ:=by rcases hc with hc | hc | hc <;> rw [hc] <;> decide
 have he:=h3 f1;have hez:=bN he hn.e;have C:=aA (dW x.e ((aN _).1 he).1 hn.e G W p.ea p.ec (by omega) HK.out.r.e);obtain ⟨TE,hTE⟩:∃ S:ByteArray,⟨(aK x.e).toArray⟩=S:=⟨_,rfl⟩;rw [hTE] at C;have hez:TE.size<=700:=by rw [<- hTE];show (aK x.e).toArray.size<=700;rw [List.size_toArray];exact hez
 obtain ⟨S0,hS0⟩:∃ S:ByteArray,x.fn++⟨#[40]⟩++TE=S:=⟨_,rfl⟩;have HS0:=aA (show S0.data.toList=x.fn.data.toList++40::fR x by rw [<- hS0, <- hTE];unfold fR;rw [if_neg f1,if_neg f2,if_neg f3];simp);have HSZ:=aA (show S0.size<=1900 by rw [<- hS0];simp only [ByteArray.size_append];show x.fn.size+1+TE.size<=_;omega);have f00:(9223372036854775807<x.fn.size+1+TE.size)=False:=by rw [eq_iff_iff,iff_false];omega
 have gg:x.fn.data.toList=jY\/x.fn.data.toList=kA\/x.fn.data.toList=lA:=hc;clear h1 h2 h3 h4 h6 hW K0 hr hn h hfu hc f1 f2 f3 he hTE hez hfz;cases gm:(x.fn.data.toList == jY) with
 | true =>
   have gMin:=bG gm;unfold jY at gMin;clear gm gg;go_enter Tryz.func16,Tryz.ntmps16
   go_upto_region 1 with fail
   rw [HW.out];go_upto_region 6 with fail
   go_wp2_with fail
   refine C.out.mono ?_;rintro e w1 ⟨rfl,hb⟩;have K2:=aA (HK.out.step hb);clear hb C m0 m1 m2 m3 m4 m5 m6 m7 m8 m9 m10;go_upto_region 11 with fail
   try rw [hS0]
   clear hS0;have HF0:=aA (show (S0++⟨#[41]⟩).data.toList++fB x 0=full by have e:(S0++⟨#[41]⟩:ByteArray).data.toList=S0.data.toList++[41]:=(by simp);rw [<- HFU.out,e,HS0.out];simp [cJ,f6]);have HZ0:=aA (show (S0++⟨#[41]⟩).size<=2000+2000*0 by rw [ByteArray.size_append];have:=HSZ.out;show S0.size+1<=_;omega);have K1:=aA K2.out;have x0:(9223372036854775807<S0.size+1)=False:=by rw [eq_iff_iff,iff_false];have:=HSZ.out;omega
   clear HS0 HSZ HFU K2;go_wp2_with fail
   go_loopw [3,4] (fun sv i wr=>∃ (k:Nat) (S:ByteArray),sv=.string S/\i=.int .i64 k/\k<=x.wh.length/\Hid (S.data.toList++fB x k=full)/\Hid (S.size<=2000+2000*k)/\Hid (KA G w x p wr)) (fun _ i _=>x.wh.length-(intOf i).toNat)
   case atStart=>exact ⟨0,_,rfl,rfl,Nat.zero_le _,HF0,HZ0,K1⟩
   case round =>
    obtain ⟨k,S,rfl,rfl,hk,HF,HZ,HK⟩:=hrel;obtain ⟨m0,m1,m2,m3,m4,m5,m6,m7,m8,m9,m10⟩:=aD HK.out.n;by_cases hlt:k<x.wh.length
    · obtain ⟨d,hd⟩:∃ d,x.wh[k]? = some d:=⟨_,List.getElem?_eq_getElem hlt⟩
      have hne:¬ x.wh=[]:=fun e=>by rw [e] at hlt;simp at hlt
      obtain ⟨b,off,hwa, -,hbl,hcc⟩:=HK.out.r.c.resolve_left hne;obtain ⟨a1,c1,a2,c2,⟨p0,p1,p2,p3,p4,p5,p6,p7,p8⟩,r1,r2⟩:=hcc k d hd;rw [hwa] at m10
      have CELLS:=aA (p:=∀ V,Below wr.heap.size wr V->(V.cell? ⟨w.heap.size,10,none⟩=some (.slice (some ⟨b,off,none⟩) x.wh.length p.wc)/\V.cell? ⟨b,off+k*9,none⟩=some (.string d.op)/\V.cell? ⟨b,off+k*9+1,none⟩=some (.string d.a.op)/\V.cell? ⟨b,off+k*9+1+1,none⟩=some (.string d.a.nm)/\V.cell? ⟨b,off+k*9+1+2,none⟩=some (.int .i64 d.a.n)/\V.cell? ⟨b,off+k*9+1+3,none⟩=some (.slice a1 d.a.ks.len c1)/\V.cell? ⟨b,off+k*9+5,none⟩=some (.string d.b.op)/\V.cell? ⟨b,off+k*9+5+1,none⟩=some (.string d.b.nm)/\V.cell? ⟨b,off+k*9+5+2,none⟩=some (.int .i64 d.b.n)/\V.cell? ⟨b,off+k*9+5+3,none⟩=some (.slice a2 d.b.ks.len c2))) (fun V hV=>by
       have z1:=aC HK.out.n;exact ⟨(hV.cell (p:=⟨w.heap.size,_,none⟩) z1).trans m10,(hV.cell (p:=⟨b,_,none⟩) hbl).trans p0,(hV.cell (p:=⟨b,_,none⟩) hbl).trans p1,(hV.cell (p:=⟨b,_,none⟩) hbl).trans p2,(hV.cell (p:=⟨b,_,none⟩) hbl).trans p3,(hV.cell (p:=⟨b,_,none⟩) hbl).trans p4,(hV.cell (p:=⟨b,_,none⟩) hbl).trans p5,(hV.cell (p:=⟨b,_,none⟩) hbl).trans p6,(hV.cell (p:=⟨b,_,none⟩) hbl).trans p7,(hV.cell (p:=⟨b,_,none⟩) hbl).trans p8⟩)
      have hdr:x.wh.drop k=d::x.wh.drop (k+1):=by
       rw [List.drop_eq_getElem_cons hlt];have:=List.getElem?_eq_getElem hlt;rw [this] at hd;rw [Option.some.inj hd]
      obtain ⟨h1,h2,h3⟩:=HC.out d (List.mem_of_getElem? hd);have hnd:=HNC.out d (List.mem_of_getElem? hd);have hAz:=bN h2 hnd.1;have hBz:=bN h3 hnd.2;have hoz:d.op.size<=2:=lM h1;have A1:=aA (fun V (hV:Below wr.heap.size wr V)=>dW d.a ((aN _).1 h2).1 hnd.1 G V a1 c1 (by omega) (r1.kept hV));have A2:=aA (fun V (hV:Below wr.heap.size wr V)=>dW d.b ((aN _).1 h3).1 hnd.2 G V a2 c2 (by omega) (r2.kept hV));obtain ⟨TA,hTA⟩:∃ S:ByteArray,⟨(aK d.a).toArray⟩=S:=⟨_,rfl⟩;obtain ⟨TB,hTB⟩:∃ S:ByteArray,⟨(aK d.b).toArray⟩=S:=⟨_,rfl⟩;rw [hTA] at A1;rw [hTB] at A2;have hAz:TA.size<=700:=by rw [<- hTA];show (aK d.a).toArray.size<=700;rw [List.size_toArray];exact hAz
      have hBz:TB.size<=700:=by rw [<- hTB];show (aK d.b).toArray.size<=700;rw [List.size_toArray];exact hBz
      have hF:=HF.out;have b1:(k:Int)<(x.wh.length:Int):=by omega
      have b2:(0:Int)<=(k:Int):=by omega
      have b3:((k:Int)).toNat=k:=by omega
      clear hne hcc hwa r1 r2 hd h1 h2 h3 hnd HF m0 m1 m2 m3 m4 m5 m6 m7 m8 m9;by_cases h0:k=0
      · rw [gO h0 hdr] at hF
        have d1:(((k:Nat):Int) == 0)=true:=by rw [h0];rfl
        clear h0;have hw:S.data.toList++([32,119,104,101,114,101,32]++(aK d.a++32::(d.op.data.toList++32::aK d.b))++cE (x.wh.drop (k+1)))=full:=by first | (rw [<- hF];done) | (rw [<- hF];simp)
        obtain ⟨S1,hS1⟩:∃ S1:ByteArray,S++⟨#[32,119,104,101,114,101,32]⟩=S1:=⟨_,rfl⟩;have hS1z:S1.size<=2000+2000*k+10:=by rw [<- hS1,ByteArray.size_append];have:=HZ.out;show S.size+7<=_;omega
        have hx0:(9223372036854775807<S.size+7)=False:=by rw [eq_iff_iff,iff_false];have:=HZ.out;omega
        have HN:=aA (show (S1++TA++⟨#[32]⟩++d.op++⟨#[32]⟩++TB).data.toList++cE (x.wh.drop (k+1))=full by rw [<- hw, <- hS1, <- hTA, <- hTB];simp);have HZ1:=aA (show (S1++TA++⟨#[32]⟩++d.op++⟨#[32]⟩++TB).size<=2000+2000*(k+1) by simp only [ByteArray.size_append];have h1:(⟨#[32]⟩:ByteArray).size=1:=rfl;rw [h1];omega);have x1:(9223372036854775807<S1.size+TA.size)=False:=by rw [eq_iff_iff,iff_false];omega
        have x2:(9223372036854775807<S1.size+TA.size+1)=False:=by rw [eq_iff_iff,iff_false];omega
        have x3:(9223372036854775807<S1.size+TA.size+1+d.op.size)=False:=by rw [eq_iff_iff,iff_false];omega
        have x4:(9223372036854775807<S1.size+TA.size+1+d.op.size+1)=False:=by rw [eq_iff_iff,iff_false];omega
        have x5:(9223372036854775807<S1.size+TA.size+1+d.op.size+1+TB.size)=False:=by rw [eq_iff_iff,iff_false];omega
        clear hw hF hTA hTB hS1z hAz hBz hoz;go_upto_region 18 with fail
        try rw [hS1]
        clear hS1
        go_region_held3 (fun V=>V.cell? ⟨w.heap.size,10,none⟩=some (.slice (some ⟨b,off,none⟩) x.wh.length p.wc)/\V.cell? ⟨b,off+k*9,none⟩=some (.string d.op)/\V.cell? ⟨b,off+k*9+1,none⟩=some (.string d.a.op)/\V.cell? ⟨b,off+k*9+1+1,none⟩=some (.string d.a.nm)/\V.cell? ⟨b,off+k*9+1+2,none⟩=some (.int .i64 d.a.n)/\V.cell? ⟨b,off+k*9+1+3,none⟩=some (.slice a1 d.a.ks.len c1)/\V.cell? ⟨b,off+k*9+5,none⟩=some (.string d.b.op)/\V.cell? ⟨b,off+k*9+5+1,none⟩=some (.string d.b.nm)/\V.cell? ⟨b,off+k*9+5+2,none⟩=some (.int .i64 d.b.n)/\V.cell? ⟨b,off+k*9+5+3,none⟩=some (.slice a2 d.b.ks.len c2)) (first | assumption | exact ⟨m10,p0,p1,p2,p3,p4,p5,p6,p7,p8⟩ | exact CELLS.out _ B6.out | exact CELLS.out _ B5.out) (first
         | (go_at_call 47
            with_reducible refine (A1.out _ (aH wr)).mono ?_
            rintro e w5 ⟨rfl,hb⟩;have B5:=aA ((aH wr).trans hb);have c5':=CELLS.out _ B5.out;clear hb)
         | (go_at_call 47
            with_reducible refine (A2.out w5 B5.out).mono ?_
            rintro e w6 ⟨rfl,hb⟩;have B6:=aA (B5.out.trans (hb.mono B5.out.size));have c6':=CELLS.out _ B6.out;clear hb)
         | fail)
        have HE:=aA (HK.out.step B6.out);clear B5 B6 CELLS A1 A2 c5' c6' m10 p0 p1 p2 p3 p4 p5 p6 p7 p8;go_wp2_with fail
        go_roundw
        case rel=>exact ⟨k+1,_,rfl,by go_num,by omega,aA (by rw [dH];exact HN.out),HZ1,HE⟩
        case measure=>simp [intOf];omega
      · rw [iE h0,hdr,cE] at hF
        have d1:(((k:Nat):Int) == 0)=false:=by rw [beq_eq_false_iff_ne];omega
        clear h0;have hw:S.data.toList++([32,97,110,100,32]++(aK d.a++32::(d.op.data.toList++32::aK d.b))++cE (x.wh.drop (k+1)))=full:=by first | (rw [<- hF];done) | (rw [<- hF];simp)
        obtain ⟨S1,hS1⟩:∃ S1:ByteArray,S++⟨#[32,97,110,100,32]⟩=S1:=⟨_,rfl⟩;have hS1z:S1.size<=2000+2000*k+10:=by rw [<- hS1,ByteArray.size_append];have:=HZ.out;show S.size+5<=_;omega
        have hx0:(9223372036854775807<S.size+5)=False:=by rw [eq_iff_iff,iff_false];have:=HZ.out;omega
        have HN:=aA (show (S1++TA++⟨#[32]⟩++d.op++⟨#[32]⟩++TB).data.toList++cE (x.wh.drop (k+1))=full by rw [<- hw, <- hS1, <- hTA, <- hTB];simp);have HZ1:=aA (show (S1++TA++⟨#[32]⟩++d.op++⟨#[32]⟩++TB).size<=2000+2000*(k+1) by simp only [ByteArray.size_append];have h1:(⟨#[32]⟩:ByteArray).size=1:=rfl;rw [h1];omega);have x1:(9223372036854775807<S1.size+TA.size)=False:=by rw [eq_iff_iff,iff_false];omega
        have x2:(9223372036854775807<S1.size+TA.size+1)=False:=by rw [eq_iff_iff,iff_false];omega
        have x3:(9223372036854775807<S1.size+TA.size+1+d.op.size)=False:=by rw [eq_iff_iff,iff_false];omega
        have x4:(9223372036854775807<S1.size+TA.size+1+d.op.size+1)=False:=by rw [eq_iff_iff,iff_false];omega
        have x5:(9223372036854775807<S1.size+TA.size+1+d.op.size+1+TB.size)=False:=by rw [eq_iff_iff,iff_false];omega
        clear hw hF hTA hTB hS1z hAz hBz hoz;go_upto_region 18 with fail
        try rw [hS1]
        clear hS1
        go_region_held3 (fun V=>V.cell? ⟨w.heap.size,10,none⟩=some (.slice (some ⟨b,off,none⟩) x.wh.length p.wc)/\V.cell? ⟨b,off+k*9,none⟩=some (.string d.op)/\V.cell? ⟨b,off+k*9+1,none⟩=some (.string d.a.op)/\V.cell? ⟨b,off+k*9+1+1,none⟩=some (.string d.a.nm)/\V.cell? ⟨b,off+k*9+1+2,none⟩=some (.int .i64 d.a.n)/\V.cell? ⟨b,off+k*9+1+3,none⟩=some (.slice a1 d.a.ks.len c1)/\V.cell? ⟨b,off+k*9+5,none⟩=some (.string d.b.op)/\V.cell? ⟨b,off+k*9+5+1,none⟩=some (.string d.b.nm)/\V.cell? ⟨b,off+k*9+5+2,none⟩=some (.int .i64 d.b.n)/\V.cell? ⟨b,off+k*9+5+3,none⟩=some (.slice a2 d.b.ks.len c2)) (first | assumption | exact ⟨m10,p0,p1,p2,p3,p4,p5,p6,p7,p8⟩ | exact CELLS.out _ B6.out | exact CELLS.out _ B5.out) (first
         | (go_at_call 47
            with_reducible refine (A1.out _ (aH wr)).mono ?_
            rintro e w5 ⟨rfl,hb⟩;have B5:=aA ((aH wr).trans hb);have c5':=CELLS.out _ B5.out;clear hb)
         | (go_at_call 47
            with_reducible refine (A2.out w5 B5.out).mono ?_
            rintro e w6 ⟨rfl,hb⟩;have B6:=aA (B5.out.trans (hb.mono B5.out.size));have c6':=CELLS.out _ B6.out;clear hb)
         | fail)
        have HE:=aA (HK.out.step B6.out);clear B5 B6 CELLS A1 A2 c5' c6' m10 p0 p1 p2 p3 p4 p5 p6 p7 p8;go_wp2_with fail
        go_roundw
        case rel=>exact ⟨k+1,_,rfl,by go_num,by omega,aA (by rw [dH];exact HN.out),HZ1,HE⟩
        case measure=>simp [intOf];omega
    · have e1:x.wh.drop k=[]:=List.drop_of_length_le (by omega)
      have TR:=aA (show (⟨full.toArray⟩:ByteArray)=S from dO (by rw [<- HF.out,jL e1];simp));have b1:¬ (k:Int)<(x.wh.length:Int):=by omega
      go_wp2_with fail
      go_ret;exact ⟨congrArg (fun z=>Ending.returned (.string z)) TR.out.symm,HK.out.b⟩
 | false =>
   have gMin:=aG gm;unfold jY at gMin;cases gx:(x.fn.data.toList == kA) with
   | true =>
     have gMax:=bG gx;unfold kA at gMax;clear gm gx gg;go_enter Tryz.func16,Tryz.ntmps16
     go_upto_region 1 with fail
     rw [HW.out];go_upto_region 6 with fail
     go_wp2_with fail
     refine C.out.mono ?_;rintro e w1 ⟨rfl,hb⟩;have K2:=aA (HK.out.step hb);clear hb C m0 m1 m2 m3 m4 m5 m6 m7 m8 m9 m10;go_upto_region 11 with fail
     try rw [hS0]
     clear hS0;have HF0:=aA (show (S0++⟨#[41]⟩).data.toList++fB x 0=full by have e:(S0++⟨#[41]⟩:ByteArray).data.toList=S0.data.toList++[41]:=(by simp);rw [<- HFU.out,e,HS0.out];simp [cJ,f6]);have HZ0:=aA (show (S0++⟨#[41]⟩).size<=2000+2000*0 by rw [ByteArray.size_append];have:=HSZ.out;show S0.size+1<=_;omega);have K1:=aA K2.out;have x0:(9223372036854775807<S0.size+1)=False:=by rw [eq_iff_iff,iff_false];have:=HSZ.out;omega
     clear HS0 HSZ HFU K2;go_wp2_with fail
     go_loopw [3,4] (fun sv i wr=>∃ (k:Nat) (S:ByteArray),sv=.string S/\i=.int .i64 k/\k<=x.wh.length/\Hid (S.data.toList++fB x k=full)/\Hid (S.size<=2000+2000*k)/\Hid (KA G w x p wr)) (fun _ i _=>x.wh.length-(intOf i).toNat)
     case atStart=>exact ⟨0,_,rfl,rfl,Nat.zero_le _,HF0,HZ0,K1⟩
     case round =>
      obtain ⟨k,S,rfl,rfl,hk,HF,HZ,HK⟩:=hrel;obtain ⟨m0,m1,m2,m3,m4,m5,m6,m7,m8,m9,m10⟩:=aD HK.out.n;by_cases hlt:k<x.wh.length
      · obtain ⟨d,hd⟩:∃ d,x.wh[k]? = some d:=⟨_,List.getElem?_eq_getElem hlt⟩
        have hne:¬ x.wh=[]:=fun e=>by rw [e] at hlt;simp at hlt
        obtain ⟨b,off,hwa, -,hbl,hcc⟩:=HK.out.r.c.resolve_left hne;obtain ⟨a1,c1,a2,c2,⟨p0,p1,p2,p3,p4,p5,p6,p7,p8⟩,r1,r2⟩:=hcc k d hd;rw [hwa] at m10
        have CELLS:=aA (p:=∀ V,Below wr.heap.size wr V->(V.cell? ⟨w.heap.size,10,none⟩=some (.slice (some ⟨b,off,none⟩) x.wh.length p.wc)/\V.cell? ⟨b,off+k*9,none⟩=some (.string d.op)/\V.cell? ⟨b,off+k*9+1,none⟩=some (.string d.a.op)/\V.cell? ⟨b,off+k*9+1+1,none⟩=some (.string d.a.nm)/\V.cell? ⟨b,off+k*9+1+2,none⟩=some (.int .i64 d.a.n)/\V.cell? ⟨b,off+k*9+1+3,none⟩=some (.slice a1 d.a.ks.len c1)/\V.cell? ⟨b,off+k*9+5,none⟩=some (.string d.b.op)/\V.cell? ⟨b,off+k*9+5+1,none⟩=some (.string d.b.nm)/\V.cell? ⟨b,off+k*9+5+2,none⟩=some (.int .i64 d.b.n)/\V.cell? ⟨b,off+k*9+5+3,none⟩=some (.slice a2 d.b.ks.len c2))) (fun V hV=>by
         have z1:=aC HK.out.n;exact ⟨(hV.cell (p:=⟨w.heap.size,_,none⟩) z1).trans m10,(hV.cell (p:=⟨b,_,none⟩) hbl).trans p0,(hV.cell (p:=⟨b,_,none⟩) hbl).trans p1,(hV.cell (p:=⟨b,_,none⟩) hbl).trans p2,(hV.cell (p:=⟨b,_,none⟩) hbl).trans p3,(hV.cell (p:=⟨b,_,none⟩) hbl).trans p4,(hV.cell (p:=⟨b,_,none⟩) hbl).trans p5,(hV.cell (p:=⟨b,_,none⟩) hbl).trans p6,(hV.cell (p:=⟨b,_,none⟩) hbl).trans p7,(hV.cell (p:=⟨b,_,none⟩) hbl).trans p8⟩)
        have hdr:x.wh.drop k=d::x.wh.drop (k+1):=by
         rw [List.drop_eq_getElem_cons hlt];have:=List.getElem?_eq_getElem hlt;rw [this] at hd;rw [Option.some.inj hd]
        obtain ⟨h1,h2,h3⟩:=HC.out d (List.mem_of_getElem? hd);have hnd:=HNC.out d (List.mem_of_getElem? hd);have hAz:=bN h2 hnd.1;have hBz:=bN h3 hnd.2;have hoz:d.op.size<=2:=lM h1;have A1:=aA (fun V (hV:Below wr.heap.size wr V)=>dW d.a ((aN _).1 h2).1 hnd.1 G V a1 c1 (by omega) (r1.kept hV));have A2:=aA (fun V (hV:Below wr.heap.size wr V)=>dW d.b ((aN _).1 h3).1 hnd.2 G V a2 c2 (by omega) (r2.kept hV));obtain ⟨TA,hTA⟩:∃ S:ByteArray,⟨(aK d.a).toArray⟩=S:=⟨_,rfl⟩;obtain ⟨TB,hTB⟩:∃ S:ByteArray,⟨(aK d.b).toArray⟩=S:=⟨_,rfl⟩;rw [hTA] at A1;rw [hTB] at A2;have hAz:TA.size<=700:=by rw [<- hTA];show (aK d.a).toArray.size<=700;rw [List.size_toArray];exact hAz
        have hBz:TB.size<=700:=by rw [<- hTB];show (aK d.b).toArray.size<=700;rw [List.size_toArray];exact hBz
        have hF:=HF.out;have b1:(k:Int)<(x.wh.length:Int):=by omega
        have b2:(0:Int)<=(k:Int):=by omega
        have b3:((k:Int)).toNat=k:=by omega
        clear hne hcc hwa r1 r2 hd h1 h2 h3 hnd HF m0 m1 m2 m3 m4 m5 m6 m7 m8 m9;by_cases h0:k=0
        · rw [gO h0 hdr] at hF
          have d1:(((k:Nat):Int) == 0)=true:=by rw [h0];rfl
          clear h0;have hw:S.data.toList++([32,119,104,101,114,101,32]++(aK d.a++32::(d.op.data.toList++32::aK d.b))++cE (x.wh.drop (k+1)))=full:=by first | (rw [<- hF];done) | (rw [<- hF];simp)
          obtain ⟨S1,hS1⟩:∃ S1:ByteArray,S++⟨#[32,119,104,101,114,101,32]⟩=S1:=⟨_,rfl⟩;have hS1z:S1.size<=2000+2000*k+10:=by rw [<- hS1,ByteArray.size_append];have:=HZ.out;show S.size+7<=_;omega
          have hx0:(9223372036854775807<S.size+7)=False:=by rw [eq_iff_iff,iff_false];have:=HZ.out;omega
          have HN:=aA (show (S1++TA++⟨#[32]⟩++d.op++⟨#[32]⟩++TB).data.toList++cE (x.wh.drop (k+1))=full by rw [<- hw, <- hS1, <- hTA, <- hTB];simp);have HZ1:=aA (show (S1++TA++⟨#[32]⟩++d.op++⟨#[32]⟩++TB).size<=2000+2000*(k+1) by simp only [ByteArray.size_append];have h1:(⟨#[32]⟩:ByteArray).size=1:=rfl;rw [h1];omega);have x1:(9223372036854775807<S1.size+TA.size)=False:=by rw [eq_iff_iff,iff_false];omega
          have x2:(9223372036854775807<S1.size+TA.size+1)=False:=by rw [eq_iff_iff,iff_false];omega
          have x3:(9223372036854775807<S1.size+TA.size+1+d.op.size)=False:=by rw [eq_iff_iff,iff_false];omega
          have x4:(9223372036854775807<S1.size+TA.size+1+d.op.size+1)=False:=by rw [eq_iff_iff,iff_false];omega
          have x5:(9223372036854775807<S1.size+TA.size+1+d.op.size+1+TB.size)=False:=by rw [eq_iff_iff,iff_false];omega
          clear hw hF hTA hTB hS1z hAz hBz hoz;go_upto_region 18 with fail
          try rw [hS1]
          clear hS1
          go_region_held3 (fun V=>V.cell? ⟨w.heap.size,10,none⟩=some (.slice (some ⟨b,off,none⟩) x.wh.length p.wc)/\V.cell? ⟨b,off+k*9,none⟩=some (.string d.op)/\V.cell? ⟨b,off+k*9+1,none⟩=some (.string d.a.op)/\V.cell? ⟨b,off+k*9+1+1,none⟩=some (.string d.a.nm)/\V.cell? ⟨b,off+k*9+1+2,none⟩=some (.int .i64 d.a.n)/\V.cell? ⟨b,off+k*9+1+3,none⟩=some (.slice a1 d.a.ks.len c1)/\V.cell? ⟨b,off+k*9+5,none⟩=some (.string d.b.op)/\V.cell? ⟨b,off+k*9+5+1,none⟩=some (.string d.b.nm)/\V.cell? ⟨b,off+k*9+5+2,none⟩=some (.int .i64 d.b.n)/\V.cell? ⟨b,off+k*9+5+3,none⟩=some (.slice a2 d.b.ks.len c2)) (first | assumption | exact ⟨m10,p0,p1,p2,p3,p4,p5,p6,p7,p8⟩ | exact CELLS.out _ B6.out | exact CELLS.out _ B5.out) (first
           | (go_at_call 47
              with_reducible refine (A1.out _ (aH wr)).mono ?_
              rintro e w5 ⟨rfl,hb⟩;have B5:=aA ((aH wr).trans hb);have c5':=CELLS.out _ B5.out;clear hb)
           | (go_at_call 47
              with_reducible refine (A2.out w5 B5.out).mono ?_
              rintro e w6 ⟨rfl,hb⟩;have B6:=aA (B5.out.trans (hb.mono B5.out.size));have c6':=CELLS.out _ B6.out;clear hb)
           | fail)
          have HE:=aA (HK.out.step B6.out);clear B5 B6 CELLS A1 A2 c5' c6' m10 p0 p1 p2 p3 p4 p5 p6 p7 p8;go_wp2_with fail
          go_roundw
          case rel=>exact ⟨k+1,_,rfl,by go_num,by omega,aA (by rw [dH];exact HN.out),HZ1,HE⟩
          case measure=>simp [intOf];omega
        · rw [iE h0,hdr,cE] at hF
          have d1:(((k:Nat):Int) == 0)=false:=by rw [beq_eq_false_iff_ne];omega
          clear h0;have hw:S.data.toList++([32,97,110,100,32]++(aK d.a++32::(d.op.data.toList++32::aK d.b))++cE (x.wh.drop (k+1)))=full:=by first | (rw [<- hF];done) | (rw [<- hF];simp)
          obtain ⟨S1,hS1⟩:∃ S1:ByteArray,S++⟨#[32,97,110,100,32]⟩=S1:=⟨_,rfl⟩;have hS1z:S1.size<=2000+2000*k+10:=by rw [<- hS1,ByteArray.size_append];have:=HZ.out;show S.size+5<=_;omega
          have hx0:(9223372036854775807<S.size+5)=False:=by rw [eq_iff_iff,iff_false];have:=HZ.out;omega
          have HN:=aA (show (S1++TA++⟨#[32]⟩++d.op++⟨#[32]⟩++TB).data.toList++cE (x.wh.drop (k+1))=full by rw [<- hw, <- hS1, <- hTA, <- hTB];simp);have HZ1:=aA (show (S1++TA++⟨#[32]⟩++d.op++⟨#[32]⟩++TB).size<=2000+2000*(k+1) by simp only [ByteArray.size_append];have h1:(⟨#[32]⟩:ByteArray).size=1:=rfl;rw [h1];omega);have x1:(9223372036854775807<S1.size+TA.size)=False:=by rw [eq_iff_iff,iff_false];omega
          have x2:(9223372036854775807<S1.size+TA.size+1)=False:=by rw [eq_iff_iff,iff_false];omega
          have x3:(9223372036854775807<S1.size+TA.size+1+d.op.size)=False:=by rw [eq_iff_iff,iff_false];omega
          have x4:(9223372036854775807<S1.size+TA.size+1+d.op.size+1)=False:=by rw [eq_iff_iff,iff_false];omega
          have x5:(9223372036854775807<S1.size+TA.size+1+d.op.size+1+TB.size)=False:=by rw [eq_iff_iff,iff_false];omega
          clear hw hF hTA hTB hS1z hAz hBz hoz;go_upto_region 18 with fail
          try rw [hS1]
          clear hS1
          go_region_held3 (fun V=>V.cell? ⟨w.heap.size,10,none⟩=some (.slice (some ⟨b,off,none⟩) x.wh.length p.wc)/\V.cell? ⟨b,off+k*9,none⟩=some (.string d.op)/\V.cell? ⟨b,off+k*9+1,none⟩=some (.string d.a.op)/\V.cell? ⟨b,off+k*9+1+1,none⟩=some (.string d.a.nm)/\V.cell? ⟨b,off+k*9+1+2,none⟩=some (.int .i64 d.a.n)/\V.cell? ⟨b,off+k*9+1+3,none⟩=some (.slice a1 d.a.ks.len c1)/\V.cell? ⟨b,off+k*9+5,none⟩=some (.string d.b.op)/\V.cell? ⟨b,off+k*9+5+1,none⟩=some (.string d.b.nm)/\V.cell? ⟨b,off+k*9+5+2,none⟩=some (.int .i64 d.b.n)/\V.cell? ⟨b,off+k*9+5+3,none⟩=some (.slice a2 d.b.ks.len c2)) (first | assumption | exact ⟨m10,p0,p1,p2,p3,p4,p5,p6,p7,p8⟩ | exact CELLS.out _ B6.out | exact CELLS.out _ B5.out) (first
           | (go_at_call 47
              with_reducible refine (A1.out _ (aH wr)).mono ?_
              rintro e w5 ⟨rfl,hb⟩;have B5:=aA ((aH wr).trans hb);have c5':=CELLS.out _ B5.out;clear hb)
           | (go_at_call 47
              with_reducible refine (A2.out w5 B5.out).mono ?_
              rintro e w6 ⟨rfl,hb⟩;have B6:=aA (B5.out.trans (hb.mono B5.out.size));have c6':=CELLS.out _ B6.out;clear hb)
           | fail)
          have HE:=aA (HK.out.step B6.out);clear B5 B6 CELLS A1 A2 c5' c6' m10 p0 p1 p2 p3 p4 p5 p6 p7 p8;go_wp2_with fail
          go_roundw
          case rel=>exact ⟨k+1,_,rfl,by go_num,by omega,aA (by rw [dH];exact HN.out),HZ1,HE⟩
          case measure=>simp [intOf];omega
      · have e1:x.wh.drop k=[]:=List.drop_of_length_le (by omega)
        have TR:=aA (show (⟨full.toArray⟩:ByteArray)=S from dO (by rw [<- HF.out,jL e1];simp));have b1:¬ (k:Int)<(x.wh.length:Int):=by omega
        go_wp2_with fail
        go_ret;exact ⟨congrArg (fun z=>Ending.returned (.string z)) TR.out.symm,HK.out.b⟩
   | false =>
     have gMax:=aG gx;unfold kA at gMax
     have gSum:(x.fn.toList == [115,117,109])=true:=bG (by
      rcases gg with h | h | h
      · rw [h] at gm;cases gm
      · rw [h] at gx;cases gx
      · rw [h];decide)
     clear gm gx gg;go_enter Tryz.func16,Tryz.ntmps16
     go_upto_region 1 with fail
     rw [HW.out];go_upto_region 6 with fail
     go_wp2_with fail
     refine C.out.mono ?_;rintro e w1 ⟨rfl,hb⟩;have K2:=aA (HK.out.step hb);clear hb C m0 m1 m2 m3 m4 m5 m6 m7 m8 m9 m10;go_upto_region 11 with fail
     try rw [hS0]
     clear hS0;have HF0:=aA (show (S0++⟨#[41]⟩).data.toList++fB x 0=full by have e:(S0++⟨#[41]⟩:ByteArray).data.toList=S0.data.toList++[41]:=(by simp);rw [<- HFU.out,e,HS0.out];simp [cJ,f6]);have HZ0:=aA (show (S0++⟨#[41]⟩).size<=2000+2000*0 by rw [ByteArray.size_append];have:=HSZ.out;show S0.size+1<=_;omega);have K1:=aA K2.out;have x0:(9223372036854775807<S0.size+1)=False:=by rw [eq_iff_iff,iff_false];have:=HSZ.out;omega
     clear HS0 HSZ HFU K2;go_wp2_with fail
     go_loopw [3,4] (fun sv i wr=>∃ (k:Nat) (S:ByteArray),sv=.string S/\i=.int .i64 k/\k<=x.wh.length/\Hid (S.data.toList++fB x k=full)/\Hid (S.size<=2000+2000*k)/\Hid (KA G w x p wr)) (fun _ i _=>x.wh.length-(intOf i).toNat)
     case atStart=>exact ⟨0,_,rfl,rfl,Nat.zero_le _,HF0,HZ0,K1⟩
     case round =>
      obtain ⟨k,S,rfl,rfl,hk,HF,HZ,HK⟩:=hrel;obtain ⟨m0,m1,m2,m3,m4,m5,m6,m7,m8,m9,m10⟩:=aD HK.out.n;by_cases hlt:k<x.wh.length
      · obtain ⟨d,hd⟩:∃ d,x.wh[k]? = some d:=⟨_,List.getElem?_eq_getElem hlt⟩
        have hne:¬ x.wh=[]:=fun e=>by rw [e] at hlt;simp at hlt
        obtain ⟨b,off,hwa, -,hbl,hcc⟩:=HK.out.r.c.resolve_left hne;obtain ⟨a1,c1,a2,c2,⟨p0,p1,p2,p3,p4,p5,p6,p7,p8⟩,r1,r2⟩:=hcc k d hd;rw [hwa] at m10
        have CELLS:=aA (p:=∀ V,Below wr.heap.size wr V->(V.cell? ⟨w.heap.size,10,none⟩=some (.slice (some ⟨b,off,none⟩) x.wh.length p.wc)/\V.cell? ⟨b,off+k*9,none⟩=some (.string d.op)/\V.cell? ⟨b,off+k*9+1,none⟩=some (.string d.a.op)/\V.cell? ⟨b,off+k*9+1+1,none⟩=some (.string d.a.nm)/\V.cell? ⟨b,off+k*9+1+2,none⟩=some (.int .i64 d.a.n)/\V.cell? ⟨b,off+k*9+1+3,none⟩=some (.slice a1 d.a.ks.len c1)/\V.cell? ⟨b,off+k*9+5,none⟩=some (.string d.b.op)/\V.cell? ⟨b,off+k*9+5+1,none⟩=some (.string d.b.nm)/\V.cell? ⟨b,off+k*9+5+2,none⟩=some (.int .i64 d.b.n)/\V.cell? ⟨b,off+k*9+5+3,none⟩=some (.slice a2 d.b.ks.len c2))) (fun V hV=>by
         have z1:=aC HK.out.n;exact ⟨(hV.cell (p:=⟨w.heap.size,_,none⟩) z1).trans m10,(hV.cell (p:=⟨b,_,none⟩) hbl).trans p0,(hV.cell (p:=⟨b,_,none⟩) hbl).trans p1,(hV.cell (p:=⟨b,_,none⟩) hbl).trans p2,(hV.cell (p:=⟨b,_,none⟩) hbl).trans p3,(hV.cell (p:=⟨b,_,none⟩) hbl).trans p4,(hV.cell (p:=⟨b,_,none⟩) hbl).trans p5,(hV.cell (p:=⟨b,_,none⟩) hbl).trans p6,(hV.cell (p:=⟨b,_,none⟩) hbl).trans p7,(hV.cell (p:=⟨b,_,none⟩) hbl).trans p8⟩)
        have hdr:x.wh.drop k=d::x.wh.drop (k+1):=by
         rw [List.drop_eq_getElem_cons hlt];have:=List.getElem?_eq_getElem hlt;rw [this] at hd;rw [Option.some.inj hd]
        obtain ⟨h1,h2,h3⟩:=HC.out d (List.mem_of_getElem? hd);have hnd:=HNC.out d (List.mem_of_getElem? hd);have hAz:=bN h2 hnd.1;have hBz:=bN h3 hnd.2;have hoz:d.op.size<=2:=lM h1;have A1:=aA (fun V (hV:Below wr.heap.size wr V)=>dW d.a ((aN _).1 h2).1 hnd.1 G V a1 c1 (by omega) (r1.kept hV));have A2:=aA (fun V (hV:Below wr.heap.size wr V)=>dW d.b ((aN _).1 h3).1 hnd.2 G V a2 c2 (by omega) (r2.kept hV));obtain ⟨TA,hTA⟩:∃ S:ByteArray,⟨(aK d.a).toArray⟩=S:=⟨_,rfl⟩;obtain ⟨TB,hTB⟩:∃ S:ByteArray,⟨(aK d.b).toArray⟩=S:=⟨_,rfl⟩;rw [hTA] at A1;rw [hTB] at A2;have hAz:TA.size<=700:=by rw [<- hTA];show (aK d.a).toArray.size<=700;rw [List.size_toArray];exact hAz
        have hBz:TB.size<=700:=by rw [<- hTB];show (aK d.b).toArray.size<=700;rw [List.size_toArray];exact hBz
        have hF:=HF.out;have b1:(k:Int)<(x.wh.length:Int):=by omega
        have b2:(0:Int)<=(k:Int):=by omega
        have b3:((k:Int)).toNat=k:=by omega
        clear hne hcc hwa r1 r2 hd h1 h2 h3 hnd HF m0 m1 m2 m3 m4 m5 m6 m7 m8 m9;by_cases h0:k=0
        · rw [gO h0 hdr] at hF
          have d1:(((k:Nat):Int) == 0)=true:=by rw [h0];rfl
          clear h0;have hw:S.data.toList++([32,119,104,101,114,101,32]++(aK d.a++32::(d.op.data.toList++32::aK d.b))++cE (x.wh.drop (k+1)))=full:=by first | (rw [<- hF];done) | (rw [<- hF];simp)
          obtain ⟨S1,hS1⟩:∃ S1:ByteArray,S++⟨#[32,119,104,101,114,101,32]⟩=S1:=⟨_,rfl⟩;have hS1z:S1.size<=2000+2000*k+10:=by rw [<- hS1,ByteArray.size_append];have:=HZ.out;show S.size+7<=_;omega
          have hx0:(9223372036854775807<S.size+7)=False:=by rw [eq_iff_iff,iff_false];have:=HZ.out;omega
          have HN:=aA (show (S1++TA++⟨#[32]⟩++d.op++⟨#[32]⟩++TB).data.toList++cE (x.wh.drop (k+1))=full by rw [<- hw, <- hS1, <- hTA, <- hTB];simp);have HZ1:=aA (show (S1++TA++⟨#[32]⟩++d.op++⟨#[32]⟩++TB).size<=2000+2000*(k+1) by simp only [ByteArray.size_append];have h1:(⟨#[32]⟩:ByteArray).size=1:=rfl;rw [h1];omega);have x1:(9223372036854775807<S1.size+TA.size)=False:=by rw [eq_iff_iff,iff_false];omega
          have x2:(9223372036854775807<S1.size+TA.size+1)=False:=by rw [eq_iff_iff,iff_false];omega
          have x3:(9223372036854775807<S1.size+TA.size+1+d.op.size)=False:=by rw [eq_iff_iff,iff_false];omega
          have x4:(9223372036854775807<S1.size+TA.size+1+d.op.size+1)=False:=by rw [eq_iff_iff,iff_false];omega
          have x5:(9223372036854775807<S1.size+TA.size+1+d.op.size+1+TB.size)=False:=by rw [eq_iff_iff,iff_false];omega
          clear hw hF hTA hTB hS1z hAz hBz hoz;go_upto_region 18 with fail
          try rw [hS1]
          clear hS1
          go_region_held3 (fun V=>V.cell? ⟨w.heap.size,10,none⟩=some (.slice (some ⟨b,off,none⟩) x.wh.length p.wc)/\V.cell? ⟨b,off+k*9,none⟩=some (.string d.op)/\V.cell? ⟨b,off+k*9+1,none⟩=some (.string d.a.op)/\V.cell? ⟨b,off+k*9+1+1,none⟩=some (.string d.a.nm)/\V.cell? ⟨b,off+k*9+1+2,none⟩=some (.int .i64 d.a.n)/\V.cell? ⟨b,off+k*9+1+3,none⟩=some (.slice a1 d.a.ks.len c1)/\V.cell? ⟨b,off+k*9+5,none⟩=some (.string d.b.op)/\V.cell? ⟨b,off+k*9+5+1,none⟩=some (.string d.b.nm)/\V.cell? ⟨b,off+k*9+5+2,none⟩=some (.int .i64 d.b.n)/\V.cell? ⟨b,off+k*9+5+3,none⟩=some (.slice a2 d.b.ks.len c2)) (first | assumption | exact ⟨m10,p0,p1,p2,p3,p4,p5,p6,p7,p8⟩ | exact CELLS.out _ B6.out | exact CELLS.out _ B5.out) (first
           | (go_at_call 47
              with_reducible refine (A1.out _ (aH wr)).mono ?_
              rintro e w5 ⟨rfl,hb⟩;have B5:=aA ((aH wr).trans hb);have c5':=CELLS.out _ B5.out;clear hb)
           | (go_at_call 47
              with_reducible refine (A2.out w5 B5.out).mono ?_
              rintro e w6 ⟨rfl,hb⟩;have B6:=aA (B5.out.trans (hb.mono B5.out.size));have c6':=CELLS.out _ B6.out;clear hb)
           | fail)
          have HE:=aA (HK.out.step B6.out);clear B5 B6 CELLS A1 A2 c5' c6' m10 p0 p1 p2 p3 p4 p5 p6 p7 p8;go_wp2_with fail
          go_roundw
          case rel=>exact ⟨k+1,_,rfl,by go_num,by omega,aA (by rw [dH];exact HN.out),HZ1,HE⟩
          case measure=>simp [intOf];omega
        · rw [iE h0,hdr,cE] at hF
          have d1:(((k:Nat):Int) == 0)=false:=by rw [beq_eq_false_iff_ne];omega
          clear h0;have hw:S.data.toList++([32,97,110,100,32]++(aK d.a++32::(d.op.data.toList++32::aK d.b))++cE (x.wh.drop (k+1)))=full:=by first | (rw [<- hF];done) | (rw [<- hF];simp)
          obtain ⟨S1,hS1⟩:∃ S1:ByteArray,S++⟨#[32,97,110,100,32]⟩=S1:=⟨_,rfl⟩;have hS1z:S1.size<=2000+2000*k+10:=by rw [<- hS1,ByteArray.size_append];have:=HZ.out;show S.size+5<=_;omega
          have hx0:(9223372036854775807<S.size+5)=False:=by rw [eq_iff_iff,iff_false];have:=HZ.out;omega
          have HN:=aA (show (S1++TA++⟨#[32]⟩++d.op++⟨#[32]⟩++TB).data.toList++cE (x.wh.drop (k+1))=full by rw [<- hw, <- hS1, <- hTA, <- hTB];simp);have HZ1:=aA (show (S1++TA++⟨#[32]⟩++d.op++⟨#[32]⟩++TB).size<=2000+2000*(k+1) by simp only [ByteArray.size_append];have h1:(⟨#[32]⟩:ByteArray).size=1:=rfl;rw [h1];omega);have x1:(9223372036854775807<S1.size+TA.size)=False:=by rw [eq_iff_iff,iff_false];omega
          have x2:(9223372036854775807<S1.size+TA.size+1)=False:=by rw [eq_iff_iff,iff_false];omega
          have x3:(9223372036854775807<S1.size+TA.size+1+d.op.size)=False:=by rw [eq_iff_iff,iff_false];omega
          have x4:(9223372036854775807<S1.size+TA.size+1+d.op.size+1)=False:=by rw [eq_iff_iff,iff_false];omega
          have x5:(9223372036854775807<S1.size+TA.size+1+d.op.size+1+TB.size)=False:=by rw [eq_iff_iff,iff_false];omega
          clear hw hF hTA hTB hS1z hAz hBz hoz;go_upto_region 18 with fail
          try rw [hS1]
          clear hS1
          go_region_held3 (fun V=>V.cell? ⟨w.heap.size,10,none⟩=some (.slice (some ⟨b,off,none⟩) x.wh.length p.wc)/\V.cell? ⟨b,off+k*9,none⟩=some (.string d.op)/\V.cell? ⟨b,off+k*9+1,none⟩=some (.string d.a.op)/\V.cell? ⟨b,off+k*9+1+1,none⟩=some (.string d.a.nm)/\V.cell? ⟨b,off+k*9+1+2,none⟩=some (.int .i64 d.a.n)/\V.cell? ⟨b,off+k*9+1+3,none⟩=some (.slice a1 d.a.ks.len c1)/\V.cell? ⟨b,off+k*9+5,none⟩=some (.string d.b.op)/\V.cell? ⟨b,off+k*9+5+1,none⟩=some (.string d.b.nm)/\V.cell? ⟨b,off+k*9+5+2,none⟩=some (.int .i64 d.b.n)/\V.cell? ⟨b,off+k*9+5+3,none⟩=some (.slice a2 d.b.ks.len c2)) (first | assumption | exact ⟨m10,p0,p1,p2,p3,p4,p5,p6,p7,p8⟩ | exact CELLS.out _ B6.out | exact CELLS.out _ B5.out) (first
           | (go_at_call 47
              with_reducible refine (A1.out _ (aH wr)).mono ?_
              rintro e w5 ⟨rfl,hb⟩;have B5:=aA ((aH wr).trans hb);have c5':=CELLS.out _ B5.out;clear hb)
           | (go_at_call 47
              with_reducible refine (A2.out w5 B5.out).mono ?_
              rintro e w6 ⟨rfl,hb⟩;have B6:=aA (B5.out.trans (hb.mono B5.out.size));have c6':=CELLS.out _ B6.out;clear hb)
           | fail)
          have HE:=aA (HK.out.step B6.out);clear B5 B6 CELLS A1 A2 c5' c6' m10 p0 p1 p2 p3 p4 p5 p6 p7 p8;go_wp2_with fail
          go_roundw
          case rel=>exact ⟨k+1,_,rfl,by go_num,by omega,aA (by rw [dH];exact HN.out),HZ1,HE⟩
          case measure=>simp [intOf];omega
      · have e1:x.wh.drop k=[]:=List.drop_of_length_le (by omega)
        have TR:=aA (show (⟨full.toArray⟩:ByteArray)=S from dO (by rw [<- HF.out,jL e1];simp));have b1:¬ (k:Int)<(x.wh.length:Int):=by omega
        go_wp2_with fail
        go_ret;exact ⟨congrArg (fun z=>Ending.returned (.string z)) TR.out.symm,HK.out.b⟩
theorem Dv {G:Nat->Prop} (x:AG) (p:PA) (w:World) (h:eM x=0) (hn:fC x) (hr:aJ G w x p) (hc:x.fn.data.toList=aQ):Calls Tryz.prog 16 #[agV x p] w fun e w'=>e=.returned (.string ⟨(cJ x).toArray⟩)/\Below w.heap.size w w':=by
 obtain ⟨h1,h2,h3,h4,h5,h6⟩:=cB h;have K0:=tP hr;generalize hW:w.alloc (agO x p)=W at K0;have HW:=aA hW;have HK:=aA K0;have HC:=aA (eU x.wh h6);have HNC:=aA hn.c;have hfz:=pU h1;obtain ⟨full,hfu⟩:∃ f,cJ x=f:=⟨_,rfl⟩;rw [hfu];have HFU:=aA hfu;obtain ⟨m0,m1,m2,m3,m4,m5,m6,m7,m8,m9,m10⟩:=aD HK.out.n;have f0:(9223372036854775807<x.fn.size+1)=False:=by rw [eq_iff_iff,iff_false];omega
 have f1:¬ x.fn.data.toList=aP:=by rw [hc];decide
 have f2:¬ x.fn.data.toList=cU:=by rw [hc];decide
 have he:=h3 f1;have hez:=bN he hn.e;have A:=aA (fun V (hV:Below W.heap.size W V)=>dW x.e ((aN _).1 he).1 hn.e G V p.ea p.ec (by omega) (HK.out.r.e.kept hV));have hgz:=bN (h4 hc) hn.g;have B:=aA (fun V (hV:Below W.heap.size W V)=>dW x.g ((aN _).1 (h4 hc)).1 hn.g G V p.ga p.gc (by omega) (HK.out.r.g.kept hV));obtain ⟨TA,hTA⟩:∃ S:ByteArray,⟨(aK x.e).toArray⟩=S:=⟨_,rfl⟩;obtain ⟨TB,hTB⟩:∃ S:ByteArray,⟨(aK x.g).toArray⟩=S:=⟨_,rfl⟩;have hAz:TA.size<=700:=by rw [<- hTA];show (aK x.e).toArray.size<=700;rw [List.size_toArray];exact hez
 have hBz:TB.size<=700:=by rw [<- hTB];show (aK x.g).toArray.size<=700;rw [List.size_toArray];exact hgz
 rw [hTA] at A;rw [hTB] at B;have gMin:(x.fn.toList == [109,105,110])=false:=aG (by rw [hc];decide);have gMax:(x.fn.toList == [109,97,120])=false:=aG (by rw [hc];decide);have gSum:(x.fn.toList == [115,117,109])=false:=aG (by rw [hc];decide);have gFirst:(x.fn.toList == [102,105,114,115,116])=true:=bG (by rw [hc];decide);obtain ⟨S0,hS0⟩:∃ S:ByteArray,x.fn++⟨#[40]⟩++TA++⟨#[44,32]⟩++TB=S:=⟨_,rfl⟩;have HS0:=aA (show S0.data.toList=x.fn.data.toList++40::fR x by rw [<- hS0, <- hTA, <- hTB];unfold fR;rw [if_neg f1,if_neg f2,if_pos hc];simp);have HSZ:=aA (show S0.size<=1900 by rw [<- hS0];simp only [ByteArray.size_append];show x.fn.size+1+TA.size+2+TB.size<=_;omega);have f01:(9223372036854775807<x.fn.size+1+TA.size)=False:=by rw [eq_iff_iff,iff_false];omega
 have f02:(9223372036854775807<x.fn.size+1+TA.size+2)=False:=by rw [eq_iff_iff,iff_false];omega
 have f03:(9223372036854775807<x.fn.size+1+TA.size+2+TB.size)=False:=by rw [eq_iff_iff,iff_false];omega
 have CL:=aA (p:=∀ V,Below W.heap.size W V->(V.cell? ⟨w.heap.size,2,none⟩=some (.string x.e.op)/\V.cell? ⟨w.heap.size,2+1,none⟩=some (.string x.e.nm)/\V.cell? ⟨w.heap.size,2+2,none⟩=some (.int .i64 x.e.n)/\V.cell? ⟨w.heap.size,2+3,none⟩=some (.slice p.ea x.e.ks.len p.ec)/\V.cell? ⟨w.heap.size,6,none⟩=some (.string x.g.op)/\V.cell? ⟨w.heap.size,6+1,none⟩=some (.string x.g.nm)/\V.cell? ⟨w.heap.size,6+2,none⟩=some (.int .i64 x.g.n)/\V.cell? ⟨w.heap.size,6+3,none⟩=some (.slice p.ga x.g.ks.len p.gc))) (fun V hV=>by
  obtain ⟨m0,m1,m2,m3,m4,m5,m6,m7,m8,m9,m10⟩:=aD (HK.out.step hV).n;exact ⟨m2,m3,m4,m5,m6,m7,m8,m9⟩)
 clear h1 h2 h3 h4 h6 hW K0 hr hn h hfu hc f1 f2 he hTA hTB hez hfz hgz;go_enter Tryz.func16,Tryz.ntmps16
 go_upto_region 1 with fail
 rw [HW.out];go_upto_region 8 with fail
 go_region_held3 (fun V=>V.cell? ⟨w.heap.size,2,none⟩=some (.string x.e.op)/\V.cell? ⟨w.heap.size,2+1,none⟩=some (.string x.e.nm)/\V.cell? ⟨w.heap.size,2+2,none⟩=some (.int .i64 x.e.n)/\V.cell? ⟨w.heap.size,2+3,none⟩=some (.slice p.ea x.e.ks.len p.ec)/\V.cell? ⟨w.heap.size,6,none⟩=some (.string x.g.op)/\V.cell? ⟨w.heap.size,6+1,none⟩=some (.string x.g.nm)/\V.cell? ⟨w.heap.size,6+2,none⟩=some (.int .i64 x.g.n)/\V.cell? ⟨w.heap.size,6+3,none⟩=some (.slice p.ga x.g.ks.len p.gc)) (first | assumption | exact ⟨m2,m3,m4,m5,m6,m7,m8,m9⟩ | exact CL.out _ B3.out | exact CL.out _ B2.out) (first
  | (go_at_call 47
     with_reducible refine (A.out _ (aH W)).mono ?_
     rintro e w2 ⟨rfl,hb⟩;have B2:=aA ((aH W).trans hb);have cc:=CL.out _ B2.out;clear hb)
  | (go_at_call 47
     with_reducible refine (B.out _ B2.out).mono ?_
     rintro e w3 ⟨rfl,hb⟩;have B3:=aA (B2.out.trans (hb.mono B2.out.size));have cd:=CL.out _ B3.out;clear hb)
  | fail)
 have K2:=aA (HK.out.step B3.out);clear B2 B3 A B CL cc cd m0 m1 m2 m3 m4 m5 m6 m7 m8 m9 m10;go_upto_region 11 with fail
 try rw [hS0]
 clear hS0;have HF0:=aA (show (S0++⟨#[41]⟩).data.toList++fB x 0=full by have e:(S0++⟨#[41]⟩:ByteArray).data.toList=S0.data.toList++[41]:=(by simp);rw [<- HFU.out,e,HS0.out];simp [cJ,f6]);have HZ0:=aA (show (S0++⟨#[41]⟩).size<=2000+2000*0 by rw [ByteArray.size_append];have:=HSZ.out;show S0.size+1<=_;omega);have K1:=aA K2.out;have x0:(9223372036854775807<S0.size+1)=False:=by rw [eq_iff_iff,iff_false];have:=HSZ.out;omega
 clear HS0 HSZ HFU K2;go_wp2_with fail
 go_loopw [3,4] (fun sv i wr=>∃ (k:Nat) (S:ByteArray),sv=.string S/\i=.int .i64 k/\k<=x.wh.length/\Hid (S.data.toList++fB x k=full)/\Hid (S.size<=2000+2000*k)/\Hid (KA G w x p wr)) (fun _ i _=>x.wh.length-(intOf i).toNat)
 case atStart=>exact ⟨0,_,rfl,rfl,Nat.zero_le _,HF0,HZ0,K1⟩
 case round =>
  obtain ⟨k,S,rfl,rfl,hk,HF,HZ,HK⟩:=hrel;obtain ⟨m0,m1,m2,m3,m4,m5,m6,m7,m8,m9,m10⟩:=aD HK.out.n;by_cases hlt:k<x.wh.length
  · obtain ⟨d,hd⟩:∃ d,x.wh[k]? = some d:=⟨_,List.getElem?_eq_getElem hlt⟩
    have hne:¬ x.wh=[]:=fun e=>by rw [e] at hlt;simp at hlt
    obtain ⟨b,off,hwa, -,hbl,hcc⟩:=HK.out.r.c.resolve_left hne;obtain ⟨a1,c1,a2,c2,⟨p0,p1,p2,p3,p4,p5,p6,p7,p8⟩,r1,r2⟩:=hcc k d hd;rw [hwa] at m10
    have CELLS:=aA (p:=∀ V,Below wr.heap.size wr V->(V.cell? ⟨w.heap.size,10,none⟩=some (.slice (some ⟨b,off,none⟩) x.wh.length p.wc)/\V.cell? ⟨b,off+k*9,none⟩=some (.string d.op)/\V.cell? ⟨b,off+k*9+1,none⟩=some (.string d.a.op)/\V.cell? ⟨b,off+k*9+1+1,none⟩=some (.string d.a.nm)/\V.cell? ⟨b,off+k*9+1+2,none⟩=some (.int .i64 d.a.n)/\V.cell? ⟨b,off+k*9+1+3,none⟩=some (.slice a1 d.a.ks.len c1)/\V.cell? ⟨b,off+k*9+5,none⟩=some (.string d.b.op)/\V.cell? ⟨b,off+k*9+5+1,none⟩=some (.string d.b.nm)/\V.cell? ⟨b,off+k*9+5+2,none⟩=some (.int .i64 d.b.n)/\V.cell? ⟨b,off+k*9+5+3,none⟩=some (.slice a2 d.b.ks.len c2))) (fun V hV=>by
     have z1:=aC HK.out.n;exact ⟨(hV.cell (p:=⟨w.heap.size,_,none⟩) z1).trans m10,(hV.cell (p:=⟨b,_,none⟩) hbl).trans p0,(hV.cell (p:=⟨b,_,none⟩) hbl).trans p1,(hV.cell (p:=⟨b,_,none⟩) hbl).trans p2,(hV.cell (p:=⟨b,_,none⟩) hbl).trans p3,(hV.cell (p:=⟨b,_,none⟩) hbl).trans p4,(hV.cell (p:=⟨b,_,none⟩) hbl).trans p5,(hV.cell (p:=⟨b,_,none⟩) hbl).trans p6,(hV.cell (p:=⟨b,_,none⟩) hbl).trans p7,(hV.cell (p:=⟨b,_,none⟩) hbl).trans p8⟩)
    have hdr:x.wh.drop k=d::x.wh.drop (k+1):=by
     rw [List.drop_eq_getElem_cons hlt];have:=List.getElem?_eq_getElem hlt;rw [this] at hd;rw [Option.some.inj hd]
    obtain ⟨h1,h2,h3⟩:=HC.out d (List.mem_of_getElem? hd);have hnd:=HNC.out d (List.mem_of_getElem? hd);have hAz:=bN h2 hnd.1;have hBz:=bN h3 hnd.2;have hoz:d.op.size<=2:=lM h1;have A1:=aA (fun V (hV:Below wr.heap.size wr V)=>dW d.a ((aN _).1 h2).1 hnd.1 G V a1 c1 (by omega) (r1.kept hV));have A2:=aA (fun V (hV:Below wr.heap.size wr V)=>dW d.b ((aN _).1 h3).1 hnd.2 G V a2 c2 (by omega) (r2.kept hV));obtain ⟨TA,hTA⟩:∃ S:ByteArray,⟨(aK d.a).toArray⟩=S:=⟨_,rfl⟩;obtain ⟨TB,hTB⟩:∃ S:ByteArray,⟨(aK d.b).toArray⟩=S:=⟨_,rfl⟩;rw [hTA] at A1;rw [hTB] at A2;have hAz:TA.size<=700:=by rw [<- hTA];show (aK d.a).toArray.size<=700;rw [List.size_toArray];exact hAz
    have hBz:TB.size<=700:=by rw [<- hTB];show (aK d.b).toArray.size<=700;rw [List.size_toArray];exact hBz
    have hF:=HF.out;have b1:(k:Int)<(x.wh.length:Int):=by omega
    have b2:(0:Int)<=(k:Int):=by omega
    have b3:((k:Int)).toNat=k:=by omega
    clear hne hcc hwa r1 r2 hd h1 h2 h3 hnd HF m0 m1 m2 m3 m4 m5 m6 m7 m8 m9;by_cases h0:k=0
    · rw [gO h0 hdr] at hF
      have d1:(((k:Nat):Int) == 0)=true:=by rw [h0];rfl
      clear h0;have hw:S.data.toList++([32,119,104,101,114,101,32]++(aK d.a++32::(d.op.data.toList++32::aK d.b))++cE (x.wh.drop (k+1)))=full:=by first | (rw [<- hF];done) | (rw [<- hF];simp)
      obtain ⟨S1,hS1⟩:∃ S1:ByteArray,S++⟨#[32,119,104,101,114,101,32]⟩=S1:=⟨_,rfl⟩;have hS1z:S1.size<=2000+2000*k+10:=by rw [<- hS1,ByteArray.size_append];have:=HZ.out;show S.size+7<=_;omega
      have hx0:(9223372036854775807<S.size+7)=False:=by rw [eq_iff_iff,iff_false];have:=HZ.out;omega
      have HN:=aA (show (S1++TA++⟨#[32]⟩++d.op++⟨#[32]⟩++TB).data.toList++cE (x.wh.drop (k+1))=full by rw [<- hw, <- hS1, <- hTA, <- hTB];simp);have HZ1:=aA (show (S1++TA++⟨#[32]⟩++d.op++⟨#[32]⟩++TB).size<=2000+2000*(k+1) by simp only [ByteArray.size_append];have h1:(⟨#[32]⟩:ByteArray).size=1:=rfl;rw [h1];omega);have x1:(9223372036854775807<S1.size+TA.size)=False:=by rw [eq_iff_iff,iff_false];omega
      have x2:(9223372036854775807<S1.size+TA.size+1)=False:=by rw [eq_iff_iff,iff_false];omega
      have x3:(9223372036854775807<S1.size+TA.size+1+d.op.size)=False:=by rw [eq_iff_iff,iff_false];omega
      have x4:(9223372036854775807<S1.size+TA.size+1+d.op.size+1)=False:=by rw [eq_iff_iff,iff_false];omega
      have x5:(9223372036854775807<S1.size+TA.size+1+d.op.size+1+TB.size)=False:=by rw [eq_iff_iff,iff_false];omega
      clear hw hF hTA hTB hS1z hAz hBz hoz;go_upto_region 18 with fail
      try rw [hS1]
      clear hS1
      go_region_held3 (fun V=>V.cell? ⟨w.heap.size,10,none⟩=some (.slice (some ⟨b,off,none⟩) x.wh.length p.wc)/\V.cell? ⟨b,off+k*9,none⟩=some (.string d.op)/\V.cell? ⟨b,off+k*9+1,none⟩=some (.string d.a.op)/\V.cell? ⟨b,off+k*9+1+1,none⟩=some (.string d.a.nm)/\V.cell? ⟨b,off+k*9+1+2,none⟩=some (.int .i64 d.a.n)/\V.cell? ⟨b,off+k*9+1+3,none⟩=some (.slice a1 d.a.ks.len c1)/\V.cell? ⟨b,off+k*9+5,none⟩=some (.string d.b.op)/\V.cell? ⟨b,off+k*9+5+1,none⟩=some (.string d.b.nm)/\V.cell? ⟨b,off+k*9+5+2,none⟩=some (.int .i64 d.b.n)/\V.cell? ⟨b,off+k*9+5+3,none⟩=some (.slice a2 d.b.ks.len c2)) (first | assumption | exact ⟨m10,p0,p1,p2,p3,p4,p5,p6,p7,p8⟩ | exact CELLS.out _ B6.out | exact CELLS.out _ B5.out) (first
       | (go_at_call 47
          with_reducible refine (A1.out _ (aH wr)).mono ?_
          rintro e w5 ⟨rfl,hb⟩;have B5:=aA ((aH wr).trans hb);have c5':=CELLS.out _ B5.out;clear hb)
       | (go_at_call 47
          with_reducible refine (A2.out w5 B5.out).mono ?_
          rintro e w6 ⟨rfl,hb⟩;have B6:=aA (B5.out.trans (hb.mono B5.out.size));have c6':=CELLS.out _ B6.out;clear hb)
       | fail)
      have HE:=aA (HK.out.step B6.out);clear B5 B6 CELLS A1 A2 c5' c6' m10 p0 p1 p2 p3 p4 p5 p6 p7 p8;go_wp2_with fail
      go_roundw
      case rel=>exact ⟨k+1,_,rfl,by go_num,by omega,aA (by rw [dH];exact HN.out),HZ1,HE⟩
      case measure=>simp [intOf];omega
    · rw [iE h0,hdr,cE] at hF
      have d1:(((k:Nat):Int) == 0)=false:=by rw [beq_eq_false_iff_ne];omega
      clear h0;have hw:S.data.toList++([32,97,110,100,32]++(aK d.a++32::(d.op.data.toList++32::aK d.b))++cE (x.wh.drop (k+1)))=full:=by first | (rw [<- hF];done) | (rw [<- hF];simp)
      obtain ⟨S1,hS1⟩:∃ S1:ByteArray,S++⟨#[32,97,110,100,32]⟩=S1:=⟨_,rfl⟩;have hS1z:S1.size<=2000+2000*k+10:=by rw [<- hS1,ByteArray.size_append];have:=HZ.out;show S.size+5<=_;omega
      have hx0:(9223372036854775807<S.size+5)=False:=by rw [eq_iff_iff,iff_false];have:=HZ.out;omega
      have HN:=aA (show (S1++TA++⟨#[32]⟩++d.op++⟨#[32]⟩++TB).data.toList++cE (x.wh.drop (k+1))=full by rw [<- hw, <- hS1, <- hTA, <- hTB];simp);have HZ1:=aA (show (S1++TA++⟨#[32]⟩++d.op++⟨#[32]⟩++TB).size<=2000+2000*(k+1) by simp only [ByteArray.size_append];have h1:(⟨#[32]⟩:ByteArray).size=1:=rfl;rw [h1];omega);have x1:(9223372036854775807<S1.size+TA.size)=False:=by rw [eq_iff_iff,iff_false];omega
      have x2:(9223372036854775807<S1.size+TA.size+1)=False:=by rw [eq_iff_iff,iff_false];omega
      have x3:(9223372036854775807<S1.size+TA.size+1+d.op.size)=False:=by rw [eq_iff_iff,iff_false];omega
      have x4:(9223372036854775807<S1.size+TA.size+1+d.op.size+1)=False:=by rw [eq_iff_iff,iff_false];omega
      have x5:(9223372036854775807<S1.size+TA.size+1+d.op.size+1+TB.size)=False:=by rw [eq_iff_iff,iff_false];omega
      clear hw hF hTA hTB hS1z hAz hBz hoz;go_upto_region 18 with fail
      try rw [hS1]
      clear hS1
      go_region_held3 (fun V=>V.cell? ⟨w.heap.size,10,none⟩=some (.slice (some ⟨b,off,none⟩) x.wh.length p.wc)/\V.cell? ⟨b,off+k*9,none⟩=some (.string d.op)/\V.cell? ⟨b,off+k*9+1,none⟩=some (.string d.a.op)/\V.cell? ⟨b,off+k*9+1+1,none⟩=some (.string d.a.nm)/\V.cell? ⟨b,off+k*9+1+2,none⟩=some (.int .i64 d.a.n)/\V.cell? ⟨b,off+k*9+1+3,none⟩=some (.slice a1 d.a.ks.len c1)/\V.cell? ⟨b,off+k*9+5,none⟩=some (.string d.b.op)/\V.cell? ⟨b,off+k*9+5+1,none⟩=some (.string d.b.nm)/\V.cell? ⟨b,off+k*9+5+2,none⟩=some (.int .i64 d.b.n)/\V.cell? ⟨b,off+k*9+5+3,none⟩=some (.slice a2 d.b.ks.len c2)) (first | assumption | exact ⟨m10,p0,p1,p2,p3,p4,p5,p6,p7,p8⟩ | exact CELLS.out _ B6.out | exact CELLS.out _ B5.out) (first
       | (go_at_call 47
          with_reducible refine (A1.out _ (aH wr)).mono ?_
          rintro e w5 ⟨rfl,hb⟩;have B5:=aA ((aH wr).trans hb);have c5':=CELLS.out _ B5.out;clear hb)
       | (go_at_call 47
          with_reducible refine (A2.out w5 B5.out).mono ?_
          rintro e w6 ⟨rfl,hb⟩;have B6:=aA (B5.out.trans (hb.mono B5.out.size));have c6':=CELLS.out _ B6.out;clear hb)
       | fail)
      have HE:=aA (HK.out.step B6.out);clear B5 B6 CELLS A1 A2 c5' c6' m10 p0 p1 p2 p3 p4 p5 p6 p7 p8;go_wp2_with fail
      go_roundw
      case rel=>exact ⟨k+1,_,rfl,by go_num,by omega,aA (by rw [dH];exact HN.out),HZ1,HE⟩
      case measure=>simp [intOf];omega
  · have e1:x.wh.drop k=[]:=List.drop_of_length_le (by omega)
    have TR:=aA (show (⟨full.toArray⟩:ByteArray)=S from dO (by rw [<- HF.out,jL e1];simp));have b1:¬ (k:Int)<(x.wh.length:Int):=by omega
    go_wp2_with fail
    go_ret;exact ⟨congrArg (fun z=>Ending.returned (.string z)) TR.out.symm,HK.out.b⟩
theorem Hj {G:Nat->Prop} (x:AG) (p:PA) (w:World) (h:eM x=0) (hn:fC x) (hr:aJ G w x p) (hc:x.fn.data.toList=cU):Calls Tryz.prog 16 #[agV x p] w fun e w'=>e=.returned (.string ⟨(cJ x).toArray⟩)/\Below w.heap.size w w':=by
 obtain ⟨h1,h2,h3,h4,h5,h6⟩:=cB h;have K0:=tP hr;generalize hW:w.alloc (agO x p)=W at K0;have HW:=aA hW;have HK:=aA K0;have HC:=aA (eU x.wh h6);have HNC:=aA hn.c;have hfz:=pU h1;obtain ⟨full,hfu⟩:∃ f,cJ x=f:=⟨_,rfl⟩;rw [hfu];have HFU:=aA hfu;obtain ⟨m0,m1,m2,m3,m4,m5,m6,m7,m8,m9,m10⟩:=aD HK.out.n;have f0:(9223372036854775807<x.fn.size+1)=False:=by rw [eq_iff_iff,iff_false];omega
 have f1:¬ x.fn.data.toList=aP:=by rw [hc];decide
 have f2:¬ x.fn.data.toList=aQ:=by rw [hc];decide
 have he:=h3 f1;have hez:=bN he hn.e;have hkk:=h2 hc;have hkz:(Lib.decDigits x.k.toNat).length<=19:=by have:=tQ (n:=x.k) (by omega) (by omega);rw [pR (by omega)] at this;exact this
 have A:=aA (fun V (_:Below W.heap.size W V)=>uB x.k.toNat (by omega) V);rw [show ((x.k.toNat:Nat):Int)=x.k by omega] at A;have B:=aA (fun V (hV:Below W.heap.size W V)=>dW x.e ((aN _).1 he).1 hn.e G V p.ea p.ec (by omega) (HK.out.r.e.kept hV));obtain ⟨TA,hTA⟩:∃ S:ByteArray,⟨(Lib.decDigits x.k.toNat).toArray⟩=S:=⟨_,rfl⟩;obtain ⟨TB,hTB⟩:∃ S:ByteArray,⟨(aK x.e).toArray⟩=S:=⟨_,rfl⟩;have hAz:TA.size<=700:=by rw [<- hTA];show (Lib.decDigits x.k.toNat).toArray.size<=700;rw [List.size_toArray];omega
 have hBz:TB.size<=700:=by rw [<- hTB];show (aK x.e).toArray.size<=700;rw [List.size_toArray];exact hez
 rw [hTA] at A;rw [hTB] at B;have gMin:(x.fn.toList == [109,105,110])=false:=aG (by rw [hc];decide);have gMax:(x.fn.toList == [109,97,120])=false:=aG (by rw [hc];decide);have gSum:(x.fn.toList == [115,117,109])=false:=aG (by rw [hc];decide);have gFirst:(x.fn.toList == [102,105,114,115,116])=false:=aG (by rw [hc];decide);have gTop:(x.fn.toList == [116,111,112])=true:=bG (by rw [hc];decide);obtain ⟨S0,hS0⟩:∃ S:ByteArray,x.fn++⟨#[40]⟩++TA++⟨#[44,32]⟩++TB=S:=⟨_,rfl⟩;have HS0:=aA (show S0.data.toList=x.fn.data.toList++40::fR x by rw [<- hS0, <- hTA, <- hTB];unfold fR;rw [if_neg f1,if_pos hc,pR (show 0<=x.k by omega)];simp);have HSZ:=aA (show S0.size<=1900 by rw [<- hS0];simp only [ByteArray.size_append];show x.fn.size+1+TA.size+2+TB.size<=_;omega);have f01:(9223372036854775807<x.fn.size+1+TA.size)=False:=by rw [eq_iff_iff,iff_false];omega
 have f02:(9223372036854775807<x.fn.size+1+TA.size+2)=False:=by rw [eq_iff_iff,iff_false];omega
 have f03:(9223372036854775807<x.fn.size+1+TA.size+2+TB.size)=False:=by rw [eq_iff_iff,iff_false];omega
 have CL:=aA (p:=∀ V,Below W.heap.size W V->(V.cell? ⟨w.heap.size,2,none⟩=some (.string x.e.op)/\V.cell? ⟨w.heap.size,2+1,none⟩=some (.string x.e.nm)/\V.cell? ⟨w.heap.size,2+2,none⟩=some (.int .i64 x.e.n)/\V.cell? ⟨w.heap.size,2+3,none⟩=some (.slice p.ea x.e.ks.len p.ec)/\V.cell? ⟨w.heap.size,1,none⟩=some (.int .i64 x.k))) (fun V hV=>by
  obtain ⟨m0,m1,m2,m3,m4,m5,m6,m7,m8,m9,m10⟩:=aD (HK.out.step hV).n;exact ⟨m2,m3,m4,m5,m1⟩)
 clear h1 h2 h3 h4 h6 hW K0 hr hn h hfu hc f1 f2 he hTA hTB hez hfz hkk hkz;go_enter Tryz.func16,Tryz.ntmps16
 go_upto_region 1 with fail
 rw [HW.out];go_upto_region 10 with fail
 go_region_held3 (fun V=>V.cell? ⟨w.heap.size,2,none⟩=some (.string x.e.op)/\V.cell? ⟨w.heap.size,2+1,none⟩=some (.string x.e.nm)/\V.cell? ⟨w.heap.size,2+2,none⟩=some (.int .i64 x.e.n)/\V.cell? ⟨w.heap.size,2+3,none⟩=some (.slice p.ea x.e.ks.len p.ec)/\V.cell? ⟨w.heap.size,1,none⟩=some (.int .i64 x.k)) (first | assumption | exact ⟨m2,m3,m4,m5,m1⟩ | exact CL.out _ B3.out | exact CL.out _ B2.out) (first
  | (go_at_call 48
     with_reducible refine (A.out _ (aH W)).mono ?_
     rintro e w2 ⟨rfl,hb⟩;have B2:=aA ((aH W).trans hb);have cc:=CL.out _ B2.out;clear hb)
  | (go_at_call 47
     with_reducible refine (B.out _ B2.out).mono ?_
     rintro e w3 ⟨rfl,hb⟩;have B3:=aA (B2.out.trans (hb.mono B2.out.size));have cd:=CL.out _ B3.out;clear hb)
  | fail)
 have K2:=aA (HK.out.step B3.out);clear B2 B3 A B CL cc cd m0 m1 m2 m3 m4 m5 m6 m7 m8 m9 m10;go_upto_region 11 with fail
 try rw [hS0]
 clear hS0;have HF0:=aA (show (S0++⟨#[41]⟩).data.toList++fB x 0=full by have e:(S0++⟨#[41]⟩:ByteArray).data.toList=S0.data.toList++[41]:=(by simp);rw [<- HFU.out,e,HS0.out];simp [cJ,f6]);have HZ0:=aA (show (S0++⟨#[41]⟩).size<=2000+2000*0 by rw [ByteArray.size_append];have:=HSZ.out;show S0.size+1<=_;omega);have K1:=aA K2.out;have x0:(9223372036854775807<S0.size+1)=False:=by rw [eq_iff_iff,iff_false];have:=HSZ.out;omega
 clear HS0 HSZ HFU K2;go_wp2_with fail
 go_loopw [3,4] (fun sv i wr=>∃ (k:Nat) (S:ByteArray),sv=.string S/\i=.int .i64 k/\k<=x.wh.length/\Hid (S.data.toList++fB x k=full)/\Hid (S.size<=2000+2000*k)/\Hid (KA G w x p wr)) (fun _ i _=>x.wh.length-(intOf i).toNat)
 case atStart=>exact ⟨0,_,rfl,rfl,Nat.zero_le _,HF0,HZ0,K1⟩
 case round =>
  obtain ⟨k,S,rfl,rfl,hk,HF,HZ,HK⟩:=hrel;obtain ⟨m0,m1,m2,m3,m4,m5,m6,m7,m8,m9,m10⟩:=aD HK.out.n;by_cases hlt:k<x.wh.length
  · obtain ⟨d,hd⟩:∃ d,x.wh[k]? = some d:=⟨_,List.getElem?_eq_getElem hlt⟩
    have hne:¬ x.wh=[]:=fun e=>by rw [e] at hlt;simp at hlt
    obtain ⟨b,off,hwa, -,hbl,hcc⟩:=HK.out.r.c.resolve_left hne;obtain ⟨a1,c1,a2,c2,⟨p0,p1,p2,p3,p4,p5,p6,p7,p8⟩,r1,r2⟩:=hcc k d hd;rw [hwa] at m10
    have CELLS:=aA (p:=∀ V,Below wr.heap.size wr V->(V.cell? ⟨w.heap.size,10,none⟩=some (.slice (some ⟨b,off,none⟩) x.wh.length p.wc)/\V.cell? ⟨b,off+k*9,none⟩=some (.string d.op)/\V.cell? ⟨b,off+k*9+1,none⟩=some (.string d.a.op)/\V.cell? ⟨b,off+k*9+1+1,none⟩=some (.string d.a.nm)/\V.cell? ⟨b,off+k*9+1+2,none⟩=some (.int .i64 d.a.n)/\V.cell? ⟨b,off+k*9+1+3,none⟩=some (.slice a1 d.a.ks.len c1)/\V.cell? ⟨b,off+k*9+5,none⟩=some (.string d.b.op)/\V.cell? ⟨b,off+k*9+5+1,none⟩=some (.string d.b.nm)/\V.cell? ⟨b,off+k*9+5+2,none⟩=some (.int .i64 d.b.n)/\V.cell? ⟨b,off+k*9+5+3,none⟩=some (.slice a2 d.b.ks.len c2))) (fun V hV=>by
     have z1:=aC HK.out.n;exact ⟨(hV.cell (p:=⟨w.heap.size,_,none⟩) z1).trans m10,(hV.cell (p:=⟨b,_,none⟩) hbl).trans p0,(hV.cell (p:=⟨b,_,none⟩) hbl).trans p1,(hV.cell (p:=⟨b,_,none⟩) hbl).trans p2,(hV.cell (p:=⟨b,_,none⟩) hbl).trans p3,(hV.cell (p:=⟨b,_,none⟩) hbl).trans p4,(hV.cell (p:=⟨b,_,none⟩) hbl).trans p5,(hV.cell (p:=⟨b,_,none⟩) hbl).trans p6,(hV.cell (p:=⟨b,_,none⟩) hbl).trans p7,(hV.cell (p:=⟨b,_,none⟩) hbl).trans p8⟩)
    have hdr:x.wh.drop k=d::x.wh.drop (k+1):=by
     rw [List.drop_eq_getElem_cons hlt];have:=List.getElem?_eq_getElem hlt;rw [this] at hd;rw [Option.some.inj hd]
    obtain ⟨h1,h2,h3⟩:=HC.out d (List.mem_of_getElem? hd);have hnd:=HNC.out d (List.mem_of_getElem? hd);have hAz:=bN h2 hnd.1;have hBz:=bN h3 hnd.2;have hoz:d.op.size<=2:=lM h1;have A1:=aA (fun V (hV:Below wr.heap.size wr V)=>dW d.a ((aN _).1 h2).1 hnd.1 G V a1 c1 (by omega) (r1.kept hV));have A2:=aA (fun V (hV:Below wr.heap.size wr V)=>dW d.b ((aN _).1 h3).1 hnd.2 G V a2 c2 (by omega) (r2.kept hV));obtain ⟨TA,hTA⟩:∃ S:ByteArray,⟨(aK d.a).toArray⟩=S:=⟨_,rfl⟩;obtain ⟨TB,hTB⟩:∃ S:ByteArray,⟨(aK d.b).toArray⟩=S:=⟨_,rfl⟩;rw [hTA] at A1;rw [hTB] at A2;have hAz:TA.size<=700:=by rw [<- hTA];show (aK d.a).toArray.size<=700;rw [List.size_toArray];exact hAz
    have hBz:TB.size<=700:=by rw [<- hTB];show (aK d.b).toArray.size<=700;rw [List.size_toArray];exact hBz
    have hF:=HF.out;have b1:(k:Int)<(x.wh.length:Int):=by omega
    have b2:(0:Int)<=(k:Int):=by omega
    have b3:((k:Int)).toNat=k:=by omega
    clear hne hcc hwa r1 r2 hd h1 h2 h3 hnd HF m0 m1 m2 m3 m4 m5 m6 m7 m8 m9;by_cases h0:k=0
    · rw [gO h0 hdr] at hF
      have d1:(((k:Nat):Int) == 0)=true:=by rw [h0];rfl
      clear h0;have hw:S.data.toList++([32,119,104,101,114,101,32]++(aK d.a++32::(d.op.data.toList++32::aK d.b))++cE (x.wh.drop (k+1)))=full:=by first | (rw [<- hF];done) | (rw [<- hF];simp)
      obtain ⟨S1,hS1⟩:∃ S1:ByteArray,S++⟨#[32,119,104,101,114,101,32]⟩=S1:=⟨_,rfl⟩;have hS1z:S1.size<=2000+2000*k+10:=by rw [<- hS1,ByteArray.size_append];have:=HZ.out;show S.size+7<=_;omega
      have hx0:(9223372036854775807<S.size+7)=False:=by rw [eq_iff_iff,iff_false];have:=HZ.out;omega
      have HN:=aA (show (S1++TA++⟨#[32]⟩++d.op++⟨#[32]⟩++TB).data.toList++cE (x.wh.drop (k+1))=full by rw [<- hw, <- hS1, <- hTA, <- hTB];simp);have HZ1:=aA (show (S1++TA++⟨#[32]⟩++d.op++⟨#[32]⟩++TB).size<=2000+2000*(k+1) by simp only [ByteArray.size_append];have h1:(⟨#[32]⟩:ByteArray).size=1:=rfl;rw [h1];omega);have x1:(9223372036854775807<S1.size+TA.size)=False:=by rw [eq_iff_iff,iff_false];omega
      have x2:(9223372036854775807<S1.size+TA.size+1)=False:=by rw [eq_iff_iff,iff_false];omega
      have x3:(9223372036854775807<S1.size+TA.size+1+d.op.size)=False:=by rw [eq_iff_iff,iff_false];omega
      have x4:(9223372036854775807<S1.size+TA.size+1+d.op.size+1)=False:=by rw [eq_iff_iff,iff_false];omega
      have x5:(9223372036854775807<S1.size+TA.size+1+d.op.size+1+TB.size)=False:=by rw [eq_iff_iff,iff_false];omega
      clear hw hF hTA hTB hS1z hAz hBz hoz;go_upto_region 18 with fail
      try rw [hS1]
      clear hS1
      go_region_held3 (fun V=>V.cell? ⟨w.heap.size,10,none⟩=some (.slice (some ⟨b,off,none⟩) x.wh.length p.wc)/\V.cell? ⟨b,off+k*9,none⟩=some (.string d.op)/\V.cell? ⟨b,off+k*9+1,none⟩=some (.string d.a.op)/\V.cell? ⟨b,off+k*9+1+1,none⟩=some (.string d.a.nm)/\V.cell? ⟨b,off+k*9+1+2,none⟩=some (.int .i64 d.a.n)/\V.cell? ⟨b,off+k*9+1+3,none⟩=some (.slice a1 d.a.ks.len c1)/\V.cell? ⟨b,off+k*9+5,none⟩=some (.string d.b.op)/\V.cell? ⟨b,off+k*9+5+1,none⟩=some (.string d.b.nm)/\V.cell? ⟨b,off+k*9+5+2,none⟩=some (.int .i64 d.b.n)/\V.cell? ⟨b,off+k*9+5+3,none⟩=some (.slice a2 d.b.ks.len c2)) (first | assumption | exact ⟨m10,p0,p1,p2,p3,p4,p5,p6,p7,p8⟩ | exact CELLS.out _ B6.out | exact CELLS.out _ B5.out) (first
       | (go_at_call 47
          with_reducible refine (A1.out _ (aH wr)).mono ?_
          rintro e w5 ⟨rfl,hb⟩;have B5:=aA ((aH wr).trans hb);have c5':=CELLS.out _ B5.out;clear hb)
       | (go_at_call 47
          with_reducible refine (A2.out w5 B5.out).mono ?_
          rintro e w6 ⟨rfl,hb⟩;have B6:=aA (B5.out.trans (hb.mono B5.out.size));have c6':=CELLS.out _ B6.out;clear hb)
       | fail)
      have HE:=aA (HK.out.step B6.out);clear B5 B6 CELLS A1 A2 c5' c6' m10 p0 p1 p2 p3 p4 p5 p6 p7 p8;go_wp2_with fail
      go_roundw
      case rel=>exact ⟨k+1,_,rfl,by go_num,by omega,aA (by rw [dH];exact HN.out),HZ1,HE⟩
      case measure=>simp [intOf];omega
    · rw [iE h0,hdr,cE] at hF
      have d1:(((k:Nat):Int) == 0)=false:=by rw [beq_eq_false_iff_ne];omega
      clear h0;have hw:S.data.toList++([32,97,110,100,32]++(aK d.a++32::(d.op.data.toList++32::aK d.b))++cE (x.wh.drop (k+1)))=full:=by first | (rw [<- hF];done) | (rw [<- hF];simp)
      obtain ⟨S1,hS1⟩:∃ S1:ByteArray,S++⟨#[32,97,110,100,32]⟩=S1:=⟨_,rfl⟩;have hS1z:S1.size<=2000+2000*k+10:=by rw [<- hS1,ByteArray.size_append];have:=HZ.out;show S.size+5<=_;omega
      have hx0:(9223372036854775807<S.size+5)=False:=by rw [eq_iff_iff,iff_false];have:=HZ.out;omega
      have HN:=aA (show (S1++TA++⟨#[32]⟩++d.op++⟨#[32]⟩++TB).data.toList++cE (x.wh.drop (k+1))=full by rw [<- hw, <- hS1, <- hTA, <- hTB];simp);have HZ1:=aA (show (S1++TA++⟨#[32]⟩++d.op++⟨#[32]⟩++TB).size<=2000+2000*(k+1) by simp only [ByteArray.size_append];have h1:(⟨#[32]⟩:ByteArray).size=1:=rfl;rw [h1];omega);have x1:(9223372036854775807<S1.size+TA.size)=False:=by rw [eq_iff_iff,iff_false];omega
      have x2:(9223372036854775807<S1.size+TA.size+1)=False:=by rw [eq_iff_iff,iff_false];omega
      have x3:(9223372036854775807<S1.size+TA.size+1+d.op.size)=False:=by rw [eq_iff_iff,iff_false];omega
      have x4:(9223372036854775807<S1.size+TA.size+1+d.op.size+1)=False:=by rw [eq_iff_iff,iff_false];omega
      have x5:(9223372036854775807<S1.size+TA.size+1+d.op.size+1+TB.size)=False:=by rw [eq_iff_iff,iff_false];omega
      clear hw hF hTA hTB hS1z hAz hBz hoz;go_upto_region 18 with fail
      try rw [hS1]
      clear hS1
      go_region_held3 (fun V=>V.cell? ⟨w.heap.size,10,none⟩=some (.slice (some ⟨b,off,none⟩) x.wh.length p.wc)/\V.cell? ⟨b,off+k*9,none⟩=some (.string d.op)/\V.cell? ⟨b,off+k*9+1,none⟩=some (.string d.a.op)/\V.cell? ⟨b,off+k*9+1+1,none⟩=some (.string d.a.nm)/\V.cell? ⟨b,off+k*9+1+2,none⟩=some (.int .i64 d.a.n)/\V.cell? ⟨b,off+k*9+1+3,none⟩=some (.slice a1 d.a.ks.len c1)/\V.cell? ⟨b,off+k*9+5,none⟩=some (.string d.b.op)/\V.cell? ⟨b,off+k*9+5+1,none⟩=some (.string d.b.nm)/\V.cell? ⟨b,off+k*9+5+2,none⟩=some (.int .i64 d.b.n)/\V.cell? ⟨b,off+k*9+5+3,none⟩=some (.slice a2 d.b.ks.len c2)) (first | assumption | exact ⟨m10,p0,p1,p2,p3,p4,p5,p6,p7,p8⟩ | exact CELLS.out _ B6.out | exact CELLS.out _ B5.out) (first
       | (go_at_call 47
          with_reducible refine (A1.out _ (aH wr)).mono ?_
          rintro e w5 ⟨rfl,hb⟩;have B5:=aA ((aH wr).trans hb);have c5':=CELLS.out _ B5.out;clear hb)
       | (go_at_call 47
          with_reducible refine (A2.out w5 B5.out).mono ?_
          rintro e w6 ⟨rfl,hb⟩;have B6:=aA (B5.out.trans (hb.mono B5.out.size));have c6':=CELLS.out _ B6.out;clear hb)
       | fail)
      have HE:=aA (HK.out.step B6.out);clear B5 B6 CELLS A1 A2 c5' c6' m10 p0 p1 p2 p3 p4 p5 p6 p7 p8;go_wp2_with fail
      go_roundw
      case rel=>exact ⟨k+1,_,rfl,by go_num,by omega,aA (by rw [dH];exact HN.out),HZ1,HE⟩
      case measure=>simp [intOf];omega
  · have e1:x.wh.drop k=[]:=List.drop_of_length_le (by omega)
    have TR:=aA (show (⟨full.toArray⟩:ByteArray)=S from dO (by rw [<- HF.out,jL e1];simp));have b1:¬ (k:Int)<(x.wh.length:Int):=by omega
    go_wp2_with fail
    go_ret;exact ⟨congrArg (fun z=>Ending.returned (.string z)) TR.out.symm,HK.out.b⟩
theorem xB {G:Nat->Prop} (x:AG) (p:PA) (w:World) (h:eM x=0) (hn:fC x) (hr:aJ G w x p):Calls Tryz.prog 16 #[agV x p] w fun e w'=>e=.returned (.string ⟨(cJ x).toArray⟩)/\Below w.heap.size w w':=by
 have h1:=(cB h).1;unfold dD at h1;simp only [Bool.or_eq_true,beq_iff_eq] at h1;rcases h1 with ((((h1 | h1) | h1) | h1) | h1) | h1
 · exact Dw x p w h hn hr h1
 · exact qH x p w h hn hr (.inl h1)
 · exact qH x p w h hn hr (.inr (.inl h1))
 · exact qH x p w h hn hr (.inr (.inr h1))
 · exact Dv x p w h hn hr h1
 · exact Hj x p w h hn hr h1
end
end Go.Proofs.YtapcjnoaofmmiaaGreatDoor
