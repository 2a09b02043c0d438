/-
 No statement: what ProgLinesLift needs, of the texts OW3, HEval, HEvalT, QREval, ZEp, OV, ZRun, OMath, OParts, OCheck, QText, ZText, ZNice, ZKn1.
-/
import Derived.Test.YtgfkjkokmcejbaaGreatDoorVL6
set_option maxHeartbeats 40000000
set_option maxRecDepth 100000
namespace Go.Proofs.YtgfkjkokmcejbaaGreatDoor.Wr
open Go.RowKit
section
section
open Go.RowKit
end
section
open Go.RowKit
def Jq (x:AD) (y:Option Addr) (c:Nat):List Value:=[.string x.m,.int .i64 x.k,.int .i64 x.n,.string x.s,.slice y x.len c]
def nT (A:Nat->AD) (Y:Nat->Option Addr) (C:Nat->Nat):Nat->List Value
 | 0=>[]
 | k+1=>nT A Y C k++Jq (A k) (Y k) (C k)
theorem wQ (A:Nat->AD) (Y:Nat->Option Addr) (C:Nat->Nat):∀ k,(nT A Y C k).length=k*5
 | 0=>rfl
 | k+1=>by rw [nT,List.length_append,wQ A Y C k];show k*5+5=_;omega
theorem zH (A:Nat->AD) (Y:Nat->Option Addr) (C:Nat->Nat) {i:Nat} (hi:i<5):∀ {k j:Nat},j<k->(nT A Y C k)[j*5+i]? = (Jq (A j) (Y j) (C j))[i]?
 | 0,j,h=>by omega
 | k + 1, j, h => by
   have hl:=wQ A Y C k;rw [nT];by_cases hj:j<k
   · rw [List.getElem?_append_left (by omega)]
     exact zH A Y C hi hj
   · obtain rfl:j=k:=by omega
     rw [List.getElem?_append_right (by omega),hl,show j*5+i-j*5=i by omega]
theorem Dm {w:World} {base:Nat} {e:TypeId} {v:Value} {n:Nat} {A:Nat->AD} {Y:Nat->Option Addr} {C:Nat->Nat} (h:w.ownsRow base e 5 v n (nT A Y C n)) (hr:∀ j,j<n->Reads w (Y j) (A j).len (A j).z) :
 ∃ a c,v=.slice a n c/\ReadsA w a n A:=by
 rcases h.2 with ⟨rfl,rfl⟩ | ⟨g,cap,cur,rfl,_,hg,hnc,hcm,_,ht⟩
 · exact ⟨none,0,rfl,Nat.zero_le _,.inl rfl⟩
 · refine ⟨_,_,rfl,Nat.le_trans hnc hcm,.inr ⟨g,0,rfl,fun j hj=>⟨Y j,C j,?_,hr j hj⟩⟩⟩
   have cell:∀ i u,i<5->(Jq (A j) (Y j) (C j))[i]? = some u->w.cell? ⟨g,0+j*5+i,none⟩=some u:=fun i u hi hu=>by
    rw [Nat.zero_add];obtain ⟨g',hg',hc⟩:=oC h (by rw [zH A Y C hi hj];exact hu);simp only [Addr.mk.injEq] at hg';obtain ⟨rfl,_⟩:=hg';exact hc
   exact ⟨cell 0 _ (by omega) rfl,cell 1 _ (by omega) rfl,cell 2 _ (by omega) rfl,cell 3 _ (by omega) rfl,cell 4 _ (by omega) rfl⟩
theorem FN {w:World} {base:Nat} {e:TypeId} {size:Nat} {v:Value} {n:Nat} {xs:List Value} (h:w.ownsRow base e size v n xs):∃ a l c,v=.slice a l c:=by
 rcases h.2 with ⟨h,_⟩ | ⟨g,cap,_,h,_⟩
 · exact ⟨_,_,_,h⟩
 · exact ⟨_,_,_,h⟩
end
section
open Go.RowKit
def nmD (D:List AD):List ByteArray:=D.map (·.m)
end
section
open Go.RowKit
theorem NN:∀ x y:List UInt8,decide (Lib.compareBytes x y<0)=Op.bytesLess x y
 | [],[]=>rfl
 | [],_::_=>rfl
 | _::_,[]=>rfl
 | a :: r, b :: t => by
   have ih:=NN r t;unfold Lib.compareBytes Op.bytesLess;by_cases h:a<b
   · simp [h]
   · by_cases h':b<a
     · have:(a == b)=false:=by rw [beq_eq_false_iff_ne];rintro rfl;exact h h'
       simp [h,h',this]
     · have:a=b:=UInt8.le_antisymm (UInt8.not_lt.1 h') (UInt8.not_lt.1 h)
       subst this;simp [h,ih]
theorem NO:∀ x y:List UInt8,decide (Lib.compareBytes x y=0)=decide (x=y)
 | [],[]=>rfl
 | [],_::_=>rfl
 | _::_,[]=>rfl
 | a :: r, b :: t => by
   have ih:=NO r t;unfold Lib.compareBytes;by_cases h:a<b
   · have:a ≠ b:=by rintro rfl;exact absurd h (UInt8.lt_irrefl a)
     simp [h,this]
   · by_cases h':b<a
     · have:a ≠ b:=by rintro rfl;exact h h'
       simp [h,h',this]
     · have:a=b:=UInt8.le_antisymm (UInt8.not_lt.1 h') (UInt8.not_lt.1 h)
       subst this;simpa [h] using ih
theorem mI (x:AD) (y:Option Addr) (c:Nat) (s:ByteArray) (w:World) :
 Calls Tryz.prog 283 #[.agg #[.string x.m,.int .i64 x.k,.int .i64 x.n,.string x.s,.slice y x.len c],.string s] w fun e w'=>e=.returned (.int .i64 (Lib.compareBytes x.m.data.toList s.data.toList))/\Below w.heap.size w w':=by
 have bl:∀ o,Below w.heap.size w (w.alloc o):=fun o=>bA0 _ _
 have BL:=aA bl;clear bl;go_enter Tryz.func283,Tryz.ntmps283
 go_wp2_with fail
 refine (Tryz.strings_Compare _ _ _).mono ?_;rintro e w' ⟨rfl,rfl⟩;have P:=aA (BL.out (.cells #[.string x.m,.int .i64 x.k,.int .i64 x.n,.string x.s,.slice y x.len c] 62));go_wp2_with fail
 go_ret;exact ⟨rfl,P.out⟩
theorem rising_nm {A:Nat->AD} {n:Nat} (hR:RiseA A n):aS lsS (nmD (twsA A n)):=by
 have:nmD (twsA A n)=(List.range n).map (fun j=>(A j).m):=by simp [nmD,twsA,twA]
 rw [this];unfold aS;rw [List.pairwise_map];exact List.Pairwise.imp_of_mem (fun {i j} hi hj h=>hR i j h (List.mem_range.1 hj)) List.pairwise_lt_range
theorem nm_at (A:Nat->AD) {n t:Nat} (ht:t<n):(nmD (twsA A n))[t]? = some (A t).m:=by
 have:nmD (twsA A n)=(List.range n).map (fun j=>(A j).m):=by simp [nmD,twsA,twA]
 rw [this,List.getElem?_map,List.getElem?_range ht];rfl
theorem zX (a:Option Addr) (c:Nat) (f:Value) (x:ByteArray) (w:World) :
 Calls Tryz.prog 282 #[.slice a 0 c,.string x,f] w fun e w'=>e=.returned (.tuple #[.int .i64 (0:Nat),.bool false])/\w'=w:=by
 go_enter Tryz.func282,Tryz.ntmps282
 go_wp2
 go_loop [9,10] (fun s7 s8=>s7=.int .i64 0/\s8=.int .i64 0) (fun _ _=>0)
 case atStart=>exact ⟨rfl,rfl⟩
 case round =>
  obtain ⟨rfl,rfl⟩:=hrel;go_wp2
  go_ret2;exact ⟨rfl,rfl⟩
theorem zW (b off:Nat) (n c:Nat) (A:Nat->AD) (x:ByteArray) (hn:n<=1000) (hR:RiseA A n) (w:World) (h:∀ j,j<n->∃ y c,jY w b (off+j*5) (A j) y c) :
 Calls Tryz.prog 282 #[.slice (some ⟨b,off,none⟩) n c,.string x,.func (.func 283) #[] #[]] w fun e w' =>
  e=.returned (.tuple #[.int .i64 (pos lsS (nmD (twsA A n)) x:Nat),.bool (has (nmD (twsA A n)) x)])/\Below w.heap.size w w':=by
 have hr:=rising_nm hR;have hl:(nmD (twsA A n)).length=n:=by simp [nmD,twsA]
 have hat:∀ t,t<n->(nmD (twsA A n))[t]? = some (A t).m:=fun t ht=>nm_at A ht
 generalize nmD (twsA A n)=ks at hr hl hat;have hS:=pK eM hr x;rw [hl] at hS;obtain ⟨I,hI⟩:∃ I,pos lsS ks x=I:=⟨_,rfl⟩;obtain ⟨B,hB⟩:∃ B,B=has ks x:=⟨_,rfl⟩;have hIn:I<=n:=by rw [<- hI, <- hl];exact pO _ _
 rw [hI] at hS;rw [hI, <- hB];have HE:=aA (p:=I<n->decide ((A I).m=x)=B) (fun hy=>by rw [hB,sM eM hr hI (hat I hy)]);have HN:=aA (p:=n<=I->false=B) (fun h=>by rw [hB];exact (pV eM hr hI (by omega)).symm);have HG:=aA (p:=∀ t,t<n->ks.getD t x=(A t).m) (fun t ht=>by rw [List.getD_eq_getElem?_getD,hat t ht];rfl);have HS:=aA hS;have HC:=aA h;clear hS hI hB hr hl hat h hR;go_enter Tryz.func282,Tryz.ntmps282
 go_wp2_with fail
 go_loopg [9,10] n (fun g s7 s8 wr=>∃ lo hi:Nat,s7=.int .i64 lo/\s8=.int .i64 hi/\lo<=hi/\hi<=n/\hi-lo<=g/\Hid (Below w.heap.size w wr)/\Hid (Lib.bsGo (fun t=>lsS (ks.getD t x) x) g lo hi=I))
 case atStart=>exact ⟨0,n,rfl,rfl,Nat.zero_le _,Nat.le_refl _,by omega,aA (Below.refl _ _),HS⟩
 case round =>
  obtain ⟨lo,hi,rfl,rfl,hlh,hin,hg,hBl,hb⟩:=hrel;by_cases hlt:lo<hi
  · obtain ⟨y,cy,h50⟩:=HC.out ((lo+hi) / 2) (by omega)
    have h5:=h50.kept hBl.out;obtain ⟨g',rfl⟩:∃ g',gk=g'+1:=⟨gk-1,by omega⟩;have hb1:=hb.out;have hgt:=HG.out ((lo+hi) / 2) (by omega);clear hb h50;simp only [Lib.bsGo,hlt,if_true] at hb1;obtain ⟨z,hz⟩:∃ z,A ((lo+hi) / 2)=z:=⟨_,rfl⟩;rw [hz] at h5 hgt;simp only [hgt] at hb1;have hcb:=NN z.m.data.toList x.data.toList;rw [<- Lib.toList_data, <- Lib.toList_data,show Op.bytesLess z.m.toList x.toList=lsS z.m x from rfl,Lib.toList_data,Lib.toList_data] at hcb;have CN:=aA (fun w'=>mI z y cy x w');obtain ⟨d0,d1,d2,d3,d4⟩:=h5;have hsz:=hBl.out.size;clear hz hgt;cases hyx:lsS z.m x <;> simp only [hyx,if_true,Bool.false_eq_true,if_false] at hb1 hcb
    · have HB:=aA hb1
      clear hb1 hyx;go_wp2_with fail
      refine (CN.out _).mono ?_;rintro e w2 ⟨rfl,hb2⟩;have B2:=aA (hBl.out.trans (hb2.mono hsz));clear hb2;go_wp2_with fail
      go_roundg ((lo+hi) / 2-lo)
      case measure=>omega
      case rel=>exact ⟨lo,(lo+hi) / 2,rfl,by rw [show ((lo:Int)+(hi:Int)) / 2=(((lo+hi) / 2:Nat):Int) by omega],by omega,by omega,Nat.le_refl _,B2,aA (by rw [<- HB.out];exact Lib.bsGo_fuel _ _ _ _ _ (Nat.le_refl _) (by omega))⟩
    · have HB:=aA hb1
      clear hb1 hyx;go_wp2_with fail
      refine (CN.out _).mono ?_;rintro e w2 ⟨rfl,hb2⟩;have B2:=aA (hBl.out.trans (hb2.mono hsz));clear hb2;go_wp2_with fail
      go_roundg (hi-((lo+hi) / 2+1))
      case measure=>omega
      case rel=>exact ⟨(lo+hi) / 2+1,hi,by rw [show ((lo:Int)+(hi:Int)) / 2+1=(((lo+hi) / 2+1:Nat):Int) by omega],rfl,by omega,hin,Nat.le_refl _,B2,aA (by rw [<- HB.out];exact Lib.bsGo_fuel _ _ _ _ _ (Nat.le_refl _) (by omega))⟩
  · obtain rfl:hi=lo:=by omega
    obtain rfl:hi=I:=by
     rw [<- hb.out];cases gk <;> simp [Lib.bsGo]
    clear hb HS;by_cases hn:hi<n
    · obtain ⟨y,cy,h50⟩:=HC.out hi hn
      have h5:=h50.kept hBl.out;have hBx:=HE.out hn;obtain ⟨z,hz⟩:∃ z,A hi=z:=⟨_,rfl⟩;rw [hz] at h5 hBx;have hcb:=NO z.m.data.toList x.data.toList
      rw [show decide (z.m.data.toList=x.data.toList)=decide (z.m=x) from by
       by_cases hq:z.m=x
       · simp [hq]
       · rw [decide_eq_false hq];exact decide_eq_false (fun h=>hq (wR (by rw [Lib.toList_data,Lib.toList_data];exact h))),hBx,show decide (Lib.compareBytes z.m.data.toList x.data.toList=0)=(Lib.compareBytes z.m.data.toList x.data.toList == 0) from rfl] at hcb
      have CN:=aA (fun w'=>mI z y cy x w');obtain ⟨d0,d1,d2,d3,d4⟩:=h5;have hsz:=hBl.out.size;clear HE HN HC HG hz hBx h50;go_wp2_with fail
      refine (CN.out _).mono ?_;rintro e w2 ⟨rfl,hb2⟩;have B2:=aA (hBl.out.trans (hb2.mono hsz));clear hb2;go_wp2_with fail
      go_ret2;exact ⟨rfl,B2.out⟩
    · have HB:=HN.out (by omega)
      subst HB;clear HE HN HC HG;go_wp2_with fail
      go_ret2;exact ⟨rfl,hBl.out⟩
theorem Bi (a:Option Addr) (n c:Nat) (A:Nat->AD) (x:ByteArray) (hn:n<=1000) (hR:RiseA A n) (w:World) (h:ReadsA w a n A) :
 Calls Tryz.prog 282 #[.slice a n c,.string x,.func (.func 283) #[] #[]] w fun e w' =>
  e=.returned (.tuple #[.int .i64 (pos lsS (nmD (twsA A n)) x:Nat),.bool (has (nmD (twsA A n)) x)])/\Below w.heap.size w w':=by
 rcases h.2 with rfl | ⟨b,off,rfl,hc⟩
 · exact (zX a c _ x w).mono fun e w' ⟨he,hw⟩=>⟨he,by rw [hw];exact Below.refl _ _⟩
 · exact zW b off n c A x hn hR w (fun j hj=>by obtain ⟨y,c,h,_⟩:=hc j hj;exact ⟨y,c,h⟩)
def E9 (w:World) (A:Nat->AD) (n:Nat) (x:ByteArray) (e:Ending) (w':World):Prop :=
 (if has (nmD (twsA A n)) x=true then ∃ v a c,pos lsS (nmD (twsA A n)) x<n/\A (pos lsS (nmD (twsA A n)) x)=v/\e=.returned (.tuple #[.agg #[.int .i64 v.k,.int .i64 (twN v.k v.n),.string (twS v.k v.s),.slice a (twL v.k v.len) c],.bool true])/\Reads w' a (twL v.k v.len) v.z
  else e=.returned (.tuple #[.agg #[.int .i64 0,.int .i64 0,.string ⟨#[]⟩,.slice none 0 0],.bool false]))/\Below w.heap.size w w'
theorem getL_any (a:Option Addr) (n c:Nat) (A:Nat->AD) (x:ByteArray) (hn:n<=1000) (hl:∀ j,j<n->(A j).len<=1000000) (hR:RiseA A n) (w:World) (h:ReadsA w a n A) :
 Calls Tryz.prog 266 #[.slice a n c,.string x] w (E9 w A n x):=by
 have BL:∀ o,Below w.heap.size w (w.alloc o):=fun o=>bA0 _ _
 have SF:=aA (fun o=>Bi a n c A x hn hR (w.alloc o) (h.kept (BL o)));obtain ⟨W,hW⟩:∃ W,w.alloc (.cells #[.int .i64 0,.int .i64 0,.string ⟨#[]⟩,.slice none 0 0] 60)=W:=⟨_,rfl⟩;have hWb:Below w.heap.size w W:=by rw [<- hW];exact BL _
 have hWs:W.heap.size=w.heap.size+1:=by rw [<- hW];simp
 have hW4:W.heap[w.heap.size]? = some (.cells #[.int .i64 0,.int .i64 0,.string ⟨#[]⟩,.slice none 0 0] 60 (0,0)):=by rw [<- hW];exact heap_alloc_new w _
 have HW:=aA hW;have HX:=aA (And.intro hWb hW4);have RA:=aA h;have HLn:=aA hl;have hrn:=rising_nm hR;have hnl:(nmD (twsA A n)).length=n:=by simp [nmD,twsA]
 have HRN:=aA (And.intro hrn hnl);clear hWb hW4 hW h hl hR BL hrn hnl;by_cases hh:has (nmD (twsA A n)) x=true
 · have hp:pos lsS (nmD (twsA A n)) x<n:=by
    have:=(dZ eM HRN.out.1).1 ((gI _ _).1 hh);have:=(List.getElem?_eq_some_iff.1 this).1;rwa [HRN.out.2] at this
   rw [hh] at SF;have HH:=aA hh;obtain ⟨I,hI⟩:∃ I,pos lsS (nmD (twsA A n)) x=I:=⟨_,rfl⟩;obtain ⟨v,hv⟩:∃ v,A I=v:=⟨_,rfl⟩;rw [hI] at SF hp
   have GP:=aA (p:=∀ a' c' w',Reads w' a' (twL v.k v.len) v.z->Below w.heap.size w w'->E9 w A n x (.returned (.tuple #[.agg #[.int .i64 v.k,.int .i64 (twN v.k v.n),.string (twS v.k v.s),.slice a' (twL v.k v.len) c'],.bool true])) w') (fun a' c' w' hr hb=>⟨by
    rw [if_pos HH.out,hI];exact ⟨v,a',c',hp,hv,rfl,hr⟩,hb⟩)
   obtain ⟨b,off,rfl,hc⟩:=RA.out.2.resolve_left (by omega);obtain ⟨y,cy,h5,hry⟩:=hc I hp;have hlv:=HLn.out I hp;rw [hv] at h5 hry hlv;have H5:=aA (And.intro h5 hry);clear hc hv h5 hry hI hh;go_enter Tryz.func266,Tryz.ntmps266
   go_wp2_with fail
   refine (SF.out _).mono ?_;rw [HW.out];rintro e w2 ⟨rfl,hb2⟩;have B2:=aA (HX.out.1.trans (hb2.mono HX.out.1.size));have V2:=aA ((hb2.block w.heap.size (by omega)).trans HX.out.2);have hz2:=hb2.size;obtain ⟨d0,d1,d2,d3,d4⟩:=H5.out.1.kept B2.out;have TW:=aA (uF v.k v.n v.s y v.len cy v.z hlv w2 (H5.out.2.kept B2.out));clear hb2;go_wp2_with fail
   refine TW.out.mono ?_;rintro e w3 ⟨⟨a3,c3,rfl,hn3,hr3⟩,hb3⟩;have B3:=aA (B2.out.trans (hb3.mono (by omega)));have V3:=(hb3.block w.heap.size (by omega)).trans V2.out;obtain ⟨⟨c0,c1,c2,c3'⟩,⟨f0,f1,f2,f3⟩⟩:=aL V3;have R3:=aA (And.intro (hr3 w3 (aC.refl _ _)) hn3);clear hb3 V3 hr3 hn3 d0 d1 d2 d3 d4;go_wp2_with fail
   have hb4:=aA (j8 B3.out (Nat.le_refl _) (.int .i64 v.k) (.int .i64 (twN v.k v.n)) (.string (twS v.k v.s)) (.slice a3 (twL v.k v.len) c3));have hk4:=aA (R3.out.1.keptS (yZ w3 w.heap.size (.int .i64 v.k) (.int .i64 (twN v.k v.n)) (.string (twS v.k v.s)) (.slice a3 (twL v.k v.len) c3)) (fun q hq h=>by have:=R3.out.2 q hq;omega));exact bodyPost_ret (v:=.tuple #[.agg #[.int .i64 v.k,.int .i64 (twN v.k v.n),.string (twS v.k v.s),.slice a3 (twL v.k v.len) c3],.bool true]) (by simp [results,Tryz.results266,go_sem, *]) rfl (GP.out _ _ _ hk4.out hb4.out)
 · have hh':has (nmD (twsA A n)) x=false:=by simpa using hh
   rw [hh'] at SF;have HH:=aA hh;clear hh hh';go_enter Tryz.func266,Tryz.ntmps266
   go_wp2_with fail
   refine (SF.out _).mono ?_;rw [HW.out];rintro e w2 ⟨rfl,hb2⟩;have B2:=aA (HX.out.1.trans (hb2.mono HX.out.1.size));have V2:=(hb2.block w.heap.size (by omega)).trans HX.out.2;obtain ⟨⟨c0,c1,c2,c3⟩,⟨f0,f1,f2,f3⟩⟩:=aL V2;clear hb2 V2;go_wp2_with fail
   have hb4:=aA (j8 B2.out (Nat.le_refl _) (.int .i64 0) (.int .i64 0) (.string ⟨#[]⟩) (.slice none 0 0));exact bodyPost_ret (v:=.tuple #[.agg #[.int .i64 0,.int .i64 0,.string ⟨#[]⟩,.slice none 0 0],.bool false]) (by simp [results,Tryz.results266,go_sem, *]) rfl ⟨by rw [if_neg HH.out],hb4.out⟩
end
section
open Go.RowKit
end
section
open Go.RowKit
end
section
open Go.RowKit Go.ChangeShapes Go.WideShapes Go.Deep
end
end
end Go.Proofs.YtgfkjkokmcejbaaGreatDoor.Wr
namespace Go.Proofs.YtgfkjkokmcejbaaGreatDoor
open Go.RowKit
section
open Go.RowKit
structure J5 (A:Nat->Wr.AD) (n:Nat) (g:ByteArray->Option Int):Prop where
 yes:∀ j,j<n->g (A j).m=if (A j).k=1 then some (A j).n else none
 no:∀ x,(∀ j,j<n->(A j).m ≠ x)->g x=none
 fit:∀ x v,g x=some v->bU v
theorem Dq (o:ByteArray) (a b:Int) (ha:bU a) (hb:bU b) (h4:lC o=true) (w:World):Calls Tryz.prog 255 #[.string o,.int .i64 a,.int .i64 b] w fun e w'=>e=.returned (.tuple #[.int .i64 ((qA o a b).getD 0),.bool (qA o a b).isSome])/\w=w':=by
 have A1:=aA (AO a b w ha hb);have A2:=aA (AK a b w ha hb);have A3:=aA (Hn a b w ha hb);unfold lC at h4;unfold qA;cases h1:(o.data.toList == [43]) with
 | true =>
   have g1:=cO h1;rw [if_pos rfl];simp only [Option.getD_some,Option.isSome_some];clear h1 h4;go_enter Tryz.func255,Tryz.ntmps255
   go_wp2_with fail
   refine A1.out.mono ?_;rintro e w1 ⟨rfl,rfl⟩;go_wp2_with fail
   go_ret2;exact ⟨rfl,rfl⟩
 | false =>
   have g1:=aF h1;rw [if_neg (by decide)];cases h2:(o.data.toList == [45]) with
   | true =>
     have g2:=cO h2;rw [if_pos rfl];simp only [Option.getD_some,Option.isSome_some];clear h1 h4 h2;go_enter Tryz.func255,Tryz.ntmps255
     go_wp2_with fail
     refine A2.out.mono ?_;rintro e w1 ⟨rfl,rfl⟩;go_wp2_with fail
     go_ret2;exact ⟨rfl,rfl⟩
   | false =>
     have g2:=aF h2;rw [if_neg (by decide)];cases h3:(o.data.toList == [42]) with
     | true =>
       have g3:=cO h3;rw [if_pos rfl];simp only [Option.getD_some,Option.isSome_some];clear h1 h4 h2 h3;go_enter Tryz.func255,Tryz.ntmps255
       go_wp2_with fail
       refine A3.out.mono ?_;rintro e w1 ⟨rfl,rfl⟩;go_wp2_with fail
       go_ret2;exact ⟨rfl,rfl⟩
     | false =>
       have g3:=aF h3;rw [if_neg (by decide)];cases h5:(o.data.toList == [47]) with
       | true =>
         have g4:=cO h5;rw [if_pos rfl];by_cases hz:b=0
         · subst hz
           have A4:=aA (AN a w);rw [if_pos rfl];simp only [Option.getD_none,Option.isSome_none];clear h1 h4 h2 h3 h5;go_enter Tryz.func255,Tryz.ntmps255
           go_wp2_with fail
           refine A4.out.mono ?_;rintro e w1 ⟨rfl,rfl⟩;go_wp2_with fail
           go_ret2;exact ⟨rfl,rfl⟩
         · have A4:=aA (Hp a b w ha hb hz)
           rw [if_neg hz];simp only [Option.getD_some,Option.isSome_some];clear h1 h4 h2 h3 h5 hz;go_enter Tryz.func255,Tryz.ntmps255
           go_wp2_with fail
           refine A4.out.mono ?_;rintro e w1 ⟨rfl,rfl⟩;go_wp2_with fail
           go_ret2;exact ⟨rfl,rfl⟩
       | false =>
         have g4:=aF h5;rw [if_neg (by decide)];have g5:=cO (o:=o) (x:=[37]) (by rw [h1,h2,h3,h5] at h4;simpa using h4);by_cases hz:b=0
         · subst hz
           have A4:=aA (AM a w);rw [if_pos rfl];simp only [Option.getD_none,Option.isSome_none];clear h1 h4 h2 h3 h5;go_enter Tryz.func255,Tryz.ntmps255
           go_wp2_with fail
           refine A4.out.mono ?_;rintro e w1 ⟨rfl,rfl⟩;go_wp2_with fail
           go_ret2;exact ⟨rfl,rfl⟩
         · have A4:=aA (Ho a b w ha hb hz)
           rw [if_neg hz];simp only [Option.getD_some,Option.isSome_some];clear h1 h4 h2 h3 h5 hz;go_enter Tryz.func255,Tryz.ntmps255
           go_wp2_with fail
           refine A4.out.mono ?_;rintro e w1 ⟨rfl,rfl⟩;go_wp2_with fail
           go_ret2;exact ⟨rfl,rfl⟩
theorem GH {A:Nat->Wr.AD} {n:Nat} {g:ByteArray->Option Int} (hg:J5 A n g) (hR:Wr.RiseA A n) (x:ByteArray) :
 (has (Wr.nmD (Wr.twsA A n)) x=true->pos lsS (Wr.nmD (Wr.twsA A n)) x<n->g x=if (A (pos lsS (Wr.nmD (Wr.twsA A n)) x)).k=1 then some (A (pos lsS (Wr.nmD (Wr.twsA A n)) x)).n else none) /\
 (¬ has (Wr.nmD (Wr.twsA A n)) x=true->g x=none):=by
 have hr:=Wr.rising_nm hR;refine ⟨fun h hp=>?_,fun h=>hg.no x fun j hj e=>h ?_⟩
 · have h1:=(dZ eM hr).1 ((gI _ _).1 h)
   rw [Wr.nm_at A hp] at h1;have h2:=hg.yes _ hp;rw [Option.some.inj h1] at h2;exact h2
 · rw [gI]
   exact e ▸ List.mem_of_getElem? (Wr.nm_at A hj)
theorem Dt {A:Nat->Wr.AD} {n:Nat} {g:ByteArray->Option Int} (hg:J5 A n g) (hR:Wr.RiseA A n) (hn:n<=1000) (hl:∀ j,j<n->(A j).len<=1000000) (a:Option Addr) (c:Nat) (x:ByteArray) (w:World) (h:Wr.ReadsA w a n A) :
 Calls Tryz.prog 253 #[.slice a n c,.string x] w fun e w'=>e=.returned (.tuple #[.int .i64 ((g x).getD 0),.bool (g x).isSome])/\Below w.heap.size w w':=by
 have C:=aA (Wr.getL_any a n c A x hn hl hR w h);obtain ⟨F1,F2⟩:=GH hg hR x;by_cases hh:has (Wr.nmD (Wr.twsA A n)) x=true
 · have C1:=aA (p:=Calls Tryz.prog 266 #[.slice a n c,.string x] w fun e w'=>(∃ (v:Wr.AD) (a:Option Addr) (c:Nat),g x=(if v.k=1 then some v.n else none)/\e=.returned (.tuple #[.agg #[.int .i64 v.k,.int .i64 (Wr.twN v.k v.n),.string (Wr.twS v.k v.s),.slice a (Wr.twL v.k v.len) c],.bool true]))/\Below w.heap.size w w') (C.out.mono fun e w' ⟨he,hb⟩=>by
    rw [if_pos hh] at he;obtain ⟨v,a2,c2,hp,rfl,he, -⟩:=he;exact ⟨⟨_,a2,c2,F1 hh hp,he⟩,hb⟩)
   clear F1 F2 C h hh;go_enter Tryz.func253,Tryz.ntmps253
   go_wp2_with fail
   refine C1.out.mono ?_;rintro e w1 ⟨⟨v,a2,c2,hv,rfl⟩,hb⟩;have B1:=aA hb;have HV:=aA hv;have tw1:v.k=1->Wr.twN v.k v.n=v.n:=fun h=>by rw [h];rfl
   obtain ⟨N,hN⟩:∃ N,Wr.twN v.k v.n=N:=⟨_,rfl⟩;obtain ⟨Z,hZ⟩:∃ Z,Wr.twS v.k v.s=Z:=⟨_,rfl⟩;obtain ⟨L,hL⟩:∃ L,Wr.twL v.k v.len=L:=⟨_,rfl⟩;rw [hN] at tw1;rw [hN,hZ,hL];obtain ⟨k,hk⟩:∃ k,v.k=k:=⟨_,rfl⟩;rw [hk] at HV tw1 |-
   clear hb hv hN hZ hL hk C1;by_cases h1:k=1
   · have TW:=aA (tw1 h1)
     subst h1;have HG:=aA (show g x=some v.n by rw [HV.out,if_pos rfl]);clear HV tw1;have B2:=aA (B1.out.trans ((bA0 w1 (.cells #[.int .i64 1,.int .i64 N,.string Z,.slice a2 L c2] 60)).mono B1.out.size));go_wp2_with fail
     go_ret2;exact ⟨by rw [HG.out,TW.out];rfl,B2.out⟩
   · have HG:=aA (show g x=none by rw [HV.out,if_neg h1])
     have e1:(k == 1)=false:=by simpa using h1
     have e2:(k != 1)=true:=by simpa using h1
     clear HV tw1;have B2:=aA (B1.out.trans ((bA0 w1 (.cells #[.int .i64 k,.int .i64 N,.string Z,.slice a2 L c2] 60)).mono B1.out.size));go_wp2_with fail
     go_ret2;rw [HG.out];exact ⟨rfl,B2.out⟩
 · have HG:=aA (F2 hh)
   have C1:=aA (p:=Calls Tryz.prog 266 #[.slice a n c,.string x] w fun e w'=>e=.returned (.tuple #[.agg #[.int .i64 0,.int .i64 0,.string ⟨#[]⟩,.slice none 0 0],.bool false])/\Below w.heap.size w w') (C.out.mono fun e w' ⟨he,hb⟩=>by
    rw [if_neg hh] at he;exact ⟨he,hb⟩)
   clear F1 F2 C h hh;go_enter Tryz.func253,Tryz.ntmps253
   go_wp2_with fail
   refine C1.out.mono ?_;rintro e w1 ⟨rfl,hb⟩;have B2:=aA (hb.trans ((bA0 w1 (.cells #[.int .i64 0,.int .i64 0,.string ⟨#[]⟩,.slice none 0 0] 60)).mono hb.size));clear hb C1;go_wp2_with fail
   go_ret2;rw [HG.out];exact ⟨rfl,B2.out⟩
structure gN (A:Nat->Wr.AD) (n:Nat) (g:ByteArray->Option Int):Prop where
 ok:J5 A n g
 ri:Wr.RiseA A n
 few:n<=1000
 sm:∀ j,j<n->(A j).len<=1000000
def PEv (A:Nat->Wr.AD) (n:Nat) (g:ByteArray->Option Int) (t:TN):Prop:=∀ (G:Nat->Prop) (w:World) (a:Option Addr) (c:Nat) (y:Option Addr) (cy:Nat),aQ G w a t.ks->Wr.ReadsA w y n A ->
 Calls Tryz.prog 232 #[eH t.op t.nm t.n a t.ks.len c,.slice y n cy] w fun e w'=>e=.returned (.tuple #[.int .i64 ((evT g t).getD 0),.bool (evT g t).isSome])/\Below w.heap.size w w'
variable {A : Nat -> Wr.AD} {n : Nat} {g : ByteArray -> Option Int}
theorem Ky (o m:ByteArray) (v:Int) (h1:cF o=true):PEv A n g ⟨o,m,v,.nil⟩:=by
 intro G w a c y cy hr hA;rw [Ju g h1];clear hr hA;dsimp only;have g1:=cO h1;unfold rJ at g1;have NB:=aA (heap_alloc_new w (ndG o m v a F.nil.len c));have B0:=aA (bA0 w (ndG o m v a F.nil.len c));clear h1;go_enter Tryz.func232,Tryz.ntmps232
 go_wp2_with fail
 go_ret2;exact ⟨rfl,B0.out⟩
theorem Io (U:gN A n g) (o m:ByteArray) (v:Int) (h1:cF o=false) (h2:bY o=true):PEv A n g ⟨o,m,v,.nil⟩:=by
 intro G w a c y cy hr hA;rw [ET g h1 h2];dsimp only;have g1:=aF h1;have g2:=cO h2;unfold rJ at g1;unfold mL at g2;have B0:=aA (bA0 w (ndG o m v a F.nil.len c));have C:=aA (Dt U.ok U.ri U.few U.sm y cy m (w.alloc (ndG o m v a F.nil.len c)) (hA.kept B0.out));obtain ⟨q,hq⟩:∃ q,g m=q:=⟨_,rfl⟩;rw [hq] at C |-
 clear h1 h2 hr hA hq;go_enter Tryz.func232,Tryz.ntmps232
 go_wp2_with fail
 refine C.out.mono ?_;rintro e w1 ⟨rfl,hb⟩;have B1:=aA (B0.out.trans (hb.mono B0.out.size));clear hb;go_wp2_with fail
 go_ret2;exact ⟨rfl,B1.out⟩
theorem Kz (o m:ByteArray) (v:Int) (t:TN) (h1:cF o=false) (h2:bY o=false) (h3:fA o=true) (hi:∀ x,evT g t=some x->bU x) (ih:PEv A n g t):PEv A n g ⟨o,m,v,t.f⟩:=by
 intro G w a c y cy hr hA;rw [Jv g t h1 h2 h3];dsimp only at hr |-
 rw [show t.f.len=1 from rfl];have g1:=aF h1;have g2:=aF h2;have g3:=cO h3;unfold rJ at g1;unfold mL at g2;unfold iQ at g3;have NB:=aA (heap_alloc_new w (ndG o m v a 1 c));have B0:=aA (bA0 w (ndG o m v a 1 c));obtain ⟨b,off,a2,c2,ha,hG,hbl,⟨p0,p1,p2,p3⟩,hr2⟩:=kQ (hr.kept B0.out) (show t.f.at 0=some t from rfl);have C:=aA (ih G (w.alloc (ndG o m v a 1 c)) a2 c2 y cy hr2 (hA.kept B0.out));rw [Nat.zero_mul,Nat.add_zero] at p0 p1 p2 p3;subst ha;have SB:=aA (fun (x:Int) (h:bU x) (V:World)=>AK 0 x V (by unfold bU;omega) h)
 have HI:bU ((evT g t).getD 0):=by
  cases hE:evT g t with
  | none=>show bU 0;unfold bU;omega
  | some x=>exact hi x hE
 have RS:(Option.map (fun x=>dC (0-x)) (evT g t)).getD 0=dC (0-(evT g t).getD 0)/\(Option.map (fun x=>dC (0-x)) (evT g t)).isSome=(evT g t).isSome:=by
  cases evT g t with
  | none=>exact ⟨by decide,rfl⟩
  | some x=>exact ⟨rfl,rfl⟩
 rw [RS.1,RS.2];obtain ⟨q,hq⟩:∃ q,(evT g t).getD 0=q:=⟨_,rfl⟩;obtain ⟨z,hz⟩:∃ z,(evT g t).isSome=z:=⟨_,rfl⟩;rw [hq] at C HI |-
 rw [hz] at C |-
 have S1:=aA (SB.out q HI);rw [Int.zero_sub];clear h1 h2 h3 hr hA ih hr2 hq hz RS HI hi SB;go_enter Tryz.func232,Tryz.ntmps232
 go_wp2_with fail
 generalize w.alloc (ndG o m v (some ⟨b,off,none⟩) 1 c)=W at NB B0 C hbl p0 p1 p2 p3 |-
 obtain ⟨⟨m0,m1,m2,m3⟩, -⟩:=aL NB.out;go_wp2_with fail
 refine C.out.mono ?_;rintro e w1 ⟨rfl,hb⟩;have B1:=aA (B0.out.trans (hb.mono B0.out.size));clear hb;go_wp2_with fail
 refine (S1.out _).mono ?_;rintro e w2 ⟨rfl,rfl⟩;go_wp2_with fail
 go_ret2;exact ⟨rfl,B1.out⟩
theorem Kx (o m:ByteArray) (v:Int) (t u:TN) (h1:cF o=false) (h2:bY o=false) (h3:fA o=false) (h4:lC o=true) (hi:∀ x,evT g t=some x->bU x) (hj:∀ x,evT g u=some x->bU x) (ih:PEv A n g t) (iu:PEv A n g u):PEv A n g ⟨o,m,v,.cons t.op t.nm t.n t.ks u.f⟩:=by
 intro G w a c y cy hr hA;rw [Jt g t u h1 h2 h3];dsimp only at hr |-
 rw [show (F.cons t.op t.nm t.n t.ks u.f).len=2 from rfl];have g1:=aF h1;have g2:=aF h2;have g3:=aF h3;unfold rJ at g1;unfold mL at g2;unfold iQ at g3;have NB:=aA (heap_alloc_new w (ndG o m v a 2 c));have B0:=aA (bA0 w (ndG o m v a 2 c));obtain ⟨b,off,a2,c2,ha,hG,hbl,⟨p0,p1,p2,p3⟩,hr2⟩:=kQ (hr.kept B0.out) (show (F.cons t.op t.nm t.n t.ks u.f).at 0=some t from rfl);obtain ⟨b',off',a3,c3,ha',hG',hbl',⟨q0,q1,q2,q3⟩,hr3⟩:=kQ (hr.kept B0.out) (show (F.cons t.op t.nm t.n t.ks u.f).at 1=some u from rfl);subst ha;cases ha';have C:=aA (ih G (w.alloc (ndG o m v (some ⟨b,off,none⟩) 2 c)) a2 c2 y cy hr2 (hA.kept B0.out));have D:=aA (fun V (hV:Below (w.alloc (ndG o m v (some ⟨b,off,none⟩) 2 c)).heap.size (w.alloc (ndG o m v (some ⟨b,off,none⟩) 2 c)) V)=>iu G V a3 c3 y cy (hr3.kept hV) ((hA.kept B0.out).kept hV));have AP:=aA (fun (p q:Int) (hp:bU p) (hq:bU q) (V:World)=>Dq o p q hp hq h4 V);rw [Nat.zero_mul,Nat.add_zero] at p0 p1 p2 p3;rw [Nat.one_mul] at q0 q1 q2 q3;clear h1 h2 h3 h4 hr hA ih iu hr2 hr3;cases hT:evT g t with
 | none =>
   rw [hT] at C;simp only [Option.getD_none,Option.isSome_none] at C |-
   clear hT hi hj D AP;go_enter Tryz.func232,Tryz.ntmps232
   go_wp2_with fail
   generalize w.alloc (ndG o m v (some ⟨b,off,none⟩) 2 c)=W at NB B0 C hbl p0 p1 p2 p3 |-
   obtain ⟨⟨m0,m1,m2,m3⟩, -⟩:=aL NB.out;go_wp2_with fail
   refine C.out.mono ?_;rintro e w1 ⟨rfl,hb⟩;have B1:=aA (B0.out.trans (hb.mono B0.out.size));clear hb;go_wp2_with fail
   go_ret2;exact ⟨rfl,B1.out⟩
 | some p =>
   rw [hT] at C;simp only [Option.getD_some,Option.isSome_some] at C;have HP:=aA (hi p hT);cases hU:evT g u with
   | none =>
     rw [hU] at D;simp only [Option.getD_none,Option.isSome_none] at D |-
     clear hT hi hj hU AP;go_enter Tryz.func232,Tryz.ntmps232
     go_wp2_with fail
     generalize w.alloc (ndG o m v (some ⟨b,off,none⟩) 2 c)=W at NB B0 C D hbl hbl' p0 p1 p2 p3 q0 q1 q2 q3 |-
     obtain ⟨⟨m0,m1,m2,m3⟩, -⟩:=aL NB.out;go_wp2_with fail
     refine C.out.mono ?_;rintro e w1 ⟨rfl,hb⟩;have D1:=aA (D.out w1 hb);have B1:=aA (B0.out.trans (hb.mono B0.out.size));have s0:=(hb.cell hbl').trans q0;have s1:=(hb.cell hbl').trans q1;have s2:=(hb.cell hbl').trans q2;have s3:=(hb.cell hbl').trans q3;have s4:=(hb.cell (aB NB.out)).trans m3;have s5:=(hb.cell (aB NB.out)).trans m0;clear hb p0 p1 p2 p3 q0 q1 q2 q3 m0 m1 m2 m3 C D;go_wp2_with fail
     refine D1.out.mono ?_;rintro e w2 ⟨rfl,hb⟩;have B2:=aA (B1.out.trans (hb.mono B1.out.size));clear hb;go_wp2_with fail
     go_ret2;exact ⟨rfl,B2.out⟩
   | some q =>
     rw [hU] at D;simp only [Option.getD_some,Option.isSome_some] at D |-
     have A1:=aA (AP.out p q HP.out (hj q hU));clear hT hi hj hU AP HP;go_enter Tryz.func232,Tryz.ntmps232
     go_wp2_with fail
     generalize w.alloc (ndG o m v (some ⟨b,off,none⟩) 2 c)=W at NB B0 C D hbl hbl' p0 p1 p2 p3 q0 q1 q2 q3 |-
     obtain ⟨⟨m0,m1,m2,m3⟩, -⟩:=aL NB.out;go_wp2_with fail
     refine C.out.mono ?_;rintro e w1 ⟨rfl,hb⟩;have D1:=aA (D.out w1 hb);have B1:=aA (B0.out.trans (hb.mono B0.out.size));have s0:=(hb.cell hbl').trans q0;have s1:=(hb.cell hbl').trans q1;have s2:=(hb.cell hbl').trans q2;have s3:=(hb.cell hbl').trans q3;have N1:=aA ((hb.block _ (aB NB.out)).trans NB.out);have s4:=(hb.cell (aB NB.out)).trans m3;have s5:=(hb.cell (aB NB.out)).trans m0;clear hb p0 p1 p2 p3 q0 q1 q2 q3 m0 m1 m2 m3 C D;go_wp2_with fail
     refine D1.out.mono ?_;rintro e w2 ⟨rfl,hb⟩;have B2:=aA (B1.out.trans (hb.mono B1.out.size));have s6:=(hb.cell (aB N1.out)).trans s5;clear hb s0 s1 s2 s3 s4 s5;go_wp2_with fail
     refine (A1.out _).mono ?_;rintro e w3 ⟨rfl,rfl⟩;go_wp2_with fail
     go_ret2;exact ⟨rfl,B2.out⟩
theorem Aa (U:gN A n g) (t:TN) (h:OkT t) (hn:cY t.f):PEv A n g t/\∀ x,evT g t=some x->bU x :=
 f9 (P:=fun t=>PEv A n g t/\∀ x,evT g t=some x->bU x)
  (fun o m v a b d=>⟨Ky o m v a,fun x hx=>by rw [Ju g a] at hx;cases hx;unfold bU;omega⟩)
  (fun o m v a b _=>⟨Io U o m v a b,fun x hx=>by rw [ET g a b] at hx;exact U.ok.fit _ _ hx⟩)
  (fun o m v t a b c ih=>⟨Kz o m v t a b c ih.2 ih.1,fun x hx=>by
   rw [Jv g t a b c,Option.map_eq_some_iff] at hx;obtain ⟨z,_,rfl⟩:=hx;exact lH _⟩)
  (fun o m v t u a b c d ih iu=>⟨Kx o m v t u a b c d ih.2 iu.2 ih.1 iu.1,fun x hx=>by
   rw [Jt g t u a b c] at hx;split at hx
   · rename_i p q hp hq
     exact JQ (ih.2 _ hp) hx
   · cases hx⟩) t h hn
theorem oB (U:gN A n g) (t:TN) (h:aK t=0) (hn:cY t.f) (hS:SzF t.f) (G:Nat->Prop) (w:World) (a:Option Addr) (c:Nat) (y:Option Addr) (cy:Nat) (hr:aQ G w a t.ks) (hA:Wr.ReadsA w y n A) :
 Calls Tryz.prog 191 #[eH t.op t.nm t.n a t.ks.len c,.slice y n cy] w fun e w'=>e=.returned (.tuple #[.int .i64 ((evT g t).getD 0),.bool (evT g t).isSome])/\Below w.heap.size w w':=by
 have B0:=bA0 w (ndG t.op t.nm t.n a t.ks.len c);have N0:=heap_alloc_new w (ndG t.op t.nm t.n a t.ks.len c);have R0:=hr.kept B0;have A0:=hA.kept B0;generalize hW:w.alloc (ndG t.op t.nm t.n a t.ks.len c)=W at B0 N0 R0 A0;have HW:=aA hW;have HB:=aA B0;have CK:=aA (gW t G W a c hS R0);rw [h] at CK;have EV:=aA (fun V (hV:Below W.heap.size W V)=>(Aa U t ((cW t).1 h).1 hn).1 G V a c y cy (R0.kept hV) (A0.kept hV));obtain ⟨q,hq⟩:∃ q,(evT g t).getD 0=q:=⟨_,rfl⟩;obtain ⟨z,hz⟩:∃ z,(evT g t).isSome=z:=⟨_,rfl⟩;rw [hq,hz] at EV |-
 have HN:=aA N0;clear hr hA B0 N0 R0 A0 hW hq hz h;obtain ⟨⟨m0,m1,m2,m3⟩, -⟩:=aL HN.out;go_enter Tryz.func191,Tryz.ntmps191
 go_upto_region 1 with fail
 rw [HW.out];go_wp2_with fail
 refine CK.out.mono ?_;rintro e w1 ⟨rfl,hb⟩;have E1:=aA (EV.out w1 hb);have B1:=aA (HB.out.trans (hb.mono HB.out.size));have N1:=(hb.block _ (aB HN.out)).trans HN.out;clear hb m0 m1 m2 m3 EV CK;obtain ⟨⟨m0,m1,m2,m3⟩, -⟩:=aL N1;clear N1;go_wp2_with fail
 refine E1.out.mono ?_;rintro e w2 ⟨rfl,hb⟩;have B2:=aA (B1.out.trans (hb.mono B1.out.size));clear hb;go_wp2_with fail
 go_ret2;exact ⟨rfl,B2.out⟩
structure RW where
 n:Nat
 A:Nat->Wr.AD
 g:ByteArray->Option Int
def bL (w:World) (a:Option Addr) (rs:List RW):Prop:=rs=[]\/∃ b off,a=some ⟨b,off,none⟩/\b<w.heap.size/\∀ j r,rs[j]? = some r->∃ y cy,w.cell? ⟨b,off+j,none⟩=some (.slice y r.n cy)/\Wr.ReadsA w y r.n r.A
abbrev vlV (k n:Int) (a:Option Addr) (l c:Nat):Value:=.agg #[.int .i64 k,.int .i64 n,.string ⟨#[]⟩,.slice a l c]
def mD (r:EvR) (w0:World) (e:Ending) (w':World):Prop:=Below w0.heap.size w0 w' /\
 match r with
 | .no=>e=.returned (.tuple #[vlV 0 0 none 0 0,.bool false])
 | .num n=>e=.returned (.tuple #[vlV 1 n none 0 0,.bool true])
 | .list l=>∃ a c,e=.returned (.tuple #[vlV 3 0 a l.length c,.bool true])/\(l=[]\/∃ b off,a=some ⟨b,off,none⟩/\w0.heap.size<=b/\b<w'.heap.size/\∀ j n,l[j]? = some n->w'.cell? ⟨b,off+j,none⟩=some (.int .i64 n))
section
variable {s : ES} {k : Nat}
end
section
variable {x : AG} {g : ByteArray -> Option Int} {s : ES} {v : Int}
end
section
variable {G : Nat -> Prop} {w V : World} {x : AG} {p : PA} {T : List Int} {ta : Option Addr} {tc : Nat}
end
def rzK:EvR->Int | .no=>0 | .num _=>1 | .list _=>3
def rzN:EvR->Int | .num n=>n | _=>0
def rzL:EvR->List Int | .list l=>l | _=>[]
def Ib:EvR->Bool | .no=>false | _=>true
abbrev rzZ (R:EvR) (j:Nat):Int:=(rzL R).getD j 0
theorem EU {x:AG} (h:fJ x=0) (gs:List (ByteArray->Option Int)):(rzL (evG x gs)).length<=16:=by
 obtain ⟨h1,h2, -⟩:=cP h;unfold fB at h1;simp only [Bool.or_eq_true,beq_iff_eq] at h1;rcases h1 with ((((h1 | h1) | h1) | h1) | h1) | h1
 · rw [sP h1];exact Nat.zero_le _
 · rw [Ar h1];split <;> exact Nat.zero_le _
 · rw [As h1];split <;> exact Nat.zero_le _
 · rw [Aq h1];exact Nat.zero_le _
 · rw [sO h1];split <;> exact Nat.zero_le _
 · rw [Ap h1]
   have:=h2 h1;simp only [rzL,List.length_drop];omega
theorem LL {R:EvR} (hl:(rzL R).length<=16) {w0 w':World} {e:Ending} (h:mD R w0 e w'):Below w0.heap.size w0 w'/\∃ a c,e=.returned (.tuple #[vlV (rzK R) (rzN R) a (rzL R).length c,.bool (Ib R)])/\Wr.Reads w' a (rzL R).length (rzZ R):=by
 obtain ⟨hb,h⟩:=h;refine ⟨hb,?_⟩;cases R with
 | no=>exact ⟨none,0,h,by unfold maxLen;simp [rzL],.inl rfl⟩
 | num n=>exact ⟨none,0,h,by unfold maxLen;simp [rzL],.inl rfl⟩
 | list l =>
   obtain ⟨a,c,rfl,hx⟩:=h;refine ⟨a,c,rfl,by unfold maxLen;simp only [rzL] at hl |-;omega,hx.imp (fun e=>by rw [e];rfl) ?_⟩;rintro ⟨b,off,rfl, -, -,hc⟩;refine ⟨b,off,rfl,fun j hj=>?_⟩;have hj':j<l.length:=hj;have:=hc j l[j] (List.getElem?_eq_getElem hj');rw [this];simp [rzZ,rzL,List.getD,List.getElem?_eq_getElem hj']
end
end Go.Proofs.YtgfkjkokmcejbaaGreatDoor
namespace Go.Proofs.YtgfkjkokmcejbaaGreatDoor.Wr
open Go.RowKit
section
section
open Go.RowKit
def JW (F:Nat->Prop) (v:Value):Nat->Prop:=fun k=>F k\/v.ownBlock=some k
end
section
open Go.RowKit
end
section
open Go.RowKit
end
section
open Go.RowKit
end
section
open Go.RowKit
def dA:AD:=⟨⟨#[]⟩,0,0,⟨#[]⟩,0,fun _=>0⟩
def atD (D:List AD) (j:Nat):AD:=D.getD j dA
end
section
open Go.RowKit
def putD (D:List AD) (x:AD):List AD:=if has (nmD D) x.m=true then D.set (pos lsS (nmD D) x.m) x else D.take (pos lsS (nmD D) x.m)++x::D.drop (pos lsS (nmD D) x.m)
end
section
open Go.RowKit
theorem nmD_put {D:List AD} (hr:aS lsS (nmD D)) (x:AD):nmD (putD D x)=eD lsS (nmD D) x.m:=by
 unfold putD eD;by_cases h:has (nmD D) x.m=true
 · rw [if_pos h,if_pos h]
   have hp:=(dZ eM hr).1 ((gI _ _).1 h);unfold nmD at *;rw [List.map_set];apply List.ext_getElem?
   intro j;rw [List.getElem?_set];split
   · rename_i hj
     subst hj;rw [hp,if_pos (List.getElem?_eq_some_iff.1 hp).1]
   · rfl
 · rw [if_neg h,if_neg h]
   simp [nmD,List.map_take,List.map_drop]
end
section
open Go.RowKit
end
section
open Go.RowKit
section
variable {P : Program}
end
end
section
open Go.RowKit
section
variable {P : Program}
end
end
section
open Go.RowKit
section
variable {P : Program}
end
end
section
open Go.RowKit
end
end
end Go.Proofs.YtgfkjkokmcejbaaGreatDoor.Wr
namespace Go.Proofs.YtgfkjkokmcejbaaGreatDoor
open Go.RowKit
section
open Go.RowKit
def evA (nm:ByteArray) (R:EvR):Wr.AD:=⟨nm,rzK R,rzN R,⟨#[]⟩,(rzL R).length,rzZ R⟩
def lR (gs:List (ByteArray->Option Int)):List LN->List Wr.AD->List Wr.AD
 | [],acc=>acc
 | x::r,acc=>lR gs r (if Ib (evG x.a gs)=true then Wr.putD acc (evA x.nm (evG x.a gs)) else acc)
theorem nE {w w':World} {a:Option Addr} {rs:List RW} (h:bL w a rs) (hb:Below w.heap.size w w'):bL w' a rs:=by
 rcases h with h | ⟨b,off,e,hl,hc⟩
 · exact .inl h
 · refine .inr ⟨b,off,e,by have:=hb.size;omega,fun j r hj=>?_⟩
   obtain ⟨y,cy,c,rd⟩:=hc j r hj;exact ⟨y,cy,(hb.cell (p:=⟨b,_,none⟩) hl).trans c,rd.kept hb⟩
theorem NK {W:World} {B:Nat} {v0 v1 v2 v3:Value} {t:TypeId} (h:W.heap[B]? = some (.cells #[v0,v1,v2,v3] t (0,0))):W.cell? ⟨B,0,none⟩=some v0/\W.cell? ⟨B,1,none⟩=some v1/\W.cell? ⟨B,2,none⟩=some v2/\W.cell? ⟨B,3,none⟩=some v3:=by
 refine ⟨?_,?_,?_,?_⟩ <;> simp [World.cell?,h]
structure RNW (G:Nat->Prop) (w:World) (a:Option Addr) (l:List LN) (ya:Option Addr) (rs:List RW) (oa:Option Addr) (D:List Wr.AD) (V:World):Prop where
 b:Below w.heap.size w V
 l:cT G V a l
 y:bL V ya rs
 o:Wr.ReadsA V oa D.length (Wr.atD D)
theorem RNW.step {G:Nat->Prop} {w V V':World} {a ya oa:Option Addr} {l:List LN} {rs:List RW} {D:List Wr.AD} (h:RNW G w a l ya rs oa D V) (hb:Below V.heap.size V V'):RNW G w a l ya rs oa D V' :=
 ⟨h.b.trans (hb.mono h.b.size),h.l.kept hb,nE h.y hb,h.o.kept hb⟩
def kP (x:List UInt8):Bool:=x == eQ
def bP (x:List UInt8):Bool:=x == bE
def eP (x:List UInt8):Bool:=fB x && !(x == aT)
def bD (L:List Tk) (p:Nat):Tk:=(L[p]?).getD ⟨0,[],0,0⟩
def atR (s:RS):Nat:=if s.bad=0 then s.pos else s.whr
def bI (so:Bool) (e:Int) (s:RS):RS:=if so=true then s else bV e s
def goR (s:RS):RS:=if s.bad=0 then bW s else s
theorem jW {s:RS} (h:s.bad=0):atR s=s.pos:=if_pos h
theorem pY {s:RS} (h:¬ s.bad=0):atR s=s.whr:=if_neg h
theorem oO {e:Int} {s:RS} (h:¬ s.bad=0):bV e s=s:=if_neg h
theorem LJ (e:Int) (he:¬ e=0) (s:RS):atR (bV e s)=atR s:=by
 unfold bV;by_cases h:s.bad=0
 · rw [if_pos h,jW h,pY he]
 · rw [if_neg h]
theorem Ck {s:RS} (h:s.bad=0):goR s=bW s:=if_pos h
theorem fR {s:RS} (h:¬ s.bad=0):goR s=s:=if_neg h
theorem jN (e:Int) (s:RS):bI true e s=s:=rfl
theorem gG (e:Int) (s:RS):bI false e s=bV e s:=rfl
theorem LB (L:List Tk) (x:List UInt8) (p:Nat):isS L x p=((bD L p).kind == 3 && (bD L p).text == x):=by
 unfold isS bD;cases L[p]? with
 | none=>rfl
 | some t=>rfl
theorem Hl (L:List Tk) (x:List UInt8) (p:Nat):eO L x p=((bD L p).kind == 1 && (bD L p).text == x):=by
 unfold eO bD;cases L[p]? with
 | none=>rfl
 | some t=>rfl
theorem Ko (L:List Tk) (x:List UInt8) (s:RS):goR (bI ((bD L (atR s)).kind == 3 && (bD L (atR s)).text == x) 2 s)=bG L x s:=by
 unfold bG;by_cases h:s.bad=0
 · rw [if_pos h,jW h, <- LB]
   cases hs:isS L x s.pos with
   | true=>rw [jN,Ck h,if_pos rfl]
   | false =>
     rw [gG,if_neg (by decide)];refine fR ?_;unfold bV;rw [if_pos h];show ¬ (2:Int)=0;decide
 · rw [if_neg h]
   have:bI ((bD L (atR s)).kind == 3 && (bD L (atR s)).text == x) 2 s=s:=by
    unfold bI;split
    · rfl
    · exact oO h
   rw [this,fR h]
def qG (L:List Tk) (s:RS):RS:=goR (bI (decide (1<=(bD L (atR s)).num) && decide ((bD L (atR s)).num<=16)) 1 (bI ((bD L (atR s)).kind == 2) 2 s))
theorem gH {so:Bool} {e:Int} {s:RS} (h:¬ s.bad=0):bI so e s=s:=by
 unfold bI;split
 · rfl
 · exact oO h
theorem cS {e:Int} (he:¬ e=0) {s:RS} (h:s.bad=0):¬ (bV e s).bad=0:=by unfold bV;rw [if_pos h];exact he
def mP (s t:RS):Prop:=atR s=atR t/\s.bad=t.bad
theorem mP.refl (s:RS):mP s s:=⟨rfl,rfl⟩
theorem Hw (L:List Tk) (s:RS):mP (qG L s) (oR L s).2/\((qG L s).bad=0->qG L s=(oR L s).2/\(oR L s).1=(bD L (atR s)).num):=by
 unfold qG oR;by_cases h:s.bad=0
 · rw [if_pos h,jW h]
   unfold bD;cases ht:L[s.pos]? with
   | none =>
     have e:bI ((none.getD (⟨0,[],0,0⟩:Tk)).kind == 2) 2 s=bV 2 s:=rfl;rw [e,gH (cS (by decide) h),fR (cS (by decide) h)];exact ⟨mP.refl _,fun h'=>absurd h' (cS (by decide) h)⟩
   | some t =>
     show mP (goR (bI (decide (1<=t.num) && decide (t.num<=16)) 1 (bI (t.kind == 2) 2 s))) _/\_;by_cases hk:t.kind=2
     · have e:(t.kind == 2)=true:=by rw [hk];rfl
       simp only [Option.getD_some];rw [e,jN];try simp only
       rw [if_pos hk];by_cases hn:t.num<1\/16<t.num
       · have e2:(decide (1<=t.num) && decide (t.num<=16))=false:=by
          rcases hn with hn | hn
          · rw [decide_eq_false (by omega),Bool.false_and]
          · rw [decide_eq_false (p:=t.num<=16) (by omega),Bool.and_false]
         rw [e2,gG,fR (cS (by decide) h)];try simp only
         rw [if_pos hn];refine ⟨⟨?_,rfl⟩,fun h'=>absurd h' (cS (by decide) h)⟩;have hb:¬ (bW (bV 1 s)).bad=0:=cS (by decide) h;rw [pY (cS (by decide) h),pY hb];rfl
       · have e2:(decide (1<=t.num) && decide (t.num<=16))=true:=by rw [decide_eq_true (by omega),decide_eq_true (by omega)];rfl
         rw [e2,jN,Ck h];try simp only
         rw [if_neg hn];exact ⟨mP.refl _,fun _=>by first | exact ⟨rfl,rfl⟩ | exact ⟨trivial,rfl⟩ | exact ⟨rfl,trivial⟩⟩
     · have e:(t.kind == 2)=false:=beq_eq_false_iff_ne.2 hk
       simp only [Option.getD_some];rw [e,gG,gH (cS (by decide) h),fR (cS (by decide) h)];try simp only
       rw [if_neg hk];exact ⟨mP.refl _,fun h'=>absurd h' (cS (by decide) h)⟩
 · rw [if_neg h,gH h,gH h,fR h]
   exact ⟨mP.refl _,fun h'=>absurd h' h⟩
theorem xT {L:List Tk} {x:List UInt8} {s:RS} (h:¬ s.bad=0):¬ (bG L x s).bad=0:=by rw [iI h];exact h
theorem GU {L:List Tk} {s:RS} (h:¬ s.bad=0):¬ (bB L s).2.bad=0:=by rw [gK h];exact h
theorem yN {L:List Tk} {x:List UInt8} {s t:RS} (h:mP s t) (he:s.bad=0->s=t):mP (bG L x s) (bG L x t)/\((bG L x s).bad=0->bG L x s=bG L x t):=by
 by_cases hb:s.bad=0
 · rw [he hb];exact ⟨mP.refl _,fun _=>rfl⟩
 · have hc:¬ t.bad=0:=by rw [<- h.2];exact hb
   rw [iI hb,iI hc];exact ⟨h,fun h'=>absurd h' hb⟩
theorem FW {L:List Tk} {s t:RS} (h:mP s t) (he:s.bad=0->s=t):mP (bB L s).2 (bB L t).2/\((bB L s).2.bad=0->bB L s=bB L t):=by
 by_cases hb:s.bad=0
 · rw [he hb];exact ⟨mP.refl _,fun _=>rfl⟩
 · have hc:¬ t.bad=0:=by rw [<- h.2];exact hb
   rw [gK hb,gK hc];exact ⟨h,fun h'=>absurd h' hb⟩
def oW (L:List Tk) (fn:List UInt8) (s:RS):RS:=if kP fn=true then bG L [44] (qG L s) else s
def pZ (L:List Tk) (fn:List UInt8) (s:RS):TN×RS:=if eP fn=true then bB L s else (aI,s)
def sW (L:List Tk) (fn:List UInt8) (s:RS):TN×RS:=if bP fn=true then bB L (bG L [44] s) else (aI,s)
def iZ (L:List Tk) (fn:List UInt8) (s:RS):RS:=(sW L fn (pZ L fn (oW L fn s)).2).2
theorem zL (L:List Tk) (fn:List UInt8) {s:RS} (h:¬ s.bad=0):iZ L fn s=s:=by
 have h1:qG L s=s:=by unfold qG;rw [gH h,gH h,fR h]
 have e1:oW L fn s=s:=by
  unfold oW;split
  · rw [h1,iI h]
  · rfl
 have e2:(pZ L fn s).2=s:=by
  unfold pZ;split
  · rw [gK h]
  · rfl
 have e3:(sW L fn s).2=s:=by
  unfold sW;split
  · rw [iI h,gK h]
  · rfl
 unfold iZ;rw [e1,e2,e3]
theorem Hg (L:List Tk) (fn:List UInt8) (hf:fB fn=true) (s:RS):mP (iZ L fn s) (dQ L fn s).2/\((iZ L fn s).bad=0->iZ L fn s=(dQ L fn s).2 /\
 (dQ L fn s).1=((if kP fn=true then (bD L (atR s)).num else 0),(pZ L fn (oW L fn s)).1,(sW L fn (pZ L fn (oW L fn s)).2).1)):=by
 by_cases hc:fn=aT
 · subst hc
   have e1:dQ L aT s=((0,aI,aI),s):=if_pos rfl;rw [e1];exact ⟨mP.refl _,fun _=>by first | exact ⟨rfl,rfl⟩ | exact ⟨trivial,rfl⟩ | exact ⟨rfl,trivial⟩⟩
 have he:eP fn=true:=by unfold eP;rw [hf,beq_eq_false_iff_ne.2 hc];rfl
 have A1:dQ L fn s=(let p:=if fn=eQ then ((oR L s).1,bG L [44] (oR L s).2) else (0,s);let e:=bB L p.2;if fn=bE then (let g:=bB L (bG L [44] e.2);((p.1,e.1,g.1),g.2)) else ((p.1,e.1,aI),e.2)):=if_neg hc;rw [A1];have hE:∀ u,pZ L fn u=bB L u:=fun u=>if_pos he
 by_cases ht:fn=eQ
 · have hb:¬ fn=bE:=by rw [ht];decide
   have k1:kP fn=true:=by unfold kP;rw [ht];decide
   have b1:¬ bP fn=true:=by unfold bP;rw [ht];decide
   have hB:∀ u,sW L fn u=(aI,u):=fun u=>if_neg b1
   have hK:oW L fn s=bG L [44] (qG L s):=if_pos k1;simp only [if_pos ht,if_neg hb,if_pos k1];unfold iZ;rw [hB,hE,hK];obtain ⟨l1,h1⟩:=Hw L s;obtain ⟨l2,h2⟩:=yN (L:=L) (x:=[44]) l1 (fun h=>(h1 h).1);obtain ⟨l3,h3⟩:=FW (L:=L) l2 h2;refine ⟨l3,fun h=>⟨by rw [h3 h],?_⟩⟩;have hw:(bG L [44] (qG L s)).bad=0:=Decidable.byContradiction fun hx=>GU hx h
   have ht0:(qG L s).bad=0:=Decidable.byContradiction fun hx=>xT hx hw
   rw [(h1 ht0).2,h3 h]
 · have k1:¬ kP fn=true:=by unfold kP;rw [beq_eq_false_iff_ne.2 ht];decide
   have hK:oW L fn s=s:=if_neg k1;simp only [if_neg ht,if_neg k1];unfold iZ;rw [hK,hE];by_cases hb:fn=bE
   · have b1:bP fn=true:=by unfold bP;rw [hb];decide
     have hB:∀ u,sW L fn u=bB L (bG L [44] u):=fun u=>if_pos b1
     rw [hB,if_pos hb];exact ⟨mP.refl _,fun _=>by first | exact ⟨rfl,rfl⟩ | exact ⟨trivial,rfl⟩ | exact ⟨rfl,trivial⟩⟩
   · have b1:¬ bP fn=true:=by unfold bP;rw [beq_eq_false_iff_ne.2 hb];decide
     have hB:∀ u,sW L fn u=(aI,u):=fun u=>if_neg b1
     rw [hB,if_neg hb];exact ⟨mP.refl _,fun _=>by first | exact ⟨rfl,rfl⟩ | exact ⟨trivial,rfl⟩ | exact ⟨rfl,trivial⟩⟩
inductive C8 | bad (p:Nat) (e:Int) | ok (l:List CD)
def dX (L:List Tk):Nat->List CD->RS->C8
 | 0,_,_=>.bad 0 0
 | f + 1, acc, s =>
   if ¬ s.bad=0 then .bad s.whr s.bad else
   if L.length<=s.pos then .ok acc else
   if eO L (if acc.length=0 then fP else mS) s.pos=false then .bad s.pos 2 else
   if 4<=acc.length then .bad s.pos 4 else
   dX L f (acc++[(dD L (bW s)).1]) (dD L (bW s)).2
def Ax (L:List Tk) (c:List CD×RS):C8:=if ¬ c.2.bad=0 then .bad c.2.whr c.2.bad else if c.2.pos<L.length then .bad c.2.pos 2 else .ok c.1
theorem Cu (L:List Tk):∀ (f:Nat) (acc:List CD) (s:RS),acc.length+f=5->acc.length<=4->s.bad=0->eO L (if acc.length=0 then fP else mS) s.pos=true->Ax L (gL L f acc s)=dX L (f+1) acc s
 | 0,acc,s,hl,h4,hb,hw=>by omega
 | f + 1, acc, s, hl, h44, hb, hw => by
   have hlt:=Ej hw;rw [dX,if_neg (not_not_intro hb),if_neg (show ¬ L.length<=s.pos by omega),hw,if_neg (by decide)];rw [gL];by_cases h4:acc.length=4
   · rw [if_pos h4,if_pos (show 4<=acc.length by omega)]
     unfold Ax;rw [if_pos (cS (by decide) hb)];unfold bV;rw [if_pos hb]
   · rw [if_neg h4,if_neg (show ¬ 4<=acc.length by omega)]
     try simp only
     obtain ⟨c,t,hc⟩:∃ c t,dD L (bW s)=(c,t):=⟨_,_,rfl⟩;rw [hc];try simp only
     by_cases hg:(t.bad == 0 && eO L mS t.pos)=true
     · rw [if_pos hg]
       rw [Bool.and_eq_true,beq_iff_eq] at hg;refine Cu L f _ _ (by rw [List.length_append,List.length_singleton];omega) (by rw [List.length_append,List.length_singleton];omega) hg.1 ?_;rw [if_neg (by rw [List.length_append,List.length_singleton];omega)];exact hg.2
     · rw [if_neg hg]
       cases f with
       | zero=>omega
       | succ f =>
         rw [dX];unfold Ax;try simp only
         by_cases ht:t.bad=0
         · rw [if_neg (not_not_intro ht),if_neg (not_not_intro ht)]
           have hw2:eO L mS t.pos=false:=by
            cases h:eO L mS t.pos with
            | false=>rfl
            | true=>exact absurd (by rw [h,Bool.and_true,beq_iff_eq];exact ht) hg
           by_cases hp:t.pos<L.length
           · rw [if_pos hp,if_neg (show ¬ L.length<=t.pos by omega),if_neg (c:=(acc++[c]).length=0) (by rw [List.length_append,List.length_singleton];omega),hw2,if_pos rfl]
           · rw [if_neg hp,if_pos (show L.length<=t.pos by omega)]
         · rw [if_pos ht,if_pos ht]
def gF (L:List Tk):RS:=goR (bI (fB (bD L 0).text) 5 (bI ((bD L 0).kind == 1) 2 ⟨0,0,0,0⟩))
def qZ (L:List Tk):RS:=bG L [40] (gF L)
def mY (L:List Tk):RS:=bG L [41] (iZ L (bD L 0).text (qZ L))
def yG (L:List Tk) (l:List CD):AG :=
 let fn:=(bD L 0).text
 let s:=qZ L
 ⟨⟨fn.toArray⟩,if kP fn=true then (bD L (atR s)).num else 0,(pZ L fn (oW L fn s)).1,(sW L fn (pZ L fn (oW L fn s)).2).1,l⟩
def agS (L:List Tk):xE:=match dX L 6 [] (mY L) with | .bad p e=>.bad p e | .ok l=>.ok (yG L l)
theorem eW {L:List Tk} {f:Nat} {acc:List CD} {s:RS} (h:¬ s.bad=0):dX L (f+1) acc s=.bad s.whr s.bad:=by rw [dX,if_pos h]
theorem AC {L:List Tk} (h:¬ (gF L).bad=0):agS L=.bad (gF L).whr (gF L).bad:=by
 have e1:qZ L=gF L:=iI h;have e2:mY L=gF L:=by unfold mY;rw [e1,zL L _ h,iI h]
 unfold agS;rw [e2,eW h]
theorem Nj (L:List Tk):agL L=agS L:=by
 unfold agL;cases h0:L[0]? with
 | none =>
   have e:gF L=bV 2 ⟨0,0,0,0⟩:=by
    unfold gF bD;rw [h0];rfl
   have hb:¬ (gF L).bad=0:=by rw [e];exact cS (by decide) rfl
   rw [AC hb,e];rfl
 | some t =>
   have ht:bD L 0=t:=by unfold bD;rw [h0];rfl
   simp only;by_cases hk:t.kind=1
   · have e1:(t.kind == 1)=true:=by rw [hk];rfl
     rw [if_neg (not_not_intro hk)];cases hf:fB t.text with
     | false =>
       have e:gF L=bV 5 ⟨0,0,0,0⟩:=by
        unfold gF;rw [ht,e1,hf];rfl
       have hb:¬ (gF L).bad=0:=by rw [e];exact cS (by decide) rfl
       rw [AC hb,e,if_pos rfl];rfl
     | true =>
       have e:gF L=⟨1,0,0,0⟩:=by
        unfold gF;rw [ht,e1,hf];rfl
       have eh:qZ L=bG L [40] ⟨1,0,0,0⟩:=by unfold qZ;rw [e]
       rw [if_neg (by decide)];obtain ⟨s1,h1⟩:∃ s,bG L [40] ⟨1,0,0,0⟩=s:=⟨_,rfl⟩;rw [h1] at eh |-
       by_cases hb:s1.bad=0
       · rw [if_neg (not_not_intro hb)]
         obtain ⟨l2,h2⟩:=Hg L t.text hf s1;obtain ⟨l3,h3⟩:=yN (L:=L) (x:=[41]) l2 (fun h=>(h2 h).1);have et:mY L=bG L [41] (iZ L t.text s1):=by unfold mY;rw [eh,ht]
         by_cases hb3:(bG L [41] (iZ L t.text s1)).bad=0
         · have ha:(iZ L t.text s1).bad=0:=Decidable.byContradiction fun hx=>xT hx hb3
           have es:=h3 hb3;have ev:=(h2 ha).2;obtain ⟨s3,hs3⟩:∃ s,bG L [41] (iZ L t.text s1)=s:=⟨_,rfl⟩;rw [hs3] at es et hb3;try simp only
           rw [<- es,if_neg (not_not_intro hb3)];unfold agS;rw [et,ev]
           have er:∀ l,yG L l=⟨⟨t.text.toArray⟩,if kP t.text=true then (bD L (atR s1)).num else 0,(pZ L t.text (oW L t.text s1)).1,(sW L t.text (pZ L t.text (oW L t.text s1)).2).1,l⟩:=fun l=>by
            unfold yG;rw [ht,eh]
           simp only [er];by_cases hl:L.length<=s3.pos
           · rw [if_pos hl,dX,if_neg (not_not_intro hb3),if_pos hl]
           · rw [if_neg hl]
             cases hw:eO L fP s3.pos with
             | false =>
               rw [if_pos rfl,dX,if_neg (not_not_intro hb3),if_neg hl,if_pos (show ([]:List CD).length=0 from rfl),hw,if_pos rfl]
             | true =>
               rw [if_neg (by decide), <- Cu L 5 [] s3 rfl (by decide) hb3 (by rw [if_pos (show ([]:List CD).length=0 from rfl)];exact hw)];unfold Ax;obtain ⟨c,hc⟩:∃ c,gL L 5 [] s3=c:=⟨_,rfl⟩;rw [hc];by_cases h5:c.2.bad=0
               · rw [if_neg (not_not_intro h5),if_neg (not_not_intro h5)]
                 by_cases h6:c.2.pos<L.length
                 · rw [if_pos h6,if_pos h6]
                 · rw [if_neg h6,if_neg h6]
               · rw [if_pos h5,if_pos h5]
         · have hb4:¬ (bG L [41] (dQ L t.text s1).2).bad=0:=by rw [<- l3.2];exact hb3
           try simp only
           rw [if_pos hb4];unfold agS;rw [et,eW hb3,l3.2];have:=l3.1;rw [pY hb3,pY hb4] at this;rw [this]
       · rw [if_pos hb]
         have et:mY L=s1:=by unfold mY;rw [eh,zL L _ hb,iI hb]
         unfold agS;rw [et,eW hb]
   · have e1:(t.kind == 1)=false:=beq_eq_false_iff_ne.2 hk
     have e:gF L=bV 2 ⟨0,0,0,0⟩:=by
      unfold gF;rw [ht,e1,gG,gH (cS (by decide) rfl),fR (cS (by decide) rfl)]
     have hb:¬ (gF L).bad=0:=by rw [e];exact cS (by decide) rfl
     rw [if_pos hk,AC hb,e];rfl
abbrev ptV (x:List UInt8):Value:=.agg #[.bool (kP x),.bool (eP x),.bool (bP x)]
abbrev ptO (k e b:Bool):Obj:=.cells #[.bool k,.bool e,.bool b] 212
theorem dB {W:World} {B:Nat} {x0 x1 x2:Value} {t:TypeId} (h:W.heap[B]? = some (.cells #[x0,x1,x2] t (0,0))) :
 (W.cell? ⟨B,0,none⟩=some x0/\W.cell? ⟨B,1,none⟩=some x1/\W.cell? ⟨B,2,none⟩=some x2)/\W.frozen? ⟨B,0,none⟩=false/\W.frozen? ⟨B,1,none⟩=false/\W.frozen? ⟨B,2,none⟩=false:=by
 refine ⟨⟨?_,?_,?_⟩,?_,?_,?_⟩ <;> simp [World.cell?,World.frozen?,h]
theorem gU {W:World} {B:Nat} {x0 x1 x2:Value} {t:TypeId} (h:W.heap[B]? = some (.cells #[x0,x1,x2] t (0,0))) (v0 v1 v2:Value) :
 (((W.setCell ⟨B,0,none⟩ v0).setCell ⟨B,1,none⟩ v1).setCell ⟨B,2,none⟩ v2).heap[B]? = some (.cells #[v0,v1,v2] t (0,0)):=by
 have h0:=heap_setCell_same W B 0 _ t v0 h;have g0:(W.setCell ⟨B,0,none⟩ v0).heap[B]? = some (.cells #[v0,x1,x2] t (0,0)):=by simpa using h0
 have h1:=heap_setCell_same _ B 1 _ t v1 g0;have g1:((W.setCell ⟨B,0,none⟩ v0).setCell ⟨B,1,none⟩ v1).heap[B]? = some (.cells #[v0,v1,x2] t (0,0)):=by simpa using h1
 have h2:=heap_setCell_same _ B 2 _ t v2 g1;simpa using h2
theorem iA (W:World) (B:Nat) (v0 v1 v2:Value):aC (· = B) W (((W.setCell ⟨B,0,none⟩ v0).setCell ⟨B,1,none⟩ v1).setCell ⟨B,2,none⟩ v2) :=
 (((aC.refl (· = B) W).setCell (p:=⟨B,0,none⟩) (.inl rfl) v0).setCell (p:=⟨B,1,none⟩) (.inl rfl) v1).setCell (p:=⟨B,2,none⟩) (.inl rfl) v2
theorem kT (o:ByteArray) (w:World):Calls Tryz.prog 130 #[.string o] w fun e w'=>e=.returned (.tuple #[ptV o.data.toList,.bool (fB o.data.toList)])/\Below w.heap.size w w':=by
 unfold ptV;have B1:=bA0 w (ptO false false false);have N1:=heap_alloc_new w (ptO false false false);have hs0:(w.alloc (ptO false false false)).heap.size=w.heap.size+1:=World.size_alloc _ _;generalize hW:w.alloc (ptO false false false)=W at *;have HW:=aA hW;have HB:=aA B1;have HN:=aA N1;obtain ⟨⟨m0,m1,m2⟩,f0,f1,f2⟩:=dB N1;clear hW B1 N1;cases h0:(o.data.toList == aT) with
 | true =>
   have g0:=cO h0;unfold aT at g0;have hE:o.data.toList=aT:=by simpa using h0
   rw [show kP o.data.toList=false by rw [hE];decide,show eP o.data.toList=false by rw [hE];decide,show bP o.data.toList=false by rw [hE];decide,show fB o.data.toList=true by rw [hE];decide];clear hE;clear h0;go_enter Tryz.func130,Tryz.ntmps130
   go_upto_region 1 with fail
   rw [HW.out];go_wp2_with fail
   obtain ⟨⟨d0,d1,d2⟩, -⟩:=dB (gU HN.out (.bool false) (.bool false) (.bool false));exact bodyPost_ret (v:=.tuple #[.agg #[.bool false,.bool false,.bool false],.bool true]) (by simp [results,Tryz.results130,go_sem,d0,d1,d2]) rfl ⟨rfl,HB.out.trans ((iA W w.heap.size _ _ _).below (fun i hi=>by omega) (by omega))⟩
 | false =>
   cases h1:(o.data.toList == pG) with
   | true =>
     have g0:=aF h0;unfold aT at g0;have g1:=cO h1;unfold pG at g1;have hE:o.data.toList=pG:=by simpa using h1
     rw [show kP o.data.toList=false by rw [hE];decide,show eP o.data.toList=true by rw [hE];decide,show bP o.data.toList=false by rw [hE];decide,show fB o.data.toList=true by rw [hE];decide];clear hE;clear h0 h1;go_enter Tryz.func130,Tryz.ntmps130
     go_upto_region 1 with fail
     rw [HW.out];go_wp2_with fail
     obtain ⟨⟨d0,d1,d2⟩, -⟩:=dB (gU HN.out (.bool false) (.bool true) (.bool false));exact bodyPost_ret (v:=.tuple #[.agg #[.bool false,.bool true,.bool false],.bool true]) (by simp [results,Tryz.results130,go_sem,d0,d1,d2]) rfl ⟨rfl,HB.out.trans ((iA W w.heap.size _ _ _).below (fun i hi=>by omega) (by omega))⟩
   | false =>
     cases h2:(o.data.toList == rN) with
     | true =>
       have g0:=aF h0;unfold aT at g0;have g1:=aF h1;unfold pG at g1;have g2:=cO h2;unfold rN at g2;have hE:o.data.toList=rN:=by simpa using h2
       rw [show kP o.data.toList=false by rw [hE];decide,show eP o.data.toList=true by rw [hE];decide,show bP o.data.toList=false by rw [hE];decide,show fB o.data.toList=true by rw [hE];decide];clear hE;clear h0 h1 h2;go_enter Tryz.func130,Tryz.ntmps130
       go_upto_region 1 with fail
       rw [HW.out];go_wp2_with fail
       obtain ⟨⟨d0,d1,d2⟩, -⟩:=dB (gU HN.out (.bool false) (.bool true) (.bool false));exact bodyPost_ret (v:=.tuple #[.agg #[.bool false,.bool true,.bool false],.bool true]) (by simp [results,Tryz.results130,go_sem,d0,d1,d2]) rfl ⟨rfl,HB.out.trans ((iA W w.heap.size _ _ _).below (fun i hi=>by omega) (by omega))⟩
     | false =>
       cases h3:(o.data.toList == qE) with
       | true =>
         have g0:=aF h0;unfold aT at g0;have g1:=aF h1;unfold pG at g1;have g2:=aF h2;unfold rN at g2;have g3:=cO h3;unfold qE at g3;have hE:o.data.toList=qE:=by simpa using h3
         rw [show kP o.data.toList=false by rw [hE];decide,show eP o.data.toList=true by rw [hE];decide,show bP o.data.toList=false by rw [hE];decide,show fB o.data.toList=true by rw [hE];decide];clear hE;clear h0 h1 h2 h3;go_enter Tryz.func130,Tryz.ntmps130
         go_upto_region 1 with fail
         rw [HW.out];go_wp2_with fail
         obtain ⟨⟨d0,d1,d2⟩, -⟩:=dB (gU HN.out (.bool false) (.bool true) (.bool false));exact bodyPost_ret (v:=.tuple #[.agg #[.bool false,.bool true,.bool false],.bool true]) (by simp [results,Tryz.results130,go_sem,d0,d1,d2]) rfl ⟨rfl,HB.out.trans ((iA W w.heap.size _ _ _).below (fun i hi=>by omega) (by omega))⟩
       | false =>
         cases h4:(o.data.toList == bE) with
         | true =>
           have g0:=aF h0;unfold aT at g0;have g1:=aF h1;unfold pG at g1;have g2:=aF h2;unfold rN at g2;have g3:=aF h3;unfold qE at g3;have g4:=cO h4;unfold bE at g4;have hE:o.data.toList=bE:=by simpa using h4
           rw [show kP o.data.toList=false by rw [hE];decide,show eP o.data.toList=true by rw [hE];decide,show bP o.data.toList=true by rw [hE];decide,show fB o.data.toList=true by rw [hE];decide];clear hE;clear h0 h1 h2 h3 h4;go_enter Tryz.func130,Tryz.ntmps130
           go_upto_region 1 with fail
           rw [HW.out];go_wp2_with fail
           obtain ⟨⟨d0,d1,d2⟩, -⟩:=dB (gU HN.out (.bool false) (.bool true) (.bool true));exact bodyPost_ret (v:=.tuple #[.agg #[.bool false,.bool true,.bool true],.bool true]) (by simp [results,Tryz.results130,go_sem,d0,d1,d2]) rfl ⟨rfl,HB.out.trans ((iA W w.heap.size _ _ _).below (fun i hi=>by omega) (by omega))⟩
         | false =>
           cases h5:(o.data.toList == eQ) with
           | true =>
             have g0:=aF h0;unfold aT at g0;have g1:=aF h1;unfold pG at g1;have g2:=aF h2;unfold rN at g2;have g3:=aF h3;unfold qE at g3;have g4:=aF h4;unfold bE at g4;have g5:=cO h5;unfold eQ at g5;have hE:o.data.toList=eQ:=by simpa using h5
             rw [show kP o.data.toList=true by rw [hE];decide,show eP o.data.toList=true by rw [hE];decide,show bP o.data.toList=false by rw [hE];decide,show fB o.data.toList=true by rw [hE];decide];clear hE;clear h0 h1 h2 h3 h4 h5;go_enter Tryz.func130,Tryz.ntmps130
             go_upto_region 1 with fail
             rw [HW.out];go_wp2_with fail
             obtain ⟨⟨d0,d1,d2⟩, -⟩:=dB (gU HN.out (.bool true) (.bool true) (.bool false));exact bodyPost_ret (v:=.tuple #[.agg #[.bool true,.bool true,.bool false],.bool true]) (by simp [results,Tryz.results130,go_sem,d0,d1,d2]) rfl ⟨rfl,HB.out.trans ((iA W w.heap.size _ _ _).below (fun i hi=>by omega) (by omega))⟩
           | false =>
             have g0:=aF h0;unfold aT at g0;have g1:=aF h1;unfold pG at g1;have g2:=aF h2;unfold rN at g2;have g3:=aF h3;unfold qE at g3;have g4:=aF h4;unfold bE at g4;have g5:=aF h5;unfold eQ at g5;have hF:fB o.data.toList=false:=by unfold fB;rw [h0,h1,h2,h3,h4,h5];rfl
             rw [show kP o.data.toList=false from h5,show eP o.data.toList=false by unfold eP;rw [hF];rfl,show bP o.data.toList=false from h4,hF];clear hF;clear h0 h1 h2 h3 h4 h5;go_enter Tryz.func130,Tryz.ntmps130
             go_upto_region 1 with fail
             rw [HW.out];go_wp2_with fail
             obtain ⟨⟨d0,d1,d2⟩, -⟩:=dB (gU HN.out (.bool false) (.bool false) (.bool false));exact bodyPost_ret (v:=.tuple #[.agg #[.bool false,.bool false,.bool false],.bool false]) (by simp [results,Tryz.results130,go_sem,d0,d1,d2]) rfl ⟨rfl,HB.out.trans ((iA W w.heap.size _ _ _).below (fun i hi=>by omega) (by omega))⟩
theorem BR (k:Int) (w:World):Calls Tryz.prog 187 #[.int .i64 k] w fun e w'=>e=.returned (.bool (decide (1<=k) && decide (k<=16)))/\w=w':=by
 by_cases h:1<=k
 · rw [decide_eq_true h,Bool.true_and]
   go_enter Tryz.func187,Tryz.ntmps187
   go_wp2_with fail
   go_ret;exact ⟨rfl,rfl⟩
 · rw [decide_eq_false h,Bool.false_and]
   have h2:decide (1<=k)=false:=decide_eq_false h;go_enter Tryz.func187,Tryz.ntmps187
   go_wp2_with fail
   go_ret;exact ⟨rfl,rfl⟩
theorem yK (o:ByteArray) (w:World):Calls Tryz.prog 189 #[.string o] w fun e w'=>e=.returned (.bool (bH o 0 0).isSome)/\w=w':=by
 have C:=aA (uW o 0 0 w);obtain ⟨z,hz⟩:∃ z,(bH o 0 0).isSome=z:=⟨_,rfl⟩;obtain ⟨y,hy⟩:∃ y,(bH o 0 0).getD false=y:=⟨_,rfl⟩;rw [hz,hy] at C;rw [hz];clear hz hy;go_enter Tryz.func189,Tryz.ntmps189
 go_wp2_with fail
 refine C.out.mono ?_;rintro e w1 ⟨rfl,rfl⟩;clear C;go_wp2_with fail
 go_ret;exact ⟨rfl,rfl⟩
def At (d:CD):Int:=if (bH d.op 0 0).isSome=false then 5 else if aK d.a=0 then aK d.b else aK d.a
theorem Jw (d:CD) (r:List CD):fC (d::r)=if At d=0 then fC r else At d:=by
 rw [fC];unfold At;by_cases hz:(bH d.op 0 0).isSome=false
 · rw [if_pos hz,if_pos hz,if_neg (show ¬ (5:Int)=0 by decide)]
 · rw [if_neg hz,if_neg hz]
   by_cases h:aK d.a=0
   · rw [if_pos h,if_pos h]
   · rw [if_neg h,if_neg h,if_neg h]
abbrev cdX (d:CD) (a1:Option Addr) (c1:Nat) (a2:Option Addr) (c2:Nat):Obj:=.cells #[.string d.op,.string d.a.op,.string d.a.nm,.int .i64 d.a.n,.slice a1 d.a.ks.len c1,.string d.b.op,.string d.b.nm,.int .i64 d.b.n,.slice a2 d.b.ks.len c2] 144
theorem xO (d:CD) (G:Nat->Prop) (w:World) (a1:Option Addr) (c1:Nat) (a2:Option Addr) (c2:Nat) (h1:SzF d.a.f) (h2:SzF d.b.f) (r1:aQ G w a1 d.a.ks) (r2:aQ G w a2 d.b.ks) :
 Calls Tryz.prog 138 #[cdV d a1 c1 a2 c2] w fun e w'=>e=.returned (.int .i64 (At d))/\Below w.heap.size w w':=by
 have B0:=bA0 w (cdX d a1 c1 a2 c2);have N0:=heap_alloc_new w (cdX d a1 c1 a2 c2);have hs0:(w.alloc (cdX d a1 c1 a2 c2)).heap.size=w.heap.size+1:=World.size_alloc _ _;have R1:=aA (r1.kept B0);have R2:=aA (r2.kept B0);generalize hW:w.alloc (cdX d a1 c1 a2 c2)=W at *;have HW:=aA hW;have HB:=aA B0;have HN:=aA N0;have CO:=aA (yK d.op W);have CA:=aA (gW d.a G W a1 c1 h1 R1.out);have CB:=aA (fun V (hV:Below W.heap.size W V)=>gW d.b G V a2 c2 h2 (R2.out.kept hV));obtain ⟨z,hz⟩:∃ z,(bH d.op 0 0).isSome=z:=⟨_,rfl⟩;obtain ⟨e1,he1⟩:∃ e,aK d.a=e:=⟨_,rfl⟩;obtain ⟨e2,he2⟩:∃ e,aK d.b=e:=⟨_,rfl⟩;obtain ⟨r,hr⟩:∃ r,At d=r:=⟨_,rfl⟩;rw [hr];unfold At at hr;rw [hz,he1,he2] at hr;have HR:=aA hr;rw [hz] at CO;rw [he1] at CA;rw [he2] at CB;obtain ⟨p0,p1,p2,p3,p4,p5,p6,p7,p8⟩:=r9 N0;clear hW B0 N0 h1 h2 r1 r2 hz he1 he2 hr;go_enter Tryz.func138,Tryz.ntmps138
 go_upto_region 1 with fail
 rw [show w.alloc (.cells #[.string d.op,.string d.a.op,.string d.a.nm,.int .i64 d.a.n,.slice a1 d.a.ks.len c1,.string d.b.op,.string d.b.nm,.int .i64 d.b.n,.slice a2 d.b.ks.len c2] 144)=W from HW.out];go_wp2_with fail
 refine CO.out.mono ?_;rintro e w1 ⟨rfl,rfl⟩;cases z with
 | false =>
   have TR:=aA (show (5:Int)=r from HR.out);go_wp2_with fail
   go_ret;exact ⟨congrArg (fun z=>Ending.returned (.int .i64 z)) TR.out,HB.out⟩
 | true =>
   have TR:=aA (show (if e1=0 then e2 else e1)=r from HR.out);go_wp2_with fail
   refine CA.out.mono ?_;rintro e w2 ⟨rfl,hb⟩;have HB2:=aA (HB.out.trans (hb.mono HB.out.size));have N2:=(hb.block w.heap.size (by omega)).trans HN.out;have C2:=aA (CB.out w2 hb);clear hb CA CO CB p0 p1 p2 p3 p4 p5 p6 p7 p8;obtain ⟨p0,p1,p2,p3,p4,p5,p6,p7,p8⟩:=r9 N2;clear N2;by_cases he:e1=0
   · have TS:=aA (show e2=r by rw [<- TR.out,if_pos he])
     subst he;go_wp2_with fail
     refine C2.out.mono ?_;rintro e w3 ⟨rfl,hb⟩;have HB3:=aA (HB2.out.trans (hb.mono HB2.out.size));clear hb;go_wp2_with fail
     go_ret;exact ⟨congrArg (fun z=>Ending.returned (.int .i64 z)) TS.out,HB3.out⟩
   · have TS:=aA (show e1=r by rw [<- TR.out,if_neg he])
     have q1:((e1:Int) != 0)=true:=by simpa using he
     go_wp2_with fail
     go_ret;exact ⟨congrArg (fun z=>Ending.returned (.int .i64 z)) TS.out,HB2.out⟩
def Cn (x:AG):Int :=
 if kP x.fn.data.toList=true/\¬ (1<=x.k/\x.k<=16) then 1 else
 if eP x.fn.data.toList=true/\¬ aK x.e=0 then aK x.e else
 if bP x.fn.data.toList=true then aK x.g else 0
theorem LO (x:AG):fJ x=if fB x.fn.data.toList=false then 5 else if Cn x=0 then (if 4<x.wh.length then 4 else fC x.wh) else Cn x:=by
 unfold fJ;by_cases hf:fB x.fn.data.toList=false
 · rw [if_pos hf,if_pos hf]
 rw [if_neg hf,if_neg hf];have hf':fB x.fn.data.toList=true:=by simpa using hf
 unfold Cn Cm;obtain ⟨F,hF⟩:∃ F,x.fn.data.toList=F:=⟨_,rfl⟩;rw [hF] at hf' |-
 have eK:kP F=true ↔ F=eQ:=by unfold kP;exact beq_iff_eq
 have eB:bP F=true ↔ F=bE:=by unfold bP;exact beq_iff_eq
 have eE:eP F=true ↔ ¬ F=aT:=by
  unfold eP;rw [hf',Bool.true_and];simp
 have d1:¬ eQ=aT:=by decide
 have d2:¬ eQ=bE:=by decide
 have d3:¬ bE=aT:=by decide
 have d4:¬ aT=bE:=by decide
 by_cases ht:F=eQ
 · have k1:=eK.2 ht
   have e1:eP F=true:=eE.2 (by rw [ht];exact d1);have b1:¬ bP F=true:=fun h=>d2 (ht.symm.trans (eB.1 h))
   by_cases hk:x.k<1\/16<x.k
   · rw [if_pos ⟨ht,hk⟩,if_pos (show kP F=true/\¬ (1<=x.k/\x.k<=16) from ⟨k1,by omega⟩),if_neg (show ¬ (1:Int)=0 by decide)]
   · rw [if_neg (fun h=>hk h.2),if_neg (show ¬ (kP F=true/\¬ (1<=x.k/\x.k<=16)) from fun h=>h.2 (by omega)),if_neg (show ¬ F=aT by rw [ht];exact d1),if_neg (show ¬ F=bE by rw [ht];exact d2),if_neg b1]
     by_cases he:aK x.e=0
     · rw [if_pos he,if_neg (show ¬ (eP F=true/\¬ aK x.e=0) from fun h=>h.2 he)]
     · rw [if_neg he,if_pos (show eP F=true/\¬ aK x.e=0 from ⟨e1,he⟩)]
 · rw [if_neg (fun h=>ht h.1),if_neg (show ¬ (kP F=true/\¬ (1<=x.k/\x.k<=16)) from fun h=>ht (eK.1 h.1))]
   by_cases hc:F=aT
   · have e1:¬ eP F=true:=fun h=>eE.1 h hc
     have b1:¬ bP F=true:=fun h=>d4 (hc.symm.trans (eB.1 h))
     rw [if_pos hc,if_neg (show ¬ (eP F=true/\¬ aK x.e=0) from fun h=>e1 h.1),if_neg b1]
   · have e1:eP F=true:=eE.2 hc
     rw [if_neg hc];by_cases he:aK x.e=0
     · rw [if_pos he,if_neg (show ¬ (eP F=true/\¬ aK x.e=0) from fun h=>h.2 he)]
       by_cases hb:F=bE
       · rw [if_pos hb,if_pos (eB.2 hb)]
       · rw [if_neg hb,if_neg (show ¬ bP F=true from fun h=>hb (eB.1 h))]
     · rw [if_neg he,if_pos (show eP F=true/\¬ aK x.e=0 from ⟨e1,he⟩)]
def tO:Bool->Int->Int
 | true,e2=>e2
 | false,_=>0
def wI:Bool->Bool->Int->Int->Int
 | true,bb,e1,e2=>if e1=0 then tO bb e2 else e1
 | false,bb,_,e2=>tO bb e2
def Oe:Bool->Bool->Bool->Bool->Int->Int->Int
 | true,false,_,_,_,_=>1
 | true,true,ee,bb,e1,e2=>wI ee bb e1 e2
 | false,_,ee,bb,e1,e2=>wI ee bb e1 e2
theorem wG (bb:Bool) {e1 e2:Int} (h:e1=0):wI true bb e1 e2=tO bb e2:=if_pos h
theorem wH (bb:Bool) {e1 e2:Int} (h:¬ e1=0):wI true bb e1 e2=e1:=if_neg h
theorem LP (x:AG):Cn x=Oe (kP x.fn.data.toList) (decide (1<=x.k) && decide (x.k<=16)) (eP x.fn.data.toList) (bP x.fn.data.toList) (aK x.e) (aK x.g):=by
 unfold Cn;have hz:(decide (1<=x.k) && decide (x.k<=16))=true ↔ 1<=x.k/\x.k<=16:=by rw [Bool.and_eq_true,decide_eq_true_eq,decide_eq_true_eq]
 obtain ⟨zk,hzk⟩:∃ z,(decide (1<=x.k) && decide (x.k<=16))=z:=⟨_,rfl⟩;rw [hzk] at hz |-
 have tail:(if eP x.fn.data.toList=true/\¬ aK x.e=0 then aK x.e else if bP x.fn.data.toList=true then aK x.g else 0)=wI (eP x.fn.data.toList) (bP x.fn.data.toList) (aK x.e) (aK x.g):=by
  have e3:(if bP x.fn.data.toList=true then aK x.g else 0)=tO (bP x.fn.data.toList) (aK x.g):=by cases bP x.fn.data.toList <;> rfl
  rw [e3];cases eP x.fn.data.toList with
  | false=>rw [if_neg (fun h=>by cases h.1)];rfl
  | true =>
    by_cases h:aK x.e=0
    · rw [if_neg (fun g=>g.2 h),wG _ h]
    · rw [if_pos ⟨rfl,h⟩,wH _ h]
 rw [tail];cases kP x.fn.data.toList with
 | false=>rw [if_neg (fun h=>by cases h.1)];cases zk <;> rfl
 | true =>
   cases zk with
   | false=>rw [if_pos ⟨rfl,fun h=>by have:=hz.2 h;cases this⟩];rfl
   | true=>rw [if_neg (fun h=>h.2 (hz.1 rfl))];rfl
theorem xP (x:AG) (p:PA) (G:Nat->Prop) (w:World) (h1:SzF x.e.f) (h2:SzF x.g.f) (r1:aQ G w p.ea x.e.ks) (r2:aQ G w p.ga x.g.ks) :
 Calls Tryz.prog 137 #[agV x p,ptV x.fn.data.toList] w fun e w'=>e=.returned (.int .i64 (Cn x))/\Below w.heap.size w w':=by
 unfold ptV;have B0:=bA0 w (agP x p);have N0:=heap_alloc_new w (agP x p);have hs0:(w.alloc (agP x p)).heap.size=w.heap.size+1:=World.size_alloc _ _;have R1:=r1.kept B0;have R2:=r2.kept B0;generalize hW0:w.alloc (agP x p)=W0 at *;obtain ⟨kk,hk⟩:∃ b,kP x.fn.data.toList=b:=⟨_,rfl⟩;obtain ⟨ee,he⟩:∃ b,eP x.fn.data.toList=b:=⟨_,rfl⟩;obtain ⟨bb,hb⟩:∃ b,bP x.fn.data.toList=b:=⟨_,rfl⟩;obtain ⟨r,hr⟩:∃ r,Cn x=r:=⟨_,rfl⟩;rw [hr];rw [LP,hk,he,hb] at hr;rw [hk,he,hb];have B1:=bA0 W0 (ptO kk ee bb);have N1:=heap_alloc_new W0 (ptO kk ee bb);have hs1:(W0.alloc (ptO kk ee bb)).heap.size=W0.heap.size+1:=World.size_alloc _ _;have NA:=(B1.block w.heap.size (by omega)).trans N0;have BB:=B0.trans (B1.mono (by omega));have R3:=aA (R1.kept B1);have R4:=aA (R2.kept B1);generalize hW:W0.alloc (ptO kk ee bb)=W at *;rw [hs0] at N1;have HW0:=aA hW0;have HW:=aA hW;have HB:=aA BB;have HA:=aA NA;have HN:=aA N1;have MK:=aA (BR x.k W);obtain ⟨zk,hzk⟩:∃ z,(decide (1<=x.k) && decide (x.k<=16))=z:=⟨_,rfl⟩;rw [hzk] at MK hr;have CA:=aA (gW x.e G W p.ea p.ec h1 R3.out);have CB:=aA (fun V (hV:Below W.heap.size W V)=>gW x.g G V p.ga p.gc h2 (R4.out.kept hV));have C0:=aA (gW x.g G W p.ga p.gc h2 R4.out);obtain ⟨e1,he1⟩:∃ e,aK x.e=e:=⟨_,rfl⟩;obtain ⟨e2,he2⟩:∃ e,aK x.g=e:=⟨_,rfl⟩;rw [he1,he2] at hr;rw [he1] at CA;rw [he2] at CB C0;have HR:=aA hr;have HZK:=aA hzk;obtain ⟨m0,m1,m2,m3,m4,m5,m6,m7,m8,m9,m10⟩:=aP NA;obtain ⟨⟨y0,y1,y2⟩, -⟩:=dB N1;clear hW0 hW B0 B1 N0 N1 NA BB R1 R2 h1 h2 r1 r2 he1 he2 hr hk he hb hzk hs0 hs1
 go_enter Tryz.func137,Tryz.ntmps137
 go_upto_region 1 with fail
 rw [show w.alloc (.cells #[.string x.fn,.int .i64 x.k,.string x.e.op,.string x.e.nm,.int .i64 x.e.n,.slice p.ea x.e.ks.len p.ec,.string x.g.op,.string x.g.nm,.int .i64 x.g.n,.slice p.ga x.g.ks.len p.gc,.slice p.wa x.wh.length p.wc] 70)=W0 from HW0.out,HW.out];cases kk with
 | true =>
   go_wp2_with fail
   refine MK.out.mono ?_;rintro e v ⟨rfl,rfl⟩;cases zk with
   | false =>
     have TS:=aA (show (1:Int)=r from HR.out);go_wp2_with fail
     go_ret;exact ⟨congrArg (fun z=>Ending.returned (.int .i64 z)) TS.out,HB.out⟩
   | true =>
     have TR:=aA (show wI ee bb e1 e2=r from HR.out);cases ee with
     | true =>
       go_wp2_with fail
       refine CA.out.mono ?_;rintro e w2 ⟨rfl,hb2⟩;have HB2:=aA (HB.out.trans (hb2.mono HB.out.size));have N2:=(hb2.block _ (aB HN.out)).trans HN.out;have A2:=(hb2.block _ (aB HA.out)).trans HA.out;have C2:=aA (CB.out w2 hb2);clear hb2 CA CB C0 MK m0 m1 m2 m3 m4 m5 m6 m7 m8 m9 m10 y0 y1 y2;obtain ⟨m0,m1,m2,m3,m4,m5,m6,m7,m8,m9,m10⟩:=aP A2;obtain ⟨⟨y0,y1,y2⟩, -⟩:=dB N2;clear N2 A2;by_cases hz1:e1=0
       · have TS:=aA (show tO bb e2=r by rw [<- TR.out,wG _ hz1])
         subst hz1;cases bb with
         | true =>
           have TU:=aA (show e2=r from TS.out);go_wp2_with fail
           refine C2.out.mono ?_;rintro e w3 ⟨rfl,hb3⟩;have HB3:=aA (HB2.out.trans (hb3.mono HB2.out.size));clear hb3;go_wp2_with fail
           go_ret;exact ⟨congrArg (fun z=>Ending.returned (.int .i64 z)) TU.out,HB3.out⟩
         | false =>
           have TU:=aA (show (0:Int)=r from TS.out);go_wp2_with fail
           go_ret;exact ⟨congrArg (fun z=>Ending.returned (.int .i64 z)) TU.out,HB2.out⟩
       · have TS:=aA (show e1=r by rw [<- TR.out,wH _ hz1])
         have q1:((e1:Int) != 0)=true:=by simpa using hz1
         go_wp2_with fail
         go_ret;exact ⟨congrArg (fun z=>Ending.returned (.int .i64 z)) TS.out,HB2.out⟩
     | false =>
       have TS:=aA (show tO bb e2=r from TR.out);cases bb with
       | true =>
         have TU:=aA (show e2=r from TS.out);go_wp2_with fail
         refine C0.out.mono ?_;rintro e w3 ⟨rfl,hb3⟩;have HB3:=aA (HB.out.trans (hb3.mono HB.out.size));clear hb3;go_wp2_with fail
         go_ret;exact ⟨congrArg (fun z=>Ending.returned (.int .i64 z)) TU.out,HB3.out⟩
       | false =>
         have TU:=aA (show (0:Int)=r from TS.out);go_wp2_with fail
         go_ret;exact ⟨congrArg (fun z=>Ending.returned (.int .i64 z)) TU.out,HB.out⟩
 | false =>
   have TR:=aA (show wI ee bb e1 e2=r from HR.out);cases ee with
   | true =>
     go_wp2_with fail
     refine CA.out.mono ?_;rintro e w2 ⟨rfl,hb2⟩;have HB2:=aA (HB.out.trans (hb2.mono HB.out.size));have N2:=(hb2.block _ (aB HN.out)).trans HN.out;have A2:=(hb2.block _ (aB HA.out)).trans HA.out;have C2:=aA (CB.out w2 hb2);clear hb2 CA CB C0 MK m0 m1 m2 m3 m4 m5 m6 m7 m8 m9 m10 y0 y1 y2;obtain ⟨m0,m1,m2,m3,m4,m5,m6,m7,m8,m9,m10⟩:=aP A2;obtain ⟨⟨y0,y1,y2⟩, -⟩:=dB N2;clear N2 A2;by_cases hz1:e1=0
     · have TS:=aA (show tO bb e2=r by rw [<- TR.out,wG _ hz1])
       subst hz1;cases bb with
       | true =>
         have TU:=aA (show e2=r from TS.out);go_wp2_with fail
         refine C2.out.mono ?_;rintro e w3 ⟨rfl,hb3⟩;have HB3:=aA (HB2.out.trans (hb3.mono HB2.out.size));clear hb3;go_wp2_with fail
         go_ret;exact ⟨congrArg (fun z=>Ending.returned (.int .i64 z)) TU.out,HB3.out⟩
       | false =>
         have TU:=aA (show (0:Int)=r from TS.out);go_wp2_with fail
         go_ret;exact ⟨congrArg (fun z=>Ending.returned (.int .i64 z)) TU.out,HB2.out⟩
     · have TS:=aA (show e1=r by rw [<- TR.out,wH _ hz1])
       have q1:((e1:Int) != 0)=true:=by simpa using hz1
       go_wp2_with fail
       go_ret;exact ⟨congrArg (fun z=>Ending.returned (.int .i64 z)) TS.out,HB2.out⟩
   | false =>
     have TS:=aA (show tO bb e2=r from TR.out);cases bb with
     | true =>
       have TU:=aA (show e2=r from TS.out);go_wp2_with fail
       refine C0.out.mono ?_;rintro e w3 ⟨rfl,hb3⟩;have HB3:=aA (HB.out.trans (hb3.mono HB.out.size));clear hb3;go_wp2_with fail
       go_ret;exact ⟨congrArg (fun z=>Ending.returned (.int .i64 z)) TU.out,HB3.out⟩
     | false =>
       have TU:=aA (show (0:Int)=r from TS.out);go_wp2_with fail
       go_ret;exact ⟨congrArg (fun z=>Ending.returned (.int .i64 z)) TU.out,HB.out⟩
theorem eI {G:Nat->Prop} (x:AG) (p:PA) (w:World) (hS:SzG x) (hwl:x.wh.length<=9223372036854775807) (hr:aJ G w x p):Calls Tryz.prog 81 #[agV x p] w fun e w'=>e=.returned (.int .i64 (fJ x))/\Below w.heap.size w w':=by
 rw [LO];have K0:=qW hr;generalize hW:w.alloc (agP x p)=W at K0;have HW:=aA hW;have HK:=aA K0;have HS:=aA hS;have CP:=aA (kT x.fn W);obtain ⟨F,hF⟩:∃ F,x.fn.data.toList=F:=⟨_,rfl⟩;have HF:=aA hF;rw [hF] at CP |-
 obtain ⟨ff,hf⟩:∃ b,fB F=b:=⟨_,rfl⟩;rw [hf] at CP |-
 obtain ⟨ea,hea⟩:∃ e,Cn x=e:=⟨_,rfl⟩;rw [hea];have HEA:=aA hea;obtain ⟨r,hR⟩:∃ r,(if ff=false then (5:Int) else if ea=0 then (if 4<x.wh.length then 4 else fC x.wh) else ea)=r:=⟨_,rfl⟩;rw [hR];have HR:=aA hR;clear hW K0 hr hS hf hea hR hF;obtain ⟨m0,m1,m2,m3,m4,m5,m6,m7,m8,m9,m10⟩:=aP HK.out.n;go_enter Tryz.func81,Tryz.ntmps81
 go_upto_region 1 with fail
 rw [show w.alloc (.cells #[.string x.fn,.int .i64 x.k,.string x.e.op,.string x.e.nm,.int .i64 x.e.n,.slice p.ea x.e.ks.len p.ec,.string x.g.op,.string x.g.nm,.int .i64 x.g.n,.slice p.ga x.g.ks.len p.gc,.slice p.wa x.wh.length p.wc] 70)=W from HW.out];go_wp2_with fail
 refine CP.out.mono ?_;rintro e w1 ⟨rfl,hb1⟩;have K1:=HK.out.step hb1;have BA:=bA0 w1 (ptO (kP F) (eP F) (bP F));have NA:=heap_alloc_new w1 (ptO (kP F) (eP F) (bP F));have K2:=aA (K1.step BA);clear hb1 K1 BA CP HK m0 m1 m2 m3 m4 m5 m6 m7 m8 m9 m10;go_upto_region 2 with fail
 generalize w1.alloc (ptO (kP F) (eP F) (bP F))=V at *;generalize w1.heap.size=B at *;obtain ⟨m0,m1,m2,m3,m4,m5,m6,m7,m8,m9,m10⟩:=aP K2.out.n;obtain ⟨⟨y0,y1,y2⟩, -⟩:=dB NA;clear NA;cases ff with
 | false =>
   have TS:=aA (show (5:Int)=r from HR.out);go_wp2_with fail
   go_ret;exact ⟨congrArg (fun z=>Ending.returned (.int .i64 z)) TS.out,K2.out.b⟩
 | true =>
   have TR:=aA (show (if ea=0 then (if 4<x.wh.length then (4:Int) else fC x.wh) else ea)=r from HR.out)
   have CA:=aA (show Calls Tryz.prog 137 #[agV x p,.agg #[.bool (kP F),.bool (eP F),.bool (bP F)]] V fun e w'=>e=.returned (.int .i64 ea)/\Below V.heap.size V w' by
    have:=xP x p G V HS.out.e HS.out.g K2.out.r.e K2.out.r.g;rw [HEA.out,HF.out] at this;exact this)
   clear HR;go_wp2_with fail
   refine CA.out.mono ?_;rintro e w2 ⟨rfl,hb2⟩;have K3:=aA (K2.out.step hb2);clear hb2 CA K2 m0 m1 m2 m3 m4 m5 m6 m7 m8 m9 m10 y0 y1 y2;obtain ⟨m0,m1,m2,m3,m4,m5,m6,m7,m8,m9,m10⟩:=aP K3.out.n;by_cases hea:ea=0
   · have TB:=aA (show (if 4<x.wh.length then (4:Int) else fC x.wh)=r by rw [<- TR.out,if_pos hea])
     subst hea;by_cases h4:4<x.wh.length
     · have TS:=aA (show (4:Int)=r by rw [<- TB.out,if_pos h4])
       have a4:(4:Int)<(x.wh.length:Int):=by omega
       go_wp2_with fail
       go_ret;exact ⟨congrArg (fun z=>Ending.returned (.int .i64 z)) TS.out,K3.out.b⟩
     · have T0:=aA (show fC (x.wh.drop 0)=r by rw [List.drop_zero, <- TB.out,if_neg h4])
       have a4:¬ (4:Int)<(x.wh.length:Int):=by omega
       have a5:decide (4<x.wh.length)=false:=decide_eq_false h4;clear TB TR;go_wp2_with fail
       clear m0 m1 m2 m3 m4 m5 m6 m7 m8 m9 m10;go_loopw [7,8,30] (fun x7 x8 i wr=>∃ (k:Nat) (u v:Value),x7=u/\x8=v/\i=.int .i64 k/\k<=x.wh.length/\Hid (fC (x.wh.drop k)=r)/\Hid (KP9 G w x p wr)) (fun _ _ i _=>x.wh.length-(intOf i).toNat)
       case atStart=>exact ⟨0,_,_,rfl,rfl,rfl,Nat.zero_le _,T0,K3⟩
       case round =>
        obtain ⟨k,u,v,rfl,rfl,rfl,hk,HC,HK⟩:=hrel;clear T0 K3;obtain ⟨m0,m1,m2,m3,m4,m5,m6,m7,m8,m9,m10⟩:=aP HK.out.n;by_cases hlt:k<x.wh.length
        · obtain ⟨d,hd⟩:∃ d,x.wh[k]? = some d:=⟨_,List.getElem?_eq_getElem hlt⟩
          have hne:¬ x.wh=[]:=fun e=>by rw [e] at hlt;simp at hlt
          obtain ⟨b,off,hwa', -, -,hcc⟩:=HK.out.r.c.resolve_left hne;obtain ⟨a1,c1,a2,c2,⟨p0,p1,p2,p3,p4,p5,p6,p7,p8⟩,r1,r2⟩:=hcc k d hd
          have hdr:x.wh.drop k=d::x.wh.drop (k+1):=by
           rw [List.drop_eq_getElem_cons hlt];have:=List.getElem?_eq_getElem hlt;rw [this] at hd;rw [Option.some.inj hd]
          have hsz:=HS.out.c d (List.mem_of_getElem? hd);have HD:=aA (show (if At d=0 then fC (x.wh.drop (k+1)) else At d)=r by rw [<- HC.out,hdr,Jw]);have BD:=bA0 wr (cdX d a1 c1 a2 c2);have ND:=heap_alloc_new wr (cdX d a1 c1 a2 c2);have K4:=aA (HK.out.step BD);have CC:=aA (xO d G (wr.alloc (cdX d a1 c1 a2 c2)) a1 c1 a2 c2 hsz.1 hsz.2 (r1.kept BD) (r2.kept BD));obtain ⟨e1,he1⟩:∃ e,At d=e:=⟨_,rfl⟩;rw [he1] at CC HD;rw [hwa'] at m10 |-
          have b1:(k:Int)<(x.wh.length:Int):=by omega
          have b2:(0:Int)<=(k:Int):=by omega
          have b3:((k:Int)).toNat=k:=by omega
          clear hne hcc hdr hsz hd r1 r2 BD he1 hwa' HC HK;go_upto_region 12 with fail
          rw [show wr.alloc (.cells #[.string d.op,.string d.a.op,.string d.a.nm,.int .i64 d.a.n,.slice a1 d.a.ks.len c1,.string d.b.op,.string d.b.nm,.int .i64 d.b.n,.slice a2 d.b.ks.len c2] 144)=wr.alloc (cdX d a1 c1 a2 c2) from rfl];generalize wr.alloc (cdX d a1 c1 a2 c2)=V1 at *;clear p0 p1 p2 p3 p4 p5 p6 p7 p8;obtain ⟨p0,p1,p2,p3,p4,p5,p6,p7,p8⟩:=r9 ND;clear ND;go_wp2_with fail
          refine CC.out.mono ?_;rintro e w5 ⟨rfl,hb5⟩;have K5:=aA (K4.out.step hb5);clear hb5 CC K4 p0 p1 p2 p3 p4 p5 p6 p7 p8 m0 m1 m2 m3 m4 m5 m6 m7 m8 m9 m10;by_cases he:e1=0
          · have HC2:=aA (show fC (x.wh.drop (k+1))=r by rw [<- HD.out,if_pos he])
            subst he;go_wp2_with fail
            go_roundw
            case rel=>exact ⟨k+1,_,_,rfl,rfl,by simp,by omega,HC2,K5⟩
            case measure=>simp [intOf];omega
          · have TS:=aA (show e1=r by rw [<- HD.out,if_neg he])
            have q1:((e1:Int) != 0)=true:=by simpa using he
            go_wp2_with fail
            go_ret;exact ⟨congrArg (fun z=>Ending.returned (.int .i64 z)) TS.out,K5.out.b⟩
        · have TS:=aA (show (0:Int)=r by rw [<- HC.out,List.drop_of_length_le (by omega)];rfl)
          have b1:¬ (k:Int)<(x.wh.length:Int):=by omega
          have b2:decide (k<x.wh.length)=false:=decide_eq_false hlt;go_wp2_with fail
          go_ret;exact ⟨congrArg (fun z=>Ending.returned (.int .i64 z)) TS.out,HK.out.b⟩
   · have TS:=aA (show ea=r by rw [<- TR.out,if_neg hea])
     have q1:((ea:Int) != 0)=true:=by simpa using hea
     go_wp2_with fail
     go_ret;exact ⟨congrArg (fun z=>Ending.returned (.int .i64 z)) TS.out,K3.out.b⟩
def oY (x:AG) (k:Nat):List UInt8:=if k=0 then mX x.wh else gQ (x.wh.drop k)
theorem uQ (x:AG):oY x 0=mX x.wh:=if_pos rfl
theorem Bp {x:AG} {k:Nat} (h:¬ k=0):oY x k=gQ (x.wh.drop k):=if_neg h
theorem Fx {x:AG} {k:Nat}:oY x (k+1)=gQ (x.wh.drop (k+1)):=if_neg (by omega)
theorem Fw {x:AG} {d:CD} {r:List CD} {k:Nat} (h0:k=0) (h:x.wh.drop k=d::r):oY x k=[32,119,104,101,114,101,32]++(aO d.a++32::(d.op.data.toList++32::aO d.b))++gQ r:=by
 subst h0;rw [uQ];rw [List.drop_zero] at h;rw [h,mX]
theorem Ih {x:AG} {k:Nat} (h:x.wh.drop k=[]):oY x k=[]:=by
 by_cases h0:k=0
 · subst h0
   rw [uQ];rw [List.drop_zero] at h;rw [h,mX]
 · rw [Bp h0,h,gQ]
theorem fQ {t:TN} (h:aK t=0) (hn:cY t.f):(aO t).length<=700:=by
 obtain ⟨h1,h2⟩:=(cW t).1 h;have:=AZ t h1 hn;omega
theorem Ey {o:ByteArray} (h:(bH o 0 0).isSome=true):o.size<=2:=by
 have:o.size=o.data.toList.length:=by simp
 rw [this];rcases Ds h with h | h | h | h | h | h <;> rw [h] <;> simp
theorem wF:∀ l:List CD,fC l=0->∀ d∈l,(bH d.op 0 0).isSome=true/\aK d.a=0/\aK d.b=0
 | [],_,d,hd=>by cases hd
 | c :: r, h, d, hd => by
   obtain ⟨h1,h2,h3,h4⟩:=iC h;rcases List.mem_cons.1 hd with rfl | hd
   · exact ⟨h1,h2,h3⟩
   · exact wF r h4 d hd
theorem ER {x:AG} (h:fB x.fn.data.toList=true):x.fn.size<=5:=by
 have:x.fn.size=x.fn.data.toList.length:=by simp
 rw [this];unfold fB at h;simp only [Bool.or_eq_true,beq_iff_eq] at h;rcases h with ((((h | h) | h) | h) | h) | h <;> rw [h] <;> decide
theorem xX:∀ l:List CD,fC l=0->xA l->(gQ l).length<=1500*l.length
 | [],_,_=>by simp [gQ]
 | c :: l, h, hn => by
   obtain ⟨h1,h2,h3,h4⟩:=iC h;have ih:=xX l h4 (fun d hd=>hn d (by simp [hd]));have a1:=fQ h2 (hn c (by simp)).1;have a2:=fQ h3 (hn c (by simp)).2;have a3:=Ey h1;have a4:c.op.data.toList.length=c.op.size:=by simp
   rw [gQ];simp only [List.length_append,List.length_cons,List.length_nil];omega
theorem Fg {a:AG} (h:fJ a=0) (hn:fK a):(eG a).length<=8000:=by
 obtain ⟨h1,h2,h3,h4,h5,h6⟩:=cP h;have a1:=ER h1;have a2:a.fn.data.toList.length=a.fn.size:=by simp
 have a3:(mX a.wh).length<=1500*a.wh.length+10:=by
  cases hw:a.wh with
  | nil=>simp [mX]
  | cons c l =>
    rw [hw] at h6;have hc:xA (c::l):=by rw [<- hw];exact hn.c
    have:=xX (c::l) h6 hc;rw [gQ] at this;rw [mX];simp only [List.length_append,List.length_cons,List.length_nil] at this |-
    omega
 have a4:(mF a).length<=1500:=by
  unfold mF;by_cases c1:a.fn.data.toList=aT
  · rw [if_pos c1];simp
  · rw [if_neg c1]
    have e1:=fQ (h3 c1) hn.e;by_cases c2:a.fn.data.toList=eQ
    · rw [if_pos c2]
      have:=Cd (n:=a.k) (by have:=h2 c2;omega) (by have:=h2 c2;omega);simp only [List.length_append,List.length_cons];omega
    · rw [if_neg c2]
      by_cases c3:a.fn.data.toList=bE
      · rw [if_pos c3]
        have e2:=fQ (h4 c3) hn.g;simp only [List.length_append,List.length_cons];omega
      · rw [if_neg c3];omega
 unfold eG;simp only [List.length_append,List.length_cons];omega
structure KLN (G:Nat->Prop) (w:World) (a:Option Addr) (l:List LN) (V:World):Prop where
 b:Below w.heap.size w V
 r:cT G V a l
theorem KLN.step {G:Nat->Prop} {w V V':World} {a:Option Addr} {l:List LN} (h:KLN G w a l V) (hb:Below V.heap.size V V'):KLN G w a l V':=⟨h.b.trans (hb.mono h.b.size),h.r.kept hb⟩
def Mo (l:List LN):Prop:=∀ x∈l,fJ x.a=0/\fK x.a/\x.nm.size<=8
structure J3 (l:List LN):Prop where
 len:l.length<=8
 sm:∀ x∈l,SmG x.a
 fine:Mo l
 sz:∀ x∈l,SzG x.a/\x.a.wh.length<=4
theorem pM {s:List UInt8} {l:List LN} (h:jL s=.ok l):J3 l:=by
 have ok:=Bv h;refine ⟨ok.len,fun x hx=>?_,fun x hx=>?_,fun x hx=>?_⟩
 · obtain ⟨r,hr⟩:=ok.ag x hx
   exact (rL hr).1
 · obtain ⟨r,hr⟩:=ok.ag x hx
   obtain ⟨c,t,e, -,h7, -⟩:=pU (ok.nm x hx).1;have h2:x.nm.data.toList.length=x.nm.size:=by simp
   rw [e] at h2;simp at h2;exact ⟨(rL hr).2.2,JS hr,by omega⟩
 · obtain ⟨r,hr⟩:=ok.ag x hx
   exact ⟨(rL hr).2.1,(cP (rL hr).2.2).2.2.2.2.1⟩
structure AH (w V:World):Prop where
 b:Below w.heap.size w V
 l:xC V
theorem AH.step {w V V':World} (h:AH w V) (hb:Below V.heap.size V V'):AH w V':=⟨h.b.trans (hb.mono h.b.size),h.l.step hb⟩
def tU:AG:=⟨⟨#[115,117,109]⟩,0,eT [120],aI,[]⟩
def sI:AG:=⟨⟨#[99,111,117,110,116]⟩,0,aI,aI,[⟨⟨#[62]⟩,eT [120],tT 2⟩]⟩
def sG:AG:=⟨⟨#[99,111,117,110,116]⟩,0,aI,aI,[]⟩
theorem Jb:fJ tU=0:=by rfl
theorem Ja:fJ sI=0:=by rfl
theorem vS:fJ sG=0:=by rfl
theorem Gl:fK tU:=⟨by simp [tU,eT,TN.f,cY],by simp [tU,aI,TN.f,cY],fun d hd=>by simp [tU] at hd⟩
theorem Gj:fK sI:=⟨by simp [sI,aI,TN.f,cY],by simp [sI,aI,TN.f,cY],fun d hd=>by
 simp only [sI,List.mem_cons,List.not_mem_nil,or_false] at hd;rcases hd with rfl;simp [eT,tT,TN.f,cY]⟩
theorem sF:fK sG:=⟨by simp [sG,aI,TN.f,cY],by simp [sG,aI,TN.f,cY],fun d hd=>by simp [sG] at hd⟩
theorem sJ:eG tU=[115,117,109,40,120,41]:=by rfl
theorem sH:eG sI=[99,111,117,110,116,40,41,32,119,104,101,114,101,32,120,32,62,32,50]:=by
 have h1:Lib.itoa 2=[50]:=by simp [Lib.itoa,Lib.decDigits]
 have:eG sI=[99,111,117,110,116,40,41,32,119,104,101,114,101,32,120,32,62,32]++(Lib.itoa 2++[]):=by rfl
 rw [this,h1];rfl
theorem jD:eG sG=[99,111,117,110,116,40,41]:=by rfl
def vR:List LN:=[⟨⟨#[97,108,108]⟩,tU⟩,⟨⟨#[99]⟩,sI⟩]
def Oa:List LN:=[⟨⟨#[97]⟩,sG⟩]
abbrev Gi:ByteArray:=⟨#[97,108,108,32,61,32,115,117,109,40,120,41,10,99,32,61,32,99,111,117,110,116,40,41,32,119,104,101,114,101,32,120,32,62,32,50,10]⟩
abbrev Lx:ByteArray:=⟨#[97,32,61,32,99,111,117,110,116,40,41,10,114,101,112,32,61,32,99,111,117,110,116,40,41]⟩
abbrev Lw:ByteArray:=⟨#[97,32,61,32,99,111,117,110,116,40,41]⟩
theorem qU {acc:List LN} {nm:List UInt8} {a:AG} (h1:aW nm=true) (h2:dO nm=false) (h3:acc.any (fun x=>x.nm.data.toList == nm)=false) (he:fJ a=0) (hn:fK a) (hl:(eG a).length+1<=1024) :
 gR acc (nm++32::61::32::eG a)=.ok ⟨⟨nm.toArray⟩,Az a⟩:=by
 rw [oG (sL h1),if_neg (by rw [h1,h2];simp),h3,if_neg (by decide),zM he hn hl]
theorem Ak:jL Gi.data.toList=.ok vR:=by
 have e:dS Gi.data.toList=[[97,108,108]++32::61::32::eG tU,[99]++32::61::32::eG sI]:=by
  rw [sJ,sH];rfl
 unfold jL;rw [e,n9 (by decide) (qU (acc:=[]) (by decide) (by decide) rfl Jb Gl (by rw [sJ];decide)),n9 (by decide) (qU (by decide) (by decide) (by rfl) Ja Gj (by rw [sH];decide))];rfl
theorem Na:jL Lw.data.toList=.ok Oa:=by
 have e:dS Lw.data.toList=[[97]++32::61::32::eG sG]:=by
  rw [jD];rfl
 unfold jL;rw [e,n9 (by decide) (qU (acc:=[]) (by decide) (by decide) rfl vS sF (by rw [jD];decide))];rfl
theorem Nb:jL Lx.data.toList=.bad 1 5:=by
 have e:dS Lx.data.toList=[[97]++32::61::32::eG sG,[114,101,112]++32::61::32::eG sG]:=by
  rw [jD];rfl
 unfold jL;rw [e,n9 (by decide) (qU (acc:=[]) (by decide) (by decide) rfl vS sF (by rw [jD];decide)),qP (by decide) (show gR _ _=.bad 5 by rw [oG (sL (by decide)),if_pos (.inr (by decide))])];rfl
theorem I8:kR vR=Gi.data.toList:=by
 show pB _++(pB _++[])=_;unfold pB;rw [show (⟨⟨#[97,108,108]⟩,tU⟩:LN).a=tU from rfl,show (⟨⟨#[99]⟩,sI⟩:LN).a=sI from rfl,sJ,sH];rfl
def xL:PD:=⟨1,⟨#[47,97,47,120]⟩,Lw⟩
def NH:PD:=⟨0,⟨#[]⟩,⟨#[]⟩⟩
theorem Lz:Cl xL=0:=by
 unfold Cl;rw [if_neg (by decide),if_neg (by decide),if_neg (by decide),if_neg (by decide),show xL.t=Lw from rfl,Na];rfl
theorem Ly:BM xL NH=true:=by rfl
theorem I9:BM xL xL=false:=by
 unfold BM;rw [if_pos rfl];simp
end
end Go.Proofs.YtgfkjkokmcejbaaGreatDoor
