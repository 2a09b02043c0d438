/-
 No statement: what ProgTextsLift needs, of the texts OW3, HEval, HEvalT, QCheck, QREval, ZEp, OV, ZRun, OMath, OParts, OCheck.
-/
import Derived.Test.YtgfkjkokmcejbaaGreatDoorVX14
set_option maxHeartbeats 40000000
set_option maxRecDepth 100000
open List renaming length_append -> Tb
open Go.World renaming size_alloc -> Tc
open Nat renaming le_refl -> Td
open Go.Lib renaming toList_data -> Tm
namespace Go.Proofs.YtgfkjkokmcejbaaGreatDoor.Wr
open Go.RowKit Tryz
def MX (x:AD) (y:Tp) (c:Nat):List Value:=[.string x.m,.int .i64 x.k,.int .i64 x.n,.string x.s,.slice y x.len c]
def pT (A:Nat->AD) (Y:Nat->Tp) (C:Nat->Nat):Nat->List Value
 | 0=>[]
 | k+1=>pT A Y C k++MX (A k) (Y k) (C k)
theorem zY (A:Nat->AD) (Y:Nat->Tp) (C:Nat->Nat):∀ k,(pT A Y C k).length=k*5
 | 0=>rfl
 | k+1=>by rw [pT,Tb,zY A Y C k];show k*5+5=_;omega
theorem BT (A:Nat->AD) (Y:Nat->Tp) (C:Nat->Nat) {i:Nat} (b:i<5):∀ {k j:Nat},j<k->(pT A Y C k)[j*5+i]? = (MX (A j) (Y j) (C j))[i]?
 | 0,j,h=>by omega
 | k + 1, j, h => by
   have hl:=zY A Y C k;rw [pT];by_cases a:j<k
   · rw [List.getElem?_append_left (by omega)]
     exact BT A Y C b a
   · obtain rfl:j=k:=by omega
     rw [List.getElem?_append_right (by omega),hl,show j*5+i-j*5=i by omega]
theorem FQ {w:World} {base:Nat} {e:TypeId} {v:Value} {n:Nat} {A:Nat->AD} {Y:Nat->Tp} {C:Nat->Nat} (h:w.ownsRow base e 5 v n (pT A Y C n)) (hr:∀ j,j<n->Reads w (Y j) (A j).len (A j).z) :
 ∃ a c,v=.slice a n c/\ReadsA w a n A:=by
 rcases h.2 with ⟨rfl,rfl⟩ | ⟨g,q,p,rfl,_,s,d,f,_,r⟩
 · exact ⟨none,0,rfl,Nat.zero_le _,.inl rfl⟩
 · refine ⟨_,_,rfl,Nat.le_trans d f,.inr ⟨g,0,rfl,fun j k=>⟨Y j,C j,?_,hr j k⟩⟩⟩
   have cell:∀ i u,i<5->(MX (A j) (Y j) (C j))[i]? = some u->w.cell? ⟨g,0+j*5+i,none⟩=some u:=fun i u m l=>by
    rw [Nat.zero_add];obtain ⟨t,b,o⟩:=qL h (by rw [BT A Y C m k];exact l);simp only [Addr.mk.injEq] at b;obtain ⟨rfl,_⟩:=b;exact o
   exact ⟨cell 0 _ (by omega) rfl,cell 1 _ (by omega) rfl,cell 2 _ (by omega) rfl,cell 3 _ (by omega) rfl,cell 4 _ (by omega) rfl⟩
theorem Ja {w:World} {base:Nat} {e:TypeId} {size:Nat} {v:Value} {n:Nat} {xs:List Value} (h:w.ownsRow base e size v n xs):∃ a l c,v=.slice a l c:=by
 rcases h.2 with ⟨h,_⟩ | ⟨g,b,_,h,_⟩
 · exact ⟨_,_,_,h⟩
 · exact ⟨_,_,_,h⟩
def nmD (D:List AD):List ByteArray:=D.map (·.m)
theorem Sy:∀ x y:Tq,decide (Lib.compareBytes x y<0)=Op.bytesLess x y
 | [],[]=>rfl
 | [],_::_=>rfl
 | _::_,[]=>rfl
 | a :: r, b :: t => by
   have d:=Sy r t;unfold Lib.compareBytes Op.bytesLess;by_cases h:a<b
   · simp [h]
   · by_cases c:b<a
     · have:(a == b)=false:=by rw [beq_eq_false_iff_ne];rintro rfl;exact h c
       simp [h,c,this]
     · have:a=b:=UInt8.le_antisymm (UInt8.not_lt.1 c) (UInt8.not_lt.1 h)
       subst this;simp [h,d]
theorem Sz:∀ x y:Tq,decide (Lib.compareBytes x y=0)=decide (x=y)
 | [],[]=>rfl
 | [],_::_=>rfl
 | _::_,[]=>rfl
 | a :: r, b :: t => by
   have d:=Sz r t;unfold Lib.compareBytes;by_cases h:a<b
   · have:a ≠ b:=by rintro rfl;exact absurd h (UInt8.lt_irrefl a)
     simp [h,this]
   · by_cases c:b<a
     · have:a ≠ b:=by rintro rfl;exact h c
       simp [h,c,this]
     · have:a=b:=UInt8.le_antisymm (UInt8.not_lt.1 c) (UInt8.not_lt.1 h)
       subst this;simpa [h] using d
theorem oK (x:AD) (y:Tp) (c:Nat) (s:Tr) (w:World) :
 Calls prog 283 #[.agg #[.string x.m,.int .i64 x.k,.int .i64 x.n,.string x.s,.slice y x.len c],.string s] w fun e w'=>e=.returned (.int .i64 (Lib.compareBytes x.m.data.toList s.data.toList))/\Below w.heap.size w w':=by
 have a:∀ o,Below w.heap.size w (w.alloc o):=fun o=>bA0 _ _
 have b:=aA a;clear a;go_enter func283,ntmps283
 go_wp2_with fail
 refine (strings_Compare _ _ _).mono ?_;rintro e w' ⟨rfl,rfl⟩;have P:=aA (b.out (.cells #[.string x.m,.int .i64 x.k,.int .i64 x.n,.string x.s,.slice y x.len c] 62));go_wp2_with fail
 go_ret;exact ⟨rfl,P.out⟩
theorem rising_nm {A:Nat->AD} {n:Nat} (b:RiseA A n):dI lsS (nmD (twsA A n)):=by
 have:nmD (twsA A n)=(List.range n).map (fun j=>(A j).m):=by simp [nmD,twsA,twA]
 rw [this];unfold dI;rw [List.pairwise_map];exact List.Pairwise.imp_of_mem (fun {i j} c a h=>b i j h (List.mem_range.1 a)) List.pairwise_lt_range
theorem nm_at (A:Nat->AD) {n t:Nat} (a:t<n):(nmD (twsA A n))[t]? = some (A t).m:=by
 have:nmD (twsA A n)=(List.range n).map (fun j=>(A j).m):=by simp [nmD,twsA,twA]
 rw [this,List.getElem?_map,List.getElem?_range a];rfl
theorem Ck (a:Tp) (c:Nat) (f:Value) (x:Tr) (w:World) :
 Calls prog 282 #[.slice a 0 c,.string x,f] w fun e w'=>e=.returned (.tuple #[.int .i64 (0:Nat),.bool false])/\w'=w:=by
 go_enter func282,ntmps282
 go_wp2
 go_loop [9,10] (fun d b=>d=.int .i64 0/\b=.int .i64 0) (fun _ _=>0)
 case atStart=>exact ⟨rfl,rfl⟩
 case round =>
  obtain ⟨rfl,rfl⟩:=hrel;go_wp2
  go_ret2;exact ⟨rfl,rfl⟩
theorem Cj (b off:Nat) (n c:Nat) (A:Nat->AD) (x:Tr) (hn:n<=1000) (hR:RiseA A n) (w:World) (h:∀ j,j<n->∃ y c,lM w b (off+j*5) (A j) y c) :
 Calls prog 282 #[.slice (some ⟨b,off,none⟩) n c,.string x,.func (.func 283) #[] #[]] w fun e w' =>
  e=.returned (.tuple #[.int .i64 (pos lsS (nmD (twsA A n)) x:Nat),.bool (has (nmD (twsA A n)) x)])/\Below w.heap.size w w':=by
 have hr:=rising_nm hR;have hl:(nmD (twsA A n)).length=n:=by simp [nmD,twsA]
 have r:∀ t,t<n->(nmD (twsA A n))[t]? = some (A t).m:=fun t R=>nm_at A R
 generalize nmD (twsA A n)=ks at hr hl r;have M:=xP fT hr x;rw [hl] at M;obtain ⟨I,D⟩:∃ I,pos lsS ks x=I:=⟨_,rfl⟩;obtain ⟨B,N⟩:∃ B,B=has ks x:=⟨_,rfl⟩;have jb:I<=n:=by rw [<- D, <- hl];exact uH _ _
 rw [D] at M;rw [D, <- N];have Z:=aA (p:=I<n->decide ((A I).m=x)=B) (fun hy=>by rw [N,Bz fT hr D (r I hy)]);have X:=aA (p:=n<=I->false=B) (fun h=>by rw [N];exact (zH fT hr D (by omega)).symm);have Y:=aA (p:=∀ t,t<n->ks.getD t x=(A t).m) (fun t R=>by rw [List.getD_eq_getElem?_getD,r t R];rfl);have HS:=aA M;have O:=aA h;clear M D N hr hl r h hR;go_enter func282,ntmps282
 go_wp2_with fail
 go_loopg [9,10] n (fun g s7 s8 wr=>∃ lo a:Nat,s7=.int .i64 lo/\s8=.int .i64 a/\lo<=a/\a<=n/\a-lo<=g/\Hid (Below w.heap.size w wr)/\Hid (Lib.bsGo (fun t=>lsS (ks.getD t x) x) g lo a=I))
 case atStart=>exact ⟨0,n,rfl,rfl,Nat.zero_le _,Td _,by omega,aA (Below.refl _ _),HS⟩
 case round =>
  obtain ⟨lo,a,rfl,rfl,ja,U,hg,f,L⟩:=hrel;by_cases T:lo<a
  · obtain ⟨y,V,l⟩:=O.out ((lo+a) / 2) (by omega)
    have E:=l.kept f.out;obtain ⟨g',rfl⟩:∃ g',gk=g'+1:=⟨gk-1,by omega⟩;have k:=L.out;have u:=Y.out ((lo+a) / 2) (by omega);clear L l;simp only [Lib.bsGo,T,if_true] at k;obtain ⟨z,hz⟩:∃ z,A ((lo+a) / 2)=z:=⟨_,rfl⟩;rw [hz] at E u;simp only [u] at k;have q:=Sy z.m.data.toList x.data.toList;rw [<- Tm, <- Tm,show Op.bytesLess z.m.toList x.toList=lsS z.m x from rfl,Tm,Tm] at q;have P:=aA (fun w'=>oK z y V x w');obtain ⟨d0,d1,d2,d3,d4⟩:=E;have o:=f.out.size;clear hz u;cases s:lsS z.m x <;> simp only [s,if_true,Bool.false_eq_true,if_false] at k q
    · have G:=aA k
      clear k s;go_wp2_with fail
      refine (P.out _).mono ?_;rintro e w2 ⟨rfl,d⟩;have H:=aA (f.out.trans (d.mono o));clear d;go_wp2_with fail
      go_roundg ((lo+a) / 2-lo)
      case measure=>omega
      case rel=>exact ⟨lo,(lo+a) / 2,rfl,by rw [show ((lo:Int)+(a:Int)) / 2=(((lo+a) / 2:Nat):Int) by omega],by omega,by omega,Td _,H,aA (by rw [<- G.out];exact Lib.bsGo_fuel _ _ _ _ _ (Td _) (by omega))⟩
    · have G:=aA k
      clear k s;go_wp2_with fail
      refine (P.out _).mono ?_;rintro e w2 ⟨rfl,d⟩;have H:=aA (f.out.trans (d.mono o));clear d;go_wp2_with fail
      go_roundg (a-((lo+a) / 2+1))
      case measure=>omega
      case rel=>exact ⟨(lo+a) / 2+1,a,by rw [show ((lo:Int)+(a:Int)) / 2+1=(((lo+a) / 2+1:Nat):Int) by omega],rfl,by omega,U,Td _,H,aA (by rw [<- G.out];exact Lib.bsGo_fuel _ _ _ _ _ (Td _) (by omega))⟩
  · obtain rfl:a=lo:=by omega
    obtain rfl:a=I:=by
     rw [<- L.out];cases gk <;> simp [Lib.bsGo]
    clear L HS;by_cases hn:a<n
    · obtain ⟨y,V,l⟩:=O.out a hn
      have E:=l.kept f.out;have C:=Z.out hn;obtain ⟨z,hz⟩:∃ z,A a=z:=⟨_,rfl⟩;rw [hz] at E C;have q:=Sz z.m.data.toList x.data.toList
      rw [show decide (z.m.data.toList=x.data.toList)=decide (z.m=x) from by
       by_cases S:z.m=x
       · simp [S]
       · rw [decide_eq_false S];exact decide_eq_false (fun h=>S (zZ (by rw [Tm,Tm];exact h))),C,show decide (Lib.compareBytes z.m.data.toList x.data.toList=0)=(Lib.compareBytes z.m.data.toList x.data.toList == 0) from rfl] at q
      have P:=aA (fun w'=>oK z y V x w');obtain ⟨d0,d1,d2,d3,d4⟩:=E;have o:=f.out.size;clear Z X O Y hz C l;go_wp2_with fail
      refine (P.out _).mono ?_;rintro e w2 ⟨rfl,d⟩;have H:=aA (f.out.trans (d.mono o));clear d;go_wp2_with fail
      go_ret2;exact ⟨rfl,H.out⟩
    · have G:=X.out (by omega)
      subst G;clear Z X O Y;go_wp2_with fail
      go_ret2;exact ⟨rfl,f.out⟩
theorem DS (a:Tp) (n c:Nat) (A:Nat->AD) (x:Tr) (hn:n<=1000) (k:RiseA A n) (w:World) (h:ReadsA w a n A) :
 Calls prog 282 #[.slice a n c,.string x,.func (.func 283) #[] #[]] w fun e w' =>
  e=.returned (.tuple #[.int .i64 (pos lsS (nmD (twsA A n)) x:Nat),.bool (has (nmD (twsA A n)) x)])/\Below w.heap.size w w':=by
 rcases h.2 with rfl | ⟨b,off,rfl,g⟩
 · exact (Ck a c _ x w).mono fun e w' ⟨f,hw⟩=>⟨f,by rw [hw];exact Below.refl _ _⟩
 · exact Cj b off n c A x hn k w (fun j d=>by obtain ⟨y,c,h,_⟩:=g j d;exact ⟨y,c,h⟩)
def Ir (w:World) (A:Nat->AD) (n:Nat) (x:Tr) (e:Ending) (w':World):Prop :=
 (if has (nmD (twsA A n)) x=true then ∃ v a c,pos lsS (nmD (twsA A n)) x<n/\A (pos lsS (nmD (twsA A n)) x)=v/\e=.returned (.tuple #[.agg #[.int .i64 v.k,.int .i64 (twN v.k v.n),.string (twS v.k v.s),.slice a (twL v.k v.len) c],.bool true])/\Reads w' a (twL v.k v.len) v.z
  else e=.returned (.tuple #[.agg #[.int .i64 0,.int .i64 0,.string ⟨#[]⟩,.slice none 0 0],.bool false]))/\Below w.heap.size w w'
theorem getL_any (a:Tp) (n c:Nat) (A:Nat->AD) (x:Tr) (hn:n<=1000) (hl:∀ j,j<n->(A j).len<=1000000) (T:RiseA A n) (w:World) (h:ReadsA w a n A) :
 Calls prog 266 #[.slice a n c,.string x] w (Ir w A n x):=by
 have BL:∀ o,Below w.heap.size w (w.alloc o):=fun o=>bA0 _ _
 have M:=aA (fun o=>DS a n c A x hn T (w.alloc o) (h.kept (BL o)));obtain ⟨W,L⟩:∃ W,w.alloc (.cells #[.int .i64 0,.int .i64 0,.string ⟨#[]⟩,.slice none 0 0] 60)=W:=⟨_,rfl⟩;have G:Below w.heap.size w W:=by rw [<- L];exact BL _
 have jb:W.heap.size=w.heap.size+1:=by rw [<- L];simp
 have H:W.heap[w.heap.size]? = some (.cells #[.int .i64 0,.int .i64 0,.string ⟨#[]⟩,.slice none 0 0] 60 (0,0)):=by rw [<- L];exact heap_alloc_new w _
 have HW:=aA L;have r:=aA (And.intro G H);have RA:=aA h;have Y:=aA hl;have t:=rising_nm T;have B:(nmD (twsA A n)).length=n:=by simp [nmD,twsA]
 have N:=aA (And.intro t B);clear G H L h hl T BL t B;by_cases g:has (nmD (twsA A n)) x=true
 · have hp:pos lsS (nmD (twsA A n)) x<n:=by
    have:=(fF fT N.out.1).1 ((iN _ _).1 g);have:=(List.getElem?_eq_some_iff.1 this).1;rwa [N.out.2] at this
   rw [g] at M;have Z:=aA g;obtain ⟨I,U⟩:∃ I,pos lsS (nmD (twsA A n)) x=I:=⟨_,rfl⟩;obtain ⟨v,R⟩:∃ v,A I=v:=⟨_,rfl⟩;rw [U] at M hp
   have GP:=aA (p:=∀ P X w',Reads w' P (twL v.k v.len) v.z->Below w.heap.size w w'->Ir w A n x (.returned (.tuple #[.agg #[.int .i64 v.k,.int .i64 (twN v.k v.n),.string (twS v.k v.s),.slice P (twL v.k v.len) X],.bool true])) w') (fun P X w' hr hb=>⟨by
    rw [if_pos Z.out,U];exact ⟨v,P,X,hp,R,rfl,hr⟩,hb⟩)
   obtain ⟨b,off,rfl,hc⟩:=RA.out.2.resolve_left (by omega);obtain ⟨y,cy,V,f⟩:=hc I hp;have D:=Y.out I hp;rw [R] at V f D;have H5:=aA (And.intro V f);clear hc R V f U g;go_enter func266,ntmps266
   go_wp2_with fail
   refine (M.out _).mono ?_;rw [HW.out];rintro e w2 ⟨rfl,d⟩;have O:=aA (r.out.1.trans (d.mono r.out.1.size));have V2:=aA ((d.block w.heap.size (by omega)).trans r.out.2);have ja:=d.size;obtain ⟨d0,d1,d2,d3,d4⟩:=H5.out.1.kept O.out;have TW:=aA (xI v.k v.n v.s y v.len cy v.z D w2 (H5.out.2.kept O.out));clear d;go_wp2_with fail
   refine TW.out.mono ?_;rintro e w3 ⟨⟨a3,c3,rfl,C,u⟩,m⟩;have B3:=aA (O.out.trans (m.mono (by omega)));have V3:=(m.block w.heap.size (by omega)).trans V2.out;obtain ⟨⟨c0,c1,c2,jc⟩,⟨f0,f1,f2,f3⟩⟩:=aL V3;have R3:=aA (And.intro (u w3 (aC.refl _ _)) C);clear m V3 u C d0 d1 d2 d3 d4;go_wp2_with fail
   have l:=aA (lS B3.out (Td _) (.int .i64 v.k) (.int .i64 (twN v.k v.n)) (.string (twS v.k v.s)) (.slice a3 (twL v.k v.len) c3));have S:=aA (R3.out.1.keptS (By w3 w.heap.size (.int .i64 v.k) (.int .i64 (twN v.k v.n)) (.string (twS v.k v.s)) (.slice a3 (twL v.k v.len) c3)) (fun q hq h=>by have:=R3.out.2 q hq;omega));exact bodyPost_ret (v:=.tuple #[.agg #[.int .i64 v.k,.int .i64 (twN v.k v.n),.string (twS v.k v.s),.slice a3 (twL v.k v.len) c3],.bool true]) (by simp [results,results266,go_sem, *]) rfl (GP.out _ _ _ S.out l.out)
 · have E:has (nmD (twsA A n)) x=false:=by simpa using g
   rw [E] at M;have Z:=aA g;clear g E;go_enter func266,ntmps266
   go_wp2_with fail
   refine (M.out _).mono ?_;rw [HW.out];rintro e w2 ⟨rfl,d⟩;have O:=aA (r.out.1.trans (d.mono r.out.1.size));have V2:=(d.block w.heap.size (by omega)).trans r.out.2;obtain ⟨⟨c0,c1,c2,c3⟩,⟨f0,f1,f2,f3⟩⟩:=aL V2;clear d V2;go_wp2_with fail
   have l:=aA (lS O.out (Td _) (.int .i64 0) (.int .i64 0) (.string ⟨#[]⟩) (.slice none 0 0));exact bodyPost_ret (v:=.tuple #[.agg #[.int .i64 0,.int .i64 0,.string ⟨#[]⟩,.slice none 0 0],.bool false]) (by simp [results,results266,go_sem, *]) rfl ⟨by rw [if_neg Z.out],l.out⟩
section
open Go.RowKit Go.ChangeShapes Go.WideShapes Go.Deep
end
end Go.Proofs.YtgfkjkokmcejbaaGreatDoor.Wr
namespace Go.Proofs.YtgfkjkokmcejbaaGreatDoor
open Go.RowKit Tryz
section
structure NR (A:Nat->Wr.AD) (n:Nat) (g:Tr->Option Int):Prop where
 yes:∀ j,j<n->g (A j).m=if (A j).k=1 then some (A j).n else none
 no:∀ x,(∀ j,j<n->(A j).m ≠ x)->g x=none
 fit:∀ x v,g x=some v->bW v
theorem FY (o:Tr) (a b:Int) (ha:bW a) (l:bW b) (c:lF o=true) (w:World):Calls prog 255 #[.string o,.int .i64 a,.int .i64 b] w fun e w'=>e=.returned (.tuple #[.int .i64 ((sM o a b).getD 0),.bool (sM o a b).isSome])/\w=w':=by
 have t:=aA (Dv a b w ha l);have s:=aA (Ds a b w ha l);have r:=aA (Ky a b w ha l);unfold lF at c;unfold sM;cases d:(o.data.toList == [43]) with
 | true =>
   have q:=bG d;rw [if_pos rfl];simp only [Option.getD_some,Option.isSome_some];clear d c;go_enter func255,ntmps255
   go_wp2_with fail
   refine t.out.mono ?_;rintro e k ⟨rfl,rfl⟩;go_wp2_with fail
   go_ret2;exact ⟨rfl,rfl⟩
 | false =>
   have q:=aH d;rw [if_neg (by decide)];cases f:(o.data.toList == [45]) with
   | true =>
     have p:=bG f;rw [if_pos rfl];simp only [Option.getD_some,Option.isSome_some];clear d c f;go_enter func255,ntmps255
     go_wp2_with fail
     refine s.out.mono ?_;rintro e k ⟨rfl,rfl⟩;go_wp2_with fail
     go_ret2;exact ⟨rfl,rfl⟩
   | false =>
     have p:=aH f;rw [if_neg (by decide)];cases g:(o.data.toList == [42]) with
     | true =>
       have n:=bG g;rw [if_pos rfl];simp only [Option.getD_some,Option.isSome_some];clear d c f g;go_enter func255,ntmps255
       go_wp2_with fail
       refine r.out.mono ?_;rintro e k ⟨rfl,rfl⟩;go_wp2_with fail
       go_ret2;exact ⟨rfl,rfl⟩
     | false =>
       have n:=aH g;rw [if_neg (by decide)];cases h:(o.data.toList == [47]) with
       | true =>
         have m:=bG h;rw [if_pos rfl];by_cases hz:b=0
         · subst hz
           have j:=aA (Du a w);rw [if_pos rfl];simp only [Option.getD_none,Option.isSome_none];clear d c f g h;go_enter func255,ntmps255
           go_wp2_with fail
           refine j.out.mono ?_;rintro e k ⟨rfl,rfl⟩;go_wp2_with fail
           go_ret2;exact ⟨rfl,rfl⟩
         · have j:=aA (KH a b w ha l hz)
           rw [if_neg hz];simp only [Option.getD_some,Option.isSome_some];clear d c f g h hz;go_enter func255,ntmps255
           go_wp2_with fail
           refine j.out.mono ?_;rintro e k ⟨rfl,rfl⟩;go_wp2_with fail
           go_ret2;exact ⟨rfl,rfl⟩
       | false =>
         have m:=aH h;rw [if_neg (by decide)];have u:=bG (o:=o) (x:=[37]) (by rw [d,f,g,h] at c;simpa using c);by_cases hz:b=0
         · subst hz
           have j:=aA (Dt a w);rw [if_pos rfl];simp only [Option.getD_none,Option.isSome_none];clear d c f g h;go_enter func255,ntmps255
           go_wp2_with fail
           refine j.out.mono ?_;rintro e k ⟨rfl,rfl⟩;go_wp2_with fail
           go_ret2;exact ⟨rfl,rfl⟩
         · have j:=aA (Kz a b w ha l hz)
           rw [if_neg hz];simp only [Option.getD_some,Option.isSome_some];clear d c f g h hz;go_enter func255,ntmps255
           go_wp2_with fail
           refine j.out.mono ?_;rintro e k ⟨rfl,rfl⟩;go_wp2_with fail
           go_ret2;exact ⟨rfl,rfl⟩
theorem JS {A:Nat->Wr.AD} {n:Nat} {g:Tr->Option Int} (a:NR A n g) (f:Wr.RiseA A n) (x:Tr) :
 (has (Wr.nmD (Wr.twsA A n)) x=true->pos lsS (Wr.nmD (Wr.twsA A n)) x<n->g x=if (A (pos lsS (Wr.nmD (Wr.twsA A n)) x)).k=1 then some (A (pos lsS (Wr.nmD (Wr.twsA A n)) x)).n else none) /\
 (¬ has (Wr.nmD (Wr.twsA A n)) x=true->g x=none):=by
 have hr:=Wr.rising_nm f;refine ⟨fun h hp=>?_,fun h=>a.no x fun j d e=>h ?_⟩
 · have c:=(fF fT hr).1 ((iN _ _).1 h)
   rw [Wr.nm_at A hp] at c;have b:=a.yes _ hp;rw [Option.some.inj c] at b;exact b
 · rw [iN]
   exact e ▸ List.mem_of_getElem? (Wr.nm_at A d)
theorem F7 {A:Nat->Wr.AD} {n:Nat} {g:Tr->Option Int} (O:NR A n g) (I:Wr.RiseA A n) (hn:n<=1000) (hl:∀ j,j<n->(A j).len<=1000000) (a:Tp) (c:Nat) (x:Tr) (w:World) (h:Wr.ReadsA w a n A) :
 Calls prog 253 #[.slice a n c,.string x] w fun e w'=>e=.returned (.tuple #[.int .i64 ((g x).getD 0),.bool (g x).isSome])/\Below w.heap.size w w':=by
 have C:=aA (Wr.getL_any a n c A x hn hl I w h);obtain ⟨D,B⟩:=JS O I x;by_cases l:has (Wr.nmD (Wr.twsA A n)) x=true
 · have r:=aA (p:=Calls prog 266 #[.slice a n c,.string x] w fun e w'=>(∃ (v:Wr.AD) (a:Tp) (c:Nat),g x=(if v.k=1 then some v.n else none)/\e=.returned (.tuple #[.agg #[.int .i64 v.k,.int .i64 (Wr.twN v.k v.n),.string (Wr.twS v.k v.s),.slice a (Wr.twL v.k v.len) c],.bool true]))/\Below w.heap.size w w') (C.out.mono fun e w' ⟨f,d⟩=>by
    rw [if_pos l] at f;obtain ⟨v,a2,c2,hp,rfl,f, -⟩:=f;exact ⟨⟨_,a2,c2,D l hp,f⟩,d⟩)
   clear D B C h l;go_enter func253,ntmps253
   go_wp2_with fail
   refine r.out.mono ?_;rintro e u ⟨⟨v,a2,c2,E,rfl⟩,d⟩;have y:=aA d;have o:=aA E;have b:v.k=1->Wr.twN v.k v.n=v.n:=fun h=>by rw [h];rfl
   obtain ⟨N,z⟩:∃ N,Wr.twN v.k v.n=N:=⟨_,rfl⟩;obtain ⟨Z,H⟩:∃ Z,Wr.twS v.k v.s=Z:=⟨_,rfl⟩;obtain ⟨L,M⟩:∃ L,Wr.twL v.k v.len=L:=⟨_,rfl⟩;rw [z] at b;rw [z,H,M];obtain ⟨k,G⟩:∃ k,v.k=k:=⟨_,rfl⟩;rw [G] at o b |-
   clear d E z H M G r;by_cases m:k=1
   · have P:=aA (b m)
     subst m;have q:=aA (show g x=some v.n by rw [o.out,if_pos rfl]);clear o b;have t:=aA (y.out.trans ((bA0 u (.cells #[.int .i64 1,.int .i64 N,.string Z,.slice a2 L c2] 60)).mono y.out.size));go_wp2_with fail
     go_ret2;exact ⟨by rw [q.out,P.out];rfl,t.out⟩
   · have q:=aA (show g x=none by rw [o.out,if_neg m])
     have S:(k == 1)=false:=by simpa using m
     have R:(k != 1)=true:=by simpa using m
     clear o b;have t:=aA (y.out.trans ((bA0 u (.cells #[.int .i64 k,.int .i64 N,.string Z,.slice a2 L c2] 60)).mono y.out.size));go_wp2_with fail
     go_ret2;rw [q.out];exact ⟨rfl,t.out⟩
 · have q:=aA (B l)
   have r:=aA (p:=Calls prog 266 #[.slice a n c,.string x] w fun e w'=>e=.returned (.tuple #[.agg #[.int .i64 0,.int .i64 0,.string ⟨#[]⟩,.slice none 0 0],.bool false])/\Below w.heap.size w w') (C.out.mono fun e w' ⟨f,d⟩=>by
    rw [if_neg l] at f;exact ⟨f,d⟩)
   clear D B C h l;go_enter func253,ntmps253
   go_wp2_with fail
   refine r.out.mono ?_;rintro e u ⟨rfl,d⟩;have t:=aA (d.trans ((bA0 u (.cells #[.int .i64 0,.int .i64 0,.string ⟨#[]⟩,.slice none 0 0] 60)).mono d.size));clear d r;go_wp2_with fail
   go_ret2;rw [q.out];exact ⟨rfl,t.out⟩
structure nD (A:Nat->Wr.AD) (n:Nat) (g:Tr->Option Int):Prop where
 ok:NR A n g
 ri:Wr.RiseA A n
 few:n<=1000
 sm:∀ j,j<n->(A j).len<=1000000
def PEv (A:Nat->Wr.AD) (n:Nat) (g:Tr->Option Int) (t:TN):Prop:=∀ (G:Nat->Prop) (w:World) (a:Tp) (c:Nat) (y:Tp) (cy:Nat),aK G w a t.ks->Wr.ReadsA w y n A ->
 Calls prog 232 #[bN t.op t.nm t.n a t.ks.len c,.slice y n cy] w fun e w'=>e=.returned (.tuple #[.int .i64 ((evT g t).getD 0),.bool (evT g t).isSome])/\Below w.heap.size w w'
variable {A : Nat -> Wr.AD} {n : Nat} {g : Tr -> Option Int}
theorem OV (o m:Tr) (v:Int) (b:bZ o=true):PEv A n g ⟨o,m,v,.nil⟩:=by
 intro G w a c y j hr d;rw [Nh g b];clear hr d;dsimp only;have f:=bG b;unfold l6 at f;have k:=aA (heap_alloc_new w (ndG o m v a F.nil.len c));have h:=aA (bA0 w (ndG o m v a F.nil.len c));clear b;go_enter func232,ntmps232
 go_wp2_with fail
 go_ret2;exact ⟨rfl,h.out⟩
theorem Lw (U:nD A n g) (o m:Tr) (v:Int) (d:bZ o=false) (b:bT o=true):PEv A n g ⟨o,m,v,.nil⟩:=by
 intro G w a c y r hr k;rw [Ig g d b];dsimp only;have p:=aH d;have l:=bG b;unfold l6 at p;unfold iR at l;have f:=aA (bA0 w (ndG o m v a F.nil.len c));have C:=aA (F7 U.ok U.ri U.few U.sm y r m (w.alloc (ndG o m v a F.nil.len c)) (k.kept f.out));obtain ⟨q,h⟩:∃ q,g m=q:=⟨_,rfl⟩;rw [h] at C |-
 clear d b hr k h;go_enter func232,ntmps232
 go_wp2_with fail
 refine C.out.mono ?_;rintro e t ⟨rfl,j⟩;have s:=aA (f.out.trans (j.mono f.out.size));clear j;go_wp2_with fail
 go_ret2;exact ⟨rfl,s.out⟩
theorem OW (o m:Tr) (v:Int) (t:TN) (r:bZ o=false) (p:bT o=false) (l:fM o=true) (L:∀ x,evT g t=some x->bW x) (H:PEv A n g t):PEv A n g ⟨o,m,v,t.f⟩:=by
 intro G w a c y X hr N;rw [Ni g t r p l];dsimp only at hr |-
 rw [show t.f.len=1 from rfl];have U:=aH r;have T:=aH p;have S:=bG l;unfold l6 at U;unfold iR at T;unfold iQ at S;have P:=aA (heap_alloc_new w (ndG o m v a 1 c));have j:=aA (bA0 w (ndG o m v a 1 c));obtain ⟨b,off,a2,c2,ha,hG,k,⟨E,D,B,u⟩,d⟩:=cP (hr.kept j.out) (show t.f.at 0=some t from rfl);have C:=aA (H G (w.alloc (ndG o m v a 1 c)) a2 c2 y X d (N.kept j.out));rw [Nat.zero_mul,Nat.add_zero] at E D B u;subst ha;have O:=aA (fun (x:Int) (h:bW x) (V:World)=>Ds 0 x V (by unfold bW;omega) h)
 have s:bW ((evT g t).getD 0):=by
  cases R:evT g t with
  | none=>show bW 0;unfold bW;omega
  | some x=>exact L x R
 have RS:(Option.map (fun x=>eC (0-x)) (evT g t)).getD 0=eC (0-(evT g t).getD 0)/\(Option.map (fun x=>eC (0-x)) (evT g t)).isSome=(evT g t).isSome:=by
  cases evT g t with
  | none=>exact ⟨by decide,rfl⟩
  | some x=>exact ⟨rfl,rfl⟩
 rw [RS.1,RS.2];obtain ⟨q,I⟩:∃ q,(evT g t).getD 0=q:=⟨_,rfl⟩;obtain ⟨z,hz⟩:∃ z,(evT g t).isSome=z:=⟨_,rfl⟩;rw [I] at C s |-
 rw [hz] at C |-
 have Y:=aA (O.out q s);rw [Int.zero_sub];clear r p l hr N H d I hz RS s L O;go_enter func232,ntmps232
 go_wp2_with fail
 generalize w.alloc (ndG o m v (some ⟨b,off,none⟩) 1 c)=W at P j C k E D B u |-
 obtain ⟨⟨m0,m1,m2,m3⟩, -⟩:=aL P.out;go_wp2_with fail
 refine C.out.mono ?_;rintro e w1 ⟨rfl,M⟩;have Z:=aA (j.out.trans (M.mono j.out.size));clear M;go_wp2_with fail
 refine (Y.out _).mono ?_;rintro e w2 ⟨rfl,rfl⟩;go_wp2_with fail
 go_ret2;exact ⟨rfl,Z.out⟩
theorem OU (o m:Tr) (v:Int) (t u:TN) (h1:bZ o=false) (h2:bT o=false) (h3:fM o=false) (h4:lF o=true) (hi:∀ x,evT g t=some x->bW x) (Z:∀ x,evT g u=some x->bW x) (ih:PEv A n g t) (iu:PEv A n g u):PEv A n g ⟨o,m,v,.cons t.op t.nm t.n t.ks u.f⟩:=by
 intro G w a c y cy hr hA;rw [Ng g t u h1 h2 h3];dsimp only at hr |-
 rw [show (F.cons t.op t.nm t.n t.ks u.f).len=2 from rfl];have g1:=aH h1;have g2:=aH h2;have g3:=aH h3;unfold l6 at g1;unfold iR at g2;unfold iQ at g3;have k:=aA (heap_alloc_new w (ndG o m v a 2 c));have j:=aA (bA0 w (ndG o m v a 2 c));obtain ⟨b,off,a2,c2,ha,hG,B,⟨M,L,I,H⟩,S⟩:=cP (hr.kept j.out) (show (F.cons t.op t.nm t.n t.ks u.f).at 0=some t from rfl);obtain ⟨b',jb,a3,c3,ja,jc,d,⟨z,s,r,l⟩,R⟩:=cP (hr.kept j.out) (show (F.cons t.op t.nm t.n t.ks u.f).at 1=some u from rfl);subst ha;cases ja;have C:=aA (ih G (w.alloc (ndG o m v (some ⟨b,off,none⟩) 2 c)) a2 c2 y cy S (hA.kept j.out));have D:=aA (fun V (hV:Below (w.alloc (ndG o m v (some ⟨b,off,none⟩) 2 c)).heap.size (w.alloc (ndG o m v (some ⟨b,off,none⟩) 2 c)) V)=>iu G V a3 c3 y cy (R.kept hV) ((hA.kept j.out).kept hV));have AP:=aA (fun (p q:Int) (hp:bW p) (hq:bW q) (V:World)=>FY o p q hp hq h4 V);rw [Nat.zero_mul,Nat.add_zero] at M L I H;rw [Nat.one_mul] at z s r l;clear h1 h2 h3 h4 hr hA ih iu S R;cases P:evT g t with
 | none =>
   rw [P] at C;simp only [Option.getD_none,Option.isSome_none] at C |-
   clear P hi Z D AP;go_enter func232,ntmps232
   go_wp2_with fail
   generalize w.alloc (ndG o m v (some ⟨b,off,none⟩) 2 c)=W at k j C B M L I H |-
   obtain ⟨⟨O,Y,X,N⟩, -⟩:=aL k.out;go_wp2_with fail
   refine C.out.mono ?_;rintro e U ⟨rfl,h⟩;have E:=aA (j.out.trans (h.mono j.out.size));clear h;go_wp2_with fail
   go_ret2;exact ⟨rfl,E.out⟩
 | some p =>
   rw [P] at C;simp only [Option.getD_some,Option.isSome_some] at C;have HP:=aA (hi p P);cases T:evT g u with
   | none =>
     rw [T] at D;simp only [Option.getD_none,Option.isSome_none] at D |-
     clear P hi Z T AP;go_enter func232,ntmps232
     go_wp2_with fail
     generalize w.alloc (ndG o m v (some ⟨b,off,none⟩) 2 c)=W at k j C D B d M L I H z s r l |-
     obtain ⟨⟨O,Y,X,N⟩, -⟩:=aL k.out;go_wp2_with fail
     refine C.out.mono ?_;rintro e U ⟨rfl,h⟩;have D1:=aA (D.out U h);have E:=aA (j.out.trans (h.mono j.out.size));have s0:=(h.cell d).trans z;have s1:=(h.cell d).trans s;have s2:=(h.cell d).trans r;have s3:=(h.cell d).trans l;have s4:=(h.cell (aG k.out)).trans N;have s5:=(h.cell (aG k.out)).trans O;clear h M L I H z s r l O Y X N C D;go_wp2_with fail
     refine D1.out.mono ?_;rintro e w2 ⟨rfl,h⟩;have B2:=aA (E.out.trans (h.mono E.out.size));clear h;go_wp2_with fail
     go_ret2;exact ⟨rfl,B2.out⟩
   | some q =>
     rw [T] at D;simp only [Option.getD_some,Option.isSome_some] at D |-
     have A1:=aA (AP.out p q HP.out (Z q T));clear P hi Z T AP HP;go_enter func232,ntmps232
     go_wp2_with fail
     generalize w.alloc (ndG o m v (some ⟨b,off,none⟩) 2 c)=W at k j C D B d M L I H z s r l |-
     obtain ⟨⟨O,Y,X,N⟩, -⟩:=aL k.out;go_wp2_with fail
     refine C.out.mono ?_;rintro e U ⟨rfl,h⟩;have D1:=aA (D.out U h);have E:=aA (j.out.trans (h.mono j.out.size));have s0:=(h.cell d).trans z;have s1:=(h.cell d).trans s;have s2:=(h.cell d).trans r;have s3:=(h.cell d).trans l;have N1:=aA ((h.block _ (aG k.out)).trans k.out);have s4:=(h.cell (aG k.out)).trans N;have s5:=(h.cell (aG k.out)).trans O;clear h M L I H z s r l O Y X N C D;go_wp2_with fail
     refine D1.out.mono ?_;rintro e w2 ⟨rfl,h⟩;have B2:=aA (E.out.trans (h.mono E.out.size));have s6:=(h.cell (aG N1.out)).trans s5;clear h s0 s1 s2 s3 s4 s5;go_wp2_with fail
     refine (A1.out _).mono ?_;rintro e w3 ⟨rfl,rfl⟩;go_wp2_with fail
     go_ret2;exact ⟨rfl,B2.out⟩
theorem Cs (U:nD A n g) (t:TN) (h:OkT t) (hn:dU t.f):PEv A n g t/\∀ x,evT g t=some x->bW x :=
 gF (P:=fun t=>PEv A n g t/\∀ x,evT g t=some x->bW x)
  (fun o m v a b d=>⟨OV o m v a,fun x hx=>by rw [Nh g a] at hx;cases hx;unfold bW;omega⟩)
  (fun o m v a b _=>⟨Lw U o m v a b,fun x hx=>by rw [Ig g a b] at hx;exact U.ok.fit _ _ hx⟩)
  (fun o m v t a b c j=>⟨OW o m v t a b c j.2 j.1,fun x hx=>by
   rw [Ni g t a b c,Option.map_eq_some_iff] at hx;obtain ⟨z,_,rfl⟩:=hx;exact nB _⟩)
  (fun o m v t u a b c d j k=>⟨OU o m v t u a b c d j.2 k.2 j.1 k.1,fun x hx=>by
   rw [Ng g t u a b c] at hx;split at hx
   · rename_i p q hp l
     exact Nw (j.2 _ hp) hx
   · cases hx⟩) t h hn
theorem qK (U:nD A n g) (t:TN) (h:aW t=0) (hn:dU t.f) (O:SzF t.f) (G:Nat->Prop) (w:World) (a:Tp) (c:Nat) (y:Tp) (H:Nat) (hr:aK G w a t.ks) (E:Wr.ReadsA w y n A) :
 Calls prog 191 #[bN t.op t.nm t.n a t.ks.len c,.slice y n H] w fun e w'=>e=.returned (.tuple #[.int .i64 ((evT g t).getD 0),.bool (evT g t).isSome])/\Below w.heap.size w w':=by
 have d:=bA0 w (ndG t.op t.nm t.n a t.ks.len c);have k:=heap_alloc_new w (ndG t.op t.nm t.n a t.ks.len c);have j:=hr.kept d;have p:=E.kept d;generalize C:w.alloc (ndG t.op t.nm t.n a t.ks.len c)=W at d k j p;have P:=aA C;have L:=aA d;have o:=aA (i1 t G W a c O j);rw [h] at o;have m:=aA (fun V (D:Below W.heap.size W V)=>(Cs U t ((cC t).1 h).1 hn).1 G V a c y H (j.kept D) (p.kept D));obtain ⟨q,B⟩:∃ q,(evT g t).getD 0=q:=⟨_,rfl⟩;obtain ⟨z,hz⟩:∃ z,(evT g t).isSome=z:=⟨_,rfl⟩;rw [B,hz] at m |-
 have l:=aA k;clear hr E d k j p C B hz h;obtain ⟨⟨x,u,s,r⟩, -⟩:=aL l.out;go_enter func191,ntmps191
 go_upto_region 1 with fail
 rw [P.out];go_wp2_with fail
 refine o.out.mono ?_;rintro e N ⟨rfl,b⟩;have R:=aA (m.out N b);have M:=aA (L.out.trans (b.mono L.out.size));have I:=(b.block _ (aG l.out)).trans l.out;clear b x u s r m o;obtain ⟨⟨x,u,s,r⟩, -⟩:=aL I;clear I;go_wp2_with fail
 refine R.out.mono ?_;rintro e T ⟨rfl,b⟩;have S:=aA (M.out.trans (b.mono M.out.size));clear b;go_wp2_with fail
 go_ret2;exact ⟨rfl,S.out⟩
theorem MV {x:AG} {a b:Tq} (h:(x.fn.data.toList == a)=true) (c:a ≠ b):(x.fn.data.toList == b)=false:=by
 rw [beq_iff_eq] at h;rw [h];exact beq_eq_false_iff_ne.2 c
structure RW where
 n:Nat
 A:Nat->Wr.AD
 g:Tr->Option Int
def dJ (w:World) (a:Tp) (rs:List RW):Prop:=rs=[]\/∃ b off,a=some ⟨b,off,none⟩/\b<w.heap.size/\∀ j r,rs[j]? = some r->∃ y cy,w.cell? ⟨b,off+j,none⟩=some (.slice y r.n cy)/\Wr.ReadsA w y r.n r.A
abbrev vlV (k n:Int) (a:Tp) (l c:Nat):Value:=.agg #[.int .i64 k,.int .i64 n,.string ⟨#[]⟩,.slice a l c]
def Do (r:EvR) (w0:World) (e:Ending) (w':World):Prop:=Below w0.heap.size w0 w' /\
 match r with
 | .no=>e=.returned (.tuple #[vlV 0 0 none 0 0,.bool false])
 | .num n=>e=.returned (.tuple #[vlV 1 n none 0 0,.bool true])
 | .list l=>∃ a c,e=.returned (.tuple #[vlV 3 0 a l.length c,.bool true])/\(l=[]\/∃ b off,a=some ⟨b,off,none⟩/\w0.heap.size<=b/\b<w'.heap.size/\∀ j n,l[j]? = some n->w'.cell? ⟨b,off+j,none⟩=some (.int .i64 n))
section
variable {s : ES} {k : Nat}
end
section
variable {x : AG} {g : Tr -> Option Int} {s : ES} {v : Int}
end
section
variable {G : Nat -> Prop} {w V : World} {x : AG} {p : PA} {T : List Int} {ta : Tp} {tc : Nat}
end
def rzK:EvR->Int | .no=>0 | .num _=>1 | .list _=>3
def rzN:EvR->Int | .num n=>n | _=>0
def rzL:EvR->List Int | .list l=>l | _=>[]
def Li:EvR->Bool | .no=>false | _=>true
abbrev rzZ (R:EvR) (j:Nat):Int:=(rzL R).getD j 0
theorem Ik {x:AG} (h:gA x=0) (gs:List (Tr->Option Int)):(rzL (evG x gs)).length<=16:=by
 obtain ⟨h1,a, -⟩:=cY h;unfold dZ at h1;simp only [Bool.or_eq_true,beq_iff_eq] at h1;rcases h1 with ((((h1 | h1) | h1) | h1) | h1) | h1
 · rw [uW h1];exact Nat.zero_le _
 · rw [Ii h1];split <;> exact Nat.zero_le _
 · rw [Ij h1];split <;> exact Nat.zero_le _
 · rw [Da h1];exact Nat.zero_le _
 · rw [BI h1];split <;> exact Nat.zero_le _
 · rw [Ih h1]
   have:=a h1;simp only [rzL,List.length_drop];omega
theorem PZ {R:EvR} (hl:(rzL R).length<=16) {w0 w':World} {e:Ending} (h:Do R w0 e w'):Below w0.heap.size w0 w'/\∃ a c,e=.returned (.tuple #[vlV (rzK R) (rzN R) a (rzL R).length c,.bool (Li R)])/\Wr.Reads w' a (rzL R).length (rzZ R):=by
 obtain ⟨k,h⟩:=h;refine ⟨k,?_⟩;cases R with
 | no=>exact ⟨none,0,h,by unfold maxLen;simp [rzL],.inl rfl⟩
 | num n=>exact ⟨none,0,h,by unfold maxLen;simp [rzL],.inl rfl⟩
 | list l =>
   obtain ⟨a,c,rfl,hx⟩:=h;refine ⟨a,c,rfl,by unfold maxLen;simp only [rzL] at hl |-;omega,hx.imp (fun e=>by rw [e];rfl) ?_⟩;rintro ⟨b,off,rfl, -, -,g⟩;refine ⟨b,off,rfl,fun j f=>?_⟩;have d:j<l.length:=f;have:=g j l[j] (List.getElem?_eq_getElem d);rw [this];simp [rzZ,rzL,List.getD,List.getElem?_eq_getElem d]
end
end Go.Proofs.YtgfkjkokmcejbaaGreatDoor
namespace Go.Proofs.YtgfkjkokmcejbaaGreatDoor.Wr
open Go.RowKit Tryz
def NK (F:Nat->Prop) (v:Value):Nat->Prop:=fun k=>F k\/v.ownBlock=some k
def dA:AD:=⟨⟨#[]⟩,0,0,⟨#[]⟩,0,fun _=>0⟩
def atD (D:List AD) (j:Nat):AD:=D.getD j dA
def putD (D:List AD) (x:AD):List AD:=if has (nmD D) x.m=true then D.set (pos lsS (nmD D) x.m) x else D.take (pos lsS (nmD D) x.m)++x::D.drop (pos lsS (nmD D) x.m)
theorem nmD_put {D:List AD} (hr:dI lsS (nmD D)) (x:AD):nmD (putD D x)=oP lsS (nmD D) x.m:=by
 unfold putD oP;by_cases h:has (nmD D) x.m=true
 · rw [if_pos h,if_pos h]
   have hp:=(fF fT hr).1 ((iN _ _).1 h);unfold nmD at *;rw [List.map_set];apply List.ext_getElem?
   intro j;rw [List.getElem?_set];split
   · rename_i a
     subst a;rw [hp,if_pos (List.getElem?_eq_some_iff.1 hp).1]
   · rfl
 · rw [if_neg h,if_neg h]
   simp [nmD,List.map_take,List.map_drop]
section
variable {P : Program}
end
section
variable {P : Program}
end
section
variable {P : Program}
end
end Go.Proofs.YtgfkjkokmcejbaaGreatDoor.Wr
namespace Go.Proofs.YtgfkjkokmcejbaaGreatDoor
open Go.RowKit Tryz
def evA (nm:Tr) (R:EvR):Wr.AD:=⟨nm,rzK R,rzN R,⟨#[]⟩,(rzL R).length,rzZ R⟩
def rN (gs:List (Tr->Option Int)):List LN->List Wr.AD->List Wr.AD
 | [],acc=>acc
 | x::r,acc=>rN gs r (if Li (evG x.a gs)=true then Wr.putD acc (evA x.nm (evG x.a gs)) else acc)
theorem pD {w w':World} {a:Tp} {rs:List RW} (h:dJ w a rs) (d:Below w.heap.size w w'):dJ w' a rs:=by
 rcases h with h | ⟨b,off,e,hl,g⟩
 · exact .inl h
 · refine .inr ⟨b,off,e,by have:=d.size;omega,fun j r f=>?_⟩
   obtain ⟨y,k,c,rd⟩:=g j r f;exact ⟨y,k,(d.cell (p:=⟨b,_,none⟩) hl).trans c,rd.kept d⟩
theorem Sv {W:World} {B:Nat} {d c b a:Value} {t:TypeId} (h:W.heap[B]? = some (.cells #[d,c,b,a] t (0,0))):W.cell? ⟨B,0,none⟩=some d/\W.cell? ⟨B,1,none⟩=some c/\W.cell? ⟨B,2,none⟩=some b/\W.cell? ⟨B,3,none⟩=some a:=by
 refine ⟨?_,?_,?_,?_⟩ <;> simp [World.cell?,h]
structure RNW (G:Nat->Prop) (w:World) (a:Tp) (l:List LN) (ya:Tp) (rs:List RW) (oa:Tp) (D:List Wr.AD) (V:World):Prop where
 b:Below w.heap.size w V
 l:cQ G V a l
 y:dJ V ya rs
 o:Wr.ReadsA V oa D.length (Wr.atD D)
theorem RNW.step {G:Nat->Prop} {w V V':World} {a d f:Tp} {l:List LN} {rs:List RW} {D:List Wr.AD} (h:RNW G w a l d rs f D V) (c:Below V.heap.size V V'):RNW G w a l d rs f D V' :=
 ⟨h.b.trans (c.mono h.b.size),h.l.kept c,pD h.y c,h.o.kept c⟩
def kP (x:Tq):Bool:=x == cH
def bP (x:Tq):Bool:=x == aP
def eP (x:Tq):Bool:=dZ x && !(x == aN)
def bQ (L:List Tk) (p:Nat):Tk:=(L[p]?).getD ⟨0,[],0,0⟩
def atR (s:RS):Nat:=if s.bad=0 then s.pos else s.whr
def bY (so:Bool) (e:Int) (s:RS):RS:=if so=true then s else aQ e s
def goR (s:RS):RS:=if s.bad=0 then aM s else s
theorem lK {s:RS} (h:s.bad=0):atR s=s.pos:=if_pos h
theorem sK {s:RS} (h:¬ s.bad=0):atR s=s.whr:=if_neg h
theorem rA {e:Int} {s:RS} (h:¬ s.bad=0):aQ e s=s:=if_neg h
theorem PT (e:Int) (a:¬ e=0) (s:RS):atR (aQ e s)=atR s:=by
 unfold aQ;by_cases h:s.bad=0
 · rw [if_pos h,lK h,sK a]
 · rw [if_neg h]
theorem EO {s:RS} (h:s.bad=0):goR s=aM s:=if_pos h
theorem gZ {s:RS} (h:¬ s.bad=0):goR s=s:=if_neg h
theorem lE (e:Int) (s:RS):bY true e s=s:=rfl
theorem iL (e:Int) (s:RS):bY false e s=aQ e s:=rfl
theorem PI (L:List Tk) (x:Tq) (p:Nat):isS L x p=((bQ L p).kind == 3 && (bQ L p).text == x):=by
 unfold isS bQ;cases L[p]? with
 | none=>rfl
 | some t=>rfl
theorem Ku (L:List Tk) (x:Tq) (p:Nat):dX L x p=((bQ L p).kind == 1 && (bQ L p).text == x):=by
 unfold dX bQ;cases L[p]? with
 | none=>rfl
 | some t=>rfl
theorem Ox (L:List Tk) (x:Tq) (s:RS):goR (bY ((bQ L (atR s)).kind == 3 && (bQ L (atR s)).text == x) 2 s)=aU L x s:=by
 unfold aU;by_cases h:s.bad=0
 · rw [if_pos h,lK h, <- PI]
   cases hs:isS L x s.pos with
   | true=>rw [lE,EO h,if_pos rfl]
   | false =>
     rw [iL,if_neg (by decide)];refine gZ ?_;unfold aQ;rw [if_pos h];show ¬ (2:Int)=0;decide
 · rw [if_neg h]
   have:bY ((bQ L (atR s)).kind == 3 && (bQ L (atR s)).text == x) 2 s=s:=by
    unfold bY;split
    · rfl
    · exact rA h
   rw [this,gZ h]
def sS (L:List Tk) (s:RS):RS:=goR (bY (decide (1<=(bQ L (atR s)).num) && decide ((bQ L (atR s)).num<=16)) 1 (bY ((bQ L (atR s)).kind == 2) 2 s))
theorem iM {so:Bool} {e:Int} {s:RS} (h:¬ s.bad=0):bY so e s=s:=by
 unfold bY;split
 · rfl
 · exact rA h
theorem dN {e:Int} (a:¬ e=0) {s:RS} (h:s.bad=0):¬ (aQ e s).bad=0:=by unfold aQ;rw [if_pos h];exact a
def oS (s t:RS):Prop:=atR s=atR t/\s.bad=t.bad
theorem oS.refl (s:RS):oS s s:=⟨rfl,rfl⟩
theorem KU (L:List Tk) (s:RS):oS (sS L s) (jW L s).2/\((sS L s).bad=0->sS L s=(jW L s).2/\(jW L s).1=(bQ L (atR s)).num):=by
 unfold sS jW;by_cases h:s.bad=0
 · rw [if_pos h,lK h]
   unfold bQ;cases f:L[s.pos]? with
   | none =>
     have e:bY ((none.getD (⟨0,[],0,0⟩:Tk)).kind == 2) 2 s=aQ 2 s:=rfl;rw [e,iM (dN (by decide) h),gZ (dN (by decide) h)];exact ⟨oS.refl _,fun a=>absurd a (dN (by decide) h)⟩
   | some t =>
     show oS (goR (bY (decide (1<=t.num) && decide (t.num<=16)) 1 (bY (t.kind == 2) 2 s))) _/\_;by_cases b:t.kind=2
     · have e:(t.kind == 2)=true:=by rw [b];rfl
       simp only [Option.getD_some];rw [e,lE];try simp only
       rw [if_pos b];by_cases hn:t.num<1\/16<t.num
       · have c:(decide (1<=t.num) && decide (t.num<=16))=false:=by
          rcases hn with hn | hn
          · rw [decide_eq_false (by omega),Bool.false_and]
          · rw [decide_eq_false (p:=t.num<=16) (by omega),Bool.and_false]
         rw [c,iL,gZ (dN (by decide) h)];try simp only
         rw [if_pos hn];refine ⟨⟨?_,rfl⟩,fun a=>absurd a (dN (by decide) h)⟩;have d:¬ (aM (aQ 1 s)).bad=0:=dN (by decide) h;rw [sK (dN (by decide) h),sK d];rfl
       · have c:(decide (1<=t.num) && decide (t.num<=16))=true:=by rw [decide_eq_true (by omega),decide_eq_true (by omega)];rfl
         rw [c,lE,EO h];try simp only
         rw [if_neg hn];exact ⟨oS.refl _,fun _=>by first | exact ⟨rfl,rfl⟩ | exact ⟨trivial,rfl⟩ | exact ⟨rfl,trivial⟩⟩
     · have e:(t.kind == 2)=false:=beq_eq_false_iff_ne.2 b
       simp only [Option.getD_some];rw [e,iL,iM (dN (by decide) h),gZ (dN (by decide) h)];try simp only
       rw [if_neg b];exact ⟨oS.refl _,fun a=>absurd a (dN (by decide) h)⟩
 · rw [if_neg h,iM h,iM h,gZ h]
   exact ⟨oS.refl _,fun a=>absurd a h⟩
theorem AJ {L:List Tk} {x:Tq} {s:RS} (h:¬ s.bad=0):¬ (aU L x s).bad=0:=by rw [fW h];exact h
theorem J5 {L:List Tk} {s:RS} (h:¬ s.bad=0):¬ (bC L s).2.bad=0:=by rw [f8 h];exact h
theorem Bl {L:List Tk} {x:Tq} {s t:RS} (h:oS s t) (b:s.bad=0->s=t):oS (aU L x s) (aU L x t)/\((aU L x s).bad=0->aU L x s=aU L x t):=by
 by_cases a:s.bad=0
 · rw [b a];exact ⟨oS.refl _,fun _=>rfl⟩
 · have c:¬ t.bad=0:=by rw [<- h.2];exact a
   rw [fW a,fW c];exact ⟨h,fun d=>absurd d a⟩
theorem Jm {L:List Tk} {s t:RS} (h:oS s t) (b:s.bad=0->s=t):oS (bC L s).2 (bC L t).2/\((bC L s).2.bad=0->bC L s=bC L t):=by
 by_cases a:s.bad=0
 · rw [b a];exact ⟨oS.refl _,fun _=>rfl⟩
 · have c:¬ t.bad=0:=by rw [<- h.2];exact a
   rw [f8 a,f8 c];exact ⟨h,fun d=>absurd d a⟩
def rP (L:List Tk) (fn:Tq) (s:RS):RS:=if kP fn=true then aU L [44] (sS L s) else s
def sL (L:List Tk) (fn:Tq) (s:RS):TN×RS:=if eP fn=true then bC L s else (aD,s)
def vD (L:List Tk) (fn:Tq) (s:RS):TN×RS:=if bP fn=true then bC L (aU L [44] s) else (aD,s)
def jU (L:List Tk) (fn:Tq) (s:RS):RS:=(vD L fn (sL L fn (rP L fn s)).2).2
theorem B9 (L:List Tk) (fn:Tq) {s:RS} (h:¬ s.bad=0):jU L fn s=s:=by
 have a:sS L s=s:=by unfold sS;rw [iM h,iM h,gZ h]
 have d:rP L fn s=s:=by
  unfold rP;split
  · rw [a,fW h]
  · rfl
 have c:(sL L fn s).2=s:=by
  unfold sL;split
  · rw [f8 h]
  · rfl
 have b:(vD L fn s).2=s:=by
  unfold vD;split
  · rw [fW h,f8 h]
  · rfl
 unfold jU;rw [d,c,b]
theorem Ko (L:List Tk) (fn:Tq) (y:dZ fn=true) (s:RS):oS (jU L fn s) (bJ L fn s).2/\((jU L fn s).bad=0->jU L fn s=(bJ L fn s).2 /\
 (bJ L fn s).1=((if kP fn=true then (bQ L (atR s)).num else 0),(sL L fn (rP L fn s)).1,(vD L fn (sL L fn (rP L fn s)).2).1)):=by
 by_cases k:fn=aN
 · subst k
   have B:bJ L aN s=((0,aD,aD),s):=if_pos rfl;rw [B];exact ⟨oS.refl _,fun _=>by first | exact ⟨rfl,rfl⟩ | exact ⟨trivial,rfl⟩ | exact ⟨rfl,trivial⟩⟩
 have z:eP fn=true:=by unfold eP;rw [y,beq_eq_false_iff_ne.2 k];rfl
 have C:bJ L fn s=(let p:=if fn=cH then ((jW L s).1,aU L [44] (jW L s).2) else (0,s);let e:=bC L p.2;if fn=aP then (let g:=bC L (aU L [44] e.2);((p.1,e.1,g.1),g.2)) else ((p.1,e.1,aD),e.2)):=if_neg k;rw [C];have l:∀ u,sL L fn u=bC L u:=fun u=>if_pos z
 by_cases a:fn=cH
 · have b:¬ fn=aP:=by rw [a];decide
   have c:kP fn=true:=by unfold kP;rw [a];decide
   have f:¬ bP fn=true:=by unfold bP;rw [a];decide
   have d:∀ u,vD L fn u=(aD,u):=fun u=>if_neg f
   have hK:rP L fn s=aU L [44] (sS L s):=if_pos c;simp only [if_pos a,if_neg b,if_pos c];unfold jU;rw [d,l,hK];obtain ⟨r,n⟩:=KU L s;obtain ⟨q,A⟩:=Bl (L:=L) (x:=[44]) r (fun h=>(n h).1);obtain ⟨o,m⟩:=Jm (L:=L) q A;refine ⟨o,fun h=>⟨by rw [m h],?_⟩⟩;have t:(aU L [44] (sS L s)).bad=0:=Decidable.byContradiction fun hx=>J5 hx h
   have j:(sS L s).bad=0:=Decidable.byContradiction fun hx=>AJ hx t
   rw [(n j).2,m h]
 · have c:¬ kP fn=true:=by unfold kP;rw [beq_eq_false_iff_ne.2 a];decide
   have hK:rP L fn s=s:=if_neg c;simp only [if_neg a,if_neg c];unfold jU;rw [hK,l];by_cases b:fn=aP
   · have f:bP fn=true:=by unfold bP;rw [b];decide
     have d:∀ u,vD L fn u=bC L (aU L [44] u):=fun u=>if_pos f
     rw [d,if_pos b];exact ⟨oS.refl _,fun _=>by first | exact ⟨rfl,rfl⟩ | exact ⟨trivial,rfl⟩ | exact ⟨rfl,trivial⟩⟩
   · have f:¬ bP fn=true:=by unfold bP;rw [beq_eq_false_iff_ne.2 b];decide
     have d:∀ u,vD L fn u=(aD,u):=fun u=>if_neg f
     rw [d,if_neg b];exact ⟨oS.refl _,fun _=>by first | exact ⟨rfl,rfl⟩ | exact ⟨trivial,rfl⟩ | exact ⟨rfl,trivial⟩⟩
inductive Fq | bad (p:Nat) (e:Int) | ok (l:List CD)
def fA (L:List Tk):Nat->List CD->RS->Fq
 | 0,_,_=>.bad 0 0
 | f + 1, acc, s =>
   if ¬ s.bad=0 then .bad s.whr s.bad else
   if L.length<=s.pos then .ok acc else
   if dX L (if acc.length=0 then eW else l8) s.pos=false then .bad s.pos 2 else
   if 4<=acc.length then .bad s.pos 4 else
   fA L f (acc++[(cB L (aM s)).1]) (cB L (aM s)).2
def Df (L:List Tk) (c:List CD×RS):Fq:=if ¬ c.2.bad=0 then .bad c.2.whr c.2.bad else if c.2.pos<L.length then .bad c.2.pos 2 else .ok c.1
theorem Fe (L:List Tk):∀ (f:Nat) (acc:List CD) (s:RS),acc.length+f=5->acc.length<=4->s.bad=0->dX L (if acc.length=0 then eW else l8) s.pos=true->Df L (eT L f acc s)=fA L (f+1) acc s
 | 0,acc,s,hl,g,hb,hw=>by omega
 | f + 1, acc, s, hl, h44, hb, hw => by
   have j:=Cb hw;rw [fA,if_neg (not_not_intro hb),if_neg (show ¬ L.length<=s.pos by omega),hw,if_neg (by decide)];rw [eT];by_cases g:acc.length=4
   · rw [if_pos g,if_pos (show 4<=acc.length by omega)]
     unfold Df;rw [if_pos (dN (by decide) hb)];unfold aQ;rw [if_pos hb]
   · rw [if_neg g,if_neg (show ¬ 4<=acc.length by omega)]
     try simp only
     obtain ⟨c,t,k⟩:∃ c t,cB L (aM s)=(c,t):=⟨_,_,rfl⟩;rw [k];try simp only
     by_cases a:(t.bad == 0 && dX L l8 t.pos)=true
     · rw [if_pos a]
       rw [Bool.and_eq_true,beq_iff_eq] at a;refine Fe L f _ _ (by rw [Tb,List.length_singleton];omega) (by rw [Tb,List.length_singleton];omega) a.1 ?_;rw [if_neg (by rw [Tb,List.length_singleton];omega)];exact a.2
     · rw [if_neg a]
       cases f with
       | zero=>omega
       | succ f =>
         rw [fA];unfold Df;try simp only
         by_cases b:t.bad=0
         · rw [if_neg (not_not_intro b),if_neg (not_not_intro b)]
           have d:dX L l8 t.pos=false:=by
            cases h:dX L l8 t.pos with
            | false=>rfl
            | true=>exact absurd (by rw [h,Bool.and_true,beq_iff_eq];exact b) a
           by_cases hp:t.pos<L.length
           · rw [if_pos hp,if_neg (show ¬ L.length<=t.pos by omega),if_neg (c:=(acc++[c]).length=0) (by rw [Tb,List.length_singleton];omega),d,if_pos rfl]
           · rw [if_neg hp,if_pos (show L.length<=t.pos by omega)]
         · rw [if_pos b,if_pos b]
def iK (L:List Tk):RS:=goR (bY (dZ (bQ L 0).text) 5 (bY ((bQ L 0).kind == 1) 2 ⟨0,0,0,0⟩))
def tP (L:List Tk):RS:=aU L [40] (iK L)
def oX (L:List Tk):RS:=aU L [41] (jU L (bQ L 0).text (tP L))
def A8 (L:List Tk) (l:List CD):AG :=
 let fn:=(bQ L 0).text
 let s:=tP L
 ⟨⟨fn.toArray⟩,if kP fn=true then (bQ L (atR s)).num else 0,(sL L fn (rP L fn s)).1,(vD L fn (sL L fn (rP L fn s)).2).1,l⟩
def agS (L:List Tk):oN:=match fA L 6 [] (oX L) with | .bad p e=>.bad p e | .ok l=>.ok (A8 L l)
theorem gC {L:List Tk} {f:Nat} {acc:List CD} {s:RS} (h:¬ s.bad=0):fA L (f+1) acc s=.bad s.whr s.bad:=by rw [fA,if_pos h]
theorem Dj {L:List Tk} (h:¬ (iK L).bad=0):agS L=.bad (iK L).whr (iK L).bad:=by
 have b:tP L=iK L:=fW h;have a:oX L=iK L:=by unfold oX;rw [b,B9 L _ h,fW h]
 unfold agS;rw [a,gC h]
theorem RQ (L:List Tk):agL L=agS L:=by
 unfold agL;cases A:L[0]? with
 | none =>
   have e:iK L=aQ 2 ⟨0,0,0,0⟩:=by
    unfold iK bQ;rw [A];rfl
   have b:¬ (iK L).bad=0:=by rw [e];exact dN (by decide) rfl
   rw [Dj b,e];rfl
 | some t =>
   have d:bQ L 0=t:=by unfold bQ;rw [A];rfl
   simp only;by_cases k:t.kind=1
   · have p:(t.kind == 1)=true:=by rw [k];rfl
     rw [if_neg (not_not_intro k)];cases u:dZ t.text with
     | false =>
       have e:iK L=aQ 5 ⟨0,0,0,0⟩:=by
        unfold iK;rw [d,p,u];rfl
       have b:¬ (iK L).bad=0:=by rw [e];exact dN (by decide) rfl
       rw [Dj b,e,if_pos rfl];rfl
     | true =>
       have e:iK L=⟨1,0,0,0⟩:=by
        unfold iK;rw [d,p,u];rfl
       have o:tP L=aU L [40] ⟨1,0,0,0⟩:=by unfold tP;rw [e]
       rw [if_neg (by decide)];obtain ⟨s1,G⟩:∃ s,aU L [40] ⟨1,0,0,0⟩=s:=⟨_,rfl⟩;rw [G] at o |-
       by_cases b:s1.bad=0
       · rw [if_neg (not_not_intro b)]
         obtain ⟨C,z⟩:=Ko L t.text u s1;obtain ⟨q,E⟩:=Bl (L:=L) (x:=[41]) C (fun h=>(z h).1);have g:oX L=aU L [41] (jU L t.text s1):=by unfold oX;rw [o,d]
         by_cases a:(aU L [41] (jU L t.text s1)).bad=0
         · have ha:(jU L t.text s1).bad=0:=Decidable.byContradiction fun hx=>AJ hx a
           have B:=E a;have H:=(z ha).2;obtain ⟨j,r⟩:∃ s,aU L [41] (jU L t.text s1)=s:=⟨_,rfl⟩;rw [r] at B g a;try simp only
           rw [<- B,if_neg (not_not_intro a)];unfold agS;rw [g,H]
           have er:∀ l,A8 L l=⟨⟨t.text.toArray⟩,if kP t.text=true then (bQ L (atR s1)).num else 0,(sL L t.text (rP L t.text s1)).1,(vD L t.text (sL L t.text (rP L t.text s1)).2).1,l⟩:=fun l=>by
            unfold A8;rw [d,o]
           simp only [er];by_cases hl:L.length<=j.pos
           · rw [if_pos hl,fA,if_neg (not_not_intro a),if_pos hl]
           · rw [if_neg hl]
             cases y:dX L eW j.pos with
             | false =>
               rw [if_pos rfl,fA,if_neg (not_not_intro a),if_neg hl,if_pos (show ([]:List CD).length=0 from rfl),y,if_pos rfl]
             | true =>
               rw [if_neg (by decide), <- Fe L 5 [] j rfl (by decide) a (by rw [if_pos (show ([]:List CD).length=0 from rfl)];exact y)];unfold Df;obtain ⟨c,D⟩:∃ c,eT L 5 [] j=c:=⟨_,rfl⟩;rw [D];by_cases n:c.2.bad=0
               · rw [if_neg (not_not_intro n),if_neg (not_not_intro n)]
                 by_cases m:c.2.pos<L.length
                 · rw [if_pos m,if_pos m]
                 · rw [if_neg m,if_neg m]
               · rw [if_pos n,if_pos n]
         · have f:¬ (aU L [41] (bJ L t.text s1).2).bad=0:=by rw [<- q.2];exact a
           try simp only
           rw [if_pos f];unfold agS;rw [g,gC a,q.2];have:=q.1;rw [sK a,sK f] at this;rw [this]
       · rw [if_pos b]
         have g:oX L=s1:=by unfold oX;rw [o,B9 L _ b,fW b]
         unfold agS;rw [g,gC b]
   · have p:(t.kind == 1)=false:=beq_eq_false_iff_ne.2 k
     have e:iK L=aQ 2 ⟨0,0,0,0⟩:=by
      unfold iK;rw [d,p,iL,iM (dN (by decide) rfl),gZ (dN (by decide) rfl)]
     have b:¬ (iK L).bad=0:=by rw [e];exact dN (by decide) rfl
     rw [if_pos k,Dj b,e];rfl
abbrev ptV (x:Tq):Value:=.agg #[.bool (kP x),.bool (eP x),.bool (bP x)]
abbrev ptO (k e b:Bool):Obj:=.cells #[.bool k,.bool e,.bool b] 212
theorem d9 {W:World} {B:Nat} {c b a:Value} {t:TypeId} (h:W.heap[B]? = some (.cells #[c,b,a] t (0,0))) :
 (W.cell? ⟨B,0,none⟩=some c/\W.cell? ⟨B,1,none⟩=some b/\W.cell? ⟨B,2,none⟩=some a)/\W.frozen? ⟨B,0,none⟩=false/\W.frozen? ⟨B,1,none⟩=false/\W.frozen? ⟨B,2,none⟩=false:=by
 refine ⟨⟨?_,?_,?_⟩,?_,?_,?_⟩ <;> simp [World.cell?,World.frozen?,h]
theorem iU {W:World} {B:Nat} {g f c:Value} {t:TypeId} (h:W.heap[B]? = some (.cells #[g,f,c] t (0,0))) (a b d:Value) :
 (((W.setCell ⟨B,0,none⟩ a).setCell ⟨B,1,none⟩ b).setCell ⟨B,2,none⟩ d).heap[B]? = some (.cells #[a,b,d] t (0,0)):=by
 have l:=heap_setCell_same W B 0 _ t a h;have n:(W.setCell ⟨B,0,none⟩ a).heap[B]? = some (.cells #[a,f,c] t (0,0)):=by simpa using l
 have k:=heap_setCell_same _ B 1 _ t b n;have m:((W.setCell ⟨B,0,none⟩ a).setCell ⟨B,1,none⟩ b).heap[B]? = some (.cells #[a,b,c] t (0,0)):=by simpa using k
 have j:=heap_setCell_same _ B 2 _ t d m;simpa using j
theorem i8 (W:World) (B:Nat) (c b a:Value):aC (· = B) W (((W.setCell ⟨B,0,none⟩ c).setCell ⟨B,1,none⟩ b).setCell ⟨B,2,none⟩ a) :=
 (((aC.refl (· = B) W).setCell (p:=⟨B,0,none⟩) (.inl rfl) c).setCell (p:=⟨B,1,none⟩) (.inl rfl) b).setCell (p:=⟨B,2,none⟩) (.inl rfl) a
theorem mO (o:Tr) (w:World):Calls prog 130 #[.string o] w fun e w'=>e=.returned (.tuple #[ptV o.data.toList,.bool (dZ o.data.toList)])/\Below w.heap.size w w':=by
 unfold ptV;have C:=bA0 w (ptO false false false);have A:=heap_alloc_new w (ptO false false false);have D:(w.alloc (ptO false false false)).heap.size=w.heap.size+1:=Tc _ _;generalize B:w.alloc (ptO false false false)=W at *;have r:=aA B;have t:=aA C;have s:=aA A;obtain ⟨⟨H,G,E⟩,M,L,I⟩:=d9 A;clear B C A;cases b:(o.data.toList == aN) with
 | true =>
   have d:=bG b;unfold aN at d;have a:o.data.toList=aN:=by simpa using b
   rw [show kP o.data.toList=false by rw [a];decide,show eP o.data.toList=false by rw [a];decide,show bP o.data.toList=false by rw [a];decide,show dZ o.data.toList=true by rw [a];decide];clear a;clear b;go_enter func130,ntmps130
   go_upto_region 1 with fail
   rw [r.out];go_wp2_with fail
   obtain ⟨⟨h,g,f⟩, -⟩:=d9 (iU s.out (.bool false) (.bool false) (.bool false));exact bodyPost_ret (v:=.tuple #[.agg #[.bool false,.bool false,.bool false],.bool true]) (by simp [results,results130,go_sem,h,g,f]) rfl ⟨rfl,t.out.trans ((i8 W w.heap.size _ _ _).below (fun i u=>by omega) (by omega))⟩
 | false =>
   cases c:(o.data.toList == lZ) with
   | true =>
     have d:=aH b;unfold aN at d;have k:=bG c;unfold lZ at k;have a:o.data.toList=lZ:=by simpa using c
     rw [show kP o.data.toList=false by rw [a];decide,show eP o.data.toList=true by rw [a];decide,show bP o.data.toList=false by rw [a];decide,show dZ o.data.toList=true by rw [a];decide];clear a;clear b c;go_enter func130,ntmps130
     go_upto_region 1 with fail
     rw [r.out];go_wp2_with fail
     obtain ⟨⟨h,g,f⟩, -⟩:=d9 (iU s.out (.bool false) (.bool true) (.bool false));exact bodyPost_ret (v:=.tuple #[.agg #[.bool false,.bool true,.bool false],.bool true]) (by simp [results,results130,go_sem,h,g,f]) rfl ⟨rfl,t.out.trans ((i8 W w.heap.size _ _ _).below (fun i u=>by omega) (by omega))⟩
   | false =>
     cases j:(o.data.toList == oO) with
     | true =>
       have d:=aH b;unfold aN at d;have k:=aH c;unfold lZ at k;have n:=bG j;unfold oO at n;have a:o.data.toList=oO:=by simpa using j
       rw [show kP o.data.toList=false by rw [a];decide,show eP o.data.toList=true by rw [a];decide,show bP o.data.toList=false by rw [a];decide,show dZ o.data.toList=true by rw [a];decide];clear a;clear b c j;go_enter func130,ntmps130
       go_upto_region 1 with fail
       rw [r.out];go_wp2_with fail
       obtain ⟨⟨h,g,f⟩, -⟩:=d9 (iU s.out (.bool false) (.bool true) (.bool false));exact bodyPost_ret (v:=.tuple #[.agg #[.bool false,.bool true,.bool false],.bool true]) (by simp [results,results130,go_sem,h,g,f]) rfl ⟨rfl,t.out.trans ((i8 W w.heap.size _ _ _).below (fun i u=>by omega) (by omega))⟩
     | false =>
       cases l:(o.data.toList == lY) with
       | true =>
         have d:=aH b;unfold aN at d;have k:=aH c;unfold lZ at k;have n:=aH j;unfold oO at n;have q:=bG l;unfold lY at q;have a:o.data.toList=lY:=by simpa using l
         rw [show kP o.data.toList=false by rw [a];decide,show eP o.data.toList=true by rw [a];decide,show bP o.data.toList=false by rw [a];decide,show dZ o.data.toList=true by rw [a];decide];clear a;clear b c j l;go_enter func130,ntmps130
         go_upto_region 1 with fail
         rw [r.out];go_wp2_with fail
         obtain ⟨⟨h,g,f⟩, -⟩:=d9 (iU s.out (.bool false) (.bool true) (.bool false));exact bodyPost_ret (v:=.tuple #[.agg #[.bool false,.bool true,.bool false],.bool true]) (by simp [results,results130,go_sem,h,g,f]) rfl ⟨rfl,t.out.trans ((i8 W w.heap.size _ _ _).below (fun i u=>by omega) (by omega))⟩
       | false =>
         cases m:(o.data.toList == aP) with
         | true =>
           have d:=aH b;unfold aN at d;have k:=aH c;unfold lZ at k;have n:=aH j;unfold oO at n;have q:=aH l;unfold lY at q;have x:=bG m;unfold aP at x;have a:o.data.toList=aP:=by simpa using m
           rw [show kP o.data.toList=false by rw [a];decide,show eP o.data.toList=true by rw [a];decide,show bP o.data.toList=true by rw [a];decide,show dZ o.data.toList=true by rw [a];decide];clear a;clear b c j l m;go_enter func130,ntmps130
           go_upto_region 1 with fail
           rw [r.out];go_wp2_with fail
           obtain ⟨⟨h,g,f⟩, -⟩:=d9 (iU s.out (.bool false) (.bool true) (.bool true));exact bodyPost_ret (v:=.tuple #[.agg #[.bool false,.bool true,.bool true],.bool true]) (by simp [results,results130,go_sem,h,g,f]) rfl ⟨rfl,t.out.trans ((i8 W w.heap.size _ _ _).below (fun i u=>by omega) (by omega))⟩
         | false =>
           cases p:(o.data.toList == cH) with
           | true =>
             have d:=aH b;unfold aN at d;have k:=aH c;unfold lZ at k;have n:=aH j;unfold oO at n;have q:=aH l;unfold lY at q;have x:=aH m;unfold aP at x;have z:=bG p;unfold cH at z;have a:o.data.toList=cH:=by simpa using p
             rw [show kP o.data.toList=true by rw [a];decide,show eP o.data.toList=true by rw [a];decide,show bP o.data.toList=false by rw [a];decide,show dZ o.data.toList=true by rw [a];decide];clear a;clear b c j l m p;go_enter func130,ntmps130
             go_upto_region 1 with fail
             rw [r.out];go_wp2_with fail
             obtain ⟨⟨h,g,f⟩, -⟩:=d9 (iU s.out (.bool true) (.bool true) (.bool false));exact bodyPost_ret (v:=.tuple #[.agg #[.bool true,.bool true,.bool false],.bool true]) (by simp [results,results130,go_sem,h,g,f]) rfl ⟨rfl,t.out.trans ((i8 W w.heap.size _ _ _).below (fun i u=>by omega) (by omega))⟩
           | false =>
             have d:=aH b;unfold aN at d;have k:=aH c;unfold lZ at k;have n:=aH j;unfold oO at n;have q:=aH l;unfold lY at q;have x:=aH m;unfold aP at x;have z:=aH p;unfold cH at z;have y:dZ o.data.toList=false:=by unfold dZ;rw [b,c,j,l,m,p];rfl
             rw [show kP o.data.toList=false from p,show eP o.data.toList=false by unfold eP;rw [y];rfl,show bP o.data.toList=false from m,y];clear y;clear b c j l m p;go_enter func130,ntmps130
             go_upto_region 1 with fail
             rw [r.out];go_wp2_with fail
             obtain ⟨⟨h,g,f⟩, -⟩:=d9 (iU s.out (.bool false) (.bool false) (.bool false));exact bodyPost_ret (v:=.tuple #[.agg #[.bool false,.bool false,.bool false],.bool false]) (by simp [results,results130,go_sem,h,g,f]) rfl ⟨rfl,t.out.trans ((i8 W w.heap.size _ _ _).below (fun i u=>by omega) (by omega))⟩
theorem Et (k:Int) (w:World):Calls prog 187 #[.int .i64 k] w fun e w'=>e=.returned (.bool (decide (1<=k) && decide (k<=16)))/\w=w':=by
 by_cases h:1<=k
 · rw [decide_eq_true h,Bool.true_and]
   go_enter func187,ntmps187
   go_wp2_with fail
   go_ret;exact ⟨rfl,rfl⟩
 · rw [decide_eq_false h,Bool.false_and]
   have a:decide (1<=k)=false:=decide_eq_false h;go_enter func187,ntmps187
   go_wp2_with fail
   go_ret;exact ⟨rfl,rfl⟩
theorem Bk (o:Tr) (w:World):Calls prog 189 #[.string o] w fun e w'=>e=.returned (.bool (bE o 0 0).isSome)/\w=w':=by
 have C:=aA (yE o 0 0 w);obtain ⟨z,hz⟩:∃ z,(bE o 0 0).isSome=z:=⟨_,rfl⟩;obtain ⟨y,a⟩:∃ y,(bE o 0 0).getD false=y:=⟨_,rfl⟩;rw [hz,a] at C;rw [hz];clear hz a;go_enter func189,ntmps189
 go_wp2_with fail
 refine C.out.mono ?_;rintro e b ⟨rfl,rfl⟩;clear C;go_wp2_with fail
 go_ret;exact ⟨rfl,rfl⟩
def Db (d:CD):Int:=if (bE d.op 0 0).isSome=false then 5 else if aW d.a=0 then aW d.b else aW d.a
theorem Nj (d:CD) (r:List CD):gO (d::r)=if Db d=0 then gO r else Db d:=by
 rw [gO];unfold Db;by_cases hz:(bE d.op 0 0).isSome=false
 · rw [if_pos hz,if_pos hz,if_neg (show ¬ (5:Int)=0 by decide)]
 · rw [if_neg hz,if_neg hz]
   by_cases h:aW d.a=0
   · rw [if_pos h,if_pos h]
   · rw [if_neg h,if_neg h,if_neg h]
abbrev cdX (d:CD) (a1:Tp) (c1:Nat) (a2:Tp) (c2:Nat):Obj:=.cells #[.string d.op,.string d.a.op,.string d.a.nm,.int .i64 d.a.n,.slice a1 d.a.ks.len c1,.string d.b.op,.string d.b.nm,.int .i64 d.b.n,.slice a2 d.b.ks.len c2] 144
theorem AC (d:CD) (G:Nat->Prop) (w:World) (a1:Tp) (c1:Nat) (a2:Tp) (c2:Nat) (P:SzF d.a.f) (O:SzF d.b.f) (r1:aK G w a1 d.a.ks) (r2:aK G w a2 d.b.ks) :
 Calls prog 138 #[cdV d a1 c1 a2 c2] w fun e w'=>e=.returned (.int .i64 (Db d))/\Below w.heap.size w w':=by
 have o:=bA0 w (cdX d a1 c1 a2 c2);have q:=heap_alloc_new w (cdX d a1 c1 a2 c2);have X:(w.alloc (cdX d a1 c1 a2 c2)).heap.size=w.heap.size+1:=Tc _ _;have R1:=aA (r1.kept o);have Z:=aA (r2.kept o);generalize N:w.alloc (cdX d a1 c1 a2 c2)=W at *;have HW:=aA N;have t:=aA o;have HN:=aA q;have u:=aA (Bk d.op W);have y:=aA (i1 d.a G W a1 c1 P R1.out);have x:=aA (fun V (Y:Below W.heap.size W V)=>i1 d.b G V a2 c2 O (Z.out.kept Y));obtain ⟨z,hz⟩:∃ z,(bE d.op 0 0).isSome=z:=⟨_,rfl⟩;obtain ⟨k,g⟩:∃ e,aW d.a=e:=⟨_,rfl⟩;obtain ⟨R,c⟩:∃ e,aW d.b=e:=⟨_,rfl⟩;obtain ⟨r,hr⟩:∃ r,Db d=r:=⟨_,rfl⟩;rw [hr];unfold Db at hr;rw [hz,g,c] at hr;have T:=aA hr;rw [hz] at u;rw [g] at y;rw [c] at x;obtain ⟨M,L,I,H,E,D,C,B,A⟩:=iD q;clear N o q P O r1 r2 hz g c hr;go_enter func138,ntmps138
 go_upto_region 1 with fail
 rw [show w.alloc (.cells #[.string d.op,.string d.a.op,.string d.a.nm,.int .i64 d.a.n,.slice a1 d.a.ks.len c1,.string d.b.op,.string d.b.nm,.int .i64 d.b.n,.slice a2 d.b.ks.len c2] 144)=W from HW.out];go_wp2_with fail
 refine u.out.mono ?_;rintro e w1 ⟨rfl,rfl⟩;cases z with
 | false =>
   have m:=aA (show (5:Int)=r from T.out);go_wp2_with fail
   go_ret;exact ⟨congrArg (fun z=>Ending.returned (.int .i64 z)) m.out,t.out⟩
 | true =>
   have m:=aA (show (if k=0 then R else k)=r from T.out);go_wp2_with fail
   refine y.out.mono ?_;rintro e U ⟨rfl,h⟩;have j:=aA (t.out.trans (h.mono t.out.size));have S:=(h.block w.heap.size (by omega)).trans HN.out;have C2:=aA (x.out U h);clear h y u x M L I H E D C B A;obtain ⟨M,L,I,H,E,D,C,B,A⟩:=iD S;clear S;by_cases l:k=0
   · have p:=aA (show R=r by rw [<- m.out,if_pos l])
     subst l;go_wp2_with fail
     refine C2.out.mono ?_;rintro e w3 ⟨rfl,h⟩;have s:=aA (j.out.trans (h.mono j.out.size));clear h;go_wp2_with fail
     go_ret;exact ⟨congrArg (fun z=>Ending.returned (.int .i64 z)) p.out,s.out⟩
   · have p:=aA (show k=r by rw [<- m.out,if_neg l])
     have q1:((k:Int) != 0)=true:=by simpa using l
     go_wp2_with fail
     go_ret;exact ⟨congrArg (fun z=>Ending.returned (.int .i64 z)) p.out,j.out⟩
def E4 (x:AG):Int :=
 if kP x.fn.data.toList=true/\¬ (1<=x.k/\x.k<=16) then 1 else
 if eP x.fn.data.toList=true/\¬ aW x.e=0 then aW x.e else
 if bP x.fn.data.toList=true then aW x.g else 0
theorem P8 (x:AG):gA x=if dZ x.fn.data.toList=false then 5 else if E4 x=0 then (if 4<x.wh.length then 4 else gO x.wh) else E4 x:=by
 unfold gA;by_cases d:dZ x.fn.data.toList=false
 · rw [if_pos d,if_pos d]
 rw [if_neg d,if_neg d];have c:dZ x.fn.data.toList=true:=by simpa using d
 unfold E4 EZ;obtain ⟨F,t⟩:∃ F,x.fn.data.toList=F:=⟨_,rfl⟩;rw [t] at c |-
 have p:kP F=true ↔ F=cH:=by unfold kP;exact beq_iff_eq
 have l:bP F=true ↔ F=aP:=by unfold bP;exact beq_iff_eq
 have m:eP F=true ↔ ¬ F=aN:=by
  unfold eP;rw [c,Bool.true_and];simp
 have r:¬ cH=aN:=by decide
 have q:¬ cH=aP:=by decide
 have y:¬ aP=aN:=by decide
 have u:¬ aN=aP:=by decide
 by_cases b:F=cH
 · have s:=p.2 b
   have g:eP F=true:=m.2 (by rw [b];exact r);have n:¬ bP F=true:=fun h=>q (b.symm.trans (l.1 h))
   by_cases o:x.k<1\/16<x.k
   · rw [if_pos ⟨b,o⟩,if_pos (show kP F=true/\¬ (1<=x.k/\x.k<=16) from ⟨s,by omega⟩),if_neg (show ¬ (1:Int)=0 by decide)]
   · rw [if_neg (fun h=>o h.2),if_neg (show ¬ (kP F=true/\¬ (1<=x.k/\x.k<=16)) from fun h=>h.2 (by omega)),if_neg (show ¬ F=aN by rw [b];exact r),if_neg (show ¬ F=aP by rw [b];exact q),if_neg n]
     by_cases a:aW x.e=0
     · rw [if_pos a,if_neg (show ¬ (eP F=true/\¬ aW x.e=0) from fun h=>h.2 a)]
     · rw [if_neg a,if_pos (show eP F=true/\¬ aW x.e=0 from ⟨g,a⟩)]
 · rw [if_neg (fun h=>b h.1),if_neg (show ¬ (kP F=true/\¬ (1<=x.k/\x.k<=16)) from fun h=>b (p.1 h.1))]
   by_cases f:F=aN
   · have g:¬ eP F=true:=fun h=>m.1 h f
     have n:¬ bP F=true:=fun h=>u (f.symm.trans (l.1 h))
     rw [if_pos f,if_neg (show ¬ (eP F=true/\¬ aW x.e=0) from fun h=>g h.1),if_neg n]
   · have g:eP F=true:=m.2 f
     rw [if_neg f];by_cases a:aW x.e=0
     · rw [if_pos a,if_neg (show ¬ (eP F=true/\¬ aW x.e=0) from fun h=>h.2 a)]
       by_cases j:F=aP
       · rw [if_pos j,if_pos (l.2 j)]
       · rw [if_neg j,if_neg (show ¬ bP F=true from fun h=>j (l.1 h))]
     · rw [if_neg a,if_pos (show eP F=true/\¬ aW x.e=0 from ⟨g,a⟩)]
def wF:Bool->Int->Int
 | true,e2=>e2
 | false,_=>0
def zR:Bool->Bool->Int->Int->Int
 | true,bb,e1,e2=>if e1=0 then wF bb e2 else e1
 | false,bb,_,e2=>wF bb e2
def SZ:Bool->Bool->Bool->Bool->Int->Int->Int
 | true,false,_,_,_,_=>1
 | true,true,ee,bb,e1,e2=>zR ee bb e1 e2
 | false,_,ee,bb,e1,e2=>zR ee bb e1 e2
theorem zP (c:Bool) {b a:Int} (h:b=0):zR true c b a=wF c a:=if_pos h
theorem zQ (c:Bool) {a b:Int} (h:¬ a=0):zR true c a b=a:=if_neg h
theorem Qa (x:AG):E4 x=SZ (kP x.fn.data.toList) (decide (1<=x.k) && decide (x.k<=16)) (eP x.fn.data.toList) (bP x.fn.data.toList) (aW x.e) (aW x.g):=by
 unfold E4;have hz:(decide (1<=x.k) && decide (x.k<=16))=true ↔ 1<=x.k/\x.k<=16:=by rw [Bool.and_eq_true,decide_eq_true_eq,decide_eq_true_eq]
 obtain ⟨c,b⟩:∃ z,(decide (1<=x.k) && decide (x.k<=16))=z:=⟨_,rfl⟩;rw [b] at hz |-
 have a:(if eP x.fn.data.toList=true/\¬ aW x.e=0 then aW x.e else if bP x.fn.data.toList=true then aW x.g else 0)=zR (eP x.fn.data.toList) (bP x.fn.data.toList) (aW x.e) (aW x.g):=by
  have d:(if bP x.fn.data.toList=true then aW x.g else 0)=wF (bP x.fn.data.toList) (aW x.g):=by cases bP x.fn.data.toList <;> rfl
  rw [d];cases eP x.fn.data.toList with
  | false=>rw [if_neg (fun h=>by cases h.1)];rfl
  | true =>
    by_cases h:aW x.e=0
    · rw [if_neg (fun g=>g.2 h),zP _ h]
    · rw [if_pos ⟨rfl,h⟩,zQ _ h]
 rw [a];cases kP x.fn.data.toList with
 | false=>rw [if_neg (fun h=>by cases h.1)];cases c <;> rfl
 | true =>
   cases c with
   | false=>rw [if_pos ⟨rfl,fun h=>by have:=hz.2 h;cases this⟩];rfl
   | true=>rw [if_neg (fun h=>h.2 (hz.1 rfl))];rfl
theorem AE (x:AG) (p:PA) (G:Nat->Prop) (w:World) (h1:SzF x.e.f) (h2:SzF x.g.f) (r1:aK G w p.ea x.e.ks) (r2:aK G w p.ga x.g.ks) :
 Calls prog 137 #[agV x p,ptV x.fn.data.toList] w fun e w'=>e=.returned (.int .i64 (E4 x))/\Below w.heap.size w w':=by
 unfold ptV;have B0:=bA0 w (agP x p);have N0:=heap_alloc_new w (agP x p);have H:(w.alloc (agP x p)).heap.size=w.heap.size+1:=Tc _ _;have R1:=r1.kept B0;have R2:=r2.kept B0;generalize I:w.alloc (agP x p)=W0 at *;obtain ⟨E,hk⟩:∃ b,kP x.fn.data.toList=b:=⟨_,rfl⟩;obtain ⟨u,he⟩:∃ b,eP x.fn.data.toList=b:=⟨_,rfl⟩;obtain ⟨o,hb⟩:∃ b,bP x.fn.data.toList=b:=⟨_,rfl⟩;obtain ⟨r,hr⟩:∃ r,E4 x=r:=⟨_,rfl⟩;rw [hr];rw [Qa,hk,he,hb] at hr;rw [hk,he,hb];have P:=bA0 W0 (ptO E u o);have N1:=heap_alloc_new W0 (ptO E u o);have ja:(W0.alloc (ptO E u o)).heap.size=W0.heap.size+1:=Tc _ _;have NA:=(P.block w.heap.size (by omega)).trans N0;have BB:=B0.trans (P.mono (by omega));have R3:=aA (R1.kept P);have R4:=aA (R2.kept P);generalize hW:W0.alloc (ptO E u o)=W at *;rw [H] at N1;have jb:=aA I;have HW:=aA hW;have q:=aA BB;have HA:=aA NA;have HN:=aA N1;have MK:=aA (Et x.k W);obtain ⟨zk,A⟩:∃ z,(decide (1<=x.k) && decide (x.k<=16))=z:=⟨_,rfl⟩;rw [A] at MK hr;have N:=aA (i1 x.e G W p.ea p.ec h1 R3.out);have M:=aA (fun V (hV:Below W.heap.size W V)=>i1 x.g G V p.ga p.gc h2 (R4.out.kept hV));have O:=aA (i1 x.g G W p.ga p.gc h2 R4.out);obtain ⟨y,C⟩:∃ e,aW x.e=e:=⟨_,rfl⟩;obtain ⟨s,B⟩:∃ e,aW x.g=e:=⟨_,rfl⟩;rw [C,B] at hr;rw [C] at N;rw [B] at M O;have HR:=aA hr;have jc:=aA A;obtain ⟨m0,m1,m2,m3,m4,m5,m6,Z,Y,X,t⟩:=aE NA;obtain ⟨⟨U,T,S⟩, -⟩:=d9 N1;clear I hW B0 P N0 N1 NA BB R1 R2 h1 h2 r1 r2 C B hr hk he hb A H ja;go_enter func137,ntmps137
 go_upto_region 1 with fail
 rw [show w.alloc (.cells #[.string x.fn,.int .i64 x.k,.string x.e.op,.string x.e.nm,.int .i64 x.e.n,.slice p.ea x.e.ks.len p.ec,.string x.g.op,.string x.g.nm,.int .i64 x.g.n,.slice p.ga x.g.ks.len p.gc,.slice p.wa x.wh.length p.wc] 70)=W0 from jb.out,HW.out];cases E with
 | true =>
   go_wp2_with fail
   refine MK.out.mono ?_;rintro e v ⟨rfl,rfl⟩;cases zk with
   | false =>
     have j:=aA (show (1:Int)=r from HR.out);go_wp2_with fail
     go_ret;exact ⟨congrArg (fun z=>Ending.returned (.int .i64 z)) j.out,q.out⟩
   | true =>
     have D:=aA (show zR u o y s=r from HR.out);cases u with
     | true =>
       go_wp2_with fail
       refine N.out.mono ?_;rintro e w2 ⟨rfl,c⟩;have h:=aA (q.out.trans (c.mono q.out.size));have L:=(c.block _ (aG HN.out)).trans HN.out;have R:=(c.block _ (aG HA.out)).trans HA.out;have C2:=aA (M.out w2 c);clear c N M O MK m0 m1 m2 m3 m4 m5 m6 Z Y X t U T S;obtain ⟨m0,m1,m2,m3,m4,m5,m6,Z,Y,X,t⟩:=aE R;obtain ⟨⟨U,T,S⟩, -⟩:=d9 L;clear L R;by_cases d:y=0
       · have j:=aA (show wF o s=r by rw [<- D.out,zP _ d])
         subst d;cases o with
         | true =>
           have l:=aA (show s=r from j.out);go_wp2_with fail
           refine C2.out.mono ?_;rintro e w3 ⟨rfl,a⟩;have m:=aA (h.out.trans (a.mono h.out.size));clear a;go_wp2_with fail
           go_ret;exact ⟨congrArg (fun z=>Ending.returned (.int .i64 z)) l.out,m.out⟩
         | false =>
           have l:=aA (show (0:Int)=r from j.out);go_wp2_with fail
           go_ret;exact ⟨congrArg (fun z=>Ending.returned (.int .i64 z)) l.out,h.out⟩
       · have j:=aA (show y=r by rw [<- D.out,zQ _ d])
         have q1:((y:Int) != 0)=true:=by simpa using d
         go_wp2_with fail
         go_ret;exact ⟨congrArg (fun z=>Ending.returned (.int .i64 z)) j.out,h.out⟩
     | false =>
       have j:=aA (show wF o s=r from D.out);cases o with
       | true =>
         have l:=aA (show s=r from j.out);go_wp2_with fail
         refine O.out.mono ?_;rintro e w3 ⟨rfl,a⟩;have m:=aA (q.out.trans (a.mono q.out.size));clear a;go_wp2_with fail
         go_ret;exact ⟨congrArg (fun z=>Ending.returned (.int .i64 z)) l.out,m.out⟩
       | false =>
         have l:=aA (show (0:Int)=r from j.out);go_wp2_with fail
         go_ret;exact ⟨congrArg (fun z=>Ending.returned (.int .i64 z)) l.out,q.out⟩
 | false =>
   have D:=aA (show zR u o y s=r from HR.out);cases u with
   | true =>
     go_wp2_with fail
     refine N.out.mono ?_;rintro e w2 ⟨rfl,c⟩;have h:=aA (q.out.trans (c.mono q.out.size));have L:=(c.block _ (aG HN.out)).trans HN.out;have R:=(c.block _ (aG HA.out)).trans HA.out;have C2:=aA (M.out w2 c);clear c N M O MK m0 m1 m2 m3 m4 m5 m6 Z Y X t U T S;obtain ⟨m0,m1,m2,m3,m4,m5,m6,Z,Y,X,t⟩:=aE R;obtain ⟨⟨U,T,S⟩, -⟩:=d9 L;clear L R;by_cases d:y=0
     · have j:=aA (show wF o s=r by rw [<- D.out,zP _ d])
       subst d;cases o with
       | true =>
         have l:=aA (show s=r from j.out);go_wp2_with fail
         refine C2.out.mono ?_;rintro e w3 ⟨rfl,a⟩;have m:=aA (h.out.trans (a.mono h.out.size));clear a;go_wp2_with fail
         go_ret;exact ⟨congrArg (fun z=>Ending.returned (.int .i64 z)) l.out,m.out⟩
       | false =>
         have l:=aA (show (0:Int)=r from j.out);go_wp2_with fail
         go_ret;exact ⟨congrArg (fun z=>Ending.returned (.int .i64 z)) l.out,h.out⟩
     · have j:=aA (show y=r by rw [<- D.out,zQ _ d])
       have q1:((y:Int) != 0)=true:=by simpa using d
       go_wp2_with fail
       go_ret;exact ⟨congrArg (fun z=>Ending.returned (.int .i64 z)) j.out,h.out⟩
   | false =>
     have j:=aA (show wF o s=r from D.out);cases o with
     | true =>
       have l:=aA (show s=r from j.out);go_wp2_with fail
       refine O.out.mono ?_;rintro e w3 ⟨rfl,a⟩;have m:=aA (q.out.trans (a.mono q.out.size));clear a;go_wp2_with fail
       go_ret;exact ⟨congrArg (fun z=>Ending.returned (.int .i64 z)) l.out,m.out⟩
     | false =>
       have l:=aA (show (0:Int)=r from j.out);go_wp2_with fail
       go_ret;exact ⟨congrArg (fun z=>Ending.returned (.int .i64 z)) l.out,q.out⟩
theorem rT {G:Nat->Prop} (x:AG) (p:PA) (w:World) (hS:SzG x) (jc:x.wh.length<=9223372036854775807) (hr:aX G w x p):Calls prog 81 #[agV x p] w fun e w'=>e=.returned (.int .i64 (gA x))/\Below w.heap.size w w':=by
 rw [P8];have K0:=qS hr;generalize hW:w.alloc (agP x p)=W at K0;have HW:=aA hW;have m:=aA K0;have HS:=aA hS;have CP:=aA (mO x.fn W);obtain ⟨F,hF⟩:∃ F,x.fn.data.toList=F:=⟨_,rfl⟩;have HF:=aA hF;rw [hF] at CP |-
 obtain ⟨ff,hf⟩:∃ b,dZ F=b:=⟨_,rfl⟩;rw [hf] at CP |-
 obtain ⟨ea,h⟩:∃ e,E4 x=e:=⟨_,rfl⟩;rw [h];have ja:=aA h;obtain ⟨r,hR⟩:∃ r,(if ff=false then (5:Int) else if ea=0 then (if 4<x.wh.length then 4 else gO x.wh) else ea)=r:=⟨_,rfl⟩;rw [hR];have HR:=aA hR;clear hW K0 hr hS hf h hR hF;obtain ⟨I,H,E,D,C,A,y,t,s,q,f⟩:=aE m.out.n;go_enter func81,ntmps81
 go_upto_region 1 with fail
 rw [show w.alloc (.cells #[.string x.fn,.int .i64 x.k,.string x.e.op,.string x.e.nm,.int .i64 x.e.n,.slice p.ea x.e.ks.len p.ec,.string x.g.op,.string x.g.nm,.int .i64 x.g.n,.slice p.ga x.g.ks.len p.gc,.slice p.wa x.wh.length p.wc] 70)=W from HW.out];go_wp2_with fail
 refine CP.out.mono ?_;rintro e Y ⟨rfl,U⟩;have K1:=m.out.step U;have BA:=bA0 Y (ptO (kP F) (eP F) (bP F));have NA:=heap_alloc_new Y (ptO (kP F) (eP F) (bP F));have M:=aA (K1.step BA);clear U K1 BA CP m I H E D C A y t s q f;go_upto_region 2 with fail
 generalize Y.alloc (ptO (kP F) (eP F) (bP F))=V at *;generalize Y.heap.size=B at *;obtain ⟨I,H,E,D,C,A,y,t,s,q,f⟩:=aE M.out.n;obtain ⟨⟨y0,y1,y2⟩, -⟩:=d9 NA;clear NA;cases ff with
 | false =>
   have l:=aA (show (5:Int)=r from HR.out);go_wp2_with fail
   go_ret;exact ⟨congrArg (fun z=>Ending.returned (.int .i64 z)) l.out,M.out.b⟩
 | true =>
   have TR:=aA (show (if ea=0 then (if 4<x.wh.length then (4:Int) else gO x.wh) else ea)=r from HR.out)
   have CA:=aA (show Calls prog 137 #[agV x p,.agg #[.bool (kP F),.bool (eP F),.bool (bP F)]] V fun e w'=>e=.returned (.int .i64 ea)/\Below V.heap.size V w' by
    have:=AE x p G V HS.out.e HS.out.g M.out.r.e M.out.r.g;rw [ja.out,HF.out] at this;exact this)
   clear HR;go_wp2_with fail
   refine CA.out.mono ?_;rintro e w2 ⟨rfl,T⟩;have X:=aA (M.out.step T);clear T CA M I H E D C A y t s q f y0 y1 y2;obtain ⟨I,H,E,D,C,A,y,t,s,q,f⟩:=aE X.out.n;by_cases h:ea=0
   · have TB:=aA (show (if 4<x.wh.length then (4:Int) else gO x.wh)=r by rw [<- TR.out,if_pos h])
     subst h;by_cases h4:4<x.wh.length
     · have l:=aA (show (4:Int)=r by rw [<- TB.out,if_pos h4])
       have a4:(4:Int)<(x.wh.length:Int):=by omega
       go_wp2_with fail
       go_ret;exact ⟨congrArg (fun z=>Ending.returned (.int .i64 z)) l.out,X.out.b⟩
     · have T0:=aA (show gO (x.wh.drop 0)=r by rw [List.drop_zero, <- TB.out,if_neg h4])
       have a4:¬ (4:Int)<(x.wh.length:Int):=by omega
       have a5:decide (4<x.wh.length)=false:=decide_eq_false h4;clear TB TR;go_wp2_with fail
       clear I H E D C A y t s q f;go_loopw [7,8,30] (fun x7 x8 i wr=>∃ (k:Nat) (u v:Value),x7=u/\x8=v/\i=.int .i64 k/\k<=x.wh.length/\Hid (gO (x.wh.drop k)=r)/\Hid (KP9 G w x p wr)) (fun _ _ i _=>x.wh.length-(intOf i).toNat)
       case atStart=>exact ⟨0,_,_,rfl,rfl,rfl,Nat.zero_le _,T0,X⟩
       case round =>
        obtain ⟨k,u,v,rfl,rfl,rfl,hk,HC,m⟩:=hrel;clear T0 X;obtain ⟨I,H,E,D,C,A,y,t,s,q,f⟩:=aE m.out.n;by_cases j:k<x.wh.length
        · obtain ⟨d,hd⟩:∃ d,x.wh[k]? = some d:=⟨_,List.getElem?_eq_getElem j⟩
          have N:¬ x.wh=[]:=fun e=>by rw [e] at j;simp at j
          obtain ⟨b,off,o, -, -,R⟩:=m.out.r.c.resolve_left N;obtain ⟨a1,c1,a2,c2,⟨p0,p1,p2,p3,p4,p5,p6,p7,p8⟩,r1,r2⟩:=R k d hd
          have P:x.wh.drop k=d::x.wh.drop (k+1):=by
           rw [List.drop_eq_getElem_cons j];have:=List.getElem?_eq_getElem j;rw [this] at hd;rw [Option.some.inj hd]
          have L:=HS.out.c d (List.mem_of_getElem? hd);have HD:=aA (show (if Db d=0 then gO (x.wh.drop (k+1)) else Db d)=r by rw [<- HC.out,P,Nj]);have BD:=bA0 wr (cdX d a1 c1 a2 c2);have ND:=heap_alloc_new wr (cdX d a1 c1 a2 c2);have K4:=aA (m.out.step BD);have CC:=aA (AC d G (wr.alloc (cdX d a1 c1 a2 c2)) a1 c1 a2 c2 L.1 L.2 (r1.kept BD) (r2.kept BD));obtain ⟨e1,O⟩:∃ e,Db d=e:=⟨_,rfl⟩;rw [O] at CC HD;rw [o] at f |-
          have b1:(k:Int)<(x.wh.length:Int):=by omega
          have b2:(0:Int)<=(k:Int):=by omega
          have b3:((k:Int)).toNat=k:=by omega
          clear N R P L hd r1 r2 BD O o HC m;go_upto_region 12 with fail
          rw [show wr.alloc (.cells #[.string d.op,.string d.a.op,.string d.a.nm,.int .i64 d.a.n,.slice a1 d.a.ks.len c1,.string d.b.op,.string d.b.nm,.int .i64 d.b.n,.slice a2 d.b.ks.len c2] 144)=wr.alloc (cdX d a1 c1 a2 c2) from rfl];generalize wr.alloc (cdX d a1 c1 a2 c2)=V1 at *;clear p0 p1 p2 p3 p4 p5 p6 p7 p8;obtain ⟨p0,p1,p2,p3,p4,p5,p6,p7,p8⟩:=iD ND;clear ND;go_wp2_with fail
          refine CC.out.mono ?_;rintro e w5 ⟨rfl,S⟩;have K5:=aA (K4.out.step S);clear S CC K4 p0 p1 p2 p3 p4 p5 p6 p7 p8 I H E D C A y t s q f;by_cases Z:e1=0
          · have jb:=aA (show gO (x.wh.drop (k+1))=r by rw [<- HD.out,if_pos Z])
            subst Z;go_wp2_with fail
            go_roundw
            case rel=>exact ⟨k+1,_,_,rfl,rfl,by simp,by omega,jb,K5⟩
            case measure=>simp [intOf];omega
          · have l:=aA (show e1=r by rw [<- HD.out,if_neg Z])
            have q1:((e1:Int) != 0)=true:=by simpa using Z
            go_wp2_with fail
            go_ret;exact ⟨congrArg (fun z=>Ending.returned (.int .i64 z)) l.out,K5.out.b⟩
        · have l:=aA (show (0:Int)=r by rw [<- HC.out,List.drop_of_length_le (by omega)];rfl)
          have b1:¬ (k:Int)<(x.wh.length:Int):=by omega
          have b2:decide (k<x.wh.length)=false:=decide_eq_false j;go_wp2_with fail
          go_ret;exact ⟨congrArg (fun z=>Ending.returned (.int .i64 z)) l.out,m.out.b⟩
   · have l:=aA (show ea=r by rw [<- TR.out,if_neg h])
     have q1:((ea:Int) != 0)=true:=by simpa using h
     go_wp2_with fail
     go_ret;exact ⟨congrArg (fun z=>Ending.returned (.int .i64 z)) l.out,X.out.b⟩
end Go.Proofs.YtgfkjkokmcejbaaGreatDoor
