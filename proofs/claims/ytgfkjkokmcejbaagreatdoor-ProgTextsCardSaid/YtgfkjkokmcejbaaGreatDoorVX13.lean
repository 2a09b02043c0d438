/-
 No statement: what ProgTextsLift needs, of the texts ZHead, Take, QParse, QFew.
-/
import Derived.Test.YtgfkjkokmcejbaaGreatDoorVX12
import Derived.Deep.CutBlock
import Derived.Deep.DeepCutAuto
import Derived.OrdersHeld
import Derived.NoCompiler
set_option maxHeartbeats 40000000
set_option maxRecDepth 100000
open List renaming length_append -> Tb
open Go.World renaming size_alloc -> Tc
open Nat renaming le_refl -> Td
open Go.Value renaming slice -> Tj
namespace Go.Proofs.YtgfkjkokmcejbaaGreatDoor
open Go.RowKit Tryz
theorem xD (q:UInt8->Bool):∀ (l:Tq) (c:UInt8) (r:Tq),l.dropWhile q=c::r->q c=false
 | [],c,r,h=>by simp at h
 | d :: l, c, r, h => by
   cases hd:q d with
   | true=>rw [List.dropWhile_cons_of_pos hd] at h;exact xD q l c r h
   | false =>
     rw [List.dropWhile_cons_of_neg (by simp [hd])] at h;cases h;exact hd
theorem Dd (s:Tr) {k:Nat} (h:k<s.size):s.data.toList.drop k=s[k]::s.data.toList.drop (k+1):=by
 have a:k<s.data.toList.length:=by simpa using h
 rw [List.drop_eq_getElem_cons a];rfl
section
variable {q : UInt8 -> Bool} {s : Tr} {p m k : Nat}
theorem FH (f:p+bR q (s.data.toList.drop p)=m) (r:p<=k) (o:k<m):∃ h:k<s.size,q s[k]=true:=by
 obtain ⟨n,hn⟩:∃ n,bR q (s.data.toList.drop p)=n:=⟨_,rfl⟩;have hl:((s.data.toList.drop p).takeWhile q).length=n:=hn;have b:=mC q (s.data.toList.drop p);rw [hn] at b f;have c:k-p<((s.data.toList.drop p).takeWhile q).length:=by omega
 have d:(s.data.toList.drop p)[k-p]? = some ((s.data.toList.drop p).takeWhile q)[k-p]:=by
  rw [<- List.getElem?_eq_getElem c, <- b,List.getElem?_take_of_lt (by omega)]
 rw [List.getElem?_drop,show p+(k-p)=k by omega] at d;obtain ⟨g,l⟩:=List.getElem?_eq_some_iff.1 d;have a:k<s.size:=by simpa using g
 refine ⟨a,?_⟩;have j:s[k]=((s.data.toList.drop p).takeWhile q)[k-p]:=l;rw [j];exact List.all_eq_true.1 List.all_takeWhile _ (List.getElem_mem c)
theorem FJ (a:p+bR q (s.data.toList.drop p)=m) (h:m<s.size):q s[m]=false:=by
 have hd:=pO q (s.data.toList.drop p);rw [List.drop_drop,a,Dd s h] at hd;exact xD q _ _ _ hd.symm
theorem Cl (a:p+bR q (s.data.toList.drop p)=m) (hp:p<=s.size):p<=m/\m<=s.size:=by
 have:=uC q (s.data.toList.drop p);rw [List.length_drop] at this;have b:s.data.toList.length=s.size:=by simp
 omega
end
theorem Ab (c:UInt8):((c.toNat:Int) == 32)=jS c:=by
 rw [Bool.eq_iff_iff,beq_iff_eq,jS,beq_iff_eq, <- UInt8.toNat_inj];show ((c.toNat:Int)=32) ↔ (c.toNat=32);omega
theorem Hu {c:UInt8}:eM c=(((c.toNat:Int) != 32) && ((c.toNat:Int) != 61)):=by
 have a:((c.toNat:Int) == 61)=(c == 61):=by
  rw [Bool.eq_iff_iff,beq_iff_eq,beq_iff_eq, <- UInt8.toNat_inj];show ((c.toNat:Int)=61) ↔ (c.toNat=61);omega
 have b:((c.toNat:Int) == 32)=(c == 32):=Ab c;unfold eM bne;rw [a,b]
theorem PM {s:Tr} {a b c:Nat} (ha:0+bR jS (s.data.toList.drop 0)=a) (j:a+bR eM (s.data.toList.drop a)=b) (l:b+bR jS (s.data.toList.drop b)=c) :
 (b=a->fN s.data.toList=none)/\(s.size<=c->fN s.data.toList=none)/\(∀ h:c<s.size,¬ s[c]=61->fN s.data.toList=none) /\
 (¬ b=a->∀ h:c<s.size,s[c]=61->fN s.data.toList=some ((s.data.toList.drop a).take (b-a),s.data.toList.drop (c+1))):=by
 rw [Nat.zero_add,List.drop_zero] at ha;have p:s.data.toList.dropWhile jS=s.data.toList.drop a:=by rw [<- pO,ha]
 have k:(s.data.toList.drop a).takeWhile eM=(s.data.toList.drop a).take (b-a):=by rw [<- mC, <- j,Nat.add_sub_cancel_left]
 have o:(s.data.toList.drop a).dropWhile eM=s.data.toList.drop b:=by rw [<- pO,List.drop_drop,j]
 have n:(s.data.toList.drop b).dropWhile jS=s.data.toList.drop c:=by rw [<- pO,List.drop_drop,l]
 have d:fN s.data.toList=if (s.data.toList.drop a).take (b-a)=[] then none else match s.data.toList.drop c with
  | 61::r=>some ((s.data.toList.drop a).take (b-a),r)
  | _=>none:=by
  unfold fN;simp only;rw [p,k,o,n];all_goals rfl
 refine ⟨fun h=>?_,fun h=>?_,fun h g=>?_,fun q h g=>?_⟩
 · rw [d,if_pos (by rw [h,Nat.sub_self,List.take_zero])]
 · rw [d,show s.data.toList.drop c=[] from List.drop_of_length_le (by simpa using h)]
   split <;> rfl
 · rw [d,Dd s h]
   split
   · rfl
   · split
     · rename_i r hr
       exact absurd (List.cons.inj hr).1 g
     · rfl
 · have f:¬ (s.data.toList.drop a).take (b-a)=[]:=by
    intro hn;have:=congrArg List.length hn;rw [<- k] at this
    have m:((s.data.toList.drop a).takeWhile eM).length=b-a:=by
     show bR eM _=_;omega
    rw [m] at this;simp at this;omega
   rw [d,Dd s h,g,if_neg f];rfl
theorem Nk (s:Tr) (k m:Nat):s.extract k m=⟨((s.data.toList.drop k).take (m-k)).toArray⟩:=by
 apply dO
 rw [ByteArray.data_extract,Array.toList_extract]
theorem Qe (s:Tr) (k:Nat):s.extract k s.size=⟨(s.data.toList.drop k).toArray⟩:=by
 rw [Nk,List.take_of_length_le (by simp)]
def R9 (r:Option (Tq×Tq)) (w:World) (e:Ending) (w':World):Prop:=Below w.heap.size w w'/\match r with
 | none=>e=.returned (.tuple #[.string ⟨#[]⟩,.string ⟨#[]⟩,.bool false])
 | some (x,y)=>e=.returned (.tuple #[.string ⟨x.toArray⟩,.string ⟨y.toArray⟩,.bool true])
theorem Ba (s:Tr) (hm:s.size<=281474976710656) (w:World):Calls prog 30 #[.string s] w (R9 (fN s.data.toList) w):=by
 obtain ⟨a,ha⟩:∃ a,0+bR jS (s.data.toList.drop 0)=a:=⟨_,rfl⟩;obtain ⟨b,q⟩:∃ b,a+bR eM (s.data.toList.drop a)=b:=⟨_,rfl⟩;obtain ⟨c,p⟩:∃ c,b+bR jS (s.data.toList.drop b)=c:=⟨_,rfl⟩;have ta:=Cl ha (Nat.zero_le _);have tb:=Cl q ta.2;have tc:=Cl p tb.2;obtain ⟨r,hr⟩:∃ r,fN s.data.toList=r:=⟨_,rfl⟩;have l:=PM ha q p;rw [hr] at l |-
 clear hr;have l:=aA l;have B:=aA ha;have A:=aA q;have z:=aA p;have t:=aA (Below.refl w.heap.size w);clear ha q p;obtain ⟨N,M⟩:=ta;obtain ⟨L,I⟩:=tb;obtain ⟨H,G⟩:=tc;go_enter func30,ntmps30
 go_upto_block 0 with fail
 go_cut [5] (fun E wc=>E=.int .i64 (a:Nat)/\w=wc)
 case first =>
  go_wp2_with fail
  go_loop [5] (fun i=>∃ k:Nat,0<=k/\k<=a/\i=.int .i64 k) (fun i=>a-(intOf i).toNat)
  case atStart=>exact ⟨0,Td _,by omega,rfl⟩
  case round =>
   obtain ⟨k,f,m,rfl⟩:=hrel;by_cases d:k<a
   · obtain ⟨y,j⟩:=FH B.out f d
     have o:((s[k].toNat:Int) == 32)=true:=by rw [Ab,j]
     clear j;go_wp2_with fail
     go_round
     case rel=>exact ⟨k+1,by omega,by omega,by go_num⟩
     case measure=>simp [intOf];omega
   · obtain rfl:k=a:=by omega
     clear d m f;by_cases hs:k<s.size
     · have o:((s[k].toNat:Int) == 32)=false:=by rw [Ab,FJ B.out hs]
       go_wp2_with fail
       go_meet;exact ⟨rfl,rfl⟩
     · go_wp2_with fail
       go_meet;exact ⟨rfl,rfl⟩
 case rest =>
 obtain ⟨rfl,rfl⟩:=hcut;go_upto_block 2 with fail
 go_cut [6] (fun D wc=>D=.int .i64 (b:Nat)/\w=wc)
 case first =>
  go_wp2_with fail
  go_loop [6] (fun i=>∃ k:Nat,a<=k/\k<=b/\i=.int .i64 k) (fun i=>b-(intOf i).toNat)
  case atStart=>exact ⟨a,Td _,by omega,rfl⟩
  case round =>
   obtain ⟨k,f,m,rfl⟩:=hrel;by_cases d:k<b
   · obtain ⟨y,j⟩:=FH A.out f d
     rw [Hu,Bool.and_eq_true] at j;obtain ⟨o,V⟩:=j;go_wp2_with fail
     go_round
     case rel=>exact ⟨k+1,by omega,by omega,by go_num⟩
     case measure=>simp [intOf];omega
   · obtain rfl:k=b:=by omega
     clear d m f;by_cases hs:k<s.size
     · have hn:=FJ A.out hs
       rw [Hu,Bool.and_eq_false_iff] at hn;cases x:((s[k].toNat:Int) != 32) with
       | false =>
         clear hn;go_wp2_with fail
         go_meet;exact ⟨rfl,rfl⟩
       | true =>
         have h:((s[k].toNat:Int) != 61)=false:=hn.resolve_left (by rw [x];decide);clear hn;go_wp2_with fail
         go_meet;exact ⟨rfl,rfl⟩
     · go_wp2_with fail
       go_meet;exact ⟨rfl,rfl⟩
 case rest =>
 obtain ⟨rfl,rfl⟩:=hcut;go_upto_block 4 with fail
 go_cut [7] (fun C wc=>C=.int .i64 (c:Nat)/\w=wc)
 case first =>
  go_wp2_with fail
  go_loop [7] (fun i=>∃ k:Nat,b<=k/\k<=c/\i=.int .i64 k) (fun i=>c-(intOf i).toNat)
  case atStart=>exact ⟨b,Td _,by omega,rfl⟩
  case round =>
   obtain ⟨k,f,m,rfl⟩:=hrel;by_cases d:k<c
   · obtain ⟨y,j⟩:=FH z.out f d
     have o:((s[k].toNat:Int) == 32)=true:=by rw [Ab,j]
     clear j;go_wp2_with fail
     go_round
     case rel=>exact ⟨k+1,by omega,by omega,by go_num⟩
     case measure=>simp [intOf];omega
   · obtain rfl:k=c:=by omega
     clear d m f;by_cases hs:k<s.size
     · have o:((s[k].toNat:Int) == 32)=false:=by rw [Ab,FJ z.out hs]
       go_wp2_with fail
       go_meet;exact ⟨rfl,rfl⟩
     · go_wp2_with fail
       go_meet;exact ⟨rfl,rfl⟩
 case rest =>
 obtain ⟨rfl,rfl⟩:=hcut;by_cases g:b=a
 · have O:((b:Int) == (a:Int))=true:=by rw [g];simp
   have R:=aA (l.out.1 g);clear g;go_wp2_with fail
   exact bodyPost_ret (v:=.tuple #[.string ⟨#[]⟩,.string ⟨#[]⟩,.bool false]) (by simp [results,results30,go_sem]) rfl ⟨t.out,by rw [R.out]⟩
 · have O:((b:Int) == (a:Int))=false:=by rw [beq_eq_false_iff_ne];omega
   by_cases n:c<s.size
   · by_cases h:s[c]=61
     · have u:((s[c].toNat:Int) != 61)=false:=by rw [h];decide
       have R:=aA (l.out.2.2.2 g n h);have U:=aA (Nk s a b);have T:=aA (Qe s (c+1));have j1:IntKind.i64.wrap ((c:Int)+1)=(c:Int)+1:=IntWalk.i64_in _ (by omega);have j2:(0:Int)<=(c:Int)+1:=by omega
       have j3:((c:Int)+1).toNat=c+1:=by omega
       have j4:(c:Int)+1<=(s.size:Int):=by omega
       have j5:c+1<=s.size:=by omega
       have j6:(0:Int)<=(a:Int):=by omega
       have Z:(a:Int)<=(b:Int):=by omega
       have Y:(b:Int)<=(s.size:Int):=by omega
       have X:((a:Int)).toNat=a:=by omega
       have S:((b:Int)).toNat=b:=by omega
       have P:(0:Int)<=(b:Int):=by omega
       clear g h;go_wp2_with (go_quiet (fail))
       exact bodyPost_ret (v:=.tuple #[.string (s.extract a b),.string (s.extract (c+1) s.size),.bool true]) (by simp [results,results30,go_sem]) rfl ⟨cL t.out _,by rw [R.out,U.out,T.out]⟩
     · have u:((s[c].toNat:Int) != 61)=true:=by
        rw [bne_iff_ne];intro e;apply h;apply UInt8.toNat_inj.1
        have:s[c].toNat=61:=by omega
        rw [this];rfl
       have R:=aA (l.out.2.2.1 n h);clear g h;go_wp2_with fail
       exact bodyPost_ret (v:=.tuple #[.string ⟨#[]⟩,.string ⟨#[]⟩,.bool false]) (by simp [results,results30,go_sem]) rfl ⟨t.out,by rw [R.out]⟩
   · have R:=aA (l.out.2.1 (by omega))
     clear g;go_wp2_with fail
     exact bodyPost_ret (v:=.tuple #[.string ⟨#[]⟩,.string ⟨#[]⟩,.bool false]) (by simp [results,results30,go_sem]) rfl ⟨t.out,by rw [R.out]⟩
theorem I0 (s:Tr) (w:World):Calls prog 26 #[.string s] w fun e w'=>e=.returned (.bool (dD s.data.toList))/\w=w':=by
 cases a:(s.data.toList == [114,101,112]) with
 | true =>
   have f:=bG a;have R:dD s.data.toList=true:=by unfold dD;rw [a];simp
   rw [R];clear R  a;go_enter func26,ntmps26
   go_wp2_with fail
   go_ret;exact ⟨rfl,rfl⟩
 | false =>
   cases b:(s.data.toList == [108,111,97,100]) with
   | true =>
     have f:=aH a;have g:=bG b;have R:dD s.data.toList=true:=by unfold dD;rw [b];simp
     rw [R];clear R a b;go_enter func26,ntmps26
     go_wp2_with fail
     go_ret;exact ⟨rfl,rfl⟩
   | false =>
     cases c:(s.data.toList == [110]) with
     | true =>
       have f:=aH a;have g:=aH b;have h:=bG c;have R:dD s.data.toList=true:=by unfold dD;rw [c];simp
       rw [R];clear R a b c;go_enter func26,ntmps26
       go_wp2_with fail
       go_ret;exact ⟨rfl,rfl⟩
     | false =>
       cases d:(s.data.toList == [118,101,114]) with
       | true =>
         have f:=aH a;have g:=aH b;have h:=aH c;have j:=bG d;have R:dD s.data.toList=true:=by unfold dD;rw [d];simp
         rw [R];clear R a b c d;go_enter func26,ntmps26
         go_wp2_with fail
         go_ret;exact ⟨rfl,rfl⟩
       | false =>
         have f:=aH a;have g:=aH b;have h:=aH c;have j:=aH d;have R:dD s.data.toList=false:=by unfold dD;rw [a,b,c,d];rfl
         rw [R];clear R a b c d;go_enter func26,ntmps26
         go_wp2_with fail
         go_ret;exact ⟨rfl,rfl⟩
end Go.Proofs.YtgfkjkokmcejbaaGreatDoor
namespace Go
open Go.RowKit
section
variable {P : Program} {ops : Array Oper} {Q : Exit -> Act -> World -> Prop} {md : Region.Mode} {S : World -> Prop}
theorem aB {i:Nat} {g:Oper} {d:Option Tmp} {v:Value} {f:Nat} {b:Array Bool} {a:Act} {w:World} (k:ops[i]? = some g) (hd:g.dst=d)
 (hs:Region.noSelect ops=true) (l:Region.free md ops b i=true) (hr:(Region.ready md ops b).contains i=true)
 (n:∀ c a w,Q (.panic c) (a.put d v) w->Q (.panic c) a w) (j:YieldsIf P ops S g v a) (m:S w)
 (h:wpAnyH P md ops Q S f (b.setIfInBounds i true) (a.put d v) w):wpAnyH P md ops Q S (f+1) b a w:=by
 subst hd;exact wpAnyH_take k hs l hr n j m h
end
end Go
namespace Go.Proofs.YtgfkjkokmcejbaaGreatDoor
open Go.RowKit Tryz
def agQ (n:Nat) (L:List Tk):oN->oN
 | .bad p e=>.bad (eY n L p) e
 | .ok a=>.ok a
theorem rE {X:World} {p:Addr} {v:Option Value} (h:X.cell? p=v):X.drew.cell? p=v:=h
theorem Bv {X:World} {B:Nat} {v:Option Obj} (h:X.heap[B]? = v):X.drew.heap[B]? = v:=h
theorem Ac {B:Nat} {w w':World} (h:Below B w w'):Below B w w'.drew:=⟨h.os,h.tape,h.output,h.size,h.block⟩
section
variable {w : World} {ts : List Tk} {rb ab : Nat} {a : Tp} {c : Nat} {x : AG} {p : PA} {qs : List QC} {s : RS} {V : World}
theorem Ry (h:GW w ts rb ab a c x p qs s V) {n:Nat}:l7 (.bad (eY n ts s.whr) s.bad) w (.returned (.tuple #[agV aO aI,.int .i64 ((eY n ts s.whr:Nat):Int),.int .i64 s.bad])) (eJ V w.heap.size aO aI).drew:=by
 have f:=bL V w.heap.size aO aI;have d:=h.b.trans (f.below (fun b d=>by omega) (by have:=h.sz;omega));exact ⟨Ac d,rfl⟩
theorem MR (h:GW w ts rb ab a c x p qs s V):(eJ V w.heap.size aO aI).drew.cell? ⟨rb,3,none⟩=some (.int .i64 s.bad)/\(eJ V w.heap.size aO aI).drew.cell? ⟨rb,4,none⟩=some (.int .i64 s.whr):=by
 have d:=bL V w.heap.size aO aI;obtain ⟨⟨f,c1,c2,c3,c4⟩, -⟩:=h.r.r.cells;have b:¬ rb=w.heap.size:=by have:=h.hr;omega
 exact ⟨rE (d.cell c3 b),rE (d.cell c4 b)⟩
theorem JQ (h:GW w ts rb ab a c x p qs s V):(eJ V w.heap.size aO aI).drew.heap[w.heap.size]? = some (agO aO aI):=Bv (cF (t:=82) h.o aO aI)
theorem Su (h:GW w ts rb ab a c x p qs s V):l7 (.ok x) w (.returned (.tuple #[agV x p,.int .i64 0,.int .i64 0])) (eJ V w.heap.size x p):=by
 have j:=bL V w.heap.size x p;refine ⟨h.b.trans (j.below (fun b f=>by omega) (by have:=h.sz;omega)),p,rfl,?_⟩;have own:∀ b,p.wa=some ⟨b,0,none⟩->ab+1<=b:=fun b f=>h.lo (b:=b) (by rw [f];rfl)
 have q:=h.hr;have o:=h.ha;refine ⟨(h.e.keptS j (fun k l d=>by have:=d.1;omega)).imp (fun b _ d=>by have:=d.1;omega),(h.g.keptS j (fun k l d=>by have:=d.1;omega)).imp (fun b _ d=>by have:=d.1;omega),?_⟩;refine sA (eZ (row:=some w.heap.size) h.own (j.mono (fun i m _=>by rw [m])) (fun b f n=>by have:=h.lo f;have:=Option.some.inj n;omega)) h.ql ((h.kd.keptS j (fun k l d=>by have:=d.1;omega)).imp (fun b _ d=>by have:=d.1;omega)) (fun b f=>by have:=own b f;omega)
theorem MQ (h:GW w ts rb (rb+1) a c aO aI [] ⟨0,0,0,0⟩ V) (fn:Tr) (hl:1<=ts.length):GW w ts rb (rb+1) a c ⟨fn,0,aD,aD,[]⟩ aI [] ⟨1,0,0,0⟩ ((V.setCell ⟨rb+1,0,none⟩ (.string fn)).setCell ⟨rb,1,none⟩ (.int .i64 1)):=by
 have KS:=(aC.refl (· = rb+1) V).setCell (p:=⟨rb+1,0,none⟩) (.inl rfl) (.string fn)
 have hn:(V.setCell ⟨rb+1,0,none⟩ (.string fn)).heap[rb+1]? = some (agO ⟨fn,0,aD,aD,[]⟩ aI):=by
  have:=heap_setCell_same V (rb+1) 0 _ _ (.string fn) h.n;exact this
 have g:=h.box KS hn rfl rfl rfl (.inl rfl) (.inl rfl);exact g.step (g.r.set ⟨fun _=>hl,by show 1<=_;omega,by show 0<=33;omega,h.r.f.2.2.2⟩ rfl) ((aC.refl (· = rb) _).setCell (p:=⟨rb,1,none⟩) (.inl rfl) _)
def Rp:Option Value->Nat
 | some (.slice _ n _)=>n
 | _=>0
theorem PO {fn:Tr} {f:World} {k:Int} {t u:TN} {d:PA} (h:GW w ts rb (rb+1) a c ⟨fn,0,aD,aD,[]⟩ aI [] s V) (o:bD f.heap.size V d.ea t.ks) (m:bD f.heap.size V d.ga u.ks) (g:d.wa=none) (j:d.wc=0) (hz:rb+1<f.heap.size) :
 GW w ts rb (rb+1) a c ⟨fn,k,t,u,[]⟩ d [] s (eJ V (rb+1) ⟨fn,k,t,u,[]⟩ d):=by
 have p:=h.hr;refine h.box (bL V (rb+1) ⟨fn,k,t,u,[]⟩ d) (cF h.n _ _) rfl g j ?_ ?_
 · exact aK.imp (G:=fun b=>f.heap.size<=b) o (fun b _ l=>⟨by omega,by omega,by omega,fun e=>by cases e⟩)
 · exact aK.imp (G:=fun b=>f.heap.size<=b) m (fun b _ l=>⟨by omega,by omega,by omega,fun e=>by cases e⟩)
theorem EM (h:GW w ts rb ab a c x p qs s V) {b:Nat} (d:V.heap.size<=b):GG w.heap.size rb ab p.wa b:=by
 have j:=h.hr;have g:=h.ha;have f:=h.hz;refine ⟨by omega,by omega,by omega,fun e=>?_⟩;have:=(h.own.lt b (by rw [e];rfl)).2;omega
theorem EI:∃ i z,prog.info? 133=some i/\i.zero=some z/\i.size=9/\i.bytes=144/\z.cells.size=9:=by
 have h:(prog.info? 133).map (fun i=>(i.zero.map (fun z=>z.cells.size),i.size,i.bytes))=some (some 9,9,144):=by kernel_rfl
 cases hx:prog.info? 133 with
 | none=>rw [hx] at h;cases h
 | some i =>
   rw [hx] at h;simp only [Option.map_some,Option.some.injEq,Prod.mk.injEq] at h;obtain ⟨a,c,b⟩:=h;cases hz:i.zero with
   | none=>rw [hz] at a;cases a
   | some z =>
     rw [hz] at a;exact ⟨i,z,rfl,hz,c,b,by simpa using a⟩
theorem tI (W:World) (d:CD) (q:QC):∀ j u,(e7 d q)[j]? = some u->(W.alloc (.cells #[.string d.op,.string d.a.op,.string d.a.nm,.int .i64 d.a.n,.slice q.a1 d.a.ks.len q.c1,.string d.b.op,.string d.b.nm,.int .i64 d.b.n,.slice q.a2 d.b.ks.len q.c2] 133)).cell? ((⟨W.heap.size,0,none⟩:Addr).add j)=some u:=fun j u s=>by
 obtain ⟨r,p,o,m,l,k,g,f,c⟩:=iD (heap_alloc_new W (cdO d q.a1 q.c1 q.a2 q.c2));rw [Addr.add_lit];match j,s with
 | 0,h=>cases h;exact r
 | 1,h=>cases h;exact p
 | 2,h=>cases h;exact o
 | 3,h=>cases h;exact m
 | 4,h=>cases h;exact l
 | 5,h=>cases h;exact k
 | 6,h=>cases h;exact g
 | 7,h=>cases h;exact f
 | 8,h=>cases h;exact c
 | n+9,h=>simp at h
theorem Qq {d:World} {n m:Nat} {a:Tp} {c:Nat} {ts:List Tk} (h:fQ d a ts) (f:∀ q,(Tj a m c).ownBlock=some q->n<q):ts=[]\/∃ b off,a=some ⟨b,off,none⟩/\n<b:=by
 rcases h with h | ⟨b,off,e, -, -⟩
 · exact .inl h
 · exact .inr ⟨b,off,e,f b (by rw [e];rfl)⟩
theorem Rx {f:World} (m:Below w.heap.size w f) (n1:f.heap[w.heap.size]? = some (agO aO aI)) (hz:w.heap.size<f.heap.size) (hr:fQ f a ts) (hn:ts.length<=100000) (tk:ts=[]\/∃ b off,a=some ⟨b,off,none⟩/\w.heap.size<b) :
 GW w ts f.heap.size (f.heap.size+1) a c aO aI [] ⟨0,0,0,0⟩ ((f.alloc (.cells #[.slice a ts.length c,.int .i64 0,.int .i64 0,.int .i64 0,.int .i64 0] 126)).alloc (agO aO aI)):=by
 have l:=bA0 f (.cells #[.slice a ts.length c,.int .i64 0,.int .i64 0,.int .i64 0,.int .i64 0] 126);have g:(f.alloc (.cells #[.slice a ts.length c,.int .i64 0,.int .i64 0,.int .i64 0,.int .i64 0] 126)).heap.size=f.heap.size+1:=Tc _ _
 have o:PW ts f.heap.size a c ⟨0,0,0,0⟩ (f.alloc (.cells #[.slice a ts.length c,.int .i64 0,.int .i64 0,.int .i64 0,.int .i64 0] 126)) :=
  ⟨heap_alloc_new f _,(wR hr).kept (aF l (fun _=>False)) (fun _ h=>h.elim),⟨fun _=>Nat.zero_le _,by show 0<=_;omega,by show 0<=33;omega,hn⟩⟩
 have p:=(l.block w.heap.size hz).trans n1;generalize f.alloc (.cells #[.slice a ts.length c,.int .i64 0,.int .i64 0,.int .i64 0,.int .i64 0] 126)=U at *;have k:=bA0 U (agO aO aI);have n2:=heap_alloc_new U (agO aO aI);rw [g] at n2;exact ⟨o.below k,(m.trans (l.mono (by omega))).trans (k.mono (by omega)),n2,(k.block _ (by omega)).trans p,.inl rfl,.inl rfl,⟨rfl,.inl ⟨rfl,rfl⟩⟩,rfl,fun j d q n _=>by simp [aO] at n,hz,by omega,by rw [Tc];omega,tk⟩
end
theorem QU (d:Tr) (w:World) {p:Nat} {er:Int} (u:gY d.data.toList=.bad p er):Calls prog 32 #[.string d] w (l7 (.bad p er) w):=by
 obtain ⟨-,Y⟩:=pI u;have L:=bA0 w (agO aO aI);have E:=heap_alloc_new w (agO aO aI);have A:(w.alloc (agO aO aI)).heap.size=w.heap.size+1:=Tc _ _;generalize s:w.alloc (agO aO aI)=W at *;have x:=aA s;have C:=aA (vP d W);rw [u] at C;clear s;go_enter func32,ntmps32
 go_upto_region 1 with fail
 rw [show w.alloc (.cells #[.string ⟨#[]⟩,.int .i64 0,.string ⟨#[]⟩,.string ⟨#[]⟩,.int .i64 0,.slice none 0 0,.string ⟨#[]⟩,.string ⟨#[]⟩,.int .i64 0,.slice none 0 0,.slice none 0 0] 82)=W from x.out];go_wp2_with fail
 refine C.out.mono ?_;rintro e z ⟨b,rfl⟩;have c:=(b.block w.heap.size (by omega)).trans E;have hz:=b.size;have I:=aA (L.trans (b.mono (by omega)));obtain ⟨X,V,U,T,S,R,P,O,N,M,y⟩:=bI c;obtain ⟨b0,b1,b2,b3,b4,b5,b6,b7,b8,b9,D⟩:=aE c;have G:=aA c;clear b c C x;go_wp2_with fail
 have H:=bL z w.heap.size aO aI;obtain ⟨r,q,o,n,m,l,j,h,g,f,a⟩:=aE (cF (t:=82) G.out aO aI);dsimp only [eJ,aO,aI,aD,F.len,List.length_nil] at r q o n m l j h g f a;exact bodyPost_ret (v:=.tuple #[agV aO aI,.int .i64 (p:Nat),.int .i64 er]) (by simp [results,results32,go_sem,r,q,o,n,m,l,j,h,g,f,a,aO,aI,aD,F.len]) rfl ⟨I.out.trans (H.below (B:=w.heap.size) (fun k Z=>by omega) (by omega)),rfl⟩
theorem QT (E:Tr) (w:World) {ts:List Tk} (hL:gY E.data.toList=.ok ts):Calls prog 32 #[.string E] w (l7 (agQ E.size ts (agL ts)) w):=by
 have lm:=Ex hL;have B1:=bA0 w (agO aO aI);have NB:=heap_alloc_new w (agO aO aI);have kx:(w.alloc (agO aO aI)).heap.size=w.heap.size+1:=Tc _ _;generalize hW:w.alloc (agO aO aI)=W at *;have HW:=aA hW;have C:=aA (vP E W);rw [hL] at C;obtain ⟨r,hr⟩:∃ r,agQ E.size ts (agL ts)=r:=⟨_,rfl⟩;rw [hr];have M:=aA hr;clear hW hr hL;go_enter func32,ntmps32
 go_upto_region 1 with fail
 rw [show w.alloc (.cells #[.string ⟨#[]⟩,.int .i64 0,.string ⟨#[]⟩,.string ⟨#[]⟩,.int .i64 0,.slice none 0 0,.string ⟨#[]⟩,.string ⟨#[]⟩,.int .i64 0,.slice none 0 0,.slice none 0 0] 82)=W from HW.out];go_wp2_with fail
 refine C.out.mono ?_;rintro e w1 ⟨l,a,c,rfl,ho⟩;have G0:=Rx (c:=c) (B1.trans (l.mono (by omega))) ((l.block w.heap.size (by omega)).trans NB) (by have:=l.size;omega) (r9 ho) (by omega) (Qq (r9 ho) (fun q hq=>by have:=(ho.lt q hq).1;omega));generalize hU:w1.alloc (.cells #[.slice a ts.length c,.int .i64 0,.int .i64 0,.int .i64 0,.int .i64 0] 126)=U at G0;have jn:U.heap.size=w1.heap.size+1:=by rw [<- hU];exact Tc _ _
 generalize hV:U.alloc (agO aO aI)=V at G0;generalize ke:w1.heap.size=rb at G0 jn;have HU:=aA hU;have HV:=aA hV;have R:=aA ke;have li:=aA jn;have A:=aA G0;clear l ho B1 NB kx hU hV ke jn G0 C HW;go_upto_block 0 with fail
 rw [HU.out,show U.alloc (.cells #[.string ⟨#[]⟩,.int .i64 0,.string ⟨#[]⟩,.string ⟨#[]⟩,.int .i64 0,.slice none 0 0,.string ⟨#[]⟩,.string ⟨#[]⟩,.int .i64 0,.slice none 0 0,.slice none 0 0] 82)=V from HV.out,R.out];clear HU HV li R;go_cut [] (fun wc=>∃ (fn:Tr) (s:RS),Hid (agQ E.size ts (kA ts fn s)=r)/\Hid (GW w ts rb (rb+1) a c ⟨fn,0,aD,aD,[]⟩ aI [] s wc))
 case first =>
  by_cases ja:0<ts.length
  · obtain ⟨b,off,ha, -,p0,p1, -, -⟩:=bB A.out.r.t ja
    obtain ⟨k,j⟩:∃ k,ts[0].kind=k:=⟨_,rfl⟩;obtain ⟨X,hX⟩:∃ X:Tr,⟨ts[0].text.toArray⟩=X:=⟨_,rfl⟩;have jh:ts[0].text=X.data.toList:=by rw [<- hX]
    have hg:ts[0]? = some ts[0]:=List.getElem?_eq_getElem ja;rw [j] at p0;rw [hX] at p1;have FN:=aA (fun U=>Bb X U);have a1:((ts.length:Int) == 0)=false:=by rw [beq_eq_false_iff_ne];omega
    have a2:(0:Int)<(ts.length:Int):=by omega
    have e0:off+0*4=off:=by omega
    rw [e0] at p0 p1;subst ha;by_cases P:k=1
    · cases hf:dZ X.data.toList with
      | true =>
        have m:=aA (show agQ E.size ts (kA ts X ⟨1,0,0,0⟩)=r by rw [<- M.out,RV hg (j.trans P) (by rw [jh];exact hf),hX]);rw [hf] at FN;have k1:(k == 1)=true:=by rw [P];rfl
        have k2:(k != 1)=false:=by rw [P];rfl
        clear j hX jh hg P hf M;obtain ⟨z0,z1,z2,z3,z4,z5,z6,z7,z8,z9,jf⟩:=bI A.out.n;obtain ⟨m0,m1,m2,m3,m4,m5,m6,m7,m8,m9,D⟩:=aE A.out.n;obtain ⟨⟨c0,c1,c2,c3,c4⟩,f1,f2,f3,f4⟩:=A.out.r.r.cells;go_wp2_with fail
        refine (FN.out V).mono ?_;rintro e w2 ⟨rfl,rfl⟩;go_wp2_with fail
        go_meet;case rel=>exact ⟨X,⟨1,0,0,0⟩,m,aA (MQ A.out X (by omega))⟩
      | false =>
        have m:=aA (show agQ E.size ts (kA ts ⟨#[]⟩ (aQ 5 ⟨0,0,0,0⟩))=r by rw [<- M.out,RX hg (j.trans P) (by rw [jh];exact hf)]);rw [hf] at FN;have k1:(k == 1)=true:=by rw [P];rfl
        have k2:(k != 1)=false:=by rw [P];rfl
        have FA:=aA (dH ts rb _ c ⟨0,0,0,0⟩ 5 (by decide) V A.out.r);clear j hX jh hg P hf M;go_wp2_with fail
        refine (FN.out V).mono ?_;rintro e w2 ⟨rfl,rfl⟩;go_wp2_with fail
        refine FA.out.mono ?_;rintro e w3 ⟨rfl,hp,j⟩;have K1:=aA (A.out.step hp j);clear hp j;go_wp2_with fail
        go_meet;case rel=>exact ⟨⟨#[]⟩,_,m,K1⟩
    · have m:=aA (show agQ E.size ts (kA ts ⟨#[]⟩ (aQ 2 ⟨0,0,0,0⟩))=r by rw [<- M.out,NH hg (by rw [j];exact P)])
      have k1:(k == 1)=false:=by simpa using P
      have k2:(k != 1)=true:=by rw [bne,k1];rfl
      have FA:=aA (dH ts rb _ c ⟨0,0,0,0⟩ 2 (by decide) V A.out.r);clear j hX jh hg P M FN;go_wp2_with fail
      refine FA.out.mono ?_;rintro e w3 ⟨rfl,hp,j⟩;have K1:=aA (A.out.step hp j);clear hp j;go_wp2_with fail
      go_meet;case rel=>exact ⟨⟨#[]⟩,_,m,K1⟩
  · have h0:ts[0]? = none:=List.getElem?_eq_none (by omega)
    have m:=aA (show agQ E.size ts (kA ts ⟨#[]⟩ (aQ 2 ⟨0,0,0,0⟩))=r by rw [<- M.out,NG h0]);have a1:((ts.length:Int) == 0)=true:=by rw [beq_iff_eq];omega
    have FA:=aA (dH ts rb a c ⟨0,0,0,0⟩ 2 (by decide) V A.out.r);clear h0 M;go_wp2_with fail
    refine FA.out.mono ?_;rintro e w3 ⟨rfl,hp,j⟩;have K1:=aA (A.out.step hp j);clear hp j;go_wp2_with fail
    go_meet;case rel=>exact ⟨⟨#[]⟩,_,m,K1⟩
 case rest =>
  obtain ⟨fn,s,HR,K1⟩:=hcut;clear A M;have WN:=aA (jJ ts rb a c s ⟨#[40]⟩ wc K1.out.r);have jd:=aA (p:=agQ E.size ts (if (aU ts (⟨#[40]⟩:Tr).data.toList s).bad=0 then kB ts ⟨fn,(bJ ts fn.data.toList (aU ts (⟨#[40]⟩:Tr).data.toList s)).1.1,(bJ ts fn.data.toList (aU ts (⟨#[40]⟩:Tr).data.toList s)).1.2.1,(bJ ts fn.data.toList (aU ts (⟨#[40]⟩:Tr).data.toList s)).1.2.2,[]⟩ (bJ ts fn.data.toList (aU ts (⟨#[40]⟩:Tr).data.toList s)).2 else kB ts ⟨fn,0,aD,aD,[]⟩ (aU ts (⟨#[40]⟩:Tr).data.toList s))=r) HR.out;obtain ⟨s1,kb⟩:∃ q,aU ts (⟨#[40]⟩:Tr).data.toList s=q:=⟨_,rfl⟩;rw [kb] at WN jd;clear kb HR;go_wp2_with fail
  refine WN.out.mono ?_;rintro e v1 ⟨rfl,hp,j⟩;have K2:=aA (K1.out.step hp j);clear hp j WN K1;obtain ⟨⟨c0,c1,c2,c3,c4⟩,f1,f2,f3,f4⟩:=K2.out.r.r.cells;go_upto_if 63 with fail
  go_cut [] (fun wc=>∃ (x:AG) (p:PA) (s:RS),Hid (agQ E.size ts (kB ts x s)=r)/\Hid (x.wh=[])/\Hid (GW w ts rb (rb+1) a c x p [] s wc))
  case first =>
   by_cases l:s1.bad=0
   · have q1:((s1.bad:Int) == 0)=true:=by rw [l];rfl
     have m:=aA (jd.out.symm.trans (congrArg (agQ E.size ts) (if_pos l))).symm;have AR:=aA (Nv ts rb a c s1 fn v1 K2.out.r l);obtain ⟨m0,m1,m2,m3,m4,m5,m6,m7,m8,m9,D⟩:=aE K2.out.n;clear l jd;go_wp2_with fail
     refine AR.out.mono ?_;rintro e v2 ⟨p2,rfl,hp,j,P,h2,hw,hc⟩;have K3:=aA (K2.out.step hp j);have RD:=aA (And.intro P (And.intro h2 (And.intro hw hc)));have HZ:=aA (K2.out.hz);clear hp j P h2 hw hc AR m0 m1 m2 m3 m4 m5 m6 m7 m8 m9 D c0 c1 c2 c3 c4 f1 f2 f3 f4;obtain ⟨m0,m1,m2,m3,m4,m5,m6,m7,m8,m9,D⟩:=aE K3.out.n;obtain ⟨z0,z1,z2,z3,z4,z5,z6,z7,z8,z9,jf⟩:=bI K3.out.n;go_wp2_with fail
     go_meet;case rel=>exact ⟨_,p2,_,m,aA rfl,aA (PO K3.out RD.out.1 RD.out.2.1 RD.out.2.2.1 RD.out.2.2.2 HZ.out)⟩
   · have q1:((s1.bad:Int) == 0)=false:=beq_eq_false_iff_ne.2 l
     have m:=aA (jd.out.symm.trans (congrArg (agQ E.size ts) (if_neg l))).symm;clear l jd;go_wp2_with fail
     go_meet;case rel=>exact ⟨_,aI,s1,m,aA rfl,K2⟩
  case rest =>
   obtain ⟨x,p,s2,HR,HX,K3⟩:=hcut;clear K2 jd c0 c1 c2 c3 c4 f1 f2 f3 f4;have WN:=aA (jJ ts rb a c s2 ⟨#[41]⟩ wc K3.out.r);have R:=aA (p:=agQ E.size ts (kC ts x (aU ts (⟨#[41]⟩:Tr).data.toList s2))=r) HR.out;obtain ⟨H,jz⟩:∃ q,aU ts (⟨#[41]⟩:Tr).data.toList s2=q:=⟨_,rfl⟩;rw [jz] at WN R;clear jz HR;go_wp2_with fail
   refine WN.out.mono ?_;rintro e v3 ⟨rfl,hp,j⟩;have K4:=aA (K3.out.step hp j);clear hp j WN K3;obtain ⟨⟨c0,c1,c2,c3,c4⟩,f1,f2,f3,f4⟩:=K4.out.r.r.cells;obtain ⟨zz,N⟩:∃ z:Bool,((H.bad == 0) && decide (H.pos<ts.length))=z:=⟨_,rfl⟩;have jl:=aA N;go_upto_region 16 with fail
   go_cut [82] (fun kr wc=>kr=.bool zz/\wc=v3)
   case first =>
    by_cases l:H.bad=0
    · have q1:((H.bad:Int) == 0)=true:=by rw [l];rfl
      by_cases hp:H.pos<ts.length
      · have q2:(H.pos:Int)<(ts.length:Int):=by omega
        obtain rfl:zz=true:=by rw [<- N,l,decide_eq_true hp];rfl
        clear N l;go_wp2_with fail
        go_meet;case rel=>exact ⟨rfl,rfl⟩
      · have q2:¬ (H.pos:Int)<(ts.length:Int):=by omega
        obtain rfl:zz=false:=by rw [<- N,decide_eq_false hp];simp
        clear N l;go_wp2_with fail
        go_meet;case rel=>exact ⟨rfl,rfl⟩
    · have q1:((H.bad:Int) == 0)=false:=beq_eq_false_iff_ne.2 l
      obtain rfl:zz=false:=by rw [<- N,show (H.bad == 0)=false from q1];rfl
      clear N;go_wp2_with fail
      go_meet;case rel=>exact ⟨rfl,rfl⟩
   case rest =>
    obtain ⟨rfl,rfl⟩:=hcut;clear N c0 c1 c2 c3 c4 f1 f2 f3 f4;go_upto_if 82 with fail
    go_cut [] (fun wc=>∃ (x:AG) (p:PA) (qs:List QC) (s:RS),Hid (agQ E.size ts (kF x s)=r)/\Hid (GW w ts rb (rb+1) a c x p qs s wc))
    case first =>
     cases zz with
     | false =>
       have m:=aA (show agQ E.size ts (kF x H)=r by
        have hz:=jl.out;rw [<- R.out];unfold kC;rw [if_neg (fun k=>by rw [k.1,decide_eq_true k.2] at hz;cases hz)])
       go_wp2_with fail
       go_meet;case rel=>exact ⟨x,p,[],H,m,K4⟩
     | true =>
       have hz:H.bad=0/\H.pos<ts.length:=by
        have hz:=jl.out;simp only [Bool.and_eq_true,beq_iff_eq,decide_eq_true_eq] at hz;exact hz
       have jm:=aA (show agQ E.size ts (kE ts x (kLo ts 5 true [] (if dX ts eW H.pos=true then H else aQ 2 H)))=r by
        rw [<- R.out];unfold kC;rw [if_pos hz])
       have lg:=aA hz.2;have WD:=aA (Dq ts rb a c H ⟨#[119,104,101,114,101]⟩ wc K4.out.r);obtain ⟨wb,O⟩:∃ z,dX ts eW H.pos=z:=⟨_,rfl⟩;rw [show (⟨#[119,104,101,114,101]⟩:Tr).data.toList=eW from rfl,O] at WD;rw [O] at jm;clear hz O jl R;go_wp2_with fail
       refine WD.out.mono ?_;rintro e v4 ⟨rfl,j⟩;have K5:=aA (K4.out.step (K4.out.r.kept j) (j.mono (fun _ h _=>h.elim)));clear j WD K4;go_upto_if 85 with fail
       go_cut [] (fun wc=>∃ (s:RS),Hid (agQ E.size ts (kE ts x (kLo ts 5 true [] s))=r)/\Hid (s.bad=0->s.pos<ts.length)/\Hid (GW w ts rb (rb+1) a c x p [] s wc))
       case first =>
        cases wb with
        | true =>
          go_wp2_with fail
          go_meet;case rel=>exact ⟨H,jm,aA (fun _=>lg.out),K5⟩
        | false =>
          have FA:=aA (dH ts rb a c H 2 (by decide) v4 K5.out.r);go_wp2_with fail
          refine FA.out.mono ?_;rintro e v5 ⟨rfl,hp,j⟩;have K6:=aA (K5.out.step hp j);clear hp j;go_wp2_with fail
          go_meet;case rel=>exact ⟨aQ 2 H,jm,aA (fun h=>absurd h (jP (by decide) _)),K6⟩
       case rest =>
        obtain ⟨s4,HR,jp,K6⟩:=hcut;clear K5 jm;obtain ⟨xf,xk,xe,xg,xw⟩:=x;obtain rfl:xw=[]:=HX.out;obtain ⟨RL,jo⟩:∃ q,kLo ts 5 true [] s4=q:=⟨_,rfl⟩;rw [jo] at HR;have jr:=aA (show kLo ts (5-([]:List CD).length) true [] s4=RL from jo);clear jo HX;go_upto_block 1 with fail
        go_cut [] (fun wc=>∃ (pa:PA) (qs:List QC),Hid (GW w ts rb (rb+1) a c ⟨xf,xk,xe,xg,RL.1⟩ pa qs RL.2 wc))
        case first =>
         go_wp2_with fail
         go_loopw [10,11] (fun ku kt wr=>∃ (L:Bool) (y:Value) (acc:List CD) (pa:PA) (qs:List QC) (s:RS),ku=.bool L/\kt=y/\acc.length<=4/\(L=true->s.bad=0->s.pos<ts.length)/\Hid (kLo ts (5-acc.length) L acc s=RL)/\Hid (GW w ts rb (rb+1) a c ⟨xf,xk,xe,xg,acc⟩ pa qs s wr)) (fun _ _ wr=>5-Rp (wr.cell? ⟨rb+1,10,none⟩))
         case atStart=>exact ⟨true,_,[],p,[],s4,rfl,rfl,Nat.zero_le _,fun _ h=>jp.out h,jr,K6⟩
         case round =>
          obtain ⟨L,y,acc,pa,qs,s,rfl,rfl,kh,T,HL,HK⟩:=hrel;clear K6 jr jp;obtain ⟨⟨c0,c1,c2,c3,c4⟩,f1,f2,f3,f4⟩:=HK.out.r.r.cells;by_cases jg:L=true/\s.bad=0
          · obtain ⟨rfl,l⟩:=jg
            have q1:((s.bad:Int) == 0)=true:=by rw [l];rfl
            have ja:=T rfl l;have HC:=aA (show eT ts (5-acc.length) acc s=RL by rw [<- HL.out,Gj l]);obtain ⟨m0,m1,m2,m3,m4,m5,m6,m7,m8,m9,D⟩:=aE HK.out.n;clear T HL;by_cases h4:acc.length=4
            · have I:=aA (show RL=(acc,aQ 4 s) by
               rw [<- HC.out,h4];show eT ts (0+1) acc s=_;rw [eT,if_pos h4])
              have l1:((acc.length:Int) == 4)=true:=by rw [h4];rfl
              have FA:=aA (dH ts rb a c s 4 (by decide) wr HK.out.r);clear HC l ja h4;go_wp2_with fail
              refine FA.out.mono ?_;rintro e v5 ⟨rfl,hp,j⟩;have Z:=aA (HK.out.step hp j);clear hp j FA;go_wp2_with fail
              go_meet;case rel=>exact ⟨pa,qs,aA (by rw [I.out];exact Z.out)⟩
            · have l1:((acc.length:Int) == 4)=false:=by rw [beq_eq_false_iff_ne];omega
              have I:=aA (show (if ((cB ts (aM s)).2.bad == 0 && dX ts l8 (cB ts (aM s)).2.pos)=true then eT ts (5-(acc.length+1)) (acc++[(cB ts (aM s)).1]) (cB ts (aM s)).2 else (acc++[(cB ts (aM s)).1],(cB ts (aM s)).2))=RL by
               rw [<- HC.out];have e:5-acc.length=(5-(acc.length+1))+1:=by omega
               rw [e];rw [eT,if_neg h4])
              have je:=aA (show acc.length<=3 by omega);have KS:=(aC.refl (· = rb) wr).setCell (p:=⟨rb,1,none⟩) (.inl rfl) (.int .i64 ((s.pos:Int)+1));obtain ⟨X,hX⟩:∃ X,wr.setCell ⟨rb,1,none⟩ (.int .i64 ((s.pos:Int)+1))=X:=⟨_,rfl⟩
              have Z:=aA (show GW w ts rb (rb+1) a c ⟨xf,xk,xe,xg,acc⟩ pa qs (aM s) X by
               rw [<- hX];exact HK.out.step (oY HK.out.r ja) KS)
              have ky:(s.pos:Int)+1<=200000:=by have:=HK.out.r.f.2.2.2;omega
              clear KS HC l h4 kh;go_upto_region 25 with fail
              try rw [hX]
              have MB:=aA D;clear hX c0 c1 c2 c3 c4 f1 f2 f3 f4 m0 m1 m2 m3 m4 m5 m6 m7 m8 m9 D HK ja;have CO:=aA (Nm ts rb a c (aM s) X Z.out.r);obtain ⟨⟨d,s5⟩,kf⟩:∃ q:CD×RS,cB ts (aM s)=q:=⟨_,rfl⟩;rw [kf] at CO I;clear kf;go_wp2_with fail
              refine CO.out.mono ?_;rintro e v1 ⟨a1,c1,a2,c2,rfl,hp,j,P,h2⟩;have BA:=bA0 v1 (cdO d a1 c1 a2 c2);have K8:=Z.out.step hp j;have K9:=aA (K8.below BA);have NC:=aA (heap_alloc_new v1 (cdO d a1 c1 a2 c2));have R1:=aA ((aK.imp (G:=fun b=>X.heap.size<=b) P (fun b _ l=>EM Z.out l)).kept BA);have R2:=aA ((aK.imp (G:=fun b=>X.heap.size<=b) h2 (fun b _ l=>EM Z.out l)).kept BA);generalize hU:v1.alloc (cdO d a1 c1 a2 c2)=U at K9 NC R1 R2;generalize hB:v1.heap.size=B at NC;have HU:=aA hU;have HB:=aA hB;clear hp j P h2 BA K8 hU hB CO Z ky;go_upto_region 26 with fail
              rw [show v1.alloc (.cells #[.string d.op,.string d.a.op,.string d.a.nm,.int .i64 d.a.n,.slice a1 d.a.ks.len c1,.string d.b.op,.string d.b.nm,.int .i64 d.b.n,.slice a2 d.b.ks.len c2] 133)=U from HU.out,HB.out];clear HU HB;obtain ⟨m0,m1,m2,m3,m4,m5,m6,m7,m8,m9,D⟩:=aE K9.out.n;obtain ⟨p0,p1,p2,p3,p4,p5,p6,p7,p8⟩:=iD NC.out;have jt:=underlying80;obtain ⟨i,zv,hi,jy,jx,jw,jv⟩:=EI;have ki:=aA (show (U.alloc (.cells #[.string d.op,.string d.a.op,.string d.a.nm,.int .i64 d.a.n,.slice a1 d.a.ks.len c1,.string d.b.op,.string d.b.nm,.int .i64 d.b.n,.slice a2 d.b.ks.len c2] 133)).ownsRow (rb+1+1) 133 9 (.slice pa.wa acc.length pa.wc) acc.length (cdL acc qs) from K9.out.own.alloc _);have kl:=aA (tI U d ⟨a1,c1,a2,c2⟩);have BU:=aA (bA0 U (.cells #[.string d.op,.string d.a.op,.string d.a.nm,.int .i64 d.a.n,.slice a1 d.a.ks.len c1,.string d.b.op,.string d.b.nm,.int .i64 d.b.n,.slice a2 d.b.ks.len c2] 133));have ji:=aA (K9.out.below BU.out);have R3:=aA (R1.out.kept BU.out);have R4:=aA (R2.out.kept BU.out);have kj:=aA (fun u (hu:u∈e7 d ⟨a1,c1,a2,c2⟩)=>rF [d] [⟨a1,c1,a2,c2⟩] u (by simpa [cdL] using hu));have kq:=aA (show rb+1+1<=(U.alloc (.cells #[.string d.op,.string d.a.op,.string d.a.nm,.int .i64 d.a.n,.slice a1 d.a.ks.len c1,.string d.b.op,.string d.b.nm,.int .i64 d.b.n,.slice a2 d.b.ks.len c2] 133)).heap.size from ji.out.hz);clear K9 NC R1 R2 BU
              go_upto_region 21 with (first
               | (at_builtin
                  refine aS rfl _ _ 80 rfl (base:=rb+1+1) jt hi jy jx jw jv (by decide) (.slice pa.wa acc.length pa.wc) acc.length 1 1 ⟨U.heap.size,0,none⟩ (cdL acc qs) (e7 d ⟨a1,c1,a2,c2⟩) rfl rfl ki.out rfl kl.out kj.out (by have:=je.out;unfold maxLen;omega) (by have:=je.out;omega) kq.out ?_;intro v4 w4 ho hg hn;obtain ⟨a',c',hv⟩:=eQ ho;subst hv;have KA:=(aC.refl (fun b=>(Tj pa.wa acc.length pa.wc).ownBlock=some b) _).grown hg (fun k j=>.inl j);have N4:=KA.heap ji.out.n (fun e=>by have:=ji.out.lo e;omega);have ko:=aA (ji.out.push KA ho hn R3.out R4.out);have lj:=aA N4;obtain ⟨m0,m1,m2,m3,m4,m5,m6,m7,m8,m9,D⟩:=aE N4;obtain ⟨z0,z1,z2,z3,z4,z5,z6,z7,z8,z9,jf⟩:=bI N4;clear ho hg hn KA N4 ji R3 R4 ki kl kj kq)
               | fail)
              obtain ⟨Y,hY⟩:∃ Y,w4.setCell ⟨rb+1,10,none⟩ (.slice a' (acc.length+1) c')=Y:=⟨_,rfl⟩;have K12:=aA (show GW w ts rb (rb+1) a c ⟨xf,xk,xe,xg,acc++[d]⟩ { pa with wa:=a',wc:=c' } (qs++[⟨a1,c1,a2,c2⟩]) s5 Y by rw [<- hY];exact ko.out);try rw [hY]
              clear hY ko m0 m1 m2 m3 m4 m5 m6 m7 m8 m9 D z0 z1 z2 z3 z4 z5 z6 z7 z8 z9 jf p0 p1 p2 p3 p4 p5 p6 p7 p8 jt hi jy jx jw jv lj;obtain ⟨⟨c0,ld,kz,c3,c4⟩,f1,f2,f3,f4⟩:=K12.out.r.r.cells;by_cases jb:s5.bad=0
              · have q5:((s5.bad:Int) == 0)=true:=by rw [jb];rfl
                have WD:=aA (Dq ts rb a c s5 ⟨#[97,110,100]⟩ Y K12.out.r);obtain ⟨wb,O⟩:∃ z,dX ts l8 s5.pos=z:=⟨_,rfl⟩;rw [show (⟨#[97,110,100]⟩:Tr).data.toList=l8 from rfl,O] at WD;have lh:=aA (fun h:wb=true=>Cb (O.trans h))
                have jq:=aA (show kLo ts (5-(acc++[d]).length) wb (acc++[d]) s5=RL by
                 rw [<- I.out,jb,O,Tb];cases wb with
                 | true=>rw [Gj jb];rfl
                 | false=>unfold kLo;rfl)
                clear O I jb;go_wp2_with fail
                refine WD.out.mono ?_;rintro e v7 ⟨rfl,j⟩;have km:=aA (K12.out.step (K12.out.r.kept j) (j.mono (fun _ h _=>h.elim)));clear j WD K12 c0 ld kz c3 c4 f1 f2 f3 f4;obtain ⟨-, -, -, -, -, -, -, -, -, -,D⟩:=aE km.out.n;go_wp2_with fail
                go_roundw
                case rel=>exact ⟨wb,_,acc++[d],_,_,s5,rfl,rfl,by have:=je.out;simp;omega,fun h _=>lh.out h,jq,km⟩
                case measure =>
                 rw [D,MB.out];have:=je.out;simp [Rp];omega
              · have q5:((s5.bad:Int) == 0)=false:=beq_eq_false_iff_ne.2 jb
                have jq:=aA (show kLo ts (5-(acc++[d]).length) false (acc++[d]) s5=RL by
                 rw [<- I.out,show (s5.bad == 0)=false from q5];unfold kLo;rfl)
                clear I jb;obtain ⟨-, -, -, -, -, -, -, -, -, -,D⟩:=aE K12.out.n;go_wp2_with fail
                go_roundw
                case rel=>exact ⟨false,_,acc++[d],_,_,s5,rfl,rfl,by have:=je.out;simp;omega,fun h _=>(by cases h),jq,K12⟩
                case measure =>
                 rw [D,MB.out];have:=je.out;simp [Rp];omega
          · have I:=aA (show RL=(acc,s) by rw [<- HL.out];exact if_neg jg)
            cases L with
            | false =>
              clear jg T;go_wp2_with fail
              go_meet;case rel=>exact ⟨pa,qs,aA (by rw [I.out];exact HK.out)⟩
            | true =>
              have q1:((s.bad:Int) == 0)=false:=beq_eq_false_iff_ne.2 (fun h=>jg ⟨rfl,h⟩);clear jg T;go_wp2_with fail
              go_meet;case rel=>exact ⟨pa,qs,aA (by rw [I.out];exact HK.out)⟩
        case rest =>
         obtain ⟨pa,qs,Z⟩:=hcut;clear K6 jr jp;obtain ⟨⟨c0,c1,c2,c3,c4⟩,f1,f2,f3,f4⟩:=Z.out.r.r.cells;obtain ⟨acc,s⟩:=RL;dsimp only at Z c0 c1 c2 c3 c4 f1 f2 f3 f4;have jc:=aA (p:=agQ E.size ts (kF ⟨xf,xk,xe,xg,acc⟩ (if s.bad=0/\s.pos<ts.length then aQ 2 s else s))=r) HR.out;clear HR;by_cases l:s.bad=0
         · have q1:((s.bad:Int) == 0)=true:=by rw [l];rfl
           by_cases hp:s.pos<ts.length
           · have q2:(s.pos:Int)<(ts.length:Int):=by omega
             have m:=aA (jc.out.symm.trans (congrArg (fun z=>agQ E.size ts (kF ⟨xf,xk,xe,xg,acc⟩ z)) (if_pos (And.intro l hp)))).symm;have FA:=aA (dH ts rb a c s 2 (by decide) wc Z.out.r);clear l jc;go_wp2_with fail
             refine FA.out.mono ?_;rintro e v5 ⟨rfl,hp,j⟩;have K8:=aA (Z.out.step hp j);clear hp j FA;go_wp2_with fail
             go_meet;case rel=>exact ⟨_,pa,qs,_,m,K8⟩
           · have q2:¬ (s.pos:Int)<(ts.length:Int):=by omega
             have m:=aA (jc.out.symm.trans (congrArg (fun z=>agQ E.size ts (kF ⟨xf,xk,xe,xg,acc⟩ z)) (if_neg (fun k=>hp k.2)))).symm;clear l jc;go_wp2_with fail
             go_meet;case rel=>exact ⟨_,pa,qs,_,m,Z⟩
         · have q1:((s.bad:Int) == 0)=false:=beq_eq_false_iff_ne.2 l
           have m:=aA (jc.out.symm.trans (congrArg (fun z=>agQ E.size ts (kF ⟨xf,xk,xe,xg,acc⟩ z)) (if_neg (fun k=>l k.1)))).symm;clear l jc;go_wp2_with fail
           go_meet;case rel=>exact ⟨_,pa,qs,_,m,Z⟩
    case rest =>
     obtain ⟨x,p,qs,s,HR,A⟩:=hcut;clear K4 R HX jl;generalize wc=V at A |-
     by_cases l:s.bad=0
     · have ju:((s.bad:Int) == 0)=true:=by rw [l];rfl
       have kw:((s.bad:Int) != 0)=false:=by rw [l];rfl
       have jj:=aA (show r=.ok x by rw [<- HR.out,My l];rfl);obtain ⟨⟨c0,c1,c2,c3,c4⟩,f1,f2,f3,f4⟩:=A.out.r.r.cells;obtain ⟨m0,m1,m2,m3,m4,m5,m6,m7,m8,m9,D⟩:=aE A.out.n;obtain ⟨z0,z1,z2,z3,z4,z5,z6,z7,z8,z9,jf⟩:=bI A.out.o;obtain ⟨b0,b1,b2,b3,b4,b5,b6,b7,b8,b9,le⟩:=aE A.out.o;clear l;go_wp2_with fail
       obtain ⟨y0,y1,y2,y3,y4,y5,y6,y7,y8,y9,jk⟩:=aE (cF (t:=82) A.out.o x p);exact bodyPost_ret (v:=.tuple #[agV x p,.int .i64 0,.int .i64 0]) (by simp [results,results32,go_sem,y0,y1,y2,y3,y4,y5,y6,y7,y8,y9,jk]) rfl (by rw [jj.out];exact Su A.out)
     · have ju:((s.bad:Int) == 0)=false:=beq_eq_false_iff_ne.2 l
       have kw:((s.bad:Int) != 0)=true:=by rw [bne,ju];rfl
       have jj:=aA (show r=.bad (eY E.size ts s.whr) s.bad by rw [<- HR.out,uP l];rfl);have RT:=aA (fun U (hU:Below V.heap.size V U)=>(A.out.r.below hU).reads);have CP:=aA (fun U (hU:fQ U a ts)=>FS E ts a c s.whr (by have:=A.out.r.f.2.2.2;omega) U hU);obtain ⟨⟨c0,c1,c2,c3,c4⟩,f1,f2,f3,f4⟩:=A.out.r.r.cells;obtain ⟨z0,z1,z2,z3,z4,z5,z6,z7,z8,z9,jf⟩:=bI A.out.o;obtain ⟨b0,b1,b2,b3,b4,b5,b6,b7,b8,b9,le⟩:=aE A.out.o;have ll:¬ rb=w.heap.size:=by have:=A.out.hr;omega
       have lk:¬ w.heap.size=rb:=by have:=A.out.hr;omega
       have js:=MR A.out;dsimp only [eJ,aO,aI,aD,F.len,List.length_nil] at js;have CZ:=aA js;clear l js;go_upto_region 30 with fail
       refine wp_region_held (S:=fun U=>U.cell? ⟨rb,3,none⟩=some (.int .i64 s.bad)/\U.cell? ⟨rb,4,none⟩=some (.int .i64 s.whr)) (by kernel_rfl) ?_;have hHeld:(fun U:World=>U.cell? ⟨rb,3,none⟩=some (.int .i64 s.bad)/\U.cell? ⟨rb,4,none⟩=some (.int .i64 s.whr)) V.drew:=⟨c3,c4⟩;refine aB (i:=0) (d:=some 147) (v:=.agg #[.string ⟨#[]⟩,.int .i64 0,.string ⟨#[]⟩,.string ⟨#[]⟩,.int .i64 0,.slice none 0 0,.string ⟨#[]⟩,.string ⟨#[]⟩,.int .i64 0,.slice none 0 0,.slice none 0 0]) rfl rfl (by kernel_rfl) (by kernel_rfl) (by kernel_rfl) (fun _ _ _ h=>h) (Or.inl ⟨by rfl,by rintro w ⟨c3,c4⟩;go_simp⟩) hHeld ?_;simp only [Act.put,S7,S9,Ta];refine aB (i:=1) (d:=some 148) (v:=.string E) rfl rfl (by kernel_rfl) (by kernel_rfl) (by kernel_rfl) (fun _ _ _ h=>h) (Or.inl ⟨by rfl,by rintro w ⟨c3,c4⟩;go_simp⟩) hHeld ?_;simp only [Act.put,S7,S9,Ta];refine aB (i:=2) (d:=some 149) (v:=.slice a ts.length c) rfl rfl (by kernel_rfl) (by kernel_rfl) (by kernel_rfl) (fun _ _ _ h=>h) (Or.inl ⟨by rfl,by rintro w ⟨c3,c4⟩;go_simp⟩) hHeld ?_;simp only [Act.put,S7,S9,Ta];refine aB (i:=3) (d:=some 150) (v:=.pointer (some ⟨rb,0,none⟩)) rfl rfl (by kernel_rfl) (by kernel_rfl) (by kernel_rfl) (fun _ _ _ h=>h) (Or.inl ⟨by rfl,by rintro w ⟨c3,c4⟩;go_simp⟩) hHeld ?_;simp only [Act.put,S7,S9,Ta];refine aB (i:=4) (d:=some 151) (v:=.pointer (some ⟨rb,0,none⟩)) rfl rfl (by kernel_rfl) (by kernel_rfl) (by kernel_rfl) (fun _ _ _ h=>h) (Or.inl ⟨by rfl,by rintro w ⟨c3,c4⟩;go_simp⟩) hHeld ?_;simp only [Act.put,S7,S9,Ta];refine aB (i:=5) (d:=some 152) (v:=.pointer (some ⟨rb,4,none⟩)) rfl rfl (by kernel_rfl) (by kernel_rfl) (by kernel_rfl) (fun _ _ _ h=>h) (Or.inl ⟨by rfl,by rintro w ⟨c3,c4⟩;go_simp⟩) hHeld ?_
       simp only [Act.put,S7,S9,Ta];refine aB (i:=6) (d:=some 153) (v:=.int .i64 s.whr) rfl rfl (by kernel_rfl) (by kernel_rfl) (by kernel_rfl) (fun _ _ _ h=>h) (Or.inl ⟨by rfl,by rintro w ⟨c3,c4⟩;go_simp⟩) hHeld ?_;simp only [Act.put,S7,S9,Ta];refine aB (i:=8) (d:=some 155) (v:=.pointer (some ⟨rb,0,none⟩)) rfl rfl (by kernel_rfl) (by kernel_rfl) (by kernel_rfl) (fun _ _ _ h=>h) (Or.inl ⟨by rfl,by rintro w ⟨c3,c4⟩;go_simp⟩) hHeld ?_;simp only [Act.put,S7,S9,Ta];refine aB (i:=9) (d:=some 156) (v:=.pointer (some ⟨rb,0,none⟩)) rfl rfl (by kernel_rfl) (by kernel_rfl) (by kernel_rfl) (fun _ _ _ h=>h) (Or.inl ⟨by rfl,by rintro w ⟨c3,c4⟩;go_simp⟩) hHeld ?_;simp only [Act.put,S7,S9,Ta];refine aB (i:=10) (d:=some 157) (v:=.pointer (some ⟨rb,3,none⟩)) rfl rfl (by kernel_rfl) (by kernel_rfl) (by kernel_rfl) (fun _ _ _ h=>h) (Or.inl ⟨by rfl,by rintro w ⟨c3,c4⟩;go_simp⟩) hHeld ?_;simp only [Act.put,S7,S9,Ta];refine aB (i:=11) (d:=some 158) (v:=.int .i64 s.bad) rfl rfl (by kernel_rfl) (by kernel_rfl) (by kernel_rfl) (fun _ _ _ h=>h) (Or.inl ⟨by rfl,by rintro w ⟨c3,c4⟩;go_simp⟩) hHeld ?_;simp only [Act.put,S7,S9,Ta];refine wpAnyH_ready (rs:=[7]) (by kernel_rfl) (by simp) ?_;refine AllReadyH.cons (o:=_) rfl (fun K hK=>?_) AllReadyH.nil;go_simp
       refine (CP.out _ (RT.out _ (aT V))).mono ?_;rintro e w6 ⟨rfl,rfl⟩;refine hK.out _ _ hHeld (fun hHeld5=>?_);try simp only [Act.put,S7,S9,Ta]
       clear hK K;refine wpAnyH_ready (rs:=[12]) (by kernel_rfl) (by simp) ?_;refine AllReadyH.cons (o:=_) rfl (fun K hK=>?_) AllReadyH.nil;go_simp
       refine hK.out _ _ CZ.out (fun hHeld6=>?_);try simp only [Act.put,S7,S9,Ta]
       clear hK K hHeld5;refine aB (i:=13) (d:=some 3) (v:=.int .i64 ((eY E.size ts s.whr:Nat):Int)) rfl rfl (by kernel_rfl) (by kernel_rfl) (by kernel_rfl) (fun _ _ _ h=>h) (Or.inl ⟨by rfl,by rintro w ⟨c3,c4⟩;go_simp⟩) hHeld6 ?_;simp only [Act.put,S7,S9,Ta];refine aB (i:=14) (d:=some 4) (v:=.int .i64 s.bad) rfl rfl (by kernel_rfl) (by kernel_rfl) (by kernel_rfl) (fun _ _ _ h=>h) (Or.inl ⟨by rfl,by rintro w ⟨c3,c4⟩;go_simp⟩) hHeld6 ?_;simp only [Act.put,S7,S9,Ta];refine wpAnyH_done (by kernel_rfl) ?_ _;clear hHeld6;go_wp2_with fail
       obtain ⟨y0,y1,y2,y3,y4,y5,y6,y7,y8,y9,jk⟩:=aE (JQ A.out);dsimp only [eJ,aO,aI,aD,F.len,List.length_nil] at y0 y1 y2 y3 y4 y5 y6 y7 y8 y9 jk;exact bodyPost_ret (v:=.tuple #[agV aO aI,.int .i64 ((eY E.size ts s.whr:Nat):Int),.int .i64 s.bad]) (by simp [results,results32,go_sem,y0,y1,y2,y3,y4,y5,y6,y7,y8,y9,jk,aO,aI,aD,F.len]) rfl (by rw [jj.out];exact Ry A.out)
theorem At (b:Tr) (w:World):Calls prog 32 #[.string b] w (l7 (agX b.data.toList) w):=by
 unfold agX;cases c:gY b.data.toList with
 | bad p er=>exact QU b w c
 | ok ts =>
   have h:=QT b w c;have hs:b.size=b.data.toList.length:=by simp
   rw [hs] at h;simp only;cases ha:agL ts with
   | bad p er=>rw [ha] at h;exact h
   | ok a=>rw [ha] at h;exact h
abbrev agP (x:AG) (p:PA):Obj:=.cells (agC x p) 70
structure KP9 (G:Nat->Prop) (w:World) (x:AG) (p:PA) (V:World):Prop where
 b:Below w.heap.size w V
 z:w.heap.size<=V.heap.size
 n:V.heap[w.heap.size]? = some (agP x p)
 r:aX G V x p
theorem KP9.step {G:Nat->Prop} {w V V':World} {x:AG} {p:PA} (h:KP9 G w x p V) (a:Below V.heap.size V V'):KP9 G w x p V' :=
 ⟨h.b.trans (a.mono h.z),Nat.le_trans h.z a.size,(a.block _ (aG h.n)).trans h.n,h.r.kept a⟩
theorem qS {G:Nat->Prop} {w:World} {x:AG} {p:PA} (hr:aX G w x p):KP9 G w x p (w.alloc (agP x p)) :=
 ⟨bA0 _ _,by rw [Tc];omega,heap_alloc_new w _,hr.kept (bA0 _ _)⟩
end Go.Proofs.YtgfkjkokmcejbaaGreatDoor
