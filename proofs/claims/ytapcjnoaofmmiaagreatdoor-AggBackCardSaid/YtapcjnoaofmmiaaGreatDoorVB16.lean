/-
 No statement: what AggBackCard needs, of the texts OKn1, OKn2, QLawOf, NodeOf, AggOf, OGood, OGk, OTextsP.
-/
import Derived.Test.YtapcjnoaofmmiaaGreatDoorVB15
set_option maxHeartbeats 40000000
set_option maxRecDepth 100000
namespace Go.Proofs.YtapcjnoaofmmiaaGreatDoor
section
open Go.RowKit
def Jy:List Tk:=[⟨1,[115,117,109],0,0⟩,⟨3,[40],0,3⟩,⟨1,[120],0,4⟩,⟨3,[41],0,5⟩,⟨1,[119,104,101,114,101],0,7⟩,⟨1,[121],0,13⟩,⟨3,[62],0,15⟩,⟨2,[49],1,17⟩,⟨1,[97,110,100],0,19⟩,⟨1,[120],0,23⟩,⟨3,[33,61],0,25⟩,⟨2,[51],3,28⟩]
def Jw:List Tk:=[⟨1,[97,118,103],0,0⟩,⟨3,[40],0,3⟩,⟨1,[120],0,4⟩,⟨3,[41],0,5⟩]
def Jz:List Tk:=[⟨1,[116,111,112],0,0⟩,⟨3,[40],0,3⟩,⟨2,[50],2,4⟩,⟨3,[44],0,5⟩,⟨1,[120],0,7⟩,⟨3,[41],0,8⟩]
def fP:AG:=⟨⟨#[115,117,109]⟩,0,dL [120],aR,[⟨⟨#[62]⟩,dL [121],nX 1⟩,⟨⟨#[33,61]⟩,dL [120],nX 3⟩]⟩
def lS:AG:=⟨⟨#[116,111,112]⟩,2,dL [120],aR,[]⟩
theorem cG {l:List UInt8} {p:Nat} {k v:Int} {n:Nat} {ts:List Tk} (h1:¬ l.head? = some 32) (hn:1<=n) (h:cQ l=.tok k n v) (hr:cZ (l.drop n) (p+n)=.ok ts):cZ l p=.ok (⟨k,l.take n,v,p⟩::ts):=by
 rw [gF h1 hn h,hr];rfl
theorem Io:cZ [115,117,109,40,120,41,32,119,104,101,114,101,32,121,32,62,32,49,32,97,110,100,32,120,32,33,61,32,51] 0=.ok Jy:=by
 refine cG (n:=3) (k:=1) (v:=0) (by decide) (by decide) (by rfl) ?_;refine cG (n:=1) (k:=3) (v:=0) (by decide) (by decide) (by rfl) ?_;refine cG (n:=1) (k:=1) (v:=0) (by decide) (by decide) (by rfl) ?_;refine cG (n:=1) (k:=3) (v:=0) (by decide) (by decide) (by rfl) ?_;refine (cN _ _).trans ?_;refine cG (n:=5) (k:=1) (v:=0) (by decide) (by decide) (by rfl) ?_;refine (cN _ _).trans ?_;refine cG (n:=1) (k:=1) (v:=0) (by decide) (by decide) (by rfl) ?_;refine (cN _ _).trans ?_;refine cG (n:=1) (k:=3) (v:=0) (by decide) (by decide) (by rfl) ?_;refine (cN _ _).trans ?_;refine cG (n:=1) (k:=2) (v:=1) (by decide) (by decide) (by rfl) ?_;refine (cN _ _).trans ?_;refine cG (n:=3) (k:=1) (v:=0) (by decide) (by decide) (by rfl) ?_;refine (cN _ _).trans ?_;refine cG (n:=1) (k:=1) (v:=0) (by decide) (by decide) (by rfl) ?_;refine (cN _ _).trans ?_;refine cG (n:=2) (k:=3) (v:=0) (by decide) (by decide) (by rfl) ?_;refine (cN _ _).trans ?_;refine cG (n:=1) (k:=2) (v:=3) (by decide) (by decide) (by rfl) ?_;exact iB _
theorem In:cZ [97,118,103,40,120,41] 0=.ok Jw:=by
 refine cG (n:=3) (k:=1) (v:=0) (by decide) (by decide) (by rfl) ?_;refine cG (n:=1) (k:=3) (v:=0) (by decide) (by decide) (by rfl) ?_;refine cG (n:=1) (k:=1) (v:=0) (by decide) (by decide) (by rfl) ?_;refine cG (n:=1) (k:=3) (v:=0) (by decide) (by decide) (by rfl) ?_;exact iB _
theorem Im:cZ [116,111,112,40,50,44,32,120,41] 0=.ok Jz:=by
 refine cG (n:=3) (k:=1) (v:=0) (by decide) (by decide) (by rfl) ?_;refine cG (n:=1) (k:=3) (v:=0) (by decide) (by decide) (by rfl) ?_;refine cG (n:=1) (k:=2) (v:=2) (by decide) (by decide) (by rfl) ?_;refine cG (n:=1) (k:=3) (v:=0) (by decide) (by decide) (by rfl) ?_;refine (cN _ _).trans ?_;refine cG (n:=1) (k:=1) (v:=0) (by decide) (by decide) (by rfl) ?_;refine cG (n:=1) (k:=3) (v:=0) (by decide) (by decide) (by rfl) ?_;exact iB _
theorem Jv:agX (⟨#[115,117,109,40,120,41,32,119,104,101,114,101,32,121,32,62,32,49,32,97,110,100,32,120,32,33,61,32,51]⟩:ByteArray).data.toList=.ok fP:=by
 have h:gR (⟨#[115,117,109,40,120,41,32,119,104,101,114,101,32,121,32,62,32,49,32,97,110,100,32,120,32,33,61,32,51]⟩:ByteArray).data.toList=.ok Jy:=by
  unfold gR;rw [if_neg (by decide)];exact Io
 unfold agX;rw [h];simp only;rw [show agL Jy=.ok fP by rfl];all_goals rfl
theorem Ju:agX (⟨#[97,118,103,40,120,41]⟩:ByteArray).data.toList=.bad 0 5:=by
 have h:gR (⟨#[97,118,103,40,120,41]⟩:ByteArray).data.toList=.ok Jw:=by
  unfold gR;rw [if_neg (by decide)];exact In
 unfold agX;rw [h];simp only;rw [show agL Jw=.bad 0 5 by rfl];all_goals rfl
theorem Jt:agX (⟨#[116,111,112,40,50,44,32,120,41]⟩:ByteArray).data.toList=.ok lS:=by
 have h:gR (⟨#[116,111,112,40,50,44,32,120,41]⟩:ByteArray).data.toList=.ok Jz:=by
  unfold gR;rw [if_neg (by decide)];exact Im
 unfold agX;rw [h];simp only;rw [show agL Jz=.ok lS by rfl];all_goals rfl
theorem kV:eM fP=0:=by rfl
theorem zZ:eM lS=0:=by rfl
theorem kU:fC fP:=⟨by simp [fP,dL,TN.f,cX],by simp [fP,aR,TN.f,cX],fun d hd=>by
 simp only [fP,List.mem_cons,List.not_mem_nil,or_false] at hd;rcases hd with rfl | rfl <;> simp [dL,nX,TN.f,cX]⟩
theorem vZ:fC lS:=⟨by simp [lS,dL,TN.f,cX],by simp [lS,aR,TN.f,cX],fun d hd=>by simp [lS] at hd⟩
theorem Cp:SzG fP:=⟨by simp [fP,dL,TN.f,SzF,F.len,ByteArray.size],by simp [fP,aR,TN.f,SzF,F.len,ByteArray.size],fun d hd=>by
 simp only [fP,List.mem_cons,List.not_mem_nil,or_false] at hd;rcases hd with rfl | rfl <;> simp [dL,nX,TN.f,SzF,F.len,ByteArray.size]⟩
theorem Iq:SzG lS:=⟨by simp [lS,dL,TN.f,SzF,F.len,ByteArray.size],by simp [lS,aR,TN.f,SzF,F.len,ByteArray.size],fun d hd=>by simp [lS] at hd⟩
theorem FW:cJ fP=[115,117,109,40,120,41,32,119,104,101,114,101,32,121,32,62,32,49,32,97,110,100,32,120,32,33,61,32,51]:=by
 have h1:Lib.itoa 1=[49]:=by simp [Lib.itoa,Lib.decDigits]
 have h3:Lib.itoa 3=[51]:=by simp [Lib.itoa,Lib.decDigits]
 have:cJ fP=[115,117,109,40,120,41,32,119,104,101,114,101,32,121,32,62,32]++(Lib.itoa 1++([32,97,110,100,32,120,32,33,61,32]++(Lib.itoa 3++[]))):=by rfl
 rw [this,h1,h3];rfl
theorem FX:j0 fP fP=true:=by
 simp only [j0,fP,eI,Lib.toList_data];rfl
theorem DZ:j0 fP lS=false:=by
 simp only [j0,fP,lS,eI,Lib.toList_data];rfl
def A11 (x y:Int) (j:Nat):Wr.AD:=if j=0 then ⟨⟨#[120]⟩,1,x,⟨#[]⟩,0,fun _=>0⟩ else ⟨⟨#[121]⟩,1,y,⟨#[]⟩,0,fun _=>0⟩
def g11 (x y:Int) (m:ByteArray):Option Int:=if m=⟨#[120]⟩ then some x else if m=⟨#[121]⟩ then some y else none
theorem G1 (x y:Int) (hx:bM x) (hy:bM y):j5 (A11 x y) 2 (g11 x y) where
 ok:={
  yes:=fun j hj=>by
   have:j=0\/j=1:=by omega
   rcases this with rfl | rfl <;> rfl
  no:=fun z h=>by
   unfold g11;rw [if_neg fun e=>h 0 (by decide) (by rw [e];rfl),if_neg fun e=>h 1 (by decide) (by rw [e];rfl)]
  fit:=fun z v h=>by
   unfold g11 at h;split at h
   · cases h;exact hx
   · split at h
     · cases h;exact hy
     · cases h }
 ri:=fun i j hij hj=>by
  obtain rfl:i=0:=by omega
  obtain rfl:j=1:=by omega
  show Op.bytesLess (⟨#[120]⟩:ByteArray).toList (⟨#[121]⟩:ByteArray).toList=true;rw [Lib.toList_data,Lib.toList_data];decide
 few:=by decide
 sm:=fun j hj=>by
  have:j=0\/j=1:=by omega
  rcases this with rfl | rfl <;> exact Nat.zero_le _
abbrev o11 (x y:Int):Obj:=.cells #[.string ⟨#[120]⟩,.int .i64 1,.int .i64 x,.string ⟨#[]⟩,.slice none 0 0,.string ⟨#[121]⟩,.int .i64 1,.int .i64 y,.string ⟨#[]⟩,.slice none 0 0] 67
theorem rY {w:World} {b:Nat} {x y:Int} (h:w.heap[b]? = some (o11 x y)):Wr.ReadsA w (some ⟨b,0,none⟩) 2 (A11 x y):=by
 refine ⟨by unfold maxLen;omega,.inr ⟨b,0,rfl,fun j hj=>?_⟩⟩;have:j=0\/j=1:=by omega
 rcases this with rfl | rfl
 · exact ⟨none,0,⟨by simp [World.cell?,h,A11],by simp [World.cell?,h,A11],by simp [World.cell?,h,A11],by simp [World.cell?,h,A11],by simp [World.cell?,h,A11]⟩,Nat.zero_le _,.inl rfl⟩
 · exact ⟨none,0,⟨by simp [World.cell?,h,A11],by simp [World.cell?,h,A11],by simp [World.cell?,h,A11],by simp [World.cell?,h,A11],by simp [World.cell?,h,A11]⟩,Nat.zero_le _,.inl rfl⟩
def r11 (x y:Int):RW:=⟨2,A11 x y,g11 x y⟩
def sU:List RW:=[r11 5 2,r11 3 2,r11 7 1,r11 2 9]
theorem sT:∀ r∈sU,j5 r.A r.n r.g:=by
 intro r hr;simp only [sU,List.mem_cons,List.not_mem_nil,or_false] at hr;rcases hr with rfl | rfl | rfl | rfl <;> exact G1 _ _ (by unfold bM;omega) (by unfold bM;omega)
theorem Jb:evG fP (sU.map RW.g)=.num 7:=by rfl
theorem Ja:evG lS (sU.map RW.g)=.list [5,7]:=by rfl
theorem pD (x y:Int) (w:World):Calls Tryz.prog 27 #[.int .i64 x,.int .i64 y] w fun e w'=>e=.returned (.slice (some ⟨w.heap.size,0,none⟩) 2 2)/\w'=w.alloc (o11 x y):=by
 go_enter Tryz.func27,Tryz.ntmps27
 go_wp2
 go_ret;exact ⟨rfl,rfl⟩
structure K11 (w:World) (x:AG) (n1:Nat) (p1:PA) (V:World):Prop where
 b:Below w.heap.size w V
 l:oF V
 z:w.heap.size<=V.heap.size
 n:V.heap[n1]? = some (agP x p1)
 r:aJ (fun b=>w.heap.size<=b) V x p1
theorem K11.step {w V V':World} {x:AG} {n1:Nat} {p1:PA} (h:K11 w x n1 p1 V) (hb:Below V.heap.size V V'):K11 w x n1 p1 V' :=
 ⟨h.b.trans (hb.mono h.z),h.l.step hb,Nat.le_trans h.z hb.size,(hb.block _ (aC h.n)).trans h.n,h.r.kept hb⟩
theorem Ip {w w1:World} {x:AG} {p:PA} (hl:oF w) (hb:Below w.heap.size w w1) (hr:aJ (fun b=>w.heap.size<=b) w1 x p):K11 w x w1.heap.size p (w1.alloc (agP x p)):=by
 have B:=(Below.refl w1.heap.size w1).alloc (Nat.le_refl _) (agP x p);exact ⟨hb.trans (B.mono hb.size),(hl.step hb).step B,Nat.le_trans hb.size B.size,heap_alloc_new w1 _,hr.kept B⟩
structure L11 (x:AG) (n1:Nat) (p1:PA) (V:World):Prop where
 n:V.heap[n1]? = some (agP x p1)
 r:aJ (fun _=>True) V x p1
theorem L11.step {V V':World} {x:AG} {n1:Nat} {p1:PA} (h:L11 x n1 p1 V) (hb:Below V.heap.size V V'):L11 x n1 p1 V' :=
 ⟨(hb.block _ (aC h.n)).trans h.n,h.r.kept hb⟩
structure S11 (w:World) (x y:AG) (p q:PA) (n1 n8 n10 n13 lb lo lc:Nat) (V:World):Prop where
 k:K11 w x n1 p V
 y:L11 y n10 q V
 v:V.heap[n8]? = some (vlA 1 7 none 0 0)
 l:V.heap[n13]? = some (vlA 3 0 (some ⟨lb,lo,none⟩) 2 lc)
 lt:lb<V.heap.size
 c0:V.cell? ⟨lb,lo,none⟩=some (.int .i64 5)
 c1:V.cell? ⟨lb,lo+1,none⟩=some (.int .i64 7)
theorem S11.step {w V V':World} {x y:AG} {p q:PA} {n1 n8 n10 n13 lb lo lc:Nat} (h:S11 w x y p q n1 n8 n10 n13 lb lo lc V) (hb:Below V.heap.size V V'):S11 w x y p q n1 n8 n10 n13 lb lo lc V' :=
 ⟨h.k.step hb,h.y.step hb,(hb.block _ (aC h.v)).trans h.v,(hb.block _ (aC h.l)).trans h.l,Nat.lt_of_lt_of_le h.lt hb.size,(hb.cell (p:=⟨lb,lo,none⟩) h.lt).trans h.c0,(hb.cell (p:=⟨lb,lo+1,none⟩) h.lt).trans h.c1⟩
abbrev zF (a:Nat):Obj:=.cells #[.slice (some ⟨a,0,none⟩) 2 2,.slice (some ⟨a+1,0,none⟩) 2 2,.slice (some ⟨a+2,0,none⟩) 2 2,.slice (some ⟨a+3,0,none⟩) 2 2] 64
abbrev W11 (w:World):World:=(((w.alloc (o11 5 2)).alloc (o11 3 2)).alloc (o11 7 1)).alloc (o11 2 9)
theorem Jc (w:World):dI ((W11 w).alloc (zF w.heap.size)) (some ⟨w.heap.size+4,0,none⟩) sU/\Below w.heap.size w ((W11 w).alloc (zF w.heap.size)):=by
 have N0:=heap_alloc_new w (o11 5 2);have B0:=(Below.refl w.heap.size w).alloc (Nat.le_refl _) (o11 5 2);have s0:(w.alloc (o11 5 2)).heap.size=w.heap.size+1:=World.size_alloc _ _;unfold W11;generalize w.alloc (o11 5 2)=w1 at *;have N1:=heap_alloc_new w1 (o11 3 2);have B1:=(Below.refl w1.heap.size w1).alloc (Nat.le_refl _) (o11 3 2);have s1:(w1.alloc (o11 3 2)).heap.size=w1.heap.size+1:=World.size_alloc _ _;generalize w1.alloc (o11 3 2)=w2 at *;have N2:=heap_alloc_new w2 (o11 7 1);have B2:=(Below.refl w2.heap.size w2).alloc (Nat.le_refl _) (o11 7 1);have s2:(w2.alloc (o11 7 1)).heap.size=w2.heap.size+1:=World.size_alloc _ _;generalize w2.alloc (o11 7 1)=w3 at *;have N3:=heap_alloc_new w3 (o11 2 9);have B3:=(Below.refl w3.heap.size w3).alloc (Nat.le_refl _) (o11 2 9);have s3:(w3.alloc (o11 2 9)).heap.size=w3.heap.size+1:=World.size_alloc _ _;generalize w3.alloc (o11 2 9)=w4 at *;have N4:=heap_alloc_new w4 (zF w.heap.size);have B4:=(Below.refl w4.heap.size w4).alloc (Nat.le_refl _) (zF w.heap.size);have s4:(w4.alloc (zF w.heap.size)).heap.size=w4.heap.size+1:=World.size_alloc _ _;generalize w4.alloc (zF w.heap.size)=w5 at *;have C34:=B3.trans (B4.mono (by omega));have C24:=B2.trans (C34.mono (by omega));have C14:=B1.trans (C24.mono (by omega));have C04:=B0.trans (C14.mono (by omega));have M3:=(B4.block _ (by omega)).trans N3;have M2:=(C34.block _ (by omega)).trans N2;have M1:=(C24.block _ (by omega)).trans N1;have M0:=(C14.block _ (by omega)).trans N0;rw [show w1.heap.size=w.heap.size+1 by omega] at M1
 rw [show w2.heap.size=w.heap.size+2 by omega] at M2;rw [show w3.heap.size=w.heap.size+3 by omega] at M3;rw [show w4.heap.size=w.heap.size+4 by omega] at N4;refine ⟨.inr ⟨w.heap.size+4,0,rfl,aC N4,fun j r hj=>?_⟩,C04⟩;have hl:=(List.getElem?_eq_some_iff.1 hj).1;have hl4:j<4:=hl;have:j=0\/j=1\/j=2\/j=3:=by omega
 rcases this with rfl | rfl | rfl | rfl <;> cases hj
 · exact ⟨_,2,by simp [World.cell?,N4,r11],rY M0⟩
 · exact ⟨_,2,by simp [World.cell?,N4,r11],rY M1⟩
 · exact ⟨_,2,by simp [World.cell?,N4,r11],rY M2⟩
 · exact ⟨_,2,by simp [World.cell?,N4,r11],rY M3⟩
theorem zY (w:World) (hw:oF w):Calls Tryz.prog 8 #[] w fun e w'=>e=.returned (.bool true)/\Below w.heap.size w w':=by
 have A1:=fun (w:World) (hw:gK w)=>iA ⟨#[115,117,109,40,120,41,32,119,104,101,114,101,32,121,32,62,32,49,32,97,110,100,32,120,32,33,61,32,51]⟩ (by decide) w hw
 have A2:=fun (w:World) (hw:gK w)=>iA ⟨#[97,118,103,40,120,41]⟩ (by decide) w hw
 have A3:=fun (w:World) (hw:gK w)=>iA ⟨#[116,111,112,40,50,44,32,120,41]⟩ (by decide) w hw
 rw [Jv] at A1;rw [Ju] at A2;rw [Jt] at A3;have E1:=fun (G:Nat->Prop) (p:PA) (ya:Option Addr) (V:World) (hr:aJ G V fP p) (hy:dI V ya sU)=>Hr fP p sU ya 4 V kV kU Cp sT (by decide) hr hy (by rfl)
 have E2:=fun (G:Nat->Prop) (p:PA) (ya:Option Addr) (V:World) (hr:aJ G V lS p) (hy:dI V ya sU)=>Hq lS p sU ya 4 V zZ vZ Iq sT (by decide) hr hy (by rfl)
 rw [Jb] at E1;rw [Ja] at E2;rw [show sU.length=4 by rfl] at E1 E2;have TX:=fun (G:Nat->Prop) (p:PA) (V:World) (hl:j6 V) (hr:aJ G V fP p)=>pL fP p V kV kU hl hr
 rw [FW] at TX;have CK:=fun (G:Nat->Prop) (p:PA) (V:World) (hr:aJ G V fP p)=>fD fP p V Cp (by decide) hr
 rw [kV] at CK;have SM:=fun (G:Nat->Prop) (p:PA) (V:World) (hr:aJ G V fP p)=>lK G G fP p fP p V kV kU kV kU hr hr
 rw [FX] at SM;have SO:=fun (G G':Nat->Prop) (p q:PA) (V:World) (hr:aJ G V fP p) (hq:aJ G' V lS q)=>lK G G' fP p lS q V kV kU zZ vZ hr hq
 rw [DZ] at SO;obtain ⟨rs,hrs⟩:∃ r,sU=r:=⟨_,rfl⟩;have RW:=aA (fun w=>Jc w);rw [hrs] at E1 E2 RW;generalize fP=x at *;generalize lS=y at *;have A1':=aA A1;have A2':=aA A2;have A3':=aA A3;have E1':=aA E1;have E2':=aA E2;have TX':=aA TX;have CK':=aA CK;have SM':=aA SM;have SO':=aA SO;have LD:=aA hw;clear A1 A2 A3 E1 E2 TX CK SM SO hw hrs;go_enter Tryz.func8,Tryz.ntmps8
 go_wp2_with fail
 refine (A1'.out w LD.out.1).mono ?_;rintro e w1 ⟨hb1,p,rfl,hr1⟩;have S1:=Ip LD.out hb1 hr1;generalize hn1:w1.heap.size=n1 at S1;generalize hV1:w1.alloc (agP x p)=V1 at S1;have HS1:=aA S1;have HN1:=aA hn1;have HV1:=aA hV1;clear hb1 hr1 S1 hn1 hV1 A1';go_upto_region 2 with fail
 rw [show w1.alloc (.cells #[.string x.fn,.int .i64 x.k,.string x.e.op,.string x.e.nm,.int .i64 x.e.n,.slice p.ea x.e.ks.len p.ec,.string x.g.op,.string x.g.nm,.int .i64 x.g.n,.slice p.ga x.g.ks.len p.gc,.slice p.wa x.wh.length p.wc] 28)=V1 from HV1.out,HN1.out];clear HV1 HN1;go_wp2_with fail
 refine (A2'.out V1 HS1.out.l.1).mono ?_;rintro e w2 ⟨hb2,rfl⟩;have S2:=(HS1.out.step hb2).step ((Below.refl w2.heap.size w2).alloc (Nat.le_refl _) (agP aU aW));generalize hn2:w2.heap.size=n2;generalize hV2:w2.alloc (agP aU aW)=V2 at S2;have HS2:=aA S2;have HN2:=aA hn2;have HV2:=aA hV2;clear hb2 S2 hn2 hV2 A2' HS1;go_upto_region 3 with fail
 rw [show w2.alloc (.cells #[.string aU.fn,.int .i64 aU.k,.string aU.e.op,.string aU.e.nm,.int .i64 aU.e.n,.slice aW.ea aU.e.ks.len aW.ec,.string aU.g.op,.string aU.g.nm,.int .i64 aU.g.n,.slice aW.ga aU.g.ks.len aW.gc,.slice aW.wa aU.wh.length aW.wc] 28)=V2 from HV2.out];clear HV2;go_wp2_with fail
 refine (pD _ _ _).mono ?_;rintro e _ ⟨rfl,rfl⟩;go_wp2_with fail
 refine (pD _ _ _).mono ?_;rintro e _ ⟨rfl,rfl⟩;go_wp2_with fail
 refine (pD _ _ _).mono ?_;rintro e _ ⟨rfl,rfl⟩;go_wp2_with fail
 refine (pD _ _ _).mono ?_;rintro e _ ⟨rfl,rfl⟩;obtain ⟨hrr,hbb⟩:=RW.out V2;have S3:=HS2.out.step hbb;obtain ⟨rb,hrb⟩:∃ rb,V2.heap.size+1+1+1+1=rb:=⟨_,rfl⟩;have hrr2:dI ((W11 V2).alloc (zF V2.heap.size)) (some ⟨rb,0,none⟩) rs:=by rw [<- hrb];exact hrr
 generalize hV3:(W11 V2).alloc (zF V2.heap.size)=V3 at S3 hrr2;have HS3:=aA S3;have HRR:=aA hrr2;have HV3:=aA hV3;have HRB:=aA hrb;clear hrr hbb S3 hrr2 hV3 hrb RW;go_upto_region 4 with fail
 rw [show ((((V2.alloc (o11 5 2)).alloc (o11 3 2)).alloc (o11 7 1)).alloc (o11 2 9)).alloc (.cells #[.slice (some ⟨V2.heap.size,0,none⟩) 2 2,.slice (some ⟨V2.heap.size+1,0,none⟩) 2 2,.slice (some ⟨V2.heap.size+1+1,0,none⟩) 2 2,.slice (some ⟨V2.heap.size+1+1+1,0,none⟩) 2 2] 64)=V3 from HV3.out,HRB.out];clear HV3 HRB HS2;obtain ⟨m0,m1,m2,m3,m4,m5,m6,m7,m8,m9,m10⟩:=aD HS3.out.n;have EV:=aA (E1'.out _ p (some ⟨rb,0,none⟩) V3 HS3.out.r HRR.out);go_wp2_with fail
 refine EV.out.mono ?_;rintro e w4 ⟨hb4,rfl⟩;have BA:=(Below.refl w4.heap.size w4).alloc (Nat.le_refl _) (vlA 1 7 none 0 0);have S4:=(HS3.out.step hb4).step BA;have R4:=e8 (e8 HRR.out hb4) BA;have N8:=heap_alloc_new w4 (vlA 1 7 none 0 0);generalize hn8:w4.heap.size=n8 at N8;generalize hV4:w4.alloc (vlA 1 7 none 0 0)=V4 at S4 R4 N8;have HS4:=aA S4;have HR4:=aA R4;have HN8:=aA N8;have HE8:=aA hn8;have HV4:=aA hV4;clear hb4 BA S4 R4 N8 hn8 hV4 EV HS3 HRR m0 m1 m2 m3 m4 m5 m6 m7 m8 m9 m10;go_upto_region 5 with fail
 rw [show w4.alloc (.cells #[.int .i64 1,.int .i64 7,.string ⟨#[]⟩,.slice none 0 0] 53)=V4 from HV4.out,HE8.out];clear HV4 HE8;go_wp2_with fail
 refine (A3'.out V4 HS4.out.l.1).mono ?_;rintro e w5 ⟨hb5,q,rfl,hr5⟩;have BA:=(Below.refl w5.heap.size w5).alloc (Nat.le_refl _) (agP y q);have S5:=(HS4.out.step hb5).step BA;have R5:=e8 (e8 HR4.out hb5) BA;have N8:=(BA.block _ (aC ((hb5.block _ (aC HN8.out)).trans HN8.out))).trans ((hb5.block _ (aC HN8.out)).trans HN8.out);have L5:L11 y w5.heap.size q (w5.alloc (agP y q)):=⟨heap_alloc_new w5 _,(hr5.kept BA).imp (fun _ _ _=>trivial)⟩;generalize hn10:w5.heap.size=n10 at L5;generalize hV5:w5.alloc (agP y q)=V5 at S5 R5 N8 L5;have HS5:=aA S5;have HR5:=aA R5;have HN8':=aA N8;have HL5:=aA L5;have HE10:=aA hn10;have HV5:=aA hV5;clear hb5 hr5 BA S5 R5 N8 L5 hn10 hV5 A3' HS4 HR4 HN8;go_upto_region 6 with fail
 rw [show w5.alloc (.cells #[.string y.fn,.int .i64 y.k,.string y.e.op,.string y.e.nm,.int .i64 y.e.n,.slice q.ea y.e.ks.len q.ec,.string y.g.op,.string y.g.nm,.int .i64 y.g.n,.slice q.ga y.g.ks.len q.gc,.slice q.wa y.wh.length q.wc] 28)=V5 from HV5.out,HE10.out];clear HV5 HE10;obtain ⟨y0,y1,y2,y3,y4,y5,y6,y7,y8,y9,y10⟩:=aD HL5.out.n;have EV:=aA (E2'.out _ q (some ⟨rb,0,none⟩) V5 HL5.out.r HR5.out);go_wp2_with fail
 refine EV.out.mono ?_;rintro e w6 ⟨hb6,la,lc,rfl,hle⟩;obtain ⟨lb,lo,rfl,hl1,hl2,hl3⟩:=hle.resolve_left (by decide);have BA:=(Below.refl w6.heap.size w6).alloc (Nat.le_refl _) (vlA 3 0 (some ⟨lb,lo,none⟩) 2 lc);have C0:=(BA.cell (p:=⟨lb,lo+0,none⟩) hl2).trans (hl3 0 5 rfl);have C1:=(BA.cell (p:=⟨lb,lo+1,none⟩) hl2).trans (hl3 1 7 rfl);rw [Nat.add_zero] at C0;have S6:=(HS5.out.step hb6).step BA;have L6:=(HL5.out.step hb6).step BA;have N8:=(BA.block _ (aC ((hb6.block _ (aC HN8'.out)).trans HN8'.out))).trans ((hb6.block _ (aC HN8'.out)).trans HN8'.out);have N13:=heap_alloc_new w6 (vlA 3 0 (some ⟨lb,lo,none⟩) 2 lc);have T6:=aA (show S11 w x y p q n1 n8 n10 w6.heap.size lb lo lc _ from ⟨S6,L6,N8,N13,Nat.lt_of_lt_of_le hl2 BA.size,C0,C1⟩);clear hb6 hl1 hl2 hl3 BA C0 C1 S6 L6 N8 N13 EV HS5 HL5 HR5 HN8' y0 y1 y2 y3 y4 y5 y6 y7 y8 y9 y10;obtain ⟨m0,m1,m2,m3,m4,m5,m6,m7,m8,m9,m10⟩:=aD T6.out.k.n;have TX:=aA (TX'.out _ p _ T6.out.k.l.2 T6.out.k.r);go_wp2_with fail
 refine TX.out.mono ?_;rintro e w7 ⟨rfl,hb7⟩;have T7:=aA (T6.out.step hb7);clear hb7 TX TX' T6 m0 m1 m2 m3 m4 m5 m6 m7 m8 m9 m10;obtain ⟨m0,m1,m2,m3,m4,m5,m6,m7,m8,m9,m10⟩:=aD T7.out.k.n;obtain ⟨⟨v0,v1,v2,v3⟩, -⟩:=aO T7.out.v;obtain ⟨⟨l0,l1,l2,l3⟩, -⟩:=aO T7.out.l;have c0:=T7.out.c0;have c1:=T7.out.c1;have CK:=aA (CK'.out _ p w7 T7.out.k.r);go_wp2_with fail
 refine CK.out.mono ?_;rintro e w8 ⟨rfl,hb8⟩;have T8:=aA (T7.out.step hb8);clear hb8 CK CK' T7 m0 m1 m2 m3 m4 m5 m6 m7 m8 m9 m10 v0 v1 v2 v3 l0 l1 l2 l3 c0 c1;obtain ⟨m0,m1,m2,m3,m4,m5,m6,m7,m8,m9,m10⟩:=aD T8.out.k.n;have SM:=aA (SM'.out _ p w8 T8.out.k.r);go_wp2_with fail
 refine SM.out.mono ?_;rintro e w9 ⟨rfl,hb9⟩;have T9:=aA (T8.out.step hb9);clear hb9 SM SM' T8 m0 m1 m2 m3 m4 m5 m6 m7 m8 m9 m10;obtain ⟨m0,m1,m2,m3,m4,m5,m6,m7,m8,m9,m10⟩:=aD T9.out.k.n;obtain ⟨y0,y1,y2,y3,y4,y5,y6,y7,y8,y9,y10⟩:=aD T9.out.y.n;have SO:=aA (SO'.out _ _ p q w9 T9.out.k.r T9.out.y.r);go_wp2_with fail
 refine SO.out.mono ?_;rintro e wa ⟨rfl,hba⟩;have TA:=aA (T9.out.step hba);clear hba SO SO' T9 m0 m1 m2 m3 m4 m5 m6 m7 m8 m9 m10 y0 y1 y2 y3 y4 y5 y6 y7 y8 y9 y10;go_wp2_with fail
 go_ret;exact ⟨rfl,TA.out.k.b⟩
structure SmG (x:AG):Prop where
 e:aM x.e<=1000
 g:aM x.g<=1000
 c:∀ d∈x.wh,aM d.a<=1000/\aM d.b<=1000
 wh:x.wh.length<=1000
abbrev GL (n X:Nat) (wa:Option Addr) (b:Nat):Prop:=n+1<b/\b ≠ X/\wa ≠ some ⟨b,0,none⟩
structure LOA (G:Nat->Prop) (w:World) (x:AG) (pa:PA) (X k:Nat) (p:PA) (qs:List QC) (V:World):Prop where
 b:Below w.heap.size w V
 bx:V.heap[w.heap.size]? = some (agP x pa)
 rs:V.heap[w.heap.size+1]? = some (agO aU aW)
 n:V.heap[X]? = some (agO { x with wh:=x.wh.take k } p)
 e:aI (GL w.heap.size X p.wa) V p.ea x.e.ks
 g:aI (GL w.heap.size X p.wa) V p.ga x.g.ks
 own:V.ownsRow (X+1) 90 9 (.slice p.wa k p.wc) k (cdL (x.wh.take k) qs)
 ql:qs.length=k
 kd:lZ (GL w.heap.size X p.wa) V (x.wh.take k) qs
 lo:w.heap.size+1<X
 hz:X<V.heap.size
section
variable {G:Nat->Prop} {w:World} {x:AG} {pa p:PA} {X k:Nat} {qs:List QC} {V V':World}
theorem LOA.step (h:LOA G w x pa X k p qs V) (hb:Below V.heap.size V V'):LOA G w x pa X k p qs V':=by
 have hk:=aE hb (fun _=>False);have h1:=h.lo;have h2:=h.hz;exact ⟨h.b.trans (hb.mono (by omega)),(hb.block _ (by omega)).trans h.bx,(hb.block _ (by omega)).trans h.rs,(hb.block _ h.hz).trans h.n,h.e.keptS hk (fun _ h=>h.elim),h.g.keptS hk (fun _ h=>h.elim),bO h.own hb,h.ql,h.kd.keptS hk (fun _ h=>h.elim),h.lo,Nat.lt_of_lt_of_le h.hz hb.size⟩
theorem LOA.wlo (h:LOA G w x pa X k p qs V) {b:Nat} (hb:(Value.slice p.wa k p.wc).ownBlock=some b):X+1<=b:=(h.own.lt b hb).1
theorem LOA.fresh (h:LOA G w x pa X k p qs V) {b:Nat} (hb:V.heap.size<=b):GL w.heap.size X p.wa b:=by
 have h1:=h.lo;have h2:=h.hz;refine ⟨by omega,by omega,fun e=>?_⟩;have:=(h.own.lt b (by rw [e];rfl)).2;omega
theorem LOA.push (h:LOA G w x pa X k p qs V) {d:CD} {q:QC} {a':Option Addr} {c':Nat} (hd:x.wh[k]? = some d) (hk:aL (fun b=>(Value.slice p.wa k p.wc).ownBlock=some b) V V')
 (hrow:V'.ownsRow (X+1) 90 9 (.slice a' (k+1) c') (k+1) (cdL (x.wh.take k) qs++eT d q))
 (hnew:∀ b,(Value.slice a' (k+1) c').ownBlock=some b->(Value.slice p.wa k p.wc).ownBlock=some b\/V.heap.size<=b)
 (h1:aI (GL w.heap.size X p.wa) V q.a1 d.a.ks) (h2:aI (GL w.heap.size X p.wa) V q.a2 d.b.ks) :
 LOA G w x pa X (k+1) { p with wa:=a',wc:=c' } (qs++[q]) (V'.setCell ⟨X,10,none⟩ (.slice a' (k+1) c')):=by
 have e1:=h.lo;have e2:=h.hz
 have own:∀ b,(Value.slice p.wa k p.wc).ownBlock=some b->p.wa=some ⟨b,0,none⟩:=fun b hb=>by
  rcases h.own.2 with ⟨q1,_⟩ | ⟨g,cap,cur,q1,_⟩
  · rw [q1] at hb;cases hb
  · rw [q1] at hb
    cases hb;simp only [Value.slice.injEq] at q1;exact q1.1
 have own':∀ b,a'=some ⟨b,0,none⟩->(Value.slice a' (k+1) c').ownBlock=some b:=fun b hb=>by rw [hb];rfl
 have lo:=fun b hb=>h.wlo (b:=b) hb
 have htk:x.wh.take (k+1)=x.wh.take k++[d]:=by
  obtain ⟨hl,e⟩:=List.getElem?_eq_some_iff.1 hd;rw [List.take_succ_eq_append_getElem hl,e]
 have hlk:(x.wh.take k).length=k:=by rw [List.length_take];have:=(List.getElem?_eq_some_iff.1 hd).1;omega
 have hlk1:(x.wh.take (k+1)).length=k+1:=by rw [htk,List.length_append,hlk];rfl
 have KS:=(aL.refl (· = X) V').setCell (p:=⟨X,10,none⟩) (.inl rfl) (.slice a' (k+1) c');have n1:=hk.heap h.n (fun e=>by have:=lo _ e;omega)
 have hnn:(V'.setCell ⟨X,10,none⟩ (.slice a' (k+1) c')).heap[X]? = some (agO { x with wh:=x.wh.take (k+1) } { p with wa:=a',wc:=c' }):=by
  have:=heap_setCell_same V' X 10 _ _ (.slice a' (k+1) c') n1;rw [show agO { x with wh:=x.wh.take (k+1) } { p with wa:=a',wc:=c' }=.cells #[.string x.fn,.int .i64 x.k,.string x.e.op,.string x.e.nm,.int .i64 x.e.n,.slice p.ea x.e.ks.len p.ec,.string x.g.op,.string x.g.nm,.int .i64 x.g.n,.slice p.ga x.g.ks.len p.gc,.slice a' (k+1) c'] 37 by show Obj.cells #[_,_,_,_,_,_,_,_,_,_,.slice a' (x.wh.take (k+1)).length c'] _=_;rw [hlk1]];simpa using this
 have kd:=h.kd.snoc (by rw [hlk];exact h.ql) h1 h2;refine ⟨(h.b.trans (hk.below (fun b hb=>by have:=lo b hb;omega) (by omega))).trans (KS.below (fun b hb=>by omega) (by have:=hk.size;omega)),KS.heap (hk.heap h.bx (fun e=>by have:=lo _ e;omega)) (by omega),KS.heap (hk.heap h.rs (fun e=>by have:=lo _ e;omega)) (by omega),hnn,?_,?_,?_,by rw [List.length_append,h.ql];rfl,?_,e1,by rw [World.size_setCell];exact Nat.lt_of_lt_of_le h.hz hk.size⟩
 · exact ((h.e.imp (H:=fun b=>GL w.heap.size X p.wa b/\a' ≠ some ⟨b,0,none⟩) (fun b hb hg=>⟨hg,fun e=>by
    rcases hnew b (own' b e) with h | h
    · exact hg.2.2 (own b h)
    · omega⟩)).keptS hk (fun k hk hg=>hg.1.2.2 (own k hk))).keptS KS (fun k hk hg=>hg.1.2.1 hk) |>.imp (fun b _ hg=>⟨hg.1.1,hg.1.2.1,hg.2⟩)
 · exact ((h.g.imp (H:=fun b=>GL w.heap.size X p.wa b/\a' ≠ some ⟨b,0,none⟩) (fun b hb hg=>⟨hg,fun e=>by
    rcases hnew b (own' b e) with h | h
    · exact hg.2.2 (own b h)
    · omega⟩)).keptS hk (fun k hk hg=>hg.1.2.2 (own k hk))).keptS KS (fun k hk hg=>hg.1.2.1 hk) |>.imp (fun b _ hg=>⟨hg.1.1,hg.1.2.1,hg.2⟩)
 · rw [htk,xZ _ _ _ _ (by rw [hlk];exact h.ql)]
   have e:cdL [d] [q]=eT d q:=by simp [cdL]
   rw [e];exact iF hrow (by omega) _ _
 · rw [htk]
   exact ((kd.imp (H:=fun b=>GL w.heap.size X p.wa b/\a' ≠ some ⟨b,0,none⟩) (fun b hb hg=>⟨hg,fun e=>by
    rcases hnew b (own' b e) with h | h
    · exact hg.2.2 (own b h)
    · omega⟩)).keptS hk (fun k hk hg=>hg.1.2.2 (own k hk))).keptS KS (fun k hk hg=>hg.1.2.1 hk) |>.imp (fun b _ hg=>⟨hg.1.1,hg.1.2.1,hg.2⟩)
theorem LOA.done (h:LOA G w x pa X x.wh.length p qs V):aJ (fun b=>w.heap.size<=b) (f8 V (w.heap.size+1) x p) x p/\Below w.heap.size w (f8 V (w.heap.size+1) x p):=by
 have e1:=h.lo;have e2:=h.hz;have KP:=eG V (w.heap.size+1) x p;have own:=h.own;have kd:=h.kd;rw [List.take_length] at own kd;refine ⟨⟨(h.e.keptS KP (fun k hk hg=>by have:=hg.1;omega)).imp (fun b _ hg=>by have:=hg.1;omega),(h.g.keptS KP (fun k hk hg=>by have:=hg.1;omega)).imp (fun b _ hg=>by have:=hg.1;omega),?_⟩,h.b.trans (KP.below (fun b hb=>by omega) (by omega))⟩;exact sW (dY (row:=some (w.heap.size+1)) own (KP.mono (fun i hi _=>by rw [hi])) (fun b hb he=>by have:=h.wlo hb;have:=Option.some.inj he;omega)) h.ql ((kd.keptS KP (fun k hk hg=>by have:=hg.1;omega)).imp (fun b _ hg=>by have:=hg.1;omega)) (fun b hb=>by have:=h.wlo (b:=b) (by rw [hb];rfl);omega)
end
abbrev agZ:Obj:=(.cells #[.string ⟨#[]⟩,.int .i64 0,.string ⟨#[]⟩,.string ⟨#[]⟩,.int .i64 0,.slice none 0 0,.string ⟨#[]⟩,.string ⟨#[]⟩,.int .i64 0,.slice none 0 0,.slice none 0 0] 37)
section
variable {G:Nat->Prop} {w W V:World} {x:AG} {pa:PA} {X:Nat} {a3 a4:Option Addr} {c3 c4:Nat}
theorem Cm (HK:KP9 G w x pa W) (HN:W.heap[w.heap.size+1]? = some (agO aU aW)) (HZ:W.heap.size=w.heap.size+2) (B:Below W.heap.size W V) (NY:V.heap[X]? = some agZ) (hX:w.heap.size+1<X)
 (e:aI (fun b=>w.heap.size+1<b/\b ≠ X) V a3 x.e.ks) (g:aI (fun b=>w.heap.size+1<b/\b ≠ X) V a4 x.g.ks):LOA G w x pa X 0 ⟨a3,c3,a4,c4,none,0⟩ [] (f8 V X ⟨x.fn,x.k,x.e,x.g,[]⟩ ⟨a3,c3,a4,c4,none,0⟩):=by
 have K1:=HK.step B;have KP:=eG V X ⟨x.fn,x.k,x.e,x.g,[]⟩ ⟨a3,c3,a4,c4,none,0⟩;have hlt:=aC NY;have hb0:=aC K1.n;refine ⟨K1.b.trans (KP.below (fun b hb=>by omega) K1.z),KP.heap K1.n (by omega),KP.heap ((B.block _ (by omega)).trans HN) (by omega),gU NY ⟨x.fn,x.k,x.e,x.g,[]⟩ ⟨a3,c3,a4,c4,none,0⟩,?_,?_,⟨rfl,.inl ⟨rfl,rfl⟩⟩,rfl,fun j d q h1 _=>by simp at h1,hX,Nat.lt_of_lt_of_le hlt KP.size⟩
 · exact (e.keptS KP (fun k hk hg=>hg.2 hk)).imp (fun b _ hg=>⟨hg.1,hg.2,fun e=>by cases e⟩)
 · exact (g.keptS KP (fun k hk hg=>hg.2 hk)).imp (fun b _ hg=>⟨hg.1,hg.2,fun e=>by cases e⟩)
theorem DH (HK:KP9 G w x pa W) (HN:W.heap[w.heap.size+1]? = some (agO aU aW)) (HZ:W.heap.size=w.heap.size+2) (B:Below W.heap.size W V)
 (e:aI (fun b=>w.heap.size+1<b/\b<V.heap.size) V a3 x.e.ks) (g:aI (fun b=>w.heap.size+1<b/\b<V.heap.size) V a4 x.g.ks):LOA G w x pa V.heap.size 0 ⟨a3,c3,a4,c4,none,0⟩ [] (V.alloc (agO ⟨x.fn,x.k,x.e,x.g,[]⟩ ⟨a3,c3,a4,c4,none,0⟩)):=by
 have K1:=HK.step B;have BA:=(Below.refl V.heap.size V).alloc (Nat.le_refl _) (agO ⟨x.fn,x.k,x.e,x.g,[]⟩ ⟨a3,c3,a4,c4,none,0⟩);have hb0:=aC K1.n;have hz:=B.size;refine ⟨(K1.step BA).b,(K1.step BA).n,(BA.block _ (by omega)).trans ((B.block _ (by omega)).trans HN),heap_alloc_new V _,?_,?_,⟨rfl,.inl ⟨rfl,rfl⟩⟩,rfl,fun j d q h1 _=>by simp at h1,by omega,by rw [World.size_alloc];omega⟩
 · exact (e.kept BA).imp (fun b _ hg=>⟨hg.1,by omega,fun e=>by cases e⟩)
 · exact (g.kept BA).imp (fun b _ hg=>⟨hg.1,by omega,fun e=>by cases e⟩)
end
theorem tO {w3 w4:World} {o:Obj} (h:Below (w3.alloc o).heap.size (w3.alloc o) w4):aL (fun b=>w3.heap.size<=b) w3 w4 :=
 (aE ((Below.refl _ _).alloc (Nat.le_refl _) o) _).trans (aE h _) (fun _ hi _=>hi)
theorem J6 {B:Nat} {w w':World} (h:Below B w w'):Below B w w'.drew:=⟨h.os,h.tape,h.output,h.size,h.block⟩
theorem GO (W:World):Below W.heap.size W (W.alloc agZ).drew:=J6 ((Below.refl _ _).alloc (Nat.le_refl _) _)
theorem Fl (W:World):(W.alloc agZ).drew.heap.size=W.heap.size+1:=World.size_alloc _ _
theorem H7 (W:World) {w3:World} (hb:Below (W.alloc agZ).drew.heap.size (W.alloc agZ).drew w3):w3.heap[W.heap.size]? = some agZ :=
 (hb.block W.heap.size (by rw [Fl];exact Nat.lt_succ_self _)).trans (heap_alloc_new W agZ)
theorem tJ {G:Nat->Prop} (x:AG) (pa:PA) (w:World) (hS:SmG x) (hr:aJ G w x pa):Calls Tryz.prog 12 #[agV x pa] w fun e w'=>∃ p,e=.returned (agV x p)/\aJ (fun b=>w.heap.size<=b) w' x p/\Below w.heap.size w w':=by
 have hz1:(w.alloc (agP x pa)).heap.size=w.heap.size+1:=World.size_alloc _ _;have K0:=lQ hr;generalize hW1:w.alloc (agP x pa)=W1 at K0 hz1;have BA:=(Below.refl W1.heap.size W1).alloc (Nat.le_refl _) (agO aU aW);have n2:=heap_alloc_new W1 (agO aU aW);have hz2:(W1.alloc (agO aU aW)).heap.size=w.heap.size+2:=by rw [World.size_alloc,hz1]
 rw [hz1] at n2;have K1:=K0.step BA;generalize hW:W1.alloc (agO aU aW)=W at K1 n2 hz2;have HW1:=aA hW1;have HW:=aA hW;have HK:=aA K1;have HN:=aA n2;have HZ:=aA hz2;have HS:=aA hS;have RD:=aA hr;have C1:=aA (fun V (hV:Below W.heap.size W V)=>sA x.e G V pa.ea pa.ec hS.e (HK.out.r.e.kept hV));have C2:=aA (fun V (hV:Below W.heap.size W V)=>sA x.g G V pa.ga pa.gc hS.g (HK.out.r.g.kept hV));have hwl:=hS.wh;clear hW1 hW K0 K1 BA n2 hz1 hz2 hS hr;obtain ⟨m0,m1,m2,m3,m4,m5,m6,m7,m8,m9,m10⟩:=aD HK.out.n
 have CL:=aA (p:=∀ V,Below W.heap.size W V->(V.cell? ⟨w.heap.size,0,none⟩=some (.string x.fn)/\V.cell? ⟨w.heap.size,1,none⟩=some (.int .i64 x.k)/\V.cell? ⟨w.heap.size,2,none⟩=some (.string x.e.op)/\V.cell? ⟨w.heap.size,2+1,none⟩=some (.string x.e.nm)/\V.cell? ⟨w.heap.size,2+2,none⟩=some (.int .i64 x.e.n)/\V.cell? ⟨w.heap.size,2+3,none⟩=some (.slice pa.ea x.e.ks.len pa.ec)/\V.cell? ⟨w.heap.size,6,none⟩=some (.string x.g.op)/\V.cell? ⟨w.heap.size,6+1,none⟩=some (.string x.g.nm)/\V.cell? ⟨w.heap.size,6+2,none⟩=some (.int .i64 x.g.n)/\V.cell? ⟨w.heap.size,6+3,none⟩=some (.slice pa.ga x.g.ks.len pa.gc))) (fun V hV=>by
  obtain ⟨m0,m1,m2,m3,m4,m5,m6,m7,m8,m9,m10⟩:=aD (HK.out.step hV).n;exact ⟨m0,m1,m2,m3,m4,m5,m6,m7,m8,m9⟩)
 go_enter Tryz.func12,Tryz.ntmps12
 go_upto_region 1 with fail
 rw [HW1.out,show W1.alloc (.cells #[.string ⟨#[]⟩,.int .i64 0,.string ⟨#[]⟩,.string ⟨#[]⟩,.int .i64 0,.slice none 0 0,.string ⟨#[]⟩,.string ⟨#[]⟩,.int .i64 0,.slice none 0 0,.slice none 0 0] 37)=W from HW.out];clear HW1 HW;go_cut [3] (fun v wc=>∃ (X:Nat) (p:PA),v=.pointer (some ⟨X,0,none⟩)/\Hid (LOA G w x pa X 0 p [] wc))
 case first =>
  go_region_held3 (fun V=>V.cell? ⟨w.heap.size,0,none⟩=some (.string x.fn)/\V.cell? ⟨w.heap.size,1,none⟩=some (.int .i64 x.k)/\V.cell? ⟨w.heap.size,2,none⟩=some (.string x.e.op)/\V.cell? ⟨w.heap.size,2+1,none⟩=some (.string x.e.nm)/\V.cell? ⟨w.heap.size,2+2,none⟩=some (.int .i64 x.e.n)/\V.cell? ⟨w.heap.size,2+3,none⟩=some (.slice pa.ea x.e.ks.len pa.ec)/\V.cell? ⟨w.heap.size,6,none⟩=some (.string x.g.op)/\V.cell? ⟨w.heap.size,6+1,none⟩=some (.string x.g.nm)/\V.cell? ⟨w.heap.size,6+2,none⟩=some (.int .i64 x.g.n)/\V.cell? ⟨w.heap.size,6+3,none⟩=some (.slice pa.ga x.g.ks.len pa.gc)) (first | with_reducible assumption | with_reducible exact ⟨m0,m1,m2,m3,m4,m5,m6,m7,m8,m9⟩ | with_reducible exact CL.out _ (B3.out.alloc B3.out.size _) | with_reducible exact CL.out _ (B4.out.alloc B4.out.size _) | with_reducible exact CL.out _ (aH W) | with_reducible exact CL.out _ (GO W)) (first
   | (go_at_call 41
      with_reducible refine (C1.out _ (aH W)).mono ?_
      rintro e w3 ⟨a3,c3,rfl,r3,hb⟩;have B3:=aA ((aH W).trans hb);have R3:=aA (show aI (fun b=>W.heap.size<=b) w3 a3 x.e.ks from r3);have cc:=CL.out _ B3.out;clear hb r3)
   | (go_at_call 41
      with_reducible refine (C1.out _ (GO W)).mono ?_
      rintro e w3 ⟨a3,c3,rfl,r3,hb⟩;have NX:=aA (H7 W hb);have B3:=aA ((GO W).trans (hb.mono (by rw [Fl];exact Nat.le_succ _)));have R3:=aA (aI.imp (G:=fun b=>(W.alloc agZ).drew.heap.size<=b) (H:=fun b=>W.heap.size+1<=b) r3 (fun b _ h=>by have h2:(W.alloc agZ).drew.heap.size<=b:=h;rw [Fl] at h2;exact h2));have cc:=CL.out _ B3.out;clear hb r3)
   | (go_at_call 41
      with_reducible refine (C2.out w3 B3.out).mono ?_
      rintro e w4 ⟨a4,c4,rfl,r4,hb⟩;have B4:=aA (B3.out.trans (hb.mono B3.out.size));have HB:=aA hb;have R4:=aA (show aI (fun b=>w3.heap.size<=b) w4 a4 x.g.ks from r4);have cd:=CL.out _ B4.out;have NY:=aA ((hb.block _ (aC NX.out)).trans NX.out);have BS:=B4.out.trans ((eG w4 W.heap.size ⟨x.fn,x.k,x.e,x.g,[]⟩ ⟨a3,c3,a4,c4,none,0⟩).below (B:=W.heap.size) (fun b hb=>by rw [hb];first | exact Nat.le_refl _ | exact B3.out.size) B4.out.size);have CS:=CL.out _ BS;dsimp only [f8,List.length_nil] at CS;clear BS;obtain ⟨u0,u1,u2,u3,u4,u5,u6,u7,u8,u9,u10⟩:=aD NY.out;obtain ⟨z0,z1,z2,z3,z4,z5,z6,z7,z8,z9,z10⟩:=dX NY.out;clear hb r4)
   | (go_at_call 41
      with_reducible refine (C2.out w3 B3.out).mono ?_
      rintro e w4 ⟨a4,c4,rfl,r4,hb⟩;have B4:=aA (B3.out.trans (hb.mono B3.out.size));have HB:=aA hb;have R4:=aA (show aI (fun b=>w3.heap.size<=b) w4 a4 x.g.ks from r4);have cd:=CL.out _ B4.out;have NZ:=aA (heap_alloc_new w4 agZ);obtain ⟨u0,u1,u2,u3,u4,u5,u6,u7,u8,u9,u10⟩:=aD NZ.out;obtain ⟨z0,z1,z2,z3,z4,z5,z6,z7,z8,z9,z10⟩:=dX NZ.out;clear hb r4)
   | (go_at_call 41
      with_reducible refine (C2.out _ (B3.out.alloc B3.out.size agZ)).mono ?_
      rintro e w4 ⟨a4,c4,rfl,r4,hb⟩;have B4:=aA ((B3.out.alloc B3.out.size agZ).trans (hb.mono (by rw [World.size_alloc];exact Nat.le_succ_of_le B3.out.size)));have HB:=aA hb;have R4:=aA (show aI (fun b=>(w3.alloc agZ).heap.size<=b) w4 a4 x.g.ks from r4);have cd:=CL.out _ B4.out;have NY:=aA ((hb.block _ (aC (heap_alloc_new w3 agZ))).trans (heap_alloc_new w3 agZ));have BS:=B4.out.trans ((eG w4 w3.heap.size ⟨x.fn,x.k,x.e,x.g,[]⟩ ⟨a3,c3,a4,c4,none,0⟩).below (B:=W.heap.size) (fun b hb=>by rw [hb];first | exact Nat.le_refl _ | exact B3.out.size) B4.out.size);have CS:=CL.out _ BS;dsimp only [f8,List.length_nil] at CS;clear BS;obtain ⟨u0,u1,u2,u3,u4,u5,u6,u7,u8,u9,u10⟩:=aD NY.out;obtain ⟨z0,z1,z2,z3,z4,z5,z6,z7,z8,z9,z10⟩:=dX NY.out;clear hb r4)
   | fail)
  all_goals
   go_wp2_with fail
   go_meet
   case rel=>first
    | (have hq:=NX;clear hq;exact ⟨W.heap.size,⟨a3,c3,a4,c4,none,0⟩,rfl,aA (Cm HK.out HN.out HZ.out B4.out NY.out (by have:=HZ.out;omega) ((R3.out.kept HB.out).imp (fun b _ hb=>by have h:W.heap.size+1<=b:=hb;have:=HZ.out;exact ⟨by omega,by omega⟩)) (R4.out.imp (fun b _ hb=>by have h:w3.heap.size<=b:=hb;have:=HZ.out;have:=aC NX.out;exact ⟨by omega,by omega⟩)))⟩)
    | (have hq:=NZ;clear hq;exact ⟨w4.heap.size,⟨a3,c3,a4,c4,none,0⟩,rfl,aA (DH HK.out HN.out HZ.out B4.out ((R3.out.kept HB.out).imp (fun b hl hb=>by have h:W.heap.size<=b:=hb;have:=HZ.out;exact ⟨by omega,by omega⟩)) (R4.out.imp (fun b hl hb=>by have h:w3.heap.size<=b:=hb;have:=HZ.out;have:=B3.out.size;exact ⟨by omega,by omega⟩)))⟩)
    | exact ⟨w3.heap.size,⟨a3,c3,a4,c4,none,0⟩,rfl,aA (Cm HK.out HN.out HZ.out B4.out NY.out (by have:=HZ.out;have:=B3.out.size;omega) ((aI.imp (H:=fun b=>W.heap.size<=b/\b<w3.heap.size) R3.out (fun b hl hb=>⟨hb,hl⟩)).keptS (S:=fun b=>w3.heap.size<=b) (tO HB.out) (fun k hk hg=>by have h:w3.heap.size<=k:=hk;omega) |>.imp (fun b _ hb=>by have:=HZ.out;exact ⟨by omega,by omega⟩)) (R4.out.imp (fun b _ hb=>by have h:(w3.alloc agZ).heap.size<=b:=hb;rw [World.size_alloc] at h;have:=HZ.out;have:=B3.out.size;exact ⟨by omega,by omega⟩)))⟩
 case rest =>
  obtain ⟨X,pz,rfl,L0⟩:=hcut;clear C1 C2 CL HK HN HZ m0 m1 m2 m3 m4 m5 m6 m7 m8 m9 m10;go_wp2_with fail
  go_loopw [4] (fun i wr=>∃ (k:Nat) (p:PA) (qs:List QC),i=.int .i64 k/\k<=x.wh.length/\Hid (LOA G w x pa X k p qs wr)) (fun i _=>x.wh.length-(intOf i).toNat)
  case atStart=>exact ⟨0,pz,[],rfl,Nat.zero_le _,L0⟩
  case round =>
   obtain ⟨k,p,qs,rfl,hk,HL⟩:=hrel;clear L0;by_cases hlt:k<x.wh.length
   · obtain ⟨d,hd⟩:∃ d,x.wh[k]? = some d:=⟨_,List.getElem?_eq_getElem hlt⟩
     have hne:¬ x.wh=[]:=fun e=>by rw [e] at hlt;simp at hlt
     obtain ⟨b,off,hwa, -,hbl,hcc⟩:=RD.out.c.resolve_left hne;obtain ⟨a1,c1,a2,c2,⟨p0,p1,p2,p3,p4,p5,p6,p7,p8⟩,r1,r2⟩:=hcc k d hd;have hsz:=HS.out.c d (List.mem_of_getElem? hd);obtain ⟨-, -, -, -, -, -, -, -, -, -,x10⟩:=aD HL.out.n;have hlk:(x.wh.take k).length=k:=by rw [List.length_take];omega
     have x10':wr.cell? ⟨X,10,none⟩=some (.slice p.wa k p.wc):=by rw [x10];show some (Value.slice p.wa (x.wh.take k).length p.wc)=_;rw [hlk]
     clear x10;have x10:=x10';clear x10'
     have CS:=aA (p:=∀ V,Below w.heap.size w V->V.heap[w.heap.size]? = some (agP x pa)->(V.cell? ⟨w.heap.size,10,none⟩=some (.slice (some ⟨b,off,none⟩) x.wh.length pa.wc)/\V.cell? ⟨b,off+k*9,none⟩=some (.string d.op)/\V.cell? ⟨b,off+k*9+1,none⟩=some (.string d.a.op)/\V.cell? ⟨b,off+k*9+1+1,none⟩=some (.string d.a.nm)/\V.cell? ⟨b,off+k*9+1+2,none⟩=some (.int .i64 d.a.n)/\V.cell? ⟨b,off+k*9+1+3,none⟩=some (.slice a1 d.a.ks.len c1)/\V.cell? ⟨b,off+k*9+5,none⟩=some (.string d.b.op)/\V.cell? ⟨b,off+k*9+5+1,none⟩=some (.string d.b.nm)/\V.cell? ⟨b,off+k*9+5+2,none⟩=some (.int .i64 d.b.n)/\V.cell? ⟨b,off+k*9+5+3,none⟩=some (.slice a2 d.b.ks.len c2))) (fun V hV hn=>by
      obtain ⟨-, -, -, -, -, -, -, -, -, -,m10⟩:=aD hn;rw [hwa] at m10;exact ⟨m10,(hV.cell (p:=⟨b,_,none⟩) hbl).trans p0,(hV.cell (p:=⟨b,_,none⟩) hbl).trans p1,(hV.cell (p:=⟨b,_,none⟩) hbl).trans p2,(hV.cell (p:=⟨b,_,none⟩) hbl).trans p3,(hV.cell (p:=⟨b,_,none⟩) hbl).trans p4,(hV.cell (p:=⟨b,_,none⟩) hbl).trans p5,(hV.cell (p:=⟨b,_,none⟩) hbl).trans p6,(hV.cell (p:=⟨b,_,none⟩) hbl).trans p7,(hV.cell (p:=⟨b,_,none⟩) hbl).trans p8⟩)
     have BV:=aA (fun V (hV:Below wr.heap.size wr V)=>HL.out.b.trans (hV.mono HL.out.b.size));have CL:=aA (p:=∀ V,Below wr.heap.size wr V->(V.cell? ⟨w.heap.size,10,none⟩=some (.slice (some ⟨b,off,none⟩) x.wh.length pa.wc)/\V.cell? ⟨b,off+k*9,none⟩=some (.string d.op)/\V.cell? ⟨b,off+k*9+1,none⟩=some (.string d.a.op)/\V.cell? ⟨b,off+k*9+1+1,none⟩=some (.string d.a.nm)/\V.cell? ⟨b,off+k*9+1+2,none⟩=some (.int .i64 d.a.n)/\V.cell? ⟨b,off+k*9+1+3,none⟩=some (.slice a1 d.a.ks.len c1)/\V.cell? ⟨b,off+k*9+5,none⟩=some (.string d.b.op)/\V.cell? ⟨b,off+k*9+5+1,none⟩=some (.string d.b.nm)/\V.cell? ⟨b,off+k*9+5+2,none⟩=some (.int .i64 d.b.n)/\V.cell? ⟨b,off+k*9+5+3,none⟩=some (.slice a2 d.b.ks.len c2))) (fun V hV=>CS.out V (BV.out V hV) ((hV.block _ (aC HL.out.bx)).trans HL.out.bx));have XC:=aA (p:=∀ V,Below wr.heap.size wr V->V.cell? ⟨X,10,none⟩=some (.slice p.wa k p.wc)) (fun V hV=>(hV.cell (p:=⟨X,_,none⟩) HL.out.hz).trans x10);have D1:=aA (fun V (hV:Below wr.heap.size wr V)=>sA d.a G V a1 c1 hsz.1 (r1.kept (BV.out V hV)));have D2:=aA (fun V (hV:Below wr.heap.size wr V)=>sA d.b G V a2 c2 hsz.2 (r2.kept (BV.out V hV)));have und:=Tryz.underlying35;obtain ⟨i,zv,hi,hz0,hz1,hz2,hz3⟩:=F3;have HD:=aA hd;have b1:(k:Int)<(x.wh.length:Int):=by omega
     have b2:(0:Int)<=(k:Int):=by omega
     have b3:((k:Int)).toNat=k:=by omega
     have HKB:=aA (show k<1000 by omega);clear hne hcc hd hsz r1 r2 hlk x10 p0 p1 p2 p3 p4 p5 p6 p7 p8;obtain ⟨-, -, -, -, -, -, -, -, -, -,m10⟩:=aD HL.out.bx;go_upto_region 5 with fail
     clear m10;refine wp_region_held (S:=fun V=>V.cell? ⟨w.heap.size,10,none⟩=some (.slice (some ⟨b,off,none⟩) x.wh.length pa.wc)/\V.cell? ⟨b,off+k*9,none⟩=some (.string d.op)/\V.cell? ⟨b,off+k*9+1,none⟩=some (.string d.a.op)/\V.cell? ⟨b,off+k*9+1+1,none⟩=some (.string d.a.nm)/\V.cell? ⟨b,off+k*9+1+2,none⟩=some (.int .i64 d.a.n)/\V.cell? ⟨b,off+k*9+1+3,none⟩=some (.slice a1 d.a.ks.len c1)/\V.cell? ⟨b,off+k*9+5,none⟩=some (.string d.b.op)/\V.cell? ⟨b,off+k*9+5+1,none⟩=some (.string d.b.nm)/\V.cell? ⟨b,off+k*9+5+2,none⟩=some (.int .i64 d.b.n)/\V.cell? ⟨b,off+k*9+5+3,none⟩=some (.slice a2 d.b.ks.len c2)) (by kernel_rfl) ?_;have hH0:(fun V:World=>V.cell? ⟨w.heap.size,10,none⟩=some (.slice (some ⟨b,off,none⟩) x.wh.length pa.wc)/\V.cell? ⟨b,off+k*9,none⟩=some (.string d.op)/\V.cell? ⟨b,off+k*9+1,none⟩=some (.string d.a.op)/\V.cell? ⟨b,off+k*9+1+1,none⟩=some (.string d.a.nm)/\V.cell? ⟨b,off+k*9+1+2,none⟩=some (.int .i64 d.a.n)/\V.cell? ⟨b,off+k*9+1+3,none⟩=some (.slice a1 d.a.ks.len c1)/\V.cell? ⟨b,off+k*9+5,none⟩=some (.string d.b.op)/\V.cell? ⟨b,off+k*9+5+1,none⟩=some (.string d.b.nm)/\V.cell? ⟨b,off+k*9+5+2,none⟩=some (.int .i64 d.b.n)/\V.cell? ⟨b,off+k*9+5+3,none⟩=some (.slice a2 d.b.ks.len c2)) wr.drew:=CL.out _ (aH wr);have x4:=XC.out _ (aH wr);refine aB (i:=0) (d:=some 23) (v:=.pointer (some ⟨X,10,none⟩)) rfl rfl (by kernel_rfl) (by kernel_rfl) (by kernel_rfl) (fun _ _ _ h=>h) (Or.inl ⟨by rfl,by rintro w ⟨m10,p0,p1,p2,p3,p4,p5,p6,p7,p8⟩;go_simp⟩) hH0 ?_;simp only [Act.put,Kk,Kl,Km]
     refine aB (i:=2) (d:=some 25) (v:=.pointer (some ⟨w.heap.size,10,none⟩)) rfl rfl (by kernel_rfl) (by kernel_rfl) (by kernel_rfl) (fun _ _ _ h=>h) (Or.inl ⟨by rfl,by rintro w ⟨m10,p0,p1,p2,p3,p4,p5,p6,p7,p8⟩;go_simp⟩) hH0 ?_;simp only [Act.put,Kk,Kl,Km];refine aB (i:=3) (d:=some 26) (v:=.slice (some ⟨b,off,none⟩) x.wh.length pa.wc) rfl rfl (by kernel_rfl) (by kernel_rfl) (by kernel_rfl) (fun _ _ _ h=>h) (Or.inl ⟨by rfl,by rintro w ⟨m10,p0,p1,p2,p3,p4,p5,p6,p7,p8⟩;go_simp⟩) hH0 ?_;simp only [Act.put,Kk,Kl,Km];refine aB (i:=4) (d:=some 27) (v:=.int .i64 (k:Nat)) rfl rfl (by kernel_rfl) (by kernel_rfl) (by kernel_rfl) (fun _ _ _ h=>h) (Or.inl ⟨by rfl,by rintro w ⟨m10,p0,p1,p2,p3,p4,p5,p6,p7,p8⟩;go_simp⟩) hH0 ?_;simp only [Act.put,Kk,Kl,Km];refine aB (i:=5) (d:=some 28) (v:=.pointer (some ⟨b,off+k*9,none⟩)) rfl rfl (by kernel_rfl) (by kernel_rfl) (by kernel_rfl) (fun _ _ _ h=>h) (Or.inl ⟨by rfl,by rintro w ⟨m10,p0,p1,p2,p3,p4,p5,p6,p7,p8⟩;go_simp⟩) hH0 ?_;simp only [Act.put,Kk,Kl,Km];refine aB (i:=6) (d:=some 29) (v:=.pointer (some ⟨b,off+k*9,none⟩)) rfl rfl (by kernel_rfl) (by kernel_rfl) (by kernel_rfl) (fun _ _ _ h=>h) (Or.inl ⟨by rfl,by rintro w ⟨m10,p0,p1,p2,p3,p4,p5,p6,p7,p8⟩;go_simp⟩) hH0 ?_;simp only [Act.put,Kk,Kl,Km];refine aB (i:=7) (d:=some 30) (v:=.string d.op) rfl rfl (by kernel_rfl) (by kernel_rfl) (by kernel_rfl) (fun _ _ _ h=>h) (Or.inl ⟨by rfl,by rintro w ⟨m10,p0,p1,p2,p3,p4,p5,p6,p7,p8⟩;go_simp⟩) hH0 ?_;simp only [Act.put,Kk,Kl,Km];refine aB (i:=8) (d:=some 31) (v:=.pointer (some ⟨w.heap.size,10,none⟩)) rfl rfl (by kernel_rfl) (by kernel_rfl) (by kernel_rfl) (fun _ _ _ h=>h) (Or.inl ⟨by rfl,by rintro w ⟨m10,p0,p1,p2,p3,p4,p5,p6,p7,p8⟩;go_simp⟩) hH0 ?_
     simp only [Act.put,Kk,Kl,Km];refine aB (i:=9) (d:=some 32) (v:=.slice (some ⟨b,off,none⟩) x.wh.length pa.wc) rfl rfl (by kernel_rfl) (by kernel_rfl) (by kernel_rfl) (fun _ _ _ h=>h) (Or.inl ⟨by rfl,by rintro w ⟨m10,p0,p1,p2,p3,p4,p5,p6,p7,p8⟩;go_simp⟩) hH0 ?_;simp only [Act.put,Kk,Kl,Km];refine aB (i:=10) (d:=some 33) (v:=.int .i64 (k:Nat)) rfl rfl (by kernel_rfl) (by kernel_rfl) (by kernel_rfl) (fun _ _ _ h=>h) (Or.inl ⟨by rfl,by rintro w ⟨m10,p0,p1,p2,p3,p4,p5,p6,p7,p8⟩;go_simp⟩) hH0 ?_;simp only [Act.put,Kk,Kl,Km];refine aB (i:=11) (d:=some 34) (v:=.pointer (some ⟨b,off+k*9,none⟩)) rfl rfl (by kernel_rfl) (by kernel_rfl) (by kernel_rfl) (fun _ _ _ h=>h) (Or.inl ⟨by rfl,by rintro w ⟨m10,p0,p1,p2,p3,p4,p5,p6,p7,p8⟩;go_simp⟩) hH0 ?_;simp only [Act.put,Kk,Kl,Km];refine aB (i:=12) (d:=some 35) (v:=.pointer (some ⟨b,off+k*9+1,none⟩)) rfl rfl (by kernel_rfl) (by kernel_rfl) (by kernel_rfl) (fun _ _ _ h=>h) (Or.inl ⟨by rfl,by rintro w ⟨m10,p0,p1,p2,p3,p4,p5,p6,p7,p8⟩;go_simp⟩) hH0 ?_;simp only [Act.put,Kk,Kl,Km];refine aB (i:=13) (d:=some 36) (v:=bI d.a.op d.a.nm d.a.n a1 d.a.ks.len c1) rfl rfl (by kernel_rfl) (by kernel_rfl) (by kernel_rfl) (fun _ _ _ h=>h) (Or.inl ⟨by rfl,by rintro w ⟨m10,p0,p1,p2,p3,p4,p5,p6,p7,p8⟩;go_simp⟩) hH0 ?_;simp only [Act.put,Kk,Kl,Km];refine aB (i:=15) (d:=some 38) (v:=.pointer (some ⟨w.heap.size,10,none⟩)) rfl rfl (by kernel_rfl) (by kernel_rfl) (by kernel_rfl) (fun _ _ _ h=>h) (Or.inl ⟨by rfl,by rintro w ⟨m10,p0,p1,p2,p3,p4,p5,p6,p7,p8⟩;go_simp⟩) hH0 ?_
     simp only [Act.put,Kk,Kl,Km];refine aB (i:=16) (d:=some 39) (v:=.slice (some ⟨b,off,none⟩) x.wh.length pa.wc) rfl rfl (by kernel_rfl) (by kernel_rfl) (by kernel_rfl) (fun _ _ _ h=>h) (Or.inl ⟨by rfl,by rintro w ⟨m10,p0,p1,p2,p3,p4,p5,p6,p7,p8⟩;go_simp⟩) hH0 ?_;simp only [Act.put,Kk,Kl,Km];refine aB (i:=17) (d:=some 40) (v:=.int .i64 (k:Nat)) rfl rfl (by kernel_rfl) (by kernel_rfl) (by kernel_rfl) (fun _ _ _ h=>h) (Or.inl ⟨by rfl,by rintro w ⟨m10,p0,p1,p2,p3,p4,p5,p6,p7,p8⟩;go_simp⟩) hH0 ?_;simp only [Act.put,Kk,Kl,Km];refine aB (i:=18) (d:=some 41) (v:=.pointer (some ⟨b,off+k*9,none⟩)) rfl rfl (by kernel_rfl) (by kernel_rfl) (by kernel_rfl) (fun _ _ _ h=>h) (Or.inl ⟨by rfl,by rintro w ⟨m10,p0,p1,p2,p3,p4,p5,p6,p7,p8⟩;go_simp⟩) hH0 ?_;simp only [Act.put,Kk,Kl,Km];refine aB (i:=19) (d:=some 42) (v:=.pointer (some ⟨b,off+k*9+5,none⟩)) rfl rfl (by kernel_rfl) (by kernel_rfl) (by kernel_rfl) (fun _ _ _ h=>h) (Or.inl ⟨by rfl,by rintro w ⟨m10,p0,p1,p2,p3,p4,p5,p6,p7,p8⟩;go_simp⟩) hH0 ?_;simp only [Act.put,Kk,Kl,Km];refine aB (i:=20) (d:=some 43) (v:=bI d.b.op d.b.nm d.b.n a2 d.b.ks.len c2) rfl rfl (by kernel_rfl) (by kernel_rfl) (by kernel_rfl) (fun _ _ _ h=>h) (Or.inl ⟨by rfl,by rintro w ⟨m10,p0,p1,p2,p3,p4,p5,p6,p7,p8⟩;go_simp⟩) hH0 ?_;simp only [Act.put,Kk,Kl,Km];refine wpAnyH_ready (rs:=[1,14]) (by kernel_rfl) (by simp) ?_;refine AllReadyH.cons (o:=_) rfl (fun K hK=>?_) (AllReadyH.cons (o:=_) rfl (fun K hK=>?_) AllReadyH.nil)
     · go_simp
       refine hK.out _ _ hH0 (fun hH1=>?_);try simp only [Act.put,Kk,Kl,Km]
       clear hK K;refine wpAnyH_ready (rs:=[14]) (by kernel_rfl) (by simp) ?_;refine AllReadyH.cons (o:=_) rfl (fun K hK=>?_) AllReadyH.nil;go_simp
       refine (D1.out _ (aH wr)).mono ?_;rintro e w5 ⟨a5,c5,rfl,r5,hb⟩;have B5:=aA ((aH wr).trans hb);have R5:=aA (show aI (fun b=>wr.heap.size<=b) w5 a5 d.a.ks from r5);have cc:=CL.out _ B5.out;have x5:=XC.out _ B5.out;clear hb r5;refine hK.out _ _ cc (fun hH5=>?_);try simp only [Act.put,Kk,Kl,Km]
       clear hK K;refine wpAnyH_ready (rs:=[21]) (by kernel_rfl) (by simp) ?_;refine AllReadyH.cons (o:=_) rfl (fun K hK=>?_) AllReadyH.nil;go_simp
       refine (D2.out w5 B5.out).mono ?_;rintro e w6 ⟨a6,c6,rfl,r6,hb⟩;have B6:=aA (B5.out.trans (hb.mono B5.out.size));have R6:=aA (aI.imp (G:=fun b=>w5.heap.size<=b) (H:=fun b=>wr.heap.size<=b) r6 (fun b _ h=>Nat.le_trans B5.out.size h));have R7:=aA (R5.out.kept hb);have cd:=CL.out _ B6.out;have L6:=aA (HL.out.step B6.out);have OWN:=aA (L6.out.own.alloc (.cells #[.string d.op,.string d.a.op,.string d.a.nm,.int .i64 d.a.n,.slice a5 d.a.ks.len c5,.string d.b.op,.string d.b.nm,.int .i64 d.b.n,.slice a6 d.b.ks.len c6] 90));have NEW:=aA (tG w6 d ⟨a5,c5,a6,c6⟩);have ONE:=aA (fun u (hu:u∈eT d ⟨a5,c5,a6,c6⟩)=>qA [d] [⟨a5,c5,a6,c6⟩] u (by simpa [cdL] using hu));have ce:=CL.out _ (B6.out.alloc B6.out.size (.cells #[.string d.op,.string d.a.op,.string d.a.nm,.int .i64 d.a.n,.slice a5 d.a.ks.len c5,.string d.b.op,.string d.b.nm,.int .i64 d.b.n,.slice a6 d.b.ks.len c6] 90));have x6:=XC.out _ B6.out;clear hb r6;refine hK.out _ _ cd (fun hH6=>?_);try simp only [Act.put,Kk,Kl,Km]
       clear hK K;refine aB (i:=22) (d:=some 45) (v:=.agg #[.string d.op,.string d.a.op,.string d.a.nm,.int .i64 d.a.n,.slice a5 d.a.ks.len c5,.string d.b.op,.string d.b.nm,.int .i64 d.b.n,.slice a6 d.b.ks.len c6]) rfl rfl (by kernel_rfl) (by kernel_rfl) (by kernel_rfl) (fun _ _ _ h=>h) (Or.inl ⟨by rfl,by rintro w ⟨m10,p0,p1,p2,p3,p4,p5,p6,p7,p8⟩;go_simp⟩) hH6 ?_;simp only [Act.put,Kk,Kl,Km];refine wpAnyH_ready (rs:=[23]) (by kernel_rfl) (by simp) ?_;refine AllReadyH.cons (o:=_) rfl (fun K hK=>?_) AllReadyH.nil;go_simp
       refine hK.out _ _ ce (fun hH8=>?_);try simp only [Act.put,Kk,Kl,Km]
       clear hK K;refine wpAnyH_ready (rs:=[24]) (by kernel_rfl) (by simp) ?_;refine AllReadyH.cons (o:=_) rfl (fun K hK=>?_) AllReadyH.nil;refine cO rfl (.tmp 24) (.tmp 46) 35 rfl (base:=X+1) und hi hz0 hz1 hz2 hz3 (by decide) (.slice p.wa k p.wc) k 1 (cdL (x.wh.take k) qs) (eT d ⟨a5,c5,a6,c6⟩) ⟨w6.heap.size,0,none⟩ 1 (by first | (simp [Act.eval];done) | (simp [Act.eval,Act.put];done) | fail) (by first | (simp [Act.eval];done) | (simp [Act.eval,Act.put];done) | fail) OWN.out rfl NEW.out ONE.out (by have:=HKB.out;unfold maxLen;omega) (by have:=HKB.out;omega) (by rw [World.size_alloc];have:=L6.out.hz;omega) ?_;intro v7 w7 ho hg hn;obtain ⟨a',c',hv⟩:=cY ho;subst hv;have BU:=(Below.refl w6.heap.size w6).alloc (Nat.le_refl _) (.cells #[.string d.op,.string d.a.op,.string d.a.nm,.int .i64 d.a.n,.slice a5 d.a.ks.len c5,.string d.b.op,.string d.b.nm,.int .i64 d.b.n,.slice a6 d.b.ks.len c6] 90);have L7:=L6.out.step BU;have KA:=(aL.refl (fun b=>(Value.slice p.wa k p.wc).ownBlock=some b) _).grown hg (fun k hk=>.inl hk);have N7:=KA.heap L7.n (fun e=>by have:=L7.wlo e;omega);have L8:=aA (L7.push HD.out KA ho hn (((R7.out.kept BU)).imp (fun b _ hb=>HL.out.fresh hb)) ((R6.out.kept BU).imp (fun b _ hb=>HL.out.fresh hb)));have CF:=aA (CS.out w7 (L7.b.trans (KA.below (fun q hq=>by have:=L7.wlo hq;have:=L7.lo;omega) (by have:=L7.lo;have:=L7.hz;omega))) (KA.heap L7.bx (fun e=>by have:=L7.wlo e;have:=L7.lo;omega)));have CG:=aA (CS.out _ L8.out.b L8.out.bx);obtain ⟨u0,u1,u2,u3,u4,u5,u6,u7,u8,u9,u10⟩:=aD N7
       obtain ⟨z0,z1,z2,z3,z4,z5,z6,z7,z8,z9,z10⟩:=dX N7;clear ho hg hn KA N7 L7 BU;have cf:=CF.out;refine hK.out _ _ cf (fun hH9=>?_);try simp only [Act.put,Kk]
       clear hK K;refine aB (i:=25) (d:=some 48) (v:=.pointer (some ⟨X,10,none⟩)) rfl rfl (by kernel_rfl) (by kernel_rfl) (by kernel_rfl) (fun _ _ _ h=>h) (Or.inl ⟨by rfl,by rintro w ⟨m10,p0,p1,p2,p3,p4,p5,p6,p7,p8⟩;go_simp⟩) hH9 ?_;simp only [Act.put];refine wpAnyH_ready (rs:=[26]) (by kernel_rfl) (by simp) ?_;refine AllReadyH.cons (o:=_) rfl (fun K hK=>?_) AllReadyH.nil;go_simp
       refine hK.out _ _ CG.out (fun hH10=>?_);try simp only [Act.put,Kk,Kl,Km]
       clear hK K;refine wpAnyH_done (by kernel_rfl) ?_ _;clear hH8 hH9 hH10 cf;go_wp2_with fail
       go_roundw
       case rel=>exact ⟨k+1,_,_,by go_num,by omega,L8⟩
       case measure=>simp [intOf];omega
     · go_simp
       refine (D1.out _ (aH wr)).mono ?_;rintro e w5 ⟨a5,c5,rfl,r5,hb⟩;have B5:=aA ((aH wr).trans hb);have R5:=aA (show aI (fun b=>wr.heap.size<=b) w5 a5 d.a.ks from r5);have cc:=CL.out _ B5.out;have x5:=XC.out _ B5.out;clear hb r5;refine hK.out _ _ cc (fun hH5=>?_);try simp only [Act.put,Kk,Kl,Km]
       clear hK K;refine wpAnyH_ready (rs:=[1,21]) (by kernel_rfl) (by simp) ?_;refine AllReadyH.cons (o:=_) rfl (fun K hK=>?_) (AllReadyH.cons (o:=_) rfl (fun K hK=>?_) AllReadyH.nil)
       · go_simp
         refine hK.out _ _ hH5 (fun hH7=>?_);try simp only [Act.put,Kk,Kl,Km]
         clear hK K;refine wpAnyH_ready (rs:=[21]) (by kernel_rfl) (by simp) ?_;refine AllReadyH.cons (o:=_) rfl (fun K hK=>?_) AllReadyH.nil;go_simp
         refine (D2.out w5 B5.out).mono ?_;rintro e w6 ⟨a6,c6,rfl,r6,hb⟩;have B6:=aA (B5.out.trans (hb.mono B5.out.size));have R6:=aA (aI.imp (G:=fun b=>w5.heap.size<=b) (H:=fun b=>wr.heap.size<=b) r6 (fun b _ h=>Nat.le_trans B5.out.size h));have R7:=aA (R5.out.kept hb);have cd:=CL.out _ B6.out;have L6:=aA (HL.out.step B6.out);have OWN:=aA (L6.out.own.alloc (.cells #[.string d.op,.string d.a.op,.string d.a.nm,.int .i64 d.a.n,.slice a5 d.a.ks.len c5,.string d.b.op,.string d.b.nm,.int .i64 d.b.n,.slice a6 d.b.ks.len c6] 90));have NEW:=aA (tG w6 d ⟨a5,c5,a6,c6⟩);have ONE:=aA (fun u (hu:u∈eT d ⟨a5,c5,a6,c6⟩)=>qA [d] [⟨a5,c5,a6,c6⟩] u (by simpa [cdL] using hu));have ce:=CL.out _ (B6.out.alloc B6.out.size (.cells #[.string d.op,.string d.a.op,.string d.a.nm,.int .i64 d.a.n,.slice a5 d.a.ks.len c5,.string d.b.op,.string d.b.nm,.int .i64 d.b.n,.slice a6 d.b.ks.len c6] 90));have x6:=XC.out _ B6.out;clear hb r6;refine hK.out _ _ cd (fun hH6=>?_);try simp only [Act.put,Kk,Kl,Km]
         clear hK K;refine aB (i:=22) (d:=some 45) (v:=.agg #[.string d.op,.string d.a.op,.string d.a.nm,.int .i64 d.a.n,.slice a5 d.a.ks.len c5,.string d.b.op,.string d.b.nm,.int .i64 d.b.n,.slice a6 d.b.ks.len c6]) rfl rfl (by kernel_rfl) (by kernel_rfl) (by kernel_rfl) (fun _ _ _ h=>h) (Or.inl ⟨by rfl,by rintro w ⟨m10,p0,p1,p2,p3,p4,p5,p6,p7,p8⟩;go_simp⟩) hH6 ?_;simp only [Act.put,Kk,Kl,Km];refine wpAnyH_ready (rs:=[23]) (by kernel_rfl) (by simp) ?_;refine AllReadyH.cons (o:=_) rfl (fun K hK=>?_) AllReadyH.nil;go_simp
         refine hK.out _ _ ce (fun hH8=>?_);try simp only [Act.put,Kk,Kl,Km]
         clear hK K;refine wpAnyH_ready (rs:=[24]) (by kernel_rfl) (by simp) ?_;refine AllReadyH.cons (o:=_) rfl (fun K hK=>?_) AllReadyH.nil;refine cO rfl (.tmp 24) (.tmp 46) 35 rfl (base:=X+1) und hi hz0 hz1 hz2 hz3 (by decide) (.slice p.wa k p.wc) k 1 (cdL (x.wh.take k) qs) (eT d ⟨a5,c5,a6,c6⟩) ⟨w6.heap.size,0,none⟩ 1 (by first | (simp [Act.eval];done) | (simp [Act.eval,Act.put];done) | fail) (by first | (simp [Act.eval];done) | (simp [Act.eval,Act.put];done) | fail) OWN.out rfl NEW.out ONE.out (by have:=HKB.out;unfold maxLen;omega) (by have:=HKB.out;omega) (by rw [World.size_alloc];have:=L6.out.hz;omega) ?_;intro v7 w7 ho hg hn;obtain ⟨a',c',hv⟩:=cY ho;subst hv;have BU:=(Below.refl w6.heap.size w6).alloc (Nat.le_refl _) (.cells #[.string d.op,.string d.a.op,.string d.a.nm,.int .i64 d.a.n,.slice a5 d.a.ks.len c5,.string d.b.op,.string d.b.nm,.int .i64 d.b.n,.slice a6 d.b.ks.len c6] 90);have L7:=L6.out.step BU;have KA:=(aL.refl (fun b=>(Value.slice p.wa k p.wc).ownBlock=some b) _).grown hg (fun k hk=>.inl hk);have N7:=KA.heap L7.n (fun e=>by have:=L7.wlo e;omega);have L8:=aA (L7.push HD.out KA ho hn (((R7.out.kept BU)).imp (fun b _ hb=>HL.out.fresh hb)) ((R6.out.kept BU).imp (fun b _ hb=>HL.out.fresh hb)));have CF:=aA (CS.out w7 (L7.b.trans (KA.below (fun q hq=>by have:=L7.wlo hq;have:=L7.lo;omega) (by have:=L7.lo;have:=L7.hz;omega))) (KA.heap L7.bx (fun e=>by have:=L7.wlo e;have:=L7.lo;omega)));have CG:=aA (CS.out _ L8.out.b L8.out.bx);obtain ⟨u0,u1,u2,u3,u4,u5,u6,u7,u8,u9,u10⟩:=aD N7
         obtain ⟨z0,z1,z2,z3,z4,z5,z6,z7,z8,z9,z10⟩:=dX N7;clear ho hg hn KA N7 L7 BU;have cf:=CF.out;refine hK.out _ _ cf (fun hH9=>?_);try simp only [Act.put,Kk]
         clear hK K;refine aB (i:=25) (d:=some 48) (v:=.pointer (some ⟨X,10,none⟩)) rfl rfl (by kernel_rfl) (by kernel_rfl) (by kernel_rfl) (fun _ _ _ h=>h) (Or.inl ⟨by rfl,by rintro w ⟨m10,p0,p1,p2,p3,p4,p5,p6,p7,p8⟩;go_simp⟩) hH9 ?_;simp only [Act.put];refine wpAnyH_ready (rs:=[26]) (by kernel_rfl) (by simp) ?_;refine AllReadyH.cons (o:=_) rfl (fun K hK=>?_) AllReadyH.nil;go_simp
         refine hK.out _ _ CG.out (fun hH10=>?_);try simp only [Act.put,Kk,Kl,Km]
         clear hK K;refine wpAnyH_done (by kernel_rfl) ?_ _;clear hH8 hH9 hH10 cf;go_wp2_with fail
         go_roundw
         case rel=>exact ⟨k+1,_,_,by go_num,by omega,L8⟩
         case measure=>simp [intOf];omega
       · go_simp
         refine (D2.out w5 B5.out).mono ?_;rintro e w6 ⟨a6,c6,rfl,r6,hb⟩;have B6:=aA (B5.out.trans (hb.mono B5.out.size));have R6:=aA (aI.imp (G:=fun b=>w5.heap.size<=b) (H:=fun b=>wr.heap.size<=b) r6 (fun b _ h=>Nat.le_trans B5.out.size h));have R7:=aA (R5.out.kept hb);have cd:=CL.out _ B6.out;have L6:=aA (HL.out.step B6.out);have OWN:=aA (L6.out.own.alloc (.cells #[.string d.op,.string d.a.op,.string d.a.nm,.int .i64 d.a.n,.slice a5 d.a.ks.len c5,.string d.b.op,.string d.b.nm,.int .i64 d.b.n,.slice a6 d.b.ks.len c6] 90));have NEW:=aA (tG w6 d ⟨a5,c5,a6,c6⟩);have ONE:=aA (fun u (hu:u∈eT d ⟨a5,c5,a6,c6⟩)=>qA [d] [⟨a5,c5,a6,c6⟩] u (by simpa [cdL] using hu));have ce:=CL.out _ (B6.out.alloc B6.out.size (.cells #[.string d.op,.string d.a.op,.string d.a.nm,.int .i64 d.a.n,.slice a5 d.a.ks.len c5,.string d.b.op,.string d.b.nm,.int .i64 d.b.n,.slice a6 d.b.ks.len c6] 90));have x6:=XC.out _ B6.out;clear hb r6;refine hK.out _ _ cd (fun hH6=>?_);try simp only [Act.put,Kk,Kl,Km]
         clear hK K;refine aB (i:=22) (d:=some 45) (v:=.agg #[.string d.op,.string d.a.op,.string d.a.nm,.int .i64 d.a.n,.slice a5 d.a.ks.len c5,.string d.b.op,.string d.b.nm,.int .i64 d.b.n,.slice a6 d.b.ks.len c6]) rfl rfl (by kernel_rfl) (by kernel_rfl) (by kernel_rfl) (fun _ _ _ h=>h) (Or.inl ⟨by rfl,by rintro w ⟨m10,p0,p1,p2,p3,p4,p5,p6,p7,p8⟩;go_simp⟩) hH6 ?_;simp only [Act.put,Kk,Kl,Km];have x7:=XC.out _ (B6.out.alloc B6.out.size (.cells #[.string d.op,.string d.a.op,.string d.a.nm,.int .i64 d.a.n,.slice a5 d.a.ks.len c5,.string d.b.op,.string d.b.nm,.int .i64 d.b.n,.slice a6 d.b.ks.len c6] 90));refine wpAnyH_ready (rs:=[1,23]) (by kernel_rfl) (by simp) ?_;refine AllReadyH.cons (o:=_) rfl (fun K hK=>?_) (AllReadyH.cons (o:=_) rfl (fun K hK=>?_) AllReadyH.nil)
         · go_simp
           refine hK.out _ _ hH6 (fun hH7=>?_);try simp only [Act.put,Kk,Kl,Km]
           clear hK K;refine wpAnyH_ready (rs:=[23]) (by kernel_rfl) (by simp) ?_;refine AllReadyH.cons (o:=_) rfl (fun K hK=>?_) AllReadyH.nil;go_simp
           refine hK.out _ _ ce (fun hH8=>?_);try simp only [Act.put,Kk,Kl,Km]
           clear hK K;refine wpAnyH_ready (rs:=[24]) (by kernel_rfl) (by simp) ?_;refine AllReadyH.cons (o:=_) rfl (fun K hK=>?_) AllReadyH.nil;refine cO rfl (.tmp 24) (.tmp 46) 35 rfl (base:=X+1) und hi hz0 hz1 hz2 hz3 (by decide) (.slice p.wa k p.wc) k 1 (cdL (x.wh.take k) qs) (eT d ⟨a5,c5,a6,c6⟩) ⟨w6.heap.size,0,none⟩ 1 (by first | (simp [Act.eval];done) | (simp [Act.eval,Act.put];done) | fail) (by first | (simp [Act.eval];done) | (simp [Act.eval,Act.put];done) | fail) OWN.out rfl NEW.out ONE.out (by have:=HKB.out;unfold maxLen;omega) (by have:=HKB.out;omega) (by rw [World.size_alloc];have:=L6.out.hz;omega) ?_;intro v7 w7 ho hg hn;obtain ⟨a',c',hv⟩:=cY ho;subst hv;have BU:=(Below.refl w6.heap.size w6).alloc (Nat.le_refl _) (.cells #[.string d.op,.string d.a.op,.string d.a.nm,.int .i64 d.a.n,.slice a5 d.a.ks.len c5,.string d.b.op,.string d.b.nm,.int .i64 d.b.n,.slice a6 d.b.ks.len c6] 90);have L7:=L6.out.step BU;have KA:=(aL.refl (fun b=>(Value.slice p.wa k p.wc).ownBlock=some b) _).grown hg (fun k hk=>.inl hk);have N7:=KA.heap L7.n (fun e=>by have:=L7.wlo e;omega);have L8:=aA (L7.push HD.out KA ho hn (((R7.out.kept BU)).imp (fun b _ hb=>HL.out.fresh hb)) ((R6.out.kept BU).imp (fun b _ hb=>HL.out.fresh hb)));have CF:=aA (CS.out w7 (L7.b.trans (KA.below (fun q hq=>by have:=L7.wlo hq;have:=L7.lo;omega) (by have:=L7.lo;have:=L7.hz;omega))) (KA.heap L7.bx (fun e=>by have:=L7.wlo e;have:=L7.lo;omega)));have CG:=aA (CS.out _ L8.out.b L8.out.bx);obtain ⟨u0,u1,u2,u3,u4,u5,u6,u7,u8,u9,u10⟩:=aD N7
           obtain ⟨z0,z1,z2,z3,z4,z5,z6,z7,z8,z9,z10⟩:=dX N7;clear ho hg hn KA N7 L7 BU;have cf:=CF.out;refine hK.out _ _ cf (fun hH9=>?_);try simp only [Act.put,Kk]
           clear hK K;refine aB (i:=25) (d:=some 48) (v:=.pointer (some ⟨X,10,none⟩)) rfl rfl (by kernel_rfl) (by kernel_rfl) (by kernel_rfl) (fun _ _ _ h=>h) (Or.inl ⟨by rfl,by rintro w ⟨m10,p0,p1,p2,p3,p4,p5,p6,p7,p8⟩;go_simp⟩) hH9 ?_;simp only [Act.put];refine wpAnyH_ready (rs:=[26]) (by kernel_rfl) (by simp) ?_;refine AllReadyH.cons (o:=_) rfl (fun K hK=>?_) AllReadyH.nil;go_simp
           refine hK.out _ _ CG.out (fun hH10=>?_);try simp only [Act.put,Kk,Kl,Km]
           clear hK K;refine wpAnyH_done (by kernel_rfl) ?_ _;clear hH8 hH9 hH10 cf;go_wp2_with fail
           go_roundw
           case rel=>exact ⟨k+1,_,_,by go_num,by omega,L8⟩
           case measure=>simp [intOf];omega
         · go_simp
           refine hK.out _ _ ce (fun hH8=>?_);try simp only [Act.put,Kk,Kl,Km]
           clear hK K;refine wpAnyH_ready (rs:=[1]) (by kernel_rfl) (by simp) ?_;refine AllReadyH.cons (o:=_) rfl (fun K hK=>?_) AllReadyH.nil;go_simp
           refine hK.out _ _ ce (fun hH7=>?_);try simp only [Act.put,Kk,Kl,Km]
           clear hK K;refine wpAnyH_ready (rs:=[24]) (by kernel_rfl) (by simp) ?_;refine AllReadyH.cons (o:=_) rfl (fun K hK=>?_) AllReadyH.nil;refine cO rfl (.tmp 24) (.tmp 46) 35 rfl (base:=X+1) und hi hz0 hz1 hz2 hz3 (by decide) (.slice p.wa k p.wc) k 1 (cdL (x.wh.take k) qs) (eT d ⟨a5,c5,a6,c6⟩) ⟨w6.heap.size,0,none⟩ 1 (by first | (simp [Act.eval];done) | (simp [Act.eval,Act.put];done) | fail) (by first | (simp [Act.eval];done) | (simp [Act.eval,Act.put];done) | fail) OWN.out rfl NEW.out ONE.out (by have:=HKB.out;unfold maxLen;omega) (by have:=HKB.out;omega) (by rw [World.size_alloc];have:=L6.out.hz;omega) ?_;intro v7 w7 ho hg hn;obtain ⟨a',c',hv⟩:=cY ho;subst hv;have BU:=(Below.refl w6.heap.size w6).alloc (Nat.le_refl _) (.cells #[.string d.op,.string d.a.op,.string d.a.nm,.int .i64 d.a.n,.slice a5 d.a.ks.len c5,.string d.b.op,.string d.b.nm,.int .i64 d.b.n,.slice a6 d.b.ks.len c6] 90);have L7:=L6.out.step BU;have KA:=(aL.refl (fun b=>(Value.slice p.wa k p.wc).ownBlock=some b) _).grown hg (fun k hk=>.inl hk);have N7:=KA.heap L7.n (fun e=>by have:=L7.wlo e;omega);have L8:=aA (L7.push HD.out KA ho hn (((R7.out.kept BU)).imp (fun b _ hb=>HL.out.fresh hb)) ((R6.out.kept BU).imp (fun b _ hb=>HL.out.fresh hb)));have CF:=aA (CS.out w7 (L7.b.trans (KA.below (fun q hq=>by have:=L7.wlo hq;have:=L7.lo;omega) (by have:=L7.lo;have:=L7.hz;omega))) (KA.heap L7.bx (fun e=>by have:=L7.wlo e;have:=L7.lo;omega)));have CG:=aA (CS.out _ L8.out.b L8.out.bx);obtain ⟨u0,u1,u2,u3,u4,u5,u6,u7,u8,u9,u10⟩:=aD N7
           obtain ⟨z0,z1,z2,z3,z4,z5,z6,z7,z8,z9,z10⟩:=dX N7;clear ho hg hn KA N7 L7 BU;have cf:=CF.out;refine hK.out _ _ cf (fun hH9=>?_);try simp only [Act.put,Kk]
           clear hK K;refine aB (i:=25) (d:=some 48) (v:=.pointer (some ⟨X,10,none⟩)) rfl rfl (by kernel_rfl) (by kernel_rfl) (by kernel_rfl) (fun _ _ _ h=>h) (Or.inl ⟨by rfl,by rintro w ⟨m10,p0,p1,p2,p3,p4,p5,p6,p7,p8⟩;go_simp⟩) hH9 ?_;simp only [Act.put];refine wpAnyH_ready (rs:=[26]) (by kernel_rfl) (by simp) ?_;refine AllReadyH.cons (o:=_) rfl (fun K hK=>?_) AllReadyH.nil;go_simp
           refine hK.out _ _ CG.out (fun hH10=>?_);try simp only [Act.put,Kk,Kl,Km]
           clear hK K;refine wpAnyH_done (by kernel_rfl) ?_ _;clear hH8 hH9 hH10 cf;go_wp2_with fail
           go_roundw
           case rel=>exact ⟨k+1,_,_,by go_num,by omega,L8⟩
           case measure=>simp [intOf];omega
   · have hke:k=x.wh.length:=by omega
     subst hke;have LD:=aA HL.out.done;have b1:¬ (x.wh.length:Int)<(x.wh.length:Int):=by omega
     obtain ⟨-, -, -, -, -, -, -, -, -, -,m10⟩:=aD HL.out.bx;have N0:=HL.out.n;rw [List.take_length] at N0;obtain ⟨x0,x1,x2,x3,x4,x5,x6,x7,x8,x9,x10⟩:=aD N0;obtain ⟨o0,o1,o2,o3,o4,o5,o6,o7,o8,o9,o10⟩:=aD HL.out.rs;obtain ⟨z0,z1,z2,z3,z4,z5,z6,z7,z8,z9,z10⟩:=dX HL.out.rs;have HRS:=aA HL.out.rs;clear N0;go_wp2_with fail
     obtain ⟨y0,y1,y2,y3,y4,y5,y6,y7,y8,y9,y10⟩:=aD (gU (t:=37) HRS.out x p);exact bodyPost_ret (v:=agV x p) (by simp [results,Tryz.results12,go_sem,y0,y1,y2,y3,y4,y5,y6,y7,y8,y9,y10]) rfl ⟨p,rfl,LD.out⟩
end
section
open Go.RowKit Go.ChangeShapes Go.WideShapes Go.Deep
theorem qK:Tryz.prog.cellsOf 25=4:=by kernel_rfl
def oA:F->Prop
 | .nil=>True
 | .cons o m n ks r=>o.size<=maxLen/\m.size<=maxLen/\bM n/\ks.len<=maxLen/\oA ks/\oA r
theorem oA.lens:∀ {f:F},oA f->mS f
 | .nil,_=>trivial
 | .cons _ _ _ _ _,⟨_,_,_,h,hk,hr⟩=>⟨by unfold maxLen at h;omega,hk.lens,hr.lens⟩
theorem oA.nums:∀ {f:F},oA f->cX f
 | .nil,_=>trivial
 | .cons _ _ _ _ _,⟨_,_,h,_,hk,hr⟩=>⟨by unfold bM at h;omega,hk.nums,hr.nums⟩
theorem xR {n:Int} (h:(Lit.int .i64 n).wf=true):bM n:=by
 simp [Lit.wf,IntKind.min,IntKind.max,IntKind.bits,IntKind.signed] at h;exact ⟨by omega,by omega⟩
theorem lN {H:Type} {enc:TypeId×Value->H} {W:World}:∀ (n:Nat) (cs:List Value) (x:DataW H×List MemPlace),DataW.trod enc Tryz.prog W 0 (fun _=>true) true n 25 cs=some x ->
 ∃ (o m:ByteArray) (k:Int) (a:Option Addr) (ks:F) (c:Nat),cs=[.string o,.string m,.int .i64 k,.slice a ks.len c]/\(o.size<=maxLen/\m.size<=maxLen/\bM k/\ks.len<=maxLen/\oA ks)/\aI (fun b=>b<W.heap.size) W a ks:=by
 intro n;induction n using Nat.strongRecOn with
 | ind n ih =>
   intro cs x h;obtain ⟨ys,m,hn, -,hlen,hyl,hf⟩:=DataW.trod_struct Tryz.underlying25 h;rw [qK] at hlen;match cs,hlen with
   | [c0, c1, c2, c3], _ =>
     have y4:ys.length=4:=hyl;match ys,y4 with
     | [y0, y1, y2, y3], _ =>
       have h0:DataW.trod enc Tryz.prog W 0 (fun _=>true) true m 9 [c0]=some y0:=hf 0 _ rfl;have h1:DataW.trod enc Tryz.prog W 0 (fun _=>true) true m 9 [c1]=some y1:=hf 1 _ rfl;have h2:DataW.trod enc Tryz.prog W 0 (fun _=>true) true m 2 [c2]=some y2:=hf 2 _ rfl;have h3:DataW.trod enc Tryz.prog W 0 (fun _=>true) true m 23 [c3]=some y3:=hf 3 _ rfl;obtain ⟨o,e0, -,w0⟩:=DataW.trod_string Tryz.underlying9 h0;obtain ⟨s,e1, -,w1⟩:=DataW.trod_string Tryz.underlying9 h1;obtain ⟨k,e2, -,w2⟩:=DataW.trod_int Tryz.underlying2 h2;cases e0;cases e1;cases e2;rcases DataW.trod_slice Tryz.underlying23 h3 with ⟨hcs, -⟩ | ⟨a,len,cap,elems,rest,q,hq,hcs, -, -,hl,hc,hel,hat, -, -⟩
       · cases hcs
         exact ⟨o,s,k,none,.nil,0,rfl,⟨w0,w1,xR w2,Nat.zero_le _,trivial⟩,.inl rfl⟩
       · cases hcs
         have hqn:q<n:=by omega
         have hsp:0<len->a.spot=none:=by
          intro h0;have hj2:=hat 0 h0;rw [List.getElem?_eq_getElem (by omega),Option.bind_eq_some_iff] at hj2;obtain ⟨cs',hcs', -⟩:=hj2;rw [qK] at hcs';obtain ⟨-,hl4,hcl⟩:=World.cells?_some hcs';have p1:=hcl 0 (by omega);rw [List.getElem?_eq_getElem (by omega)] at p1;simpa [Addr.add] using World.cell?_spot p1
         have main:∀ d j,j+d=len->∃ f:F,f.len=d/\oA f/\(f=.nil\/∃ b off,a=⟨b,off,none⟩/\eH (fun b=>b<W.heap.size) W f b (off+j*4)):=by
          intro d;induction d with
          | zero=>exact fun j _=>⟨.nil,rfl,trivial,.inl rfl⟩
          | succ d ihd =>
            intro j hj;obtain ⟨g,hg,hgb,hgr⟩:=ihd (j+1) (by omega);have hj2:=hat j (by omega);rw [List.getElem?_eq_getElem (by omega),Option.bind_eq_some_iff] at hj2;obtain ⟨cs',hcs',ht⟩:=hj2;obtain ⟨o2,m2,k2,a2,ks2,c2,rfl,hb2,hr2⟩:=ih q hqn cs' _ ht;rw [qK] at hcs';obtain ⟨-, -,hcl⟩:=World.cells?_some hcs';have e:∀ i,(a.add (j*4)).add i=a.add (j*4+i):=fun i=>Go.Deep.add_add _ _ _
            have p0:W.cell? (a.add (j*4+0))=some (.string o2):=by have:=hcl 0 (by omega);rw [e 0] at this;exact this
            have p1:W.cell? (a.add (j*4+1))=some (.string m2):=by have:=hcl 1 (by omega);rw [e 1] at this;exact this
            have p2:W.cell? (a.add (j*4+2))=some (.int .i64 k2):=by have:=hcl 2 (by omega);rw [e 2] at this;exact this
            have p3:W.cell? (a.add (j*4+3))=some (.slice a2 ks2.len c2):=by have:=hcl 3 (by omega);rw [e 3] at this;exact this
            obtain ⟨b,off,spot⟩:=a;have hspot:spot=none:=hsp (by omega);subst hspot;rw [Addr.add_lit] at p0 p1 p2 p3;have hlt:b<W.heap.size:=World.block_lt_of_cell? W _ p0;refine ⟨.cons o2 m2 k2 ks2 g,by rw [F.len,hg],⟨hb2.1,hb2.2.1,hb2.2.2.1,hb2.2.2.2.1,hb2.2.2.2.2,hgb⟩,.inr ⟨b,off,rfl,hlt,hlt,⟨a2,c2,⟨by simpa using p0,p1,p2,p3⟩,hr2⟩,?_⟩⟩;rcases hgr with rfl | ⟨b',off',he,hgr⟩
            · trivial
            · cases he
              rw [show off+j*4+4=off+(j+1)*4 by omega];exact hgr
         obtain ⟨f,hfl,hfb,hfr⟩:=main len 0 (by omega);subst hfl;refine ⟨o,s,k,some a,f,cap,rfl,⟨w0,w1,xR w2,Nat.le_trans hl hc,hfb⟩,?_⟩;rcases hfr with h9 | ⟨b,off,ha9,h9⟩
         · exact .inl h9
         · rw [Nat.zero_mul,Nat.add_zero] at h9
           exact .inr ⟨b,off,by rw [ha9],h9⟩
end
section
open Go.RowKit Go.ChangeShapes Go.WideShapes Go.Deep
theorem wK:Tryz.prog.cellsOf 98=9:=by kernel_rfl
theorem GB:Tryz.prog.cellsOf 28=11:=by kernel_rfl
def JK (l:List CD):Prop:=∀ d∈l,d.op.size<=maxLen/\oA d.a.f/\oA d.b.f
structure BR (x:AG):Prop where
 fn:x.fn.size<=maxLen
 k:bM x.k
 e:oA x.e.f
 g:oA x.g.f
 wh:x.wh.length<=maxLen
 c:JK x.wh
section
variable {H:Type} {enc:TypeId×Value->H} {W:World}
theorem Bu (n:Nat) (cs:List Value) (x:DataW H×List MemPlace) (h:DataW.trod enc Tryz.prog W 0 (fun _=>true) true n 98 cs=some x) :
 ∃ (d:CD) (a1:Option Addr) (c1:Nat) (a2:Option Addr) (c2:Nat),cs=[.string d.op,.string d.a.op,.string d.a.nm,.int .i64 d.a.n,.slice a1 d.a.ks.len c1,.string d.b.op,.string d.b.nm,.int .i64 d.b.n,.slice a2 d.b.ks.len c2]/\(d.op.size<=maxLen/\oA d.a.f/\oA d.b.f)/\aI (fun b=>b<W.heap.size) W a1 d.a.ks/\aI (fun b=>b<W.heap.size) W a2 d.b.ks:=by
 obtain ⟨ys,m,hn, -,hlen,hyl,hf⟩:=DataW.trod_struct Tryz.underlying98 h;rw [wK] at hlen;match cs,hlen with
 | [c0, c1, c2, c3, c4, c5, c6, c7, c8], _ =>
   have y3:ys.length=3:=hyl;match ys,y3 with
   | [y0, y1, y2], _ =>
     have h0:DataW.trod enc Tryz.prog W 0 (fun _=>true) true m 9 [c0]=some y0:=hf 0 _ rfl;have h1:DataW.trod enc Tryz.prog W 0 (fun _=>true) true m 25 [c1,c2,c3,c4]=some y1:=hf 1 _ rfl;have h2:DataW.trod enc Tryz.prog W 0 (fun _=>true) true m 25 [c5,c6,c7,c8]=some y2:=hf 2 _ rfl;obtain ⟨o,e0, -,w0⟩:=DataW.trod_string Tryz.underlying9 h0;obtain ⟨o1,m1,k1,a1,ks1,n1,e1,⟨b1,b2,b3,b4,b5⟩,r1⟩:=lN m _ _ h1;obtain ⟨o2,m2,k2,a2,ks2,n2,e2,⟨d1,d2,d3,d4,d5⟩,r2⟩:=lN m _ _ h2;cases e0;simp only [List.cons.injEq,and_true] at e1 e2;obtain ⟨rfl,rfl,rfl,rfl⟩:=e1;obtain ⟨rfl,rfl,rfl,rfl⟩:=e2;exact ⟨⟨o,⟨o1,m1,k1,ks1⟩,⟨o2,m2,k2,ks2⟩⟩,a1,n1,a2,n2,rfl,⟨w0,⟨b1,b2,b3,b4,b5,trivial⟩,⟨d1,d2,d3,d4,d5,trivial⟩⟩,r1,r2⟩
theorem An {m:Nat} {c:Value} {y:DataW H×List MemPlace} (h3:DataW.trod enc Tryz.prog W 0 (fun _=>true) true m 26 [c]=some y) :
 ∃ (l:List CD) (a:Option Addr) (cap:Nat),c=.slice a l.length cap/\l.length<=maxLen/\JK l/\eN (fun b=>b<W.heap.size) W a l:=by
 rcases DataW.trod_slice Tryz.underlying26 h3 with ⟨hcs, -⟩ | ⟨a,len,cap,elems,rest,q,hq,hcs, -, -,hl,hc,hel,hat, -, -⟩
 · cases hcs
   exact ⟨[],none,0,rfl,Nat.zero_le _,(fun d hd=>by cases hd),.inl rfl⟩
 · cases hcs
   have one:∀ j,j<len->∃ (d:CD) (a1:Option Addr) (c1:Nat) (a2:Option Addr) (c2:Nat),(∀ i u,([.string d.op,.string d.a.op,.string d.a.nm,.int .i64 d.a.n,.slice a1 d.a.ks.len c1,.string d.b.op,.string d.b.nm,.int .i64 d.b.n,.slice a2 d.b.ks.len c2]:List Value)[i]? = some u->W.cell? (a.add (j*9+i))=some u)/\(d.op.size<=maxLen/\oA d.a.f/\oA d.b.f)/\aI (fun b=>b<W.heap.size) W a1 d.a.ks/\aI (fun b=>b<W.heap.size) W a2 d.b.ks:=fun j hj=>by
    have hj2:=hat j hj;rw [List.getElem?_eq_getElem (by omega),Option.bind_eq_some_iff] at hj2;obtain ⟨cs',hcs',ht⟩:=hj2;obtain ⟨d,a1,c1,a2,c2,rfl,hb,r1,r2⟩:=Bu q cs' _ ht;rw [wK] at hcs';obtain ⟨-, -,hcl⟩:=World.cells?_some hcs';refine ⟨d,a1,c1,a2,c2,fun i u hu=>?_,hb,r1,r2⟩;have hi:i<9:=(List.getElem?_eq_some_iff.1 hu).1;have:=hcl i (by omega);rw [Go.Deep.add_add] at this;rw [<- hu];exact this
   have main:∀ k,k<=len->∃ l:List CD,l.length=k/\JK l/\∀ j d,l[j]? = some d->∃ a1 c1 a2 c2,(∀ i u,([.string d.op,.string d.a.op,.string d.a.nm,.int .i64 d.a.n,.slice a1 d.a.ks.len c1,.string d.b.op,.string d.b.nm,.int .i64 d.b.n,.slice a2 d.b.ks.len c2]:List Value)[i]? = some u->W.cell? (a.add (j*9+i))=some u)/\aI (fun b=>b<W.heap.size) W a1 d.a.ks/\aI (fun b=>b<W.heap.size) W a2 d.b.ks:=by
    intro k;induction k with
    | zero=>exact fun _=>⟨[],rfl,(fun d hd=>by cases hd),fun j d hj=>by simp at hj⟩
    | succ k ih =>
      intro hk;obtain ⟨l,h1,h2,h4⟩:=ih (by omega);obtain ⟨d,a1,c1,a2,c2,g1,g2,g3,g4⟩:=one k (by omega);refine ⟨l++[d],by simp [h1],fun x hx=>?_,fun j x hj=>?_⟩
      · rcases List.mem_append.1 hx with hx | hx
        · exact h2 x hx
        · rw [List.mem_singleton.1 hx];exact g2
      · rcases Nat.lt_or_ge j l.length with hlt | hge
        · rw [List.getElem?_append_left hlt] at hj
          exact h4 j x hj
        · rw [List.getElem?_append_right hge] at hj
          cases hm:j-l.length with
          | zero =>
            rw [hm] at hj;cases hj;obtain rfl:j=k:=by omega
            exact ⟨a1,c1,a2,c2,g1,g3,g4⟩
          | succ z=>rw [hm] at hj;simp at hj
   obtain ⟨l,h1,h2,h4⟩:=main len (Nat.le_refl _);subst h1;refine ⟨l,some a,cap,rfl,Nat.le_trans hl hc,h2,?_⟩;by_cases hne:l=[]
   · exact .inl hne
   · obtain ⟨d0,hd0⟩:∃ d,l[0]? = some d:=by
      cases l with
      | nil=>exact absurd rfl hne
      | cons d r=>exact ⟨d,rfl⟩
     obtain ⟨_,_,_,_,g, -, -⟩:=h4 0 d0 hd0;have p0:=g 0 _ rfl;have hspot:a.spot=none:=by simpa [Addr.add] using World.cell?_spot p0
     obtain ⟨b,off,spot⟩:=a;have hs:spot=none:=hspot;subst hs;rw [Addr.add_lit] at p0;have hlt:b<W.heap.size:=World.block_lt_of_cell? W _ p0;refine .inr ⟨b,off,rfl,hlt,hlt,fun j d hj=>?_⟩;obtain ⟨a1,c1,a2,c2,g,r1,r2⟩:=h4 j d hj
     have get:∀ i u,([.string d.op,.string d.a.op,.string d.a.nm,.int .i64 d.a.n,.slice a1 d.a.ks.len c1,.string d.b.op,.string d.b.nm,.int .i64 d.b.n,.slice a2 d.b.ks.len c2]:List Value)[i]? = some u->W.cell? ⟨b,off+j*9+i,none⟩=some u:=fun i u hu=>by
      have:=g i u hu;rw [Addr.add_lit] at this;rw [show off+j*9+i=off+(j*9+i) by omega];exact this
     exact ⟨a1,c1,a2,c2,⟨get 0 _ rfl,get 1 _ rfl,get 2 _ rfl,get 3 _ rfl,get 4 _ rfl,get 5 _ rfl,get 6 _ rfl,get 7 _ rfl,get 8 _ rfl⟩,r1,r2⟩
/-- A fold that came in, opened. -/
theorem GA {base:Nat} {v:Value} {d:DataW H} {p:List MemPlace} (hv:Value.okWide Tryz.prog W .any base 28 v) (h:DataW.Trod enc Tryz.prog W 0 (fun _=>true) true 28 v d p) :
 ∃ (x:AG) (q:PA),v=agV x q/\BR x/\aJ (fun b=>b<W.heap.size) W x q:=by
 obtain ⟨cs,rfl,hsz⟩:=okWide_struct Tryz.underlying28 hv;obtain ⟨fuel,hf⟩:=h;obtain ⟨l⟩:=cs;obtain ⟨ys,m,hn, -,hlen,hyl,hf⟩:=DataW.trod_struct Tryz.underlying28 hf;rw [GB] at hlen;match l,hlen with
 | [c0, c1, c2, c3, c4, c5, c6, c7, c8, c9, c10], _ =>
   have y5:ys.length=5:=hyl;match ys,y5 with
   | [y0, y1, y2, y3, y4], _ =>
     have h0:DataW.trod enc Tryz.prog W 0 (fun _=>true) true m 9 [c0]=some y0:=hf 0 _ rfl;have h1:DataW.trod enc Tryz.prog W 0 (fun _=>true) true m 2 [c1]=some y1:=hf 1 _ rfl;have h2:DataW.trod enc Tryz.prog W 0 (fun _=>true) true m 25 [c2,c3,c4,c5]=some y2:=hf 2 _ rfl;have h3:DataW.trod enc Tryz.prog W 0 (fun _=>true) true m 25 [c6,c7,c8,c9]=some y3:=hf 3 _ rfl;have h4:DataW.trod enc Tryz.prog W 0 (fun _=>true) true m 26 [c10]=some y4:=hf 4 _ rfl;obtain ⟨fn,e0, -,w0⟩:=DataW.trod_string Tryz.underlying9 h0;obtain ⟨k,e1, -,w1⟩:=DataW.trod_int Tryz.underlying2 h1;obtain ⟨o1,m1,k1,a1,ks1,n1,e2,⟨b1,b2,b3,b4,b5⟩,r1⟩:=lN m _ _ h2;obtain ⟨o2,m2,k2,a2,ks2,n2,e3,⟨d1,d2,d3,d4,d5⟩,r2⟩:=lN m _ _ h3;obtain ⟨wh,a3,n3,rfl,hwl,hwb,hwr⟩:=An h4;cases e0;cases e1;simp only [List.cons.injEq,and_true] at e2 e3;obtain ⟨rfl,rfl,rfl,rfl⟩:=e2;obtain ⟨rfl,rfl,rfl,rfl⟩:=e3;exact ⟨⟨fn,k,⟨o1,m1,k1,ks1⟩,⟨o2,m2,k2,ks2⟩,wh⟩,⟨a1,n1,a2,n2,a3,n3⟩,rfl,⟨w0,xR w1,⟨b1,b2,b3,b4,b5,trivial⟩,⟨d1,d2,d3,d4,d5,trivial⟩,hwl,hwb⟩,⟨r1,r2,hwr⟩⟩
end
theorem BR.ln {x:AG} (h:BR x):LnG x :=
 ⟨h.e.lens,h.g.lens,fun d hd=>⟨(h.c d hd).2.1.lens,(h.c d hd).2.2.lens⟩,by have:=h.fn;unfold maxLen at this;omega,fun d hd=>by have:=(h.c d hd).1;unfold maxLen at this;omega,by have:=h.wh;unfold maxLen at this;omega⟩
theorem BR.nums {x:AG} (h:BR x):fC x:=⟨h.e.nums,h.g.nums,fun d hd=>⟨(h.c d hd).2.1.nums,(h.c d hd).2.2.nums⟩⟩
theorem qP:∀ (f:F) (l:Int),0<=l->l<=1000->0<=eJ f l->(bL f:Int)<=l-eJ f l/\SzF f
 | .nil,l,_,_,_=>⟨by rw [eJ,bL];omega,trivial⟩
 | .cons o m _ ks r, l, h0, h9, h => by
   rw [eJ,if_neg (by omega)] at h |-
   cases hw:rE o m with
   | true =>
     rw [hw,if_pos rfl] at h;exfalso;cases r with
     | nil=>rw [eJ] at h;omega
     | cons _ _ _ _ _=>rw [eJ,if_pos (by decide)] at h;omega
   | false =>
     rw [hw,if_neg (by decide)] at h;rw [if_neg (by decide)]
     have hk:0<=eJ ks (l-1):=by
      rcases Int.lt_or_le (eJ ks (l-1)) 0 with hn | hn
      · exfalso
        have h2:=nK r (eJ ks (l-1));omega
      · exact hn
     have hl1:0<=l-1:=by
      have:=nK ks (l-1);omega
     obtain ⟨k1,k2⟩:=qP ks (l-1) hl1 (by omega) hk;have hk9:eJ ks (l-1)<=1000:=by have:=nK ks (l-1);omega
     obtain ⟨r1,r2⟩:=qP r _ hk hk9 h;refine ⟨by rw [bL];omega,?_,?_,k2,r2⟩
     · unfold rE at hw
       simp only [Bool.or_eq_false_iff,decide_eq_false_iff_not] at hw;omega
     · have:∀ f:F,f.len<=bL f:=by
        intro f;induction f with
        | nil=>exact Nat.le_refl _
        | cons _ _ _ _ r _ ih=>rw [F.len,bL];omega
       have:=this ks;omega
theorem Gg {t:TN} (h:0<=jQ t 60) (hl:t.ks.len<=9223372036854775807):aM t<=60/\SzF t.f:=by
 unfold jQ at h;cases hw:rE t.op t.nm with
 | true=>rw [hw,if_pos rfl] at h;omega
 | false =>
   rw [hw,if_neg (by decide)] at h;obtain ⟨h1,h2⟩:=qP t.ks (60-1) (by decide) (by decide) h;unfold rE at hw;simp only [Bool.or_eq_false_iff,decide_eq_false_iff_not] at hw;refine ⟨by unfold aM;omega,by omega,hl,h2,trivial⟩
open Go.RowKit
open Go.RowKit
open Go.RowKit
open Go.RowKit
open Go.RowKit
theorem jA {t:TN} (h:qT t=true) (hL:mS t.f):aM t<=60/\SzF t.f:=Gg (of_decide_eq_true h) hL.1
theorem tW:∀ (l:List CD),rV l=true->∀ d∈l,d.op.size<=20/\qT d.a=true/\qT d.b=true
 | [],_,d,hd=>by cases hd
 | c :: r, h, d, hd => by
   simp only [rV,Bool.and_eq_true,decide_eq_true_eq] at h;rcases List.mem_cons.1 hd with rfl | hd
   · exact ⟨h.1.1.1,h.1.1.2,h.1.2⟩
   · exact tW r h.2 d hd
theorem wG {x:AG} (h:Bm x=true) (hL:LnG x):SmG x/\SzG x:=by
 simp only [Bm,Bool.and_eq_true,decide_eq_true_eq] at h;obtain ⟨⟨⟨⟨h1,h2⟩,h3⟩,h4⟩,h5⟩:=h;have e:=jA h2 hL.e;have g:=jA h3 hL.g;refine ⟨⟨by omega,by omega,fun d hd=>?_,by omega⟩,⟨e.2,g.2,fun d hd=>?_⟩⟩
 · obtain ⟨-,a,b⟩:=tW _ h5 d hd
   have a:=jA a (hL.c d hd).1;have b:=jA b (hL.c d hd).2;exact ⟨by omega,by omega⟩
 · obtain ⟨-,a,b⟩:=tW _ h5 d hd
   exact ⟨(jA a (hL.c d hd).1).2,(jA b (hL.c d hd).2).2⟩
def iG (t:TN):Prop:=aM t<=32/\SzF t.f
theorem gQ:iG aR:=⟨by decide,by simp [aR,TN.f,SzF,F.len,ByteArray.size]⟩
theorem Fy {L:List Tk} (hL:∀ t∈L,cI t) {p q:Nat} {t:TN} (h:ofL L p=.ok t q):iG t:=⟨(zS hL h).2,FH (Fz hL h)⟩
theorem gV {L:List Tk} (hL:∀ t∈L,cI t) (s:RS):iG (bC L s).1:=by
 unfold bC;split
 · cases ho:ofL L s.pos with
   | ok t q=>exact Fy hL ho
   | bad q e=>exact gQ
 · exact gQ
theorem nS {L:List Tk} (hL:∀ t∈L,cI t) (fn:List UInt8) (s:RS):iG (dR L fn s).1.2.1/\iG (dR L fn s).1.2.2:=by
 unfold dR;split
 · exact ⟨gQ,gQ⟩
 · simp only
   split
   · exact ⟨gV hL _,gV hL _⟩
   · exact ⟨gV hL _,gQ⟩
theorem Ev {L:List Tk} (hL:∀ t∈L,cI t) (s:RS):iG (dF L s).1.a/\iG (dF L s).1.b:=by
 unfold dF;simp only;split
 · split
   · exact ⟨gV hL _,gV hL _⟩
   · exact ⟨gV hL _,gQ⟩
 · exact ⟨gV hL _,gQ⟩
theorem uD {L:List Tk} (hL:∀ t∈L,cI t):∀ (f:Nat) (acc:List CD) (s:RS),(∀ d∈acc,iG d.a/\iG d.b)->∀ d∈(gI L f acc s).1,iG d.a/\iG d.b
 | 0,acc,s,h=>h
 | f + 1, acc, s, h => by
   have h2:∀ d∈acc++[(dF L (bZ s)).1],iG d.a/\iG d.b:=fun d hd=>by
    rcases List.mem_append.1 hd with hd | hd
    · exact h d hd
    · rw [List.mem_singleton.1 hd];exact Ev hL _
   rw [gI];split
   · exact h
   · simp only
     split
     · exact uD hL f _ _ h2
     · exact h2
theorem GM {L:List Tk} (hL:∀ t∈L,cI t) {a:AG} (h:agL L=.ok a):iG a.e/\iG a.g/\∀ d∈a.wh,iG d.a/\iG d.b:=by
 unfold agL at h;cases h0:L[0]? with
 | none=>rw [h0] at h;cases h
 | some t =>
   rw [h0] at h;simp only at h;split at h
   · cases h
   split at h
   · cases h
   split at h
   · cases h
   split at h
   · cases h
   split at h
   · cases h
     exact ⟨(nS hL _ _).1,(nS hL _ _).2,fun d hd=>by cases hd⟩
   split at h
   · cases h
   split at h
   · cases h
   split at h
   · cases h
   · cases h
     exact ⟨(nS hL _ _).1,(nS hL _ _).2,uD hL 5 [] _ (fun d hd=>by cases hd)⟩
theorem GG {l:List UInt8} {a:AG} (h:agX l=.ok a):SmG a/\SzG a/\eM a=0:=by
 have he:=GI h;have h4:=(cB he).2.2.2.2.1;unfold agX at h;cases hx:gR l with
 | bad p e=>rw [hx] at h;cases h
 | ok L =>
   rw [hx] at h;simp only at h;cases ha:agL L with
   | bad p e=>rw [ha] at h;cases h
   | ok b =>
     rw [ha] at h;cases h;obtain ⟨n1,n2,n3⟩:=GM (qN hx) ha;refine ⟨⟨Nat.le_trans n1.1 (by decide),Nat.le_trans n2.1 (by decide),fun d hd=>⟨Nat.le_trans (n3 d hd).1.1 (by decide),Nat.le_trans (n3 d hd).2.1 (by decide)⟩,by omega⟩,⟨n1.2,n2.2,fun d hd=>⟨(n3 d hd).1.2,(n3 d hd).2.2⟩⟩,he⟩
end
end Go.Proofs.YtapcjnoaofmmiaaGreatDoor
