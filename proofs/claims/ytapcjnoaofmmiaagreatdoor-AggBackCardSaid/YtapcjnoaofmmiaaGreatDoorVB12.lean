/-
 No statement: what AggBackCard needs, of the texts OW1, OW2, OW3, HEval, HEvalT, OHold, OTake, QSup, QREval, OIter, OAll.
-/
import Derived.Test.YtapcjnoaofmmiaaGreatDoorVB11
import Derived.Deep.LoopGhost
import Derived.Shelf.Spec.SlicesInsertGrow
import Derived.Lib.SlicesDelete
import Derived.WalkLawsBesides
import Derived.Lib.ItoaLen
import Derived.Laws.BytesString
import Derived.RangeFuncBox
import Derived.Maps.AppendAt
import Derived.Deep.Slices
import Derived.Deep.Fields
import Derived.ChangeSame
import Derived.RangeFuncNested
import Derived.RangeFuncBound
import Derived.RangeFuncCalls
import Derived.RangeFuncLeaves
import Derived.Shelf.Abstract
import Derived.Shelf.RegionOpen
import Derived.OwnWalkIn
import Derived.TacticsInMore
import Derived.LoopNIn
import Derived.LoopIn
import Derived.Lib.IndexLaws
import Derived.Maps.OwnIn
import Derived.Deep.DeepCutAuto
import Derived.Deep.CutBlock
import Derived.RangeFuncKeeps
set_option maxHeartbeats 40000000
set_option maxRecDepth 100000
namespace Go.Proofs.YtapcjnoaofmmiaaGreatDoor.Wr
section
section
open Go.RowKit
end
section
open Go.RowKit
end
section
open Go.RowKit
def fH (w:World) (a:Option Addr) (len:Nat) (z:Nat->Int):Prop :=
 len<=maxLen/\(len=0\/∃ b off,a=some ⟨b,off,none⟩/\∀ j,j<len->w.cell? ⟨b,off+j,none⟩=some (.int .i64 (z j)))
def jF (z:Nat->Int) (n:Nat):List Int:=(List.range n).map z
theorem oT (z:Nat->Int) (n:Nat):(jF z n).length=n:=by simp [jF]
theorem B8 (z:Nat->Int) {n j:Nat} (h:j<n):(jF z n).getD j 0=z j:=by simp [jF,List.getD,h]
theorem fH.kept {w w':World} {a:Option Addr} {len:Nat} {z:Nat->Int} (h:fH w a len z) (hb:Below w.heap.size w w'):fH w' a len z:=by
 refine ⟨h.1,?_⟩;rcases h.2 with h0 | ⟨b,off,rfl,hc⟩
 · exact .inl h0
 · exact .inr ⟨b,off,rfl,fun j hj=>(hb.cell (p:=⟨b,off+j,none⟩) (World.block_lt_of_cell? w _ (hc j hj))).trans (hc j hj)⟩
def val (k n:Int) (s:ByteArray) (l:Value):Value:=.agg #[.int .i64 k,.int .i64 n,.string s,l]
end
section
open Go.RowKit
theorem mM {b:Nat} {A W:World} {B:Nat} (h:Below b A W) (hB:b<=B) (v0 v1 v2 v3:Value) :
 Below b A ((((W.setCell ⟨B,0,none⟩ v0).setCell ⟨B,1,none⟩ v1).setCell ⟨B,2,none⟩ v2).setCell ⟨B,3,none⟩ v3) :=
 (((h.setCell (p:=⟨B,0,none⟩) hB v0).setCell (p:=⟨B,1,none⟩) hB v1).setCell (p:=⟨B,2,none⟩) hB v2).setCell (p:=⟨B,3,none⟩) hB v3
end
section
open Go.RowKit
end
section
open Go.RowKit
end
section
open Go.RowKit
def iN (a b:Int):Int:=if a<b then -1 else if b<a then 1 else 0
def xY (a b:ByteArray):Int:=if Op.bytesLess a.toList b.toList then -1 else if Op.bytesLess b.toList a.toList then 1 else 0
theorem wN (a b:Int) (w:World):Calls Tryz.prog 179 #[.int .i64 a,.int .i64 b] w fun e w'=>e=.returned (.int .i64 (iN a b))/\w=w':=by
 have hc:a<b\/b<a\/a=b:=by omega
 rcases hc with h | h | rfl
 · rw [show iN a b= -1 by unfold iN;rw [if_pos h]]
   go_enter Tryz.func179,Tryz.ntmps179
   go_wp2
   go_ret;exact ⟨rfl,rfl⟩
 · rw [show iN a b=1 by unfold iN;rw [if_neg (by omega),if_pos h]]
   go_enter Tryz.func179,Tryz.ntmps179
   go_wp2
   go_ret;exact ⟨rfl,rfl⟩
 · rw [show iN a a=0 by unfold iN;rw [if_neg (by omega),if_neg (by omega)]]
   go_enter Tryz.func179,Tryz.ntmps179
   go_wp2
   go_ret;exact ⟨rfl,rfl⟩
theorem BC (a b:Int) (w:World):Calls Tryz.prog 178 #[.int .i64 a,.int .i64 b] w fun e w'=>e=.returned (.int .i64 (iN a b))/\w=w':=by
 have hc:a<b\/b<a\/a=b:=by omega
 rcases hc with h | h | rfl
 · rw [show iN a b= -1 by unfold iN;rw [if_pos h]]
   go_enter Tryz.func178,Tryz.ntmps178
   go_wp2
   go_ret;exact ⟨rfl,rfl⟩
 · rw [show iN a b=1 by unfold iN;rw [if_neg (by omega),if_pos h]]
   go_enter Tryz.func178,Tryz.ntmps178
   go_wp2
   go_ret;exact ⟨rfl,rfl⟩
 · rw [show iN a a=0 by unfold iN;rw [if_neg (by omega),if_neg (by omega)]]
   go_enter Tryz.func178,Tryz.ntmps178
   go_wp2
   go_ret;exact ⟨rfl,rfl⟩
theorem Bz (a b:ByteArray) (w:World):Calls Tryz.prog 180 #[.string a,.string b] w fun e w'=>e=.returned (.int .i64 (xY a b))/\w=w':=by
 by_cases h:Op.bytesLess a.toList b.toList=true
 · rw [show xY a b= -1 by unfold xY;rw [if_pos h]]
   go_enter Tryz.func180,Tryz.ntmps180
   go_wp2
   go_ret;exact ⟨rfl,rfl⟩
 · have h':Op.bytesLess a.toList b.toList=false:=by simpa using h
   by_cases k:Op.bytesLess b.toList a.toList=true
   · rw [show xY a b=1 by unfold xY;rw [if_neg h,if_pos k]]
     have q:(a.toList == b.toList)=false:=by
      rw [beq_eq_false_iff_ne];intro e;rw [e,gY] at k;cases k
     clear h;go_enter Tryz.func180,Tryz.ntmps180
     go_wp2
     go_ret;exact ⟨rfl,rfl⟩
   · have k':Op.bytesLess b.toList a.toList=false:=by simpa using k
     rw [show xY a b=0 by unfold xY;rw [if_neg h,if_neg k]];obtain rfl:a=b:=uG (iP _ _ h' k');clear h k k';go_enter Tryz.func180,Tryz.ntmps180
     go_wp2
     go_ret;exact ⟨rfl,rfl⟩
def oM:List Int->List Int->Int
 | [],[]=>0
 | [],_::_=> -1
 | _::_,[]=>1
 | a::r,b::q=>if iN a b=0 then oM r q else iN a b
theorem wM (a:Int):iN a a=0:=by unfold iN;rw [if_neg (by omega),if_neg (by omega)]
theorem II {a b:Int} (h:¬ a=b):¬ iN a b=0:=by
 unfold iN;split
 · omega
 · split <;> omega
theorem Ex (k:Nat):∀ (l m:List Int),k<=l.length->k<=m.length->(∀ j,j<k->l.getD j 0=m.getD j 0)->oM l m=oM (l.drop k) (m.drop k):=by
 induction k with
 | zero=>intro l m _ _ _;rfl
 | succ k ih =>
   intro l m hl hm h;cases l with
   | nil=>simp at hl
   | cons a l => cases m with
     | nil=>simp at hm
     | cons b m =>
       have e:a=b:=by simpa using h 0 (by omega)
       subst e;rw [oM,wM,if_pos rfl,List.drop_succ_cons,List.drop_succ_cons];exact ih l m (by simpa using hl) (by simpa using hm) (fun j hj=>by simpa using h (j+1) (by omega))
theorem JA {z1 z2:Nat->Int} {n1 n2 k:Nat} (h:∀ j,j<k->z1 j=z2 j) (h1:k<=n1) (h2:k<=n2) :
 oM (jF z1 n1) (jF z2 n2)=oM ((jF z1 n1).drop k) ((jF z2 n2).drop k) :=
 Ex k _ _ (by rw [oT];exact h1) (by rw [oT];exact h2) (fun j hj=>by rw [B8 z1 (by omega),B8 z2 (by omega)];exact h j hj)
theorem kB (z:Nat->Int) {n k:Nat} (h:k<n):(jF z n).drop k=z k::(jF z n).drop (k+1):=by
 rw [List.drop_eq_getElem_cons (by rw [oT];exact h)];congr 1
 simp [jF]
theorem mV (z:Nat->Int) {n k:Nat} (h:n<=k):(jF z n).drop k=[]:=List.drop_of_length_le (by rw [oT];exact h)
theorem Aq (a1 a2:Option Addr) (n1 c1 n2 c2:Nat) (z1 z2:Nat->Int) (w:World) (h1:fH w a1 n1 z1) (h2:fH w a2 n2 z2) :
 Calls Tryz.prog 181 #[.slice a1 n1 c1,.slice a2 n2 c2] w fun e w'=>e=.returned (.int .i64 (oM (jF z1 n1) (jF z2 n2)))/\w=w':=by
 obtain ⟨m1,h1⟩:=h1;obtain ⟨m2,h2⟩:=h2;unfold maxLen at m1 m2;rcases h1 with rfl | ⟨b1,o1,rfl,hc1⟩
 · by_cases h0:n2=0
   · subst h0
     go_enter Tryz.func181,Tryz.ntmps181
     go_wp2
     go_loop [11] (fun i=>i=.int .i64 0) (fun _=>0)
     case atStart=>rfl
     case round =>
      subst hrel;go_wp2
      go_ret;exact ⟨rfl,rfl⟩
   · have R:=aA (show oM (jF z1 0) (jF z2 n2)= -1 by
      have:(jF z2 n2).drop 0=_:=kB z2 (Nat.pos_of_ne_zero h0);rw [List.drop_zero] at this;rw [this];rfl)
     have hp:0<n2:=Nat.pos_of_ne_zero h0;clear h0 h2;go_enter Tryz.func181,Tryz.ntmps181
     go_wp2
     go_loop [11] (fun i=>i=.int .i64 0) (fun _=>0)
     case atStart=>rfl
     case round =>
      subst hrel;go_wp2
      go_ret;exact ⟨lD R.out.symm,rfl⟩
 · have H1:=aA hc1
   have H2:=aA h2;clear hc1 h2;go_enter Tryz.func181,Tryz.ntmps181
   go_wp2
   go_loop [11] (fun i=>∃ k:Nat,k<=n1/\k<=n2/\i=.int .i64 k/\Hid (∀ j,j<k->z1 j=z2 j)) (fun i=>n1-(intOf i).toNat)
   case atStart=>exact ⟨0,Nat.zero_le _,Nat.zero_le _,rfl,aA (fun j h=>by omega)⟩
   case round =>
    obtain ⟨k,hk1,hk2,rfl,he⟩:=hrel;have R:=aA (JA he.out hk1 hk2);by_cases hlt:k<n1
    · have g1:=H1.out k hlt
      by_cases hl2:k<n2
      · rcases H2.out with h | ⟨b2,o2,rfl,hc2⟩
        · omega
        · have g2:=hc2 k hl2
          clear hc2;have C:=wN (z1 k) (z2 k);obtain ⟨x,hx⟩:∃ x,z1 k=x:=⟨_,rfl⟩;obtain ⟨y,hy⟩:∃ y,z2 k=y:=⟨_,rfl⟩;have R2:=aA (R.out.trans (by rw [kB z1 hlt,kB z2 hl2,hx,hy]));rw [hx] at g1 C;rw [hy] at g2 C
          have he2:=aA (show x=y->∀ j,j<k+1->z1 j=z2 j from fun exy j hj=>by
           by_cases e:j=k
           · subst e;rw [hx,hy,exy]
           · exact he.out j (by omega))
          have C1:=aA C;clear C hx hy R he;by_cases hxy:x=y
          · subst hxy
            rw [wM] at C1;have he3:=aA (he2.out rfl);clear he2;go_wp2_with (go_at_call 179;refine (C1.out _).mono ?_;rintro e w' ⟨rfl,rfl⟩)
            go_round
            case rel=>exact ⟨k+1,by omega,by omega,by go_num,he3⟩
            case measure=>simp [intOf];omega
          · have hne:=II hxy
            obtain ⟨v,hv⟩:∃ v,iN x y=v:=⟨_,rfl⟩;have R3:=aA (show oM (jF z1 n1) (jF z2 n2)=v by rw [R2.out,oM,if_neg hne,hv]);rw [hv] at C1 hne;have hn1:(v != 0)=true:=by simpa using hne
            clear hv R2 hne;go_wp2_with (go_at_call 179;refine (C1.out _).mono ?_;rintro e w' ⟨rfl,rfl⟩)
            go_ret;exact ⟨lD R3.out.symm,rfl⟩
      · have R2:=aA (R.out.trans (by rw [kB z1 hlt,mV z2 (by omega)]))
        clear R;go_wp2
        go_ret;exact ⟨lD (by rw [R2.out,oM]),rfl⟩
    · by_cases hl2:k<n2
      · have R2:=aA (R.out.trans (by rw [mV z1 (by omega),kB z2 hl2]))
        clear R;go_wp2
        go_ret;exact ⟨lD (by rw [R2.out,oM]),rfl⟩
      · have R2:=aA (R.out.trans (by rw [mV z1 (by omega),mV z2 (by omega)]))
        clear R;go_wp2
        go_ret;exact ⟨lD (by rw [R2.out,oM]),rfl⟩
def By (k1 n1:Int) (s1:ByteArray) (l1:Nat) (z1:Nat->Int) (k2 n2:Int) (s2:ByteArray) (l2:Nat) (z2:Nat->Int):Int :=
 if k1=k2 then (if k1=1 then iN n1 n2 else if k1=2 then xY s1 s2 else if k1=3 then oM (jF z1 l1) (jF z2 l2) else 0) else iN k1 k2
theorem Ap (k1 n1:Int) (s1:ByteArray) (a1:Option Addr) (l1 c1:Nat) (z1:Nat->Int) (k2 n2:Int) (s2:ByteArray) (a2:Option Addr) (l2 c2:Nat) (z2:Nat->Int) (w:World) (h1:fH w a1 l1 z1) (h2:fH w a2 l2 z2) :
 Calls Tryz.prog 156 #[val k1 n1 s1 (.slice a1 l1 c1),val k2 n2 s2 (.slice a2 l2 c2)] w fun e w'=>e=.returned (.int .i64 (By k1 n1 s1 l1 z1 k2 n2 s2 l2 z2))/\Below w.heap.size w w':=by
 unfold val;have bl:∀ o1 o2,Below w.heap.size w ((w.alloc o1).alloc o2):=fun o1 o2=>((Below.refl _ _).alloc (Nat.le_refl _) _).alloc (by simp) _
 have r1:=aA (fun o1 o2=>h1.kept (bl o1 o2));have r2:=aA (fun o1 o2=>h2.kept (bl o1 o2));clear h1 h2 bl;by_cases hk:k1=k2
 · subst hk
   have R:By k1 n1 s1 l1 z1 k1 n2 s2 l2 z2=if k1=1 then iN n1 n2 else if k1=2 then xY s1 s2 else if k1=3 then oM (jF z1 l1) (jF z2 l2) else 0:=by unfold By;rw [if_pos rfl]
   rw [R];clear R;by_cases e1:k1=1
   · subst e1;rw [if_pos rfl]
     go_enter Tryz.func156,Tryz.ntmps156
     go_wp2_with (go_at_call 179;refine (wN _ _ _).mono ?_;rintro e w' ⟨rfl,rfl⟩)
     go_ret;exact ⟨rfl,(((Below.refl _ _).alloc (Nat.le_refl _) _).alloc (by simp) _)⟩
   have q1:(k1 == 1)=false:=by simpa using e1
   rw [if_neg e1];by_cases e2:k1=2
   · subst e2;rw [if_pos rfl]
     go_enter Tryz.func156,Tryz.ntmps156
     go_wp2_with (go_at_call 180;refine (Bz _ _ _).mono ?_;rintro e w' ⟨rfl,rfl⟩)
     go_ret;exact ⟨rfl,(((Below.refl _ _).alloc (Nat.le_refl _) _).alloc (by simp) _)⟩
   have q2:(k1 == 2)=false:=by simpa using e2
   rw [if_neg e2];by_cases e3:k1=3
   · subst e3;rw [if_pos rfl]
     go_enter Tryz.func156,Tryz.ntmps156
     go_wp2_with (go_at_call 181;refine (Aq a1 a2 l1 c1 l2 c2 z1 z2 _ (r1.out _ _) (r2.out _ _)).mono ?_;rintro e w' ⟨rfl,rfl⟩)
     go_ret;exact ⟨rfl,(((Below.refl _ _).alloc (Nat.le_refl _) _).alloc (by simp) _)⟩
   have q3:(k1 == 3)=false:=by simpa using e3
   rw [if_neg e3];clear e1 e2 e3;go_enter Tryz.func156,Tryz.ntmps156
   go_wp2_with fail
   go_ret;exact ⟨rfl,(((Below.refl _ _).alloc (Nat.le_refl _) _).alloc (by simp) _)⟩
 · have R:By k1 n1 s1 l1 z1 k2 n2 s2 l2 z2=iN k1 k2:=by unfold By;rw [if_neg hk]
   rw [R];have q:(k1 == k2)=false:=by simpa using hk
   have q':(k1 != k2)=true:=by simpa using hk
   clear R hk;go_enter Tryz.func156,Tryz.ntmps156
   go_wp2_with (go_at_call 178;refine (BC _ _ _).mono ?_;rintro e w' ⟨rfl,rfl⟩)
   go_ret;exact ⟨rfl,(((Below.refl _ _).alloc (Nat.le_refl _) _).alloc (by simp) _)⟩
theorem jJ (k1 n1:Int) (s1:ByteArray) (a1:Option Addr) (l1 c1:Nat) (z1:Nat->Int) (k2 n2:Int) (s2:ByteArray) (a2:Option Addr) (l2 c2:Nat) (z2:Nat->Int) (w:World) (h1:fH w a1 l1 z1) (h2:fH w a2 l2 z2) :
 Calls Tryz.prog 121 #[val k1 n1 s1 (.slice a1 l1 c1),val k2 n2 s2 (.slice a2 l2 c2)] w fun e w'=>e=.returned (.bool (decide (By k1 n1 s1 l1 z1 k2 n2 s2 l2 z2=0)))/\Below w.heap.size w w':=by
 have bl:∀ o1 o2,Below w.heap.size w ((w.alloc o1).alloc o2):=fun o1 o2=>((Below.refl _ _).alloc (Nat.le_refl _) _).alloc (by simp) _
 have C:=fun o1 o2=>Ap k1 n1 s1 a1 l1 c1 z1 k2 n2 s2 a2 l2 c2 z2 _ (h1.kept (bl o1 o2)) (h2.kept (bl o1 o2))
 obtain ⟨x,hx⟩:∃ x,By k1 n1 s1 l1 z1 k2 n2 s2 l2 z2=x:=⟨_,rfl⟩;rw [hx] at C |-
 unfold val at C |-
 have C1:=aA C;have bl1:=aA bl;clear C bl hx h1 h2;by_cases h:x=0
 · subst h
   go_enter Tryz.func121,Tryz.ntmps121
   go_wp2_with (go_at_call 156;refine (C1.out _ _).mono ?_;rintro e w1 ⟨rfl,hb⟩;have hb1:=aA hb;clear hb)
   go_ret;exact ⟨rfl,(bl1.out _ _).trans (hb1.out.mono (by simp;omega))⟩
 · have q:(x == 0)=false:=by simpa using h
   rw [show decide (x=0)=false by simpa using h];clear h;go_enter Tryz.func121,Tryz.ntmps121
   go_wp2_with (go_at_call 156;refine (C1.out _ _).mono ?_;rintro e w1 ⟨rfl,hb⟩;have hb1:=aA hb;clear hb)
   go_ret;exact ⟨by rw [<- q];rfl,(bl1.out _ _).trans (hb1.out.mono (by simp;omega))⟩
end
section
open Go.RowKit
structure AD where
 m:ByteArray
 k:Int
 n:Int
 s:ByteArray
 len:Nat
 z:Nat->Int
def j9 (w:World) (b o:Nat) (x:AD) (y:Option Addr) (c:Nat):Prop :=
 w.cell? ⟨b,o,none⟩=some (.string x.m)/\w.cell? ⟨b,o+1,none⟩=some (.int .i64 x.k)/\w.cell? ⟨b,o+2,none⟩=some (.int .i64 x.n)/\w.cell? ⟨b,o+3,none⟩=some (.string x.s)/\w.cell? ⟨b,o+4,none⟩=some (.slice y x.len c)
theorem j9.lt {w:World} {b o:Nat} {x:AD} {y:Option Addr} {c:Nat} (h:j9 w b o x y c):b<w.heap.size:=by have:=World.block_lt_of_cell? w _ h.1;simpa using this
theorem j9.below {B:Nat} {w w':World} {b o:Nat} {x:AD} {y:Option Addr} {c:Nat} (h:j9 w b o x y c) (hb:Below B w w') (hB:b<B):j9 w' b o x y c :=
 ⟨(hb.cell (p:=⟨b,_,none⟩) hB).trans h.1,(hb.cell (p:=⟨b,_,none⟩) hB).trans h.2.1,(hb.cell (p:=⟨b,_,none⟩) hB).trans h.2.2.1,(hb.cell (p:=⟨b,_,none⟩) hB).trans h.2.2.2.1,(hb.cell (p:=⟨b,_,none⟩) hB).trans h.2.2.2.2⟩
theorem j9.kept {w w':World} {b o:Nat} {x:AD} {y:Option Addr} {c:Nat} (h:j9 w b o x y c) (hb:Below w.heap.size w w'):j9 w' b o x y c:=h.below hb h.lt
def ReadsA (w:World) (a:Option Addr) (len:Nat) (A:Nat->AD):Prop :=
 len<=maxLen/\(len=0\/∃ b off,a=some ⟨b,off,none⟩/\∀ j,j<len->∃ y c,j9 w b (off+j*5) (A j) y c/\fH w y (A j).len (A j).z)
theorem ReadsA.kept {w w':World} {a:Option Addr} {len:Nat} {A:Nat->AD} (h:ReadsA w a len A) (hb:Below w.heap.size w w'):ReadsA w' a len A:=by
 refine ⟨h.1,h.2.imp id ?_⟩;rintro ⟨b,off,rfl,hc⟩;refine ⟨b,off,rfl,fun j hj=>?_⟩;obtain ⟨y,c,h5,hr⟩:=hc j hj;exact ⟨y,c,h5.kept hb,hr.kept hb⟩
structure RD where
 key:ByteArray
 t:Int
 i:Int
 q:Int
 o:ByteArray
 len:Nat
 A:Nat->AD
end
section
open Go.RowKit
def rC (w:World) (len:Nat) (z:Nat->Int) (e:Ending) (w':World):Prop :=
 (∃ a c,e=.returned (.slice a len c)/\fH w' a len z/\∀ b,a=some b->w.heap.size<=b.block)/\Below w.heap.size w w'
theorem EA:(Tryz.prog.info? 2).map (fun i=>(i.zero,i.size,i.bytes))=some (some (.int .i64 0),1,8):=by kernel_rfl
theorem Jj (z:Nat->Int) (len:Nat):∀ u∈(List.range len).map (fun j=>Value.int .i64 (z j)),u.oneCell'=true:=by
 intro u hu;obtain ⟨j,_,rfl⟩:=List.mem_map.1 hu;rfl
theorem Dr {w:World} {base:Nat} {a:Option Addr} {len l c:Nat} {z:Nat->Int} (h:w.ownsRow base 2 1 (.slice a l c) len ((List.range len).map (fun j=>Value.int .i64 (z j)))):l=len/\fH w a len z/\∀ b,a=some b->base<=b.block:=by
 rcases h.2 with ⟨h,h'⟩ | ⟨g,cap,cur,hv,hb,hg,hnc,hm,_,ht⟩
 · simp only [Value.slice.injEq] at h
   obtain ⟨rfl,rfl,rfl⟩:=h;subst h';exact ⟨rfl,⟨Nat.zero_le _,.inl rfl⟩,fun b hb=>by cases hb⟩
 · simp only [Value.slice.injEq] at hv
   obtain ⟨rfl,rfl,rfl⟩:=hv;refine ⟨rfl,⟨Nat.le_trans hnc hm,.inr ⟨g,0,rfl,fun j hj=>?_⟩⟩,fun b hb'=>by cases hb';exact hb⟩;have hjj:((List.range l).map (fun j=>Value.int .i64 (z j)))[j]? = some (.int .i64 (z j)):=by simp [hj]
   rw [Nat.zero_add,cell_of_row w g j cur _ (0,0) hg];rw [Nat.mul_one] at ht;rw [<- ht,List.getElem?_take,if_pos hj] at hjj;simpa using hjj
theorem qX (a:Option Addr) (len cap:Nat) (z:Nat->Int) (hl:len<=1000000) (w:World) (hr:fH w a len z) :
 Calls Tryz.prog 240 #[.slice a len cap] w (rC w len z):=by
 obtain ⟨i0,hi,hz0,hz1,hz2⟩:=info_parts EA;have und:Tryz.prog.underlying 51=some (.slice 2):=Tryz.underlying51;cases a with
 | none =>
   have h0:len=0:=by
    rcases hr.2 with h | ⟨b,off,h,_⟩
    · exact h
    · cases h
   subst h0;have P:=aA (show rC w 0 z (.returned (.slice none 0 0)) w from ⟨⟨none,0,rfl,⟨Nat.zero_le _,.inl rfl⟩,fun b h=>by cases h⟩,Below.refl _ _⟩);clear hr;go_enter Tryz.func240,Tryz.ntmps240
   go_wp2
   rw [Lib.run_eql_slice_nil w _ _ _ _ _ _ _ und];simp only [Result.andThen];rw [Oper.upon_value];go_wp2_with fail
   go_ret;exact P.out
 | some x =>
   have F:=aA (p:=∀ w',Below w.heap.size w w'->JI w' (.slice (some x) len cap) len ((List.range len).map (fun j=>Value.int .i64 (z j)))) (fun w' hb=>by
    refine .inr ⟨x,cap,rfl,by simp,fun j u hj=>?_⟩;rcases (hr.kept hb).2 with h0 | ⟨b,off,hx,hc⟩
    · subst h0;simp at hj
    · obtain rfl:x=⟨b,off,none⟩:=by simpa using hx
      have hjl:j<len:=by
       rcases Nat.lt_or_ge j len with h | h
       · exact h
       · rw [List.getElem?_eq_none (by simpa using h)] at hj;cases hj
      rw [Addr.add_lit,hc j hjl];simpa [hjl] using hj)
   clear hr;go_enter Tryz.func240,Tryz.ntmps240
   have bA:Below w.heap.size w (w.alloc (.cells #[] 2)):=(Below.refl _ _).alloc (Nat.le_refl _) _;have BA:=aA bA;have OA:=aA (show (w.alloc (.cells #[] 2)).ownsRow w.heap.size 2 1 (.slice (some ⟨w.heap.size,0,none⟩) 0 0) 0 [] from ⟨rfl,.inr ⟨w.heap.size,0,#[],rfl,Nat.le_refl _,heap_alloc_new w _,Nat.le_refl _,Nat.zero_le _,rfl,rfl⟩⟩);clear bA;go_wp2
   rw [Lib.run_eql_slice_nil w _ _ _ _ _ _ _ und];simp only [Result.andThen];rw [Oper.upon_value];go_wp2_with (at_builtin;refine oG rfl _ _ 51 rfl und hi hz0 hz1 hz2 rfl _ _ 0 len [] _ rfl rfl OA.out (F.out _ BA.out) (Jj z len) (by unfold maxLen;omega) (by omega) (by simp) ?_)
   intro v' w2 ho hg _
   obtain ⟨va,vl,vc,rfl⟩:∃ a l c,v'=.slice a l c:=by
    rcases ho.2 with ⟨h,_⟩ | ⟨g,cap,_,h,_⟩
    · exact ⟨_,_,_,h⟩
    · exact ⟨_,_,_,h⟩
   obtain ⟨rfl,hrd,hbl⟩:=Dr ho;have P:=aA (show rC w vl z (.returned (.slice va vl vc)) w2 from ⟨⟨va,vc,rfl,hrd,hbl⟩,BA.out.grown hg (by simp) (fun k hk=>by simp [Value.ownBlock] at hk;omega)⟩);clear ho hg hrd hbl;go_wp2
   go_ret;exact P.out
theorem wB (W:World) (B:Nat) (v0 v1 v2 v3:Value):aL (fun k=>k=B) W ((((W.setCell ⟨B,0,none⟩ v0).setCell ⟨B,1,none⟩ v1).setCell ⟨B,2,none⟩ v2).setCell ⟨B,3,none⟩ v3) :=
 ((((aL.refl (fun k=>k=B) W).setCell (S:=fun k=>k=B) (p:=⟨B,0,none⟩) (.inl rfl) v0).setCell (S:=fun k=>k=B) (p:=⟨B,1,none⟩) (.inl rfl) v1).setCell (S:=fun k=>k=B) (p:=⟨B,2,none⟩) (.inl rfl) v2).setCell (S:=fun k=>k=B) (p:=⟨B,3,none⟩) (.inl rfl) v3
theorem fH.keptS {S:Nat->Prop} {w w':World} {a:Option Addr} {len:Nat} {z:Nat->Int} (h:fH w a len z) (hk:aL S w w') (hS:∀ b,a=some b->¬ S b.block):fH w' a len z:=by
 refine ⟨h.1,?_⟩;rcases h.2 with h0 | ⟨b,off,rfl,hc⟩
 · exact .inl h0
 · exact .inr ⟨b,off,rfl,fun j hj=>hk.cell (hc j hj) (show ¬ S b from hS ⟨b,off,none⟩ rfl)⟩
def twN (k n:Int):Int:=if k=1 then n else 0
def twS (k:Int) (s:ByteArray):ByteArray:=if k=2 then s else ⟨#[]⟩
def twL (k:Int) (len:Nat):Nat:=if k=3 then len else 0
def uM (w:World) (k n:Int) (s:ByteArray) (len:Nat) (z:Nat->Int) (e:Ending) (w':World):Prop :=
 (∃ a c,e=.returned (.agg #[.int .i64 k,.int .i64 (twN k n),.string (twS k s),.slice a (twL k len) c])/\(∀ b,a=some b->w.heap.size<=b.block)/\∀ w3,aL (fun b=>b=w.heap.size+1) w' w3->fH w3 a (twL k len) z)/\Below w.heap.size w w'
theorem qL (w:World) (z:Nat->Int):fH w none 0 z:=⟨Nat.zero_le _,.inl rfl⟩
theorem mX (w:World) (o1 o2:Obj):Below w.heap.size w ((w.alloc o1).alloc o2)/\((w.alloc o1).alloc o2).heap[w.heap.size]? = some o1/\((w.alloc o1).alloc o2).heap[w.heap.size+1]? = some o2/\((w.alloc o1).alloc o2).heap.size=w.heap.size+2:=by
 refine ⟨((Below.refl _ _).alloc (Nat.le_refl _) _).alloc (by simp) _,(Below.heap_alloc _ _ _ (by simp)).trans (heap_alloc_new w _),?_,by simp⟩;have:=heap_alloc_new (w.alloc o1) o2;rwa [World.size_alloc] at this
theorem E9 (k n:Int) (s:ByteArray) (a:Option Addr) (len cap:Nat) (z:Nat->Int) (hl:len<=1000000) (w:World) (hr:fH w a len z) :
 Calls Tryz.prog 235 #[.agg #[.int .i64 k,.int .i64 n,.string s,.slice a len cap]] w (uM w k n s len z):=by
 have HB:=aA (mX w (.cells #[.int .i64 k,.int .i64 n,.string s,.slice a len cap] 53) (.cells #[.int .i64 0,.int .i64 0,.string ⟨#[]⟩,.slice none 0 0] 53));have R:=aA hr;clear hr;by_cases h1:k=1
 · subst h1
   have P:=aA (p:=∀ W,Below w.heap.size w W->uM w 1 n s len z (.returned (.agg #[.int .i64 1,.int .i64 n,.string ⟨#[]⟩,.slice none 0 0])) W) (fun W h=>⟨⟨none,0,rfl,(fun b h=>by cases h),fun w3 _=>qL w3 z⟩,h⟩);go_enter Tryz.func235,Tryz.ntmps235
   go_wp2_with fail
   exact bodyPost_ret (v:=.agg #[.int .i64 1,.int .i64 n,.string ⟨#[]⟩,.slice none 0 0]) (by simp [results,Tryz.results235,go_sem]) rfl (P.out _ (mX w _ _).1)
 have q1:(k == 1)=false:=by simpa using h1
 by_cases h2:k=2
 · subst h2
   have P:=aA (p:=∀ W,Below w.heap.size w W->uM w 2 n s len z (.returned (.agg #[.int .i64 2,.int .i64 0,.string s,.slice none 0 0])) W) (fun W h=>⟨⟨none,0,rfl,(fun b h=>by cases h),fun w3 _=>qL w3 z⟩,h⟩);clear h1 q1;go_enter Tryz.func235,Tryz.ntmps235
   go_wp2_with fail
   exact bodyPost_ret (v:=.agg #[.int .i64 2,.int .i64 0,.string s,.slice none 0 0]) (by simp [results,Tryz.results235,go_sem]) rfl (P.out _ (mX w _ _).1)
 have q2:(k == 2)=false:=by simpa using h2
 by_cases h3:k=3
 · subst h3
   clear h1 q1 h2 q2;go_enter Tryz.func235,Tryz.ntmps235
   go_wp2_with fail
   generalize hW:World.alloc (World.alloc w _) _=W;rw [hW] at HB;have hdr:Below W.heap.size W W.drew:=⟨rfl,rfl,rfl,Nat.le_refl _,fun _ _=>rfl⟩;have C:=aA (qX a len cap z hl W.drew (R.out.kept (HB.out.1.trans ⟨rfl,rfl,rfl,Nat.le_refl _,fun _ _=>rfl⟩)));have hs:=HB.out.2.2.2;obtain ⟨⟨x0,x1,x2,x3⟩, -⟩:=aO HB.out.2.1;clear hW hdr
   go_region_with (first
    | (go_at_call 240
       with_reducible refine C.out.mono ?_
       rintro e w2 ⟨⟨a2,c2,rfl,hr2,hb2⟩,hb⟩;have hz2:=hb.size;have hres:=(hb.block (w.heap.size+1) (by show _<W.heap.size;omega)).trans HB.out.2.2.1;clear x0 x1 x2 x3;obtain ⟨⟨x0,x1,x2,x3⟩, -⟩:=aO ((hb.block w.heap.size (by show _<W.heap.size;omega)).trans HB.out.2.1);obtain ⟨⟨y0,y1,y2,y3⟩,⟨z0,z1,z2,z3⟩⟩:=aO hres;have H2:=aA (And.intro hr2 (And.intro hb2 (HB.out.1.trans ((show Below w.heap.size W W.drew from ⟨rfl,rfl,rfl,Nat.le_refl _,fun _ _=>rfl⟩).trans (hb.mono (by show _<=W.heap.size;omega))))));clear hr2 hb2 hb hres)
    | fail)
   all_goals
    have P:=aA (p:=uM w 3 n s len z (.returned (.agg #[.int .i64 3,.int .i64 0,.string ⟨#[]⟩,.slice a2 len c2])) ((((w2.setCell ⟨w.heap.size+1,0,none⟩ (.int .i64 3)).setCell ⟨w.heap.size+1,1,none⟩ (.int .i64 0)).setCell ⟨w.heap.size+1,2,none⟩ (.string ⟨#[]⟩)).setCell ⟨w.heap.size+1,3,none⟩ (.slice a2 len c2)))
     ⟨⟨a2,c2,rfl,(fun b hb=>by have:=H2.out.2.1 b hb;have hW':W.drew.heap.size=w.heap.size+2:=hs;omega),fun w3 k3=>H2.out.1.keptS ((wB w2 (w.heap.size+1) _ _ _ _).trans k3 (fun _ h _=>h)) (fun b hb h=>by have:=H2.out.2.1 b hb;have h':b.block=w.heap.size+1:=h;have hW':W.drew.heap.size=w.heap.size+2:=hs;omega)⟩,mM H2.out.2.2 (Nat.le_succ _) _ _ _ _⟩
    go_wp2
    exact bodyPost_ret (v:=.agg #[.int .i64 3,.int .i64 0,.string ⟨#[]⟩,.slice a2 len c2]) (by simp [results,Tryz.results235,go_sem, *]) rfl P.out
 have q3:(k == 3)=false:=by simpa using h3
 have P:=aA (p:=∀ W,Below w.heap.size w W->uM w k n s len z (.returned (.agg #[.int .i64 k,.int .i64 0,.string ⟨#[]⟩,.slice none 0 0])) W) (fun W h=>⟨⟨none,0,by unfold twN twS twL;rw [if_neg h1,if_neg h2,if_neg h3],(fun b h=>by cases h),fun w3 _=>by unfold twL;rw [if_neg h3];exact qL w3 z⟩,h⟩);clear h1 h2 h3;go_enter Tryz.func235,Tryz.ntmps235
 go_wp2_with fail
 exact bodyPost_ret (v:=.agg #[.int .i64 k,.int .i64 0,.string ⟨#[]⟩,.slice none 0 0]) (by simp [results,Tryz.results235,go_sem]) rfl (P.out _ (mX w _ _).1)
end
section
open Go.RowKit
def twA (x:AD):AD:=⟨x.m,x.k,twN x.k x.n,twS x.k x.s,twL x.k x.len,x.z⟩
end
section
open Go.RowKit
end
section
open Go.RowKit
def twsA (A:Nat->AD) (k:Nat):List AD:=(List.range k).map fun j=>twA (A j)
def RiseA (A:Nat->AD) (n:Nat):Prop:=∀ i j,i<j->j<n->lsS (A i).m (A j).m=true
end
section
open Go.RowKit
end
section
open Go.RowKit
def gK (w:World):Prop :=
 j6 w /\
 (∃ tp p t f,w.heap[2]? = some (.cells #[.iface tp p] t f))/\(∃ tp p t f,w.heap[3]? = some (.cells #[.iface tp p] t f))
end
section
open Go.RowKit
end
end
section
section
open Go.RowKit
end
section
open Go.RowKit
theorem cY {W:World} {base:Nat} {e:TypeId} {size:Nat} {v:Value} {k:Nat} {xs:List Value} (h:W.ownsRow base e size v k xs):∃ a cap,v=.slice a k cap:=by
 rcases h.2 with ⟨rfl,rfl⟩ | ⟨g,cap,_,rfl,_⟩
 · exact ⟨_,_,rfl⟩
 · exact ⟨_,_,rfl⟩
end
section
open Go.RowKit
end
section
open Go.RowKit
end
section
open Go.RowKit
end
section
open Go.RowKit
end
section
open Go.RowKit
end
section
open Go.RowKit
end
end
section
section
open Go.RowKit
end
section
open Go.RowKit
def BM (w0 w:World) (n:Nat) (A:Nat->AD) (e:Ending) (w':World):Prop:=(∃ a c,e=.returned (.slice a n c)/\∀ w3,aL (fun k=>w0.heap.size<=k/\k<w.heap.size) w' w3->ReadsA w3 a n A)/\Below w.heap.size w w'
end
section
open Go.RowKit
def nmD (D:List AD):List ByteArray:=D.map (·.m)
end
section
open Go.RowKit
theorem J4:∀ x y:List UInt8,decide (Lib.compareBytes x y<0)=Op.bytesLess x y
 | [],[]=>rfl
 | [],_::_=>rfl
 | _::_,[]=>rfl
 | a :: r, b :: t => by
   have ih:=J4 r t;unfold Lib.compareBytes Op.bytesLess;by_cases h:a<b
   · simp [h]
   · by_cases h':b<a
     · have:(a == b)=false:=by rw [beq_eq_false_iff_ne];rintro rfl;exact h h'
       simp [h,h',this]
     · have:a=b:=UInt8.le_antisymm (UInt8.not_lt.1 h') (UInt8.not_lt.1 h)
       subst this;simp [h,ih]
theorem J5:∀ x y:List UInt8,decide (Lib.compareBytes x y=0)=decide (x=y)
 | [],[]=>rfl
 | [],_::_=>rfl
 | _::_,[]=>rfl
 | a :: r, b :: t => by
   have ih:=J5 r t;unfold Lib.compareBytes;by_cases h:a<b
   · have:a ≠ b:=by rintro rfl;exact absurd h (UInt8.lt_irrefl a)
     simp [h,this]
   · by_cases h':b<a
     · have:a ≠ b:=by rintro rfl;exact h h'
       simp [h,h',this]
     · have:a=b:=UInt8.le_antisymm (UInt8.not_lt.1 h') (UInt8.not_lt.1 h)
       subst this;simpa [h] using ih
theorem lX (x:AD) (y:Option Addr) (c:Nat) (s:ByteArray) (w:World) :
 Calls Tryz.prog 234 #[.agg #[.string x.m,.int .i64 x.k,.int .i64 x.n,.string x.s,.slice y x.len c],.string s] w fun e w'=>e=.returned (.int .i64 (Lib.compareBytes x.m.data.toList s.data.toList))/\Below w.heap.size w w':=by
 have bl:∀ o,Below w.heap.size w (w.alloc o):=fun o=>(Below.refl _ _).alloc (Nat.le_refl _) _
 have BL:=aA bl;clear bl;go_enter Tryz.func234,Tryz.ntmps234
 go_wp2_with fail
 refine (Tryz.strings_Compare _ _ _).mono ?_;rintro e w' ⟨rfl,rfl⟩;have P:=aA (BL.out (.cells #[.string x.m,.int .i64 x.k,.int .i64 x.n,.string x.s,.slice y x.len c] 67));go_wp2_with fail
 go_ret;exact ⟨rfl,P.out⟩
theorem rising_nm {A:Nat->AD} {n:Nat} (hR:RiseA A n):cF lsS (nmD (twsA A n)):=by
 have:nmD (twsA A n)=(List.range n).map (fun j=>(A j).m):=by simp [nmD,twsA,twA]
 rw [this];unfold cF;rw [List.pairwise_map];exact List.Pairwise.imp_of_mem (fun {i j} hi hj h=>hR i j h (List.mem_range.1 hj)) List.pairwise_lt_range
theorem nm_at (A:Nat->AD) {n t:Nat} (ht:t<n):(nmD (twsA A n))[t]? = some (A t).m:=by
 have:nmD (twsA A n)=(List.range n).map (fun j=>(A j).m):=by simp [nmD,twsA,twA]
 rw [this,List.getElem?_map,List.getElem?_range ht];rfl
theorem wY (a:Option Addr) (c:Nat) (f:Value) (x:ByteArray) (w:World) :
 Calls Tryz.prog 233 #[.slice a 0 c,.string x,f] w fun e w'=>e=.returned (.tuple #[.int .i64 (0:Nat),.bool false])/\w'=w:=by
 go_enter Tryz.func233,Tryz.ntmps233
 go_wp2
 go_loop [9,10] (fun s7 s8=>s7=.int .i64 0/\s8=.int .i64 0) (fun _ _=>0)
 case atStart=>exact ⟨rfl,rfl⟩
 case round =>
  obtain ⟨rfl,rfl⟩:=hrel;go_wp2
  go_ret2;exact ⟨rfl,rfl⟩
theorem wX (b off:Nat) (n c:Nat) (A:Nat->AD) (x:ByteArray) (hn:n<=1000) (hR:RiseA A n) (w:World) (h:∀ j,j<n->∃ y c,j9 w b (off+j*5) (A j) y c) :
 Calls Tryz.prog 233 #[.slice (some ⟨b,off,none⟩) n c,.string x,.func (.func 234) #[] #[]] w fun e w' =>
  e=.returned (.tuple #[.int .i64 (pos lsS (nmD (twsA A n)) x:Nat),.bool (has (nmD (twsA A n)) x)])/\Below w.heap.size w w':=by
 have hr:=rising_nm hR;have hl:(nmD (twsA A n)).length=n:=by simp [nmD,twsA]
 have hat:∀ t,t<n->(nmD (twsA A n))[t]? = some (A t).m:=fun t ht=>nm_at A ht
 generalize nmD (twsA A n)=ks at hr hl hat;have hS:=sO oZ hr x;rw [hl] at hS;obtain ⟨I,hI⟩:∃ I,pos lsS ks x=I:=⟨_,rfl⟩;obtain ⟨B,hB⟩:∃ B,B=has ks x:=⟨_,rfl⟩;have hIn:I<=n:=by rw [<- hI, <- hl];exact sY _ _
 rw [hI] at hS;rw [hI, <- hB];have HE:=aA (p:=I<n->decide ((A I).m=x)=B) (fun hy=>by rw [hB,wC oZ hr hI (hat I hy)]);have HN:=aA (p:=n<=I->false=B) (fun h=>by rw [hB];exact (tT oZ hr hI (by omega)).symm);have HG:=aA (p:=∀ t,t<n->ks.getD t x=(A t).m) (fun t ht=>by rw [List.getD_eq_getElem?_getD,hat t ht];rfl);have HS:=aA hS;have HC:=aA h;clear hS hI hB hr hl hat h hR;go_enter Tryz.func233,Tryz.ntmps233
 go_wp2_with fail
 go_loopg [9,10] n (fun g s7 s8 wr=>∃ lo hi:Nat,s7=.int .i64 lo/\s8=.int .i64 hi/\lo<=hi/\hi<=n/\hi-lo<=g/\Hid (Below w.heap.size w wr)/\Hid (Lib.bsGo (fun t=>lsS (ks.getD t x) x) g lo hi=I))
 case atStart=>exact ⟨0,n,rfl,rfl,Nat.zero_le _,Nat.le_refl _,by omega,aA (Below.refl _ _),HS⟩
 case round =>
  obtain ⟨lo,hi,rfl,rfl,hlh,hin,hg,hBl,hb⟩:=hrel;by_cases hlt:lo<hi
  · obtain ⟨y,cy,h50⟩:=HC.out ((lo+hi) / 2) (by omega)
    have h5:=h50.kept hBl.out;obtain ⟨g',rfl⟩:∃ g',gk=g'+1:=⟨gk-1,by omega⟩;have hb1:=hb.out;have hgt:=HG.out ((lo+hi) / 2) (by omega);clear hb h50;simp only [Lib.bsGo,hlt,if_true] at hb1;obtain ⟨z,hz⟩:∃ z,A ((lo+hi) / 2)=z:=⟨_,rfl⟩;rw [hz] at h5 hgt;simp only [hgt] at hb1;have hcb:=J4 z.m.data.toList x.data.toList;rw [<- Lib.toList_data, <- Lib.toList_data,show Op.bytesLess z.m.toList x.toList=lsS z.m x from rfl,Lib.toList_data,Lib.toList_data] at hcb;have CN:=aA (fun w'=>lX z y cy x w');obtain ⟨d0,d1,d2,d3,d4⟩:=h5;have hsz:=hBl.out.size;clear hz hgt;cases hyx:lsS z.m x <;> simp only [hyx,if_true,Bool.false_eq_true,if_false] at hb1 hcb
    · have HB:=aA hb1
      clear hb1 hyx;go_wp2_with fail
      refine (CN.out _).mono ?_;rintro e w2 ⟨rfl,hb2⟩;have B2:=aA (hBl.out.trans (hb2.mono hsz));clear hb2;go_wp2_with fail
      go_roundg ((lo+hi) / 2-lo)
      case measure=>omega
      case rel=>exact ⟨lo,(lo+hi) / 2,rfl,by rw [show ((lo:Int)+(hi:Int)) / 2=(((lo+hi) / 2:Nat):Int) by omega],by omega,by omega,Nat.le_refl _,B2,aA (by rw [<- HB.out];exact Lib.bsGo_fuel _ _ _ _ _ (Nat.le_refl _) (by omega))⟩
    · have HB:=aA hb1
      clear hb1 hyx;go_wp2_with fail
      refine (CN.out _).mono ?_;rintro e w2 ⟨rfl,hb2⟩;have B2:=aA (hBl.out.trans (hb2.mono hsz));clear hb2;go_wp2_with fail
      go_roundg (hi-((lo+hi) / 2+1))
      case measure=>omega
      case rel=>exact ⟨(lo+hi) / 2+1,hi,by rw [show ((lo:Int)+(hi:Int)) / 2+1=(((lo+hi) / 2+1:Nat):Int) by omega],rfl,by omega,hin,Nat.le_refl _,B2,aA (by rw [<- HB.out];exact Lib.bsGo_fuel _ _ _ _ _ (Nat.le_refl _) (by omega))⟩
  · obtain rfl:hi=lo:=by omega
    obtain rfl:hi=I:=by
     rw [<- hb.out];cases gk <;> simp [Lib.bsGo]
    clear hb HS;by_cases hn:hi<n
    · obtain ⟨y,cy,h50⟩:=HC.out hi hn
      have h5:=h50.kept hBl.out;have hBx:=HE.out hn;obtain ⟨z,hz⟩:∃ z,A hi=z:=⟨_,rfl⟩;rw [hz] at h5 hBx;have hcb:=J5 z.m.data.toList x.data.toList
      rw [show decide (z.m.data.toList=x.data.toList)=decide (z.m=x) from by
       by_cases hq:z.m=x
       · simp [hq]
       · rw [decide_eq_false hq];exact decide_eq_false (fun h=>hq (uG (by rw [Lib.toList_data,Lib.toList_data];exact h))),hBx,show decide (Lib.compareBytes z.m.data.toList x.data.toList=0)=(Lib.compareBytes z.m.data.toList x.data.toList == 0) from rfl] at hcb
      have CN:=aA (fun w'=>lX z y cy x w');obtain ⟨d0,d1,d2,d3,d4⟩:=h5;have hsz:=hBl.out.size;clear HE HN HC HG hz hBx h50;go_wp2_with fail
      refine (CN.out _).mono ?_;rintro e w2 ⟨rfl,hb2⟩;have B2:=aA (hBl.out.trans (hb2.mono hsz));clear hb2;go_wp2_with fail
      go_ret2;exact ⟨rfl,B2.out⟩
    · have HB:=HN.out (by omega)
      subst HB;clear HE HN HC HG;go_wp2_with fail
      go_ret2;exact ⟨rfl,hBl.out⟩
theorem zB (a:Option Addr) (n c:Nat) (A:Nat->AD) (x:ByteArray) (hn:n<=1000) (hR:RiseA A n) (w:World) (h:ReadsA w a n A) :
 Calls Tryz.prog 233 #[.slice a n c,.string x,.func (.func 234) #[] #[]] w fun e w' =>
  e=.returned (.tuple #[.int .i64 (pos lsS (nmD (twsA A n)) x:Nat),.bool (has (nmD (twsA A n)) x)])/\Below w.heap.size w w':=by
 rcases h.2 with rfl | ⟨b,off,rfl,hc⟩
 · exact (wY a c _ x w).mono fun e w' ⟨he,hw⟩=>⟨he,by rw [hw];exact Below.refl _ _⟩
 · exact wX b off n c A x hn hR w (fun j hj=>by obtain ⟨y,c,h,_⟩:=hc j hj;exact ⟨y,c,h⟩)
def CV (w:World) (A:Nat->AD) (n:Nat) (x:ByteArray) (e:Ending) (w':World):Prop :=
 (if has (nmD (twsA A n)) x=true then ∃ v a c,pos lsS (nmD (twsA A n)) x<n/\A (pos lsS (nmD (twsA A n)) x)=v/\e=.returned (.tuple #[.agg #[.int .i64 v.k,.int .i64 (twN v.k v.n),.string (twS v.k v.s),.slice a (twL v.k v.len) c],.bool true])/\fH w' a (twL v.k v.len) v.z
  else e=.returned (.tuple #[.agg #[.int .i64 0,.int .i64 0,.string ⟨#[]⟩,.slice none 0 0],.bool false]))/\Below w.heap.size w w'
theorem getL_any (a:Option Addr) (n c:Nat) (A:Nat->AD) (x:ByteArray) (hn:n<=1000) (hl:∀ j,j<n->(A j).len<=1000000) (hR:RiseA A n) (w:World) (h:ReadsA w a n A) :
 Calls Tryz.prog 220 #[.slice a n c,.string x] w (CV w A n x):=by
 have BL:∀ o,Below w.heap.size w (w.alloc o):=fun o=>(Below.refl _ _).alloc (Nat.le_refl _) _
 have SF:=aA (fun o=>zB a n c A x hn hR (w.alloc o) (h.kept (BL o)));obtain ⟨W,hW⟩:∃ W,w.alloc (.cells #[.int .i64 0,.int .i64 0,.string ⟨#[]⟩,.slice none 0 0] 53)=W:=⟨_,rfl⟩;have hWb:Below w.heap.size w W:=by rw [<- hW];exact BL _
 have hWs:W.heap.size=w.heap.size+1:=by rw [<- hW];simp
 have hW4:W.heap[w.heap.size]? = some (.cells #[.int .i64 0,.int .i64 0,.string ⟨#[]⟩,.slice none 0 0] 53 (0,0)):=by rw [<- hW];exact heap_alloc_new w _
 have HW:=aA hW;have HX:=aA (And.intro hWb hW4);have RA:=aA h;have HLn:=aA hl;have hrn:=rising_nm hR;have hnl:(nmD (twsA A n)).length=n:=by simp [nmD,twsA]
 have HRN:=aA (And.intro hrn hnl);clear hWb hW4 hW h hl hR BL hrn hnl;by_cases hh:has (nmD (twsA A n)) x=true
 · have hp:pos lsS (nmD (twsA A n)) x<n:=by
    have:=(iI oZ HRN.out.1).1 ((lU _ _).1 hh);have:=(List.getElem?_eq_some_iff.1 this).1;rwa [HRN.out.2] at this
   rw [hh] at SF;have HH:=aA hh;obtain ⟨I,hI⟩:∃ I,pos lsS (nmD (twsA A n)) x=I:=⟨_,rfl⟩;obtain ⟨v,hv⟩:∃ v,A I=v:=⟨_,rfl⟩;rw [hI] at SF hp
   have GP:=aA (p:=∀ a' c' w',fH w' a' (twL v.k v.len) v.z->Below w.heap.size w w'->CV w A n x (.returned (.tuple #[.agg #[.int .i64 v.k,.int .i64 (twN v.k v.n),.string (twS v.k v.s),.slice a' (twL v.k v.len) c'],.bool true])) w') (fun a' c' w' hr hb=>⟨by
    rw [if_pos HH.out,hI];exact ⟨v,a',c',hp,hv,rfl,hr⟩,hb⟩)
   obtain ⟨b,off,rfl,hc⟩:=RA.out.2.resolve_left (by omega);obtain ⟨y,cy,h5,hry⟩:=hc I hp;have hlv:=HLn.out I hp;rw [hv] at h5 hry hlv;have H5:=aA (And.intro h5 hry);clear hc hv h5 hry hI hh;go_enter Tryz.func220,Tryz.ntmps220
   go_wp2_with fail
   refine (SF.out _).mono ?_;rw [HW.out];rintro e w2 ⟨rfl,hb2⟩;have B2:=aA (HX.out.1.trans (hb2.mono HX.out.1.size));have V2:=aA ((hb2.block w.heap.size (by omega)).trans HX.out.2);have hz2:=hb2.size;obtain ⟨d0,d1,d2,d3,d4⟩:=H5.out.1.kept B2.out;have TW:=aA (E9 v.k v.n v.s y v.len cy v.z hlv w2 (H5.out.2.kept B2.out));clear hb2;go_wp2_with fail
   refine TW.out.mono ?_;rintro e w3 ⟨⟨a3,c3,rfl,hn3,hr3⟩,hb3⟩;have B3:=aA (B2.out.trans (hb3.mono (by omega)));have V3:=(hb3.block w.heap.size (by omega)).trans V2.out;obtain ⟨⟨c0,c1,c2,c3'⟩,⟨f0,f1,f2,f3⟩⟩:=aO V3;have R3:=aA (And.intro (hr3 w3 (aL.refl _ _)) hn3);clear hb3 V3 hr3 hn3 d0 d1 d2 d3 d4;go_wp2_with fail
   have hb4:=aA (mM B3.out (Nat.le_refl _) (.int .i64 v.k) (.int .i64 (twN v.k v.n)) (.string (twS v.k v.s)) (.slice a3 (twL v.k v.len) c3));have hk4:=aA (R3.out.1.keptS (wB w3 w.heap.size (.int .i64 v.k) (.int .i64 (twN v.k v.n)) (.string (twS v.k v.s)) (.slice a3 (twL v.k v.len) c3)) (fun q hq h=>by have:=R3.out.2 q hq;omega));exact bodyPost_ret (v:=.tuple #[.agg #[.int .i64 v.k,.int .i64 (twN v.k v.n),.string (twS v.k v.s),.slice a3 (twL v.k v.len) c3],.bool true]) (by simp [results,Tryz.results220,go_sem, *]) rfl (GP.out _ _ _ hk4.out hb4.out)
 · have hh':has (nmD (twsA A n)) x=false:=by simpa using hh
   rw [hh'] at SF;have HH:=aA hh;clear hh hh';go_enter Tryz.func220,Tryz.ntmps220
   go_wp2_with fail
   refine (SF.out _).mono ?_;rw [HW.out];rintro e w2 ⟨rfl,hb2⟩;have B2:=aA (HX.out.1.trans (hb2.mono HX.out.1.size));have V2:=(hb2.block w.heap.size (by omega)).trans HX.out.2;obtain ⟨⟨c0,c1,c2,c3⟩,⟨f0,f1,f2,f3⟩⟩:=aO V2;clear hb2 V2;go_wp2_with fail
   have hb4:=aA (mM B2.out (Nat.le_refl _) (.int .i64 0) (.int .i64 0) (.string ⟨#[]⟩) (.slice none 0 0));exact bodyPost_ret (v:=.tuple #[.agg #[.int .i64 0,.int .i64 0,.string ⟨#[]⟩,.slice none 0 0],.bool false]) (by simp [results,Tryz.results220,go_sem, *]) rfl ⟨by rw [if_neg HH.out],hb4.out⟩
end
section
open Go.RowKit
end
section
open Go.RowKit
end
section
open Go.RowKit Go.ChangeShapes Go.WideShapes Go.Deep
end
end
end Go.Proofs.YtapcjnoaofmmiaaGreatDoor.Wr
namespace Go.Proofs.YtapcjnoaofmmiaaGreatDoor
section
open Go.RowKit
structure GU (A:Nat->Wr.AD) (n:Nat) (g:ByteArray->Option Int):Prop where
 yes:∀ j,j<n->g (A j).m=if (A j).k=1 then some (A j).n else none
 no:∀ x,(∀ j,j<n->(A j).m ≠ x)->g x=none
 fit:∀ x v,g x=some v->bM v
theorem AM (o:ByteArray) (a b:Int) (ha:bM a) (hb:bM b) (h4:jR o=true) (w:World):Calls Tryz.prog 199 #[.string o,.int .i64 a,.int .i64 b] w fun e w'=>e=.returned (.tuple #[.int .i64 ((oP o a b).getD 0),.bool (oP o a b).isSome])/\w=w':=by
 have A1:=aA (yL a b w ha hb);have A2:=aA (yI a b w ha hb);have A3:=aA (EW a b w ha hb);unfold jR at h4;unfold oP;cases h1:(o.data.toList == [43]) with
 | true =>
   have g1:=bG h1;rw [if_pos rfl];simp only [Option.getD_some,Option.isSome_some];clear h1 h4;go_enter Tryz.func199,Tryz.ntmps199
   go_wp2_with fail
   refine A1.out.mono ?_;rintro e w1 ⟨rfl,rfl⟩;go_wp2_with fail
   go_ret2;exact ⟨rfl,rfl⟩
 | false =>
   have g1:=aG h1;rw [if_neg (by decide)];cases h2:(o.data.toList == [45]) with
   | true =>
     have g2:=bG h2;rw [if_pos rfl];simp only [Option.getD_some,Option.isSome_some];clear h1 h4 h2;go_enter Tryz.func199,Tryz.ntmps199
     go_wp2_with fail
     refine A2.out.mono ?_;rintro e w1 ⟨rfl,rfl⟩;go_wp2_with fail
     go_ret2;exact ⟨rfl,rfl⟩
   | false =>
     have g2:=aG h2;rw [if_neg (by decide)];cases h3:(o.data.toList == [42]) with
     | true =>
       have g3:=bG h3;rw [if_pos rfl];simp only [Option.getD_some,Option.isSome_some];clear h1 h4 h2 h3;go_enter Tryz.func199,Tryz.ntmps199
       go_wp2_with fail
       refine A3.out.mono ?_;rintro e w1 ⟨rfl,rfl⟩;go_wp2_with fail
       go_ret2;exact ⟨rfl,rfl⟩
     | false =>
       have g3:=aG h3;rw [if_neg (by decide)];cases h5:(o.data.toList == [47]) with
       | true =>
         have g4:=bG h5;rw [if_pos rfl];by_cases hz:b=0
         · subst hz
           have A4:=aA (yK a w);rw [if_pos rfl];simp only [Option.getD_none,Option.isSome_none];clear h1 h4 h2 h3 h5;go_enter Tryz.func199,Tryz.ntmps199
           go_wp2_with fail
           refine A4.out.mono ?_;rintro e w1 ⟨rfl,rfl⟩;go_wp2_with fail
           go_ret2;exact ⟨rfl,rfl⟩
         · have A4:=aA (EY a b w ha hb hz)
           rw [if_neg hz];simp only [Option.getD_some,Option.isSome_some];clear h1 h4 h2 h3 h5 hz;go_enter Tryz.func199,Tryz.ntmps199
           go_wp2_with fail
           refine A4.out.mono ?_;rintro e w1 ⟨rfl,rfl⟩;go_wp2_with fail
           go_ret2;exact ⟨rfl,rfl⟩
       | false =>
         have g4:=aG h5;rw [if_neg (by decide)];have g5:=bG (o:=o) (x:=[37]) (by rw [h1,h2,h3,h5] at h4;simpa using h4);by_cases hz:b=0
         · subst hz
           have A4:=aA (yJ a w);rw [if_pos rfl];simp only [Option.getD_none,Option.isSome_none];clear h1 h4 h2 h3 h5;go_enter Tryz.func199,Tryz.ntmps199
           go_wp2_with fail
           refine A4.out.mono ?_;rintro e w1 ⟨rfl,rfl⟩;go_wp2_with fail
           go_ret2;exact ⟨rfl,rfl⟩
         · have A4:=aA (EX a b w ha hb hz)
           rw [if_neg hz];simp only [Option.getD_some,Option.isSome_some];clear h1 h4 h2 h3 h5 hz;go_enter Tryz.func199,Tryz.ntmps199
           go_wp2_with fail
           refine A4.out.mono ?_;rintro e w1 ⟨rfl,rfl⟩;go_wp2_with fail
           go_ret2;exact ⟨rfl,rfl⟩
theorem Ef {A:Nat->Wr.AD} {n:Nat} {g:ByteArray->Option Int} (hg:GU A n g) (hR:Wr.RiseA A n) (x:ByteArray) :
 (has (Wr.nmD (Wr.twsA A n)) x=true->pos lsS (Wr.nmD (Wr.twsA A n)) x<n->g x=if (A (pos lsS (Wr.nmD (Wr.twsA A n)) x)).k=1 then some (A (pos lsS (Wr.nmD (Wr.twsA A n)) x)).n else none) /\
 (¬ has (Wr.nmD (Wr.twsA A n)) x=true->g x=none):=by
 have hr:=Wr.rising_nm hR;refine ⟨fun h hp=>?_,fun h=>hg.no x fun j hj e=>h ?_⟩
 · have h1:=(iI oZ hr).1 ((lU _ _).1 h)
   rw [Wr.nm_at A hp] at h1;have h2:=hg.yes _ hp;rw [Option.some.inj h1] at h2;exact h2
 · rw [lU]
   exact e ▸ List.mem_of_getElem? (Wr.nm_at A hj)
theorem AR {A:Nat->Wr.AD} {n:Nat} {g:ByteArray->Option Int} (hg:GU A n g) (hR:Wr.RiseA A n) (hn:n<=1000) (hl:∀ j,j<n->(A j).len<=1000000) (a:Option Addr) (c:Nat) (x:ByteArray) (w:World) (h:Wr.ReadsA w a n A) :
 Calls Tryz.prog 197 #[.slice a n c,.string x] w fun e w'=>e=.returned (.tuple #[.int .i64 ((g x).getD 0),.bool (g x).isSome])/\Below w.heap.size w w':=by
 have C:=aA (Wr.getL_any a n c A x hn hl hR w h);obtain ⟨F1,F2⟩:=Ef hg hR x;by_cases hh:has (Wr.nmD (Wr.twsA A n)) x=true
 · have C1:=aA (p:=Calls Tryz.prog 220 #[.slice a n c,.string x] w fun e w'=>(∃ (v:Wr.AD) (a:Option Addr) (c:Nat),g x=(if v.k=1 then some v.n else none)/\e=.returned (.tuple #[.agg #[.int .i64 v.k,.int .i64 (Wr.twN v.k v.n),.string (Wr.twS v.k v.s),.slice a (Wr.twL v.k v.len) c],.bool true]))/\Below w.heap.size w w') (C.out.mono fun e w' ⟨he,hb⟩=>by
    rw [if_pos hh] at he;obtain ⟨v,a2,c2,hp,rfl,he, -⟩:=he;exact ⟨⟨_,a2,c2,F1 hh hp,he⟩,hb⟩)
   clear F1 F2 C h hh;go_enter Tryz.func197,Tryz.ntmps197
   go_wp2_with fail
   refine C1.out.mono ?_;rintro e w1 ⟨⟨v,a2,c2,hv,rfl⟩,hb⟩;have B1:=aA hb;have HV:=aA hv;have tw1:v.k=1->Wr.twN v.k v.n=v.n:=fun h=>by rw [h];rfl
   obtain ⟨N,hN⟩:∃ N,Wr.twN v.k v.n=N:=⟨_,rfl⟩;obtain ⟨Z,hZ⟩:∃ Z,Wr.twS v.k v.s=Z:=⟨_,rfl⟩;obtain ⟨L,hL⟩:∃ L,Wr.twL v.k v.len=L:=⟨_,rfl⟩;rw [hN] at tw1;rw [hN,hZ,hL];obtain ⟨k,hk⟩:∃ k,v.k=k:=⟨_,rfl⟩;rw [hk] at HV tw1 |-
   clear hb hv hN hZ hL hk C1;by_cases h1:k=1
   · have TW:=aA (tw1 h1)
     subst h1;have HG:=aA (show g x=some v.n by rw [HV.out,if_pos rfl]);clear HV tw1;have B2:=aA (B1.out.trans (((Below.refl w1.heap.size w1).alloc (Nat.le_refl _) (.cells #[.int .i64 1,.int .i64 N,.string Z,.slice a2 L c2] 53)).mono B1.out.size));go_wp2_with fail
     go_ret2;exact ⟨by rw [HG.out,TW.out];rfl,B2.out⟩
   · have HG:=aA (show g x=none by rw [HV.out,if_neg h1])
     have e1:(k == 1)=false:=by simpa using h1
     have e2:(k != 1)=true:=by simpa using h1
     clear HV tw1;have B2:=aA (B1.out.trans (((Below.refl w1.heap.size w1).alloc (Nat.le_refl _) (.cells #[.int .i64 k,.int .i64 N,.string Z,.slice a2 L c2] 53)).mono B1.out.size));go_wp2_with fail
     go_ret2;rw [HG.out];exact ⟨rfl,B2.out⟩
 · have HG:=aA (F2 hh)
   have C1:=aA (p:=Calls Tryz.prog 220 #[.slice a n c,.string x] w fun e w'=>e=.returned (.tuple #[.agg #[.int .i64 0,.int .i64 0,.string ⟨#[]⟩,.slice none 0 0],.bool false])/\Below w.heap.size w w') (C.out.mono fun e w' ⟨he,hb⟩=>by
    rw [if_neg hh] at he;exact ⟨he,hb⟩)
   clear F1 F2 C h hh;go_enter Tryz.func197,Tryz.ntmps197
   go_wp2_with fail
   refine C1.out.mono ?_;rintro e w1 ⟨rfl,hb⟩;have B2:=aA (hb.trans (((Below.refl w1.heap.size w1).alloc (Nat.le_refl _) (.cells #[.int .i64 0,.int .i64 0,.string ⟨#[]⟩,.slice none 0 0] 53)).mono hb.size));clear hb C1;go_wp2_with fail
   go_ret2;rw [HG.out];exact ⟨rfl,B2.out⟩
structure j5 (A:Nat->Wr.AD) (n:Nat) (g:ByteArray->Option Int):Prop where
 ok:GU A n g
 ri:Wr.RiseA A n
 few:n<=1000
 sm:∀ j,j<n->(A j).len<=1000000
def PEv (A:Nat->Wr.AD) (n:Nat) (g:ByteArray->Option Int) (t:TN):Prop:=∀ (G:Nat->Prop) (w:World) (a:Option Addr) (c:Nat) (y:Option Addr) (cy:Nat),aI G w a t.ks->Wr.ReadsA w y n A ->
 Calls Tryz.prog 175 #[bI t.op t.nm t.n a t.ks.len c,.slice y n cy] w fun e w'=>e=.returned (.tuple #[.int .i64 ((evT g t).getD 0),.bool (evT g t).isSome])/\Below w.heap.size w w'
variable {A:Nat->Wr.AD} {n:Nat} {g:ByteArray->Option Int}
theorem Hn (o m:ByteArray) (v:Int) (h1:bD o=true):PEv A n g ⟨o,m,v,.nil⟩:=by
 intro G w a c y cy hr hA;rw [Gj g h1];clear hr hA;dsimp only;have g1:=bG h1;unfold jV at g1;have NB:=aA (heap_alloc_new w (ndG o m v a F.nil.len c));have B0:=aA ((Below.refl w.heap.size w).alloc (Nat.le_refl _) (ndG o m v a F.nil.len c));clear h1;go_enter Tryz.func175,Tryz.ntmps175
 go_wp2_with fail
 go_ret2;exact ⟨rfl,B0.out⟩
theorem Fs (U:j5 A n g) (o m:ByteArray) (v:Int) (h1:bD o=false) (h2:aV o=true):PEv A n g ⟨o,m,v,.nil⟩:=by
 intro G w a c y cy hr hA;rw [Cw g h1 h2];dsimp only;have g1:=aG h1;have g2:=bG h2;unfold jV at g1;unfold fX at g2;have B0:=aA ((Below.refl w.heap.size w).alloc (Nat.le_refl _) (ndG o m v a F.nil.len c));have C:=aA (AR U.ok U.ri U.few U.sm y cy m (w.alloc (ndG o m v a F.nil.len c)) (hA.kept B0.out));obtain ⟨q,hq⟩:∃ q,g m=q:=⟨_,rfl⟩;rw [hq] at C |-
 clear h1 h2 hr hA hq;go_enter Tryz.func175,Tryz.ntmps175
 go_wp2_with fail
 refine C.out.mono ?_;rintro e w1 ⟨rfl,hb⟩;have B1:=aA (B0.out.trans (hb.mono B0.out.size));clear hb;go_wp2_with fail
 go_ret2;exact ⟨rfl,B1.out⟩
theorem Ho (o m:ByteArray) (v:Int) (t:TN) (h1:bD o=false) (h2:aV o=false) (h3:eL o=true) (hi:∀ x,evT g t=some x->bM x) (ih:PEv A n g t):PEv A n g ⟨o,m,v,t.f⟩:=by
 intro G w a c y cy hr hA;rw [Gl g t h1 h2 h3];dsimp only at hr |-
 rw [show t.f.len=1 from rfl];have g1:=aG h1;have g2:=aG h2;have g3:=bG h3;unfold jV at g1;unfold fX at g2;unfold gJ at g3;have NB:=aA (heap_alloc_new w (ndG o m v a 1 c));have B0:=aA ((Below.refl w.heap.size w).alloc (Nat.le_refl _) (ndG o m v a 1 c));obtain ⟨b,off,a2,c2,ha,hG,hbl,⟨p0,p1,p2,p3⟩,hr2⟩:=bR (hr.kept B0.out) (show t.f.at 0=some t from rfl);have C:=aA (ih G (w.alloc (ndG o m v a 1 c)) a2 c2 y cy hr2 (hA.kept B0.out));rw [Nat.zero_mul,Nat.add_zero] at p0 p1 p2 p3;subst ha;have SB:=aA (fun (x:Int) (h:bM x) (V:World)=>yI 0 x V (by unfold bM;omega) h)
 have HI:bM ((evT g t).getD 0):=by
  cases hE:evT g t with
  | none=>show bM 0;unfold bM;omega
  | some x=>exact hi x hE
 have RS:(Option.map (fun x=>dE (0-x)) (evT g t)).getD 0=dE (0-(evT g t).getD 0)/\(Option.map (fun x=>dE (0-x)) (evT g t)).isSome=(evT g t).isSome:=by
  cases evT g t with
  | none=>exact ⟨by decide,rfl⟩
  | some x=>exact ⟨rfl,rfl⟩
 rw [RS.1,RS.2];obtain ⟨q,hq⟩:∃ q,(evT g t).getD 0=q:=⟨_,rfl⟩;obtain ⟨z,hz⟩:∃ z,(evT g t).isSome=z:=⟨_,rfl⟩;rw [hq] at C HI |-
 rw [hz] at C |-
 have S1:=aA (SB.out q HI);rw [Int.zero_sub];clear h1 h2 h3 hr hA ih hr2 hq hz RS HI hi SB;go_enter Tryz.func175,Tryz.ntmps175
 go_wp2_with fail
 generalize w.alloc (ndG o m v (some ⟨b,off,none⟩) 1 c)=W at NB B0 C hbl p0 p1 p2 p3 |-
 obtain ⟨⟨m0,m1,m2,m3⟩, -⟩:=aO NB.out;go_wp2_with fail
 refine C.out.mono ?_;rintro e w1 ⟨rfl,hb⟩;have B1:=aA (B0.out.trans (hb.mono B0.out.size));clear hb;go_wp2_with fail
 refine (S1.out _).mono ?_;rintro e w2 ⟨rfl,rfl⟩;go_wp2_with fail
 go_ret2;exact ⟨rfl,B1.out⟩
theorem Hm (o m:ByteArray) (v:Int) (t u:TN) (h1:bD o=false) (h2:aV o=false) (h3:eL o=false) (h4:jR o=true) (hi:∀ x,evT g t=some x->bM x) (hj:∀ x,evT g u=some x->bM x) (ih:PEv A n g t) (iu:PEv A n g u):PEv A n g ⟨o,m,v,.cons t.op t.nm t.n t.ks u.f⟩:=by
 intro G w a c y cy hr hA;rw [Gi g t u h1 h2 h3];dsimp only at hr |-
 rw [show (F.cons t.op t.nm t.n t.ks u.f).len=2 from rfl];have g1:=aG h1;have g2:=aG h2;have g3:=aG h3;unfold jV at g1;unfold fX at g2;unfold gJ at g3;have NB:=aA (heap_alloc_new w (ndG o m v a 2 c));have B0:=aA ((Below.refl w.heap.size w).alloc (Nat.le_refl _) (ndG o m v a 2 c));obtain ⟨b,off,a2,c2,ha,hG,hbl,⟨p0,p1,p2,p3⟩,hr2⟩:=bR (hr.kept B0.out) (show (F.cons t.op t.nm t.n t.ks u.f).at 0=some t from rfl);obtain ⟨b',off',a3,c3,ha',hG',hbl',⟨q0,q1,q2,q3⟩,hr3⟩:=bR (hr.kept B0.out) (show (F.cons t.op t.nm t.n t.ks u.f).at 1=some u from rfl);subst ha;cases ha';have C:=aA (ih G (w.alloc (ndG o m v (some ⟨b,off,none⟩) 2 c)) a2 c2 y cy hr2 (hA.kept B0.out));have D:=aA (fun V (hV:Below (w.alloc (ndG o m v (some ⟨b,off,none⟩) 2 c)).heap.size (w.alloc (ndG o m v (some ⟨b,off,none⟩) 2 c)) V)=>iu G V a3 c3 y cy (hr3.kept hV) ((hA.kept B0.out).kept hV));have AP:=aA (fun (p q:Int) (hp:bM p) (hq:bM q) (V:World)=>AM o p q hp hq h4 V);rw [Nat.zero_mul,Nat.add_zero] at p0 p1 p2 p3;rw [Nat.one_mul] at q0 q1 q2 q3;clear h1 h2 h3 h4 hr hA ih iu hr2 hr3;cases hT:evT g t with
 | none =>
   rw [hT] at C;simp only [Option.getD_none,Option.isSome_none] at C |-
   clear hT hi hj D AP;go_enter Tryz.func175,Tryz.ntmps175
   go_wp2_with fail
   generalize w.alloc (ndG o m v (some ⟨b,off,none⟩) 2 c)=W at NB B0 C hbl p0 p1 p2 p3 |-
   obtain ⟨⟨m0,m1,m2,m3⟩, -⟩:=aO NB.out;go_wp2_with fail
   refine C.out.mono ?_;rintro e w1 ⟨rfl,hb⟩;have B1:=aA (B0.out.trans (hb.mono B0.out.size));clear hb;go_wp2_with fail
   go_ret2;exact ⟨rfl,B1.out⟩
 | some p =>
   rw [hT] at C;simp only [Option.getD_some,Option.isSome_some] at C;have HP:=aA (hi p hT);cases hU:evT g u with
   | none =>
     rw [hU] at D;simp only [Option.getD_none,Option.isSome_none] at D |-
     clear hT hi hj hU AP;go_enter Tryz.func175,Tryz.ntmps175
     go_wp2_with fail
     generalize w.alloc (ndG o m v (some ⟨b,off,none⟩) 2 c)=W at NB B0 C D hbl hbl' p0 p1 p2 p3 q0 q1 q2 q3 |-
     obtain ⟨⟨m0,m1,m2,m3⟩, -⟩:=aO NB.out;go_wp2_with fail
     refine C.out.mono ?_;rintro e w1 ⟨rfl,hb⟩;have D1:=aA (D.out w1 hb);have B1:=aA (B0.out.trans (hb.mono B0.out.size));have s0:=(hb.cell hbl').trans q0;have s1:=(hb.cell hbl').trans q1;have s2:=(hb.cell hbl').trans q2;have s3:=(hb.cell hbl').trans q3;have s4:=(hb.cell (aC NB.out)).trans m3;have s5:=(hb.cell (aC NB.out)).trans m0;clear hb p0 p1 p2 p3 q0 q1 q2 q3 m0 m1 m2 m3 C D;go_wp2_with fail
     refine D1.out.mono ?_;rintro e w2 ⟨rfl,hb⟩;have B2:=aA (B1.out.trans (hb.mono B1.out.size));clear hb;go_wp2_with fail
     go_ret2;exact ⟨rfl,B2.out⟩
   | some q =>
     rw [hU] at D;simp only [Option.getD_some,Option.isSome_some] at D |-
     have A1:=aA (AP.out p q HP.out (hj q hU));clear hT hi hj hU AP HP;go_enter Tryz.func175,Tryz.ntmps175
     go_wp2_with fail
     generalize w.alloc (ndG o m v (some ⟨b,off,none⟩) 2 c)=W at NB B0 C D hbl hbl' p0 p1 p2 p3 q0 q1 q2 q3 |-
     obtain ⟨⟨m0,m1,m2,m3⟩, -⟩:=aO NB.out;go_wp2_with fail
     refine C.out.mono ?_;rintro e w1 ⟨rfl,hb⟩;have D1:=aA (D.out w1 hb);have B1:=aA (B0.out.trans (hb.mono B0.out.size));have s0:=(hb.cell hbl').trans q0;have s1:=(hb.cell hbl').trans q1;have s2:=(hb.cell hbl').trans q2;have s3:=(hb.cell hbl').trans q3;have N1:=aA ((hb.block _ (aC NB.out)).trans NB.out);have s4:=(hb.cell (aC NB.out)).trans m3;have s5:=(hb.cell (aC NB.out)).trans m0;clear hb p0 p1 p2 p3 q0 q1 q2 q3 m0 m1 m2 m3 C D;go_wp2_with fail
     refine D1.out.mono ?_;rintro e w2 ⟨rfl,hb⟩;have B2:=aA (B1.out.trans (hb.mono B1.out.size));have s6:=(hb.cell (aC N1.out)).trans s5;clear hb s0 s1 s2 s3 s4 s5;go_wp2_with fail
     refine (A1.out _).mono ?_;rintro e w3 ⟨rfl,rfl⟩;go_wp2_with fail
     go_ret2;exact ⟨rfl,B2.out⟩
theorem xD (U:j5 A n g) (t:TN) (h:OkT t) (hn:cX t.f):PEv A n g t/\∀ x,evT g t=some x->bM x :=
 eZ (P:=fun t=>PEv A n g t/\∀ x,evT g t=some x->bM x)
  (fun o m v a b d=>⟨Hn o m v a,fun x hx=>by rw [Gj g a] at hx;cases hx;unfold bM;omega⟩)
  (fun o m v a b _=>⟨Fs U o m v a b,fun x hx=>by rw [Cw g a b] at hx;exact U.ok.fit _ _ hx⟩)
  (fun o m v t a b c ih=>⟨Ho o m v t a b c ih.2 ih.1,fun x hx=>by
   rw [Gl g t a b c,Option.map_eq_some_iff] at hx;obtain ⟨z,_,rfl⟩:=hx;exact k8 _⟩)
  (fun o m v t u a b c d ih iu=>⟨Hm o m v t u a b c d ih.2 iu.2 ih.1 iu.1,fun x hx=>by
   rw [Gi g t u a b c] at hx;split at hx
   · rename_i p q hp hq
     exact Gy (ih.2 _ hp) hx
   · cases hx⟩) t h hn
theorem nG (U:j5 A n g) (t:TN) (h:aF t=0) (hn:cX t.f) (hS:SzF t.f) (G:Nat->Prop) (w:World) (a:Option Addr) (c:Nat) (y:Option Addr) (cy:Nat) (hr:aI G w a t.ks) (hA:Wr.ReadsA w y n A) :
 Calls Tryz.prog 151 #[bI t.op t.nm t.n a t.ks.len c,.slice y n cy] w fun e w'=>e=.returned (.tuple #[.int .i64 ((evT g t).getD 0),.bool (evT g t).isSome])/\Below w.heap.size w w':=by
 have B0:=(Below.refl w.heap.size w).alloc (Nat.le_refl _) (ndG t.op t.nm t.n a t.ks.len c);have N0:=heap_alloc_new w (ndG t.op t.nm t.n a t.ks.len c);have R0:=hr.kept B0;have A0:=hA.kept B0;generalize hW:w.alloc (ndG t.op t.nm t.n a t.ks.len c)=W at B0 N0 R0 A0;have HW:=aA hW;have HB:=aA B0;have CK:=aA (gP t G W a c hS R0);rw [h] at CK;have EV:=aA (fun V (hV:Below W.heap.size W V)=>(xD U t ((aN t).1 h).1 hn).1 G V a c y cy (R0.kept hV) (A0.kept hV));obtain ⟨q,hq⟩:∃ q,(evT g t).getD 0=q:=⟨_,rfl⟩;obtain ⟨z,hz⟩:∃ z,(evT g t).isSome=z:=⟨_,rfl⟩;rw [hq,hz] at EV |-
 have HN:=aA N0;clear hr hA B0 N0 R0 A0 hW hq hz h;obtain ⟨⟨m0,m1,m2,m3⟩, -⟩:=aO HN.out;go_enter Tryz.func151,Tryz.ntmps151
 go_upto_region 1 with fail
 rw [HW.out];go_wp2_with fail
 refine CK.out.mono ?_;rintro e w1 ⟨rfl,hb⟩;have E1:=aA (EV.out w1 hb);have B1:=aA (HB.out.trans (hb.mono HB.out.size));have N1:=(hb.block _ (aC HN.out)).trans HN.out;clear hb m0 m1 m2 m3 EV CK;obtain ⟨⟨m0,m1,m2,m3⟩, -⟩:=aO N1;clear N1;go_wp2_with fail
 refine E1.out.mono ?_;rintro e w2 ⟨rfl,hb⟩;have B2:=aA (B1.out.trans (hb.mono B1.out.size));clear hb;go_wp2_with fail
 go_ret2;exact ⟨rfl,B2.out⟩
def wL (g:ByteArray->Option Int) (c:CD):Bool:=match evT g c.a,evT g c.b with | some x,some y=>(aS c.op x y).getD false | _,_=>false
theorem Dc (g:ByteArray->Option Int) (c:CD) (r:List CD):dT g (c::r)=(wL g c && dT g r):=rfl
theorem Gq (g:ByteArray->Option Int) (c:CD):wL g c=((evT g c.a).isSome && (evT g c.b).isSome && (aS c.op ((evT g c.a).getD 0) ((evT g c.b).getD 0)).getD false):=by
 unfold wL;cases evT g c.a with
 | none=>rfl
 | some x=>cases evT g c.b <;> rfl
structure OkE (t:TN):Prop where
 c:aF t=0
 n:cX t.f
 s:SzF t.f
theorem Ba {A:Nat->Wr.AD} {n:Nat} {g:ByteArray->Option Int} (U:j5 A n g) (d:CD) (hA:OkE d.a) (hB:OkE d.b) (G:Nat->Prop) (a1:Option Addr) (c1:Nat) (a2:Option Addr) (c2:Nat) (y:Option Addr) (cy:Nat) (w:World)
 (r1:aI G w a1 d.a.ks) (r2:aI G w a2 d.b.ks) (hy:Wr.ReadsA w y n A) :
 Calls Tryz.prog 150 #[cdV d a1 c1 a2 c2,.slice y n cy] w fun e w'=>e=.returned (.bool (wL g d))/\Below w.heap.size w w':=by
 have B0:=(Below.refl w.heap.size w).alloc (Nat.le_refl _) (cdX d a1 c1 a2 c2);have N0:=heap_alloc_new w (cdX d a1 c1 a2 c2);generalize hW:w.alloc (cdX d a1 c1 a2 c2)=W at *;have HW:=aA hW;have HB:=aA B0;have HN:=aA N0;have CA:=aA (fun V (hV:Below w.heap.size w V)=>nG U d.a hA.c hA.n hA.s G V a1 c1 y cy (r1.kept hV) (hy.kept hV));have CB:=aA (fun V (hV:Below w.heap.size w V)=>nG U d.b hB.c hB.n hB.s G V a2 c2 y cy (r2.kept hV) (hy.kept hV));obtain ⟨va,hva⟩:∃ v,evT g d.a=v:=⟨_,rfl⟩;obtain ⟨vb,hvb⟩:∃ v,evT g d.b=v:=⟨_,rfl⟩;rw [Gq,hva,hvb];rw [hva] at CA;rw [hvb] at CB;obtain ⟨xa,hxa⟩:∃ n,va.getD 0=n:=⟨_,rfl⟩;obtain ⟨xb,hxb⟩:∃ n,vb.getD 0=n:=⟨_,rfl⟩;obtain ⟨za,hza⟩:∃ n,va.isSome=n:=⟨_,rfl⟩;obtain ⟨zb,hzb⟩:∃ n,vb.isSome=n:=⟨_,rfl⟩;rw [hxa,hza] at CA;rw [hxb,hzb] at CB;have HO:=aA (fun V=>sZ d.op xa xb V);obtain ⟨zo,hzo⟩:∃ z,(aS d.op xa xb).getD false=z:=⟨_,rfl⟩;obtain ⟨zs,hzs⟩:∃ z,(aS d.op xa xb).isSome=z:=⟨_,rfl⟩;rw [hzo,hzs] at HO;rw [hxa,hza,hxb,hzb,hzo];obtain ⟨r,hr⟩:∃ r,(za && zb && zo)=r:=⟨_,rfl⟩;rw [hr];have HR:=aA hr;obtain ⟨p0,p1,p2,p3,p4,p5,p6,p7,p8⟩:=kQ N0;clear hW B0 N0 r1 r2 hy hva hvb hxa hxb hza hzb hzo hzs hr;go_enter Tryz.func150,Tryz.ntmps150
 go_upto_region 1 with fail
 rw [show w.alloc (.cells #[.string d.op,.string d.a.op,.string d.a.nm,.int .i64 d.a.n,.slice a1 d.a.ks.len c1,.string d.b.op,.string d.b.nm,.int .i64 d.b.n,.slice a2 d.b.ks.len c2] 98)=W from HW.out];go_wp2_with fail
 refine (CA.out W HB.out).mono ?_;rintro e w1 ⟨rfl,hb⟩;have HB1:=aA (HB.out.trans (hb.mono HB.out.size));have N1:=aA ((hb.block _ (aC HN.out)).trans HN.out);clear hb CA p0 p1 p2 p3 p4 p5 p6 p7 p8;obtain ⟨p0,p1,p2,p3,p4,p5,p6,p7,p8⟩:=kQ N1.out;go_wp2_with fail
 refine (CB.out w1 HB1.out).mono ?_;rintro e w2 ⟨rfl,hb⟩;have HB2:=aA (HB1.out.trans (hb.mono HB1.out.size));have N2:=(hb.block _ (aC N1.out)).trans N1.out;clear hb CB p0 p1 p2 p3 p4 p5 p6 p7 p8;obtain ⟨p0,p1,p2,p3,p4,p5,p6,p7,p8⟩:=kQ N2;clear N2;go_wp2_with fail
 refine (HO.out w2).mono ?_;rintro e w3 ⟨rfl,rfl⟩;cases za with
 | false =>
   have TR:=aA (show false=r from HR.out);go_wp2_with fail
   go_ret;exact ⟨congrArg (fun z=>Ending.returned (.bool z)) TR.out,HB2.out⟩
 | true =>
   cases zb with
   | false =>
     have TR:=aA (show false=r from HR.out);go_wp2_with fail
     go_ret;exact ⟨congrArg (fun z=>Ending.returned (.bool z)) TR.out,HB2.out⟩
   | true =>
     have TR:=aA (show zo=r from HR.out);go_wp2_with fail
     go_ret;exact ⟨congrArg (fun z=>Ending.returned (.bool z)) TR.out,HB2.out⟩
theorem two {W:World} {B:Nat} {x0 x1:Value} {t:TypeId} (h:W.heap[B]? = some (.cells #[x0,x1] t (0,0))) :
 (W.cell? ⟨B,0,none⟩=some x0/\W.cell? ⟨B,1,none⟩=some x1)/\W.frozen? ⟨B,0,none⟩=false/\W.frozen? ⟨B,1,none⟩=false:=by
 refine ⟨⟨?_,?_⟩,?_,?_⟩ <;> simp [World.cell?,World.frozen?,h]
theorem mW {W:World} {B:Nat} {x0 x1:Value} {t:TypeId} (h:W.heap[B]? = some (.cells #[x0,x1] t (0,0))) (v0 v1:Value) :
 ((W.setCell ⟨B,0,none⟩ v0).setCell ⟨B,1,none⟩ v1).heap[B]? = some (.cells #[v0,v1] t (0,0)):=by
 have h0:=heap_setCell_same W B 0 _ t v0 h;have g0:(W.setCell ⟨B,0,none⟩ v0).heap[B]? = some (.cells #[v0,x1] t (0,0)):=by simpa using h0
 have h1:=heap_setCell_same _ B 1 _ t v1 g0;simpa using h1
theorem yO {W:World} {B:Nat} {x0 x1:Value} {t:TypeId} (h:W.heap[B]? = some (.cells #[x0,x1] t (0,0))) (v:Value):(W.setCell ⟨B,0,none⟩ v).heap[B]? = some (.cells #[v,x1] t (0,0)):=by
 have h0:=heap_setCell_same W B 0 _ t v h;simpa using h0
theorem yN {W:World} {B:Nat} {x0 x1:Value} {t:TypeId} (h:W.heap[B]? = some (.cells #[x0,x1] t (0,0))) (v:Value):(W.setCell ⟨B,1,none⟩ v).heap[B]? = some (.cells #[x0,v] t (0,0)):=by
 have h0:=heap_setCell_same W B 1 _ t v h;simpa using h0
abbrev jG (u v:Int):Obj:=.cells #[.int .i64 u,.int .i64 v] 131
abbrev AA (q:Int×Int):Value:=.agg #[.int .i64 q.1,.int .i64 q.2]
def AB:Bool->Int->Option Int->Option (Int×Int)
 | true,_,none=>none
 | true,e,some b=>some (e,b)
 | false,e,_=>some (e,0)
def Hd:Bool->Bool->Bool->Option Int->Option Int->Option (Int×Int)
 | false,_,_,_,_=>none
 | true,true,_,none,_=>none
 | true,true,bb,some e,vb=>AB bb e vb
 | true,false,bb,_,vb=>AB bb 0 vb
def kF (x:AG) (g:ByteArray->Option Int):Option (Int×Int):=Hd (dT g x.wh) (eP x.fn.data.toList) (bP x.fn.data.toList) (evT g x.e) (evT g x.g)
def JH (q:Option (Int×Int)) (u v:Int):Prop:=∀ z,q=some z->z=(u,v)
theorem nC (u v:Int):JH none u v:=fun z h=>by cases h
theorem vH (u v:Int):JH (some (u,v)) u v:=fun _ h=>(Option.some.inj h).symm
structure TKW (w:World) (x:AG) (p:PA) (V:World):Prop where
 k:KP9 (fun b=>b<w.heap.size) w x p V
 t:V.heap[w.heap.size+1]? = some (ptO (kP x.fn.data.toList) (eP x.fn.data.toList) (bP x.fn.data.toList))
 o:V.heap[w.heap.size+2]? = some (jG 0 0)
theorem TKW.step {w:World} {x:AG} {p:PA} {V V':World} (h:TKW w x p V) (hb:Below V.heap.size V V'):TKW w x p V' :=
 ⟨h.k.step hb,(hb.block _ (aC h.t)).trans h.t,(hb.block _ (aC h.o)).trans h.o⟩
theorem TKW.set {w:World} {x:AG} {p:PA} {V:World} (h:TKW w x p V) {D:Nat} (hD:w.heap.size+3<=D) (i:Nat) (v:Value):TKW w x p (V.setCell ⟨D,i,none⟩ v):=by
 have hk:=(aL.refl (· = D) V).setCell (p:=⟨D,i,none⟩) (.inl rfl) v;exact ⟨⟨h.k.b.trans (hk.below (B:=w.heap.size) (fun b hb=>by omega) h.k.z),Nat.le_trans h.k.z hk.size,hk.heap h.k.n (by omega),h.k.r.keptS hk (fun b hb hg=>by omega)⟩,hk.heap h.t (by omega),hk.heap h.o (by omega)⟩
theorem TKW.put {w:World} {x:AG} {p:PA} {V:World} (h:TKW w x p V) (v0 v1:Value):Below w.heap.size w ((V.setCell ⟨w.heap.size+2,0,none⟩ v0).setCell ⟨w.heap.size+2,1,none⟩ v1) :=
 h.k.b.trans ((((aL.refl (· = w.heap.size+2) V).setCell (p:=⟨w.heap.size+2,0,none⟩) (.inl rfl) v0).setCell (p:=⟨w.heap.size+2,1,none⟩) (.inl rfl) v1).below (B:=w.heap.size) (fun b hb=>by omega) h.k.z)
theorem Ha {w:World} {x:AG} {p:PA} (hr:aJ (fun b=>b<w.heap.size) w x p):TKW w x p (((w.alloc (agP x p)).alloc (ptO (kP x.fn.data.toList) (eP x.fn.data.toList) (bP x.fn.data.toList))).alloc (jG 0 0)):=by
 have K:=lQ hr;have hs0:(w.alloc (agP x p)).heap.size=w.heap.size+1:=World.size_alloc _ _;generalize w.alloc (agP x p)=W0 at *;have B1:=(Below.refl W0.heap.size W0).alloc (Nat.le_refl _) (ptO (kP x.fn.data.toList) (eP x.fn.data.toList) (bP x.fn.data.toList));have N1:=heap_alloc_new W0 (ptO (kP x.fn.data.toList) (eP x.fn.data.toList) (bP x.fn.data.toList));have hs1:(W0.alloc (ptO (kP x.fn.data.toList) (eP x.fn.data.toList) (bP x.fn.data.toList))).heap.size=W0.heap.size+1:=World.size_alloc _ _;generalize W0.alloc (ptO (kP x.fn.data.toList) (eP x.fn.data.toList) (bP x.fn.data.toList))=W1 at *;have B2:=(Below.refl W1.heap.size W1).alloc (Nat.le_refl _) (jG 0 0);have N2:=heap_alloc_new W1 (jG 0 0);rw [hs0] at N1;rw [hs1,hs0] at N2;exact ⟨(K.step B1).step B2,(B2.block _ (by omega)).trans N1,N2⟩
theorem Dd {A:Nat->Wr.AD} {n:Nat} {g:ByteArray->Option Int} (U:j5 A n g) (x:AG) (p:PA) (y:Option Addr) (cy:Nat) (w:World) {G:Nat->Prop} (hE:eP x.fn.data.toList=true->OkE x.e) (hG:bP x.fn.data.toList=true->OkE x.g)
 (hC:∀ d∈x.wh,OkE d.a/\OkE d.b) (hl:x.wh.length<=1000) (hr:aJ G w x p) (hy:Wr.ReadsA w y n A) :
 Calls Tryz.prog 108 #[agV x p,ptV x.fn.data.toList,.slice y n cy] w fun e w'=>∃ u v,e=.returned (.tuple #[.agg #[.int .i64 u,.int .i64 v],.bool (kF x g).isSome])/\JH (kF x g) u v/\Below w.heap.size w w':=by
 have hr':aJ (fun b=>b<w.heap.size) w x p:=hr.imp (fun b hb _=>hb);have K0:=Ha hr';have HY:=aA (fun V (hV:Below w.heap.size w V)=>hy.kept hV);have EVE:=aA (fun (he:eP x.fn.data.toList=true) V (rd:aI (fun b=>b<w.heap.size) V p.ea x.e.ks) (ry:Wr.ReadsA V y n A)=>nG U x.e (hE he).c (hE he).n (hE he).s (fun b=>b<w.heap.size) V p.ea p.ec y cy rd ry);have EVG:=aA (fun (he:bP x.fn.data.toList=true) V (rd:aI (fun b=>b<w.heap.size) V p.ga x.g.ks) (ry:Wr.ReadsA V y n A)=>nG U x.g (hG he).c (hG he).n (hG he).s (fun b=>b<w.heap.size) V p.ga p.gc y cy rd ry);have HC:=aA (fun d hd V a1 c1 a2 c2 (r1:aI (fun b=>b<w.heap.size) V a1 d.a.ks) (r2:aI (fun b=>b<w.heap.size) V a2 d.b.ks) (ry:Wr.ReadsA V y n A)=>Ba U d (hC d hd).1 (hC d hd).2 (fun b=>b<w.heap.size) a1 c1 a2 c2 y cy V r1 r2 ry);unfold kF ptV;have DT:=aA (fun V (h:TKW w x p V)=>h.t);obtain ⟨kk,hkk⟩:∃ b,kP x.fn.data.toList=b:=⟨_,rfl⟩;obtain ⟨ee,hee⟩:∃ b,eP x.fn.data.toList=b:=⟨_,rfl⟩;obtain ⟨bb,hbb⟩:∃ b,bP x.fn.data.toList=b:=⟨_,rfl⟩;rw [hkk,hee,hbb] at DT K0;rw [hee] at EVE;rw [hbb] at EVG;rw [hkk,hee,hbb];obtain ⟨ve,hve⟩:∃ v,evT g x.e=v:=⟨_,rfl⟩;obtain ⟨vb,hvb⟩:∃ v,evT g x.g=v:=⟨_,rfl⟩;rw [hve] at EVE;rw [hvb] at EVG;rw [hve,hvb];obtain ⟨tk,htk⟩:∃ v,dT g x.wh=v:=⟨_,rfl⟩;rw [htk];obtain ⟨q,hq⟩:∃ q,Hd tk ee bb ve vb=q:=⟨_,rfl⟩;rw [hq];have HQ:=aA hq;have T0:=aA (show dT g (x.wh.drop 0)=tk by rw [List.drop_zero];exact htk);generalize hW:((w.alloc (agP x p)).alloc (ptO kk ee bb)).alloc (jG 0 0)=W at K0;have HW:=aA hW;have K1:=aA K0;clear hW K0 hr hr' hy hE hG hC hkk hee hbb hve hvb htk hq
 obtain ⟨m0,m1,m2,m3,m4,m5,m6,m7,m8,m9,m10⟩:=aD K1.out.k.n;go_enter Tryz.func108,Tryz.ntmps108
 go_upto_region 1 with fail
 rw [show ((w.alloc (.cells #[.string x.fn,.int .i64 x.k,.string x.e.op,.string x.e.nm,.int .i64 x.e.n,.slice p.ea x.e.ks.len p.ec,.string x.g.op,.string x.g.nm,.int .i64 x.g.n,.slice p.ga x.g.ks.len p.gc,.slice p.wa x.wh.length p.wc] 28)).alloc (.cells #[.bool kk,.bool ee,.bool bb] 102)).alloc (.cells #[.int .i64 0,.int .i64 0] 131)=W from HW.out];go_wp2_with fail
 clear m0 m1 m2 m3 m4 m5 m6 m7 m8 m9 m10;go_loopw [9,15] (fun v9 i wr=>∃ (k:Nat) (u:Value),v9=u/\i=.int .i64 k/\k<=x.wh.length/\Hid (dT g (x.wh.drop k)=tk)/\Hid (TKW w x p wr)) (fun _ i _=>x.wh.length-(intOf i).toNat)
 case atStart=>exact ⟨0,_,rfl,rfl,Nat.zero_le _,T0,K1⟩
 case round =>
  obtain ⟨k,u,rfl,rfl,hk,HT,HK⟩:=hrel;clear T0 K1;by_cases hlt:k<x.wh.length
  · obtain ⟨d,hd⟩:∃ d,x.wh[k]? = some d:=⟨_,List.getElem?_eq_getElem hlt⟩
    have hne:¬ x.wh=[]:=fun e=>by rw [e] at hlt;simp at hlt
    obtain ⟨b,off,hwa, -,hbl,hcc⟩:=HK.out.k.r.c.resolve_left hne;obtain ⟨a1,c1,a2,c2,⟨p0,p1,p2,p3,p4,p5,p6,p7,p8⟩,r1,r2⟩:=hcc k d hd
    have hdr:x.wh.drop k=d::x.wh.drop (k+1):=by
     rw [List.drop_eq_getElem_cons hlt];have:=List.getElem?_eq_getElem hlt;rw [this] at hd;rw [Option.some.inj hd]
    have HD:=aA (show (wL g d && dT g (x.wh.drop (k+1)))=tk by rw [<- HT.out,hdr,Dc]);have BD:=(Below.refl wr.heap.size wr).alloc (Nat.le_refl _) (cdX d a1 c1 a2 c2);have ND:=heap_alloc_new wr (cdX d a1 c1 a2 c2);have K4:=aA (HK.out.step BD);have CC:=aA (HC.out d (List.mem_of_getElem? hd) (wr.alloc (cdX d a1 c1 a2 c2)) a1 c1 a2 c2 (r1.kept BD) (r2.kept BD) (HY.out _ K4.out.k.b));obtain ⟨z,hz⟩:∃ z,wL g d=z:=⟨_,rfl⟩;rw [hz] at CC HD;rw [hwa];have b1:(k:Int)<(x.wh.length:Int):=by omega
    have b2:(0:Int)<=(k:Int):=by omega
    have b3:((k:Int)).toNat=k:=by omega
    clear hne hcc hdr hd r1 r2 BD hz hwa HT HK;go_upto_region 4 with fail
    rw [show wr.alloc (.cells #[.string d.op,.string d.a.op,.string d.a.nm,.int .i64 d.a.n,.slice a1 d.a.ks.len c1,.string d.b.op,.string d.b.nm,.int .i64 d.b.n,.slice a2 d.b.ks.len c2] 98)=wr.alloc (cdX d a1 c1 a2 c2) from rfl];generalize wr.alloc (cdX d a1 c1 a2 c2)=V1 at *;clear p0 p1 p2 p3 p4 p5 p6 p7 p8;obtain ⟨p0,p1,p2,p3,p4,p5,p6,p7,p8⟩:=kQ ND;clear ND;go_wp2_with fail
    refine CC.out.mono ?_;rintro e w5 ⟨rfl,hb5⟩;have K5:=aA (K4.out.step hb5);clear hb5 CC K4 p0 p1 p2 p3 p4 p5 p6 p7 p8;cases z with
    | true =>
      have HT2:=aA (show dT g (x.wh.drop (k+1))=tk from HD.out);go_wp2_with fail
      go_roundw
      case rel=>exact ⟨k+1,_,rfl,by go_num,by omega,HT2,K5⟩
      case measure=>simp [intOf];omega
    | false =>
      have HT2:=aA (show false=tk from HD.out);have TR:=aA (show q=none by rw [<- HQ.out, <- HT2.out];rfl);obtain ⟨⟨o0,o1⟩,g0,g1⟩:=two K5.out.o;go_wp2_with fail
      obtain ⟨⟨d0,d1⟩, -⟩:=two (mW K5.out.o (.int .i64 0) (.int .i64 0));have P:=K5.out.put (.int .i64 0) (.int .i64 0);have E:=TR.out;subst E;exact bodyPost_ret (v:=.tuple #[.agg #[.int .i64 0,.int .i64 0],.bool false]) (by simp [results,Tryz.results108,go_sem,d0,d1]) rfl ⟨0,0,rfl,nC _ _,P⟩
  · have HT2:=aA (show tk=true by rw [<- HT.out,List.drop_of_length_le (by omega)];rfl)
    have b1:¬ (k:Int)<(x.wh.length:Int):=by omega
    have b2:decide (k<x.wh.length)=false:=decide_eq_false hlt;have HQ2:=aA (show Hd true ee bb ve vb=q by rw [<- HT2.out];exact HQ.out);have BA:=(Below.refl wr.heap.size wr).alloc (Nat.le_refl _) (jG 0 0);have NA:=heap_alloc_new wr (jG 0 0);have K2:=aA (HK.out.step BA);have hD:=aC HK.out.o;clear HT HK BA HQ HT2;go_upto_region 8 with fail
    rw [show wr.alloc (.cells #[.int .i64 0,.int .i64 0] 131)=wr.alloc (jG 0 0) from rfl];generalize wr.alloc (jG 0 0)=V at *;generalize wr.heap.size=D at *;have hD3:w.heap.size+3<=D:=by omega
    have Q2:=aA NA;clear NA;obtain ⟨⟨y0,y1,y2⟩, -⟩:=cS (DT.out _ K2.out);obtain ⟨m0,m1,m2,m3,m4,m5,m6,m7,m8,m9,m10⟩:=aD K2.out.k.n;obtain ⟨⟨s0,s1⟩,f0,f1⟩:=two Q2.out;go_upto_if 26 with fail
    go_cut [11] (fun v11 wc=>∃ (u:Int) (z:Bool),v11=.bool z/\Hid (TKW w x p wc)/\Hid (wc.heap[D]? = some (jG u 0))/\Hid ((z=true->AB bb u vb=q)/\(z=false->q=none)))
    case first =>
     cases ee with
     | false =>
       have TS:=aA (show AB bb 0 vb=q from HQ2.out);go_wp2_with fail
       go_meet;case rel=>exact ⟨0,true,rfl,K2,Q2,aA ⟨fun _=>TS.out,fun h=>by cases h⟩⟩
     | true =>
       have CE:=aA (EVE.out (by first | rfl | trivial) V K2.out.k.r.e (HY.out _ K2.out.k.b));go_wp2_with fail
       refine CE.out.mono ?_;rintro e w6 ⟨rfl,hb6⟩;have K6:=aA (K2.out.step hb6);have Q6:=aA ((hb6.block _ (aC Q2.out)).trans Q2.out);clear hb6 CE m0 m1 m2 m3 m4 m5 m6 m7 m8 m9 m10 y0 y1 y2 s0 s1 f0 f1;obtain ⟨⟨s0,s1⟩,f0,f1⟩:=two Q6.out;cases ve with
       | none =>
         have TS:=aA (show none=q from HQ2.out);have K7:=aA (K6.out.set hD3 0 (.int .i64 0));have Q7:=aA (yO Q6.out (.int .i64 0));go_wp2_with fail
         go_meet;case rel=>exact ⟨0,false,rfl,K7,Q7,aA ⟨fun h=>(by cases h),fun _=>TS.out.symm⟩⟩
       | some e1 =>
         have TS:=aA (show AB bb e1 vb=q from HQ2.out);have K7:=aA (K6.out.set hD3 0 (.int .i64 e1));have Q7:=aA (yO Q6.out (.int .i64 e1));go_wp2_with fail
         go_meet;case rel=>exact ⟨e1,true,rfl,K7,Q7,aA ⟨fun _=>TS.out,fun h=>by cases h⟩⟩
    case rest =>
     obtain ⟨u,z,rfl,K3,Q3,HS⟩:=hcut;clear K2 Q2 HQ2 m0 m1 m2 m3 m4 m5 m6 m7 m8 m9 m10 y0 y1 y2 s0 s1 f0 f1;obtain ⟨⟨y0,y1,y2⟩, -⟩:=cS (DT.out _ K3.out);obtain ⟨m0,m1,m2,m3,m4,m5,m6,m7,m8,m9,m10⟩:=aD K3.out.k.n;cases z with
     | false =>
       have HS2:=aA (show q=none from HS.out.2 rfl);cases bb with
       | false =>
         have TR:=aA (show none=q from HS2.out.symm);obtain ⟨⟨o0,o1⟩,g0,g1⟩:=two K3.out.o;obtain ⟨⟨s0,s1⟩,f0,f1⟩:=two Q3.out;go_wp2_with fail
         obtain ⟨⟨d0,d1⟩, -⟩:=two (mW K3.out.o (.int .i64 u) (.int .i64 0));have P:=K3.out.put (.int .i64 u) (.int .i64 0);have E:=TR.out;subst E;exact bodyPost_ret (v:=.tuple #[.agg #[.int .i64 u,.int .i64 0],.bool false]) (by simp [results,Tryz.results108,go_sem,d0,d1]) rfl ⟨u,0,rfl,nC _ _,P⟩
       | true =>
         have TR:=aA (show none=q from HS2.out.symm);obtain ⟨⟨o0,o1⟩,g0,g1⟩:=two K3.out.o;obtain ⟨⟨s0,s1⟩,f0,f1⟩:=two Q3.out;go_wp2_with fail
         obtain ⟨⟨d0,d1⟩, -⟩:=two (mW K3.out.o (.int .i64 u) (.int .i64 0));have P:=K3.out.put (.int .i64 u) (.int .i64 0);have E:=TR.out;subst E;exact bodyPost_ret (v:=.tuple #[.agg #[.int .i64 u,.int .i64 0],.bool false]) (by simp [results,Tryz.results108,go_sem,d0,d1]) rfl ⟨u,0,rfl,nC _ _,P⟩
     | true =>
       have HS2:=aA (show AB bb u vb=q from HS.out.1 rfl);cases bb with
       | false =>
         have HS3:=aA (show some (u,(0:Int))=q from HS2.out);have TR:=aA (show some (u,(0:Int))=q from HS3.out);obtain ⟨⟨o0,o1⟩,g0,g1⟩:=two K3.out.o;obtain ⟨⟨s0,s1⟩,f0,f1⟩:=two Q3.out;go_wp2_with fail
         obtain ⟨⟨d0,d1⟩, -⟩:=two (mW K3.out.o (.int .i64 u) (.int .i64 0));have P:=K3.out.put (.int .i64 u) (.int .i64 0);have E:=TR.out;subst E;exact bodyPost_ret (v:=.tuple #[.agg #[.int .i64 u,.int .i64 0],.bool true]) (by simp [results,Tryz.results108,go_sem,d0,d1]) rfl ⟨u,0,rfl,vH _ _,P⟩
       | true =>
         have CB:=aA (EVG.out (by first | rfl | trivial) wc K3.out.k.r.g (HY.out _ K3.out.k.b));go_wp2_with fail
         refine CB.out.mono ?_;rintro e w8 ⟨rfl,hb8⟩;have K8:=aA (K3.out.step hb8);have Q8:=aA ((hb8.block _ (aC Q3.out)).trans Q3.out);clear hb8 CB m0 m1 m2 m3 m4 m5 m6 m7 m8 m9 m10 y0 y1 y2;obtain ⟨⟨s0,s1⟩,f0,f1⟩:=two Q8.out;cases vb with
         | none =>
           have HS3:=aA (show none=q from HS2.out);have K9:=aA (K8.out.set hD3 1 (.int .i64 0));have Q9:=aA (yN Q8.out (.int .i64 0));go_upto_region 13 with fail
           obtain ⟨Y,hY⟩:∃ Y,w8.setCell ⟨D,1,none⟩ (.int .i64 0)=Y:=⟨_,rfl⟩;rw [hY] at K9 Q9 |-
           clear hY s0 s1 f0 f1;have TR:=aA (show none=q from HS3.out);obtain ⟨⟨o0,o1⟩,g0,g1⟩:=two K9.out.o;obtain ⟨⟨s0,s1⟩,f0,f1⟩:=two Q9.out;go_wp2_with fail
           obtain ⟨⟨d0,d1⟩, -⟩:=two (mW K9.out.o (.int .i64 u) (.int .i64 0));have P:=K9.out.put (.int .i64 u) (.int .i64 0);have E:=TR.out;subst E;exact bodyPost_ret (v:=.tuple #[.agg #[.int .i64 u,.int .i64 0],.bool false]) (by simp [results,Tryz.results108,go_sem,d0,d1]) rfl ⟨u,0,rfl,nC _ _,P⟩
         | some b1 =>
           have HS3:=aA (show some (u,b1)=q from HS2.out);have K9:=aA (K8.out.set hD3 1 (.int .i64 b1));have Q9:=aA (yN Q8.out (.int .i64 b1));go_upto_region 13 with fail
           obtain ⟨Y,hY⟩:∃ Y,w8.setCell ⟨D,1,none⟩ (.int .i64 b1)=Y:=⟨_,rfl⟩;rw [hY] at K9 Q9 |-
           clear hY s0 s1 f0 f1;have TR:=aA (show some (u,b1)=q from HS3.out);obtain ⟨⟨o0,o1⟩,g0,g1⟩:=two K9.out.o;obtain ⟨⟨s0,s1⟩,f0,f1⟩:=two Q9.out;go_wp2_with fail
           obtain ⟨⟨d0,d1⟩, -⟩:=two (mW K9.out.o (.int .i64 u) (.int .i64 b1));have P:=K9.out.put (.int .i64 u) (.int .i64 b1);have E:=TR.out;subst E;exact bodyPost_ret (v:=.tuple #[.agg #[.int .i64 u,.int .i64 b1],.bool true]) (by simp [results,Tryz.results108,go_sem,d0,d1]) rfl ⟨u,b1,rfl,vH _ _,P⟩
theorem kO {w:World} {base:Nat} {e:TypeId} {size:Nat} {a:Option Addr} {n c j:Nat} {xs:List Value} {u:Value} (h:w.ownsRow base e size (.slice a n c) n xs) (hj:xs[j]? = some u):∃ g,a=some ⟨g,0,none⟩/\w.cell? ⟨g,j,none⟩=some u:=by
 cases a with
 | none =>
   rcases h.2 with ⟨_,h2⟩ | ⟨g,cap,cur,h1,_⟩
   · have:=h.1
     subst h2;rw [Nat.zero_mul] at this;rw [List.length_eq_zero_iff.1 this] at hj;cases hj
   · cases h1
 | some a =>
   obtain ⟨g,h1,h2⟩:=nH h hj;exact ⟨g,by rw [h1],h2⟩
theorem Fu {w:World} {base:Nat} {e:TypeId} {a:Option Addr} {c n:Nat} {xs:List Value} (h:w.ownsRow base e 1 (.slice a n c) n xs):n<=c/\c<=maxLen:=by
 rcases h.2 with ⟨h,_⟩ | ⟨g,cap,cur,h,_,_,h1,h2,_⟩
 · simp only [Value.slice.injEq] at h
   obtain ⟨_,rfl,rfl⟩:=h;exact ⟨Nat.le_refl _,Nat.zero_le _⟩
 · simp only [Value.slice.injEq] at h
   obtain ⟨_,_,rfl⟩:=h;exact ⟨h1,h2⟩
theorem cY {W:World} {base:Nat} {e:TypeId} {size:Nat} {v:Value} {k:Nat} {xs:List Value} (h:W.ownsRow base e size v k xs):∃ a cap,v=.slice a k cap:=by
 rcases h.2 with ⟨rfl,rfl⟩ | ⟨g,cap,_,rfl,_⟩
 · exact ⟨_,_,rfl⟩
 · exact ⟨_,_,rfl⟩
structure RW where
 n:Nat
 A:Nat->Wr.AD
 g:ByteArray->Option Int
def dI (w:World) (a:Option Addr) (rs:List RW):Prop:=rs=[]\/∃ b off,a=some ⟨b,off,none⟩/\b<w.heap.size/\∀ j r,rs[j]? = some r->∃ y cy,w.cell? ⟨b,off+j,none⟩=some (.slice y r.n cy)/\Wr.ReadsA w y r.n r.A
abbrev vlV (k n:Int) (a:Option Addr) (l c:Nat):Value:=.agg #[.int .i64 k,.int .i64 n,.string ⟨#[]⟩,.slice a l c]
def BQ (r:EvR) (w0:World) (e:Ending) (w':World):Prop:=Below w0.heap.size w0 w' /\
 match r with
 | .no=>e=.returned (.tuple #[vlV 0 0 none 0 0,.bool false])
 | .num n=>e=.returned (.tuple #[vlV 1 n none 0 0,.bool true])
 | .list l=>∃ a c,e=.returned (.tuple #[vlV 3 0 a l.length c,.bool true])/\(l=[]\/∃ b off,a=some ⟨b,off,none⟩/\w0.heap.size<=b/\b<w'.heap.size/\∀ j n,l[j]? = some n->w'.cell? ⟨b,off+j,none⟩=some (.int .i64 n))
section
variable {s:ES} {k:Nat}
end
section
variable {x:AG} {g:ByteArray->Option Int} {s:ES} {v:Int}
end
section
variable {G:Nat->Prop} {w V:World} {x:AG} {p:PA} {T:List Int} {ta:Option Addr} {tc:Nat}
end
end
section
open Go.RowKit Go.Shelf
attribute [local go_sem] Oper.semAt_some
def iV (x:AG) (gs:List (ByteArray->Option Int)):List (Int×Int):=gs.filterMap (kF x)
theorem De (x:AG) (gs:List (ByteArray->Option Int)) (g:ByteArray->Option Int):iV x (gs++[g])=iV x gs++(match kF x g with | none=>[] | some q=>[q]):=by
 unfold iV;rw [List.filterMap_append];congr 1
 simp only [List.filterMap_cons,List.filterMap_nil];cases kF x g <;> rfl
theorem yV (x:AG) {gs:List (ByteArray->Option Int)} (k:Nat):iV x (gs.take k) <+: iV x gs:=by
 unfold iV;exact ((List.take_prefix k gs).filterMap _)
theorem e8 {w w':World} {a:Option Addr} {rs:List RW} (h:dI w a rs) (hb:Below w.heap.size w w'):dI w' a rs :=
 h.imp id fun ⟨b,off,e,hlt,hc⟩=>⟨b,off,e,Nat.lt_of_lt_of_le hlt hb.size,fun j r hj=>by
  obtain ⟨y,cy,c0,rd⟩:=hc j r hj;exact ⟨y,cy,(hb.cell (p:=⟨b,off+j,none⟩) hlt).trans c0,rd.kept hb⟩⟩
structure OkX (x:AG):Prop where
 e:eP x.fn.data.toList=true->OkE x.e
 g:bP x.fn.data.toList=true->OkE x.g
 c:∀ d∈x.wh,OkE d.a/\OkE d.b
 l:x.wh.length<=1000
theorem yW {x:AG} (h:OkX x) {A:Nat->Wr.AD} {n:Nat} {g:ByteArray->Option Int} (U:j5 A n g) {q:Int×Int} (hq:kF x g=some q):bM q.1/\bM q.2:=by
 have z:bM 0:=by unfold bM;omega
 unfold kF at hq;have hE:eP x.fn.data.toList=true->∀ v,evT g x.e=some v->bM v:=fun he=>(xD U x.e ((aN _).1 (h.e he).c).1 (h.e he).n).2
 have hG:bP x.fn.data.toList=true->∀ v,evT g x.g=some v->bM v:=fun he=>(xD U x.g ((aN _).1 (h.g he).c).1 (h.g he).n).2
 generalize dT g x.wh=tk at hq;generalize evT g x.e=oe at hq hE;generalize evT g x.g=ob at hq hG;generalize eP x.fn.data.toList=ee at hq hE;generalize bP x.fn.data.toList=bb at hq hG;cases tk <;> cases ee <;> cases bb <;> cases oe <;> cases ob <;> simp only [Hd,AB,Option.some.injEq,reduceCtorEq] at hq <;> subst hq <;> refine ⟨?_,?_⟩ <;> first | exact z | exact hE rfl _ rfl | exact hG rfl _ rfl
abbrev rwO (ya:Option Addr) (l yc:Nat):Obj:=.cells #[.slice ya l yc] 49
theorem Fe (n l bl ba bp:Nat) (x:AG) (p:PA) (rs:List RW) (ya:Option Addr) (yc:Nat) (W0:World) (hX:OkX x) (hU:∀ r∈rs,j5 r.A r.n r.g) (hl:rs.length<=1000)
 (hr:aJ (fun b=>b<W0.heap.size) W0 x p) (hy:dI W0 ya rs) (hbl:W0.heap[bl]? = some (rwO ya rs.length yc)) (hba:W0.heap[ba]? = some (agP x p))
 (hbp:W0.heap[bp]? = some (ptO (kP x.fn.data.toList) (eP x.fn.data.toList) (bP x.fn.data.toList))) (J Jx:List (Int×Int)->World->Prop) (W:World) (hJ:AbidesFrom W.heap.size J)
 (hY:∀ pre q W1,bM q.1->bM q.2->J pre W1->pre.length<(iV x (rs.map RW.g)).length->YieldAt Fence.wide n Tryz.prog l #[AA q] W1 fun e W'=>(e=.returned (.bool true)/\J (pre++[q]) W'/\Below W0.heap.size W1 W')\/(e=.returned (.bool false)/\Jx (pre++[q]) W'))
 (hW:Below W0.heap.size W0 W) (h0:J [] W) :
 CallsIn Fence.wide (n+1) Tryz.prog 107 #[.func (.yield l) #[] #[],.pointer (some ⟨bl,0,none⟩),.pointer (some ⟨ba,0,none⟩),.pointer (some ⟨bp,0,none⟩)] W fun e W' =>
  (∃ v,e=.returned v)/\((∃ ys,ys=iV x (rs.map RW.g)/\J ys W')\/(∃ pre,pre <+: iV x (rs.map RW.g)/\Jx pre W')):=by
 refine callsIn_of_wp Tryz.func107 rfl trivial ?_ rfl;simp only [Tryz.ntmps107,List.size_toArray,List.length_cons,List.length_nil,Nat.reduceAdd,Nat.reduceSub,Array.replicate_succ,Array.replicate_zero,List.push_toArray,List.append_toArray,List.nil_append,List.cons_append]
 have cl:W.cell? ⟨bl,0,none⟩=some (.slice ya rs.length yc):=by
  have:=(hW.block bl (aC hbl)).trans hbl;simp [World.cell?,this]
 gi_wp2
 clear cl;gi_loopw [6,7,8,11] (fun v6 v7 v8 i wr=>∃ (k:Nat) (y6 y7 y8:Value),v6=y6/\v7=y7/\v8=y8/\i=.int .i64 k/\k<=rs.length/\Below W0.heap.size W0 wr/\W.heap.size<=wr.heap.size/\J (iV x ((rs.map RW.g).take k)) wr) (fun _ _ _ i _=>rs.length-(intOf i).toNat)
 case atStart=>exact ⟨0,_,_,_,rfl,rfl,rfl,rfl,Nat.zero_le _,hW,Nat.le_refl _,h0⟩
 case round =>
  obtain ⟨k,y6,y7,y8,rfl,rfl,rfl,rfl,hk,hb,hz,hJs⟩:=hrel;by_cases hlt:k<rs.length
  · obtain ⟨r,hrk⟩:∃ r,rs[k]? = some r:=⟨_,List.getElem?_eq_getElem hlt⟩
    have hne:¬ rs=[]:=fun e=>by rw [e] at hlt;simp at hlt
    obtain ⟨b,off,rfl,hbs,hcc⟩:=(e8 hy hb).resolve_left hne;obtain ⟨yr,cyr,c0,rd⟩:=hcc k r hrk;have hba1:=(hb.block ba (aC hba)).trans hba;have hbp1:=(hb.block bp (aC hbp)).trans hbp;obtain ⟨m0,m1,m2,m3,m4,m5,m6,m7,m8,m9,m10⟩:=aD hba1;obtain ⟨q0,q1,q2⟩:=cS hbp1;have hrA:aJ (fun b=>b<W0.heap.size) wr x p:=hr.kept hb;have TK:=aA (Dd (hU r (List.mem_of_getElem? hrk)) x p yr cyr wr hX.e hX.g hX.c hX.l hrA rd)
    have hgs:(rs.map RW.g).take (k+1)=(rs.map RW.g).take k++[r.g]:=by
     rw [List.take_add_one];simp [hrk]
    have hsn:=De x ((rs.map RW.g).take k) r.g;rw [<- hgs] at hsn;have hgr:∀ W3,Below wr.heap.size wr W3->wr.grownBy W3 none:=fun W3 h=>⟨h.os,h.tape,h.output,h.size,fun k hk _=>h.block k hk⟩
    cases htk:kF x r.g with
    | none =>
      rw [htk] at TK hsn;gi_wp2_with (refine ⟨trivial,?_⟩;gi_at_call 108;refine (callsIn_wide.2 TK.out).mono ?_;rintro e w1 ⟨u,v,rfl,hsay,hb1⟩)
      refine ⟨fun _ h=>(by cases h),?_⟩;gi_wp2
      go_roundw
      case rel=>exact ⟨k+1,_,_,_,rfl,rfl,rfl,by go_num,hlt,(hb.trans (hb1.mono hb.size)).alloc (Nat.le_trans hb.size hb1.size) _,by have:=hb1.size;simp;omega,by
       rw [hsn,List.append_nil];exact hJ _ _ _ _ (hJ _ _ _ _ hJs (hgr _ hb1) (fun r e=>by cases e)) (World.grownBy_alloc _ _ none) (fun r e=>by cases e)⟩
      case measure=>simp [intOf];omega
    | some q =>
      rw [htk] at TK hsn;have hin:=yW hX (hU r (List.mem_of_getElem? hrk)) htk
      have hlen:(iV x ((rs.map RW.g).take k)).length<(iV x (rs.map RW.g)).length:=by
       have h1:=(yV x (gs:=rs.map RW.g) (k+1)).length_le;rw [hsn,List.length_append] at h1;simp at h1;omega
      have hyl:=fun w1 (hb1:Below wr.heap.size wr w1)=>hY (iV x ((rs.map RW.g).take k)) q (w1.alloc (jG q.1 q.2)) hin.1 hin.2 (hJ _ _ _ _ (hJ _ _ _ _ hJs (hgr _ hb1) (fun r e=>by cases e)) (World.grownBy_alloc _ _ none) (fun r e=>by cases e)) hlen
      gi_wp2_with (refine ⟨trivial,?_⟩;gi_at_call 108;refine (callsIn_wide.2 TK.out).mono ?_;rintro e w1 ⟨u,v,rfl,hsay,hb1⟩;obtain rfl:=hsay _ rfl;obtain ⟨fn,tmps,assign,body,hyy,hR⟩:=hyl w1 hb1;dsimp only at hyy)
      refine hR.mono ?_;clear hR;rintro e W3 (⟨rfl,hJ3,hk3⟩ | ⟨rfl,hJx3⟩)
      · gi_wp2
        go_roundw
        case rel=>exact ⟨k+1,_,_,_,rfl,rfl,rfl,by go_num,hlt,((hb.trans (hb1.mono hb.size)).alloc (Nat.le_trans hb.size hb1.size) _).trans hk3,by have:=hb1.size;have:=hk3.size;simp at this;omega,by rw [hsn];exact hJ3⟩
        case measure=>simp [intOf];omega
      · gi_wp2
        refine bodyPost_ret (results_none rfl _ _ _) rfl ?_;exact ⟨⟨_,rfl⟩,.inr ⟨iV x ((rs.map RW.g).take (k+1)),yV x _,by rw [hsn];exact hJx3⟩⟩
  · obtain rfl:k=rs.length:=by omega
    rw [List.take_of_length_le (by simp)] at hJs;gi_wp2
    go_end0
    exact ⟨⟨_,rfl⟩,.inl ⟨_,rfl,hJs⟩⟩
end
section
open Go.RowKit Go.Shelf
abbrev Q64:Type:={ q:Int×Int // bM q.1/\bM q.2 }
abbrev tkE (q:Q64):Array Value:=#[AA q.1]
theorem pG:∀ (l:List (Int×Int)),(∀ q∈l,bM q.1/\bM q.2)->∃ L:List Q64,L.map Subtype.val=l
 | [],_=>⟨[],rfl⟩
 | q :: l, h => by
   obtain ⟨L,rfl⟩:=pG l (fun z hz=>h z (List.mem_cons_of_mem _ hz));exact ⟨⟨q,h q (List.mem_cons_self ..)⟩::L,rfl⟩
theorem wT {x:AG} (h:OkX x) {rs:List RW} (hU:∀ r∈rs,j5 r.A r.n r.g):∀ q∈iV x (rs.map RW.g),bM q.1/\bM q.2:=by
 intro q hq;unfold iV at hq;rw [List.mem_filterMap] at hq;obtain ⟨g,hg,hz⟩:=hq;rw [List.mem_map] at hg;obtain ⟨r,hr,rfl⟩:=hg;exact yW h (hU r hr) hz
structure yF (B:Nat) (W:World) (x:AG) (p:PA) (rs:List RW) (ya:Option Addr) (yc bl ba bp:Nat):Prop where
 l:W.heap[bl]? = some (rwO ya rs.length yc)
 a:W.heap[ba]? = some (agP x p)
 q:W.heap[bp]? = some (ptO (kP x.fn.data.toList) (eP x.fn.data.toList) (bP x.fn.data.toList))
 rd:aJ (fun b=>b<W.heap.size) W x p
 ry:dI W ya rs
abbrev tkF (bl ba bp:Nat):Array Value:=#[.pointer (some ⟨bl,0,none⟩),.pointer (some ⟨ba,0,none⟩),.pointer (some ⟨bp,0,none⟩)]
theorem rI {l m:List Q64} (h:l.map Subtype.val=m.map Subtype.val):l=m:=(List.map_inj_right (fun _ _ e=>Subtype.ext e)).1 h
theorem mC (n:Nat) {B bl ba bp yc:Nat} {x:AG} {p:PA} {rs:List RW} {ya:Option Addr} {w:World} (hX:OkX x) (hU:∀ r∈rs,j5 r.A r.n r.g) (hl:rs.length<=1000) (h:yF B w x p rs ya yc bl ba bp)
 (L:List Q64) (hL:L.map Subtype.val=iV x (rs.map RW.g)) :
 SeqStopsK Fence.wide (n+1) Tryz.prog 107 (tkF bl ba bp) tkE (Below w.heap.size) (fun ys=>ys=L) (fun pre=>pre <+: L) L.length w:=fun l J Jx W hW hJ _ hY h0=>by
 refine (Fe n l bl ba bp x p rs ya yc w hX hU hl h.rd h.ry h.l h.a h.q (fun pre V=>∃ pre',pre'.map Subtype.val=pre/\J pre' V) (fun pre V=>∃ pre',pre'.map Subtype.val=pre/\Jx pre' V) W ?_ ?_ hW ⟨[],rfl,h0⟩).mono ?_
 · rintro s X Y row ⟨s',e,hs⟩ hg hr
   exact ⟨s',e,hJ s' X Y row hs hg hr⟩
 · rintro pre q W1 h1 h2 ⟨pre',rfl,hj⟩ hlen
   rw [<- hL,List.length_map,List.length_map] at hlen;refine (hY pre' ⟨q,h1,h2⟩ W1 hj hlen).mono ?_;rintro e W' (⟨he,hj',hk⟩ | ⟨he,hj'⟩)
   · exact .inl ⟨he,⟨_,by simp,hj'⟩,hk⟩
   · exact .inr ⟨he,⟨_,by simp,hj'⟩⟩
 · rintro e W' ⟨hv,(⟨ys,rfl,pre',e',hj⟩ | ⟨pre,hp,pre',rfl,hj⟩)⟩
   · exact ⟨hv,.inl ⟨pre',rI (e'.trans hL.symm),hj⟩⟩
   · refine ⟨hv,.inr ⟨pre',?_,hj⟩⟩
     rw [<- hL] at hp;show pre' <+: L;rw [List.prefix_iff_eq_take] at hp |-
     rw [List.length_map, <- List.map_take] at hp;exact rI hp
theorem yS {w:World} {x:AG} {p:PA} {rs:List RW} {ya:Option Addr} {yc:Nat} {G:Nat->Prop} (hr:aJ G w x p) (hy:dI w ya rs) {V:World} (hV:Below ((w.alloc (agP x p)).alloc (rwO ya rs.length yc)).heap.size ((w.alloc (agP x p)).alloc (rwO ya rs.length yc)) V) :
 yF w.heap.size (V.alloc (ptO (kP x.fn.data.toList) (eP x.fn.data.toList) (bP x.fn.data.toList))) x p rs ya yc (w.heap.size+1) w.heap.size V.heap.size/\Below w.heap.size w (V.alloc (ptO (kP x.fn.data.toList) (eP x.fn.data.toList) (bP x.fn.data.toList))):=by
 have B1:=(Below.refl w.heap.size w).alloc (Nat.le_refl _) (agP x p);have N1:=heap_alloc_new w (agP x p);have hs1:(w.alloc (agP x p)).heap.size=w.heap.size+1:=World.size_alloc _ _;generalize w.alloc (agP x p)=W1 at *;have B2:=(Below.refl W1.heap.size W1).alloc (Nat.le_refl _) (rwO ya rs.length yc);have N2:=heap_alloc_new W1 (rwO ya rs.length yc);have hs2:(W1.alloc (rwO ya rs.length yc)).heap.size=W1.heap.size+1:=World.size_alloc _ _;generalize W1.alloc (rwO ya rs.length yc)=W2 at *;have B3:=(Below.refl V.heap.size V).alloc (Nat.le_refl _) (ptO (kP x.fn.data.toList) (eP x.fn.data.toList) (bP x.fn.data.toList));have N3:=heap_alloc_new V (ptO (kP x.fn.data.toList) (eP x.fn.data.toList) (bP x.fn.data.toList));generalize V.alloc (ptO (kP x.fn.data.toList) (eP x.fn.data.toList) (bP x.fn.data.toList))=W3 at *;have hz:=hV.size;have hz3:=B3.size;have B13:Below W1.heap.size W1 W3:=B2.trans ((hV.trans (B3.mono hz)).mono (by omega));have B03:Below w.heap.size w W3:=B1.trans (B13.mono (by omega));rw [hs1] at N2;refine ⟨⟨?_,?_,N3,(hr.kept B03).imp (fun b hb _=>?_),e8 hy B03⟩,B03⟩
 · exact ((hV.trans (B3.mono hz)).block _ (by omega)).trans N2
 · exact (B13.block _ (by omega)).trans N1
 · exact hb
theorem mD {G:Nat->Prop} (x:AG) (p:PA) (rs:List RW) (ya:Option Addr) (yc:Nat) (w:World) (hr:aJ G w x p) (hy:dI w ya rs) :
 Calls Tryz.prog 57 #[agV x p,.slice ya rs.length yc] w fun e w'=>∃ bl ba bp,e=.returned (.func (.func 107) #[] (tkF bl ba bp))/\yF w.heap.size w' x p rs ya yc bl ba bp/\Below w.heap.size w w':=by
 have TN:=aA (fun V hV=>yS (yc:=yc) (V:=V) hr hy hV);have hs0:((w.alloc (agP x p)).alloc (rwO ya rs.length yc)).heap.size=w.heap.size+2:=by simp
 have B1:=(Below.refl w.heap.size w).alloc (Nat.le_refl _) (agP x p)
 have N0:((w.alloc (agP x p)).alloc (rwO ya rs.length yc)).heap[w.heap.size]? = some (agP x p):=by
  have h1:=heap_alloc_new w (agP x p);exact (((Below.refl _ (w.alloc (agP x p))).alloc (Nat.le_refl _) (rwO ya rs.length yc)).block _ (by simp)).trans h1
 have CP:=aA (i8 x.fn ((w.alloc (agP x p)).alloc (rwO ya rs.length yc)));generalize hW:(w.alloc (agP x p)).alloc (rwO ya rs.length yc)=W at *;have HW:=aA hW;obtain ⟨m0,m1,m2,m3,m4,m5,m6,m7,m8,m9,m10⟩:=aD N0;unfold ptV at CP;clear hr hy B1 hW N0;go_enter Tryz.func57,Tryz.ntmps57
 go_upto_region 1 with fail
 rw [show (w.alloc (.cells #[.string x.fn,.int .i64 x.k,.string x.e.op,.string x.e.nm,.int .i64 x.e.n,.slice p.ea x.e.ks.len p.ec,.string x.g.op,.string x.g.nm,.int .i64 x.g.n,.slice p.ga x.g.ks.len p.gc,.slice p.wa x.wh.length p.wc] 28)).alloc (.cells #[.slice ya rs.length yc] 49)=W from HW.out];go_wp2_with fail
 refine CP.out.mono ?_;rintro e w1 ⟨rfl,hb⟩;go_wp2_with fail
 go_ret;obtain ⟨T1,T2⟩:=TN.out w1 hb;exact ⟨_,_,_,rfl,T1,T2⟩
end
end Go.Proofs.YtapcjnoaofmmiaaGreatDoor
