/-
 No statement: what AggTextsCard needs, of the texts QOk, QBack, QText, OW1, OW2, OW3, HEval, HEvalT, OHold, OTake, QSup, QREval.
-/
import Derived.Test.YtapcjnoaofmmiaaGreatDoorVT12
import Derived.Deep.LoopGhost
import Derived.Shelf.Spec.SlicesInsertGrow
import Derived.Lib.SlicesDelete
import Derived.Lib.ItoaLen
import Derived.Laws.BytesString
import Derived.RangeFuncBox
import Derived.Maps.AppendAt
import Derived.Deep.Slices
import Derived.Deep.Fields
import Derived.ChangeSame
import Derived.RangeFuncNested
import Derived.RangeFuncBound
import Derived.RangeFuncCalls
import Derived.RangeFuncLeaves
import Derived.Shelf.Abstract
import Derived.Shelf.RegionOpen
import Derived.OwnWalkIn
import Derived.TacticsInMore
import Derived.LoopNIn
import Derived.LoopIn
import Derived.Lib.IndexLaws
import Derived.Maps.OwnIn
import Derived.Deep.DeepCutAuto
import Derived.Deep.CutBlock
set_option maxHeartbeats 40000000
set_option maxRecDepth 100000
namespace Go.Proofs.YtapcjnoaofmmiaaGreatDoor
open Go.RowKit
section
open Go.RowKit
theorem lC {L:List Tk} (hL:∀ t∈L,cK t) {s:RS} (hp:iY L.length s) (h:(a8 L s).2.bad=0):s.bad=0/\aL (a8 L s).1=0:=by
 unfold a8 at h |-
 by_cases hb:s.bad=0
 · rw [if_pos hb] at h |-
   cases ho:ofL L s.pos with
   | ok t q=>exact ⟨hb,(Ad hL ho).1⟩
   | bad q e =>
     rw [ho] at h;exact absurd h ((oX (hp.1 hb)).2 q e ho).2
 · rw [if_neg hb] at h
   exact absurd h hb
theorem iH {e:Int} (he:¬ e=0) (s:RS):¬ (aR e s).bad=0:=lA e he s
theorem sL {L:List Tk} {x:List UInt8} {s:RS} (h:(aU L x s).bad=0):s.bad=0:=by
 unfold aU at h;by_cases hb:s.bad=0
 · exact hb
 · rw [if_neg hb] at h;exact h
theorem Ic {L:List Tk} {s:RS} (h:(jY L s).2.bad=0):s.bad=0/\¬ ((jY L s).1<1\/16<(jY L s).1):=by
 unfold jY at h |-
 by_cases hb:s.bad=0
 · rw [if_pos hb] at h |-
   refine ⟨hb,?_⟩;cases ht:L[s.pos]? with
   | none=>rw [ht] at h;exact absurd h (iH (by decide) s)
   | some t =>
     rw [ht] at h;simp only at h |-
     by_cases h2:t.kind=2
     · rw [if_pos h2] at h |-
       simp only at h |-
       by_cases hk:t.num<1\/16<t.num
       · rw [if_pos hk] at h
         exact absurd h (iH (by decide) s)
       · exact hk
     · rw [if_neg h2] at h
       exact absurd h (iH (by decide) s)
 · rw [if_neg hb] at h;exact absurd h hb
theorem Hi {L:List Tk} (hL:∀ t∈L,cK t) {fn:List UInt8} {s:RS} (hs:iY L.length s) (h:(bG L fn s).2.bad=0) :
 s.bad=0/\iY L.length (bG L fn s).2/\(fn=cQ->¬ ((bG L fn s).1.1<1\/16<(bG L fn s).1.1))/\(¬ fn=aQ->aL (bG L fn s).1.2.1=0)/\(fn=aW->aL (bG L fn s).1.2.2=0):=by
 unfold bG at h |-
 by_cases hc:fn=aQ
 · rw [if_pos hc] at h |-
   subst hc;exact ⟨h,hs,fun e=>absurd e (by decide),fun e=>absurd rfl e,fun e=>absurd e (by decide)⟩
 rw [if_neg hc] at h |-
 by_cases ht:fn=cQ
 · subst ht
   have hf:¬ cQ=aW:=by decide
   simp only [if_pos,if_neg hf] at h |-
   have f1:=Ib (L:=L) hs;have f2:=pG (x:=[44]) f1;have e:=lC hL f2 h;have t:=Ic (sL e.1);exact ⟨t.1,lB f2,fun _=>t.2,fun _=>e.2,fun e=>absurd e hf⟩
 · simp only [if_neg ht] at h |-
   by_cases hf:fn=aW
   · simp only [if_pos hf] at h |-
     have f1:=lB (L:=L) hs;have f2:=pG (x:=[44]) f1;have e:=lC hL f2 h;have d:=lC hL hs (sL e.1);exact ⟨d.1,lB f2,fun x=>absurd x ht,fun _=>d.2,fun _=>e.2⟩
   · simp only [if_neg hf] at h |-
     have d:=lC hL hs h;exact ⟨d.1,lB hs,fun x=>absurd x ht,fun _=>d.2,fun x=>absurd x hf⟩
theorem IG {L:List Tk} {p:Nat} (h:opB L p=true):(aX ⟨(dQ L p).toArray⟩ 0 0).isSome=true:=by
 unfold opB at h;unfold dQ;cases ht:L[p]? with
 | none=>rw [ht] at h;cases h
 | some t=>rw [ht] at h;exact h
theorem AH {L:List Tk} (hL:∀ t∈L,cK t) {s:RS} (hs:iY L.length s) (h:(cE L s).2.bad=0):s.bad=0/\iY L.length (cE L s).2/\c7 [(cE L s).1]=0:=by
 unfold cE at h |-
 simp only at h |-
 by_cases hb:(a8 L s).2.bad=0
 · rw [if_pos hb] at h |-
   have f1:=lB (L:=L) hs;have e:=lC hL hs hb;by_cases ho:opB L (a8 L s).2.pos=true
   · rw [if_pos ho] at h |-
     have f2:=gI f1 (fun _=>La ho);have d:=lC hL f2 h;refine ⟨e.1,lB f2,?_⟩;unfold c7;simp only;rw [if_neg (by rw [IG ho];decide),if_pos e.2,if_pos d.2];rfl
   · rw [if_neg ho] at h
     exact absurd h (iH (by decide) _)
 · rw [if_neg hb] at h;exact absurd h hb
theorem tZ (c:CD):∀ l:List CD,c7 l=0->c7 [c]=0->c7 (l++[c])=0
 | [],_,h=>h
 | d :: l, h, hc => by
   rw [List.cons_append];rw [c7] at h |-
   by_cases h1:(aX d.op 0 0).isSome=false
   · rw [if_pos h1] at h;cases h
   rw [if_neg h1] at h |-
   by_cases h2:aL d.a=0
   · rw [if_pos h2] at h |-
     by_cases h3:aL d.b=0
     · rw [if_pos h3] at h |-;exact tZ c l h hc
     · rw [if_neg h3] at h;exact absurd h h3
   · rw [if_neg h2] at h;exact absurd h h2
theorem wI {L:List Tk} (hL:∀ t∈L,cK t):∀ (f:Nat) (acc:List CD) (s:RS),iY L.length s->(s.bad=0->s.pos<L.length)->acc.length<=4->c7 acc=0->(eU L f acc s).2.bad=0->c7 (eU L f acc s).1=0/\(eU L f acc s).1.length<=4
 | 0,acc,s,_,_,hl,ha,_=>⟨ha,hl⟩
 | f + 1, acc, s, hs, hp, hl, ha, h => by
   rw [eU] at h |-
   by_cases h4:acc.length=4
   · rw [if_pos h4] at h
     exact absurd h (iH (by decide) _)
   rw [if_neg h4] at h |-
   simp only at h |-
   have f1:=gI hs hp;by_cases hm:((cE L (aO s)).2.bad == 0 && dU L oP (cE L (aO s)).2.pos)=true
   · rw [if_pos hm] at h |-
     simp only [Bool.and_eq_true,beq_iff_eq] at hm;have c:=AH hL f1 hm.1;exact wI hL f _ _ c.2.1 (fun _=>wS hm.2) (by rw [List.length_append];show acc.length+1<=4;omega) (tZ _ _ ha c.2.2) h
   · rw [if_neg hm] at h |-
     have c:=AH hL f1 h;exact ⟨tZ _ _ ha c.2.2,by rw [List.length_append];show acc.length+1<=4;omega⟩
theorem Hs {L:List Tk} (hL:∀ t∈L,cK t) {a:AG} (h:agL L=.ok a):jT a=0:=by
 unfold agL at h;cases h0:L[0]? with
 | none=>rw [h0] at h;cases h
 | some t =>
   rw [h0] at h;have hlen:1<=L.length:=by have:=(List.getElem?_eq_some_iff.1 h0).1;omega
   simp only at h;by_cases hk:t.kind=1
   · rw [if_neg (by simpa using hk)] at h
     cases hf:dM t.text with
     | false=>rw [hf,if_pos rfl] at h;cases h
     | true =>
       rw [hf,if_neg (by decide)] at h;by_cases h1:(aU L [40] ⟨1,0,0,0⟩).bad=0
       · rw [if_neg (by simpa using h1)] at h
         have f1:iY L.length (aU L [40] ⟨1,0,0,0⟩):=pG ⟨fun _=>hlen,Nat.zero_le _⟩;by_cases h2:(aU L [41] (bG L t.text (aU L [40] ⟨1,0,0,0⟩)).2).bad=0
         · rw [if_neg (by simpa using h2)] at h
           obtain ⟨-,f2,a1,a2,a3⟩:=Hi hL f1 (sL h2);have f3:=pG (x:=[41]) f2
           have done:∀ wh:List CD,c7 wh=0->wh.length<=4->jT ⟨⟨t.text.toArray⟩,(bG L t.text (aU L [40] ⟨1,0,0,0⟩)).1.1,(bG L t.text (aU L [40] ⟨1,0,0,0⟩)).1.2.1,(bG L t.text (aU L [40] ⟨1,0,0,0⟩)).1.2.2,wh⟩=0:=fun wh e1 e2=>by
            have hE:gT ⟨⟨t.text.toArray⟩,(bG L t.text (aU L [40] ⟨1,0,0,0⟩)).1.1,(bG L t.text (aU L [40] ⟨1,0,0,0⟩)).1.2.1,(bG L t.text (aU L [40] ⟨1,0,0,0⟩)).1.2.2,wh⟩=0:=by
             unfold gT;simp only;by_cases c1:t.text=aQ
             · rw [if_pos c1]
             · rw [if_neg c1,if_pos (a2 c1)]
               by_cases c2:t.text=aW
               · rw [if_pos c2];exact a3 c2
               · rw [if_neg c2]
            unfold jT;simp only;rw [if_neg (by rw [hf];decide),if_neg (fun x=>a1 x.1 x.2),if_pos hE,if_neg (by omega)];exact e1
           by_cases h3:L.length<=(aU L [41] (bG L t.text (aU L [40] ⟨1,0,0,0⟩)).2).pos
           · rw [if_pos h3] at h
             cases h;exact done [] rfl (by simp)
           · rw [if_neg h3] at h
             cases hw:dU L fU (aU L [41] (bG L t.text (aU L [40] ⟨1,0,0,0⟩)).2).pos with
             | false=>rw [hw,if_pos rfl] at h;cases h
             | true =>
               rw [hw,if_neg (by decide)] at h;by_cases h5:(eU L 5 [] (aU L [41] (bG L t.text (aU L [40] ⟨1,0,0,0⟩)).2)).2.bad=0
               · rw [if_neg (by simpa using h5)] at h
                 have c:=wI hL 5 [] _ f3 (fun _=>by omega) (by simp) rfl h5;split at h
                 · cases h
                 · cases h
                   exact done _ c.1 c.2
               · rw [if_pos h5] at h;cases h
         · rw [if_pos h2] at h;cases h
       · rw [if_pos h1] at h;cases h
   · rw [if_pos hk] at h;cases h
theorem Ho {l:List UInt8} {a:AG} (h:agX l=.ok a):jT a=0:=by
 unfold agX at h;cases hx:fJ l with
 | bad p e=>rw [hx] at h;cases h
 | ok L =>
   rw [hx] at h;simp only at h;cases ha:agL L with
   | bad p e=>rw [ha] at h;cases h
   | ok b =>
     rw [ha] at h;cases h;exact Hs (qR hx) ha
theorem J7 {o:ByteArray} (h:(aX o 0 0).isSome=true):o.data.toList=[61]\/o.data.toList=[33,61]\/o.data.toList=[60]\/o.data.toList=[60,61]\/o.data.toList=[62]\/o.data.toList=[62,61]:=by
 unfold aX at h;by_cases h0:o=⟨#[61]⟩
 · left;rw [h0]
 rw [if_neg h0] at h;by_cases h1:o=⟨#[33,61]⟩
 · right;left;rw [h1]
 rw [if_neg h1] at h;by_cases h2:o=⟨#[60]⟩
 · right;right;left;rw [h2]
 rw [if_neg h2] at h;by_cases h3:o=⟨#[60,61]⟩
 · right;right;right;left;rw [h3]
 rw [if_neg h3] at h;by_cases h4:o=⟨#[62]⟩
 · right;right;right;right;left;rw [h4]
 rw [if_neg h4] at h;by_cases h5:o=⟨#[62,61]⟩
 · right;right;right;right;right;rw [h5]
 rw [if_neg h5] at h;cases h
def Lq (l:List CD):Prop:=∀ d∈l,eV d.a.f/\eV d.b.f
structure oL (a:AG):Prop where
 e:eV a.e.f
 g:eV a.g.f
 c:Lq a.wh
theorem EY {c:CD} {l:List CD} (h:c7 (c::l)=0):(aX c.op 0 0).isSome=true/\aL c.a=0/\aL c.b=0/\c7 l=0:=by
 rw [c7] at h;by_cases h1:(aX c.op 0 0).isSome=false
 · rw [if_pos h1] at h;cases h
 rw [if_neg h1] at h;by_cases h2:aL c.a=0
 · rw [if_pos h2] at h
   by_cases h3:aL c.b=0
   · rw [if_pos h3] at h;exact ⟨by cases hx:(aX c.op 0 0).isSome with | true=>rfl | false=>exact absurd hx h1,h2,h3,h⟩
   · rw [if_neg h3] at h;exact absurd h h3
 · rw [if_neg h2] at h;exact absurd h h2
theorem fX {a:AG} (h:jT a=0):dM a.fn.data.toList=true/\(a.fn.data.toList=cQ->1<=a.k/\a.k<=16)/\(¬ a.fn.data.toList=aQ->aL a.e=0)/\(a.fn.data.toList=aW->aL a.g=0)/\a.wh.length<=4/\c7 a.wh=0:=by
 unfold jT at h;cases hf:dM a.fn.data.toList with
 | false=>rw [hf,if_pos rfl] at h;cases h
 | true =>
   rw [hf,if_neg (by decide)] at h;by_cases h1:a.fn.data.toList=cQ/\(a.k<1\/16<a.k)
   · rw [if_pos h1] at h;cases h
   rw [if_neg h1] at h;by_cases h2:gT a=0
   · rw [if_pos h2] at h
     by_cases h3:4<a.wh.length
     · rw [if_pos h3] at h;cases h
     rw [if_neg h3] at h;refine ⟨rfl,fun e=>?_,fun e=>?_,fun e=>?_,by omega,h⟩
     · have:¬ (a.k<1\/16<a.k):=fun x=>h1 ⟨e,x⟩
       omega
     · unfold gT at h2
       rw [if_neg e] at h2;by_cases h4:aL a.e=0
       · exact h4
       · rw [if_neg h4] at h2;exact absurd h2 h4
     · have e':¬ a.fn.data.toList=aQ:=by rw [e];decide
       unfold gT at h2;rw [if_neg e'] at h2;by_cases h4:aL a.e=0
       · rw [if_pos h4,if_pos e] at h2;exact h2
       · rw [if_neg h4] at h2;exact absurd h2 h4
   · rw [if_neg h2] at h;exact absurd h h2
def oG (x:AG) (k:Nat):List UInt8:=if k=0 then yW x.wh else oF (x.wh.drop k)
theorem tE (x:AG):oG x 0=yW x.wh:=if_pos rfl
theorem zQ {x:AG} {k:Nat} (h:¬ k=0):oG x k=oF (x.wh.drop k):=if_neg h
theorem DO {x:AG} {k:Nat}:oG x (k+1)=oF (x.wh.drop (k+1)):=if_neg (by omega)
theorem DN {x:AG} {d:CD} {r:List CD} {k:Nat} (h0:k=0) (h:x.wh.drop k=d::r):oG x k=[32,119,104,101,114,101,32]++(bU d.a++32::(d.op.data.toList++32::bU d.b))++oF r:=by
 subst h0;rw [tE];rw [List.drop_zero] at h;rw [h,yW]
theorem FV {x:AG} {k:Nat} (h:x.wh.drop k=[]):oG x k=[]:=by
 by_cases h0:k=0
 · subst h0
   rw [tE];rw [List.drop_zero] at h;rw [h,yW]
 · rw [zQ h0,h,oF]
theorem oQ {t:TN} (h:aL t=0) (hn:eV t.f):(bU t).length<=700:=by
 obtain ⟨h1,h2⟩:=(bV t).1 h;have:=yV t h1 hn;omega
theorem II {o:ByteArray} (h:(aX o 0 0).isSome=true):o.size<=2:=by
 have:o.size=o.data.toList.length:=by simp
 rw [this];rcases J7 h with h | h | h | h | h | h <;> rw [h] <;> simp
theorem jU:∀ l:List CD,c7 l=0->∀ d∈l,(aX d.op 0 0).isSome=true/\aL d.a=0/\aL d.b=0
 | [],_,d,hd=>by cases hd
 | c :: r, h, d, hd => by
   obtain ⟨h1,h2,h3,h4⟩:=EY h;rcases List.mem_cons.1 hd with rfl | hd
   · exact ⟨h1,h2,h3⟩
   · exact jU r h4 d hd
theorem Jb {x:AG} (h:dM x.fn.data.toList=true):x.fn.size<=5:=by
 have:x.fn.size=x.fn.data.toList.length:=by simp
 rw [this];unfold dM at h;simp only [Bool.or_eq_true,beq_iff_eq] at h;rcases h with ((((h | h) | h) | h) | h) | h <;> rw [h] <;> decide
end
end Go.Proofs.YtapcjnoaofmmiaaGreatDoor
namespace Go.Proofs.YtapcjnoaofmmiaaGreatDoor.Wr
open Go.RowKit
section
section
open Go.RowKit
end
section
open Go.RowKit
end
section
open Go.RowKit
def fR (w:World) (a:Option Addr) (len:Nat) (z:Nat->Int):Prop :=
 len<=maxLen/\(len=0\/∃ b off,a=some ⟨b,off,none⟩/\∀ j,j<len->w.cell? ⟨b,off+j,none⟩=some (.int .i64 (z j)))
def jB (z:Nat->Int) (n:Nat):List Int:=(List.range n).map z
theorem pH (z:Nat->Int) (n:Nat):(jB z n).length=n:=by simp [jB]
theorem Cx (z:Nat->Int) {n j:Nat} (h:j<n):(jB z n).getD j 0=z j:=by simp [jB,List.getD,h]
theorem fR.kept {w w':World} {a:Option Addr} {len:Nat} {z:Nat->Int} (h:fR w a len z) (hb:Below w.heap.size w w'):fR w' a len z:=by
 refine ⟨h.1,?_⟩;rcases h.2 with h0 | ⟨b,off,rfl,hc⟩
 · exact .inl h0
 · exact .inr ⟨b,off,rfl,fun j hj=>(hb.cell (p:=⟨b,off+j,none⟩) (World.block_lt_of_cell? w _ (hc j hj))).trans (hc j hj)⟩
def val (k n:Int) (s:ByteArray) (l:Value):Value:=.agg #[.int .i64 k,.int .i64 n,.string s,l]
end
section
open Go.RowKit
theorem mV {b:Nat} {A W:World} {B:Nat} (h:Below b A W) (hB:b<=B) (v0 v1 v2 v3:Value) :
 Below b A ((((W.setCell ⟨B,0,none⟩ v0).setCell ⟨B,1,none⟩ v1).setCell ⟨B,2,none⟩ v2).setCell ⟨B,3,none⟩ v3) :=
 (((h.setCell (p:=⟨B,0,none⟩) hB v0).setCell (p:=⟨B,1,none⟩) hB v1).setCell (p:=⟨B,2,none⟩) hB v2).setCell (p:=⟨B,3,none⟩) hB v3
end
section
open Go.RowKit
end
section
open Go.RowKit
end
section
open Go.RowKit
def iM (a b:Int):Int:=if a<b then -1 else if b<a then 1 else 0
def xX (a b:ByteArray):Int:=if Op.bytesLess a.toList b.toList then -1 else if Op.bytesLess b.toList a.toList then 1 else 0
theorem wL (a b:Int) (w:World):Calls Tryz.prog 179 #[.int .i64 a,.int .i64 b] w fun e w'=>e=.returned (.int .i64 (iM a b))/\w=w':=by
 have hc:a<b\/b<a\/a=b:=by omega
 rcases hc with h | h | rfl
 · rw [show iM a b= -1 by unfold iM;rw [if_pos h]]
   go_enter Tryz.func179,Tryz.ntmps179
   go_wp2
   go_ret;exact ⟨rfl,rfl⟩
 · rw [show iM a b=1 by unfold iM;rw [if_neg (by omega),if_pos h]]
   go_enter Tryz.func179,Tryz.ntmps179
   go_wp2
   go_ret;exact ⟨rfl,rfl⟩
 · rw [show iM a a=0 by unfold iM;rw [if_neg (by omega),if_neg (by omega)]]
   go_enter Tryz.func179,Tryz.ntmps179
   go_wp2
   go_ret;exact ⟨rfl,rfl⟩
theorem Ck (a b:Int) (w:World):Calls Tryz.prog 178 #[.int .i64 a,.int .i64 b] w fun e w'=>e=.returned (.int .i64 (iM a b))/\w=w':=by
 have hc:a<b\/b<a\/a=b:=by omega
 rcases hc with h | h | rfl
 · rw [show iM a b= -1 by unfold iM;rw [if_pos h]]
   go_enter Tryz.func178,Tryz.ntmps178
   go_wp2
   go_ret;exact ⟨rfl,rfl⟩
 · rw [show iM a b=1 by unfold iM;rw [if_neg (by omega),if_pos h]]
   go_enter Tryz.func178,Tryz.ntmps178
   go_wp2
   go_ret;exact ⟨rfl,rfl⟩
 · rw [show iM a a=0 by unfold iM;rw [if_neg (by omega),if_neg (by omega)]]
   go_enter Tryz.func178,Tryz.ntmps178
   go_wp2
   go_ret;exact ⟨rfl,rfl⟩
theorem Cj (a b:ByteArray) (w:World):Calls Tryz.prog 180 #[.string a,.string b] w fun e w'=>e=.returned (.int .i64 (xX a b))/\w=w':=by
 by_cases h:Op.bytesLess a.toList b.toList=true
 · rw [show xX a b= -1 by unfold xX;rw [if_pos h]]
   go_enter Tryz.func180,Tryz.ntmps180
   go_wp2
   go_ret;exact ⟨rfl,rfl⟩
 · have h':Op.bytesLess a.toList b.toList=false:=by simpa using h
   by_cases k:Op.bytesLess b.toList a.toList=true
   · rw [show xX a b=1 by unfold xX;rw [if_neg h,if_pos k]]
     have q:(a.toList == b.toList)=false:=by
      rw [beq_eq_false_iff_ne];intro e;rw [e,gV] at k;cases k
     clear h;go_enter Tryz.func180,Tryz.ntmps180
     go_wp2
     go_ret;exact ⟨rfl,rfl⟩
   · have k':Op.bytesLess b.toList a.toList=false:=by simpa using k
     rw [show xX a b=0 by unfold xX;rw [if_neg h,if_neg k]];obtain rfl:a=b:=uG (iN _ _ h' k');clear h k k';go_enter Tryz.func180,Tryz.ntmps180
     go_wp2
     go_ret;exact ⟨rfl,rfl⟩
def oY:List Int->List Int->Int
 | [],[]=>0
 | [],_::_=> -1
 | _::_,[]=>1
 | a::r,b::q=>if iM a b=0 then oY r q else iM a b
theorem wK (a:Int):iM a a=0:=by unfold iM;rw [if_neg (by omega),if_neg (by omega)]
theorem Jq {a b:Int} (h:¬ a=b):¬ iM a b=0:=by
 unfold iM;split
 · omega
 · split <;> omega
theorem Fb (k:Nat):∀ (l m:List Int),k<=l.length->k<=m.length->(∀ j,j<k->l.getD j 0=m.getD j 0)->oY l m=oY (l.drop k) (m.drop k):=by
 induction k with
 | zero=>intro l m _ _ _;rfl
 | succ k ih =>
   intro l m hl hm h;cases l with
   | nil=>simp at hl
   | cons a l => cases m with
     | nil=>simp at hm
     | cons b m =>
       have e:a=b:=by simpa using h 0 (by omega)
       subst e;rw [oY,wK,if_pos rfl,List.drop_succ_cons,List.drop_succ_cons];exact ih l m (by simpa using hl) (by simpa using hm) (fun j hj=>by simpa using h (j+1) (by omega))
theorem Ku {z1 z2:Nat->Int} {n1 n2 k:Nat} (h:∀ j,j<k->z1 j=z2 j) (h1:k<=n1) (h2:k<=n2) :
 oY (jB z1 n1) (jB z2 n2)=oY ((jB z1 n1).drop k) ((jB z2 n2).drop k) :=
 Fb k _ _ (by rw [pH];exact h1) (by rw [pH];exact h2) (fun j hj=>by rw [Cx z1 (by omega),Cx z2 (by omega)];exact h j hj)
theorem kG (z:Nat->Int) {n k:Nat} (h:k<n):(jB z n).drop k=z k::(jB z n).drop (k+1):=by
 rw [List.drop_eq_getElem_cons (by rw [pH];exact h)];congr 1
 simp [jB]
theorem nB (z:Nat->Int) {n k:Nat} (h:n<=k):(jB z n).drop k=[]:=List.drop_of_length_le (by rw [pH];exact h)
theorem AJ (a1 a2:Option Addr) (n1 c1 n2 c2:Nat) (z1 z2:Nat->Int) (w:World) (h1:fR w a1 n1 z1) (h2:fR w a2 n2 z2) :
 Calls Tryz.prog 181 #[.slice a1 n1 c1,.slice a2 n2 c2] w fun e w'=>e=.returned (.int .i64 (oY (jB z1 n1) (jB z2 n2)))/\w=w':=by
 obtain ⟨m1,h1⟩:=h1;obtain ⟨m2,h2⟩:=h2;unfold maxLen at m1 m2;rcases h1 with rfl | ⟨b1,o1,rfl,hc1⟩
 · by_cases h0:n2=0
   · subst h0
     go_enter Tryz.func181,Tryz.ntmps181
     go_wp2
     go_loop [11] (fun i=>i=.int .i64 0) (fun _=>0)
     case atStart=>rfl
     case round =>
      subst hrel;go_wp2
      go_ret;exact ⟨rfl,rfl⟩
   · have R:=aA (show oY (jB z1 0) (jB z2 n2)= -1 by
      have:(jB z2 n2).drop 0=_:=kG z2 (Nat.pos_of_ne_zero h0);rw [List.drop_zero] at this;rw [this];rfl)
     have hp:0<n2:=Nat.pos_of_ne_zero h0;clear h0 h2;go_enter Tryz.func181,Tryz.ntmps181
     go_wp2
     go_loop [11] (fun i=>i=.int .i64 0) (fun _=>0)
     case atStart=>rfl
     case round =>
      subst hrel;go_wp2
      go_ret;exact ⟨lK R.out.symm,rfl⟩
 · have H1:=aA hc1
   have H2:=aA h2;clear hc1 h2;go_enter Tryz.func181,Tryz.ntmps181
   go_wp2
   go_loop [11] (fun i=>∃ k:Nat,k<=n1/\k<=n2/\i=.int .i64 k/\Hid (∀ j,j<k->z1 j=z2 j)) (fun i=>n1-(intOf i).toNat)
   case atStart=>exact ⟨0,Nat.zero_le _,Nat.zero_le _,rfl,aA (fun j h=>by omega)⟩
   case round =>
    obtain ⟨k,hk1,hk2,rfl,he⟩:=hrel;have R:=aA (Ku he.out hk1 hk2);by_cases hlt:k<n1
    · have g1:=H1.out k hlt
      by_cases hl2:k<n2
      · rcases H2.out with h | ⟨b2,o2,rfl,hc2⟩
        · omega
        · have g2:=hc2 k hl2
          clear hc2;have C:=wL (z1 k) (z2 k);obtain ⟨x,hx⟩:∃ x,z1 k=x:=⟨_,rfl⟩;obtain ⟨y,hy⟩:∃ y,z2 k=y:=⟨_,rfl⟩;have R2:=aA (R.out.trans (by rw [kG z1 hlt,kG z2 hl2,hx,hy]));rw [hx] at g1 C;rw [hy] at g2 C
          have he2:=aA (show x=y->∀ j,j<k+1->z1 j=z2 j from fun exy j hj=>by
           by_cases e:j=k
           · subst e;rw [hx,hy,exy]
           · exact he.out j (by omega))
          have C1:=aA C;clear C hx hy R he;by_cases hxy:x=y
          · subst hxy
            rw [wK] at C1;have he3:=aA (he2.out rfl);clear he2;go_wp2_with (go_at_call 179;refine (C1.out _).mono ?_;rintro e w' ⟨rfl,rfl⟩)
            go_round
            case rel=>exact ⟨k+1,by omega,by omega,by go_num,he3⟩
            case measure=>simp [intOf];omega
          · have hne:=Jq hxy
            obtain ⟨v,hv⟩:∃ v,iM x y=v:=⟨_,rfl⟩;have R3:=aA (show oY (jB z1 n1) (jB z2 n2)=v by rw [R2.out,oY,if_neg hne,hv]);rw [hv] at C1 hne;have hn1:(v != 0)=true:=by simpa using hne
            clear hv R2 hne;go_wp2_with (go_at_call 179;refine (C1.out _).mono ?_;rintro e w' ⟨rfl,rfl⟩)
            go_ret;exact ⟨lK R3.out.symm,rfl⟩
      · have R2:=aA (R.out.trans (by rw [kG z1 hlt,nB z2 (by omega)]))
        clear R;go_wp2
        go_ret;exact ⟨lK (by rw [R2.out,oY]),rfl⟩
    · by_cases hl2:k<n2
      · have R2:=aA (R.out.trans (by rw [nB z1 (by omega),kG z2 hl2]))
        clear R;go_wp2
        go_ret;exact ⟨lK (by rw [R2.out,oY]),rfl⟩
      · have R2:=aA (R.out.trans (by rw [nB z1 (by omega),nB z2 (by omega)]))
        clear R;go_wp2
        go_ret;exact ⟨lK (by rw [R2.out,oY]),rfl⟩
def Ci (k1 n1:Int) (s1:ByteArray) (l1:Nat) (z1:Nat->Int) (k2 n2:Int) (s2:ByteArray) (l2:Nat) (z2:Nat->Int):Int :=
 if k1=k2 then (if k1=1 then iM n1 n2 else if k1=2 then xX s1 s2 else if k1=3 then oY (jB z1 l1) (jB z2 l2) else 0) else iM k1 k2
theorem AI (k1 n1:Int) (s1:ByteArray) (a1:Option Addr) (l1 c1:Nat) (z1:Nat->Int) (k2 n2:Int) (s2:ByteArray) (a2:Option Addr) (l2 c2:Nat) (z2:Nat->Int) (w:World) (h1:fR w a1 l1 z1) (h2:fR w a2 l2 z2) :
 Calls Tryz.prog 156 #[val k1 n1 s1 (.slice a1 l1 c1),val k2 n2 s2 (.slice a2 l2 c2)] w fun e w'=>e=.returned (.int .i64 (Ci k1 n1 s1 l1 z1 k2 n2 s2 l2 z2))/\Below w.heap.size w w':=by
 unfold val;have bl:∀ o1 o2,Below w.heap.size w ((w.alloc o1).alloc o2):=fun o1 o2=>((Below.refl _ _).alloc (Nat.le_refl _) _).alloc (by simp) _
 have r1:=aA (fun o1 o2=>h1.kept (bl o1 o2));have r2:=aA (fun o1 o2=>h2.kept (bl o1 o2));clear h1 h2 bl;by_cases hk:k1=k2
 · subst hk
   have R:Ci k1 n1 s1 l1 z1 k1 n2 s2 l2 z2=if k1=1 then iM n1 n2 else if k1=2 then xX s1 s2 else if k1=3 then oY (jB z1 l1) (jB z2 l2) else 0:=by unfold Ci;rw [if_pos rfl]
   rw [R];clear R;by_cases e1:k1=1
   · subst e1;rw [if_pos rfl]
     go_enter Tryz.func156,Tryz.ntmps156
     go_wp2_with (go_at_call 179;refine (wL _ _ _).mono ?_;rintro e w' ⟨rfl,rfl⟩)
     go_ret;exact ⟨rfl,(((Below.refl _ _).alloc (Nat.le_refl _) _).alloc (by simp) _)⟩
   have q1:(k1 == 1)=false:=by simpa using e1
   rw [if_neg e1];by_cases e2:k1=2
   · subst e2;rw [if_pos rfl]
     go_enter Tryz.func156,Tryz.ntmps156
     go_wp2_with (go_at_call 180;refine (Cj _ _ _).mono ?_;rintro e w' ⟨rfl,rfl⟩)
     go_ret;exact ⟨rfl,(((Below.refl _ _).alloc (Nat.le_refl _) _).alloc (by simp) _)⟩
   have q2:(k1 == 2)=false:=by simpa using e2
   rw [if_neg e2];by_cases e3:k1=3
   · subst e3;rw [if_pos rfl]
     go_enter Tryz.func156,Tryz.ntmps156
     go_wp2_with (go_at_call 181;refine (AJ a1 a2 l1 c1 l2 c2 z1 z2 _ (r1.out _ _) (r2.out _ _)).mono ?_;rintro e w' ⟨rfl,rfl⟩)
     go_ret;exact ⟨rfl,(((Below.refl _ _).alloc (Nat.le_refl _) _).alloc (by simp) _)⟩
   have q3:(k1 == 3)=false:=by simpa using e3
   rw [if_neg e3];clear e1 e2 e3;go_enter Tryz.func156,Tryz.ntmps156
   go_wp2_with fail
   go_ret;exact ⟨rfl,(((Below.refl _ _).alloc (Nat.le_refl _) _).alloc (by simp) _)⟩
 · have R:Ci k1 n1 s1 l1 z1 k2 n2 s2 l2 z2=iM k1 k2:=by unfold Ci;rw [if_neg hk]
   rw [R];have q:(k1 == k2)=false:=by simpa using hk
   have q':(k1 != k2)=true:=by simpa using hk
   clear R hk;go_enter Tryz.func156,Tryz.ntmps156
   go_wp2_with (go_at_call 178;refine (Ck _ _ _).mono ?_;rintro e w' ⟨rfl,rfl⟩)
   go_ret;exact ⟨rfl,(((Below.refl _ _).alloc (Nat.le_refl _) _).alloc (by simp) _)⟩
theorem jG (k1 n1:Int) (s1:ByteArray) (a1:Option Addr) (l1 c1:Nat) (z1:Nat->Int) (k2 n2:Int) (s2:ByteArray) (a2:Option Addr) (l2 c2:Nat) (z2:Nat->Int) (w:World) (h1:fR w a1 l1 z1) (h2:fR w a2 l2 z2) :
 Calls Tryz.prog 121 #[val k1 n1 s1 (.slice a1 l1 c1),val k2 n2 s2 (.slice a2 l2 c2)] w fun e w'=>e=.returned (.bool (decide (Ci k1 n1 s1 l1 z1 k2 n2 s2 l2 z2=0)))/\Below w.heap.size w w':=by
 have bl:∀ o1 o2,Below w.heap.size w ((w.alloc o1).alloc o2):=fun o1 o2=>((Below.refl _ _).alloc (Nat.le_refl _) _).alloc (by simp) _
 have C:=fun o1 o2=>AI k1 n1 s1 a1 l1 c1 z1 k2 n2 s2 a2 l2 c2 z2 _ (h1.kept (bl o1 o2)) (h2.kept (bl o1 o2))
 obtain ⟨x,hx⟩:∃ x,Ci k1 n1 s1 l1 z1 k2 n2 s2 l2 z2=x:=⟨_,rfl⟩;rw [hx] at C |-
 unfold val at C |-
 have C1:=aA C;have bl1:=aA bl;clear C bl hx h1 h2;by_cases h:x=0
 · subst h
   go_enter Tryz.func121,Tryz.ntmps121
   go_wp2_with (go_at_call 156;refine (C1.out _ _).mono ?_;rintro e w1 ⟨rfl,hb⟩;have hb1:=aA hb;clear hb)
   go_ret;exact ⟨rfl,(bl1.out _ _).trans (hb1.out.mono (by simp;omega))⟩
 · have q:(x == 0)=false:=by simpa using h
   rw [show decide (x=0)=false by simpa using h];clear h;go_enter Tryz.func121,Tryz.ntmps121
   go_wp2_with (go_at_call 156;refine (C1.out _ _).mono ?_;rintro e w1 ⟨rfl,hb⟩;have hb1:=aA hb;clear hb)
   go_ret;exact ⟨by rw [<- q];rfl,(bl1.out _ _).trans (hb1.out.mono (by simp;omega))⟩
end
section
open Go.RowKit
structure AD where
 m:ByteArray
 k:Int
 n:Int
 s:ByteArray
 len:Nat
 z:Nat->Int
def j9 (w:World) (b o:Nat) (x:AD) (y:Option Addr) (c:Nat):Prop :=
 w.cell? ⟨b,o,none⟩=some (.string x.m)/\w.cell? ⟨b,o+1,none⟩=some (.int .i64 x.k)/\w.cell? ⟨b,o+2,none⟩=some (.int .i64 x.n)/\w.cell? ⟨b,o+3,none⟩=some (.string x.s)/\w.cell? ⟨b,o+4,none⟩=some (.slice y x.len c)
theorem j9.lt {w:World} {b o:Nat} {x:AD} {y:Option Addr} {c:Nat} (h:j9 w b o x y c):b<w.heap.size:=by have:=World.block_lt_of_cell? w _ h.1;simpa using this
theorem j9.below {B:Nat} {w w':World} {b o:Nat} {x:AD} {y:Option Addr} {c:Nat} (h:j9 w b o x y c) (hb:Below B w w') (hB:b<B):j9 w' b o x y c :=
 ⟨(hb.cell (p:=⟨b,_,none⟩) hB).trans h.1,(hb.cell (p:=⟨b,_,none⟩) hB).trans h.2.1,(hb.cell (p:=⟨b,_,none⟩) hB).trans h.2.2.1,(hb.cell (p:=⟨b,_,none⟩) hB).trans h.2.2.2.1,(hb.cell (p:=⟨b,_,none⟩) hB).trans h.2.2.2.2⟩
theorem j9.kept {w w':World} {b o:Nat} {x:AD} {y:Option Addr} {c:Nat} (h:j9 w b o x y c) (hb:Below w.heap.size w w'):j9 w' b o x y c:=h.below hb h.lt
def ReadsA (w:World) (a:Option Addr) (len:Nat) (A:Nat->AD):Prop :=
 len<=maxLen/\(len=0\/∃ b off,a=some ⟨b,off,none⟩/\∀ j,j<len->∃ y c,j9 w b (off+j*5) (A j) y c/\fR w y (A j).len (A j).z)
theorem ReadsA.kept {w w':World} {a:Option Addr} {len:Nat} {A:Nat->AD} (h:ReadsA w a len A) (hb:Below w.heap.size w w'):ReadsA w' a len A:=by
 refine ⟨h.1,h.2.imp id ?_⟩;rintro ⟨b,off,rfl,hc⟩;refine ⟨b,off,rfl,fun j hj=>?_⟩;obtain ⟨y,c,h5,hr⟩:=hc j hj;exact ⟨y,c,h5.kept hb,hr.kept hb⟩
structure RD where
 key:ByteArray
 t:Int
 i:Int
 q:Int
 o:ByteArray
 len:Nat
 A:Nat->AD
end
section
open Go.RowKit
def rC (w:World) (len:Nat) (z:Nat->Int) (e:Ending) (w':World):Prop :=
 (∃ a c,e=.returned (.slice a len c)/\fR w' a len z/\∀ b,a=some b->w.heap.size<=b.block)/\Below w.heap.size w w'
theorem Fc:(Tryz.prog.info? 2).map (fun i=>(i.zero,i.size,i.bytes))=some (some (.int .i64 0),1,8):=by kernel_rfl
theorem Ka (z:Nat->Int) (len:Nat):∀ u∈(List.range len).map (fun j=>Value.int .i64 (z j)),u.oneCell'=true:=by
 intro u hu;obtain ⟨j,_,rfl⟩:=List.mem_map.1 hu;rfl
theorem DP {w:World} {base:Nat} {a:Option Addr} {len l c:Nat} {z:Nat->Int} (h:w.ownsRow base 2 1 (.slice a l c) len ((List.range len).map (fun j=>Value.int .i64 (z j)))):l=len/\fR w a len z/\∀ b,a=some b->base<=b.block:=by
 rcases h.2 with ⟨h,h'⟩ | ⟨g,cap,cur,hv,hb,hg,hnc,hm,_,ht⟩
 · simp only [Value.slice.injEq] at h
   obtain ⟨rfl,rfl,rfl⟩:=h;subst h';exact ⟨rfl,⟨Nat.zero_le _,.inl rfl⟩,fun b hb=>by cases hb⟩
 · simp only [Value.slice.injEq] at hv
   obtain ⟨rfl,rfl,rfl⟩:=hv;refine ⟨rfl,⟨Nat.le_trans hnc hm,.inr ⟨g,0,rfl,fun j hj=>?_⟩⟩,fun b hb'=>by cases hb';exact hb⟩;have hjj:((List.range l).map (fun j=>Value.int .i64 (z j)))[j]? = some (.int .i64 (z j)):=by simp [hj]
   rw [Nat.zero_add,cell_of_row w g j cur _ (0,0) hg];rw [Nat.mul_one] at ht;rw [<- ht,List.getElem?_take,if_pos hj] at hjj;simpa using hjj
theorem qX (a:Option Addr) (len cap:Nat) (z:Nat->Int) (hl:len<=1000000) (w:World) (hr:fR w a len z) :
 Calls Tryz.prog 240 #[.slice a len cap] w (rC w len z):=by
 obtain ⟨i0,hi,hz0,hz1,hz2⟩:=info_parts Fc;have und:Tryz.prog.underlying 51=some (.slice 2):=Tryz.underlying51;cases a with
 | none =>
   have h0:len=0:=by
    rcases hr.2 with h | ⟨b,off,h,_⟩
    · exact h
    · cases h
   subst h0;have P:=aA (show rC w 0 z (.returned (.slice none 0 0)) w from ⟨⟨none,0,rfl,⟨Nat.zero_le _,.inl rfl⟩,fun b h=>by cases h⟩,Below.refl _ _⟩);clear hr;go_enter Tryz.func240,Tryz.ntmps240
   go_wp2
   rw [Lib.run_eql_slice_nil w _ _ _ _ _ _ _ und];simp only [Result.andThen];rw [Oper.upon_value];go_wp2_with fail
   go_ret;exact P.out
 | some x =>
   have F:=aA (p:=∀ w',Below w.heap.size w w'->KL w' (.slice (some x) len cap) len ((List.range len).map (fun j=>Value.int .i64 (z j)))) (fun w' hb=>by
    refine .inr ⟨x,cap,rfl,by simp,fun j u hj=>?_⟩;rcases (hr.kept hb).2 with h0 | ⟨b,off,hx,hc⟩
    · subst h0;simp at hj
    · obtain rfl:x=⟨b,off,none⟩:=by simpa using hx
      have hjl:j<len:=by
       rcases Nat.lt_or_ge j len with h | h
       · exact h
       · rw [List.getElem?_eq_none (by simpa using h)] at hj;cases hj
      rw [Addr.add_lit,hc j hjl];simpa [hjl] using hj)
   clear hr;go_enter Tryz.func240,Tryz.ntmps240
   have bA:Below w.heap.size w (w.alloc (.cells #[] 2)):=(Below.refl _ _).alloc (Nat.le_refl _) _;have BA:=aA bA;have OA:=aA (show (w.alloc (.cells #[] 2)).ownsRow w.heap.size 2 1 (.slice (some ⟨w.heap.size,0,none⟩) 0 0) 0 [] from ⟨rfl,.inr ⟨w.heap.size,0,#[],rfl,Nat.le_refl _,heap_alloc_new w _,Nat.le_refl _,Nat.zero_le _,rfl,rfl⟩⟩);clear bA;go_wp2
   rw [Lib.run_eql_slice_nil w _ _ _ _ _ _ _ und];simp only [Result.andThen];rw [Oper.upon_value];go_wp2_with (at_builtin;refine oN rfl _ _ 51 rfl und hi hz0 hz1 hz2 rfl _ _ 0 len [] _ rfl rfl OA.out (F.out _ BA.out) (Ka z len) (by unfold maxLen;omega) (by omega) (by simp) ?_)
   intro v' w2 ho hg _
   obtain ⟨va,vl,vc,rfl⟩:∃ a l c,v'=.slice a l c:=by
    rcases ho.2 with ⟨h,_⟩ | ⟨g,cap,_,h,_⟩
    · exact ⟨_,_,_,h⟩
    · exact ⟨_,_,_,h⟩
   obtain ⟨rfl,hrd,hbl⟩:=DP ho;have P:=aA (show rC w vl z (.returned (.slice va vl vc)) w2 from ⟨⟨va,vc,rfl,hrd,hbl⟩,BA.out.grown hg (by simp) (fun k hk=>by simp [Value.ownBlock] at hk;omega)⟩);clear ho hg hrd hbl;go_wp2
   go_ret;exact P.out
theorem wB (W:World) (B:Nat) (v0 v1 v2 v3:Value):aE (fun k=>k=B) W ((((W.setCell ⟨B,0,none⟩ v0).setCell ⟨B,1,none⟩ v1).setCell ⟨B,2,none⟩ v2).setCell ⟨B,3,none⟩ v3) :=
 ((((aE.refl (fun k=>k=B) W).setCell (S:=fun k=>k=B) (p:=⟨B,0,none⟩) (.inl rfl) v0).setCell (S:=fun k=>k=B) (p:=⟨B,1,none⟩) (.inl rfl) v1).setCell (S:=fun k=>k=B) (p:=⟨B,2,none⟩) (.inl rfl) v2).setCell (S:=fun k=>k=B) (p:=⟨B,3,none⟩) (.inl rfl) v3
theorem fR.keptS {S:Nat->Prop} {w w':World} {a:Option Addr} {len:Nat} {z:Nat->Int} (h:fR w a len z) (hk:aE S w w') (hS:∀ b,a=some b->¬ S b.block):fR w' a len z:=by
 refine ⟨h.1,?_⟩;rcases h.2 with h0 | ⟨b,off,rfl,hc⟩
 · exact .inl h0
 · exact .inr ⟨b,off,rfl,fun j hj=>hk.cell (hc j hj) (show ¬ S b from hS ⟨b,off,none⟩ rfl)⟩
def twN (k n:Int):Int:=if k=1 then n else 0
def twS (k:Int) (s:ByteArray):ByteArray:=if k=2 then s else ⟨#[]⟩
def twL (k:Int) (len:Nat):Nat:=if k=3 then len else 0
def uN (w:World) (k n:Int) (s:ByteArray) (len:Nat) (z:Nat->Int) (e:Ending) (w':World):Prop :=
 (∃ a c,e=.returned (.agg #[.int .i64 k,.int .i64 (twN k n),.string (twS k s),.slice a (twL k len) c])/\(∀ b,a=some b->w.heap.size<=b.block)/\∀ w3,aE (fun b=>b=w.heap.size+1) w' w3->fR w3 a (twL k len) z)/\Below w.heap.size w w'
theorem qP (w:World) (z:Nat->Int):fR w none 0 z:=⟨Nat.zero_le _,.inl rfl⟩
theorem nD (w:World) (o1 o2:Obj):Below w.heap.size w ((w.alloc o1).alloc o2)/\((w.alloc o1).alloc o2).heap[w.heap.size]? = some o1/\((w.alloc o1).alloc o2).heap[w.heap.size+1]? = some o2/\((w.alloc o1).alloc o2).heap.size=w.heap.size+2:=by
 refine ⟨((Below.refl _ _).alloc (Nat.le_refl _) _).alloc (by simp) _,(Below.heap_alloc _ _ _ (by simp)).trans (heap_alloc_new w _),?_,by simp⟩;have:=heap_alloc_new (w.alloc o1) o2;rwa [World.size_alloc] at this
theorem Fz (k n:Int) (s:ByteArray) (a:Option Addr) (len cap:Nat) (z:Nat->Int) (hl:len<=1000000) (w:World) (hr:fR w a len z) :
 Calls Tryz.prog 235 #[.agg #[.int .i64 k,.int .i64 n,.string s,.slice a len cap]] w (uN w k n s len z):=by
 have HB:=aA (nD w (.cells #[.int .i64 k,.int .i64 n,.string s,.slice a len cap] 53) (.cells #[.int .i64 0,.int .i64 0,.string ⟨#[]⟩,.slice none 0 0] 53));have R:=aA hr;clear hr;by_cases h1:k=1
 · subst h1
   have P:=aA (p:=∀ W,Below w.heap.size w W->uN w 1 n s len z (.returned (.agg #[.int .i64 1,.int .i64 n,.string ⟨#[]⟩,.slice none 0 0])) W) (fun W h=>⟨⟨none,0,rfl,(fun b h=>by cases h),fun w3 _=>qP w3 z⟩,h⟩);go_enter Tryz.func235,Tryz.ntmps235
   go_wp2_with fail
   exact bodyPost_ret (v:=.agg #[.int .i64 1,.int .i64 n,.string ⟨#[]⟩,.slice none 0 0]) (by simp [results,Tryz.results235,go_sem]) rfl (P.out _ (nD w _ _).1)
 have q1:(k == 1)=false:=by simpa using h1
 by_cases h2:k=2
 · subst h2
   have P:=aA (p:=∀ W,Below w.heap.size w W->uN w 2 n s len z (.returned (.agg #[.int .i64 2,.int .i64 0,.string s,.slice none 0 0])) W) (fun W h=>⟨⟨none,0,rfl,(fun b h=>by cases h),fun w3 _=>qP w3 z⟩,h⟩);clear h1 q1;go_enter Tryz.func235,Tryz.ntmps235
   go_wp2_with fail
   exact bodyPost_ret (v:=.agg #[.int .i64 2,.int .i64 0,.string s,.slice none 0 0]) (by simp [results,Tryz.results235,go_sem]) rfl (P.out _ (nD w _ _).1)
 have q2:(k == 2)=false:=by simpa using h2
 by_cases h3:k=3
 · subst h3
   clear h1 q1 h2 q2;go_enter Tryz.func235,Tryz.ntmps235
   go_wp2_with fail
   generalize hW:World.alloc (World.alloc w _) _=W;rw [hW] at HB;have hdr:Below W.heap.size W W.drew:=⟨rfl,rfl,rfl,Nat.le_refl _,fun _ _=>rfl⟩;have C:=aA (qX a len cap z hl W.drew (R.out.kept (HB.out.1.trans ⟨rfl,rfl,rfl,Nat.le_refl _,fun _ _=>rfl⟩)));have hs:=HB.out.2.2.2;obtain ⟨⟨x0,x1,x2,x3⟩, -⟩:=aK HB.out.2.1;clear hW hdr
   go_region_with (first
    | (go_at_call 240
       with_reducible refine C.out.mono ?_
       rintro e w2 ⟨⟨a2,c2,rfl,hr2,hb2⟩,hb⟩;have hz2:=hb.size;have hres:=(hb.block (w.heap.size+1) (by show _<W.heap.size;omega)).trans HB.out.2.2.1;clear x0 x1 x2 x3;obtain ⟨⟨x0,x1,x2,x3⟩, -⟩:=aK ((hb.block w.heap.size (by show _<W.heap.size;omega)).trans HB.out.2.1);obtain ⟨⟨y0,y1,y2,y3⟩,⟨z0,z1,z2,z3⟩⟩:=aK hres;have H2:=aA (And.intro hr2 (And.intro hb2 (HB.out.1.trans ((show Below w.heap.size W W.drew from ⟨rfl,rfl,rfl,Nat.le_refl _,fun _ _=>rfl⟩).trans (hb.mono (by show _<=W.heap.size;omega))))));clear hr2 hb2 hb hres)
    | fail)
   all_goals
    have P:=aA (p:=uN w 3 n s len z (.returned (.agg #[.int .i64 3,.int .i64 0,.string ⟨#[]⟩,.slice a2 len c2])) ((((w2.setCell ⟨w.heap.size+1,0,none⟩ (.int .i64 3)).setCell ⟨w.heap.size+1,1,none⟩ (.int .i64 0)).setCell ⟨w.heap.size+1,2,none⟩ (.string ⟨#[]⟩)).setCell ⟨w.heap.size+1,3,none⟩ (.slice a2 len c2)))
     ⟨⟨a2,c2,rfl,(fun b hb=>by have:=H2.out.2.1 b hb;have hW':W.drew.heap.size=w.heap.size+2:=hs;omega),fun w3 k3=>H2.out.1.keptS ((wB w2 (w.heap.size+1) _ _ _ _).trans k3 (fun _ h _=>h)) (fun b hb h=>by have:=H2.out.2.1 b hb;have h':b.block=w.heap.size+1:=h;have hW':W.drew.heap.size=w.heap.size+2:=hs;omega)⟩,mV H2.out.2.2 (Nat.le_succ _) _ _ _ _⟩
    go_wp2
    exact bodyPost_ret (v:=.agg #[.int .i64 3,.int .i64 0,.string ⟨#[]⟩,.slice a2 len c2]) (by simp [results,Tryz.results235,go_sem, *]) rfl P.out
 have q3:(k == 3)=false:=by simpa using h3
 have P:=aA (p:=∀ W,Below w.heap.size w W->uN w k n s len z (.returned (.agg #[.int .i64 k,.int .i64 0,.string ⟨#[]⟩,.slice none 0 0])) W) (fun W h=>⟨⟨none,0,by unfold twN twS twL;rw [if_neg h1,if_neg h2,if_neg h3],(fun b h=>by cases h),fun w3 _=>by unfold twL;rw [if_neg h3];exact qP w3 z⟩,h⟩);clear h1 h2 h3;go_enter Tryz.func235,Tryz.ntmps235
 go_wp2_with fail
 exact bodyPost_ret (v:=.agg #[.int .i64 k,.int .i64 0,.string ⟨#[]⟩,.slice none 0 0]) (by simp [results,Tryz.results235,go_sem]) rfl (P.out _ (nD w _ _).1)
end
section
open Go.RowKit
def twA (x:AD):AD:=⟨x.m,x.k,twN x.k x.n,twS x.k x.s,twL x.k x.len,x.z⟩
end
section
open Go.RowKit
end
section
open Go.RowKit
def twsA (A:Nat->AD) (k:Nat):List AD:=(List.range k).map fun j=>twA (A j)
def RiseA (A:Nat->AD) (n:Nat):Prop:=∀ i j,i<j->j<n->lsS (A i).m (A j).m=true
end
section
open Go.RowKit
end
section
open Go.RowKit
def iJ (w:World):Prop :=
 j6 w /\
 (∃ tp p t f,w.heap[2]? = some (.cells #[.iface tp p] t f))/\(∃ tp p t f,w.heap[3]? = some (.cells #[.iface tp p] t f))
end
section
open Go.RowKit
end
end
section
section
open Go.RowKit
end
section
open Go.RowKit
theorem cX {W:World} {base:Nat} {e:TypeId} {size:Nat} {v:Value} {k:Nat} {xs:List Value} (h:W.ownsRow base e size v k xs):∃ a cap,v=.slice a k cap:=by
 rcases h.2 with ⟨rfl,rfl⟩ | ⟨g,cap,_,rfl,_⟩
 · exact ⟨_,_,rfl⟩
 · exact ⟨_,_,rfl⟩
end
section
open Go.RowKit
end
section
open Go.RowKit
end
section
open Go.RowKit
end
section
open Go.RowKit
end
section
open Go.RowKit
end
section
open Go.RowKit
end
end
section
section
open Go.RowKit
end
section
open Go.RowKit
def yE (w0 w:World) (n:Nat) (A:Nat->AD) (e:Ending) (w':World):Prop:=(∃ a c,e=.returned (.slice a n c)/\∀ w3,aE (fun k=>w0.heap.size<=k/\k<w.heap.size) w' w3->ReadsA w3 a n A)/\Below w.heap.size w w'
end
section
open Go.RowKit
def nmD (D:List AD):List ByteArray:=D.map (·.m)
end
section
open Go.RowKit
theorem Lm:∀ x y:List UInt8,decide (Lib.compareBytes x y<0)=Op.bytesLess x y
 | [],[]=>rfl
 | [],_::_=>rfl
 | _::_,[]=>rfl
 | a :: r, b :: t => by
   have ih:=Lm r t;unfold Lib.compareBytes Op.bytesLess;by_cases h:a<b
   · simp [h]
   · by_cases h':b<a
     · have:(a == b)=false:=by rw [beq_eq_false_iff_ne];rintro rfl;exact h h'
       simp [h,h',this]
     · have:a=b:=UInt8.le_antisymm (UInt8.not_lt.1 h') (UInt8.not_lt.1 h)
       subst this;simp [h,ih]
theorem Ln:∀ x y:List UInt8,decide (Lib.compareBytes x y=0)=decide (x=y)
 | [],[]=>rfl
 | [],_::_=>rfl
 | _::_,[]=>rfl
 | a :: r, b :: t => by
   have ih:=Ln r t;unfold Lib.compareBytes;by_cases h:a<b
   · have:a ≠ b:=by rintro rfl;exact absurd h (UInt8.lt_irrefl a)
     simp [h,this]
   · by_cases h':b<a
     · have:a ≠ b:=by rintro rfl;exact h h'
       simp [h,h',this]
     · have:a=b:=UInt8.le_antisymm (UInt8.not_lt.1 h') (UInt8.not_lt.1 h)
       subst this;simpa [h] using ih
theorem l8 (x:AD) (y:Option Addr) (c:Nat) (s:ByteArray) (w:World) :
 Calls Tryz.prog 234 #[.agg #[.string x.m,.int .i64 x.k,.int .i64 x.n,.string x.s,.slice y x.len c],.string s] w fun e w'=>e=.returned (.int .i64 (Lib.compareBytes x.m.data.toList s.data.toList))/\Below w.heap.size w w':=by
 have bl:∀ o,Below w.heap.size w (w.alloc o):=fun o=>(Below.refl _ _).alloc (Nat.le_refl _) _
 have BL:=aA bl;clear bl;go_enter Tryz.func234,Tryz.ntmps234
 go_wp2_with fail
 refine (Tryz.strings_Compare _ _ _).mono ?_;rintro e w' ⟨rfl,rfl⟩;have P:=aA (BL.out (.cells #[.string x.m,.int .i64 x.k,.int .i64 x.n,.string x.s,.slice y x.len c] 67));go_wp2_with fail
 go_ret;exact ⟨rfl,P.out⟩
theorem rising_nm {A:Nat->AD} {n:Nat} (hR:RiseA A n):cI lsS (nmD (twsA A n)):=by
 have:nmD (twsA A n)=(List.range n).map (fun j=>(A j).m):=by simp [nmD,twsA,twA]
 rw [this];unfold cI;rw [List.pairwise_map];exact List.Pairwise.imp_of_mem (fun {i j} hi hj h=>hR i j h (List.mem_range.1 hj)) List.pairwise_lt_range
theorem nm_at (A:Nat->AD) {n t:Nat} (ht:t<n):(nmD (twsA A n))[t]? = some (A t).m:=by
 have:nmD (twsA A n)=(List.range n).map (fun j=>(A j).m):=by simp [nmD,twsA,twA]
 rw [this,List.getElem?_map,List.getElem?_range ht];rfl
theorem xB (a:Option Addr) (c:Nat) (f:Value) (x:ByteArray) (w:World) :
 Calls Tryz.prog 233 #[.slice a 0 c,.string x,f] w fun e w'=>e=.returned (.tuple #[.int .i64 (0:Nat),.bool false])/\w'=w:=by
 go_enter Tryz.func233,Tryz.ntmps233
 go_wp2
 go_loop [9,10] (fun s7 s8=>s7=.int .i64 0/\s8=.int .i64 0) (fun _ _=>0)
 case atStart=>exact ⟨rfl,rfl⟩
 case round =>
  obtain ⟨rfl,rfl⟩:=hrel;go_wp2
  go_ret2;exact ⟨rfl,rfl⟩
theorem xA (b off:Nat) (n c:Nat) (A:Nat->AD) (x:ByteArray) (hn:n<=1000) (hR:RiseA A n) (w:World) (h:∀ j,j<n->∃ y c,j9 w b (off+j*5) (A j) y c) :
 Calls Tryz.prog 233 #[.slice (some ⟨b,off,none⟩) n c,.string x,.func (.func 234) #[] #[]] w fun e w' =>
  e=.returned (.tuple #[.int .i64 (pos lsS (nmD (twsA A n)) x:Nat),.bool (has (nmD (twsA A n)) x)])/\Below w.heap.size w w':=by
 have hr:=rising_nm hR;have hl:(nmD (twsA A n)).length=n:=by simp [nmD,twsA]
 have hat:∀ t,t<n->(nmD (twsA A n))[t]? = some (A t).m:=fun t ht=>nm_at A ht
 generalize nmD (twsA A n)=ks at hr hl hat;have hS:=sX pL hr x;rw [hl] at hS;obtain ⟨I,hI⟩:∃ I,pos lsS ks x=I:=⟨_,rfl⟩;obtain ⟨B,hB⟩:∃ B,B=has ks x:=⟨_,rfl⟩;have hIn:I<=n:=by rw [<- hI, <- hl];exact tG _ _
 rw [hI] at hS;rw [hI, <- hB];have HE:=aA (p:=I<n->decide ((A I).m=x)=B) (fun hy=>by rw [hB,wC pL hr hI (hat I hy)]);have HN:=aA (p:=n<=I->false=B) (fun h=>by rw [hB];exact (tW pL hr hI (by omega)).symm);have HG:=aA (p:=∀ t,t<n->ks.getD t x=(A t).m) (fun t ht=>by rw [List.getD_eq_getElem?_getD,hat t ht];rfl);have HS:=aA hS;have HC:=aA h;clear hS hI hB hr hl hat h hR;go_enter Tryz.func233,Tryz.ntmps233
 go_wp2_with fail
 go_loopg [9,10] n (fun g s7 s8 wr=>∃ lo hi:Nat,s7=.int .i64 lo/\s8=.int .i64 hi/\lo<=hi/\hi<=n/\hi-lo<=g/\Hid (Below w.heap.size w wr)/\Hid (Lib.bsGo (fun t=>lsS (ks.getD t x) x) g lo hi=I))
 case atStart=>exact ⟨0,n,rfl,rfl,Nat.zero_le _,Nat.le_refl _,by omega,aA (Below.refl _ _),HS⟩
 case round =>
  obtain ⟨lo,hi,rfl,rfl,hlh,hin,hg,hBl,hb⟩:=hrel;by_cases hlt:lo<hi
  · obtain ⟨y,cy,h50⟩:=HC.out ((lo+hi) / 2) (by omega)
    have h5:=h50.kept hBl.out;obtain ⟨g',rfl⟩:∃ g',gk=g'+1:=⟨gk-1,by omega⟩;have hb1:=hb.out;have hgt:=HG.out ((lo+hi) / 2) (by omega);clear hb h50;simp only [Lib.bsGo,hlt,if_true] at hb1;obtain ⟨z,hz⟩:∃ z,A ((lo+hi) / 2)=z:=⟨_,rfl⟩;rw [hz] at h5 hgt;simp only [hgt] at hb1;have hcb:=Lm z.m.data.toList x.data.toList;rw [<- Lib.toList_data, <- Lib.toList_data,show Op.bytesLess z.m.toList x.toList=lsS z.m x from rfl,Lib.toList_data,Lib.toList_data] at hcb;have CN:=aA (fun w'=>l8 z y cy x w');obtain ⟨d0,d1,d2,d3,d4⟩:=h5;have hsz:=hBl.out.size;clear hz hgt;cases hyx:lsS z.m x <;> simp only [hyx,if_true,Bool.false_eq_true,if_false] at hb1 hcb
    · have HB:=aA hb1
      clear hb1 hyx;go_wp2_with fail
      refine (CN.out _).mono ?_;rintro e w2 ⟨rfl,hb2⟩;have B2:=aA (hBl.out.trans (hb2.mono hsz));clear hb2;go_wp2_with fail
      go_roundg ((lo+hi) / 2-lo)
      case measure=>omega
      case rel=>exact ⟨lo,(lo+hi) / 2,rfl,by rw [show ((lo:Int)+(hi:Int)) / 2=(((lo+hi) / 2:Nat):Int) by omega],by omega,by omega,Nat.le_refl _,B2,aA (by rw [<- HB.out];exact Lib.bsGo_fuel _ _ _ _ _ (Nat.le_refl _) (by omega))⟩
    · have HB:=aA hb1
      clear hb1 hyx;go_wp2_with fail
      refine (CN.out _).mono ?_;rintro e w2 ⟨rfl,hb2⟩;have B2:=aA (hBl.out.trans (hb2.mono hsz));clear hb2;go_wp2_with fail
      go_roundg (hi-((lo+hi) / 2+1))
      case measure=>omega
      case rel=>exact ⟨(lo+hi) / 2+1,hi,by rw [show ((lo:Int)+(hi:Int)) / 2+1=(((lo+hi) / 2+1:Nat):Int) by omega],rfl,by omega,hin,Nat.le_refl _,B2,aA (by rw [<- HB.out];exact Lib.bsGo_fuel _ _ _ _ _ (Nat.le_refl _) (by omega))⟩
  · obtain rfl:hi=lo:=by omega
    obtain rfl:hi=I:=by
     rw [<- hb.out];cases gk <;> simp [Lib.bsGo]
    clear hb HS;by_cases hn:hi<n
    · obtain ⟨y,cy,h50⟩:=HC.out hi hn
      have h5:=h50.kept hBl.out;have hBx:=HE.out hn;obtain ⟨z,hz⟩:∃ z,A hi=z:=⟨_,rfl⟩;rw [hz] at h5 hBx;have hcb:=Ln z.m.data.toList x.data.toList
      rw [show decide (z.m.data.toList=x.data.toList)=decide (z.m=x) from by
       by_cases hq:z.m=x
       · simp [hq]
       · rw [decide_eq_false hq];exact decide_eq_false (fun h=>hq (uG (by rw [Lib.toList_data,Lib.toList_data];exact h))),hBx,show decide (Lib.compareBytes z.m.data.toList x.data.toList=0)=(Lib.compareBytes z.m.data.toList x.data.toList == 0) from rfl] at hcb
      have CN:=aA (fun w'=>l8 z y cy x w');obtain ⟨d0,d1,d2,d3,d4⟩:=h5;have hsz:=hBl.out.size;clear HE HN HC HG hz hBx h50;go_wp2_with fail
      refine (CN.out _).mono ?_;rintro e w2 ⟨rfl,hb2⟩;have B2:=aA (hBl.out.trans (hb2.mono hsz));clear hb2;go_wp2_with fail
      go_ret2;exact ⟨rfl,B2.out⟩
    · have HB:=HN.out (by omega)
      subst HB;clear HE HN HC HG;go_wp2_with fail
      go_ret2;exact ⟨rfl,hBl.out⟩
theorem zH (a:Option Addr) (n c:Nat) (A:Nat->AD) (x:ByteArray) (hn:n<=1000) (hR:RiseA A n) (w:World) (h:ReadsA w a n A) :
 Calls Tryz.prog 233 #[.slice a n c,.string x,.func (.func 234) #[] #[]] w fun e w' =>
  e=.returned (.tuple #[.int .i64 (pos lsS (nmD (twsA A n)) x:Nat),.bool (has (nmD (twsA A n)) x)])/\Below w.heap.size w w':=by
 rcases h.2 with rfl | ⟨b,off,rfl,hc⟩
 · exact (xB a c _ x w).mono fun e w' ⟨he,hw⟩=>⟨he,by rw [hw];exact Below.refl _ _⟩
 · exact xA b off n c A x hn hR w (fun j hj=>by obtain ⟨y,c,h,_⟩:=hc j hj;exact ⟨y,c,h⟩)
def Dp (w:World) (A:Nat->AD) (n:Nat) (x:ByteArray) (e:Ending) (w':World):Prop :=
 (if has (nmD (twsA A n)) x=true then ∃ v a c,pos lsS (nmD (twsA A n)) x<n/\A (pos lsS (nmD (twsA A n)) x)=v/\e=.returned (.tuple #[.agg #[.int .i64 v.k,.int .i64 (twN v.k v.n),.string (twS v.k v.s),.slice a (twL v.k v.len) c],.bool true])/\fR w' a (twL v.k v.len) v.z
  else e=.returned (.tuple #[.agg #[.int .i64 0,.int .i64 0,.string ⟨#[]⟩,.slice none 0 0],.bool false]))/\Below w.heap.size w w'
theorem getL_any (a:Option Addr) (n c:Nat) (A:Nat->AD) (x:ByteArray) (hn:n<=1000) (hl:∀ j,j<n->(A j).len<=1000000) (hR:RiseA A n) (w:World) (h:ReadsA w a n A) :
 Calls Tryz.prog 220 #[.slice a n c,.string x] w (Dp w A n x):=by
 have BL:∀ o,Below w.heap.size w (w.alloc o):=fun o=>(Below.refl _ _).alloc (Nat.le_refl _) _
 have SF:=aA (fun o=>zH a n c A x hn hR (w.alloc o) (h.kept (BL o)));obtain ⟨W,hW⟩:∃ W,w.alloc (.cells #[.int .i64 0,.int .i64 0,.string ⟨#[]⟩,.slice none 0 0] 53)=W:=⟨_,rfl⟩;have hWb:Below w.heap.size w W:=by rw [<- hW];exact BL _
 have hWs:W.heap.size=w.heap.size+1:=by rw [<- hW];simp
 have hW4:W.heap[w.heap.size]? = some (.cells #[.int .i64 0,.int .i64 0,.string ⟨#[]⟩,.slice none 0 0] 53 (0,0)):=by rw [<- hW];exact heap_alloc_new w _
 have HW:=aA hW;have HX:=aA (And.intro hWb hW4);have RA:=aA h;have HLn:=aA hl;have hrn:=rising_nm hR;have hnl:(nmD (twsA A n)).length=n:=by simp [nmD,twsA]
 have HRN:=aA (And.intro hrn hnl);clear hWb hW4 hW h hl hR BL hrn hnl;by_cases hh:has (nmD (twsA A n)) x=true
 · have hp:pos lsS (nmD (twsA A n)) x<n:=by
    have:=(iF pL HRN.out.1).1 ((lZ _ _).1 hh);have:=(List.getElem?_eq_some_iff.1 this).1;rwa [HRN.out.2] at this
   rw [hh] at SF;have HH:=aA hh;obtain ⟨I,hI⟩:∃ I,pos lsS (nmD (twsA A n)) x=I:=⟨_,rfl⟩;obtain ⟨v,hv⟩:∃ v,A I=v:=⟨_,rfl⟩;rw [hI] at SF hp
   have GP:=aA (p:=∀ a' c' w',fR w' a' (twL v.k v.len) v.z->Below w.heap.size w w'->Dp w A n x (.returned (.tuple #[.agg #[.int .i64 v.k,.int .i64 (twN v.k v.n),.string (twS v.k v.s),.slice a' (twL v.k v.len) c'],.bool true])) w') (fun a' c' w' hr hb=>⟨by
    rw [if_pos HH.out,hI];exact ⟨v,a',c',hp,hv,rfl,hr⟩,hb⟩)
   obtain ⟨b,off,rfl,hc⟩:=RA.out.2.resolve_left (by omega);obtain ⟨y,cy,h5,hry⟩:=hc I hp;have hlv:=HLn.out I hp;rw [hv] at h5 hry hlv;have H5:=aA (And.intro h5 hry);clear hc hv h5 hry hI hh;go_enter Tryz.func220,Tryz.ntmps220
   go_wp2_with fail
   refine (SF.out _).mono ?_;rw [HW.out];rintro e w2 ⟨rfl,hb2⟩;have B2:=aA (HX.out.1.trans (hb2.mono HX.out.1.size));have V2:=aA ((hb2.block w.heap.size (by omega)).trans HX.out.2);have hz2:=hb2.size;obtain ⟨d0,d1,d2,d3,d4⟩:=H5.out.1.kept B2.out;have TW:=aA (Fz v.k v.n v.s y v.len cy v.z hlv w2 (H5.out.2.kept B2.out));clear hb2;go_wp2_with fail
   refine TW.out.mono ?_;rintro e w3 ⟨⟨a3,c3,rfl,hn3,hr3⟩,hb3⟩;have B3:=aA (B2.out.trans (hb3.mono (by omega)));have V3:=(hb3.block w.heap.size (by omega)).trans V2.out;obtain ⟨⟨c0,c1,c2,c3'⟩,⟨f0,f1,f2,f3⟩⟩:=aK V3;have R3:=aA (And.intro (hr3 w3 (aE.refl _ _)) hn3);clear hb3 V3 hr3 hn3 d0 d1 d2 d3 d4;go_wp2_with fail
   have hb4:=aA (mV B3.out (Nat.le_refl _) (.int .i64 v.k) (.int .i64 (twN v.k v.n)) (.string (twS v.k v.s)) (.slice a3 (twL v.k v.len) c3));have hk4:=aA (R3.out.1.keptS (wB w3 w.heap.size (.int .i64 v.k) (.int .i64 (twN v.k v.n)) (.string (twS v.k v.s)) (.slice a3 (twL v.k v.len) c3)) (fun q hq h=>by have:=R3.out.2 q hq;omega));exact bodyPost_ret (v:=.tuple #[.agg #[.int .i64 v.k,.int .i64 (twN v.k v.n),.string (twS v.k v.s),.slice a3 (twL v.k v.len) c3],.bool true]) (by simp [results,Tryz.results220,go_sem, *]) rfl (GP.out _ _ _ hk4.out hb4.out)
 · have hh':has (nmD (twsA A n)) x=false:=by simpa using hh
   rw [hh'] at SF;have HH:=aA hh;clear hh hh';go_enter Tryz.func220,Tryz.ntmps220
   go_wp2_with fail
   refine (SF.out _).mono ?_;rw [HW.out];rintro e w2 ⟨rfl,hb2⟩;have B2:=aA (HX.out.1.trans (hb2.mono HX.out.1.size));have V2:=(hb2.block w.heap.size (by omega)).trans HX.out.2;obtain ⟨⟨c0,c1,c2,c3⟩,⟨f0,f1,f2,f3⟩⟩:=aK V2;clear hb2 V2;go_wp2_with fail
   have hb4:=aA (mV B2.out (Nat.le_refl _) (.int .i64 0) (.int .i64 0) (.string ⟨#[]⟩) (.slice none 0 0));exact bodyPost_ret (v:=.tuple #[.agg #[.int .i64 0,.int .i64 0,.string ⟨#[]⟩,.slice none 0 0],.bool false]) (by simp [results,Tryz.results220,go_sem, *]) rfl ⟨by rw [if_neg HH.out],hb4.out⟩
end
section
open Go.RowKit
end
section
open Go.RowKit
end
section
open Go.RowKit Go.ChangeShapes Go.WideShapes Go.Deep
end
end
end Go.Proofs.YtapcjnoaofmmiaaGreatDoor.Wr
namespace Go.Proofs.YtapcjnoaofmmiaaGreatDoor
open Go.RowKit
section
open Go.RowKit
structure Hx (A:Nat->Wr.AD) (n:Nat) (g:ByteArray->Option Int):Prop where
 yes:∀ j,j<n->g (A j).m=if (A j).k=1 then some (A j).n else none
 no:∀ x,(∀ j,j<n->(A j).m ≠ x)->g x=none
 fit:∀ x v,g x=some v->bQ v
theorem Bi (o:ByteArray) (a b:Int) (ha:bQ a) (hb:bQ b) (h4:k8 o=true) (w:World):Calls Tryz.prog 199 #[.string o,.int .i64 a,.int .i64 b] w fun e w'=>e=.returned (.tuple #[.int .i64 ((pD o a b).getD 0),.bool (pD o a b).isSome])/\w=w':=by
 have A1:=aA (yN a b w ha hb);have A2:=aA (yK a b w ha hb);have A3:=aA (Fu a b w ha hb);unfold k8 at h4;unfold pD;cases h1:(o.data.toList == [43]) with
 | true =>
   have g1:=bT h1;rw [if_pos rfl];simp only [Option.getD_some,Option.isSome_some];clear h1 h4;go_enter Tryz.func199,Tryz.ntmps199
   go_wp2_with fail
   refine A1.out.mono ?_;rintro e w1 ⟨rfl,rfl⟩;go_wp2_with fail
   go_ret2;exact ⟨rfl,rfl⟩
 | false =>
   have g1:=aM h1;rw [if_neg (by decide)];cases h2:(o.data.toList == [45]) with
   | true =>
     have g2:=bT h2;rw [if_pos rfl];simp only [Option.getD_some,Option.isSome_some];clear h1 h4 h2;go_enter Tryz.func199,Tryz.ntmps199
     go_wp2_with fail
     refine A2.out.mono ?_;rintro e w1 ⟨rfl,rfl⟩;go_wp2_with fail
     go_ret2;exact ⟨rfl,rfl⟩
   | false =>
     have g2:=aM h2;rw [if_neg (by decide)];cases h3:(o.data.toList == [42]) with
     | true =>
       have g3:=bT h3;rw [if_pos rfl];simp only [Option.getD_some,Option.isSome_some];clear h1 h4 h2 h3;go_enter Tryz.func199,Tryz.ntmps199
       go_wp2_with fail
       refine A3.out.mono ?_;rintro e w1 ⟨rfl,rfl⟩;go_wp2_with fail
       go_ret2;exact ⟨rfl,rfl⟩
     | false =>
       have g3:=aM h3;rw [if_neg (by decide)];cases h5:(o.data.toList == [47]) with
       | true =>
         have g4:=bT h5;rw [if_pos rfl];by_cases hz:b=0
         · subst hz
           have A4:=aA (yM a w);rw [if_pos rfl];simp only [Option.getD_none,Option.isSome_none];clear h1 h4 h2 h3 h5;go_enter Tryz.func199,Tryz.ntmps199
           go_wp2_with fail
           refine A4.out.mono ?_;rintro e w1 ⟨rfl,rfl⟩;go_wp2_with fail
           go_ret2;exact ⟨rfl,rfl⟩
         · have A4:=aA (Fw a b w ha hb hz)
           rw [if_neg hz];simp only [Option.getD_some,Option.isSome_some];clear h1 h4 h2 h3 h5 hz;go_enter Tryz.func199,Tryz.ntmps199
           go_wp2_with fail
           refine A4.out.mono ?_;rintro e w1 ⟨rfl,rfl⟩;go_wp2_with fail
           go_ret2;exact ⟨rfl,rfl⟩
       | false =>
         have g4:=aM h5;rw [if_neg (by decide)];have g5:=bT (o:=o) (x:=[37]) (by rw [h1,h2,h3,h5] at h4;simpa using h4);by_cases hz:b=0
         · subst hz
           have A4:=aA (yL a w);rw [if_pos rfl];simp only [Option.getD_none,Option.isSome_none];clear h1 h4 h2 h3 h5;go_enter Tryz.func199,Tryz.ntmps199
           go_wp2_with fail
           refine A4.out.mono ?_;rintro e w1 ⟨rfl,rfl⟩;go_wp2_with fail
           go_ret2;exact ⟨rfl,rfl⟩
         · have A4:=aA (Fv a b w ha hb hz)
           rw [if_neg hz];simp only [Option.getD_some,Option.isSome_some];clear h1 h4 h2 h3 h5 hz;go_enter Tryz.func199,Tryz.ntmps199
           go_wp2_with fail
           refine A4.out.mono ?_;rintro e w1 ⟨rfl,rfl⟩;go_wp2_with fail
           go_ret2;exact ⟨rfl,rfl⟩
theorem ED {A:Nat->Wr.AD} {n:Nat} {g:ByteArray->Option Int} (hg:Hx A n g) (hR:Wr.RiseA A n) (x:ByteArray) :
 (has (Wr.nmD (Wr.twsA A n)) x=true->pos lsS (Wr.nmD (Wr.twsA A n)) x<n->g x=if (A (pos lsS (Wr.nmD (Wr.twsA A n)) x)).k=1 then some (A (pos lsS (Wr.nmD (Wr.twsA A n)) x)).n else none) /\
 (¬ has (Wr.nmD (Wr.twsA A n)) x=true->g x=none):=by
 have hr:=Wr.rising_nm hR;refine ⟨fun h hp=>?_,fun h=>hg.no x fun j hj e=>h ?_⟩
 · have h1:=(iF pL hr).1 ((lZ _ _).1 h)
   rw [Wr.nm_at A hp] at h1;have h2:=hg.yes _ hp;rw [Option.some.inj h1] at h2;exact h2
 · rw [lZ]
   exact e ▸ List.mem_of_getElem? (Wr.nm_at A hj)
theorem Bm {A:Nat->Wr.AD} {n:Nat} {g:ByteArray->Option Int} (hg:Hx A n g) (hR:Wr.RiseA A n) (hn:n<=1000) (hl:∀ j,j<n->(A j).len<=1000000) (a:Option Addr) (c:Nat) (x:ByteArray) (w:World) (h:Wr.ReadsA w a n A) :
 Calls Tryz.prog 197 #[.slice a n c,.string x] w fun e w'=>e=.returned (.tuple #[.int .i64 ((g x).getD 0),.bool (g x).isSome])/\Below w.heap.size w w':=by
 have C:=aA (Wr.getL_any a n c A x hn hl hR w h);obtain ⟨F1,F2⟩:=ED hg hR x;by_cases hh:has (Wr.nmD (Wr.twsA A n)) x=true
 · have C1:=aA (p:=Calls Tryz.prog 220 #[.slice a n c,.string x] w fun e w'=>(∃ (v:Wr.AD) (a:Option Addr) (c:Nat),g x=(if v.k=1 then some v.n else none)/\e=.returned (.tuple #[.agg #[.int .i64 v.k,.int .i64 (Wr.twN v.k v.n),.string (Wr.twS v.k v.s),.slice a (Wr.twL v.k v.len) c],.bool true]))/\Below w.heap.size w w') (C.out.mono fun e w' ⟨he,hb⟩=>by
    rw [if_pos hh] at he;obtain ⟨v,a2,c2,hp,rfl,he, -⟩:=he;exact ⟨⟨_,a2,c2,F1 hh hp,he⟩,hb⟩)
   clear F1 F2 C h hh;go_enter Tryz.func197,Tryz.ntmps197
   go_wp2_with fail
   refine C1.out.mono ?_;rintro e w1 ⟨⟨v,a2,c2,hv,rfl⟩,hb⟩;have B1:=aA hb;have HV:=aA hv;have tw1:v.k=1->Wr.twN v.k v.n=v.n:=fun h=>by rw [h];rfl
   obtain ⟨N,hN⟩:∃ N,Wr.twN v.k v.n=N:=⟨_,rfl⟩;obtain ⟨Z,hZ⟩:∃ Z,Wr.twS v.k v.s=Z:=⟨_,rfl⟩;obtain ⟨L,hL⟩:∃ L,Wr.twL v.k v.len=L:=⟨_,rfl⟩;rw [hN] at tw1;rw [hN,hZ,hL];obtain ⟨k,hk⟩:∃ k,v.k=k:=⟨_,rfl⟩;rw [hk] at HV tw1 |-
   clear hb hv hN hZ hL hk C1;by_cases h1:k=1
   · have TW:=aA (tw1 h1)
     subst h1;have HG:=aA (show g x=some v.n by rw [HV.out,if_pos rfl]);clear HV tw1;have B2:=aA (B1.out.trans (((Below.refl w1.heap.size w1).alloc (Nat.le_refl _) (.cells #[.int .i64 1,.int .i64 N,.string Z,.slice a2 L c2] 53)).mono B1.out.size));go_wp2_with fail
     go_ret2;exact ⟨by rw [HG.out,TW.out];rfl,B2.out⟩
   · have HG:=aA (show g x=none by rw [HV.out,if_neg h1])
     have e1:(k == 1)=false:=by simpa using h1
     have e2:(k != 1)=true:=by simpa using h1
     clear HV tw1;have B2:=aA (B1.out.trans (((Below.refl w1.heap.size w1).alloc (Nat.le_refl _) (.cells #[.int .i64 k,.int .i64 N,.string Z,.slice a2 L c2] 53)).mono B1.out.size));go_wp2_with fail
     go_ret2;rw [HG.out];exact ⟨rfl,B2.out⟩
 · have HG:=aA (F2 hh)
   have C1:=aA (p:=Calls Tryz.prog 220 #[.slice a n c,.string x] w fun e w'=>e=.returned (.tuple #[.agg #[.int .i64 0,.int .i64 0,.string ⟨#[]⟩,.slice none 0 0],.bool false])/\Below w.heap.size w w') (C.out.mono fun e w' ⟨he,hb⟩=>by
    rw [if_neg hh] at he;exact ⟨he,hb⟩)
   clear F1 F2 C h hh;go_enter Tryz.func197,Tryz.ntmps197
   go_wp2_with fail
   refine C1.out.mono ?_;rintro e w1 ⟨rfl,hb⟩;have B2:=aA (hb.trans (((Below.refl w1.heap.size w1).alloc (Nat.le_refl _) (.cells #[.int .i64 0,.int .i64 0,.string ⟨#[]⟩,.slice none 0 0] 53)).mono hb.size));clear hb C1;go_wp2_with fail
   go_ret2;rw [HG.out];exact ⟨rfl,B2.out⟩
structure j5 (A:Nat->Wr.AD) (n:Nat) (g:ByteArray->Option Int):Prop where
 ok:Hx A n g
 ri:Wr.RiseA A n
 few:n<=1000
 sm:∀ j,j<n->(A j).len<=1000000
def PEv (A:Nat->Wr.AD) (n:Nat) (g:ByteArray->Option Int) (t:TN):Prop:=∀ (G:Nat->Prop) (w:World) (a:Option Addr) (c:Nat) (y:Option Addr) (cy:Nat),aH G w a t.ks->Wr.ReadsA w y n A ->
 Calls Tryz.prog 175 #[bB t.op t.nm t.n a t.ks.len c,.slice y n cy] w fun e w'=>e=.returned (.tuple #[.int .i64 ((evT g t).getD 0),.bool (evT g t).isSome])/\Below w.heap.size w w'
variable {A:Nat->Wr.AD} {n:Nat} {g:ByteArray->Option Int}
theorem IA (o m:ByteArray) (v:Int) (h1:bY o=true):PEv A n g ⟨o,m,v,.nil⟩:=by
 intro G w a c y cy hr hA;rw [G5 g h1];clear hr hA;dsimp only;have g1:=bT h1;unfold l5 at g1;have NB:=aA (heap_alloc_new w (ndG o m v a F.nil.len c));have B0:=aA ((Below.refl w.heap.size w).alloc (Nat.le_refl _) (ndG o m v a F.nil.len c));clear h1;go_enter Tryz.func175,Tryz.ntmps175
 go_wp2_with fail
 go_ret2;exact ⟨rfl,B0.out⟩
theorem FZ (U:j5 A n g) (o m:ByteArray) (v:Int) (h1:bY o=false) (h2:bN o=true):PEv A n g ⟨o,m,v,.nil⟩:=by
 intro G w a c y cy hr hA;rw [Dj g h1 h2];dsimp only;have g1:=aM h1;have g2:=bT h2;unfold l5 at g1;unfold iQ at g2;have B0:=aA ((Below.refl w.heap.size w).alloc (Nat.le_refl _) (ndG o m v a F.nil.len c));have C:=aA (Bm U.ok U.ri U.few U.sm y cy m (w.alloc (ndG o m v a F.nil.len c)) (hA.kept B0.out));obtain ⟨q,hq⟩:∃ q,g m=q:=⟨_,rfl⟩;rw [hq] at C |-
 clear h1 h2 hr hA hq;go_enter Tryz.func175,Tryz.ntmps175
 go_wp2_with fail
 refine C.out.mono ?_;rintro e w1 ⟨rfl,hb⟩;have B1:=aA (B0.out.trans (hb.mono B0.out.size));clear hb;go_wp2_with fail
 go_ret2;exact ⟨rfl,B1.out⟩
theorem IB (o m:ByteArray) (v:Int) (t:TN) (h1:bY o=false) (h2:bN o=false) (h3:fP o=true) (hi:∀ x,evT g t=some x->bQ x) (ih:PEv A n g t):PEv A n g ⟨o,m,v,t.f⟩:=by
 intro G w a c y cy hr hA;rw [G6 g t h1 h2 h3];dsimp only at hr |-
 rw [show t.f.len=1 from rfl];have g1:=aM h1;have g2:=aM h2;have g3:=bT h3;unfold l5 at g1;unfold iQ at g2;unfold iI at g3;have NB:=aA (heap_alloc_new w (ndG o m v a 1 c));have B0:=aA ((Below.refl w.heap.size w).alloc (Nat.le_refl _) (ndG o m v a 1 c));obtain ⟨b,off,a2,c2,ha,hG,hbl,⟨p0,p1,p2,p3⟩,hr2⟩:=cR (hr.kept B0.out) (show t.f.at 0=some t from rfl);have C:=aA (ih G (w.alloc (ndG o m v a 1 c)) a2 c2 y cy hr2 (hA.kept B0.out));rw [Nat.zero_mul,Nat.add_zero] at p0 p1 p2 p3;subst ha;have SB:=aA (fun (x:Int) (h:bQ x) (V:World)=>yK 0 x V (by unfold bQ;omega) h)
 have HI:bQ ((evT g t).getD 0):=by
  cases hE:evT g t with
  | none=>show bQ 0;unfold bQ;omega
  | some x=>exact hi x hE
 have RS:(Option.map (fun x=>dK (0-x)) (evT g t)).getD 0=dK (0-(evT g t).getD 0)/\(Option.map (fun x=>dK (0-x)) (evT g t)).isSome=(evT g t).isSome:=by
  cases evT g t with
  | none=>exact ⟨by decide,rfl⟩
  | some x=>exact ⟨rfl,rfl⟩
 rw [RS.1,RS.2];obtain ⟨q,hq⟩:∃ q,(evT g t).getD 0=q:=⟨_,rfl⟩;obtain ⟨z,hz⟩:∃ z,(evT g t).isSome=z:=⟨_,rfl⟩;rw [hq] at C HI |-
 rw [hz] at C |-
 have S1:=aA (SB.out q HI);rw [Int.zero_sub];clear h1 h2 h3 hr hA ih hr2 hq hz RS HI hi SB;go_enter Tryz.func175,Tryz.ntmps175
 go_wp2_with fail
 generalize w.alloc (ndG o m v (some ⟨b,off,none⟩) 1 c)=W at NB B0 C hbl p0 p1 p2 p3 |-
 obtain ⟨⟨m0,m1,m2,m3⟩, -⟩:=aK NB.out;go_wp2_with fail
 refine C.out.mono ?_;rintro e w1 ⟨rfl,hb⟩;have B1:=aA (B0.out.trans (hb.mono B0.out.size));clear hb;go_wp2_with fail
 refine (S1.out _).mono ?_;rintro e w2 ⟨rfl,rfl⟩;go_wp2_with fail
 go_ret2;exact ⟨rfl,B1.out⟩
theorem Iz (o m:ByteArray) (v:Int) (t u:TN) (h1:bY o=false) (h2:bN o=false) (h3:fP o=false) (h4:k8 o=true) (hi:∀ x,evT g t=some x->bQ x) (hj:∀ x,evT g u=some x->bQ x) (ih:PEv A n g t) (iu:PEv A n g u):PEv A n g ⟨o,m,v,.cons t.op t.nm t.n t.ks u.f⟩:=by
 intro G w a c y cy hr hA;rw [G4 g t u h1 h2 h3];dsimp only at hr |-
 rw [show (F.cons t.op t.nm t.n t.ks u.f).len=2 from rfl];have g1:=aM h1;have g2:=aM h2;have g3:=aM h3;unfold l5 at g1;unfold iQ at g2;unfold iI at g3;have NB:=aA (heap_alloc_new w (ndG o m v a 2 c));have B0:=aA ((Below.refl w.heap.size w).alloc (Nat.le_refl _) (ndG o m v a 2 c));obtain ⟨b,off,a2,c2,ha,hG,hbl,⟨p0,p1,p2,p3⟩,hr2⟩:=cR (hr.kept B0.out) (show (F.cons t.op t.nm t.n t.ks u.f).at 0=some t from rfl);obtain ⟨b',off',a3,c3,ha',hG',hbl',⟨q0,q1,q2,q3⟩,hr3⟩:=cR (hr.kept B0.out) (show (F.cons t.op t.nm t.n t.ks u.f).at 1=some u from rfl);subst ha;cases ha';have C:=aA (ih G (w.alloc (ndG o m v (some ⟨b,off,none⟩) 2 c)) a2 c2 y cy hr2 (hA.kept B0.out));have D:=aA (fun V (hV:Below (w.alloc (ndG o m v (some ⟨b,off,none⟩) 2 c)).heap.size (w.alloc (ndG o m v (some ⟨b,off,none⟩) 2 c)) V)=>iu G V a3 c3 y cy (hr3.kept hV) ((hA.kept B0.out).kept hV));have AP:=aA (fun (p q:Int) (hp:bQ p) (hq:bQ q) (V:World)=>Bi o p q hp hq h4 V);rw [Nat.zero_mul,Nat.add_zero] at p0 p1 p2 p3;rw [Nat.one_mul] at q0 q1 q2 q3;clear h1 h2 h3 h4 hr hA ih iu hr2 hr3;cases hT:evT g t with
 | none =>
   rw [hT] at C;simp only [Option.getD_none,Option.isSome_none] at C |-
   clear hT hi hj D AP;go_enter Tryz.func175,Tryz.ntmps175
   go_wp2_with fail
   generalize w.alloc (ndG o m v (some ⟨b,off,none⟩) 2 c)=W at NB B0 C hbl p0 p1 p2 p3 |-
   obtain ⟨⟨m0,m1,m2,m3⟩, -⟩:=aK NB.out;go_wp2_with fail
   refine C.out.mono ?_;rintro e w1 ⟨rfl,hb⟩;have B1:=aA (B0.out.trans (hb.mono B0.out.size));clear hb;go_wp2_with fail
   go_ret2;exact ⟨rfl,B1.out⟩
 | some p =>
   rw [hT] at C;simp only [Option.getD_some,Option.isSome_some] at C;have HP:=aA (hi p hT);cases hU:evT g u with
   | none =>
     rw [hU] at D;simp only [Option.getD_none,Option.isSome_none] at D |-
     clear hT hi hj hU AP;go_enter Tryz.func175,Tryz.ntmps175
     go_wp2_with fail
     generalize w.alloc (ndG o m v (some ⟨b,off,none⟩) 2 c)=W at NB B0 C D hbl hbl' p0 p1 p2 p3 q0 q1 q2 q3 |-
     obtain ⟨⟨m0,m1,m2,m3⟩, -⟩:=aK NB.out;go_wp2_with fail
     refine C.out.mono ?_;rintro e w1 ⟨rfl,hb⟩;have D1:=aA (D.out w1 hb);have B1:=aA (B0.out.trans (hb.mono B0.out.size));have s0:=(hb.cell hbl').trans q0;have s1:=(hb.cell hbl').trans q1;have s2:=(hb.cell hbl').trans q2;have s3:=(hb.cell hbl').trans q3;have s4:=(hb.cell (aG NB.out)).trans m3;have s5:=(hb.cell (aG NB.out)).trans m0;clear hb p0 p1 p2 p3 q0 q1 q2 q3 m0 m1 m2 m3 C D;go_wp2_with fail
     refine D1.out.mono ?_;rintro e w2 ⟨rfl,hb⟩;have B2:=aA (B1.out.trans (hb.mono B1.out.size));clear hb;go_wp2_with fail
     go_ret2;exact ⟨rfl,B2.out⟩
   | some q =>
     rw [hU] at D;simp only [Option.getD_some,Option.isSome_some] at D |-
     have A1:=aA (AP.out p q HP.out (hj q hU));clear hT hi hj hU AP HP;go_enter Tryz.func175,Tryz.ntmps175
     go_wp2_with fail
     generalize w.alloc (ndG o m v (some ⟨b,off,none⟩) 2 c)=W at NB B0 C D hbl hbl' p0 p1 p2 p3 q0 q1 q2 q3 |-
     obtain ⟨⟨m0,m1,m2,m3⟩, -⟩:=aK NB.out;go_wp2_with fail
     refine C.out.mono ?_;rintro e w1 ⟨rfl,hb⟩;have D1:=aA (D.out w1 hb);have B1:=aA (B0.out.trans (hb.mono B0.out.size));have s0:=(hb.cell hbl').trans q0;have s1:=(hb.cell hbl').trans q1;have s2:=(hb.cell hbl').trans q2;have s3:=(hb.cell hbl').trans q3;have N1:=aA ((hb.block _ (aG NB.out)).trans NB.out);have s4:=(hb.cell (aG NB.out)).trans m3;have s5:=(hb.cell (aG NB.out)).trans m0;clear hb p0 p1 p2 p3 q0 q1 q2 q3 m0 m1 m2 m3 C D;go_wp2_with fail
     refine D1.out.mono ?_;rintro e w2 ⟨rfl,hb⟩;have B2:=aA (B1.out.trans (hb.mono B1.out.size));have s6:=(hb.cell (aG N1.out)).trans s5;clear hb s0 s1 s2 s3 s4 s5;go_wp2_with fail
     refine (A1.out _).mono ?_;rintro e w3 ⟨rfl,rfl⟩;go_wp2_with fail
     go_ret2;exact ⟨rfl,B2.out⟩
theorem xF (U:j5 A n g) (t:TN) (h:OkT t) (hn:eV t.f):PEv A n g t/\∀ x,evT g t=some x->bQ x :=
 lH (P:=fun t=>PEv A n g t/\∀ x,evT g t=some x->bQ x)
  (fun o m v a b d=>⟨IA o m v a,fun x hx=>by rw [G5 g a] at hx;cases hx;unfold bQ;omega⟩)
  (fun o m v a b _=>⟨FZ U o m v a b,fun x hx=>by rw [Dj g a b] at hx;exact U.ok.fit _ _ hx⟩)
  (fun o m v t a b c ih=>⟨IB o m v t a b c ih.2 ih.1,fun x hx=>by
   rw [G6 g t a b c,Option.map_eq_some_iff] at hx;obtain ⟨z,_,rfl⟩:=hx;exact lD _⟩)
  (fun o m v t u a b c d ih iu=>⟨Iz o m v t u a b c d ih.2 iu.2 ih.1 iu.1,fun x hx=>by
   rw [G4 g t u a b c] at hx;split at hx
   · rename_i p q hp hq
     exact Hk (ih.2 _ hp) hx
   · cases hx⟩) t h hn
theorem nM (U:j5 A n g) (t:TN) (h:aL t=0) (hn:eV t.f) (hS:SzF t.f) (G:Nat->Prop) (w:World) (a:Option Addr) (c:Nat) (y:Option Addr) (cy:Nat) (hr:aH G w a t.ks) (hA:Wr.ReadsA w y n A) :
 Calls Tryz.prog 151 #[bB t.op t.nm t.n a t.ks.len c,.slice y n cy] w fun e w'=>e=.returned (.tuple #[.int .i64 ((evT g t).getD 0),.bool (evT g t).isSome])/\Below w.heap.size w w':=by
 have B0:=(Below.refl w.heap.size w).alloc (Nat.le_refl _) (ndG t.op t.nm t.n a t.ks.len c);have N0:=heap_alloc_new w (ndG t.op t.nm t.n a t.ks.len c);have R0:=hr.kept B0;have A0:=hA.kept B0;generalize hW:w.alloc (ndG t.op t.nm t.n a t.ks.len c)=W at B0 N0 R0 A0;have HW:=aA hW;have HB:=aA B0;have CK:=aA (gN t G W a c hS R0);rw [h] at CK;have EV:=aA (fun V (hV:Below W.heap.size W V)=>(xF U t ((bV t).1 h).1 hn).1 G V a c y cy (R0.kept hV) (A0.kept hV));obtain ⟨q,hq⟩:∃ q,(evT g t).getD 0=q:=⟨_,rfl⟩;obtain ⟨z,hz⟩:∃ z,(evT g t).isSome=z:=⟨_,rfl⟩;rw [hq,hz] at EV |-
 have HN:=aA N0;clear hr hA B0 N0 R0 A0 hW hq hz h;obtain ⟨⟨m0,m1,m2,m3⟩, -⟩:=aK HN.out;go_enter Tryz.func151,Tryz.ntmps151
 go_upto_region 1 with fail
 rw [HW.out];go_wp2_with fail
 refine CK.out.mono ?_;rintro e w1 ⟨rfl,hb⟩;have E1:=aA (EV.out w1 hb);have B1:=aA (HB.out.trans (hb.mono HB.out.size));have N1:=(hb.block _ (aG HN.out)).trans HN.out;clear hb m0 m1 m2 m3 EV CK;obtain ⟨⟨m0,m1,m2,m3⟩, -⟩:=aK N1;clear N1;go_wp2_with fail
 refine E1.out.mono ?_;rintro e w2 ⟨rfl,hb⟩;have B2:=aA (B1.out.trans (hb.mono B1.out.size));clear hb;go_wp2_with fail
 go_ret2;exact ⟨rfl,B2.out⟩
def wJ (g:ByteArray->Option Int) (c:CD):Bool:=match evT g c.a,evT g c.b with | some x,some y=>(aX c.op x y).getD false | _,_=>false
theorem Du (g:ByteArray->Option Int) (c:CD) (r:List CD):dZ g (c::r)=(wJ g c && dZ g r):=rfl
theorem Ha (g:ByteArray->Option Int) (c:CD):wJ g c=((evT g c.a).isSome && (evT g c.b).isSome && (aX c.op ((evT g c.a).getD 0) ((evT g c.b).getD 0)).getD false):=by
 unfold wJ;cases evT g c.a with
 | none=>rfl
 | some x=>cases evT g c.b <;> rfl
structure OkE (t:TN):Prop where
 c:aL t=0
 n:eV t.f
 s:SzF t.f
theorem BJ {A:Nat->Wr.AD} {n:Nat} {g:ByteArray->Option Int} (U:j5 A n g) (d:CD) (hA:OkE d.a) (hB:OkE d.b) (G:Nat->Prop) (a1:Option Addr) (c1:Nat) (a2:Option Addr) (c2:Nat) (y:Option Addr) (cy:Nat) (w:World)
 (r1:aH G w a1 d.a.ks) (r2:aH G w a2 d.b.ks) (hy:Wr.ReadsA w y n A) :
 Calls Tryz.prog 150 #[cdV d a1 c1 a2 c2,.slice y n cy] w fun e w'=>e=.returned (.bool (wJ g d))/\Below w.heap.size w w':=by
 have B0:=(Below.refl w.heap.size w).alloc (Nat.le_refl _) (cdX d a1 c1 a2 c2);have N0:=heap_alloc_new w (cdX d a1 c1 a2 c2);generalize hW:w.alloc (cdX d a1 c1 a2 c2)=W at *;have HW:=aA hW;have HB:=aA B0;have HN:=aA N0;have CA:=aA (fun V (hV:Below w.heap.size w V)=>nM U d.a hA.c hA.n hA.s G V a1 c1 y cy (r1.kept hV) (hy.kept hV));have CB:=aA (fun V (hV:Below w.heap.size w V)=>nM U d.b hB.c hB.n hB.s G V a2 c2 y cy (r2.kept hV) (hy.kept hV));obtain ⟨va,hva⟩:∃ v,evT g d.a=v:=⟨_,rfl⟩;obtain ⟨vb,hvb⟩:∃ v,evT g d.b=v:=⟨_,rfl⟩;rw [Ha,hva,hvb];rw [hva] at CA;rw [hvb] at CB;obtain ⟨xa,hxa⟩:∃ n,va.getD 0=n:=⟨_,rfl⟩;obtain ⟨xb,hxb⟩:∃ n,vb.getD 0=n:=⟨_,rfl⟩;obtain ⟨za,hza⟩:∃ n,va.isSome=n:=⟨_,rfl⟩;obtain ⟨zb,hzb⟩:∃ n,vb.isSome=n:=⟨_,rfl⟩;rw [hxa,hza] at CA;rw [hxb,hzb] at CB;have HO:=aA (fun V=>tH d.op xa xb V);obtain ⟨zo,hzo⟩:∃ z,(aX d.op xa xb).getD false=z:=⟨_,rfl⟩;obtain ⟨zs,hzs⟩:∃ z,(aX d.op xa xb).isSome=z:=⟨_,rfl⟩;rw [hzo,hzs] at HO;rw [hxa,hza,hxb,hzb,hzo];obtain ⟨r,hr⟩:∃ r,(za && zb && zo)=r:=⟨_,rfl⟩;rw [hr];have HR:=aA hr;obtain ⟨p0,p1,p2,p3,p4,p5,p6,p7,p8⟩:=eZ N0;clear hW B0 N0 r1 r2 hy hva hvb hxa hxb hza hzb hzo hzs hr;go_enter Tryz.func150,Tryz.ntmps150
 go_upto_region 1 with fail
 rw [show w.alloc (.cells #[.string d.op,.string d.a.op,.string d.a.nm,.int .i64 d.a.n,.slice a1 d.a.ks.len c1,.string d.b.op,.string d.b.nm,.int .i64 d.b.n,.slice a2 d.b.ks.len c2] 98)=W from HW.out];go_wp2_with fail
 refine (CA.out W HB.out).mono ?_;rintro e w1 ⟨rfl,hb⟩;have HB1:=aA (HB.out.trans (hb.mono HB.out.size));have N1:=aA ((hb.block _ (aG HN.out)).trans HN.out);clear hb CA p0 p1 p2 p3 p4 p5 p6 p7 p8;obtain ⟨p0,p1,p2,p3,p4,p5,p6,p7,p8⟩:=eZ N1.out;go_wp2_with fail
 refine (CB.out w1 HB1.out).mono ?_;rintro e w2 ⟨rfl,hb⟩;have HB2:=aA (HB1.out.trans (hb.mono HB1.out.size));have N2:=(hb.block _ (aG N1.out)).trans N1.out;clear hb CB p0 p1 p2 p3 p4 p5 p6 p7 p8;obtain ⟨p0,p1,p2,p3,p4,p5,p6,p7,p8⟩:=eZ N2;clear N2;go_wp2_with fail
 refine (HO.out w2).mono ?_;rintro e w3 ⟨rfl,rfl⟩;cases za with
 | false =>
   have TR:=aA (show false=r from HR.out);go_wp2_with fail
   go_ret;exact ⟨congrArg (fun z=>Ending.returned (.bool z)) TR.out,HB2.out⟩
 | true =>
   cases zb with
   | false =>
     have TR:=aA (show false=r from HR.out);go_wp2_with fail
     go_ret;exact ⟨congrArg (fun z=>Ending.returned (.bool z)) TR.out,HB2.out⟩
   | true =>
     have TR:=aA (show zo=r from HR.out);go_wp2_with fail
     go_ret;exact ⟨congrArg (fun z=>Ending.returned (.bool z)) TR.out,HB2.out⟩
theorem two {W:World} {B:Nat} {x0 x1:Value} {t:TypeId} (h:W.heap[B]? = some (.cells #[x0,x1] t (0,0))) :
 (W.cell? ⟨B,0,none⟩=some x0/\W.cell? ⟨B,1,none⟩=some x1)/\W.frozen? ⟨B,0,none⟩=false/\W.frozen? ⟨B,1,none⟩=false:=by
 refine ⟨⟨?_,?_⟩,?_,?_⟩ <;> simp [World.cell?,World.frozen?,h]
theorem nC {W:World} {B:Nat} {x0 x1:Value} {t:TypeId} (h:W.heap[B]? = some (.cells #[x0,x1] t (0,0))) (v0 v1:Value) :
 ((W.setCell ⟨B,0,none⟩ v0).setCell ⟨B,1,none⟩ v1).heap[B]? = some (.cells #[v0,v1] t (0,0)):=by
 have h0:=heap_setCell_same W B 0 _ t v0 h;have g0:(W.setCell ⟨B,0,none⟩ v0).heap[B]? = some (.cells #[v0,x1] t (0,0)):=by simpa using h0
 have h1:=heap_setCell_same _ B 1 _ t v1 g0;simpa using h1
theorem yR {W:World} {B:Nat} {x0 x1:Value} {t:TypeId} (h:W.heap[B]? = some (.cells #[x0,x1] t (0,0))) (v:Value):(W.setCell ⟨B,0,none⟩ v).heap[B]? = some (.cells #[v,x1] t (0,0)):=by
 have h0:=heap_setCell_same W B 0 _ t v h;simpa using h0
theorem yQ {W:World} {B:Nat} {x0 x1:Value} {t:TypeId} (h:W.heap[B]? = some (.cells #[x0,x1] t (0,0))) (v:Value):(W.setCell ⟨B,1,none⟩ v).heap[B]? = some (.cells #[x0,v] t (0,0)):=by
 have h0:=heap_setCell_same W B 1 _ t v h;simpa using h0
abbrev jD (u v:Int):Obj:=.cells #[.int .i64 u,.int .i64 v] 131
abbrev A5 (q:Int×Int):Value:=.agg #[.int .i64 q.1,.int .i64 q.2]
def A6:Bool->Int->Option Int->Option (Int×Int)
 | true,_,none=>none
 | true,e,some b=>some (e,b)
 | false,e,_=>some (e,0)
def Ii:Bool->Bool->Bool->Option Int->Option Int->Option (Int×Int)
 | false,_,_,_,_=>none
 | true,true,_,none,_=>none
 | true,true,bb,some e,vb=>A6 bb e vb
 | true,false,bb,_,vb=>A6 bb 0 vb
def kJ (x:AG) (g:ByteArray->Option Int):Option (Int×Int):=Ii (dZ g x.wh) (eP x.fn.data.toList) (bP x.fn.data.toList) (evT g x.e) (evT g x.g)
def KJ (q:Option (Int×Int)) (u v:Int):Prop:=∀ z,q=some z->z=(u,v)
theorem nH (u v:Int):KJ none u v:=fun z h=>by cases h
theorem vI (u v:Int):KJ (some (u,v)) u v:=fun _ h=>(Option.some.inj h).symm
structure TKW (w:World) (x:AG) (p:PA) (V:World):Prop where
 k:KP9 (fun b=>b<w.heap.size) w x p V
 t:V.heap[w.heap.size+1]? = some (ptO (kP x.fn.data.toList) (eP x.fn.data.toList) (bP x.fn.data.toList))
 o:V.heap[w.heap.size+2]? = some (jD 0 0)
theorem TKW.step {w:World} {x:AG} {p:PA} {V V':World} (h:TKW w x p V) (hb:Below V.heap.size V V'):TKW w x p V' :=
 ⟨h.k.step hb,(hb.block _ (aG h.t)).trans h.t,(hb.block _ (aG h.o)).trans h.o⟩
theorem TKW.set {w:World} {x:AG} {p:PA} {V:World} (h:TKW w x p V) {D:Nat} (hD:w.heap.size+3<=D) (i:Nat) (v:Value):TKW w x p (V.setCell ⟨D,i,none⟩ v):=by
 have hk:=(aE.refl (· = D) V).setCell (p:=⟨D,i,none⟩) (.inl rfl) v;exact ⟨⟨h.k.b.trans (hk.below (B:=w.heap.size) (fun b hb=>by omega) h.k.z),Nat.le_trans h.k.z hk.size,hk.heap h.k.n (by omega),h.k.r.keptS hk (fun b hb hg=>by omega)⟩,hk.heap h.t (by omega),hk.heap h.o (by omega)⟩
theorem TKW.put {w:World} {x:AG} {p:PA} {V:World} (h:TKW w x p V) (v0 v1:Value):Below w.heap.size w ((V.setCell ⟨w.heap.size+2,0,none⟩ v0).setCell ⟨w.heap.size+2,1,none⟩ v1) :=
 h.k.b.trans ((((aE.refl (· = w.heap.size+2) V).setCell (p:=⟨w.heap.size+2,0,none⟩) (.inl rfl) v0).setCell (p:=⟨w.heap.size+2,1,none⟩) (.inl rfl) v1).below (B:=w.heap.size) (fun b hb=>by omega) h.k.z)
theorem Ig {w:World} {x:AG} {p:PA} (hr:aP (fun b=>b<w.heap.size) w x p):TKW w x p (((w.alloc (agP x p)).alloc (ptO (kP x.fn.data.toList) (eP x.fn.data.toList) (bP x.fn.data.toList))).alloc (jD 0 0)):=by
 have K:=nS hr;have hs0:(w.alloc (agP x p)).heap.size=w.heap.size+1:=World.size_alloc _ _;generalize w.alloc (agP x p)=W0 at *;have B1:=(Below.refl W0.heap.size W0).alloc (Nat.le_refl _) (ptO (kP x.fn.data.toList) (eP x.fn.data.toList) (bP x.fn.data.toList));have N1:=heap_alloc_new W0 (ptO (kP x.fn.data.toList) (eP x.fn.data.toList) (bP x.fn.data.toList));have hs1:(W0.alloc (ptO (kP x.fn.data.toList) (eP x.fn.data.toList) (bP x.fn.data.toList))).heap.size=W0.heap.size+1:=World.size_alloc _ _;generalize W0.alloc (ptO (kP x.fn.data.toList) (eP x.fn.data.toList) (bP x.fn.data.toList))=W1 at *;have B2:=(Below.refl W1.heap.size W1).alloc (Nat.le_refl _) (jD 0 0);have N2:=heap_alloc_new W1 (jD 0 0);rw [hs0] at N1;rw [hs1,hs0] at N2;exact ⟨(K.step B1).step B2,(B2.block _ (by omega)).trans N1,N2⟩
theorem Dv {A:Nat->Wr.AD} {n:Nat} {g:ByteArray->Option Int} (U:j5 A n g) (x:AG) (p:PA) (y:Option Addr) (cy:Nat) (w:World) {G:Nat->Prop} (hE:eP x.fn.data.toList=true->OkE x.e) (hG:bP x.fn.data.toList=true->OkE x.g)
 (hC:∀ d∈x.wh,OkE d.a/\OkE d.b) (hl:x.wh.length<=1000) (hr:aP G w x p) (hy:Wr.ReadsA w y n A) :
 Calls Tryz.prog 108 #[agV x p,ptV x.fn.data.toList,.slice y n cy] w fun e w'=>∃ u v,e=.returned (.tuple #[.agg #[.int .i64 u,.int .i64 v],.bool (kJ x g).isSome])/\KJ (kJ x g) u v/\Below w.heap.size w w':=by
 have hr':aP (fun b=>b<w.heap.size) w x p:=hr.imp (fun b hb _=>hb);have K0:=Ig hr';have HY:=aA (fun V (hV:Below w.heap.size w V)=>hy.kept hV);have EVE:=aA (fun (he:eP x.fn.data.toList=true) V (rd:aH (fun b=>b<w.heap.size) V p.ea x.e.ks) (ry:Wr.ReadsA V y n A)=>nM U x.e (hE he).c (hE he).n (hE he).s (fun b=>b<w.heap.size) V p.ea p.ec y cy rd ry);have EVG:=aA (fun (he:bP x.fn.data.toList=true) V (rd:aH (fun b=>b<w.heap.size) V p.ga x.g.ks) (ry:Wr.ReadsA V y n A)=>nM U x.g (hG he).c (hG he).n (hG he).s (fun b=>b<w.heap.size) V p.ga p.gc y cy rd ry);have HC:=aA (fun d hd V a1 c1 a2 c2 (r1:aH (fun b=>b<w.heap.size) V a1 d.a.ks) (r2:aH (fun b=>b<w.heap.size) V a2 d.b.ks) (ry:Wr.ReadsA V y n A)=>BJ U d (hC d hd).1 (hC d hd).2 (fun b=>b<w.heap.size) a1 c1 a2 c2 y cy V r1 r2 ry);unfold kJ ptV;have DT:=aA (fun V (h:TKW w x p V)=>h.t);obtain ⟨kk,hkk⟩:∃ b,kP x.fn.data.toList=b:=⟨_,rfl⟩;obtain ⟨ee,hee⟩:∃ b,eP x.fn.data.toList=b:=⟨_,rfl⟩;obtain ⟨bb,hbb⟩:∃ b,bP x.fn.data.toList=b:=⟨_,rfl⟩;rw [hkk,hee,hbb] at DT K0;rw [hee] at EVE;rw [hbb] at EVG;rw [hkk,hee,hbb];obtain ⟨ve,hve⟩:∃ v,evT g x.e=v:=⟨_,rfl⟩;obtain ⟨vb,hvb⟩:∃ v,evT g x.g=v:=⟨_,rfl⟩;rw [hve] at EVE;rw [hvb] at EVG;rw [hve,hvb];obtain ⟨tk,htk⟩:∃ v,dZ g x.wh=v:=⟨_,rfl⟩;rw [htk];obtain ⟨q,hq⟩:∃ q,Ii tk ee bb ve vb=q:=⟨_,rfl⟩;rw [hq];have HQ:=aA hq;have T0:=aA (show dZ g (x.wh.drop 0)=tk by rw [List.drop_zero];exact htk);generalize hW:((w.alloc (agP x p)).alloc (ptO kk ee bb)).alloc (jD 0 0)=W at K0;have HW:=aA hW;have K1:=aA K0;clear hW K0 hr hr' hy hE hG hC hkk hee hbb hve hvb htk hq
 obtain ⟨m0,m1,m2,m3,m4,m5,m6,m7,m8,m9,m10⟩:=aC K1.out.k.n;go_enter Tryz.func108,Tryz.ntmps108
 go_upto_region 1 with fail
 rw [show ((w.alloc (.cells #[.string x.fn,.int .i64 x.k,.string x.e.op,.string x.e.nm,.int .i64 x.e.n,.slice p.ea x.e.ks.len p.ec,.string x.g.op,.string x.g.nm,.int .i64 x.g.n,.slice p.ga x.g.ks.len p.gc,.slice p.wa x.wh.length p.wc] 28)).alloc (.cells #[.bool kk,.bool ee,.bool bb] 102)).alloc (.cells #[.int .i64 0,.int .i64 0] 131)=W from HW.out];go_wp2_with fail
 clear m0 m1 m2 m3 m4 m5 m6 m7 m8 m9 m10;go_loopw [9,15] (fun v9 i wr=>∃ (k:Nat) (u:Value),v9=u/\i=.int .i64 k/\k<=x.wh.length/\Hid (dZ g (x.wh.drop k)=tk)/\Hid (TKW w x p wr)) (fun _ i _=>x.wh.length-(intOf i).toNat)
 case atStart=>exact ⟨0,_,rfl,rfl,Nat.zero_le _,T0,K1⟩
 case round =>
  obtain ⟨k,u,rfl,rfl,hk,HT,HK⟩:=hrel;clear T0 K1;by_cases hlt:k<x.wh.length
  · obtain ⟨d,hd⟩:∃ d,x.wh[k]? = some d:=⟨_,List.getElem?_eq_getElem hlt⟩
    have hne:¬ x.wh=[]:=fun e=>by rw [e] at hlt;simp at hlt
    obtain ⟨b,off,hwa, -,hbl,hcc⟩:=HK.out.k.r.c.resolve_left hne;obtain ⟨a1,c1,a2,c2,⟨p0,p1,p2,p3,p4,p5,p6,p7,p8⟩,r1,r2⟩:=hcc k d hd
    have hdr:x.wh.drop k=d::x.wh.drop (k+1):=by
     rw [List.drop_eq_getElem_cons hlt];have:=List.getElem?_eq_getElem hlt;rw [this] at hd;rw [Option.some.inj hd]
    have HD:=aA (show (wJ g d && dZ g (x.wh.drop (k+1)))=tk by rw [<- HT.out,hdr,Du]);have BD:=(Below.refl wr.heap.size wr).alloc (Nat.le_refl _) (cdX d a1 c1 a2 c2);have ND:=heap_alloc_new wr (cdX d a1 c1 a2 c2);have K4:=aA (HK.out.step BD);have CC:=aA (HC.out d (List.mem_of_getElem? hd) (wr.alloc (cdX d a1 c1 a2 c2)) a1 c1 a2 c2 (r1.kept BD) (r2.kept BD) (HY.out _ K4.out.k.b));obtain ⟨z,hz⟩:∃ z,wJ g d=z:=⟨_,rfl⟩;rw [hz] at CC HD;rw [hwa];have b1:(k:Int)<(x.wh.length:Int):=by omega
    have b2:(0:Int)<=(k:Int):=by omega
    have b3:((k:Int)).toNat=k:=by omega
    clear hne hcc hdr hd r1 r2 BD hz hwa HT HK;go_upto_region 4 with fail
    rw [show wr.alloc (.cells #[.string d.op,.string d.a.op,.string d.a.nm,.int .i64 d.a.n,.slice a1 d.a.ks.len c1,.string d.b.op,.string d.b.nm,.int .i64 d.b.n,.slice a2 d.b.ks.len c2] 98)=wr.alloc (cdX d a1 c1 a2 c2) from rfl];generalize wr.alloc (cdX d a1 c1 a2 c2)=V1 at *;clear p0 p1 p2 p3 p4 p5 p6 p7 p8;obtain ⟨p0,p1,p2,p3,p4,p5,p6,p7,p8⟩:=eZ ND;clear ND;go_wp2_with fail
    refine CC.out.mono ?_;rintro e w5 ⟨rfl,hb5⟩;have K5:=aA (K4.out.step hb5);clear hb5 CC K4 p0 p1 p2 p3 p4 p5 p6 p7 p8;cases z with
    | true =>
      have HT2:=aA (show dZ g (x.wh.drop (k+1))=tk from HD.out);go_wp2_with fail
      go_roundw
      case rel=>exact ⟨k+1,_,rfl,by go_num,by omega,HT2,K5⟩
      case measure=>simp [intOf];omega
    | false =>
      have HT2:=aA (show false=tk from HD.out);have TR:=aA (show q=none by rw [<- HQ.out, <- HT2.out];rfl);obtain ⟨⟨o0,o1⟩,g0,g1⟩:=two K5.out.o;go_wp2_with fail
      obtain ⟨⟨d0,d1⟩, -⟩:=two (nC K5.out.o (.int .i64 0) (.int .i64 0));have P:=K5.out.put (.int .i64 0) (.int .i64 0);have E:=TR.out;subst E;exact bodyPost_ret (v:=.tuple #[.agg #[.int .i64 0,.int .i64 0],.bool false]) (by simp [results,Tryz.results108,go_sem,d0,d1]) rfl ⟨0,0,rfl,nH _ _,P⟩
  · have HT2:=aA (show tk=true by rw [<- HT.out,List.drop_of_length_le (by omega)];rfl)
    have b1:¬ (k:Int)<(x.wh.length:Int):=by omega
    have b2:decide (k<x.wh.length)=false:=decide_eq_false hlt;have HQ2:=aA (show Ii true ee bb ve vb=q by rw [<- HT2.out];exact HQ.out);have BA:=(Below.refl wr.heap.size wr).alloc (Nat.le_refl _) (jD 0 0);have NA:=heap_alloc_new wr (jD 0 0);have K2:=aA (HK.out.step BA);have hD:=aG HK.out.o;clear HT HK BA HQ HT2;go_upto_region 8 with fail
    rw [show wr.alloc (.cells #[.int .i64 0,.int .i64 0] 131)=wr.alloc (jD 0 0) from rfl];generalize wr.alloc (jD 0 0)=V at *;generalize wr.heap.size=D at *;have hD3:w.heap.size+3<=D:=by omega
    have Q2:=aA NA;clear NA;obtain ⟨⟨y0,y1,y2⟩, -⟩:=cV (DT.out _ K2.out);obtain ⟨m0,m1,m2,m3,m4,m5,m6,m7,m8,m9,m10⟩:=aC K2.out.k.n;obtain ⟨⟨s0,s1⟩,f0,f1⟩:=two Q2.out;go_upto_if 26 with fail
    go_cut [11] (fun v11 wc=>∃ (u:Int) (z:Bool),v11=.bool z/\Hid (TKW w x p wc)/\Hid (wc.heap[D]? = some (jD u 0))/\Hid ((z=true->A6 bb u vb=q)/\(z=false->q=none)))
    case first =>
     cases ee with
     | false =>
       have TS:=aA (show A6 bb 0 vb=q from HQ2.out);go_wp2_with fail
       go_meet;case rel=>exact ⟨0,true,rfl,K2,Q2,aA ⟨fun _=>TS.out,fun h=>by cases h⟩⟩
     | true =>
       have CE:=aA (EVE.out (by first | rfl | trivial) V K2.out.k.r.e (HY.out _ K2.out.k.b));go_wp2_with fail
       refine CE.out.mono ?_;rintro e w6 ⟨rfl,hb6⟩;have K6:=aA (K2.out.step hb6);have Q6:=aA ((hb6.block _ (aG Q2.out)).trans Q2.out);clear hb6 CE m0 m1 m2 m3 m4 m5 m6 m7 m8 m9 m10 y0 y1 y2 s0 s1 f0 f1;obtain ⟨⟨s0,s1⟩,f0,f1⟩:=two Q6.out;cases ve with
       | none =>
         have TS:=aA (show none=q from HQ2.out);have K7:=aA (K6.out.set hD3 0 (.int .i64 0));have Q7:=aA (yR Q6.out (.int .i64 0));go_wp2_with fail
         go_meet;case rel=>exact ⟨0,false,rfl,K7,Q7,aA ⟨fun h=>(by cases h),fun _=>TS.out.symm⟩⟩
       | some e1 =>
         have TS:=aA (show A6 bb e1 vb=q from HQ2.out);have K7:=aA (K6.out.set hD3 0 (.int .i64 e1));have Q7:=aA (yR Q6.out (.int .i64 e1));go_wp2_with fail
         go_meet;case rel=>exact ⟨e1,true,rfl,K7,Q7,aA ⟨fun _=>TS.out,fun h=>by cases h⟩⟩
    case rest =>
     obtain ⟨u,z,rfl,K3,Q3,HS⟩:=hcut;clear K2 Q2 HQ2 m0 m1 m2 m3 m4 m5 m6 m7 m8 m9 m10 y0 y1 y2 s0 s1 f0 f1;obtain ⟨⟨y0,y1,y2⟩, -⟩:=cV (DT.out _ K3.out);obtain ⟨m0,m1,m2,m3,m4,m5,m6,m7,m8,m9,m10⟩:=aC K3.out.k.n;cases z with
     | false =>
       have HS2:=aA (show q=none from HS.out.2 rfl);cases bb with
       | false =>
         have TR:=aA (show none=q from HS2.out.symm);obtain ⟨⟨o0,o1⟩,g0,g1⟩:=two K3.out.o;obtain ⟨⟨s0,s1⟩,f0,f1⟩:=two Q3.out;go_wp2_with fail
         obtain ⟨⟨d0,d1⟩, -⟩:=two (nC K3.out.o (.int .i64 u) (.int .i64 0));have P:=K3.out.put (.int .i64 u) (.int .i64 0);have E:=TR.out;subst E;exact bodyPost_ret (v:=.tuple #[.agg #[.int .i64 u,.int .i64 0],.bool false]) (by simp [results,Tryz.results108,go_sem,d0,d1]) rfl ⟨u,0,rfl,nH _ _,P⟩
       | true =>
         have TR:=aA (show none=q from HS2.out.symm);obtain ⟨⟨o0,o1⟩,g0,g1⟩:=two K3.out.o;obtain ⟨⟨s0,s1⟩,f0,f1⟩:=two Q3.out;go_wp2_with fail
         obtain ⟨⟨d0,d1⟩, -⟩:=two (nC K3.out.o (.int .i64 u) (.int .i64 0));have P:=K3.out.put (.int .i64 u) (.int .i64 0);have E:=TR.out;subst E;exact bodyPost_ret (v:=.tuple #[.agg #[.int .i64 u,.int .i64 0],.bool false]) (by simp [results,Tryz.results108,go_sem,d0,d1]) rfl ⟨u,0,rfl,nH _ _,P⟩
     | true =>
       have HS2:=aA (show A6 bb u vb=q from HS.out.1 rfl);cases bb with
       | false =>
         have HS3:=aA (show some (u,(0:Int))=q from HS2.out);have TR:=aA (show some (u,(0:Int))=q from HS3.out);obtain ⟨⟨o0,o1⟩,g0,g1⟩:=two K3.out.o;obtain ⟨⟨s0,s1⟩,f0,f1⟩:=two Q3.out;go_wp2_with fail
         obtain ⟨⟨d0,d1⟩, -⟩:=two (nC K3.out.o (.int .i64 u) (.int .i64 0));have P:=K3.out.put (.int .i64 u) (.int .i64 0);have E:=TR.out;subst E;exact bodyPost_ret (v:=.tuple #[.agg #[.int .i64 u,.int .i64 0],.bool true]) (by simp [results,Tryz.results108,go_sem,d0,d1]) rfl ⟨u,0,rfl,vI _ _,P⟩
       | true =>
         have CB:=aA (EVG.out (by first | rfl | trivial) wc K3.out.k.r.g (HY.out _ K3.out.k.b));go_wp2_with fail
         refine CB.out.mono ?_;rintro e w8 ⟨rfl,hb8⟩;have K8:=aA (K3.out.step hb8);have Q8:=aA ((hb8.block _ (aG Q3.out)).trans Q3.out);clear hb8 CB m0 m1 m2 m3 m4 m5 m6 m7 m8 m9 m10 y0 y1 y2;obtain ⟨⟨s0,s1⟩,f0,f1⟩:=two Q8.out;cases vb with
         | none =>
           have HS3:=aA (show none=q from HS2.out);have K9:=aA (K8.out.set hD3 1 (.int .i64 0));have Q9:=aA (yQ Q8.out (.int .i64 0));go_upto_region 13 with fail
           obtain ⟨Y,hY⟩:∃ Y,w8.setCell ⟨D,1,none⟩ (.int .i64 0)=Y:=⟨_,rfl⟩;rw [hY] at K9 Q9 |-
           clear hY s0 s1 f0 f1;have TR:=aA (show none=q from HS3.out);obtain ⟨⟨o0,o1⟩,g0,g1⟩:=two K9.out.o;obtain ⟨⟨s0,s1⟩,f0,f1⟩:=two Q9.out;go_wp2_with fail
           obtain ⟨⟨d0,d1⟩, -⟩:=two (nC K9.out.o (.int .i64 u) (.int .i64 0));have P:=K9.out.put (.int .i64 u) (.int .i64 0);have E:=TR.out;subst E;exact bodyPost_ret (v:=.tuple #[.agg #[.int .i64 u,.int .i64 0],.bool false]) (by simp [results,Tryz.results108,go_sem,d0,d1]) rfl ⟨u,0,rfl,nH _ _,P⟩
         | some b1 =>
           have HS3:=aA (show some (u,b1)=q from HS2.out);have K9:=aA (K8.out.set hD3 1 (.int .i64 b1));have Q9:=aA (yQ Q8.out (.int .i64 b1));go_upto_region 13 with fail
           obtain ⟨Y,hY⟩:∃ Y,w8.setCell ⟨D,1,none⟩ (.int .i64 b1)=Y:=⟨_,rfl⟩;rw [hY] at K9 Q9 |-
           clear hY s0 s1 f0 f1;have TR:=aA (show some (u,b1)=q from HS3.out);obtain ⟨⟨o0,o1⟩,g0,g1⟩:=two K9.out.o;obtain ⟨⟨s0,s1⟩,f0,f1⟩:=two Q9.out;go_wp2_with fail
           obtain ⟨⟨d0,d1⟩, -⟩:=two (nC K9.out.o (.int .i64 u) (.int .i64 b1));have P:=K9.out.put (.int .i64 u) (.int .i64 b1);have E:=TR.out;subst E;exact bodyPost_ret (v:=.tuple #[.agg #[.int .i64 u,.int .i64 b1],.bool true]) (by simp [results,Tryz.results108,go_sem,d0,d1]) rfl ⟨u,b1,rfl,vI _ _,P⟩
theorem kS {w:World} {base:Nat} {e:TypeId} {size:Nat} {a:Option Addr} {n c j:Nat} {xs:List Value} {u:Value} (h:w.ownsRow base e size (.slice a n c) n xs) (hj:xs[j]? = some u):∃ g,a=some ⟨g,0,none⟩/\w.cell? ⟨g,j,none⟩=some u:=by
 cases a with
 | none =>
   rcases h.2 with ⟨_,h2⟩ | ⟨g,cap,cur,h1,_⟩
   · have:=h.1
     subst h2;rw [Nat.zero_mul] at this;rw [List.length_eq_zero_iff.1 this] at hj;cases hj
   · cases h1
 | some a =>
   obtain ⟨g,h1,h2⟩:=nN h hj;exact ⟨g,by rw [h1],h2⟩
theorem F0 {w:World} {base:Nat} {e:TypeId} {a:Option Addr} {c n:Nat} {xs:List Value} (h:w.ownsRow base e 1 (.slice a n c) n xs):n<=c/\c<=maxLen:=by
 rcases h.2 with ⟨h,_⟩ | ⟨g,cap,cur,h,_,_,h1,h2,_⟩
 · simp only [Value.slice.injEq] at h
   obtain ⟨_,rfl,rfl⟩:=h;exact ⟨Nat.le_refl _,Nat.zero_le _⟩
 · simp only [Value.slice.injEq] at h
   obtain ⟨_,_,rfl⟩:=h;exact ⟨h1,h2⟩
theorem cX {W:World} {base:Nat} {e:TypeId} {size:Nat} {v:Value} {k:Nat} {xs:List Value} (h:W.ownsRow base e size v k xs):∃ a cap,v=.slice a k cap:=by
 rcases h.2 with ⟨rfl,rfl⟩ | ⟨g,cap,_,rfl,_⟩
 · exact ⟨_,_,rfl⟩
 · exact ⟨_,_,rfl⟩
structure RW where
 n:Nat
 A:Nat->Wr.AD
 g:ByteArray->Option Int
def dR (w:World) (a:Option Addr) (rs:List RW):Prop:=rs=[]\/∃ b off,a=some ⟨b,off,none⟩/\b<w.heap.size/\∀ j r,rs[j]? = some r->∃ y cy,w.cell? ⟨b,off+j,none⟩=some (.slice y r.n cy)/\Wr.ReadsA w y r.n r.A
abbrev vlV (k n:Int) (a:Option Addr) (l c:Nat):Value:=.agg #[.int .i64 k,.int .i64 n,.string ⟨#[]⟩,.slice a l c]
def Cv (r:EvR) (w0:World) (e:Ending) (w':World):Prop:=Below w0.heap.size w0 w' /\
 match r with
 | .no=>e=.returned (.tuple #[vlV 0 0 none 0 0,.bool false])
 | .num n=>e=.returned (.tuple #[vlV 1 n none 0 0,.bool true])
 | .list l=>∃ a c,e=.returned (.tuple #[vlV 3 0 a l.length c,.bool true])/\(l=[]\/∃ b off,a=some ⟨b,off,none⟩/\w0.heap.size<=b/\b<w'.heap.size/\∀ j n,l[j]? = some n->w'.cell? ⟨b,off+j,none⟩=some (.int .i64 n))
section
variable {s:ES} {k:Nat}
end
section
variable {x:AG} {g:ByteArray->Option Int} {s:ES} {v:Int}
end
section
variable {G:Nat->Prop} {w V:World} {x:AG} {p:PA} {T:List Int} {ta:Option Addr} {tc:Nat}
end
end
end Go.Proofs.YtapcjnoaofmmiaaGreatDoor
