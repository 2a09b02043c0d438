/-
 No statement: what ProgTextsLift needs, of the texts OE3, OE4.
-/
import Derived.Test.YtgfkjkokmcejbaaGreatDoorVX2
set_option maxHeartbeats 40000000
set_option maxRecDepth 100000
open Go.World renaming size_alloc -> Tc
open Nat renaming le_refl -> Td
open List renaming length_take -> Th, mem_iff_getElem -> Tn
open Go.Lib renaming toList_data -> Tm
namespace Go.Proofs.YtgfkjkokmcejbaaGreatDoor
open Go.RowKit Tryz
def eF (G:Nat->Prop) (w:World):F->Nat->Nat->Prop
 | .nil,_,_=>True
 | .cons o m n ks r,b,off=>G b/\b<w.heap.size/\(∃ (a:Tp) (c:Nat),(w.cell? ⟨b,off,none⟩=some (.string o)/\w.cell? ⟨b,off+1,none⟩=some (.string m)/\w.cell? ⟨b,off+2,none⟩=some (.int .i64 n)/\w.cell? ⟨b,off+3,none⟩=some (.slice a ks.len c)) /\
  (ks=.nil\/∃ b' off',a=some ⟨b',off',none⟩/\eF G w ks b' off'))/\eF G w r b (off+4)
def aK (G:Nat->Prop) (w:World) (a:Tp) (ks:F):Prop:=ks=.nil\/∃ b off,a=some ⟨b,off,none⟩/\eF G w ks b off
abbrev bD (lo:Nat) (w:World) (a:Tp) (ks:F):Prop:=aK (fun b=>lo<=b) w a ks
abbrev bN (o m:Tr) (n:Int) (a:Tp) (l c:Nat):Value:=.agg #[.string o,.string m,.int .i64 n,.slice a l c]
theorem eF.imp {G H:Nat->Prop} {w:World} (hG:∀ b,b<w.heap.size->G b->H b):∀ {f:F} {b off:Nat},eF G w f b off->eF H w f b off
 | .nil,_,_,_=>trivial
 | .cons _ _ _ _ _,_,_,⟨h1,h2,⟨a,c,hc,hk⟩,hr⟩=>⟨hG _ h2 h1,h2,⟨a,c,hc,hk.imp id fun ⟨d,off',e,h⟩=>⟨d,off',e,h.imp hG⟩⟩,hr.imp hG⟩
theorem eF.keptS {S G:Nat->Prop} {w w':World} (d:aC S w w') (j:∀ k,S k->¬ G k):∀ {f:F} {b off:Nat},eF G w f b off->eF G w' f b off
 | .nil,_,_,_=>trivial
 | .cons _ _ _ _ _, b, _, ⟨h1, h2, ⟨a, c, ⟨c0, c1, c2, c3⟩, hks⟩, hr⟩ => by
   have g:¬ S b:=fun hs=>j b hs h1
   exact ⟨h1,Nat.lt_of_lt_of_le h2 d.size,⟨a,c,⟨d.cell c0 g,d.cell c1 g,d.cell c2 g,d.cell c3 g⟩,hks.imp id fun ⟨l,off',e,h⟩=>⟨l,off',e,h.keptS d j⟩⟩,hr.keptS d j⟩
theorem aF {w w':World} (a:Below w.heap.size w w') (S:Nat->Prop):aC S w w':=⟨a.os,a.tape,a.output,a.size,fun k b _=>a.block k b⟩
theorem eF.kept {G:Nat->Prop} {w w':World} (a:Below w.heap.size w w') {f:F} {b off:Nat} (h:eF G w f b off):eF G w' f b off :=
 h.keptS (S:=fun _=>False) (aF a _) (fun _ h=>h.elim)
theorem aK.imp {G H:Nat->Prop} {w:World} {a:Tp} {ks:F} (h:aK G w a ks) (c:∀ b,b<w.heap.size->G b->H b):aK H w a ks :=
 Or.imp id (fun ⟨b,off,e,h⟩=>⟨b,off,e,h.imp c⟩) h
theorem aK.keptS {S G:Nat->Prop} {w w':World} {a:Tp} {ks:F} (h:aK G w a ks) (c:aC S w w') (d:∀ k,S k->¬ G k):aK G w' a ks :=
 Or.imp id (fun ⟨b,off,e,h⟩=>⟨b,off,e,h.keptS c d⟩) h
theorem aK.kept {G:Nat->Prop} {w w':World} {a:Tp} {ks:F} (h:aK G w a ks) (c:Below w.heap.size w w'):aK G w' a ks :=
 Or.imp id (fun ⟨b,off,e,h⟩=>⟨b,off,e,h.kept c⟩) h
theorem bD.keptS {S:Nat->Prop} {lo:Nat} {w w':World} {a:Tp} {ks:F} (h:bD lo w a ks) (b:aC S w w') (c:∀ k,S k->k<lo):bD lo w' a ks :=
 aK.keptS h b (fun k b h=>by have:=c k b;omega)
theorem bD.kept {lo:Nat} {w w':World} {a:Tp} {ks:F} (h:bD lo w a ks) (b:Below w.heap.size w w'):bD lo w' a ks:=aK.kept h b
theorem bD.mono {lo b:Nat} {w:World} {a:Tp} {ks:F} (h:bD lo w a ks) (c:b<=lo):bD b w a ks:=aK.imp h (fun _ _ h=>Nat.le_trans c h)
theorem eF.lower {lo a:Nat} {w:World} {f:F} {b off:Nat} (h:eF (fun b=>lo<=b) w f b off) (c:a<=lo):eF (fun b=>a<=b) w f b off:=h.imp (fun _ _ h=>Nat.le_trans c h)
theorem eF.drop {G:Nat->Prop} {w:World}:∀ {f:F} {b off:Nat} (j:Nat),eF G w f b off->eF G w (f.drop j) b (off+j*4)
 | f,_,off,0,h=>by rw [F.drop_zero,Nat.zero_mul,Nat.add_zero];exact h
 | .nil,_,_,_+1,_=>trivial
 | .cons _ _ _ _ _, _, off, j + 1, ⟨_, _, _, hr⟩ => by
   have:=hr.drop j;rw [show off+4+j*4=off+(j+1)*4 by omega] at this;exact this
theorem FP {G:Nat->Prop} {w:World} {b:Nat} {o m:Tr} {n:Int} {a:Tp} {ks:F} {c:Nat} {t:TypeId} {f:Nat×Nat} (g:G b) (h:w.heap[b]? = some (.cells #[.string o,.string m,.int .i64 n,.slice a ks.len c] t f)) (d:aK G w a ks):eF G w (.cons o m n ks .nil) b 0 :=
 ⟨g,(Array.getElem?_eq_some_iff.1 h).1,⟨a,c,⟨by simp [World.cell?,h],by simp [World.cell?,h],by simp [World.cell?,h],by simp [World.cell?,h]⟩,d⟩,trivial⟩
theorem FO {G:Nat->Prop} {w:World} {b:Nat} {o m k l:Tr} {n n2:Int} {a a2:Tp} {ks d:F} {c c2:Nat} {t:TypeId} {f:Nat×Nat} (p:G b)
 (h:w.heap[b]? = some (.cells #[.string o,.string m,.int .i64 n,.slice a ks.len c,.string k,.string l,.int .i64 n2,.slice a2 d.len c2] t f)) (q:aK G w a ks) (j:aK G w a2 d):eF G w (.cons o m n ks (.cons k l n2 d .nil)) b 0:=by
 have g:=(Array.getElem?_eq_some_iff.1 h).1
 exact ⟨p,g,⟨a,c,⟨by simp [World.cell?,h],by simp [World.cell?,h],by simp [World.cell?,h],by simp [World.cell?,h]⟩,q⟩,
  p,g,⟨a2,c2,⟨by simp [World.cell?,h],by simp [World.cell?,h],by simp [World.cell?,h],by simp [World.cell?,h]⟩,j⟩,trivial⟩
def IsR (w:World) (b:Nat) (a:Tp) (l c:Nat) (s:RS):Prop:=w.heap[b]? = some (.cells #[.slice a l c,.int .i64 s.pos,.int .i64 s.cnt,.int .i64 s.bad,.int .i64 s.whr] 126 (0,0))
theorem IsR.cells {w:World} {b:Nat} {a:Tp} {l c:Nat} {s:RS} (h:IsR w b a l c s) :
 (w.cell? ⟨b,0,none⟩=some (.slice a l c)/\w.cell? ⟨b,1,none⟩=some (.int .i64 s.pos)/\w.cell? ⟨b,2,none⟩=some (.int .i64 s.cnt)/\w.cell? ⟨b,3,none⟩=some (.int .i64 s.bad)/\w.cell? ⟨b,4,none⟩=some (.int .i64 s.whr)) /\
 (w.frozen? ⟨b,1,none⟩=false/\w.frozen? ⟨b,2,none⟩=false/\w.frozen? ⟨b,3,none⟩=false/\w.frozen? ⟨b,4,none⟩=false):=by
 unfold IsR at h;refine ⟨⟨?_,?_,?_,?_,?_⟩,?_,?_,?_,?_⟩ <;> simp [World.cell?,World.frozen?,h]
theorem IsR.lt {w:World} {b:Nat} {a:Tp} {l c:Nat} {s:RS} (h:IsR w b a l c s):b<w.heap.size:=(Array.getElem?_eq_some_iff.1 h).1
theorem lR {L:List Tk} {y:Tq} {p:Nat} (h:L.length<=p):isS L y p=false:=by
 unfold isS;rw [List.getElem?_eq_none h]
theorem PK {L:List Tk} {p:Nat} (h:L.length<=p):isM L p=false:=by unfold isM;rw [lR h,lR h,lR h];rfl
theorem PL {L:List Tk} {p:Nat} (h:L.length<=p):isA L p=false:=by unfold isA;rw [lR h,lR h];rfl
def dC:F->Nat
 | .nil=>0
 | .cons _ _ _ ks r=>1+dC ks+dC r
def aR (t:TN):Nat:=1+dC t.ks
theorem iW (t:TN):dC t.f=aR t:=by unfold TN.f aR;rw [dC,dC,Nat.add_zero]
theorem uY:∀ (f:F) (l:Int),jD f l<=l
 | .nil,l=>Int.le_refl _
 | .cons _ _ _ ks r, l => by
   rw [jD];split
   · exact Int.le_refl _
   · have:=uY ks (l-1)
     have:=uY r (jD ks (l-1));omega
theorem tU:∀ (f:F) (l:Int),(dC f:Int)<=l->jD f l=l-dC f
 | .nil,l,_=>by rw [jD,dC];omega
 | .cons _ _ _ ks r, l, h => by
   rw [dC] at h;rw [jD,if_neg (by omega),tU ks (l-1) (by omega),tU r _ (by omega),dC];omega
theorem zW:∀ (f:F) (l:Int),0<=l->l<dC f->jD f l<0
 | .nil,l,h0,h=>by rw [dC] at h;omega
 | .cons _ _ _ ks r, l, h0, h => by
   rw [dC] at h;rw [jD,if_neg (by omega)];by_cases b:(dC ks:Int)<=l-1
   · rw [tU ks _ b]
     exact zW r _ (by omega) (by omega)
   · by_cases a:0<=l-1
     · have:=zW ks (l-1) a (by omega)
       have:=uY r (jD ks (l-1));omega
     · have:=uY ks (l-1)
       have:=uY r (jD ks (l-1));omega
theorem Dg (t:TN):jD t.ks 31<0 ↔ 32<aR t:=by
 unfold aR;by_cases h:(dC t.ks:Int)<=31
 · rw [tU _ _ h];omega
 · have:=zW t.ks 31 (by omega) (by omega)
   omega
def cS (t:Tk):Prop:=(t.kind=1/\cD t.text=true)\/(t.kind=2/\0<=t.num/\t.num<=9223372036854775807)\/t.kind=3
theorem Je {l:Tq} {n:Nat} {k v:Int} {c:UInt8} {r:Tq} (hl:l=c::r) (f:bH c=true) (h:jM l=.tok k n v):k=1/\cD (l.take n)=true:=by
 unfold jM at h;split at h
 · cases h
 · rename_i j
   cases h;refine ⟨rfl,?_⟩;have hp:1<=bR a8 l:=by rw [hl];exact tA (by unfold a8;rw [f];rfl)
   have b:∀ d∈l.take (bR a8 l),a8 d=true:=by
    rw [mC];exact fun d hd=>List.all_eq_true.1 List.all_takeWhile d hd
   have a:(l.take (bR a8 l)).length<=8:=by rw [Th];omega
   rw [hl] at b a |-
   obtain ⟨m,g⟩:∃ m,bR a8 (c::r)=m+1:=⟨bR a8 (c::r)-1,by rw [hl] at hp;omega⟩;rw [g] at b a |-
   rw [List.take_succ_cons] at b a |-
   rw [mV,f,decide_eq_true (by simpa using a),Bool.true_and,Bool.true_and,List.all_eq_true];exact fun d hd=>b d (by simp [hd])
theorem GE {l:Tq} {n:Nat} {k v:Int} (p:Nat) (h:bV l=.tok k n v):cS ⟨k,l.take n,v,p⟩:=by
 have b:=BC h;cases l with
 | nil=>cases h
 | cons c r =>
   simp only [bV] at h;split at h
   · rename_i d
     obtain ⟨rfl,a⟩:=Je rfl d h;exact .inl ⟨rfl,a⟩
   · split at h
     · unfold l5 at h
       split at h
       · cases h
       · split at h
         · cases h
         · cases h;exact .inr (.inl ⟨rfl,b.2.2⟩)
     · unfold iF at h
       split at h
       · cases h
       · cases h;exact .inr (.inr rfl)
theorem Mo (l:Tq) (p:Nat):∀ ts,cR l p=.ok ts->∀ t∈ts,cS t:=by
 refine nY (C:=fun l p=>∀ ts,cR l p=.ok ts->∀ t∈ts,cS t) ?_ ?_ ?_ ?_ l.length l p (Td _)
 · intro p ts h
   rw [j0] at h;cases h;intro t ht;cases ht
 · intro r p c ts h
   rw [e8] at h;exact c ts h
 · intro l p e d f a ts h
   rw [nZ f d a] at h;cases h
 · intro l p k n v d f a hn hl c ts h
   rw [gX d hn a] at h;obtain ⟨b,g,rfl⟩:=Ah h;intro t ht;rcases List.mem_cons.1 ht with rfl | ht
   · exact GE p a
   · exact c b g t ht
theorem qO {l:Tq} {ts:List Tk} (h:gY l=.ok ts):∀ t∈ts,cS t:=by
 unfold gY at h;split at h
 · cases h
 · exact Mo _ _ _ h
def OkT (t:TN):Prop:=bK t.f=0
theorem Ra {v:Int} (h:0<=v):OkT (tH v):=by
 have e:mZ ⟨#[110,117,109]⟩ ⟨#[]⟩ v 0=0:=by
  unfold mZ;rw [show (cV ⟨#[110,117,109]⟩ != ((0:Nat):Int))=false from rfl,show bT ⟨#[110,117,109]⟩=false from rfl,decide_eq_false (show ¬ v<0 by omega),Bool.and_false,Bool.false_and];rfl
 show bK (.cons _ _ _ _ .nil)=0;rw [bK];exact (if_pos e).trans rfl
theorem Pb {x:Tq} (h:cD x=true):OkT (fE x):=by
 have e:mZ ⟨#[110,97,109,101]⟩ ⟨x.toArray⟩ 0 0=0:=by
  unfold mZ;rw [show (cV ⟨#[110,97,109,101]⟩ != ((0:Nat):Int))=false from rfl,show bZ ⟨#[110,97,109,101]⟩=false from rfl,show cD (⟨x.toArray⟩:Tr).data.toList=true from h,Bool.not_true,Bool.and_false,Bool.false_and];rfl
 show bK (.cons _ _ _ _ .nil)=0;rw [bK];exact (if_pos e).trans rfl
theorem Rb {k:TN} (h:OkT k):OkT (pG k):=by
 have e:mZ ⟨#[110,101,103]⟩ ⟨#[]⟩ 0 k.f.len=0:=rfl;have a:bK k.f=0:=h;show bK (.cons ⟨#[110,101,103]⟩ ⟨#[]⟩ 0 k.f .nil)=0;rw [bK,if_pos e,if_pos a];rfl
def vL (o:Tq):Prop:=o=[43]\/o=[45]\/o=[42]\/o=[47]\/o=[37]
theorem LJ {o:Tq} {a b:TN} (ho:vL o) (ha:OkT a) (h:OkT b):OkT (fG o a b):=by
 have e:mZ ⟨o.toArray⟩ ⟨#[]⟩ 0 2=0:=by rcases ho with rfl | rfl | rfl | rfl | rfl <;> rfl
 have g:bK (.cons a.op a.nm a.n a.ks b.f)=0:=by
  have c:bK a.f=0:=ha;rw [pR] at c;rw [bK];by_cases d:mZ a.op a.nm a.n a.ks.len=0
  · rw [if_pos d] at c |-
    rw [if_pos c];exact h
  · rw [if_neg d] at c;exact absurd c d
 have j:mZ ⟨o.toArray⟩ ⟨#[]⟩ 0 (F.cons a.op a.nm a.n a.ks b.f).len=0:=e;show bK (.cons ⟨o.toArray⟩ ⟨#[]⟩ 0 (.cons a.op a.nm a.n a.ks b.f) .nil)=0;rw [bK,if_pos j,if_pos g];rfl
theorem Lc (v:Int):aR (tH v)=1:=rfl
theorem IJ (x:Tq):aR (fE x)=1:=rfl
theorem Ld (k:TN):aR (pG k)=1+aR k:=by unfold pG;rw [aR,iW]
theorem DP (o:Tq) (a b:TN):aR (fG o a b)=1+aR a+aR b:=by
 unfold fG;rw [aR,dC,iW];unfold aR;omega
theorem opM {L:List Tk} {p:Nat} (h:isM L p=true):vL (eA L p):=by
 unfold isM isS at h;unfold eA;cases e:L[p]? with
 | none=>rw [e] at h;simp at h
 | some t =>
   rw [e] at h;simp only [Bool.or_eq_true,Bool.and_eq_true,beq_iff_eq] at h;rcases h with (⟨_,h⟩ | ⟨_,h⟩) | ⟨_,h⟩
   · exact .inr (.inr (.inl h))
   · exact .inr (.inr (.inr (.inl h)))
   · exact .inr (.inr (.inr (.inr h)))
theorem opA {L:List Tk} {p:Nat} (h:isA L p=true):vL (eA L p):=by
 unfold isA isS at h;unfold eA;cases e:L[p]? with
 | none=>rw [e] at h;simp at h
 | some t =>
   rw [e] at h;simp only [Bool.or_eq_true,Bool.and_eq_true,beq_iff_eq] at h;rcases h with ⟨_,h⟩ | ⟨_,h⟩
   · exact .inl h
   · exact .inr (.inl h)
def Md.hand:Md->Nat
 | .prodL n=>aR n
 | .sumL n=>aR n
 | _=>0
def Md.fine:Md->Prop
 | .prodL n=>OkT n
 | .sumL n=>OkT n
 | _=>True
theorem dW {s:RS} (h:(aJ s).bad=0):s.bad=0/\(aJ s).cnt=s.cnt+1/\s.cnt+1<=32/\(aJ s).pos=s.pos+1/\(aJ s).whr=s.whr:=by
 unfold aJ at h |-
 by_cases b:s.bad=0
 · rw [if_pos b] at h |-
   by_cases a:32<s.cnt+1
   · rw [if_pos a] at h;cases h
   · rw [if_neg a];exact ⟨b,rfl,by omega,rfl,rfl⟩
 · rw [if_neg b] at h;exact absurd h b
theorem mW (e:Int) (b:¬ e=0) (s:RS):¬ (aQ e s).bad=0:=by
 unfold aQ;by_cases a:s.bad=0
 · rw [if_pos a];exact b
 · rw [if_neg a];exact a
theorem BQ {L:List Tk} {s:RS} (h:(dS L s).bad=0):s.bad=0/\isS L [41] s.pos=true/\dS L s=aM s:=by
 unfold dS at h |-
 by_cases a:(s.bad == 0 && !isS L [41] s.pos)=true
 · rw [if_pos a] at h
   exact absurd h (mW 2 (by decide) s)
 · rw [if_neg a] at h |-
   have b:s.bad=0:=h;refine ⟨b,?_,rfl⟩;rw [b] at a;simpa using a
theorem dG (L:List Tk):∀ (f:Nat) (md:Md) (s:RS),¬ s.bad=0->(pr L f md s).2=s
 | 0,_,_,_=>rfl
 | f+1,.fac,s,h=>by rw [pr,if_neg h]
 | f+1,.prod,s,h=>by rw [pr,dG L f .fac s h,dG L f _ s h]
 | f+1,.prodL n,s,h=>by rw [pr,if_neg (by simp [h])]
 | f+1,.sum,s,h=>by rw [pr,dG L f .prod s h,dG L f _ s h]
 | f+1,.sumL n,s,h=>by rw [pr,if_neg (by simp [h])]
theorem sC {L:List Tk} {f:Nat} {md:Md} {s:RS} (h:(pr L f md s).2.bad=0):s.bad=0:=by
 refine Classical.byContradiction fun hs=>?_
 rw [dG L f md s hs] at h;exact hs h
theorem iH (L:List Tk) (b:∀ t∈L,cS t):∀ (f:Nat) (md:Md) (s:RS),bO (L.length-s.pos) md<=f->md.fine->s.cnt<=32->(pr L f md s).2.bad=0 ->
 s.bad=0/\OkT (pr L f md s).1/\(pr L f md s).2.cnt+md.hand=s.cnt+aR (pr L f md s).1/\(pr L f md s).2.cnt<=32
 | 0,md,s,h,_,_,_=>by cases md <;> simp [bO] at h
 | f + 1, .fac, s, hn, _, hc, h => by
   simp only [bO] at hn;rw [pr] at h |-
   by_cases g:s.bad=0
   · rw [if_pos g] at h |-
     cases e:L[s.pos]? with
     | none=>rw [e] at h;exact absurd h (mW 2 (by decide) s)
     | some t =>
       obtain ⟨d,m⟩:=List.getElem?_eq_some_iff.1 e;have C:=b t (m ▸ List.getElem_mem d);rw [e] at h;simp only at h |-
       by_cases u:t.kind=2
       · rw [if_pos u] at h |-
         dsimp only at h |-
         obtain ⟨_,r,q,_⟩:=dW h;refine ⟨g,Ra ?_,by rw [Lc];simp only [Md.hand];omega,by omega⟩;rcases C with ⟨hk,_⟩ | ⟨_,D,_⟩ | hk
         · rw [u] at hk;cases hk
         · exact D
         · rw [u] at hk;cases hk
       rw [if_neg u] at h |-
       by_cases x:t.kind=1
       · rw [if_pos x] at h |-
         dsimp only at h |-
         obtain ⟨_,r,q,_⟩:=dW h;refine ⟨g,Pb ?_,by rw [IJ];simp only [Md.hand];omega,by omega⟩;rcases C with ⟨_,hk⟩ | ⟨hk,_⟩ | hk
         · exact hk
         · rw [x] at hk;cases hk
         · rw [x] at hk;cases hk
       rw [if_neg x] at h |-
       by_cases o:t.text=[45]
       · rw [if_pos o] at h |-
         simp only at h |-
         obtain ⟨_,r,q,l,_⟩:=dW (sC h);obtain ⟨_,A,z,y⟩:=iH L b f .fac (aJ s) (by rw [l];simp only [bO];omega) trivial (by omega) h;refine ⟨g,Rb A,?_,y⟩;rw [Ld];simp only [Md.hand] at z |-;omega
       rw [if_neg o] at h |-
       by_cases p:t.text=[40]
       · rw [if_pos p] at h |-
         simp only at h |-
         obtain ⟨c1,c2,c3⟩:=BQ h;obtain ⟨_,A,z,y⟩:=iH L b f .sum (aM s) (by show bO (L.length-(s.pos+1)) _<=f;simp only [bO];omega) trivial hc c1;rw [c3];exact ⟨g,A,z,y⟩
       rw [if_neg p] at h;exact absurd h (mW 2 (by decide) s)
   · rw [if_neg g] at h;exact absurd h g
 | f + 1, .prod, s, hn, _, hc, h => by
   simp only [bO] at hn;rw [pr] at h |-
   have hp:=dR L f .fac s;have hk:=sC h;obtain ⟨B,a1,a2,a3⟩:=iH L b f .fac s (by simp only [bO];omega) trivial hc hk;obtain ⟨_,k,c,j⟩:=iH L b f (.prodL (pr L f .fac s).1) (pr L f .fac s).2 (by simp only [bO];omega) a1 a3 h;simp only [Md.hand] at a2 c |-
   exact ⟨B,k,by omega,j⟩
 | f + 1, .prodL n, s, hn, hf, hc, h => by
   simp only [bO] at hn;rw [pr] at h |-
   by_cases a:(s.bad == 0 && isM L s.pos)=true
   · rw [if_pos a] at h |-
     simp only [Bool.and_eq_true,beq_iff_eq] at a;have d:=pJ a.2;have hp:=dR L f .fac (aJ s);rw [cI] at hp;have hk:(pr L f .fac (aJ s)).2.bad=0:=sC h;have m:=sC hk;obtain ⟨_,r,q,l,_⟩:=dW m;obtain ⟨_,a1,a2,a3⟩:=iH L b f .fac (aJ s) (by rw [l];simp only [bO];omega) trivial (by omega) hk;obtain ⟨_,k,c,j⟩:=iH L b f (.prodL (fG (eA L s.pos) n (pr L f .fac (aJ s)).1)) _ (by simp only [bO];omega) (LJ (opM a.2) hf a1) a3 h;simp only [Md.hand] at a2 c |-
     rw [DP] at c;exact ⟨a.1,k,by omega,j⟩
   · rw [if_neg a] at h |-
     exact ⟨h,hf,rfl,hc⟩
 | f + 1, .sum, s, hn, _, hc, h => by
   simp only [bO] at hn;rw [pr] at h |-
   have hp:=dR L f .prod s;have hk:=sC h;obtain ⟨B,a1,a2,a3⟩:=iH L b f .prod s (by simp only [bO];omega) trivial hc hk;obtain ⟨_,k,c,j⟩:=iH L b f (.sumL (pr L f .prod s).1) (pr L f .prod s).2 (by simp only [bO];omega) a1 a3 h;simp only [Md.hand] at a2 c |-
   exact ⟨B,k,by omega,j⟩
 | f + 1, .sumL n, s, hn, hf, hc, h => by
   simp only [bO] at hn;rw [pr] at h |-
   by_cases a:(s.bad == 0 && isA L s.pos)=true
   · rw [if_pos a] at h |-
     simp only [Bool.and_eq_true,beq_iff_eq] at a;have d:=pK a.2;have hp:=dR L f .prod (aJ s);rw [cI] at hp;have hk:(pr L f .prod (aJ s)).2.bad=0:=sC h;have m:=sC hk;obtain ⟨_,r,q,l,_⟩:=dW m;obtain ⟨_,a1,a2,a3⟩:=iH L b f .prod (aJ s) (by rw [l];simp only [bO];omega) trivial (by omega) hk;obtain ⟨_,k,c,j⟩:=iH L b f (.sumL (fG (eA L s.pos) n (pr L f .prod (aJ s)).1)) _ (by simp only [bO];omega) (LJ (opA a.2) hf a1) a3 h;simp only [Md.hand] at a2 c |-
     rw [DP] at c;exact ⟨a.1,k,by omega,j⟩
   · rw [if_neg a] at h |-
     exact ⟨h,hf,rfl,hc⟩
theorem xM {n:Nat} {s:RS} (a:s.bad=0) (hp:s.pos<n) (b:s.cnt<=32):(aJ s).pos=s.pos+1/\(aJ s).cnt=s.cnt+1/\((aJ s).bad=0->(aJ s).pos<=n/\(aJ s).cnt<=32):=by
 refine ⟨cI s,?_,fun h=>?_⟩
 · unfold aJ
   rw [if_pos a];split <;> rfl
 · obtain ⟨_,f,d,c,_⟩:=dW h
   omega
theorem EU (e:Int) (a:¬ e=0) {n:Nat} {s:RS} (hp:s.pos<=n) (b:s.cnt<=33):(aQ e s).pos+s.pos<=2*n+1/\(aQ e s).cnt<=33/\((aQ e s).bad=0->(aQ e s).pos<=n/\(aQ e s).cnt<=32):=by
 refine ⟨by rw [lH];omega,?_,fun h=>absurd h (mW e a s)⟩;unfold aQ;split <;> exact b
def Fm (n p:Nat) (q:RS):Prop:=q.pos+p<=2*n+1/\q.cnt<=33/\(q.bad=0->q.pos<=n/\q.cnt<=32)
theorem Fm.mono {n p p':Nat} {q:RS} (h:Fm n p q) (hp:p'<=p):Fm n p' q:=⟨by have:=h.1;omega,h.2⟩
theorem k8 (L:List Tk):∀ (f:Nat) (md:Md) (s:RS),bO (L.length-s.pos) md<=f->s.bad=0->s.pos<=L.length->s.cnt<=32->Fm L.length s.pos (pr L f md s).2
 | 0,md,s,h,_,_,_=>by cases md <;> simp [bO] at h
 | f + 1, .fac, s, hn, hb, hp, hc => by
   simp only [bO] at hn;rw [pr,if_pos hb];cases e:L[s.pos]? with
   | none=>exact EU 2 (by decide) hp (by omega)
   | some t =>
     obtain ⟨g,_⟩:=List.getElem?_eq_some_iff.1 e;obtain ⟨t1,t2,d⟩:=xM hb g hc;have T:Fm L.length s.pos (aJ s):=⟨by omega,by omega,d⟩;simp only;by_cases p:t.kind=2
     · rw [if_pos p];exact T
     rw [if_neg p];by_cases q:t.kind=1
     · rw [if_pos q];exact T
     rw [if_neg q];by_cases l:t.text=[45]
     · rw [if_pos l]
       simp only;by_cases b:(aJ s).bad=0
       · exact (k8 L f .fac (aJ s) (by rw [t1];simp only [bO];omega) b (d b).1 (d b).2).mono (by omega)
       · rw [dG L f .fac _ b];exact T
     rw [if_neg l];by_cases m:t.text=[40]
     · rw [if_pos m]
       simp only;obtain ⟨a1,a2,a3⟩:=k8 L f .sum (aM s) (by show bO (L.length-(s.pos+1)) _<=f;simp only [bO];omega) hb (by show s.pos+1<=_;omega) hc;have r:(pr L f .sum (aM s)).2.pos+(s.pos+1)<=2*L.length+1:=a1;refine ⟨by rw [BP];omega,?_,fun h=>?_⟩
       · unfold dS aM aQ
         split
         · split <;> exact a2
         · exact a2
       · obtain ⟨c1,c2,c3⟩:=BQ h
         have:=gN c2;rw [c3];exact ⟨by show (pr L f .sum (aM s)).2.pos+1<=_;omega,(a3 c1).2⟩
     rw [if_neg m];exact EU 2 (by decide) hp (by omega)
 | f + 1, .prod, s, hn, hb, hp, hc => by
   simp only [bO] at hn;rw [pr];have j:=dR L f .fac s;have T:=k8 L f .fac s (by simp only [bO];omega) hb hp hc;by_cases b:(pr L f .fac s).2.bad=0
   · exact (k8 L f _ _ (by simp only [bO];omega) b (T.2.2 b).1 (T.2.2 b).2).mono j
   · rw [dG L f _ _ b];exact T
 | f + 1, .prodL n, s, hn, hb, hp, hc => by
   simp only [bO] at hn;rw [pr];by_cases a:(s.bad == 0 && isM L s.pos)=true
   · rw [if_pos a]
     simp only [Bool.and_eq_true] at a;have g:=pJ a.2;obtain ⟨t1,t2,d⟩:=xM hb g hc;have T:Fm L.length s.pos (aJ s):=⟨by omega,by omega,d⟩;by_cases b:(aJ s).bad=0
     · have k:=k8 L f .fac (aJ s) (by rw [t1];simp only [bO];omega) b (d b).1 (d b).2
       have j:=dR L f .fac (aJ s);rw [t1] at j;by_cases c:(pr L f .fac (aJ s)).2.bad=0
       · exact (k8 L f _ _ (by simp only [bO];omega) c (k.2.2 c).1 (k.2.2 c).2).mono (by omega)
       · rw [dG L f _ _ c];exact k.mono (by omega)
     · have o:=dG L f .fac _ b
       rw [dG L f (.prodL _) _ (by rw [o];exact b),o];exact T
   · rw [if_neg a]
     exact ⟨by show s.pos+s.pos<=_;omega,by show s.cnt<=33;omega,fun _=>⟨hp,hc⟩⟩
 | f + 1, .sum, s, hn, hb, hp, hc => by
   simp only [bO] at hn;rw [pr];have j:=dR L f .prod s;have T:=k8 L f .prod s (by simp only [bO];omega) hb hp hc;by_cases b:(pr L f .prod s).2.bad=0
   · exact (k8 L f _ _ (by simp only [bO];omega) b (T.2.2 b).1 (T.2.2 b).2).mono j
   · rw [dG L f _ _ b];exact T
 | f + 1, .sumL n, s, hn, hb, hp, hc => by
   simp only [bO] at hn;rw [pr];by_cases a:(s.bad == 0 && isA L s.pos)=true
   · rw [if_pos a]
     simp only [Bool.and_eq_true] at a;have g:=pK a.2;obtain ⟨t1,t2,d⟩:=xM hb g hc;have T:Fm L.length s.pos (aJ s):=⟨by omega,by omega,d⟩;by_cases b:(aJ s).bad=0
     · have k:=k8 L f .prod (aJ s) (by rw [t1];simp only [bO];omega) b (d b).1 (d b).2
       have j:=dR L f .prod (aJ s);rw [t1] at j;by_cases c:(pr L f .prod (aJ s)).2.bad=0
       · exact (k8 L f _ _ (by simp only [bO];omega) c (k.2.2 c).1 (k.2.2 c).2).mono (by omega)
       · rw [dG L f _ _ c];exact k.mono (by omega)
     · have o:=dG L f .prod _ b
       rw [dG L f (.sumL _) _ (by rw [o];exact b),o];exact T
   · rw [if_neg a]
     exact ⟨by show s.pos+s.pos<=_;omega,by show s.cnt<=33;omega,fun _=>⟨hp,hc⟩⟩
theorem l4 (L:List Tk) (md:Md) (s:RS) (b:s.bad=0) (hp:s.pos<=L.length) (a:s.cnt<=32):Fm L.length s.pos (pE L md s).2:=by
 refine k8 L _ md s ?_ b hp a;cases md <;> simp [bO]
theorem nS (L:List Tk) (md:Md) (s:RS) (h:¬ s.bad=0):(pE L md s).2=s:=dG L _ md s h
theorem Eo {L:List Tk} (c:∀ t∈L,cS t) {p q:Nat} {t:TN} (h:ofL L p=.ok t q):aW t=0/\aR t<=32:=by
 unfold ofL at h;split at h
 · rename_i b
   cases h;obtain ⟨_,f,a,d⟩:=iH L c (4*(L.length-p)+4) .sum ⟨p,0,0,0⟩ (by simp only [bO];omega) trivial (Nat.zero_le _) b
   have hs:aR (pE L .sum ⟨p,0,0,0⟩).1<=32:=by
    simp only [Md.hand] at a;have:(pE L .sum ⟨p,0,0,0⟩).2.cnt+0=0+aR (pE L .sum ⟨p,0,0,0⟩).1:=a;have:(pE L .sum ⟨p,0,0,0⟩).2.cnt<=32:=d;omega
   refine ⟨?_,hs⟩;unfold aW;rw [if_neg (by rw [Dg];omega)];exact f
 · cases h
theorem fC (c:UInt8) (w:World):Calls prog 119 #[.int .u8 c.toNat] w fun e w'=>e=.returned (.bool (bH c))/\w=w':=by
 obtain ⟨x,hx⟩:∃ x:Int,(c.toNat:Int)=x:=⟨_,rfl⟩;unfold bH;rw [hx];by_cases h:97<=x
 · go_enter func119,ntmps119
   go_wp2
   go_ret;exact ⟨eX (a:=decide (x<=122)) (by rw [decide_eq_true h];rfl),rfl⟩
 · go_enter func119,ntmps119
   go_wp2
   go_ret;exact ⟨eX (a:=false) (by rw [decide_eq_false (by omega)];rfl),rfl⟩
theorem iY (c:UInt8) (w:World):Calls prog 120 #[.int .u8 c.toNat] w fun e w'=>e=.returned (.bool (aZ c))/\w=w':=by
 obtain ⟨x,hx⟩:∃ x:Int,(c.toNat:Int)=x:=⟨_,rfl⟩;unfold aZ;rw [hx];by_cases h:48<=x
 · go_enter func120,ntmps120
   go_wp2
   go_ret;exact ⟨eX (a:=decide (x<=57)) (by rw [decide_eq_true h];rfl),rfl⟩
 · go_enter func120,ntmps120
   go_wp2
   go_ret;exact ⟨eX (a:=false) (by rw [decide_eq_false (by omega)];rfl),rfl⟩
def sgL:Tq:=[40,41,44,61,60,62,43,45,42,47,37]
theorem Hq (c:UInt8):cU c=sgL.contains c:=by
 unfold cU sgL;simp only [List.contains_cons,List.contains_nil,Bool.or_false,Bool.or_assoc]
theorem FE {c:UInt8} (h:∀ j (a:j<11),¬ sgL[j]'a=c):cU c=false:=by
 rw [Hq];cases e:sgL.contains c with
 | false=>rfl
 | true =>
   rw [List.contains_iff_mem] at e;obtain ⟨j,a,b⟩:=Tn.1 e;exact absurd b (h j a)
theorem Lf {c:UInt8} {k:Nat} (a:k<11) (h:sgL[k]'a=c):cU c=true:=by
 rw [Hq,List.contains_iff_mem];exact Tn.2 ⟨k,a,h⟩
theorem cL {B:Nat} {a w:World} (h:Below B a w) (n:Nat):Below B a (w.drewN n):=⟨h.os,h.tape,h.output,h.size,h.block⟩
theorem qD {k:Nat} (a:k<11):(⟨#[40,41,44,61,60,62,43,45,42,47,37]⟩:Tr)[k]'a=sgL[k]'a:=rfl
theorem OJ (s:Tr) (u:1<=s.size) (o:s.size<=281474976710656) (w:World) {c:UInt8} (r:s[0]'(by omega)=c) (t:s.size=1):Calls prog 122 #[.string s] w fun e w'=>e=.returned (.string (s.extract 0 (if cU c=true then 1 else 0)))/\Below w.heap.size w w':=by
 obtain ⟨R,l⟩:∃ R,s.extract 0 (if cU c=true then 1 else 0)=R:=⟨_,rfl⟩;rw [l];have H:=aA l;clear l;have x:(0:Int)<s.size:=by omega
 go_enter func122,ntmps122
 go_wp2_with fail
 go_loopw [4] (fun i wr=>∃ k:Nat,k<=11/\i=.int .i64 k/\Hid (∀ j (b:j<11),j<k->¬ sgL[j]'b=c)/\Hid (Below w.heap.size w wr)) (fun i _=>11-(intOf i).toNat)
 case atStart=>exact ⟨0,by omega,rfl,aA (fun j _ h=>by omega),aA (Below.refl _ _)⟩
 case round =>
  obtain ⟨k,p,rfl,g,m⟩:=hrel;by_cases a:k<11
  · have a1:(k:Int)<11:=by omega
    have a2:(0:Int)<=(k:Int):=by omega
    have a3:((k:Int)).toNat=k:=by omega
    by_cases d:sgL[k]'a=c
    · have q:((c.toNat:Int) == (((⟨#[40,41,44,61,60,62,43,45,42,47,37]⟩:Tr)[k]'a).toNat:Int))=true:=by rw [qD a,d];exact beq_self_eq_true _
      have T:=aA (show s.extract 0 1=R by rw [<- H.out,if_pos (Lf a d)]);clear d;go_wp2_with (go_quiet (fail))
      go_ret;rw [T.out];exact ⟨rfl,cL m.out _⟩
    · have q:((c.toNat:Int) == (((⟨#[40,41,44,61,60,62,43,45,42,47,37]⟩:Tr)[k]'a).toNat:Int))=false:=by
       rw [qD a,beq_eq_false_iff_ne];intro e;exact d (UInt8.toNat_inj.1 (by omega)).symm
      have f:=aA (show ∀ j (b:j<11),j<k+1->¬ sgL[j]'b=c from fun j b n=>by
       by_cases e:j=k
       · subst e;exact d
       · exact g.out j b (by omega))
      clear d;go_wp2_with (go_quiet (fail))
      go_roundw
      case rel=>exact ⟨k+1,by omega,by go_num,f,aA (cL m.out _)⟩
      case measure=>simp [intOf];omega
  · obtain rfl:k=11:=by omega
    have T:=aA (show (⟨#[]⟩:Tr)=R by
     rw [<- H.out,if_neg (by rw [FE (fun j b=>g.out j b b)];decide)];apply dO
     rw [fI];rfl)
    go_wp2_with fail
    go_ret;rw [T.out];exact ⟨rfl,m.out⟩
theorem OI (s:Tr) (u:1<=s.size) (o:s.size<=281474976710656) (w:World) {c:UInt8} (r:s[0]'(by omega)=c) (t:2<=s.size) (y:((s[1].toNat:Int) == 61)=false):Calls prog 122 #[.string s] w fun e w'=>e=.returned (.string (s.extract 0 (if cU c=true then 1 else 0)))/\Below w.heap.size w w':=by
 obtain ⟨R,l⟩:∃ R,s.extract 0 (if cU c=true then 1 else 0)=R:=⟨_,rfl⟩;rw [l];have H:=aA l;clear l;have x:(0:Int)<s.size:=by omega
 go_enter func122,ntmps122
 go_wp2_with fail
 go_loopw [4] (fun i wr=>∃ k:Nat,k<=11/\i=.int .i64 k/\Hid (∀ j (b:j<11),j<k->¬ sgL[j]'b=c)/\Hid (Below w.heap.size w wr)) (fun i _=>11-(intOf i).toNat)
 case atStart=>exact ⟨0,by omega,rfl,aA (fun j _ h=>by omega),aA (Below.refl _ _)⟩
 case round =>
  obtain ⟨k,p,rfl,g,m⟩:=hrel;by_cases a:k<11
  · have a1:(k:Int)<11:=by omega
    have a2:(0:Int)<=(k:Int):=by omega
    have a3:((k:Int)).toNat=k:=by omega
    by_cases d:sgL[k]'a=c
    · have q:((c.toNat:Int) == (((⟨#[40,41,44,61,60,62,43,45,42,47,37]⟩:Tr)[k]'a).toNat:Int))=true:=by rw [qD a,d];exact beq_self_eq_true _
      have T:=aA (show s.extract 0 1=R by rw [<- H.out,if_pos (Lf a d)]);clear d;go_wp2_with (go_quiet (fail))
      go_ret;rw [T.out];exact ⟨rfl,cL m.out _⟩
    · have q:((c.toNat:Int) == (((⟨#[40,41,44,61,60,62,43,45,42,47,37]⟩:Tr)[k]'a).toNat:Int))=false:=by
       rw [qD a,beq_eq_false_iff_ne];intro e;exact d (UInt8.toNat_inj.1 (by omega)).symm
      have f:=aA (show ∀ j (b:j<11),j<k+1->¬ sgL[j]'b=c from fun j b n=>by
       by_cases e:j=k
       · subst e;exact d
       · exact g.out j b (by omega))
      clear d;go_wp2_with (go_quiet (fail))
      go_roundw
      case rel=>exact ⟨k+1,by omega,by go_num,f,aA (cL m.out _)⟩
      case measure=>simp [intOf];omega
  · obtain rfl:k=11:=by omega
    have T:=aA (show (⟨#[]⟩:Tr)=R by
     rw [<- H.out,if_neg (by rw [FE (fun j b=>g.out j b b)];decide)];apply dO
     rw [fI];rfl)
    go_wp2_with fail
    go_ret;rw [T.out];exact ⟨rfl,m.out⟩
theorem OH (s:Tr) (u:1<=s.size) (o:s.size<=281474976710656) (w:World) {c:UInt8} (r:s[0]'(by omega)=c) (t:2<=s.size) (B:((s[1].toNat:Int) == 61)=true) (A:((c.toNat:Int) == 33)=false) (z:((c.toNat:Int) == 60)=false) (y:((c.toNat:Int) == 62)=false):Calls prog 122 #[.string s] w fun e w'=>e=.returned (.string (s.extract 0 (if cU c=true then 1 else 0)))/\Below w.heap.size w w':=by
 obtain ⟨R,l⟩:∃ R,s.extract 0 (if cU c=true then 1 else 0)=R:=⟨_,rfl⟩;rw [l];have H:=aA l;clear l;have x:(0:Int)<s.size:=by omega
 go_enter func122,ntmps122
 go_wp2_with fail
 go_loopw [4] (fun i wr=>∃ k:Nat,k<=11/\i=.int .i64 k/\Hid (∀ j (b:j<11),j<k->¬ sgL[j]'b=c)/\Hid (Below w.heap.size w wr)) (fun i _=>11-(intOf i).toNat)
 case atStart=>exact ⟨0,by omega,rfl,aA (fun j _ h=>by omega),aA (Below.refl _ _)⟩
 case round =>
  obtain ⟨k,p,rfl,g,m⟩:=hrel;by_cases a:k<11
  · have a1:(k:Int)<11:=by omega
    have a2:(0:Int)<=(k:Int):=by omega
    have a3:((k:Int)).toNat=k:=by omega
    by_cases d:sgL[k]'a=c
    · have q:((c.toNat:Int) == (((⟨#[40,41,44,61,60,62,43,45,42,47,37]⟩:Tr)[k]'a).toNat:Int))=true:=by rw [qD a,d];exact beq_self_eq_true _
      have T:=aA (show s.extract 0 1=R by rw [<- H.out,if_pos (Lf a d)]);clear d;go_wp2_with (go_quiet (fail))
      go_ret;rw [T.out];exact ⟨rfl,cL m.out _⟩
    · have q:((c.toNat:Int) == (((⟨#[40,41,44,61,60,62,43,45,42,47,37]⟩:Tr)[k]'a).toNat:Int))=false:=by
       rw [qD a,beq_eq_false_iff_ne];intro e;exact d (UInt8.toNat_inj.1 (by omega)).symm
      have f:=aA (show ∀ j (b:j<11),j<k+1->¬ sgL[j]'b=c from fun j b n=>by
       by_cases e:j=k
       · subst e;exact d
       · exact g.out j b (by omega))
      clear d;go_wp2_with (go_quiet (fail))
      go_roundw
      case rel=>exact ⟨k+1,by omega,by go_num,f,aA (cL m.out _)⟩
      case measure=>simp [intOf];omega
  · obtain rfl:k=11:=by omega
    have T:=aA (show (⟨#[]⟩:Tr)=R by
     rw [<- H.out,if_neg (by rw [FE (fun j b=>g.out j b b)];decide)];apply dO
     rw [fI];rfl)
    go_wp2_with fail
    go_ret;rw [T.out];exact ⟨rfl,m.out⟩
theorem OM (s:Tr) (_hm:s.size<=281474976710656) (w:World) (a:2<=s.size) (c:((s[1].toNat:Int) == 61)=true) (b:((s[0].toNat:Int) == 33)=true):Calls prog 122 #[.string s] w fun e w'=>e=.returned (.string (s.extract 0 2))/\Below w.heap.size w w':=by
 go_enter func122,ntmps122
 go_wp2_with fail
 go_ret;exact ⟨rfl,Below.refl _ _⟩
theorem OL (s:Tr) (_hm:s.size<=281474976710656) (w:World) (a:2<=s.size) (d:((s[1].toNat:Int) == 61)=true) (c:((s[0].toNat:Int) == 33)=false) (b:((s[0].toNat:Int) == 60)=true):Calls prog 122 #[.string s] w fun e w'=>e=.returned (.string (s.extract 0 2))/\Below w.heap.size w w':=by
 go_enter func122,ntmps122
 go_wp2_with fail
 go_ret;exact ⟨rfl,Below.refl _ _⟩
theorem OK (s:Tr) (_hm:s.size<=281474976710656) (w:World) (a:2<=s.size) (f:((s[1].toNat:Int) == 61)=true) (d:((s[0].toNat:Int) == 33)=false) (c:((s[0].toNat:Int) == 60)=false) (b:((s[0].toNat:Int) == 62)=true):Calls prog 122 #[.string s] w fun e w'=>e=.returned (.string (s.extract 0 2))/\Below w.heap.size w w':=by
 go_enter func122,ntmps122
 go_wp2_with fail
 go_ret;exact ⟨rfl,Below.refl _ _⟩
theorem gK {c:UInt8} {k:Nat} (a:k<256) (h:¬ c=UInt8.ofNat k):((c.toNat:Int) == (k:Int))=false:=by
 rw [Dh c k a];exact beq_eq_false_iff_ne.2 h
theorem oE {c:UInt8} {k:Nat} (a:k<256) (h:c=UInt8.ofNat k):((c.toNat:Int) == (k:Int))=true:=by
 rw [Dh c k a,h];exact beq_self_eq_true _
theorem IZ (s:Tr) (d:1<=s.size) (a:s.size<=281474976710656) (w:World):Calls prog 122 #[.string s] w fun e w'=>e=.returned (.string (s.extract 0 (iB s.data.toList)))/\Below w.heap.size w w':=by
 by_cases f:s.size=1
 · have E:iB s.data.toList=if cU (s[0]'(by omega))=true then 1 else 0:=by rw [vC f];rfl
   rw [E];exact OJ s d a w rfl f
 · obtain ⟨r,hr⟩:=B7 (s:=s) (by omega)
   have E:iB s.data.toList=if cT (s[0]'(by omega)) (s[1]'(by omega))=true then 2 else if cU (s[0]'(by omega))=true then 1 else 0:=by rw [hr];rfl
   rw [E];by_cases hd:s[1]'(by omega)=61
   · have b:=oE (c:=s[1]'(by omega)) (k:=61) (by decide) hd
     by_cases a1:s[0]'(by omega)=33
     · rw [if_pos (by unfold cT;rw [hd,a1];decide)]
       exact OM s a w (by omega) b (oE (k:=33) (by decide) a1)
     by_cases a2:s[0]'(by omega)=60
     · rw [if_pos (by unfold cT;rw [hd,a2];decide)]
       exact OL s a w (by omega) b (gK (k:=33) (by decide) a1) (oE (k:=60) (by decide) a2)
     by_cases a3:s[0]'(by omega)=62
     · rw [if_pos (by unfold cT;rw [hd,a3];decide)]
       exact OK s a w (by omega) b (gK (k:=33) (by decide) a1) (gK (k:=60) (by decide) a2) (oE (k:=62) (by decide) a3)
     rw [if_neg (by unfold cT;rw [beq_eq_false_iff_ne.2 a1,beq_eq_false_iff_ne.2 a2,beq_eq_false_iff_ne.2 a3];simp)];exact OH s d a w rfl (by omega) b (gK (k:=33) (by decide) a1) (gK (k:=60) (by decide) a2) (gK (k:=62) (by decide) a3)
   · rw [if_neg (by unfold cT;rw [beq_eq_false_iff_ne.2 hd,Bool.false_and];decide)]
     exact OI s d a w rfl (by omega) (gK (k:=61) (by decide) hd)
def Dl (lim:Nat) (w:World) (a:Tp) (ts:List Tk):Prop :=
 ts=[]\/∃ b off,a=some ⟨b,off,none⟩/\b<lim/\∀ j (h:j<ts.length),w.cell? ⟨b,off+j*4,none⟩=some (.int .i64 ts[j].kind)/\w.cell? ⟨b,off+j*4+1,none⟩=some (.string ⟨ts[j].text.toArray⟩) /\
  w.cell? ⟨b,off+j*4+2,none⟩=some (.int .i64 ts[j].num)/\w.cell? ⟨b,off+j*4+3,none⟩=some (.int .i64 ts[j].place)
theorem Dl.kept {c:Nat} {S:Nat->Prop} {w w':World} {a:Tp} {ts:List Tk} (h:Dl c w a ts) (d:aC S w w') (n:∀ k,S k->c<=k):Dl c w' a ts:=by
 rcases h with h | ⟨b,off,rfl,g,m⟩
 · exact .inl h
 · have f:¬ S b:=fun hs=>by have:=n b hs;omega
   refine .inr ⟨b,off,rfl,g,fun j l=>?_⟩;obtain ⟨o,c1,c2,c3⟩:=m j l;exact ⟨d.cell o f,d.cell c1 f,d.cell c2 f,d.cell c3 f⟩
theorem wR {w:World} {a:Tp} {ts:List Tk} (h:fQ w a ts):Dl w.heap.size w a ts:=h.imp id fun ⟨b,off,e,hlt,hc⟩=>⟨b,off,e,hlt,hc⟩
def lX (n:Nat) (s:RS):Prop:=(s.bad=0->s.pos<=n)/\s.pos<=2*n+1/\s.cnt<=33/\n<=100000
structure PW (ts:List Tk) (rb:Nat) (a:Tp) (c:Nat) (s:RS) (w:World):Prop where
 r:IsR w rb a ts.length c s
 t:Dl rb w a ts
 f:lX ts.length s
theorem PW.kept {ts:List Tk} {rb:Nat} {a:Tp} {c:Nat} {s:RS} {w w':World} (h:PW ts rb a c s w) (b:aC (fun _=>False) w w'):PW ts rb a c s w' :=
 ⟨b.heap h.r (fun h=>h),h.t.kept b (fun _ h=>h.elim),h.f⟩
theorem PW.below {ts:List Tk} {rb:Nat} {a:Tp} {c:Nat} {s:RS} {w w':World} (h:PW ts rb a c s w) (b:Below w.heap.size w w'):PW ts rb a c s w':=h.kept (aF b _)
theorem SY {w:World} {b:Nat} {g f d c a:Value} {t:TypeId} (h:w.heap[b]? = some (.cells #[g,f,d,c,a] t (0,0))) (o:Nat) (v:Value) :
 (w.setCell ⟨b,o,none⟩ v).heap[b]? = some (.cells ((#[g,f,d,c,a]:Array Value).setIfInBounds o v) t (0,0)):=heap_setCell_same w b o _ t v h
theorem PW.set {ts:List Tk} {rb:Nat} {a:Tp} {c:Nat} {s s':RS} {w:World} {o:Nat} {v:Value} (h:PW ts rb a c s w) (d:lX ts.length s')
 (b:(#[.slice a ts.length c,.int .i64 s.pos,.int .i64 s.cnt,.int .i64 s.bad,.int .i64 s.whr]:Array Value).setIfInBounds o v=#[.slice a ts.length c,.int .i64 s'.pos,.int .i64 s'.cnt,.int .i64 s'.bad,.int .i64 s'.whr]):PW ts rb a c s' (w.setCell ⟨rb,o,none⟩ v):=by
 refine ⟨?_,h.t.kept ((aC.refl (· = rb) w).setCell (p:=⟨rb,o,none⟩) (.inl rfl) v) (fun k f=>by omega),d⟩;have:=SY h.r o v;rw [b] at this;exact this
theorem cZ {rb:Nat} {w0 w:World} (h:aC (· = rb) w0 w) (o:Nat) (v:Value):aC (· = rb) w0 (w.setCell ⟨rb,o,none⟩ v):=h.setCell (p:=⟨rb,o,none⟩) (.inl rfl) v
theorem dH (ts:List Tk) (rb:Nat) (a:Tp) (c:Nat) (s:RS) (e:Int) (d:¬ e=0) (w:World) (h:PW ts rb a c s w) :
 Calls prog 60 #[.pointer (some ⟨rb,0,none⟩),.int .i64 e] w fun x w'=>x=.returned (.tuple #[])/\PW ts rb a c (aQ e s) w'/\aC (· = rb) w w':=by
 obtain ⟨⟨n,c1,c2,c3,c4⟩,m,l,k,j⟩:=h.r.cells;have H:=aA h;by_cases b:s.bad=0
 · have q:((s.bad:Int) == 0)=true:=by rw [b];rfl
   have F:aQ e s=⟨s.pos,s.cnt,e,s.pos⟩:=by unfold aQ;rw [if_pos b]
   rw [F];clear b h;go_enter func60,ntmps60
   go_wp2_with fail
   go_end0
   have g:PW ts rb a c ⟨s.pos,s.cnt,e,s.whr⟩ (w.setCell ⟨rb,3,none⟩ (.int .i64 e)):=H.out.set ⟨fun x=>absurd x d,H.out.f.2⟩ rfl;exact ⟨rfl,g.set ⟨fun x=>absurd x d,H.out.f.2⟩ rfl,cZ (cZ (aC.refl _ _) 3 _) 4 _⟩
 · have q:((s.bad:Int) == 0)=false:=beq_eq_false_iff_ne.2 b
   have F:aQ e s=s:=by unfold aQ;rw [if_neg b]
   rw [F];clear b h;go_enter func60,ntmps60
   go_wp2_with fail
   go_end0
   exact ⟨rfl,H.out,aC.refl _ _⟩
theorem Iy {n:Nat} {s:RS} (h:lX n s) (c:s.bad=0->s.pos<n/\s.cnt<=32) (hp:s.pos+1<=2*n+1):lX n (aJ s):=by
 obtain ⟨g,j,f,d⟩:=h;unfold aJ;by_cases a:s.bad=0
 · rw [if_pos a]
   have:=c a;have:=g a;by_cases b:32<s.cnt+1
   · rw [if_pos b]
     exact ⟨fun x=>absurd x (by show ¬ (4:Int)=0;decide),hp,by show s.cnt+1<=33;omega,d⟩
   · rw [if_neg b]
     exact ⟨fun _=>by show s.pos+1<=n;omega,hp,by show s.cnt+1<=33;omega,d⟩
 · rw [if_neg a]
   exact ⟨fun x=>absurd x a,hp,f,d⟩
theorem jK (ts:List Tk) (rb:Nat) (a:Tp) (c:Nat) (s:RS) (w:World) (h:PW ts rb a c s w) (b:s.bad=0->s.pos<ts.length/\s.cnt<=32) (hp:s.pos+1<=2*ts.length+1) :
 Calls prog 246 #[.pointer (some ⟨rb,0,none⟩)] w fun x w'=>x=.returned (.tuple #[])/\PW ts rb a c (aJ s) w'/\aC (· = rb) w w':=by
 have g:=Iy h.f b hp;obtain ⟨⟨N,c1,c2,c3,c4⟩,M,L,I,G⟩:=h.r.cells;have H:=aA h;have p:=h.f.2.2.1;have j:=h.f.2.1;have hn:=h.f.2.2.2;clear h;by_cases d:s.bad=0
 · have q:((s.bad:Int) == 0)=true:=by rw [d];rfl
   obtain ⟨D,t⟩:=b d
   have y:=aA (show PW ts rb a c ⟨s.pos,s.cnt+1,s.bad,s.whr⟩ (w.setCell ⟨rb,2,none⟩ (.int .i64 ((s.cnt:Int)+1))) from
    H.out.set ⟨fun _=>by show s.pos<=_;omega,j,by show s.cnt+1<=33;omega,hn⟩ rfl)
   have u:=aA (cZ (aC.refl (· = rb) w) 2 (.int .i64 ((s.cnt:Int)+1)));by_cases k:32<s.cnt+1
   · have F:aJ s=⟨s.pos+1,s.cnt+1,4,s.pos⟩:=by unfold aJ;rw [if_pos d,if_pos k]
     have z:aQ 4 ⟨s.pos,s.cnt+1,s.bad,s.whr⟩=⟨s.pos,s.cnt+1,4,s.pos⟩:=by unfold aQ;rw [if_pos d]
     have C:=aA (dH ts rb a c ⟨s.pos,s.cnt+1,s.bad,s.whr⟩ 4 (by decide) _ y.out);rw [z] at C;rw [F] at g |-
     have B:(32:Int)<(s.cnt:Int)+1:=by omega
     clear d b F z;go_enter func246,ntmps246
     go_wp2_with fail
     refine C.out.mono ?_;rintro e A ⟨rfl,m,o⟩;have n:=aA m;have O:=aA (show aC (· = rb) w A from u.out.trans o (fun i E _=>E));obtain ⟨⟨Z,Y,X,V,U⟩,T,S,R,P⟩:=m.r.cells;clear m o C N c1 c2 c3 c4 M L I G;go_wp2_with fail
     go_end0
     exact ⟨rfl,n.out.set g rfl,cZ O.out 1 _⟩
   · have F:aJ s=⟨s.pos+1,s.cnt+1,0,s.whr⟩:=by unfold aJ;rw [if_pos d,if_neg k]
     rw [F] at g |-
     have B:¬ (32:Int)<(s.cnt:Int)+1:=by omega
     have l:=aA d;clear d b F;go_enter func246,ntmps246
     go_wp2_with fail
     go_end0
     have n:PW ts rb a c ⟨s.pos+1,s.cnt+1,0,s.whr⟩ ((w.setCell ⟨rb,2,none⟩ (.int .i64 ((s.cnt:Int)+1))).setCell ⟨rb,1,none⟩ (.int .i64 ((s.pos:Int)+1))) :=
      y.out.set g (by rw [<- l.out];rfl)
     exact ⟨rfl,n,cZ u.out 1 _⟩
 · have q:((s.bad:Int) == 0)=false:=beq_eq_false_iff_ne.2 d
   have F:aJ s=⟨s.pos+1,s.cnt,s.bad,s.whr⟩:=by unfold aJ;rw [if_neg d]
   rw [F] at g |-
   clear d b F;go_enter func246,ntmps246
   go_wp2_with fail
   go_end0
   exact ⟨rfl,H.out.set g rfl,cZ (aC.refl _ _) 1 _⟩
theorem bB {ts:List Tk} {rb:Nat} {a:Tp} {w:World} (h:Dl rb w a ts) {p:Nat} (hp:p<ts.length):∃ b off,a=some ⟨b,off,none⟩/\b<rb/\w.cell? ⟨b,off+p*4,none⟩=some (.int .i64 ts[p].kind)/\w.cell? ⟨b,off+p*4+1,none⟩=some (.string ⟨ts[p].text.toArray⟩) /\
 w.cell? ⟨b,off+p*4+2,none⟩=some (.int .i64 ts[p].num)/\w.cell? ⟨b,off+p*4+3,none⟩=some (.int .i64 ts[p].place):=by
 rcases h with h | ⟨b,off,e,c,d⟩
 · rw [h] at hp;simp at hp
 · exact ⟨b,off,e,c,d p hp⟩
theorem PJ {ts:List Tk} {x:Tq} {p:Nat} (hp:p<ts.length):isS ts x p=(ts[p].kind == 3 && ts[p].text == x):=by
 unfold isS;rw [List.getElem?_eq_getElem hp]
theorem oB {S:Nat->Prop} {w w':World} (h:aC S w w') (n:Nat):aC S w (w'.drewN n):=h.drewN n
theorem Gn (ts:List Tk) (rb:Nat) (a:Tp) (c:Nat) (s:RS) (x:Tr) (w:World) (h:PW ts rb a c s w) :
 Calls prog 123 #[.pointer (some ⟨rb,0,none⟩),.string x] w fun e w'=>e=.returned (.bool (isS ts x.data.toList s.pos))/\aC (fun _=>False) w w':=by
 obtain ⟨⟨B,c1,c2,c3,c4⟩,A,y,u,q⟩:=h.r.cells;have m:=h.f.2.1;have hn:=h.f.2.2.2;have K:=aA (aC.refl (fun _=>False) w);by_cases g:s.pos<ts.length
 · obtain ⟨b,off,ha, -,p,o, -, -⟩:=bB h.t g
   subst ha;rw [PJ g];obtain ⟨k,n⟩:∃ k,ts[s.pos].kind=k:=⟨_,rfl⟩;obtain ⟨X,l⟩:∃ X:Tr,⟨ts[s.pos].text.toArray⟩=X:=⟨_,rfl⟩;have j:ts[s.pos].text=X.data.toList:=by rw [<- l]
   rw [n] at p |-
   rw [l] at o;rw [j, <- Tm, <- Tm];have a1:(s.pos:Int)<(ts.length:Int):=by omega
   have a2:(0:Int)<=(s.pos:Int):=by omega
   have a3:((s.pos:Int)).toNat=s.pos:=by omega
   clear n l j h;cases d:(k == 3) with
   | true =>
     have z:(k == 3)=true:=d;rw [Bool.true_and];clear d;go_enter func123,ntmps123
     go_wp2_with (go_quiet (fail))
     go_ret;exact ⟨rfl,K.out.drewN _⟩
   | false =>
     have z:(k == 3)=false:=d;rw [Bool.false_and];clear d;go_enter func123,ntmps123
     go_wp2_with (go_quiet (fail))
     go_ret;exact ⟨rfl,K.out.drewN _⟩
 · rw [lR (by omega)]
   have a1:decide (s.pos<ts.length)=false:=decide_eq_false g;have a2:decide ((s.pos:Int)<(ts.length:Int))=false:=decide_eq_false (by omega);clear h;go_enter func123,ntmps123
   go_wp2_with (go_quiet (fail))
   go_ret;exact ⟨rfl,K.out.drewN _⟩
def PE (ts:List Tk) (rb:Nat) (a:Tp) (c:Nat) (q:TN×RS) (w0:World) (e:Ending) (w':World):Prop :=
 ∃ ad cc,e=.returned (bN q.1.op q.1.nm q.1.n ad q.1.ks.len cc)/\PW ts rb a c q.2 w'/\aC (· = rb) w0 w'/\bD w0.heap.size w' ad q.1.ks
abbrev ndO (o m:Tr) (n:Int) (a:Tp) (l c:Nat):Obj:=.cells #[.string o,.string m,.int .i64 n,.slice a l c] 79
theorem PE.zero {ts:List Tk} {rb:Nat} {a:Tp} {c:Nat} {s:RS} {w0 w':World} (h:PW ts rb a c s w') (b:aC (· = rb) w0 w'):PE ts rb a c (aD,s) w0 (.returned (bN ⟨#[]⟩ ⟨#[]⟩ 0 none 0 0)) w' :=
 ⟨none,0,rfl,h,b,.inl rfl⟩
abbrev kY (w:World) (B:Nat) (o m:Tr) (n:Int) (a:Tp) (l c:Nat):World :=
 (((w.setCell ⟨B,0,none⟩ (.string o)).setCell ⟨B,1,none⟩ (.string m)).setCell ⟨B,2,none⟩ (.int .i64 n)).setCell ⟨B,3,none⟩ (.slice a l c)
theorem eI (w:World) (B:Nat) (o m:Tr) (n:Int) (a:Tp) (l c:Nat):aC (· = B) w (kY w B o m n a l c) :=
 ((((aC.refl (· = B) w).setCell (p:=⟨B,0,none⟩) (.inl rfl) _).setCell (p:=⟨B,1,none⟩) (.inl rfl) _).setCell (p:=⟨B,2,none⟩) (.inl rfl) _).setCell (p:=⟨B,3,none⟩) (.inl rfl) _
theorem PW.other {ts:List Tk} {rb B:Nat} {a:Tp} {c:Nat} {s:RS} {w w':World} (h:PW ts rb a c s w) (b:aC (· = B) w w') (d:rb<B):PW ts rb a c s w' :=
 ⟨b.heap h.r (fun h=>by omega),h.t.kept b (fun k b=>by omega),h.f⟩
theorem PE.put {ts:List Tk} {rb:Nat} {a:Tp} {c:Nat} {q:TN×RS} {w0 b:World} {ad:Tp} {cc:Nat} (d:rb<w0.heap.size) (h:PW ts rb a c q.2 b) (f:aC (· = rb) w0 b) (hr:bD (w0.heap.size+1) b ad q.1.ks) :
 PE ts rb a c q w0 (.returned (bN q.1.op q.1.nm q.1.n ad q.1.ks.len cc)) (kY b w0.heap.size q.1.op q.1.nm q.1.n ad q.1.ks.len cc) :=
 ⟨ad,cc,rfl,h.other (eI _ _ _ _ _ _ _ _) d,f.trans (eI b w0.heap.size _ _ _ _ _ _) (fun i j g=>by omega),(hr.keptS (eI _ _ _ _ _ _ _ _) (fun k f=>by omega)).mono (Nat.le_succ _)⟩
theorem EW (ts:List Tk) (rb:Nat) (a:Tp) (c:Nat) (s:RS) (w:World) (h:PW ts rb a c s w) (b:¬ s.bad=0) :
 Calls prog 263 #[.pointer (some ⟨rb,0,none⟩)] w (PE ts rb a c (pE ts .fac s) w):=by
 have e:pE ts .fac s=(aD,s):=by rw [iZ,if_neg b]
 rw [e];have q:((s.bad:Int) != 0)=true:=by simpa using b
 have f:=aF (bA0 w (ndO ⟨#[]⟩ ⟨#[]⟩ 0 none 0 0)) (· = rb);have d:=h.below (bA0 w (ndO ⟨#[]⟩ ⟨#[]⟩ 0 none 0 0));obtain ⟨⟨m,c1,c2,c3,c4⟩,l,k,j,g⟩:=d.r.cells;have P:=aA (PE.zero (w0:=w) d f);clear h e b d f;go_enter func263,ntmps263
 go_wp2_with fail
 exact bodyPost_ret (v:=bN ⟨#[]⟩ ⟨#[]⟩ 0 none 0 0) (by simp [results,results263,go_sem]) rfl P.out
/-- At the tokens' end factor fails. -/
theorem If (ts:List Tk) (rb:Nat) (a:Tp) (c:Nat) (s:RS) (w:World) (h:PW ts rb a c s w) (g:s.bad=0) (hp:¬ s.pos<ts.length) :
 Calls prog 263 #[.pointer (some ⟨rb,0,none⟩)] w (PE ts rb a c (pE ts .fac s) w):=by
 have e:pE ts .fac s=(aD,aQ 2 s):=by rw [iZ,if_pos g,List.getElem?_eq_none (by omega)]
 rw [e];have q:((s.bad:Int) != 0)=false:=by rw [g];rfl
 have u:=aF (bA0 w (ndO ⟨#[]⟩ ⟨#[]⟩ 0 none 0 0)) (· = rb);have l:=h.below (bA0 w (ndO ⟨#[]⟩ ⟨#[]⟩ 0 none 0 0));obtain ⟨⟨N,c1,c2,c3,c4⟩,D,B,A,z⟩:=l.r.cells;have H:=aA l;have K:=aA u;have d:=h.r.lt;have j:=heap_alloc_new w (ndO ⟨#[]⟩ ⟨#[]⟩ 0 none 0 0);generalize o:w.alloc (ndO ⟨#[]⟩ ⟨#[]⟩ 0 none 0 0)=W at *;have a1:decide (ts.length<=s.pos)=true:=decide_eq_true (by omega);have a2:decide ((ts.length:Int)<=(s.pos:Int))=true:=decide_eq_true (by omega);have C:=aA (p:=∀ n,Calls prog 60 #[.pointer (some ⟨rb,0,none⟩),.int .i64 2] (W.drewN n) fun x w'=>x=.returned (.tuple #[])/\PW ts rb a c (aQ 2 s) w'/\aC (· = rb) (W.drewN n) w') (fun n=>dH ts rb a c s 2 (by decide) _ (H.out.kept ((aC.refl _ W).drewN n)));have j:=aA j;clear h e g l u;go_enter func263,ntmps263
 go_wp2_with fail
 have KW:=aA (show Below w.heap.size w W by rw [<- o];exact bA0 w _);clear o;go_wp2_with (go_quiet (fail))
 refine (C.out _).mono ?_;rintro e m ⟨rfl,t,f⟩;have O:=aA (show aC (· = rb) w m from (K.out.drewN nq).trans f (fun i y _=>y));have b:m.heap[w.heap.size]? = some (ndO ⟨#[]⟩ ⟨#[]⟩ 0 none 0 0):=f.heap (k:=w.heap.size) j.out (by show ¬ w.heap.size=rb;omega);have P:=aA t;obtain ⟨⟨U,T,S,R⟩,Z,Y,X,V⟩:=aL b;have M:=aA b;clear t f b C N c1 c2 c3 c4 D B A z;go_wp2_with fail
 obtain ⟨⟨L,I,G,E⟩, -⟩:=aL (aY M.out (.string ⟨#[]⟩) (.string ⟨#[]⟩) (.int .i64 0) (.slice none 0 0));exact bodyPost_ret (v:=bN ⟨#[]⟩ ⟨#[]⟩ 0 none 0 0) (by simp [results,results263,go_sem,L,I,G,E]) rfl (PE.put (q:=(aD,aQ 2 s)) (cc:=0) d P.out O.out (.inl rfl))
theorem sJ {ts:List Tk} {p:Nat} (hp:p<ts.length):ts[p]? = some ts[p]:=List.getElem?_eq_getElem hp
structure FW (ts:List Tk) (rb:Nat) (a:Tp) (c:Nat) (s:RS) (w0:World) (k:Int) (X:Tr) (n p:Int) (w:World):Prop where
 pw:PW ts rb a c s w
 kp:aC (· = rb) w0 w
 nb:w.heap[w0.heap.size]? = some (ndO ⟨#[]⟩ ⟨#[]⟩ 0 none 0 0)
 tb:w.heap[w0.heap.size+1]? = some (.cells #[.int .i64 k,.string X,.int .i64 n,.int .i64 p] 128 (0,0))
theorem FW.next {ts:List Tk} {rb:Nat} {a:Tp} {c:Nat} {s s':RS} {w0 w w':World} {k:Int} {X:Tr} {n p:Int} (h:FW ts rb a c s w0 k X n p w) (d:rb<w0.heap.size) (hp:PW ts rb a c s' w') (b:aC (· = rb) w w'):FW ts rb a c s' w0 k X n p w' :=
 ⟨hp,h.kp.trans b (fun i f _=>f),b.heap h.nb (by show ¬ w0.heap.size=rb;omega),b.heap h.tb (by show ¬ w0.heap.size+1=rb;omega)⟩
theorem FW.lt {ts:List Tk} {rb:Nat} {a:Tp} {c:Nat} {s:RS} {w0 w:World} {k:Int} {X:Tr} {n p:Int} (h:FW ts rb a c s w0 k X n p w):w0.heap.size+1<w.heap.size:=(Array.getElem?_eq_some_iff.1 h.tb).1
theorem PU (ts:List Tk) (rb:Nat) (a:Tp) (c:Nat) (s:RS) (w:World) (h:PW ts rb a c s w) (y:s.bad=0) (hp:s.pos<ts.length) (hc:s.cnt<=32) (g:ts[s.pos].kind=2) :
 Calls prog 263 #[.pointer (some ⟨rb,0,none⟩)] w (PE ts rb a c (pE ts .fac s) w):=by
 obtain ⟨t,o⟩:∃ t,ts[s.pos]=t:=⟨_,rfl⟩;rw [o] at g;have e:pE ts .fac s=(tH t.num,aJ s):=by rw [iZ,if_pos y,sJ hp,o];simp only;rw [if_pos g]
 rw [e];clear e;have q:((s.bad:Int) != 0)=false:=by rw [y];rfl
 have K1:=aF (bA0 w (ndO ⟨#[]⟩ ⟨#[]⟩ 0 none 0 0)) (· = rb);have D:=h.below (bA0 w (ndO ⟨#[]⟩ ⟨#[]⟩ 0 none 0 0));obtain ⟨⟨c0,c1,c2,c3,c4⟩,f1,f2,f3,f4⟩:=D.r.cells;obtain ⟨b,off,ha,ja,Y,G,T,S⟩:=bB D.t hp;rw [o] at Y G T S;obtain ⟨X,z⟩:∃ X:Tr,⟨t.text.toArray⟩=X:=⟨_,rfl⟩;rw [z] at G;have jb:X.data.toList=t.text:=by rw [<- z]
 have HX:=aA z;subst ha;have H:=aA D;have K:=aA K1;have u:=h.r.lt;have j:=h.f;have B:=heap_alloc_new w (ndO ⟨#[]⟩ ⟨#[]⟩ 0 none 0 0);have p:(w.alloc (ndO ⟨#[]⟩ ⟨#[]⟩ 0 none 0 0)).heap.size=w.heap.size+1:=Tc _ _;generalize hW:w.alloc (ndO ⟨#[]⟩ ⟨#[]⟩ 0 none 0 0)=W at *;have a1:decide (ts.length<=s.pos)=false:=decide_eq_false (by omega);have a2:decide ((ts.length:Int)<=(s.pos:Int))=false:=decide_eq_false (by omega);have a3:(s.pos:Int)<(ts.length:Int):=by omega
 have a4:(0:Int)<=(s.pos:Int):=by omega
 have a5:((s.pos:Int)).toNat=s.pos:=by omega
 have B:=aA B;have k1:(t.kind == 2)=true:=by rw [g];rfl
 clear g;have y:=aA y;clear h D K1 z;go_enter func263,ntmps263
 go_wp2_with fail
 clear hW;go_wp2_with (go_quiet (fail))
 have m:=H.out.kept ((aC.refl (fun _=>False) W).drewN nq);have I:=aA (show aC (· = rb) w (W.drewN nq) from K.out.drewN nq);have l:=aA (show (W.drewN nq).heap[w.heap.size]? = some (ndO ⟨#[]⟩ ⟨#[]⟩ 0 none 0 0) from B.out);have d:(W.drewN nq).heap.size=w.heap.size+1:=p;generalize W.drewN nq=V at m I l d |-
 obtain ⟨⟨e0,e1,e2,e3,e4⟩, -⟩:=m.r.cells;obtain ⟨b',n,k, -,R,r1,r2,P⟩:=bB m.t hp;cases k;rw [o] at R r1 r2 P;rw [HX.out] at r1;have L:=m.below (bA0 V (.cells #[.int .i64 0,.string ⟨#[]⟩,.int .i64 0,.int .i64 0] 128));obtain ⟨⟨x0,x1,x2,x3,x4⟩, -⟩:=L.r.cells;obtain ⟨b',n,k, -,O,E,N,M⟩:=bB L.t hp;cases k;rw [o] at O E N M;rw [HX.out] at E;have HV:=aA m;clear m L Y G T S c0 c1 c2 c3 c4 f1 f2 f3 f4 H K B p;go_region
 have A:=aA (show FW ts rb (some ⟨b,off,none⟩) c s w t.kind X t.num t.place (V.alloc (.cells #[.int .i64 t.kind,.string X,.int .i64 t.num,.int .i64 t.place] 128)).drew from
  ⟨(HV.out.below (bA0 V _)).kept ((aC.refl (fun _=>False) _).drew),(I.out.alloc _).drew,(Below.heap_alloc V _ _ (by omega)).trans l.out,by rw [<- d];exact heap_alloc_new V _⟩)
 generalize (V.alloc (.cells #[.int .i64 t.kind,.string X,.int .i64 t.num,.int .i64 t.place] 128)).drew=U at A |-
 clear x0 x1 x2 x3 x4 O E N M R r1 r2 P e0 e1 e2 e3 e4 HV I l d;obtain ⟨⟨m0,m1,m2,Z⟩, -⟩:=aL A.out.tb;have C:=aA (jK ts rb (some ⟨b,off,none⟩) c s U A.out.pw (fun _=>⟨hp,hc⟩) (by have:=j.2.1;omega));go_wp2_with fail
 refine C.out.mono ?_;rintro e w1 ⟨rfl,h1,g⟩;have x:=aA (A.out.next u h1 g);clear h1 g C m0 m1 m2 Z;obtain ⟨⟨m0,m1,m2,Z⟩, -⟩:=aL x.out.tb;obtain ⟨⟨n0,n1,n2,n3⟩,g0,g1,g2,g3⟩:=aL x.out.nb;go_wp2_with fail
 obtain ⟨⟨d0,d1,d2,d3⟩, -⟩:=aL (aY x.out.nb (.string ⟨#[110,117,109]⟩) (.string ⟨#[]⟩) (.int .i64 t.num) (.slice none 0 0));refine bodyPost_ret (v:=bN ⟨#[110,117,109]⟩ ⟨#[]⟩ t.num none 0 0) (by simp [results,results263,go_sem,d0,d1,d2,d3]) rfl ?_;exact PE.put (q:=(tH t.num,aJ s)) (cc:=0) u x.out.pw x.out.kp (.inl rfl)
theorem Nc (ts:List Tk) (rb:Nat) (a:Tp) (c:Nat) (s:RS) (w:World) (h:PW ts rb a c s w) (y:s.bad=0) (hp:s.pos<ts.length) (hc:s.cnt<=32) (g:ts[s.pos].kind=1) :
 Calls prog 263 #[.pointer (some ⟨rb,0,none⟩)] w (PE ts rb a c (pE ts .fac s) w):=by
 obtain ⟨t,o⟩:∃ t,ts[s.pos]=t:=⟨_,rfl⟩;rw [o] at g;have e:pE ts .fac s=(fE t.text,aJ s):=by rw [iZ,if_pos y,sJ hp,o];simp only;rw [if_neg (by rw [g];decide),if_pos g]
 rw [e];clear e;have q:((s.bad:Int) != 0)=false:=by rw [y];rfl
 have K1:=aF (bA0 w (ndO ⟨#[]⟩ ⟨#[]⟩ 0 none 0 0)) (· = rb);have D:=h.below (bA0 w (ndO ⟨#[]⟩ ⟨#[]⟩ 0 none 0 0));obtain ⟨⟨c0,c1,c2,c3,c4⟩,f1,f2,f3,f4⟩:=D.r.cells;obtain ⟨b,off,ha,ja,Z,G,Y,T⟩:=bB D.t hp;rw [o] at Z G Y T;obtain ⟨X,z⟩:∃ X:Tr,⟨t.text.toArray⟩=X:=⟨_,rfl⟩;rw [z] at G;have jb:X.data.toList=t.text:=by rw [<- z]
 have L:=aA z;subst ha;have H:=aA D;have K:=aA K1;have u:=h.r.lt;have j:=h.f;have B:=heap_alloc_new w (ndO ⟨#[]⟩ ⟨#[]⟩ 0 none 0 0);have p:(w.alloc (ndO ⟨#[]⟩ ⟨#[]⟩ 0 none 0 0)).heap.size=w.heap.size+1:=Tc _ _;generalize hW:w.alloc (ndO ⟨#[]⟩ ⟨#[]⟩ 0 none 0 0)=W at *;have a1:decide (ts.length<=s.pos)=false:=decide_eq_false (by omega);have a2:decide ((ts.length:Int)<=(s.pos:Int))=false:=decide_eq_false (by omega);have a3:(s.pos:Int)<(ts.length:Int):=by omega
 have a4:(0:Int)<=(s.pos:Int):=by omega
 have a5:((s.pos:Int)).toNat=s.pos:=by omega
 have B:=aA B;have k1:(t.kind == 2)=false:=by rw [g];rfl
 have k2:(t.kind == 1)=true:=by rw [g];rfl
 clear g;have y:=aA y;clear h D K1 z;go_enter func263,ntmps263
 go_wp2_with fail
 clear hW;go_wp2_with (go_quiet (fail))
 have m:=H.out.kept ((aC.refl (fun _=>False) W).drewN nq);have I:=aA (show aC (· = rb) w (W.drewN nq) from K.out.drewN nq);have l:=aA (show (W.drewN nq).heap[w.heap.size]? = some (ndO ⟨#[]⟩ ⟨#[]⟩ 0 none 0 0) from B.out);have d:(W.drewN nq).heap.size=w.heap.size+1:=p;generalize W.drewN nq=V at m I l d |-
 obtain ⟨⟨e0,e1,e2,e3,e4⟩, -⟩:=m.r.cells;obtain ⟨b',n,k, -,S,r1,r2,R⟩:=bB m.t hp;cases k;rw [o] at S r1 r2 R;rw [L.out] at r1;have M:=m.below (bA0 V (.cells #[.int .i64 0,.string ⟨#[]⟩,.int .i64 0,.int .i64 0] 128));obtain ⟨⟨x0,x1,x2,x3,x4⟩, -⟩:=M.r.cells;obtain ⟨b',n,k, -,P,E,O,N⟩:=bB M.t hp;cases k;rw [o] at P E O N;rw [L.out] at E;have HV:=aA m;clear m M Z G Y T c0 c1 c2 c3 c4 f1 f2 f3 f4 H K B p;go_region
 have A:=aA (show FW ts rb (some ⟨b,off,none⟩) c s w t.kind X t.num t.place (V.alloc (.cells #[.int .i64 t.kind,.string X,.int .i64 t.num,.int .i64 t.place] 128)).drew from
  ⟨(HV.out.below (bA0 V _)).kept ((aC.refl (fun _=>False) _).drew),(I.out.alloc _).drew,(Below.heap_alloc V _ _ (by omega)).trans l.out,by rw [<- d];exact heap_alloc_new V _⟩)
 generalize (V.alloc (.cells #[.int .i64 t.kind,.string X,.int .i64 t.num,.int .i64 t.place] 128)).drew=U at A |-
 clear x0 x1 x2 x3 x4 P E O N S r1 r2 R e0 e1 e2 e3 e4 HV I l d;obtain ⟨⟨m0,m1,m2,m3⟩, -⟩:=aL A.out.tb;have eN:fE t.text=⟨⟨#[110,97,109,101]⟩,X,0,.nil⟩:=by unfold fE;rw [L.out]
 have C:=aA (jK ts rb (some ⟨b,off,none⟩) c s U A.out.pw (fun _=>⟨hp,hc⟩) (by have:=j.2.1;omega));go_wp2_with fail
 refine C.out.mono ?_;rintro e w1 ⟨rfl,h1,g⟩;have x:=aA (A.out.next u h1 g);clear h1 g C m0 m1 m2 m3;obtain ⟨⟨m0,m1,m2,m3⟩, -⟩:=aL x.out.tb;obtain ⟨⟨n0,n1,n2,n3⟩,g0,g1,g2,g3⟩:=aL x.out.nb;go_wp2_with fail
 obtain ⟨⟨d0,d1,d2,d3⟩, -⟩:=aL (aY x.out.nb (.string ⟨#[110,97,109,101]⟩) (.string X) (.int .i64 0) (.slice none 0 0));refine bodyPost_ret (v:=bN ⟨#[110,97,109,101]⟩ X 0 none 0 0) (by simp [results,results263,go_sem,d0,d1,d2,d3]) rfl ?_;rw [eN];exact PE.put (q:=(⟨⟨#[110,97,109,101]⟩,X,0,.nil⟩,aJ s)) (cc:=0) u x.out.pw x.out.kp (.inl rfl)
theorem Nb (ts:List Tk) (rb:Nat) (a:Tp) (c:Nat) (s:RS) (w:World) (h:PW ts rb a c s w) (A:s.bad=0) (hp:s.pos<ts.length) (_hc:s.cnt<=32) (g:¬ ts[s.pos].kind=2) (j:¬ ts[s.pos].kind=1) (k:¬ ts[s.pos].text=[45]) (l:¬ ts[s.pos].text=[40]) :
 Calls prog 263 #[.pointer (some ⟨rb,0,none⟩)] w (PE ts rb a c (pE ts .fac s) w):=by
 obtain ⟨t,u⟩:∃ t,ts[s.pos]=t:=⟨_,rfl⟩;rw [u] at g j k l;have e:pE ts .fac s=(aD,aQ 2 s):=by rw [iZ,if_pos A,sJ hp,u];simp only;rw [if_neg g,if_neg j,if_neg k,if_neg l]
 rw [e];clear e;have q:((s.bad:Int) != 0)=false:=by rw [A];rfl
 have K1:=aF (bA0 w (ndO ⟨#[]⟩ ⟨#[]⟩ 0 none 0 0)) (· = rb);have I:=h.below (bA0 w (ndO ⟨#[]⟩ ⟨#[]⟩ 0 none 0 0));obtain ⟨⟨c0,c1,c2,c3,c4⟩,f1,f2,f3,f4⟩:=I.r.cells;obtain ⟨b,off,ha,ja,p0,M,p2,p3⟩:=bB I.t hp;rw [u] at p0 M p2 p3;obtain ⟨X,B⟩:∃ X:Tr,⟨t.text.toArray⟩=X:=⟨_,rfl⟩;rw [B] at M;have z:X.data.toList=t.text:=by rw [<- B]
 have HX:=aA B;subst ha;have H:=aA I;have K:=aA K1;have y:=h.r.lt;have N:=h.f;have G:=heap_alloc_new w (ndO ⟨#[]⟩ ⟨#[]⟩ 0 none 0 0);have x:(w.alloc (ndO ⟨#[]⟩ ⟨#[]⟩ 0 none 0 0)).heap.size=w.heap.size+1:=Tc _ _;generalize hW:w.alloc (ndO ⟨#[]⟩ ⟨#[]⟩ 0 none 0 0)=W at *;have a1:decide (ts.length<=s.pos)=false:=decide_eq_false (by omega);have a2:decide ((ts.length:Int)<=(s.pos:Int))=false:=decide_eq_false (by omega);have a3:(s.pos:Int)<(ts.length:Int):=by omega
 have a4:(0:Int)<=(s.pos:Int):=by omega
 have a5:((s.pos:Int)).toNat=s.pos:=by omega
 have G:=aA G;have k1:(t.kind == 2)=false:=beq_eq_false_iff_ne.2 g;have k2:(t.kind == 1)=false:=beq_eq_false_iff_ne.2 j;have k3:(X.toList == [45])=false:=by rw [Tm,z];exact beq_eq_false_iff_ne.2 k
 have k4:(X.toList == [40])=false:=by rw [Tm,z];exact beq_eq_false_iff_ne.2 l
 clear g j k l;have A:=aA A;clear h I K1 B;go_enter func263,ntmps263
 go_wp2_with fail
 clear hW;go_wp2_with (go_quiet (fail))
 have o:=H.out.kept ((aC.refl (fun _=>False) W).drewN nq);have O:=aA (show aC (· = rb) w (W.drewN nq) from K.out.drewN nq);have n:=aA (show (W.drewN nq).heap[w.heap.size]? = some (ndO ⟨#[]⟩ ⟨#[]⟩ 0 none 0 0) from G.out);have d:(W.drewN nq).heap.size=w.heap.size+1:=x;generalize W.drewN nq=V at o O n d |-
 obtain ⟨⟨e0,e1,e2,e3,e4⟩, -⟩:=o.r.cells;obtain ⟨b',p,m, -,Z,r1,r2,Y⟩:=bB o.t hp;cases m;rw [u] at Z r1 r2 Y;rw [HX.out] at r1;have P:=o.below (bA0 V (.cells #[.int .i64 0,.string ⟨#[]⟩,.int .i64 0,.int .i64 0] 128));obtain ⟨⟨x0,x1,x2,x3,x4⟩, -⟩:=P.r.cells;obtain ⟨b',p,m, -,T,L,S,R⟩:=bB P.t hp;cases m;rw [u] at T L S R;rw [HX.out] at L;have HV:=aA o;clear o P p0 M p2 p3 c0 c1 c2 c3 c4 f1 f2 f3 f4 H K G x;go_region
 have E:=aA (show FW ts rb (some ⟨b,off,none⟩) c s w t.kind X t.num t.place (V.alloc (.cells #[.int .i64 t.kind,.string X,.int .i64 t.num,.int .i64 t.place] 128)).drew from
  ⟨(HV.out.below (bA0 V _)).kept ((aC.refl (fun _=>False) _).drew),(O.out.alloc _).drew,(Below.heap_alloc V _ _ (by omega)).trans n.out,by rw [<- d];exact heap_alloc_new V _⟩)
 generalize (V.alloc (.cells #[.int .i64 t.kind,.string X,.int .i64 t.num,.int .i64 t.place] 128)).drew=U at E |-
 clear x0 x1 x2 x3 x4 T L S R Z r1 r2 Y e0 e1 e2 e3 e4 HV O n d;obtain ⟨⟨m0,m1,m2,m3⟩, -⟩:=aL E.out.tb;have C:=aA (dH ts rb (some ⟨b,off,none⟩) c s 2 (by decide) U E.out.pw);go_wp2_with fail
 refine C.out.mono ?_;rintro e w1 ⟨rfl,h1,hk⟩;have D:=aA (E.out.next y h1 hk);clear h1 hk C m0 m1 m2 m3;obtain ⟨⟨n0,n1,n2,n3⟩,g0,g1,g2,g3⟩:=aL D.out.nb;go_wp2_with fail
 obtain ⟨⟨d0,d1,d2,d3⟩, -⟩:=aL (aY D.out.nb (.string ⟨#[]⟩) (.string ⟨#[]⟩) (.int .i64 0) (.slice none 0 0));refine bodyPost_ret (v:=bN ⟨#[]⟩ ⟨#[]⟩ 0 none 0 0) (by simp [results,results263,go_sem,d0,d1,d2,d3]) rfl ?_;exact PE.put (q:=(aD,aQ 2 s)) (cc:=0) y D.out.pw D.out.kp (.inl rfl)
theorem PX (ts:List Tk) (rb:Nat) (a:Tp) (c:Nat) (s:RS) (w:World) (h:PW ts rb a c s w) (R:s.bad=0) (hp:s.pos<ts.length) (hc:s.cnt<=32) (j:¬ ts[s.pos].kind=2) (m:¬ ts[s.pos].kind=1) (o:ts[s.pos].text=[45]) (ih:∀ w',PW ts rb a c (aJ s) w'->Calls prog 263 #[.pointer (some ⟨rb,0,none⟩)] w' (PE ts rb a c (pE ts .fac (aJ s)) w')) :
 Calls prog 263 #[.pointer (some ⟨rb,0,none⟩)] w (PE ts rb a c (pE ts .fac s) w):=by
 obtain ⟨t,E⟩:∃ t,ts[s.pos]=t:=⟨_,rfl⟩;rw [E] at j m o;have e:pE ts .fac s=(pG (pE ts .fac (aJ s)).1,(pE ts .fac (aJ s)).2):=by rw [iZ,if_pos R,sJ hp,E];simp only;rw [if_neg j,if_neg m,if_pos o]
 rw [e];clear e;have q:((s.bad:Int) != 0)=false:=by rw [R];rfl
 have K1:=aF (bA0 w (ndO ⟨#[]⟩ ⟨#[]⟩ 0 none 0 0)) (· = rb);have Z:=h.below (bA0 w (ndO ⟨#[]⟩ ⟨#[]⟩ 0 none 0 0));obtain ⟨⟨c0,c1,c2,c3,c4⟩,f1,f2,f3,f4⟩:=Z.r.cells;obtain ⟨b,off,ha,jf,p0,p1,p2,p3⟩:=bB Z.t hp;rw [E] at p0 p1 p2 p3;obtain ⟨X,S⟩:∃ X:Tr,⟨t.text.toArray⟩=X:=⟨_,rfl⟩;rw [S] at p1;have ja:X.data.toList=t.text:=by rw [<- S]
 have HX:=aA S;subst ha;have H:=aA Z;have K:=aA K1;have u:=h.r.lt;have y:=h.f;have Y:=heap_alloc_new w (ndO ⟨#[]⟩ ⟨#[]⟩ 0 none 0 0);have I:(w.alloc (ndO ⟨#[]⟩ ⟨#[]⟩ 0 none 0 0)).heap.size=w.heap.size+1:=Tc _ _;generalize hW:w.alloc (ndO ⟨#[]⟩ ⟨#[]⟩ 0 none 0 0)=W at *;have a1:decide (ts.length<=s.pos)=false:=decide_eq_false (by omega);have a2:decide ((ts.length:Int)<=(s.pos:Int))=false:=decide_eq_false (by omega);have a3:(s.pos:Int)<(ts.length:Int):=by omega
 have a4:(0:Int)<=(s.pos:Int):=by omega
 have a5:((s.pos:Int)).toNat=s.pos:=by omega
 have Y:=aA Y;have k1:(t.kind == 2)=false:=beq_eq_false_iff_ne.2 j;have k2:(t.kind == 1)=false:=beq_eq_false_iff_ne.2 m;have k3:(X.toList == [45])=true:=by rw [Tm,ja];exact beq_iff_eq.2 o
 have IH:=aA ih;clear j m o ih;have R:=aA R;clear h Z K1 S;go_enter func263,ntmps263
 go_wp2_with fail
 clear hW;go_wp2_with (go_quiet (fail))
 have B:=H.out.kept ((aC.refl (fun _=>False) W).drewN nq);have KD:=aA (show aC (· = rb) w (W.drewN nq) from K.out.drewN nq);have A:=aA (show (W.drewN nq).heap[w.heap.size]? = some (ndO ⟨#[]⟩ ⟨#[]⟩ 0 none 0 0) from Y.out);have l:(W.drewN nq).heap.size=w.heap.size+1:=I;generalize W.drewN nq=V at B KD A l |-
 obtain ⟨⟨e0,e1,e2,e3,e4⟩, -⟩:=B.r.cells;obtain ⟨b',D,z, -,r0,r1,r2,r3⟩:=bB B.t hp;cases z;rw [E] at r0 r1 r2 r3;rw [HX.out] at r1;have HA:=B.below (bA0 V (.cells #[.int .i64 0,.string ⟨#[]⟩,.int .i64 0,.int .i64 0] 128));obtain ⟨⟨x0,x1,x2,x3,x4⟩, -⟩:=HA.r.cells;obtain ⟨b',D,z, -,y0,y1,y2,y3⟩:=bB HA.t hp;cases z;rw [E] at y0 y1 y2 y3;rw [HX.out] at y1;have HV:=aA B;clear B HA p0 p1 p2 p3 c0 c1 c2 c3 c4 f1 f2 f3 f4 H K Y I;go_region
 have T:=aA (show FW ts rb (some ⟨b,off,none⟩) c s w t.kind X t.num t.place (V.alloc (.cells #[.int .i64 t.kind,.string X,.int .i64 t.num,.int .i64 t.place] 128)).drew from
  ⟨(HV.out.below (bA0 V _)).kept ((aC.refl (fun _=>False) _).drew),(KD.out.alloc _).drew,(Below.heap_alloc V _ _ (by omega)).trans A.out,by rw [<- l];exact heap_alloc_new V _⟩)
 generalize (V.alloc (.cells #[.int .i64 t.kind,.string X,.int .i64 t.num,.int .i64 t.place] 128)).drew=U at T |-
 clear x0 x1 x2 x3 x4 y0 y1 y2 y3 r0 r1 r2 r3 e0 e1 e2 e3 e4 HV KD A l;obtain ⟨⟨m0,m1,m2,m3⟩, -⟩:=aL T.out.tb;have C:=aA (jK ts rb (some ⟨b,off,none⟩) c s U T.out.pw (fun _=>⟨hp,hc⟩) (by have:=y.2.1;omega));go_wp2_with fail
 refine C.out.mono ?_;rintro e w1 ⟨rfl,h1,hk⟩;have P:=aA (T.out.next u h1 hk);clear h1 hk C m0 m1 m2 m3;obtain ⟨⟨m0,m1,m2,m3⟩, -⟩:=aL P.out.tb;obtain ⟨⟨n0,n1,n2,n3⟩,g0,g1,g2,g3⟩:=aL P.out.nb;clear m0 m1 m2 m3 n0 n1 n2 n3 g0 g1 g2 g3;have C2:=aA (IH.out w1 P.out.pw);obtain ⟨d,N⟩:∃ d,pE ts .fac (aJ s)=d:=⟨_,rfl⟩;rw [N] at C2 |-
 go_wp2_with fail
 refine C2.out.mono ?_;rintro e g ⟨ad,cc,rfl,h2,j,M⟩;have O:=aA (P.out.next u h2 j);have R3:=aA (M.mono (show w.heap.size+2<=w1.heap.size from P.out.lt));obtain ⟨⟨n0,n1,n2,n3⟩,g0,g1,g2,g3⟩:=aL O.out.nb;have jd:=O.out.lt;have jc:w.heap.size<g.heap.size:=by omega
 have jb:w.heap.size<g.heap.size+1:=by omega
 clear h2 j M C2;go_wp2_with fail
 have x:(kY g w.heap.size ⟨#[110,101,103]⟩ ⟨#[]⟩ 0 (some ⟨g.heap.size+1,0,none⟩) 1 1).heap.size=g.heap.size:=by simp [kY]
 have B1:=(Below.refl (kY g w.heap.size ⟨#[110,101,103]⟩ ⟨#[]⟩ 0 (some ⟨g.heap.size+1,0,none⟩) 1 1).heap.size _).alloc (Td _) (ndO d.1.op d.1.nm d.1.n ad d.1.ks.len cc);have B2:=(Below.refl ((kY g w.heap.size ⟨#[110,101,103]⟩ ⟨#[]⟩ 0 (some ⟨g.heap.size+1,0,none⟩) 1 1).alloc (ndO d.1.op d.1.nm d.1.n ad d.1.ks.len cc)).heap.size _).alloc (Td _) (ndO d.1.op d.1.nm d.1.n ad d.1.ks.len cc);have KP:=eI g w.heap.size ⟨#[110,101,103]⟩ ⟨#[]⟩ 0 (some ⟨g.heap.size+1,0,none⟩) 1 1;have R4:=(((R3.out.keptS KP (fun k hk=>by omega)).kept B1).kept B2);have P4:=((O.out.pw.other KP u).below B1).below B2;have K4:=((O.out.kp.trans KP (fun i hi je=>by omega)).alloc (ndO d.1.op d.1.nm d.1.n ad d.1.ks.len cc)).alloc (ndO d.1.op d.1.nm d.1.n ad d.1.ks.len cc);have p:=heap_alloc_new ((kY g w.heap.size ⟨#[110,101,103]⟩ ⟨#[]⟩ 0 (some ⟨g.heap.size+1,0,none⟩) 1 1).alloc (ndO d.1.op d.1.nm d.1.n ad d.1.ks.len cc)) (ndO d.1.op d.1.nm d.1.n ad d.1.ks.len cc);rw [Tc,x] at p;have L:=(B2.block w.heap.size (by rw [Tc,x];omega)).trans ((B1.block w.heap.size (by rw [x];omega)).trans (aY O.out.nb (.string ⟨#[110,101,103]⟩) (.string ⟨#[]⟩) (.int .i64 0) (.slice (some ⟨g.heap.size+1,0,none⟩) 1 1)));obtain ⟨⟨d0,d1,d2,d3⟩, -⟩:=aL L;refine bodyPost_ret (v:=bN ⟨#[110,101,103]⟩ ⟨#[]⟩ 0 (some ⟨g.heap.size+1,0,none⟩) 1 1) (by simp [results,results263,go_sem,d0,d1,d2,d3]) rfl ?_;rw [N];exact ⟨_,_,rfl,P4,K4,.inr ⟨_,_,rfl,(FP (G:=fun b=>w.heap.size+2<=b) (by show w.heap.size+2<=g.heap.size+1;omega) p R4).lower (by omega)⟩⟩
theorem Na (ts:List Tk) (rb:Nat) (a:Tp) (c:Nat) (s:RS) (w:World) (h:PW ts rb a c s w) (Z:s.bad=0) (hp:s.pos<ts.length) (hc:s.cnt<=32) (j:¬ ts[s.pos].kind=2) (y:¬ ts[s.pos].kind=1) (u:ts[s.pos].text=[40]) (ih:∀ w',PW ts rb a c (aM s) w'->Calls prog 223 #[.pointer (some ⟨rb,0,none⟩)] w' (PE ts rb a c (pE ts .sum (aM s)) w')) (g:¬ (pE ts .sum (aM s)).2.bad=0) :
 Calls prog 263 #[.pointer (some ⟨rb,0,none⟩)] w (PE ts rb a c (pE ts .fac s) w):=by
 obtain ⟨t,O⟩:∃ t,ts[s.pos]=t:=⟨_,rfl⟩;rw [O] at j y u;have B:¬ t.text=[45]:=by rw [u];decide
 have e:pE ts .fac s=((pE ts .sum (aM s)).1,dS ts (pE ts .sum (aM s)).2):=by rw [iZ,if_pos Z,sJ hp,O];simp only;rw [if_neg j,if_neg y,if_neg B,if_pos u]
 rw [e];clear e;have z:=l4 ts .sum (aM s) Z (by show s.pos+1<=ts.length;omega) hc;have jb:lX ts.length (aM s):=⟨fun _=>by show s.pos+1<=ts.length;omega,by show s.pos+1<=_;omega,by show s.cnt<=33;omega,h.f.2.2.2⟩;obtain ⟨d,T⟩:∃ d,pE ts .sum (aM s)=d:=⟨_,rfl⟩;rw [T] at ih z |-
 rw [T] at g;have ec:dS ts d.2=aM d.2:=by unfold dS;rw [if_neg (by simp [g])]
 rw [ec];have jc:lX ts.length (aM d.2):=⟨fun x=>absurd x g,by show d.2.pos+1<=_;have h1:=z.1;have h2:(aM s).pos=s.pos+1:=rfl;omega,z.2.1,h.f.2.2.2⟩;have qb:((d.2.bad:Int) == 0)=false:=beq_eq_false_iff_ne.2 g;clear g ec;have q:((s.bad:Int) != 0)=false:=by rw [Z];rfl
 have K1:=aF (bA0 w (ndO ⟨#[]⟩ ⟨#[]⟩ 0 none 0 0)) (· = rb);have H1:=h.below (bA0 w (ndO ⟨#[]⟩ ⟨#[]⟩ 0 none 0 0));obtain ⟨⟨c0,c1,c2,c3,c4⟩,f1,f2,f3,f4⟩:=H1.r.cells;obtain ⟨b,off,ha,ji,p0,p1,p2,p3⟩:=bB H1.t hp;rw [O] at p0 p1 p2 p3;obtain ⟨X,hX⟩:∃ X:Tr,⟨t.text.toArray⟩=X:=⟨_,rfl⟩;rw [hX] at p1;have ja:X.data.toList=t.text:=by rw [<- hX]
 have HX:=aA hX;subst ha;have H:=aA H1;have K:=aA K1;have m:=h.r.lt;have p:=h.f;have NB:=heap_alloc_new w (ndO ⟨#[]⟩ ⟨#[]⟩ 0 none 0 0);have P:(w.alloc (ndO ⟨#[]⟩ ⟨#[]⟩ 0 none 0 0)).heap.size=w.heap.size+1:=Tc _ _;generalize hW:w.alloc (ndO ⟨#[]⟩ ⟨#[]⟩ 0 none 0 0)=W at *;have a1:decide (ts.length<=s.pos)=false:=decide_eq_false (by omega);have a2:decide ((ts.length:Int)<=(s.pos:Int))=false:=decide_eq_false (by omega);have a3:(s.pos:Int)<(ts.length:Int):=by omega
 have a4:(0:Int)<=(s.pos:Int):=by omega
 have a5:((s.pos:Int)).toNat=s.pos:=by omega
 have NB:=aA NB;have k1:(t.kind == 2)=false:=beq_eq_false_iff_ne.2 j;have k2:(t.kind == 1)=false:=beq_eq_false_iff_ne.2 y;have k3:(X.toList == [45])=false:=by rw [Tm,ja];exact beq_eq_false_iff_ne.2 B
 have k4:(X.toList == [40])=true:=by rw [Tm,ja];exact beq_iff_eq.2 u
 have IH:=aA ih;have jf:(s.pos:Int)+1<=9223372036854775807:=by have:=p.2.2.2;omega
 have jh:(d.2.pos:Int)+1<=9223372036854775807:=by have:=z.1;have:=p.2.2.2;omega
 clear j y u B ih;have Z:=aA Z;clear h H1 K1 hX;go_enter func263,ntmps263
 go_wp2_with fail
 clear hW;go_wp2_with (go_quiet (fail))
 have G:=H.out.kept ((aC.refl (fun _=>False) W).drewN nq);have KD:=aA (show aC (· = rb) w (W.drewN nq) from K.out.drewN nq);have C:=aA (show (W.drewN nq).heap[w.heap.size]? = some (ndO ⟨#[]⟩ ⟨#[]⟩ 0 none 0 0) from NB.out);have l:(W.drewN nq).heap.size=w.heap.size+1:=P;generalize W.drewN nq=V at G KD C l |-
 obtain ⟨⟨e0,e1,e2,e3,e4⟩, -⟩:=G.r.cells;obtain ⟨b',N,A, -,r0,r1,r2,r3⟩:=bB G.t hp;cases A;rw [O] at r0 r1 r2 r3;rw [HX.out] at r1;have HA:=G.below (bA0 V (.cells #[.int .i64 0,.string ⟨#[]⟩,.int .i64 0,.int .i64 0] 128));obtain ⟨⟨x0,x1,x2,x3,x4⟩, -⟩:=HA.r.cells;obtain ⟨b',N,A, -,y0,D,L,I⟩:=bB HA.t hp;cases A;rw [O] at y0 D L I;rw [HX.out] at D;have HV:=aA G;clear G HA p0 p1 p2 p3 c0 c1 c2 c3 c4 f1 f2 f3 f4 H K NB P;go_region
 have E:=aA (show FW ts rb (some ⟨b,off,none⟩) c s w t.kind X t.num t.place (V.alloc (.cells #[.int .i64 t.kind,.string X,.int .i64 t.num,.int .i64 t.place] 128)).drew from
  ⟨(HV.out.below (bA0 V _)).kept ((aC.refl (fun _=>False) _).drew),(KD.out.alloc _).drew,(Below.heap_alloc V _ _ (by omega)).trans C.out,by rw [<- l];exact heap_alloc_new V _⟩)
 generalize (V.alloc (.cells #[.int .i64 t.kind,.string X,.int .i64 t.num,.int .i64 t.place] 128)).drew=U at E |-
 clear x0 x1 x2 x3 x4 y0 D L I r0 r1 r2 r3 e0 e1 e2 e3 e4 HV KD C l;obtain ⟨⟨m0,m1,m2,m3⟩, -⟩:=aL E.out.tb;obtain ⟨⟨x0,x1,x2,x3,x4⟩,D,L,I,y4⟩:=E.out.pw.r.cells;have WS:=aA (E.out.next m (E.out.pw.set (s':=aM s) (o:=1) (v:=.int .i64 ((s.pos:Int)+1)) jb rfl) (cZ (aC.refl _ _) 1 _));have C2:=aA (IH.out _ WS.out.pw);go_wp2_with fail
 generalize jd:U.setCell ⟨rb,1,none⟩ (.int .i64 ((s.pos:Int)+1))=U2 at *;refine C2.out.mono ?_;rintro e M ⟨ad,cc,rfl,h2,j,S⟩;have W3:=aA (WS.out.next m h2 j);have R3:=aA (S.mono (show w.heap.size+2<=U2.heap.size from WS.out.lt));have je:=W3.out.lt;have BN:=bA0 M (ndO d.1.op d.1.nm d.1.n ad d.1.ks.len cc);have Y:=aA (heap_alloc_new M (ndO d.1.op d.1.nm d.1.n ad d.1.ks.len cc));have W4:=aA (W3.out.next m (h2.below BN) (aF BN _));have R4:=aA (R3.out.kept BN);have jg:(M.alloc (ndO d.1.op d.1.nm d.1.n ad d.1.ks.len cc)).heap.size=M.heap.size+1:=Tc _ _;clear h2 j S C2 x0 x1 x2 x3 x4 D L I y4 m0 m1 m2 m3 E WS BN jd;generalize jj:M.alloc (ndO d.1.op d.1.nm d.1.n ad d.1.ks.len cc)=V4 at *;obtain ⟨⟨x0,x1,x2,x3,x4⟩,D,L,I,y4⟩:=W4.out.pw.r.cells;obtain ⟨⟨z0,z1,z2,z3⟩, -⟩:=aL Y.out;obtain ⟨⟨n0,n1,n2,n3⟩,g0,g1,g2,g3⟩:=aL W4.out.nb;have W5:=aA (W4.out.next m (W4.out.pw.set (s':=aM d.2) (o:=1) (v:=.int .i64 ((d.2.pos:Int)+1)) jc rfl) (cZ (aC.refl _ _) 1 _));have R5:=aA (R4.out.keptS (cZ (aC.refl (· = rb) V4) 1 (.int .i64 ((d.2.pos:Int)+1))) (fun k hk=>by omega));go_wp2_with fail
 have R:=aY W5.out.nb (.string d.1.op) (.string d.1.nm) (.int .i64 d.1.n) (.slice ad d.1.ks.len cc);obtain ⟨⟨d0,d1,d2,d3⟩, -⟩:=aL R;refine bodyPost_ret (v:=bN d.1.op d.1.nm d.1.n ad d.1.ks.len cc) (by simp [results,results263,go_sem,d0,d1,d2,d3]) rfl ?_;exact PE.put (q:=(d.1,aM d.2)) m W5.out.pw W5.out.kp (R5.out.mono (by omega))
theorem M9 (ts:List Tk) (rb:Nat) (a:Tp) (c:Nat) (s:RS) (w:World) (h:PW ts rb a c s w) (hb:s.bad=0) (hp:s.pos<ts.length) (hc:s.cnt<=32) (j:¬ ts[s.pos].kind=2) (A:¬ ts[s.pos].kind=1) (y:ts[s.pos].text=[40]) (ih:∀ w',PW ts rb a c (aM s) w'->Calls prog 223 #[.pointer (some ⟨rb,0,none⟩)] w' (PE ts rb a c (pE ts .sum (aM s)) w')) (g:(pE ts .sum (aM s)).2.bad=0) (z:isS ts [41] (pE ts .sum (aM s)).2.pos=true) :
 Calls prog 263 #[.pointer (some ⟨rb,0,none⟩)] w (PE ts rb a c (pE ts .fac s) w):=by
 obtain ⟨t,ht⟩:∃ t,ts[s.pos]=t:=⟨_,rfl⟩;rw [ht] at j A y;have I:¬ t.text=[45]:=by rw [y];decide
 have e:pE ts .fac s=((pE ts .sum (aM s)).1,dS ts (pE ts .sum (aM s)).2):=by rw [iZ,if_pos hb,sJ hp,ht];simp only;rw [if_neg j,if_neg A,if_neg I,if_pos y]
 rw [e];clear e;have B:=l4 ts .sum (aM s) hb (by show s.pos+1<=ts.length;omega) hc;have jg:lX ts.length (aM s):=⟨fun _=>by show s.pos+1<=ts.length;omega,by show s.pos+1<=_;omega,by show s.cnt<=33;omega,h.f.2.2.2⟩;obtain ⟨d,jd⟩:∃ d,pE ts .sum (aM s)=d:=⟨_,rfl⟩;rw [jd] at ih B |-
 rw [jd] at g z;have ec:dS ts d.2=aM d.2:=by unfold dS;rw [g,z];rfl
 rw [ec];have T3:=B.2.2 g;have jm:=gN z;have jh:lX ts.length (aM d.2):=⟨fun _=>by show d.2.pos+1<=_;omega,by show d.2.pos+1<=_;omega,B.2.1,h.f.2.2.2⟩;have qb:((d.2.bad:Int) == 0)=true:=by rw [g];rfl
 clear g ec;have q:((s.bad:Int) != 0)=false:=by rw [hb];rfl
 have K1:=aF (bA0 w (ndO ⟨#[]⟩ ⟨#[]⟩ 0 none 0 0)) (· = rb);have H1:=h.below (bA0 w (ndO ⟨#[]⟩ ⟨#[]⟩ 0 none 0 0));obtain ⟨⟨c0,c1,c2,c3,c4⟩,f1,f2,f3,f4⟩:=H1.r.cells;obtain ⟨b,off,ha,jo,p0,p1,p2,p3⟩:=bB H1.t hp;rw [ht] at p0 p1 p2 p3;obtain ⟨X,hX⟩:∃ X:Tr,⟨t.text.toArray⟩=X:=⟨_,rfl⟩;rw [hX] at p1;have jf:X.data.toList=t.text:=by rw [<- hX]
 have HX:=aA hX;subst ha;have H:=aA H1;have K:=aA K1;have l:=h.r.lt;have x:=h.f;have NB:=heap_alloc_new w (ndO ⟨#[]⟩ ⟨#[]⟩ 0 none 0 0);have ja:(w.alloc (ndO ⟨#[]⟩ ⟨#[]⟩ 0 none 0 0)).heap.size=w.heap.size+1:=Tc _ _;generalize hW:w.alloc (ndO ⟨#[]⟩ ⟨#[]⟩ 0 none 0 0)=W at *;have a1:decide (ts.length<=s.pos)=false:=decide_eq_false (by omega);have a2:decide ((ts.length:Int)<=(s.pos:Int))=false:=decide_eq_false (by omega);have a3:(s.pos:Int)<(ts.length:Int):=by omega
 have a4:(0:Int)<=(s.pos:Int):=by omega
 have a5:((s.pos:Int)).toNat=s.pos:=by omega
 have NB:=aA NB;have k1:(t.kind == 2)=false:=beq_eq_false_iff_ne.2 j;have k2:(t.kind == 1)=false:=beq_eq_false_iff_ne.2 A;have k3:(X.toList == [45])=false:=by rw [Tm,jf];exact beq_eq_false_iff_ne.2 I
 have k4:(X.toList == [40])=true:=by rw [Tm,jf];exact beq_iff_eq.2 y
 have IH:=aA ih;have jk:(s.pos:Int)+1<=9223372036854775807:=by have:=x.2.2.2;omega
 have jn:(d.2.pos:Int)+1<=9223372036854775807:=by have:=B.1;have:=x.2.2.2;omega
 clear j A y I ih;have hb:=aA hb;clear h H1 K1 hX;go_enter func263,ntmps263
 go_wp2_with fail
 clear hW;go_wp2_with (go_quiet (fail))
 have Y:=H.out.kept ((aC.refl (fun _=>False) W).drewN nq);have KD:=aA (show aC (· = rb) w (W.drewN nq) from K.out.drewN nq);have L:=aA (show (W.drewN nq).heap[w.heap.size]? = some (ndO ⟨#[]⟩ ⟨#[]⟩ 0 none 0 0) from NB.out);have m:(W.drewN nq).heap.size=w.heap.size+1:=ja;generalize W.drewN nq=V at Y KD L m |-
 obtain ⟨⟨e0,e1,e2,e3,e4⟩, -⟩:=Y.r.cells;obtain ⟨b',Z,G, -,r0,r1,r2,r3⟩:=bB Y.t hp;cases G;rw [ht] at r0 r1 r2 r3;rw [HX.out] at r1;have HA:=Y.below (bA0 V (.cells #[.int .i64 0,.string ⟨#[]⟩,.int .i64 0,.int .i64 0] 128));obtain ⟨⟨R,P,O,N,M⟩, -⟩:=HA.r.cells;obtain ⟨b',Z,G, -,y0,C,E,D⟩:=bB HA.t hp;cases G;rw [ht] at y0 C E D;rw [HX.out] at C;have HV:=aA Y;clear Y HA p0 p1 p2 p3 c0 c1 c2 c3 c4 f1 f2 f3 f4 H K NB ja;go_region
 have T:=aA (show FW ts rb (some ⟨b,off,none⟩) c s w t.kind X t.num t.place (V.alloc (.cells #[.int .i64 t.kind,.string X,.int .i64 t.num,.int .i64 t.place] 128)).drew from
  ⟨(HV.out.below (bA0 V _)).kept ((aC.refl (fun _=>False) _).drew),(KD.out.alloc _).drew,(Below.heap_alloc V _ _ (by omega)).trans L.out,by rw [<- m];exact heap_alloc_new V _⟩)
 generalize (V.alloc (.cells #[.int .i64 t.kind,.string X,.int .i64 t.num,.int .i64 t.place] 128)).drew=U at T |-
 clear R P O N M y0 C E D r0 r1 r2 r3 e0 e1 e2 e3 e4 HV KD L m;obtain ⟨⟨m0,m1,m2,m3⟩, -⟩:=aL T.out.tb;obtain ⟨⟨R,P,O,N,M⟩,C,E,D,y4⟩:=T.out.pw.r.cells;have WS:=aA (T.out.next l (T.out.pw.set (s':=aM s) (o:=1) (v:=.int .i64 ((s.pos:Int)+1)) jg rfl) (cZ (aC.refl _ _) 1 _));have C2:=aA (IH.out _ WS.out.pw);go_wp2_with fail
 generalize ji:U.setCell ⟨rb,1,none⟩ (.int .i64 ((s.pos:Int)+1))=U2 at *;refine C2.out.mono ?_;rintro e S ⟨ad,cc,rfl,h2,j,jc⟩;have W3:=aA (WS.out.next l h2 j);have R3:=aA (jc.mono (show w.heap.size+2<=U2.heap.size from WS.out.lt));have jj:=W3.out.lt;have BN:=bA0 S (ndO d.1.op d.1.nm d.1.n ad d.1.ks.len cc);have je:=aA (heap_alloc_new S (ndO d.1.op d.1.nm d.1.n ad d.1.ks.len cc));have W4:=aA (W3.out.next l (h2.below BN) (aF BN _));have R4:=aA (R3.out.kept BN);have jl:(S.alloc (ndO d.1.op d.1.nm d.1.n ad d.1.ks.len cc)).heap.size=S.heap.size+1:=Tc _ _;clear h2 j jc C2 R P O N M C E D y4 m0 m1 m2 m3 T WS BN ji;generalize jp:S.alloc (ndO d.1.op d.1.nm d.1.n ad d.1.ks.len cc)=V4 at *;obtain ⟨⟨R,P,O,N,M⟩,C,E,D,y4⟩:=W4.out.pw.r.cells;have CI:=aA (p:=Calls prog 123 #[.pointer (some ⟨rb,0,none⟩),.string ⟨#[41]⟩] V4 fun e w'=>e=.returned (.bool true)/\aC (fun _=>False) V4 w') (by have:=Gn ts rb (some ⟨b,off,none⟩) c d.2 ⟨#[41]⟩ V4 W4.out.pw;rwa [show isS ts (⟨#[41]⟩:Tr).data.toList d.2.pos=true from z] at this);go_wp2_with fail
 refine CI.out.mono ?_;rintro e w5 ⟨rfl,u⟩;have W5:=aA (W4.out.next l (W4.out.pw.kept u) (u.mono (fun _ h _=>h.elim)));have R5:=aA (R4.out.keptS u (fun _ h=>h.elim));have N5:=aA (show w5.heap[S.heap.size]? = some (ndO d.1.op d.1.nm d.1.n ad d.1.ks.len cc) from u.heap je.out (fun h=>h));clear u CI R P O N M C E D y4;obtain ⟨⟨R,P,O,N,M⟩,C,E,D,y4⟩:=W5.out.pw.r.cells;obtain ⟨⟨z0,z1,z2,z3⟩, -⟩:=aL N5.out;obtain ⟨⟨n0,n1,n2,n3⟩,g0,g1,g2,g3⟩:=aL W5.out.nb;have W7:=aA (W5.out.next l (W5.out.pw.set (s':=aM d.2) (o:=1) (v:=.int .i64 ((d.2.pos:Int)+1)) jh rfl) (cZ (aC.refl _ _) 1 _));have R7:=aA (R5.out.keptS (cZ (aC.refl (· = rb) w5) 1 (.int .i64 ((d.2.pos:Int)+1))) (fun k hk=>by omega));go_wp2_with fail
 have jb:=aY W7.out.nb (.string d.1.op) (.string d.1.nm) (.int .i64 d.1.n) (.slice ad d.1.ks.len cc);obtain ⟨⟨d0,d1,d2,d3⟩, -⟩:=aL jb;refine bodyPost_ret (v:=bN d.1.op d.1.nm d.1.n ad d.1.ks.len cc) (by simp [results,results263,go_sem,d0,d1,d2,d3]) rfl ?_;exact PE.put (q:=(d.1,aM d.2)) l W7.out.pw W7.out.kp (R7.out.mono (by omega))
theorem MZ (ts:List Tk) (rb:Nat) (a:Tp) (c:Nat) (s:RS) (w:World) (h:PW ts rb a c s w) (hb:s.bad=0) (hp:s.pos<ts.length) (hc:s.cnt<=32) (l:¬ ts[s.pos].kind=2) (C:¬ ts[s.pos].kind=1) (z:ts[s.pos].text=[40]) (ih:∀ w',PW ts rb a c (aM s) w'->Calls prog 223 #[.pointer (some ⟨rb,0,none⟩)] w' (PE ts rb a c (pE ts .sum (aM s)) w')) (g:(pE ts .sum (aM s)).2.bad=0) (L:isS ts [41] (pE ts .sum (aM s)).2.pos=false) :
 Calls prog 263 #[.pointer (some ⟨rb,0,none⟩)] w (PE ts rb a c (pE ts .fac s) w):=by
 obtain ⟨t,ht⟩:∃ t,ts[s.pos]=t:=⟨_,rfl⟩;rw [ht] at l C z;have N:¬ t.text=[45]:=by rw [z];decide
 have e:pE ts .fac s=((pE ts .sum (aM s)).1,dS ts (pE ts .sum (aM s)).2):=by rw [iZ,if_pos hb,sJ hp,ht];simp only;rw [if_neg l,if_neg C,if_neg N,if_pos z]
 rw [e];clear e;have A:=l4 ts .sum (aM s) hb (by show s.pos+1<=ts.length;omega) hc;have jh:lX ts.length (aM s):=⟨fun _=>by show s.pos+1<=ts.length;omega,by show s.pos+1<=_;omega,by show s.cnt<=33;omega,h.f.2.2.2⟩;obtain ⟨d,je⟩:∃ d,pE ts .sum (aM s)=d:=⟨_,rfl⟩;rw [je] at ih A |-
 rw [je] at g L;have ec:dS ts d.2=aM (aQ 2 d.2):=by unfold dS;rw [g,L];rfl
 rw [ec];have T3:=A.2.2 g;have ji:lX ts.length (aM (aQ 2 d.2)):=⟨fun x=>absurd x (mW 2 (by decide) d.2),by show (aQ 2 d.2).pos+1<=_;rw [lH];have h1:=A.1;have h2:(aM s).pos=s.pos+1:=rfl;omega,by show (aQ 2 d.2).cnt<=33;unfold aQ;split <;> exact A.2.1,h.f.2.2.2⟩;have jl:((aQ 2 d.2).pos:Int)+1<=9223372036854775807:=by rw [lH];have:=h.f.2.2.2;omega
 have qb:((d.2.bad:Int) == 0)=true:=by rw [g];rfl
 clear g ec;have q:((s.bad:Int) != 0)=false:=by rw [hb];rfl
 have K1:=aF (bA0 w (ndO ⟨#[]⟩ ⟨#[]⟩ 0 none 0 0)) (· = rb);have H1:=h.below (bA0 w (ndO ⟨#[]⟩ ⟨#[]⟩ 0 none 0 0));obtain ⟨⟨c0,c1,c2,c3,c4⟩,f1,f2,f3,f4⟩:=H1.r.cells;obtain ⟨b,off,ha,jp,p0,p1,p2,p3⟩:=bB H1.t hp;rw [ht] at p0 p1 p2 p3;obtain ⟨X,hX⟩:∃ X:Tr,⟨t.text.toArray⟩=X:=⟨_,rfl⟩;rw [hX] at p1;have jg:X.data.toList=t.text:=by rw [<- hX]
 have HX:=aA hX;subst ha;have H:=aA H1;have K:=aA K1;have j:=h.r.lt;have y:=h.f;have NB:=heap_alloc_new w (ndO ⟨#[]⟩ ⟨#[]⟩ 0 none 0 0);have jb:(w.alloc (ndO ⟨#[]⟩ ⟨#[]⟩ 0 none 0 0)).heap.size=w.heap.size+1:=Tc _ _;generalize hW:w.alloc (ndO ⟨#[]⟩ ⟨#[]⟩ 0 none 0 0)=W at *;have a1:decide (ts.length<=s.pos)=false:=decide_eq_false (by omega);have a2:decide ((ts.length:Int)<=(s.pos:Int))=false:=decide_eq_false (by omega);have a3:(s.pos:Int)<(ts.length:Int):=by omega
 have a4:(0:Int)<=(s.pos:Int):=by omega
 have a5:((s.pos:Int)).toNat=s.pos:=by omega
 have NB:=aA NB;have k1:(t.kind == 2)=false:=beq_eq_false_iff_ne.2 l;have k2:(t.kind == 1)=false:=beq_eq_false_iff_ne.2 C;have k3:(X.toList == [45])=false:=by rw [Tm,jg];exact beq_eq_false_iff_ne.2 N
 have k4:(X.toList == [40])=true:=by rw [Tm,jg];exact beq_iff_eq.2 z
 have IH:=aA ih;have jm:(s.pos:Int)+1<=9223372036854775807:=by have:=y.2.2.2;omega
 have jo:(d.2.pos:Int)+1<=9223372036854775807:=by have:=A.1;have:=y.2.2.2;omega
 clear l C z N ih;have hb:=aA hb;clear h H1 K1 hX;go_enter func263,ntmps263
 go_wp2_with fail
 clear hW;go_wp2_with (go_quiet (fail))
 have HD:=H.out.kept ((aC.refl (fun _=>False) W).drewN nq);have KD:=aA (show aC (· = rb) w (W.drewN nq) from K.out.drewN nq);have O:=aA (show (W.drewN nq).heap[w.heap.size]? = some (ndO ⟨#[]⟩ ⟨#[]⟩ 0 none 0 0) from NB.out);have m:(W.drewN nq).heap.size=w.heap.size+1:=jb;generalize W.drewN nq=V at HD KD O m |-
 obtain ⟨⟨e0,e1,e2,e3,e4⟩, -⟩:=HD.r.cells;obtain ⟨b',ja,M, -,r0,r1,r2,r3⟩:=bB HD.t hp;cases M;rw [ht] at r0 r1 r2 r3;rw [HX.out] at r1;have HA:=HD.below (bA0 V (.cells #[.int .i64 0,.string ⟨#[]⟩,.int .i64 0,.int .i64 0] 128));obtain ⟨⟨Y,T,S,R,P⟩, -⟩:=HA.r.cells;obtain ⟨b',ja,M, -,y0,D,I,G⟩:=bB HA.t hp;cases M;rw [ht] at y0 D I G;rw [HX.out] at D;have HV:=aA HD;clear HD HA p0 p1 p2 p3 c0 c1 c2 c3 c4 f1 f2 f3 f4 H K NB jb;go_region
 have Z:=aA (show FW ts rb (some ⟨b,off,none⟩) c s w t.kind X t.num t.place (V.alloc (.cells #[.int .i64 t.kind,.string X,.int .i64 t.num,.int .i64 t.place] 128)).drew from
  ⟨(HV.out.below (bA0 V _)).kept ((aC.refl (fun _=>False) _).drew),(KD.out.alloc _).drew,(Below.heap_alloc V _ _ (by omega)).trans O.out,by rw [<- m];exact heap_alloc_new V _⟩)
 generalize (V.alloc (.cells #[.int .i64 t.kind,.string X,.int .i64 t.num,.int .i64 t.place] 128)).drew=U at Z |-
 clear Y T S R P y0 D I G r0 r1 r2 r3 e0 e1 e2 e3 e4 HV KD O m;obtain ⟨⟨m0,m1,m2,m3⟩, -⟩:=aL Z.out.tb;obtain ⟨⟨Y,T,S,R,P⟩,D,I,G,y4⟩:=Z.out.pw.r.cells;have WS:=aA (Z.out.next j (Z.out.pw.set (s':=aM s) (o:=1) (v:=.int .i64 ((s.pos:Int)+1)) jh rfl) (cZ (aC.refl _ _) 1 _));have C2:=aA (IH.out _ WS.out.pw);go_wp2_with fail
 generalize jj:U.setCell ⟨rb,1,none⟩ (.int .i64 ((s.pos:Int)+1))=U2 at *;refine C2.out.mono ?_;rintro e E ⟨ad,cc,rfl,h2,l,jd⟩;have W3:=aA (WS.out.next j h2 l);have R3:=aA (jd.mono (show w.heap.size+2<=U2.heap.size from WS.out.lt));have jk:=W3.out.lt;have BN:=bA0 E (ndO d.1.op d.1.nm d.1.n ad d.1.ks.len cc);have jf:=aA (heap_alloc_new E (ndO d.1.op d.1.nm d.1.n ad d.1.ks.len cc));have W4:=aA (W3.out.next j (h2.below BN) (aF BN _));have R4:=aA (R3.out.kept BN);have jn:(E.alloc (ndO d.1.op d.1.nm d.1.n ad d.1.ks.len cc)).heap.size=E.heap.size+1:=Tc _ _;clear h2 l jd C2 Y T S R P D I G y4 m0 m1 m2 m3 Z WS BN jj;generalize jq:E.alloc (ndO d.1.op d.1.nm d.1.n ad d.1.ks.len cc)=V4 at *;obtain ⟨⟨Y,T,S,R,P⟩,D,I,G,y4⟩:=W4.out.pw.r.cells;have CI:=aA (p:=Calls prog 123 #[.pointer (some ⟨rb,0,none⟩),.string ⟨#[41]⟩] V4 fun e w'=>e=.returned (.bool false)/\aC (fun _=>False) V4 w') (by have:=Gn ts rb (some ⟨b,off,none⟩) c d.2 ⟨#[41]⟩ V4 W4.out.pw;rwa [show isS ts (⟨#[41]⟩:Tr).data.toList d.2.pos=false from L] at this);go_wp2_with fail
 refine CI.out.mono ?_;rintro e w5 ⟨rfl,u⟩;have W5:=aA (W4.out.next j (W4.out.pw.kept u) (u.mono (fun _ h _=>h.elim)));have R5:=aA (R4.out.keptS u (fun _ h=>h.elim));have N5:=aA (show w5.heap[E.heap.size]? = some (ndO d.1.op d.1.nm d.1.n ad d.1.ks.len cc) from u.heap jf.out (fun h=>h));clear u CI Y T S R P D I G y4;have CF:=aA (dH ts rb (some ⟨b,off,none⟩) c d.2 2 (by decide) w5 W5.out.pw);go_wp2_with fail
 refine CF.out.mono ?_;rintro e w6 ⟨rfl,h6,B⟩;have W6:=aA (W5.out.next j h6 B);have R6:=aA (R5.out.keptS B (fun k hk=>by omega));have N6:=aA (show w6.heap[E.heap.size]? = some (ndO d.1.op d.1.nm d.1.n ad d.1.ks.len cc) from B.heap N5.out (by show ¬ E.heap.size=rb;omega));clear h6 B CF;obtain ⟨⟨Y,T,S,R,P⟩,D,I,G,y4⟩:=W6.out.pw.r.cells;obtain ⟨⟨z0,z1,z2,z3⟩, -⟩:=aL N6.out;obtain ⟨⟨n0,n1,n2,n3⟩,g0,g1,g2,g3⟩:=aL W6.out.nb;have W7:=aA (W6.out.next j (W6.out.pw.set (s':=aM (aQ 2 d.2)) (o:=1) (v:=.int .i64 (((aQ 2 d.2).pos:Int)+1)) ji rfl) (cZ (aC.refl _ _) 1 _));have R7:=aA (R6.out.keptS (cZ (aC.refl (· = rb) w6) 1 (.int .i64 (((aQ 2 d.2).pos:Int)+1))) (fun k hk=>by omega));go_wp2_with fail
 have jc:=aY W7.out.nb (.string d.1.op) (.string d.1.nm) (.int .i64 d.1.n) (.slice ad d.1.ks.len cc);obtain ⟨⟨d0,d1,d2,d3⟩, -⟩:=aL jc;refine bodyPost_ret (v:=bN d.1.op d.1.nm d.1.n ad d.1.ks.len cc) (by simp [results,results263,go_sem,d0,d1,d2,d3]) rfl ?_;exact PE.put (q:=(d.1,aM (aQ 2 d.2))) j W7.out.pw W7.out.kp (R7.out.mono (by omega))
end Go.Proofs.YtgfkjkokmcejbaaGreatDoor
