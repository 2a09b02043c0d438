/-
 No statement: what ProgTwoLift needs, of the texts OE3, OE4.
-/
import Derived.Test.YtgfkjkokmcejbaaGreatDoorVT2
set_option maxHeartbeats 40000000
set_option maxRecDepth 100000
namespace Go.Proofs.YtgfkjkokmcejbaaGreatDoor
open Go.RowKit
section
section
open Go.RowKit
def eF (G:Nat->Prop) (w:World):F->Nat->Nat->Prop
 | .nil,_,_=>True
 | .cons o m n ks r,b,off=>G b/\b<w.heap.size/\(∃ (a:Option Addr) (c:Nat),(w.cell? ⟨b,off,none⟩=some (.string o)/\w.cell? ⟨b,off+1,none⟩=some (.string m)/\w.cell? ⟨b,off+2,none⟩=some (.int .i64 n)/\w.cell? ⟨b,off+3,none⟩=some (.slice a ks.len c)) /\
  (ks=.nil\/∃ b' off',a=some ⟨b',off',none⟩/\eF G w ks b' off'))/\eF G w r b (off+4)
def aN (G:Nat->Prop) (w:World) (a:Option Addr) (ks:F):Prop:=ks=.nil\/∃ b off,a=some ⟨b,off,none⟩/\eF G w ks b off
abbrev a8 (lo:Nat) (w:World) (a:Option Addr) (ks:F):Prop:=aN (fun b=>lo<=b) w a ks
abbrev cF (o m:ByteArray) (n:Int) (a:Option Addr) (l c:Nat):Value:=.agg #[.string o,.string m,.int .i64 n,.slice a l c]
theorem eF.imp {G H:Nat->Prop} {w:World} (hG:∀ b,b<w.heap.size->G b->H b):∀ {f:F} {b off:Nat},eF G w f b off->eF H w f b off
 | .nil,_,_,_=>trivial
 | .cons _ _ _ _ _,_,_,⟨h1,h2,⟨a,c,hc,hk⟩,hr⟩=>⟨hG _ h2 h1,h2,⟨a,c,hc,hk.imp id fun ⟨b',off',e,h⟩=>⟨b',off',e,h.imp hG⟩⟩,hr.imp hG⟩
theorem eF.keptS {S G:Nat->Prop} {w w':World} (hk:aD S w w') (hS:∀ k,S k->¬ G k):∀ {f:F} {b off:Nat},eF G w f b off->eF G w' f b off
 | .nil,_,_,_=>trivial
 | .cons _ _ _ _ _, b, _, ⟨h1, h2, ⟨a, c, ⟨c0, c1, c2, c3⟩, hks⟩, hr⟩ => by
   have hb:¬ S b:=fun hs=>hS b hs h1
   exact ⟨h1,Nat.lt_of_lt_of_le h2 hk.size,⟨a,c,⟨hk.cell c0 hb,hk.cell c1 hb,hk.cell c2 hb,hk.cell c3 hb⟩,hks.imp id fun ⟨b',off',e,h⟩=>⟨b',off',e,h.keptS hk hS⟩⟩,hr.keptS hk hS⟩
theorem aE {w w':World} (hb:Below w.heap.size w w') (S:Nat->Prop):aD S w w':=⟨hb.os,hb.tape,hb.output,hb.size,fun k hk _=>hb.block k hk⟩
theorem eF.kept {G:Nat->Prop} {w w':World} (hb:Below w.heap.size w w') {f:F} {b off:Nat} (h:eF G w f b off):eF G w' f b off :=
 h.keptS (S:=fun _=>False) (aE hb _) (fun _ h=>h.elim)
theorem aN.imp {G H:Nat->Prop} {w:World} {a:Option Addr} {ks:F} (h:aN G w a ks) (hG:∀ b,b<w.heap.size->G b->H b):aN H w a ks :=
 Or.imp id (fun ⟨b,off,e,h⟩=>⟨b,off,e,h.imp hG⟩) h
theorem aN.keptS {S G:Nat->Prop} {w w':World} {a:Option Addr} {ks:F} (h:aN G w a ks) (hk:aD S w w') (hS:∀ k,S k->¬ G k):aN G w' a ks :=
 Or.imp id (fun ⟨b,off,e,h⟩=>⟨b,off,e,h.keptS hk hS⟩) h
theorem aN.kept {G:Nat->Prop} {w w':World} {a:Option Addr} {ks:F} (h:aN G w a ks) (hb:Below w.heap.size w w'):aN G w' a ks :=
 Or.imp id (fun ⟨b,off,e,h⟩=>⟨b,off,e,h.kept hb⟩) h
theorem a8.keptS {S:Nat->Prop} {lo:Nat} {w w':World} {a:Option Addr} {ks:F} (h:a8 lo w a ks) (hk:aD S w w') (hS:∀ k,S k->k<lo):a8 lo w' a ks :=
 aN.keptS h hk (fun k hk h=>by have:=hS k hk;omega)
theorem a8.kept {lo:Nat} {w w':World} {a:Option Addr} {ks:F} (h:a8 lo w a ks) (hb:Below w.heap.size w w'):a8 lo w' a ks:=aN.kept h hb
theorem a8.mono {lo lo':Nat} {w:World} {a:Option Addr} {ks:F} (h:a8 lo w a ks) (hlo:lo'<=lo):a8 lo' w a ks:=aN.imp h (fun _ _ h=>Nat.le_trans hlo h)
theorem eF.lower {lo lo':Nat} {w:World} {f:F} {b off:Nat} (h:eF (fun b=>lo<=b) w f b off) (hlo:lo'<=lo):eF (fun b=>lo'<=b) w f b off:=h.imp (fun _ _ h=>Nat.le_trans hlo h)
theorem eF.drop {G:Nat->Prop} {w:World}:∀ {f:F} {b off:Nat} (j:Nat),eF G w f b off->eF G w (f.drop j) b (off+j*4)
 | f,_,off,0,h=>by rw [F.drop_zero,Nat.zero_mul,Nat.add_zero];exact h
 | .nil,_,_,_+1,_=>trivial
 | .cons _ _ _ _ _, _, off, j + 1, ⟨_, _, _, hr⟩ => by
   have:=hr.drop j;rw [show off+4+j*4=off+(j+1)*4 by omega] at this;exact this
theorem Fp {G:Nat->Prop} {w:World} {b:Nat} {o m:ByteArray} {n:Int} {a:Option Addr} {ks:F} {c:Nat} {t:TypeId} {f:Nat×Nat} (hG:G b) (h:w.heap[b]? = some (.cells #[.string o,.string m,.int .i64 n,.slice a ks.len c] t f)) (hk:aN G w a ks):eF G w (.cons o m n ks .nil) b 0 :=
 ⟨hG,(Array.getElem?_eq_some_iff.1 h).1,⟨a,c,⟨by simp [World.cell?,h],by simp [World.cell?,h],by simp [World.cell?,h],by simp [World.cell?,h]⟩,hk⟩,trivial⟩
theorem Fo {G:Nat->Prop} {w:World} {b:Nat} {o m o2 m2:ByteArray} {n n2:Int} {a a2:Option Addr} {ks ks2:F} {c c2:Nat} {t:TypeId} {f:Nat×Nat} (hG:G b)
 (h:w.heap[b]? = some (.cells #[.string o,.string m,.int .i64 n,.slice a ks.len c,.string o2,.string m2,.int .i64 n2,.slice a2 ks2.len c2] t f)) (hk:aN G w a ks) (hk2:aN G w a2 ks2):eF G w (.cons o m n ks (.cons o2 m2 n2 ks2 .nil)) b 0:=by
 have hlt:=(Array.getElem?_eq_some_iff.1 h).1
 exact ⟨hG,hlt,⟨a,c,⟨by simp [World.cell?,h],by simp [World.cell?,h],by simp [World.cell?,h],by simp [World.cell?,h]⟩,hk⟩,
  hG,hlt,⟨a2,c2,⟨by simp [World.cell?,h],by simp [World.cell?,h],by simp [World.cell?,h],by simp [World.cell?,h]⟩,hk2⟩,trivial⟩
def IsR (w:World) (b:Nat) (a:Option Addr) (l c:Nat) (s:RS):Prop:=w.heap[b]? = some (.cells #[.slice a l c,.int .i64 s.pos,.int .i64 s.cnt,.int .i64 s.bad,.int .i64 s.whr] 126 (0,0))
theorem IsR.cells {w:World} {b:Nat} {a:Option Addr} {l c:Nat} {s:RS} (h:IsR w b a l c s) :
 (w.cell? ⟨b,0,none⟩=some (.slice a l c)/\w.cell? ⟨b,1,none⟩=some (.int .i64 s.pos)/\w.cell? ⟨b,2,none⟩=some (.int .i64 s.cnt)/\w.cell? ⟨b,3,none⟩=some (.int .i64 s.bad)/\w.cell? ⟨b,4,none⟩=some (.int .i64 s.whr)) /\
 (w.frozen? ⟨b,1,none⟩=false/\w.frozen? ⟨b,2,none⟩=false/\w.frozen? ⟨b,3,none⟩=false/\w.frozen? ⟨b,4,none⟩=false):=by
 unfold IsR at h;refine ⟨⟨?_,?_,?_,?_,?_⟩,?_,?_,?_,?_⟩ <;> simp [World.cell?,World.frozen?,h]
theorem IsR.lt {w:World} {b:Nat} {a:Option Addr} {l c:Nat} {s:RS} (h:IsR w b a l c s):b<w.heap.size:=(Array.getElem?_eq_some_iff.1 h).1
end
section
open Go.RowKit
theorem lK {L:List Tk} {y:List UInt8} {p:Nat} (h:L.length<=p):isS L y p=false:=by
 unfold isS;rw [List.getElem?_eq_none h]
theorem OU {L:List Tk} {p:Nat} (h:L.length<=p):isM L p=false:=by unfold isM;rw [lK h,lK h,lK h];rfl
theorem OV {L:List Tk} {p:Nat} (h:L.length<=p):isA L p=false:=by unfold isA;rw [lK h,lK h];rfl
def cY:F->Nat
 | .nil=>0
 | .cons _ _ _ ks r=>1+cY ks+cY r
def aR (t:TN):Nat:=1+cY t.ks
theorem iP (t:TN):cY t.f=aR t:=by unfold TN.f aR;rw [cY,cY,Nat.add_zero]
theorem zG:∀ (f:F) (l:Int),rW f l<=l
 | .nil,l=>Int.le_refl _
 | .cons _ _ _ ks r, l => by
   rw [rW];split
   · exact Int.le_refl _
   · have:=zG ks (l-1)
     have:=zG r (rW ks (l-1));omega
theorem tF:∀ (f:F) (l:Int),(cY f:Int)<=l->rW f l=l-cY f
 | .nil,l,_=>by rw [rW,cY];omega
 | .cons _ _ _ ks r, l, h => by
   rw [cY] at h;rw [rW,if_neg (by omega),tF ks (l-1) (by omega),tF r _ (by omega),cY];omega
theorem zF:∀ (f:F) (l:Int),0<=l->l<cY f->rW f l<0
 | .nil,l,h0,h=>by rw [cY] at h;omega
 | .cons _ _ _ ks r, l, h0, h => by
   rw [cY] at h;rw [rW,if_neg (by omega)];by_cases h1:(cY ks:Int)<=l-1
   · rw [tF ks _ h1]
     exact zF r _ (by omega) (by omega)
   · by_cases h2:0<=l-1
     · have:=zF ks (l-1) h2 (by omega)
       have:=zG r (rW ks (l-1));omega
     · have:=zG ks (l-1)
       have:=zG r (rW ks (l-1));omega
theorem Cr (t:TN):rW t.ks 31<0 ↔ 32<aR t:=by
 unfold aR;by_cases h:(cY t.ks:Int)<=31
 · rw [tF _ _ h];omega
 · have:=zF t.ks 31 (by omega) (by omega)
   omega
def cK (t:Tk):Prop:=(t.kind=1/\bH t.text=true)\/(t.kind=2/\0<=t.num/\t.num<=9223372036854775807)\/t.kind=3
theorem I0 {l:List UInt8} {n:Nat} {k v:Int} {c:UInt8} {r:List UInt8} (hl:l=c::r) (hc:bE c=true) (h:jL l=.tok k n v):k=1/\bH (l.take n)=true:=by
 unfold jL at h;split at h
 · cases h
 · rename_i h8
   cases h;refine ⟨rfl,?_⟩;have hp:1<=bL aX l:=by rw [hl];exact sO (by unfold aX;rw [hc];rfl)
   have hall:∀ d∈l.take (bL aX l),aX d=true:=by
    rw [oP];exact fun d hd=>List.all_eq_true.1 List.all_takeWhile d hd
   have hlen:(l.take (bL aX l)).length<=8:=by rw [List.length_take];omega
   rw [hl] at hall hlen |-
   obtain ⟨m,hm⟩:∃ m,bL aX (c::r)=m+1:=⟨bL aX (c::r)-1,by rw [hl] at hp;omega⟩;rw [hm] at hall hlen |-
   rw [List.take_succ_cons] at hall hlen |-
   rw [mO,hc,decide_eq_true (by simpa using hlen),Bool.true_and,Bool.true_and,List.all_eq_true];exact fun d hd=>hall d (by simp [hd])
theorem Gm {l:List UInt8} {n:Nat} {k v:Int} (p:Nat) (h:bU l=.tok k n v):cK ⟨k,l.take n,v,p⟩:=by
 have hf:=Bh h;cases l with
 | nil=>cases h
 | cons c r =>
   simp only [bU] at h;split at h
   · rename_i hc
     obtain ⟨rfl,hg⟩:=I0 rfl hc h;exact .inl ⟨rfl,hg⟩
   · split at h
     · unfold mJ at h
       split at h
       · cases h
       · split at h
         · cases h
         · cases h;exact .inr (.inl ⟨rfl,hf.2.2⟩)
     · unfold iI at h
       split at h
       · cases h
       · cases h;exact .inr (.inr rfl)
theorem LS (l:List UInt8) (p:Nat):∀ ts,cL l p=.ok ts->∀ t∈ts,cK t:=by
 refine nP (C:=fun l p=>∀ ts,cL l p=.ok ts->∀ t∈ts,cK t) ?_ ?_ ?_ ?_ l.length l p (Nat.le_refl _)
 · intro p ts h
   rw [lJ] at h;cases h;intro t ht;cases ht
 · intro r p ih ts h
   rw [fH] at h;exact ih ts h
 · intro l p e h1 h0 hf ts h
   rw [qH h0 h1 hf] at h;cases h
 · intro l p k n v h1 h0 hf hn hl ih ts h
   rw [iC h1 hn hf] at h;obtain ⟨ts',h',rfl⟩:=zR h;intro t ht;rcases List.mem_cons.1 ht with rfl | ht
   · exact Gm p hf
   · exact ih ts' h' t ht
theorem qI {l:List UInt8} {ts:List Tk} (h:gU l=.ok ts):∀ t∈ts,cK t:=by
 unfold gU at h;split at h
 · cases h
 · exact LS _ _ _ h
def OkT (t:TN):Prop:=cC t.f=0
theorem Qr {v:Int} (h:0<=v):OkT (sU v):=by
 have e:pF ⟨#[110,117,109]⟩ ⟨#[]⟩ v 0=0:=by
  unfold pF;rw [show (eC ⟨#[110,117,109]⟩ != ((0:Nat):Int))=false from rfl,show cG ⟨#[110,117,109]⟩=false from rfl,decide_eq_false (show ¬ v<0 by omega),Bool.and_false,Bool.false_and];rfl
 show cC (.cons _ _ _ _ .nil)=0;rw [cC];exact (if_pos e).trans rfl
theorem Ok {x:List UInt8} (h:bH x=true):OkT (e9 x):=by
 have e:pF ⟨#[110,97,109,101]⟩ ⟨x.toArray⟩ 0 0=0:=by
  unfold pF;rw [show (eC ⟨#[110,97,109,101]⟩ != ((0:Nat):Int))=false from rfl,show cO ⟨#[110,97,109,101]⟩=false from rfl,show bH (⟨x.toArray⟩:ByteArray).data.toList=true from h,Bool.not_true,Bool.and_false,Bool.false_and];rfl
 show cC (.cons _ _ _ _ .nil)=0;rw [cC];exact (if_pos e).trans rfl
theorem Qs {k:TN} (h:OkT k):OkT (oY k):=by
 have e:pF ⟨#[110,101,103]⟩ ⟨#[]⟩ 0 k.f.len=0:=rfl;have h':cC k.f=0:=h;show cC (.cons ⟨#[110,101,103]⟩ ⟨#[]⟩ 0 k.f .nil)=0;rw [cC,if_pos e,if_pos h'];rfl
def uW (o:List UInt8):Prop:=o=[43]\/o=[45]\/o=[42]\/o=[47]\/o=[37]
theorem Lk {o:List UInt8} {a b:TN} (ho:uW o) (ha:OkT a) (hb:OkT b):OkT (fB o a b):=by
 have e:pF ⟨o.toArray⟩ ⟨#[]⟩ 0 2=0:=by rcases ho with rfl | rfl | rfl | rfl | rfl <;> rfl
 have hk:cC (.cons a.op a.nm a.n a.ks b.f)=0:=by
  have ha':cC a.f=0:=ha;rw [zH] at ha';rw [cC];by_cases h1:pF a.op a.nm a.n a.ks.len=0
  · rw [if_pos h1] at ha' |-
    rw [if_pos ha'];exact hb
  · rw [if_neg h1] at ha';exact absurd ha' h1
 have e2:pF ⟨o.toArray⟩ ⟨#[]⟩ 0 (F.cons a.op a.nm a.n a.ks b.f).len=0:=e;show cC (.cons ⟨o.toArray⟩ ⟨#[]⟩ 0 (.cons a.op a.nm a.n a.ks b.f) .nil)=0;rw [cC,if_pos e2,if_pos hk];rfl
theorem Kw (v:Int):aR (sU v)=1:=rfl
theorem Io (x:List UInt8):aR (e9 x)=1:=rfl
theorem Ky (k:TN):aR (oY k)=1+aR k:=by unfold oY;rw [aR,iP]
theorem Ds (o:List UInt8) (a b:TN):aR (fB o a b)=1+aR a+aR b:=by
 unfold fB;rw [aR,cY,iP];unfold aR;omega
theorem opM {L:List Tk} {p:Nat} (h:isM L p=true):uW (dW L p):=by
 unfold isM isS at h;unfold dW;cases e:L[p]? with
 | none=>rw [e] at h;simp at h
 | some t =>
   rw [e] at h;simp only [Bool.or_eq_true,Bool.and_eq_true,beq_iff_eq] at h;rcases h with (⟨_,h⟩ | ⟨_,h⟩) | ⟨_,h⟩
   · exact .inr (.inr (.inl h))
   · exact .inr (.inr (.inr (.inl h)))
   · exact .inr (.inr (.inr (.inr h)))
theorem opA {L:List Tk} {p:Nat} (h:isA L p=true):uW (dW L p):=by
 unfold isA isS at h;unfold dW;cases e:L[p]? with
 | none=>rw [e] at h;simp at h
 | some t =>
   rw [e] at h;simp only [Bool.or_eq_true,Bool.and_eq_true,beq_iff_eq] at h;rcases h with ⟨_,h⟩ | ⟨_,h⟩
   · exact .inl h
   · exact .inr (.inl h)
def Md.hand:Md->Nat
 | .prodL n=>aR n
 | .sumL n=>aR n
 | _=>0
def Md.fine:Md->Prop
 | .prodL n=>OkT n
 | .sumL n=>OkT n
 | _=>True
theorem dQ {s:RS} (h:(aH s).bad=0):s.bad=0/\(aH s).cnt=s.cnt+1/\s.cnt+1<=32/\(aH s).pos=s.pos+1/\(aH s).whr=s.whr:=by
 unfold aH at h |-
 by_cases hb:s.bad=0
 · rw [if_pos hb] at h |-
   by_cases h32:32<s.cnt+1
   · rw [if_pos h32] at h;cases h
   · rw [if_neg h32];exact ⟨hb,rfl,by omega,rfl,rfl⟩
 · rw [if_neg hb] at h;exact absurd h hb
theorem mP (e:Int) (he:¬ e=0) (s:RS):¬ (aM e s).bad=0:=by
 unfold aM;by_cases hb:s.bad=0
 · rw [if_pos hb];exact he
 · rw [if_neg hb];exact hb
theorem Bq {L:List Tk} {s:RS} (h:(dN L s).bad=0):s.bad=0/\isS L [41] s.pos=true/\dN L s=aJ s:=by
 unfold dN at h |-
 by_cases hc:(s.bad == 0 && !isS L [41] s.pos)=true
 · rw [if_pos hc] at h
   exact absurd h (mP 2 (by decide) s)
 · rw [if_neg hc] at h |-
   have hb:s.bad=0:=h;refine ⟨hb,?_,rfl⟩;rw [hb] at hc;simpa using hc
theorem cZ (L:List Tk):∀ (f:Nat) (md:Md) (s:RS),¬ s.bad=0->(pr L f md s).2=s
 | 0,_,_,_=>rfl
 | f+1,.fac,s,h=>by rw [pr,if_neg h]
 | f+1,.prod,s,h=>by rw [pr,cZ L f .fac s h,cZ L f _ s h]
 | f+1,.prodL n,s,h=>by rw [pr,if_neg (by simp [h])]
 | f+1,.sum,s,h=>by rw [pr,cZ L f .prod s h,cZ L f _ s h]
 | f+1,.sumL n,s,h=>by rw [pr,if_neg (by simp [h])]
theorem rQ {L:List Tk} {f:Nat} {md:Md} {s:RS} (h:(pr L f md s).2.bad=0):s.bad=0:=by
 refine Classical.byContradiction fun hs=>?_
 rw [cZ L f md s hs] at h;exact hs h
theorem gX (L:List Tk) (hL:∀ t∈L,cK t):∀ (f:Nat) (md:Md) (s:RS),bJ (L.length-s.pos) md<=f->md.fine->s.cnt<=32->(pr L f md s).2.bad=0 ->
 s.bad=0/\OkT (pr L f md s).1/\(pr L f md s).2.cnt+md.hand=s.cnt+aR (pr L f md s).1/\(pr L f md s).2.cnt<=32
 | 0,md,s,h,_,_,_=>by cases md <;> simp [bJ] at h
 | f + 1, .fac, s, hn, _, hc, h => by
   simp only [bJ] at hn;rw [pr] at h |-
   by_cases hb:s.bad=0
   · rw [if_pos hb] at h |-
     cases e:L[s.pos]? with
     | none=>rw [e] at h;exact absurd h (mP 2 (by decide) s)
     | some t =>
       obtain ⟨hlt,ht⟩:=List.getElem?_eq_some_iff.1 e;have hg:=hL t (ht ▸ List.getElem_mem hlt);rw [e] at h;simp only at h |-
       by_cases h2:t.kind=2
       · rw [if_pos h2] at h |-
         dsimp only at h |-
         obtain ⟨_,k1,k2,_⟩:=dQ h;refine ⟨hb,Qr ?_,by rw [Kw];simp only [Md.hand];omega,by omega⟩;rcases hg with ⟨hk,_⟩ | ⟨_,h0,_⟩ | hk
         · rw [h2] at hk;cases hk
         · exact h0
         · rw [h2] at hk;cases hk
       rw [if_neg h2] at h |-
       by_cases h1:t.kind=1
       · rw [if_pos h1] at h |-
         dsimp only at h |-
         obtain ⟨_,k1,k2,_⟩:=dQ h;refine ⟨hb,Ok ?_,by rw [Io];simp only [Md.hand];omega,by omega⟩;rcases hg with ⟨_,hk⟩ | ⟨hk,_⟩ | hk
         · exact hk
         · rw [h1] at hk;cases hk
         · rw [h1] at hk;cases hk
       rw [if_neg h1] at h |-
       by_cases h45:t.text=[45]
       · rw [if_pos h45] at h |-
         simp only at h |-
         obtain ⟨_,k1,k2,k3,_⟩:=dQ (rQ h);obtain ⟨_,g1,g2,g3⟩:=gX L hL f .fac (aH s) (by rw [k3];simp only [bJ];omega) trivial (by omega) h;refine ⟨hb,Qs g1,?_,g3⟩;rw [Ky];simp only [Md.hand] at g2 |-;omega
       rw [if_neg h45] at h |-
       by_cases h40:t.text=[40]
       · rw [if_pos h40] at h |-
         simp only at h |-
         obtain ⟨c1,c2,c3⟩:=Bq h;obtain ⟨_,g1,g2,g3⟩:=gX L hL f .sum (aJ s) (by show bJ (L.length-(s.pos+1)) _<=f;simp only [bJ];omega) trivial hc c1;rw [c3];exact ⟨hb,g1,g2,g3⟩
       rw [if_neg h40] at h;exact absurd h (mP 2 (by decide) s)
   · rw [if_neg hb] at h;exact absurd h hb
 | f + 1, .prod, s, hn, _, hc, h => by
   simp only [bJ] at hn;rw [pr] at h |-
   have hp:=dM L f .fac s;have hk:=rQ h;obtain ⟨a0,a1,a2,a3⟩:=gX L hL f .fac s (by simp only [bJ];omega) trivial hc hk;obtain ⟨_,b1,b2,b3⟩:=gX L hL f (.prodL (pr L f .fac s).1) (pr L f .fac s).2 (by simp only [bJ];omega) a1 a3 h;simp only [Md.hand] at a2 b2 |-
   exact ⟨a0,b1,by omega,b3⟩
 | f + 1, .prodL n, s, hn, hf, hc, h => by
   simp only [bJ] at hn;rw [pr] at h |-
   by_cases hcnd:(s.bad == 0 && isM L s.pos)=true
   · rw [if_pos hcnd] at h |-
     simp only [Bool.and_eq_true,beq_iff_eq] at hcnd;have hlt:=pA hcnd.2;have hp:=dM L f .fac (aH s);rw [bZ] at hp;have hk:(pr L f .fac (aH s)).2.bad=0:=rQ h;have ht:=rQ hk;obtain ⟨_,k1,k2,k3,_⟩:=dQ ht;obtain ⟨_,a1,a2,a3⟩:=gX L hL f .fac (aH s) (by rw [k3];simp only [bJ];omega) trivial (by omega) hk;obtain ⟨_,b1,b2,b3⟩:=gX L hL f (.prodL (fB (dW L s.pos) n (pr L f .fac (aH s)).1)) _ (by simp only [bJ];omega) (Lk (opM hcnd.2) hf a1) a3 h;simp only [Md.hand] at a2 b2 |-
     rw [Ds] at b2;exact ⟨hcnd.1,b1,by omega,b3⟩
   · rw [if_neg hcnd] at h |-
     exact ⟨h,hf,rfl,hc⟩
 | f + 1, .sum, s, hn, _, hc, h => by
   simp only [bJ] at hn;rw [pr] at h |-
   have hp:=dM L f .prod s;have hk:=rQ h;obtain ⟨a0,a1,a2,a3⟩:=gX L hL f .prod s (by simp only [bJ];omega) trivial hc hk;obtain ⟨_,b1,b2,b3⟩:=gX L hL f (.sumL (pr L f .prod s).1) (pr L f .prod s).2 (by simp only [bJ];omega) a1 a3 h;simp only [Md.hand] at a2 b2 |-
   exact ⟨a0,b1,by omega,b3⟩
 | f + 1, .sumL n, s, hn, hf, hc, h => by
   simp only [bJ] at hn;rw [pr] at h |-
   by_cases hcnd:(s.bad == 0 && isA L s.pos)=true
   · rw [if_pos hcnd] at h |-
     simp only [Bool.and_eq_true,beq_iff_eq] at hcnd;have hlt:=pB hcnd.2;have hp:=dM L f .prod (aH s);rw [bZ] at hp;have hk:(pr L f .prod (aH s)).2.bad=0:=rQ h;have ht:=rQ hk;obtain ⟨_,k1,k2,k3,_⟩:=dQ ht;obtain ⟨_,a1,a2,a3⟩:=gX L hL f .prod (aH s) (by rw [k3];simp only [bJ];omega) trivial (by omega) hk;obtain ⟨_,b1,b2,b3⟩:=gX L hL f (.sumL (fB (dW L s.pos) n (pr L f .prod (aH s)).1)) _ (by simp only [bJ];omega) (Lk (opA hcnd.2) hf a1) a3 h;simp only [Md.hand] at a2 b2 |-
     rw [Ds] at b2;exact ⟨hcnd.1,b1,by omega,b3⟩
   · rw [if_neg hcnd] at h |-
     exact ⟨h,hf,rfl,hc⟩
theorem wV {n:Nat} {s:RS} (hb:s.bad=0) (hp:s.pos<n) (hc:s.cnt<=32):(aH s).pos=s.pos+1/\(aH s).cnt=s.cnt+1/\((aH s).bad=0->(aH s).pos<=n/\(aH s).cnt<=32):=by
 refine ⟨bZ s,?_,fun h=>?_⟩
 · unfold aH
   rw [if_pos hb];split <;> rfl
 · obtain ⟨_,h1,h2,h3,_⟩:=dQ h
   omega
theorem Ew (e:Int) (he:¬ e=0) {n:Nat} {s:RS} (hp:s.pos<=n) (hc:s.cnt<=33):(aM e s).pos+s.pos<=2*n+1/\(aM e s).cnt<=33/\((aM e s).bad=0->(aM e s).pos<=n/\(aM e s).cnt<=32):=by
 refine ⟨by rw [kZ];omega,?_,fun h=>absurd h (mP e he s)⟩;unfold aM;split <;> exact hc
def EU (n p:Nat) (q:RS):Prop:=q.pos+p<=2*n+1/\q.cnt<=33/\(q.bad=0->q.pos<=n/\q.cnt<=32)
theorem EU.mono {n p p':Nat} {q:RS} (h:EU n p q) (hp:p'<=p):EU n p' q:=⟨by have:=h.1;omega,h.2⟩
theorem kN (L:List Tk):∀ (f:Nat) (md:Md) (s:RS),bJ (L.length-s.pos) md<=f->s.bad=0->s.pos<=L.length->s.cnt<=32->EU L.length s.pos (pr L f md s).2
 | 0,md,s,h,_,_,_=>by cases md <;> simp [bJ] at h
 | f + 1, .fac, s, hn, hb, hp, hc => by
   simp only [bJ] at hn;rw [pr,if_pos hb];cases e:L[s.pos]? with
   | none=>exact Ew 2 (by decide) hp (by omega)
   | some t =>
     obtain ⟨hlt,_⟩:=List.getElem?_eq_some_iff.1 e;obtain ⟨t1,t2,t3⟩:=wV hb hlt hc;have T:EU L.length s.pos (aH s):=⟨by omega,by omega,t3⟩;simp only;by_cases h2:t.kind=2
     · rw [if_pos h2];exact T
     rw [if_neg h2];by_cases h1:t.kind=1
     · rw [if_pos h1];exact T
     rw [if_neg h1];by_cases h45:t.text=[45]
     · rw [if_pos h45]
       simp only;by_cases hk:(aH s).bad=0
       · exact (kN L f .fac (aH s) (by rw [t1];simp only [bJ];omega) hk (t3 hk).1 (t3 hk).2).mono (by omega)
       · rw [cZ L f .fac _ hk];exact T
     rw [if_neg h45];by_cases h40:t.text=[40]
     · rw [if_pos h40]
       simp only;obtain ⟨a1,a2,a3⟩:=kN L f .sum (aJ s) (by show bJ (L.length-(s.pos+1)) _<=f;simp only [bJ];omega) hb (by show s.pos+1<=_;omega) hc;have a1':(pr L f .sum (aJ s)).2.pos+(s.pos+1)<=2*L.length+1:=a1;refine ⟨by rw [Bp];omega,?_,fun h=>?_⟩
       · unfold dN aJ aM
         split
         · split <;> exact a2
         · exact a2
       · obtain ⟨c1,c2,c3⟩:=Bq h
         have:=gC c2;rw [c3];exact ⟨by show (pr L f .sum (aJ s)).2.pos+1<=_;omega,(a3 c1).2⟩
     rw [if_neg h40];exact Ew 2 (by decide) hp (by omega)
 | f + 1, .prod, s, hn, hb, hp, hc => by
   simp only [bJ] at hn;rw [pr];have q1:=dM L f .fac s;have T:=kN L f .fac s (by simp only [bJ];omega) hb hp hc;by_cases hk:(pr L f .fac s).2.bad=0
   · exact (kN L f _ _ (by simp only [bJ];omega) hk (T.2.2 hk).1 (T.2.2 hk).2).mono q1
   · rw [cZ L f _ _ hk];exact T
 | f + 1, .prodL n, s, hn, hb, hp, hc => by
   simp only [bJ] at hn;rw [pr];by_cases hcnd:(s.bad == 0 && isM L s.pos)=true
   · rw [if_pos hcnd]
     simp only [Bool.and_eq_true] at hcnd;have hlt:=pA hcnd.2;obtain ⟨t1,t2,t3⟩:=wV hb hlt hc;have T:EU L.length s.pos (aH s):=⟨by omega,by omega,t3⟩;by_cases hk:(aH s).bad=0
     · have T2:=kN L f .fac (aH s) (by rw [t1];simp only [bJ];omega) hk (t3 hk).1 (t3 hk).2
       have q1:=dM L f .fac (aH s);rw [t1] at q1;by_cases hk2:(pr L f .fac (aH s)).2.bad=0
       · exact (kN L f _ _ (by simp only [bJ];omega) hk2 (T2.2.2 hk2).1 (T2.2.2 hk2).2).mono (by omega)
       · rw [cZ L f _ _ hk2];exact T2.mono (by omega)
     · have e1:=cZ L f .fac _ hk
       rw [cZ L f (.prodL _) _ (by rw [e1];exact hk),e1];exact T
   · rw [if_neg hcnd]
     exact ⟨by show s.pos+s.pos<=_;omega,by show s.cnt<=33;omega,fun _=>⟨hp,hc⟩⟩
 | f + 1, .sum, s, hn, hb, hp, hc => by
   simp only [bJ] at hn;rw [pr];have q1:=dM L f .prod s;have T:=kN L f .prod s (by simp only [bJ];omega) hb hp hc;by_cases hk:(pr L f .prod s).2.bad=0
   · exact (kN L f _ _ (by simp only [bJ];omega) hk (T.2.2 hk).1 (T.2.2 hk).2).mono q1
   · rw [cZ L f _ _ hk];exact T
 | f + 1, .sumL n, s, hn, hb, hp, hc => by
   simp only [bJ] at hn;rw [pr];by_cases hcnd:(s.bad == 0 && isA L s.pos)=true
   · rw [if_pos hcnd]
     simp only [Bool.and_eq_true] at hcnd;have hlt:=pB hcnd.2;obtain ⟨t1,t2,t3⟩:=wV hb hlt hc;have T:EU L.length s.pos (aH s):=⟨by omega,by omega,t3⟩;by_cases hk:(aH s).bad=0
     · have T2:=kN L f .prod (aH s) (by rw [t1];simp only [bJ];omega) hk (t3 hk).1 (t3 hk).2
       have q1:=dM L f .prod (aH s);rw [t1] at q1;by_cases hk2:(pr L f .prod (aH s)).2.bad=0
       · exact (kN L f _ _ (by simp only [bJ];omega) hk2 (T2.2.2 hk2).1 (T2.2.2 hk2).2).mono (by omega)
       · rw [cZ L f _ _ hk2];exact T2.mono (by omega)
     · have e1:=cZ L f .prod _ hk
       rw [cZ L f (.sumL _) _ (by rw [e1];exact hk),e1];exact T
   · rw [if_neg hcnd]
     exact ⟨by show s.pos+s.pos<=_;omega,by show s.cnt<=33;omega,fun _=>⟨hp,hc⟩⟩
theorem lR (L:List Tk) (md:Md) (s:RS) (hb:s.bad=0) (hp:s.pos<=L.length) (hc:s.cnt<=32):EU L.length s.pos (pE L md s).2:=by
 refine kN L _ md s ?_ hb hp hc;cases md <;> simp [bJ]
theorem nI (L:List Tk) (md:Md) (s:RS) (h:¬ s.bad=0):(pE L md s).2=s:=cZ L _ md s h
theorem DW {L:List Tk} (hL:∀ t∈L,cK t) {p q:Nat} {t:TN} (h:ofL L p=.ok t q):aT t=0/\aR t<=32:=by
 unfold ofL at h;split at h
 · rename_i hb
   cases h;obtain ⟨_,g1,g2,g3⟩:=gX L hL (4*(L.length-p)+4) .sum ⟨p,0,0,0⟩ (by simp only [bJ];omega) trivial (Nat.zero_le _) hb
   have hs:aR (pE L .sum ⟨p,0,0,0⟩).1<=32:=by
    simp only [Md.hand] at g2;have:(pE L .sum ⟨p,0,0,0⟩).2.cnt+0=0+aR (pE L .sum ⟨p,0,0,0⟩).1:=g2;have:(pE L .sum ⟨p,0,0,0⟩).2.cnt<=32:=g3;omega
   refine ⟨?_,hs⟩;unfold aT;rw [if_neg (by rw [Cr];omega)];exact g1
 · cases h
end
section
open Go.RowKit
theorem e8 (c:UInt8) (w:World):Calls Tryz.prog 119 #[.int .u8 c.toNat] w fun e w'=>e=.returned (.bool (bE c))/\w=w':=by
 obtain ⟨x,hx⟩:∃ x:Int,(c.toNat:Int)=x:=⟨_,rfl⟩;unfold bE;rw [hx];by_cases h:97<=x
 · go_enter Tryz.func119,Tryz.ntmps119
   go_wp2
   go_ret;exact ⟨eA (a:=decide (x<=122)) (by rw [decide_eq_true h];rfl),rfl⟩
 · go_enter Tryz.func119,Tryz.ntmps119
   go_wp2
   go_ret;exact ⟨eA (a:=false) (by rw [decide_eq_false (by omega)];rfl),rfl⟩
theorem iQ (c:UInt8) (w:World):Calls Tryz.prog 120 #[.int .u8 c.toNat] w fun e w'=>e=.returned (.bool (aV c))/\w=w':=by
 obtain ⟨x,hx⟩:∃ x:Int,(c.toNat:Int)=x:=⟨_,rfl⟩;unfold aV;rw [hx];by_cases h:48<=x
 · go_enter Tryz.func120,Tryz.ntmps120
   go_wp2
   go_ret;exact ⟨eA (a:=decide (x<=57)) (by rw [decide_eq_true h];rfl),rfl⟩
 · go_enter Tryz.func120,Tryz.ntmps120
   go_wp2
   go_ret;exact ⟨eA (a:=false) (by rw [decide_eq_false (by omega)];rfl),rfl⟩
def sgL:List UInt8:=[40,41,44,61,60,62,43,45,42,47,37]
theorem G9 (c:UInt8):cV c=sgL.contains c:=by
 unfold cV sgL;simp only [List.contains_cons,List.contains_nil,Bool.or_false,Bool.or_assoc]
theorem Fh {c:UInt8} (h:∀ j (hj:j<11),¬ sgL[j]'hj=c):cV c=false:=by
 rw [G9];cases e:sgL.contains c with
 | false=>rfl
 | true =>
   rw [List.contains_iff_mem] at e;obtain ⟨j,hj,hc⟩:=List.mem_iff_getElem.1 e;exact absurd hc (h j hj)
theorem KC {c:UInt8} {k:Nat} (hk:k<11) (h:sgL[k]'hk=c):cV c=true:=by
 rw [G9,List.contains_iff_mem];exact List.mem_iff_getElem.2 ⟨k,hk,h⟩
theorem eL {B:Nat} {a w:World} (h:Below B a w) (n:Nat):Below B a (w.drewN n):=⟨h.os,h.tape,h.output,h.size,h.block⟩
theorem pT {k:Nat} (hk:k<11):(⟨#[40,41,44,61,60,62,43,45,42,47,37]⟩:ByteArray)[k]'hk=sgL[k]'hk:=rfl
theorem NN (s:ByteArray) (h1:1<=s.size) (hm:s.size<=281474976710656) (w:World) {c:UInt8} (hc:s[0]'(by omega)=c) (h2:s.size=1):Calls Tryz.prog 122 #[.string s] w fun e w'=>e=.returned (.string (s.extract 0 (if cV c=true then 1 else 0)))/\Below w.heap.size w w':=by
 obtain ⟨R,hR⟩:∃ R,s.extract 0 (if cV c=true then 1 else 0)=R:=⟨_,rfl⟩;rw [hR];have H:=aA hR;clear hR;have h0:(0:Int)<s.size:=by omega
 go_enter Tryz.func122,Tryz.ntmps122
 go_wp2_with fail
 go_loopw [4] (fun i wr=>∃ k:Nat,k<=11/\i=.int .i64 k/\Hid (∀ j (hj:j<11),j<k->¬ sgL[j]'hj=c)/\Hid (Below w.heap.size w wr)) (fun i _=>11-(intOf i).toNat)
 case atStart=>exact ⟨0,by omega,rfl,aA (fun j _ h=>by omega),aA (Below.refl _ _)⟩
 case round =>
  obtain ⟨k,hk,rfl,hok,hB⟩:=hrel;by_cases hlt:k<11
  · have a1:(k:Int)<11:=by omega
    have a2:(0:Int)<=(k:Int):=by omega
    have a3:((k:Int)).toNat=k:=by omega
    by_cases hh:sgL[k]'hlt=c
    · have q:((c.toNat:Int) == (((⟨#[40,41,44,61,60,62,43,45,42,47,37]⟩:ByteArray)[k]'hlt).toNat:Int))=true:=by rw [pT hlt,hh];exact beq_self_eq_true _
      have T:=aA (show s.extract 0 1=R by rw [<- H.out,if_pos (KC hlt hh)]);clear hh;go_wp2_with (go_quiet (fail))
      go_ret;rw [T.out];exact ⟨rfl,eL hB.out _⟩
    · have q:((c.toNat:Int) == (((⟨#[40,41,44,61,60,62,43,45,42,47,37]⟩:ByteArray)[k]'hlt).toNat:Int))=false:=by
       rw [pT hlt,beq_eq_false_iff_ne];intro e;exact hh (UInt8.toNat_inj.1 (by omega)).symm
      have hok1:=aA (show ∀ j (hj:j<11),j<k+1->¬ sgL[j]'hj=c from fun j hj hjk=>by
       by_cases e:j=k
       · subst e;exact hh
       · exact hok.out j hj (by omega))
      clear hh;go_wp2_with (go_quiet (fail))
      go_roundw
      case rel=>exact ⟨k+1,by omega,by go_num,hok1,aA (eL hB.out _)⟩
      case measure=>simp [intOf];omega
  · obtain rfl:k=11:=by omega
    have T:=aA (show (⟨#[]⟩:ByteArray)=R by
     rw [<- H.out,if_neg (by rw [Fh (fun j hj=>hok.out j hj hj)];decide)];apply dI
     rw [fD];rfl)
    go_wp2_with fail
    go_ret;rw [T.out];exact ⟨rfl,hB.out⟩
theorem NL (s:ByteArray) (h1:1<=s.size) (hm:s.size<=281474976710656) (w:World) {c:UInt8} (hc:s[0]'(by omega)=c) (h2:2<=s.size) (e1:((s[1].toNat:Int) == 61)=false):Calls Tryz.prog 122 #[.string s] w fun e w'=>e=.returned (.string (s.extract 0 (if cV c=true then 1 else 0)))/\Below w.heap.size w w':=by
 obtain ⟨R,hR⟩:∃ R,s.extract 0 (if cV c=true then 1 else 0)=R:=⟨_,rfl⟩;rw [hR];have H:=aA hR;clear hR;have h0:(0:Int)<s.size:=by omega
 go_enter Tryz.func122,Tryz.ntmps122
 go_wp2_with fail
 go_loopw [4] (fun i wr=>∃ k:Nat,k<=11/\i=.int .i64 k/\Hid (∀ j (hj:j<11),j<k->¬ sgL[j]'hj=c)/\Hid (Below w.heap.size w wr)) (fun i _=>11-(intOf i).toNat)
 case atStart=>exact ⟨0,by omega,rfl,aA (fun j _ h=>by omega),aA (Below.refl _ _)⟩
 case round =>
  obtain ⟨k,hk,rfl,hok,hB⟩:=hrel;by_cases hlt:k<11
  · have a1:(k:Int)<11:=by omega
    have a2:(0:Int)<=(k:Int):=by omega
    have a3:((k:Int)).toNat=k:=by omega
    by_cases hh:sgL[k]'hlt=c
    · have q:((c.toNat:Int) == (((⟨#[40,41,44,61,60,62,43,45,42,47,37]⟩:ByteArray)[k]'hlt).toNat:Int))=true:=by rw [pT hlt,hh];exact beq_self_eq_true _
      have T:=aA (show s.extract 0 1=R by rw [<- H.out,if_pos (KC hlt hh)]);clear hh;go_wp2_with (go_quiet (fail))
      go_ret;rw [T.out];exact ⟨rfl,eL hB.out _⟩
    · have q:((c.toNat:Int) == (((⟨#[40,41,44,61,60,62,43,45,42,47,37]⟩:ByteArray)[k]'hlt).toNat:Int))=false:=by
       rw [pT hlt,beq_eq_false_iff_ne];intro e;exact hh (UInt8.toNat_inj.1 (by omega)).symm
      have hok1:=aA (show ∀ j (hj:j<11),j<k+1->¬ sgL[j]'hj=c from fun j hj hjk=>by
       by_cases e:j=k
       · subst e;exact hh
       · exact hok.out j hj (by omega))
      clear hh;go_wp2_with (go_quiet (fail))
      go_roundw
      case rel=>exact ⟨k+1,by omega,by go_num,hok1,aA (eL hB.out _)⟩
      case measure=>simp [intOf];omega
  · obtain rfl:k=11:=by omega
    have T:=aA (show (⟨#[]⟩:ByteArray)=R by
     rw [<- H.out,if_neg (by rw [Fh (fun j hj=>hok.out j hj hj)];decide)];apply dI
     rw [fD];rfl)
    go_wp2_with fail
    go_ret;rw [T.out];exact ⟨rfl,hB.out⟩
theorem NK (s:ByteArray) (h1:1<=s.size) (hm:s.size<=281474976710656) (w:World) {c:UInt8} (hc:s[0]'(by omega)=c) (h2:2<=s.size) (e1:((s[1].toNat:Int) == 61)=true) (e2:((c.toNat:Int) == 33)=false) (e3:((c.toNat:Int) == 60)=false) (e4:((c.toNat:Int) == 62)=false):Calls Tryz.prog 122 #[.string s] w fun e w'=>e=.returned (.string (s.extract 0 (if cV c=true then 1 else 0)))/\Below w.heap.size w w':=by
 obtain ⟨R,hR⟩:∃ R,s.extract 0 (if cV c=true then 1 else 0)=R:=⟨_,rfl⟩;rw [hR];have H:=aA hR;clear hR;have h0:(0:Int)<s.size:=by omega
 go_enter Tryz.func122,Tryz.ntmps122
 go_wp2_with fail
 go_loopw [4] (fun i wr=>∃ k:Nat,k<=11/\i=.int .i64 k/\Hid (∀ j (hj:j<11),j<k->¬ sgL[j]'hj=c)/\Hid (Below w.heap.size w wr)) (fun i _=>11-(intOf i).toNat)
 case atStart=>exact ⟨0,by omega,rfl,aA (fun j _ h=>by omega),aA (Below.refl _ _)⟩
 case round =>
  obtain ⟨k,hk,rfl,hok,hB⟩:=hrel;by_cases hlt:k<11
  · have a1:(k:Int)<11:=by omega
    have a2:(0:Int)<=(k:Int):=by omega
    have a3:((k:Int)).toNat=k:=by omega
    by_cases hh:sgL[k]'hlt=c
    · have q:((c.toNat:Int) == (((⟨#[40,41,44,61,60,62,43,45,42,47,37]⟩:ByteArray)[k]'hlt).toNat:Int))=true:=by rw [pT hlt,hh];exact beq_self_eq_true _
      have T:=aA (show s.extract 0 1=R by rw [<- H.out,if_pos (KC hlt hh)]);clear hh;go_wp2_with (go_quiet (fail))
      go_ret;rw [T.out];exact ⟨rfl,eL hB.out _⟩
    · have q:((c.toNat:Int) == (((⟨#[40,41,44,61,60,62,43,45,42,47,37]⟩:ByteArray)[k]'hlt).toNat:Int))=false:=by
       rw [pT hlt,beq_eq_false_iff_ne];intro e;exact hh (UInt8.toNat_inj.1 (by omega)).symm
      have hok1:=aA (show ∀ j (hj:j<11),j<k+1->¬ sgL[j]'hj=c from fun j hj hjk=>by
       by_cases e:j=k
       · subst e;exact hh
       · exact hok.out j hj (by omega))
      clear hh;go_wp2_with (go_quiet (fail))
      go_roundw
      case rel=>exact ⟨k+1,by omega,by go_num,hok1,aA (eL hB.out _)⟩
      case measure=>simp [intOf];omega
  · obtain rfl:k=11:=by omega
    have T:=aA (show (⟨#[]⟩:ByteArray)=R by
     rw [<- H.out,if_neg (by rw [Fh (fun j hj=>hok.out j hj hj)];decide)];apply dI
     rw [fD];rfl)
    go_wp2_with fail
    go_ret;rw [T.out];exact ⟨rfl,hB.out⟩
theorem NQ (s:ByteArray) (_hm:s.size<=281474976710656) (w:World) (h2:2<=s.size) (e1:((s[1].toNat:Int) == 61)=true) (e2:((s[0].toNat:Int) == 33)=true):Calls Tryz.prog 122 #[.string s] w fun e w'=>e=.returned (.string (s.extract 0 2))/\Below w.heap.size w w':=by
 go_enter Tryz.func122,Tryz.ntmps122
 go_wp2_with fail
 go_ret;exact ⟨rfl,Below.refl _ _⟩
theorem NP (s:ByteArray) (_hm:s.size<=281474976710656) (w:World) (h2:2<=s.size) (e1:((s[1].toNat:Int) == 61)=true) (e2:((s[0].toNat:Int) == 33)=false) (e3:((s[0].toNat:Int) == 60)=true):Calls Tryz.prog 122 #[.string s] w fun e w'=>e=.returned (.string (s.extract 0 2))/\Below w.heap.size w w':=by
 go_enter Tryz.func122,Tryz.ntmps122
 go_wp2_with fail
 go_ret;exact ⟨rfl,Below.refl _ _⟩
theorem NO (s:ByteArray) (_hm:s.size<=281474976710656) (w:World) (h2:2<=s.size) (e1:((s[1].toNat:Int) == 61)=true) (e2:((s[0].toNat:Int) == 33)=false) (e3:((s[0].toNat:Int) == 60)=false) (e4:((s[0].toNat:Int) == 62)=true):Calls Tryz.prog 122 #[.string s] w fun e w'=>e=.returned (.string (s.extract 0 2))/\Below w.heap.size w w':=by
 go_enter Tryz.func122,Tryz.ntmps122
 go_wp2_with fail
 go_ret;exact ⟨rfl,Below.refl _ _⟩
theorem f9 {c:UInt8} {k:Nat} (hk:k<256) (h:¬ c=UInt8.ofNat k):((c.toNat:Int) == (k:Int))=false:=by
 rw [Cv c k hk];exact beq_eq_false_iff_ne.2 h
theorem nW {c:UInt8} {k:Nat} (hk:k<256) (h:c=UInt8.ofNat k):((c.toNat:Int) == (k:Int))=true:=by
 rw [Cv c k hk,h];exact beq_self_eq_true _
theorem Iz (s:ByteArray) (h1:1<=s.size) (hm:s.size<=281474976710656) (w:World):Calls Tryz.prog 122 #[.string s] w fun e w'=>e=.returned (.string (s.extract 0 (kK s.data.toList)))/\Below w.heap.size w w':=by
 by_cases h2:s.size=1
 · have E:kK s.data.toList=if cV (s[0]'(by omega))=true then 1 else 0:=by rw [uO h2];rfl
   rw [E];exact NN s h1 hm w rfl h2
 · obtain ⟨r,hr⟩:=Bt (s:=s) (by omega)
   have E:kK s.data.toList=if cU (s[0]'(by omega)) (s[1]'(by omega))=true then 2 else if cV (s[0]'(by omega))=true then 1 else 0:=by rw [hr];rfl
   rw [E];by_cases hd:s[1]'(by omega)=61
   · have e1:=nW (c:=s[1]'(by omega)) (k:=61) (by decide) hd
     by_cases a1:s[0]'(by omega)=33
     · rw [if_pos (by unfold cU;rw [hd,a1];decide)]
       exact NQ s hm w (by omega) e1 (nW (k:=33) (by decide) a1)
     by_cases a2:s[0]'(by omega)=60
     · rw [if_pos (by unfold cU;rw [hd,a2];decide)]
       exact NP s hm w (by omega) e1 (f9 (k:=33) (by decide) a1) (nW (k:=60) (by decide) a2)
     by_cases a3:s[0]'(by omega)=62
     · rw [if_pos (by unfold cU;rw [hd,a3];decide)]
       exact NO s hm w (by omega) e1 (f9 (k:=33) (by decide) a1) (f9 (k:=60) (by decide) a2) (nW (k:=62) (by decide) a3)
     rw [if_neg (by unfold cU;rw [beq_eq_false_iff_ne.2 a1,beq_eq_false_iff_ne.2 a2,beq_eq_false_iff_ne.2 a3];simp)];exact NK s h1 hm w rfl (by omega) e1 (f9 (k:=33) (by decide) a1) (f9 (k:=60) (by decide) a2) (f9 (k:=62) (by decide) a3)
   · rw [if_neg (by unfold cU;rw [beq_eq_false_iff_ne.2 hd,Bool.false_and];decide)]
     exact NL s h1 hm w rfl (by omega) (f9 (k:=61) (by decide) hd)
end
section
open Go.RowKit
def Cz (lim:Nat) (w:World) (a:Option Addr) (ts:List Tk):Prop :=
 ts=[]\/∃ b off,a=some ⟨b,off,none⟩/\b<lim/\∀ j (h:j<ts.length),w.cell? ⟨b,off+j*4,none⟩=some (.int .i64 ts[j].kind)/\w.cell? ⟨b,off+j*4+1,none⟩=some (.string ⟨ts[j].text.toArray⟩) /\
  w.cell? ⟨b,off+j*4+2,none⟩=some (.int .i64 ts[j].num)/\w.cell? ⟨b,off+j*4+3,none⟩=some (.int .i64 ts[j].place)
theorem Cz.kept {lim:Nat} {S:Nat->Prop} {w w':World} {a:Option Addr} {ts:List Tk} (h:Cz lim w a ts) (hk:aD S w w') (hS:∀ k,S k->lim<=k):Cz lim w' a ts:=by
 rcases h with h | ⟨b,off,rfl,hlt,hc⟩
 · exact .inl h
 · have hb:¬ S b:=fun hs=>by have:=hS b hs;omega
   refine .inr ⟨b,off,rfl,hlt,fun j hj=>?_⟩;obtain ⟨c0,c1,c2,c3⟩:=hc j hj;exact ⟨hk.cell c0 hb,hk.cell c1 hb,hk.cell c2 hb,hk.cell c3 hb⟩
theorem vZ {w:World} {a:Option Addr} {ts:List Tk} (h:fI w a ts):Cz w.heap.size w a ts:=h.imp id fun ⟨b,off,e,hlt,hc⟩=>⟨b,off,e,hlt,hc⟩
def lQ (n:Nat) (s:RS):Prop:=(s.bad=0->s.pos<=n)/\s.pos<=2*n+1/\s.cnt<=33/\n<=100000
structure PW (ts:List Tk) (rb:Nat) (a:Option Addr) (c:Nat) (s:RS) (w:World):Prop where
 r:IsR w rb a ts.length c s
 t:Cz rb w a ts
 f:lQ ts.length s
theorem PW.kept {ts:List Tk} {rb:Nat} {a:Option Addr} {c:Nat} {s:RS} {w w':World} (h:PW ts rb a c s w) (hk:aD (fun _=>False) w w'):PW ts rb a c s w' :=
 ⟨hk.heap h.r (fun h=>h),h.t.kept hk (fun _ h=>h.elim),h.f⟩
theorem PW.below {ts:List Tk} {rb:Nat} {a:Option Addr} {c:Nat} {s:RS} {w w':World} (h:PW ts rb a c s w) (hb:Below w.heap.size w w'):PW ts rb a c s w':=h.kept (aE hb _)
theorem Sa {w:World} {b:Nat} {v0 v1 v2 v3 v4:Value} {t:TypeId} (h:w.heap[b]? = some (.cells #[v0,v1,v2,v3,v4] t (0,0))) (o:Nat) (v:Value) :
 (w.setCell ⟨b,o,none⟩ v).heap[b]? = some (.cells ((#[v0,v1,v2,v3,v4]:Array Value).setIfInBounds o v) t (0,0)):=heap_setCell_same w b o _ t v h
theorem PW.set {ts:List Tk} {rb:Nat} {a:Option Addr} {c:Nat} {s s':RS} {w:World} {o:Nat} {v:Value} (h:PW ts rb a c s w) (hf:lQ ts.length s')
 (hv:(#[.slice a ts.length c,.int .i64 s.pos,.int .i64 s.cnt,.int .i64 s.bad,.int .i64 s.whr]:Array Value).setIfInBounds o v=#[.slice a ts.length c,.int .i64 s'.pos,.int .i64 s'.cnt,.int .i64 s'.bad,.int .i64 s'.whr]):PW ts rb a c s' (w.setCell ⟨rb,o,none⟩ v):=by
 refine ⟨?_,h.t.kept ((aD.refl (· = rb) w).setCell (p:=⟨rb,o,none⟩) (.inl rfl) v) (fun k hk=>by omega),hf⟩;have:=Sa h.r o v;rw [hv] at this;exact this
theorem cS {rb:Nat} {w0 w:World} (h:aD (· = rb) w0 w) (o:Nat) (v:Value):aD (· = rb) w0 (w.setCell ⟨rb,o,none⟩ v):=h.setCell (p:=⟨rb,o,none⟩) (.inl rfl) v
theorem dB (ts:List Tk) (rb:Nat) (a:Option Addr) (c:Nat) (s:RS) (e:Int) (he:¬ e=0) (w:World) (h:PW ts rb a c s w) :
 Calls Tryz.prog 60 #[.pointer (some ⟨rb,0,none⟩),.int .i64 e] w fun x w'=>x=.returned (.tuple #[])/\PW ts rb a c (aM e s) w'/\aD (· = rb) w w':=by
 obtain ⟨⟨c0,c1,c2,c3,c4⟩,f1,f2,f3,f4⟩:=h.r.cells;have H:=aA h;by_cases hb:s.bad=0
 · have q:((s.bad:Int) == 0)=true:=by rw [hb];rfl
   have F:aM e s=⟨s.pos,s.cnt,e,s.pos⟩:=by unfold aM;rw [if_pos hb]
   rw [F];clear hb h;go_enter Tryz.func60,Tryz.ntmps60
   go_wp2_with fail
   go_end0
   have H1:PW ts rb a c ⟨s.pos,s.cnt,e,s.whr⟩ (w.setCell ⟨rb,3,none⟩ (.int .i64 e)):=H.out.set ⟨fun x=>absurd x he,H.out.f.2⟩ rfl;exact ⟨rfl,H1.set ⟨fun x=>absurd x he,H.out.f.2⟩ rfl,cS (cS (aD.refl _ _) 3 _) 4 _⟩
 · have q:((s.bad:Int) == 0)=false:=beq_eq_false_iff_ne.2 hb
   have F:aM e s=s:=by unfold aM;rw [if_neg hb]
   rw [F];clear hb h;go_enter Tryz.func60,Tryz.ntmps60
   go_wp2_with fail
   go_end0
   exact ⟨rfl,H.out,aD.refl _ _⟩
theorem Ie {n:Nat} {s:RS} (h:lQ n s) (hlt:s.bad=0->s.pos<n/\s.cnt<=32) (hp:s.pos+1<=2*n+1):lQ n (aH s):=by
 obtain ⟨h1,h2,h3,h4⟩:=h;unfold aH;by_cases hb:s.bad=0
 · rw [if_pos hb]
   have:=hlt hb;have:=h1 hb;by_cases h32:32<s.cnt+1
   · rw [if_pos h32]
     exact ⟨fun x=>absurd x (by show ¬ (4:Int)=0;decide),hp,by show s.cnt+1<=33;omega,h4⟩
   · rw [if_neg h32]
     exact ⟨fun _=>by show s.pos+1<=n;omega,hp,by show s.cnt+1<=33;omega,h4⟩
 · rw [if_neg hb]
   exact ⟨fun x=>absurd x hb,hp,h3,h4⟩
theorem jA (ts:List Tk) (rb:Nat) (a:Option Addr) (c:Nat) (s:RS) (w:World) (h:PW ts rb a c s w) (hlt:s.bad=0->s.pos<ts.length/\s.cnt<=32) (hp:s.pos+1<=2*ts.length+1) :
 Calls Tryz.prog 246 #[.pointer (some ⟨rb,0,none⟩)] w fun x w'=>x=.returned (.tuple #[])/\PW ts rb a c (aH s) w'/\aD (· = rb) w w':=by
 have HF:=Ie h.f hlt hp;obtain ⟨⟨c0,c1,c2,c3,c4⟩,f1,f2,f3,f4⟩:=h.r.cells;have H:=aA h;have hcnt:=h.f.2.2.1;have hpos:=h.f.2.1;have hn:=h.f.2.2.2;clear h;by_cases hb:s.bad=0
 · have q:((s.bad:Int) == 0)=true:=by rw [hb];rfl
   obtain ⟨hpn,hc32⟩:=hlt hb
   have H1:=aA (show PW ts rb a c ⟨s.pos,s.cnt+1,s.bad,s.whr⟩ (w.setCell ⟨rb,2,none⟩ (.int .i64 ((s.cnt:Int)+1))) from
    H.out.set ⟨fun _=>by show s.pos<=_;omega,hpos,by show s.cnt+1<=33;omega,hn⟩ rfl)
   have K1:=aA (cS (aD.refl (· = rb) w) 2 (.int .i64 ((s.cnt:Int)+1)));by_cases h32:32<s.cnt+1
   · have F:aH s=⟨s.pos+1,s.cnt+1,4,s.pos⟩:=by unfold aH;rw [if_pos hb,if_pos h32]
     have F2:aM 4 ⟨s.pos,s.cnt+1,s.bad,s.whr⟩=⟨s.pos,s.cnt+1,4,s.pos⟩:=by unfold aM;rw [if_pos hb]
     have C:=aA (dB ts rb a c ⟨s.pos,s.cnt+1,s.bad,s.whr⟩ 4 (by decide) _ H1.out);rw [F2] at C;rw [F] at HF |-
     have hq:(32:Int)<(s.cnt:Int)+1:=by omega
     clear hb hlt F F2;go_enter Tryz.func246,Tryz.ntmps246
     go_wp2_with fail
     refine C.out.mono ?_;rintro e w1 ⟨rfl,h1,hk⟩;have H2:=aA h1;have K2:=aA (show aD (· = rb) w w1 from K1.out.trans hk (fun i hi _=>hi));obtain ⟨⟨d0,d1,d2,d3,d4⟩,g1,g2,g3,g4⟩:=h1.r.cells;clear h1 hk C c0 c1 c2 c3 c4 f1 f2 f3 f4;go_wp2_with fail
     go_end0
     exact ⟨rfl,H2.out.set HF rfl,cS K2.out 1 _⟩
   · have F:aH s=⟨s.pos+1,s.cnt+1,0,s.whr⟩:=by unfold aH;rw [if_pos hb,if_neg h32]
     rw [F] at HF |-
     have hq:¬ (32:Int)<(s.cnt:Int)+1:=by omega
     have hs0:=aA hb;clear hb hlt F;go_enter Tryz.func246,Tryz.ntmps246
     go_wp2_with fail
     go_end0
     have H2:PW ts rb a c ⟨s.pos+1,s.cnt+1,0,s.whr⟩ ((w.setCell ⟨rb,2,none⟩ (.int .i64 ((s.cnt:Int)+1))).setCell ⟨rb,1,none⟩ (.int .i64 ((s.pos:Int)+1))) :=
      H1.out.set HF (by rw [<- hs0.out];rfl)
     exact ⟨rfl,H2,cS K1.out 1 _⟩
 · have q:((s.bad:Int) == 0)=false:=beq_eq_false_iff_ne.2 hb
   have F:aH s=⟨s.pos+1,s.cnt,s.bad,s.whr⟩:=by unfold aH;rw [if_neg hb]
   rw [F] at HF |-
   clear hb hlt F;go_enter Tryz.func246,Tryz.ntmps246
   go_wp2_with fail
   go_end0
   exact ⟨rfl,H.out.set HF rfl,cS (aD.refl _ _) 1 _⟩
theorem aY {ts:List Tk} {rb:Nat} {a:Option Addr} {w:World} (h:Cz rb w a ts) {p:Nat} (hp:p<ts.length):∃ b off,a=some ⟨b,off,none⟩/\b<rb/\w.cell? ⟨b,off+p*4,none⟩=some (.int .i64 ts[p].kind)/\w.cell? ⟨b,off+p*4+1,none⟩=some (.string ⟨ts[p].text.toArray⟩) /\
 w.cell? ⟨b,off+p*4+2,none⟩=some (.int .i64 ts[p].num)/\w.cell? ⟨b,off+p*4+3,none⟩=some (.int .i64 ts[p].place):=by
 rcases h with h | ⟨b,off,e,hlt,hc⟩
 · rw [h] at hp;simp at hp
 · exact ⟨b,off,e,hlt,hc p hp⟩
theorem OS {ts:List Tk} {x:List UInt8} {p:Nat} (hp:p<ts.length):isS ts x p=(ts[p].kind == 3 && ts[p].text == x):=by
 unfold isS;rw [List.getElem?_eq_getElem hp]
theorem nS {S:Nat->Prop} {w w':World} (h:aD S w w') (n:Nat):aD S w (w'.drewN n):=h.drewN n
theorem F8 (ts:List Tk) (rb:Nat) (a:Option Addr) (c:Nat) (s:RS) (x:ByteArray) (w:World) (h:PW ts rb a c s w) :
 Calls Tryz.prog 123 #[.pointer (some ⟨rb,0,none⟩),.string x] w fun e w'=>e=.returned (.bool (isS ts x.data.toList s.pos))/\aD (fun _=>False) w w':=by
 obtain ⟨⟨c0,c1,c2,c3,c4⟩,f1,f2,f3,f4⟩:=h.r.cells;have hpos:=h.f.2.1;have hn:=h.f.2.2.2;have K:=aA (aD.refl (fun _=>False) w);by_cases hlt:s.pos<ts.length
 · obtain ⟨b,off,ha, -,p0,p1, -, -⟩:=aY h.t hlt
   subst ha;rw [OS hlt];obtain ⟨k,hk⟩:∃ k,ts[s.pos].kind=k:=⟨_,rfl⟩;obtain ⟨X,hX⟩:∃ X:ByteArray,⟨ts[s.pos].text.toArray⟩=X:=⟨_,rfl⟩;have hXl:ts[s.pos].text=X.data.toList:=by rw [<- hX]
   rw [hk] at p0 |-
   rw [hX] at p1;rw [hXl, <- Lib.toList_data, <- Lib.toList_data];have a1:(s.pos:Int)<(ts.length:Int):=by omega
   have a2:(0:Int)<=(s.pos:Int):=by omega
   have a3:((s.pos:Int)).toNat=s.pos:=by omega
   clear hk hX hXl h;cases hk3:(k == 3) with
   | true =>
     have z:(k == 3)=true:=hk3;rw [Bool.true_and];clear hk3;go_enter Tryz.func123,Tryz.ntmps123
     go_wp2_with (go_quiet (fail))
     go_ret;exact ⟨rfl,K.out.drewN _⟩
   | false =>
     have z:(k == 3)=false:=hk3;rw [Bool.false_and];clear hk3;go_enter Tryz.func123,Tryz.ntmps123
     go_wp2_with (go_quiet (fail))
     go_ret;exact ⟨rfl,K.out.drewN _⟩
 · rw [lK (by omega)]
   have a1:decide (s.pos<ts.length)=false:=decide_eq_false hlt;have a2:decide ((s.pos:Int)<(ts.length:Int))=false:=decide_eq_false (by omega);clear h;go_enter Tryz.func123,Tryz.ntmps123
   go_wp2_with (go_quiet (fail))
   go_ret;exact ⟨rfl,K.out.drewN _⟩
end
section
open Go.RowKit
def PE (ts:List Tk) (rb:Nat) (a:Option Addr) (c:Nat) (q:TN×RS) (w0:World) (e:Ending) (w':World):Prop :=
 ∃ ad cc,e=.returned (cF q.1.op q.1.nm q.1.n ad q.1.ks.len cc)/\PW ts rb a c q.2 w'/\aD (· = rb) w0 w'/\a8 w0.heap.size w' ad q.1.ks
abbrev ndO (o m:ByteArray) (n:Int) (a:Option Addr) (l c:Nat):Obj:=.cells #[.string o,.string m,.int .i64 n,.slice a l c] 79
theorem PE.zero {ts:List Tk} {rb:Nat} {a:Option Addr} {c:Nat} {s:RS} {w0 w':World} (h:PW ts rb a c s w') (hk:aD (· = rb) w0 w'):PE ts rb a c (aC,s) w0 (.returned (cF ⟨#[]⟩ ⟨#[]⟩ 0 none 0 0)) w' :=
 ⟨none,0,rfl,h,hk,.inl rfl⟩
abbrev kL (w:World) (B:Nat) (o m:ByteArray) (n:Int) (a:Option Addr) (l c:Nat):World :=
 (((w.setCell ⟨B,0,none⟩ (.string o)).setCell ⟨B,1,none⟩ (.string m)).setCell ⟨B,2,none⟩ (.int .i64 n)).setCell ⟨B,3,none⟩ (.slice a l c)
theorem eX (w:World) (B:Nat) (o m:ByteArray) (n:Int) (a:Option Addr) (l c:Nat):aD (· = B) w (kL w B o m n a l c) :=
 ((((aD.refl (· = B) w).setCell (p:=⟨B,0,none⟩) (.inl rfl) _).setCell (p:=⟨B,1,none⟩) (.inl rfl) _).setCell (p:=⟨B,2,none⟩) (.inl rfl) _).setCell (p:=⟨B,3,none⟩) (.inl rfl) _
theorem PW.other {ts:List Tk} {rb B:Nat} {a:Option Addr} {c:Nat} {s:RS} {w w':World} (h:PW ts rb a c s w) (hk:aD (· = B) w w') (hB:rb<B):PW ts rb a c s w' :=
 ⟨hk.heap h.r (fun h=>by omega),h.t.kept hk (fun k hk=>by omega),h.f⟩
theorem PE.put {ts:List Tk} {rb:Nat} {a:Option Addr} {c:Nat} {q:TN×RS} {w0 w1:World} {ad:Option Addr} {cc:Nat} (hrb:rb<w0.heap.size) (h:PW ts rb a c q.2 w1) (hk:aD (· = rb) w0 w1) (hr:a8 (w0.heap.size+1) w1 ad q.1.ks) :
 PE ts rb a c q w0 (.returned (cF q.1.op q.1.nm q.1.n ad q.1.ks.len cc)) (kL w1 w0.heap.size q.1.op q.1.nm q.1.n ad q.1.ks.len cc) :=
 ⟨ad,cc,rfl,h.other (eX _ _ _ _ _ _ _ _) hrb,hk.trans (eX w1 w0.heap.size _ _ _ _ _ _) (fun i hi hlt=>by omega),(hr.keptS (eX _ _ _ _ _ _ _ _) (fun k hk=>by omega)).mono (Nat.le_succ _)⟩
theorem Ex (ts:List Tk) (rb:Nat) (a:Option Addr) (c:Nat) (s:RS) (w:World) (h:PW ts rb a c s w) (hb:¬ s.bad=0) :
 Calls Tryz.prog 263 #[.pointer (some ⟨rb,0,none⟩)] w (PE ts rb a c (pE ts .fac s) w):=by
 have e:pE ts .fac s=(aC,s):=by rw [iR,if_neg hb]
 rw [e];have q:((s.bad:Int) != 0)=true:=by simpa using hb
 have K1:=aE (bA0 w (ndO ⟨#[]⟩ ⟨#[]⟩ 0 none 0 0)) (· = rb);have H1:=h.below (bA0 w (ndO ⟨#[]⟩ ⟨#[]⟩ 0 none 0 0));obtain ⟨⟨c0,c1,c2,c3,c4⟩,f1,f2,f3,f4⟩:=H1.r.cells;have P:=aA (PE.zero (w0:=w) H1 K1);clear h e hb H1 K1;go_enter Tryz.func263,Tryz.ntmps263
 go_wp2_with fail
 exact bodyPost_ret (v:=cF ⟨#[]⟩ ⟨#[]⟩ 0 none 0 0) (by simp [results,Tryz.results263,go_sem]) rfl P.out
/-- At the tokens' end factor fails. -/
theorem Ho (ts:List Tk) (rb:Nat) (a:Option Addr) (c:Nat) (s:RS) (w:World) (h:PW ts rb a c s w) (hb:s.bad=0) (hp:¬ s.pos<ts.length) :
 Calls Tryz.prog 263 #[.pointer (some ⟨rb,0,none⟩)] w (PE ts rb a c (pE ts .fac s) w):=by
 have e:pE ts .fac s=(aC,aM 2 s):=by rw [iR,if_pos hb,List.getElem?_eq_none (by omega)]
 rw [e];have q:((s.bad:Int) != 0)=false:=by rw [hb];rfl
 have K1:=aE (bA0 w (ndO ⟨#[]⟩ ⟨#[]⟩ 0 none 0 0)) (· = rb);have H1:=h.below (bA0 w (ndO ⟨#[]⟩ ⟨#[]⟩ 0 none 0 0));obtain ⟨⟨c0,c1,c2,c3,c4⟩,f1,f2,f3,f4⟩:=H1.r.cells;have H:=aA H1;have K:=aA K1;have hrb:=h.r.lt;have NB:=heap_alloc_new w (ndO ⟨#[]⟩ ⟨#[]⟩ 0 none 0 0);generalize hW:w.alloc (ndO ⟨#[]⟩ ⟨#[]⟩ 0 none 0 0)=W at *;have a1:decide (ts.length<=s.pos)=true:=decide_eq_true (by omega);have a2:decide ((ts.length:Int)<=(s.pos:Int))=true:=decide_eq_true (by omega);have C:=aA (p:=∀ n,Calls Tryz.prog 60 #[.pointer (some ⟨rb,0,none⟩),.int .i64 2] (W.drewN n) fun x w'=>x=.returned (.tuple #[])/\PW ts rb a c (aM 2 s) w'/\aD (· = rb) (W.drewN n) w') (fun n=>dB ts rb a c s 2 (by decide) _ (H.out.kept ((aD.refl _ W).drewN n)));have NB:=aA NB;clear h e hb H1 K1;go_enter Tryz.func263,Tryz.ntmps263
 go_wp2_with fail
 have KW:=aA (show Below w.heap.size w W by rw [<- hW];exact bA0 w _);clear hW;go_wp2_with (go_quiet (fail))
 refine (C.out _).mono ?_;rintro e w1 ⟨rfl,h1,hk⟩;have K2:=aA (show aD (· = rb) w w1 from (K.out.drewN nq).trans hk (fun i hi _=>hi));have NB2:w1.heap[w.heap.size]? = some (ndO ⟨#[]⟩ ⟨#[]⟩ 0 none 0 0):=hk.heap (k:=w.heap.size) NB.out (by show ¬ w.heap.size=rb;omega);have H2:=aA h1;obtain ⟨⟨k0,k1,k2,k3⟩,g0,g1,g2,g3⟩:=aL NB2;have c9:=aA NB2;clear h1 hk NB2 C c0 c1 c2 c3 c4 f1 f2 f3 f4;go_wp2_with fail
 obtain ⟨⟨d0,d1,d2,d3⟩, -⟩:=aL (aU c9.out (.string ⟨#[]⟩) (.string ⟨#[]⟩) (.int .i64 0) (.slice none 0 0));exact bodyPost_ret (v:=cF ⟨#[]⟩ ⟨#[]⟩ 0 none 0 0) (by simp [results,Tryz.results263,go_sem,d0,d1,d2,d3]) rfl (PE.put (q:=(aC,aM 2 s)) (cc:=0) hrb H2.out K2.out (.inl rfl))
end
end
section
section
open Go.RowKit
theorem rY {ts:List Tk} {p:Nat} (hp:p<ts.length):ts[p]? = some ts[p]:=List.getElem?_eq_getElem hp
structure FW (ts:List Tk) (rb:Nat) (a:Option Addr) (c:Nat) (s:RS) (w0:World) (k:Int) (X:ByteArray) (n p:Int) (w:World):Prop where
 pw:PW ts rb a c s w
 kp:aD (· = rb) w0 w
 nb:w.heap[w0.heap.size]? = some (ndO ⟨#[]⟩ ⟨#[]⟩ 0 none 0 0)
 tb:w.heap[w0.heap.size+1]? = some (.cells #[.int .i64 k,.string X,.int .i64 n,.int .i64 p] 128 (0,0))
theorem FW.next {ts:List Tk} {rb:Nat} {a:Option Addr} {c:Nat} {s s':RS} {w0 w w':World} {k:Int} {X:ByteArray} {n p:Int} (h:FW ts rb a c s w0 k X n p w) (hrb:rb<w0.heap.size) (hp:PW ts rb a c s' w') (hk:aD (· = rb) w w'):FW ts rb a c s' w0 k X n p w' :=
 ⟨hp,h.kp.trans hk (fun i hi _=>hi),hk.heap h.nb (by show ¬ w0.heap.size=rb;omega),hk.heap h.tb (by show ¬ w0.heap.size+1=rb;omega)⟩
theorem FW.lt {ts:List Tk} {rb:Nat} {a:Option Addr} {c:Nat} {s:RS} {w0 w:World} {k:Int} {X:ByteArray} {n p:Int} (h:FW ts rb a c s w0 k X n p w):w0.heap.size+1<w.heap.size:=(Array.getElem?_eq_some_iff.1 h.tb).1
theorem Pa (ts:List Tk) (rb:Nat) (a:Option Addr) (c:Nat) (s:RS) (w:World) (h:PW ts rb a c s w) (hb:s.bad=0) (hp:s.pos<ts.length) (hc:s.cnt<=32) (hk:ts[s.pos].kind=2) :
 Calls Tryz.prog 263 #[.pointer (some ⟨rb,0,none⟩)] w (PE ts rb a c (pE ts .fac s) w):=by
 obtain ⟨t,ht⟩:∃ t,ts[s.pos]=t:=⟨_,rfl⟩;rw [ht] at hk;have e:pE ts .fac s=(sU t.num,aH s):=by rw [iR,if_pos hb,rY hp,ht];simp only;rw [if_pos hk]
 rw [e];clear e;have q:((s.bad:Int) != 0)=false:=by rw [hb];rfl
 have K1:=aE (bA0 w (ndO ⟨#[]⟩ ⟨#[]⟩ 0 none 0 0)) (· = rb);have H1:=h.below (bA0 w (ndO ⟨#[]⟩ ⟨#[]⟩ 0 none 0 0));obtain ⟨⟨c0,c1,c2,c3,c4⟩,f1,f2,f3,f4⟩:=H1.r.cells;obtain ⟨b,off,ha,hbr,p0,p1,p2,p3⟩:=aY H1.t hp;rw [ht] at p0 p1 p2 p3;obtain ⟨X,hX⟩:∃ X:ByteArray,⟨t.text.toArray⟩=X:=⟨_,rfl⟩;rw [hX] at p1;have hXl:X.data.toList=t.text:=by rw [<- hX]
 have HX:=aA hX;subst ha;have H:=aA H1;have K:=aA K1;have hrb:=h.r.lt;have hfine:=h.f;have NB:=heap_alloc_new w (ndO ⟨#[]⟩ ⟨#[]⟩ 0 none 0 0);have hsz:(w.alloc (ndO ⟨#[]⟩ ⟨#[]⟩ 0 none 0 0)).heap.size=w.heap.size+1:=World.size_alloc _ _;generalize hW:w.alloc (ndO ⟨#[]⟩ ⟨#[]⟩ 0 none 0 0)=W at *;have a1:decide (ts.length<=s.pos)=false:=decide_eq_false (by omega);have a2:decide ((ts.length:Int)<=(s.pos:Int))=false:=decide_eq_false (by omega);have a3:(s.pos:Int)<(ts.length:Int):=by omega
 have a4:(0:Int)<=(s.pos:Int):=by omega
 have a5:((s.pos:Int)).toNat=s.pos:=by omega
 have NB:=aA NB;have k1:(t.kind == 2)=true:=by rw [hk];rfl
 clear hk;have hb:=aA hb;clear h H1 K1 hX;go_enter Tryz.func263,Tryz.ntmps263
 go_wp2_with fail
 clear hW;go_wp2_with (go_quiet (fail))
 have HD:=H.out.kept ((aD.refl (fun _=>False) W).drewN nq);have KD:=aA (show aD (· = rb) w (W.drewN nq) from K.out.drewN nq);have NBD:=aA (show (W.drewN nq).heap[w.heap.size]? = some (ndO ⟨#[]⟩ ⟨#[]⟩ 0 none 0 0) from NB.out);have hsz2:(W.drewN nq).heap.size=w.heap.size+1:=hsz;generalize W.drewN nq=V at HD KD NBD hsz2 |-
 obtain ⟨⟨e0,e1,e2,e3,e4⟩, -⟩:=HD.r.cells;obtain ⟨b',off',ha', -,r0,r1,r2,r3⟩:=aY HD.t hp;cases ha';rw [ht] at r0 r1 r2 r3;rw [HX.out] at r1;have HA:=HD.below (bA0 V (.cells #[.int .i64 0,.string ⟨#[]⟩,.int .i64 0,.int .i64 0] 128));obtain ⟨⟨x0,x1,x2,x3,x4⟩, -⟩:=HA.r.cells;obtain ⟨b',off',ha', -,y0,y1,y2,y3⟩:=aY HA.t hp;cases ha';rw [ht] at y0 y1 y2 y3;rw [HX.out] at y1;have HV:=aA HD;clear HD HA p0 p1 p2 p3 c0 c1 c2 c3 c4 f1 f2 f3 f4 H K NB hsz;go_region
 have W1:=aA (show FW ts rb (some ⟨b,off,none⟩) c s w t.kind X t.num t.place (V.alloc (.cells #[.int .i64 t.kind,.string X,.int .i64 t.num,.int .i64 t.place] 128)).drew from
  ⟨(HV.out.below (bA0 V _)).kept ((aD.refl (fun _=>False) _).drew),(KD.out.alloc _).drew,(Below.heap_alloc V _ _ (by omega)).trans NBD.out,by rw [<- hsz2];exact heap_alloc_new V _⟩)
 generalize (V.alloc (.cells #[.int .i64 t.kind,.string X,.int .i64 t.num,.int .i64 t.place] 128)).drew=U at W1 |-
 clear x0 x1 x2 x3 x4 y0 y1 y2 y3 r0 r1 r2 r3 e0 e1 e2 e3 e4 HV KD NBD hsz2;obtain ⟨⟨m0,m1,m2,m3⟩, -⟩:=aL W1.out.tb;have C:=aA (jA ts rb (some ⟨b,off,none⟩) c s U W1.out.pw (fun _=>⟨hp,hc⟩) (by have:=hfine.2.1;omega));go_wp2_with fail
 refine C.out.mono ?_;rintro e w1 ⟨rfl,h1,hk⟩;have W2:=aA (W1.out.next hrb h1 hk);clear h1 hk C m0 m1 m2 m3;obtain ⟨⟨m0,m1,m2,m3⟩, -⟩:=aL W2.out.tb;obtain ⟨⟨n0,n1,n2,n3⟩,g0,g1,g2,g3⟩:=aL W2.out.nb;go_wp2_with fail
 obtain ⟨⟨d0,d1,d2,d3⟩, -⟩:=aL (aU W2.out.nb (.string ⟨#[110,117,109]⟩) (.string ⟨#[]⟩) (.int .i64 t.num) (.slice none 0 0));refine bodyPost_ret (v:=cF ⟨#[110,117,109]⟩ ⟨#[]⟩ t.num none 0 0) (by simp [results,Tryz.results263,go_sem,d0,d1,d2,d3]) rfl ?_;exact PE.put (q:=(sU t.num,aH s)) (cc:=0) hrb W2.out.pw W2.out.kp (.inl rfl)
theorem Mx (ts:List Tk) (rb:Nat) (a:Option Addr) (c:Nat) (s:RS) (w:World) (h:PW ts rb a c s w) (hb:s.bad=0) (hp:s.pos<ts.length) (hc:s.cnt<=32) (hk:ts[s.pos].kind=1) :
 Calls Tryz.prog 263 #[.pointer (some ⟨rb,0,none⟩)] w (PE ts rb a c (pE ts .fac s) w):=by
 obtain ⟨t,ht⟩:∃ t,ts[s.pos]=t:=⟨_,rfl⟩;rw [ht] at hk;have e:pE ts .fac s=(e9 t.text,aH s):=by rw [iR,if_pos hb,rY hp,ht];simp only;rw [if_neg (by rw [hk];decide),if_pos hk]
 rw [e];clear e;have q:((s.bad:Int) != 0)=false:=by rw [hb];rfl
 have K1:=aE (bA0 w (ndO ⟨#[]⟩ ⟨#[]⟩ 0 none 0 0)) (· = rb);have H1:=h.below (bA0 w (ndO ⟨#[]⟩ ⟨#[]⟩ 0 none 0 0));obtain ⟨⟨c0,c1,c2,c3,c4⟩,f1,f2,f3,f4⟩:=H1.r.cells;obtain ⟨b,off,ha,hbr,p0,p1,p2,p3⟩:=aY H1.t hp;rw [ht] at p0 p1 p2 p3;obtain ⟨X,hX⟩:∃ X:ByteArray,⟨t.text.toArray⟩=X:=⟨_,rfl⟩;rw [hX] at p1;have hXl:X.data.toList=t.text:=by rw [<- hX]
 have HX:=aA hX;subst ha;have H:=aA H1;have K:=aA K1;have hrb:=h.r.lt;have hfine:=h.f;have NB:=heap_alloc_new w (ndO ⟨#[]⟩ ⟨#[]⟩ 0 none 0 0);have hsz:(w.alloc (ndO ⟨#[]⟩ ⟨#[]⟩ 0 none 0 0)).heap.size=w.heap.size+1:=World.size_alloc _ _;generalize hW:w.alloc (ndO ⟨#[]⟩ ⟨#[]⟩ 0 none 0 0)=W at *;have a1:decide (ts.length<=s.pos)=false:=decide_eq_false (by omega);have a2:decide ((ts.length:Int)<=(s.pos:Int))=false:=decide_eq_false (by omega);have a3:(s.pos:Int)<(ts.length:Int):=by omega
 have a4:(0:Int)<=(s.pos:Int):=by omega
 have a5:((s.pos:Int)).toNat=s.pos:=by omega
 have NB:=aA NB;have k1:(t.kind == 2)=false:=by rw [hk];rfl
 have k2:(t.kind == 1)=true:=by rw [hk];rfl
 clear hk;have hb:=aA hb;clear h H1 K1 hX;go_enter Tryz.func263,Tryz.ntmps263
 go_wp2_with fail
 clear hW;go_wp2_with (go_quiet (fail))
 have HD:=H.out.kept ((aD.refl (fun _=>False) W).drewN nq);have KD:=aA (show aD (· = rb) w (W.drewN nq) from K.out.drewN nq);have NBD:=aA (show (W.drewN nq).heap[w.heap.size]? = some (ndO ⟨#[]⟩ ⟨#[]⟩ 0 none 0 0) from NB.out);have hsz2:(W.drewN nq).heap.size=w.heap.size+1:=hsz;generalize W.drewN nq=V at HD KD NBD hsz2 |-
 obtain ⟨⟨e0,e1,e2,e3,e4⟩, -⟩:=HD.r.cells;obtain ⟨b',off',ha', -,r0,r1,r2,r3⟩:=aY HD.t hp;cases ha';rw [ht] at r0 r1 r2 r3;rw [HX.out] at r1;have HA:=HD.below (bA0 V (.cells #[.int .i64 0,.string ⟨#[]⟩,.int .i64 0,.int .i64 0] 128));obtain ⟨⟨x0,x1,x2,x3,x4⟩, -⟩:=HA.r.cells;obtain ⟨b',off',ha', -,y0,y1,y2,y3⟩:=aY HA.t hp;cases ha';rw [ht] at y0 y1 y2 y3;rw [HX.out] at y1;have HV:=aA HD;clear HD HA p0 p1 p2 p3 c0 c1 c2 c3 c4 f1 f2 f3 f4 H K NB hsz;go_region
 have W1:=aA (show FW ts rb (some ⟨b,off,none⟩) c s w t.kind X t.num t.place (V.alloc (.cells #[.int .i64 t.kind,.string X,.int .i64 t.num,.int .i64 t.place] 128)).drew from
  ⟨(HV.out.below (bA0 V _)).kept ((aD.refl (fun _=>False) _).drew),(KD.out.alloc _).drew,(Below.heap_alloc V _ _ (by omega)).trans NBD.out,by rw [<- hsz2];exact heap_alloc_new V _⟩)
 generalize (V.alloc (.cells #[.int .i64 t.kind,.string X,.int .i64 t.num,.int .i64 t.place] 128)).drew=U at W1 |-
 clear x0 x1 x2 x3 x4 y0 y1 y2 y3 r0 r1 r2 r3 e0 e1 e2 e3 e4 HV KD NBD hsz2;obtain ⟨⟨m0,m1,m2,m3⟩, -⟩:=aL W1.out.tb;have eN:e9 t.text=⟨⟨#[110,97,109,101]⟩,X,0,.nil⟩:=by unfold e9;rw [HX.out]
 have C:=aA (jA ts rb (some ⟨b,off,none⟩) c s U W1.out.pw (fun _=>⟨hp,hc⟩) (by have:=hfine.2.1;omega));go_wp2_with fail
 refine C.out.mono ?_;rintro e w1 ⟨rfl,h1,hk⟩;have W2:=aA (W1.out.next hrb h1 hk);clear h1 hk C m0 m1 m2 m3;obtain ⟨⟨m0,m1,m2,m3⟩, -⟩:=aL W2.out.tb;obtain ⟨⟨n0,n1,n2,n3⟩,g0,g1,g2,g3⟩:=aL W2.out.nb;go_wp2_with fail
 obtain ⟨⟨d0,d1,d2,d3⟩, -⟩:=aL (aU W2.out.nb (.string ⟨#[110,97,109,101]⟩) (.string X) (.int .i64 0) (.slice none 0 0));refine bodyPost_ret (v:=cF ⟨#[110,97,109,101]⟩ X 0 none 0 0) (by simp [results,Tryz.results263,go_sem,d0,d1,d2,d3]) rfl ?_;rw [eN];exact PE.put (q:=(⟨⟨#[110,97,109,101]⟩,X,0,.nil⟩,aH s)) (cc:=0) hrb W2.out.pw W2.out.kp (.inl rfl)
theorem Mw (ts:List Tk) (rb:Nat) (a:Option Addr) (c:Nat) (s:RS) (w:World) (h:PW ts rb a c s w) (hb:s.bad=0) (hp:s.pos<ts.length) (_hc:s.cnt<=32) (hk2:¬ ts[s.pos].kind=2) (hk1:¬ ts[s.pos].kind=1) (h45:¬ ts[s.pos].text=[45]) (h40:¬ ts[s.pos].text=[40]) :
 Calls Tryz.prog 263 #[.pointer (some ⟨rb,0,none⟩)] w (PE ts rb a c (pE ts .fac s) w):=by
 obtain ⟨t,ht⟩:∃ t,ts[s.pos]=t:=⟨_,rfl⟩;rw [ht] at hk2 hk1 h45 h40;have e:pE ts .fac s=(aC,aM 2 s):=by rw [iR,if_pos hb,rY hp,ht];simp only;rw [if_neg hk2,if_neg hk1,if_neg h45,if_neg h40]
 rw [e];clear e;have q:((s.bad:Int) != 0)=false:=by rw [hb];rfl
 have K1:=aE (bA0 w (ndO ⟨#[]⟩ ⟨#[]⟩ 0 none 0 0)) (· = rb);have H1:=h.below (bA0 w (ndO ⟨#[]⟩ ⟨#[]⟩ 0 none 0 0));obtain ⟨⟨c0,c1,c2,c3,c4⟩,f1,f2,f3,f4⟩:=H1.r.cells;obtain ⟨b,off,ha,hbr,p0,p1,p2,p3⟩:=aY H1.t hp;rw [ht] at p0 p1 p2 p3;obtain ⟨X,hX⟩:∃ X:ByteArray,⟨t.text.toArray⟩=X:=⟨_,rfl⟩;rw [hX] at p1;have hXl:X.data.toList=t.text:=by rw [<- hX]
 have HX:=aA hX;subst ha;have H:=aA H1;have K:=aA K1;have hrb:=h.r.lt;have hfine:=h.f;have NB:=heap_alloc_new w (ndO ⟨#[]⟩ ⟨#[]⟩ 0 none 0 0);have hsz:(w.alloc (ndO ⟨#[]⟩ ⟨#[]⟩ 0 none 0 0)).heap.size=w.heap.size+1:=World.size_alloc _ _;generalize hW:w.alloc (ndO ⟨#[]⟩ ⟨#[]⟩ 0 none 0 0)=W at *;have a1:decide (ts.length<=s.pos)=false:=decide_eq_false (by omega);have a2:decide ((ts.length:Int)<=(s.pos:Int))=false:=decide_eq_false (by omega);have a3:(s.pos:Int)<(ts.length:Int):=by omega
 have a4:(0:Int)<=(s.pos:Int):=by omega
 have a5:((s.pos:Int)).toNat=s.pos:=by omega
 have NB:=aA NB;have k1:(t.kind == 2)=false:=beq_eq_false_iff_ne.2 hk2;have k2:(t.kind == 1)=false:=beq_eq_false_iff_ne.2 hk1;have k3:(X.toList == [45])=false:=by rw [Lib.toList_data,hXl];exact beq_eq_false_iff_ne.2 h45
 have k4:(X.toList == [40])=false:=by rw [Lib.toList_data,hXl];exact beq_eq_false_iff_ne.2 h40
 clear hk2 hk1 h45 h40;have hb:=aA hb;clear h H1 K1 hX;go_enter Tryz.func263,Tryz.ntmps263
 go_wp2_with fail
 clear hW;go_wp2_with (go_quiet (fail))
 have HD:=H.out.kept ((aD.refl (fun _=>False) W).drewN nq);have KD:=aA (show aD (· = rb) w (W.drewN nq) from K.out.drewN nq);have NBD:=aA (show (W.drewN nq).heap[w.heap.size]? = some (ndO ⟨#[]⟩ ⟨#[]⟩ 0 none 0 0) from NB.out);have hsz2:(W.drewN nq).heap.size=w.heap.size+1:=hsz;generalize W.drewN nq=V at HD KD NBD hsz2 |-
 obtain ⟨⟨e0,e1,e2,e3,e4⟩, -⟩:=HD.r.cells;obtain ⟨b',off',ha', -,r0,r1,r2,r3⟩:=aY HD.t hp;cases ha';rw [ht] at r0 r1 r2 r3;rw [HX.out] at r1;have HA:=HD.below (bA0 V (.cells #[.int .i64 0,.string ⟨#[]⟩,.int .i64 0,.int .i64 0] 128));obtain ⟨⟨x0,x1,x2,x3,x4⟩, -⟩:=HA.r.cells;obtain ⟨b',off',ha', -,y0,y1,y2,y3⟩:=aY HA.t hp;cases ha';rw [ht] at y0 y1 y2 y3;rw [HX.out] at y1;have HV:=aA HD;clear HD HA p0 p1 p2 p3 c0 c1 c2 c3 c4 f1 f2 f3 f4 H K NB hsz;go_region
 have W1:=aA (show FW ts rb (some ⟨b,off,none⟩) c s w t.kind X t.num t.place (V.alloc (.cells #[.int .i64 t.kind,.string X,.int .i64 t.num,.int .i64 t.place] 128)).drew from
  ⟨(HV.out.below (bA0 V _)).kept ((aD.refl (fun _=>False) _).drew),(KD.out.alloc _).drew,(Below.heap_alloc V _ _ (by omega)).trans NBD.out,by rw [<- hsz2];exact heap_alloc_new V _⟩)
 generalize (V.alloc (.cells #[.int .i64 t.kind,.string X,.int .i64 t.num,.int .i64 t.place] 128)).drew=U at W1 |-
 clear x0 x1 x2 x3 x4 y0 y1 y2 y3 r0 r1 r2 r3 e0 e1 e2 e3 e4 HV KD NBD hsz2;obtain ⟨⟨m0,m1,m2,m3⟩, -⟩:=aL W1.out.tb;have C:=aA (dB ts rb (some ⟨b,off,none⟩) c s 2 (by decide) U W1.out.pw);go_wp2_with fail
 refine C.out.mono ?_;rintro e w1 ⟨rfl,h1,hk⟩;have W2:=aA (W1.out.next hrb h1 hk);clear h1 hk C m0 m1 m2 m3;obtain ⟨⟨n0,n1,n2,n3⟩,g0,g1,g2,g3⟩:=aL W2.out.nb;go_wp2_with fail
 obtain ⟨⟨d0,d1,d2,d3⟩, -⟩:=aL (aU W2.out.nb (.string ⟨#[]⟩) (.string ⟨#[]⟩) (.int .i64 0) (.slice none 0 0));refine bodyPost_ret (v:=cF ⟨#[]⟩ ⟨#[]⟩ 0 none 0 0) (by simp [results,Tryz.results263,go_sem,d0,d1,d2,d3]) rfl ?_;exact PE.put (q:=(aC,aM 2 s)) (cc:=0) hrb W2.out.pw W2.out.kp (.inl rfl)
theorem Pb (ts:List Tk) (rb:Nat) (a:Option Addr) (c:Nat) (s:RS) (w:World) (h:PW ts rb a c s w) (hb:s.bad=0) (hp:s.pos<ts.length) (hc:s.cnt<=32) (hk2:¬ ts[s.pos].kind=2) (hk1:¬ ts[s.pos].kind=1) (h45:ts[s.pos].text=[45]) (ih:∀ w',PW ts rb a c (aH s) w'->Calls Tryz.prog 263 #[.pointer (some ⟨rb,0,none⟩)] w' (PE ts rb a c (pE ts .fac (aH s)) w')) :
 Calls Tryz.prog 263 #[.pointer (some ⟨rb,0,none⟩)] w (PE ts rb a c (pE ts .fac s) w):=by
 obtain ⟨t,ht⟩:∃ t,ts[s.pos]=t:=⟨_,rfl⟩;rw [ht] at hk2 hk1 h45;have e:pE ts .fac s=(oY (pE ts .fac (aH s)).1,(pE ts .fac (aH s)).2):=by rw [iR,if_pos hb,rY hp,ht];simp only;rw [if_neg hk2,if_neg hk1,if_pos h45]
 rw [e];clear e;have q:((s.bad:Int) != 0)=false:=by rw [hb];rfl
 have K1:=aE (bA0 w (ndO ⟨#[]⟩ ⟨#[]⟩ 0 none 0 0)) (· = rb);have H1:=h.below (bA0 w (ndO ⟨#[]⟩ ⟨#[]⟩ 0 none 0 0));obtain ⟨⟨c0,c1,c2,c3,c4⟩,f1,f2,f3,f4⟩:=H1.r.cells;obtain ⟨b,off,ha,hbr,p0,p1,p2,p3⟩:=aY H1.t hp;rw [ht] at p0 p1 p2 p3;obtain ⟨X,hX⟩:∃ X:ByteArray,⟨t.text.toArray⟩=X:=⟨_,rfl⟩;rw [hX] at p1;have hXl:X.data.toList=t.text:=by rw [<- hX]
 have HX:=aA hX;subst ha;have H:=aA H1;have K:=aA K1;have hrb:=h.r.lt;have hfine:=h.f;have NB:=heap_alloc_new w (ndO ⟨#[]⟩ ⟨#[]⟩ 0 none 0 0);have hsz:(w.alloc (ndO ⟨#[]⟩ ⟨#[]⟩ 0 none 0 0)).heap.size=w.heap.size+1:=World.size_alloc _ _;generalize hW:w.alloc (ndO ⟨#[]⟩ ⟨#[]⟩ 0 none 0 0)=W at *;have a1:decide (ts.length<=s.pos)=false:=decide_eq_false (by omega);have a2:decide ((ts.length:Int)<=(s.pos:Int))=false:=decide_eq_false (by omega);have a3:(s.pos:Int)<(ts.length:Int):=by omega
 have a4:(0:Int)<=(s.pos:Int):=by omega
 have a5:((s.pos:Int)).toNat=s.pos:=by omega
 have NB:=aA NB;have k1:(t.kind == 2)=false:=beq_eq_false_iff_ne.2 hk2;have k2:(t.kind == 1)=false:=beq_eq_false_iff_ne.2 hk1;have k3:(X.toList == [45])=true:=by rw [Lib.toList_data,hXl];exact beq_iff_eq.2 h45
 have IH:=aA ih;clear hk2 hk1 h45 ih;have hb:=aA hb;clear h H1 K1 hX;go_enter Tryz.func263,Tryz.ntmps263
 go_wp2_with fail
 clear hW;go_wp2_with (go_quiet (fail))
 have HD:=H.out.kept ((aD.refl (fun _=>False) W).drewN nq);have KD:=aA (show aD (· = rb) w (W.drewN nq) from K.out.drewN nq);have NBD:=aA (show (W.drewN nq).heap[w.heap.size]? = some (ndO ⟨#[]⟩ ⟨#[]⟩ 0 none 0 0) from NB.out);have hsz2:(W.drewN nq).heap.size=w.heap.size+1:=hsz;generalize W.drewN nq=V at HD KD NBD hsz2 |-
 obtain ⟨⟨e0,e1,e2,e3,e4⟩, -⟩:=HD.r.cells;obtain ⟨b',off',ha', -,r0,r1,r2,r3⟩:=aY HD.t hp;cases ha';rw [ht] at r0 r1 r2 r3;rw [HX.out] at r1;have HA:=HD.below (bA0 V (.cells #[.int .i64 0,.string ⟨#[]⟩,.int .i64 0,.int .i64 0] 128));obtain ⟨⟨x0,x1,x2,x3,x4⟩, -⟩:=HA.r.cells;obtain ⟨b',off',ha', -,y0,y1,y2,y3⟩:=aY HA.t hp;cases ha';rw [ht] at y0 y1 y2 y3;rw [HX.out] at y1;have HV:=aA HD;clear HD HA p0 p1 p2 p3 c0 c1 c2 c3 c4 f1 f2 f3 f4 H K NB hsz;go_region
 have W1:=aA (show FW ts rb (some ⟨b,off,none⟩) c s w t.kind X t.num t.place (V.alloc (.cells #[.int .i64 t.kind,.string X,.int .i64 t.num,.int .i64 t.place] 128)).drew from
  ⟨(HV.out.below (bA0 V _)).kept ((aD.refl (fun _=>False) _).drew),(KD.out.alloc _).drew,(Below.heap_alloc V _ _ (by omega)).trans NBD.out,by rw [<- hsz2];exact heap_alloc_new V _⟩)
 generalize (V.alloc (.cells #[.int .i64 t.kind,.string X,.int .i64 t.num,.int .i64 t.place] 128)).drew=U at W1 |-
 clear x0 x1 x2 x3 x4 y0 y1 y2 y3 r0 r1 r2 r3 e0 e1 e2 e3 e4 HV KD NBD hsz2;obtain ⟨⟨m0,m1,m2,m3⟩, -⟩:=aL W1.out.tb;have C:=aA (jA ts rb (some ⟨b,off,none⟩) c s U W1.out.pw (fun _=>⟨hp,hc⟩) (by have:=hfine.2.1;omega));go_wp2_with fail
 refine C.out.mono ?_;rintro e w1 ⟨rfl,h1,hk⟩;have W2:=aA (W1.out.next hrb h1 hk);clear h1 hk C m0 m1 m2 m3;obtain ⟨⟨m0,m1,m2,m3⟩, -⟩:=aL W2.out.tb;obtain ⟨⟨n0,n1,n2,n3⟩,g0,g1,g2,g3⟩:=aL W2.out.nb;clear m0 m1 m2 m3 n0 n1 n2 n3 g0 g1 g2 g3;have C2:=aA (IH.out w1 W2.out.pw);obtain ⟨q2,hq2⟩:∃ q2,pE ts .fac (aH s)=q2:=⟨_,rfl⟩;rw [hq2] at C2 |-
 go_wp2_with fail
 refine C2.out.mono ?_;rintro e w2 ⟨ad,cc,rfl,h2,hk2,hr2⟩;have W3:=aA (W2.out.next hrb h2 hk2);have R3:=aA (hr2.mono (show w.heap.size+2<=w1.heap.size from W2.out.lt));obtain ⟨⟨n0,n1,n2,n3⟩,g0,g1,g2,g3⟩:=aL W3.out.nb;have hsz3:=W3.out.lt;have hsz4:w.heap.size<w2.heap.size:=by omega
 have hsz5:w.heap.size<w2.heap.size+1:=by omega
 clear h2 hk2 hr2 C2;go_wp2_with fail
 have hp4:(kL w2 w.heap.size ⟨#[110,101,103]⟩ ⟨#[]⟩ 0 (some ⟨w2.heap.size+1,0,none⟩) 1 1).heap.size=w2.heap.size:=by simp [kL]
 have B1:=(Below.refl (kL w2 w.heap.size ⟨#[110,101,103]⟩ ⟨#[]⟩ 0 (some ⟨w2.heap.size+1,0,none⟩) 1 1).heap.size _).alloc (Nat.le_refl _) (ndO q2.1.op q2.1.nm q2.1.n ad q2.1.ks.len cc);have B2:=(Below.refl ((kL w2 w.heap.size ⟨#[110,101,103]⟩ ⟨#[]⟩ 0 (some ⟨w2.heap.size+1,0,none⟩) 1 1).alloc (ndO q2.1.op q2.1.nm q2.1.n ad q2.1.ks.len cc)).heap.size _).alloc (Nat.le_refl _) (ndO q2.1.op q2.1.nm q2.1.n ad q2.1.ks.len cc);have KP:=eX w2 w.heap.size ⟨#[110,101,103]⟩ ⟨#[]⟩ 0 (some ⟨w2.heap.size+1,0,none⟩) 1 1;have R4:=(((R3.out.keptS KP (fun k hk=>by omega)).kept B1).kept B2);have P4:=((W3.out.pw.other KP hrb).below B1).below B2;have K4:=((W3.out.kp.trans KP (fun i hi hlt=>by omega)).alloc (ndO q2.1.op q2.1.nm q2.1.n ad q2.1.ks.len cc)).alloc (ndO q2.1.op q2.1.nm q2.1.n ad q2.1.ks.len cc);have hnew:=heap_alloc_new ((kL w2 w.heap.size ⟨#[110,101,103]⟩ ⟨#[]⟩ 0 (some ⟨w2.heap.size+1,0,none⟩) 1 1).alloc (ndO q2.1.op q2.1.nm q2.1.n ad q2.1.ks.len cc)) (ndO q2.1.op q2.1.nm q2.1.n ad q2.1.ks.len cc);rw [World.size_alloc,hp4] at hnew;have hres:=(B2.block w.heap.size (by rw [World.size_alloc,hp4];omega)).trans ((B1.block w.heap.size (by rw [hp4];omega)).trans (aU W3.out.nb (.string ⟨#[110,101,103]⟩) (.string ⟨#[]⟩) (.int .i64 0) (.slice (some ⟨w2.heap.size+1,0,none⟩) 1 1)));obtain ⟨⟨d0,d1,d2,d3⟩, -⟩:=aL hres;refine bodyPost_ret (v:=cF ⟨#[110,101,103]⟩ ⟨#[]⟩ 0 (some ⟨w2.heap.size+1,0,none⟩) 1 1) (by simp [results,Tryz.results263,go_sem,d0,d1,d2,d3]) rfl ?_;rw [hq2];exact ⟨_,_,rfl,P4,K4,.inr ⟨_,_,rfl,(Fp (G:=fun b=>w.heap.size+2<=b) (by show w.heap.size+2<=w2.heap.size+1;omega) hnew R4).lower (by omega)⟩⟩
theorem Mv (ts:List Tk) (rb:Nat) (a:Option Addr) (c:Nat) (s:RS) (w:World) (h:PW ts rb a c s w) (hb:s.bad=0) (hp:s.pos<ts.length) (hc:s.cnt<=32) (hk2:¬ ts[s.pos].kind=2) (hk1:¬ ts[s.pos].kind=1) (h40:ts[s.pos].text=[40]) (ih:∀ w',PW ts rb a c (aJ s) w'->Calls Tryz.prog 223 #[.pointer (some ⟨rb,0,none⟩)] w' (PE ts rb a c (pE ts .sum (aJ s)) w')) (hbad:¬ (pE ts .sum (aJ s)).2.bad=0) :
 Calls Tryz.prog 263 #[.pointer (some ⟨rb,0,none⟩)] w (PE ts rb a c (pE ts .fac s) w):=by
 obtain ⟨t,ht⟩:∃ t,ts[s.pos]=t:=⟨_,rfl⟩;rw [ht] at hk2 hk1 h40;have h45:¬ t.text=[45]:=by rw [h40];decide
 have e:pE ts .fac s=((pE ts .sum (aJ s)).1,dN ts (pE ts .sum (aJ s)).2):=by rw [iR,if_pos hb,rY hp,ht];simp only;rw [if_neg hk2,if_neg hk1,if_neg h45,if_pos h40]
 rw [e];clear e;have TOP:=lR ts .sum (aJ s) hb (by show s.pos+1<=ts.length;omega) hc;have hfs:lQ ts.length (aJ s):=⟨fun _=>by show s.pos+1<=ts.length;omega,by show s.pos+1<=_;omega,by show s.cnt<=33;omega,h.f.2.2.2⟩;obtain ⟨q2,hq2⟩:∃ q2,pE ts .sum (aJ s)=q2:=⟨_,rfl⟩;rw [hq2] at ih TOP |-
 rw [hq2] at hbad;have ec:dN ts q2.2=aJ q2.2:=by unfold dN;rw [if_neg (by simp [hbad])]
 rw [ec];have hfc:lQ ts.length (aJ q2.2):=⟨fun x=>absurd x hbad,by show q2.2.pos+1<=_;have h1:=TOP.1;have h2:(aJ s).pos=s.pos+1:=rfl;omega,TOP.2.1,h.f.2.2.2⟩;have qb:((q2.2.bad:Int) == 0)=false:=beq_eq_false_iff_ne.2 hbad;clear hbad ec;have q:((s.bad:Int) != 0)=false:=by rw [hb];rfl
 have K1:=aE (bA0 w (ndO ⟨#[]⟩ ⟨#[]⟩ 0 none 0 0)) (· = rb);have H1:=h.below (bA0 w (ndO ⟨#[]⟩ ⟨#[]⟩ 0 none 0 0));obtain ⟨⟨c0,c1,c2,c3,c4⟩,f1,f2,f3,f4⟩:=H1.r.cells;obtain ⟨b,off,ha,hbr,p0,p1,p2,p3⟩:=aY H1.t hp;rw [ht] at p0 p1 p2 p3;obtain ⟨X,hX⟩:∃ X:ByteArray,⟨t.text.toArray⟩=X:=⟨_,rfl⟩;rw [hX] at p1;have hXl:X.data.toList=t.text:=by rw [<- hX]
 have HX:=aA hX;subst ha;have H:=aA H1;have K:=aA K1;have hrb:=h.r.lt;have hfine:=h.f;have NB:=heap_alloc_new w (ndO ⟨#[]⟩ ⟨#[]⟩ 0 none 0 0);have hsz:(w.alloc (ndO ⟨#[]⟩ ⟨#[]⟩ 0 none 0 0)).heap.size=w.heap.size+1:=World.size_alloc _ _;generalize hW:w.alloc (ndO ⟨#[]⟩ ⟨#[]⟩ 0 none 0 0)=W at *;have a1:decide (ts.length<=s.pos)=false:=decide_eq_false (by omega);have a2:decide ((ts.length:Int)<=(s.pos:Int))=false:=decide_eq_false (by omega);have a3:(s.pos:Int)<(ts.length:Int):=by omega
 have a4:(0:Int)<=(s.pos:Int):=by omega
 have a5:((s.pos:Int)).toNat=s.pos:=by omega
 have NB:=aA NB;have k1:(t.kind == 2)=false:=beq_eq_false_iff_ne.2 hk2;have k2:(t.kind == 1)=false:=beq_eq_false_iff_ne.2 hk1;have k3:(X.toList == [45])=false:=by rw [Lib.toList_data,hXl];exact beq_eq_false_iff_ne.2 h45
 have k4:(X.toList == [40])=true:=by rw [Lib.toList_data,hXl];exact beq_iff_eq.2 h40
 have IH:=aA ih;have hsp:(s.pos:Int)+1<=9223372036854775807:=by have:=hfine.2.2.2;omega
 have hcp:(q2.2.pos:Int)+1<=9223372036854775807:=by have:=TOP.1;have:=hfine.2.2.2;omega
 clear hk2 hk1 h40 h45 ih;have hb:=aA hb;clear h H1 K1 hX;go_enter Tryz.func263,Tryz.ntmps263
 go_wp2_with fail
 clear hW;go_wp2_with (go_quiet (fail))
 have HD:=H.out.kept ((aD.refl (fun _=>False) W).drewN nq);have KD:=aA (show aD (· = rb) w (W.drewN nq) from K.out.drewN nq);have NBD:=aA (show (W.drewN nq).heap[w.heap.size]? = some (ndO ⟨#[]⟩ ⟨#[]⟩ 0 none 0 0) from NB.out);have hsz2:(W.drewN nq).heap.size=w.heap.size+1:=hsz;generalize W.drewN nq=V at HD KD NBD hsz2 |-
 obtain ⟨⟨e0,e1,e2,e3,e4⟩, -⟩:=HD.r.cells;obtain ⟨b',off',ha', -,r0,r1,r2,r3⟩:=aY HD.t hp;cases ha';rw [ht] at r0 r1 r2 r3;rw [HX.out] at r1;have HA:=HD.below (bA0 V (.cells #[.int .i64 0,.string ⟨#[]⟩,.int .i64 0,.int .i64 0] 128));obtain ⟨⟨x0,x1,x2,x3,x4⟩, -⟩:=HA.r.cells;obtain ⟨b',off',ha', -,y0,y1,y2,y3⟩:=aY HA.t hp;cases ha';rw [ht] at y0 y1 y2 y3;rw [HX.out] at y1;have HV:=aA HD;clear HD HA p0 p1 p2 p3 c0 c1 c2 c3 c4 f1 f2 f3 f4 H K NB hsz;go_region
 have W1:=aA (show FW ts rb (some ⟨b,off,none⟩) c s w t.kind X t.num t.place (V.alloc (.cells #[.int .i64 t.kind,.string X,.int .i64 t.num,.int .i64 t.place] 128)).drew from
  ⟨(HV.out.below (bA0 V _)).kept ((aD.refl (fun _=>False) _).drew),(KD.out.alloc _).drew,(Below.heap_alloc V _ _ (by omega)).trans NBD.out,by rw [<- hsz2];exact heap_alloc_new V _⟩)
 generalize (V.alloc (.cells #[.int .i64 t.kind,.string X,.int .i64 t.num,.int .i64 t.place] 128)).drew=U at W1 |-
 clear x0 x1 x2 x3 x4 y0 y1 y2 y3 r0 r1 r2 r3 e0 e1 e2 e3 e4 HV KD NBD hsz2;obtain ⟨⟨m0,m1,m2,m3⟩, -⟩:=aL W1.out.tb;obtain ⟨⟨x0,x1,x2,x3,x4⟩,y1,y2,y3,y4⟩:=W1.out.pw.r.cells;have WS:=aA (W1.out.next hrb (W1.out.pw.set (s':=aJ s) (o:=1) (v:=.int .i64 ((s.pos:Int)+1)) hfs rfl) (cS (aD.refl _ _) 1 _));have C2:=aA (IH.out _ WS.out.pw);go_wp2_with fail
 generalize hU2:U.setCell ⟨rb,1,none⟩ (.int .i64 ((s.pos:Int)+1))=U2 at *;refine C2.out.mono ?_;rintro e w2 ⟨ad,cc,rfl,h2,hk2,hr2⟩;have W3:=aA (WS.out.next hrb h2 hk2);have R3:=aA (hr2.mono (show w.heap.size+2<=U2.heap.size from WS.out.lt));have hsz3:=W3.out.lt;have BN:=bA0 w2 (ndO q2.1.op q2.1.nm q2.1.n ad q2.1.ks.len cc);have hnew:=aA (heap_alloc_new w2 (ndO q2.1.op q2.1.nm q2.1.n ad q2.1.ks.len cc));have W4:=aA (W3.out.next hrb (h2.below BN) (aE BN _));have R4:=aA (R3.out.kept BN);have hs4:(w2.alloc (ndO q2.1.op q2.1.nm q2.1.n ad q2.1.ks.len cc)).heap.size=w2.heap.size+1:=World.size_alloc _ _;clear h2 hk2 hr2 C2 x0 x1 x2 x3 x4 y1 y2 y3 y4 m0 m1 m2 m3 W1 WS BN hU2;generalize hV4:w2.alloc (ndO q2.1.op q2.1.nm q2.1.n ad q2.1.ks.len cc)=V4 at *;obtain ⟨⟨x0,x1,x2,x3,x4⟩,y1,y2,y3,y4⟩:=W4.out.pw.r.cells;obtain ⟨⟨z0,z1,z2,z3⟩, -⟩:=aL hnew.out;obtain ⟨⟨n0,n1,n2,n3⟩,g0,g1,g2,g3⟩:=aL W4.out.nb;have W5:=aA (W4.out.next hrb (W4.out.pw.set (s':=aJ q2.2) (o:=1) (v:=.int .i64 ((q2.2.pos:Int)+1)) hfc rfl) (cS (aD.refl _ _) 1 _));have R5:=aA (R4.out.keptS (cS (aD.refl (· = rb) V4) 1 (.int .i64 ((q2.2.pos:Int)+1))) (fun k hk=>by omega));go_wp2_with fail
 have hres:=aU W5.out.nb (.string q2.1.op) (.string q2.1.nm) (.int .i64 q2.1.n) (.slice ad q2.1.ks.len cc);obtain ⟨⟨d0,d1,d2,d3⟩, -⟩:=aL hres;refine bodyPost_ret (v:=cF q2.1.op q2.1.nm q2.1.n ad q2.1.ks.len cc) (by simp [results,Tryz.results263,go_sem,d0,d1,d2,d3]) rfl ?_;exact PE.put (q:=(q2.1,aJ q2.2)) hrb W5.out.pw W5.out.kp (R5.out.mono (by omega))
theorem Mu (ts:List Tk) (rb:Nat) (a:Option Addr) (c:Nat) (s:RS) (w:World) (h:PW ts rb a c s w) (hb:s.bad=0) (hp:s.pos<ts.length) (hc:s.cnt<=32) (hk2:¬ ts[s.pos].kind=2) (hk1:¬ ts[s.pos].kind=1) (h40:ts[s.pos].text=[40]) (ih:∀ w',PW ts rb a c (aJ s) w'->Calls Tryz.prog 223 #[.pointer (some ⟨rb,0,none⟩)] w' (PE ts rb a c (pE ts .sum (aJ s)) w')) (hbad:(pE ts .sum (aJ s)).2.bad=0) (hsh:isS ts [41] (pE ts .sum (aJ s)).2.pos=true) :
 Calls Tryz.prog 263 #[.pointer (some ⟨rb,0,none⟩)] w (PE ts rb a c (pE ts .fac s) w):=by
 obtain ⟨t,ht⟩:∃ t,ts[s.pos]=t:=⟨_,rfl⟩;rw [ht] at hk2 hk1 h40;have h45:¬ t.text=[45]:=by rw [h40];decide
 have e:pE ts .fac s=((pE ts .sum (aJ s)).1,dN ts (pE ts .sum (aJ s)).2):=by rw [iR,if_pos hb,rY hp,ht];simp only;rw [if_neg hk2,if_neg hk1,if_neg h45,if_pos h40]
 rw [e];clear e;have TOP:=lR ts .sum (aJ s) hb (by show s.pos+1<=ts.length;omega) hc;have hfs:lQ ts.length (aJ s):=⟨fun _=>by show s.pos+1<=ts.length;omega,by show s.pos+1<=_;omega,by show s.cnt<=33;omega,h.f.2.2.2⟩;obtain ⟨q2,hq2⟩:∃ q2,pE ts .sum (aJ s)=q2:=⟨_,rfl⟩;rw [hq2] at ih TOP |-
 rw [hq2] at hbad hsh;have ec:dN ts q2.2=aJ q2.2:=by unfold dN;rw [hbad,hsh];rfl
 rw [ec];have T3:=TOP.2.2 hbad;have hlt:=gC hsh;have hfc:lQ ts.length (aJ q2.2):=⟨fun _=>by show q2.2.pos+1<=_;omega,by show q2.2.pos+1<=_;omega,TOP.2.1,h.f.2.2.2⟩;have qb:((q2.2.bad:Int) == 0)=true:=by rw [hbad];rfl
 clear hbad ec;have q:((s.bad:Int) != 0)=false:=by rw [hb];rfl
 have K1:=aE (bA0 w (ndO ⟨#[]⟩ ⟨#[]⟩ 0 none 0 0)) (· = rb);have H1:=h.below (bA0 w (ndO ⟨#[]⟩ ⟨#[]⟩ 0 none 0 0));obtain ⟨⟨c0,c1,c2,c3,c4⟩,f1,f2,f3,f4⟩:=H1.r.cells;obtain ⟨b,off,ha,hbr,p0,p1,p2,p3⟩:=aY H1.t hp;rw [ht] at p0 p1 p2 p3;obtain ⟨X,hX⟩:∃ X:ByteArray,⟨t.text.toArray⟩=X:=⟨_,rfl⟩;rw [hX] at p1;have hXl:X.data.toList=t.text:=by rw [<- hX]
 have HX:=aA hX;subst ha;have H:=aA H1;have K:=aA K1;have hrb:=h.r.lt;have hfine:=h.f;have NB:=heap_alloc_new w (ndO ⟨#[]⟩ ⟨#[]⟩ 0 none 0 0);have hsz:(w.alloc (ndO ⟨#[]⟩ ⟨#[]⟩ 0 none 0 0)).heap.size=w.heap.size+1:=World.size_alloc _ _;generalize hW:w.alloc (ndO ⟨#[]⟩ ⟨#[]⟩ 0 none 0 0)=W at *;have a1:decide (ts.length<=s.pos)=false:=decide_eq_false (by omega);have a2:decide ((ts.length:Int)<=(s.pos:Int))=false:=decide_eq_false (by omega);have a3:(s.pos:Int)<(ts.length:Int):=by omega
 have a4:(0:Int)<=(s.pos:Int):=by omega
 have a5:((s.pos:Int)).toNat=s.pos:=by omega
 have NB:=aA NB;have k1:(t.kind == 2)=false:=beq_eq_false_iff_ne.2 hk2;have k2:(t.kind == 1)=false:=beq_eq_false_iff_ne.2 hk1;have k3:(X.toList == [45])=false:=by rw [Lib.toList_data,hXl];exact beq_eq_false_iff_ne.2 h45
 have k4:(X.toList == [40])=true:=by rw [Lib.toList_data,hXl];exact beq_iff_eq.2 h40
 have IH:=aA ih;have hsp:(s.pos:Int)+1<=9223372036854775807:=by have:=hfine.2.2.2;omega
 have hcp:(q2.2.pos:Int)+1<=9223372036854775807:=by have:=TOP.1;have:=hfine.2.2.2;omega
 clear hk2 hk1 h40 h45 ih;have hb:=aA hb;clear h H1 K1 hX;go_enter Tryz.func263,Tryz.ntmps263
 go_wp2_with fail
 clear hW;go_wp2_with (go_quiet (fail))
 have HD:=H.out.kept ((aD.refl (fun _=>False) W).drewN nq);have KD:=aA (show aD (· = rb) w (W.drewN nq) from K.out.drewN nq);have NBD:=aA (show (W.drewN nq).heap[w.heap.size]? = some (ndO ⟨#[]⟩ ⟨#[]⟩ 0 none 0 0) from NB.out);have hsz2:(W.drewN nq).heap.size=w.heap.size+1:=hsz;generalize W.drewN nq=V at HD KD NBD hsz2 |-
 obtain ⟨⟨e0,e1,e2,e3,e4⟩, -⟩:=HD.r.cells;obtain ⟨b',off',ha', -,r0,r1,r2,r3⟩:=aY HD.t hp;cases ha';rw [ht] at r0 r1 r2 r3;rw [HX.out] at r1;have HA:=HD.below (bA0 V (.cells #[.int .i64 0,.string ⟨#[]⟩,.int .i64 0,.int .i64 0] 128));obtain ⟨⟨x0,x1,x2,x3,x4⟩, -⟩:=HA.r.cells;obtain ⟨b',off',ha', -,y0,y1,y2,y3⟩:=aY HA.t hp;cases ha';rw [ht] at y0 y1 y2 y3;rw [HX.out] at y1;have HV:=aA HD;clear HD HA p0 p1 p2 p3 c0 c1 c2 c3 c4 f1 f2 f3 f4 H K NB hsz;go_region
 have W1:=aA (show FW ts rb (some ⟨b,off,none⟩) c s w t.kind X t.num t.place (V.alloc (.cells #[.int .i64 t.kind,.string X,.int .i64 t.num,.int .i64 t.place] 128)).drew from
  ⟨(HV.out.below (bA0 V _)).kept ((aD.refl (fun _=>False) _).drew),(KD.out.alloc _).drew,(Below.heap_alloc V _ _ (by omega)).trans NBD.out,by rw [<- hsz2];exact heap_alloc_new V _⟩)
 generalize (V.alloc (.cells #[.int .i64 t.kind,.string X,.int .i64 t.num,.int .i64 t.place] 128)).drew=U at W1 |-
 clear x0 x1 x2 x3 x4 y0 y1 y2 y3 r0 r1 r2 r3 e0 e1 e2 e3 e4 HV KD NBD hsz2;obtain ⟨⟨m0,m1,m2,m3⟩, -⟩:=aL W1.out.tb;obtain ⟨⟨x0,x1,x2,x3,x4⟩,y1,y2,y3,y4⟩:=W1.out.pw.r.cells;have WS:=aA (W1.out.next hrb (W1.out.pw.set (s':=aJ s) (o:=1) (v:=.int .i64 ((s.pos:Int)+1)) hfs rfl) (cS (aD.refl _ _) 1 _));have C2:=aA (IH.out _ WS.out.pw);go_wp2_with fail
 generalize hU2:U.setCell ⟨rb,1,none⟩ (.int .i64 ((s.pos:Int)+1))=U2 at *;refine C2.out.mono ?_;rintro e w2 ⟨ad,cc,rfl,h2,hk2,hr2⟩;have W3:=aA (WS.out.next hrb h2 hk2);have R3:=aA (hr2.mono (show w.heap.size+2<=U2.heap.size from WS.out.lt));have hsz3:=W3.out.lt;have BN:=bA0 w2 (ndO q2.1.op q2.1.nm q2.1.n ad q2.1.ks.len cc);have hnew:=aA (heap_alloc_new w2 (ndO q2.1.op q2.1.nm q2.1.n ad q2.1.ks.len cc));have W4:=aA (W3.out.next hrb (h2.below BN) (aE BN _));have R4:=aA (R3.out.kept BN);have hs4:(w2.alloc (ndO q2.1.op q2.1.nm q2.1.n ad q2.1.ks.len cc)).heap.size=w2.heap.size+1:=World.size_alloc _ _;clear h2 hk2 hr2 C2 x0 x1 x2 x3 x4 y1 y2 y3 y4 m0 m1 m2 m3 W1 WS BN hU2;generalize hV4:w2.alloc (ndO q2.1.op q2.1.nm q2.1.n ad q2.1.ks.len cc)=V4 at *;obtain ⟨⟨x0,x1,x2,x3,x4⟩,y1,y2,y3,y4⟩:=W4.out.pw.r.cells;have CI:=aA (p:=Calls Tryz.prog 123 #[.pointer (some ⟨rb,0,none⟩),.string ⟨#[41]⟩] V4 fun e w'=>e=.returned (.bool true)/\aD (fun _=>False) V4 w') (by have:=F8 ts rb (some ⟨b,off,none⟩) c q2.2 ⟨#[41]⟩ V4 W4.out.pw;rwa [show isS ts (⟨#[41]⟩:ByteArray).data.toList q2.2.pos=true from hsh] at this);go_wp2_with fail
 refine CI.out.mono ?_;rintro e w5 ⟨rfl,hk5⟩;have W5:=aA (W4.out.next hrb (W4.out.pw.kept hk5) (hk5.mono (fun _ h _=>h.elim)));have R5:=aA (R4.out.keptS hk5 (fun _ h=>h.elim));have N5:=aA (show w5.heap[w2.heap.size]? = some (ndO q2.1.op q2.1.nm q2.1.n ad q2.1.ks.len cc) from hk5.heap hnew.out (fun h=>h));clear hk5 CI x0 x1 x2 x3 x4 y1 y2 y3 y4;obtain ⟨⟨x0,x1,x2,x3,x4⟩,y1,y2,y3,y4⟩:=W5.out.pw.r.cells;obtain ⟨⟨z0,z1,z2,z3⟩, -⟩:=aL N5.out;obtain ⟨⟨n0,n1,n2,n3⟩,g0,g1,g2,g3⟩:=aL W5.out.nb;have W7:=aA (W5.out.next hrb (W5.out.pw.set (s':=aJ q2.2) (o:=1) (v:=.int .i64 ((q2.2.pos:Int)+1)) hfc rfl) (cS (aD.refl _ _) 1 _));have R7:=aA (R5.out.keptS (cS (aD.refl (· = rb) w5) 1 (.int .i64 ((q2.2.pos:Int)+1))) (fun k hk=>by omega));go_wp2_with fail
 have hres:=aU W7.out.nb (.string q2.1.op) (.string q2.1.nm) (.int .i64 q2.1.n) (.slice ad q2.1.ks.len cc);obtain ⟨⟨d0,d1,d2,d3⟩, -⟩:=aL hres;refine bodyPost_ret (v:=cF q2.1.op q2.1.nm q2.1.n ad q2.1.ks.len cc) (by simp [results,Tryz.results263,go_sem,d0,d1,d2,d3]) rfl ?_;exact PE.put (q:=(q2.1,aJ q2.2)) hrb W7.out.pw W7.out.kp (R7.out.mono (by omega))
theorem Mt (ts:List Tk) (rb:Nat) (a:Option Addr) (c:Nat) (s:RS) (w:World) (h:PW ts rb a c s w) (hb:s.bad=0) (hp:s.pos<ts.length) (hc:s.cnt<=32) (hk2:¬ ts[s.pos].kind=2) (hk1:¬ ts[s.pos].kind=1) (h40:ts[s.pos].text=[40]) (ih:∀ w',PW ts rb a c (aJ s) w'->Calls Tryz.prog 223 #[.pointer (some ⟨rb,0,none⟩)] w' (PE ts rb a c (pE ts .sum (aJ s)) w')) (hbad:(pE ts .sum (aJ s)).2.bad=0) (hsh:isS ts [41] (pE ts .sum (aJ s)).2.pos=false) :
 Calls Tryz.prog 263 #[.pointer (some ⟨rb,0,none⟩)] w (PE ts rb a c (pE ts .fac s) w):=by
 obtain ⟨t,ht⟩:∃ t,ts[s.pos]=t:=⟨_,rfl⟩;rw [ht] at hk2 hk1 h40;have h45:¬ t.text=[45]:=by rw [h40];decide
 have e:pE ts .fac s=((pE ts .sum (aJ s)).1,dN ts (pE ts .sum (aJ s)).2):=by rw [iR,if_pos hb,rY hp,ht];simp only;rw [if_neg hk2,if_neg hk1,if_neg h45,if_pos h40]
 rw [e];clear e;have TOP:=lR ts .sum (aJ s) hb (by show s.pos+1<=ts.length;omega) hc;have hfs:lQ ts.length (aJ s):=⟨fun _=>by show s.pos+1<=ts.length;omega,by show s.pos+1<=_;omega,by show s.cnt<=33;omega,h.f.2.2.2⟩;obtain ⟨q2,hq2⟩:∃ q2,pE ts .sum (aJ s)=q2:=⟨_,rfl⟩;rw [hq2] at ih TOP |-
 rw [hq2] at hbad hsh;have ec:dN ts q2.2=aJ (aM 2 q2.2):=by unfold dN;rw [hbad,hsh];rfl
 rw [ec];have T3:=TOP.2.2 hbad;have hfc:lQ ts.length (aJ (aM 2 q2.2)):=⟨fun x=>absurd x (mP 2 (by decide) q2.2),by show (aM 2 q2.2).pos+1<=_;rw [kZ];have h1:=TOP.1;have h2:(aJ s).pos=s.pos+1:=rfl;omega,by show (aM 2 q2.2).cnt<=33;unfold aM;split <;> exact TOP.2.1,h.f.2.2.2⟩;have hcp2:((aM 2 q2.2).pos:Int)+1<=9223372036854775807:=by rw [kZ];have:=h.f.2.2.2;omega
 have qb:((q2.2.bad:Int) == 0)=true:=by rw [hbad];rfl
 clear hbad ec;have q:((s.bad:Int) != 0)=false:=by rw [hb];rfl
 have K1:=aE (bA0 w (ndO ⟨#[]⟩ ⟨#[]⟩ 0 none 0 0)) (· = rb);have H1:=h.below (bA0 w (ndO ⟨#[]⟩ ⟨#[]⟩ 0 none 0 0));obtain ⟨⟨c0,c1,c2,c3,c4⟩,f1,f2,f3,f4⟩:=H1.r.cells;obtain ⟨b,off,ha,hbr,p0,p1,p2,p3⟩:=aY H1.t hp;rw [ht] at p0 p1 p2 p3;obtain ⟨X,hX⟩:∃ X:ByteArray,⟨t.text.toArray⟩=X:=⟨_,rfl⟩;rw [hX] at p1;have hXl:X.data.toList=t.text:=by rw [<- hX]
 have HX:=aA hX;subst ha;have H:=aA H1;have K:=aA K1;have hrb:=h.r.lt;have hfine:=h.f;have NB:=heap_alloc_new w (ndO ⟨#[]⟩ ⟨#[]⟩ 0 none 0 0);have hsz:(w.alloc (ndO ⟨#[]⟩ ⟨#[]⟩ 0 none 0 0)).heap.size=w.heap.size+1:=World.size_alloc _ _;generalize hW:w.alloc (ndO ⟨#[]⟩ ⟨#[]⟩ 0 none 0 0)=W at *;have a1:decide (ts.length<=s.pos)=false:=decide_eq_false (by omega);have a2:decide ((ts.length:Int)<=(s.pos:Int))=false:=decide_eq_false (by omega);have a3:(s.pos:Int)<(ts.length:Int):=by omega
 have a4:(0:Int)<=(s.pos:Int):=by omega
 have a5:((s.pos:Int)).toNat=s.pos:=by omega
 have NB:=aA NB;have k1:(t.kind == 2)=false:=beq_eq_false_iff_ne.2 hk2;have k2:(t.kind == 1)=false:=beq_eq_false_iff_ne.2 hk1;have k3:(X.toList == [45])=false:=by rw [Lib.toList_data,hXl];exact beq_eq_false_iff_ne.2 h45
 have k4:(X.toList == [40])=true:=by rw [Lib.toList_data,hXl];exact beq_iff_eq.2 h40
 have IH:=aA ih;have hsp:(s.pos:Int)+1<=9223372036854775807:=by have:=hfine.2.2.2;omega
 have hcp:(q2.2.pos:Int)+1<=9223372036854775807:=by have:=TOP.1;have:=hfine.2.2.2;omega
 clear hk2 hk1 h40 h45 ih;have hb:=aA hb;clear h H1 K1 hX;go_enter Tryz.func263,Tryz.ntmps263
 go_wp2_with fail
 clear hW;go_wp2_with (go_quiet (fail))
 have HD:=H.out.kept ((aD.refl (fun _=>False) W).drewN nq);have KD:=aA (show aD (· = rb) w (W.drewN nq) from K.out.drewN nq);have NBD:=aA (show (W.drewN nq).heap[w.heap.size]? = some (ndO ⟨#[]⟩ ⟨#[]⟩ 0 none 0 0) from NB.out);have hsz2:(W.drewN nq).heap.size=w.heap.size+1:=hsz;generalize W.drewN nq=V at HD KD NBD hsz2 |-
 obtain ⟨⟨e0,e1,e2,e3,e4⟩, -⟩:=HD.r.cells;obtain ⟨b',off',ha', -,r0,r1,r2,r3⟩:=aY HD.t hp;cases ha';rw [ht] at r0 r1 r2 r3;rw [HX.out] at r1;have HA:=HD.below (bA0 V (.cells #[.int .i64 0,.string ⟨#[]⟩,.int .i64 0,.int .i64 0] 128));obtain ⟨⟨x0,x1,x2,x3,x4⟩, -⟩:=HA.r.cells;obtain ⟨b',off',ha', -,y0,y1,y2,y3⟩:=aY HA.t hp;cases ha';rw [ht] at y0 y1 y2 y3;rw [HX.out] at y1;have HV:=aA HD;clear HD HA p0 p1 p2 p3 c0 c1 c2 c3 c4 f1 f2 f3 f4 H K NB hsz;go_region
 have W1:=aA (show FW ts rb (some ⟨b,off,none⟩) c s w t.kind X t.num t.place (V.alloc (.cells #[.int .i64 t.kind,.string X,.int .i64 t.num,.int .i64 t.place] 128)).drew from
  ⟨(HV.out.below (bA0 V _)).kept ((aD.refl (fun _=>False) _).drew),(KD.out.alloc _).drew,(Below.heap_alloc V _ _ (by omega)).trans NBD.out,by rw [<- hsz2];exact heap_alloc_new V _⟩)
 generalize (V.alloc (.cells #[.int .i64 t.kind,.string X,.int .i64 t.num,.int .i64 t.place] 128)).drew=U at W1 |-
 clear x0 x1 x2 x3 x4 y0 y1 y2 y3 r0 r1 r2 r3 e0 e1 e2 e3 e4 HV KD NBD hsz2;obtain ⟨⟨m0,m1,m2,m3⟩, -⟩:=aL W1.out.tb;obtain ⟨⟨x0,x1,x2,x3,x4⟩,y1,y2,y3,y4⟩:=W1.out.pw.r.cells;have WS:=aA (W1.out.next hrb (W1.out.pw.set (s':=aJ s) (o:=1) (v:=.int .i64 ((s.pos:Int)+1)) hfs rfl) (cS (aD.refl _ _) 1 _));have C2:=aA (IH.out _ WS.out.pw);go_wp2_with fail
 generalize hU2:U.setCell ⟨rb,1,none⟩ (.int .i64 ((s.pos:Int)+1))=U2 at *;refine C2.out.mono ?_;rintro e w2 ⟨ad,cc,rfl,h2,hk2,hr2⟩;have W3:=aA (WS.out.next hrb h2 hk2);have R3:=aA (hr2.mono (show w.heap.size+2<=U2.heap.size from WS.out.lt));have hsz3:=W3.out.lt;have BN:=bA0 w2 (ndO q2.1.op q2.1.nm q2.1.n ad q2.1.ks.len cc);have hnew:=aA (heap_alloc_new w2 (ndO q2.1.op q2.1.nm q2.1.n ad q2.1.ks.len cc));have W4:=aA (W3.out.next hrb (h2.below BN) (aE BN _));have R4:=aA (R3.out.kept BN);have hs4:(w2.alloc (ndO q2.1.op q2.1.nm q2.1.n ad q2.1.ks.len cc)).heap.size=w2.heap.size+1:=World.size_alloc _ _;clear h2 hk2 hr2 C2 x0 x1 x2 x3 x4 y1 y2 y3 y4 m0 m1 m2 m3 W1 WS BN hU2;generalize hV4:w2.alloc (ndO q2.1.op q2.1.nm q2.1.n ad q2.1.ks.len cc)=V4 at *;obtain ⟨⟨x0,x1,x2,x3,x4⟩,y1,y2,y3,y4⟩:=W4.out.pw.r.cells;have CI:=aA (p:=Calls Tryz.prog 123 #[.pointer (some ⟨rb,0,none⟩),.string ⟨#[41]⟩] V4 fun e w'=>e=.returned (.bool false)/\aD (fun _=>False) V4 w') (by have:=F8 ts rb (some ⟨b,off,none⟩) c q2.2 ⟨#[41]⟩ V4 W4.out.pw;rwa [show isS ts (⟨#[41]⟩:ByteArray).data.toList q2.2.pos=false from hsh] at this);go_wp2_with fail
 refine CI.out.mono ?_;rintro e w5 ⟨rfl,hk5⟩;have W5:=aA (W4.out.next hrb (W4.out.pw.kept hk5) (hk5.mono (fun _ h _=>h.elim)));have R5:=aA (R4.out.keptS hk5 (fun _ h=>h.elim));have N5:=aA (show w5.heap[w2.heap.size]? = some (ndO q2.1.op q2.1.nm q2.1.n ad q2.1.ks.len cc) from hk5.heap hnew.out (fun h=>h));clear hk5 CI x0 x1 x2 x3 x4 y1 y2 y3 y4;have CF:=aA (dB ts rb (some ⟨b,off,none⟩) c q2.2 2 (by decide) w5 W5.out.pw);go_wp2_with fail
 refine CF.out.mono ?_;rintro e w6 ⟨rfl,h6,hk6⟩;have W6:=aA (W5.out.next hrb h6 hk6);have R6:=aA (R5.out.keptS hk6 (fun k hk=>by omega));have N6:=aA (show w6.heap[w2.heap.size]? = some (ndO q2.1.op q2.1.nm q2.1.n ad q2.1.ks.len cc) from hk6.heap N5.out (by show ¬ w2.heap.size=rb;omega));clear h6 hk6 CF;obtain ⟨⟨x0,x1,x2,x3,x4⟩,y1,y2,y3,y4⟩:=W6.out.pw.r.cells;obtain ⟨⟨z0,z1,z2,z3⟩, -⟩:=aL N6.out;obtain ⟨⟨n0,n1,n2,n3⟩,g0,g1,g2,g3⟩:=aL W6.out.nb;have W7:=aA (W6.out.next hrb (W6.out.pw.set (s':=aJ (aM 2 q2.2)) (o:=1) (v:=.int .i64 (((aM 2 q2.2).pos:Int)+1)) hfc rfl) (cS (aD.refl _ _) 1 _));have R7:=aA (R6.out.keptS (cS (aD.refl (· = rb) w6) 1 (.int .i64 (((aM 2 q2.2).pos:Int)+1))) (fun k hk=>by omega));go_wp2_with fail
 have hres:=aU W7.out.nb (.string q2.1.op) (.string q2.1.nm) (.int .i64 q2.1.n) (.slice ad q2.1.ks.len cc);obtain ⟨⟨d0,d1,d2,d3⟩, -⟩:=aL hres;refine bodyPost_ret (v:=cF q2.1.op q2.1.nm q2.1.n ad q2.1.ks.len cc) (by simp [results,Tryz.results263,go_sem,d0,d1,d2,d3]) rfl ?_;exact PE.put (q:=(q2.1,aJ (aM 2 q2.2))) hrb W7.out.pw W7.out.kp (R7.out.mono (by omega))
end
end
end Go.Proofs.YtgfkjkokmcejbaaGreatDoor
