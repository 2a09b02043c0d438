/-
 No statement: what ProgLinesLift needs, of the texts OE12, OE13, HMath, HHolds, QMath, QFine, QMem, QExpr, QBox, QCond.
-/
import Derived.Test.YtgfkjkokmcejbaaGreatDoorVL4
set_option maxHeartbeats 40000000
set_option maxRecDepth 100000
namespace Go.Proofs.YtgfkjkokmcejbaaGreatDoor
open Go.RowKit
section
section
open Go.RowKit
end
section
open Go.RowKit
end
section
open Go.RowKit
theorem cW (t:TN):aK t=0 ↔ OkT t/\aH t<=32:=by
 unfold aK OkT;have h:=Ay t;by_cases k:pW t.ks 31<0
 · rw [if_pos k]
   exact ⟨fun e=>absurd e (by decide),fun e=>by have:=h.1 k;omega⟩
 · rw [if_neg k]
   exact ⟨fun e=>⟨e,by have:¬ 32<aH t:=fun x=>k (h.2 x);omega⟩,fun e=>e.1⟩
end
section
open Go.RowKit
def dC (x:Int):Int:=if x < -9223372036854775808 then -9223372036854775808 else if 9223372036854775807<x then 9223372036854775807 else x
theorem lH (x:Int):bU (dC x):=by unfold bU dC;split;omega;split <;> omega
theorem nQ {x:Int} (h:bU x):dC x=x:=by unfold bU at h;unfold dC;rw [if_neg (by omega),if_neg (by omega)]
theorem Ct {x:Int} (h:9223372036854775807<x):dC x=9223372036854775807:=by unfold dC;rw [if_neg (by omega),if_pos h]
theorem Cs {x:Int} (h:x < -9223372036854775808):dC x= -9223372036854775808:=by unfold dC;rw [if_pos h]
theorem Ei {x:Int} (h:9223372036854775807<x) (h':x<=18446744073709551615):wrap64 x=x-18446744073709551616:=by unfold wrap64;omega
theorem xR {x:Int} (h:x < -9223372036854775808) (h': -18446744073709551616<=x):wrap64 x=x+18446744073709551616:=by unfold wrap64;omega
theorem qC {x:Int} (h:bU x):wrap64 x=x:=by unfold bU at h;unfold wrap64;omega
theorem Mh {a b:Int} {c:Bool} (h:a=b):Ending.returned (.tuple #[.int .i64 a,.bool c])=.returned (.tuple #[.int .i64 b,.bool c]):=by rw [h]
theorem fM {a b:Int} (h:a=b):Ending.returned (.int .i64 a)=.returned (.int .i64 b):=by rw [h]
theorem qJ {a b:Int} (ha:bU a) (h0:¬ b=0) (h:a= -9223372036854775808->¬ b= -1):bU (a.tdiv b):=by
 unfold bU at *;have e:(a.tdiv b).natAbs=a.natAbs / b.natAbs:=Int.natAbs_tdiv a b;by_cases h1:b=1
 · rw [h1,Int.tdiv_one];exact ha
 by_cases h2:b= -1
 · rw [h2,Int.tdiv_neg,Int.tdiv_one]
   have:¬ a= -9223372036854775808:=fun x=>h x h2
   omega
 have hb:2<=b.natAbs:=by omega
 have hle:a.natAbs / b.natAbs<=a.natAbs / 2:=Nat.div_le_div_left hb (by decide);rw [<- e] at hle;omega
theorem xY {a b:Int} (ha:a= -9223372036854775808) (hb:b= -1):(9223372036854775807:Int)=dC (a.tdiv b):=by
 rw [ha,hb];decide
theorem A6 {a b:Int} (ha:a= -9223372036854775808) (h0:¬ b=0) (h:(b == -1)=false):wrap64 (-Int.tdiv 9223372036854775808 b)=dC (a.tdiv b):=by
 have hi:=qJ (a:=a) (b:=b) ⟨by omega,by omega⟩ h0 (fun _=>by simpa using h);have e: -Int.tdiv 9223372036854775808 b=a.tdiv b:=by rw [ha,Int.neg_tdiv]
 rw [nQ hi,e,qC hi]
theorem jF (b:Bool) (w:World):Calls Tryz.prog 141 #[.bool b] w fun e w'=>e=.returned (.int .i64 (if b then -9223372036854775808 else 9223372036854775807))/\w=w':=by
 cases b
 all_goals
  go_enter Tryz.func141,Tryz.ntmps141
  go_wp2_with fail
  go_ret;exact ⟨rfl,rfl⟩
theorem AO (a b:Int) (w:World) (ha:bU a) (hb:bU b):Calls Tryz.prog 87 #[.int .i64 a,.int .i64 b] w fun e w'=>e=.returned (.int .i64 (dC (a+b)))/\w=w':=by
 obtain ⟨a1,a2⟩:=ha;obtain ⟨b1,b2⟩:=hb;obtain ⟨s,hs⟩:∃ s,wrap64 (a+b)=s:=⟨_,rfl⟩;by_cases hi:9223372036854775807<a+b
 · have h1:decide (a<0)=false:=by simp;omega
   have h2:decide (b<0)=false:=by simp;omega
   have h3:decide (s<0)=true:=by rw [<- hs,Ei hi (by omega)];simp;omega
   rw [Ct hi];clear hi a1 a2 b1 b2;go_enter Tryz.func87,Tryz.ntmps87
   go_wp2_with (go_at_call 141;refine (jF _ _).mono ?_;rintro e w' ⟨rfl,rfl⟩)
   go_ret;exact ⟨rfl,rfl⟩
 by_cases lo:a+b < -9223372036854775808
 · have h1:decide (a<0)=true:=by simp;omega
   have h2:decide (b<0)=true:=by simp;omega
   have h3:decide (s<0)=false:=by rw [<- hs,xR lo (by omega)];simp;omega
   rw [Cs lo];clear hi lo a1 a2 b1 b2;go_enter Tryz.func87,Tryz.ntmps87
   go_wp2_with (go_at_call 141;refine (jF _ _).mono ?_;rintro e w' ⟨rfl,rfl⟩)
   go_ret;exact ⟨rfl,rfl⟩
 have hc:bU (a+b):=⟨by omega,by omega⟩;obtain rfl:a+b=s:=(qC hc).symm.trans hs;rw [nQ hc];clear hs;obtain ⟨c1,c2⟩:=hc;by_cases x:a<0 <;> by_cases y:b<0 <;> by_cases z:a+b<0
 all_goals first | (exfalso;omega) | skip
 all_goals
  go_enter Tryz.func87,Tryz.ntmps87
  go_wp2_with fail
  go_ret;exact ⟨rfl,rfl⟩
theorem AK (a b:Int) (w:World) (ha:bU a) (hb:bU b):Calls Tryz.prog 254 #[.int .i64 a,.int .i64 b] w fun e w'=>e=.returned (.int .i64 (dC (a-b)))/\w=w':=by
 obtain ⟨a1,a2⟩:=ha;obtain ⟨b1,b2⟩:=hb;obtain ⟨s,hs⟩:∃ s,wrap64 (a-b)=s:=⟨_,rfl⟩;by_cases hi:9223372036854775807<a-b
 · have h1:decide (a<0)=false:=by simp;omega
   have h2:decide (b<0)=true:=by simp;omega
   have h3:decide (s<0)=true:=by rw [<- hs,Ei hi (by omega)];simp;omega
   rw [Ct hi];clear hi a1 a2 b1 b2;go_enter Tryz.func254,Tryz.ntmps254
   go_wp2_with (go_at_call 141;refine (jF _ _).mono ?_;rintro e w' ⟨rfl,rfl⟩)
   go_ret;exact ⟨rfl,rfl⟩
 by_cases lo:a-b < -9223372036854775808
 · have h1:decide (a<0)=true:=by simp;omega
   have h2:decide (b<0)=false:=by simp;omega
   have h3:decide (s<0)=false:=by rw [<- hs,xR lo (by omega)];simp;omega
   rw [Cs lo];clear hi lo a1 a2 b1 b2;go_enter Tryz.func254,Tryz.ntmps254
   go_wp2_with (go_at_call 141;refine (jF _ _).mono ?_;rintro e w' ⟨rfl,rfl⟩)
   go_ret;exact ⟨rfl,rfl⟩
 have hc:bU (a-b):=⟨by omega,by omega⟩;obtain rfl:a-b=s:=(qC hc).symm.trans hs;rw [nQ hc];clear hs;obtain ⟨c1,c2⟩:=hc;by_cases x:a<0 <;> by_cases y:b<0 <;> by_cases z:a-b<0
 all_goals first | (exfalso;omega) | skip
 all_goals
  go_enter Tryz.func254,Tryz.ntmps254
  go_wp2_with fail
  go_ret;exact ⟨rfl,rfl⟩
theorem AN (a:Int) (w:World):Calls Tryz.prog 268 #[.int .i64 a,.int .i64 0] w fun e w'=>e=.returned (.tuple #[.int .i64 0,.bool false])/\w=w':=by
 go_enter Tryz.func268,Tryz.ntmps268
 go_wp2_with fail
 go_ret2;exact ⟨rfl,rfl⟩
theorem Hp (a b:Int) (w:World) (ha:bU a) (hb:bU b) (h0:¬ b=0):Calls Tryz.prog 268 #[.int .i64 a,.int .i64 b] w fun e w'=>e=.returned (.tuple #[.int .i64 (dC (a.tdiv b)),.bool true])/\w=w':=by
 obtain ⟨a1,a2⟩:=ha;obtain ⟨b1,b2⟩:=hb;have h0':(b == 0)=false:=by simpa using h0
 go_enter Tryz.func268,Tryz.ntmps268
 go_wp2_with fail
 all_goals
  go_ret2;refine ⟨Mh ?_,rfl⟩
  first
   | rfl
   | exact xY ‹_› (by have h:(b == -1)=true:= ‹_›;simpa using h)
   | exact A6 ‹_› h0 ‹_›
   | (rw [nQ (qJ ⟨by omega, by omega⟩ h0 (fun h => absurd h ‹_›))]
      exact qC (qJ ⟨by omega,by omega⟩ h0 (fun h=>absurd h ‹_›)))
   | (obtain rfl : b = -1 := by have h : (b == -1) = true := ‹_›; simpa using h
      rw [Int.tmod_neg,Int.tmod_one])
   | trace_state
theorem AM (a:Int) (w:World):Calls Tryz.prog 269 #[.int .i64 a,.int .i64 0] w fun e w'=>e=.returned (.tuple #[.int .i64 0,.bool false])/\w=w':=by
 go_enter Tryz.func269,Tryz.ntmps269
 go_wp2_with fail
 go_ret2;exact ⟨rfl,rfl⟩
theorem Ho (a b:Int) (w:World) (ha:bU a) (hb:bU b) (h0:¬ b=0):Calls Tryz.prog 269 #[.int .i64 a,.int .i64 b] w fun e w'=>e=.returned (.tuple #[.int .i64 (a.tmod b),.bool true])/\w=w':=by
 obtain ⟨a1,a2⟩:=ha;obtain ⟨b1,b2⟩:=hb;have h0':(b == 0)=false:=by simpa using h0
 go_enter Tryz.func269,Tryz.ntmps269
 go_wp2_with fail
 all_goals
  go_ret2;refine ⟨Mh ?_,rfl⟩
  first
   | rfl
   | exact xY ‹_› (by have h:(b == -1)=true:= ‹_›;simpa using h)
   | exact A6 ‹_› h0 ‹_›
   | (rw [nQ (qJ ⟨by omega, by omega⟩ h0 (fun h => absurd h ‹_›))]
      exact qC (qJ ⟨by omega,by omega⟩ h0 (fun h=>absurd h ‹_›)))
   | (obtain rfl : b = -1 := by have h : (b == -1) = true := ‹_›; simpa using h
      rw [Int.tmod_neg,Int.tmod_one])
   | trace_state
theorem Bm {a b:Int} (h:a=b):Ending.returned (.int .u64 a)=.returned (.int .u64 b):=by rw [h]
theorem Mp {a:Int} (h:a<0) (a1: -9223372036854775808<=a):IntKind.u64.wrap (-IntKind.u64.wrap a)=(a.natAbs:Nat):=by
 simp only [IntKind.wrap,IntKind.signed,IntKind.bits];simp;omega
theorem Bg (a:Int) (w:World) (ha:bU a):Calls Tryz.prog 285 #[.int .i64 a] w fun e w'=>e=.returned (.int .u64 (a.natAbs:Nat))/\w=w':=by
 obtain ⟨a1,a2⟩:=ha;by_cases h:a<0
 · go_enter Tryz.func285,Tryz.ntmps285
   go_wp2_with fail
   go_ret;exact ⟨Bm (Mp h a1),rfl⟩
 · go_enter Tryz.func285,Tryz.ntmps285
   go_wp2_with fail
   go_ret;exact ⟨Bm (by omega),rfl⟩
end
section
open Go.RowKit
theorem FU (x y:Nat) (hx:x<18446744073709551616) (hy:y<18446744073709551616) (H L:Int) (hH:((x*y / 18446744073709551616:Nat):Int)=H) (hL:((x*y % 18446744073709551616:Nat):Int)=L) (w:World) :
 Calls Tryz.prog 284 #[.int .u64 x,.int .u64 y] w fun e w'=>e=.returned (.tuple #[.int .u64 H,.int .u64 L])/\w=w':=by
 subst hH;subst hL;exact (Tryz.bits_Mul64 x y hx hy w).mono fun e w' ⟨h,k⟩=>⟨h,k.symm⟩
theorem Dz (a b:Int):a*b=if a<0 then (if b<0 then ((a.natAbs*b.natAbs:Nat):Int) else -((a.natAbs*b.natAbs:Nat):Int)) else (if b<0 then -((a.natAbs*b.natAbs:Nat):Int) else ((a.natAbs*b.natAbs:Nat):Int)):=by
 rw [Int.natCast_mul];split <;> split
 · rw [show (a.natAbs:Int)= -a by omega,show (b.natAbs:Int)= -b by omega,Int.neg_mul_neg]
 · rw [show (a.natAbs:Int)= -a by omega,show (b.natAbs:Int)=b by omega,Int.neg_mul,Int.neg_neg]
 · rw [show (a.natAbs:Int)=a by omega,show (b.natAbs:Int)= -b by omega,Int.mul_neg,Int.neg_neg]
 · rw [show (a.natAbs:Int)=a by omega,show (b.natAbs:Int)=b by omega]
theorem yC {a b:Int} (h:a<0/\b<0\/0<=a/\0<=b):decide (a<0)=decide (b<0):=by
 rcases h with ⟨h,k⟩ | ⟨h,k⟩
 · rw [decide_eq_true h,decide_eq_true k]
 · rw [decide_eq_false (by omega),decide_eq_false (by omega)]
theorem uZ {a b:Int} (h:a<0/\0<=b\/0<=a/\b<0):¬ decide (a<0)=decide (b<0):=by
 rcases h with ⟨h,k⟩ | ⟨h,k⟩
 · rw [decide_eq_true h,decide_eq_false (by omega)];decide
 · rw [decide_eq_false (by omega),decide_eq_true k];decide
theorem Hn (a b:Int) (w:World) (ha:bU a) (hb:bU b):Calls Tryz.prog 267 #[.int .i64 a,.int .i64 b] w fun e w'=>e=.returned (.int .i64 (dC (a*b)))/\w=w':=by
 have hm:=Dz a b;have hx:a.natAbs<18446744073709551616:=by unfold bU at ha;omega
 have hy:b.natAbs<18446744073709551616:=by unfold bU at hb;omega
 have hb':a.natAbs*b.natAbs<=9223372036854775808*9223372036854775808:=Nat.mul_le_mul (by unfold bU at ha;omega) (by unfold bU at hb;omega);obtain ⟨N,hN⟩:∃ N:Nat,a.natAbs*b.natAbs=N:=⟨_,rfl⟩;rw [hN] at hm hb';obtain ⟨H,hH⟩:∃ H:Int,((a.natAbs*b.natAbs / 18446744073709551616:Nat):Int)=H:=⟨_,rfl⟩;obtain ⟨L,hL⟩:∃ L:Int,((a.natAbs*b.natAbs % 18446744073709551616:Nat):Int)=L:=⟨_,rfl⟩;have hH':((N / 18446744073709551616:Nat):Int)=H:=by rw [<- hN];exact hH
 have hL':((N % 18446744073709551616:Nat):Int)=L:=by rw [<- hN];exact hL
 have C:=fun w=>FU a.natAbs b.natAbs hx hy H L hH hL w
 have A:=fun w=>Bg a w ha
 have B:=fun w=>Bg b w hb
 have R:dC (a*b)=if N<=9223372036854775807 then (if decide (a<0)=decide (b<0) then L else -L) else (if decide (a<0)=decide (b<0) then 9223372036854775807 else -9223372036854775808):=by
  rw [hm];by_cases a0:a<0 <;> by_cases b0:b<0 <;> simp only [a0,b0,if_true,if_false,decide_true,decide_false,Bool.false_eq_true,Bool.true_eq_false] <;> unfold dC <;> (repeat' split) <;> omega
 have c1:N<=9223372036854775807->H=0/\0<=L/\L<=9223372036854775807:=by omega
 have c2:¬ N<=9223372036854775807->H=0->9223372036854775807<L:=by omega
 have H0:0<=H:=by omega
 have H1:H<18446744073709551616:=by omega
 have L0:0<=L:=by omega
 have L1:L<18446744073709551616:=by omega
 have A1:=aA A;have B1:=aA B;have C1:=aA C;have R1:=aA R;clear A B C R hm hN hH hL hH' hL' ha hb;clear hb' hx hy;by_cases hn:N<=9223372036854775807
 · obtain ⟨rfl, -,k2⟩:=c1 hn
   clear c1 c2;by_cases a0:a<0 <;> by_cases b0:b<0
   all_goals
    go_enter Tryz.func267,Tryz.ntmps267
    go_wp2_with (first | (go_at_call 285;first | ((with_reducible refine (A1.out _).mono ?_);rintro e w' ⟨rfl,rfl⟩) | ((with_reducible refine (B1.out _).mono ?_);rintro e w' ⟨rfl,rfl⟩)) | (go_at_call 284;refine (C1.out _).mono ?_;rintro e w' ⟨rfl,rfl⟩) | (go_at_call 141;refine (jF _ _).mono ?_;rintro e w' ⟨rfl,rfl⟩))
    go_ret;refine ⟨fM ?_,rfl⟩;rw [R1.out,if_pos hn];clear R1 A1 B1 C1
    first
     | (rw [if_pos (yC (by omega))];done)
     | (rw [if_neg (uZ (by omega))];done)
 · replace c2:=c2 hn
   clear c1;by_cases a0:a<0 <;> by_cases b0:b<0 <;> by_cases h0:H=0
   all_goals
    first
     | (have L2 := c2 h0
        subst h0)
     | (have h2 : (H == 0) = false := by simpa using h0
        have h3:(H != 0)=true:=by simpa using h0)
    clear c2;go_enter Tryz.func267,Tryz.ntmps267
    go_wp2_with (first | (go_at_call 285;first | ((with_reducible refine (A1.out _).mono ?_);rintro e w' ⟨rfl,rfl⟩) | ((with_reducible refine (B1.out _).mono ?_);rintro e w' ⟨rfl,rfl⟩)) | (go_at_call 284;refine (C1.out _).mono ?_;rintro e w' ⟨rfl,rfl⟩) | (go_at_call 141;refine (jF _ _).mono ?_;rintro e w' ⟨rfl,rfl⟩))
    go_ret;refine ⟨fM ?_,rfl⟩;rw [R1.out,if_neg hn];clear R1 A1 B1 C1
    first
     | (rw [if_pos (yC (by omega))];done)
     | (rw [if_neg (uZ (by omega))];done)
end
section
open Go.RowKit
end
section
open Go.RowKit
end
section
open Go.RowKit
def MdF:F->Prop
 | .nil=>True
 | .cons _ m n ks r=>m.size<=8/\n<=9223372036854775807/\ks.len<=2/\MdF ks/\MdF r
def mdT (t:TN):Prop:=MdF t.f
theorem t6:mdT aI:=⟨by decide,by decide,by decide,trivial,trivial⟩
theorem MU {v:Int} (h:v<=9223372036854775807):mdT (tT v):=⟨by show (0:Nat)<=8;decide,h,by show (0:Nat)<=2;decide,trivial,trivial⟩
theorem Lf {x:List UInt8} (h:x.length<=8):mdT (eT x):=⟨by show x.toArray.size<=8;rw [List.size_toArray];exact h,by show (0:Int)<=_;decide,by show (0:Nat)<=2;decide,trivial,trivial⟩
theorem MV {k:TN} (h:mdT k):mdT (oU k):=⟨by show (0:Nat)<=8;decide,by show (0:Int)<=_;decide,by show (1:Nat)<=2;decide,h,trivial⟩
theorem IM {o:List UInt8} {a b:TN} (ha:mdT a) (hb:mdT b):mdT (gP o a b) :=
 ⟨by show (0:Nat)<=8;decide,by show (0:Int)<=_;decide,by show (2:Nat)<=2;decide,⟨ha.1,ha.2.1,ha.2.2.1,ha.2.2.2.1,hb⟩,trivial⟩
def Md.made:Md->Prop
 | .prodL n=>mdT n
 | .sumL n=>mdT n
 | _=>True
theorem gC (L:List Tk) (hL:∀ t∈L,cD t):∀ (f:Nat) (md:Md) (s:RS),md.made->mdT (pr L f md s).1
 | 0,md,s,_=>t6
 | f + 1, .fac, s, _ => by
   rw [pr];by_cases hb:s.bad=0
   · rw [if_pos hb]
     cases e:L[s.pos]? with
     | none=>exact t6
     | some t =>
       have hg:=hL t (by rw [<- (List.getElem?_eq_some_iff.1 e).2];exact List.getElem_mem (List.getElem?_eq_some_iff.1 e).1);simp only;by_cases h2:t.kind=2
       · rw [if_pos h2]
         refine MU ?_;rcases hg with ⟨h,_⟩ | ⟨_,_,h⟩ | h
         · rw [h] at h2;exact absurd h2 (by decide)
         · exact h
         · rw [h] at h2;exact absurd h2 (by decide)
       rw [if_neg h2];by_cases h1:t.kind=1
       · rw [if_pos h1]
         refine Lf ?_;rcases hg with ⟨_,h⟩ | ⟨h,_⟩ | h
         · exact vW h
         · rw [h] at h1;exact absurd h1 (by decide)
         · rw [h] at h1;exact absurd h1 (by decide)
       rw [if_neg h1];by_cases h45:t.text=[45]
       · rw [if_pos h45]
         exact MV (gC L hL f .fac _ trivial)
       rw [if_neg h45];by_cases h40:t.text=[40]
       · rw [if_pos h40]
         exact gC L hL f .sum _ trivial
       rw [if_neg h40];exact t6
   · rw [if_neg hb];exact t6
 | f+1,.prod,s,_=>by rw [pr];exact gC L hL f _ _ (gC L hL f .fac s trivial)
 | f + 1, .prodL n, s, hn => by
   rw [pr];split
   · exact gC L hL f _ _ (IM hn (gC L hL f .fac _ trivial))
   · exact hn
 | f+1,.sum,s,_=>by rw [pr];exact gC L hL f _ _ (gC L hL f .prod s trivial)
 | f + 1, .sumL n, s, hn => by
   rw [pr];split
   · exact gC L hL f _ _ (IM hn (gC L hL f .prod _ trivial))
   · exact hn
theorem BI {L:List Tk} (hL:∀ t∈L,cD t) {p q:Nat} {t:TN} (h:ofL L p=.ok t q):mdT t:=by
 unfold ofL at h;split at h
 · cases h
   exact gC L hL _ _ _ trivial
 · cases h
theorem IN:∀ {f:F},MdF f->SzF f
 | .nil,_=>trivial
 | .cons _ _ _ _ _,h=>⟨by have:=h.1;omega,by have:=h.2.2.1;omega,IN h.2.2.2.1,IN h.2.2.2.2⟩
end
section
open Go.RowKit
def J8 (t:TN):Prop:=∀ (G:Nat->Prop) (lb:Nat) (w:World) (a:Option Addr) (c l:Nat),l<=1000->JZ t->(∀ b,G b->b ≠ lb)->WdE lb w->aQ G w a t.ks->w.heap[lb]? = some (.cells #[.int .i64 l] 3 (0,0)) ->
 Calls Tryz.prog 252 #[.pointer (some ⟨lb,0,none⟩),eH t.op t.nm t.n a t.ks.len c,.func (.func 230) #[] #[]] w fun e w'=>aC (· = lb) w w' /\
  (aH t<=l->∃ v,e=.returned (.tuple #[v,.bool true])/\mO (fun b=>w.heap.size<=b) w' t v) /\
  (aH t<=l->w'.heap[lb]? = some (.cells #[.int .i64 ((l-aH t:Nat):Int)] 3 (0,0))) /\
  (¬ aH t<=l->e=.returned (.tuple #[.int .i64 0,.bool false]))
theorem DQ (t:TN) (ih:mM J8 t.ks):J8 t:=by
 intro G lb w a c l hl hpre hG hwd hr hlb;obtain ⟨i0,hi,hz0,hz1,hz2⟩:=info_parts NJ;have und:Tryz.prog.underlying 320=some (.slice 24):=Tryz.underlying320;have hlt:=(Array.getElem?_eq_some_iff.1 hlb).1;have IH:=aA ih;have R:=aA hr;have PRE:=aA hpre;have HG:=aA hG;have WD:=aA hwd;have BA:=bA0 w (ndG t.op t.nm t.n a t.ks.len c);have NB:=heap_alloc_new w (ndG t.op t.nm t.n a t.ks.len c);have LB1:=(BA.block lb hlt).trans hlb;have hs0:(w.alloc (ndG t.op t.nm t.n a t.ks.len c)).heap.size=w.heap.size+1:=World.size_alloc _ _;generalize hW:w.alloc (ndG t.op t.nm t.n a t.ks.len c)=W at BA NB LB1 hs0;have HW:=aA hW;have hsize:aH t=1+cN t.ks:=rfl;have hlen:=vP t.ks;have K1:=(aE BA (· = lb)).setCell (p:=⟨lb,0,none⟩) (.inl rfl) (.int .i64 ((l:Int)-1));have LB2:=EA LB1 (.int .i64 ((l:Int)-1));have NB2:=((aC.refl (· = lb) W).setCell (p:=⟨lb,0,none⟩) (.inl rfl) (.int .i64 ((l:Int)-1))).heap NB (by omega);have hs1:(W.setCell ⟨lb,0,none⟩ (.int .i64 ((l:Int)-1))).heap.size=w.heap.size+1:=by rw [World.size_setCell];exact hs0
 obtain ⟨lc,lf⟩:=kX LB1;by_cases hstop:(l:Int)-1<(t.ks.len:Int)
 · have P:=aA (show ¬ aH t<=l by omega)
   generalize hV:W.setCell ⟨lb,0,none⟩ (.int .i64 ((l:Int)-1))=V at K1 LB2 NB2 hs1;have HV:=aA hV;obtain ⟨lc2, -⟩:=kX LB2;obtain ⟨⟨m0,m1,m2,m3⟩, -⟩:=aL NB2;have HK1:=aA K1;clear hr hpre hG ih hwd hlb hW hV K1 LB1 LB2 NB NB2 BA hsize;go_enter Tryz.func252,Tryz.ntmps252
   go_upto_region 2 with fail
   rw [HW.out];go_upto_region 3 with fail
   rw [HV.out];go_wp2_with (go_quiet (fail))
   go_ret2;exact ⟨HK1.out.drewN _,fun h=>absurd h P.out,fun h=>absurd h P.out,fun _=>rfl⟩
 · obtain ⟨l',rfl⟩:∃ l',l=l'+1:=⟨l-1,by omega⟩
   have hcast:(((l'+1:Nat):Int)-1)=(l':Int):=by omega
   rw [hcast] at K1 LB2 NB2 hs1 hstop;generalize hV:W.setCell ⟨lb,0,none⟩ (.int .i64 (l':Int))=V at K1 LB2 NB2 hs1;have HV:=aA hV;obtain ⟨lc2, -⟩:=kX LB2;obtain ⟨⟨m0,m1,m2,m3⟩, -⟩:=aL NB2;have HK1:=aA K1;have HLB:=aA LB2;have HNB:=aA NB2;have hll:t.ks.len<=l':=by omega
   have b9:¬ (l':Int)<(t.ks.len:Int):=hstop;clear hr hpre hG ih hwd hlb hW hV K1 LB1 LB2 NB NB2 BA hstop hcast;go_enter Tryz.func252,Tryz.ntmps252
   go_upto_region 2 with fail
   rw [HW.out];go_upto_region 3 with fail
   rw [HV.out];go_upto_region 5 with (go_quiet (fail))
   have HK2:=aA (HK1.out.drewN nq);have HLB2:=aA (show (V.drewN nq).heap[lb]? = _ from HLB.out);have HNB2:=aA (show (V.drewN nq).heap[w.heap.size]? = _ from HNB.out);have hsV:(V.drewN nq).heap.size=w.heap.size+1:=hs1;have n3:(V.drewN nq).cell? ⟨w.heap.size,3,none⟩=some (.slice a t.ks.len c):=m3;generalize V.drewN nq=U at HK2 HLB2 HNB2 hsV n3 |-
   clear m0 m1 m2 m3 lc lf lc2 HW HV HK1 HLB HNB;go_wp2_with fail
   go_loopw [9,30] (fun kv i wr=>∃ (k x:Nat) (va:Option Addr) (vc:Nat) (vs:List Value),kv=.slice va k vc/\i=.int .i64 k/\k<=t.ks.len/\x+cN t.ks=l'+cN (t.ks.drop k)/\Hid (wr.ownsRow (w.heap.size+1) 24 1 (.slice va k vc) k vs) /\
    Hid (∀ j t2,j<k->t.ks.at j=some t2->∃ v,vs[j]? = some v/\mO (fun b=>w.heap.size+1<=b/\(Value.slice va k vc).ownBlock ≠ some b) wr t2 v)/\Hid (wr.heap[lb]? = some (.cells #[.int .i64 x] 3 (0,0)))/\Hid (aC (· = lb) w wr)/\Hid (wr.heap[w.heap.size]? = some (ndG t.op t.nm t.n a t.ks.len c))) (fun _ i _=>t.ks.len-(intOf i).toNat)
   case atStart=>exact ⟨0,l',none,0,[],rfl,rfl,Nat.zero_le _,by rw [F.drop_zero],aA (World.ownsRow_nil _ _ _ _),aA (fun _ _ h=>absurd h (Nat.not_lt_zero _)),HLB2,HK2,HNB2⟩
   case round =>
    obtain ⟨k,x,va,vc,vs,rfl,rfl,hk,hx,hO,hV,hL,hK,hN⟩:=hrel;clear n3;obtain ⟨⟨m0,m1,m2,m3⟩, -⟩:=aL hN.out;have hz:=hK.out.size;by_cases hkl:k<t.ks.len
    · obtain ⟨t2,hat, -⟩:=rK hkl
      have hsd:=yA hat;have hdl:=lO t.ks k;obtain ⟨b,off,a2,c2,ha,hGb,hbl,⟨p0,p1,p2,p3⟩,hr2⟩:=kQ (R.out.keptS hK.out (fun q hq hg=>HG.out q hg hq)) hat;subst ha;have hN1:w.heap.size<wr.heap.size:=(Array.getElem?_eq_some_iff.1 hN.out).1;have BA:=bA0 wr (ndG t2.op t2.nm t2.n a2 t2.ks.len c2);have NB:=heap_alloc_new wr (ndG t2.op t2.nm t2.n a2 t2.ks.len c2);have hs2:(wr.alloc (ndG t2.op t2.nm t2.n a2 t2.ks.len c2)).heap.size=wr.heap.size+1:=World.size_alloc _ _;generalize hX:wr.alloc (ndG t2.op t2.nm t2.n a2 t2.ks.len c2)=Z at BA NB hs2;have HX:=aA hX;have CF:=aA ((mM.at IH.out hat) G lb Z a2 c2 x (by omega) (Nt PRE.out hat) HG.out (wdE WD.out (hK.out.trans (aE BA (· = lb)) (fun _ h _=>h))) (hr2.kept BA) ((BA.block lb (by omega)).trans hL.out));have HAT:=aA hat;have HBA:=aA BA;have OZ:=aA (cI hO.out BA);obtain ⟨⟨z0,z1,z2,z3⟩, -⟩:=aL NB;clear hX BA NB hr2 hat hGb;go_upto_region 9 with fail
      rw [HX.out];clear p0 p1 p2 p3 m0 m1 m2 m3;go_wp2_with fail
      refine CF.out.mono ?_;rintro e w2 ⟨k2,hA1,hA2,hB⟩;have hzk2:=k2.size;have K2:=aA (hK.out.trans ((aE HBA.out (· = lb)).trans k2 (fun _ h _=>h)) (fun _ h _=>h));have N2:=aA (k2.heap ((HBA.out.block w.heap.size (by omega)).trans hN.out) (by omega));by_cases hfit:aH t2<=x
      · obtain ⟨v,rfl,hv⟩:=hA1 hfit
        obtain ⟨z,rfl⟩:=My hv;have L2:=aA (hA2 hfit);have O2:=aA (e7 (row:=some lb) OZ.out (k2.mono (fun i hi _=>by rw [hi])) (fun q hq e=>by have:=(OZ.out.lt q hq).1;have:=Option.some.inj e;omega));have HVV:=aA hv;have hx2:(x-aH t2)+cN t.ks=l'+cN (t.ks.drop (k+1)):=by omega
        have hksz:k+1<=1000:=by omega
        have vone:∀ u∈[(Value.int .i64 z)],u.oneCell'=true:=fun u hu=>by rw [List.mem_singleton.1 hu];exact NY hv
        clear CF hA1 hA2 hB hv hfit z0 z1 z2 z3;go_upto_region 12 with fail
        have BN:=bA0 w2 (.cells #[(Value.int .i64 z)] 24)
        have F2:=aA (show ∀ j u,[(Value.int .i64 z)][j]? = some u->(w2.alloc (.cells #[(Value.int .i64 z)] 24)).cell? ((⟨w2.heap.size,0,none⟩:Addr).add j)=some u from fun j u hj=>by
         rw [Addr.add_lit,Nat.zero_add,cell_of_row _ _ _ _ _ (0,0) (heap_alloc_new w2 _)];simpa using hj)
        have HBN:=aA BN;clear BN;go_wp2_with (at_builtin;refine bC rfl _ _ 320 rfl und hi hz0 hz1 hz2 rfl (by decide) (.slice va k vc) k 1 1 ⟨w2.heap.size,0,none⟩ vs [(Value.int .i64 z)] rfl rfl (cI O2.out HBN.out) rfl F2.out vone (by unfold maxLen;omega) (by omega) (by rw [World.size_alloc];omega) ?_)
        intro v3 w3 ho hg hq;obtain ⟨va3,vc3,rfl⟩:=kW ho;have kg:aC (fun b=>(Value.slice va k vc).ownBlock=some b) w2 w3:=((aC.refl _ w2).alloc _).grown hg (fun q hq=>.inl hq);have hov:∀ q,(Value.slice va k vc).ownBlock=some q->w.heap.size+1<=q/\q<w2.heap.size:=fun q hq=>by have:=O2.out.lt q hq;omega
        have O3:=aA ho;have L3:=aA (kg.heap L2.out (fun e=>by have:=hov lb e;omega));have K3:=aA (K2.out.trans (kg.mono (T:=fun b=>w.heap.size+1<=b) (fun i hi _=>(hov i hi).1)) (fun i hi hlt=>by omega));have N3:=aA (kg.heap N2.out (fun e=>by have:=hov _ e;omega))
        have hnewb:∀ b,b<w2.heap.size->(Value.slice va k vc).ownBlock ≠ some b->(Value.slice va3 (k+1) vc3).ownBlock ≠ some b:=fun b hb hne e=>by
         rcases hq b e with h1 | h1
         · exact hne h1
         · omega
        have V3:=aA (show ∀ j t3,j<k+1->t.ks.at j=some t3->∃ u,(vs++[(Value.int .i64 z)])[j]? = some u/\mO (fun b=>w.heap.size+1<=b/\(Value.slice va3 (k+1) vc3).ownBlock ≠ some b) w3 t3 u from fun j t3 hj hjt=>by
         have hvl:vs.length=k:=by have:=hO.out.1;rwa [Nat.mul_one] at this
         by_cases hjk:j<k
         · obtain ⟨u,hu,hru⟩:=hV.out j t3 hjk hjt
           refine ⟨u,by rw [List.getElem?_append_left (by omega)];exact hu,?_⟩;have r1:=lT (lT hru (aE HBA.out (fun _=>False)) (fun _ h=>h.elim)) k2 (fun q hq hg=>by have:=hg.1;omega);have r2:=kO (H:=fun b=>(w.heap.size+1<=b/\(Value.slice va k vc).ownBlock ≠ some b)/\(Value.slice va3 (k+1) vc3).ownBlock ≠ some b) r1 (fun b hb hg=>⟨hg,hnewb b hb hg.2⟩);exact kO (lT r2 kg (fun q hq hg=>hg.1.2 hq)) (fun b hb hg=>⟨hg.1.1,hg.2⟩)
         · obtain rfl:j=k:=by omega
           have:t3=t2:=by rw [HAT.out] at hjt;exact (Option.some.inj hjt).symm
           subst this;refine ⟨_,by rw [List.getElem?_append_right (by omega),hvl,Nat.sub_self];rfl,?_⟩
           have r2:=kO (H:=fun b=>(w.heap.size+1<=b/\(Value.slice va j vc).ownBlock ≠ some b)/\(Value.slice va3 (j+1) vc3).ownBlock ≠ some b) HVV.out (fun b hb hg=>by
            have hne:(Value.slice va j vc).ownBlock ≠ some b:=fun e=>by have:=(OZ.out.lt b e).2;omega
            exact ⟨⟨by omega,hne⟩,hnewb b hb hne⟩)
           exact kO (lT r2 kg (fun q hq hg=>hg.1.2 hq)) (fun b hb hg=>⟨hg.1.1,hg.2⟩))
        clear ho hg hq kg hov hnewb;go_wp2_with fail
        go_roundw
        case rel=>exact ⟨k+1,x-aH t2,va3,vc3,vs++[(Value.int .i64 z)],rfl,by go_num,by omega,hx2,O3,V3,L3,K3,N3⟩
        case measure=>simp [intOf];omega
      · obtain rfl:=hB hfit
        have P:=aA (show ¬ aH t<=l'+1 by omega);clear CF hA1 hA2 hB hfit z0 z1 z2 z3;go_wp2_with fail
        go_ret2;exact ⟨K2.out,fun h=>absurd h P.out,fun h=>absurd h P.out,fun _=>rfl⟩
    · obtain rfl:k=t.ks.len:=by omega
      have hx2:x+cN t.ks=l':=by rw [hx,F.drop_len _ _ (Nat.le_refl _)];rfl
      have CO:=aA (La t wr G a c va vc vs (w.heap.size+1) PRE.out (wdE WD.out hK.out) (R.out.keptS hK.out (fun q hq hg=>HG.out q hg hq)) hO.out (fun j t2 hj=>hV.out j t2 (Ml hj) hj));go_wp2_with fail
      refine CO.out.mono ?_;rintro e w2 ⟨v,rfl,hv,hb⟩
      have P:=aA (show aC (· = lb) w w2/\mO (fun b=>w.heap.size<=b) w2 t v/\w2.heap[lb]? = some (.cells #[.int .i64 ((l'+1-aH t:Nat):Int)] 3 (0,0))/\aH t<=l'+1 from
       ⟨hK.out.trans (aE hb (· = lb)) (fun _ h _=>h),kO hv (fun b _ hg=>by omega),by rw [hb.block lb (by omega),hL.out,show x=l'+1-aH t by omega],by omega⟩)
      clear hv hb CO m0 m1 m2 m3;go_wp2_with fail
      go_ret2;exact ⟨P.out.1,fun _=>⟨v,rfl,P.out.2.1⟩,fun _=>P.out.2.2.1,fun h=>absurd P.out.2.2.2 h⟩
theorem GM (t:TN):J8 t:=En DQ t
theorem GL (t:TN) (G:Nat->Prop) (w:World) (a:Option Addr) (c:Nat) (hpre:JZ t) (hwd:∀ lb,w.heap.size<=lb->WdE lb w) (hr:aQ G w a t.ks) :
 Calls Tryz.prog 229 #[eH t.op t.nm t.n a t.ks.len c,.func (.func 230) #[] #[]] w fun e w'=>Below w.heap.size w w' /\
  (aH t<=32->∃ v,e=.returned (.tuple #[v,.bool true])/\mO (fun b=>w.heap.size<=b) w' t v)/\(¬ aH t<=32->e=.returned (.tuple #[.int .i64 0,.bool false])):=by
 have BA:=bA0 w (ndG t.op t.nm t.n a t.ks.len c);have NB:=heap_alloc_new w (ndG t.op t.nm t.n a t.ks.len c);have hs0:(w.alloc (ndG t.op t.nm t.n a t.ks.len c)).heap.size=w.heap.size+1:=World.size_alloc _ _;generalize hW:w.alloc (ndG t.op t.nm t.n a t.ks.len c)=W at BA NB hs0;have BB:=bA0 W (.cells #[.int .i64 32] 3);have NC:=heap_alloc_new W (.cells #[.int .i64 32] 3);have hs1:(W.alloc (.cells #[.int .i64 32] 3)).heap.size=w.heap.size+2:=by rw [World.size_alloc];omega
 generalize hV:W.alloc (.cells #[.int .i64 32] 3)=V at BB NC hs1;rw [hs0] at NC;have BV:=BA.trans (BB.mono (by omega));have N2:=(BB.block w.heap.size (by omega)).trans NB;have hGlt:=hr.imp (H:=fun b=>G b/\b<w.heap.size) (fun b hb hg=>⟨hg,hb⟩);have CF:=aA (GM t (fun b=>G b/\b<w.heap.size) (w.heap.size+1) V a c 32 (by omega) hpre (fun b hg=>by omega) (wdE (hwd (w.heap.size+1) (by omega)) (aE BV (fun _=>False) |>.mono (fun _ h _=>h.elim):aC (· = w.heap.size+1) w V)) (hGlt.keptS (aE BV (fun _=>False)) (fun _ h=>h.elim)) NC);have HW:=aA hW;have HV:=aA hV;have HB:=aA BV;obtain ⟨⟨m0,m1,m2,m3⟩, -⟩:=aL N2;clear hW hV BA NB BB NC BV N2 hGlt hr hpre hwd;go_enter Tryz.func229,Tryz.ntmps229
 go_upto_region 1 with fail
 rw [HW.out];go_upto_region 2 with fail
 rw [HV.out];go_wp2_with fail
 refine CF.out.mono ?_;rintro e w2 ⟨k2,hA, -,hB⟩;have B2:=aA (HB.out.trans (aC.below k2 (B:=w.heap.size) (fun q hq=>by omega) (by omega)));by_cases h32:aH t<=32
 · obtain ⟨v,rfl,hv⟩:=hA h32
   have HR:=aA (kO hv (H:=fun b=>w.heap.size<=b) (fun b _ hg=>by omega));have H32:=aA h32;clear k2 hA hB hv h32 CF m0 m1 m2 m3;go_wp2_with fail
   go_ret2;exact ⟨B2.out,fun _=>⟨v,rfl,HR.out⟩,fun h=>absurd H32.out h⟩
 · obtain rfl:=hB h32
   have H32:=aA h32;clear k2 hA hB h32 CF m0 m1 m2 m3;go_wp2_with fail
   go_ret2;exact ⟨B2.out,fun h=>absurd h H32.out,fun _=>rfl⟩
end
end
section
section
open Go.RowKit
def J7 (t:TN):Prop:=∀ (G:Nat->Prop) (lb:Nat) (w:World) (a:Option Addr) (c l:Nat),l<=1000->JY t->(∀ b,G b->b ≠ lb)->WdT lb w->aQ G w a t.ks->w.heap[lb]? = some (.cells #[.int .i64 l] 3 (0,0)) ->
 Calls Tryz.prog 185 #[.pointer (some ⟨lb,0,none⟩),eH t.op t.nm t.n a t.ks.len c,.func (.func 133) #[] #[]] w fun e w'=>aC (· = lb) w w' /\
  (aH t<=l->∃ v,e=.returned (.tuple #[v,.bool true])/\mN (fun b=>w.heap.size<=b) w' t v) /\
  (aH t<=l->w'.heap[lb]? = some (.cells #[.int .i64 ((l-aH t:Nat):Int)] 3 (0,0))) /\
  (¬ aH t<=l->e=.returned (.tuple #[.string ⟨#[]⟩,.bool false]))
theorem DP (t:TN) (ih:mM J7 t.ks):J7 t:=by
 intro G lb w a c l hl hpre hG hwd hr hlb;obtain ⟨i0,hi,hz0,hz1,hz2⟩:=info_parts NI;have und:Tryz.prog.underlying 55=some (.slice 9):=Tryz.underlying55;have hlt:=(Array.getElem?_eq_some_iff.1 hlb).1;have IH:=aA ih;have R:=aA hr;have PRE:=aA hpre;have HG:=aA hG;have WD:=aA hwd;have BA:=bA0 w (ndG t.op t.nm t.n a t.ks.len c);have NB:=heap_alloc_new w (ndG t.op t.nm t.n a t.ks.len c);have LB1:=(BA.block lb hlt).trans hlb;have hs0:(w.alloc (ndG t.op t.nm t.n a t.ks.len c)).heap.size=w.heap.size+1:=World.size_alloc _ _;generalize hW:w.alloc (ndG t.op t.nm t.n a t.ks.len c)=W at BA NB LB1 hs0;have HW:=aA hW;have hsize:aH t=1+cN t.ks:=rfl;have hlen:=vP t.ks;have K1:=(aE BA (· = lb)).setCell (p:=⟨lb,0,none⟩) (.inl rfl) (.int .i64 ((l:Int)-1));have LB2:=EA LB1 (.int .i64 ((l:Int)-1));have NB2:=((aC.refl (· = lb) W).setCell (p:=⟨lb,0,none⟩) (.inl rfl) (.int .i64 ((l:Int)-1))).heap NB (by omega);have hs1:(W.setCell ⟨lb,0,none⟩ (.int .i64 ((l:Int)-1))).heap.size=w.heap.size+1:=by rw [World.size_setCell];exact hs0
 obtain ⟨lc,lf⟩:=kX LB1;by_cases hstop:(l:Int)-1<(t.ks.len:Int)
 · have P:=aA (show ¬ aH t<=l by omega)
   generalize hV:W.setCell ⟨lb,0,none⟩ (.int .i64 ((l:Int)-1))=V at K1 LB2 NB2 hs1;have HV:=aA hV;obtain ⟨lc2, -⟩:=kX LB2;obtain ⟨⟨m0,m1,m2,m3⟩, -⟩:=aL NB2;have HK1:=aA K1;clear hr hpre hG ih hwd hlb hW hV K1 LB1 LB2 NB NB2 BA hsize;go_enter Tryz.func185,Tryz.ntmps185
   go_upto_region 2 with fail
   rw [HW.out];go_upto_region 3 with fail
   rw [HV.out];go_wp2_with (go_quiet (fail))
   go_ret2;exact ⟨HK1.out.drewN _,fun h=>absurd h P.out,fun h=>absurd h P.out,fun _=>rfl⟩
 · obtain ⟨l',rfl⟩:∃ l',l=l'+1:=⟨l-1,by omega⟩
   have hcast:(((l'+1:Nat):Int)-1)=(l':Int):=by omega
   rw [hcast] at K1 LB2 NB2 hs1 hstop;generalize hV:W.setCell ⟨lb,0,none⟩ (.int .i64 (l':Int))=V at K1 LB2 NB2 hs1;have HV:=aA hV;obtain ⟨lc2, -⟩:=kX LB2;obtain ⟨⟨m0,m1,m2,m3⟩, -⟩:=aL NB2;have HK1:=aA K1;have HLB:=aA LB2;have HNB:=aA NB2;have hll:t.ks.len<=l':=by omega
   have b9:¬ (l':Int)<(t.ks.len:Int):=hstop;clear hr hpre hG ih hwd hlb hW hV K1 LB1 LB2 NB NB2 BA hstop hcast;go_enter Tryz.func185,Tryz.ntmps185
   go_upto_region 2 with fail
   rw [HW.out];go_upto_region 3 with fail
   rw [HV.out];go_upto_region 5 with (go_quiet (fail))
   have HK2:=aA (HK1.out.drewN nq);have HLB2:=aA (show (V.drewN nq).heap[lb]? = _ from HLB.out);have HNB2:=aA (show (V.drewN nq).heap[w.heap.size]? = _ from HNB.out);have hsV:(V.drewN nq).heap.size=w.heap.size+1:=hs1;have n3:(V.drewN nq).cell? ⟨w.heap.size,3,none⟩=some (.slice a t.ks.len c):=m3;generalize V.drewN nq=U at HK2 HLB2 HNB2 hsV n3 |-
   clear m0 m1 m2 m3 lc lf lc2 HW HV HK1 HLB HNB;go_wp2_with fail
   go_loopw [9,30] (fun kv i wr=>∃ (k x:Nat) (va:Option Addr) (vc:Nat) (vs:List Value),kv=.slice va k vc/\i=.int .i64 k/\k<=t.ks.len/\x+cN t.ks=l'+cN (t.ks.drop k)/\Hid (wr.ownsRow (w.heap.size+1) 9 1 (.slice va k vc) k vs) /\
    Hid (∀ j t2,j<k->t.ks.at j=some t2->∃ v,vs[j]? = some v/\mN (fun b=>w.heap.size+1<=b/\(Value.slice va k vc).ownBlock ≠ some b) wr t2 v)/\Hid (wr.heap[lb]? = some (.cells #[.int .i64 x] 3 (0,0)))/\Hid (aC (· = lb) w wr)/\Hid (wr.heap[w.heap.size]? = some (ndG t.op t.nm t.n a t.ks.len c))) (fun _ i _=>t.ks.len-(intOf i).toNat)
   case atStart=>exact ⟨0,l',none,0,[],rfl,rfl,Nat.zero_le _,by rw [F.drop_zero],aA (World.ownsRow_nil _ _ _ _),aA (fun _ _ h=>absurd h (Nat.not_lt_zero _)),HLB2,HK2,HNB2⟩
   case round =>
    obtain ⟨k,x,va,vc,vs,rfl,rfl,hk,hx,hO,hV,hL,hK,hN⟩:=hrel;clear n3;obtain ⟨⟨m0,m1,m2,m3⟩, -⟩:=aL hN.out;have hz:=hK.out.size;by_cases hkl:k<t.ks.len
    · obtain ⟨t2,hat, -⟩:=rK hkl
      have hsd:=yA hat;have hdl:=lO t.ks k;obtain ⟨b,off,a2,c2,ha,hGb,hbl,⟨p0,p1,p2,p3⟩,hr2⟩:=kQ (R.out.keptS hK.out (fun q hq hg=>HG.out q hg hq)) hat;subst ha;have hN1:w.heap.size<wr.heap.size:=(Array.getElem?_eq_some_iff.1 hN.out).1;have BA:=bA0 wr (ndG t2.op t2.nm t2.n a2 t2.ks.len c2);have NB:=heap_alloc_new wr (ndG t2.op t2.nm t2.n a2 t2.ks.len c2);have hs2:(wr.alloc (ndG t2.op t2.nm t2.n a2 t2.ks.len c2)).heap.size=wr.heap.size+1:=World.size_alloc _ _;generalize hX:wr.alloc (ndG t2.op t2.nm t2.n a2 t2.ks.len c2)=Z at BA NB hs2;have HX:=aA hX;have CF:=aA ((mM.at IH.out hat) G lb Z a2 c2 x (by omega) (Ns PRE.out hat) HG.out (wdT WD.out (hK.out.trans (aE BA (· = lb)) (fun _ h _=>h))) (hr2.kept BA) ((BA.block lb (by omega)).trans hL.out));have HAT:=aA hat;have HBA:=aA BA;have OZ:=aA (cI hO.out BA);obtain ⟨⟨z0,z1,z2,z3⟩, -⟩:=aL NB;clear hX BA NB hr2 hat hGb;go_upto_region 9 with fail
      rw [HX.out];clear p0 p1 p2 p3 m0 m1 m2 m3;go_wp2_with fail
      refine CF.out.mono ?_;rintro e w2 ⟨k2,hA1,hA2,hB⟩;have hzk2:=k2.size;have K2:=aA (hK.out.trans ((aE HBA.out (· = lb)).trans k2 (fun _ h _=>h)) (fun _ h _=>h));have N2:=aA (k2.heap ((HBA.out.block w.heap.size (by omega)).trans hN.out) (by omega));by_cases hfit:aH t2<=x
      · obtain ⟨v,rfl,hv⟩:=hA1 hfit
        obtain ⟨z,rfl⟩:=Mx hv;have L2:=aA (hA2 hfit);have O2:=aA (e7 (row:=some lb) OZ.out (k2.mono (fun i hi _=>by rw [hi])) (fun q hq e=>by have:=(OZ.out.lt q hq).1;have:=Option.some.inj e;omega));have HVV:=aA hv;have hx2:(x-aH t2)+cN t.ks=l'+cN (t.ks.drop (k+1)):=by omega
        have hksz:k+1<=1000:=by omega
        have vone:∀ u∈[(Value.string z)],u.oneCell'=true:=fun u hu=>by rw [List.mem_singleton.1 hu];exact NT hv
        clear CF hA1 hA2 hB hv hfit z0 z1 z2 z3;go_upto_region 12 with fail
        have BN:=bA0 w2 (.cells #[(Value.string z)] 9)
        have F2:=aA (show ∀ j u,[(Value.string z)][j]? = some u->(w2.alloc (.cells #[(Value.string z)] 9)).cell? ((⟨w2.heap.size,0,none⟩:Addr).add j)=some u from fun j u hj=>by
         rw [Addr.add_lit,Nat.zero_add,cell_of_row _ _ _ _ _ (0,0) (heap_alloc_new w2 _)];simpa using hj)
        have HBN:=aA BN;clear BN;go_wp2_with (at_builtin;refine bC rfl _ _ 55 rfl und hi hz0 hz1 hz2 rfl (by decide) (.slice va k vc) k 1 1 ⟨w2.heap.size,0,none⟩ vs [(Value.string z)] rfl rfl (cI O2.out HBN.out) rfl F2.out vone (by unfold maxLen;omega) (by omega) (by rw [World.size_alloc];omega) ?_)
        intro v3 w3 ho hg hq;obtain ⟨va3,vc3,rfl⟩:=kW ho;have kg:aC (fun b=>(Value.slice va k vc).ownBlock=some b) w2 w3:=((aC.refl _ w2).alloc _).grown hg (fun q hq=>.inl hq);have hov:∀ q,(Value.slice va k vc).ownBlock=some q->w.heap.size+1<=q/\q<w2.heap.size:=fun q hq=>by have:=O2.out.lt q hq;omega
        have O3:=aA ho;have L3:=aA (kg.heap L2.out (fun e=>by have:=hov lb e;omega));have K3:=aA (K2.out.trans (kg.mono (T:=fun b=>w.heap.size+1<=b) (fun i hi _=>(hov i hi).1)) (fun i hi hlt=>by omega));have N3:=aA (kg.heap N2.out (fun e=>by have:=hov _ e;omega))
        have hnewb:∀ b,b<w2.heap.size->(Value.slice va k vc).ownBlock ≠ some b->(Value.slice va3 (k+1) vc3).ownBlock ≠ some b:=fun b hb hne e=>by
         rcases hq b e with h1 | h1
         · exact hne h1
         · omega
        have V3:=aA (show ∀ j t3,j<k+1->t.ks.at j=some t3->∃ u,(vs++[(Value.string z)])[j]? = some u/\mN (fun b=>w.heap.size+1<=b/\(Value.slice va3 (k+1) vc3).ownBlock ≠ some b) w3 t3 u from fun j t3 hj hjt=>by
         have hvl:vs.length=k:=by have:=hO.out.1;rwa [Nat.mul_one] at this
         by_cases hjk:j<k
         · obtain ⟨u,hu,hru⟩:=hV.out j t3 hjk hjt
           refine ⟨u,by rw [List.getElem?_append_left (by omega)];exact hu,?_⟩;have r1:=lS (lS hru (aE HBA.out (fun _=>False)) (fun _ h=>h.elim)) k2 (fun q hq hg=>by have:=hg.1;omega);have r2:=kN (H:=fun b=>(w.heap.size+1<=b/\(Value.slice va k vc).ownBlock ≠ some b)/\(Value.slice va3 (k+1) vc3).ownBlock ≠ some b) r1 (fun b hb hg=>⟨hg,hnewb b hb hg.2⟩);exact kN (lS r2 kg (fun q hq hg=>hg.1.2 hq)) (fun b hb hg=>⟨hg.1.1,hg.2⟩)
         · obtain rfl:j=k:=by omega
           have:t3=t2:=by rw [HAT.out] at hjt;exact (Option.some.inj hjt).symm
           subst this;refine ⟨_,by rw [List.getElem?_append_right (by omega),hvl,Nat.sub_self];rfl,?_⟩
           have r2:=kN (H:=fun b=>(w.heap.size+1<=b/\(Value.slice va j vc).ownBlock ≠ some b)/\(Value.slice va3 (j+1) vc3).ownBlock ≠ some b) HVV.out (fun b hb hg=>by
            have hne:(Value.slice va j vc).ownBlock ≠ some b:=fun e=>by have:=(OZ.out.lt b e).2;omega
            exact ⟨⟨by omega,hne⟩,hnewb b hb hne⟩)
           exact kN (lS r2 kg (fun q hq hg=>hg.1.2 hq)) (fun b hb hg=>⟨hg.1.1,hg.2⟩))
        clear ho hg hq kg hov hnewb;go_wp2_with fail
        go_roundw
        case rel=>exact ⟨k+1,x-aH t2,va3,vc3,vs++[(Value.string z)],rfl,by go_num,by omega,hx2,O3,V3,L3,K3,N3⟩
        case measure=>simp [intOf];omega
      · obtain rfl:=hB hfit
        have P:=aA (show ¬ aH t<=l'+1 by omega);clear CF hA1 hA2 hB hfit z0 z1 z2 z3;go_wp2_with fail
        go_ret2;exact ⟨K2.out,fun h=>absurd h P.out,fun h=>absurd h P.out,fun _=>rfl⟩
    · obtain rfl:k=t.ks.len:=by omega
      have hx2:x+cN t.ks=l':=by rw [hx,F.drop_len _ _ (Nat.le_refl _)];rfl
      have CO:=aA (KZ t wr G a c va vc vs (w.heap.size+1) PRE.out (wdT WD.out hK.out) (R.out.keptS hK.out (fun q hq hg=>HG.out q hg hq)) hO.out (fun j t2 hj=>hV.out j t2 (Ml hj) hj));go_wp2_with fail
      refine CO.out.mono ?_;rintro e w2 ⟨v,rfl,hv,hb⟩
      have P:=aA (show aC (· = lb) w w2/\mN (fun b=>w.heap.size<=b) w2 t v/\w2.heap[lb]? = some (.cells #[.int .i64 ((l'+1-aH t:Nat):Int)] 3 (0,0))/\aH t<=l'+1 from
       ⟨hK.out.trans (aE hb (· = lb)) (fun _ h _=>h),kN hv (fun b _ hg=>by omega),by rw [hb.block lb (by omega),hL.out,show x=l'+1-aH t by omega],by omega⟩)
      clear hv hb CO m0 m1 m2 m3;go_wp2_with fail
      go_ret2;exact ⟨P.out.1,fun _=>⟨v,rfl,P.out.2.1⟩,fun _=>P.out.2.2.1,fun h=>absurd P.out.2.2.2 h⟩
theorem GJ (t:TN):J7 t:=En DP t
theorem GI (t:TN) (G:Nat->Prop) (w:World) (a:Option Addr) (c:Nat) (hpre:JY t) (hwd:∀ lb,w.heap.size<=lb->WdT lb w) (hr:aQ G w a t.ks) :
 Calls Tryz.prog 132 #[eH t.op t.nm t.n a t.ks.len c,.func (.func 133) #[] #[]] w fun e w'=>Below w.heap.size w w' /\
  (aH t<=32->∃ v,e=.returned (.tuple #[v,.bool true])/\mN (fun b=>w.heap.size<=b) w' t v)/\(¬ aH t<=32->e=.returned (.tuple #[.string ⟨#[]⟩,.bool false])):=by
 have BA:=bA0 w (ndG t.op t.nm t.n a t.ks.len c);have NB:=heap_alloc_new w (ndG t.op t.nm t.n a t.ks.len c);have hs0:(w.alloc (ndG t.op t.nm t.n a t.ks.len c)).heap.size=w.heap.size+1:=World.size_alloc _ _;generalize hW:w.alloc (ndG t.op t.nm t.n a t.ks.len c)=W at BA NB hs0;have BB:=bA0 W (.cells #[.int .i64 32] 3);have NC:=heap_alloc_new W (.cells #[.int .i64 32] 3);have hs1:(W.alloc (.cells #[.int .i64 32] 3)).heap.size=w.heap.size+2:=by rw [World.size_alloc];omega
 generalize hV:W.alloc (.cells #[.int .i64 32] 3)=V at BB NC hs1;rw [hs0] at NC;have BV:=BA.trans (BB.mono (by omega));have N2:=(BB.block w.heap.size (by omega)).trans NB;have hGlt:=hr.imp (H:=fun b=>G b/\b<w.heap.size) (fun b hb hg=>⟨hg,hb⟩);have CF:=aA (GJ t (fun b=>G b/\b<w.heap.size) (w.heap.size+1) V a c 32 (by omega) hpre (fun b hg=>by omega) (wdT (hwd (w.heap.size+1) (by omega)) (aE BV (fun _=>False) |>.mono (fun _ h _=>h.elim):aC (· = w.heap.size+1) w V)) (hGlt.keptS (aE BV (fun _=>False)) (fun _ h=>h.elim)) NC);have HW:=aA hW;have HV:=aA hV;have HB:=aA BV;obtain ⟨⟨m0,m1,m2,m3⟩, -⟩:=aL N2;clear hW hV BA NB BB NC BV N2 hGlt hr hpre hwd;go_enter Tryz.func132,Tryz.ntmps132
 go_upto_region 1 with fail
 rw [HW.out];go_upto_region 2 with fail
 rw [HV.out];go_wp2_with fail
 refine CF.out.mono ?_;rintro e w2 ⟨k2,hA, -,hB⟩;have B2:=aA (HB.out.trans (aC.below k2 (B:=w.heap.size) (fun q hq=>by omega) (by omega)));by_cases h32:aH t<=32
 · obtain ⟨v,rfl,hv⟩:=hA h32
   have HR:=aA (kN hv (H:=fun b=>w.heap.size<=b) (fun b _ hg=>by omega));have H32:=aA h32;clear k2 hA hB hv h32 CF m0 m1 m2 m3;go_wp2_with fail
   go_ret2;exact ⟨B2.out,fun _=>⟨v,rfl,HR.out⟩,fun h=>absurd H32.out h⟩
 · obtain rfl:=hB h32
   have H32:=aA h32;clear k2 hA hB h32 CF m0 m1 m2 m3;go_wp2_with fail
   go_ret2;exact ⟨B2.out,fun h=>absurd h H32.out,fun _=>rfl⟩
end
section
open Go.RowKit
theorem gW (t:TN) (G:Nat->Prop) (w:World) (a:Option Addr) (c:Nat) (hS:SzF t.f) (hr:aQ G w a t.ks) :
 Calls Tryz.prog 188 #[eH t.op t.nm t.n a t.ks.len c] w fun e w'=>e=.returned (.int .i64 (aK t))/\Below w.heap.size w w':=by
 have BA:=bA0 w (ndG t.op t.nm t.n a t.ks.len c);have NB:=heap_alloc_new w (ndG t.op t.nm t.n a t.ks.len c);have CF:=GL t G (w.alloc (ndG t.op t.nm t.n a t.ks.len c)) a c hS (fun _ _=>trivial) (hr.kept BA);have hz:w.heap.size<=(w.alloc (ndG t.op t.nm t.n a t.ks.len c)).heap.size:=BA.size;generalize hW:w.alloc (ndG t.op t.nm t.n a t.ks.len c)=W at BA NB CF hz;have HCF:=aA CF;have HB:=aA BA;have HW:=aA hW;have HI:=aA (Ay t);obtain ⟨⟨m0,m1,m2,m3⟩, -⟩:=aL NB;clear hW BA NB CF hr hS;go_enter Tryz.func188,Tryz.ntmps188
 go_upto_region 1 with fail
 rw [HW.out];go_wp2_with fail
 refine HCF.out.mono ?_;rintro e w2 ⟨hb,hA,hB⟩;have B2:=aA (HB.out.trans (hb.mono hz));by_cases h32:aH t<=32
 · obtain ⟨v,rfl,hv⟩:=hA h32
   unfold mO at hv;subst hv;have E:=aA (show aK t=bO t.f by unfold aK;rw [if_neg (fun h=>by have:=HI.out.1 h;omega)]);clear hb hA hB h32;go_wp2_with fail
   go_ret;rw [E.out];exact ⟨rfl,B2.out⟩
 · obtain rfl:=hB h32
   have E:=aA (show aK t=4 by unfold aK;rw [if_pos (HI.out.2 (by omega))]);clear hb hA hB h32;go_wp2_with fail
   go_ret;rw [E.out];exact ⟨rfl,B2.out⟩
theorem oA (t:TN) (G:Nat->Prop) (w:World) (a:Option Addr) (c:Nat) (ho:OkT t) (hn:cY t.f) (hs:aH t<=32) (hl:kC w) (hr:aQ G w a t.ks) :
 Calls Tryz.prog 74 #[eH t.op t.nm t.n a t.ks.len c] w fun e w'=>e=.returned (.string ⟨(aO t).toArray⟩)/\Below w.heap.size w w':=by
 have BA:=bA0 w (ndG t.op t.nm t.n a t.ks.len c);have NB:=heap_alloc_new w (ndG t.op t.nm t.n a t.ks.len c)
 have LT:kC (w.alloc (ndG t.op t.nm t.n a t.ks.len c)):=by
  obtain ⟨t',f,h1⟩:=hl;exact ⟨t',f,(BA.block _ (Array.getElem?_eq_some_iff.1 h1).1).trans h1⟩
 have CF:=GI t G (w.alloc (ndG t.op t.nm t.n a t.ks.len c)) a c ⟨MN t ho hn,by have:=AZ t ho hn;omega⟩ (fun lb hlb=>⟨LT,fun e=>by
  obtain ⟨t',f,h1⟩:=LT;have:=(Array.getElem?_eq_some_iff.1 h1).1;omega⟩) (hr.kept BA)
 have hz:w.heap.size<=(w.alloc (ndG t.op t.nm t.n a t.ks.len c)).heap.size:=BA.size;generalize hW:w.alloc (ndG t.op t.nm t.n a t.ks.len c)=W at BA NB CF hz LT;have HCF:=aA CF;have HB:=aA BA;have HW:=aA hW;have H32:=aA hs;obtain ⟨⟨m0,m1,m2,m3⟩, -⟩:=aL NB;clear hW BA NB CF hr hs LT hl ho hn;go_enter Tryz.func74,Tryz.ntmps74
 go_upto_region 1 with fail
 rw [HW.out];go_wp2_with fail
 refine HCF.out.mono ?_;rintro e w2 ⟨hb,hA, -⟩;have B2:=aA (HB.out.trans (hb.mono hz));obtain ⟨v,rfl,hv⟩:=hA H32.out;unfold mN at hv;subst hv;clear hb hA;go_wp2_with fail
 go_ret;exact ⟨rfl,B2.out⟩
end
section
open Go.RowKit
end
section
open Go.RowKit
end
section
open Go.RowKit
def xC (w:World):Prop:=gO w/\kC w
theorem kC.step {w w':World} (h:kC w) (hb:Below w.heap.size w w'):kC w':=by
 obtain ⟨t,f,h1⟩:=h;exact ⟨t,f,(hb.block _ (Array.getElem?_eq_some_iff.1 h1).1).trans h1⟩
theorem xC.step {w w':World} (h:xC w) (hb:Below w.heap.size w w'):xC w':=⟨h.1.step hb,h.2.step hb⟩
end
section
open Go.RowKit
def sB (i:Nat):UInt8:=if i=0 then 43 else if i=1 then 45 else if i=2 then 42 else if i=3 then 47 else 37
def MF (i j:Nat):Bool:=decide (i<2) && decide (2<=j)
def nR (i j:Nat):TN:=gP [sB i] (eT [97]) (gP [sB j] (eT [98]) (eT [99]))
def nL (i j:Nat):TN:=gP [sB j] (gP [sB i] (eT [97]) (eT [98])) (eT [99])
def n1 (i j:Nat):TN:=if MF i j=true then nR i j else nL i j
end
section
open Go.RowKit
abbrev Bd (B b:Nat) (bs:List Value) (w:World):Prop:=Lib.IsBuilder 92 5 B b bs w
end
def qA (o:ByteArray) (a b:Int):Option Int :=
 if o.data.toList == [43] then some (dC (a+b))
 else if o.data.toList == [45] then some (dC (a-b))
 else if o.data.toList == [42] then some (dC (a*b))
 else if o.data.toList == [47] then (if b=0 then none else some (dC (a.tdiv b)))
 else (if b=0 then none else some (a.tmod b))
def evN (g:ByteArray->Option Int) (o m:ByteArray) (n:Int) (vs:List (Option Int)):Option Int :=
 if cF o then some n else if bY o then g m else if fA o then (vs.getD 0 none).map (fun a=>dC (0-a))
 else match vs.getD 0 none,vs.getD 1 none with
  | some a,some b=>qA o a b
  | _,_=>none
def evF (g:ByteArray->Option Int):F->List (Option Int)
 | .nil=>[]
 | .cons o m n ks r=>evN g o m n (evF g ks)::evF g r
def evT (g:ByteArray->Option Int) (t:TN):Option Int:=evN g t.op t.nm t.n (evF g t.ks)
theorem Ju (g:ByteArray->Option Int) {o m:ByteArray} {n:Int} {ks:F} (h:cF o=true):evT g ⟨o,m,n,ks⟩=some n:=by
 unfold evT evN;rw [if_pos h]
theorem ET (g:ByteArray->Option Int) {o m:ByteArray} {n:Int} {ks:F} (h:cF o=false) (h2:bY o=true):evT g ⟨o,m,n,ks⟩=g m:=by
 unfold evT evN;rw [if_neg (by simp [h]),if_pos h2]
theorem Jv (g:ByteArray->Option Int) {o m:ByteArray} {n:Int} (a:TN) (h:cF o=false) (h2:bY o=false) (h3:fA o=true):evT g ⟨o,m,n,a.f⟩=(evT g a).map (fun x=>dC (0-x)):=by
 unfold evT evN;rw [if_neg (by simp [h]),if_neg (by simp [h2]),if_pos h3];rfl
theorem Jt (g:ByteArray->Option Int) {o m:ByteArray} {n:Int} (a b:TN) (h:cF o=false) (h2:bY o=false) (h3:fA o=false) :
 evT g ⟨o,m,n,.cons a.op a.nm a.n a.ks b.f⟩=match evT g a,evT g b with | some x,some y=>qA o x y | _,_=>none:=by
 unfold evT evN;rw [if_neg (by simp [h]),if_neg (by simp [h2]),if_neg (by simp [h3])];rfl
theorem AY {c b:Int} (h:0<=c):0<=c.tmod b/\c.tmod b<=c:=by
 refine ⟨Int.tmod_nonneg b h,?_⟩;have h1:(c.tmod b).natAbs<=c.natAbs:=by rw [Int.natAbs_tmod];exact Nat.mod_le _ _
 have h2:=Int.tmod_nonneg b h;omega
theorem Kh {a:Int} (b:Int) (ha:bU a):bU (a.tmod b):=by
 unfold bU at ha |-
 rcases Int.le_total 0 a with h | h
 · have:=AY (b:=b) h
   omega
 · have h1:=AY (c:= -a) (b:=b) (by omega)
   rw [Int.neg_tmod] at h1;omega
theorem JQ {o:ByteArray} {a b v:Int} (ha:bU a) (h:qA o a b=some v):bU v:=by
 unfold qA at h;split at h
 · cases h;exact lH _
 split at h
 · cases h;exact lH _
 split at h
 · cases h;exact lH _
 split at h
 · split at h
   · cases h
   · cases h;exact lH _
 · split at h
   · cases h
   · cases h;exact Kh b ha
theorem EW (o:ByteArray) (x:List UInt8):(o.toList == x)=decide (o=⟨x.toArray⟩):=by
 rw [Lib.toList_data];by_cases h:o=⟨x.toArray⟩
 · subst h;simp
 · rw [decide_eq_false h]
   rw [beq_eq_false_iff_ne];intro e;exact h (eL (by simpa using e))
theorem oF {o:ByteArray} {x:List UInt8} (h:o=⟨x.toArray⟩):(o.toList == x)=true:=by rw [EW];exact decide_eq_true h
theorem dR {o:ByteArray} {x:List UInt8} (h:¬ o=⟨x.toArray⟩):(o.toList == x)=false:=by rw [EW];exact decide_eq_false h
def bH (o:ByteArray) (a b:Int):Option Bool :=
 if o=⟨#[61]⟩ then some (a == b) else if o=⟨#[33,61]⟩ then some (a != b) else if o=⟨#[60]⟩ then some (decide (a<b))
 else if o=⟨#[60,61]⟩ then some (decide (a<=b)) else if o=⟨#[62]⟩ then some (decide (b<a)) else if o=⟨#[62,61]⟩ then some (decide (b<=a)) else none
theorem uW (o:ByteArray) (a b:Int) (w:World):Calls Tryz.prog 231 #[.string o,.int .i64 a,.int .i64 b] w fun e w'=>e=.returned (.tuple #[.bool ((bH o a b).getD false),.bool (bH o a b).isSome])/\w=w':=by
 by_cases h0:o=⟨#[61]⟩
 · have g0:=oF (x:=[61]) h0
   unfold bH;rw [if_pos h0];clear h0;go_enter Tryz.func231,Tryz.ntmps231
   go_wp2_with fail
   go_ret2;exact ⟨rfl,rfl⟩
 · by_cases h1:o=⟨#[33,61]⟩
   · have g0:=dR (x:=[61]) h0
     have g1:=oF (x:=[33,61]) h1;unfold bH;rw [if_neg h0];rw [if_pos h1];clear h0 h1;go_enter Tryz.func231,Tryz.ntmps231
     go_wp2_with fail
     go_ret2;exact ⟨rfl,rfl⟩
   · by_cases h2:o=⟨#[60]⟩
     · have g0:=dR (x:=[61]) h0
       have g1:=dR (x:=[33,61]) h1;have g2:=oF (x:=[60]) h2;unfold bH;rw [if_neg h0];rw [if_neg h1];rw [if_pos h2];clear h0 h1 h2;go_enter Tryz.func231,Tryz.ntmps231
       go_wp2_with fail
       go_ret2;exact ⟨rfl,rfl⟩
     · by_cases h3:o=⟨#[60,61]⟩
       · have g0:=dR (x:=[61]) h0
         have g1:=dR (x:=[33,61]) h1;have g2:=dR (x:=[60]) h2;have g3:=oF (x:=[60,61]) h3;unfold bH;rw [if_neg h0];rw [if_neg h1];rw [if_neg h2];rw [if_pos h3];clear h0 h1 h2 h3;go_enter Tryz.func231,Tryz.ntmps231
         go_wp2_with fail
         go_ret2;exact ⟨rfl,rfl⟩
       · by_cases h4:o=⟨#[62]⟩
         · have g0:=dR (x:=[61]) h0
           have g1:=dR (x:=[33,61]) h1;have g2:=dR (x:=[60]) h2;have g3:=dR (x:=[60,61]) h3;have g4:=oF (x:=[62]) h4;unfold bH;rw [if_neg h0];rw [if_neg h1];rw [if_neg h2];rw [if_neg h3];rw [if_pos h4];clear h0 h1 h2 h3 h4;go_enter Tryz.func231,Tryz.ntmps231
           go_wp2_with fail
           go_ret2;exact ⟨rfl,rfl⟩
         · by_cases h5:o=⟨#[62,61]⟩
           · have g0:=dR (x:=[61]) h0
             have g1:=dR (x:=[33,61]) h1;have g2:=dR (x:=[60]) h2;have g3:=dR (x:=[60,61]) h3;have g4:=dR (x:=[62]) h4;have g5:=oF (x:=[62,61]) h5;unfold bH;rw [if_neg h0];rw [if_neg h1];rw [if_neg h2];rw [if_neg h3];rw [if_neg h4];rw [if_pos h5];clear h0 h1 h2 h3 h4 h5;go_enter Tryz.func231,Tryz.ntmps231
             go_wp2_with fail
             go_ret2;exact ⟨rfl,rfl⟩
           · have g0:=dR (x:=[61]) h0
             have g1:=dR (x:=[33,61]) h1;have g2:=dR (x:=[60]) h2;have g3:=dR (x:=[60,61]) h3;have g4:=dR (x:=[62]) h4;have g5:=dR (x:=[62,61]) h5;unfold bH;rw [if_neg h0];rw [if_neg h1];rw [if_neg h2];rw [if_neg h3];rw [if_neg h4];rw [if_neg h5];clear h0 h1 h2 h3 h4 h5;go_enter Tryz.func231,Tryz.ntmps231
             go_wp2_with fail
             go_ret2;exact ⟨rfl,rfl⟩
structure CD where
 op:ByteArray
 a:TN
 b:TN
structure AG where
 fn:ByteArray
 k:Int
 e:TN
 g:TN
 wh:List CD
def aT:List UInt8:=[99,111,117,110,116]
def pG:List UInt8:=[109,105,110]
def rN:List UInt8:=[109,97,120]
def qE:List UInt8:=[115,117,109]
def bE:List UInt8:=[102,105,114,115,116]
def eQ:List UInt8:=[116,111,112]
def fP:List UInt8:=[119,104,101,114,101]
def mS:List UInt8:=[97,110,100]
def fB (x:List UInt8):Bool:=x == aT || x == pG || x == rN || x == qE || x == bE || x == eQ
def bG (L:List Tk) (x:List UInt8) (s:RS):RS:=if s.bad=0 then (if isS L x s.pos then bW s else bV 2 s) else s
def bB (L:List Tk) (s:RS):TN×RS:=if s.bad=0 then (match ofL L s.pos with | .ok t q=>(t,⟨q,s.cnt,0,s.whr⟩) | .bad p e=>(aI,⟨p,s.cnt,e,p⟩)) else (aI,s)
def eO (L:List Tk) (x:List UInt8) (p:Nat):Bool:=match L[p]? with | some t=>t.kind == 1 && t.text == x | none=>false
def oR (L:List Tk) (s:RS):Int×RS :=
 if s.bad=0 then (match L[s.pos]? with
  | some t=>if t.kind=2 then (t.num,if t.num<1\/16<t.num then bW (bV 1 s) else bW s) else (0,bV 2 s)
  | none=>(0,bV 2 s)) else (0,s)
def dQ (L:List Tk) (fn:List UInt8) (s:RS):(Int×TN×TN)×RS :=
 if fn=aT then ((0,aI,aI),s) else
 let p:=if fn=eQ then ((oR L s).1,bG L [44] (oR L s).2) else (0,s)
 let e:=bB L p.2
 if fn=bE then (let g:=bB L (bG L [44] e.2);((p.1,e.1,g.1),g.2)) else ((p.1,e.1,aI),e.2)
def opB (L:List Tk) (p:Nat):Bool:=match L[p]? with | some t=>(bH ⟨t.text.toArray⟩ 0 0).isSome | none=>false
def dD (L:List Tk) (s:RS):CD×RS :=
 let a:=bB L s
 if a.2.bad=0 then
  if opB L a.2.pos=true then (let b:=bB L (bW a.2);(⟨⟨(eN L a.2.pos).toArray⟩,a.1,b.1⟩,b.2))
  else (⟨⟨#[]⟩,a.1,aI⟩,bV 2 a.2)
 else (⟨⟨#[]⟩,a.1,aI⟩,a.2)
def gL (L:List Tk):Nat->List CD->RS->List CD×RS
 | 0,acc,s=>(acc,s)
 | f + 1, acc, s => if acc.length = 4 then (acc, bV 4 s) else
   let c:=dD L (bW s)
   if (c.2.bad == 0 && eO L mS c.2.pos)=true then gL L f (acc++[c.1]) c.2 else (acc++[c.1],c.2)
inductive xE | bad (p:Nat) (e:Int) | ok (a:AG)
def agL (L:List Tk):xE :=
 match L[0]? with
 | none=>.bad 0 2
 | some t =>
   if ¬ t.kind=1 then .bad 0 2 else
   if fB t.text=false then .bad 0 5 else
   let s1:=bG L [40] ⟨1,0,0,0⟩
   if ¬ s1.bad=0 then .bad s1.whr s1.bad else
   let r:=dQ L t.text s1
   let s3:=bG L [41] r.2
   if ¬ s3.bad=0 then .bad s3.whr s3.bad else
   if L.length<=s3.pos then .ok ⟨⟨t.text.toArray⟩,r.1.1,r.1.2.1,r.1.2.2,[]⟩ else
   if eO L fP s3.pos=false then .bad s3.pos 2 else
   let c:=gL L 5 [] s3
   if ¬ c.2.bad=0 then .bad c.2.whr c.2.bad else
   if c.2.pos<L.length then .bad c.2.pos 2 else .ok ⟨⟨t.text.toArray⟩,r.1.1,r.1.2.1,r.1.2.2,c.1⟩
def agX (l:List UInt8):xE:=match j0 l with
 | .bad p e=>.bad p e
 | .ok L => match agL L with
   | .bad p e=>.bad (kD l.length L p) e
   | .ok a=>.ok a
def fC:List CD->Int
 | []=>0
 | c::r=>if (bH c.op 0 0).isSome=false then 5 else if aK c.a=0 then (if aK c.b=0 then fC r else aK c.b) else aK c.a
def Cm (a:AG):Int:=if a.fn.data.toList=aT then 0 else if aK a.e=0 then (if a.fn.data.toList=bE then aK a.g else 0) else aK a.e
def fJ (a:AG):Int :=
 if fB a.fn.data.toList=false then 5 else
 if a.fn.data.toList=eQ/\(a.k<1\/16<a.k) then 1 else
 if Cm a=0 then (if 4<a.wh.length then 4 else fC a.wh) else Cm a
def gQ:List CD->List UInt8
 | []=>[]
 | c::r=>[32,97,110,100,32]++(aO c.a++32::(c.op.data.toList++32::aO c.b))++gQ r
def mX:List CD->List UInt8
 | []=>[]
 | c::r=>[32,119,104,101,114,101,32]++(aO c.a++32::(c.op.data.toList++32::aO c.b))++gQ r
def mF (a:AG):List UInt8 :=
 if a.fn.data.toList=aT then [] else
 if a.fn.data.toList=eQ then Lib.itoa a.k++44::32::aO a.e else
 if a.fn.data.toList=bE then aO a.e++44::32::aO a.g else aO a.e
def eG (a:AG):List UInt8:=a.fn.data.toList++40::(mF a++41::mX a.wh)
theorem iI {L:List Tk} {x:List UInt8} {s:RS} (h:¬ s.bad=0):bG L x s=s:=if_neg h
theorem gK {L:List Tk} {s:RS} (h:¬ s.bad=0):bB L s=(aI,s):=if_neg h
def jA (n:Nat) (s:RS):Prop:=(s.bad=0->s.pos<=n)/\s.whr<=n
theorem jT {n:Nat} {s:RS} {e:Int} (he:¬ e=0) (h:jA n s):jA n (bV e s):=by
 unfold bV;by_cases hb:s.bad=0
 · rw [if_pos hb];exact ⟨fun h'=>absurd h' he,h.1 hb⟩
 · rw [if_neg hb];exact h
theorem nK {n:Nat} {s:RS} (h:jA n s) (hlt:s.bad=0->s.pos<n):jA n (a8 s):=by
 unfold a8;by_cases hb:s.bad=0
 · rw [if_pos hb]
   split
   · exact ⟨fun h'=>absurd h' (by show ¬ (4:Int)=0;decide),h.1 hb⟩
   · exact ⟨fun _=>hlt hb,h.2⟩
 · rw [if_neg hb];exact ⟨fun h'=>absurd h' hb,h.2⟩
theorem gJ {n:Nat} {s:RS} (h:jA n s) (hlt:s.bad=0->s.pos<n):jA n (bW s):=⟨fun hb=>hlt hb,h.2⟩
theorem GT {L:List Tk} {s:RS} (h:jA L.length s):jA L.length (eX L s):=by
 unfold eX;by_cases hb:s.bad=0
 · cases hs:isS L [41] s.pos with
   | true =>
     have e:(s.bad == 0 && !true)=false:=by simp
     rw [if_neg (by rw [e];decide)];exact gJ h (fun _=>nI hs)
   | false =>
     have e:(s.bad == 0 && !false)=true:=by rw [hb];rfl
     rw [if_pos e];refine gJ (jT (by decide) h) (fun h'=>?_);unfold bV at h';rw [if_pos hb] at h';exact absurd h' (by show ¬ (2:Int)=0;decide)
 · have e:(s.bad == 0 && !isS L [41] s.pos)=false:=by
    have:(s.bad == 0)=false:=by simpa using hb
    rw [this];rfl
   rw [if_neg (by rw [e];decide)];exact gJ h (fun h'=>absurd h' hb)
theorem jM (L:List Tk):∀ (f:Nat) (md:Md) (s:RS),jA L.length s->jA L.length (pr L f md s).2
 | 0,_,s,h=>h
 | f + 1, .fac, s, h => by
   rw [pr];by_cases hb:s.bad=0
   · rw [if_pos hb]
     cases ht:L[s.pos]? with
     | none=>exact jT (by decide) h
     | some t =>
       have hlt:s.bad=0->s.pos<L.length:=fun _=>(List.getElem?_eq_some_iff.1 ht).1
       simp only;by_cases h2:t.kind=2
       · rw [if_pos h2];exact nK h hlt
       rw [if_neg h2];by_cases h1:t.kind=1
       · rw [if_pos h1];exact nK h hlt
       rw [if_neg h1];by_cases h45:t.text=[45]
       · rw [if_pos h45];exact jM L f .fac _ (nK h hlt)
       rw [if_neg h45];by_cases h40:t.text=[40]
       · rw [if_pos h40];exact GT (jM L f .sum _ (gJ h hlt))
       rw [if_neg h40];exact jT (by decide) h
   · rw [if_neg hb];exact h
 | f + 1, .prod, s, h => by
   rw [pr];exact jM L f _ _ (jM L f .fac s h)
 | f + 1, .prodL n, s, h => by
   rw [pr];split
   · rename_i hc
     simp only [Bool.and_eq_true] at hc;exact jM L f _ _ (jM L f .fac _ (nK h (fun _=>pS hc.2)))
   · exact h
 | f + 1, .sum, s, h => by
   rw [pr];exact jM L f _ _ (jM L f .prod s h)
 | f + 1, .sumL n, s, h => by
   rw [pr];split
   · rename_i hc
     simp only [Bool.and_eq_true] at hc;exact jM L f _ _ (jM L f .prod _ (nK h (fun _=>pT hc.2)))
   · exact h
theorem vC {L:List Tk} {p:Nat} (hp:p<=L.length):(∀ t q,ofL L p=.ok t q->q<=L.length)/\(∀ q e,ofL L p=.bad q e->q<=L.length/\¬ e=0):=by
 have h:jA L.length (pE L .sum ⟨p,0,0,0⟩).2:=jM L _ _ _ ⟨fun _=>hp,Nat.zero_le _⟩;unfold ofL;by_cases hb:(pE L .sum ⟨p,0,0,0⟩).2.bad=0
 · rw [if_pos hb]
   refine ⟨fun t q e=>?_,fun q e he=>by cases he⟩;cases e;exact h.1 hb
 · rw [if_neg hb]
   refine ⟨fun t q e=>(by cases e),fun q e he=>?_⟩;cases he;exact ⟨h.2,hb⟩
theorem qD {L:List Tk} {x:List UInt8} {s:RS} (h:jA L.length s):jA L.length (bG L x s):=by
 unfold bG;by_cases hb:s.bad=0
 · rw [if_pos hb]
   cases hs:isS L x s.pos with
   | true=>rw [if_pos rfl];exact gJ h (fun _=>nI hs)
   | false=>rw [if_neg (by decide)];exact jT (by decide) h
 · rw [if_neg hb];exact h
theorem lE {L:List Tk} {s:RS} (h:jA L.length s):jA L.length (bB L s).2:=by
 unfold bB;by_cases hb:s.bad=0
 · rw [if_pos hb]
   have:=vC (h.1 hb);cases ho:ofL L s.pos with
   | ok t q=>exact ⟨fun _=>this.1 t q ho,h.2⟩
   | bad q e=>exact ⟨fun h'=>absurd h' (this.2 q e ho).2,(this.2 q e ho).1⟩
 · rw [if_neg hb];exact h
theorem Ej {L:List Tk} {x:List UInt8} {p:Nat} (h:eO L x p=true):p<L.length:=by
 unfold eO at h;split at h
 · rename_i t ht
   exact (List.getElem?_eq_some_iff.1 ht).1
 · cases h
theorem Nw {L:List Tk} {p:Nat} (h:opB L p=true):p<L.length:=by
 unfold opB at h;split at h
 · rename_i t ht
   exact (List.getElem?_eq_some_iff.1 ht).1
 · cases h
theorem Ke {L:List Tk} {s:RS} (h:jA L.length s):jA L.length (oR L s).2:=by
 unfold oR;by_cases hb:s.bad=0
 · rw [if_pos hb]
   cases ht:L[s.pos]? with
   | none=>exact jT (by decide) h
   | some t =>
     have hlt:s.pos<L.length:=(List.getElem?_eq_some_iff.1 ht).1;simp only;by_cases h2:t.kind=2
     · rw [if_pos h2]
       simp only;by_cases hk:t.num<1\/16<t.num
       · rw [if_pos hk]
         refine gJ (jT (by decide) h) (fun h'=>?_);unfold bV at h';rw [if_pos hb] at h';exact absurd h' (by show ¬ (1:Int)=0;decide)
       · rw [if_neg hk];exact gJ h (fun _=>hlt)
     · rw [if_neg h2];exact jT (by decide) h
 · rw [if_neg hb];exact h
def iE (G:Nat->Prop) (w:World) (a:Option Addr) (l:List CD):Prop:=l=[]\/∃ b off,a=some ⟨b,off,none⟩/\G b/\b<w.heap.size/\∀ j x,l[j]? = some x ->
 ∃ a1 c1 a2 c2, (w.cell? ⟨b, off + j * 9, none⟩ = some (.string x.op) /\ w.cell? ⟨b, off + j * 9 + 1, none⟩ = some (.string x.a.op) /\ w.cell? ⟨b, off + j * 9 + 1 + 1, none⟩ = some (.string x.a.nm) /\ w.cell? ⟨b, off + j * 9 + 1 + 2, none⟩ = some (.int .i64 x.a.n) /\
   w.cell? ⟨b,off+j*9+1+3,none⟩=some (.slice a1 x.a.ks.len c1)/\w.cell? ⟨b,off+j*9+5,none⟩=some (.string x.b.op)/\w.cell? ⟨b,off+j*9+5+1,none⟩=some (.string x.b.nm)/\w.cell? ⟨b,off+j*9+5+2,none⟩=some (.int .i64 x.b.n) /\
   w.cell? ⟨b,off+j*9+5+3,none⟩=some (.slice a2 x.b.ks.len c2))/\aQ G w a1 x.a.ks/\aQ G w a2 x.b.ks
theorem iE.keptS {S G:Nat->Prop} {w w':World} {a:Option Addr} {l:List CD} (h:iE G w a l) (hk:aC S w w') (hS:∀ k,S k->¬ G k):iE G w' a l :=
 Or.imp id (fun ⟨b,off,e,hg,hlt,hc⟩=>⟨b,off,e,hg,Nat.lt_of_lt_of_le hlt hk.size,fun j x hj=>by
  have hb:¬ S b:=fun hs=>hS b hs hg
  obtain ⟨a1,c1,a2,c2,⟨h0,h1,h2,h3,h4,h5,h6,h7,h8⟩,r1,r2⟩:=hc j x hj;exact ⟨a1,c1,a2,c2,⟨hk.cell h0 hb,hk.cell h1 hb,hk.cell h2 hb,hk.cell h3 hb,hk.cell h4 hb,hk.cell h5 hb,hk.cell h6 hb,hk.cell h7 hb,hk.cell h8 hb⟩,r1.keptS hk hS,r2.keptS hk hS⟩⟩) h
theorem iE.kept {G:Nat->Prop} {w w':World} {a:Option Addr} {l:List CD} (h:iE G w a l) (hb:Below w.heap.size w w'):iE G w' a l:=h.keptS (S:=fun _=>False) (aE hb _) (fun _ h=>h.elim)
theorem iE.imp {G H:Nat->Prop} {w:World} {a:Option Addr} {l:List CD} (h:iE G w a l) (hG:∀ b,b<w.heap.size->G b->H b):iE H w a l :=
 Or.imp id (fun ⟨b,off,e,hg,hlt,hc⟩=>⟨b,off,e,hG b hlt hg,hlt,fun j x hj=>by
  obtain ⟨a1,c1,a2,c2,h0,r1,r2⟩:=hc j x hj;exact ⟨a1,c1,a2,c2,h0,r1.imp hG,r2.imp hG⟩⟩) h
structure PA where
 ea:Option Addr
 ec:Nat
 ga:Option Addr
 gc:Nat
 wa:Option Addr
 wc:Nat
abbrev agC (x:AG) (p:PA):Array Value:=#[.string x.fn,.int .i64 x.k,.string x.e.op,.string x.e.nm,.int .i64 x.e.n,.slice p.ea x.e.ks.len p.ec,.string x.g.op,.string x.g.nm,.int .i64 x.g.n,.slice p.ga x.g.ks.len p.gc,.slice p.wa x.wh.length p.wc]
abbrev agV (x:AG) (p:PA):Value:=.agg (agC x p)
structure aJ (G:Nat->Prop) (w:World) (x:AG) (p:PA):Prop where
 e:aQ G w p.ea x.e.ks
 g:aQ G w p.ga x.g.ks
 c:iE G w p.wa x.wh
theorem aJ.kept {G:Nat->Prop} {w w':World} {x:AG} {p:PA} (h:aJ G w x p) (hb:Below w.heap.size w w'):aJ G w' x p:=⟨h.e.kept hb,h.g.kept hb,h.c.kept hb⟩
theorem aJ.keptS {S G:Nat->Prop} {w w':World} {x:AG} {p:PA} (h:aJ G w x p) (hk:aC S w w') (hS:∀ k,S k->¬ G k):aJ G w' x p:=⟨h.e.keptS hk hS,h.g.keptS hk hS,h.c.keptS hk hS⟩
theorem aJ.imp {G H:Nat->Prop} {w:World} {x:AG} {p:PA} (h:aJ G w x p) (hG:∀ b,b<w.heap.size->G b->H b):aJ H w x p:=⟨h.e.imp hG,h.g.imp hG,h.c.imp hG⟩
theorem aP {W:World} {B:Nat} {v0 v1 v2 v3 v4 v5 v6 v7 v8 v9 v10:Value} {t:TypeId} (h:W.heap[B]? = some (.cells #[v0,v1,v2,v3,v4,v5,v6,v7,v8,v9,v10] t (0,0))) :
 W.cell? ⟨B,0,none⟩=some v0/\W.cell? ⟨B,1,none⟩=some v1/\W.cell? ⟨B,2,none⟩=some v2/\W.cell? ⟨B,3,none⟩=some v3/\W.cell? ⟨B,4,none⟩=some v4/\W.cell? ⟨B,5,none⟩=some v5/\W.cell? ⟨B,6,none⟩=some v6/\W.cell? ⟨B,7,none⟩=some v7/\W.cell? ⟨B,8,none⟩=some v8/\W.cell? ⟨B,9,none⟩=some v9/\W.cell? ⟨B,10,none⟩=some v10:=by
 refine ⟨?_,?_,?_,?_,?_,?_,?_,?_,?_,?_,?_⟩ <;> simp [World.cell?,h]
structure SzG (x:AG):Prop where
 e:SzF x.e.f
 g:SzF x.g.f
 c:∀ d∈x.wh,SzF d.a.f/\SzF d.b.f
theorem yV {rb:Nat} {w X Y:World} (hb:Below w.heap.size w X) (hk:aC (· = rb) X Y) (_:w.heap.size+1<=X.heap.size):aC (· = rb) w Y :=
 (aE hb (· = rb)).trans hk (fun _ hi _=>hi)
theorem Jk {W:World} {B:Nat} {x0 x1 x2 x3:Value} {t:TypeId} (h:W.heap[B]? = some (.cells #[x0,x1,x2,x3] t (0,0))) (o m:ByteArray) (n:Int) (a:Option Addr) (l c:Nat) :
 (Do W B o m n a l c).heap[B]? = some (.cells #[.string o,.string m,.int .i64 n,.slice a l c] t (0,0)):=aU h (.string o) (.string m) (.int .i64 n) (.slice a l c)
def cB:AG:=⟨⟨#[]⟩,0,aI,aI,[]⟩
def aR:PA:=⟨none,0,none,0,none,0⟩
abbrev j3 (W:World) (B:Nat) (x:AG) (p:PA):World:=((((((((((W.setCell ⟨B,0,none⟩ (.string x.fn)).setCell ⟨B,1,none⟩ (.int .i64 x.k)).setCell ⟨B,2,none⟩ (.string x.e.op)).setCell ⟨B,3,none⟩ (.string x.e.nm)).setCell ⟨B,4,none⟩ (.int .i64 x.e.n)).setCell ⟨B,5,none⟩ (.slice p.ea x.e.ks.len p.ec)).setCell ⟨B,6,none⟩ (.string x.g.op)).setCell ⟨B,7,none⟩ (.string x.g.nm)).setCell ⟨B,8,none⟩ (.int .i64 x.g.n)).setCell ⟨B,9,none⟩ (.slice p.ga x.g.ks.len p.gc)).setCell ⟨B,10,none⟩ (.slice p.wa x.wh.length p.wc)
theorem jQ (W:World) (B:Nat) (x:AG) (p:PA):aC (· = B) W (j3 W B x p) :=
 ((((((((((((aC.refl (· = B) W).setCell (p:=⟨B,0,none⟩) (.inl rfl) _).setCell (p:=⟨B,1,none⟩) (.inl rfl) _).setCell (p:=⟨B,2,none⟩) (.inl rfl) _).setCell (p:=⟨B,3,none⟩) (.inl rfl) _).setCell (p:=⟨B,4,none⟩) (.inl rfl) _).setCell (p:=⟨B,5,none⟩) (.inl rfl) _).setCell (p:=⟨B,6,none⟩) (.inl rfl) _).setCell (p:=⟨B,7,none⟩) (.inl rfl) _).setCell (p:=⟨B,8,none⟩) (.inl rfl) _).setCell (p:=⟨B,9,none⟩) (.inl rfl) _).setCell (p:=⟨B,10,none⟩) (.inl rfl) _)
theorem mA {W:World} {B:Nat} {u0 u1 u2 u3 u4 u5 u6 u7 u8 u9 u10:Value} {t:TypeId} (h:W.heap[B]? = some (.cells #[u0,u1,u2,u3,u4,u5,u6,u7,u8,u9,u10] t (0,0))) (x:AG) (p:PA):(j3 W B x p).heap[B]? = some (.cells (agC x p) t (0,0)):=by
 have h0:=heap_setCell_same (W) B 0 _ t (.string x.fn) h;have g0:((W).setCell ⟨B,0,none⟩ (.string x.fn)).heap[B]? = some (.cells #[.string x.fn,u1,u2,u3,u4,u5,u6,u7,u8,u9,u10] t (0,0)):=by simpa using h0
 have h1:=heap_setCell_same ((W).setCell ⟨B,0,none⟩ (.string x.fn)) B 1 _ t (.int .i64 x.k) g0;have g1:(((W).setCell ⟨B,0,none⟩ (.string x.fn)).setCell ⟨B,1,none⟩ (.int .i64 x.k)).heap[B]? = some (.cells #[.string x.fn,.int .i64 x.k,u2,u3,u4,u5,u6,u7,u8,u9,u10] t (0,0)):=by simpa using h1
 have h2:=heap_setCell_same (((W).setCell ⟨B,0,none⟩ (.string x.fn)).setCell ⟨B,1,none⟩ (.int .i64 x.k)) B 2 _ t (.string x.e.op) g1;have g2:((((W).setCell ⟨B,0,none⟩ (.string x.fn)).setCell ⟨B,1,none⟩ (.int .i64 x.k)).setCell ⟨B,2,none⟩ (.string x.e.op)).heap[B]? = some (.cells #[.string x.fn,.int .i64 x.k,.string x.e.op,u3,u4,u5,u6,u7,u8,u9,u10] t (0,0)):=by simpa using h2
 have h3:=heap_setCell_same ((((W).setCell ⟨B,0,none⟩ (.string x.fn)).setCell ⟨B,1,none⟩ (.int .i64 x.k)).setCell ⟨B,2,none⟩ (.string x.e.op)) B 3 _ t (.string x.e.nm) g2;have g3:(((((W).setCell ⟨B,0,none⟩ (.string x.fn)).setCell ⟨B,1,none⟩ (.int .i64 x.k)).setCell ⟨B,2,none⟩ (.string x.e.op)).setCell ⟨B,3,none⟩ (.string x.e.nm)).heap[B]? = some (.cells #[.string x.fn,.int .i64 x.k,.string x.e.op,.string x.e.nm,u4,u5,u6,u7,u8,u9,u10] t (0,0)):=by simpa using h3
 have h4:=heap_setCell_same (((((W).setCell ⟨B,0,none⟩ (.string x.fn)).setCell ⟨B,1,none⟩ (.int .i64 x.k)).setCell ⟨B,2,none⟩ (.string x.e.op)).setCell ⟨B,3,none⟩ (.string x.e.nm)) B 4 _ t (.int .i64 x.e.n) g3;have g4:((((((W).setCell ⟨B,0,none⟩ (.string x.fn)).setCell ⟨B,1,none⟩ (.int .i64 x.k)).setCell ⟨B,2,none⟩ (.string x.e.op)).setCell ⟨B,3,none⟩ (.string x.e.nm)).setCell ⟨B,4,none⟩ (.int .i64 x.e.n)).heap[B]? = some (.cells #[.string x.fn,.int .i64 x.k,.string x.e.op,.string x.e.nm,.int .i64 x.e.n,u5,u6,u7,u8,u9,u10] t (0,0)):=by simpa using h4
 have h5:=heap_setCell_same ((((((W).setCell ⟨B,0,none⟩ (.string x.fn)).setCell ⟨B,1,none⟩ (.int .i64 x.k)).setCell ⟨B,2,none⟩ (.string x.e.op)).setCell ⟨B,3,none⟩ (.string x.e.nm)).setCell ⟨B,4,none⟩ (.int .i64 x.e.n)) B 5 _ t (.slice p.ea x.e.ks.len p.ec) g4;have g5:(((((((W).setCell ⟨B,0,none⟩ (.string x.fn)).setCell ⟨B,1,none⟩ (.int .i64 x.k)).setCell ⟨B,2,none⟩ (.string x.e.op)).setCell ⟨B,3,none⟩ (.string x.e.nm)).setCell ⟨B,4,none⟩ (.int .i64 x.e.n)).setCell ⟨B,5,none⟩ (.slice p.ea x.e.ks.len p.ec)).heap[B]? = some (.cells #[.string x.fn,.int .i64 x.k,.string x.e.op,.string x.e.nm,.int .i64 x.e.n,.slice p.ea x.e.ks.len p.ec,u6,u7,u8,u9,u10] t (0,0)):=by simpa using h5
 have h6:=heap_setCell_same (((((((W).setCell ⟨B,0,none⟩ (.string x.fn)).setCell ⟨B,1,none⟩ (.int .i64 x.k)).setCell ⟨B,2,none⟩ (.string x.e.op)).setCell ⟨B,3,none⟩ (.string x.e.nm)).setCell ⟨B,4,none⟩ (.int .i64 x.e.n)).setCell ⟨B,5,none⟩ (.slice p.ea x.e.ks.len p.ec)) B 6 _ t (.string x.g.op) g5;have g6:((((((((W).setCell ⟨B,0,none⟩ (.string x.fn)).setCell ⟨B,1,none⟩ (.int .i64 x.k)).setCell ⟨B,2,none⟩ (.string x.e.op)).setCell ⟨B,3,none⟩ (.string x.e.nm)).setCell ⟨B,4,none⟩ (.int .i64 x.e.n)).setCell ⟨B,5,none⟩ (.slice p.ea x.e.ks.len p.ec)).setCell ⟨B,6,none⟩ (.string x.g.op)).heap[B]? = some (.cells #[.string x.fn,.int .i64 x.k,.string x.e.op,.string x.e.nm,.int .i64 x.e.n,.slice p.ea x.e.ks.len p.ec,.string x.g.op,u7,u8,u9,u10] t (0,0)):=by simpa using h6
 have h7:=heap_setCell_same ((((((((W).setCell ⟨B,0,none⟩ (.string x.fn)).setCell ⟨B,1,none⟩ (.int .i64 x.k)).setCell ⟨B,2,none⟩ (.string x.e.op)).setCell ⟨B,3,none⟩ (.string x.e.nm)).setCell ⟨B,4,none⟩ (.int .i64 x.e.n)).setCell ⟨B,5,none⟩ (.slice p.ea x.e.ks.len p.ec)).setCell ⟨B,6,none⟩ (.string x.g.op)) B 7 _ t (.string x.g.nm) g6;have g7:(((((((((W).setCell ⟨B,0,none⟩ (.string x.fn)).setCell ⟨B,1,none⟩ (.int .i64 x.k)).setCell ⟨B,2,none⟩ (.string x.e.op)).setCell ⟨B,3,none⟩ (.string x.e.nm)).setCell ⟨B,4,none⟩ (.int .i64 x.e.n)).setCell ⟨B,5,none⟩ (.slice p.ea x.e.ks.len p.ec)).setCell ⟨B,6,none⟩ (.string x.g.op)).setCell ⟨B,7,none⟩ (.string x.g.nm)).heap[B]? = some (.cells #[.string x.fn,.int .i64 x.k,.string x.e.op,.string x.e.nm,.int .i64 x.e.n,.slice p.ea x.e.ks.len p.ec,.string x.g.op,.string x.g.nm,u8,u9,u10] t (0,0)):=by simpa using h7
 have h8:=heap_setCell_same (((((((((W).setCell ⟨B,0,none⟩ (.string x.fn)).setCell ⟨B,1,none⟩ (.int .i64 x.k)).setCell ⟨B,2,none⟩ (.string x.e.op)).setCell ⟨B,3,none⟩ (.string x.e.nm)).setCell ⟨B,4,none⟩ (.int .i64 x.e.n)).setCell ⟨B,5,none⟩ (.slice p.ea x.e.ks.len p.ec)).setCell ⟨B,6,none⟩ (.string x.g.op)).setCell ⟨B,7,none⟩ (.string x.g.nm)) B 8 _ t (.int .i64 x.g.n) g7;have g8:((((((((((W).setCell ⟨B,0,none⟩ (.string x.fn)).setCell ⟨B,1,none⟩ (.int .i64 x.k)).setCell ⟨B,2,none⟩ (.string x.e.op)).setCell ⟨B,3,none⟩ (.string x.e.nm)).setCell ⟨B,4,none⟩ (.int .i64 x.e.n)).setCell ⟨B,5,none⟩ (.slice p.ea x.e.ks.len p.ec)).setCell ⟨B,6,none⟩ (.string x.g.op)).setCell ⟨B,7,none⟩ (.string x.g.nm)).setCell ⟨B,8,none⟩ (.int .i64 x.g.n)).heap[B]? = some (.cells #[.string x.fn,.int .i64 x.k,.string x.e.op,.string x.e.nm,.int .i64 x.e.n,.slice p.ea x.e.ks.len p.ec,.string x.g.op,.string x.g.nm,.int .i64 x.g.n,u9,u10] t (0,0)):=by simpa using h8
 have h9:=heap_setCell_same ((((((((((W).setCell ⟨B,0,none⟩ (.string x.fn)).setCell ⟨B,1,none⟩ (.int .i64 x.k)).setCell ⟨B,2,none⟩ (.string x.e.op)).setCell ⟨B,3,none⟩ (.string x.e.nm)).setCell ⟨B,4,none⟩ (.int .i64 x.e.n)).setCell ⟨B,5,none⟩ (.slice p.ea x.e.ks.len p.ec)).setCell ⟨B,6,none⟩ (.string x.g.op)).setCell ⟨B,7,none⟩ (.string x.g.nm)).setCell ⟨B,8,none⟩ (.int .i64 x.g.n)) B 9 _ t (.slice p.ga x.g.ks.len p.gc) g8;have g9:(((((((((((W).setCell ⟨B,0,none⟩ (.string x.fn)).setCell ⟨B,1,none⟩ (.int .i64 x.k)).setCell ⟨B,2,none⟩ (.string x.e.op)).setCell ⟨B,3,none⟩ (.string x.e.nm)).setCell ⟨B,4,none⟩ (.int .i64 x.e.n)).setCell ⟨B,5,none⟩ (.slice p.ea x.e.ks.len p.ec)).setCell ⟨B,6,none⟩ (.string x.g.op)).setCell ⟨B,7,none⟩ (.string x.g.nm)).setCell ⟨B,8,none⟩ (.int .i64 x.g.n)).setCell ⟨B,9,none⟩ (.slice p.ga x.g.ks.len p.gc)).heap[B]? = some (.cells #[.string x.fn,.int .i64 x.k,.string x.e.op,.string x.e.nm,.int .i64 x.e.n,.slice p.ea x.e.ks.len p.ec,.string x.g.op,.string x.g.nm,.int .i64 x.g.n,.slice p.ga x.g.ks.len p.gc,u10] t (0,0)):=by simpa using h9
 have h10:=heap_setCell_same (((((((((((W).setCell ⟨B,0,none⟩ (.string x.fn)).setCell ⟨B,1,none⟩ (.int .i64 x.k)).setCell ⟨B,2,none⟩ (.string x.e.op)).setCell ⟨B,3,none⟩ (.string x.e.nm)).setCell ⟨B,4,none⟩ (.int .i64 x.e.n)).setCell ⟨B,5,none⟩ (.slice p.ea x.e.ks.len p.ec)).setCell ⟨B,6,none⟩ (.string x.g.op)).setCell ⟨B,7,none⟩ (.string x.g.nm)).setCell ⟨B,8,none⟩ (.int .i64 x.g.n)).setCell ⟨B,9,none⟩ (.slice p.ga x.g.ks.len p.gc)) B 10 _ t (.slice p.wa x.wh.length p.wc) g9;have g10:((((((((((((W).setCell ⟨B,0,none⟩ (.string x.fn)).setCell ⟨B,1,none⟩ (.int .i64 x.k)).setCell ⟨B,2,none⟩ (.string x.e.op)).setCell ⟨B,3,none⟩ (.string x.e.nm)).setCell ⟨B,4,none⟩ (.int .i64 x.e.n)).setCell ⟨B,5,none⟩ (.slice p.ea x.e.ks.len p.ec)).setCell ⟨B,6,none⟩ (.string x.g.op)).setCell ⟨B,7,none⟩ (.string x.g.nm)).setCell ⟨B,8,none⟩ (.int .i64 x.g.n)).setCell ⟨B,9,none⟩ (.slice p.ga x.g.ks.len p.gc)).setCell ⟨B,10,none⟩ (.slice p.wa x.wh.length p.wc)).heap[B]? = some (.cells #[.string x.fn,.int .i64 x.k,.string x.e.op,.string x.e.nm,.int .i64 x.e.n,.slice p.ea x.e.ks.len p.ec,.string x.g.op,.string x.g.nm,.int .i64 x.g.n,.slice p.ga x.g.ks.len p.gc,.slice p.wa x.wh.length p.wc] t (0,0)):=by simpa using h10
 exact g10
abbrev putE (W:World) (B:Nat) (t:TN) (ad:Option Addr) (cc:Nat):World:=(((W.setCell ⟨B,2,none⟩ (.string t.op)).setCell ⟨B,3,none⟩ (.string t.nm)).setCell ⟨B,4,none⟩ (.int .i64 t.n)).setCell ⟨B,5,none⟩ (.slice ad t.ks.len cc)
theorem yT (W:World) (B:Nat) (t:TN) (ad:Option Addr) (cc:Nat):aC (· = B) W (putE W B t ad cc) :=
 (((((aC.refl (· = B) W).setCell (p:=⟨B,2,none⟩) (.inl rfl) _).setCell (p:=⟨B,3,none⟩) (.inl rfl) _).setCell (p:=⟨B,4,none⟩) (.inl rfl) _).setCell (p:=⟨B,5,none⟩) (.inl rfl) _)
abbrev putG (W:World) (B:Nat) (t:TN) (ad:Option Addr) (cc:Nat):World:=(((W.setCell ⟨B,6,none⟩ (.string t.op)).setCell ⟨B,7,none⟩ (.string t.nm)).setCell ⟨B,8,none⟩ (.int .i64 t.n)).setCell ⟨B,9,none⟩ (.slice ad t.ks.len cc)
theorem Gd (W:World) (B:Nat) (t:TN) (ad:Option Addr) (cc:Nat):aC (· = B) W (putG W B t ad cc) :=
 (((((aC.refl (· = B) W).setCell (p:=⟨B,6,none⟩) (.inl rfl) _).setCell (p:=⟨B,7,none⟩) (.inl rfl) _).setCell (p:=⟨B,8,none⟩) (.inl rfl) _).setCell (p:=⟨B,9,none⟩) (.inl rfl) _)
theorem j9 {W:World} {B:Nat} {v0 v1 v2 v3 v4 v5 v6 v7 v8 v9 v10:Value} {t:TypeId} (h:W.heap[B]? = some (.cells #[v0,v1,v2,v3,v4,v5,v6,v7,v8,v9,v10] t (0,0))) :
 W.frozen? ⟨B,0,none⟩=false/\W.frozen? ⟨B,1,none⟩=false/\W.frozen? ⟨B,2,none⟩=false/\W.frozen? ⟨B,3,none⟩=false/\W.frozen? ⟨B,4,none⟩=false/\W.frozen? ⟨B,5,none⟩=false/\W.frozen? ⟨B,6,none⟩=false/\W.frozen? ⟨B,7,none⟩=false/\W.frozen? ⟨B,8,none⟩=false/\W.frozen? ⟨B,9,none⟩=false/\W.frozen? ⟨B,10,none⟩=false:=by
 refine ⟨?_,?_,?_,?_,?_,?_,?_,?_,?_,?_,?_⟩ <;> simp [World.frozen?,h]
set_option linter.unusedSimpArgs false
abbrev cdC (x:CD) (a1:Option Addr) (c1:Nat) (a2:Option Addr) (c2:Nat):Array Value:=#[.string x.op,.string x.a.op,.string x.a.nm,.int .i64 x.a.n,.slice a1 x.a.ks.len c1,.string x.b.op,.string x.b.nm,.int .i64 x.b.n,.slice a2 x.b.ks.len c2]
abbrev cdV (x:CD) (a1:Option Addr) (c1:Nat) (a2:Option Addr) (c2:Nat):Value:=.agg (cdC x a1 c1 a2 c2)
theorem r9 {W:World} {B:Nat} {v0 v1 v2 v3 v4 v5 v6 v7 v8:Value} {t:TypeId} (h:W.heap[B]? = some (.cells #[v0,v1,v2,v3,v4,v5,v6,v7,v8] t (0,0))) :
 W.cell? ⟨B,0,none⟩=some v0/\W.cell? ⟨B,1,none⟩=some v1/\W.cell? ⟨B,2,none⟩=some v2/\W.cell? ⟨B,3,none⟩=some v3/\W.cell? ⟨B,4,none⟩=some v4/\W.cell? ⟨B,5,none⟩=some v5/\W.cell? ⟨B,6,none⟩=some v6/\W.cell? ⟨B,7,none⟩=some v7/\W.cell? ⟨B,8,none⟩=some v8:=by
 refine ⟨?_,?_,?_,?_,?_,?_,?_,?_,?_⟩ <;> simp [World.cell?,h]
theorem Ny {W:World} {B:Nat} {v0 v1 v2 v3 v4 v5 v6 v7 v8:Value} {t:TypeId} (h:W.heap[B]? = some (.cells #[v0,v1,v2,v3,v4,v5,v6,v7,v8] t (0,0))) :
 W.frozen? ⟨B,0,none⟩=false/\W.frozen? ⟨B,1,none⟩=false/\W.frozen? ⟨B,2,none⟩=false/\W.frozen? ⟨B,3,none⟩=false/\W.frozen? ⟨B,4,none⟩=false/\W.frozen? ⟨B,5,none⟩=false/\W.frozen? ⟨B,6,none⟩=false/\W.frozen? ⟨B,7,none⟩=false/\W.frozen? ⟨B,8,none⟩=false:=by
 refine ⟨?_,?_,?_,?_,?_,?_,?_,?_,?_⟩ <;> simp [World.frozen?,h]
end
end Go.Proofs.YtgfkjkokmcejbaaGreatDoor
