/-
 No statement: what AggTurnedCard needs, of the texts HHolds, QMath, OMath, QFine, QMem, QFew.
-/
import Derived.Test.YtapcjnoaofmmiaaGreatDoorVU11
namespace Go.Proofs.YtapcjnoaofmmiaaGreatDoor
section
open Go.RowKit
theorem CR (o : ByteArray) (x : List UInt8) : (o.toList == x) = decide (o = ⟨x.toArray⟩) := by
 rw [Lib.toList_data]
 by_cases h : o = ⟨x.toArray⟩
 · subst h; simp
 · rw [decide_eq_false h]
   rw [beq_eq_false_iff_ne];intro e;exact h (iA (by simpa using e))
theorem fA {o : ByteArray} {x : List UInt8} (h : o = ⟨x.toArray⟩) : (o.toList == x) = true := by rw [CR]; exact decide_eq_true h
theorem bD {o : ByteArray} {x : List UInt8} (h : ¬ o = ⟨x.toArray⟩) : (o.toList == x) = false := by rw [CR]; exact decide_eq_false h
def aO (o : ByteArray) (a b : Int) : Option Bool :=
 if o = ⟨#[61]⟩ then some (a == b) else if o = ⟨#[33, 61]⟩ then some (a != b) else if o = ⟨#[60]⟩ then some (decide (a < b))
 else if o = ⟨#[60, 61]⟩ then some (decide (a <= b)) else if o = ⟨#[62]⟩ then some (decide (b < a)) else if o = ⟨#[62, 61]⟩ then some (decide (b <= a)) else none
set_option maxHeartbeats 4000000 in
theorem sH (o : ByteArray) (a b : Int) (w : World) : Calls Tryz.prog 142 #[.string o, .int .i64 a, .int .i64 b] w fun e w' => e = .returned (.tuple #[.bool ((aO o a b).getD false), .bool (aO o a b).isSome]) /\ w = w' := by
 by_cases h0 : o = ⟨#[61]⟩
 · have g0 := fA (x := [61]) h0
   unfold aO;rw [if_pos h0];clear h0
   go_enter Tryz.func142, Tryz.ntmps142
   go_wp2_with fail
   go_ret2;exact ⟨rfl, rfl⟩
 · by_cases h1 : o = ⟨#[33, 61]⟩
   · have g0 := bD (x := [61]) h0
     have g1 := fA (x := [33, 61]) h1;unfold aO;rw [if_neg h0];rw [if_pos h1];clear h0 h1
     go_enter Tryz.func142, Tryz.ntmps142
     go_wp2_with fail
     go_ret2;exact ⟨rfl, rfl⟩
   · by_cases h2 : o = ⟨#[60]⟩
     · have g0 := bD (x := [61]) h0
       have g1 := bD (x := [33, 61]) h1;have g2 := fA (x := [60]) h2;unfold aO;rw [if_neg h0];rw [if_neg h1];rw [if_pos h2];clear h0 h1 h2
       go_enter Tryz.func142, Tryz.ntmps142
       go_wp2_with fail
       go_ret2;exact ⟨rfl, rfl⟩
     · by_cases h3 : o = ⟨#[60, 61]⟩
       · have g0 := bD (x := [61]) h0
         have g1 := bD (x := [33, 61]) h1;have g2 := bD (x := [60]) h2;have g3 := fA (x := [60, 61]) h3;unfold aO;rw [if_neg h0];rw [if_neg h1];rw [if_neg h2];rw [if_pos h3];clear h0 h1 h2 h3
         go_enter Tryz.func142, Tryz.ntmps142
         go_wp2_with fail
         go_ret2;exact ⟨rfl, rfl⟩
       · by_cases h4 : o = ⟨#[62]⟩
         · have g0 := bD (x := [61]) h0
           have g1 := bD (x := [33, 61]) h1;have g2 := bD (x := [60]) h2;have g3 := bD (x := [60, 61]) h3;have g4 := fA (x := [62]) h4;unfold aO;rw [if_neg h0];rw [if_neg h1];rw [if_neg h2];rw [if_neg h3];rw [if_pos h4];clear h0 h1 h2 h3 h4
           go_enter Tryz.func142, Tryz.ntmps142
           go_wp2_with fail
           go_ret2;exact ⟨rfl, rfl⟩
         · by_cases h5 : o = ⟨#[62, 61]⟩
           · have g0 := bD (x := [61]) h0
             have g1 := bD (x := [33, 61]) h1;have g2 := bD (x := [60]) h2;have g3 := bD (x := [60, 61]) h3;have g4 := bD (x := [62]) h4;have g5 := fA (x := [62, 61]) h5;unfold aO;rw [if_neg h0];rw [if_neg h1];rw [if_neg h2];rw [if_neg h3];rw [if_neg h4];rw [if_pos h5];clear h0 h1 h2 h3 h4 h5
             go_enter Tryz.func142, Tryz.ntmps142
             go_wp2_with fail
             go_ret2;exact ⟨rfl, rfl⟩
           · have g0 := bD (x := [61]) h0
             have g1 := bD (x := [33, 61]) h1;have g2 := bD (x := [60]) h2;have g3 := bD (x := [60, 61]) h3;have g4 := bD (x := [62]) h4;have g5 := bD (x := [62, 61]) h5;unfold aO;rw [if_neg h0];rw [if_neg h1];rw [if_neg h2];rw [if_neg h3];rw [if_neg h4];rw [if_neg h5];clear h0 h1 h2 h3 h4 h5
             go_enter Tryz.func142, Tryz.ntmps142
             go_wp2_with fail
             go_ret2;exact ⟨rfl, rfl⟩
set_option maxHeartbeats 4000000 in
theorem kU (o : ByteArray) (a b : Int) (w : World) : Calls Tryz.prog 40 #[.string o, .int .i64 a, .int .i64 b] w fun e w' => e = .returned (.tuple #[.bool ((aO o a b).getD false), .bool (aO o a b).isSome]) /\ w = w' := by
 by_cases h0 : o = ⟨#[61]⟩
 · have g0 := fA (x := [61]) h0
   unfold aO;rw [if_pos h0];clear h0
   go_enter Tryz.func40, Tryz.ntmps40
   go_wp2_with fail
   go_ret2;exact ⟨rfl, rfl⟩
 · by_cases h1 : o = ⟨#[33, 61]⟩
   · have g0 := bD (x := [61]) h0
     have g1 := fA (x := [33, 61]) h1;unfold aO;rw [if_neg h0];rw [if_pos h1];clear h0 h1
     go_enter Tryz.func40, Tryz.ntmps40
     go_wp2_with fail
     go_ret2;exact ⟨rfl, rfl⟩
   · by_cases h2 : o = ⟨#[60]⟩
     · have g0 := bD (x := [61]) h0
       have g1 := bD (x := [33, 61]) h1;have g2 := fA (x := [60]) h2;unfold aO;rw [if_neg h0];rw [if_neg h1];rw [if_pos h2];clear h0 h1 h2
       go_enter Tryz.func40, Tryz.ntmps40
       go_wp2_with fail
       go_ret2;exact ⟨rfl, rfl⟩
     · by_cases h3 : o = ⟨#[60, 61]⟩
       · have g0 := bD (x := [61]) h0
         have g1 := bD (x := [33, 61]) h1;have g2 := bD (x := [60]) h2;have g3 := fA (x := [60, 61]) h3;unfold aO;rw [if_neg h0];rw [if_neg h1];rw [if_neg h2];rw [if_pos h3];clear h0 h1 h2 h3
         go_enter Tryz.func40, Tryz.ntmps40
         go_wp2_with fail
         go_ret2;exact ⟨rfl, rfl⟩
       · by_cases h4 : o = ⟨#[62]⟩
         · have g0 := bD (x := [61]) h0
           have g1 := bD (x := [33, 61]) h1;have g2 := bD (x := [60]) h2;have g3 := bD (x := [60, 61]) h3;have g4 := fA (x := [62]) h4;unfold aO;rw [if_neg h0];rw [if_neg h1];rw [if_neg h2];rw [if_neg h3];rw [if_pos h4];clear h0 h1 h2 h3 h4
           go_enter Tryz.func40, Tryz.ntmps40
           go_wp2_with fail
           go_ret2;exact ⟨rfl, rfl⟩
         · by_cases h5 : o = ⟨#[62, 61]⟩
           · have g0 := bD (x := [61]) h0
             have g1 := bD (x := [33, 61]) h1;have g2 := bD (x := [60]) h2;have g3 := bD (x := [60, 61]) h3;have g4 := bD (x := [62]) h4;have g5 := fA (x := [62, 61]) h5;unfold aO;rw [if_neg h0];rw [if_neg h1];rw [if_neg h2];rw [if_neg h3];rw [if_neg h4];rw [if_pos h5];clear h0 h1 h2 h3 h4 h5
             go_enter Tryz.func40, Tryz.ntmps40
             go_wp2_with fail
             go_ret2;exact ⟨rfl, rfl⟩
           · have g0 := bD (x := [61]) h0
             have g1 := bD (x := [33, 61]) h1;have g2 := bD (x := [60]) h2;have g3 := bD (x := [60, 61]) h3;have g4 := bD (x := [62]) h4;have g5 := bD (x := [62, 61]) h5;unfold aO;rw [if_neg h0];rw [if_neg h1];rw [if_neg h2];rw [if_neg h3];rw [if_neg h4];rw [if_neg h5];clear h0 h1 h2 h3 h4 h5
             go_enter Tryz.func40, Tryz.ntmps40
             go_wp2_with fail
             go_ret2;exact ⟨rfl, rfl⟩
structure CD where
 op : ByteArray
 a : TN
 b : TN
structure AG where
 fn : ByteArray
 k : Int
 e : TN
 g : TN
 wh : List CD
def aN : List UInt8 := [99, 111, 117, 110, 116]
def i8 : List UInt8 := [109, 105, 110]
def kK : List UInt8 := [109, 97, 120]
def i7 : List UInt8 := [115, 117, 109]
def aT : List UInt8 := [102, 105, 114, 115, 116]
def eJ : List UInt8 := [116, 111, 112]
def kI : List UInt8 := [119, 104, 101, 114, 101]
def rK : List UInt8 := [97, 110, 100]
def cZ (x : List UInt8) : Bool := x == aN || x == i8 || x == kK || x == i7 || x == aT || x == eJ
def dC (L : List Tk) (x : List UInt8) (s : RS) : RS := if s.bad = 0 then (if isS L x s.pos then cY s else cH 2 s) else s
def bQ (L : List Tk) (s : RS) : TN × RS := if s.bad = 0 then (match ofL L s.pos with | .ok t q => (t, ⟨q, s.cnt, 0, s.whr⟩) | .bad p e => (aP, ⟨p, s.cnt, e, p⟩)) else (aP, s)
def gC (L : List Tk) (x : List UInt8) (p : Nat) : Bool := match L[p]? with | some t => t.kind == 1 && t.text == x | none => false
def yC (L : List Tk) (s : RS) : Int × RS :=
 if s.bad = 0 then (match L[s.pos]? with
  | some t => if t.kind = 2 then (t.num, if t.num < 1 \/ 16 < t.num then cY (cH 1 s) else cY s) else (0, cH 2 s)
  | none => (0, cH 2 s)) else (0, s)
def tN (L : List Tk) (fn : List UInt8) (s : RS) : (Int × TN × TN) × RS :=
 if fn = aN then ((0, aP, aP), s) else
 let p := if fn = eJ then ((yC L s).1, dC L [44] (yC L s).2) else (0, s)
 let e := bQ L p.2
 if fn = aT then (let g := bQ L (dC L [44] e.2); ((p.1, e.1, g.1), g.2)) else ((p.1, e.1, aP), e.2)
def opB (L : List Tk) (p : Nat) : Bool := match L[p]? with | some t => (aO ⟨t.text.toArray⟩ 0 0).isSome | none => false
def e8 (L : List Tk) (s : RS) : CD × RS :=
 let a := bQ L s
 if a.2.bad = 0 then
  if opB L a.2.pos = true then (let b := bQ L (cY a.2); (⟨⟨(fT L a.2.pos).toArray⟩, a.1, b.1⟩, b.2))
  else (⟨⟨#[]⟩, a.1, aP⟩, cH 2 a.2)
 else (⟨⟨#[]⟩, a.1, aP⟩, a.2)
def tE (L : List Tk) : Nat -> List CD -> RS -> List CD × RS
 | 0, acc, s => (acc, s)
 | f + 1, acc, s => if acc.length = 4 then (acc, cH 4 s) else
   let c := e8 L (cY s)
   if (c.2.bad == 0 && gC L rK c.2.pos) = true then tE L f (acc ++ [c.1]) c.2 else (acc ++ [c.1], c.2)
inductive tV | bad (p : Nat) (e : Int) | ok (a : AG)
def agL (L : List Tk) : tV :=
 match L[0]? with
 | none => .bad 0 2
 | some t =>
   if ¬ t.kind = 1 then .bad 0 2 else
   if cZ t.text = false then .bad 0 5 else
   let s1 := dC L [40] ⟨1, 0, 0, 0⟩
   if ¬ s1.bad = 0 then .bad s1.whr s1.bad else
   let r := tN L t.text s1
   let s3 := dC L [41] r.2
   if ¬ s3.bad = 0 then .bad s3.whr s3.bad else
   if L.length <= s3.pos then .ok ⟨⟨t.text.toArray⟩, r.1.1, r.1.2.1, r.1.2.2, []⟩ else
   if gC L kI s3.pos = false then .bad s3.pos 2 else
   let c := tE L 5 [] s3
   if ¬ c.2.bad = 0 then .bad c.2.whr c.2.bad else
   if c.2.pos < L.length then .bad c.2.pos 2 else .ok ⟨⟨t.text.toArray⟩, r.1.1, r.1.2.1, r.1.2.2, c.1⟩
def agX (l : List UInt8) : tV := match iT l with
 | .bad p e => .bad p e
 | .ok L => match agL L with
   | .bad p e => .bad (jK l.length L p) e
   | .ok a => .ok a
def dA : List CD -> Int
 | [] => 0
 | c :: r => if (aO c.op 0 0).isSome = false then 5 else if aI c.a = 0 then (if aI c.b = 0 then dA r else aI c.b) else aI c.a
def gR (a : AG) : Int := if a.fn.data.toList = aN then 0 else if aI a.e = 0 then (if a.fn.data.toList = aT then aI a.g else 0) else aI a.e
def iD (a : AG) : Int :=
 if cZ a.fn.data.toList = false then 5 else
 if a.fn.data.toList = eJ /\ (a.k < 1 \/ 16 < a.k) then 1 else
 if gR a = 0 then (if 4 < a.wh.length then 4 else dA a.wh) else gR a
def gV : List CD -> List CD -> Bool
 | [], [] => true
 | c :: r, d :: q => (c.op.toList == d.op.toList) && dH c.a d.a && dH c.b d.b && gV r q
 | _, _ => false
def rV (a b : AG) : Bool :=
 (a.fn.toList == b.fn.toList) && !((a.fn.data.toList == eJ) && a.k != b.k) && !((a.fn.data.toList != aN) && !dH a.e b.e) && !((a.fn.data.toList == aT) && !dH a.g b.g) && (a.wh.length == b.wh.length) && gV a.wh b.wh
def nH : List CD -> List UInt8
 | [] => []
 | c :: r => [32, 97, 110, 100, 32] ++ (bI c.a ++ 32 :: (c.op.data.toList ++ 32 :: bI c.b)) ++ nH r
def yH : List CD -> List UInt8
 | [] => []
 | c :: r => [32, 119, 104, 101, 114, 101, 32] ++ (bI c.a ++ 32 :: (c.op.data.toList ++ 32 :: bI c.b)) ++ nH r
def rR (a : AG) : List UInt8 :=
 if a.fn.data.toList = aN then [] else
 if a.fn.data.toList = eJ then Lib.itoa a.k ++ 44 :: 32 :: bI a.e else
 if a.fn.data.toList = aT then bI a.e ++ 44 :: 32 :: bI a.g else bI a.e
def yI (a : AG) : List UInt8 := a.fn.data.toList ++ 40 :: (rR a ++ 41 :: yH a.wh)
theorem gD {L : List Tk} {x : List UInt8} {s : RS} (h : ¬ s.bad = 0) : dC L x s = s := if_neg h
theorem fR {L : List Tk} {s : RS} (h : ¬ s.bad = 0) : bQ L s = (aP, s) := if_neg h
def kP (x : List UInt8) : Bool := x == eJ
def bP (x : List UInt8) : Bool := x == aT
def eP (x : List UInt8) : Bool := cZ x && !(x == aN)
def aZ (L : List Tk) (p : Nat) : Tk := (L[p]?).getD ⟨0, [], 0, 0⟩
def atR (s : RS) : Nat := if s.bad = 0 then s.pos else s.whr
def bL (so : Bool) (e : Int) (s : RS) : RS := if so = true then s else cH e s
def goR (s : RS) : RS := if s.bad = 0 then cY s else s
theorem iZ {s : RS} (h : s.bad = 0) : atR s = s.pos := if_pos h
theorem oB {s : RS} (h : ¬ s.bad = 0) : atR s = s.whr := if_neg h
theorem mZ {e : Int} {s : RS} (h : ¬ s.bad = 0) : cH e s = s := if_neg h
theorem IW (e : Int) (he : ¬ e = 0) (s : RS) : atR (cH e s) = atR s := by
 unfold cH
 by_cases h : s.bad = 0
 · rw [if_pos h, iZ h, oB he]
 · rw [if_neg h]
theorem Ad {s : RS} (h : s.bad = 0) : goR s = cY s := if_pos h
theorem fC {s : RS} (h : ¬ s.bad = 0) : goR s = s := if_neg h
theorem iQ (e : Int) (s : RS) : bL true e s = s := rfl
theorem fP (e : Int) (s : RS) : bL false e s = cH e s := rfl
theorem IR (L : List Tk) (x : List UInt8) (p : Nat) : isS L x p = ((aZ L p).kind == 3 && (aZ L p).text == x) := by
 unfold isS aZ;cases L[p]? with
 | none => rfl
 | some t => rfl
theorem Fl (L : List Tk) (x : List UInt8) (p : Nat) : gC L x p = ((aZ L p).kind == 1 && (aZ L p).text == x) := by
 unfold gC aZ;cases L[p]? with
 | none => rfl
 | some t => rfl
theorem Ia (L : List Tk) (x : List UInt8) (s : RS) : goR (bL ((aZ L (atR s)).kind == 3 && (aZ L (atR s)).text == x) 2 s) = dC L x s := by
 unfold dC
 by_cases h : s.bad = 0
 · rw [if_pos h, iZ h, <- IR]
   cases hs : isS L x s.pos with
   | true => rw [iQ, Ad h, if_pos rfl]
   | false =>
     rw [fP, if_neg (by decide)];refine fC ?_;unfold cH;rw [if_pos h];show ¬ (2 : Int) = 0
     decide
 · rw [if_neg h]
   have : bL ((aZ L (atR s)).kind == 3 && (aZ L (atR s)).text == x) 2 s = s := by
    unfold bL
    split
    · rfl
    · exact mZ h
   rw [this, fC h]
def oG (L : List Tk) (s : RS) : RS := goR (bL (decide (1 <= (aZ L (atR s)).num) && decide ((aZ L (atR s)).num <= 16)) 1 (bL ((aZ L (atR s)).kind == 2) 2 s))
theorem fQ {so : Bool} {e : Int} {s : RS} (h : ¬ s.bad = 0) : bL so e s = s := by
 unfold bL
 split
 · rfl
 · exact mZ h
theorem cR {e : Int} (he : ¬ e = 0) {s : RS} (h : s.bad = 0) : ¬ (cH e s).bad = 0 := by unfold cH; rw [if_pos h]; exact he
def lS (s t : RS) : Prop := atR s = atR t /\ s.bad = t.bad
theorem lS.refl (s : RS) : lS s s := ⟨rfl, rfl⟩
theorem Fu (L : List Tk) (s : RS) : lS (oG L s) (yC L s).2 /\ ((oG L s).bad = 0 -> oG L s = (yC L s).2 /\ (yC L s).1 = (aZ L (atR s)).num) := by
 unfold oG yC
 by_cases h : s.bad = 0
 · rw [if_pos h, iZ h]
   unfold aZ;cases ht : L[s.pos]? with
   | none =>
     have e : bL ((none.getD (⟨0, [], 0, 0⟩ : Tk)).kind == 2) 2 s = cH 2 s := rfl;rw [e, fQ (cR (by decide) h), fC (cR (by decide) h)];exact ⟨lS.refl _, fun h' => absurd h' (cR (by decide) h)⟩
   | some t =>
     show lS (goR (bL (decide (1 <= t.num) && decide (t.num <= 16)) 1 (bL (t.kind == 2) 2 s))) _ /\ _
     by_cases hk : t.kind = 2
     · have e : (t.kind == 2) = true := by rw [hk]; rfl
       simp only [Option.getD_some];rw [e, iQ]
       try simp only
       rw [if_pos hk]
       by_cases hn : t.num < 1 \/ 16 < t.num
       · have e2 : (decide (1 <= t.num) && decide (t.num <= 16)) = false := by
          rcases hn with hn | hn
          · rw [decide_eq_false (by omega), Bool.false_and]
          · rw [decide_eq_false (p := t.num <= 16) (by omega), Bool.and_false]
         rw [e2, fP, fC (cR (by decide) h)]
         try simp only
         rw [if_pos hn];refine ⟨⟨?_, rfl⟩, fun h' => absurd h' (cR (by decide) h)⟩;have hb : ¬ (cY (cH 1 s)).bad = 0 := cR (by decide) h;rw [oB (cR (by decide) h), oB hb];rfl
       · have e2 : (decide (1 <= t.num) && decide (t.num <= 16)) = true := by rw [decide_eq_true (by omega), decide_eq_true (by omega)]; rfl
         rw [e2, iQ, Ad h]
         try simp only
         rw [if_neg hn];exact ⟨lS.refl _, fun _ => by first | exact ⟨rfl, rfl⟩ | exact ⟨trivial, rfl⟩ | exact ⟨rfl, trivial⟩⟩
     · have e : (t.kind == 2) = false := beq_eq_false_iff_ne.2 hk
       simp only [Option.getD_some];rw [e, fP, fQ (cR (by decide) h), fC (cR (by decide) h)]
       try simp only
       rw [if_neg hk];exact ⟨lS.refl _, fun h' => absurd h' (cR (by decide) h)⟩
 · rw [if_neg h, fQ h, fQ h, fC h]
   exact ⟨lS.refl _, fun h' => absurd h' h⟩
theorem uF {L : List Tk} {x : List UInt8} {s : RS} (h : ¬ s.bad = 0) : ¬ (dC L x s).bad = 0 := by rw [gD h]; exact h
theorem EI {L : List Tk} {s : RS} (h : ¬ s.bad = 0) : ¬ (bQ L s).2.bad = 0 := by rw [fR h]; exact h
theorem uW {L : List Tk} {x : List UInt8} {s t : RS} (h : lS s t) (he : s.bad = 0 -> s = t) : lS (dC L x s) (dC L x t) /\ ((dC L x s).bad = 0 -> dC L x s = dC L x t) := by
 by_cases hb : s.bad = 0
 · rw [he hb]; exact ⟨lS.refl _, fun _ => rfl⟩
 · have hc : ¬ t.bad = 0 := by rw [<- h.2]; exact hb
   rw [gD hb, gD hc];exact ⟨h, fun h' => absurd h' hb⟩
theorem DP {L : List Tk} {s t : RS} (h : lS s t) (he : s.bad = 0 -> s = t) : lS (bQ L s).2 (bQ L t).2 /\ ((bQ L s).2.bad = 0 -> bQ L s = bQ L t) := by
 by_cases hb : s.bad = 0
 · rw [he hb]; exact ⟨lS.refl _, fun _ => rfl⟩
 · have hc : ¬ t.bad = 0 := by rw [<- h.2]; exact hb
   rw [fR hb, fR hc];exact ⟨h, fun h' => absurd h' hb⟩
def nE (L : List Tk) (fn : List UInt8) (s : RS) : RS := if kP fn = true then dC L [44] (oG L s) else s
def oC (L : List Tk) (fn : List UInt8) (s : RS) : TN × RS := if eP fn = true then bQ L s else (aP, s)
def qD (L : List Tk) (fn : List UInt8) (s : RS) : TN × RS := if bP fn = true then bQ L (dC L [44] s) else (aP, s)
def gX (L : List Tk) (fn : List UInt8) (s : RS) : RS := (qD L fn (oC L fn (nE L fn s)).2).2
theorem vX (L : List Tk) (fn : List UInt8) {s : RS} (h : ¬ s.bad = 0) : gX L fn s = s := by
 have h1 : oG L s = s := by unfold oG; rw [fQ h, fQ h, fC h]
 have e1 : nE L fn s = s := by
  unfold nE
  split
  · rw [h1, gD h]
  · rfl
 have e2 : (oC L fn s).2 = s := by
  unfold oC
  split
  · rw [fR h]
  · rfl
 have e3 : (qD L fn s).2 = s := by
  unfold qD
  split
  · rw [gD h, fR h]
  · rfl
 unfold gX;rw [e1, e2, e3]
theorem Fd (L : List Tk) (fn : List UInt8) (hf : cZ fn = true) (s : RS) : lS (gX L fn s) (tN L fn s).2 /\ ((gX L fn s).bad = 0 -> gX L fn s = (tN L fn s).2 /\
 (tN L fn s).1 = ((if kP fn = true then (aZ L (atR s)).num else 0), (oC L fn (nE L fn s)).1, (qD L fn (oC L fn (nE L fn s)).2).1)) := by
 by_cases hc : fn = aN
 · subst hc
   have e1 : tN L aN s = ((0, aP, aP), s) := if_pos rfl;rw [e1];exact ⟨lS.refl _, fun _ => by first | exact ⟨rfl, rfl⟩ | exact ⟨trivial, rfl⟩ | exact ⟨rfl, trivial⟩⟩
 have he : eP fn = true := by unfold eP; rw [hf, beq_eq_false_iff_ne.2 hc]; rfl
 have A1 : tN L fn s = (let p := if fn = eJ then ((yC L s).1, dC L [44] (yC L s).2) else (0, s); let e := bQ L p.2; if fn = aT then (let g := bQ L (dC L [44] e.2); ((p.1, e.1, g.1), g.2)) else ((p.1, e.1, aP), e.2)) := if_neg hc;rw [A1];have hE : ∀ u, oC L fn u = bQ L u := fun u => if_pos he
 by_cases ht : fn = eJ
 · have hb : ¬ fn = aT := by rw [ht]; decide
   have k1 : kP fn = true := by unfold kP; rw [ht]; decide
   have b1 : ¬ bP fn = true := by unfold bP; rw [ht]; decide
   have hB : ∀ u, qD L fn u = (aP, u) := fun u => if_neg b1
   have hK : nE L fn s = dC L [44] (oG L s) := if_pos k1;simp only [if_pos ht, if_neg hb, if_pos k1];unfold gX;rw [hB, hE, hK];obtain ⟨l1, h1⟩ := Fu L s;obtain ⟨l2, h2⟩ := uW (L := L) (x := [44]) l1 (fun h => (h1 h).1);obtain ⟨l3, h3⟩ := DP (L := L) l2 h2;refine ⟨l3, fun h => ⟨by rw [h3 h], ?_⟩⟩;have hw : (dC L [44] (oG L s)).bad = 0 := Decidable.byContradiction fun hx => EI hx h
   have ht0 : (oG L s).bad = 0 := Decidable.byContradiction fun hx => uF hx hw
   rw [(h1 ht0).2, h3 h]
 · have k1 : ¬ kP fn = true := by unfold kP; rw [beq_eq_false_iff_ne.2 ht]; decide
   have hK : nE L fn s = s := if_neg k1;simp only [if_neg ht, if_neg k1];unfold gX;rw [hK, hE]
   by_cases hb : fn = aT
   · have b1 : bP fn = true := by unfold bP; rw [hb]; decide
     have hB : ∀ u, qD L fn u = bQ L (dC L [44] u) := fun u => if_pos b1
     rw [hB, if_pos hb];exact ⟨lS.refl _, fun _ => by first | exact ⟨rfl, rfl⟩ | exact ⟨trivial, rfl⟩ | exact ⟨rfl, trivial⟩⟩
   · have b1 : ¬ bP fn = true := by unfold bP; rw [beq_eq_false_iff_ne.2 hb]; decide
     have hB : ∀ u, qD L fn u = (aP, u) := fun u => if_neg b1
     rw [hB, if_neg hb];exact ⟨lS.refl _, fun _ => by first | exact ⟨rfl, rfl⟩ | exact ⟨trivial, rfl⟩ | exact ⟨rfl, trivial⟩⟩
inductive Aw | bad (p : Nat) (e : Int) | ok (l : List CD)
def dR (L : List Tk) : Nat -> List CD -> RS -> Aw
 | 0, _, _ => .bad 0 0
 | f + 1, acc, s =>
   if ¬ s.bad = 0 then .bad s.whr s.bad else
   if L.length <= s.pos then .ok acc else
   if gC L (if acc.length = 0 then kI else rK) s.pos = false then .bad s.pos 2 else
   if 4 <= acc.length then .bad s.pos 4 else
   dR L f (acc ++ [(e8 L (cY s)).1]) (e8 L (cY s)).2
def xI (L : List Tk) (c : List CD × RS) : Aw := if ¬ c.2.bad = 0 then .bad c.2.whr c.2.bad else if c.2.pos < L.length then .bad c.2.pos 2 else .ok c.1
theorem Hq {L : List Tk} {x : List UInt8} {p : Nat} (h : gC L x p = true) : p < L.length := by
 unfold gC at h;cases hp : L[p]? with
 | none => rw [hp] at h; cases h
 | some t => exact (List.getElem?_eq_some_iff.1 hp).1
theorem Al (L : List Tk) : ∀ (f : Nat) (acc : List CD) (s : RS), acc.length + f = 5 -> acc.length <= 4 -> s.bad = 0 -> gC L (if acc.length = 0 then kI else rK) s.pos = true -> xI L (tE L f acc s) = dR L (f + 1) acc s
 | 0, acc, s, hl, h4, hb, hw => by omega
 | f + 1, acc, s, hl, h44, hb, hw => by
   have hlt := Hq hw;rw [dR, if_neg (not_not_intro hb), if_neg (show ¬ L.length <= s.pos by omega), hw, if_neg (by decide)];rw [tE]
   by_cases h4 : acc.length = 4
   · rw [if_pos h4, if_pos (show 4 <= acc.length by omega)]
     unfold xI;rw [if_pos (cR (by decide) hb)];unfold cH;rw [if_pos hb]
   · rw [if_neg h4, if_neg (show ¬ 4 <= acc.length by omega)]
     try simp only
     obtain ⟨c, t, hc⟩ : ∃ c t, e8 L (cY s) = (c, t) := ⟨_, _, rfl⟩;rw [hc]
     try simp only
     by_cases hg : (t.bad == 0 && gC L rK t.pos) = true
     · rw [if_pos hg]
       rw [Bool.and_eq_true, beq_iff_eq] at hg;refine Al L f _ _ (by rw [List.length_append, List.length_singleton]; omega) (by rw [List.length_append, List.length_singleton]; omega) hg.1 ?_;rw [if_neg (by rw [List.length_append, List.length_singleton]; omega)];exact hg.2
     · rw [if_neg hg]
       cases f with
       | zero => omega
       | succ f =>
         rw [dR];unfold xI
         try simp only
         by_cases ht : t.bad = 0
         · rw [if_neg (not_not_intro ht), if_neg (not_not_intro ht)]
           have hw2 : gC L rK t.pos = false := by
            cases h : gC L rK t.pos with
            | false => rfl
            | true => exact absurd (by rw [h, Bool.and_true, beq_iff_eq]; exact ht) hg
           by_cases hp : t.pos < L.length
           · rw [if_pos hp, if_neg (show ¬ L.length <= t.pos by omega), if_neg (c := (acc ++ [c]).length = 0) (by rw [List.length_append, List.length_singleton]; omega), hw2, if_pos rfl]
           · rw [if_neg hp, if_pos (show L.length <= t.pos by omega)]
         · rw [if_pos ht, if_pos ht]
def fO (L : List Tk) : RS := goR (bL (cZ (aZ L 0).text) 5 (bL ((aZ L 0).kind == 1) 2 ⟨0, 0, 0, 0⟩))
def oY (L : List Tk) : RS := dC L [40] (fO L)
def lW (L : List Tk) : RS := dC L [41] (gX L (aZ L 0).text (oY L))
def uN (L : List Tk) (l : List CD) : AG :=
 let fn := (aZ L 0).text
 let s := oY L
 ⟨⟨fn.toArray⟩, if kP fn = true then (aZ L (atR s)).num else 0, (oC L fn (nE L fn s)).1, (qD L fn (oC L fn (nE L fn s)).2).1, l⟩
def agS (L : List Tk) : tV := match dR L 6 [] (lW L) with | .bad p e => .bad p e | .ok l => .ok (uN L l)
theorem eN {L : List Tk} {f : Nat} {acc : List CD} {s : RS} (h : ¬ s.bad = 0) : dR L (f + 1) acc s = .bad s.whr s.bad := by rw [dR, if_pos h]
theorem xO {L : List Tk} (h : ¬ (fO L).bad = 0) : agS L = .bad (fO L).whr (fO L).bad := by
 have e1 : oY L = fO L := gD h;have e2 : lW L = fO L := by unfold lW; rw [e1, vX L _ h, gD h]
 unfold agS;rw [e2, eN h]
theorem J5 (L : List Tk) : agL L = agS L := by
 unfold agL;cases h0 : L[0]? with
 | none =>
   have e : fO L = cH 2 ⟨0, 0, 0, 0⟩ := by
    unfold fO aZ;rw [h0];rfl
   have hb : ¬ (fO L).bad = 0 := by rw [e]; exact cR (by decide) rfl
   rw [xO hb, e];rfl
 | some t =>
   have ht : aZ L 0 = t := by unfold aZ; rw [h0]; rfl
   simp only
   by_cases hk : t.kind = 1
   · have e1 : (t.kind == 1) = true := by rw [hk]; rfl
     rw [if_neg (not_not_intro hk)];cases hf : cZ t.text with
     | false =>
       have e : fO L = cH 5 ⟨0, 0, 0, 0⟩ := by
        unfold fO;rw [ht, e1, hf];rfl
       have hb : ¬ (fO L).bad = 0 := by rw [e]; exact cR (by decide) rfl
       rw [xO hb, e, if_pos rfl];rfl
     | true =>
       have e : fO L = ⟨1, 0, 0, 0⟩ := by
        unfold fO;rw [ht, e1, hf];rfl
       have eh : oY L = dC L [40] ⟨1, 0, 0, 0⟩ := by unfold oY; rw [e]
       rw [if_neg (by decide)];obtain ⟨s1, h1⟩ : ∃ s, dC L [40] ⟨1, 0, 0, 0⟩ = s := ⟨_, rfl⟩;rw [h1] at eh |-
       by_cases hb : s1.bad = 0
       · rw [if_neg (not_not_intro hb)]
         obtain ⟨l2, h2⟩ := Fd L t.text hf s1;obtain ⟨l3, h3⟩ := uW (L := L) (x := [41]) l2 (fun h => (h2 h).1);have et : lW L = dC L [41] (gX L t.text s1) := by unfold lW; rw [eh, ht]
         by_cases hb3 : (dC L [41] (gX L t.text s1)).bad = 0
         · have ha : (gX L t.text s1).bad = 0 := Decidable.byContradiction fun hx => uF hx hb3
           have es := h3 hb3;have ev := (h2 ha).2;obtain ⟨s3, hs3⟩ : ∃ s, dC L [41] (gX L t.text s1) = s := ⟨_, rfl⟩;rw [hs3] at es et hb3
           try simp only
           rw [<- es, if_neg (not_not_intro hb3)];unfold agS;rw [et, ev]
           have er : ∀ l, uN L l = ⟨⟨t.text.toArray⟩, if kP t.text = true then (aZ L (atR s1)).num else 0, (oC L t.text (nE L t.text s1)).1, (qD L t.text (oC L t.text (nE L t.text s1)).2).1, l⟩ := fun l => by
            unfold uN;rw [ht, eh]
           simp only [er]
           by_cases hl : L.length <= s3.pos
           · rw [if_pos hl, dR, if_neg (not_not_intro hb3), if_pos hl]
           · rw [if_neg hl]
             cases hw : gC L kI s3.pos with
             | false =>
               rw [if_pos rfl, dR, if_neg (not_not_intro hb3), if_neg hl, if_pos (show ([] : List CD).length = 0 from rfl), hw, if_pos rfl]
             | true =>
               rw [if_neg (by decide), <- Al L 5 [] s3 rfl (by decide) hb3 (by rw [if_pos (show ([] : List CD).length = 0 from rfl)]; exact hw)];unfold xI;obtain ⟨c, hc⟩ : ∃ c, tE L 5 [] s3 = c := ⟨_, rfl⟩;rw [hc]
               by_cases h5 : c.2.bad = 0
               · rw [if_neg (not_not_intro h5), if_neg (not_not_intro h5)]
                 by_cases h6 : c.2.pos < L.length
                 · rw [if_pos h6, if_pos h6]
                 · rw [if_neg h6, if_neg h6]
               · rw [if_pos h5, if_pos h5]
         · have hb4 : ¬ (dC L [41] (tN L t.text s1).2).bad = 0 := by rw [<- l3.2]; exact hb3
           try simp only
           rw [if_pos hb4];unfold agS;rw [et, eN hb3, l3.2];have := l3.1;rw [oB hb3, oB hb4] at this;rw [this]
       · rw [if_pos hb]
         have et : lW L = s1 := by unfold lW; rw [eh, vX L _ hb, gD hb]
         unfold agS;rw [et, eN hb]
   · have e1 : (t.kind == 1) = false := beq_eq_false_iff_ne.2 hk
     have e : fO L = cH 2 ⟨0, 0, 0, 0⟩ := by
      unfold fO;rw [ht, e1, fP, fQ (cR (by decide) rfl), fC (cR (by decide) rfl)]
     have hb : ¬ (fO L).bad = 0 := by rw [e]; exact cR (by decide) rfl
     rw [if_pos hk, xO hb, e];rfl
def tT (n : Nat) (s : RS) : Prop := (s.bad = 0 -> s.pos <= n) /\ s.whr <= n
theorem sX {n : Nat} {s : RS} {e : Int} (he : ¬ e = 0) (h : tT n s) : tT n (cH e s) := by
 unfold cH
 by_cases hb : s.bad = 0
 · rw [if_pos hb]; exact ⟨fun h' => absurd h' he, h.1 hb⟩
 · rw [if_neg hb]; exact h
theorem l7 {n : Nat} {s : RS} (h : tT n s) (hlt : s.bad = 0 -> s.pos < n) : tT n (dL s) := by
 unfold dL
 by_cases hb : s.bad = 0
 · rw [if_pos hb]
   split
   · exact ⟨fun h' => absurd h' (by show ¬ (4 : Int) = 0; decide), h.1 hb⟩
   · exact ⟨fun _ => hlt hb, h.2⟩
 · rw [if_neg hb]; exact ⟨fun h' => absurd h' hb, h.2⟩
theorem pA {n : Nat} {s : RS} (h : tT n s) (hlt : s.bad = 0 -> s.pos < n) : tT n (cY s) := ⟨fun hb => hlt hb, h.2⟩
theorem EF {L : List Tk} {s : RS} (h : tT L.length s) : tT L.length (iW L s) := by
 unfold iW
 by_cases hb : s.bad = 0
 · cases hs : isS L [41] s.pos with
   | true =>
     have e : (s.bad == 0 && !true) = false := by simp
     rw [if_neg (by rw [e]; decide)];exact pA h (fun _ => nZ hs)
   | false =>
     have e : (s.bad == 0 && !false) = true := by rw [hb]; rfl
     rw [if_pos e];refine pA (sX (by decide) h) (fun h' => ?_);unfold cH at h';rw [if_pos hb] at h';exact absurd h' (by show ¬ (2 : Int) = 0; decide)
 · have e : (s.bad == 0 && !isS L [41] s.pos) = false := by
    have : (s.bad == 0) = false := by simpa using hb
    rw [this]; rfl
   rw [if_neg (by rw [e]; decide)];exact pA h (fun h' => absurd h' hb)
theorem iP (L : List Tk) : ∀ (f : Nat) (md : Md) (s : RS), tT L.length s -> tT L.length (pr L f md s).2
 | 0, _, s, h => h
 | f + 1, .fac, s, h => by
   rw [pr]
   by_cases hb : s.bad = 0
   · rw [if_pos hb]
     cases ht : L[s.pos]? with
     | none => exact sX (by decide) h
     | some t =>
       have hlt : s.bad = 0 -> s.pos < L.length := fun _ => (List.getElem?_eq_some_iff.1 ht).1
       simp only
       by_cases h2 : t.kind = 2
       · rw [if_pos h2]; exact l7 h hlt
       rw [if_neg h2]
       by_cases h1 : t.kind = 1
       · rw [if_pos h1]; exact l7 h hlt
       rw [if_neg h1]
       by_cases h45 : t.text = [45]
       · rw [if_pos h45]; exact iP L f .fac _ (l7 h hlt)
       rw [if_neg h45]
       by_cases h40 : t.text = [40]
       · rw [if_pos h40]; exact EF (iP L f .sum _ (pA h hlt))
       rw [if_neg h40]; exact sX (by decide) h
   · rw [if_neg hb]; exact h
 | f + 1, .prod, s, h => by
   rw [pr];exact iP L f _ _ (iP L f .fac s h)
 | f + 1, .prodL n, s, h => by
   rw [pr]
   split
   · rename_i hc
     simp only [Bool.and_eq_true] at hc;exact iP L f _ _ (iP L f .fac _ (l7 h (fun _ => wU hc.2)))
   · exact h
 | f + 1, .sum, s, h => by
   rw [pr];exact iP L f _ _ (iP L f .prod s h)
 | f + 1, .sumL n, s, h => by
   rw [pr]
   split
   · rename_i hc
     simp only [Bool.and_eq_true] at hc;exact iP L f _ _ (iP L f .prod _ (l7 h (fun _ => wW hc.2)))
   · exact h
theorem AW {L : List Tk} {p : Nat} (hp : p <= L.length) : (∀ t q, ofL L p = .ok t q -> q <= L.length) /\ (∀ q e, ofL L p = .bad q e -> q <= L.length /\ ¬ e = 0) := by
 have h : tT L.length (pE L .sum ⟨p, 0, 0, 0⟩).2 := iP L _ _ _ ⟨fun _ => hp, Nat.zero_le _⟩;unfold ofL
 by_cases hb : (pE L .sum ⟨p, 0, 0, 0⟩).2.bad = 0
 · rw [if_pos hb]
   refine ⟨fun t q e => ?_, fun q e he => by cases he⟩;cases e;exact h.1 hb
 · rw [if_neg hb]
   refine ⟨fun t q e => (by cases e), fun q e he => ?_⟩;cases he;exact ⟨h.2, hb⟩
def eF (G : Nat -> Prop) (w : World) (a : Option Addr) (l : List CD) : Prop := l = [] \/ ∃ b off, a = some ⟨b, off, none⟩ /\ G b /\ b < w.heap.size /\ ∀ j x, l[j]? = some x ->
 ∃ a1 c1 a2 c2, (w.cell? ⟨b, off + j * 9, none⟩ = some (.string x.op) /\ w.cell? ⟨b, off + j * 9 + 1, none⟩ = some (.string x.a.op) /\ w.cell? ⟨b, off + j * 9 + 1 + 1, none⟩ = some (.string x.a.nm) /\ w.cell? ⟨b, off + j * 9 + 1 + 2, none⟩ = some (.int .i64 x.a.n) /\
   w.cell? ⟨b, off + j * 9 + 1 + 3, none⟩ = some (.slice a1 x.a.ks.len c1) /\ w.cell? ⟨b, off + j * 9 + 5, none⟩ = some (.string x.b.op) /\ w.cell? ⟨b, off + j * 9 + 5 + 1, none⟩ = some (.string x.b.nm) /\ w.cell? ⟨b, off + j * 9 + 5 + 2, none⟩ = some (.int .i64 x.b.n) /\
   w.cell? ⟨b, off + j * 9 + 5 + 3, none⟩ = some (.slice a2 x.b.ks.len c2)) /\ aG G w a1 x.a.ks /\ aG G w a2 x.b.ks
theorem eF.keptS {S G : Nat -> Prop} {w w' : World} {a : Option Addr} {l : List CD} (h : eF G w a l) (hk : aF S w w') (hS : ∀ k, S k -> ¬ G k) : eF G w' a l :=
 Or.imp id (fun ⟨b, off, e, hg, hlt, hc⟩ => ⟨b, off, e, hg, Nat.lt_of_lt_of_le hlt hk.size, fun j x hj => by
  have hb : ¬ S b := fun hs => hS b hs hg
  obtain ⟨a1, c1, a2, c2, ⟨h0, h1, h2, h3, h4, h5, h6, h7, h8⟩, r1, r2⟩ := hc j x hj;exact ⟨a1, c1, a2, c2, ⟨hk.cell h0 hb, hk.cell h1 hb, hk.cell h2 hb, hk.cell h3 hb, hk.cell h4 hb, hk.cell h5 hb, hk.cell h6 hb, hk.cell h7 hb, hk.cell h8 hb⟩, r1.keptS hk hS, r2.keptS hk hS⟩⟩) h
theorem eF.kept {G : Nat -> Prop} {w w' : World} {a : Option Addr} {l : List CD} (h : eF G w a l) (hb : Below w.heap.size w w') : eF G w' a l := h.keptS (S := fun _ => False) (aE hb _) (fun _ h => h.elim)
theorem eF.imp {G H : Nat -> Prop} {w : World} {a : Option Addr} {l : List CD} (h : eF G w a l) (hG : ∀ b, b < w.heap.size -> G b -> H b) : eF H w a l :=
 Or.imp id (fun ⟨b, off, e, hg, hlt, hc⟩ => ⟨b, off, e, hG b hlt hg, hlt, fun j x hj => by
  obtain ⟨a1, c1, a2, c2, h0, r1, r2⟩ := hc j x hj;exact ⟨a1, c1, a2, c2, h0, r1.imp hG, r2.imp hG⟩⟩) h
structure PA where
 ea : Option Addr
 ec : Nat
 ga : Option Addr
 gc : Nat
 wa : Option Addr
 wc : Nat
abbrev agC (x : AG) (p : PA) : Array Value := #[.string x.fn, .int .i64 x.k, .string x.e.op, .string x.e.nm, .int .i64 x.e.n, .slice p.ea x.e.ks.len p.ec, .string x.g.op, .string x.g.nm, .int .i64 x.g.n, .slice p.ga x.g.ks.len p.gc, .slice p.wa x.wh.length p.wc]
abbrev agV (x : AG) (p : PA) : Value := .agg (agC x p)
abbrev agO (x : AG) (p : PA) : Obj := .cells (agC x p) 37
structure aJ (G : Nat -> Prop) (w : World) (x : AG) (p : PA) : Prop where
 e : aG G w p.ea x.e.ks
 g : aG G w p.ga x.g.ks
 c : eF G w p.wa x.wh
theorem aJ.kept {G : Nat -> Prop} {w w' : World} {x : AG} {p : PA} (h : aJ G w x p) (hb : Below w.heap.size w w') : aJ G w' x p := ⟨h.e.kept hb, h.g.kept hb, h.c.kept hb⟩
theorem aJ.keptS {S G : Nat -> Prop} {w w' : World} {x : AG} {p : PA} (h : aJ G w x p) (hk : aF S w w') (hS : ∀ k, S k -> ¬ G k) : aJ G w' x p := ⟨h.e.keptS hk hS, h.g.keptS hk hS, h.c.keptS hk hS⟩
theorem aJ.imp {G H : Nat -> Prop} {w : World} {x : AG} {p : PA} (h : aJ G w x p) (hG : ∀ b, b < w.heap.size -> G b -> H b) : aJ H w x p := ⟨h.e.imp hG, h.g.imp hG, h.c.imp hG⟩
theorem aD {W : World} {B : Nat} {v0 v1 v2 v3 v4 v5 v6 v7 v8 v9 v10 : Value} {t : TypeId} (h : W.heap[B]? = some (.cells #[v0, v1, v2, v3, v4, v5, v6, v7, v8, v9, v10] t (0, 0))) :
 W.cell? ⟨B, 0, none⟩ = some v0 /\ W.cell? ⟨B, 1, none⟩ = some v1 /\ W.cell? ⟨B, 2, none⟩ = some v2 /\ W.cell? ⟨B, 3, none⟩ = some v3 /\ W.cell? ⟨B, 4, none⟩ = some v4 /\ W.cell? ⟨B, 5, none⟩ = some v5 /\ W.cell? ⟨B, 6, none⟩ = some v6 /\ W.cell? ⟨B, 7, none⟩ = some v7 /\ W.cell? ⟨B, 8, none⟩ = some v8 /\ W.cell? ⟨B, 9, none⟩ = some v9 /\ W.cell? ⟨B, 10, none⟩ = some v10 := by
 refine ⟨?_, ?_, ?_, ?_, ?_, ?_, ?_, ?_, ?_, ?_, ?_⟩ <;> simp [World.cell?, h]
structure SzG (x : AG) : Prop where
 e : SzF x.e.f
 g : SzF x.g.f
 c : ∀ d ∈ x.wh, SzF d.a.f /\ SzF d.b.f
structure KA (G : Nat -> Prop) (w : World) (x : AG) (p : PA) (V : World) : Prop where
 b : Below w.heap.size w V
 z : w.heap.size <= V.heap.size
 n : V.heap[w.heap.size]? = some (agO x p)
 r : aJ G V x p
theorem KA.step {G : Nat -> Prop} {w V V' : World} {x : AG} {p : PA} (h : KA G w x p V) (hb : Below V.heap.size V V') : KA G w x p V' :=
 ⟨h.b.trans (hb.mono h.z), Nat.le_trans h.z hb.size, (hb.block _ (aC h.n)).trans h.n, h.r.kept hb⟩
theorem JL {G : Nat -> Prop} {w : World} {x : AG} {p : PA} (hr : aJ G w x p) : KA G w x p (w.alloc (agO x p)) :=
 ⟨(Below.refl _ _).alloc (Nat.le_refl _) _, by rw [World.size_alloc]; omega, heap_alloc_new w _, hr.kept ((Below.refl _ _).alloc (Nat.le_refl _) _)⟩
set_option maxHeartbeats 4000000 in
theorem Dy (o : ByteArray) (w : World) : Calls Tryz.prog 33 #[.string o] w fun e w' => e = .returned (.bool (cZ o.data.toList)) /\ w = w' := by
 cases h0 : (o.data.toList == aN) with
 | true =>
   have g0 := bV h0;unfold aN at g0;have R : cZ o.data.toList = true := by unfold cZ; rw [h0]; simp
   rw [R];clear R h0
   go_enter Tryz.func33, Tryz.ntmps33
   go_wp2_with fail
   go_ret;exact ⟨rfl, rfl⟩
 | false =>
   cases h1 : (o.data.toList == i8) with
   | true =>
     have g0 := aH h0;unfold aN at g0;have g1 := bV h1;unfold i8 at g1;have R : cZ o.data.toList = true := by unfold cZ; rw [h1]; simp
     rw [R];clear R h0 h1
     go_enter Tryz.func33, Tryz.ntmps33
     go_wp2_with fail
     go_ret;exact ⟨rfl, rfl⟩
   | false =>
     cases h2 : (o.data.toList == kK) with
     | true =>
       have g0 := aH h0;unfold aN at g0;have g1 := aH h1;unfold i8 at g1;have g2 := bV h2;unfold kK at g2;have R : cZ o.data.toList = true := by unfold cZ; rw [h2]; simp
       rw [R];clear R h0 h1 h2
       go_enter Tryz.func33, Tryz.ntmps33
       go_wp2_with fail
       go_ret;exact ⟨rfl, rfl⟩
     | false =>
       cases h3 : (o.data.toList == i7) with
       | true =>
         have g0 := aH h0;unfold aN at g0;have g1 := aH h1;unfold i8 at g1;have g2 := aH h2;unfold kK at g2;have g3 := bV h3;unfold i7 at g3;have R : cZ o.data.toList = true := by unfold cZ; rw [h3]; simp
         rw [R];clear R h0 h1 h2 h3
         go_enter Tryz.func33, Tryz.ntmps33
         go_wp2_with fail
         go_ret;exact ⟨rfl, rfl⟩
       | false =>
         cases h4 : (o.data.toList == aT) with
         | true =>
           have g0 := aH h0;unfold aN at g0;have g1 := aH h1;unfold i8 at g1;have g2 := aH h2;unfold kK at g2;have g3 := aH h3;unfold i7 at g3;have g4 := bV h4;unfold aT at g4;have R : cZ o.data.toList = true := by unfold cZ; rw [h4]; simp
           rw [R];clear R h0 h1 h2 h3 h4
           go_enter Tryz.func33, Tryz.ntmps33
           go_wp2_with fail
           go_ret;exact ⟨rfl, rfl⟩
         | false =>
           cases h5 : (o.data.toList == eJ) with
           | true =>
             have g0 := aH h0;unfold aN at g0;have g1 := aH h1;unfold i8 at g1;have g2 := aH h2;unfold kK at g2;have g3 := aH h3;unfold i7 at g3;have g4 := aH h4;unfold aT at g4;have g5 := bV h5;unfold eJ at g5;have R : cZ o.data.toList = true := by unfold cZ; rw [h5]; simp
             rw [R];clear R h0 h1 h2 h3 h4 h5
             go_enter Tryz.func33, Tryz.ntmps33
             go_wp2_with fail
             go_ret;exact ⟨rfl, rfl⟩
           | false =>
             have g0 := aH h0;have g1 := aH h1;have g2 := aH h2;have g3 := aH h3;have g4 := aH h4;have g5 := aH h5;unfold aN at g0;unfold i8 at g1;unfold kK at g2;unfold i7 at g3;unfold aT at g4;unfold eJ at g5;rw [show cZ o.data.toList = false by unfold cZ; rw [h0, h1, h2, h3, h4, h5]; rfl];clear h0 h1 h2 h3 h4 h5
             go_enter Tryz.func33, Tryz.ntmps33
             go_wp2_with fail
             go_ret;exact ⟨rfl, rfl⟩
abbrev agP (x : AG) (p : PA) : Obj := .cells (agC x p) 28
def pX (t : TN) : Bool := decide (0 <= iU t 60)
def qY : List CD -> Bool
 | [] => true
 | d :: r => decide (d.op.size <= 20) && pX d.a && pX d.b && qY r
def EH (x : AG) : Bool := decide (x.fn.size <= 20) && pX x.e && pX x.g && decide (x.wh.length <= 8) && qY x.wh
structure LnG (x : AG) : Prop where
 e : mB x.e.f
 g : mB x.g.f
 c : ∀ d ∈ x.wh, mB d.a.f /\ mB d.b.f
 fn : x.fn.size <= 9223372036854775807
 op : ∀ d ∈ x.wh, d.op.size <= 9223372036854775807
 wh : x.wh.length <= 9223372036854775807
structure KP9 (G : Nat -> Prop) (w : World) (x : AG) (p : PA) (V : World) : Prop where
 b : Below w.heap.size w V
 z : w.heap.size <= V.heap.size
 n : V.heap[w.heap.size]? = some (agP x p)
 r : aJ G V x p
theorem KP9.step {G : Nat -> Prop} {w V V' : World} {x : AG} {p : PA} (h : KP9 G w x p V) (hb : Below V.heap.size V V') : KP9 G w x p V' :=
 ⟨h.b.trans (hb.mono h.z), Nat.le_trans h.z hb.size, (hb.block _ (aC h.n)).trans h.n, h.r.kept hb⟩
theorem lD {G : Nat -> Prop} {w : World} {x : AG} {p : PA} (hr : aJ G w x p) : KP9 G w x p (w.alloc (agP x p)) :=
 ⟨(Below.refl _ _).alloc (Nat.le_refl _) _, by rw [World.size_alloc]; omega, heap_alloc_new w _, hr.kept ((Below.refl _ _).alloc (Nat.le_refl _) _)⟩
set_option maxHeartbeats 16000000 in
set_option maxRecDepth 100000 in
theorem GJ {G : Nat -> Prop} (x : AG) (p : PA) (w : World) (hL : LnG x) (hr : aJ G w x p) : Calls Tryz.prog 14 #[agV x p] w fun e w' => e = .returned (.bool (EH x)) /\ Below w.heap.size w w' := by
 have K0 := lD hr;generalize hW : w.alloc (agP x p) = W at K0;have HW := aA hW;have HK := aA K0;have HL := aA hL;obtain ⟨r, hR⟩ : ∃ r, EH x = r := ⟨_, rfl⟩;rw [hR];unfold EH at hR;have hfs := hL.fn;have hwl := hL.wh;obtain ⟨z1, hz1⟩ : ∃ z, pX x.e = z := ⟨_, rfl⟩;obtain ⟨z2, hz2⟩ : ∃ z, pX x.g = z := ⟨_, rfl⟩;rw [hz1, hz2] at hR;have C1 := aA (fun V (hV : Below W.heap.size W V) => rD p.ec hL.e (HK.out.r.e.kept hV));have C2 := aA (fun V (hV : Below W.heap.size W V) => rD p.gc hL.g (HK.out.r.g.kept hV));unfold pX at hz1 hz2;rw [hz1] at C1;rw [hz2] at C2;have HR := aA hR;clear hW K0 hL hr hR hz1 hz2;obtain ⟨m0, m1, m2, m3, m4, m5, m6, m7, m8, m9, m10⟩ := aD HK.out.n
 go_enter Tryz.func14, Tryz.ntmps14
 go_upto_region 1 with fail
 rw [HW.out]
 by_cases ho : x.fn.size <= 20
 · have o1 : ¬ (20 : Int) < (x.fn.size : Int) := by omega
   have o2 : decide (20 < x.fn.size) = false := decide_eq_false (by omega);have HR0 := aA (show (z1 && z2 && decide (x.wh.length <= 8) && qY x.wh) = r by rw [<- HR.out, decide_eq_true ho, Bool.true_and]);clear ho HR
   go_wp2_with fail
   refine (C1.out W (Below.refl _ _)).mono ?_;rintro e v1 ⟨rfl, hb⟩;have K1 := aA (HK.out.step hb);have B1 := aA hb;clear hb m0 m1 m2 m3 m4 m5 m6 m7 m8 m9 m10;obtain ⟨m0, m1, m2, m3, m4, m5, m6, m7, m8, m9, m10⟩ := aD K1.out.n;cases z1 with
   | false =>
     have TR := aA (show false = r by rw [<- HR0.out]; rfl)
     go_wp2_with fail
     go_ret;exact ⟨congrArg (fun z => Ending.returned (.bool z)) TR.out, K1.out.b⟩
   | true =>
     have HR1 := aA (show (z2 && decide (x.wh.length <= 8) && qY x.wh) = r by rw [<- HR0.out, Bool.true_and])
     go_wp2_with fail
     refine (C2.out v1 B1.out).mono ?_;rintro e v2 ⟨rfl, hb⟩;have K3 := aA (K1.out.step hb);clear hb m0 m1 m2 m3 m4 m5 m6 m7 m8 m9 m10;obtain ⟨m0, m1, m2, m3, m4, m5, m6, m7, m8, m9, m10⟩ := aD K3.out.n;cases z2 with
     | false =>
       have TR := aA (show false = r by rw [<- HR1.out]; rfl)
       go_wp2_with fail
       go_ret;exact ⟨congrArg (fun z => Ending.returned (.bool z)) TR.out, K3.out.b⟩
     | true =>
       by_cases hl : x.wh.length <= 8
       · have l1 : ¬ (8 : Int) < (x.wh.length : Int) := by omega
         have l2 : decide (8 < x.wh.length) = false := decide_eq_false (by omega);have T0 := aA (show qY (x.wh.drop 0) = r by rw [List.drop_zero, <- HR1.out, decide_eq_true hl]; rfl);clear hl HR1 HR0
         go_wp2_with fail
         clear m0 m1 m2 m3 m4 m5 m6 m7 m8 m9 m10
         go_loopw [3] (fun i wr => ∃ (k : Nat), i = .int .i64 k /\ k <= x.wh.length /\ Hid (qY (x.wh.drop k) = r) /\ Hid (KP9 G w x p wr)) (fun i _ => x.wh.length - (intOf i).toNat)
         case atStart => exact ⟨0, rfl, Nat.zero_le _, T0, K3⟩
         case round =>
          obtain ⟨k, rfl, hk, HC, HK⟩ := hrel;obtain ⟨m0, m1, m2, m3, m4, m5, m6, m7, m8, m9, m10⟩ := aD HK.out.n
          by_cases hlt : k < x.wh.length
          · obtain ⟨d, hd⟩ : ∃ d, x.wh[k]? = some d := ⟨_, List.getElem?_eq_getElem hlt⟩
            have hne : ¬ x.wh = [] := fun e => by rw [e] at hlt; simp at hlt
            obtain ⟨b, off, hwa', -, hbl, hcc⟩ := HK.out.r.c.resolve_left hne;have hwa := aA hwa';clear hwa';obtain ⟨a1, c1, a2, c2, ⟨p0, p1, p2, p3, p4, p5, p6, p7, p8⟩, r1, r2⟩ := hcc k d hd
            have hdr : x.wh.drop k = d :: x.wh.drop (k + 1) := by
             rw [List.drop_eq_getElem_cons hlt];have := List.getElem?_eq_getElem hlt;rw [this] at hd;rw [Option.some.inj hd]
            have hC := HC.out;rw [hdr, qY] at hC;have hsz := HL.out.c d (List.mem_of_getElem? hd);have hos := HL.out.op d (List.mem_of_getElem? hd);have A1 := aA (fun V (hV : Below wr.heap.size wr V) => rD c1 hsz.1 (r1.kept hV));have A2 := aA (fun V (hV : Below wr.heap.size wr V) => rD c2 hsz.2 (r2.kept hV))
            have CE := aA (p := ∀ V, Below wr.heap.size wr V -> (V.cell? ⟨b, off + k * 9, none⟩ = some (.string d.op) /\ V.cell? ⟨b, off + k * 9 + 1, none⟩ = some (.string d.a.op) /\ V.cell? ⟨b, off + k * 9 + 1 + 1, none⟩ = some (.string d.a.nm) /\ V.cell? ⟨b, off + k * 9 + 1 + 2, none⟩ = some (.int .i64 d.a.n) /\ V.cell? ⟨b, off + k * 9 + 1 + 3, none⟩ = some (.slice a1 d.a.ks.len c1) /\ V.cell? ⟨b, off + k * 9 + 5, none⟩ = some (.string d.b.op) /\ V.cell? ⟨b, off + k * 9 + 5 + 1, none⟩ = some (.string d.b.nm) /\ V.cell? ⟨b, off + k * 9 + 5 + 2, none⟩ = some (.int .i64 d.b.n) /\ V.cell? ⟨b, off + k * 9 + 5 + 3, none⟩ = some (.slice a2 d.b.ks.len c2))) (fun V hV =>
             ⟨(hV.cell (p := ⟨b, _, none⟩) hbl).trans p0, (hV.cell (p := ⟨b, _, none⟩) hbl).trans p1, (hV.cell (p := ⟨b, _, none⟩) hbl).trans p2, (hV.cell (p := ⟨b, _, none⟩) hbl).trans p3, (hV.cell (p := ⟨b, _, none⟩) hbl).trans p4, (hV.cell (p := ⟨b, _, none⟩) hbl).trans p5, (hV.cell (p := ⟨b, _, none⟩) hbl).trans p6, (hV.cell (p := ⟨b, _, none⟩) hbl).trans p7, (hV.cell (p := ⟨b, _, none⟩) hbl).trans p8⟩)
            obtain ⟨z1, hz1⟩ : ∃ z, pX d.a = z := ⟨_, rfl⟩;obtain ⟨z2, hz2⟩ : ∃ z, pX d.b = z := ⟨_, rfl⟩;rw [hz1, hz2] at hC;unfold pX at hz1 hz2;rw [hz1] at A1;rw [hz2] at A2;have HD := aA hC;rw [hwa.out] at m10;have b1 : (k : Int) < (x.wh.length : Int) := by omega
            have b2 : (0 : Int) <= (k : Int) := by omega
            have b3 : ((k : Int)).toNat = k := by omega
            clear hd hne hcc hdr hsz r1 r2 hz1 hz2 hC
            by_cases ho : d.op.size <= 20
            · have o1 : ¬ (20 : Int) < (d.op.size : Int) := by omega
              have o2 : decide (20 < d.op.size) = false := decide_eq_false (by omega);have HD0 := aA (show (z1 && z2 && qY (x.wh.drop (k + 1))) = r by rw [<- HD.out, decide_eq_true ho, Bool.true_and]);clear ho HD
              go_wp2_with fail
              refine (A1.out wr (Below.refl _ _)).mono ?_;rintro e v2 ⟨rfl, hb⟩;have K4 := aA (HK.out.step hb);have B2 := aA hb;clear hb p0 p1 p2 p3 p4 p5 p6 p7 p8 m0 m1 m2 m3 m4 m5 m6 m7 m8 m9 m10;obtain ⟨m0, m1, m2, m3, m4, m5, m6, m7, m8, m9, m10⟩ := aD K4.out.n;obtain ⟨p0, p1, p2, p3, p4, p5, p6, p7, p8⟩ := CE.out v2 B2.out;rw [hwa.out] at m10;cases z1 with
              | false =>
                have TR := aA (show false = r by rw [<- HD0.out]; rfl)
                go_wp2_with fail
                go_ret;exact ⟨congrArg (fun z => Ending.returned (.bool z)) TR.out, K4.out.b⟩
              | true =>
                have HD1 := aA (show (z2 && qY (x.wh.drop (k + 1))) = r by rw [<- HD0.out, Bool.true_and])
                go_wp2_with fail
                refine (A2.out v2 B2.out).mono ?_;rintro e v3 ⟨rfl, hb⟩;have K5 := aA (K4.out.step hb);clear hb;cases z2 with
                | false =>
                  have TR := aA (show false = r by rw [<- HD1.out]; rfl)
                  go_wp2_with fail
                  go_ret;exact ⟨congrArg (fun z => Ending.returned (.bool z)) TR.out, K5.out.b⟩
                | true =>
                  have HD2 := aA (show qY (x.wh.drop (k + 1)) = r by rw [<- HD1.out, Bool.true_and])
                  go_wp2_with fail
                  go_roundw
                  case rel => exact ⟨k + 1, by go_num, by omega, HD2, K5⟩
                  case measure => simp [intOf]; omega
            · have o1 : (20 : Int) < (d.op.size : Int) := by omega
              have o2 : decide (20 < d.op.size) = true := decide_eq_true (by omega);have TR := aA (show false = r by rw [<- HD.out, decide_eq_false ho]; rfl)
              go_wp2_with fail
              go_ret;exact ⟨congrArg (fun z => Ending.returned (.bool z)) TR.out, HK.out.b⟩
          · have TR := aA (show true = r by rw [<- HC.out, List.drop_of_length_le (by omega)]; rfl)
            have b1 : ¬ (k : Int) < (x.wh.length : Int) := by omega
            go_wp2_with fail
            go_ret;exact ⟨congrArg (fun z => Ending.returned (.bool z)) TR.out, HK.out.b⟩
       · have l1 : (8 : Int) < (x.wh.length : Int) := by omega
         have l2 : decide (8 < x.wh.length) = true := decide_eq_true (by omega);have TR := aA (show false = r by rw [<- HR1.out, decide_eq_false hl]; rfl)
         go_wp2_with fail
         go_ret;exact ⟨congrArg (fun z => Ending.returned (.bool z)) TR.out, K3.out.b⟩
 · have o1 : (20 : Int) < (x.fn.size : Int) := by omega
   have o2 : decide (20 < x.fn.size) = true := decide_eq_true (by omega);have TR := aA (show false = r by rw [<- HR.out, decide_eq_false ho]; rfl)
   go_wp2_with fail
   go_ret;exact ⟨congrArg (fun z => Ending.returned (.bool z)) TR.out, HK.out.b⟩
end
end Go.Proofs.YtapcjnoaofmmiaaGreatDoor
