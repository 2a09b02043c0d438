/-
 No statement: what AggEvalCard needs, of the texts HHolds, QMath, OMath, QFine, QMem, QFew.
-/
import Derived.Test.YtapcjnoaofmmiaaGreatDoorVE11
namespace Go.Proofs.YtapcjnoaofmmiaaGreatDoor
section
open Go.RowKit
theorem Dl (o : ByteArray) (x : List UInt8) : (o.toList == x) = decide (o = ⟨x.toArray⟩) := by
 rw [Lib.toList_data]
 by_cases h : o = ⟨x.toArray⟩
 · subst h; simp
 · rw [decide_eq_false h]
   rw [beq_eq_false_iff_ne];intro e;exact h (iV (by simpa using e))
theorem fL {o : ByteArray} {x : List UInt8} (h : o = ⟨x.toArray⟩) : (o.toList == x) = true := by rw [Dl]; exact decide_eq_true h
theorem bO {o : ByteArray} {x : List UInt8} (h : ¬ o = ⟨x.toArray⟩) : (o.toList == x) = false := by rw [Dl]; exact decide_eq_false h
def aR (o : ByteArray) (a b : Int) : Option Bool :=
 if o = ⟨#[61]⟩ then some (a == b) else if o = ⟨#[33, 61]⟩ then some (a != b) else if o = ⟨#[60]⟩ then some (decide (a < b))
 else if o = ⟨#[60, 61]⟩ then some (decide (a <= b)) else if o = ⟨#[62]⟩ then some (decide (b < a)) else if o = ⟨#[62, 61]⟩ then some (decide (b <= a)) else none
set_option maxHeartbeats 4000000 in
theorem sQ (o : ByteArray) (a b : Int) (w : World) : Calls Tryz.prog 142 #[.string o, .int .i64 a, .int .i64 b] w fun e w' => e = .returned (.tuple #[.bool ((aR o a b).getD false), .bool (aR o a b).isSome]) /\ w = w' := by
 by_cases h0 : o = ⟨#[61]⟩
 · have g0 := fL (x := [61]) h0
   unfold aR;rw [if_pos h0];clear h0
   go_enter Tryz.func142, Tryz.ntmps142
   go_wp2_with fail
   go_ret2;exact ⟨rfl, rfl⟩
 · by_cases h1 : o = ⟨#[33, 61]⟩
   · have g0 := bO (x := [61]) h0
     have g1 := fL (x := [33, 61]) h1;unfold aR;rw [if_neg h0];rw [if_pos h1];clear h0 h1
     go_enter Tryz.func142, Tryz.ntmps142
     go_wp2_with fail
     go_ret2;exact ⟨rfl, rfl⟩
   · by_cases h2 : o = ⟨#[60]⟩
     · have g0 := bO (x := [61]) h0
       have g1 := bO (x := [33, 61]) h1;have g2 := fL (x := [60]) h2;unfold aR;rw [if_neg h0];rw [if_neg h1];rw [if_pos h2];clear h0 h1 h2
       go_enter Tryz.func142, Tryz.ntmps142
       go_wp2_with fail
       go_ret2;exact ⟨rfl, rfl⟩
     · by_cases h3 : o = ⟨#[60, 61]⟩
       · have g0 := bO (x := [61]) h0
         have g1 := bO (x := [33, 61]) h1;have g2 := bO (x := [60]) h2;have g3 := fL (x := [60, 61]) h3;unfold aR;rw [if_neg h0];rw [if_neg h1];rw [if_neg h2];rw [if_pos h3];clear h0 h1 h2 h3
         go_enter Tryz.func142, Tryz.ntmps142
         go_wp2_with fail
         go_ret2;exact ⟨rfl, rfl⟩
       · by_cases h4 : o = ⟨#[62]⟩
         · have g0 := bO (x := [61]) h0
           have g1 := bO (x := [33, 61]) h1;have g2 := bO (x := [60]) h2;have g3 := bO (x := [60, 61]) h3;have g4 := fL (x := [62]) h4;unfold aR;rw [if_neg h0];rw [if_neg h1];rw [if_neg h2];rw [if_neg h3];rw [if_pos h4];clear h0 h1 h2 h3 h4
           go_enter Tryz.func142, Tryz.ntmps142
           go_wp2_with fail
           go_ret2;exact ⟨rfl, rfl⟩
         · by_cases h5 : o = ⟨#[62, 61]⟩
           · have g0 := bO (x := [61]) h0
             have g1 := bO (x := [33, 61]) h1;have g2 := bO (x := [60]) h2;have g3 := bO (x := [60, 61]) h3;have g4 := bO (x := [62]) h4;have g5 := fL (x := [62, 61]) h5;unfold aR;rw [if_neg h0];rw [if_neg h1];rw [if_neg h2];rw [if_neg h3];rw [if_neg h4];rw [if_pos h5];clear h0 h1 h2 h3 h4 h5
             go_enter Tryz.func142, Tryz.ntmps142
             go_wp2_with fail
             go_ret2;exact ⟨rfl, rfl⟩
           · have g0 := bO (x := [61]) h0
             have g1 := bO (x := [33, 61]) h1;have g2 := bO (x := [60]) h2;have g3 := bO (x := [60, 61]) h3;have g4 := bO (x := [62]) h4;have g5 := bO (x := [62, 61]) h5;unfold aR;rw [if_neg h0];rw [if_neg h1];rw [if_neg h2];rw [if_neg h3];rw [if_neg h4];rw [if_neg h5];clear h0 h1 h2 h3 h4 h5
             go_enter Tryz.func142, Tryz.ntmps142
             go_wp2_with fail
             go_ret2;exact ⟨rfl, rfl⟩
set_option maxHeartbeats 4000000 in
theorem jF (o : ByteArray) (a b : Int) (w : World) : Calls Tryz.prog 40 #[.string o, .int .i64 a, .int .i64 b] w fun e w' => e = .returned (.tuple #[.bool ((aR o a b).getD false), .bool (aR o a b).isSome]) /\ w = w' := by
 by_cases h0 : o = ⟨#[61]⟩
 · have g0 := fL (x := [61]) h0
   unfold aR;rw [if_pos h0];clear h0
   go_enter Tryz.func40, Tryz.ntmps40
   go_wp2_with fail
   go_ret2;exact ⟨rfl, rfl⟩
 · by_cases h1 : o = ⟨#[33, 61]⟩
   · have g0 := bO (x := [61]) h0
     have g1 := fL (x := [33, 61]) h1;unfold aR;rw [if_neg h0];rw [if_pos h1];clear h0 h1
     go_enter Tryz.func40, Tryz.ntmps40
     go_wp2_with fail
     go_ret2;exact ⟨rfl, rfl⟩
   · by_cases h2 : o = ⟨#[60]⟩
     · have g0 := bO (x := [61]) h0
       have g1 := bO (x := [33, 61]) h1;have g2 := fL (x := [60]) h2;unfold aR;rw [if_neg h0];rw [if_neg h1];rw [if_pos h2];clear h0 h1 h2
       go_enter Tryz.func40, Tryz.ntmps40
       go_wp2_with fail
       go_ret2;exact ⟨rfl, rfl⟩
     · by_cases h3 : o = ⟨#[60, 61]⟩
       · have g0 := bO (x := [61]) h0
         have g1 := bO (x := [33, 61]) h1;have g2 := bO (x := [60]) h2;have g3 := fL (x := [60, 61]) h3;unfold aR;rw [if_neg h0];rw [if_neg h1];rw [if_neg h2];rw [if_pos h3];clear h0 h1 h2 h3
         go_enter Tryz.func40, Tryz.ntmps40
         go_wp2_with fail
         go_ret2;exact ⟨rfl, rfl⟩
       · by_cases h4 : o = ⟨#[62]⟩
         · have g0 := bO (x := [61]) h0
           have g1 := bO (x := [33, 61]) h1;have g2 := bO (x := [60]) h2;have g3 := bO (x := [60, 61]) h3;have g4 := fL (x := [62]) h4;unfold aR;rw [if_neg h0];rw [if_neg h1];rw [if_neg h2];rw [if_neg h3];rw [if_pos h4];clear h0 h1 h2 h3 h4
           go_enter Tryz.func40, Tryz.ntmps40
           go_wp2_with fail
           go_ret2;exact ⟨rfl, rfl⟩
         · by_cases h5 : o = ⟨#[62, 61]⟩
           · have g0 := bO (x := [61]) h0
             have g1 := bO (x := [33, 61]) h1;have g2 := bO (x := [60]) h2;have g3 := bO (x := [60, 61]) h3;have g4 := bO (x := [62]) h4;have g5 := fL (x := [62, 61]) h5;unfold aR;rw [if_neg h0];rw [if_neg h1];rw [if_neg h2];rw [if_neg h3];rw [if_neg h4];rw [if_pos h5];clear h0 h1 h2 h3 h4 h5
             go_enter Tryz.func40, Tryz.ntmps40
             go_wp2_with fail
             go_ret2;exact ⟨rfl, rfl⟩
           · have g0 := bO (x := [61]) h0
             have g1 := bO (x := [33, 61]) h1;have g2 := bO (x := [60]) h2;have g3 := bO (x := [60, 61]) h3;have g4 := bO (x := [62]) h4;have g5 := bO (x := [62, 61]) h5;unfold aR;rw [if_neg h0];rw [if_neg h1];rw [if_neg h2];rw [if_neg h3];rw [if_neg h4];rw [if_neg h5];clear h0 h1 h2 h3 h4 h5
             go_enter Tryz.func40, Tryz.ntmps40
             go_wp2_with fail
             go_ret2;exact ⟨rfl, rfl⟩
structure CD where
 op : ByteArray
 a : TN
 b : TN
structure AG where
 fn : ByteArray
 k : Int
 e : TN
 g : TN
 wh : List CD
def aO : List UInt8 := [99, 111, 117, 110, 116]
def fV : List UInt8 := [109, 105, 110]
def gW : List UInt8 := [109, 97, 120]
def gF : List UInt8 := [115, 117, 109]
def aY : List UInt8 := [102, 105, 114, 115, 116]
def dN : List UInt8 := [116, 111, 112]
def lB : List UInt8 := [119, 104, 101, 114, 101]
def rT : List UInt8 := [97, 110, 100]
def dH (x : List UInt8) : Bool := x == aO || x == fV || x == gW || x == gF || x == aY || x == dN
def dF (L : List Tk) (x : List UInt8) (s : RS) : RS := if s.bad = 0 then (if isS L x s.pos then dD s else cO 2 s) else s
def cE (L : List Tk) (s : RS) : TN × RS := if s.bad = 0 then (match ofL L s.pos with | .ok t q => (t, ⟨q, s.cnt, 0, s.whr⟩) | .bad p e => (aV, ⟨p, s.cnt, e, p⟩)) else (aV, s)
def gU (L : List Tk) (x : List UInt8) (p : Nat) : Bool := match L[p]? with | some t => t.kind == 1 && t.text == x | none => false
def yT (L : List Tk) (s : RS) : Int × RS :=
 if s.bad = 0 then (match L[s.pos]? with
  | some t => if t.kind = 2 then (t.num, if t.num < 1 \/ 16 < t.num then dD (cO 1 s) else dD s) else (0, cO 2 s)
  | none => (0, cO 2 s)) else (0, s)
def tX (L : List Tk) (fn : List UInt8) (s : RS) : (Int × TN × TN) × RS :=
 if fn = aO then ((0, aV, aV), s) else
 let p := if fn = dN then ((yT L s).1, dF L [44] (yT L s).2) else (0, s)
 let e := cE L p.2
 if fn = aY then (let g := cE L (dF L [44] e.2); ((p.1, e.1, g.1), g.2)) else ((p.1, e.1, aV), e.2)
def opB (L : List Tk) (p : Nat) : Bool := match L[p]? with | some t => (aR ⟨t.text.toArray⟩ 0 0).isSome | none => false
def fJ (L : List Tk) (s : RS) : CD × RS :=
 let a := cE L s
 if a.2.bad = 0 then
  if opB L a.2.pos = true then (let b := cE L (dD a.2); (⟨⟨(gD L a.2.pos).toArray⟩, a.1, b.1⟩, b.2))
  else (⟨⟨#[]⟩, a.1, aV⟩, cO 2 a.2)
 else (⟨⟨#[]⟩, a.1, aV⟩, a.2)
def tN (L : List Tk) : Nat -> List CD -> RS -> List CD × RS
 | 0, acc, s => (acc, s)
 | f + 1, acc, s => if acc.length = 4 then (acc, cO 4 s) else
   let c := fJ L (dD s)
   if (c.2.bad == 0 && gU L rT c.2.pos) = true then tN L f (acc ++ [c.1]) c.2 else (acc ++ [c.1], c.2)
inductive uB | bad (p : Nat) (e : Int) | ok (a : AG)
def agL (L : List Tk) : uB :=
 match L[0]? with
 | none => .bad 0 2
 | some t =>
   if ¬ t.kind = 1 then .bad 0 2 else
   if dH t.text = false then .bad 0 5 else
   let s1 := dF L [40] ⟨1, 0, 0, 0⟩
   if ¬ s1.bad = 0 then .bad s1.whr s1.bad else
   let r := tX L t.text s1
   let s3 := dF L [41] r.2
   if ¬ s3.bad = 0 then .bad s3.whr s3.bad else
   if L.length <= s3.pos then .ok ⟨⟨t.text.toArray⟩, r.1.1, r.1.2.1, r.1.2.2, []⟩ else
   if gU L lB s3.pos = false then .bad s3.pos 2 else
   let c := tN L 5 [] s3
   if ¬ c.2.bad = 0 then .bad c.2.whr c.2.bad else
   if c.2.pos < L.length then .bad c.2.pos 2 else .ok ⟨⟨t.text.toArray⟩, r.1.1, r.1.2.1, r.1.2.2, c.1⟩
def agX (l : List UInt8) : uB := match jL l with
 | .bad p e => .bad p e
 | .ok L => match agL L with
   | .bad p e => .bad (kB l.length L p) e
   | .ok a => .ok a
def dA : List CD -> Int
 | [] => 0
 | c :: r => if (aR c.op 0 0).isSome = false then 5 else if aK c.a = 0 then (if aK c.b = 0 then dA r else aK c.b) else aK c.a
def iL (a : AG) : Int := if a.fn.data.toList = aO then 0 else if aK a.e = 0 then (if a.fn.data.toList = aY then aK a.g else 0) else aK a.e
def fO (a : AG) : Int :=
 if dH a.fn.data.toList = false then 5 else
 if a.fn.data.toList = dN /\ (a.k < 1 \/ 16 < a.k) then 1 else
 if iL a = 0 then (if 4 < a.wh.length then 4 else dA a.wh) else iL a
def iQ : List CD -> List CD -> Bool
 | [], [] => true
 | c :: r, d :: q => (c.op.toList == d.op.toList) && gY c.a d.a && gY c.b d.b && iQ r q
 | _, _ => false
def sD (a b : AG) : Bool :=
 (a.fn.toList == b.fn.toList) && !((a.fn.data.toList == dN) && a.k != b.k) && !((a.fn.data.toList != aO) && !gY a.e b.e) && !((a.fn.data.toList == aY) && !gY a.g b.g) && (a.wh.length == b.wh.length) && iQ a.wh b.wh
def nZ : List CD -> List UInt8
 | [] => []
 | c :: r => [32, 97, 110, 100, 32] ++ (bV c.a ++ 32 :: (c.op.data.toList ++ 32 :: bV c.b)) ++ nZ r
def yY : List CD -> List UInt8
 | [] => []
 | c :: r => [32, 119, 104, 101, 114, 101, 32] ++ (bV c.a ++ 32 :: (c.op.data.toList ++ 32 :: bV c.b)) ++ nZ r
def rY (a : AG) : List UInt8 :=
 if a.fn.data.toList = aO then [] else
 if a.fn.data.toList = dN then Lib.itoa a.k ++ 44 :: 32 :: bV a.e else
 if a.fn.data.toList = aY then bV a.e ++ 44 :: 32 :: bV a.g else bV a.e
def yZ (a : AG) : List UInt8 := a.fn.data.toList ++ 40 :: (rY a ++ 41 :: yY a.wh)
theorem gV {L : List Tk} {x : List UInt8} {s : RS} (h : ¬ s.bad = 0) : dF L x s = s := if_neg h
theorem gC {L : List Tk} {s : RS} (h : ¬ s.bad = 0) : cE L s = (aV, s) := if_neg h
def kP (x : List UInt8) : Bool := x == dN
def bP (x : List UInt8) : Bool := x == aY
def eP (x : List UInt8) : Bool := dH x && !(x == aO)
def bK (L : List Tk) (p : Nat) : Tk := (L[p]?).getD ⟨0, [], 0, 0⟩
def atR (s : RS) : Nat := if s.bad = 0 then s.pos else s.whr
def bZ (so : Bool) (e : Int) (s : RS) : RS := if so = true then s else cO e s
def goR (s : RS) : RS := if s.bad = 0 then dD s else s
theorem jS {s : RS} (h : s.bad = 0) : atR s = s.pos := if_pos h
theorem oQ {s : RS} (h : ¬ s.bad = 0) : atR s = s.whr := if_neg h
theorem nS {e : Int} {s : RS} (h : ¬ s.bad = 0) : cO e s = s := if_neg h
theorem JC (e : Int) (he : ¬ e = 0) (s : RS) : atR (cO e s) = atR s := by
 unfold cO
 by_cases h : s.bad = 0
 · rw [if_pos h, jS h, oQ he]
 · rw [if_neg h]
theorem Ax {s : RS} (h : s.bad = 0) : goR s = dD s := if_pos h
theorem fN {s : RS} (h : ¬ s.bad = 0) : goR s = s := if_neg h
theorem jJ (e : Int) (s : RS) : bZ true e s = s := rfl
theorem gA (e : Int) (s : RS) : bZ false e s = cO e s := rfl
theorem Jt (L : List Tk) (x : List UInt8) (p : Nat) : isS L x p = ((bK L p).kind == 3 && (bK L p).text == x) := by
 unfold isS bK;cases L[p]? with
 | none => rfl
 | some t => rfl
theorem FL (L : List Tk) (x : List UInt8) (p : Nat) : gU L x p = ((bK L p).kind == 1 && (bK L p).text == x) := by
 unfold gU bK;cases L[p]? with
 | none => rfl
 | some t => rfl
theorem Ix (L : List Tk) (x : List UInt8) (s : RS) : goR (bZ ((bK L (atR s)).kind == 3 && (bK L (atR s)).text == x) 2 s) = dF L x s := by
 unfold dF
 by_cases h : s.bad = 0
 · rw [if_pos h, jS h, <- Jt]
   cases hs : isS L x s.pos with
   | true => rw [jJ, Ax h, if_pos rfl]
   | false =>
     rw [gA, if_neg (by decide)];refine fN ?_;unfold cO;rw [if_pos h];show ¬ (2 : Int) = 0
     decide
 · rw [if_neg h]
   have : bZ ((bK L (atR s)).kind == 3 && (bK L (atR s)).text == x) 2 s = s := by
    unfold bZ
    split
    · rfl
    · exact nS h
   rw [this, fN h]
def oS (L : List Tk) (s : RS) : RS := goR (bZ (decide (1 <= (bK L (atR s)).num) && decide ((bK L (atR s)).num <= 16)) 1 (bZ ((bK L (atR s)).kind == 2) 2 s))
theorem gB {so : Bool} {e : Int} {s : RS} (h : ¬ s.bad = 0) : bZ so e s = s := by
 unfold bZ
 split
 · rfl
 · exact nS h
theorem cX {e : Int} (he : ¬ e = 0) {s : RS} (h : s.bad = 0) : ¬ (cO e s).bad = 0 := by unfold cO; rw [if_pos h]; exact he
def mA (s t : RS) : Prop := atR s = atR t /\ s.bad = t.bad
theorem mA.refl (s : RS) : mA s s := ⟨rfl, rfl⟩
theorem FV (L : List Tk) (s : RS) : mA (oS L s) (yT L s).2 /\ ((oS L s).bad = 0 -> oS L s = (yT L s).2 /\ (yT L s).1 = (bK L (atR s)).num) := by
 unfold oS yT
 by_cases h : s.bad = 0
 · rw [if_pos h, jS h]
   unfold bK;cases ht : L[s.pos]? with
   | none =>
     have e : bZ ((none.getD (⟨0, [], 0, 0⟩ : Tk)).kind == 2) 2 s = cO 2 s := rfl;rw [e, gB (cX (by decide) h), fN (cX (by decide) h)];exact ⟨mA.refl _, fun h' => absurd h' (cX (by decide) h)⟩
   | some t =>
     show mA (goR (bZ (decide (1 <= t.num) && decide (t.num <= 16)) 1 (bZ (t.kind == 2) 2 s))) _ /\ _
     by_cases hk : t.kind = 2
     · have e : (t.kind == 2) = true := by rw [hk]; rfl
       simp only [Option.getD_some];rw [e, jJ]
       try simp only
       rw [if_pos hk]
       by_cases hn : t.num < 1 \/ 16 < t.num
       · have e2 : (decide (1 <= t.num) && decide (t.num <= 16)) = false := by
          rcases hn with hn | hn
          · rw [decide_eq_false (by omega), Bool.false_and]
          · rw [decide_eq_false (p := t.num <= 16) (by omega), Bool.and_false]
         rw [e2, gA, fN (cX (by decide) h)]
         try simp only
         rw [if_pos hn];refine ⟨⟨?_, rfl⟩, fun h' => absurd h' (cX (by decide) h)⟩;have hb : ¬ (dD (cO 1 s)).bad = 0 := cX (by decide) h;rw [oQ (cX (by decide) h), oQ hb];rfl
       · have e2 : (decide (1 <= t.num) && decide (t.num <= 16)) = true := by rw [decide_eq_true (by omega), decide_eq_true (by omega)]; rfl
         rw [e2, jJ, Ax h]
         try simp only
         rw [if_neg hn];exact ⟨mA.refl _, fun _ => by first | exact ⟨rfl, rfl⟩ | exact ⟨trivial, rfl⟩ | exact ⟨rfl, trivial⟩⟩
     · have e : (t.kind == 2) = false := beq_eq_false_iff_ne.2 hk
       simp only [Option.getD_some];rw [e, gA, gB (cX (by decide) h), fN (cX (by decide) h)]
       try simp only
       rw [if_neg hk];exact ⟨mA.refl _, fun h' => absurd h' (cX (by decide) h)⟩
 · rw [if_neg h, gB h, gB h, fN h]
   exact ⟨mA.refl _, fun h' => absurd h' h⟩
theorem uP {L : List Tk} {x : List UInt8} {s : RS} (h : ¬ s.bad = 0) : ¬ (dF L x s).bad = 0 := by rw [gV h]; exact h
theorem Fg {L : List Tk} {s : RS} (h : ¬ s.bad = 0) : ¬ (cE L s).2.bad = 0 := by rw [gC h]; exact h
theorem vF {L : List Tk} {x : List UInt8} {s t : RS} (h : mA s t) (he : s.bad = 0 -> s = t) : mA (dF L x s) (dF L x t) /\ ((dF L x s).bad = 0 -> dF L x s = dF L x t) := by
 by_cases hb : s.bad = 0
 · rw [he hb]; exact ⟨mA.refl _, fun _ => rfl⟩
 · have hc : ¬ t.bad = 0 := by rw [<- h.2]; exact hb
   rw [gV hb, gV hc];exact ⟨h, fun h' => absurd h' hb⟩
theorem Ef {L : List Tk} {s t : RS} (h : mA s t) (he : s.bad = 0 -> s = t) : mA (cE L s).2 (cE L t).2 /\ ((cE L s).2.bad = 0 -> cE L s = cE L t) := by
 by_cases hb : s.bad = 0
 · rw [he hb]; exact ⟨mA.refl _, fun _ => rfl⟩
 · have hc : ¬ t.bad = 0 := by rw [<- h.2]; exact hb
   rw [gC hb, gC hc];exact ⟨h, fun h' => absurd h' hb⟩
def nW (L : List Tk) (fn : List UInt8) (s : RS) : RS := if kP fn = true then dF L [44] (oS L s) else s
def oR (L : List Tk) (fn : List UInt8) (s : RS) : TN × RS := if eP fn = true then cE L s else (aV, s)
def qP (L : List Tk) (fn : List UInt8) (s : RS) : TN × RS := if bP fn = true then cE L (dF L [44] s) else (aV, s)
def iR (L : List Tk) (fn : List UInt8) (s : RS) : RS := (qP L fn (oR L fn (nW L fn s)).2).2
theorem wH (L : List Tk) (fn : List UInt8) {s : RS} (h : ¬ s.bad = 0) : iR L fn s = s := by
 have h1 : oS L s = s := by unfold oS; rw [gB h, gB h, fN h]
 have e1 : nW L fn s = s := by
  unfold nW
  split
  · rw [h1, gV h]
  · rfl
 have e2 : (oR L fn s).2 = s := by
  unfold oR
  split
  · rw [gC h]
  · rfl
 have e3 : (qP L fn s).2 = s := by
  unfold qP
  split
  · rw [gV h, gC h]
  · rfl
 unfold iR;rw [e1, e2, e3]
theorem Fz (L : List Tk) (fn : List UInt8) (hf : dH fn = true) (s : RS) : mA (iR L fn s) (tX L fn s).2 /\ ((iR L fn s).bad = 0 -> iR L fn s = (tX L fn s).2 /\
 (tX L fn s).1 = ((if kP fn = true then (bK L (atR s)).num else 0), (oR L fn (nW L fn s)).1, (qP L fn (oR L fn (nW L fn s)).2).1)) := by
 by_cases hc : fn = aO
 · subst hc
   have e1 : tX L aO s = ((0, aV, aV), s) := if_pos rfl;rw [e1];exact ⟨mA.refl _, fun _ => by first | exact ⟨rfl, rfl⟩ | exact ⟨trivial, rfl⟩ | exact ⟨rfl, trivial⟩⟩
 have he : eP fn = true := by unfold eP; rw [hf, beq_eq_false_iff_ne.2 hc]; rfl
 have A1 : tX L fn s = (let p := if fn = dN then ((yT L s).1, dF L [44] (yT L s).2) else (0, s); let e := cE L p.2; if fn = aY then (let g := cE L (dF L [44] e.2); ((p.1, e.1, g.1), g.2)) else ((p.1, e.1, aV), e.2)) := if_neg hc;rw [A1];have hE : ∀ u, oR L fn u = cE L u := fun u => if_pos he
 by_cases ht : fn = dN
 · have hb : ¬ fn = aY := by rw [ht]; decide
   have k1 : kP fn = true := by unfold kP; rw [ht]; decide
   have b1 : ¬ bP fn = true := by unfold bP; rw [ht]; decide
   have hB : ∀ u, qP L fn u = (aV, u) := fun u => if_neg b1
   have hK : nW L fn s = dF L [44] (oS L s) := if_pos k1;simp only [if_pos ht, if_neg hb, if_pos k1];unfold iR;rw [hB, hE, hK];obtain ⟨l1, h1⟩ := FV L s;obtain ⟨l2, h2⟩ := vF (L := L) (x := [44]) l1 (fun h => (h1 h).1);obtain ⟨l3, h3⟩ := Ef (L := L) l2 h2;refine ⟨l3, fun h => ⟨by rw [h3 h], ?_⟩⟩;have hw : (dF L [44] (oS L s)).bad = 0 := Decidable.byContradiction fun hx => Fg hx h
   have ht0 : (oS L s).bad = 0 := Decidable.byContradiction fun hx => uP hx hw
   rw [(h1 ht0).2, h3 h]
 · have k1 : ¬ kP fn = true := by unfold kP; rw [beq_eq_false_iff_ne.2 ht]; decide
   have hK : nW L fn s = s := if_neg k1;simp only [if_neg ht, if_neg k1];unfold iR;rw [hK, hE]
   by_cases hb : fn = aY
   · have b1 : bP fn = true := by unfold bP; rw [hb]; decide
     have hB : ∀ u, qP L fn u = cE L (dF L [44] u) := fun u => if_pos b1
     rw [hB, if_pos hb];exact ⟨mA.refl _, fun _ => by first | exact ⟨rfl, rfl⟩ | exact ⟨trivial, rfl⟩ | exact ⟨rfl, trivial⟩⟩
   · have b1 : ¬ bP fn = true := by unfold bP; rw [beq_eq_false_iff_ne.2 hb]; decide
     have hB : ∀ u, qP L fn u = (aV, u) := fun u => if_neg b1
     rw [hB, if_neg hb];exact ⟨mA.refl _, fun _ => by first | exact ⟨rfl, rfl⟩ | exact ⟨trivial, rfl⟩ | exact ⟨rfl, trivial⟩⟩
inductive AO | bad (p : Nat) (e : Int) | ok (l : List CD)
def dZ (L : List Tk) : Nat -> List CD -> RS -> AO
 | 0, _, _ => .bad 0 0
 | f + 1, acc, s =>
   if ¬ s.bad = 0 then .bad s.whr s.bad else
   if L.length <= s.pos then .ok acc else
   if gU L (if acc.length = 0 then lB else rT) s.pos = false then .bad s.pos 2 else
   if 4 <= acc.length then .bad s.pos 4 else
   dZ L f (acc ++ [(fJ L (dD s)).1]) (fJ L (dD s)).2
def xX (L : List Tk) (c : List CD × RS) : AO := if ¬ c.2.bad = 0 then .bad c.2.whr c.2.bad else if c.2.pos < L.length then .bad c.2.pos 2 else .ok c.1
theorem Im {L : List Tk} {x : List UInt8} {p : Nat} (h : gU L x p = true) : p < L.length := by
 unfold gU at h;cases hp : L[p]? with
 | none => rw [hp] at h; cases h
 | some t => exact (List.getElem?_eq_some_iff.1 hp).1
theorem AE (L : List Tk) : ∀ (f : Nat) (acc : List CD) (s : RS), acc.length + f = 5 -> acc.length <= 4 -> s.bad = 0 -> gU L (if acc.length = 0 then lB else rT) s.pos = true -> xX L (tN L f acc s) = dZ L (f + 1) acc s
 | 0, acc, s, hl, h4, hb, hw => by omega
 | f + 1, acc, s, hl, h44, hb, hw => by
   have hlt := Im hw;rw [dZ, if_neg (not_not_intro hb), if_neg (show ¬ L.length <= s.pos by omega), hw, if_neg (by decide)];rw [tN]
   by_cases h4 : acc.length = 4
   · rw [if_pos h4, if_pos (show 4 <= acc.length by omega)]
     unfold xX;rw [if_pos (cX (by decide) hb)];unfold cO;rw [if_pos hb]
   · rw [if_neg h4, if_neg (show ¬ 4 <= acc.length by omega)]
     try simp only
     obtain ⟨c, t, hc⟩ : ∃ c t, fJ L (dD s) = (c, t) := ⟨_, _, rfl⟩;rw [hc]
     try simp only
     by_cases hg : (t.bad == 0 && gU L rT t.pos) = true
     · rw [if_pos hg]
       rw [Bool.and_eq_true, beq_iff_eq] at hg;refine AE L f _ _ (by rw [List.length_append, List.length_singleton]; omega) (by rw [List.length_append, List.length_singleton]; omega) hg.1 ?_;rw [if_neg (by rw [List.length_append, List.length_singleton]; omega)];exact hg.2
     · rw [if_neg hg]
       cases f with
       | zero => omega
       | succ f =>
         rw [dZ];unfold xX
         try simp only
         by_cases ht : t.bad = 0
         · rw [if_neg (not_not_intro ht), if_neg (not_not_intro ht)]
           have hw2 : gU L rT t.pos = false := by
            cases h : gU L rT t.pos with
            | false => rfl
            | true => exact absurd (by rw [h, Bool.and_true, beq_iff_eq]; exact ht) hg
           by_cases hp : t.pos < L.length
           · rw [if_pos hp, if_neg (show ¬ L.length <= t.pos by omega), if_neg (c := (acc ++ [c]).length = 0) (by rw [List.length_append, List.length_singleton]; omega), hw2, if_pos rfl]
           · rw [if_neg hp, if_pos (show L.length <= t.pos by omega)]
         · rw [if_pos ht, if_pos ht]
def f9 (L : List Tk) : RS := goR (bZ (dH (bK L 0).text) 5 (bZ ((bK L 0).kind == 1) 2 ⟨0, 0, 0, 0⟩))
def pL (L : List Tk) : RS := dF L [40] (f9 L)
def mE (L : List Tk) : RS := dF L [41] (iR L (bK L 0).text (pL L))
def uW (L : List Tk) (l : List CD) : AG :=
 let fn := (bK L 0).text
 let s := pL L
 ⟨⟨fn.toArray⟩, if kP fn = true then (bK L (atR s)).num else 0, (oR L fn (nW L fn s)).1, (qP L fn (oR L fn (nW L fn s)).2).1, l⟩
def agS (L : List Tk) : uB := match dZ L 6 [] (mE L) with | .bad p e => .bad p e | .ok l => .ok (uW L l)
theorem eW {L : List Tk} {f : Nat} {acc : List CD} {s : RS} (h : ¬ s.bad = 0) : dZ L (f + 1) acc s = .bad s.whr s.bad := by rw [dZ, if_pos h]
theorem yF {L : List Tk} (h : ¬ (f9 L).bad = 0) : agS L = .bad (f9 L).whr (f9 L).bad := by
 have e1 : pL L = f9 L := gV h;have e2 : mE L = f9 L := by unfold mE; rw [e1, wH L _ h, gV h]
 unfold agS;rw [e2, eW h]
theorem KQ (L : List Tk) : agL L = agS L := by
 unfold agL;cases h0 : L[0]? with
 | none =>
   have e : f9 L = cO 2 ⟨0, 0, 0, 0⟩ := by
    unfold f9 bK;rw [h0];rfl
   have hb : ¬ (f9 L).bad = 0 := by rw [e]; exact cX (by decide) rfl
   rw [yF hb, e];rfl
 | some t =>
   have ht : bK L 0 = t := by unfold bK; rw [h0]; rfl
   simp only
   by_cases hk : t.kind = 1
   · have e1 : (t.kind == 1) = true := by rw [hk]; rfl
     rw [if_neg (not_not_intro hk)];cases hf : dH t.text with
     | false =>
       have e : f9 L = cO 5 ⟨0, 0, 0, 0⟩ := by
        unfold f9;rw [ht, e1, hf];rfl
       have hb : ¬ (f9 L).bad = 0 := by rw [e]; exact cX (by decide) rfl
       rw [yF hb, e, if_pos rfl];rfl
     | true =>
       have e : f9 L = ⟨1, 0, 0, 0⟩ := by
        unfold f9;rw [ht, e1, hf];rfl
       have eh : pL L = dF L [40] ⟨1, 0, 0, 0⟩ := by unfold pL; rw [e]
       rw [if_neg (by decide)];obtain ⟨s1, h1⟩ : ∃ s, dF L [40] ⟨1, 0, 0, 0⟩ = s := ⟨_, rfl⟩;rw [h1] at eh |-
       by_cases hb : s1.bad = 0
       · rw [if_neg (not_not_intro hb)]
         obtain ⟨l2, h2⟩ := Fz L t.text hf s1;obtain ⟨l3, h3⟩ := vF (L := L) (x := [41]) l2 (fun h => (h2 h).1);have et : mE L = dF L [41] (iR L t.text s1) := by unfold mE; rw [eh, ht]
         by_cases hb3 : (dF L [41] (iR L t.text s1)).bad = 0
         · have ha : (iR L t.text s1).bad = 0 := Decidable.byContradiction fun hx => uP hx hb3
           have es := h3 hb3;have ev := (h2 ha).2;obtain ⟨s3, hs3⟩ : ∃ s, dF L [41] (iR L t.text s1) = s := ⟨_, rfl⟩;rw [hs3] at es et hb3
           try simp only
           rw [<- es, if_neg (not_not_intro hb3)];unfold agS;rw [et, ev]
           have er : ∀ l, uW L l = ⟨⟨t.text.toArray⟩, if kP t.text = true then (bK L (atR s1)).num else 0, (oR L t.text (nW L t.text s1)).1, (qP L t.text (oR L t.text (nW L t.text s1)).2).1, l⟩ := fun l => by
            unfold uW;rw [ht, eh]
           simp only [er]
           by_cases hl : L.length <= s3.pos
           · rw [if_pos hl, dZ, if_neg (not_not_intro hb3), if_pos hl]
           · rw [if_neg hl]
             cases hw : gU L lB s3.pos with
             | false =>
               rw [if_pos rfl, dZ, if_neg (not_not_intro hb3), if_neg hl, if_pos (show ([] : List CD).length = 0 from rfl), hw, if_pos rfl]
             | true =>
               rw [if_neg (by decide), <- AE L 5 [] s3 rfl (by decide) hb3 (by rw [if_pos (show ([] : List CD).length = 0 from rfl)]; exact hw)];unfold xX;obtain ⟨c, hc⟩ : ∃ c, tN L 5 [] s3 = c := ⟨_, rfl⟩;rw [hc]
               by_cases h5 : c.2.bad = 0
               · rw [if_neg (not_not_intro h5), if_neg (not_not_intro h5)]
                 by_cases h6 : c.2.pos < L.length
                 · rw [if_pos h6, if_pos h6]
                 · rw [if_neg h6, if_neg h6]
               · rw [if_pos h5, if_pos h5]
         · have hb4 : ¬ (dF L [41] (tX L t.text s1).2).bad = 0 := by rw [<- l3.2]; exact hb3
           try simp only
           rw [if_pos hb4];unfold agS;rw [et, eW hb3, l3.2];have := l3.1;rw [oQ hb3, oQ hb4] at this;rw [this]
       · rw [if_pos hb]
         have et : mE L = s1 := by unfold mE; rw [eh, wH L _ hb, gV hb]
         unfold agS;rw [et, eW hb]
   · have e1 : (t.kind == 1) = false := beq_eq_false_iff_ne.2 hk
     have e : f9 L = cO 2 ⟨0, 0, 0, 0⟩ := by
      unfold f9;rw [ht, e1, gA, gB (cX (by decide) rfl), fN (cX (by decide) rfl)]
     have hb : ¬ (f9 L).bad = 0 := by rw [e]; exact cX (by decide) rfl
     rw [if_pos hk, yF hb, e];rfl
def t8 (n : Nat) (s : RS) : Prop := (s.bad = 0 -> s.pos <= n) /\ s.whr <= n
theorem tF {n : Nat} {s : RS} {e : Int} (he : ¬ e = 0) (h : t8 n s) : t8 n (cO e s) := by
 unfold cO
 by_cases hb : s.bad = 0
 · rw [if_pos hb]; exact ⟨fun h' => absurd h' he, h.1 hb⟩
 · rw [if_neg hb]; exact h
theorem mK {n : Nat} {s : RS} (h : t8 n s) (hlt : s.bad = 0 -> s.pos < n) : t8 n (dT s) := by
 unfold dT
 by_cases hb : s.bad = 0
 · rw [if_pos hb]
   split
   · exact ⟨fun h' => absurd h' (by show ¬ (4 : Int) = 0; decide), h.1 hb⟩
   · exact ⟨fun _ => hlt hb, h.2⟩
 · rw [if_neg hb]; exact ⟨fun h' => absurd h' hb, h.2⟩
theorem pN {n : Nat} {s : RS} (h : t8 n s) (hlt : s.bad = 0 -> s.pos < n) : t8 n (dD s) := ⟨fun hb => hlt hb, h.2⟩
theorem Fd {L : List Tk} {s : RS} (h : t8 L.length s) : t8 L.length (jP L s) := by
 unfold jP
 by_cases hb : s.bad = 0
 · cases hs : isS L [41] s.pos with
   | true =>
     have e : (s.bad == 0 && !true) = false := by simp
     rw [if_neg (by rw [e]; decide)];exact pN h (fun _ => oN hs)
   | false =>
     have e : (s.bad == 0 && !false) = true := by rw [hb]; rfl
     rw [if_pos e];refine pN (tF (by decide) h) (fun h' => ?_);unfold cO at h';rw [if_pos hb] at h';exact absurd h' (by show ¬ (2 : Int) = 0; decide)
 · have e : (s.bad == 0 && !isS L [41] s.pos) = false := by
    have : (s.bad == 0) = false := by simpa using hb
    rw [this]; rfl
   rw [if_neg (by rw [e]; decide)];exact pN h (fun h' => absurd h' hb)
theorem jH (L : List Tk) : ∀ (f : Nat) (md : Md) (s : RS), t8 L.length s -> t8 L.length (pr L f md s).2
 | 0, _, s, h => h
 | f + 1, .fac, s, h => by
   rw [pr]
   by_cases hb : s.bad = 0
   · rw [if_pos hb]
     cases ht : L[s.pos]? with
     | none => exact tF (by decide) h
     | some t =>
       have hlt : s.bad = 0 -> s.pos < L.length := fun _ => (List.getElem?_eq_some_iff.1 ht).1
       simp only
       by_cases h2 : t.kind = 2
       · rw [if_pos h2]; exact mK h hlt
       rw [if_neg h2]
       by_cases h1 : t.kind = 1
       · rw [if_pos h1]; exact mK h hlt
       rw [if_neg h1]
       by_cases h45 : t.text = [45]
       · rw [if_pos h45]; exact jH L f .fac _ (mK h hlt)
       rw [if_neg h45]
       by_cases h40 : t.text = [40]
       · rw [if_pos h40]; exact Fd (jH L f .sum _ (pN h hlt))
       rw [if_neg h40]; exact tF (by decide) h
   · rw [if_neg hb]; exact h
 | f + 1, .prod, s, h => by
   rw [pr];exact jH L f _ _ (jH L f .fac s h)
 | f + 1, .prodL n, s, h => by
   rw [pr]
   split
   · rename_i hc
     simp only [Bool.and_eq_true] at hc;exact jH L f _ _ (jH L f .fac _ (mK h (fun _ => xH hc.2)))
   · exact h
 | f + 1, .sum, s, h => by
   rw [pr];exact jH L f _ _ (jH L f .prod s h)
 | f + 1, .sumL n, s, h => by
   rw [pr]
   split
   · rename_i hc
     simp only [Bool.and_eq_true] at hc;exact jH L f _ _ (jH L f .prod _ (mK h (fun _ => xJ hc.2)))
   · exact h
theorem Bk {L : List Tk} {p : Nat} (hp : p <= L.length) : (∀ t q, ofL L p = .ok t q -> q <= L.length) /\ (∀ q e, ofL L p = .bad q e -> q <= L.length /\ ¬ e = 0) := by
 have h : t8 L.length (pE L .sum ⟨p, 0, 0, 0⟩).2 := jH L _ _ _ ⟨fun _ => hp, Nat.zero_le _⟩;unfold ofL
 by_cases hb : (pE L .sum ⟨p, 0, 0, 0⟩).2.bad = 0
 · rw [if_pos hb]
   refine ⟨fun t q e => ?_, fun q e he => by cases he⟩;cases e;exact h.1 hb
 · rw [if_neg hb]
   refine ⟨fun t q e => (by cases e), fun q e he => ?_⟩;cases he;exact ⟨h.2, hb⟩
def eI (G : Nat -> Prop) (w : World) (a : Option Addr) (l : List CD) : Prop := l = [] \/ ∃ b off, a = some ⟨b, off, none⟩ /\ G b /\ b < w.heap.size /\ ∀ j x, l[j]? = some x ->
 ∃ a1 c1 a2 c2, (w.cell? ⟨b, off + j * 9, none⟩ = some (.string x.op) /\ w.cell? ⟨b, off + j * 9 + 1, none⟩ = some (.string x.a.op) /\ w.cell? ⟨b, off + j * 9 + 1 + 1, none⟩ = some (.string x.a.nm) /\ w.cell? ⟨b, off + j * 9 + 1 + 2, none⟩ = some (.int .i64 x.a.n) /\
   w.cell? ⟨b, off + j * 9 + 1 + 3, none⟩ = some (.slice a1 x.a.ks.len c1) /\ w.cell? ⟨b, off + j * 9 + 5, none⟩ = some (.string x.b.op) /\ w.cell? ⟨b, off + j * 9 + 5 + 1, none⟩ = some (.string x.b.nm) /\ w.cell? ⟨b, off + j * 9 + 5 + 2, none⟩ = some (.int .i64 x.b.n) /\
   w.cell? ⟨b, off + j * 9 + 5 + 3, none⟩ = some (.slice a2 x.b.ks.len c2)) /\ aH G w a1 x.a.ks /\ aH G w a2 x.b.ks
theorem eI.keptS {S G : Nat -> Prop} {w w' : World} {a : Option Addr} {l : List CD} (h : eI G w a l) (hk : aG S w w') (hS : ∀ k, S k -> ¬ G k) : eI G w' a l :=
 Or.imp id (fun ⟨b, off, e, hg, hlt, hc⟩ => ⟨b, off, e, hg, Nat.lt_of_lt_of_le hlt hk.size, fun j x hj => by
  have hb : ¬ S b := fun hs => hS b hs hg
  obtain ⟨a1, c1, a2, c2, ⟨h0, h1, h2, h3, h4, h5, h6, h7, h8⟩, r1, r2⟩ := hc j x hj;exact ⟨a1, c1, a2, c2, ⟨hk.cell h0 hb, hk.cell h1 hb, hk.cell h2 hb, hk.cell h3 hb, hk.cell h4 hb, hk.cell h5 hb, hk.cell h6 hb, hk.cell h7 hb, hk.cell h8 hb⟩, r1.keptS hk hS, r2.keptS hk hS⟩⟩) h
theorem eI.kept {G : Nat -> Prop} {w w' : World} {a : Option Addr} {l : List CD} (h : eI G w a l) (hb : Below w.heap.size w w') : eI G w' a l := h.keptS (S := fun _ => False) (aF hb _) (fun _ h => h.elim)
theorem eI.imp {G H : Nat -> Prop} {w : World} {a : Option Addr} {l : List CD} (h : eI G w a l) (hG : ∀ b, b < w.heap.size -> G b -> H b) : eI H w a l :=
 Or.imp id (fun ⟨b, off, e, hg, hlt, hc⟩ => ⟨b, off, e, hG b hlt hg, hlt, fun j x hj => by
  obtain ⟨a1, c1, a2, c2, h0, r1, r2⟩ := hc j x hj;exact ⟨a1, c1, a2, c2, h0, r1.imp hG, r2.imp hG⟩⟩) h
structure PA where
 ea : Option Addr
 ec : Nat
 ga : Option Addr
 gc : Nat
 wa : Option Addr
 wc : Nat
abbrev agC (x : AG) (p : PA) : Array Value := #[.string x.fn, .int .i64 x.k, .string x.e.op, .string x.e.nm, .int .i64 x.e.n, .slice p.ea x.e.ks.len p.ec, .string x.g.op, .string x.g.nm, .int .i64 x.g.n, .slice p.ga x.g.ks.len p.gc, .slice p.wa x.wh.length p.wc]
abbrev agV (x : AG) (p : PA) : Value := .agg (agC x p)
abbrev agO (x : AG) (p : PA) : Obj := .cells (agC x p) 37
structure aI (G : Nat -> Prop) (w : World) (x : AG) (p : PA) : Prop where
 e : aH G w p.ea x.e.ks
 g : aH G w p.ga x.g.ks
 c : eI G w p.wa x.wh
theorem aI.kept {G : Nat -> Prop} {w w' : World} {x : AG} {p : PA} (h : aI G w x p) (hb : Below w.heap.size w w') : aI G w' x p := ⟨h.e.kept hb, h.g.kept hb, h.c.kept hb⟩
theorem aI.keptS {S G : Nat -> Prop} {w w' : World} {x : AG} {p : PA} (h : aI G w x p) (hk : aG S w w') (hS : ∀ k, S k -> ¬ G k) : aI G w' x p := ⟨h.e.keptS hk hS, h.g.keptS hk hS, h.c.keptS hk hS⟩
theorem aI.imp {G H : Nat -> Prop} {w : World} {x : AG} {p : PA} (h : aI G w x p) (hG : ∀ b, b < w.heap.size -> G b -> H b) : aI H w x p := ⟨h.e.imp hG, h.g.imp hG, h.c.imp hG⟩
theorem aD {W : World} {B : Nat} {v0 v1 v2 v3 v4 v5 v6 v7 v8 v9 v10 : Value} {t : TypeId} (h : W.heap[B]? = some (.cells #[v0, v1, v2, v3, v4, v5, v6, v7, v8, v9, v10] t (0, 0))) :
 W.cell? ⟨B, 0, none⟩ = some v0 /\ W.cell? ⟨B, 1, none⟩ = some v1 /\ W.cell? ⟨B, 2, none⟩ = some v2 /\ W.cell? ⟨B, 3, none⟩ = some v3 /\ W.cell? ⟨B, 4, none⟩ = some v4 /\ W.cell? ⟨B, 5, none⟩ = some v5 /\ W.cell? ⟨B, 6, none⟩ = some v6 /\ W.cell? ⟨B, 7, none⟩ = some v7 /\ W.cell? ⟨B, 8, none⟩ = some v8 /\ W.cell? ⟨B, 9, none⟩ = some v9 /\ W.cell? ⟨B, 10, none⟩ = some v10 := by
 refine ⟨?_, ?_, ?_, ?_, ?_, ?_, ?_, ?_, ?_, ?_, ?_⟩ <;> simp [World.cell?, h]
structure SzG (x : AG) : Prop where
 e : SzF x.e.f
 g : SzF x.g.f
 c : ∀ d ∈ x.wh, SzF d.a.f /\ SzF d.b.f
structure KA (G : Nat -> Prop) (w : World) (x : AG) (p : PA) (V : World) : Prop where
 b : Below w.heap.size w V
 z : w.heap.size <= V.heap.size
 n : V.heap[w.heap.size]? = some (agO x p)
 r : aI G V x p
theorem KA.step {G : Nat -> Prop} {w V V' : World} {x : AG} {p : PA} (h : KA G w x p V) (hb : Below V.heap.size V V') : KA G w x p V' :=
 ⟨h.b.trans (hb.mono h.z), Nat.le_trans h.z hb.size, (hb.block _ (aC h.n)).trans h.n, h.r.kept hb⟩
theorem GX {G : Nat -> Prop} {w : World} {x : AG} {p : PA} (hr : aI G w x p) : KA G w x p (w.alloc (agO x p)) :=
 ⟨(Below.refl _ _).alloc (Nat.le_refl _) _, by rw [World.size_alloc]; omega, heap_alloc_new w _, hr.kept ((Below.refl _ _).alloc (Nat.le_refl _) _)⟩
set_option maxHeartbeats 4000000 in
theorem DN (o : ByteArray) (w : World) : Calls Tryz.prog 33 #[.string o] w fun e w' => e = .returned (.bool (dH o.data.toList)) /\ w = w' := by
 cases h0 : (o.data.toList == aO) with
 | true =>
   have g0 := bG h0;unfold aO at g0;have R : dH o.data.toList = true := by unfold dH; rw [h0]; simp
   rw [R];clear R h0
   go_enter Tryz.func33, Tryz.ntmps33
   go_wp2_with fail
   go_ret;exact ⟨rfl, rfl⟩
 | false =>
   cases h1 : (o.data.toList == fV) with
   | true =>
     have g0 := aE h0;unfold aO at g0;have g1 := bG h1;unfold fV at g1;have R : dH o.data.toList = true := by unfold dH; rw [h1]; simp
     rw [R];clear R h0 h1
     go_enter Tryz.func33, Tryz.ntmps33
     go_wp2_with fail
     go_ret;exact ⟨rfl, rfl⟩
   | false =>
     cases h2 : (o.data.toList == gW) with
     | true =>
       have g0 := aE h0;unfold aO at g0;have g1 := aE h1;unfold fV at g1;have g2 := bG h2;unfold gW at g2;have R : dH o.data.toList = true := by unfold dH; rw [h2]; simp
       rw [R];clear R h0 h1 h2
       go_enter Tryz.func33, Tryz.ntmps33
       go_wp2_with fail
       go_ret;exact ⟨rfl, rfl⟩
     | false =>
       cases h3 : (o.data.toList == gF) with
       | true =>
         have g0 := aE h0;unfold aO at g0;have g1 := aE h1;unfold fV at g1;have g2 := aE h2;unfold gW at g2;have g3 := bG h3;unfold gF at g3;have R : dH o.data.toList = true := by unfold dH; rw [h3]; simp
         rw [R];clear R h0 h1 h2 h3
         go_enter Tryz.func33, Tryz.ntmps33
         go_wp2_with fail
         go_ret;exact ⟨rfl, rfl⟩
       | false =>
         cases h4 : (o.data.toList == aY) with
         | true =>
           have g0 := aE h0;unfold aO at g0;have g1 := aE h1;unfold fV at g1;have g2 := aE h2;unfold gW at g2;have g3 := aE h3;unfold gF at g3;have g4 := bG h4;unfold aY at g4;have R : dH o.data.toList = true := by unfold dH; rw [h4]; simp
           rw [R];clear R h0 h1 h2 h3 h4
           go_enter Tryz.func33, Tryz.ntmps33
           go_wp2_with fail
           go_ret;exact ⟨rfl, rfl⟩
         | false =>
           cases h5 : (o.data.toList == dN) with
           | true =>
             have g0 := aE h0;unfold aO at g0;have g1 := aE h1;unfold fV at g1;have g2 := aE h2;unfold gW at g2;have g3 := aE h3;unfold gF at g3;have g4 := aE h4;unfold aY at g4;have g5 := bG h5;unfold dN at g5;have R : dH o.data.toList = true := by unfold dH; rw [h5]; simp
             rw [R];clear R h0 h1 h2 h3 h4 h5
             go_enter Tryz.func33, Tryz.ntmps33
             go_wp2_with fail
             go_ret;exact ⟨rfl, rfl⟩
           | false =>
             have g0 := aE h0;have g1 := aE h1;have g2 := aE h2;have g3 := aE h3;have g4 := aE h4;have g5 := aE h5;unfold aO at g0;unfold fV at g1;unfold gW at g2;unfold gF at g3;unfold aY at g4;unfold dN at g5;rw [show dH o.data.toList = false by unfold dH; rw [h0, h1, h2, h3, h4, h5]; rfl];clear h0 h1 h2 h3 h4 h5
             go_enter Tryz.func33, Tryz.ntmps33
             go_wp2_with fail
             go_ret;exact ⟨rfl, rfl⟩
abbrev agP (x : AG) (p : PA) : Obj := .cells (agC x p) 28
def qI (t : TN) : Bool := decide (0 <= jM t 60)
def rI : List CD -> Bool
 | [] => true
 | d :: r => decide (d.op.size <= 20) && qI d.a && qI d.b && rI r
def Ff (x : AG) : Bool := decide (x.fn.size <= 20) && qI x.e && qI x.g && decide (x.wh.length <= 8) && rI x.wh
structure LnG (x : AG) : Prop where
 e : nX x.e.f
 g : nX x.g.f
 c : ∀ d ∈ x.wh, nX d.a.f /\ nX d.b.f
 fn : x.fn.size <= 9223372036854775807
 op : ∀ d ∈ x.wh, d.op.size <= 9223372036854775807
 wh : x.wh.length <= 9223372036854775807
structure KP9 (G : Nat -> Prop) (w : World) (x : AG) (p : PA) (V : World) : Prop where
 b : Below w.heap.size w V
 z : w.heap.size <= V.heap.size
 n : V.heap[w.heap.size]? = some (agP x p)
 r : aI G V x p
theorem KP9.step {G : Nat -> Prop} {w V V' : World} {x : AG} {p : PA} (h : KP9 G w x p V) (hb : Below V.heap.size V V') : KP9 G w x p V' :=
 ⟨h.b.trans (hb.mono h.z), Nat.le_trans h.z hb.size, (hb.block _ (aC h.n)).trans h.n, h.r.kept hb⟩
theorem lR {G : Nat -> Prop} {w : World} {x : AG} {p : PA} (hr : aI G w x p) : KP9 G w x p (w.alloc (agP x p)) :=
 ⟨(Below.refl _ _).alloc (Nat.le_refl _) _, by rw [World.size_alloc]; omega, heap_alloc_new w _, hr.kept ((Below.refl _ _).alloc (Nat.le_refl _) _)⟩
set_option maxHeartbeats 16000000 in
set_option maxRecDepth 100000 in
theorem Hj {G : Nat -> Prop} (x : AG) (p : PA) (w : World) (hL : LnG x) (hr : aI G w x p) : Calls Tryz.prog 14 #[agV x p] w fun e w' => e = .returned (.bool (Ff x)) /\ Below w.heap.size w w' := by
 have K0 := lR hr;generalize hW : w.alloc (agP x p) = W at K0;have HW := aA hW;have HK := aA K0;have HL := aA hL;obtain ⟨r, hR⟩ : ∃ r, Ff x = r := ⟨_, rfl⟩;rw [hR];unfold Ff at hR;have hfs := hL.fn;have hwl := hL.wh;obtain ⟨z1, hz1⟩ : ∃ z, qI x.e = z := ⟨_, rfl⟩;obtain ⟨z2, hz2⟩ : ∃ z, qI x.g = z := ⟨_, rfl⟩;rw [hz1, hz2] at hR;have C1 := aA (fun V (hV : Below W.heap.size W V) => rN p.ec hL.e (HK.out.r.e.kept hV));have C2 := aA (fun V (hV : Below W.heap.size W V) => rN p.gc hL.g (HK.out.r.g.kept hV));unfold qI at hz1 hz2;rw [hz1] at C1;rw [hz2] at C2;have HR := aA hR;clear hW K0 hL hr hR hz1 hz2;obtain ⟨m0, m1, m2, m3, m4, m5, m6, m7, m8, m9, m10⟩ := aD HK.out.n
 go_enter Tryz.func14, Tryz.ntmps14
 go_upto_region 1 with fail
 rw [HW.out]
 by_cases ho : x.fn.size <= 20
 · have o1 : ¬ (20 : Int) < (x.fn.size : Int) := by omega
   have o2 : decide (20 < x.fn.size) = false := decide_eq_false (by omega);have HR0 := aA (show (z1 && z2 && decide (x.wh.length <= 8) && rI x.wh) = r by rw [<- HR.out, decide_eq_true ho, Bool.true_and]);clear ho HR
   go_wp2_with fail
   refine (C1.out W (Below.refl _ _)).mono ?_;rintro e v1 ⟨rfl, hb⟩;have K1 := aA (HK.out.step hb);have B1 := aA hb;clear hb m0 m1 m2 m3 m4 m5 m6 m7 m8 m9 m10;obtain ⟨m0, m1, m2, m3, m4, m5, m6, m7, m8, m9, m10⟩ := aD K1.out.n;cases z1 with
   | false =>
     have TR := aA (show false = r by rw [<- HR0.out]; rfl)
     go_wp2_with fail
     go_ret;exact ⟨congrArg (fun z => Ending.returned (.bool z)) TR.out, K1.out.b⟩
   | true =>
     have HR1 := aA (show (z2 && decide (x.wh.length <= 8) && rI x.wh) = r by rw [<- HR0.out, Bool.true_and])
     go_wp2_with fail
     refine (C2.out v1 B1.out).mono ?_;rintro e v2 ⟨rfl, hb⟩;have K3 := aA (K1.out.step hb);clear hb m0 m1 m2 m3 m4 m5 m6 m7 m8 m9 m10;obtain ⟨m0, m1, m2, m3, m4, m5, m6, m7, m8, m9, m10⟩ := aD K3.out.n;cases z2 with
     | false =>
       have TR := aA (show false = r by rw [<- HR1.out]; rfl)
       go_wp2_with fail
       go_ret;exact ⟨congrArg (fun z => Ending.returned (.bool z)) TR.out, K3.out.b⟩
     | true =>
       by_cases hl : x.wh.length <= 8
       · have l1 : ¬ (8 : Int) < (x.wh.length : Int) := by omega
         have l2 : decide (8 < x.wh.length) = false := decide_eq_false (by omega);have T0 := aA (show rI (x.wh.drop 0) = r by rw [List.drop_zero, <- HR1.out, decide_eq_true hl]; rfl);clear hl HR1 HR0
         go_wp2_with fail
         clear m0 m1 m2 m3 m4 m5 m6 m7 m8 m9 m10
         go_loopw [3] (fun i wr => ∃ (k : Nat), i = .int .i64 k /\ k <= x.wh.length /\ Hid (rI (x.wh.drop k) = r) /\ Hid (KP9 G w x p wr)) (fun i _ => x.wh.length - (intOf i).toNat)
         case atStart => exact ⟨0, rfl, Nat.zero_le _, T0, K3⟩
         case round =>
          obtain ⟨k, rfl, hk, HC, HK⟩ := hrel;obtain ⟨m0, m1, m2, m3, m4, m5, m6, m7, m8, m9, m10⟩ := aD HK.out.n
          by_cases hlt : k < x.wh.length
          · obtain ⟨d, hd⟩ : ∃ d, x.wh[k]? = some d := ⟨_, List.getElem?_eq_getElem hlt⟩
            have hne : ¬ x.wh = [] := fun e => by rw [e] at hlt; simp at hlt
            obtain ⟨b, off, hwa', -, hbl, hcc⟩ := HK.out.r.c.resolve_left hne;have hwa := aA hwa';clear hwa';obtain ⟨a1, c1, a2, c2, ⟨p0, p1, p2, p3, p4, p5, p6, p7, p8⟩, r1, r2⟩ := hcc k d hd
            have hdr : x.wh.drop k = d :: x.wh.drop (k + 1) := by
             rw [List.drop_eq_getElem_cons hlt];have := List.getElem?_eq_getElem hlt;rw [this] at hd;rw [Option.some.inj hd]
            have hC := HC.out;rw [hdr, rI] at hC;have hsz := HL.out.c d (List.mem_of_getElem? hd);have hos := HL.out.op d (List.mem_of_getElem? hd);have A1 := aA (fun V (hV : Below wr.heap.size wr V) => rN c1 hsz.1 (r1.kept hV));have A2 := aA (fun V (hV : Below wr.heap.size wr V) => rN c2 hsz.2 (r2.kept hV))
            have CE := aA (p := ∀ V, Below wr.heap.size wr V -> (V.cell? ⟨b, off + k * 9, none⟩ = some (.string d.op) /\ V.cell? ⟨b, off + k * 9 + 1, none⟩ = some (.string d.a.op) /\ V.cell? ⟨b, off + k * 9 + 1 + 1, none⟩ = some (.string d.a.nm) /\ V.cell? ⟨b, off + k * 9 + 1 + 2, none⟩ = some (.int .i64 d.a.n) /\ V.cell? ⟨b, off + k * 9 + 1 + 3, none⟩ = some (.slice a1 d.a.ks.len c1) /\ V.cell? ⟨b, off + k * 9 + 5, none⟩ = some (.string d.b.op) /\ V.cell? ⟨b, off + k * 9 + 5 + 1, none⟩ = some (.string d.b.nm) /\ V.cell? ⟨b, off + k * 9 + 5 + 2, none⟩ = some (.int .i64 d.b.n) /\ V.cell? ⟨b, off + k * 9 + 5 + 3, none⟩ = some (.slice a2 d.b.ks.len c2))) (fun V hV =>
             ⟨(hV.cell (p := ⟨b, _, none⟩) hbl).trans p0, (hV.cell (p := ⟨b, _, none⟩) hbl).trans p1, (hV.cell (p := ⟨b, _, none⟩) hbl).trans p2, (hV.cell (p := ⟨b, _, none⟩) hbl).trans p3, (hV.cell (p := ⟨b, _, none⟩) hbl).trans p4, (hV.cell (p := ⟨b, _, none⟩) hbl).trans p5, (hV.cell (p := ⟨b, _, none⟩) hbl).trans p6, (hV.cell (p := ⟨b, _, none⟩) hbl).trans p7, (hV.cell (p := ⟨b, _, none⟩) hbl).trans p8⟩)
            obtain ⟨z1, hz1⟩ : ∃ z, qI d.a = z := ⟨_, rfl⟩;obtain ⟨z2, hz2⟩ : ∃ z, qI d.b = z := ⟨_, rfl⟩;rw [hz1, hz2] at hC;unfold qI at hz1 hz2;rw [hz1] at A1;rw [hz2] at A2;have HD := aA hC;rw [hwa.out] at m10;have b1 : (k : Int) < (x.wh.length : Int) := by omega
            have b2 : (0 : Int) <= (k : Int) := by omega
            have b3 : ((k : Int)).toNat = k := by omega
            clear hd hne hcc hdr hsz r1 r2 hz1 hz2 hC
            by_cases ho : d.op.size <= 20
            · have o1 : ¬ (20 : Int) < (d.op.size : Int) := by omega
              have o2 : decide (20 < d.op.size) = false := decide_eq_false (by omega);have HD0 := aA (show (z1 && z2 && rI (x.wh.drop (k + 1))) = r by rw [<- HD.out, decide_eq_true ho, Bool.true_and]);clear ho HD
              go_wp2_with fail
              refine (A1.out wr (Below.refl _ _)).mono ?_;rintro e v2 ⟨rfl, hb⟩;have K4 := aA (HK.out.step hb);have B2 := aA hb;clear hb p0 p1 p2 p3 p4 p5 p6 p7 p8 m0 m1 m2 m3 m4 m5 m6 m7 m8 m9 m10;obtain ⟨m0, m1, m2, m3, m4, m5, m6, m7, m8, m9, m10⟩ := aD K4.out.n;obtain ⟨p0, p1, p2, p3, p4, p5, p6, p7, p8⟩ := CE.out v2 B2.out;rw [hwa.out] at m10;cases z1 with
              | false =>
                have TR := aA (show false = r by rw [<- HD0.out]; rfl)
                go_wp2_with fail
                go_ret;exact ⟨congrArg (fun z => Ending.returned (.bool z)) TR.out, K4.out.b⟩
              | true =>
                have HD1 := aA (show (z2 && rI (x.wh.drop (k + 1))) = r by rw [<- HD0.out, Bool.true_and])
                go_wp2_with fail
                refine (A2.out v2 B2.out).mono ?_;rintro e v3 ⟨rfl, hb⟩;have K5 := aA (K4.out.step hb);clear hb;cases z2 with
                | false =>
                  have TR := aA (show false = r by rw [<- HD1.out]; rfl)
                  go_wp2_with fail
                  go_ret;exact ⟨congrArg (fun z => Ending.returned (.bool z)) TR.out, K5.out.b⟩
                | true =>
                  have HD2 := aA (show rI (x.wh.drop (k + 1)) = r by rw [<- HD1.out, Bool.true_and])
                  go_wp2_with fail
                  go_roundw
                  case rel => exact ⟨k + 1, by go_num, by omega, HD2, K5⟩
                  case measure => simp [intOf]; omega
            · have o1 : (20 : Int) < (d.op.size : Int) := by omega
              have o2 : decide (20 < d.op.size) = true := decide_eq_true (by omega);have TR := aA (show false = r by rw [<- HD.out, decide_eq_false ho]; rfl)
              go_wp2_with fail
              go_ret;exact ⟨congrArg (fun z => Ending.returned (.bool z)) TR.out, HK.out.b⟩
          · have TR := aA (show true = r by rw [<- HC.out, List.drop_of_length_le (by omega)]; rfl)
            have b1 : ¬ (k : Int) < (x.wh.length : Int) := by omega
            go_wp2_with fail
            go_ret;exact ⟨congrArg (fun z => Ending.returned (.bool z)) TR.out, HK.out.b⟩
       · have l1 : (8 : Int) < (x.wh.length : Int) := by omega
         have l2 : decide (8 < x.wh.length) = true := decide_eq_true (by omega);have TR := aA (show false = r by rw [<- HR1.out, decide_eq_false hl]; rfl)
         go_wp2_with fail
         go_ret;exact ⟨congrArg (fun z => Ending.returned (.bool z)) TR.out, K3.out.b⟩
 · have o1 : (20 : Int) < (x.fn.size : Int) := by omega
   have o2 : decide (20 < x.fn.size) = true := decide_eq_true (by omega);have TR := aA (show false = r by rw [<- HR.out, decide_eq_false ho]; rfl)
   go_wp2_with fail
   go_ret;exact ⟨congrArg (fun z => Ending.returned (.bool z)) TR.out, HK.out.b⟩
end
end Go.Proofs.YtapcjnoaofmmiaaGreatDoor
