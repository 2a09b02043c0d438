/-
 No statement: what AggEvalCard needs, of the texts OE11.
-/
import Derived.Test.YtapcjnoaofmmiaaGreatDoorVE8
namespace Go.Proofs.YtapcjnoaofmmiaaGreatDoor
section
section
open Go.RowKit
theorem Ll : (Tryz.prog.info? 29).map (fun i => (i.zero, i.size, i.bytes)) = some (some (.int .i64 0), 1, 8) := by kernel_rfl
def Ia (t : TN) : Prop := SzF t.f
theorem Ld {t t2 : TN} {j : Nat} (h : Ia t) (hj : t.ks.at j = some t2) : Ia t2 := SzF.at (f := t.ks) h.2.2.1 hj
def WdE (_ : Nat) (_ : World) : Prop := True
theorem wdE {w w' : World} {lb : Nat} (_ : WdE lb w) (_ : aG (· = lb) w w') : WdE lb w' := trivial
def l9 (_ : Nat -> Prop) (_ : World) (t : TN) (v : Value) : Prop := v = .int .i64 (bC t.f)
theorem kQ {G H : Nat -> Prop} {w : World} {t : TN} {v : Value} (h : l9 G w t v) (_ : ∀ b, b < w.heap.size -> G b -> H b) : l9 H w t v := h
theorem lI {S G : Nat -> Prop} {w w' : World} {t : TN} {v : Value} (h : l9 G w t v) (_ : aG S w w') (_ : ∀ k, S k -> ¬ G k) : l9 G w' t v := h
theorem Ka {G : Nat -> Prop} {w : World} {t : TN} {v : Value} (h : l9 G w t v) : ∃ z, v = .int .i64 z := ⟨_, h⟩
theorem Lv {G : Nat -> Prop} {w : World} {t : TN} {v : Value} (h : l9 G w t v) : v.oneCell' = true := by rw [h]; rfl
theorem qO (t : TN) (r : F) : bC (.cons t.op t.nm t.n t.ks r) = if bC t.f = 0 then bC r else bC t.f := by
 rw [pR, bC]
 by_cases h1 : nV t.op t.nm t.n t.ks.len = 0
 · rw [if_pos h1, if_pos h1]
 · rw [if_neg h1, if_neg h1, if_neg h1]
theorem CQ {o : ByteArray} {x : List UInt8} (h : (o.data.toList == x) = true) : (o.toList == x) = true := by rw [Lib.toList_data]; exact h
theorem CR {o : ByteArray} {x : List UInt8} (h : (o.data.toList == x) = false) : (o.toList == x) = false := by rw [Lib.toList_data]; exact h
set_option maxHeartbeats 8000000 in
theorem I7 (t : TN) (w : World) (G : Nat -> Prop) (a : Option Addr) (c : Nat) (va : Option Addr) (vc : Nat) (vs : List Value) (base : Nat) (hpre : Ia t) {lb : Nat} (_ : WdE lb w) (_ : aH G w a t.ks) (ho : w.ownsRow base 29 1 (.slice va t.ks.len vc) t.ks.len vs)
 (hv : ∀ j t2, t.ks.at j = some t2 -> ∃ v, vs[j]? = some v /\ l9 (fun b => base <= b /\ (Value.slice va t.ks.len vc).ownBlock ≠ some b) w t2 v) :
 Calls Tryz.prog 141 #[cH t.op t.nm t.n a t.ks.len c, .slice va t.ks.len vc] w fun e w' => ∃ v, e = .returned v /\ l9 (fun b => w.heap.size <= b) w' t v /\ Below w.heap.size w w' := by
 have BA := (Below.refl w.heap.size w).alloc (Nat.le_refl _) (ndG t.op t.nm t.n a t.ks.len c);have NB := heap_alloc_new w (ndG t.op t.nm t.n a t.ks.len c);have O1 := aA (aT ho BA);generalize hW : w.alloc (ndG t.op t.nm t.n a t.ks.len c) = W at BA NB O1;have HW := aA hW;have HB := aA BA;have HV := aA hv;have hm : t.nm.size <= 281474976710656 := hpre.1;have hlen9 : t.ks.len <= 9223372036854775807 := hpre.2.1;obtain ⟨⟨m0, m1, m2, m3⟩, -⟩ := aJ NB;have KO := aA (fun w => lS t.op w);have NM := aA (fun w => uQ t.nm hm w);have CT := pR t;unfold nV at CT;have HCT := aA CT;clear hW BA NB ho hv hpre CT;have P := aA (p := ∀ r : Int, r = bC t.f -> ∀ W', Below w.heap.size w W' -> ∃ v, Ending.returned (.int .i64 r) = .returned v /\ l9 (fun b => w.heap.size <= b) W' t v /\ Below w.heap.size w W') (fun r hr W' hb => ⟨_, rfl, by rw [hr]; rfl, hb⟩)
 by_cases h1 : (bE t.op != (t.ks.len : Int)) = true
 · have P2 := aA (P.out 2 (by rw [HCT.out, if_pos h1]; rfl) W HB.out)
   have b1 : ((t.ks.len : Int) != bE t.op) = true := by rw [bne_iff_ne] at h1 |-; exact fun e => h1 e.symm
   clear h1 P HCT
   go_enter Tryz.func141, Tryz.ntmps141
   go_upto_region 1 with fail
   rw [HW.out]
   go_wp2_with (go_at_call 147; refine (KO.out _).mono ?_; rintro e w' ⟨rfl, rfl⟩)
   go_ret;exact P2.out
 · have b1 : ((t.ks.len : Int) != bE t.op) = false := by rw [bne_eq_false_iff_eq]; simp at h1; exact h1.symm
   rw [if_neg h1] at HCT;clear h1;cases h2 : a8 t.op with
   | true =>
     have g2 := CQ h2
     have g1 : (t.op.toList == [110, 117, 109]) = false := by
      have : t.op.data.toList = eY := by unfold a8 at h2; simpa using h2
      rw [Lib.toList_data, this]; rfl
     have hn : bH t.op = false := by unfold bH gP; rw [<- Lib.toList_data]; exact g1
     unfold eY at g2;cases hg : cK t.nm.data.toList with
     | false =>
       rw [hg] at NM;have P2 := aA (P.out 5 (by rw [HCT.out, h2, hg]; rfl) W HB.out);clear h2 hg hn P HCT
       go_enter Tryz.func141, Tryz.ntmps141
       go_upto_region 1 with fail
       rw [HW.out]
       go_wp2_with (first | (go_at_call 147; refine (KO.out _).mono ?_; rintro e w' ⟨rfl, rfl⟩) | (go_at_call 168; refine (NM.out _).mono ?_; rintro e w' ⟨rfl, rfl⟩))
       go_ret;exact P2.out
     | true =>
       rw [hg] at NM;have E := aA (show bC t.f = bC t.ks by rw [HCT.out, h2, hg, hn]; rfl);clear h2 hg hn HCT
       go_enter Tryz.func141, Tryz.ntmps141
       go_upto_region 1 with fail
       rw [HW.out]
       go_wp2_with (first | (go_at_call 147; refine (KO.out _).mono ?_; rintro e w' ⟨rfl, rfl⟩) | (go_at_call 168; refine (NM.out _).mono ?_; rintro e w' ⟨rfl, rfl⟩))
       go_loop [35] (fun i => ∃ k : Nat, i = .int .i64 k /\ k <= t.ks.len /\ Hid (bC (t.ks.drop k) = bC t.ks)) (fun i => t.ks.len - (intOf i).toNat)
       case atStart => exact ⟨0, rfl, Nat.zero_le _, aA (by rw [F.drop_zero])⟩
       case round =>
        obtain ⟨k, rfl, hk, hD⟩ := hrel
        by_cases hlt : k < t.ks.len
        · obtain ⟨t2, hat, hdr⟩ := eR hlt
          obtain ⟨v, hvj, hvr⟩ := HV.out k t2 hat;obtain ⟨g, cc, hva, -, -, hcs⟩ := cZ O1.out (by omega);have hx := hcs k v hvj;have HD2 := aA (show bC t.ks = if bC t2.f = 0 then bC (t.ks.drop (k + 1)) else bC t2.f by have e := qO t2 (t.ks.drop (k + 1)); rw [<- hdr, hD.out] at e; exact e);simp only [Value.slice.injEq, true_and] at hva;obtain ⟨rfl, rfl⟩ := hva;unfold l9 at hvr;subst hvr;clear hvj hat hdr hcs
          by_cases h0 : bC t2.f = 0
          · have b0 : ((bC t2.f : Int) != 0) = false := by rw [h0]; rfl
            have D2 := aA (show bC (t.ks.drop (k + 1)) = bC t.ks by rw [HD2.out, if_pos h0]);clear h0 HD2
            go_wp2_with fail
            go_round
            case rel => exact ⟨k + 1, by go_num, by omega, D2⟩
            case measure => simp [intOf]; omega
          · have b0 : ((bC t2.f : Int) != 0) = true := by simpa using h0
            have P2 := aA (P.out (bC t2.f) (by rw [E.out, HD2.out, if_neg h0]) W HB.out);clear h0 HD2
            go_wp2_with fail
            go_ret;exact P2.out
        · obtain rfl : k = t.ks.len := by omega
          have P2 := aA (P.out 0 (by rw [E.out, <- hD.out, F.drop_len _ _ (Nat.le_refl _)]; rfl) W HB.out)
          go_wp2_with fail
          go_ret;exact P2.out
   | false =>
     have g2 := CR h2;unfold eY at g2;cases h3 : bH t.op with
     | true =>
       have g3 := CQ h3;unfold gP at g3
       by_cases h4 : t.n < 0
       · have P2 := aA (P.out 1 (by rw [HCT.out, h2, h3, decide_eq_true h4]; rfl) W HB.out)
         clear h2 h3 P HCT
         go_enter Tryz.func141, Tryz.ntmps141
         go_upto_region 1 with fail
         rw [HW.out]
         go_wp2_with (go_at_call 147; refine (KO.out _).mono ?_; rintro e w' ⟨rfl, rfl⟩)
         go_ret;exact P2.out
       · have E := aA (show bC t.f = bC t.ks by rw [HCT.out, h2, h3, decide_eq_false h4]; rfl)
         clear h2 h3 HCT
         go_enter Tryz.func141, Tryz.ntmps141
         go_upto_region 1 with fail
         rw [HW.out]
         go_wp2_with (go_at_call 147; refine (KO.out _).mono ?_; rintro e w' ⟨rfl, rfl⟩)
         go_loop [35] (fun i => ∃ k : Nat, i = .int .i64 k /\ k <= t.ks.len /\ Hid (bC (t.ks.drop k) = bC t.ks)) (fun i => t.ks.len - (intOf i).toNat)
         case atStart => exact ⟨0, rfl, Nat.zero_le _, aA (by rw [F.drop_zero])⟩
         case round =>
          obtain ⟨k, rfl, hk, hD⟩ := hrel
          by_cases hlt : k < t.ks.len
          · obtain ⟨t2, hat, hdr⟩ := eR hlt
            obtain ⟨v, hvj, hvr⟩ := HV.out k t2 hat;obtain ⟨g, cc, hva, -, -, hcs⟩ := cZ O1.out (by omega);have hx := hcs k v hvj;have HD2 := aA (show bC t.ks = if bC t2.f = 0 then bC (t.ks.drop (k + 1)) else bC t2.f by have e := qO t2 (t.ks.drop (k + 1)); rw [<- hdr, hD.out] at e; exact e);simp only [Value.slice.injEq, true_and] at hva;obtain ⟨rfl, rfl⟩ := hva;unfold l9 at hvr;subst hvr;clear hvj hat hdr hcs
            by_cases h0 : bC t2.f = 0
            · have b0 : ((bC t2.f : Int) != 0) = false := by rw [h0]; rfl
              have D2 := aA (show bC (t.ks.drop (k + 1)) = bC t.ks by rw [HD2.out, if_pos h0]);clear h0 HD2
              go_wp2_with fail
              go_round
              case rel => exact ⟨k + 1, by go_num, by omega, D2⟩
              case measure => simp [intOf]; omega
            · have b0 : ((bC t2.f : Int) != 0) = true := by simpa using h0
              have P2 := aA (P.out (bC t2.f) (by rw [E.out, HD2.out, if_neg h0]) W HB.out);clear h0 HD2
              go_wp2_with fail
              go_ret;exact P2.out
          · obtain rfl : k = t.ks.len := by omega
            have P2 := aA (P.out 0 (by rw [E.out, <- hD.out, F.drop_len _ _ (Nat.le_refl _)]; rfl) W HB.out)
            go_wp2_with fail
            go_ret;exact P2.out
     | false =>
       have g3 := CR h3;unfold gP at g3;have E := aA (show bC t.f = bC t.ks by rw [HCT.out, h2, h3]; rfl);clear h2 h3 HCT
       go_enter Tryz.func141, Tryz.ntmps141
       go_upto_region 1 with fail
       rw [HW.out]
       go_wp2_with (go_at_call 147; refine (KO.out _).mono ?_; rintro e w' ⟨rfl, rfl⟩)
       go_loop [35] (fun i => ∃ k : Nat, i = .int .i64 k /\ k <= t.ks.len /\ Hid (bC (t.ks.drop k) = bC t.ks)) (fun i => t.ks.len - (intOf i).toNat)
       case atStart => exact ⟨0, rfl, Nat.zero_le _, aA (by rw [F.drop_zero])⟩
       case round =>
        obtain ⟨k, rfl, hk, hD⟩ := hrel
        by_cases hlt : k < t.ks.len
        · obtain ⟨t2, hat, hdr⟩ := eR hlt
          obtain ⟨v, hvj, hvr⟩ := HV.out k t2 hat;obtain ⟨g, cc, hva, -, -, hcs⟩ := cZ O1.out (by omega);have hx := hcs k v hvj;have HD2 := aA (show bC t.ks = if bC t2.f = 0 then bC (t.ks.drop (k + 1)) else bC t2.f by have e := qO t2 (t.ks.drop (k + 1)); rw [<- hdr, hD.out] at e; exact e);simp only [Value.slice.injEq, true_and] at hva;obtain ⟨rfl, rfl⟩ := hva;unfold l9 at hvr;subst hvr;clear hvj hat hdr hcs
          by_cases h0 : bC t2.f = 0
          · have b0 : ((bC t2.f : Int) != 0) = false := by rw [h0]; rfl
            have D2 := aA (show bC (t.ks.drop (k + 1)) = bC t.ks by rw [HD2.out, if_pos h0]);clear h0 HD2
            go_wp2_with fail
            go_round
            case rel => exact ⟨k + 1, by go_num, by omega, D2⟩
            case measure => simp [intOf]; omega
          · have b0 : ((bC t2.f : Int) != 0) = true := by simpa using h0
            have P2 := aA (P.out (bC t2.f) (by rw [E.out, HD2.out, if_neg h0]) W HB.out);clear h0 HD2
            go_wp2_with fail
            go_ret;exact P2.out
        · obtain rfl : k = t.ks.len := by omega
          have P2 := aA (P.out 0 (by rw [E.out, <- hD.out, F.drop_len _ _ (Nat.le_refl _)]; rfl) W HB.out)
          go_wp2_with fail
          go_ret;exact P2.out
end
section
open Go.RowKit
end
section
open Go.RowKit
end
section
open Go.RowKit
theorem bG {o : ByteArray} {x : List UInt8} (h : (o.data.toList == x) = true) : (o.toList == x) = true := by rw [Lib.toList_data]; exact h
theorem aE {o : ByteArray} {x : List UInt8} (h : (o.data.toList == x) = false) : (o.toList == x) = false := by rw [Lib.toList_data]; exact h
end
section
open Go.RowKit
theorem Li : (Tryz.prog.info? 9).map (fun i => (i.zero, i.size, i.bytes)) = some (some (.string ⟨#[]⟩), 1, 16) := by kernel_rfl
def j0 (w : World) : Prop := ∃ t f, w.heap[1]? = some (.cells (Lib.pow10Tab.map fun z => Value.int .u64 z).toArray t f)
theorem tD (n : Int) (h0 : -9223372036854775808 <= n) (h1 : n <= 9223372036854775807) (w : World) (hw : j0 w) :
 Calls Tryz.prog 100 #[.int .i64 n, .int .i64 10] w fun e w' => e = .returned (.string ⟨(Lib.itoa n).toArray⟩) /\ Below w.heap.size w w' := by
 obtain ⟨t, f, h2⟩ := hw;refine (Tryz.strconv_FormatInt_10 n h0 h1 w (AU (by kernel_rfl) h2)).mono ?_;rintro e w' ⟨rfl, k, os, rfl⟩;exact ⟨rfl, Lib.below_grow _ _ (Nat.le_refl _) _ _⟩
inductive OkI : TN -> Prop
 | num (o m : ByteArray) (n : Int) : bH o = true -> 0 <= n -> n <= 9223372036854775807 -> OkI ⟨o, m, n, .nil⟩
 | name (o m : ByteArray) (n : Int) : bH o = false -> a8 o = true -> cK m.data.toList = true -> OkI ⟨o, m, n, .nil⟩
 | neg (o m : ByteArray) (n : Int) (a : TN) : bH o = false -> a8 o = false -> dO o = true -> OkI a -> OkI ⟨o, m, n, a.f⟩
 | two (o m : ByteArray) (n : Int) (a b : TN) : bH o = false -> a8 o = false -> dO o = false -> jN o = true -> OkI a -> OkI b -> OkI ⟨o, m, n, .cons a.op a.nm a.n a.ks b.f⟩
theorem Bj (t : TN) (h : OkT t) (hn : d9 t.f) : OkI t :=
 iU (P := OkI) (fun o m n a b c => .num o m n a b c) (fun o m n a b c => .name o m n a b c) (fun o m n t a b c ih => .neg o m n t a b c ih) (fun o m n t u a b c d ih iu => .two o m n t u a b c d ih iu) t h hn
def H9 (t : TN) : Prop := OkI t /\ (bV t).length <= 4000
theorem Lb {t t2 : TN} {j : Nat} (h : H9 t) (hj : t.ks.at j = some t2) : H9 t2 := by
 obtain ⟨h, hl⟩ := h;cases h with
 | num o m n _ _ _ => cases hj
 | name o m n _ _ _ => cases hj
 | neg o m n a h1 h2 h3 h4 =>
   match j, hj with
   | 0, hj =>
     have : a = t2 := Option.some.inj hj;subst this;rw [(rX a h1 h2 h3).1, List.length_cons] at hl;exact ⟨h4, by omega⟩
   | j + 1, hj => cases hj
 | two o m n a b h1 h2 h3 h4 h5 h6 =>
   rw [(rW a b h1 h2 h3).1] at hl;simp only [List.length_cons, List.length_append, List.length_nil] at hl
   match j, hj with
   | 0, hj =>
     have : a = t2 := Option.some.inj hj;subst this;exact ⟨h5, by omega⟩
   | 1, hj =>
     have : b = t2 := Option.some.inj hj;subst this;exact ⟨h6, by omega⟩
   | j + 2, hj => cases hj
def WdT (lb : Nat) (w : World) : Prop := j0 w /\ lb ≠ 1
theorem wdT {w w' : World} {lb : Nat} (h : WdT lb w) (hk : aG (· = lb) w w') : WdT lb w' := by
 obtain ⟨⟨t, f, h1⟩, h2⟩ := h;exact ⟨⟨t, f, hk.heap h1 (fun e => h2 e.symm)⟩, h2⟩
def l8 (_ : Nat -> Prop) (_ : World) (t : TN) (v : Value) : Prop := v = .string ⟨(bV t).toArray⟩
theorem kN {G H : Nat -> Prop} {w : World} {t : TN} {v : Value} (h : l8 G w t v) (_ : ∀ b, b < w.heap.size -> G b -> H b) : l8 H w t v := h
theorem lH {S G : Nat -> Prop} {w w' : World} {t : TN} {v : Value} (h : l8 G w t v) (_ : aG S w w') (_ : ∀ k, S k -> ¬ G k) : l8 G w' t v := h
theorem J8 {G : Nat -> Prop} {w : World} {t : TN} {v : Value} (h : l8 G w t v) : ∃ z, v = .string z := ⟨_, h⟩
theorem Lt {G : Nat -> Prop} {w : World} {t : TN} {v : Value} (h : l8 G w t v) : v.oneCell' = true := by rw [h]; rfl
set_option maxHeartbeats 8000000 in
theorem I5 (t : TN) (w : World) (G : Nat -> Prop) (a : Option Addr) (c : Nat) (va : Option Addr) (vc : Nat) (vs : List Value) (base : Nat) (hpre : H9 t) {lb : Nat} (hwd : WdT lb w) (_ : aH G w a t.ks) (ho : w.ownsRow base 9 1 (.slice va t.ks.len vc) t.ks.len vs)
 (hv : ∀ j t2, t.ks.at j = some t2 -> ∃ v, vs[j]? = some v /\ l8 (fun b => base <= b /\ (Value.slice va t.ks.len vc).ownBlock ≠ some b) w t2 v) :
 Calls Tryz.prog 102 #[cH t.op t.nm t.n a t.ks.len c, .slice va t.ks.len vc] w fun e w' => ∃ v, e = .returned v /\ l8 (fun b => w.heap.size <= b) w' t v /\ Below w.heap.size w w' := by
 have BA := (Below.refl w.heap.size w).alloc (Nat.le_refl _) (ndG t.op t.nm t.n a t.ks.len c);have NB := heap_alloc_new w (ndG t.op t.nm t.n a t.ks.len c);have O1 := aA (aT ho BA)
 have LT : j0 (w.alloc (ndG t.op t.nm t.n a t.ks.len c)) := by
  obtain ⟨⟨t', f, h1⟩, _⟩ := hwd;exact ⟨t', f, (BA.block _ (Array.getElem?_eq_some_iff.1 h1).1).trans h1⟩
 generalize hW : w.alloc (ndG t.op t.nm t.n a t.ks.len c) = W at BA NB O1 LT;have HW := aA hW;have HB := aA BA;have HLT := aA LT;have hzw := BA.size;have KO := aA (fun w => lS t.op w);have P := aA (p := ∀ s : ByteArray, s = ⟨(bV t).toArray⟩ -> ∀ W', Below w.heap.size w W' -> ∃ v, Ending.returned (.string s) = .returned v /\ l8 (fun b => w.heap.size <= b) W' t v /\ Below w.heap.size w W') (fun s hs W' hb => ⟨_, rfl, by rw [hs]; rfl, hb⟩);obtain ⟨hi, hl⟩ := hpre;clear hW BA ho LT hwd;cases hi with
 | num o m n h1 h0 h9 =>
   have g1 := bG h1;unfold gP at g1;have ha : bE o = 0 := by unfold bE; rw [h1]; rfl
   have hE := (yW (m := m) (n := n) (ks := .nil) h1).1;have C := aA (tD n (by omega) h9 W HLT.out);have P2 := aA (P.out ⟨(Lib.itoa n).toArray⟩ (by rw [hE]));obtain ⟨⟨m0, m1, m2, m3⟩, -⟩ := aJ NB;dsimp only at *;rw [ha] at KO;rw [show F.nil.len = 0 from rfl] at *;clear P hE ha h1 h0 h9 hl hv NB
   go_enter Tryz.func102, Tryz.ntmps102
   go_upto_region 1 with fail
   rw [HW.out]
   go_upto_region 5 with (go_at_call 147; refine (KO.out _).mono ?_; rintro e w' ⟨rfl, rfl⟩)
   go_wp2_with fail
   refine C.out.mono ?_;rintro e w1 ⟨rfl, hb⟩;have P3 := aA (P2.out w1 (HB.out.trans (hb.mono hzw)));clear hb
   go_wp2_with fail
   go_ret;exact P3.out
 | name o m n h1 h2 h3 =>
   have g1 := aE h1;have g2 := bG h2;unfold gP at g1;unfold eY at g2;have ha : bE o = 0 := by unfold bE; rw [h1, h2]; rfl
   have hE := (uS (m := m) (n := n) (ks := .nil) h1 h2).1;have P2 := aA (P.out m (by rw [hE]) W HB.out);obtain ⟨⟨m0, m1, m2, m3⟩, -⟩ := aJ NB;dsimp only at *;rw [ha] at KO;rw [show F.nil.len = 0 from rfl] at *;clear P hE ha h1 h2 h3 hl hv NB
   go_enter Tryz.func102, Tryz.ntmps102
   go_upto_region 1 with fail
   rw [HW.out]
   go_wp2_with (go_at_call 147; refine (KO.out _).mono ?_; rintro e w' ⟨rfl, rfl⟩)
   go_ret;exact P2.out
 | neg o m n t1 h1 h2 h3 h4 =>
   have g1 := aE h1;have g2 := aE h2;have g3 := bG h3;unfold gP at g1;unfold eY at g2;unfold fE at g3;have ha : bE o = 1 := by unfold bE; rw [h1, h2, h3]; rfl
   have hE := (rX (m := m) (n := n) t1 h1 h2 h3).1;rw [hE, List.length_cons] at hl;obtain ⟨v, hv0, hvr⟩ := hv 0 t1 rfl;unfold l8 at hvr;subst hvr;obtain ⟨g, cc, hva, -, -, hcs⟩ := cZ O1.out (by show (1 : Nat) ≠ 0; decide);have hx := hcs 0 _ hv0;obtain ⟨S, hS⟩ : ∃ S : ByteArray, ⟨(bV t1).toArray⟩ = S := ⟨_, rfl⟩;have hSz : S.size <= 4000 := by rw [<- hS]; show (bV t1).toArray.size <= _; rw [List.size_toArray]; omega
   have P2 := aA (P.out (⟨#[45]⟩ ++ S) (by rw [hE, <- hS]; exact iV (by simp)) W HB.out);rw [hS] at hx;obtain ⟨⟨m0, m1, m2, m3⟩, -⟩ := aJ NB;dsimp only at *;rw [ha] at KO;have h1l : t1.f.len = 1 := rfl;rw [h1l] at HW m3 hva |-
   simp only [Value.slice.injEq, true_and] at hva;obtain ⟨rfl, rfl⟩ := hva;clear P hE ha h1 h2 h3 h4 hl hv NB hv0 hcs hS h1l
   go_enter Tryz.func102, Tryz.ntmps102
   go_upto_region 1 with fail
   rw [HW.out]
   go_wp2_with (go_at_call 147; refine (KO.out _).mono ?_; rintro e w' ⟨rfl, rfl⟩)
   go_ret;exact P2.out
 | two o m n t1 t2 h1 h2 h3 h4 h5 h6 =>
   have g1 := aE h1;have g2 := aE h2;have g3 := aE h3;unfold gP at g1;unfold eY at g2;unfold fE at g3;have ha : bE o = 2 := by unfold bE; rw [h1, h2, h3, h4]; rfl
   have hos : o.size = 1 := by
    obtain ⟨_, x, hx, _⟩ := yQ h4;have : o.data.toList.length = 1 := by rw [hx]; rfl
    rw [<- this]; simp
   have hE := (rW (m := m) (n := n) t1 t2 h1 h2 h3).1;rw [hE] at hl;simp only [List.length_cons, List.length_append, List.length_nil] at hl;obtain ⟨v, hv0, hvr⟩ := hv 0 t1 rfl;unfold l8 at hvr;subst hvr;obtain ⟨u, hu0, hur⟩ := hv 1 t2 rfl;unfold l8 at hur;subst hur;obtain ⟨g, cc, hva, -, -, hcs⟩ := cZ O1.out (by show (2 : Nat) ≠ 0; decide);have hx := hcs 0 _ hv0;have hy := hcs 1 _ hu0;obtain ⟨S, hS⟩ : ∃ S : ByteArray, ⟨(bV t1).toArray⟩ = S := ⟨_, rfl⟩;obtain ⟨V, hV⟩ : ∃ S : ByteArray, ⟨(bV t2).toArray⟩ = S := ⟨_, rfl⟩;have hSz : S.size <= 4000 := by rw [<- hS]; show (bV t1).toArray.size <= _; rw [List.size_toArray]; omega
   have hVz : V.size <= 4000 := by rw [<- hV]; show (bV t2).toArray.size <= _; rw [List.size_toArray]; omega
   have P2 := aA (P.out (⟨#[40]⟩ ++ S ++ ⟨#[32]⟩ ++ o ++ ⟨#[32]⟩ ++ V ++ ⟨#[41]⟩) (by rw [hE, <- hS, <- hV]; exact iV (by simp)));have P3 := aA (fun n => P2.out (W.drewN n) ⟨HB.out.os, HB.out.tape, HB.out.output, HB.out.size, HB.out.block⟩);rw [hS] at hx;rw [hV] at hy;have z1 : (9223372036854775807 < 1 + S.size) = False := by rw [eq_iff_iff, iff_false]; omega
   have z2 : (9223372036854775807 < 1 + S.size + 1) = False := by rw [eq_iff_iff, iff_false]; omega
   have z3 : (9223372036854775807 < 1 + S.size + 1 + o.size) = False := by rw [eq_iff_iff, iff_false]; omega
   have z4 : (9223372036854775807 < 1 + S.size + 1 + o.size + 1) = False := by rw [eq_iff_iff, iff_false]; omega
   have z5 : (9223372036854775807 < 1 + S.size + 1 + o.size + 1 + V.size) = False := by rw [eq_iff_iff, iff_false]; omega
   have z6 : (9223372036854775807 < 1 + S.size + 1 + o.size + 1 + V.size + 1) = False := by rw [eq_iff_iff, iff_false]; omega
   obtain ⟨⟨m0, m1, m2, m3⟩, -⟩ := aJ NB;dsimp only at *;rw [ha] at KO;have h1l : (F.cons t1.op t1.nm t1.n t1.ks t2.f).len = 2 := rfl;rw [h1l] at HW m3 hva |-
   simp only [Value.slice.injEq, true_and] at hva;obtain ⟨rfl, rfl⟩ := hva;clear P P2 hE ha h1 h2 h3 h4 h5 h6 hl hv NB hv0 hu0 hcs hS hV h1l hos
   go_enter Tryz.func102, Tryz.ntmps102
   go_upto_region 1 with fail
   rw [HW.out]
   go_upto_region 10 with (go_at_call 147; refine (KO.out _).mono ?_; rintro e w' ⟨rfl, rfl⟩)
   go_wp2_with (go_quiet (fail))
   go_ret;exact P3.out _
end
section
open Go.RowKit
theorem Lk : (Tryz.prog.info? 23).map (fun i => (i.zero, i.size, i.bytes)) = some (some (.slice none 0 0), 1, 24) := Lj
def Cj (t : TN) : Prop := OkI t /\ aQ t <= 1000
theorem Lc {t t2 : TN} {j : Nat} (h : Cj t) (hj : t.ks.at j = some t2) : Cj t2 := by
 obtain ⟨h, hl⟩ := h;refine ⟨?_, ?_⟩
 · cases h with
   | num o m n _ _ _ => cases hj
   | name o m n _ _ _ => cases hj
   | neg o m n a h1 h2 h3 h4 =>
     match j, hj with
     | 0, hj =>
       have : a = t2 := Option.some.inj hj;subst this;exact h4
     | j + 1, hj => cases hj
   | two o m n a b h1 h2 h3 h4 h5 h6 =>
     match j, hj with
     | 0, hj =>
       have : a = t2 := Option.some.inj hj;subst this;exact h5
     | 1, hj =>
       have : b = t2 := Option.some.inj hj;subst this;exact h6
     | j + 2, hj => cases hj
 · have h1 := kJ hj
   have h2 := fA t.ks j;unfold aQ at hl;omega
def WdL (_ : Nat) (_ : World) : Prop := True
theorem wdL {w w' : World} {lb : Nat} (_ : WdL lb w) (_ : aG (· = lb) w w') : WdL lb w' := trivial
theorem D9 {t : TN} (h : OkI t) : (bE t.op = 0 /\ t.ks = .nil) \/ (bE t.op ≠ 0 /\ 0 < t.ks.len) := by
 cases h with
 | num o m n h1 _ _ => left; exact ⟨by show bE o = 0; unfold bE; rw [h1]; rfl, rfl⟩
 | name o m n h1 h2 _ => left; exact ⟨by show bE o = 0; unfold bE; rw [h1, h2]; rfl, rfl⟩
 | neg o m n a h1 h2 h3 _ =>
   right;refine ⟨?_, Nat.succ_pos _⟩;show bE o ≠ 0;unfold bE; rw [h1, h2, h3]; simp
 | two o m n a b h1 h2 h3 h4 _ _ =>
   right;refine ⟨?_, Nat.succ_pos _⟩;show bE o ≠ 0;unfold bE; rw [h1, h2, h3, h4]; simp
theorem Af (t : TN) : cB t.f = t :: (if bE t.op = 0 then [] else cB t.ks) := by
 rw [TN.f, cB];simp [cB]
theorem wZ (w : World) (t : TN) (a : Option Addr) (c : Nat) : (w.alloc (ndG t.op t.nm t.n a t.ks.len c)).ownsRow w.heap.size 25 4 (.slice (some ⟨w.heap.size, 0, none⟩) 1 1) 1 (ndL t (a, c)) :=
 ⟨rfl, .inr ⟨w.heap.size, 1, _, rfl, Nat.le_refl _, heap_alloc_new w _, Nat.le_refl _, by unfold maxLen; omega, rfl, rfl⟩⟩
set_option maxHeartbeats 8000000 in
set_option maxRecDepth 100000 in
theorem I6 (t : TN) (w : World) (G : Nat -> Prop) (a : Option Addr) (c : Nat) (va : Option Addr) (vc : Nat) (vs : List Value) (base : Nat) (hpre : Cj t) {lb : Nat} (_ : WdL lb w) (_ : aH G w a t.ks) (ho : w.ownsRow base 23 1 (.slice va t.ks.len vc) t.ks.len vs)
 (hv : ∀ j t2, t.ks.at j = some t2 -> ∃ v, vs[j]? = some v /\ lY (fun b => base <= b /\ (Value.slice va t.ks.len vc).ownBlock ≠ some b) w t2 v) :
 Calls Tryz.prog 104 #[cH t.op t.nm t.n a t.ks.len c, .slice va t.ks.len vc] w fun e w' => ∃ v, e = .returned v /\ lY (fun b => w.heap.size <= b) w' t v /\ Below w.heap.size w w' := by
 obtain ⟨i0, hi, hz0, hz1, hz2⟩ := info_parts qC;have und : Tryz.prog.underlying 23 = some (.slice 25) := Tryz.underlying23;have BA := (Below.refl w.heap.size w).alloc (Nat.le_refl _) (ndG t.op t.nm t.n a t.ks.len c);have NB := heap_alloc_new w (ndG t.op t.nm t.n a t.ks.len c);have hs0 : (w.alloc (ndG t.op t.nm t.n a t.ks.len c)).heap.size = w.heap.size + 1 := World.size_alloc _ _;have KO := aA (fun w => lS t.op w)
 have CC := aA (p := ∀ V, Below w.heap.size w V -> Calls Tryz.prog 149 #[.slice va t.ks.len vc] V fun e w' => ∃ v qs, e = .returned v /\ qs.length = (cB t.ks).length /\ w'.ownsRow V.heap.size 25 4 v (cB t.ks).length (eF (cB t.ks) qs) /\ Below V.heap.size V w') (fun V hV =>
  Cd t.ks va vc vs base V (aT ho hV) (by have := hpre.2; unfold aQ at this; omega) (G := fun b => base <= b /\ (Value.slice va t.ks.len vc).ownBlock ≠ some b) (fun j t2 hj => by
   obtain ⟨v, h1, h2⟩ := hv j t2 hj;exact ⟨v, h1, jE h2 (aF hV (fun _ => False)) (fun _ h => h.elim)⟩))
 generalize hW : w.alloc (ndG t.op t.nm t.n a t.ks.len c) = W at BA NB hs0;have HW := aA hW;have HB := aA BA;have hsize := hpre.2;obtain ⟨⟨m0, m1, m2, m3⟩, -⟩ := aJ NB;have HNB := aA NB
 rcases D9 hpre.1 with ⟨h0, h0k⟩ | ⟨h0, h0k⟩
 · have b1 : ((bE t.op : Int) == 0) = true := by rw [h0]; rfl
   have hp : cB t.f = [t] := by rw [Af, if_pos h0]
   have P := (show lY (fun b => w.heap.size <= b) (W.alloc (ndG t.op t.nm t.n a t.ks.len c)) t (.slice (some ⟨W.heap.size, 0, none⟩) 1 1) /\ Below w.heap.size w (W.alloc (ndG t.op t.nm t.n a t.ks.len c)) from by
    have ob := wZ W t a c;refine ⟨⟨⟨W.heap.size, 0, 1, [(a, c)], by rw [hp]; rfl, by omega, by rw [World.size_alloc]; omega, by rw [hp]; rfl, fun j u hj => ?_⟩⟩, BA.alloc (by omega) _⟩;rw [hp] at hj
    have hj2 : (ndL t (a, c))[j]? = some u := by
     have e : eF [t] [(a, c)] = ndL t (a, c) := by simp [eF]
     rw [e] at hj; exact hj
    obtain ⟨g', h1, h2⟩ := lM ob hj2;simp only [Addr.mk.injEq, and_true] at h1;subst h1;rw [Nat.zero_add];exact h2)
   rw [hs0] at P;have P := aA P;clear hW NB BA ho hv hpre h0 h0k hp CC
   go_enter Tryz.func104, Tryz.ntmps104
   go_upto_region 1 with fail
   rw [HW.out]
   go_wp2_with (go_at_call 147; refine (KO.out _).mono ?_; rintro e w' ⟨rfl, rfl⟩)
   go_ret;exact ⟨_, rfl, P.out.1, P.out.2⟩
 · have b1 : ((bE t.op : Int) == 0) = false := by rw [beq_eq_false_iff_ne]; exact h0
   have hp : cB t.f = t :: cB t.ks := by rw [Af, if_neg h0]
   have hpk : 0 < (cB t.ks).length := by
    cases hk : t.ks with
    | nil => rw [hk] at h0k; simp [F.len] at h0k
    | cons o m n k r => rw [cB]; simp
   have hpl := pA t.ks;have hpl2 : (cB t.ks).length <= 1000 := by unfold aQ at hsize; omega
   have HP := aA hp;have hpkn : (cB t.ks).length ≠ 0 := by omega
   clear hW NB BA ho hv hpre h0 h0k hp hpl
   go_enter Tryz.func104, Tryz.ntmps104
   go_upto_region 1 with fail
   rw [HW.out]
   go_upto_region 3 with (go_at_call 147; refine (KO.out _).mono ?_; rintro e w' ⟨rfl, rfl⟩)
   have BW1 := aA (show Below w.heap.size w (W.alloc (ndG t.op t.nm t.n a t.ks.len c)).drew from (HB.out.alloc (by omega) _ |> fun b => ⟨b.os, b.tape, b.output, b.size, b.block⟩));have ow1 : (W.alloc (ndG t.op t.nm t.n a t.ks.len c)).drew.ownsRow W.heap.size 25 4 (.slice (some ⟨W.heap.size, 0, none⟩) 1 1) 1 (ndL t (a, c)) := wZ W t a c;rw [hs0] at ow1;have OW1 := aA ow1;clear ow1;have BW0 := aA (show Below w.heap.size w W.drew from ⟨HB.out.os, HB.out.tape, HB.out.output, HB.out.size, HB.out.block⟩);have hsz0 : W.drew.heap.size = w.heap.size + 1 := hs0
   have hsz1 : (W.alloc (ndG t.op t.nm t.n a t.ks.len c)).drew.heap.size = w.heap.size + 2 := by
    have : (W.alloc (ndG t.op t.nm t.n a t.ks.len c)).drew.heap.size = W.heap.size + 1 := World.size_alloc _ _;omega
   go_region_law (first
    | (go_simp
       go_at_call 149
       refine (CC.out _ BW1.out).mono ?_;rintro e w2 ⟨v2, qs, rfl, hq, ho2, hb2⟩;obtain ⟨g2, c2, rfl, -, -, hc2⟩ := cZ ho2 hpkn;have O2 := aA (aT OW1.out hb2);have HQ := aA hq;have HB2 := aA (BW1.out.trans (hb2.mono (by omega)));have HC := aA (p := ∀ j u, (eF (cB t.ks) qs)[j]? = some u -> w2.cell? ((⟨g2, 0, none⟩ : Addr).add j) = some u) (fun j u hj => by rw [Addr.add_lit, Nat.zero_add]; exact hc2 j u hj);have HLL := aA (pI hq);have hz2w : w.heap.size + 2 <= w2.heap.size := by have := hb2.size; omega
       clear ho2 hb2 hc2 hq)
    | (refine cL rfl (.tmp 12) (.tmp 14) 23 rfl (base := w.heap.size + 1) und hi hz0 hz1 hz2 rfl (by decide) (.slice (some ⟨w.heap.size + 1, 0, none⟩) 1 1) 1 (cB t.ks).length (ndL t (a, c)) (eF (cB t.ks) qs) ⟨g2, 0, none⟩ c2 (by first | (simp [Act.eval]; done) | (simp [Act.eval, Act.put]; done) | fail) (by first | (simp [Act.eval]; done) | (simp [Act.eval, Act.put]; done) | fail) O2.out HLL.out HC.out (pH _ _) (by unfold maxLen; omega) (by omega) (by omega) ?_
       intro v3 w3 ho3 hg3 _;obtain ⟨g3, c3, rfl, -, -, hc3⟩ := cZ ho3 (by omega);have hb3 := (ho3.lt g3 rfl)
       have P3 := aA (show lY (fun b => w.heap.size <= b) w3 t (.slice (some ⟨g3, 0, none⟩) (1 + (cB t.ks).length) c3) from ⟨⟨g3, 0, c3, (a, c) :: qs, by rw [HP.out, List.length_cons, Nat.add_comm], by omega, hb3.2, by rw [HP.out, List.length_cons, List.length_cons, HQ.out], fun j u hj => by
        rw [HP.out, eF] at hj;rw [Nat.zero_add];exact hc3 j u hj⟩⟩)
       have B3 := aA (HB2.out.grown hg3 (by omega) (fun q hq => by have := (O2.out.lt q hq).1; omega));clear ho3 hg3 hc3 hb3)
    | (go_simp
       go_at_call 149
       refine (CC.out _ BW0.out).mono ?_;rintro e w2 ⟨v2, qs, rfl, hq, ho2, hb2⟩;obtain ⟨g2, c2, rfl, -, -, hc2⟩ := cZ ho2 hpkn;have NB2 := hb2.block w.heap.size (by omega);have hz2w : w.heap.size + 1 <= w2.heap.size := by have := hb2.size; omega
       have y : w2.heap[w.heap.size]? = some (ndG t.op t.nm t.n a t.ks.len c) := NB2.trans HNB.out;have O2b := aA (wZ w2 t a c);have HQ := aA hq;have HB2b := aA ((BW0.out.trans (hb2.mono (by omega))).alloc (by omega) (ndG t.op t.nm t.n a t.ks.len c));have HCb := aA (p := ∀ j u, (eF (cB t.ks) qs)[j]? = some u -> (w2.alloc (ndG t.op t.nm t.n a t.ks.len c)).cell? ((⟨g2, 0, none⟩ : Addr).add j) = some u) (fun j u hj => by rw [Addr.add_lit, Nat.zero_add]; exact Lib.cell?_alloc_some _ (hc2 j u hj));have HLL := aA (pI hq);have hz3w : (w2.alloc (ndG t.op t.nm t.n a t.ks.len c)).heap.size = w2.heap.size + 1 := World.size_alloc _ _;clear ho2 hb2 hc2 hq NB2 m0 m1 m2 m3;obtain ⟨⟨m0, m1, m2, m3⟩, -⟩ := aJ y;clear y)
    | (refine cL rfl (.tmp 12) (.tmp 14) 23 rfl (base := w2.heap.size) und hi hz0 hz1 hz2 rfl (by decide) (.slice (some ⟨w2.heap.size, 0, none⟩) 1 1) 1 (cB t.ks).length (ndL t (a, c)) (eF (cB t.ks) qs) ⟨g2, 0, none⟩ c2 (by first | (simp [Act.eval]; done) | (simp [Act.eval, Act.put]; done) | fail) (by first | (simp [Act.eval]; done) | (simp [Act.eval, Act.put]; done) | fail) O2b.out HLL.out HCb.out (pH _ _) (by unfold maxLen; omega) (by omega) (by rw [World.size_alloc]; omega) ?_
       intro v3 w3 ho3 hg3 _;obtain ⟨g3, c3, rfl, -, -, hc3⟩ := cZ ho3 (by omega);have hb3 := (ho3.lt g3 rfl)
       have P3 := aA (show lY (fun b => w.heap.size <= b) w3 t (.slice (some ⟨g3, 0, none⟩) (1 + (cB t.ks).length) c3) from ⟨⟨g3, 0, c3, (a, c) :: qs, by rw [HP.out, List.length_cons, Nat.add_comm], by have := hb3.1; omega, hb3.2, by rw [HP.out, List.length_cons, List.length_cons, HQ.out], fun j u hj => by
        rw [HP.out, eF] at hj;rw [Nat.zero_add];exact hc3 j u hj⟩⟩)
       have B3 := aA (HB2b.out.grown hg3 (by rw [World.size_alloc]; omega) (fun q hq => by have := (O2b.out.lt q hq).1; omega));clear ho3 hg3 hc3 hb3)
    | fail)
   all_goals
    go_wp2_with fail
    go_ret;exact ⟨_, rfl, P3.out, B3.out⟩
end
end
end Go.Proofs.YtapcjnoaofmmiaaGreatDoor
