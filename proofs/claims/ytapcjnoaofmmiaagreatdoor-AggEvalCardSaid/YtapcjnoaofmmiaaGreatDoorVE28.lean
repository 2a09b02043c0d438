/-
 No statement: what AggEvalCard needs, of the texts OArgs, QGw, OParse, QParse, OPx, OKn1.
-/
import Derived.Test.YtapcjnoaofmmiaaGreatDoorVE27
namespace Go.Proofs.YtapcjnoaofmmiaaGreatDoor
section
open Go.RowKit
theorem BH {W : World} {B : Nat} {x : AG} {p : PA} (h : W.heap[B]? = some (agP x p)) (t : TN) (ad : Option Addr) (cc : Nat) : (putE W B t ad cc).heap[B]? = some (agP { x with e := t } { p with ea := ad, ec := cc }) := by
 have h0 := heap_setCell_same (W) B 2 _ 28 (.string t.op) h;have g0 : ((W).setCell ⟨B, 2, none⟩ (.string t.op)).heap[B]? = some (.cells #[.string x.fn, .int .i64 x.k, .string t.op, .string x.e.nm, .int .i64 x.e.n, .slice p.ea x.e.ks.len p.ec, .string x.g.op, .string x.g.nm, .int .i64 x.g.n, .slice p.ga x.g.ks.len p.gc, .slice p.wa x.wh.length p.wc] 28 (0, 0)) := by simpa using h0
 have h1 := heap_setCell_same ((W).setCell ⟨B, 2, none⟩ (.string t.op)) B 3 _ 28 (.string t.nm) g0;have g1 : (((W).setCell ⟨B, 2, none⟩ (.string t.op)).setCell ⟨B, 3, none⟩ (.string t.nm)).heap[B]? = some (.cells #[.string x.fn, .int .i64 x.k, .string t.op, .string t.nm, .int .i64 x.e.n, .slice p.ea x.e.ks.len p.ec, .string x.g.op, .string x.g.nm, .int .i64 x.g.n, .slice p.ga x.g.ks.len p.gc, .slice p.wa x.wh.length p.wc] 28 (0, 0)) := by simpa using h1
 have h2 := heap_setCell_same (((W).setCell ⟨B, 2, none⟩ (.string t.op)).setCell ⟨B, 3, none⟩ (.string t.nm)) B 4 _ 28 (.int .i64 t.n) g1;have g2 : ((((W).setCell ⟨B, 2, none⟩ (.string t.op)).setCell ⟨B, 3, none⟩ (.string t.nm)).setCell ⟨B, 4, none⟩ (.int .i64 t.n)).heap[B]? = some (.cells #[.string x.fn, .int .i64 x.k, .string t.op, .string t.nm, .int .i64 t.n, .slice p.ea x.e.ks.len p.ec, .string x.g.op, .string x.g.nm, .int .i64 x.g.n, .slice p.ga x.g.ks.len p.gc, .slice p.wa x.wh.length p.wc] 28 (0, 0)) := by simpa using h2
 have h3 := heap_setCell_same ((((W).setCell ⟨B, 2, none⟩ (.string t.op)).setCell ⟨B, 3, none⟩ (.string t.nm)).setCell ⟨B, 4, none⟩ (.int .i64 t.n)) B 5 _ 28 (.slice ad t.ks.len cc) g2;have g3 : (((((W).setCell ⟨B, 2, none⟩ (.string t.op)).setCell ⟨B, 3, none⟩ (.string t.nm)).setCell ⟨B, 4, none⟩ (.int .i64 t.n)).setCell ⟨B, 5, none⟩ (.slice ad t.ks.len cc)).heap[B]? = some (.cells #[.string x.fn, .int .i64 x.k, .string t.op, .string t.nm, .int .i64 t.n, .slice ad t.ks.len cc, .string x.g.op, .string x.g.nm, .int .i64 x.g.n, .slice p.ga x.g.ks.len p.gc, .slice p.wa x.wh.length p.wc] 28 (0, 0)) := by simpa using h3
 exact g3
theorem BG {W : World} {B : Nat} {x : AG} {p : PA} (h : W.heap[B]? = some (agP x p)) (t : TN) (ad : Option Addr) (cc : Nat) : (putG W B t ad cc).heap[B]? = some (agP { x with g := t } { p with ga := ad, gc := cc }) := by
 have h0 := heap_setCell_same (W) B 6 _ 28 (.string t.op) h;have g0 : ((W).setCell ⟨B, 6, none⟩ (.string t.op)).heap[B]? = some (.cells #[.string x.fn, .int .i64 x.k, .string x.e.op, .string x.e.nm, .int .i64 x.e.n, .slice p.ea x.e.ks.len p.ec, .string t.op, .string x.g.nm, .int .i64 x.g.n, .slice p.ga x.g.ks.len p.gc, .slice p.wa x.wh.length p.wc] 28 (0, 0)) := by simpa using h0
 have h1 := heap_setCell_same ((W).setCell ⟨B, 6, none⟩ (.string t.op)) B 7 _ 28 (.string t.nm) g0;have g1 : (((W).setCell ⟨B, 6, none⟩ (.string t.op)).setCell ⟨B, 7, none⟩ (.string t.nm)).heap[B]? = some (.cells #[.string x.fn, .int .i64 x.k, .string x.e.op, .string x.e.nm, .int .i64 x.e.n, .slice p.ea x.e.ks.len p.ec, .string t.op, .string t.nm, .int .i64 x.g.n, .slice p.ga x.g.ks.len p.gc, .slice p.wa x.wh.length p.wc] 28 (0, 0)) := by simpa using h1
 have h2 := heap_setCell_same (((W).setCell ⟨B, 6, none⟩ (.string t.op)).setCell ⟨B, 7, none⟩ (.string t.nm)) B 8 _ 28 (.int .i64 t.n) g1;have g2 : ((((W).setCell ⟨B, 6, none⟩ (.string t.op)).setCell ⟨B, 7, none⟩ (.string t.nm)).setCell ⟨B, 8, none⟩ (.int .i64 t.n)).heap[B]? = some (.cells #[.string x.fn, .int .i64 x.k, .string x.e.op, .string x.e.nm, .int .i64 x.e.n, .slice p.ea x.e.ks.len p.ec, .string t.op, .string t.nm, .int .i64 t.n, .slice p.ga x.g.ks.len p.gc, .slice p.wa x.wh.length p.wc] 28 (0, 0)) := by simpa using h2
 have h3 := heap_setCell_same ((((W).setCell ⟨B, 6, none⟩ (.string t.op)).setCell ⟨B, 7, none⟩ (.string t.nm)).setCell ⟨B, 8, none⟩ (.int .i64 t.n)) B 9 _ 28 (.slice ad t.ks.len cc) g2;have g3 : (((((W).setCell ⟨B, 6, none⟩ (.string t.op)).setCell ⟨B, 7, none⟩ (.string t.nm)).setCell ⟨B, 8, none⟩ (.int .i64 t.n)).setCell ⟨B, 9, none⟩ (.slice ad t.ks.len cc)).heap[B]? = some (.cells #[.string x.fn, .int .i64 x.k, .string x.e.op, .string x.e.nm, .int .i64 x.e.n, .slice p.ea x.e.ks.len p.ec, .string t.op, .string t.nm, .int .i64 t.n, .slice ad t.ks.len cc, .slice p.wa x.wh.length p.wc] 28 (0, 0)) := by simpa using h3
 exact g3
theorem BE {W : World} {B : Nat} {x : AG} {p : PA} (h : W.heap[B]? = some (agP x p)) (k : Int) : (W.setCell ⟨B, 1, none⟩ (.int .i64 k)).heap[B]? = some (agP { x with k := k } p) := by
 have h0 := heap_setCell_same W B 1 _ 28 (.int .i64 k) h;simpa using h0
structure AQ (ts : List Tk) (rb ab : Nat) (a : Option Addr) (c : Nat) (w : World) (x : AG) (p : PA) (s : RS) (V : World) : Prop where
 r : PS ts rb a c s V
 n : V.heap[ab]? = some (agP x p)
 k : aG (fun b => b = rb \/ b = ab) w V
 e : cI w.heap.size V p.ea x.e.ks
 g : cI w.heap.size V p.ga x.g.ks
 wa : p.wa = none
 wc : p.wc = 0
 h : rb < ab
 z : ab < w.heap.size
section
variable {ts : List Tk} {rb ab : Nat} {a : Option Addr} {c : Nat} {w V V' : World} {x : AG} {p : PA} {s s' : RS}
theorem AQ.step (h : AQ ts rb ab a c w x p s V) (hp : PS ts rb a c s' V') (hk : aG (· = rb) V V') : AQ ts rb ab a c w x p s' V' := by
 have h1 := h.h;have h2 := h.z;exact ⟨hp, hk.heap h.n (by omega), h.k.trans hk (fun i hi _ => .inl hi), h.e.keptS hk (fun k hk => by omega), h.g.keptS hk (fun k hk => by omega), h.wa, h.wc, h1, h2⟩
theorem AQ.below (h : AQ ts rb ab a c w x p s V) (hb : Below V.heap.size V V') : AQ ts rb ab a c w x p s V' := h.step (h.r.below hb) (aF hb _)
theorem AQ.setK (h : AQ ts rb ab a c w x p s V) (k : Int) : AQ ts rb ab a c w { x with k := k } p s (V.setCell ⟨ab, 1, none⟩ (.int .i64 k)) := by
 have h1 := h.h;have h2 := h.z;have hk := (aG.refl (· = ab) V).setCell (p := ⟨ab, 1, none⟩) (.inl rfl) (.int .i64 k);exact ⟨h.r.kept hk (fun k hk => by omega), BE h.n k, h.k.trans hk (fun i hi _ => .inr hi), h.e.keptS hk (fun k hk => by omega), h.g.keptS hk (fun k hk => by omega), h.wa, h.wc, h1, h2⟩
theorem AQ.putE (h : AQ ts rb ab a c w x p s V) {t : TN} {ad : Option Addr} {cc : Nat} (hr : cI w.heap.size V ad t.ks) : AQ ts rb ab a c w { x with e := t } { p with ea := ad, ec := cc } s (putE V ab t ad cc) := by
 have h1 := h.h;have h2 := h.z;have hk := vK V ab t ad cc;exact ⟨h.r.kept hk (fun k hk => by omega), BH h.n t ad cc, h.k.trans hk (fun i hi _ => .inr hi), hr.keptS hk (fun k hk => by omega), h.g.keptS hk (fun k hk => by omega), h.wa, h.wc, h1, h2⟩
theorem AQ.putG (h : AQ ts rb ab a c w x p s V) {t : TN} {ad : Option Addr} {cc : Nat} (hr : cI w.heap.size V ad t.ks) : AQ ts rb ab a c w { x with g := t } { p with ga := ad, gc := cc } s (putG V ab t ad cc) := by
 have h1 := h.h;have h2 := h.z;have hk := Ev V ab t ad cc;exact ⟨h.r.kept hk (fun k hk => by omega), BG h.n t ad cc, h.k.trans hk (fun i hi _ => .inr hi), h.e.keptS hk (fun k hk => by omega), hr.keptS hk (fun k hk => by omega), h.wa, h.wc, h1, h2⟩
theorem AQ.box (h : AQ ts rb ab a c w x p s V) {B : Nat} {o : Obj} (hB : V.heap[B]? = some o) (hlo : w.heap.size <= B) {S : Nat -> Prop} (hk : aG S V V') (hS : ∀ k, S k -> k = rb \/ k = ab) : V'.heap[B]? = some o := by
 have h1 := h.h;have h2 := h.z;exact hk.heap hB (fun hs => by rcases hS B hs with e | e <;> omega)
end
theorem KL {ts : List Tk} {rb ab : Nat} {a : Option Addr} {c : Nat} {w : World} {s : RS} {fn : ByteArray} (h : PS ts rb a c s w) (hn : w.heap[ab]? = some (agP ⟨fn, 0, aV, aV, []⟩ bJ)) (hlt : rb < ab) : AQ ts rb ab a c w ⟨fn, 0, aV, aV, []⟩ bJ s w :=
 ⟨h, hn, aG.refl _ _, .inl rfl, .inl rfl, rfl, rfl, hlt, aC hn⟩
set_option maxHeartbeats 16000000 in
set_option maxRecDepth 100000 in
theorem FC (ts : List Tk) (hL : ∀ t ∈ ts, eN t) (rb ab : Nat) (a : Option Addr) (c : Nat) (s : RS) (fn : ByteArray) (w : World) (h : PS ts rb a c s w) (hn : w.heap[ab]? = some (agP ⟨fn, 0, aV, aV, []⟩ bJ)) (hlt : rb < ab) :
 Calls Tryz.prog 84 #[.pointer (some ⟨rb, 0, none⟩), .pointer (some ⟨ab, 0, none⟩)] w fun e w' => e = .returned (.tuple #[]) /\
  ∃ p, AQ ts rb ab a c w ⟨fn, if kP fn.data.toList = true then (bK ts (atR s)).num else 0, (oR ts fn.data.toList (nW ts fn.data.toList s)).1, (qP ts fn.data.toList (oR ts fn.data.toList (nW ts fn.data.toList s)).2).1, []⟩ p (iR ts fn.data.toList s) w' := by
 have Q0 := aA (KL h hn hlt);have CP := aA (i6 fn w);unfold iR;obtain ⟨F, hF⟩ : ∃ F, fn.data.toList = F := ⟨_, rfl⟩;rw [hF] at CP |-
 unfold ptV at CP;obtain ⟨kk, hk⟩ : ∃ b, kP F = b := ⟨_, rfl⟩;obtain ⟨ee, he⟩ : ∃ b, eP F = b := ⟨_, rfl⟩;obtain ⟨bb, hb⟩ : ∃ b, bP F = b := ⟨_, rfl⟩;obtain ⟨ff, hf⟩ : ∃ b, dH F = b := ⟨_, rfl⟩;rw [hk, he, hb, hf] at CP;have EK : ∀ u, nW ts F u = if kk = true then dF ts [44] (oS ts u) else u := fun u => by unfold nW; rw [hk]
 have EE : ∀ u, oR ts F u = if ee = true then cE ts u else (aV, u) := fun u => by unfold oR; rw [he]
 have EB : ∀ u, qP ts F u = if bb = true then cE ts (dF ts [44] u) else (aV, u) := fun u => by unfold qP; rw [hb]
 rw [hk];obtain ⟨s1, hs1⟩ : ∃ u, nW ts F s = u := ⟨_, rfl⟩;obtain ⟨t1, s2, hs2⟩ : ∃ t u, oR ts F s1 = (t, u) := ⟨_, _, rfl⟩;obtain ⟨t2, s3, hs3⟩ : ∃ t u, qP ts F s2 = (t, u) := ⟨_, _, rfl⟩;rw [hs1, hs2];simp only;rw [hs3];simp only;rw [EK] at hs1;rw [EE] at hs2;rw [EB] at hs3;obtain ⟨kn, hkn⟩ : ∃ n, (if kk = true then (bK ts (atR s)).num else 0) = n := ⟨_, rfl⟩;rw [hkn];have HS1 := aA hs1;have HS2 := aA hs2;have HS3 := aA hs3;have HKN := aA hkn;clear EK EE EB hs1 hs2 hs3 hkn hk he hb hf hF h hn;have hal := Q0.out.z;obtain ⟨m0, m1, m2, m3, m4, m5, m6, m7, m8, m9, m10⟩ := aD Q0.out.n
 go_enter Tryz.func84, Tryz.ntmps84
 go_wp2_with fail
 refine CP.out.mono ?_;rintro e w1 ⟨rfl, hb1⟩;have Q1 := Q0.out.below hb1;have BA := (Below.refl w1.heap.size w1).alloc (Nat.le_refl _) (ptO kk ee bb);have Q2 := aA (Q1.below BA);have NB := heap_alloc_new w1 (ptO kk ee bb);have hlo : w.heap.size <= w1.heap.size := hb1.size;clear hb1 Q1 BA CP Q0 m0 m1 m2 m3 m4 m5 m6 m7 m8 m9 m10
 go_upto_region 1 with fail
 generalize w1.alloc (ptO kk ee bb) = W at *;generalize w1.heap.size = B at *;have HN := aA NB;obtain ⟨⟨y0, y1, y2⟩, -⟩ := cS NB;clear NB
 go_upto_if 15 with fail
 go_cut [] (fun wc => ∃ p, Hid (AQ ts rb ab a c w ⟨fn, kn, aV, aV, []⟩ p s1 wc) /\ Hid (wc.heap[B]? = some (ptO kk ee bb)))
 case first =>
  cases kk with
  | true =>
    have CK := aA (Kt ts rb a c s W Q2.out.r);have HE : (bK ts (atR s)).num = kn := HKN.out;rw [HE] at CK
    go_wp2_with fail
    refine CK.out.mono ?_;rintro e w2 ⟨rfl, hp, hk⟩;have N3 := Q2.out.box HN.out hlo hk (fun k h => .inl h);have Q3 := (Q2.out.step hp hk).setK kn;have Q4 := aA Q3;have KS := (aG.refl (· = ab) w2).setCell (p := ⟨ab, 1, none⟩) (.inl rfl) (.int .i64 kn);have N4 := aA ((Q2.out.step hp hk).box (V := w2) (V' := w2.setCell ⟨ab, 1, none⟩ (.int .i64 kn)) N3 hlo KS (fun k h => .inr h));obtain ⟨m0, m1, m2, m3, m4, m5, m6, m7, m8, m9, m10⟩ := aD (Q2.out.step hp hk).n;obtain ⟨z0, z1, z2, z3, z4, z5, z6, z7, z8, z9, z10⟩ := dV (Q2.out.step hp hk).n;clear hp hk N3 Q3 KS CK
    go_upto_region 3 with fail
    clear m0 m1 m2 m3 m4 m5 m6 m7 m8 m9 m10 z0 z1 z2 z3 z4 z5 z6 z7 z8 z9 z10;obtain ⟨V, hV⟩ : ∃ V, w2.setCell ⟨ab, 1, none⟩ (.int .i64 kn) = V := ⟨_, rfl⟩;rw [hV] at Q4 N4 |-
    clear hV;have CS := aA (mX ts rb a c (oS ts s) ⟨#[44]⟩ V Q4.out.r)
    go_wp2_with fail
    refine CS.out.mono ?_;rintro e w3 ⟨rfl, hp, hk⟩;have N5 := aA (Q4.out.box N4.out hlo hk (fun k h => .inl h));have Q5 := aA (Q4.out.step hp hk);clear hp hk CS
    go_wp2_with fail
    go_meet
    case rel => exact ⟨_, by have := Q5; rw [<- HS1.out]; exact this, N5⟩
  | false =>
    have HE : (0 : Int) = kn := HKN.out;have HZ : s = s1 := HS1.out;subst HE;subst HZ
    go_wp2_with fail
    go_meet
    case rel => exact ⟨_, Q2, HN⟩
 case rest =>
  obtain ⟨p, Q3, N3⟩ := hcut;clear Q2 HN y0 y1 y2 HKN HS1;obtain ⟨⟨y0, y1, y2⟩, -⟩ := cS N3.out
  go_upto_if 24 with fail
  go_cut [] (fun wc => ∃ p, Hid (AQ ts rb ab a c w ⟨fn, kn, t1, aV, []⟩ p s2 wc) /\ Hid (wc.heap[B]? = some (ptO kk ee bb)))
  case first =>
   cases ee with
   | true =>
     have CE := aA (nH ts hL rb a c s1 wc Q3.out.r);have HE : cE ts s1 = (t1, s2) := HS2.out;rw [HE] at CE
     go_wp2_with fail
     refine CE.out.mono ?_;rintro e w2 ⟨ad, cc, rfl, hp, hk, hr⟩;have N4 := Q3.out.box N3.out hlo hk (fun k h => .inl h);have Q4 := Q3.out.step hp hk;have hr2 : cI w.heap.size w2 ad t1.ks := aH.imp hr (fun b _ hb => Nat.le_trans Q3.out.k.size hb);have Q5 := aA (Q4.putE (cc := cc) hr2);have N5 := aA (Q4.box N4 hlo (vK w2 ab t1 ad cc) (fun k h => .inr h));obtain ⟨m0, m1, m2, m3, m4, m5, m6, m7, m8, m9, m10⟩ := aD Q4.n;obtain ⟨z0, z1, z2, z3, z4, z5, z6, z7, z8, z9, z10⟩ := dV Q4.n;clear hp hk hr hr2 N4 Q4 CE
     go_wp2_with fail
     go_meet
     case rel => exact ⟨_, Q5, N5⟩
   | false =>
     have HE : (aV, s1) = (t1, s2) := HS2.out;cases HE
     go_wp2_with fail
     go_meet
     case rel => exact ⟨_, Q3, N3⟩
  case rest =>
   obtain ⟨p, Q4, N4⟩ := hcut;clear Q3 N3 y0 y1 y2 HS2;obtain ⟨⟨y0, y1, y2⟩, -⟩ := cS N4.out;cases bb with
   | true =>
     have CS := aA (mX ts rb a c s2 ⟨#[44]⟩ wc Q4.out.r)
     go_wp2_with fail
     refine CS.out.mono ?_;rintro e w3 ⟨rfl, hp, hk⟩;have Q5 := aA (Q4.out.step hp hk);clear hp hk CS Q4 N4;have CE := aA (nH ts hL rb a c _ w3 Q5.out.r);have HE : cE ts (dF ts [44] s2) = (t2, s3) := HS3.out;rw [HE] at CE
     go_wp2_with fail
     refine CE.out.mono ?_;rintro e w4 ⟨ad, cc, rfl, hp, hk, hr⟩;have Q6 := Q5.out.step hp hk;have hr2 : cI w.heap.size w4 ad t2.ks := aH.imp hr (fun b _ hb => Nat.le_trans Q5.out.k.size hb);have Q7 := aA (Q6.putG (cc := cc) hr2);obtain ⟨m0, m1, m2, m3, m4, m5, m6, m7, m8, m9, m10⟩ := aD Q6.n;obtain ⟨z0, z1, z2, z3, z4, z5, z6, z7, z8, z9, z10⟩ := dV Q6.n;clear hp hk hr hr2 Q6 CE
     go_wp2_with fail
     go_end0
     exact ⟨rfl, _, Q7.out⟩
   | false =>
     have HE : (aV, s2) = (t2, s3) := HS3.out;cases HE
     go_wp2_with fail
     go_end0
     exact ⟨rfl, _, Q4.out⟩
def uA (r : uB) (w0 : World) (e : Ending) (w' : World) : Prop := Below w0.heap.size w0 w' /\
 match r with
 | .bad p er => e = .returned (.tuple #[agV bN bJ, .int .i64 (p : Nat), .int .i64 er])
 | .ok a => ∃ p, e = .returned (.tuple #[agV a p, .int .i64 0, .int .i64 0]) /\ aI (fun b => w0.heap.size <= b) w' a p
section
variable {w : World} {ts : List Tk} {rb ab : Nat} {a : Option Addr} {c : Nat} {x : AG} {p : PA} {qs : List QC} {s s' : RS} {V V' : World}
end
theorem zT {ts : List Tk} {rb : Nat} {a : Option Addr} {c : Nat} {w V : World} {acc : List CD} {wa : Option Addr} {wc : Nat} {qs : List QC} {s : RS} (h : OCW ts rb a c w acc wa wc qs s V) : eI (fun b => w.heap.size <= b) V wa acc :=
 sO h.own h.ql (h.kd.imp (fun b _ hg => hg.1)) (fun b hb => (h.own.lt b (by rw [hb]; rfl)).1)
def Lr (ts : List Tk) (rb : Nat) (a : Option Addr) (c : Nat) (R : uB) (w : World) (e : Ending) (w' : World) : Prop :=
 ∃ (x : AG) (p : PA) (pos : Nat) (er : Int), e = .returned (agV x p) /\ PR ts rb a c pos er w' /\ aG (· = rb) w w' /\ (match R with | .bad q f => ¬ f = 0 /\ pos = q /\ er = f | .ok y => er = 0 /\ x = y /\ aI (fun b => w.heap.size <= b) w' x p)
theorem EP {W : World} {B : Nat} {x : AG} {p : PA} (h : W.heap[B]? = some (agP x p)) (l : List CD) (wa : Option Addr) (wc : Nat) : (W.setCell ⟨B, 10, none⟩ (.slice wa l.length wc)).heap[B]? = some (agP { x with wh := l } { p with wa := wa, wc := wc }) := by
 have h0 := heap_setCell_same W B 10 _ 28 (.slice wa l.length wc) h;simpa using h0
set_option maxHeartbeats 16000000 in
set_option maxRecDepth 100000 in
theorem H7 (ts : List Tk) (hL : ∀ t ∈ ts, eN t) (hO : ∀ t ∈ ts, AM t) (rb : Nat) (a : Option Addr) (c : Nat) (w : World) (h : PR ts rb a c 0 0 w) :
 Calls Tryz.prog 29 #[.pointer (some ⟨rb, 0, none⟩)] w (Lr ts rb a c (agS ts) w) := by
 have hrb := h.lt;have B1 := (Below.refl w.heap.size w).alloc (Nat.le_refl _) (agP bN bJ);have NB := heap_alloc_new w (agP bN bJ);have hs0 : (w.alloc (agP bN bJ)).heap.size = w.heap.size + 1 := World.size_alloc _ _;have P1 := aA (show PS ts rb a c ⟨0, 0, 0, 0⟩ (w.alloc (agP bN bJ)) from h.below B1);have K1 := aA (aF B1 (· = rb));generalize hW : w.alloc (agP bN bJ) = W at *;have HW := aA hW;have N0 := aA NB;have CN := Ec ts rb a c ⟨0, 0, 0, 0⟩ W P1.out;have CN2 : Calls Tryz.prog 82 #[.pointer (some ⟨rb, 0, none⟩)] W fun e w' => e = .returned (.string ⟨(bK ts 0).text.toArray⟩) /\ PS ts rb a c (f9 ts) w' /\ aG (· = rb) W w' := CN
 obtain ⟨fn, hfn⟩ : ∃ fn : ByteArray, ⟨(bK ts 0).text.toArray⟩ = fn := ⟨_, rfl⟩;rw [hfn] at CN2;have HFN := aA hfn;have C1 := aA CN2;clear h B1 NB hW CN CN2 hfn
 go_enter Tryz.func29, Tryz.ntmps29
 go_upto_region 1 with fail
 rw [show w.alloc (.cells #[.string ⟨#[]⟩, .int .i64 0, .string ⟨#[]⟩, .string ⟨#[]⟩, .int .i64 0, .slice none 0 0, .string ⟨#[]⟩, .string ⟨#[]⟩, .int .i64 0, .slice none 0 0, .slice none 0 0] 28) = W from HW.out]
 go_wp2_with fail
 refine C1.out.mono ?_;rintro e w1 ⟨rfl, hp, hk⟩;have BA := (Below.refl w1.heap.size w1).alloc (Nat.le_refl _) (agP ⟨fn, 0, aV, aV, []⟩ bJ);have NA := heap_alloc_new w1 (agP ⟨fn, 0, aV, aV, []⟩ bJ);have hz1 := hk.size;have P2 := aA (hp.below BA);have K2 := aA ((K1.out.trans hk (fun i hi _ => hi)).trans (aF BA (· = rb)) (fun i hi _ => hi));have N1 := aA ((BA.block w.heap.size (by omega)).trans (hk.heap N0.out (by omega)));clear hp hk BA C1 P1 K1 N0
 go_upto_region 2 with fail
 rw [show w1.alloc (.cells #[.string fn, .int .i64 0, .string ⟨#[]⟩, .string ⟨#[]⟩, .int .i64 0, .slice none 0 0, .string ⟨#[]⟩, .string ⟨#[]⟩, .int .i64 0, .slice none 0 0, .slice none 0 0] 28) = w1.alloc (agP ⟨fn, 0, aV, aV, []⟩ bJ) from rfl];generalize w1.alloc (agP ⟨fn, 0, aV, aV, []⟩ bJ) = W1 at *;generalize w1.heap.size = ab at *;have hab : w.heap.size < ab := by omega
 have NA1 := aA NA;clear NA hz1 hs0;have C2 := aA (mX ts rb a c (f9 ts) ⟨#[40]⟩ W1 P2.out)
 go_wp2_with fail
 refine C2.out.mono ?_;rintro e w2 ⟨rfl, hp, hk⟩;have P3 := aA (show PS ts rb a c (pL ts) w2 from hp);have K3 := aA (K2.out.trans hk (fun i hi _ => hi));have N2 := aA (hk.heap N1.out (by omega));have NA2 := aA (hk.heap NA1.out (by omega));clear hp hk C2 P2 K2 N1 NA1;have C3 := aA (FC ts hL rb ab a c (pL ts) fn w2 P3.out NA2.out (by omega))
 go_wp2_with fail
 refine C3.out.mono ?_;rintro e w3 ⟨rfl, p, Q⟩;have hfl : fn.data.toList = (bK ts 0).text := by rw [<- HFN.out]
 have Q2 := aA (show AQ ts rb ab a c w2 (uW ts []) p (iR ts (bK ts 0).text (pL ts)) w3 by
  rw [hfl, <- HFN.out] at Q;exact Q)
 have N3 := aA (Q.k.heap N2.out (by omega));clear Q hfl C3 NA2 N2;have C4 := aA (mX ts rb a c (iR ts (bK ts 0).text (pL ts)) ⟨#[41]⟩ w3 Q2.out.r)
 go_wp2_with fail
 refine C4.out.mono ?_;rintro e w4 ⟨rfl, hp, hk⟩;have Q3 := aA (show AQ ts rb ab a c w2 (uW ts []) p (mE ts) w4 from Q2.out.step hp hk);have N4 := aA (hk.heap N3.out (by omega));clear hp hk C4 N3 Q2;have C5 := aA (Cb ts hL hO rb a c (mE ts) w4 Q3.out.r (R := dZ ts 6 [] (mE ts)) rfl)
 go_wp2_with fail
 refine C5.out.mono ?_;rintro e w5 ⟨acc, wa, wc, qs, s, rfl, CW5, hres⟩;have Q4 := aA (Q3.out.step CW5.r CW5.k);have RC := aA (zT CW5);have N5 := aA (CW5.k.heap N4.out (by omega));have HR := aA hres;have hz45 := CW5.k.size;have hz34 := Q3.out.k.size;clear CW5 C5 Q3 N4 hres;obtain ⟨m0, m1, m2, m3, m4, m5, m6, m7, m8, m9, m10⟩ := aD Q4.out.n;obtain ⟨z0, z1, z2, z3, z4, z5, z6, z7, z8, z9, z10⟩ := dV Q4.out.n
 go_upto_region 6 with fail
 clear m0 m1 m2 m3 m4 m5 m6 m7 m8 m9 m10 z0 z1 z2 z3 z4 z5 z6 z7 z8 z9 z10;have KS := (aG.refl (· = ab) w5).setCell (p := ⟨ab, 10, none⟩) (.inl rfl) (.slice wa acc.length wc);have NW := EP Q4.out.n acc wa wc;have hl1 := Q4.out.z;have P6 := aA (Q4.out.r.kept KS (fun k hk => by omega));have K6 := aA ((K3.out.trans Q4.out.k (fun i hi hlt => by rcases hi with h | h <;> omega)).trans (KS.mono (T := fun i => w.heap.size <= i) (fun i hi _ => by omega)) (fun i hi hl => by omega));have N6 := aA (KS.heap N5.out (by omega));have RE := aA (Q4.out.e.keptS KS (fun k hk => by omega));have RG := aA (Q4.out.g.keptS KS (fun k hk => by omega));have hz24 := Q4.out.k.size;have XP := aA (show ∃ (x : AG) (q : PA), uW ts acc = x /\ { p with wa := wa, wc := wc } = q from ⟨_, _, rfl, rfl⟩);obtain ⟨x, q, hx, hq⟩ := XP.out;have NW2 := aA (show (w5.setCell ⟨ab, 10, none⟩ (.slice wa acc.length wc)).heap[ab]? = some (agP x q) by rw [<- hx, <- hq]; exact NW);have RE2 := aA (show cI w2.heap.size (w5.setCell ⟨ab, 10, none⟩ (.slice wa acc.length wc)) q.ea x.e.ks by rw [<- hx, <- hq]; exact RE.out);have RG2 := aA (show cI w2.heap.size (w5.setCell ⟨ab, 10, none⟩ (.slice wa acc.length wc)) q.ga x.g.ks by rw [<- hx, <- hq]; exact RG.out);have RC2 := aA (show eI (fun b => w4.heap.size <= b) (w5.setCell ⟨ab, 10, none⟩ (.slice wa acc.length wc)) q.wa x.wh by rw [<- hx, <- hq]; exact RC.out.keptS KS (fun k hk => by omega));have HX := aA hx;have hz2w := K3.out.size;clear hx hq XP NW RE RG RC KS Q4 K3 P3;obtain ⟨Y, hY⟩ : ∃ Y, w5.setCell ⟨ab, 10, none⟩ (.slice wa acc.length wc) = Y := ⟨_, rfl⟩
 rw [hY] at P6 K6 N6 NW2 RE2 RG2 RC2
 try rw [hY]
 clear hY;obtain ⟨m0, m1, m2, m3, m4, m5, m6, m7, m8, m9, m10⟩ := aD NW2.out;obtain ⟨b0, b1, b2, b3, b4, b5, b6, b7, b8, b9, b10⟩ := aD N6.out;obtain ⟨z0, z1, z2, z3, z4, z5, z6, z7, z8, z9, z10⟩ := dV N6.out
 go_wp2_with fail
 have KP := eG Y w.heap.size x q;obtain ⟨y0, y1, y2, y3, y4, y5, y6, y7, y8, y9, y10⟩ := aD (gM (t := 28) N6.out x q)
 have P : Lr ts rb a c (agS ts) w (.returned (agV x q)) (f6 Y w.heap.size x q) := by
  refine ⟨x, q, atR s, s.bad, rfl, P6.out.kept KP (fun k hk => by omega), K6.out.trans (KP.mono (T := fun i => w.heap.size <= i) (fun i hi _ => by omega)) (fun i hi hl => by omega), ?_⟩;have hr := HR.out;unfold agS;cases hc : dZ ts 6 [] (mE ts) with
  | bad pq eq =>
    rw [hc] at hr;simp only at hr |-
    exact ⟨fun h => hr.1 (hr.2.2.trans h), hr.2.1, hr.2.2⟩
  | ok l =>
    rw [hc] at hr;simp only at hr |-
    refine ⟨hr.1, ?_, ?_⟩
    · rw [<- hr.2]; exact HX.out.symm
    · exact ⟨(RE2.out.keptS KP (fun k hk => by omega)).imp (fun b _ hb => by omega), (RG2.out.keptS KP (fun k hk => by omega)).imp (fun b _ hb => by omega), (RC2.out.keptS KP (fun k hk => by omega)).imp (fun b _ hb => by omega)⟩
 exact bodyPost_ret (v := agV x q) (by simp [results, Tryz.results29, go_sem, y0, y1, y2, y3, y4, y5, y6, y7, y8, y9, y10]) rfl P
def agQ (n : Nat) (L : List Tk) : uB -> uB
 | .bad p e => .bad (kB n L p) e
 | .ok a => .ok a
theorem wD {X : World} {p : Addr} {v : Option Value} (h : X.cell? p = v) : X.drew.cell? p = v := h
theorem EQ {X : World} {B : Nat} {v : Option Obj} (h : X.heap[B]? = v) : X.drew.heap[B]? = v := h
theorem Cg {B : Nat} {w w' : World} (h : Below B w w') : Below B w w'.drew := ⟨h.os, h.tape, h.output, h.size, h.block⟩
section
variable {w : World} {ts : List Tk} {rb ab : Nat} {a : Option Addr} {c : Nat} {x : AG} {p : PA} {qs : List QC} {s : RS} {V : World}
theorem G8 : ∃ i z, Tryz.prog.info? 90 = some i /\ i.zero = some z /\ i.size = 9 /\ i.bytes = 144 /\ z.cells.size = 9 := by
 have h : (Tryz.prog.info? 90).map (fun i => (i.zero.map (fun z => z.cells.size), i.size, i.bytes)) = some (some 9, 9, 144) := by kernel_rfl
 cases hx : Tryz.prog.info? 90 with
 | none => rw [hx] at h; cases h
 | some i =>
   rw [hx] at h;simp only [Option.map_some, Option.some.injEq, Prod.mk.injEq] at h;obtain ⟨h1, h2, h3⟩ := h;cases hz : i.zero with
   | none => rw [hz] at h1; cases h1
   | some z =>
     rw [hz] at h1;exact ⟨i, z, rfl, hz, h2, h3, by simpa using h1⟩
theorem sW (W : World) (d : CD) (q : QC) : ∀ j u, (eV d q)[j]? = some u -> (W.alloc (.cells #[.string d.op, .string d.a.op, .string d.a.nm, .int .i64 d.a.n, .slice q.a1 d.a.ks.len q.c1, .string d.b.op, .string d.b.nm, .int .i64 d.b.n, .slice q.a2 d.b.ks.len q.c2] 90)).cell? ((⟨W.heap.size, 0, none⟩ : Addr).add j) = some u := fun j u hu => by
 obtain ⟨p0, p1, p2, p3, p4, p5, p6, p7, p8⟩ := kR (heap_alloc_new W (cdO d q.a1 q.c1 q.a2 q.c2));rw [Addr.add_lit]
 match j, hu with
 | 0, h => cases h; exact p0
 | 1, h => cases h; exact p1
 | 2, h => cases h; exact p2
 | 3, h => cases h; exact p3
 | 4, h => cases h; exact p4
 | 5, h => cases h; exact p5
 | 6, h => cases h; exact p6
 | 7, h => cases h; exact p7
 | 8, h => cases h; exact p8
 | n + 9, h => simp at h
theorem KZ {w1 : World} {n m : Nat} {a : Option Addr} {c : Nat} {ts : List Tk} (h : gQ w1 a ts) (hq : ∀ q, (Value.slice a m c).ownBlock = some q -> n < q) : ts = [] \/ ∃ b off, a = some ⟨b, off, none⟩ /\ n < b := by
 rcases h with h | ⟨b, off, e, -, -⟩
 · exact .inl h
 · exact .inr ⟨b, off, e, hq b (by rw [e]; rfl)⟩
end
set_option maxHeartbeats 2000000 in
theorem Fx (s : ByteArray) (ts : List Tk) (a : Option Addr) (c p : Nat) (hp : p <= ts.length) (w : World) (hr : gQ w a ts) :
 Calls Tryz.prog 30 #[.string s, .slice a ts.length c, .int .i64 p] w fun e w' => e = .returned (.int .i64 ((kB s.size ts p : Nat) : Int)) /\ w = w' := by
 by_cases hlt : p < ts.length
 · obtain ⟨b, off, ha, -, hc⟩ := hr.resolve_left (by intro e; rw [e] at hlt; simp at hlt)
   obtain ⟨-, -, -, p3⟩ := hc p hlt;subst ha;have e : kB s.size ts p = ts[p].place := by unfold kB; rw [List.getElem?_eq_getElem hlt]
   rw [e];have a1 : ((p : Int) == (ts.length : Int)) = false := by rw [beq_eq_false_iff_ne]; omega
   have a2 : (p : Int) < (ts.length : Int) := by omega
   have a3 : (0 : Int) <= (p : Int) := by omega
   have a4 : ((p : Int)).toNat = p := by omega
   clear hc
   go_enter Tryz.func30, Tryz.ntmps30
   go_wp2_with fail
   go_ret;exact ⟨rfl, rfl⟩
 · have e : kB s.size ts p = s.size := by unfold kB; rw [List.getElem?_eq_none (by omega)]
   rw [e];have a1 : ((p : Int) == (ts.length : Int)) = true := by rw [beq_iff_eq]; omega
   clear hr
   go_enter Tryz.func30, Tryz.ntmps30
   go_wp2_with fail
   go_ret;exact ⟨rfl, rfl⟩
theorem PR.drew {ts : List Tk} {rb : Nat} {a : Option Addr} {c p : Nat} {er : Int} {w : World} (h : PR ts rb a c p er w) : PR ts rb a c p er w.drew := h.drewN 1
theorem Gq {ts : List Tk} {rb : Nat} {a : Option Addr} {c pos : Nat} {er : Int} {W : World} (h : PR ts rb a c pos er W) {B : Nat} (hB : B < rb) (ht : ts = [] \/ ∃ b off, a = some ⟨b, off, none⟩ /\ B < b) :
 (f6 W B bN bJ).drew.cell? ⟨rb, 1, none⟩ = some (.int .i64 (pos : Nat)) /\ (f6 W B bN bJ).drew.cell? ⟨rb, 2, none⟩ = some (.int .i64 er) /\ gQ (f6 W B bN bJ).drew a ts := by
 have KP := eG W B bN bJ
 have P0 : PR ts rb a c pos er (f6 W B bN bJ) := by
  refine ⟨KP.heap h.r (by omega), ?_, h.p, h.n⟩
  rcases h.t with h0 | ⟨b, off, rfl, hlt, hc⟩
  · exact .inl h0
  · rcases ht with h0 | ⟨b', off', e, hb⟩
    · exact .inl h0
    · cases e
      refine .inr ⟨b, off, rfl, hlt, fun j hj => ?_⟩;obtain ⟨c0, c1, c2, c3⟩ := hc j hj;exact ⟨KP.cell c0 (by show ¬ b = B; omega), KP.cell c1 (by show ¬ b = B; omega), KP.cell c2 (by show ¬ b = B; omega), KP.cell c3 (by show ¬ b = B; omega)⟩
 obtain ⟨⟨u0, u1, u2⟩, -⟩ := cS P0.r;exact ⟨wD u1, wD u2, P0.drew.reads⟩
theorem DU {W : World} {B : Nat} (h : W.heap[B]? = some (agP bN bJ)) : (f6 W B bN bJ).drew.heap[B]? = some (agP bN bJ) := EQ (gM (t := 28) h bN bJ)
theorem IU {ts : List Tk} {rb : Nat} {a : Option Addr} {c pos : Nat} {er : Int} {w W : World} {s : ByteArray} (_h : PR ts rb a c pos er W) (hb : Below w.heap.size w W) :
 uA (agQ s.size ts (.bad pos er)) w (.returned (.tuple #[agV bN bJ, .int .i64 ((kB s.size ts pos : Nat) : Int), .int .i64 er])) (f6 W w.heap.size bN bJ).drew :=
 ⟨Cg (hb.trans ((eG W w.heap.size bN bJ).below (B := w.heap.size) (fun k hk => by omega) hb.size)), rfl⟩
set_option maxHeartbeats 8000000 in
set_option maxRecDepth 100000 in
theorem Kk (s0 : ByteArray) (hm : s0.size <= 281474976710656) (w : World) (hw : iJ w) {p : Nat} {er : Int} (hL : jL s0.data.toList = .bad p er) : Calls Tryz.prog 9 #[.string s0] w (uA (.bad p er) w) := by
 obtain ⟨-, qe⟩ := An hL;have B1 := (Below.refl w.heap.size w).alloc (Nat.le_refl _) (agP bN bJ);have NB := heap_alloc_new w (agP bN bJ);have hs0 : (w.alloc (agP bN bJ)).heap.size = w.heap.size + 1 := World.size_alloc _ _;have HL := aA (hw.step B1);generalize hW : w.alloc (agP bN bJ) = W at *;have HW := aA hW;have C := aA (qZ s0 hm W HL.out);rw [hL] at C;clear hW hw
 go_enter Tryz.func9, Tryz.ntmps9
 go_upto_region 1 with fail
 rw [show w.alloc (.cells #[.string ⟨#[]⟩, .int .i64 0, .string ⟨#[]⟩, .string ⟨#[]⟩, .int .i64 0, .slice none 0 0, .string ⟨#[]⟩, .string ⟨#[]⟩, .int .i64 0, .slice none 0 0, .slice none 0 0] 28) = W from HW.out]
 go_wp2_with fail
 refine C.out.mono ?_;rintro e w1 ⟨hb, rfl⟩;have N1 := (hb.block w.heap.size (by omega)).trans NB;have hz := hb.size;have B2 := aA (B1.trans (hb.mono (by omega)));obtain ⟨z0, z1, z2, z3, z4, z5, z6, z7, z8, z9, z10⟩ := dV N1;obtain ⟨b0, b1, b2, b3, b4, b5, b6, b7, b8, b9, b10⟩ := aD N1;have N2 := aA N1;clear hb N1 C HW
 go_wp2_with fail
 have KP := eG w1 w.heap.size bN bJ;obtain ⟨y0, y1, y2, y3, y4, y5, y6, y7, y8, y9, y10⟩ := aD (gM (t := 28) N2.out bN bJ);dsimp only [f6, bN, bJ, aV, F.len, List.length_nil] at y0 y1 y2 y3 y4 y5 y6 y7 y8 y9 y10;exact bodyPost_ret (v := .tuple #[agV bN bJ, .int .i64 (p : Nat), .int .i64 er]) (by simp [results, Tryz.results9, go_sem, y0, y1, y2, y3, y4, y5, y6, y7, y8, y9, y10, bN, bJ, aV, F.len]) rfl ⟨B2.out.trans (KP.below (B := w.heap.size) (fun k hk => by omega) (by omega)), rfl⟩
set_option maxHeartbeats 16000000 in
set_option maxRecDepth 100000 in
theorem Kj (s0 : ByteArray) (hm : s0.size <= 281474976710656) (w : World) (hw : iJ w) {ts : List Tk} (hL : jL s0.data.toList = .ok ts) : Calls Tryz.prog 9 #[.string s0] w (uA (agQ s0.size ts (agL ts)) w) := by
 rw [KQ];have hlen := GM hL;have B1 := (Below.refl w.heap.size w).alloc (Nat.le_refl _) (agP bN bJ);have NB := heap_alloc_new w (agP bN bJ);have hs0 : (w.alloc (agP bN bJ)).heap.size = w.heap.size + 1 := World.size_alloc _ _;have HL := aA (hw.step B1);generalize hW : w.alloc (agP bN bJ) = W at *;have HW := aA hW;have C := aA (qZ s0 hm W HL.out);rw [hL] at C;have HB1 := aA B1;have HNB := aA NB;have HGT := aA (Eh hL);have HOT := aA (Jd hL);obtain ⟨R, hR⟩ : ∃ R, agS ts = R := ⟨_, rfl⟩;rw [hR];have HRR := aA hR;clear hW hw hR B1 NB HL hL
 go_enter Tryz.func9, Tryz.ntmps9
 go_upto_region 1 with fail
 rw [show w.alloc (.cells #[.string ⟨#[]⟩, .int .i64 0, .string ⟨#[]⟩, .string ⟨#[]⟩, .int .i64 0, .slice none 0 0, .string ⟨#[]⟩, .string ⟨#[]⟩, .int .i64 0, .slice none 0 0, .slice none 0 0] 28) = W from HW.out]
 go_wp2_with fail
 refine C.out.mono ?_;rintro e w1 ⟨hb, a, c, rfl, ho⟩;have hz := hb.size;have N1 := (hb.block w.heap.size (by omega)).trans HNB.out;have B2 := HB1.out.trans (hb.mono (by omega));have R1 := Ba ho;have TK := aA (KZ (n := w.heap.size) (m := ts.length) (c := c) R1 (fun q hq => by have := (ho.lt q hq).1; omega));have BA := (Below.refl w1.heap.size w1).alloc (Nat.le_refl _) (.cells #[.slice a ts.length c, .int .i64 0, .int .i64 0] 75);have NA := heap_alloc_new w1 (.cells #[.slice a ts.length c, .int .i64 0, .int .i64 0] 75);have hs1 : (w1.alloc (.cells #[.slice a ts.length c, .int .i64 0, .int .i64 0] 75)).heap.size = w1.heap.size + 1 := World.size_alloc _ _
 have P1 := aA (show PR ts w1.heap.size a c 0 0 (w1.alloc (.cells #[.slice a ts.length c, .int .i64 0, .int .i64 0] 75)) from
  ⟨NA, (Cq R1).kept (aF BA (fun _ => False)) (fun _ h => h.elim), Nat.zero_le _, by omega⟩)
 have N2 := aA ((BA.block w.heap.size (by omega)).trans N1);have B3 := aA (B2.trans (BA.mono (by omega)));clear hb N1 B2 R1 BA NA ho C HW HB1 HNB
 go_upto_region 5 with fail
 generalize w1.alloc (.cells #[.slice a ts.length c, .int .i64 0, .int .i64 0] 75) = W1 at *;generalize w1.heap.size = rb at *;have CA := aA (H7 ts HGT.out HOT.out rb a c W1 P1.out);rw [HRR.out] at CA
 go_wp2_with fail
 refine CA.out.mono ?_;rintro e w2 ⟨x, q, pos, er, rfl, P2, K2, hres⟩;have BA := (Below.refl w2.heap.size w2).alloc (Nat.le_refl _) (agP x q);have NA := heap_alloc_new w2 (agP x q);have hs2 : (w2.alloc (agP x q)).heap.size = w2.heap.size + 1 := World.size_alloc _ _;have hz2 := K2.size;have P3 := aA (P2.below BA);have N3 := aA ((BA.block w.heap.size (by omega)).trans (K2.heap N2.out (by omega)));have B4 := aA ((B3.out.trans (K2.below (B := w.heap.size) (fun k hk => by omega) (by omega))).trans (BA.mono (by omega)));have HRE := aA hres;have HBA := aA BA;clear P2 K2 BA CA P1 N2 B3 hres
 go_upto_region 6 with fail
 generalize w2.alloc (agP x q) = W2 at *;generalize hab : w2.heap.size = ab at *;have P4 := aA P3.out;obtain ⟨⟨c0, c1, c2⟩, -⟩ := cS P3.out.r;have HNA := aA NA;clear P3 NA;have hh := HRE.out;cases R with
 | bad pq eq =>
   simp only at hh;obtain ⟨hne, rfl, rfl⟩ := hh;have q1 : ((er : Int) != 0) = true := by simpa using hne
   have RT : gQ W2.drew a ts := P4.out.drew.reads;have HPP := aA P4.out.p;have cch := Gq P4.out (B := w.heap.size) (by omega) TK.out;dsimp only [f6, bN, bJ, aV, F.len, List.length_nil] at cch;have CCH := aA cch;clear cch;have YY := aA (DU (W := W2) N3.out);have pf := IU (s := s0) (er := er) P4.out B4.out;dsimp only [f6, bN, bJ, aV, F.len, List.length_nil] at pf;have PF := aA pf;clear pf;clear hne
   go_upto_region 7 with fail
   obtain ⟨z0, z1, z2, z3, z4, z5, z6, z7, z8, z9, z10⟩ := dV N3.out;obtain ⟨b0, b1, b2, b3, b4, b5, b6, b7, b8, b9, b10⟩ := aD N3.out;dsimp only [bN, bJ, aV, F.len, List.length_nil] at b0 b1 b2 b3 b4 b5 b6 b7 b8 b9 b10;refine wp_region_held_drew (S := fun V => V.cell? ⟨rb, 1, none⟩ = some (.int .i64 (pos : Nat)) /\ V.cell? ⟨rb, 2, none⟩ = some (.int .i64 er) /\ gQ V a ts) (by kernel_rfl) ⟨c1, c2, RT⟩ (fun hHeld => ?_);refine aB (i := 0) (d := some 27) (v := .agg #[.string ⟨#[]⟩, .int .i64 0, .string ⟨#[]⟩, .string ⟨#[]⟩, .int .i64 0, .slice none 0 0, .string ⟨#[]⟩, .string ⟨#[]⟩, .int .i64 0, .slice none 0 0, .slice none 0 0]) rfl rfl (by kernel_rfl) (by kernel_rfl) (by kernel_rfl) (fun _ _ _ h => h) (Or.inl ⟨by rfl, by intro w hSw; obtain ⟨c1, c2, rt⟩ := hSw; go_simp⟩) hHeld ?_;simp only [Act.put, LE, LF, LG];refine aB (i := 1) (d := some 28) (v := .string s0) rfl rfl (by kernel_rfl) (by kernel_rfl) (by kernel_rfl) (fun _ _ _ h => h) (Or.inl ⟨by rfl, by intro w hSw; obtain ⟨c1, c2, rt⟩ := hSw; go_simp⟩) hHeld ?_;simp only [Act.put, LE, LF, LG];refine aB (i := 2) (d := some 29) (v := .slice a ts.length c) rfl rfl (by kernel_rfl) (by kernel_rfl) (by kernel_rfl) (fun _ _ _ h => h) (Or.inl ⟨by rfl, by intro w hSw; obtain ⟨c1, c2, rt⟩ := hSw; go_simp⟩) hHeld ?_;simp only [Act.put, LE, LF, LG];refine aB (i := 3) (d := some 30) (v := .pointer (some ⟨rb, 1, none⟩)) rfl rfl (by kernel_rfl) (by kernel_rfl) (by kernel_rfl) (fun _ _ _ h => h) (Or.inl ⟨by rfl, by intro w hSw; obtain ⟨c1, c2, rt⟩ := hSw; go_simp⟩) hHeld ?_
   simp only [Act.put, LE, LF, LG];refine aB (i := 4) (d := some 31) (v := .int .i64 (pos : Nat)) rfl rfl (by kernel_rfl) (by kernel_rfl) (by kernel_rfl) (fun _ _ _ h => h) (Or.inl ⟨by rfl, by intro w hSw; obtain ⟨c1, c2, rt⟩ := hSw; go_simp⟩) hHeld ?_;simp only [Act.put, LE, LF, LG];refine aB (i := 6) (d := some 33) (v := .pointer (some ⟨rb, 2, none⟩)) rfl rfl (by kernel_rfl) (by kernel_rfl) (by kernel_rfl) (fun _ _ _ h => h) (Or.inl ⟨by rfl, by intro w hSw; obtain ⟨c1, c2, rt⟩ := hSw; go_simp⟩) hHeld ?_;simp only [Act.put, LE, LF, LG];refine aB (i := 7) (d := some 34) (v := .int .i64 er) rfl rfl (by kernel_rfl) (by kernel_rfl) (by kernel_rfl) (fun _ _ _ h => h) (Or.inl ⟨by rfl, by intro w hSw; obtain ⟨c1, c2, rt⟩ := hSw; go_simp⟩) hHeld ?_;simp only [Act.put, LE, LF, LG];refine wpAnyH_ready (rs := [5]) (by kernel_rfl) (by simp) ?_;refine AllReadyH.cons (o := _) rfl (fun K hK => ?_) AllReadyH.nil
   go_simp
   refine (Fx s0 ts a c pos HPP.out W2.drew RT).mono ?_;rintro e w5 ⟨rfl, rfl⟩;refine hK.out _ _ hHeld (fun hHeld2 => ?_)
   try simp only [Act.put, LE, LF, LG]
   clear hK K;have CC := CCH.out;refine wpAnyH_ready (rs := [8]) (by kernel_rfl) (by simp) ?_;refine AllReadyH.cons (o := _) rfl (fun K hK => ?_) AllReadyH.nil
   go_simp
   refine hK.out _ _ CC (fun hHeld3 => ?_)
   try simp only [Act.put, LE, LF, LG]
   clear hK K;refine aB (i := 9) (d := some 3) (v := .int .i64 ((kB s0.size ts pos : Nat) : Int)) rfl rfl (by kernel_rfl) (by kernel_rfl) (by kernel_rfl) (fun _ _ _ h => h) (Or.inl ⟨by rfl, by intro w hSw; obtain ⟨c1, c2, rt⟩ := hSw; go_simp⟩) hHeld3 ?_;simp only [Act.put, LE, LF, LG];refine aB (i := 10) (d := some 4) (v := .int .i64 er) rfl rfl (by kernel_rfl) (by kernel_rfl) (by kernel_rfl) (fun _ _ _ h => h) (Or.inl ⟨by rfl, by intro w hSw; obtain ⟨c1, c2, rt⟩ := hSw; go_simp⟩) hHeld3 ?_;simp only [Act.put, LE, LF, LG];refine wpAnyH_done (by kernel_rfl) ?_ _;obtain ⟨y0, y1, y2, y3, y4, y5, y6, y7, y8, y9, y10⟩ := aD YY.out;dsimp only [f6, bN, bJ, aV, F.len, List.length_nil] at y0 y1 y2 y3 y4 y5 y6 y7 y8 y9 y10;clear hHeld hHeld2 hHeld3 CC c0 c1 c2 RT z0 z1 z2 z3 z4 z5 z6 z7 z8 z9 z10 b0 b1 b2 b3 b4 b5 b6 b7 b8 b9 b10
   go_wp2
   exact bodyPost_ret (v := .tuple #[agV bN bJ, .int .i64 ((kB s0.size ts pos : Nat) : Int), .int .i64 er]) (by simp [results, Tryz.results9, go_sem, y0, y1, y2, y3, y4, y5, y6, y7, y8, y9, y10, bN, bJ, aV, F.len]) rfl PF.out
 | ok y =>
   simp only at hh;obtain ⟨rfl, rfl, rd⟩ := hh;obtain ⟨m0, m1, m2, m3, m4, m5, m6, m7, m8, m9, m10⟩ := aD HNA.out;obtain ⟨z0, z1, z2, z3, z4, z5, z6, z7, z8, z9, z10⟩ := dV N3.out;obtain ⟨b0, b1, b2, b3, b4, b5, b6, b7, b8, b9, b10⟩ := aD N3.out;have RD := aA (rd.kept (by rw [hab]; exact HBA.out));have hlt : w.heap.size < ab := by have := hz2; omega
   clear rd
   go_wp2_with fail
   have KP := eG W2 w.heap.size x q;obtain ⟨y0, y1, y2, y3, y4, y5, y6, y7, y8, y9, y10⟩ := aD (gM (t := 28) N3.out x q)
   have PF := aA (show uA (agQ s0.size ts (.ok x)) w (.returned (.tuple #[agV x q, .int .i64 0, .int .i64 0])) (f6 W2 w.heap.size x q) from
    ⟨B4.out.trans (KP.below (B := w.heap.size) (fun k hk => by omega) B4.out.size), q, rfl, (RD.out.keptS KP (fun k hk => by omega)).imp (fun b _ hb => by omega)⟩)
   exact bodyPost_ret (v := .tuple #[agV x q, .int .i64 0, .int .i64 0]) (by simp [results, Tryz.results9, go_sem, y0, y1, y2, y3, y4, y5, y6, y7, y8, y9, y10]) rfl PF.out
theorem kC (s0 : ByteArray) (hm : s0.size <= 281474976710656) (w : World) (hw : iJ w) : Calls Tryz.prog 9 #[.string s0] w (uA (agX s0.data.toList) w) := by
 have hl : s0.data.toList.length = s0.size := by simp
 cases hL : jL s0.data.toList with
 | bad p er =>
   have e : agX s0.data.toList = .bad p er := by unfold agX; rw [hL]
   rw [e];exact Kk s0 hm w hw hL
 | ok ts =>
   have e : agX s0.data.toList = agQ s0.size ts (agL ts) := by
    unfold agX agQ;rw [hL, hl];simp only;cases agL ts <;> rfl
   rw [e];exact Kj s0 hm w hw hL
def Ky : List Tk := [⟨1, [115, 117, 109], 0, 0⟩, ⟨3, [40], 0, 3⟩, ⟨1, [120], 0, 4⟩, ⟨3, [41], 0, 5⟩, ⟨1, [119, 104, 101, 114, 101], 0, 7⟩, ⟨1, [121], 0, 13⟩, ⟨3, [62], 0, 15⟩, ⟨2, [49], 1, 17⟩, ⟨1, [97, 110, 100], 0, 19⟩, ⟨1, [120], 0, 23⟩, ⟨3, [33, 61], 0, 25⟩, ⟨2, [51], 3, 28⟩]
def Kx : List Tk := [⟨1, [97, 118, 103], 0, 0⟩, ⟨3, [40], 0, 3⟩, ⟨1, [120], 0, 4⟩, ⟨3, [41], 0, 5⟩]
def Kz : List Tk := [⟨1, [116, 111, 112], 0, 0⟩, ⟨3, [40], 0, 3⟩, ⟨2, [50], 2, 4⟩, ⟨3, [44], 0, 5⟩, ⟨1, [120], 0, 7⟩, ⟨3, [41], 0, 8⟩]
def fM : AG := ⟨⟨#[115, 117, 109]⟩, 0, eJ [120], aV, [⟨⟨#[62]⟩, eJ [121], sU 1⟩, ⟨⟨#[33, 61]⟩, eJ [120], sU 3⟩]⟩
def lT : AG := ⟨⟨#[116, 111, 112]⟩, 2, eJ [120], aV, []⟩
theorem cJ {l : List UInt8} {p : Nat} {k v : Int} {n : Nat} {ts : List Tk} (h1 : ¬ l.head? = some 32) (hn : 1 <= n) (h : dJ l = .tok k n v) (hr : dX (l.drop n) (p + n) = .ok ts) : dX l p = .ok (⟨k, l.take n, v, p⟩ :: ts) := by
 rw [nI h1 hn h, hr]; rfl
theorem Jq : dX [115, 117, 109, 40, 120, 41, 32, 119, 104, 101, 114, 101, 32, 121, 32, 62, 32, 49, 32, 97, 110, 100, 32, 120, 32, 33, 61, 32, 51] 0 = .ok Ky := by
 refine cJ (n := 3) (k := 1) (v := 0) (by decide) (by decide) (by rfl) ?_;refine cJ (n := 1) (k := 3) (v := 0) (by decide) (by decide) (by rfl) ?_;refine cJ (n := 1) (k := 1) (v := 0) (by decide) (by decide) (by rfl) ?_;refine cJ (n := 1) (k := 3) (v := 0) (by decide) (by decide) (by rfl) ?_;refine (dC _ _).trans ?_;refine cJ (n := 5) (k := 1) (v := 0) (by decide) (by decide) (by rfl) ?_;refine (dC _ _).trans ?_;refine cJ (n := 1) (k := 1) (v := 0) (by decide) (by decide) (by rfl) ?_;refine (dC _ _).trans ?_;refine cJ (n := 1) (k := 3) (v := 0) (by decide) (by decide) (by rfl) ?_;refine (dC _ _).trans ?_;refine cJ (n := 1) (k := 2) (v := 1) (by decide) (by decide) (by rfl) ?_;refine (dC _ _).trans ?_;refine cJ (n := 3) (k := 1) (v := 0) (by decide) (by decide) (by rfl) ?_;refine (dC _ _).trans ?_;refine cJ (n := 1) (k := 1) (v := 0) (by decide) (by decide) (by rfl) ?_;refine (dC _ _).trans ?_;refine cJ (n := 2) (k := 3) (v := 0) (by decide) (by decide) (by rfl) ?_;refine (dC _ _).trans ?_;refine cJ (n := 1) (k := 2) (v := 3) (by decide) (by decide) (by rfl) ?_;exact iX _
theorem Jp : dX [97, 118, 103, 40, 120, 41] 0 = .ok Kx := by
 refine cJ (n := 3) (k := 1) (v := 0) (by decide) (by decide) (by rfl) ?_;refine cJ (n := 1) (k := 3) (v := 0) (by decide) (by decide) (by rfl) ?_;refine cJ (n := 1) (k := 1) (v := 0) (by decide) (by decide) (by rfl) ?_;refine cJ (n := 1) (k := 3) (v := 0) (by decide) (by decide) (by rfl) ?_;exact iX _
theorem Jo : dX [116, 111, 112, 40, 50, 44, 32, 120, 41] 0 = .ok Kz := by
 refine cJ (n := 3) (k := 1) (v := 0) (by decide) (by decide) (by rfl) ?_;refine cJ (n := 1) (k := 3) (v := 0) (by decide) (by decide) (by rfl) ?_;refine cJ (n := 1) (k := 2) (v := 2) (by decide) (by decide) (by rfl) ?_;refine cJ (n := 1) (k := 3) (v := 0) (by decide) (by decide) (by rfl) ?_;refine (dC _ _).trans ?_;refine cJ (n := 1) (k := 1) (v := 0) (by decide) (by decide) (by rfl) ?_;refine cJ (n := 1) (k := 3) (v := 0) (by decide) (by decide) (by rfl) ?_;exact iX _
theorem Kw : agX (⟨#[115, 117, 109, 40, 120, 41, 32, 119, 104, 101, 114, 101, 32, 121, 32, 62, 32, 49, 32, 97, 110, 100, 32, 120, 32, 33, 61, 32, 51]⟩ : ByteArray).data.toList = .ok fM := by
 have h : jL (⟨#[115, 117, 109, 40, 120, 41, 32, 119, 104, 101, 114, 101, 32, 121, 32, 62, 32, 49, 32, 97, 110, 100, 32, 120, 32, 33, 61, 32, 51]⟩ : ByteArray).data.toList = .ok Ky := by
  unfold jL;rw [if_neg (by decide)];exact Jq
 unfold agX;rw [h];simp only;rw [show agL Ky = .ok fM by rfl]
 all_goals rfl
theorem Kv : agX (⟨#[97, 118, 103, 40, 120, 41]⟩ : ByteArray).data.toList = .bad 0 5 := by
 have h : jL (⟨#[97, 118, 103, 40, 120, 41]⟩ : ByteArray).data.toList = .ok Kx := by
  unfold jL;rw [if_neg (by decide)];exact Jp
 unfold agX;rw [h];simp only;rw [show agL Kx = .bad 0 5 by rfl]
 all_goals rfl
theorem Ku : agX (⟨#[116, 111, 112, 40, 50, 44, 32, 120, 41]⟩ : ByteArray).data.toList = .ok lT := by
 have h : jL (⟨#[116, 111, 112, 40, 50, 44, 32, 120, 41]⟩ : ByteArray).data.toList = .ok Kz := by
  unfold jL;rw [if_neg (by decide)];exact Jo
 unfold agX;rw [h];simp only;rw [show agL Kz = .ok lT by rfl]
 all_goals rfl
theorem kX : fO fM = 0 := by rfl
theorem Ar : fO lT = 0 := by rfl
theorem kW : fD fM := ⟨by simp [fM, eJ, TN.f, d9], by simp [fM, aV, TN.f, d9], fun d hd => by
 simp only [fM, List.mem_cons, List.not_mem_nil, or_false] at hd
 rcases hd with rfl | rfl <;> simp [eJ, sU, TN.f, d9]⟩
theorem vM : fD lT := ⟨by simp [lT, eJ, TN.f, d9], by simp [lT, aV, TN.f, d9], fun d hd => by simp [lT] at hd⟩
theorem C7 : SzG fM := ⟨by simp [fM, eJ, TN.f, SzF, F.len, ByteArray.size], by simp [fM, aV, TN.f, SzF, F.len, ByteArray.size], fun d hd => by
 simp only [fM, List.mem_cons, List.not_mem_nil, or_false] at hd
 rcases hd with rfl | rfl <;> simp [eJ, sU, TN.f, SzF, F.len, ByteArray.size]⟩
theorem Js : SzG lT := ⟨by simp [lT, eJ, TN.f, SzF, F.len, ByteArray.size], by simp [lT, aV, TN.f, SzF, F.len, ByteArray.size], fun d hd => by simp [lT] at hd⟩
theorem GY : yZ fM = [115, 117, 109, 40, 120, 41, 32, 119, 104, 101, 114, 101, 32, 121, 32, 62, 32, 49, 32, 97, 110, 100, 32, 120, 32, 33, 61, 32, 51] := by
 have h1 : Lib.itoa 1 = [49] := by simp [Lib.itoa, Lib.decDigits]
 have h3 : Lib.itoa 3 = [51] := by simp [Lib.itoa, Lib.decDigits]
 have : yZ fM = [115, 117, 109, 40, 120, 41, 32, 119, 104, 101, 114, 101, 32, 121, 32, 62, 32] ++ (Lib.itoa 1 ++ ([32, 97, 110, 100, 32, 120, 32, 33, 61, 32] ++ (Lib.itoa 3 ++ []))) := by rfl
 rw [this, h1, h3];rfl
theorem GZ : sD fM fM = true := by
 simp only [sD, fM, iQ, Lib.toList_data];rfl
theorem EA : sD fM lT = false := by
 simp only [sD, fM, lT, iQ, Lib.toList_data];rfl
def A11 (x y : Int) (j : Nat) : Wr.AD := if j = 0 then ⟨⟨#[120]⟩, 1, x, ⟨#[]⟩, 0, fun _ => 0⟩ else ⟨⟨#[121]⟩, 1, y, ⟨#[]⟩, 0, fun _ => 0⟩
def g11 (x y : Int) (m : ByteArray) : Option Int := if m = ⟨#[120]⟩ then some x else if m = ⟨#[121]⟩ then some y else none
theorem In (x y : Int) (hx : aN x) (hy : aN y) : dU (A11 x y) 2 (g11 x y) where
 ok := {
  yes := fun j hj => by
   have : j = 0 \/ j = 1 := by omega
   rcases this with rfl | rfl <;> rfl
  no := fun z h => by
   unfold g11;rw [if_neg fun e => h 0 (by decide) (by rw [e]; rfl), if_neg fun e => h 1 (by decide) (by rw [e]; rfl)]
  fit := fun z v h => by
   unfold g11 at h
   split at h
   · cases h; exact hx
   · split at h
     · cases h; exact hy
     · cases h }
 ri := fun i j hij hj => by
  obtain rfl : i = 0 := by omega
  obtain rfl : j = 1 := by omega
  show Op.bytesLess (⟨#[120]⟩ : ByteArray).toList (⟨#[121]⟩ : ByteArray).toList = true;rw [Lib.toList_data, Lib.toList_data]
  decide
 few := by decide
 sm := fun j hj => by
  have : j = 0 \/ j = 1 := by omega
  rcases this with rfl | rfl <;> exact Nat.zero_le _
abbrev o11 (x y : Int) : Obj := .cells #[.string ⟨#[120]⟩, .int .i64 1, .int .i64 x, .string ⟨#[]⟩, .slice none 0 0, .string ⟨#[121]⟩, .int .i64 1, .int .i64 y, .string ⟨#[]⟩, .slice none 0 0] 67
theorem rK {w : World} {b : Nat} {x y : Int} (h : w.heap[b]? = some (o11 x y)) : Wr.ReadsA w (some ⟨b, 0, none⟩) 2 (A11 x y) := by
 refine ⟨by unfold maxLen; omega, .inr ⟨b, 0, rfl, fun j hj => ?_⟩⟩;have : j = 0 \/ j = 1 := by omega
 rcases this with rfl | rfl
 · exact ⟨none, 0, ⟨by simp [World.cell?, h, A11], by simp [World.cell?, h, A11], by simp [World.cell?, h, A11], by simp [World.cell?, h, A11], by simp [World.cell?, h, A11]⟩, Nat.zero_le _, .inl rfl⟩
 · exact ⟨none, 0, ⟨by simp [World.cell?, h, A11], by simp [World.cell?, h, A11], by simp [World.cell?, h, A11], by simp [World.cell?, h, A11], by simp [World.cell?, h, A11]⟩, Nat.zero_le _, .inl rfl⟩
def r11 (x y : Int) : RW := ⟨2, A11 x y, g11 x y⟩
def sK : List RW := [r11 5 2, r11 3 2, r11 7 1, r11 2 9]
theorem sJ : ∀ r ∈ sK, dU r.A r.n r.g := by
 intro r hr;simp only [sK, List.mem_cons, List.not_mem_nil, or_false] at hr
 rcases hr with rfl | rfl | rfl | rfl <;> exact In _ _ (by unfold aN; omega) (by unfold aN; omega)
theorem Ke : evG fM (sK.map RW.g) = .num 7 := by rfl
theorem Kd : evG lT (sK.map RW.g) = .list [5, 7] := by rfl
end
end Go.Proofs.YtapcjnoaofmmiaaGreatDoor
