/-
 No statement: what AggNoneCard needs, of the texts ORead, OName, ONode, Take, OCond.
-/
import Derived.Test.YtapcjnoaofmmiaaGreatDoorVN23
import Derived.OrdersHeld
import Derived.NoCompiler
namespace Go.Proofs.YtapcjnoaofmmiaaGreatDoor
section
open Go.RowKit
theorem Ia (L : List Tk) (p : Nat) : dP L p = aX L p := by unfold dP aX; cases L[p]? <;> rfl
theorem uQ {L : List Tk} {p : Nat} (h : ¬ (aX L p).kind = 0) : p < L.length := by
 rcases Nat.lt_or_ge p L.length with hp | hp
 · exact hp
 · exact absurd (by unfold aX; rw [List.getElem?_eq_none hp]; rfl) h
structure PR (ts : List Tk) (rb : Nat) (a : Option Addr) (c p : Nat) (er : Int) (w : World) : Prop where
 r : w.heap[rb]? = some (.cells #[.slice a ts.length c, .int .i64 p, .int .i64 er] 75 (0, 0))
 t : wJ rb w a ts
 p : p <= ts.length
 n : ts.length <= 100000
abbrev PS (ts : List Tk) (rb : Nat) (a : Option Addr) (c : Nat) (s : RS) (w : World) : Prop := PR ts rb a c (atR s) s.bad w
section
variable {ts : List Tk} {rb : Nat} {a : Option Addr} {c p : Nat} {er : Int} {w w' : World}
theorem PR.kept (h : PR ts rb a c p er w) {S : Nat -> Prop} (hk : aG S w w') (hS : ∀ k, S k -> rb < k) : PR ts rb a c p er w' :=
 ⟨hk.heap h.r (fun hs => by have := hS rb hs; omega), h.t.kept hk (fun k hs => by have := hS k hs; omega), h.p, h.n⟩
theorem PR.below (h : PR ts rb a c p er w) (hb : Below w.heap.size w w') : PR ts rb a c p er w' :=
 h.kept (aF hb (fun _ => False)) (fun _ h => h.elim)
theorem PR.lt (h : PR ts rb a c p er w) : rb < w.heap.size := aC h.r
theorem PR.setE (h : PR ts rb a c p er w) (e : Int) : PR ts rb a c p e (w.setCell ⟨rb, 2, none⟩ (.int .i64 e)) := by
 refine ⟨?_, h.t.kept ((aG.refl (· = rb) w).setCell (p := ⟨rb, 2, none⟩) (.inl rfl) _) (fun k hk => by omega), h.p, h.n⟩;have := heap_setCell_same w rb 2 _ 75 (.int .i64 e) h.r;simpa using this
theorem PR.setP (h : PR ts rb a c p er w) (q : Nat) (hq : q <= ts.length) : PR ts rb a c q er (w.setCell ⟨rb, 1, none⟩ (.int .i64 (q : Nat))) := by
 refine ⟨?_, h.t.kept ((aG.refl (· = rb) w).setCell (p := ⟨rb, 1, none⟩) (.inl rfl) _) (fun k hk => by omega), hq, h.n⟩;have := heap_setCell_same w rb 1 _ 75 (.int .i64 (q : Nat)) h.r;simpa using this
theorem PR.reads (h : PR ts rb a c p er w) : fW w a ts :=
 h.t.imp id fun ⟨b, off, e, hlt, hc⟩ => ⟨b, off, e, Nat.lt_trans hlt h.lt, hc⟩
theorem PR.drewN (h : PR ts rb a c p er w) (n : Nat) : PR ts rb a c p er (w.drewN n) := h.kept ((aG.refl (fun _ => False) w).drewN n) (fun _ h => h.elim)
end
set_option maxHeartbeats 4000000 in
theorem jN (ts : List Tk) (rb : Nat) (a : Option Addr) (c p : Nat) (er : Int) (w : World) (h : PR ts rb a c p er w) :
 Calls Tryz.prog 132 #[.pointer (some ⟨rb, 0, none⟩)] w fun e w' => e = .returned (tkG (aX ts p)) /\ Below w.heap.size w w' := by
 rw [<- Ia];have hpos := h.p;have hn := h.n;have BA := (Below.refl w.heap.size w).alloc (Nat.le_refl _) (tkO 0 ⟨#[]⟩ 0 0);have NB := heap_alloc_new w (tkO 0 ⟨#[]⟩ 0 0);have hP := h.below BA;have hsz : (w.alloc (tkO 0 ⟨#[]⟩ 0 0)).heap.size = w.heap.size + 1 := World.size_alloc _ _;obtain ⟨⟨c0, c1, c2⟩, -⟩ := cF hP.r;obtain ⟨⟨x0, x1, x2, x3⟩, f0, f1, f2, f3⟩ := aK NB
 by_cases hlt : p < ts.length
 · obtain ⟨b, off, ha, -, p0, p1, p2, p3⟩ := tJ hP.t hlt
   subst ha;obtain ⟨X, hX⟩ : ∃ X, tkG (dP ts p) = X := ⟨_, rfl⟩;have hX' := hX;rw [qL hlt] at hX';unfold tkG at hX';rw [hX];generalize ts[p] = t at p0 p1 p2 p3 hX';obtain ⟨k, s, nn, pp⟩ := t;simp only at p0 p1 p2 p3 hX';have a1 : ((p : Int) == (ts.length : Int)) = false := by rw [beq_eq_false_iff_ne]; omega
   have a2 : (p : Int) < (ts.length : Int) := by omega
   have a4 : (0 : Int) <= (p : Int) := by omega
   have a3 : ((p : Int)).toNat = p := by omega
   subst hX';clear hX h hP;have HN := aA NB;have HB := aA BA;clear NB BA
   go_enter Tryz.func132, Tryz.ntmps132
   go_upto_region 1 with fail
   generalize w.alloc (tkO 0 ⟨#[]⟩ 0 0) = W at *
   go_upto_region 3 with (go_quiet (fail))
   go_region
   go_wp2_with fail
   obtain ⟨⟨d0, d1, d2, d3⟩, -⟩ := aK (aQ (W := W.drewN (nq + 1)) HN.out (.int .i64 k) (.string ⟨s.toArray⟩) (.int .i64 nn) (.int .i64 pp));exact bodyPost_ret (v := .agg #[.int .i64 k, .string ⟨s.toArray⟩, .int .i64 nn, .int .i64 pp]) (by simp [results, Tryz.results132, go_sem, d0, d1, d2, d3]) rfl ⟨rfl, iQ HB.out (Nat.le_refl _) (by omega) (nq + 1) _ _ _ _⟩
 · obtain rfl : p = ts.length := by omega
   rw [qM (Nat.le_refl _)];clear h hP;have HN := aA NB;have HB := aA BA;clear NB BA
   go_enter Tryz.func132, Tryz.ntmps132
   go_upto_region 1 with fail
   generalize w.alloc (tkO 0 ⟨#[]⟩ 0 0) = W at *
   go_upto_region 2 with (go_quiet (fail))
   go_wp2_with fail
   obtain ⟨⟨d0, d1, d2, d3⟩, -⟩ := aK (aQ (W := W.drewN nq) HN.out (.int .i64 0) (.string ⟨#[]⟩) (.int .i64 0) (.int .i64 0));exact bodyPost_ret (v := .agg #[.int .i64 0, .string ⟨#[]⟩, .int .i64 0, .int .i64 0]) (by simp [results, Tryz.results132, go_sem, d0, d1, d2, d3]) rfl ⟨rfl, iQ HB.out (Nat.le_refl _) (by omega) nq _ _ _ _⟩
set_option maxHeartbeats 2000000 in
theorem e8 (ts : List Tk) (rb : Nat) (a : Option Addr) (c : Nat) (s : RS) (so : Bool) (er : Int) (he : ¬ er = 0) (w : World) (h : PS ts rb a c s w) :
 Calls Tryz.prog 133 #[.pointer (some ⟨rb, 0, none⟩), .bool so, .int .i64 er] w fun e w' => e = .returned (.tuple #[]) /\ PS ts rb a c (bJ so er s) w' /\ aG (· = rb) w w' := by
 obtain ⟨⟨c0, c1, c2⟩, f0, f1, f2⟩ := cF h.r;cases so with
 | true =>
   have H := aA (show PS ts rb a c (bJ true er s) w from h);clear h
   go_enter Tryz.func133, Tryz.ntmps133
   go_wp2_with fail
   go_end0
   exact ⟨rfl, H.out, aG.refl _ _⟩
 | false =>
   by_cases hb : s.bad = 0
   · have q : ((s.bad : Int) == 0) = true := by rw [hb]; rfl
     have H := aA (show PS ts rb a c (bJ false er s) (w.setCell ⟨rb, 2, none⟩ (.int .i64 er)) from by
      rw [fJ];show PR ts rb a c (atR (cB er s)) (cB er s).bad _;rw [Hb er he s, show (cB er s).bad = er by unfold cB; rw [if_pos hb]];exact h.setE er)
     clear h hb
     go_enter Tryz.func133, Tryz.ntmps133
     go_wp2_with fail
     go_end0
     exact ⟨rfl, H.out, oD (aG.refl _ _) 2 _⟩
   · have q : ((s.bad : Int) == 0) = false := beq_eq_false_iff_ne.2 hb
     have H := aA (show PS ts rb a c (bJ false er s) w from by rw [fJ, mG hb]; exact h);clear h hb
     go_enter Tryz.func133, Tryz.ntmps133
     go_wp2_with fail
     go_end0
     exact ⟨rfl, H.out, aG.refl _ _⟩
set_option maxHeartbeats 2000000 in
theorem gX (ts : List Tk) (rb : Nat) (a : Option Addr) (c : Nat) (s : RS) (hlt : s.bad = 0 -> s.pos < ts.length) (w : World) (h : PS ts rb a c s w) :
 Calls Tryz.prog 134 #[.pointer (some ⟨rb, 0, none⟩)] w fun e w' => e = .returned (.tuple #[]) /\ PS ts rb a c (goR s) w' /\ aG (· = rb) w w' := by
 obtain ⟨⟨c0, c1, c2⟩, f0, f1, f2⟩ := cF h.r;have hp := h.p;have hn := h.n
 by_cases hb : s.bad = 0
 · have q : ((s.bad : Int) == 0) = true := by rw [hb]; rfl
   have H := aA (show PS ts rb a c (goR s) (w.setCell ⟨rb, 1, none⟩ (.int .i64 ((atR s : Nat) + 1 : Nat))) from by
    rw [yV hb];show PR ts rb a c (atR (cT s)) s.bad _;rw [show atR (cT s) = atR s + 1 by rw [iS hb, iS (show (cT s).bad = 0 from hb)]; rfl];exact h.setP (atR s + 1) (by rw [iS hb]; exact hlt hb))
   rw [Int.natCast_add] at H;clear h hb hlt
   go_enter Tryz.func134, Tryz.ntmps134
   go_wp2_with fail
   go_end0
   exact ⟨rfl, H.out, oD (aG.refl _ _) 1 _⟩
 · have q : ((s.bad : Int) == 0) = false := beq_eq_false_iff_ne.2 hb
   have H := aA (show PS ts rb a c (goR s) w from by rw [eW hb]; exact h);clear h hb hlt
   go_enter Tryz.func134, Tryz.ntmps134
   go_wp2_with fail
   go_end0
   exact ⟨rfl, H.out, aG.refl _ _⟩
theorem i1 {so : Bool} {e : Int} (he : ¬ e = 0) {s : RS} (h : (bJ so e s).bad = 0) : so = true /\ s.bad = 0 := by
 cases so with
 | true => exact ⟨rfl, h⟩
 | false =>
   by_cases hb : s.bad = 0
   · exact absurd h (cL he hb)
   · rw [fJ, mG hb] at h; exact absurd h hb
theorem gB (so : Bool) (e : Int) (s : RS) : (bJ so e s).pos = s.pos := by
 unfold bJ
 split
 · rfl
 · exact oI e s
theorem nO (t : Tk) : tkG t = .agg #[.int .i64 t.kind, .string ⟨t.text.toArray⟩, .int .i64 t.num, .int .i64 t.place] := rfl
set_option maxHeartbeats 8000000 in
theorem lX (ts : List Tk) (rb : Nat) (a : Option Addr) (c : Nat) (s : RS) (x : ByteArray) (w : World) (h : PS ts rb a c s w) :
 Calls Tryz.prog 83 #[.pointer (some ⟨rb, 0, none⟩), .string x] w fun e w' => e = .returned (.tuple #[]) /\ PS ts rb a c (cX ts x.data.toList s) w' /\ aG (· = rb) w w' := by
 have TL : (aX ts (atR s)).kind = 3 -> atR s < ts.length := fun hk => uQ (by rw [hk]; decide)
 have SI := Gl ts x.data.toList s;have NX := jN ts rb a c (atR s) s.bad w h;obtain ⟨t, ht⟩ : ∃ t, aX ts (atR s) = t := ⟨_, rfl⟩;rw [ht] at TL SI NX;rw [nO] at NX;rw [<- SI];clear SI ht;obtain ⟨X, hX⟩ : ∃ X : ByteArray, ⟨t.text.toArray⟩ = X := ⟨_, rfl⟩;have hXl : t.text = X.data.toList := by rw [<- hX]
 rw [hX] at NX;rw [hXl, <- Lib.toList_data, <- Lib.toList_data];obtain ⟨k, s', nn, pp⟩ := t;simp only at TL NX hX |-
 have HT := aA TL;have HN := aA NX;have HP := aA h;obtain ⟨so, hso⟩ : ∃ so, ((k == 3) && (X.toList == x.toList)) = so := ⟨_, rfl⟩;rw [hso];have HSO := aA hso;clear TL NX hX hXl h hso;have hrb := HP.out.lt
 go_enter Tryz.func83, Tryz.ntmps83
 go_wp2_with fail
 refine HN.out.mono ?_;rintro e w1 ⟨rfl, hb⟩;have P1 := HP.out.below hb;have K1 := aF hb (· = rb);have BA := (Below.refl w1.heap.size w1).alloc (Nat.le_refl _) (tkO k X nn pp);have NB := heap_alloc_new w1 (tkO k X nn pp);have P2 := aA (P1.below BA);have K2 := aA (K1.trans (aF BA (· = rb)) (fun i hi _ => hi));have CM := aA (fun so V (hV : PS ts rb a c s V) => e8 ts rb a c s so 2 (by decide) V hV);obtain ⟨⟨x0, x1, x2, x3⟩, -⟩ := aK NB;clear hb P1 K1 BA NB HN;cases hk3 : (k == 3) with
 | true =>
   have z : (k == 3) = true := hk3;have hso : (X.toList == x.toList) = so := by rw [<- HSO.out, hk3, Bool.true_and]
   have hz := HT.out (by simpa using hk3);clear hk3
   go_upto_region 1 with fail
   generalize w1.alloc (tkO k X nn pp) = W at *
   go_wp2_with fail
   refine (CM.out so _ P2.out).mono ?_;rintro e w2 ⟨rfl, P3, k3⟩;clear hso;have K3 := K2.out.trans k3 (fun i hi _ => hi);have CS := gX ts rb a c (bJ so 2 s) (fun hh => by rw [gB]; have := (i1 (by decide) hh).2; rw [iS this] at hz; exact hz) w2 P3;have HC := aA CS;have HK := aA K3;clear P3 k3 K3 CS CM P2 K2 x0 x1 x2 x3
   go_wp2_with fail
   refine HC.out.mono ?_;rintro e w3 ⟨rfl, P4, k4⟩;have P5 := aA P4;have K5 := aA (HK.out.trans k4 (fun i hi _ => hi));clear P4 k4
   go_wp2_with fail
   go_end0
   exact ⟨rfl, P5.out, K5.out⟩
 | false =>
   have z : (k == 3) = false := hk3;have hz : false = so := by rw [<- HSO.out, hk3, Bool.false_and]
   subst hz;clear hk3
   go_upto_region 1 with fail
   generalize w1.alloc (tkO k X nn pp) = W at *
   go_wp2_with fail
   refine (CM.out false _ P2.out).mono ?_;rintro e w2 ⟨rfl, P3, k3⟩;have K3 := K2.out.trans k3 (fun i hi _ => hi);have CS := gX ts rb a c (bJ false 2 s) (fun hh => absurd (i1 (by decide) hh).1 (by decide)) w2 P3;have HC := aA CS;have HK := aA K3;clear P3 k3 K3 CS CM P2 K2 x0 x1 x2 x3
   go_wp2_with fail
   refine HC.out.mono ?_;rintro e w3 ⟨rfl, P4, k4⟩;have P5 := aA P4;have K5 := aA (HK.out.trans k4 (fun i hi _ => hi));clear P4 k4
   go_wp2_with fail
   go_end0
   exact ⟨rfl, P5.out, K5.out⟩
set_option maxHeartbeats 8000000 in
theorem Cp (ts : List Tk) (rb : Nat) (a : Option Addr) (c : Nat) (s : RS) (w : World) (h : PS ts rb a c s w) :
 Calls Tryz.prog 82 #[.pointer (some ⟨rb, 0, none⟩)] w fun e w' => e = .returned (.string ⟨(aX ts (atR s)).text.toArray⟩) /\
  PS ts rb a c (goR (bJ (cZ (aX ts (atR s)).text) 5 (bJ ((aX ts (atR s)).kind == 1) 2 s))) w' /\ aG (· = rb) w w' := by
 have TL : (aX ts (atR s)).kind = 1 -> atR s < ts.length := fun hk => uQ (by rw [hk]; decide)
 have NX := jN ts rb a c (atR s) s.bad w h;obtain ⟨t, ht⟩ : ∃ t, aX ts (atR s) = t := ⟨_, rfl⟩;rw [ht] at TL NX;rw [nO] at NX;rw [ht];clear ht;obtain ⟨X, hX⟩ : ∃ X : ByteArray, ⟨t.text.toArray⟩ = X := ⟨_, rfl⟩;have hXl : t.text = X.data.toList := by rw [<- hX]
 rw [hX] at NX |-
 rw [hXl];obtain ⟨k, s', nn, pp⟩ := t;simp only at TL NX hX |-
 have HT := aA TL;have HN := aA NX;have HP := aA h;obtain ⟨fo, hfo⟩ : ∃ b, cZ X.data.toList = b := ⟨_, rfl⟩;rw [hfo];have HFO := aA hfo;clear TL NX hX hXl h hfo;have hrb := HP.out.lt
 go_enter Tryz.func82, Tryz.ntmps82
 go_wp2_with fail
 refine HN.out.mono ?_;rintro e w1 ⟨rfl, hb⟩;have P1 := HP.out.below hb;have K1 := aF hb (· = rb);have BA := (Below.refl w1.heap.size w1).alloc (Nat.le_refl _) (tkO k X nn pp);have NB := heap_alloc_new w1 (tkO k X nn pp);have P2 := aA (P1.below BA);have K2 := aA (K1.trans (aF BA (· = rb)) (fun i hi _ => hi));have hb1 := hb.size;have hs1 : (w1.alloc (tkO k X nn pp)).heap.size = w1.heap.size + 1 := World.size_alloc _ _;clear hb P1 K1 BA HN;obtain ⟨B, hB⟩ : ∃ B, w1.heap.size = B := ⟨_, rfl⟩;rw [hB] at NB hs1;have hBr : rb < B := by omega
 go_upto_region 2 with fail
 try rw [hB]
 generalize w1.alloc (tkO k X nn pp) = W at *;clear hB hb1;obtain ⟨⟨x0, x1, x2, x3⟩, -⟩ := aK NB;have HNB := aA NB;have CP := aA (gY X W);rw [HFO.out] at CP;clear NB
 go_wp2_with fail
 refine CP.out.mono ?_;rintro e w2 ⟨rfl, hb⟩;have P3 := P2.out.below hb;have K3 := K2.out.trans (aF hb (· = rb)) (fun i hi _ => hi);have N3 := (hb.block B (by omega)).trans HNB.out;have hz3 := hb.size;have BA := (Below.refl w2.heap.size w2).alloc (Nat.le_refl _) (ptO (kP X.data.toList) (eP X.data.toList) (bP X.data.toList));have P4 := aA (P3.below BA);have K4 := aA (K3.trans (aF BA (· = rb)) (fun i hi _ => hi));have N4 := aA ((BA.block B (by omega)).trans N3);clear hb P3 K3 N3 hz3 BA CP P2 K2 HNB x0 x1 x2 x3
 go_upto_region 3 with fail
 generalize w2.alloc (ptO (kP X.data.toList) (eP X.data.toList) (bP X.data.toList)) = W2 at *;obtain ⟨⟨x0, x1, x2, x3⟩, -⟩ := aK N4.out;have CM := aA (e8 ts rb a c s (k == 1) 2 (by decide) W2 P4.out)
 go_wp2_with fail
 refine CM.out.mono ?_;rintro e w3 ⟨rfl, P5, k5⟩;have N5 := k5.heap N4.out (by omega);have K5 := aA (K4.out.trans k5 (fun i hi _ => hi));have CF := aA (e8 ts rb a c (bJ (k == 1) 2 s) fo 5 (by decide) w3 P5);clear P5 k5 CM P4 K4 N4 x0 x1 x2 x3;obtain ⟨⟨x0, x1, x2, x3⟩, -⟩ := aK N5;have N6 := aA N5;clear N5
 go_wp2_with fail
 refine CF.out.mono ?_;rintro e w4 ⟨rfl, P7, k7⟩;have N7 := k7.heap N6.out (by omega);have K7 := aA (K5.out.trans k7 (fun i hi _ => hi))
 have CS := aA (gX ts rb a c (bJ fo 5 (bJ (k == 1) 2 s)) (fun hh => by
  rw [gB, gB];have h1 := (i1 (by decide) hh).2;have h2 := i1 (by decide) h1;have := HT.out (by simpa using h2.1);rw [iS h2.2] at this;exact this) w4 P7)
 clear P7 k7 CF K5 N6 x0 x1 x2 x3;obtain ⟨⟨x0, x1, x2, x3⟩, -⟩ := aK N7;have N8 := aA N7;clear N7
 go_wp2_with fail
 refine CS.out.mono ?_;rintro e w5 ⟨rfl, P9, k9⟩;have N9 := k9.heap N8.out (by omega);have K9 := aA (K7.out.trans k9 (fun i hi _ => hi));have P10 := aA P9;clear P9 k9 CS K7 N8 x0 x1 x2 x3;obtain ⟨⟨x0, x1, x2, x3⟩, -⟩ := aK N9;clear N9
 go_wp2_with fail
 go_ret;exact ⟨rfl, P10.out, K9.out⟩
set_option maxHeartbeats 8000000 in
theorem IA (ts : List Tk) (rb : Nat) (a : Option Addr) (c : Nat) (s : RS) (w : World) (h : PS ts rb a c s w) :
 Calls Tryz.prog 135 #[.pointer (some ⟨rb, 0, none⟩)] w fun e w' => e = .returned (.int .i64 (aX ts (atR s)).num) /\ PS ts rb a c (nM ts s) w' /\ aG (· = rb) w w' := by
 have TL : (aX ts (atR s)).kind = 2 -> atR s < ts.length := fun hk => uQ (by rw [hk]; decide)
 have NX := jN ts rb a c (atR s) s.bad w h;unfold nM;obtain ⟨t, ht⟩ : ∃ t, aX ts (atR s) = t := ⟨_, rfl⟩;rw [ht] at TL NX;rw [nO] at NX;rw [ht];clear ht;obtain ⟨X, hX⟩ : ∃ X : ByteArray, ⟨t.text.toArray⟩ = X := ⟨_, rfl⟩;rw [hX] at NX;obtain ⟨k, s', nn, pp⟩ := t;simp only at TL NX hX |-
 have HT := aA TL;have HN := aA NX;have HP := aA h;obtain ⟨so, hso⟩ : ∃ so, (decide (1 <= nn) && decide (nn <= 16)) = so := ⟨_, rfl⟩;rw [hso];have HSO := aA hso;clear TL NX hX h hso;have hrb := HP.out.lt
 go_enter Tryz.func135, Tryz.ntmps135
 go_wp2_with fail
 refine HN.out.mono ?_;rintro e w1 ⟨rfl, hb⟩;have P1 := HP.out.below hb;have K1 := aF hb (· = rb);have BA := (Below.refl w1.heap.size w1).alloc (Nat.le_refl _) (tkO k X nn pp);have NB := heap_alloc_new w1 (tkO k X nn pp);have P2 := aA (P1.below BA);have K2 := aA (K1.trans (aF BA (· = rb)) (fun i hi _ => hi));have hb1 := hb.size;have hs1 : (w1.alloc (tkO k X nn pp)).heap.size = w1.heap.size + 1 := World.size_alloc _ _;clear hb P1 K1 BA HN;obtain ⟨B, hB⟩ : ∃ B, w1.heap.size = B := ⟨_, rfl⟩;rw [hB] at NB hs1;have hBr : rb < B := by omega
 go_upto_region 2 with fail
 try rw [hB]
 generalize w1.alloc (tkO k X nn pp) = W at *;clear hB hb1;obtain ⟨⟨x0, x1, x2, x3⟩, -⟩ := aK NB;have HNB := aA NB;have CM := aA (e8 ts rb a c s (k == 2) 2 (by decide) W P2.out);clear NB
 go_wp2_with fail
 refine CM.out.mono ?_;rintro e w3 ⟨rfl, P5, k5⟩;have N5 := k5.heap HNB.out (by omega);have K5 := aA (K2.out.trans k5 (fun i hi _ => hi));have CK := aA (yL nn w3);have CF := aA (e8 ts rb a c (bJ (k == 2) 2 s) (decide (1 <= nn) && decide (nn <= 16)) 1 (by decide) w3 P5);clear P5 k5 CM P2 K2 HNB x0 x1 x2 x3;obtain ⟨⟨x0, x1, x2, x3⟩, -⟩ := aK N5;have N6 := aA N5;clear N5;rw [HSO.out] at CK CF
 go_wp2_with fail
 refine CK.out.mono ?_;rintro e w3' ⟨rfl, rfl⟩
 go_wp2_with fail
 refine CF.out.mono ?_;rintro e w4 ⟨rfl, P7, k7⟩;have N7 := k7.heap N6.out (by omega);have K7 := aA (K5.out.trans k7 (fun i hi _ => hi))
 have CS := aA (gX ts rb a c (bJ so 1 (bJ (k == 2) 2 s)) (fun hh => by
  rw [gB, gB];have h1 := (i1 (by decide) hh).2;have h2 := i1 (by decide) h1;have := HT.out (by simpa using h2.1);rw [iS h2.2] at this;exact this) w4 P7)
 clear P7 k7 CF K5 N6 x0 x1 x2 x3;obtain ⟨⟨x0, x1, x2, x3⟩, -⟩ := aK N7;have N8 := aA N7;clear N7
 go_wp2_with fail
 refine CS.out.mono ?_;rintro e w5 ⟨rfl, P9, k9⟩;have N9 := k9.heap N8.out (by omega);have K9 := aA (K7.out.trans k9 (fun i hi _ => hi));have P10 := aA P9;clear P9 k9 CS K7 N8 x0 x1 x2 x3;obtain ⟨⟨x0, x1, x2, x3⟩, -⟩ := aK N9;clear N9
 go_wp2_with fail
 go_ret;exact ⟨rfl, P10.out, K9.out⟩
def ofN (q : Bv) : TN × Nat × Int := match q with | .ok t p => (t, p, 0) | .bad p e => (aP, p, e)
theorem Ey {q : Bv} {w w' : World} {e : Ending} (h : pJ q w e w') : Below w.heap.size w w' /\ ∃ ad cc, e = .returned (.tuple #[bU (ofN q).1.op (ofN q).1.nm (ofN q).1.n ad (ofN q).1.ks.len cc, .int .i64 ((ofN q).2.1 : Nat), .int .i64 (ofN q).2.2]) /\ bQ w.heap.size w' ad (ofN q).1.ks := by
 cases q with
 | ok t p => obtain ⟨hb, ad, cc, he, hr⟩ := h; exact ⟨hb, ad, cc, he, hr⟩
 | bad p er => obtain ⟨hb, he⟩ := h; exact ⟨hb, none, 0, he, .inl rfl⟩
theorem Fu {L : List Tk} {s : RS} (hb : s.bad = 0) (hp : s.pos <= L.length) : (bN L s).1 = (ofN (ofL L s.pos)).1 /\ atR (bN L s).2 = (ofN (ofL L s.pos)).2.1 /\ (bN L s).2.bad = (ofN (ofL L s.pos)).2.2 := by
 unfold bN;rw [if_pos hb];cases h : ofL L s.pos with
 | ok t p => exact ⟨rfl, rfl, rfl⟩
 | bad p e =>
   have hne : ¬ e = 0 := ((Ab hp).2 p e h).2;exact ⟨rfl, nG hne, rfl⟩
theorem rL {ts : List Tk} {rb : Nat} {a : Option Addr} {c p : Nat} {er : Int} {w V : World} {t : TN} {ad : Option Addr} {cc : Nat} (hrb : rb < w.heap.size) (h : PR ts rb a c p er V) (hk : aG (· = rb) w V) (hr : bQ (w.heap.size + 1) V ad t.ks) :
 PR ts rb a c p er (zW V w.heap.size t.op t.nm t.n ad t.ks.len cc) /\ aG (· = rb) w (zW V w.heap.size t.op t.nm t.n ad t.ks.len cc) /\ bQ w.heap.size (zW V w.heap.size t.op t.nm t.n ad t.ks.len cc) ad t.ks := by
 have KP := oZ V w.heap.size t.op t.nm t.n ad t.ks.len cc;exact ⟨h.kept KP (fun k hk => by omega), hk.trans (KP.mono (T := fun i => w.heap.size <= i) (fun i hi _ => by omega)) (fun i hi hl => by omega), (hr.keptS KP (fun k hk => by omega)).mono (by omega)⟩
set_option maxHeartbeats 2000000 in
theorem Af (ts : List Tk) (rb : Nat) (a : Option Addr) (c p : Nat) (er : Int) (w : World) (h : PR ts rb a c p er w) (hb : ¬ er = 0) :
 Calls Tryz.prog 136 #[.pointer (some ⟨rb, 0, none⟩)] w fun e w' => ∃ ad cc, e = .returned (bU aP.op aP.nm aP.n ad aP.ks.len cc) /\ PR ts rb a c p er w' /\ aG (· = rb) w w' /\ bQ w.heap.size w' ad aP.ks := by
 have q : ((er : Int) != 0) = true := by simpa using hb
 have BA := (Below.refl w.heap.size w).alloc (Nat.le_refl _) (ndG ⟨#[]⟩ ⟨#[]⟩ 0 none 0 0);have NB := heap_alloc_new w (ndG ⟨#[]⟩ ⟨#[]⟩ 0 none 0 0);have H1 := aA (h.below BA);have K1 := aA (aF BA (· = rb));have hrb := h.lt;have HN := aA NB;generalize hW : w.alloc (ndG ⟨#[]⟩ ⟨#[]⟩ 0 none 0 0) = W at *;have HW := aA hW;obtain ⟨⟨c0, c1, c2⟩, f0, f1, f2⟩ := cF H1.out.r;obtain ⟨⟨r0, r1, r2, r3⟩, z0, z1, z2, z3⟩ := aK NB;clear h hb NB BA hW
 go_enter Tryz.func136, Tryz.ntmps136
 go_upto_region 1 with fail
 rw [HW.out]
 go_wp2_with fail
 have P := rL (t := aP) (ad := none) (cc := 0) hrb H1.out K1.out (.inl rfl);obtain ⟨⟨y0, y1, y2, y3⟩, -⟩ := aK (aQ HN.out (.string ⟨#[]⟩) (.string ⟨#[]⟩) (.int .i64 0) (.slice none 0 0));exact bodyPost_ret (v := bU ⟨#[]⟩ ⟨#[]⟩ 0 none 0 0) (by simp [results, Tryz.results136, go_sem, y0, y1, y2, y3]) rfl ⟨none, 0, rfl, P⟩
set_option maxHeartbeats 8000000 in
theorem ED (ts : List Tk) (hL : ∀ t ∈ ts, eA t) (rb : Nat) (a : Option Addr) (c p : Nat) (w : World) (h : PR ts rb a c p 0 w) {t : TN} {q : Nat} {er : Int} (ho : ofN (ofL ts p) = (t, q, er)) (hq : q <= ts.length) :
 Calls Tryz.prog 136 #[.pointer (some ⟨rb, 0, none⟩)] w fun e w' => ∃ ad cc, e = .returned (bU t.op t.nm t.n ad t.ks.len cc) /\ PR ts rb a c q er w' /\ aG (· = rb) w w' /\ bQ w.heap.size w' ad t.ks := by
 have hrb := h.lt;have B1 := (Below.refl w.heap.size w).alloc (Nat.le_refl _) (ndG ⟨#[]⟩ ⟨#[]⟩ 0 none 0 0);have NB := heap_alloc_new w (ndG ⟨#[]⟩ ⟨#[]⟩ 0 none 0 0);have hs0 : (w.alloc (ndG ⟨#[]⟩ ⟨#[]⟩ 0 none 0 0)).heap.size = w.heap.size + 1 := World.size_alloc _ _;have H1 := h.below B1;generalize hW : w.alloc (ndG ⟨#[]⟩ ⟨#[]⟩ 0 none 0 0) = W at *;have B2 := (Below.refl W.heap.size W).alloc (Nat.le_refl _) (ndG ⟨#[]⟩ ⟨#[]⟩ 0 none 0 0);have NC := heap_alloc_new W (ndG ⟨#[]⟩ ⟨#[]⟩ 0 none 0 0);have ND := (B2.block w.heap.size (by omega)).trans NB;have hs1 : (W.alloc (ndG ⟨#[]⟩ ⟨#[]⟩ 0 none 0 0)).heap.size = W.heap.size + 1 := World.size_alloc _ _;have H2 := H1.below B2;have BB : Below w.heap.size w (W.alloc (ndG ⟨#[]⟩ ⟨#[]⟩ 0 none 0 0)) := B1.trans (B2.mono (by omega))
 have CO : ∀ V, fW V a ts -> Calls Tryz.prog 165 #[.slice a ts.length c, .int .i64 p] V fun e w' => Below V.heap.size V w' /\ ∃ ad cc, e = .returned (.tuple #[bU t.op t.nm t.n ad t.ks.len cc, .int .i64 (q : Nat), .int .i64 er]) /\ bQ V.heap.size w' ad t.ks := fun V hV =>
  (Gw ts hL a c p h.n h.p V hV).mono fun e w' hh => by
   have := Ey hh.1;rw [ho] at this;exact this
 have C1 := aA (CO W.drew (H1.below (⟨rfl, rfl, rfl, Nat.le_refl _, fun _ _ => rfl⟩ : Below W.heap.size W W.drew)).reads);have C2 := aA (CO (W.alloc (ndG ⟨#[]⟩ ⟨#[]⟩ 0 none 0 0)).drew (H2.below (⟨rfl, rfl, rfl, Nat.le_refl _, fun _ _ => rfl⟩ : Below _ (W.alloc (ndG ⟨#[]⟩ ⟨#[]⟩ 0 none 0 0)) (W.alloc (ndG ⟨#[]⟩ ⟨#[]⟩ 0 none 0 0)).drew)).reads);have H := aA H1;have G := aA H2;have N0 := aA NB;have N1 := aA NC;have N2 := aA ND;have BV := aA B1;have BW := aA BB;have hpos := h.p;have hnn := h.n;have HW := aA hW;have HS0 := aA hs0;have HS1 := aA hs1;obtain ⟨⟨c0, c1, c2⟩, f0, f1, f2⟩ := cF H1.r;have d0 := (cF H2.r).1.1;have d1 := (cF H2.r).1.2.1;clear h H1 H2 NB NC ND B1 B2 BB ho hW hs0 hs1 CO hL
 go_enter Tryz.func136, Tryz.ntmps136
 go_upto_region 1 with fail
 rw [HW.out]
 go_wp2_with fail
 go_region_law (first
  | (go_simp
     go_at_call 165
     refine C1.out.mono ?_;rintro e w2 ⟨hb2, ad, cc, rfl, hr⟩;have hb3 : Below W.heap.size W w2 := ⟨hb2.os, hb2.tape, hb2.output, hb2.size, hb2.block⟩;have H3 := aA (H.out.below hb3);have hz3 := hb3.size;have hzz := HS0.out;have M0 := aA ((hb3.block w.heap.size (by omega)).trans N0.out);have B3 := aA (BV.out.trans (hb3.mono (by omega)));have ZZ := aA hz3;have R3 := aA (show bQ W.heap.size w2 ad t.ks from hr);clear hb2 hb3 hr hz3 hzz)
  | (go_simp
     go_at_call 165
     refine C2.out.mono ?_;rintro e w2 ⟨hb2, ad, cc, rfl, hr⟩;have hb3 : Below (W.alloc (ndG ⟨#[]⟩ ⟨#[]⟩ 0 none 0 0)).heap.size (W.alloc (ndG ⟨#[]⟩ ⟨#[]⟩ 0 none 0 0)) w2 := ⟨hb2.os, hb2.tape, hb2.output, hb2.size, hb2.block⟩;have H3 := aA (G.out.below hb3);have hz3 := hb3.size;have hzz := HS0.out;have hzy := HS1.out;have M1 := aA ((hb3.block W.heap.size (by omega)).trans N1.out);have M0 := aA ((hb3.block w.heap.size (by omega)).trans N2.out);have B3 := aA (BW.out.trans (hb3.mono (by omega)));have ZZ := aA hz3;obtain ⟨⟨n0, n1, n2, n3⟩, z0, z1, z2, z3⟩ := aK M1.out;have R3 := aA (show bQ (W.alloc (ndG ⟨#[]⟩ ⟨#[]⟩ 0 none 0 0)).heap.size w2 ad t.ks from hr);clear hb2 hb3 hr hz3 hzz hzy)
  | fail)
 all_goals first
  | (skip
     have BA := (Below.refl w2.heap.size w2).alloc (Nat.le_refl _) (ndG t.op t.nm t.n ad t.ks.len cc);have K3 := aA (H3.out.below BA);have B4 := aA (show Below w.heap.size w (w2.alloc (ndG t.op t.nm t.n ad t.ks.len cc)) from B3.out.alloc (by have := ZZ.out; have := HS0.out; omega) _);have N4 := aA (heap_alloc_new w2 (ndG t.op t.nm t.n ad t.ks.len cc));have M4 := aA ((BA.block w.heap.size (by have := ZZ.out; have := HS0.out; omega)).trans M0.out);have R4 := aA ((R3.out.kept BA).mono (show w.heap.size + 1 <= W.heap.size by have := HS0.out; omega));have hzw : w.heap.size + 1 <= (w2.alloc (ndG t.op t.nm t.n ad t.ks.len cc)).heap.size := by rw [World.size_alloc]; have := ZZ.out; have := HS0.out; omega
     have ZX := aA hzw;clear BA hzw;generalize hX : w2.alloc (ndG t.op t.nm t.n ad t.ks.len cc) = X at K3 B4 N4 M4 ZX R4;generalize hBX : w2.heap.size = BX at N4;have HX := aA hX;have HBX := aA hBX;have LX := aA (show w.heap.size < BX by have := ZZ.out; have := HS0.out; omega);clear hX hBX C1 C2 c0 c1 c2 f0 f1 f2 d0 d1
     go_upto_region 4 with fail
     obtain ⟨⟨c0, c1, c2⟩, f0, f1, f2⟩ := cF K3.out.r;have K5 := aA ((K3.out.setP q hq).setE er);have KS := aA (((aG.refl (· = rb) X).setCell (p := ⟨rb, 1, none⟩) (.inl rfl) (.int .i64 (q : Nat))).setCell (p := ⟨rb, 2, none⟩) (.inl rfl) (.int .i64 er));have N5 := aA (KS.out.heap N4.out (by have := LX.out; omega));have M5 := aA (KS.out.heap M4.out (by omega));have R5 := aA (R4.out.keptS KS.out (fun k hk => by omega))
     go_upto_region 5 with fail
     obtain ⟨⟨n0, n1, n2, n3⟩, -⟩ := aK N5.out;obtain ⟨⟨r0, r1, r2, r3⟩, z0, z1, z2, z3⟩ := aK M5.out
     go_wp2_with fail
     have hk6 := t8 B4.out KS.out ZX.out;have P := rL (cc := cc) hrb K5.out hk6 R5.out;obtain ⟨⟨y0, y1, y2, y3⟩, -⟩ := aK (aQ M5.out (.string t.op) (.string t.nm) (.int .i64 t.n) (.slice ad t.ks.len cc));exact bodyPost_ret (v := bU t.op t.nm t.n ad t.ks.len cc) (by simp [results, Tryz.results136, go_sem, y0, y1, y2, y3]) rfl ⟨ad, cc, rfl, P⟩)
  | (skip
     have KP := oZ w2 W.heap.size t.op t.nm t.n ad t.ks.len cc;have K3 := aA (H3.out.kept KP (fun k hk => by have := HS0.out; omega));have B4 := aA (B3.out.trans (KP.below (B := w.heap.size) (fun b hb => by have := HS0.out; omega) (by have := ZZ.out; have := HS1.out; have := HS0.out; omega)));have N4 := aA (Fi M1.out t.op t.nm t.n ad t.ks.len cc);have M4 := aA (KP.heap M0.out (by have := HS0.out; omega));have R4 := aA ((R3.out.keptS KP (fun k hk => by have := HS1.out; omega)).mono (show w.heap.size + 1 <= _ by have := HS0.out; have := HS1.out; omega));have hzw : w.heap.size + 1 <= (zW w2 W.heap.size t.op t.nm t.n ad t.ks.len cc).heap.size := by have := KP.size; have := ZZ.out; have := HS1.out; have := HS0.out; omega
     have ZX := aA hzw;clear KP hzw;obtain ⟨X, hX⟩ : ∃ X, zW w2 W.heap.size t.op t.nm t.n ad t.ks.len cc = X := ⟨_, rfl⟩;rw [hX] at K3 B4 N4 M4 ZX R4;have hX2 : (((w2.setCell ⟨W.heap.size, 0, none⟩ (.string t.op)).setCell ⟨W.heap.size, 1, none⟩ (.string t.nm)).setCell ⟨W.heap.size, 2, none⟩ (.int .i64 t.n)).setCell ⟨W.heap.size, 3, none⟩ (.slice ad t.ks.len cc) = X := hX;have LX := aA (show w.heap.size < W.heap.size by have := HS0.out; omega);rw [hX2];clear hX hX2 C1 C2 c0 c1 c2 f0 f1 f2 d0 d1 n0 n1 n2 n3 z0 z1 z2 z3
     go_upto_region 4 with fail
     obtain ⟨⟨c0, c1, c2⟩, f0, f1, f2⟩ := cF K3.out.r;have K5 := aA ((K3.out.setP q hq).setE er);have KS := aA (((aG.refl (· = rb) X).setCell (p := ⟨rb, 1, none⟩) (.inl rfl) (.int .i64 (q : Nat))).setCell (p := ⟨rb, 2, none⟩) (.inl rfl) (.int .i64 er));have N5 := aA (KS.out.heap N4.out (by have := LX.out; omega));have M5 := aA (KS.out.heap M4.out (by omega));have R5 := aA (R4.out.keptS KS.out (fun k hk => by omega))
     go_upto_region 5 with fail
     obtain ⟨⟨n0, n1, n2, n3⟩, -⟩ := aK N5.out;obtain ⟨⟨r0, r1, r2, r3⟩, z0, z1, z2, z3⟩ := aK M5.out
     go_wp2_with fail
     have hk6 := t8 B4.out KS.out ZX.out;have P := rL (cc := cc) hrb K5.out hk6 R5.out;obtain ⟨⟨y0, y1, y2, y3⟩, -⟩ := aK (aQ M5.out (.string t.op) (.string t.nm) (.int .i64 t.n) (.slice ad t.ks.len cc));exact bodyPost_ret (v := bU t.op t.nm t.n ad t.ks.len cc) (by simp [results, Tryz.results136, go_sem, y0, y1, y2, y3]) rfl ⟨ad, cc, rfl, P⟩)
theorem l9 (ts : List Tk) (hL : ∀ t ∈ ts, eA t) (rb : Nat) (a : Option Addr) (c : Nat) (s : RS) (w : World) (h : PS ts rb a c s w) :
 Calls Tryz.prog 136 #[.pointer (some ⟨rb, 0, none⟩)] w fun e w' => ∃ ad cc, e = .returned (bU (bN ts s).1.op (bN ts s).1.nm (bN ts s).1.n ad (bN ts s).1.ks.len cc) /\ PS ts rb a c (bN ts s).2 w' /\ aG (· = rb) w w' /\ bQ w.heap.size w' ad (bN ts s).1.ks := by
 by_cases hb : s.bad = 0
 · have hp : s.pos <= ts.length := by have := h.p; rw [iS hb] at this; exact this
   obtain ⟨e1, e2, e3⟩ := Fu hb hp
   have hq : (ofN (ofL ts s.pos)).2.1 <= ts.length := by
    cases ho : ofL ts s.pos with
    | ok t q => exact (Ab hp).1 t q ho
    | bad q er => exact ((Ab hp).2 q er ho).1
   have h' : PR ts rb a c s.pos 0 w := by
    have := h;unfold PS at this;rw [iS hb, hb] at this;exact this
   refine (ED ts hL rb a c s.pos w h' (t := (bN ts s).1) (q := atR (bN ts s).2) (er := (bN ts s).2.bad) (by rw [e1, e2, e3]) (by rw [e2]; exact hq)).mono fun e w' hh => hh
 · rw [fL hb]
   exact Af ts rb a c (atR s) s.bad w h hb
end
end Go.Proofs.YtapcjnoaofmmiaaGreatDoor
namespace Go
section
variable {P : Program} {ops : Array Oper} {Q : Exit -> Act -> World -> Prop} {md : Region.Mode} {S : World -> Prop}
theorem aB {i : Nat} {oi : Oper} {d : Option Tmp} {v : Value} {fuel : Nat} {listed : Array Bool} {a : Act} {w : World} (hi : ops[i]? = some oi) (hd : oi.dst = d)
 (hs : Region.noSelect ops = true) (hf : Region.free md ops listed i = true) (hr : (Region.ready md ops listed).contains i = true)
 (hQ : ∀ c a w, Q (.panic c) (a.put d v) w -> Q (.panic c) a w) (hy : YieldsIf P ops S oi v a) (hS : S w)
 (h : wpAnyH P md ops Q S fuel (listed.setIfInBounds i true) (a.put d v) w) : wpAnyH P md ops Q S (fuel + 1) listed a w := by
 subst hd;exact wpAnyH_take hi hs hf hr hQ hy hS h
end
end Go
namespace Go.Proofs.YtapcjnoaofmmiaaGreatDoor
section
open Go.RowKit
theorem pT {c : UInt8} {r : List UInt8} (h : cH c = true \/ aY c = true) : aO ⟨(c :: r).toArray⟩ 0 0 = none := by
 have hc : ¬ c = 61 /\ ¬ c = 33 /\ ¬ c = 60 /\ ¬ c = 62 := by
  rcases h with h | h
  · unfold cH at h
    simp only [Bool.and_eq_true, decide_eq_true_eq] at h;refine ⟨?_, ?_, ?_, ?_⟩ <;> (rintro rfl; revert h; decide)
  · unfold aY at h
    simp only [Bool.and_eq_true, decide_eq_true_eq] at h;refine ⟨?_, ?_, ?_, ?_⟩ <;> (rintro rfl; revert h; decide)
 have hx : ∀ (y : UInt8) (m : List UInt8), c ≠ y -> ¬ (⟨(c :: r).toArray⟩ : ByteArray) = ⟨(y :: m).toArray⟩ := fun y m hn e => by
  have := congrArg (fun z => z.data.toList) e;simp at this;exact hn this.1
 unfold aO;rw [if_neg (hx 61 [] hc.1), if_neg (hx 33 [61] hc.2.1), if_neg (hx 60 [] hc.2.2.1), if_neg (hx 60 [61] hc.2.2.1), if_neg (hx 62 [] hc.2.2.2), if_neg (hx 62 [61] hc.2.2.2)]
def zH (t : Tk) : Prop := (aO ⟨t.text.toArray⟩ 0 0).isSome = true -> t.kind = 3
theorem Fn {l : List UInt8} {n : Nat} {k v : Int} (p : Nat) (hn : 1 <= n) (h : dA l = .tok k n v) : zH ⟨k, l.take n, v, p⟩ := by
 intro ho;cases l with
 | nil => cases h
 | cons c r =>
   obtain ⟨m, rfl⟩ : ∃ m, n = m + 1 := ⟨n - 1, by omega⟩;simp only at ho |-
   rw [List.take_succ_cons] at ho;simp only [dA] at h
   split at h
   · rename_i hc
     rw [pT (.inl hc)] at ho;cases ho
   · split at h
     · rename_i hd
       rw [pT (.inr hd)] at ho;cases ho
     · unfold mO at h
       split at h
       · cases h
       · injection h with h1
         exact h1.symm
theorem Iw (l : List UInt8) (p : Nat) : ∀ ts, dM l p = .ok ts -> ∀ t ∈ ts, zH t := by
 refine kQ (C := fun l p => ∀ ts, dM l p = .ok ts -> ∀ t ∈ ts, zH t) ?_ ?_ ?_ ?_ l.length l p (Nat.le_refl _)
 · intro p ts h
   rw [gV] at h; cases h;intro t ht; cases ht
 · intro r p ih ts h
   rw [cR] at h;exact ih ts h
 · intro l p e h1 h0 hf ts h
   rw [oC h0 h1 hf] at h; cases h
 · intro l p k n v h1 h0 hf hn hl ih ts h
   rw [mA h1 hn hf] at h;obtain ⟨ts', h', rfl⟩ := sQ h;intro t ht
   rcases List.mem_cons.1 ht with rfl | ht
   · exact Fn p hn hf
   · exact ih ts' h' t ht
theorem GO {l : List UInt8} {ts : List Tk} (h : iJ l = .ok ts) : ∀ t ∈ ts, zH t := by
 unfold iJ at h
 split at h
 · cases h
 · exact Iw _ _ _ h
def opS (L : List Tk) (s : RS) : RS := goR (bJ ((aX L (atR s)).kind == 3 && (aO ⟨(aX L (atR s)).text.toArray⟩ 0 0).isSome) 2 s)
theorem Hk {L : List Tk} (hO : ∀ t ∈ L, zH t) (s : RS) : (bN L (opS L (bN L s).2)).2 = (eR L s).2 /\
 ((eR L s).2.bad = 0 -> (eR L s).1 = ⟨⟨(aX L (atR (bN L s).2)).text.toArray⟩, (bN L s).1, (bN L (opS L (bN L s).2)).1⟩) := by
 unfold eR;obtain ⟨t, u, hu⟩ : ∃ t u, bN L s = (t, u) := ⟨_, _, rfl⟩;rw [hu];simp only
 by_cases hb : u.bad = 0
 · rw [if_pos hb]
   have hop : opS L u = if opB L u.pos = true then cT u else cB 2 u := by
    unfold opS opB aX;rw [iS hb];cases hp : L[u.pos]? with
    | none =>
      rw [if_neg (by decide)];show goR (bJ false 2 u) = _;rw [fJ, eW (cL (by decide) hb)]
    | some t =>
      simp only [Option.getD_some]
      by_cases ho : (aO ⟨t.text.toArray⟩ 0 0).isSome = true
      · have hk : (t.kind == 3) = true := by rw [hO t (List.mem_of_getElem? hp) ho]; rfl
        rw [if_pos ho, hk, Bool.true_and, ho, iH, yV hb]
      · have ho' : (aO ⟨t.text.toArray⟩ 0 0).isSome = false := by simpa using ho
        rw [if_neg ho, ho', Bool.and_false, fJ, eW (cL (by decide) hb)]
   rw [hop];cases ho : opB L u.pos with
   | true =>
     rw [if_pos rfl, if_pos rfl];refine ⟨rfl, fun _ => ?_⟩;rw [iS hb]
     have : fM L u.pos = (aX L u.pos).text := by
      unfold fM aX;cases L[u.pos]? <;> rfl
     rw [this]
   | false =>
     rw [if_neg (by decide), if_neg (by decide), fL (cL (by decide) hb)];exact ⟨rfl, fun h => absurd h (cL (by decide) hb)⟩
 · have e : opS L u = u := by
    unfold opS;rw [fK hb, eW hb]
   rw [if_neg hb, e, fL hb];exact ⟨rfl, fun h => absurd h hb⟩
abbrev cdP (d : CD) (a1 : Option Addr) (c1 : Nat) (a2 : Option Addr) (c2 : Nat) : Obj := .cells #[.string d.op, .string d.a.op, .string d.a.nm, .int .i64 d.a.n, .slice a1 d.a.ks.len c1, .string d.b.op, .string d.b.nm, .int .i64 d.b.n, .slice a2 d.b.ks.len c2] 98
abbrev IV (W : World) (B : Nat) (d : CD) (a1 : Option Addr) (c1 : Nat) (a2 : Option Addr) (c2 : Nat) : World := ((((((((W.setCell ⟨B, 0, none⟩ (.string d.op)).setCell ⟨B, 1, none⟩ (.string d.a.op)).setCell ⟨B, 2, none⟩ (.string d.a.nm)).setCell ⟨B, 3, none⟩ (.int .i64 d.a.n)).setCell ⟨B, 4, none⟩ (.slice a1 d.a.ks.len c1)).setCell ⟨B, 5, none⟩ (.string d.b.op)).setCell ⟨B, 6, none⟩ (.string d.b.nm)).setCell ⟨B, 7, none⟩ (.int .i64 d.b.n)).setCell ⟨B, 8, none⟩ (.slice a2 d.b.ks.len c2)
theorem Db (W : World) (B : Nat) (d : CD) (a1 : Option Addr) (c1 : Nat) (a2 : Option Addr) (c2 : Nat) : aG (· = B) W (IV W B d a1 c1 a2 c2) :=
 ((((((((((aG.refl (· = B) W).setCell (p := ⟨B, 0, none⟩) (.inl rfl) _).setCell (p := ⟨B, 1, none⟩) (.inl rfl) _).setCell (p := ⟨B, 2, none⟩) (.inl rfl) _).setCell (p := ⟨B, 3, none⟩) (.inl rfl) _).setCell (p := ⟨B, 4, none⟩) (.inl rfl) _).setCell (p := ⟨B, 5, none⟩) (.inl rfl) _).setCell (p := ⟨B, 6, none⟩) (.inl rfl) _).setCell (p := ⟨B, 7, none⟩) (.inl rfl) _).setCell (p := ⟨B, 8, none⟩) (.inl rfl) _)
theorem kC {W : World} {B : Nat} {l : List Value} {t : TypeId} (h : W.heap[B]? = some (.cells l.toArray t (0, 0))) (i : Nat) (v : Value) : (W.setCell ⟨B, i, none⟩ v).heap[B]? = some (.cells (l.set i v).toArray t (0, 0)) := by
 have := heap_setCell_same W B i _ t v h;simpa using this
theorem EF {W : World} {B : Nat} {v0 v1 v2 v3 v4 v5 v6 v7 v8 : Value} {t : TypeId} (h : W.heap[B]? = some (.cells #[v0, v1, v2, v3, v4, v5, v6, v7, v8] t (0, 0))) (d : CD) (a1 : Option Addr) (c1 : Nat) (a2 : Option Addr) (c2 : Nat) :
 (IV W B d a1 c1 a2 c2).heap[B]? = some (.cells #[.string d.op, .string d.a.op, .string d.a.nm, .int .i64 d.a.n, .slice a1 d.a.ks.len c1, .string d.b.op, .string d.b.nm, .int .i64 d.b.n, .slice a2 d.b.ks.len c2] t (0, 0)) :=
 kC (kC (kC (kC (kC (kC (kC (kC (kC (l := [v0, v1, v2, v3, v4, v5, v6, v7, v8]) h 0 _) 1 _) 2 _) 3 _) 4 _) 5 _) 6 _) 7 _) 8 _
set_option maxHeartbeats 16000000 in
set_option maxRecDepth 100000 in
theorem FH (ts : List Tk) (hL : ∀ t ∈ ts, eA t) (rb : Nat) (a : Option Addr) (c : Nat) (s : RS) (w : World) (h : PS ts rb a c s w) {t1 t2 : TN} {s1 s4 : RS} {X : ByteArray}
 (h1 : bN ts s = (t1, s1)) (h2 : bN ts (opS ts s1) = (t2, s4)) (hX : X = ⟨(aX ts (atR s1)).text.toArray⟩) :
 Calls Tryz.prog 137 #[.pointer (some ⟨rb, 0, none⟩)] w fun e w' => ∃ ad1 cc1 ad2 cc2, e = .returned (.agg #[.string X, .string t1.op, .string t1.nm, .int .i64 t1.n, .slice ad1 t1.ks.len cc1, .string t2.op, .string t2.nm, .int .i64 t2.n, .slice ad2 t2.ks.len cc2]) /\
  PS ts rb a c s4 w' /\ aG (· = rb) w w' /\ bQ w.heap.size w' ad1 t1.ks /\ bQ w.heap.size w' ad2 t2.ks := by
 have hrb := h.lt;have B1 := (Below.refl w.heap.size w).alloc (Nat.le_refl _) (cdP ⟨⟨#[]⟩, aP, aP⟩ none 0 none 0);have NB := heap_alloc_new w (cdP ⟨⟨#[]⟩, aP, aP⟩ none 0 none 0);have hs0 : (w.alloc (cdP ⟨⟨#[]⟩, aP, aP⟩ none 0 none 0)).heap.size = w.heap.size + 1 := World.size_alloc _ _;have H1 := aA (h.below B1);have K1 := aA (aF B1 (· = rb));generalize hW : w.alloc (cdP ⟨⟨#[]⟩, aP, aP⟩ none 0 none 0) = W at *;have HW := aA hW;have HNR := aA NB;have CE1 := aA (l9 ts hL rb a c s W H1.out);rw [h1] at CE1;have HC2 := aA h2;have HX := aA hX;clear h B1 NB hW h1 h2 hX
 go_enter Tryz.func137, Tryz.ntmps137
 go_upto_region 1 with fail
 rw [show w.alloc (.cells #[.string ⟨#[]⟩, .string ⟨#[]⟩, .string ⟨#[]⟩, .int .i64 0, .slice none 0 0, .string ⟨#[]⟩, .string ⟨#[]⟩, .int .i64 0, .slice none 0 0] 98) = W from HW.out]
 go_wp2_with fail
 refine CE1.out.mono ?_;rintro e w1 ⟨ad1, cc1, rfl, P2, k2, r2⟩;have BA := (Below.refl w1.heap.size w1).alloc (Nat.le_refl _) (ndG t1.op t1.nm t1.n ad1 t1.ks.len cc1);have NA := heap_alloc_new w1 (ndG t1.op t1.nm t1.n ad1 t1.ks.len cc1);have hs1 : (w1.alloc (ndG t1.op t1.nm t1.n ad1 t1.ks.len cc1)).heap.size = w1.heap.size + 1 := World.size_alloc _ _;have hz1 := k2.size;have P3 := aA (P2.below BA);have K3 := aA ((K1.out.trans k2 (fun i hi _ => hi)).trans (aF BA (· = rb)) (fun i hi _ => hi));have NR3 := aA ((BA.block w.heap.size (by omega)).trans (k2.heap HNR.out (by omega)));have R3 := aA ((show bQ (w.heap.size + 1) w1 ad1 t1.ks by rw [<- hs0]; exact r2).kept BA);clear P2 k2 r2 BA CE1 HNR K1 H1
 go_upto_region 2 with fail
 rw [show w1.alloc (.cells #[.string t1.op, .string t1.nm, .int .i64 t1.n, .slice ad1 t1.ks.len cc1] 25) = w1.alloc (ndG t1.op t1.nm t1.n ad1 t1.ks.len cc1) from rfl];generalize w1.alloc (ndG t1.op t1.nm t1.n ad1 t1.ks.len cc1) = W1 at *;generalize w1.heap.size = B at *;have hBw : w.heap.size < B := by omega
 have HNB := aA NA;have CN := jN ts rb a c (atR s1) s1.bad W1 P3.out;have TL : (aX ts (atR s1)).kind = 3 -> atR s1 < ts.length := fun hk => uQ (by rw [hk]; decide)
 have hX := HX.out;have h2 := HC2.out;unfold opS at h2;obtain ⟨t, ht⟩ : ∃ t, aX ts (atR s1) = t := ⟨_, rfl⟩;rw [ht] at CN TL hX h2;rw [nO, <- hX] at CN;rw [<- hX] at h2;obtain ⟨k, s', nn, pp⟩ := t;simp only at CN TL h2;have HN := aA CN;have HT := aA TL;have HC := aA h2;clear CN TL h2 hX ht HX HC2 NA hz1
 go_wp2_with fail
 refine HN.out.mono ?_;rintro e w2 ⟨rfl, hb⟩;have BA := (Below.refl w2.heap.size w2).alloc (Nat.le_refl _) (tkO k X nn pp);have NA := heap_alloc_new w2 (tkO k X nn pp);have hs2 : (w2.alloc (tkO k X nn pp)).heap.size = w2.heap.size + 1 := World.size_alloc _ _;have hz2 := hb.size;have P4 := aA ((P3.out.below hb).below BA);have K4 := aA ((K3.out.trans (aF hb (· = rb)) (fun i hi _ => hi)).trans (aF BA (· = rb)) (fun i hi _ => hi));have NR4 := aA ((BA.block w.heap.size (by omega)).trans ((hb.block w.heap.size (by omega)).trans NR3.out));have NB4 := aA ((BA.block B (by omega)).trans ((hb.block B (by omega)).trans HNB.out));have R4 := aA ((R3.out.kept hb).kept BA);clear hb BA P3 K3 NR3 HNB R3 HN
 go_upto_region 3 with fail
 generalize w2.alloc (tkO k X nn pp) = W2 at *;generalize w2.heap.size = T at *;have hTB : B < T := by omega
 obtain ⟨⟨x0, x1, x2, x3⟩, -⟩ := aK NA;have HNT := aA NA;clear NA hz2;have CM := aA (fun so => e8 ts rb a c s1 so 2 (by decide) W2 P4.out);obtain ⟨z, hz⟩ : ∃ z, ((k == 3) && (aO X 0 0).isSome) = z := ⟨_, rfl⟩;rw [hz] at HC;have HZ := aA hz
 have CS := aA (fun V (hV : PS ts rb a c (bJ z 2 s1) V) => gX ts rb a c (bJ z 2 s1) (fun hh => by
  rw [gB];have h2 := i1 (by decide) hh;have h3 := HZ.out;rw [h2.1, Bool.and_eq_true] at h3;have := HT.out (by simpa using h3.1);rw [iS h2.2] at this;exact this) V hV)
 clear hz
 go_cut [] (fun wc => Hid (PS ts rb a c (bJ z 2 s1) wc) /\ Hid (aG (· = rb) W2 wc))
 case first =>
  cases hk3 : (k == 3) with
  | true =>
    have q : (k == 3) = true := hk3;have MO := aA (tU X W2);have hz : (aO X 0 0).isSome = z := by rw [<- HZ.out, hk3, Bool.true_and]
    rw [hz] at MO;clear hk3 hz
    go_wp2_with fail
    refine MO.out.mono ?_;rintro e w3 ⟨rfl, rfl⟩
    go_wp2_with fail
    refine (CM.out z).mono ?_;rintro e w4 ⟨rfl, P5, k5⟩;have P6 := aA P5;have K6 := aA k5;clear P5 k5
    go_wp2_with fail
    go_meet
    case rel => exact ⟨P6, K6⟩
  | false =>
    have q : (k == 3) = false := hk3;have hz : false = z := by rw [<- HZ.out, hk3, Bool.false_and]
    subst hz;clear hk3
    go_wp2_with fail
    refine (CM.out false).mono ?_;rintro e w4 ⟨rfl, P5, k5⟩;have P6 := aA P5;have K6 := aA k5;clear P5 k5
    go_wp2_with fail
    go_meet
    case rel => exact ⟨P6, K6⟩
 case rest =>
  obtain ⟨P5, K5⟩ := hcut;clear x0 x1 x2 x3 CM
  go_wp2_with fail
  refine (CS.out _ P5.out).mono ?_;rintro e w4 ⟨rfl, P6, k6⟩;have hz5 := Nat.le_trans K5.out.size k6.size;have PD := aA (show PS ts rb a c (goR (bJ z 2 s1)) w4.drew from P6.drewN 1);have KD := aA (show aG (· = rb) w w4.drew from ((K4.out.trans K5.out (fun i hi _ => hi)).trans k6 (fun i hi _ => hi)).drewN 1);have NT5 := k6.heap (K5.out.heap HNT.out (by omega)) (by omega);have NB5 := k6.heap (K5.out.heap NB4.out (by omega)) (by omega);have NR5 := k6.heap (K5.out.heap NR4.out (by omega)) (by omega);have NTD := aA (show w4.drew.heap[T]? = _ from NT5);have NBD := aA (show w4.drew.heap[B]? = _ from NB5);have NRD := aA (show w4.drew.heap[w.heap.size]? = _ from NR5);have RD := aA (show bQ (w.heap.size + 1) w4.drew ad1 t1.ks from (R4.out.keptS K5.out (fun k hk => by omega)).keptS (k6.drewN 1) (fun k hk => by omega));have HZ5 := aA (show w.heap.size + 1 <= w4.drew.heap.size by show _ <= w4.heap.size; omega)
  have CE := aA (fun V (hV : PS ts rb a c (goR (bJ z 2 s1)) V) => by
   have := l9 ts hL rb a c _ V hV;rw [HC.out] at this;exact this)
  obtain ⟨⟨-, x1, -, -⟩, -⟩ := aK NT5;obtain ⟨⟨y0, y1, y2, y3⟩, -⟩ := aK NB5;clear P6 k6 NT5 NB5 NR5 P5 K5 CS P4 K4 NR4 NB4 R4 HNT hz5
  go_upto_region 5 with fail
  refine wp_region_held_drew (S := fun V => V.cell? ⟨T, 1, none⟩ = some (.string X) /\ V.cell? ⟨B, 0, none⟩ = some (.string t1.op) /\ V.cell? ⟨B, 1, none⟩ = some (.string t1.nm) /\ V.cell? ⟨B, 2, none⟩ = some (.int .i64 t1.n) /\ V.cell? ⟨B, 3, none⟩ = some (.slice ad1 t1.ks.len cc1)) (by kernel_rfl) ⟨x1, y0, y1, y2, y3⟩ (fun hHeld => ?_);refine aB (i := 0) (d := some 21) (v := .pointer (some ⟨T, 1, none⟩)) rfl rfl (by kernel_rfl) (by kernel_rfl) (by kernel_rfl) (fun _ _ _ h => h) (Or.inl ⟨by rfl, by intro w hSw; obtain ⟨x1, y0, y1, y2, y3⟩ := hSw; go_simp⟩) hHeld ?_;simp only [Act.put, Jq, Jr, Js];refine aB (i := 1) (d := some 22) (v := .string X) rfl rfl (by kernel_rfl) (by kernel_rfl) (by kernel_rfl) (fun _ _ _ h => h) (Or.inl ⟨by rfl, by intro w hSw; obtain ⟨x1, y0, y1, y2, y3⟩ := hSw; go_simp⟩) hHeld ?_;simp only [Act.put, Jq, Jr, Js];refine aB (i := 2) (d := some 23) (v := bU t1.op t1.nm t1.n ad1 t1.ks.len cc1) rfl rfl (by kernel_rfl) (by kernel_rfl) (by kernel_rfl) (fun _ _ _ h => h) (Or.inl ⟨by rfl, by intro w hSw; obtain ⟨x1, y0, y1, y2, y3⟩ := hSw; go_simp⟩) hHeld ?_;simp only [Act.put, Jq, Jr, Js];refine aB (i := 3) (d := some 24) (v := .pointer (some ⟨rb, 0, none⟩)) rfl rfl (by kernel_rfl) (by kernel_rfl) (by kernel_rfl) (fun _ _ _ h => h) (Or.inl ⟨by rfl, by intro w hSw; obtain ⟨x1, y0, y1, y2, y3⟩ := hSw; go_simp⟩) hHeld ?_;simp only [Act.put, Jq, Jr, Js];refine wpAnyH_ready (rs := [4]) (by kernel_rfl) (by simp) ?_;refine AllReadyH.cons (o := _) rfl (fun K hK => ?_) AllReadyH.nil
  go_simp
  refine (CE.out _ PD.out).mono ?_;rintro e w5 ⟨ad2, cc2, rfl, P6, k6, r6⟩;have NT6 := k6.heap NTD.out (by omega);have NB6 := k6.heap NBD.out (by omega);have NR6 := k6.heap NRD.out (by omega);have K6 := KD.out.trans k6 (fun i hi _ => hi);have R16 := RD.out.keptS k6 (fun k hk => by omega)
  have cc : w5.cell? ⟨T, 1, none⟩ = some (.string X) /\ w5.cell? ⟨B, 0, none⟩ = some (.string t1.op) /\ w5.cell? ⟨B, 1, none⟩ = some (.string t1.nm) /\ w5.cell? ⟨B, 2, none⟩ = some (.int .i64 t1.n) /\ w5.cell? ⟨B, 3, none⟩ = some (.slice ad1 t1.ks.len cc1) := by
   obtain ⟨⟨-, u1, -, -⟩, -⟩ := aK NT6;obtain ⟨⟨v0, v1, v2, v3⟩, -⟩ := aK NB6;exact ⟨u1, v0, v1, v2, v3⟩
  refine hK.out _ _ cc (fun hHeld2 => ?_)
  try simp only [Act.put, Jq, Jr, Js]
  clear hK K;refine aB (i := 5) (d := some 26) (v := .agg #[.string X, .string t1.op, .string t1.nm, .int .i64 t1.n, .slice ad1 t1.ks.len cc1, .string t2.op, .string t2.nm, .int .i64 t2.n, .slice ad2 t2.ks.len cc2]) rfl rfl (by kernel_rfl) (by kernel_rfl) (by kernel_rfl) (fun _ _ _ h => h) (Or.inl ⟨by rfl, by intro w hSw; obtain ⟨x1, y0, y1, y2, y3⟩ := hSw; go_simp⟩) hHeld2 ?_;simp only [Act.put, Jq, Jr, Js];have KP := Db w5 w.heap.size ⟨X, t1, t2⟩ ad1 cc1 ad2 cc2;have NR7 := EF NR6 ⟨X, t1, t2⟩ ad1 cc1 ad2 cc2;obtain ⟨z0, z1, z2, z3, z4, z5, z6, z7, z8⟩ := I0 NR6;obtain ⟨o0, o1, o2, o3, o4, o5, o6, o7, o8⟩ := jM NR6;have CC := And.intro (KP.cell hHeld2.1 (by show ¬ T = _; omega)) (And.intro (KP.cell hHeld2.2.1 (by show ¬ B = _; omega)) (And.intro (KP.cell hHeld2.2.2.1 (by show ¬ B = _; omega)) (And.intro (KP.cell hHeld2.2.2.2.1 (by show ¬ B = _; omega)) (KP.cell hHeld2.2.2.2.2 (by show ¬ B = _; omega)))));refine wpAnyH_ready (rs := [6]) (by kernel_rfl) (by simp) ?_;refine AllReadyH.cons (o := _) rfl (fun K hK => ?_) AllReadyH.nil
  go_simp
  refine hK.out _ _ CC (fun hHeld3 => ?_)
  try simp only [Act.put, Jq, Jr, Js]
  clear hK K;refine wpAnyH_done (by kernel_rfl) ?_ _;have FIN := aA (And.intro (P6.kept KP (fun k hk => by omega)) (And.intro (K6.trans (KP.mono (T := fun i => w.heap.size <= i) (fun i hi _ => by omega)) (fun i hi hl => by omega)) (And.intro ((R16.keptS KP (fun k hk => by omega)).mono (show w.heap.size <= w.heap.size + 1 by omega)) ((r6.keptS KP (fun k hk => by have := HZ5.out; omega)).mono (show w.heap.size <= _ by have := HZ5.out; omega)))));obtain ⟨d0, d1, d2, d3, d4, d5, d6, d7, d8⟩ := jM NR7;clear hHeld hHeld2 hHeld3 CC cc KP NT6 NB6 NR6 NR7 K6 R16 P6 k6 r6 z0 z1 z2 z3 z4 z5 z6 z7 z8 o0 o1 o2 o3 o4 o5 o6 o7 o8
  go_wp2
  exact bodyPost_ret (v := .agg #[.string X, .string t1.op, .string t1.nm, .int .i64 t1.n, .slice ad1 t1.ks.len cc1, .string t2.op, .string t2.nm, .int .i64 t2.n, .slice ad2 t2.ks.len cc2]) (by simp [results, Tryz.results137, go_sem, d0, d1, d2, d3, d4, d5, d6, d7, d8]) rfl ⟨ad1, cc1, ad2, ⟨cc2, rfl⟩, FIN.out⟩
theorem DK (ts : List Tk) (hL : ∀ t ∈ ts, eA t) (hO : ∀ t ∈ ts, zH t) (rb : Nat) (a : Option Addr) (c : Nat) (s : RS) (w : World) (h : PS ts rb a c s w) :
 Calls Tryz.prog 137 #[.pointer (some ⟨rb, 0, none⟩)] w fun e w' => ∃ (d : CD) (ad1 : Option Addr) (cc1 : Nat) (ad2 : Option Addr) (cc2 : Nat), e = .returned (.agg #[.string d.op, .string d.a.op, .string d.a.nm, .int .i64 d.a.n, .slice ad1 d.a.ks.len cc1, .string d.b.op, .string d.b.nm, .int .i64 d.b.n, .slice ad2 d.b.ks.len cc2]) /\
  PS ts rb a c (eR ts s).2 w' /\ aG (· = rb) w w' /\ bQ w.heap.size w' ad1 d.a.ks /\ bQ w.heap.size w' ad2 d.b.ks /\ ((eR ts s).2.bad = 0 -> (eR ts s).1 = d) := by
 obtain ⟨h1, h2⟩ := Hk hO s;refine (FH ts hL rb a c s w h (t1 := (bN ts s).1) (s1 := (bN ts s).2) (t2 := (bN ts (opS ts (bN ts s).2)).1) (s4 := (bN ts (opS ts (bN ts s).2)).2) rfl rfl rfl).mono ?_;rintro e w' ⟨ad1, cc1, ad2, cc2, he, hp, hk, r1, r2⟩;rw [h1] at hp;exact ⟨⟨_, _, _⟩, ad1, cc1, ad2, cc2, he, hp, hk, r1, r2, h2⟩
end
end Go.Proofs.YtapcjnoaofmmiaaGreatDoor
