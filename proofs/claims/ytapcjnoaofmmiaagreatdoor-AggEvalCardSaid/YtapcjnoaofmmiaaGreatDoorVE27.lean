/-
 No statement: what AggEvalCard needs, of the texts ONode, Take, OCond, QOwn, OConds.
-/
import Derived.Test.YtapcjnoaofmmiaaGreatDoorVE26
import Derived.OrdersHeld
import Derived.NoCompiler
namespace Go.Proofs.YtapcjnoaofmmiaaGreatDoor
section
open Go.RowKit
def ofN (q : Dp) : TN × Nat × Int := match q with | .ok t p => (t, p, 0) | .bad p e => (aV, p, e)
theorem Gv {q : Dp} {w w' : World} {e : Ending} (h : qR q w e w') : Below w.heap.size w w' /\ ∃ ad cc, e = .returned (.tuple #[cH (ofN q).1.op (ofN q).1.nm (ofN q).1.n ad (ofN q).1.ks.len cc, .int .i64 ((ofN q).2.1 : Nat), .int .i64 (ofN q).2.2]) /\ cI w.heap.size w' ad (ofN q).1.ks := by
 cases q with
 | ok t p => obtain ⟨hb, ad, cc, he, hr⟩ := h; exact ⟨hb, ad, cc, he, hr⟩
 | bad p er => obtain ⟨hb, he⟩ := h; exact ⟨hb, none, 0, he, .inl rfl⟩
theorem Hl {L : List Tk} {s : RS} (hb : s.bad = 0) (hp : s.pos <= L.length) : (cE L s).1 = (ofN (ofL L s.pos)).1 /\ atR (cE L s).2 = (ofN (ofL L s.pos)).2.1 /\ (cE L s).2.bad = (ofN (ofL L s.pos)).2.2 := by
 unfold cE;rw [if_pos hb];cases h : ofL L s.pos with
 | ok t p => exact ⟨rfl, rfl, rfl⟩
 | bad p e =>
   have hne : ¬ e = 0 := ((Bk hp).2 p e h).2;exact ⟨rfl, oQ hne, rfl⟩
theorem sV {ts : List Tk} {rb : Nat} {a : Option Addr} {c p : Nat} {er : Int} {w V : World} {t : TN} {ad : Option Addr} {cc : Nat} (hrb : rb < w.heap.size) (h : PR ts rb a c p er V) (hk : aG (· = rb) w V) (hr : cI (w.heap.size + 1) V ad t.ks) :
 PR ts rb a c p er (Bg V w.heap.size t.op t.nm t.n ad t.ks.len cc) /\ aG (· = rb) w (Bg V w.heap.size t.op t.nm t.n ad t.ks.len cc) /\ cI w.heap.size (Bg V w.heap.size t.op t.nm t.n ad t.ks.len cc) ad t.ks := by
 have KP := qF V w.heap.size t.op t.nm t.n ad t.ks.len cc;exact ⟨h.kept KP (fun k hk => by omega), hk.trans (KP.mono (T := fun i => w.heap.size <= i) (fun i hi _ => by omega)) (fun i hi hl => by omega), (hr.keptS KP (fun k hk => by omega)).mono (by omega)⟩
set_option maxHeartbeats 2000000 in
theorem Bo (ts : List Tk) (rb : Nat) (a : Option Addr) (c p : Nat) (er : Int) (w : World) (h : PR ts rb a c p er w) (hb : ¬ er = 0) :
 Calls Tryz.prog 136 #[.pointer (some ⟨rb, 0, none⟩)] w fun e w' => ∃ ad cc, e = .returned (cH aV.op aV.nm aV.n ad aV.ks.len cc) /\ PR ts rb a c p er w' /\ aG (· = rb) w w' /\ cI w.heap.size w' ad aV.ks := by
 have q : ((er : Int) != 0) = true := by simpa using hb
 have BA := (Below.refl w.heap.size w).alloc (Nat.le_refl _) (ndG ⟨#[]⟩ ⟨#[]⟩ 0 none 0 0);have NB := heap_alloc_new w (ndG ⟨#[]⟩ ⟨#[]⟩ 0 none 0 0);have H1 := aA (h.below BA);have K1 := aA (aF BA (· = rb));have hrb := h.lt;have HN := aA NB;generalize hW : w.alloc (ndG ⟨#[]⟩ ⟨#[]⟩ 0 none 0 0) = W at *;have HW := aA hW;obtain ⟨⟨c0, c1, c2⟩, f0, f1, f2⟩ := cS H1.out.r;obtain ⟨⟨r0, r1, r2, r3⟩, z0, z1, z2, z3⟩ := aJ NB;clear h hb NB BA hW
 go_enter Tryz.func136, Tryz.ntmps136
 go_upto_region 1 with fail
 rw [HW.out]
 go_wp2_with fail
 have P := sV (t := aV) (ad := none) (cc := 0) hrb H1.out K1.out (.inl rfl);obtain ⟨⟨y0, y1, y2, y3⟩, -⟩ := aJ (aP HN.out (.string ⟨#[]⟩) (.string ⟨#[]⟩) (.int .i64 0) (.slice none 0 0));exact bodyPost_ret (v := cH ⟨#[]⟩ ⟨#[]⟩ 0 none 0 0) (by simp [results, Tryz.results136, go_sem, y0, y1, y2, y3]) rfl ⟨none, 0, rfl, P⟩
set_option maxHeartbeats 8000000 in
theorem Gy (ts : List Tk) (hL : ∀ t ∈ ts, eN t) (rb : Nat) (a : Option Addr) (c p : Nat) (w : World) (h : PR ts rb a c p 0 w) {t : TN} {q : Nat} {er : Int} (ho : ofN (ofL ts p) = (t, q, er)) (hq : q <= ts.length) :
 Calls Tryz.prog 136 #[.pointer (some ⟨rb, 0, none⟩)] w fun e w' => ∃ ad cc, e = .returned (cH t.op t.nm t.n ad t.ks.len cc) /\ PR ts rb a c q er w' /\ aG (· = rb) w w' /\ cI w.heap.size w' ad t.ks := by
 have hrb := h.lt;have B1 := (Below.refl w.heap.size w).alloc (Nat.le_refl _) (ndG ⟨#[]⟩ ⟨#[]⟩ 0 none 0 0);have NB := heap_alloc_new w (ndG ⟨#[]⟩ ⟨#[]⟩ 0 none 0 0);have hs0 : (w.alloc (ndG ⟨#[]⟩ ⟨#[]⟩ 0 none 0 0)).heap.size = w.heap.size + 1 := World.size_alloc _ _;have H1 := h.below B1;generalize hW : w.alloc (ndG ⟨#[]⟩ ⟨#[]⟩ 0 none 0 0) = W at *;have B2 := (Below.refl W.heap.size W).alloc (Nat.le_refl _) (ndG ⟨#[]⟩ ⟨#[]⟩ 0 none 0 0);have NC := heap_alloc_new W (ndG ⟨#[]⟩ ⟨#[]⟩ 0 none 0 0);have ND := (B2.block w.heap.size (by omega)).trans NB;have hs1 : (W.alloc (ndG ⟨#[]⟩ ⟨#[]⟩ 0 none 0 0)).heap.size = W.heap.size + 1 := World.size_alloc _ _;have H2 := H1.below B2;have BB : Below w.heap.size w (W.alloc (ndG ⟨#[]⟩ ⟨#[]⟩ 0 none 0 0)) := B1.trans (B2.mono (by omega))
 have CO : ∀ V, gQ V a ts -> Calls Tryz.prog 165 #[.slice a ts.length c, .int .i64 p] V fun e w' => Below V.heap.size V w' /\ ∃ ad cc, e = .returned (.tuple #[cH t.op t.nm t.n ad t.ks.len cc, .int .i64 (q : Nat), .int .i64 er]) /\ cI V.heap.size w' ad t.ks := fun V hV =>
  (IZ ts hL a c p h.n h.p V hV).mono fun e w' hh => by
   have := Gv hh.1;rw [ho] at this;exact this
 have C1 := aA (CO W.drew (H1.below (⟨rfl, rfl, rfl, Nat.le_refl _, fun _ _ => rfl⟩ : Below W.heap.size W W.drew)).reads);have C2 := aA (CO (W.alloc (ndG ⟨#[]⟩ ⟨#[]⟩ 0 none 0 0)).drew (H2.below (⟨rfl, rfl, rfl, Nat.le_refl _, fun _ _ => rfl⟩ : Below _ (W.alloc (ndG ⟨#[]⟩ ⟨#[]⟩ 0 none 0 0)) (W.alloc (ndG ⟨#[]⟩ ⟨#[]⟩ 0 none 0 0)).drew)).reads);have H := aA H1;have G := aA H2;have N0 := aA NB;have N1 := aA NC;have N2 := aA ND;have BV := aA B1;have BW := aA BB;have hpos := h.p;have hnn := h.n;have HW := aA hW;have HS0 := aA hs0;have HS1 := aA hs1;obtain ⟨⟨c0, c1, c2⟩, f0, f1, f2⟩ := cS H1.r;have d0 := (cS H2.r).1.1;have d1 := (cS H2.r).1.2.1;clear h H1 H2 NB NC ND B1 B2 BB ho hW hs0 hs1 CO hL
 go_enter Tryz.func136, Tryz.ntmps136
 go_upto_region 1 with fail
 rw [HW.out]
 go_wp2_with fail
 go_region_law (first
  | (go_simp
     go_at_call 165
     refine C1.out.mono ?_;rintro e w2 ⟨hb2, ad, cc, rfl, hr⟩;have hb3 : Below W.heap.size W w2 := ⟨hb2.os, hb2.tape, hb2.output, hb2.size, hb2.block⟩;have H3 := aA (H.out.below hb3);have hz3 := hb3.size;have hzz := HS0.out;have M0 := aA ((hb3.block w.heap.size (by omega)).trans N0.out);have B3 := aA (BV.out.trans (hb3.mono (by omega)));have ZZ := aA hz3;have R3 := aA (show cI W.heap.size w2 ad t.ks from hr);clear hb2 hb3 hr hz3 hzz)
  | (go_simp
     go_at_call 165
     refine C2.out.mono ?_;rintro e w2 ⟨hb2, ad, cc, rfl, hr⟩;have hb3 : Below (W.alloc (ndG ⟨#[]⟩ ⟨#[]⟩ 0 none 0 0)).heap.size (W.alloc (ndG ⟨#[]⟩ ⟨#[]⟩ 0 none 0 0)) w2 := ⟨hb2.os, hb2.tape, hb2.output, hb2.size, hb2.block⟩;have H3 := aA (G.out.below hb3);have hz3 := hb3.size;have hzz := HS0.out;have hzy := HS1.out;have M1 := aA ((hb3.block W.heap.size (by omega)).trans N1.out);have M0 := aA ((hb3.block w.heap.size (by omega)).trans N2.out);have B3 := aA (BW.out.trans (hb3.mono (by omega)));have ZZ := aA hz3;obtain ⟨⟨n0, n1, n2, n3⟩, z0, z1, z2, z3⟩ := aJ M1.out;have R3 := aA (show cI (W.alloc (ndG ⟨#[]⟩ ⟨#[]⟩ 0 none 0 0)).heap.size w2 ad t.ks from hr);clear hb2 hb3 hr hz3 hzz hzy)
  | fail)
 all_goals first
  | (skip
     have BA := (Below.refl w2.heap.size w2).alloc (Nat.le_refl _) (ndG t.op t.nm t.n ad t.ks.len cc);have K3 := aA (H3.out.below BA);have B4 := aA (show Below w.heap.size w (w2.alloc (ndG t.op t.nm t.n ad t.ks.len cc)) from B3.out.alloc (by have := ZZ.out; have := HS0.out; omega) _);have N4 := aA (heap_alloc_new w2 (ndG t.op t.nm t.n ad t.ks.len cc));have M4 := aA ((BA.block w.heap.size (by have := ZZ.out; have := HS0.out; omega)).trans M0.out);have R4 := aA ((R3.out.kept BA).mono (show w.heap.size + 1 <= W.heap.size by have := HS0.out; omega));have hzw : w.heap.size + 1 <= (w2.alloc (ndG t.op t.nm t.n ad t.ks.len cc)).heap.size := by rw [World.size_alloc]; have := ZZ.out; have := HS0.out; omega
     have ZX := aA hzw;clear BA hzw;generalize hX : w2.alloc (ndG t.op t.nm t.n ad t.ks.len cc) = X at K3 B4 N4 M4 ZX R4;generalize hBX : w2.heap.size = BX at N4;have HX := aA hX;have HBX := aA hBX;have LX := aA (show w.heap.size < BX by have := ZZ.out; have := HS0.out; omega);clear hX hBX C1 C2 c0 c1 c2 f0 f1 f2 d0 d1
     go_upto_region 4 with fail
     obtain ⟨⟨c0, c1, c2⟩, f0, f1, f2⟩ := cS K3.out.r;have K5 := aA ((K3.out.setP q hq).setE er);have KS := aA (((aG.refl (· = rb) X).setCell (p := ⟨rb, 1, none⟩) (.inl rfl) (.int .i64 (q : Nat))).setCell (p := ⟨rb, 2, none⟩) (.inl rfl) (.int .i64 er));have N5 := aA (KS.out.heap N4.out (by have := LX.out; omega));have M5 := aA (KS.out.heap M4.out (by omega));have R5 := aA (R4.out.keptS KS.out (fun k hk => by omega))
     go_upto_region 5 with fail
     obtain ⟨⟨n0, n1, n2, n3⟩, -⟩ := aJ N5.out;obtain ⟨⟨r0, r1, r2, r3⟩, z0, z1, z2, z3⟩ := aJ M5.out
     go_wp2_with fail
     have hk6 := vL B4.out KS.out ZX.out;have P := sV (cc := cc) hrb K5.out hk6 R5.out;obtain ⟨⟨y0, y1, y2, y3⟩, -⟩ := aJ (aP M5.out (.string t.op) (.string t.nm) (.int .i64 t.n) (.slice ad t.ks.len cc));exact bodyPost_ret (v := cH t.op t.nm t.n ad t.ks.len cc) (by simp [results, Tryz.results136, go_sem, y0, y1, y2, y3]) rfl ⟨ad, cc, rfl, P⟩)
  | (skip
     have KP := qF w2 W.heap.size t.op t.nm t.n ad t.ks.len cc;have K3 := aA (H3.out.kept KP (fun k hk => by have := HS0.out; omega));have B4 := aA (B3.out.trans (KP.below (B := w.heap.size) (fun b hb => by have := HS0.out; omega) (by have := ZZ.out; have := HS1.out; have := HS0.out; omega)));have N4 := aA (Hb M1.out t.op t.nm t.n ad t.ks.len cc);have M4 := aA (KP.heap M0.out (by have := HS0.out; omega));have R4 := aA ((R3.out.keptS KP (fun k hk => by have := HS1.out; omega)).mono (show w.heap.size + 1 <= _ by have := HS0.out; have := HS1.out; omega));have hzw : w.heap.size + 1 <= (Bg w2 W.heap.size t.op t.nm t.n ad t.ks.len cc).heap.size := by have := KP.size; have := ZZ.out; have := HS1.out; have := HS0.out; omega
     have ZX := aA hzw;clear KP hzw;obtain ⟨X, hX⟩ : ∃ X, Bg w2 W.heap.size t.op t.nm t.n ad t.ks.len cc = X := ⟨_, rfl⟩;rw [hX] at K3 B4 N4 M4 ZX R4;have hX2 : (((w2.setCell ⟨W.heap.size, 0, none⟩ (.string t.op)).setCell ⟨W.heap.size, 1, none⟩ (.string t.nm)).setCell ⟨W.heap.size, 2, none⟩ (.int .i64 t.n)).setCell ⟨W.heap.size, 3, none⟩ (.slice ad t.ks.len cc) = X := hX;have LX := aA (show w.heap.size < W.heap.size by have := HS0.out; omega);rw [hX2];clear hX hX2 C1 C2 c0 c1 c2 f0 f1 f2 d0 d1 n0 n1 n2 n3 z0 z1 z2 z3
     go_upto_region 4 with fail
     obtain ⟨⟨c0, c1, c2⟩, f0, f1, f2⟩ := cS K3.out.r;have K5 := aA ((K3.out.setP q hq).setE er);have KS := aA (((aG.refl (· = rb) X).setCell (p := ⟨rb, 1, none⟩) (.inl rfl) (.int .i64 (q : Nat))).setCell (p := ⟨rb, 2, none⟩) (.inl rfl) (.int .i64 er));have N5 := aA (KS.out.heap N4.out (by have := LX.out; omega));have M5 := aA (KS.out.heap M4.out (by omega));have R5 := aA (R4.out.keptS KS.out (fun k hk => by omega))
     go_upto_region 5 with fail
     obtain ⟨⟨n0, n1, n2, n3⟩, -⟩ := aJ N5.out;obtain ⟨⟨r0, r1, r2, r3⟩, z0, z1, z2, z3⟩ := aJ M5.out
     go_wp2_with fail
     have hk6 := vL B4.out KS.out ZX.out;have P := sV (cc := cc) hrb K5.out hk6 R5.out;obtain ⟨⟨y0, y1, y2, y3⟩, -⟩ := aJ (aP M5.out (.string t.op) (.string t.nm) (.int .i64 t.n) (.slice ad t.ks.len cc));exact bodyPost_ret (v := cH t.op t.nm t.n ad t.ks.len cc) (by simp [results, Tryz.results136, go_sem, y0, y1, y2, y3]) rfl ⟨ad, cc, rfl, P⟩)
theorem nH (ts : List Tk) (hL : ∀ t ∈ ts, eN t) (rb : Nat) (a : Option Addr) (c : Nat) (s : RS) (w : World) (h : PS ts rb a c s w) :
 Calls Tryz.prog 136 #[.pointer (some ⟨rb, 0, none⟩)] w fun e w' => ∃ ad cc, e = .returned (cH (cE ts s).1.op (cE ts s).1.nm (cE ts s).1.n ad (cE ts s).1.ks.len cc) /\ PS ts rb a c (cE ts s).2 w' /\ aG (· = rb) w w' /\ cI w.heap.size w' ad (cE ts s).1.ks := by
 by_cases hb : s.bad = 0
 · have hp : s.pos <= ts.length := by have := h.p; rw [jS hb] at this; exact this
   obtain ⟨e1, e2, e3⟩ := Hl hb hp
   have hq : (ofN (ofL ts s.pos)).2.1 <= ts.length := by
    cases ho : ofL ts s.pos with
    | ok t q => exact (Bk hp).1 t q ho
    | bad q er => exact ((Bk hp).2 q er ho).1
   have h' : PR ts rb a c s.pos 0 w := by
    have := h;unfold PS at this;rw [jS hb, hb] at this;exact this
   refine (Gy ts hL rb a c s.pos w h' (t := (cE ts s).1) (q := atR (cE ts s).2) (er := (cE ts s).2.bad) (by rw [e1, e2, e3]) (by rw [e2]; exact hq)).mono fun e w' hh => hh
 · rw [gC hb]
   exact Bo ts rb a c (atR s) s.bad w h hb
end
end Go.Proofs.YtapcjnoaofmmiaaGreatDoor
namespace Go
section
variable {P : Program} {ops : Array Oper} {Q : Exit -> Act -> World -> Prop} {md : Region.Mode} {S : World -> Prop}
theorem aB {i : Nat} {oi : Oper} {d : Option Tmp} {v : Value} {fuel : Nat} {listed : Array Bool} {a : Act} {w : World} (hi : ops[i]? = some oi) (hd : oi.dst = d)
 (hs : Region.noSelect ops = true) (hf : Region.free md ops listed i = true) (hr : (Region.ready md ops listed).contains i = true)
 (hQ : ∀ c a w, Q (.panic c) (a.put d v) w -> Q (.panic c) a w) (hy : YieldsIf P ops S oi v a) (hS : S w)
 (h : wpAnyH P md ops Q S fuel (listed.setIfInBounds i true) (a.put d v) w) : wpAnyH P md ops Q S (fuel + 1) listed a w := by
 subst hd;exact wpAnyH_take hi hs hf hr hQ hy hS h
end
end Go
namespace Go.Proofs.YtapcjnoaofmmiaaGreatDoor
section
open Go.RowKit
theorem rB {c : UInt8} {r : List UInt8} (h : cU c = true \/ bL c = true) : aR ⟨(c :: r).toArray⟩ 0 0 = none := by
 have hc : ¬ c = 61 /\ ¬ c = 33 /\ ¬ c = 60 /\ ¬ c = 62 := by
  rcases h with h | h
  · unfold cU at h
    simp only [Bool.and_eq_true, decide_eq_true_eq] at h;refine ⟨?_, ?_, ?_, ?_⟩ <;> (rintro rfl; revert h; decide)
  · unfold bL at h
    simp only [Bool.and_eq_true, decide_eq_true_eq] at h;refine ⟨?_, ?_, ?_, ?_⟩ <;> (rintro rfl; revert h; decide)
 have hx : ∀ (y : UInt8) (m : List UInt8), c ≠ y -> ¬ (⟨(c :: r).toArray⟩ : ByteArray) = ⟨(y :: m).toArray⟩ := fun y m hn e => by
  have := congrArg (fun z => z.data.toList) e;simp at this;exact hn this.1
 unfold aR;rw [if_neg (hx 61 [] hc.1), if_neg (hx 33 [61] hc.2.1), if_neg (hx 60 [] hc.2.2.1), if_neg (hx 60 [61] hc.2.2.1), if_neg (hx 62 [] hc.2.2.2), if_neg (hx 62 [61] hc.2.2.2)]
def AM (t : Tk) : Prop := (aR ⟨t.text.toArray⟩ 0 0).isSome = true -> t.kind = 3
theorem Hg {l : List UInt8} {n : Nat} {k v : Int} (p : Nat) (hn : 1 <= n) (h : dJ l = .tok k n v) : AM ⟨k, l.take n, v, p⟩ := by
 intro ho;cases l with
 | nil => cases h
 | cons c r =>
   obtain ⟨m, rfl⟩ : ∃ m, n = m + 1 := ⟨n - 1, by omega⟩;simp only at ho |-
   rw [List.take_succ_cons] at ho;simp only [dJ] at h
   split at h
   · rename_i hc
     rw [rB (.inl hc)] at ho;cases ho
   · split at h
     · rename_i hd
       rw [rB (.inr hd)] at ho;cases ho
     · unfold oA at h
       split at h
       · cases h
       · injection h with h1
         exact h1.symm
theorem Kq (l : List UInt8) (p : Nat) : ∀ ts, dX l p = .ok ts -> ∀ t ∈ ts, AM t := by
 refine lP (C := fun l p => ∀ ts, dX l p = .ok ts -> ∀ t ∈ ts, AM t) ?_ ?_ ?_ ?_ l.length l p (Nat.le_refl _)
 · intro p ts h
   rw [iX] at h; cases h;intro t ht; cases ht
 · intro r p ih ts h
   rw [dC] at h;exact ih ts h
 · intro l p e h1 h0 hf ts h
   rw [pJ h0 h1 hf] at h; cases h
 · intro l p k n v h1 h0 hf hn hl ih ts h
   rw [nI h1 hn hf] at h;obtain ⟨ts', h', rfl⟩ := t6 h;intro t ht
   rcases List.mem_cons.1 ht with rfl | ht
   · exact Hg p hn hf
   · exact ih ts' h' t ht
theorem Jd {l : List UInt8} {ts : List Tk} (h : jL l = .ok ts) : ∀ t ∈ ts, AM t := by
 unfold jL at h
 split at h
 · cases h
 · exact Kq _ _ _ h
def opS (L : List Tk) (s : RS) : RS := goR (bZ ((bK L (atR s)).kind == 3 && (aR ⟨(bK L (atR s)).text.toArray⟩ 0 0).isSome) 2 s)
theorem JH {L : List Tk} (hO : ∀ t ∈ L, AM t) (s : RS) : (cE L (opS L (cE L s).2)).2 = (fJ L s).2 /\
 ((fJ L s).2.bad = 0 -> (fJ L s).1 = ⟨⟨(bK L (atR (cE L s).2)).text.toArray⟩, (cE L s).1, (cE L (opS L (cE L s).2)).1⟩) := by
 unfold fJ;obtain ⟨t, u, hu⟩ : ∃ t u, cE L s = (t, u) := ⟨_, _, rfl⟩;rw [hu];simp only
 by_cases hb : u.bad = 0
 · rw [if_pos hb]
   have hop : opS L u = if opB L u.pos = true then dD u else cO 2 u := by
    unfold opS opB bK;rw [jS hb];cases hp : L[u.pos]? with
    | none =>
      rw [if_neg (by decide)];show goR (bZ false 2 u) = _;rw [gA, fN (cX (by decide) hb)]
    | some t =>
      simp only [Option.getD_some]
      by_cases ho : (aR ⟨t.text.toArray⟩ 0 0).isSome = true
      · have hk : (t.kind == 3) = true := by rw [hO t (List.mem_of_getElem? hp) ho]; rfl
        rw [if_pos ho, hk, Bool.true_and, ho, jJ, Ax hb]
      · have ho' : (aR ⟨t.text.toArray⟩ 0 0).isSome = false := by simpa using ho
        rw [if_neg ho, ho', Bool.and_false, gA, fN (cX (by decide) hb)]
   rw [hop];cases ho : opB L u.pos with
   | true =>
     rw [if_pos rfl, if_pos rfl];refine ⟨rfl, fun _ => ?_⟩;rw [jS hb]
     have : gD L u.pos = (bK L u.pos).text := by
      unfold gD bK;cases L[u.pos]? <;> rfl
     rw [this]
   | false =>
     rw [if_neg (by decide), if_neg (by decide), gC (cX (by decide) hb)];exact ⟨rfl, fun h => absurd h (cX (by decide) hb)⟩
 · have e : opS L u = u := by
    unfold opS;rw [gB hb, fN hb]
   rw [if_neg hb, e, gC hb];exact ⟨rfl, fun h => absurd h hb⟩
abbrev cdP (d : CD) (a1 : Option Addr) (c1 : Nat) (a2 : Option Addr) (c2 : Nat) : Obj := .cells #[.string d.op, .string d.a.op, .string d.a.nm, .int .i64 d.a.n, .slice a1 d.a.ks.len c1, .string d.b.op, .string d.b.nm, .int .i64 d.b.n, .slice a2 d.b.ks.len c2] 98
abbrev La (W : World) (B : Nat) (d : CD) (a1 : Option Addr) (c1 : Nat) (a2 : Option Addr) (c2 : Nat) : World := ((((((((W.setCell ⟨B, 0, none⟩ (.string d.op)).setCell ⟨B, 1, none⟩ (.string d.a.op)).setCell ⟨B, 2, none⟩ (.string d.a.nm)).setCell ⟨B, 3, none⟩ (.int .i64 d.a.n)).setCell ⟨B, 4, none⟩ (.slice a1 d.a.ks.len c1)).setCell ⟨B, 5, none⟩ (.string d.b.op)).setCell ⟨B, 6, none⟩ (.string d.b.nm)).setCell ⟨B, 7, none⟩ (.int .i64 d.b.n)).setCell ⟨B, 8, none⟩ (.slice a2 d.b.ks.len c2)
theorem Ew (W : World) (B : Nat) (d : CD) (a1 : Option Addr) (c1 : Nat) (a2 : Option Addr) (c2 : Nat) : aG (· = B) W (La W B d a1 c1 a2 c2) :=
 ((((((((((aG.refl (· = B) W).setCell (p := ⟨B, 0, none⟩) (.inl rfl) _).setCell (p := ⟨B, 1, none⟩) (.inl rfl) _).setCell (p := ⟨B, 2, none⟩) (.inl rfl) _).setCell (p := ⟨B, 3, none⟩) (.inl rfl) _).setCell (p := ⟨B, 4, none⟩) (.inl rfl) _).setCell (p := ⟨B, 5, none⟩) (.inl rfl) _).setCell (p := ⟨B, 6, none⟩) (.inl rfl) _).setCell (p := ⟨B, 7, none⟩) (.inl rfl) _).setCell (p := ⟨B, 8, none⟩) (.inl rfl) _)
theorem lF {W : World} {B : Nat} {l : List Value} {t : TypeId} (h : W.heap[B]? = some (.cells l.toArray t (0, 0))) (i : Nat) (v : Value) : (W.setCell ⟨B, i, none⟩ v).heap[B]? = some (.cells (l.set i v).toArray t (0, 0)) := by
 have := heap_setCell_same W B i _ t v h;simpa using this
theorem Gz {W : World} {B : Nat} {v0 v1 v2 v3 v4 v5 v6 v7 v8 : Value} {t : TypeId} (h : W.heap[B]? = some (.cells #[v0, v1, v2, v3, v4, v5, v6, v7, v8] t (0, 0))) (d : CD) (a1 : Option Addr) (c1 : Nat) (a2 : Option Addr) (c2 : Nat) :
 (La W B d a1 c1 a2 c2).heap[B]? = some (.cells #[.string d.op, .string d.a.op, .string d.a.nm, .int .i64 d.a.n, .slice a1 d.a.ks.len c1, .string d.b.op, .string d.b.nm, .int .i64 d.b.n, .slice a2 d.b.ks.len c2] t (0, 0)) :=
 lF (lF (lF (lF (lF (lF (lF (lF (lF (l := [v0, v1, v2, v3, v4, v5, v6, v7, v8]) h 0 _) 1 _) 2 _) 3 _) 4 _) 5 _) 6 _) 7 _) 8 _
set_option maxHeartbeats 16000000 in
set_option maxRecDepth 100000 in
theorem Hq (ts : List Tk) (hL : ∀ t ∈ ts, eN t) (rb : Nat) (a : Option Addr) (c : Nat) (s : RS) (w : World) (h : PS ts rb a c s w) {t1 t2 : TN} {s1 s4 : RS} {X : ByteArray}
 (h1 : cE ts s = (t1, s1)) (h2 : cE ts (opS ts s1) = (t2, s4)) (hX : X = ⟨(bK ts (atR s1)).text.toArray⟩) :
 Calls Tryz.prog 137 #[.pointer (some ⟨rb, 0, none⟩)] w fun e w' => ∃ ad1 cc1 ad2 cc2, e = .returned (.agg #[.string X, .string t1.op, .string t1.nm, .int .i64 t1.n, .slice ad1 t1.ks.len cc1, .string t2.op, .string t2.nm, .int .i64 t2.n, .slice ad2 t2.ks.len cc2]) /\
  PS ts rb a c s4 w' /\ aG (· = rb) w w' /\ cI w.heap.size w' ad1 t1.ks /\ cI w.heap.size w' ad2 t2.ks := by
 have hrb := h.lt;have B1 := (Below.refl w.heap.size w).alloc (Nat.le_refl _) (cdP ⟨⟨#[]⟩, aV, aV⟩ none 0 none 0);have NB := heap_alloc_new w (cdP ⟨⟨#[]⟩, aV, aV⟩ none 0 none 0);have hs0 : (w.alloc (cdP ⟨⟨#[]⟩, aV, aV⟩ none 0 none 0)).heap.size = w.heap.size + 1 := World.size_alloc _ _;have H1 := aA (h.below B1);have K1 := aA (aF B1 (· = rb));generalize hW : w.alloc (cdP ⟨⟨#[]⟩, aV, aV⟩ none 0 none 0) = W at *;have HW := aA hW;have HNR := aA NB;have CE1 := aA (nH ts hL rb a c s W H1.out);rw [h1] at CE1;have HC2 := aA h2;have HX := aA hX;clear h B1 NB hW h1 h2 hX
 go_enter Tryz.func137, Tryz.ntmps137
 go_upto_region 1 with fail
 rw [show w.alloc (.cells #[.string ⟨#[]⟩, .string ⟨#[]⟩, .string ⟨#[]⟩, .int .i64 0, .slice none 0 0, .string ⟨#[]⟩, .string ⟨#[]⟩, .int .i64 0, .slice none 0 0] 98) = W from HW.out]
 go_wp2_with fail
 refine CE1.out.mono ?_;rintro e w1 ⟨ad1, cc1, rfl, P2, k2, r2⟩;have BA := (Below.refl w1.heap.size w1).alloc (Nat.le_refl _) (ndG t1.op t1.nm t1.n ad1 t1.ks.len cc1);have NA := heap_alloc_new w1 (ndG t1.op t1.nm t1.n ad1 t1.ks.len cc1);have hs1 : (w1.alloc (ndG t1.op t1.nm t1.n ad1 t1.ks.len cc1)).heap.size = w1.heap.size + 1 := World.size_alloc _ _;have hz1 := k2.size;have P3 := aA (P2.below BA);have K3 := aA ((K1.out.trans k2 (fun i hi _ => hi)).trans (aF BA (· = rb)) (fun i hi _ => hi));have NR3 := aA ((BA.block w.heap.size (by omega)).trans (k2.heap HNR.out (by omega)));have R3 := aA ((show cI (w.heap.size + 1) w1 ad1 t1.ks by rw [<- hs0]; exact r2).kept BA);clear P2 k2 r2 BA CE1 HNR K1 H1
 go_upto_region 2 with fail
 rw [show w1.alloc (.cells #[.string t1.op, .string t1.nm, .int .i64 t1.n, .slice ad1 t1.ks.len cc1] 25) = w1.alloc (ndG t1.op t1.nm t1.n ad1 t1.ks.len cc1) from rfl];generalize w1.alloc (ndG t1.op t1.nm t1.n ad1 t1.ks.len cc1) = W1 at *;generalize w1.heap.size = B at *;have hBw : w.heap.size < B := by omega
 have HNB := aA NA;have CN := kT ts rb a c (atR s1) s1.bad W1 P3.out;have TL : (bK ts (atR s1)).kind = 3 -> atR s1 < ts.length := fun hk => wJ (by rw [hk]; decide)
 have hX := HX.out;have h2 := HC2.out;unfold opS at h2;obtain ⟨t, ht⟩ : ∃ t, bK ts (atR s1) = t := ⟨_, rfl⟩;rw [ht] at CN TL hX h2;rw [oU, <- hX] at CN;rw [<- hX] at h2;obtain ⟨k, s', nn, pp⟩ := t;simp only at CN TL h2;have HN := aA CN;have HT := aA TL;have HC := aA h2;clear CN TL h2 hX ht HX HC2 NA hz1
 go_wp2_with fail
 refine HN.out.mono ?_;rintro e w2 ⟨rfl, hb⟩;have BA := (Below.refl w2.heap.size w2).alloc (Nat.le_refl _) (tkO k X nn pp);have NA := heap_alloc_new w2 (tkO k X nn pp);have hs2 : (w2.alloc (tkO k X nn pp)).heap.size = w2.heap.size + 1 := World.size_alloc _ _;have hz2 := hb.size;have P4 := aA ((P3.out.below hb).below BA);have K4 := aA ((K3.out.trans (aF hb (· = rb)) (fun i hi _ => hi)).trans (aF BA (· = rb)) (fun i hi _ => hi));have NR4 := aA ((BA.block w.heap.size (by omega)).trans ((hb.block w.heap.size (by omega)).trans NR3.out));have NB4 := aA ((BA.block B (by omega)).trans ((hb.block B (by omega)).trans HNB.out));have R4 := aA ((R3.out.kept hb).kept BA);clear hb BA P3 K3 NR3 HNB R3 HN
 go_upto_region 3 with fail
 generalize w2.alloc (tkO k X nn pp) = W2 at *;generalize w2.heap.size = T at *;have hTB : B < T := by omega
 obtain ⟨⟨x0, x1, x2, x3⟩, -⟩ := aJ NA;have HNT := aA NA;clear NA hz2;have CM := aA (fun so => fS ts rb a c s1 so 2 (by decide) W2 P4.out);obtain ⟨z, hz⟩ : ∃ z, ((k == 3) && (aR X 0 0).isSome) = z := ⟨_, rfl⟩;rw [hz] at HC;have HZ := aA hz
 have CS := aA (fun V (hV : PS ts rb a c (bZ z 2 s1) V) => i1 ts rb a c (bZ z 2 s1) (fun hh => by
  rw [iB];have h2 := jX (by decide) hh;have h3 := HZ.out;rw [h2.1, Bool.and_eq_true] at h3;have := HT.out (by simpa using h3.1);rw [jS h2.2] at this;exact this) V hV)
 clear hz
 go_cut [] (fun wc => Hid (PS ts rb a c (bZ z 2 s1) wc) /\ Hid (aG (· = rb) W2 wc))
 case first =>
  cases hk3 : (k == 3) with
  | true =>
    have q : (k == 3) = true := hk3;have MO := aA (vB X W2);have hz : (aR X 0 0).isSome = z := by rw [<- HZ.out, hk3, Bool.true_and]
    rw [hz] at MO;clear hk3 hz
    go_wp2_with fail
    refine MO.out.mono ?_;rintro e w3 ⟨rfl, rfl⟩
    go_wp2_with fail
    refine (CM.out z).mono ?_;rintro e w4 ⟨rfl, P5, k5⟩;have P6 := aA P5;have K6 := aA k5;clear P5 k5
    go_wp2_with fail
    go_meet
    case rel => exact ⟨P6, K6⟩
  | false =>
    have q : (k == 3) = false := hk3;have hz : false = z := by rw [<- HZ.out, hk3, Bool.false_and]
    subst hz;clear hk3
    go_wp2_with fail
    refine (CM.out false).mono ?_;rintro e w4 ⟨rfl, P5, k5⟩;have P6 := aA P5;have K6 := aA k5;clear P5 k5
    go_wp2_with fail
    go_meet
    case rel => exact ⟨P6, K6⟩
 case rest =>
  obtain ⟨P5, K5⟩ := hcut;clear x0 x1 x2 x3 CM
  go_wp2_with fail
  refine (CS.out _ P5.out).mono ?_;rintro e w4 ⟨rfl, P6, k6⟩;have hz5 := Nat.le_trans K5.out.size k6.size;have PD := aA (show PS ts rb a c (goR (bZ z 2 s1)) w4.drew from P6.drewN 1);have KD := aA (show aG (· = rb) w w4.drew from ((K4.out.trans K5.out (fun i hi _ => hi)).trans k6 (fun i hi _ => hi)).drewN 1);have NT5 := k6.heap (K5.out.heap HNT.out (by omega)) (by omega);have NB5 := k6.heap (K5.out.heap NB4.out (by omega)) (by omega);have NR5 := k6.heap (K5.out.heap NR4.out (by omega)) (by omega);have NTD := aA (show w4.drew.heap[T]? = _ from NT5);have NBD := aA (show w4.drew.heap[B]? = _ from NB5);have NRD := aA (show w4.drew.heap[w.heap.size]? = _ from NR5);have RD := aA (show cI (w.heap.size + 1) w4.drew ad1 t1.ks from (R4.out.keptS K5.out (fun k hk => by omega)).keptS (k6.drewN 1) (fun k hk => by omega));have HZ5 := aA (show w.heap.size + 1 <= w4.drew.heap.size by show _ <= w4.heap.size; omega)
  have CE := aA (fun V (hV : PS ts rb a c (goR (bZ z 2 s1)) V) => by
   have := nH ts hL rb a c _ V hV;rw [HC.out] at this;exact this)
  obtain ⟨⟨-, x1, -, -⟩, -⟩ := aJ NT5;obtain ⟨⟨y0, y1, y2, y3⟩, -⟩ := aJ NB5;clear P6 k6 NT5 NB5 NR5 P5 K5 CS P4 K4 NR4 NB4 R4 HNT hz5
  go_upto_region 5 with fail
  refine wp_region_held_drew (S := fun V => V.cell? ⟨T, 1, none⟩ = some (.string X) /\ V.cell? ⟨B, 0, none⟩ = some (.string t1.op) /\ V.cell? ⟨B, 1, none⟩ = some (.string t1.nm) /\ V.cell? ⟨B, 2, none⟩ = some (.int .i64 t1.n) /\ V.cell? ⟨B, 3, none⟩ = some (.slice ad1 t1.ks.len cc1)) (by kernel_rfl) ⟨x1, y0, y1, y2, y3⟩ (fun hHeld => ?_);refine aB (i := 0) (d := some 21) (v := .pointer (some ⟨T, 1, none⟩)) rfl rfl (by kernel_rfl) (by kernel_rfl) (by kernel_rfl) (fun _ _ _ h => h) (Or.inl ⟨by rfl, by intro w hSw; obtain ⟨x1, y0, y1, y2, y3⟩ := hSw; go_simp⟩) hHeld ?_;simp only [Act.put, LE, LF, LG];refine aB (i := 1) (d := some 22) (v := .string X) rfl rfl (by kernel_rfl) (by kernel_rfl) (by kernel_rfl) (fun _ _ _ h => h) (Or.inl ⟨by rfl, by intro w hSw; obtain ⟨x1, y0, y1, y2, y3⟩ := hSw; go_simp⟩) hHeld ?_;simp only [Act.put, LE, LF, LG];refine aB (i := 2) (d := some 23) (v := cH t1.op t1.nm t1.n ad1 t1.ks.len cc1) rfl rfl (by kernel_rfl) (by kernel_rfl) (by kernel_rfl) (fun _ _ _ h => h) (Or.inl ⟨by rfl, by intro w hSw; obtain ⟨x1, y0, y1, y2, y3⟩ := hSw; go_simp⟩) hHeld ?_;simp only [Act.put, LE, LF, LG];refine aB (i := 3) (d := some 24) (v := .pointer (some ⟨rb, 0, none⟩)) rfl rfl (by kernel_rfl) (by kernel_rfl) (by kernel_rfl) (fun _ _ _ h => h) (Or.inl ⟨by rfl, by intro w hSw; obtain ⟨x1, y0, y1, y2, y3⟩ := hSw; go_simp⟩) hHeld ?_;simp only [Act.put, LE, LF, LG];refine wpAnyH_ready (rs := [4]) (by kernel_rfl) (by simp) ?_;refine AllReadyH.cons (o := _) rfl (fun K hK => ?_) AllReadyH.nil
  go_simp
  refine (CE.out _ PD.out).mono ?_;rintro e w5 ⟨ad2, cc2, rfl, P6, k6, r6⟩;have NT6 := k6.heap NTD.out (by omega);have NB6 := k6.heap NBD.out (by omega);have NR6 := k6.heap NRD.out (by omega);have K6 := KD.out.trans k6 (fun i hi _ => hi);have R16 := RD.out.keptS k6 (fun k hk => by omega)
  have cc : w5.cell? ⟨T, 1, none⟩ = some (.string X) /\ w5.cell? ⟨B, 0, none⟩ = some (.string t1.op) /\ w5.cell? ⟨B, 1, none⟩ = some (.string t1.nm) /\ w5.cell? ⟨B, 2, none⟩ = some (.int .i64 t1.n) /\ w5.cell? ⟨B, 3, none⟩ = some (.slice ad1 t1.ks.len cc1) := by
   obtain ⟨⟨-, u1, -, -⟩, -⟩ := aJ NT6;obtain ⟨⟨v0, v1, v2, v3⟩, -⟩ := aJ NB6;exact ⟨u1, v0, v1, v2, v3⟩
  refine hK.out _ _ cc (fun hHeld2 => ?_)
  try simp only [Act.put, LE, LF, LG]
  clear hK K;refine aB (i := 5) (d := some 26) (v := .agg #[.string X, .string t1.op, .string t1.nm, .int .i64 t1.n, .slice ad1 t1.ks.len cc1, .string t2.op, .string t2.nm, .int .i64 t2.n, .slice ad2 t2.ks.len cc2]) rfl rfl (by kernel_rfl) (by kernel_rfl) (by kernel_rfl) (fun _ _ _ h => h) (Or.inl ⟨by rfl, by intro w hSw; obtain ⟨x1, y0, y1, y2, y3⟩ := hSw; go_simp⟩) hHeld2 ?_;simp only [Act.put, LE, LF, LG];have KP := Ew w5 w.heap.size ⟨X, t1, t2⟩ ad1 cc1 ad2 cc2;have NR7 := Gz NR6 ⟨X, t1, t2⟩ ad1 cc1 ad2 cc2;obtain ⟨z0, z1, z2, z3, z4, z5, z6, z7, z8⟩ := Lf NR6;obtain ⟨o0, o1, o2, o3, o4, o5, o6, o7, o8⟩ := kR NR6;have CC := And.intro (KP.cell hHeld2.1 (by show ¬ T = _; omega)) (And.intro (KP.cell hHeld2.2.1 (by show ¬ B = _; omega)) (And.intro (KP.cell hHeld2.2.2.1 (by show ¬ B = _; omega)) (And.intro (KP.cell hHeld2.2.2.2.1 (by show ¬ B = _; omega)) (KP.cell hHeld2.2.2.2.2 (by show ¬ B = _; omega)))));refine wpAnyH_ready (rs := [6]) (by kernel_rfl) (by simp) ?_;refine AllReadyH.cons (o := _) rfl (fun K hK => ?_) AllReadyH.nil
  go_simp
  refine hK.out _ _ CC (fun hHeld3 => ?_)
  try simp only [Act.put, LE, LF, LG]
  clear hK K;refine wpAnyH_done (by kernel_rfl) ?_ _;have FIN := aA (And.intro (P6.kept KP (fun k hk => by omega)) (And.intro (K6.trans (KP.mono (T := fun i => w.heap.size <= i) (fun i hi _ => by omega)) (fun i hi hl => by omega)) (And.intro ((R16.keptS KP (fun k hk => by omega)).mono (show w.heap.size <= w.heap.size + 1 by omega)) ((r6.keptS KP (fun k hk => by have := HZ5.out; omega)).mono (show w.heap.size <= _ by have := HZ5.out; omega)))));obtain ⟨d0, d1, d2, d3, d4, d5, d6, d7, d8⟩ := kR NR7;clear hHeld hHeld2 hHeld3 CC cc KP NT6 NB6 NR6 NR7 K6 R16 P6 k6 r6 z0 z1 z2 z3 z4 z5 z6 z7 z8 o0 o1 o2 o3 o4 o5 o6 o7 o8
  go_wp2
  exact bodyPost_ret (v := .agg #[.string X, .string t1.op, .string t1.nm, .int .i64 t1.n, .slice ad1 t1.ks.len cc1, .string t2.op, .string t2.nm, .int .i64 t2.n, .slice ad2 t2.ks.len cc2]) (by simp [results, Tryz.results137, go_sem, d0, d1, d2, d3, d4, d5, d6, d7, d8]) rfl ⟨ad1, cc1, ad2, ⟨cc2, rfl⟩, FIN.out⟩
theorem Fo (ts : List Tk) (hL : ∀ t ∈ ts, eN t) (hO : ∀ t ∈ ts, AM t) (rb : Nat) (a : Option Addr) (c : Nat) (s : RS) (w : World) (h : PS ts rb a c s w) :
 Calls Tryz.prog 137 #[.pointer (some ⟨rb, 0, none⟩)] w fun e w' => ∃ (d : CD) (ad1 : Option Addr) (cc1 : Nat) (ad2 : Option Addr) (cc2 : Nat), e = .returned (.agg #[.string d.op, .string d.a.op, .string d.a.nm, .int .i64 d.a.n, .slice ad1 d.a.ks.len cc1, .string d.b.op, .string d.b.nm, .int .i64 d.b.n, .slice ad2 d.b.ks.len cc2]) /\
  PS ts rb a c (fJ ts s).2 w' /\ aG (· = rb) w w' /\ cI w.heap.size w' ad1 d.a.ks /\ cI w.heap.size w' ad2 d.b.ks /\ ((fJ ts s).2.bad = 0 -> (fJ ts s).1 = d) := by
 obtain ⟨h1, h2⟩ := JH hO s;refine (Hq ts hL rb a c s w h (t1 := (cE ts s).1) (s1 := (cE ts s).2) (t2 := (cE ts (opS ts (cE ts s).2)).1) (s4 := (cE ts (opS ts (cE ts s).2)).2) rfl rfl rfl).mono ?_;rintro e w' ⟨ad1, cc1, ad2, cc2, he, hp, hk, r1, r2⟩;rw [h1] at hp;exact ⟨⟨_, _, _⟩, ad1, cc1, ad2, cc2, he, hp, hk, r1, r2, h2⟩
structure QC where
 a1 : Option Addr
 c1 : Nat
 a2 : Option Addr
 c2 : Nat
abbrev eV (d : CD) (q : QC) : List Value := [.string d.op, .string d.a.op, .string d.a.nm, .int .i64 d.a.n, .slice q.a1 d.a.ks.len q.c1, .string d.b.op, .string d.b.nm, .int .i64 d.b.n, .slice q.a2 d.b.ks.len q.c2]
def cdL : List CD -> List QC -> List Value
 | d :: r, q :: s => eV d q ++ cdL r s
 | _, _ => []
def l7 (G : Nat -> Prop) (w : World) (l : List CD) (qs : List QC) : Prop := ∀ (j : Nat) (d : CD) (q : QC), l[j]? = some d -> qs[j]? = some q -> aH G w q.a1 d.a.ks /\ aH G w q.a2 d.b.ks
theorem pS : ∀ (l : List CD) (q : List QC), ∀ u ∈ cdL l q, u.oneCell' = true
 | [], _, u, h => by simp [cdL] at h
 | _ :: _, [], u, h => by simp [cdL] at h
 | d :: r, p :: s, u, h => by
   rw [cdL] at h
   rcases List.mem_append.1 h with h | h
   · simp only [eV, List.mem_cons, List.not_mem_nil, or_false] at h
     rcases h with rfl | rfl | rfl | rfl | rfl | rfl | rfl | rfl | rfl <;> rfl
   · exact pS r s u h
theorem xY : ∀ (l m : List CD) (q p : List QC), q.length = l.length -> cdL (l ++ m) (q ++ p) = cdL l q ++ cdL m p
 | [], m, [], p, _ => rfl
 | [], _, _ :: _, _, h => by simp at h
 | _ :: _, _, [], _, h => by simp at h
 | d :: r, m, q :: s, p, h => by rw [List.cons_append, List.cons_append, cdL, cdL, xY r m s p (by simpa using h), List.append_assoc]
theorem Cf : ∀ (l : List CD) (q : List QC) {k : Nat} {d : CD} (_ : q.length = l.length) (_ : l[k]? = some d), ∃ p, q[k]? = some p /\ ∀ i u, (eV d p)[i]? = some u -> (cdL l q)[k * 9 + i]? = some u
 | [], _, k, d, _, hk => by simp at hk
 | _ :: _, [], k, d, h, _ => by simp at h
 | d :: r, p :: s, 0, d', h, hk => by
   cases hk;refine ⟨p, rfl, fun i u hu => ?_⟩
   have hi : i < 9 := by
    have := (List.getElem?_eq_some_iff.1 hu).1;exact this
   rw [cdL, Nat.zero_mul, Nat.zero_add, List.getElem?_append_left (by simpa [eV] using hi)];exact hu
 | d :: r, p :: s, k + 1, d', h, hk => by
   obtain ⟨p', h1, h2⟩ := Cf r s (k := k) (d := d') (by simpa using h) (by simpa using hk);refine ⟨p', by simpa using h1, fun i u hu => ?_⟩;rw [cdL, List.getElem?_append_right (by simp [eV]; omega)];have : (k + 1) * 9 + i - (eV d p).length = k * 9 + i := by simp [eV]; omega
   rw [this];exact h2 i u hu
theorem l7.keptS {S G : Nat -> Prop} {w w' : World} {l : List CD} {qs : List QC} (h : l7 G w l qs) (hk : aG S w w') (hS : ∀ k, S k -> ¬ G k) : l7 G w' l qs := fun j d q h1 h2 => ⟨(h j d q h1 h2).1.keptS hk hS, (h j d q h1 h2).2.keptS hk hS⟩
theorem l7.imp {G H : Nat -> Prop} {w : World} {l : List CD} {qs : List QC} (h : l7 G w l qs) (hG : ∀ b, b < w.heap.size -> G b -> H b) : l7 H w l qs := fun j d q h1 h2 => ⟨(h j d q h1 h2).1.imp hG, (h j d q h1 h2).2.imp hG⟩
theorem l7.snoc {G : Nat -> Prop} {w : World} {l : List CD} {qs : List QC} (h : l7 G w l qs) (hl : qs.length = l.length) {d : CD} {q : QC} (h1 : aH G w q.a1 d.a.ks) (h2 : aH G w q.a2 d.b.ks) : l7 G w (l ++ [d]) (qs ++ [q]) := fun j d' q' e1 e2 => by
 rcases Nat.lt_or_ge j l.length with hj | hj
 · rw [List.getElem?_append_left hj] at e1
   rw [List.getElem?_append_left (by omega)] at e2;exact h j d' q' e1 e2
 · rw [List.getElem?_append_right hj] at e1
   rw [List.getElem?_append_right (by omega)] at e2;rw [hl] at e2;cases hm : j - l.length with
   | zero =>
     rw [hm] at e1 e2;cases e1;cases e2;exact ⟨h1, h2⟩
   | succ m => rw [hm] at e1; simp at e1
theorem sO {G : Nat -> Prop} {w : World} {B : Nat} {e : TypeId} {a : Option Addr} {c : Nat} {l : List CD} {qs : List QC} (ho : w.ownsRow B e 9 (.slice a l.length c) l.length (cdL l qs)) (hl : qs.length = l.length) (hk : l7 G w l qs) (hG : ∀ b, a = some ⟨b, 0, none⟩ -> G b) : eI G w a l := by
 by_cases hn : l = []
 · exact .inl hn
 right
 have h0 : ∃ d, l[0]? = some d := by
  cases l with
  | nil => exact absurd rfl hn
  | cons d r => exact ⟨d, rfl⟩
 obtain ⟨d0, hd0⟩ := h0;obtain ⟨p0, -, hp0⟩ := Cf l qs hl hd0;obtain ⟨g, hg, c0⟩ := cV ho (hp0 0 _ rfl);have hlt : g < w.heap.size := by have := World.block_lt_of_cell? w _ c0; simpa using this
 refine ⟨g, 0, hg, hG g hg, hlt, fun j d hj => ?_⟩;obtain ⟨p, hp, hc⟩ := Cf l qs hl hj;obtain ⟨k1, k2⟩ := hk j d p hj hp
 have get : ∀ i u, (eV d p)[i]? = some u -> w.cell? ⟨g, 0 + j * 9 + i, none⟩ = some u := fun i u hu => by
  obtain ⟨g', hg', c⟩ := cV ho (hc i u hu);rw [hg] at hg';cases hg';rw [Nat.zero_add];exact c
 exact ⟨p.a1, p.c1, p.a2, p.c2, ⟨get 0 _ rfl, get 1 _ rfl, get 2 _ rfl, get 3 _ rfl, get 4 _ rfl, get 5 _ rfl, get 6 _ rfl, get 7 _ rfl, get 8 _ rfl⟩, k1, k2⟩
theorem qL {L : List Tk} {s : RS} (h : ¬ s.bad = 0) : (fJ L s).2 = s := by
 unfold fJ;rw [gC h];simp only;rw [if_neg h]
def mB (L : List Tk) (n : Nat) (s : RS) : RS := goR (bZ (decide (n < 4)) 4 (bZ (gU L (if n = 0 then lB else rT) s.pos) 2 s))
theorem Ca {L : List Tk} {acc : List CD} {s : RS} {R : AO} (hb : s.bad = 0) (hlt : s.pos < L.length) (hk : acc.length <= 4) (h : dZ L (6 - acc.length) acc s = R) {d : CD}
 (hd : (fJ L (mB L acc.length s)).2.bad = 0 -> (fJ L (mB L acc.length s)).1 = d) : dZ L (6 - (acc ++ [d]).length) (acc ++ [d]) (fJ L (mB L acc.length s)).2 = R := by
 obtain ⟨f, hf⟩ : ∃ f, 6 - acc.length = f + 1 + 1 := ⟨4 - acc.length, by omega⟩;have hf2 : 6 - (acc ++ [d]).length = f + 1 := by rw [List.length_append, List.length_singleton]; omega
 have e0 : dZ L (f + 1 + 1) acc s = (if gU L (if acc.length = 0 then lB else rT) s.pos = false then .bad s.pos 2 else if 4 <= acc.length then .bad s.pos 4 else dZ L (f + 1) (acc ++ [(fJ L (dD s)).1]) (fJ L (dD s)).2) := by
  rw [dZ, if_neg (not_not_intro hb), if_neg (show ¬ L.length <= s.pos by omega)]
 rw [hf, e0] at h;rw [hf2, <- h];unfold mB at hd |-
 cases hw : gU L (if acc.length = 0 then lB else rT) s.pos with
 | false =>
   rw [if_pos rfl]
   have e : goR (bZ (decide (acc.length < 4)) 4 (bZ false 2 s)) = cO 2 s := by
    rw [gA, gB (cX (by decide) hb), fN (cX (by decide) hb)]
   rw [e, qL (cX (by decide) hb), eW (cX (by decide) hb)];unfold cO;rw [if_pos hb]
 | true =>
   rw [if_neg (by decide)];rw [hw] at hd
   by_cases h4 : 4 <= acc.length
   · rw [if_pos h4]
     have e : goR (bZ (decide (acc.length < 4)) 4 (bZ true 2 s)) = cO 4 s := by
      rw [decide_eq_false (by omega), gA, jJ, fN (cX (by decide) hb)]
     rw [e, qL (cX (by decide) hb), eW (cX (by decide) hb)];unfold cO;rw [if_pos hb]
   · rw [if_neg h4]
     have e : goR (bZ (decide (acc.length < 4)) 4 (bZ true 2 s)) = dD s := by
      rw [decide_eq_true (by omega), jJ, jJ, Ax hb]
     rw [e] at hd |-
     by_cases hc : (fJ L (dD s)).2.bad = 0
     · rw [hd hc]
     · rw [eW hc, eW hc]
theorem Jw {s : RS} (h : (goR s).bad = 0) : s.bad = 0 := Decidable.byContradiction fun hx => by rw [fN hx] at h; exact hx h
theorem FM {L : List Tk} {n : Nat} {s : RS} (h : (fJ L (mB L n s)).2.bad = 0) : n < 4 := by
 have h1 : (mB L n s).bad = 0 := Decidable.byContradiction fun hx => by rw [qL hx] at h; exact hx h
 unfold mB at h1;have h2 := Jw h1;have := (jX (by decide) h2).1;simpa using this
abbrev GC (n : Nat) (wa : Option Addr) (b : Nat) : Prop := n <= b /\ wa ≠ some ⟨b, 0, none⟩
structure OCW (ts : List Tk) (rb : Nat) (a : Option Addr) (c : Nat) (w : World) (acc : List CD) (wa : Option Addr) (wc : Nat) (qs : List QC) (s : RS) (V : World) : Prop where
 r : PS ts rb a c s V
 k : aG (· = rb) w V
 own : V.ownsRow w.heap.size 98 9 (.slice wa acc.length wc) acc.length (cdL acc qs)
 ql : qs.length = acc.length
 kd : l7 (GC w.heap.size wa) V acc qs
 h : rb < w.heap.size
section
variable {ts : List Tk} {rb : Nat} {a : Option Addr} {c : Nat} {w V V' : World} {acc : List CD} {wa : Option Addr} {wc : Nat} {qs : List QC} {s s' : RS}
theorem OCW.lo (h : OCW ts rb a c w acc wa wc qs s V) {b : Nat} (hb : (Value.slice wa acc.length wc).ownBlock = some b) : w.heap.size <= b /\ b < V.heap.size := h.own.lt b hb
theorem OCW.own' (h : OCW ts rb a c w acc wa wc qs s V) {b : Nat} (hb : (Value.slice wa acc.length wc).ownBlock = some b) : wa = some ⟨b, 0, none⟩ := by
 rcases h.own.2 with ⟨q1, _⟩ | ⟨g, cap, cur, q1, _⟩
 · rw [q1] at hb; cases hb
 · rw [q1] at hb
   cases hb;simp only [Value.slice.injEq] at q1;exact q1.1
theorem OCW.step (h : OCW ts rb a c w acc wa wc qs s V) (hp : PS ts rb a c s' V') (hk : aG (· = rb) V V') : OCW ts rb a c w acc wa wc qs s' V' := by
 have h1 := h.h;exact ⟨hp, h.k.trans hk (fun i hi _ => hi), dW (row := some rb) h.own (hk.mono (fun i hi _ => by rw [hi])) (fun b hb he => by have := (h.lo hb).1; have := Option.some.inj he; omega), h.ql, h.kd.keptS hk (fun k hk hg => by have := hg.1; omega), h1⟩
theorem OCW.below (h : OCW ts rb a c w acc wa wc qs s V) (hb : Below V.heap.size V V') : OCW ts rb a c w acc wa wc qs s V' := h.step (h.r.below hb) (aF hb _)
theorem OCW.drewN (h : OCW ts rb a c w acc wa wc qs s V) (n : Nat) : OCW ts rb a c w acc wa wc qs s (V.drewN n) := h.step (h.r.drewN n) ((aG.refl _ V).drewN n)
theorem OCW.push (h : OCW ts rb a c w acc wa wc qs s V) {d : CD} {q : QC} {a' : Option Addr} {c' : Nat} (hk : aG (fun b => (Value.slice wa acc.length wc).ownBlock = some b) V V')
 (hrow : V'.ownsRow w.heap.size 98 9 (.slice a' (acc.length + 1) c') (acc.length + 1) (cdL acc qs ++ eV d q))
 (hnew : ∀ b, (Value.slice a' (acc.length + 1) c').ownBlock = some b -> (Value.slice wa acc.length wc).ownBlock = some b \/ V.heap.size <= b)
 (h1 : aH (GC w.heap.size wa) V q.a1 d.a.ks) (h2 : aH (GC w.heap.size wa) V q.a2 d.b.ks) :
 OCW ts rb a c w (acc ++ [d]) a' c' (qs ++ [q]) s V' := by
 have e1 := h.h;have own' : ∀ b, a' = some ⟨b, 0, none⟩ -> (Value.slice a' (acc.length + 1) c').ownBlock = some b := fun b hb => by rw [hb]; rfl
 have len : (acc ++ [d]).length = acc.length + 1 := by simp
 have kd := h.kd.snoc h.ql h1 h2;refine ⟨h.r.kept hk (fun k hk => by have := (h.lo hk).1; omega), h.k.trans (hk.mono (T := fun i => w.heap.size <= i) (fun i hi _ => (h.lo hi).1)) (fun i hi hl => by omega), ?_, by rw [List.length_append, List.length_append, h.ql]; rfl, ?_, e1⟩
 · rw [len, xY _ _ _ _ h.ql]
   have e : cdL [d] [q] = eV d q := by simp [cdL]
   rw [e];exact hrow
 · exact ((kd.imp (H := fun b => GC w.heap.size wa b /\ a' ≠ some ⟨b, 0, none⟩) (fun b hb hg => ⟨hg, fun e => by
    rcases hnew b (own' b e) with h' | h'
    · exact hg.2 (h.own' h')
    · omega⟩)).keptS hk (fun k hk hg => hg.1.2 (h.own' hk))).imp (fun b _ hg => ⟨hg.1.1, hg.2⟩)
theorem OCW.fresh (h : OCW ts rb a c w acc wa wc qs s V) {b : Nat} (hb : V.heap.size <= b) : GC w.heap.size wa b := by
 have := h.k.size;refine ⟨by omega, fun e => ?_⟩;have := (h.own.lt b (by rw [e]; rfl)).2;omega
end
def Lg : Value -> Nat
 | .slice _ n _ => n
 | _ => 0
theorem EJ : ∃ i z, Tryz.prog.info? 98 = some i /\ i.zero = some z /\ i.size = 9 /\ i.bytes = 144 /\ z.cells.size = 9 := by
 have h : (Tryz.prog.info? 98).map (fun i => (i.zero.map (fun z => z.cells.size), i.size, i.bytes)) = some (some 9, 9, 144) := by kernel_rfl
 cases hx : Tryz.prog.info? 98 with
 | none => rw [hx] at h; cases h
 | some i =>
   rw [hx] at h;simp only [Option.map_some, Option.some.injEq, Prod.mk.injEq] at h;obtain ⟨h1, h2, h3⟩ := h;cases hz : i.zero with
   | none => rw [hz] at h1; cases h1
   | some z =>
     rw [hz] at h1;exact ⟨i, z, rfl, hz, h2, h3, by simpa using h1⟩
theorem Ea (W : World) (d : CD) (q : QC) : ∀ j u, (eV d q)[j]? = some u -> (W.alloc (.cells #[.string d.op, .string d.a.op, .string d.a.nm, .int .i64 d.a.n, .slice q.a1 d.a.ks.len q.c1, .string d.b.op, .string d.b.nm, .int .i64 d.b.n, .slice q.a2 d.b.ks.len q.c2] 98)).cell? ((⟨W.heap.size, 0, none⟩ : Addr).add j) = some u := fun j u hu => by
 obtain ⟨p0, p1, p2, p3, p4, p5, p6, p7, p8⟩ := kR (heap_alloc_new W (cdP d q.a1 q.c1 q.a2 q.c2));rw [Addr.add_lit]
 match j, hu with
 | 0, h => cases h; exact p0
 | 1, h => cases h; exact p1
 | 2, h => cases h; exact p2
 | 3, h => cases h; exact p3
 | 4, h => cases h; exact p4
 | 5, h => cases h; exact p5
 | 6, h => cases h; exact p6
 | 7, h => cases h; exact p7
 | 8, h => cases h; exact p8
 | n + 9, h => simp at h
def KV (ts : List Tk) (rb : Nat) (a : Option Addr) (c : Nat) (R : AO) (w : World) (e : Ending) (w' : World) : Prop :=
 ∃ (acc : List CD) (wa : Option Addr) (wc : Nat) (qs : List QC) (s : RS), e = .returned (.slice wa acc.length wc) /\ OCW ts rb a c w acc wa wc qs s w' /\ (match R with | .bad p er => ¬ s.bad = 0 /\ atR s = p /\ s.bad = er | .ok l => s.bad = 0 /\ acc = l)
def rR (n : Nat) : ByteArray := if n = 0 then ⟨#[119, 104, 101, 114, 101]⟩ else ⟨#[97, 110, 100]⟩
theorem AS (n : Nat) : (rR n).data.toList = (if n = 0 then lB else rT) := by unfold rR; split <;> rfl
set_option maxHeartbeats 16000000 in
set_option maxRecDepth 100000 in
theorem Cb (ts : List Tk) (hL : ∀ t ∈ ts, eN t) (hO : ∀ t ∈ ts, AM t) (rb : Nat) (a : Option Addr) (c : Nat) (s0 : RS) (w : World) (h : PS ts rb a c s0 w) {R : AO} (hR : dZ ts 6 [] s0 = R) :
 Calls Tryz.prog 85 #[.pointer (some ⟨rb, 0, none⟩)] w (KV ts rb a c R w) := by
 have K0 := aA (show OCW ts rb a c w [] none 0 [] s0 w from ⟨h, aG.refl _ _, ⟨rfl, .inl ⟨rfl, rfl⟩⟩, rfl, fun j d q h1 _ => by simp at h1, h.lt⟩);have HR := aA (show dZ ts (6 - ([] : List CD).length) [] s0 = R from hR);clear h hR
 go_enter Tryz.func85, Tryz.ntmps85
 go_wp2_with fail
 go_loopw [3, 4, 5] (fun v3 v4 v5 wr => ∃ (acc : List CD) (wa : Option Addr) (wc' : Nat) (qs : List QC) (s : RS) (y : Value), v3 = .slice wa acc.length wc' /\ v4 = .string (rR acc.length) /\ v5 = y /\ acc.length <= 5 /\ Hid (s.bad = 0 -> acc.length <= 4) /\ Hid (dZ ts (6 - acc.length) acc s = R) /\ Hid (OCW ts rb a c w acc wa wc' qs s wr)) (fun v3 _ _ _ => 10 - Lg v3)
 case atStart => exact ⟨[], none, 0, [], s0, _, rfl, rfl, rfl, by decide, aA (fun _ => by decide), HR, K0⟩
 case round =>
  obtain ⟨acc, wa, wc', qs, s, y, rfl, rfl, rfl, h5, H4, HE, HK⟩ := hrel;clear K0 HR;obtain ⟨⟨c0, c1, c2⟩, f0, f1, f2⟩ := cS HK.out.r.r;have hnn := HK.out.r.n;have hpp := HK.out.r.p
  by_cases hb : s.bad = 0
  · have q : ((s.bad : Int) == 0) = true := by rw [hb]; rfl
    have hat := jS hb;obtain ⟨p, hp⟩ : ∃ p, atR s = p := ⟨_, rfl⟩;rw [hp] at c1 hpp
    by_cases hlt : p < ts.length
    · have a1 : (p : Int) < (ts.length : Int) := by omega
      have hps : s.pos = p := by rw [<- hat, hp]
      have h4 := H4.out hb;have NX := kT ts rb a c (atR s) s.bad;obtain ⟨t, ht⟩ : ∃ t, bK ts (atR s) = t := ⟨_, rfl⟩;have WT := FL ts (rR acc.length).data.toList (atR s);rw [ht] at WT;rw [ht, oU] at NX;obtain ⟨X, hX⟩ : ∃ X : ByteArray, ⟨t.text.toArray⟩ = X := ⟨_, rfl⟩;have hXl : t.text = X.data.toList := by rw [<- hX]
      rw [hX] at NX;rw [hXl, <- Lib.toList_data, <- Lib.toList_data] at WT;obtain ⟨k, s', nn, pp⟩ := t;simp only at NX WT;have TL : k = 1 -> p < ts.length := fun _ => hlt
      obtain ⟨wb, hwb⟩ : ∃ z, gU ts (if acc.length = 0 then lB else rT) s.pos = z := ⟨_, rfl⟩;have e0 : gU ts (rR acc.length).toList (atR s) = wb := by rw [Lib.toList_data, AS, hp, <- hps]; exact hwb
      rw [e0] at WT;have HWT := aA WT;have HWB := aA hwb;have HN := aA NX;have HB := aA hb;have HLT := aA (show s.pos < ts.length by omega);have HP := aA hp;have H44 := aA h4;clear hat hp NX ht WT hX hXl hwb TL hb hps e0
      go_upto_region 4 with (go_quiet (fail))
      have K1 := aA (HK.out.drewN nq);have N1 := aA (HN.out _ K1.out.r);clear HK c0 c1 c2 f0 f1 f2 HN;generalize wr.drewN nq = W0 at *
      go_wp2_with fail
      refine N1.out.mono ?_;rintro e w1 ⟨rfl, hb1⟩;have K2 := K1.out.below hb1;have BA := (Below.refl w1.heap.size w1).alloc (Nat.le_refl _) (tkO k X nn pp);have NA := heap_alloc_new w1 (tkO k X nn pp);have K3 := aA (K2.below BA);obtain ⟨⟨x0, x1, x2, x3⟩, -⟩ := aJ NA;clear hb1 K2 BA N1 K1 NA
      go_upto_region 5 with fail
      generalize w1.alloc (tkO k X nn pp) = W1 at *
      go_cut [] (fun wc => Hid (OCW ts rb a c w acc wa wc' qs (bZ wb 2 s) wc))
      case first =>
       have CM := aA (fun so => fS ts rb a c s so 2 (by decide) W1 K3.out.r);cases hk1 : (k == 1) with
       | true =>
         have q1 : (k == 1) = true := hk1;have hz : (X.toList == (rR acc.length).toList) = wb := by rw [HWT.out, hk1, Bool.true_and]
         clear hk1
         go_wp2_with fail
         refine (CM.out wb).mono ?_;rintro e w2 ⟨rfl, P, k5⟩;have K4 := aA (K3.out.step P k5);clear P k5
         go_wp2_with fail
         go_meet
         case rel => exact K4
       | false =>
         have q1 : (k == 1) = false := hk1;have hz : wb = false := by rw [HWT.out, hk1, Bool.false_and]
         subst hz;clear hk1
         go_wp2_with fail
         refine (CM.out false).mono ?_;rintro e w2 ⟨rfl, P, k5⟩;have K4 := aA (K3.out.step P k5);clear P k5
         go_wp2_with fail
         go_meet
         case rel => exact K4
      case rest =>
       have K4 := hcut;clear x0 x1 x2 x3 K3 hcut;obtain ⟨z4, hz4⟩ : ∃ z, decide (acc.length < 4) = z := ⟨_, rfl⟩;have hz5 : decide ((acc.length : Int) < 4) = z4 := by rw [<- hz4]; exact decide_eq_decide.2 (by omega)
       have HS3 := aA (show goR (bZ z4 4 (bZ wb 2 s)) = mB ts acc.length s by unfold mB; rw [HWB.out, hz4]);have CM := aA (fS ts rb a c (bZ wb 2 s) z4 4 (by decide) wc K4.out.r)
       go_wp2_with fail
       refine CM.out.mono ?_;rintro e w2 ⟨rfl, P, k5⟩;have K5 := aA (K4.out.step P k5);have CS := aA (i1 ts rb a c (bZ z4 4 (bZ wb 2 s)) (fun _ => by rw [iB, iB]; exact HLT.out) w2 P);clear P k5 CM K4 hz4 hz5
       go_wp2_with fail
       refine CS.out.mono ?_;rintro e w3 ⟨rfl, P, k5⟩;rw [HS3.out] at P;have K6 := aA (K5.out.step P k5);have CO := aA (Fo ts hL hO rb a c (mB ts acc.length s) w3 P);clear P k5 CS K5;have HCS := aA (fun d hd => Ca (d := d) HB.out HLT.out H44.out HE.out hd);obtain ⟨⟨cd, s5⟩, hds⟩ : ∃ q : CD × RS, fJ ts (mB ts acc.length s) = q := ⟨_, rfl⟩;have HF := aA (fun h : s5.bad = 0 => FM (L := ts) (n := acc.length) (s := s) (by rw [hds]; exact h));rw [hds] at CO HCS;clear hds
       go_wp2_with fail
       refine CO.out.mono ?_;rintro e v1 ⟨d, a1, c1, a2, c2, rfl, hp, hk, h1, h2, hd⟩;have BU := (Below.refl v1.heap.size v1).alloc (Nat.le_refl _) (.cells #[.string d.op, .string d.a.op, .string d.a.nm, .int .i64 d.a.n, .slice a1 d.a.ks.len c1, .string d.b.op, .string d.b.nm, .int .i64 d.b.n, .slice a2 d.b.ks.len c2] 98);have K7 := K6.out.step hp hk;have K8 := aA (K7.below BU);have R1 := aA ((aH.imp (G := fun b => w3.heap.size <= b) h1 (fun b _ hb => K6.out.fresh hb)).kept BU);have R2 := aA ((aH.imp (G := fun b => w3.heap.size <= b) h2 (fun b _ hb => K6.out.fresh hb)).kept BU);have HE2 := aA (HCS.out d hd);have und := Tryz.underlying26;obtain ⟨i, zv, hi, hz0, hz1, hz2, hz3⟩ := EJ;have OWN := aA (show (v1.alloc (.cells #[.string d.op, .string d.a.op, .string d.a.nm, .int .i64 d.a.n, .slice a1 d.a.ks.len c1, .string d.b.op, .string d.b.nm, .int .i64 d.b.n, .slice a2 d.b.ks.len c2] 98)).ownsRow w.heap.size 98 9 (.slice wa acc.length wc') acc.length (cdL acc qs) from K8.out.own);have NEW := aA (Ea v1 d ⟨a1, c1, a2, c2⟩);have ONE := aA (fun u (hu : u ∈ eV d ⟨a1, c1, a2, c2⟩) => pS [d] [⟨a1, c1, a2, c2⟩] u (by simpa [cdL] using hu));have HBS := aA (show w.heap.size <= (v1.alloc (.cells #[.string d.op, .string d.a.op, .string d.a.nm, .int .i64 d.a.n, .slice a1 d.a.ks.len c1, .string d.b.op, .string d.b.nm, .int .i64 d.b.n, .slice a2 d.b.ks.len c2] 98)).heap.size from K8.out.k.size);clear hp hk h1 h2 hd BU K7 CO K6 HCS
       go_upto_region 9 with (first
        | (at_builtin
           refine aZ rfl _ _ 26 rfl (base := w.heap.size) und hi hz0 hz1 hz2 hz3 (by decide) (.slice wa acc.length wc') acc.length 1 1 ⟨v1.heap.size, 0, none⟩ (cdL acc qs) (eV d ⟨a1, c1, a2, c2⟩) rfl rfl OWN.out rfl NEW.out ONE.out (by unfold maxLen; omega) (by omega) HBS.out ?_;intro v4 w4 ho hg hn;obtain ⟨a', c', hv⟩ := bW ho;subst hv;have KA := (aG.refl (fun b => (Value.slice wa acc.length wc').ownBlock = some b) _).grown hg (fun k hk => .inl hk);have K11 := aA (K8.out.push KA ho hn R1.out R2.out);clear ho hg hn KA K8 R1 R2 OWN NEW ONE HBS)
        | fail)
       have l1 : (acc ++ [d]).length = acc.length + 1 := by simp
       go_wp2_with fail
       go_roundw
       case rel =>
        refine ⟨acc ++ [d], a', c', qs ++ [⟨a1, c1, a2, c2⟩], s5, _, by rw [l1], by rw [l1]; unfold rR; rw [if_neg (by omega)], rfl, by omega, aA (fun h => by rw [l1]; exact HF.out h), HE2, K11⟩
       case measure => simp only [Lg]; omega
    · have a1 : ¬ (p : Int) < (ts.length : Int) := by omega
      have a2 : decide (p < ts.length) = false := decide_eq_false hlt
      have HX := aA (show R = .ok acc by
       have := HE.out;obtain ⟨f, hf⟩ : ∃ f, 6 - acc.length = f + 1 := ⟨5 - acc.length, by omega⟩;rw [hf, dZ, if_neg (not_not_intro hb), if_pos (show ts.length <= s.pos by omega)] at this;exact this.symm)
      have HB := aA hb;clear hat hp hb
      go_wp2_with (go_quiet (fail))
      go_ret;refine ⟨acc, wa, wc', qs, s, rfl, HK.out.drewN _, ?_⟩;rw [HX.out];exact ⟨HB.out, rfl⟩
  · have q : ((s.bad : Int) == 0) = false := beq_eq_false_iff_ne.2 hb
    have HX := aA (show R = .bad s.whr s.bad by
     have := HE.out;obtain ⟨f, hf⟩ : ∃ f, 6 - acc.length = f + 1 := ⟨5 - acc.length, by omega⟩;rw [hf, eW hb] at this;exact this.symm)
    have HB := aA hb;clear hb
    go_wp2_with (go_quiet (fail))
    go_ret;refine ⟨acc, wa, wc', qs, s, rfl, HK.out.drewN _, ?_⟩;rw [HX.out];exact ⟨HB.out, oQ HB.out, rfl⟩
end
end Go.Proofs.YtapcjnoaofmmiaaGreatDoor
