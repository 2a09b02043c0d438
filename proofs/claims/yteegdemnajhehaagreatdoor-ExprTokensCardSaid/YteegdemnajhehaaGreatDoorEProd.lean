/-
  No statement: product and Sum of the document's reader, what lies deeper by hypothesis.
-/
import Derived.Test.YteegdemnajhehaaGreatDoorEFacT
namespace Go.Proofs.YteegdemnajhehaaGreatDoor
open Go.RowKit

/-- What a loop of product or Sum keeps: the reader, the result's block, the tree in hand in block C. -/
structure LW (ts : List Tk) (rb : Nat) (a : Option Addr) (c : Nat) (w0 : World) (C : Nat) (t : TN) (ad : Option Addr) (cc : Nat) (s : RS) (w : World) : Prop where
  pw : PW ts rb a c s w
  kp : Kept (· = rb) w0 w
  nb : w.heap[w0.heap.size]? = some (ndO ⟨#[]⟩ ⟨#[]⟩ 0 none 0 0)
  cb : w.heap[C]? = some (ndO t.op t.nm t.n ad t.ks.len cc)
  rk : ReadsN (fun b => w0.heap.size + 1 ≤ b ∧ b ≠ C) w ad t.ks

theorem LW.next {ts : List Tk} {rb : Nat} {a : Option Addr} {c : Nat} {w0 : World} {C : Nat} {t : TN} {ad : Option Addr} {cc : Nat} {s s' : RS} {w w' : World} (h : LW ts rb a c w0 C t ad cc s w) (hrb : rb < w0.heap.size) (hC : w0.heap.size < C) (hp : PW ts rb a c s' w') (hk : Kept (· = rb) w w') : LW ts rb a c w0 C t ad cc s' w' :=
  ⟨hp, h.kp.trans hk (fun i hi _ => hi), hk.heap h.nb (by show ¬ w0.heap.size = rb; omega), hk.heap h.cb (by show ¬ C = rb; omega), h.rk.keptS hk (fun k hk h => by omega)⟩

theorem LW.same {ts : List Tk} {rb : Nat} {a : Option Addr} {c : Nat} {w0 : World} {C : Nat} {t : TN} {ad : Option Addr} {cc : Nat} {s : RS} {w w' : World} (h : LW ts rb a c w0 C t ad cc s w) (hrb : rb < w0.heap.size) (hC : w0.heap.size < C) (hk : Kept (fun _ => False) w w') : LW ts rb a c w0 C t ad cc s w' :=
  h.next hrb hC (h.pw.kept hk) (hk.mono (fun _ h _ => h.elim))

theorem LW.lt {ts : List Tk} {rb : Nat} {a : Option Addr} {c : Nat} {w0 : World} {C : Nat} {t : TN} {ad : Option Addr} {cc : Nat} {s : RS} {w : World} (h : LW ts rb a c w0 C t ad cc s w) : C < w.heap.size := (Array.getElem?_eq_some_iff.1 h.cb).1

/-- Where a reader stands, off the memory. -/
def posW (rb : Nat) (w : World) : Nat := (intOf ((w.cell? ⟨rb, 1, none⟩).getD undef)).toNat
theorem posW_of {w : World} {b : Nat} {a : Option Addr} {l c : Nat} {s : RS} (h : IsR w b a l c s) : posW b w = s.pos := by
  unfold posW
  rw [h.cells.1.2.1]
  simp [intOf]

/-- Whether that sign stands there. -/
theorem is_at {ts : List Tk} {rb : Nat} {a : Option Addr} {c : Nat} {s : RS} (x : ByteArray) {v : Bool} (hv : isS ts x.data.toList s.pos = v) (w : World) (h : PW ts rb a c s w) :
    Calls Tryz.prog 65 #[.pointer (some ⟨rb, 0, none⟩), .string x] w fun e w' => e = .returned (.bool v) ∧ Kept (fun _ => False) w w' := by
  rw [← hv]; exact is_any ts rb a c s x w h

theorem isS_op {L : List Tk} {y : List UInt8} {p : Nat} (h : isS L y p = true) : opAt L p = y := by
  unfold isS at h
  unfold opAt
  cases e : L[p]? with
  | none => rw [e] at h; cases h
  | some t =>
    rw [e] at h
    simp only [Bool.and_eq_true, beq_iff_eq] at h
    exact h.2

/-- The memory behind a round: the two trees lie in a block of their own, the new node in C. -/
theorem LW.two {ts : List Tk} {rb : Nat} {a : Option Addr} {c : Nat} {w0 w1 w2 : World} {C : Nat} {t k : TN} {ad ad2 : Option Addr} {cc cc2 : Nat} {s s' : RS} {o : List UInt8} (hrb : rb < w0.heap.size) (hC : w0.heap.size < C) (h : LW ts rb a c w0 C t ad cc s w1)
    (hp : PW ts rb a c s' w2) (hk : Kept (· = rb) w1 w2) (hr : ReadsK w1.heap.size w2 ad2 k.ks) :
    LW ts rb a c w0 C (twoT o t k) (some ⟨w2.heap.size + 1, 0, none⟩) 2 s' (((put4 w2 C ⟨o.toArray⟩ ⟨#[]⟩ 0 (some ⟨w2.heap.size + 1, 0, none⟩) 2 2).alloc (ndO k.op k.nm k.n ad2 k.ks.len cc2)).alloc
      (.cells #[.string t.op, .string t.nm, .int .i64 t.n, .slice ad t.ks.len cc, .string k.op, .string k.nm, .int .i64 k.n, .slice ad2 k.ks.len cc2] 31)) := by
  have h2 := h.next hrb hC hp hk
  have hlt := h2.lt
  have hlt1 := h.lt
  have KP := kept_put4 w2 C ⟨o.toArray⟩ ⟨#[]⟩ 0 (some ⟨w2.heap.size + 1, 0, none⟩) 2 2
  have hp4 : (put4 w2 C ⟨o.toArray⟩ ⟨#[]⟩ 0 (some ⟨w2.heap.size + 1, 0, none⟩) 2 2).heap.size = w2.heap.size := by simp [put4]
  have hcb := four_set h2.cb (.string ⟨o.toArray⟩) (.string ⟨#[]⟩) (.int .i64 0) (.slice (some ⟨w2.heap.size + 1, 0, none⟩) 2 2)
  obtain ⟨U, hU⟩ : ∃ U, put4 w2 C ⟨o.toArray⟩ ⟨#[]⟩ 0 (some ⟨w2.heap.size + 1, 0, none⟩) 2 2 = U := ⟨_, rfl⟩
  have hcb' : U.heap[C]? = some (ndO ⟨o.toArray⟩ ⟨#[]⟩ 0 (some ⟨w2.heap.size + 1, 0, none⟩) 2 2) := by rw [← hU]; exact hcb
  rw [hU] at KP hp4 ⊢
  have B1 := (Below.refl U.heap.size U).alloc (Nat.le_refl _) (ndO k.op k.nm k.n ad2 k.ks.len cc2)
  have B2 := (Below.refl (U.alloc (ndO k.op k.nm k.n ad2 k.ks.len cc2)).heap.size _).alloc (Nat.le_refl _) (.cells #[.string t.op, .string t.nm, .int .i64 t.n, .slice ad t.ks.len cc, .string k.op, .string k.nm, .int .i64 k.n, .slice ad2 k.ks.len cc2] 31)
  have hnew := heap_alloc_new (U.alloc (ndO k.op k.nm k.n ad2 k.ks.len cc2)) (.cells #[.string t.op, .string t.nm, .int .i64 t.n, .slice ad t.ks.len cc, .string k.op, .string k.nm, .int .i64 k.n, .slice ad2 k.ks.len cc2] 31)
  have hs1 : (U.alloc (ndO k.op k.nm k.n ad2 k.ks.len cc2)).heap.size = w2.heap.size + 1 := by rw [World.size_alloc, hp4]
  rw [hs1] at hnew
  have R1 : ReadsN (fun b => w0.heap.size + 1 ≤ b ∧ b ≠ C) w2 ad2 k.ks := ReadsN.imp hr (fun b _ hb => ⟨by omega, by omega⟩)
  refine ⟨((hp.other KP (by omega)).below B1).below B2, (((h2.kp).trans KP (fun i hi hl => by omega)).alloc _).alloc _, ?_, ?_, ?_⟩
  · rw [B2.block _ (by omega), B1.block _ (by omega)]
    exact KP.heap h2.nb (by show ¬ w0.heap.size = C; omega)
  · rw [B2.block _ (by omega), B1.block _ (by omega)]
    exact hcb'
  · refine .inr ⟨_, _, rfl, readsF_two (G := fun b => w0.heap.size + 1 ≤ b ∧ b ≠ C) ⟨by omega, by omega⟩ hnew ?_ ?_⟩
    · exact ((h2.rk.keptS KP (fun k hk h => by omega)).kept B1).kept B2
    · exact ((R1.keptS KP (fun k hk h => by omega)).kept B1).kept B2

set_option maxHeartbeats 16000000 in
set_option maxRecDepth 100000 in
theorem prod_any (ts : List Tk) (rb : Nat) (a : Option Addr) (c : Nat) (s : RS) (w : World) (h : PW ts rb a c s w) (hcnt : s.bad = 0 → s.cnt ≤ 32)
    (ih : ∀ s' w', s.pos ≤ s'.pos → (s'.bad = 0 → s'.cnt ≤ 32) → PW ts rb a c s' w' → Calls Tryz.prog 86 #[.pointer (some ⟨rb, 0, none⟩)] w' (PE ts rb a c (pE ts .fac s') w')) :
    Calls Tryz.prog 64 #[.pointer (some ⟨rb, 0, none⟩)] w (PE ts rb a c (pE ts .prod s) w) := by
  have TOP : (pE ts .fac s).2.bad = 0 → (pE ts .fac s).2.pos ≤ ts.length ∧ (pE ts .fac s).2.cnt ≤ 32 := fun hq => by
    by_cases hb : s.bad = 0
    · exact (pE_top ts .fac s hb (h.f.1 hb) (hcnt hb)).2.2 hq
    · rw [pE_stay ts _ s hb] at hq; exact absurd hq hb
  have hpos1 := pE_pos ts .fac s
  have hQ := pE_prod ts s
  obtain ⟨q1, hq1⟩ : ∃ q1, pE ts .fac s = q1 := ⟨_, rfl⟩
  rw [hq1] at hQ TOP hpos1
  rw [hQ]
  obtain ⟨Q, hQQ⟩ : ∃ Q, pE ts (.prodL q1.1) q1.2 = Q := ⟨_, rfl⟩
  rw [hQQ]
  have K1 := kept_below ((Below.refl w.heap.size w).alloc (Nat.le_refl _) (ndO ⟨#[]⟩ ⟨#[]⟩ 0 none 0 0)) (· = rb)
  have H1 := h.below ((Below.refl _ w).alloc (Nat.le_refl _) (ndO ⟨#[]⟩ ⟨#[]⟩ 0 none 0 0))
  have hrb := h.r.lt
  have NB := heap_alloc_new w (ndO ⟨#[]⟩ ⟨#[]⟩ 0 none 0 0)
  have hsz : (w.alloc (ndO ⟨#[]⟩ ⟨#[]⟩ 0 none 0 0)).heap.size = w.heap.size + 1 := World.size_alloc _ _
  generalize hW : w.alloc (ndO ⟨#[]⟩ ⟨#[]⟩ 0 none 0 0) = W at *
  have C0 := Lib.hid (ih s W (Nat.le_refl _) hcnt H1)
  rw [hq1] at C0
  have IH := Lib.hid ih
  have hn := h.f.2.2.2
  have HQ := Lib.hid hQQ
  have T1 := Lib.hid TOP
  clear hQ hQQ hq1 H1 h ih TOP hcnt
  go_enter Tryz.func64, Tryz.ntmps64
  go_wp2_with fail
  refine C0.out.mono ?_
  rintro e w1 ⟨ad, cc, rfl, h1, hk1, hr1⟩
  have hs1 := hk1.size
  have BN := (Below.refl w1.heap.size w1).alloc (Nat.le_refl _) (ndO q1.1.op q1.1.nm q1.1.n ad q1.1.ks.len cc)
  have hCw : w.heap.size < w1.heap.size := by omega
  have L1 := Lib.hid (show LW ts rb a c w w1.heap.size q1.1 ad cc q1.2 (w1.alloc (ndO q1.1.op q1.1.nm q1.1.n ad q1.1.ks.len cc)) from
    ⟨h1.below BN, (K1.trans hk1 (fun i hi _ => hi)).alloc _, (BN.block _ hCw).trans (hk1.heap NB (by show ¬ w.heap.size = rb; omega)), heap_alloc_new w1 _, (ReadsN.imp hr1 (fun b hb hl => ⟨by omega, by omega⟩)).kept BN⟩)
  clear K1 NB hsz C0 h1 hk1 hr1 BN hW hs1
  go_wp2_with fail
  generalize w1.alloc (ndO q1.1.op q1.1.nm q1.1.n ad q1.1.ks.len cc) = V at L1 ⊢
  generalize w1.heap.size = C at L1 hCw ⊢
  go_loopw [4] (fun _ wr => ∃ (n : TN) (s2 : RS) (ad2 : Option Addr) (cc2 : Nat), Hid (LW ts rb a c w C n ad2 cc2 s2 wr) ∧ Hid (pE ts (.prodL n) s2 = Q) ∧ Hid (s2.bad = 0 → s2.pos ≤ ts.length ∧ s2.cnt ≤ 32) ∧ s.pos ≤ s2.pos) (fun _ wr => 2 * ts.length + 2 - posW rb wr)
  case atStart => exact ⟨q1.1, q1.2, ad, cc, L1, HQ, T1, hpos1⟩
  case round =>
    obtain ⟨n, s2, ad2, cc2, hL, hE, hT, hps⟩ := hrel
    obtain ⟨⟨c0, c1, c2, c3, c4⟩, f1, f2, f3, f4⟩ := hL.out.pw.r.cells
    by_cases hb : s2.bad = 0
    · have qb : ((s2.bad : Int) == 0) = true := by rw [hb]; rfl
      have hb' := Lib.hid hb
      have hT2 := hT.out hb
      cases h42 : isS ts [42] s2.pos with
      | true =>
        have CI0 := Lib.hid (is_at (ts := ts) (a := a) (c := c) ⟨#[42]⟩ (v := true) h42 wr hL.out.pw)
        go_wp2_with fail
        refine CI0.out.mono ?_
        rintro e x0 ⟨rfl, hk0⟩
        have LA0 := Lib.hid (hL.out.same hrb hCw hk0)
        clear hk0 CI0
        have hlt := isS_lt h42
        have hop := isS_op h42
        have EQ := Lib.hid (show pE ts (.prodL (twoT [42] n (pE ts .fac (tickR s2)).1)) (pE ts .fac (tickR s2)).2 = Q by
          rw [← hE.out]
          conv => rhs; rw [pE_prodL, if_pos (by rw [hb]; unfold isM; rw [h42]; simp), hop])
        obtain ⟨⟨c0, c1, c2, c3, c4⟩, f1, f2, f3, f4⟩ := LA0.out.pw.r.cells
        obtain ⟨b, off, ha, hbr, -, p1, -, -⟩ := tok_cells LA0.out.pw.t hlt
        have htx : (⟨ts[s2.pos].text.toArray⟩ : ByteArray) = ⟨#[42]⟩ := by
          have : opAt ts s2.pos = ts[s2.pos].text := by unfold opAt; rw [List.getElem?_eq_getElem hlt]
          rw [← this, hop]
        rw [htx] at p1
        rw [ha] at c0
        have a3 : (s2.pos : Int) < (ts.length : Int) := by omega
        have a4 : (0 : Int) ≤ (s2.pos : Int) := by omega
        have a5 : ((s2.pos : Int)).toNat = s2.pos := by omega
        clear hop htx h42
        go_wp2_with (go_quiet (fail))
        have LB := Lib.hid (LA0.out.same hrb hCw ((Kept.refl (fun _ => False) x0).drewN nq))
        have CT := Lib.hid (tick_any ts rb a c s2 (x0.drewN nq) LB.out.pw (fun _ => ⟨hlt, hT2.2⟩) (by omega))
        refine CT.out.mono ?_
        rintro e w4 ⟨rfl, h4, hk4⟩
        have LC := Lib.hid (LB.out.next hrb hCw h4 hk4)
        have htp := tick_pos s2
        have CI := Lib.hid (IH.out (tickR s2) w4 (by omega) (fun hq => by obtain ⟨_, z1, z2, _⟩ := tick_bad hq; omega) h4)
        have hpos3 := pE_pos ts .fac (tickR s2)
        have T3 := Lib.hid (show (pE ts .fac (tickR s2)).2.bad = 0 → (pE ts .fac (tickR s2)).2.pos ≤ ts.length ∧ (pE ts .fac (tickR s2)).2.cnt ≤ 32 from fun hq => by
          by_cases hbt : (tickR s2).bad = 0
          · obtain ⟨_, z1, z2, z3, _⟩ := tick_bad hbt
            exact (pE_top ts .fac (tickR s2) hbt (by omega) (by omega)).2.2 hq
          · rw [pE_stay ts _ _ hbt] at hq; exact absurd hq hbt)
        obtain ⟨q3, hq3⟩ : ∃ q3, pE ts .fac (tickR s2) = q3 := ⟨_, rfl⟩
        rw [hq3] at CI EQ T3 hpos3
        have hpw := posW_of hL.out.pw.r
        have hfin := h4.f
        clear h4 hk4 CT c0 c1 c2 c3 c4 f1 f2 f3 f4 p1 ha LA0 LB hq3
        go_wp2_with fail
        refine CI.out.mono ?_
        rintro e w5 ⟨ad3, cc3, rfl, h5, hk5, hr5⟩
        have LD := Lib.hid (LC.out.two (o := [42]) (cc2 := cc3) hrb hCw h5 hk5 hr5)
        have LE := Lib.hid (LC.out.next hrb hCw h5 hk5)
        have hl5 := LE.out.lt
        have hl6 : C < w5.heap.size + 1 := by omega
        have hpf := h5.f.2.1
        obtain ⟨⟨m0, m1, m2, m3⟩, g0, g1, g2, g3⟩ := four LE.out.cb
        clear h5 hk5 hr5 CI LC
        go_wp2_with fail
        go_roundw
        case rel => exact ⟨twoT [42] n q3.1, q3.2, _, _, LD, EQ, T3, by omega⟩
        case measure =>
          rw [posW_of LD.out.pw.r, hpw]
          omega
      | false =>
        cases h47 : isS ts [47] s2.pos with
        | true =>
          have CI0 := Lib.hid (is_at (ts := ts) (a := a) (c := c) ⟨#[42]⟩ (v := false) h42 wr hL.out.pw)
          go_wp2_with fail
          refine CI0.out.mono ?_
          rintro e x0 ⟨rfl, hk0⟩
          have LA0 := Lib.hid (hL.out.same hrb hCw hk0)
          clear hk0 CI0
          have CI1 := Lib.hid (is_at (ts := ts) (a := a) (c := c) ⟨#[47]⟩ (v := true) h47 x0 LA0.out.pw)
          go_wp2_with fail
          refine CI1.out.mono ?_
          rintro e x1 ⟨rfl, hk1⟩
          have LA1 := Lib.hid (LA0.out.same hrb hCw hk1)
          clear hk1 CI1
          have hlt := isS_lt h47
          have hop := isS_op h47
          have EQ := Lib.hid (show pE ts (.prodL (twoT [47] n (pE ts .fac (tickR s2)).1)) (pE ts .fac (tickR s2)).2 = Q by
            rw [← hE.out]
            conv => rhs; rw [pE_prodL, if_pos (by rw [hb]; unfold isM; rw [h47]; simp), hop])
          obtain ⟨⟨c0, c1, c2, c3, c4⟩, f1, f2, f3, f4⟩ := LA1.out.pw.r.cells
          obtain ⟨b, off, ha, hbr, -, p1, -, -⟩ := tok_cells LA1.out.pw.t hlt
          have htx : (⟨ts[s2.pos].text.toArray⟩ : ByteArray) = ⟨#[47]⟩ := by
            have : opAt ts s2.pos = ts[s2.pos].text := by unfold opAt; rw [List.getElem?_eq_getElem hlt]
            rw [← this, hop]
          rw [htx] at p1
          rw [ha] at c0
          have a3 : (s2.pos : Int) < (ts.length : Int) := by omega
          have a4 : (0 : Int) ≤ (s2.pos : Int) := by omega
          have a5 : ((s2.pos : Int)).toNat = s2.pos := by omega
          clear hop htx h42 h47
          go_wp2_with (go_quiet (fail))
          have LB := Lib.hid (LA1.out.same hrb hCw ((Kept.refl (fun _ => False) x1).drewN nq))
          have CT := Lib.hid (tick_any ts rb a c s2 (x1.drewN nq) LB.out.pw (fun _ => ⟨hlt, hT2.2⟩) (by omega))
          refine CT.out.mono ?_
          rintro e w4 ⟨rfl, h4, hk4⟩
          have LC := Lib.hid (LB.out.next hrb hCw h4 hk4)
          have htp := tick_pos s2
          have CI := Lib.hid (IH.out (tickR s2) w4 (by omega) (fun hq => by obtain ⟨_, z1, z2, _⟩ := tick_bad hq; omega) h4)
          have hpos3 := pE_pos ts .fac (tickR s2)
          have T3 := Lib.hid (show (pE ts .fac (tickR s2)).2.bad = 0 → (pE ts .fac (tickR s2)).2.pos ≤ ts.length ∧ (pE ts .fac (tickR s2)).2.cnt ≤ 32 from fun hq => by
            by_cases hbt : (tickR s2).bad = 0
            · obtain ⟨_, z1, z2, z3, _⟩ := tick_bad hbt
              exact (pE_top ts .fac (tickR s2) hbt (by omega) (by omega)).2.2 hq
            · rw [pE_stay ts _ _ hbt] at hq; exact absurd hq hbt)
          obtain ⟨q3, hq3⟩ : ∃ q3, pE ts .fac (tickR s2) = q3 := ⟨_, rfl⟩
          rw [hq3] at CI EQ T3 hpos3
          have hpw := posW_of hL.out.pw.r
          have hfin := h4.f
          clear h4 hk4 CT c0 c1 c2 c3 c4 f1 f2 f3 f4 p1 ha LA0 LA1 LB hq3
          go_wp2_with fail
          refine CI.out.mono ?_
          rintro e w5 ⟨ad3, cc3, rfl, h5, hk5, hr5⟩
          have LD := Lib.hid (LC.out.two (o := [47]) (cc2 := cc3) hrb hCw h5 hk5 hr5)
          have LE := Lib.hid (LC.out.next hrb hCw h5 hk5)
          have hl5 := LE.out.lt
          have hl6 : C < w5.heap.size + 1 := by omega
          have hpf := h5.f.2.1
          obtain ⟨⟨m0, m1, m2, m3⟩, g0, g1, g2, g3⟩ := four LE.out.cb
          clear h5 hk5 hr5 CI LC
          go_wp2_with fail
          go_roundw
          case rel => exact ⟨twoT [47] n q3.1, q3.2, _, _, LD, EQ, T3, by omega⟩
          case measure =>
            rw [posW_of LD.out.pw.r, hpw]
            omega
        | false =>
          cases h37 : isS ts [37] s2.pos with
          | true =>
            have CI0 := Lib.hid (is_at (ts := ts) (a := a) (c := c) ⟨#[42]⟩ (v := false) h42 wr hL.out.pw)
            go_wp2_with fail
            refine CI0.out.mono ?_
            rintro e x0 ⟨rfl, hk0⟩
            have LA0 := Lib.hid (hL.out.same hrb hCw hk0)
            clear hk0 CI0
            have CI1 := Lib.hid (is_at (ts := ts) (a := a) (c := c) ⟨#[47]⟩ (v := false) h47 x0 LA0.out.pw)
            go_wp2_with fail
            refine CI1.out.mono ?_
            rintro e x1 ⟨rfl, hk1⟩
            have LA1 := Lib.hid (LA0.out.same hrb hCw hk1)
            clear hk1 CI1
            have CI2 := Lib.hid (is_at (ts := ts) (a := a) (c := c) ⟨#[37]⟩ (v := true) h37 x1 LA1.out.pw)
            go_wp2_with fail
            refine CI2.out.mono ?_
            rintro e x2 ⟨rfl, hk2⟩
            have LA2 := Lib.hid (LA1.out.same hrb hCw hk2)
            clear hk2 CI2
            have hlt := isS_lt h37
            have hop := isS_op h37
            have EQ := Lib.hid (show pE ts (.prodL (twoT [37] n (pE ts .fac (tickR s2)).1)) (pE ts .fac (tickR s2)).2 = Q by
              rw [← hE.out]
              conv => rhs; rw [pE_prodL, if_pos (by rw [hb]; unfold isM; rw [h37]; simp), hop])
            obtain ⟨⟨c0, c1, c2, c3, c4⟩, f1, f2, f3, f4⟩ := LA2.out.pw.r.cells
            obtain ⟨b, off, ha, hbr, -, p1, -, -⟩ := tok_cells LA2.out.pw.t hlt
            have htx : (⟨ts[s2.pos].text.toArray⟩ : ByteArray) = ⟨#[37]⟩ := by
              have : opAt ts s2.pos = ts[s2.pos].text := by unfold opAt; rw [List.getElem?_eq_getElem hlt]
              rw [← this, hop]
            rw [htx] at p1
            rw [ha] at c0
            have a3 : (s2.pos : Int) < (ts.length : Int) := by omega
            have a4 : (0 : Int) ≤ (s2.pos : Int) := by omega
            have a5 : ((s2.pos : Int)).toNat = s2.pos := by omega
            clear hop htx h42 h47 h37
            go_wp2_with (go_quiet (fail))
            have LB := Lib.hid (LA2.out.same hrb hCw ((Kept.refl (fun _ => False) x2).drewN nq))
            have CT := Lib.hid (tick_any ts rb a c s2 (x2.drewN nq) LB.out.pw (fun _ => ⟨hlt, hT2.2⟩) (by omega))
            refine CT.out.mono ?_
            rintro e w4 ⟨rfl, h4, hk4⟩
            have LC := Lib.hid (LB.out.next hrb hCw h4 hk4)
            have htp := tick_pos s2
            have CI := Lib.hid (IH.out (tickR s2) w4 (by omega) (fun hq => by obtain ⟨_, z1, z2, _⟩ := tick_bad hq; omega) h4)
            have hpos3 := pE_pos ts .fac (tickR s2)
            have T3 := Lib.hid (show (pE ts .fac (tickR s2)).2.bad = 0 → (pE ts .fac (tickR s2)).2.pos ≤ ts.length ∧ (pE ts .fac (tickR s2)).2.cnt ≤ 32 from fun hq => by
              by_cases hbt : (tickR s2).bad = 0
              · obtain ⟨_, z1, z2, z3, _⟩ := tick_bad hbt
                exact (pE_top ts .fac (tickR s2) hbt (by omega) (by omega)).2.2 hq
              · rw [pE_stay ts _ _ hbt] at hq; exact absurd hq hbt)
            obtain ⟨q3, hq3⟩ : ∃ q3, pE ts .fac (tickR s2) = q3 := ⟨_, rfl⟩
            rw [hq3] at CI EQ T3 hpos3
            have hpw := posW_of hL.out.pw.r
            have hfin := h4.f
            clear h4 hk4 CT c0 c1 c2 c3 c4 f1 f2 f3 f4 p1 ha LA0 LA1 LA2 LB hq3
            go_wp2_with fail
            refine CI.out.mono ?_
            rintro e w5 ⟨ad3, cc3, rfl, h5, hk5, hr5⟩
            have LD := Lib.hid (LC.out.two (o := [37]) (cc2 := cc3) hrb hCw h5 hk5 hr5)
            have LE := Lib.hid (LC.out.next hrb hCw h5 hk5)
            have hl5 := LE.out.lt
            have hl6 : C < w5.heap.size + 1 := by omega
            have hpf := h5.f.2.1
            obtain ⟨⟨m0, m1, m2, m3⟩, g0, g1, g2, g3⟩ := four LE.out.cb
            clear h5 hk5 hr5 CI LC
            go_wp2_with fail
            go_roundw
            case rel => exact ⟨twoT [37] n q3.1, q3.2, _, _, LD, EQ, T3, by omega⟩
            case measure =>
              rw [posW_of LD.out.pw.r, hpw]
              omega
          | false =>
            have CI0 := Lib.hid (is_at (ts := ts) (a := a) (c := c) ⟨#[42]⟩ (v := false) h42 wr hL.out.pw)
            go_wp2_with fail
            refine CI0.out.mono ?_
            rintro e x0 ⟨rfl, hk0⟩
            have LA0 := Lib.hid (hL.out.same hrb hCw hk0)
            clear hk0 CI0
            have CI1 := Lib.hid (is_at (ts := ts) (a := a) (c := c) ⟨#[47]⟩ (v := false) h47 x0 LA0.out.pw)
            go_wp2_with fail
            refine CI1.out.mono ?_
            rintro e x1 ⟨rfl, hk1⟩
            have LA1 := Lib.hid (LA0.out.same hrb hCw hk1)
            clear hk1 CI1
            have CI2 := Lib.hid (is_at (ts := ts) (a := a) (c := c) ⟨#[37]⟩ (v := false) h37 x1 LA1.out.pw)
            go_wp2_with fail
            refine CI2.out.mono ?_
            rintro e x2 ⟨rfl, hk2⟩
            have LA2 := Lib.hid (LA1.out.same hrb hCw hk2)
            clear hk2 CI2
            have EQ := Lib.hid (show (n, s2) = Q by rw [← hE.out, pE_prodL, if_neg (by unfold isM; rw [h42, h47, h37]; simp)])
            have LX := LA2
            obtain ⟨⟨m0, m1, m2, m3⟩, -⟩ := four LX.out.cb
            obtain ⟨⟨n0, n1, n2, n3⟩, g0, g1, g2, g3⟩ := four LX.out.nb
            go_wp2_with fail
            have hres := four_set LX.out.nb (.string n.op) (.string n.nm) (.int .i64 n.n) (.slice ad2 n.ks.len cc2)
            obtain ⟨⟨d0, d1, d2, d3⟩, -⟩ := four hres
            refine bodyPost_ret (v := nodeV n.op n.nm n.n ad2 n.ks.len cc2) (by simp [results, Tryz.results64, go_sem, d0, d1, d2, d3]) rfl ?_
            rw [← EQ.out]
            exact PE.put (q := (n, s2)) hrb LX.out.pw LX.out.kp (LX.out.rk.imp (fun b _ hb => hb.1))
    · have qb : ((s2.bad : Int) == 0) = false := beq_eq_false_iff_ne.2 hb
      have EQ := Lib.hid (show (n, s2) = Q by rw [← hE.out, pE_prodL, if_neg (by simp [hb])])
      have LX := hL
      clear hb
      obtain ⟨⟨m0, m1, m2, m3⟩, -⟩ := four LX.out.cb
      obtain ⟨⟨n0, n1, n2, n3⟩, g0, g1, g2, g3⟩ := four LX.out.nb
      go_wp2_with fail
      have hres := four_set LX.out.nb (.string n.op) (.string n.nm) (.int .i64 n.n) (.slice ad2 n.ks.len cc2)
      obtain ⟨⟨d0, d1, d2, d3⟩, -⟩ := four hres
      refine bodyPost_ret (v := nodeV n.op n.nm n.n ad2 n.ks.len cc2) (by simp [results, Tryz.results64, go_sem, d0, d1, d2, d3]) rfl ?_
      rw [← EQ.out]
      exact PE.put (q := (n, s2)) hrb LX.out.pw LX.out.kp (LX.out.rk.imp (fun b _ hb => hb.1))

set_option maxHeartbeats 16000000 in
set_option maxRecDepth 100000 in
theorem sum_any (ts : List Tk) (rb : Nat) (a : Option Addr) (c : Nat) (s : RS) (w : World) (h : PW ts rb a c s w) (hcnt : s.bad = 0 → s.cnt ≤ 32)
    (ih : ∀ s' w', s.pos ≤ s'.pos → (s'.bad = 0 → s'.cnt ≤ 32) → PW ts rb a c s' w' → Calls Tryz.prog 64 #[.pointer (some ⟨rb, 0, none⟩)] w' (PE ts rb a c (pE ts .prod s') w')) :
    Calls Tryz.prog 40 #[.pointer (some ⟨rb, 0, none⟩)] w (PE ts rb a c (pE ts .sum s) w) := by
  have TOP : (pE ts .prod s).2.bad = 0 → (pE ts .prod s).2.pos ≤ ts.length ∧ (pE ts .prod s).2.cnt ≤ 32 := fun hq => by
    by_cases hb : s.bad = 0
    · exact (pE_top ts .prod s hb (h.f.1 hb) (hcnt hb)).2.2 hq
    · rw [pE_stay ts _ s hb] at hq; exact absurd hq hb
  have hpos1 := pE_pos ts .prod s
  have hQ := pE_sum ts s
  obtain ⟨q1, hq1⟩ : ∃ q1, pE ts .prod s = q1 := ⟨_, rfl⟩
  rw [hq1] at hQ TOP hpos1
  rw [hQ]
  obtain ⟨Q, hQQ⟩ : ∃ Q, pE ts (.sumL q1.1) q1.2 = Q := ⟨_, rfl⟩
  rw [hQQ]
  have K1 := kept_below ((Below.refl w.heap.size w).alloc (Nat.le_refl _) (ndO ⟨#[]⟩ ⟨#[]⟩ 0 none 0 0)) (· = rb)
  have H1 := h.below ((Below.refl _ w).alloc (Nat.le_refl _) (ndO ⟨#[]⟩ ⟨#[]⟩ 0 none 0 0))
  have hrb := h.r.lt
  have NB := heap_alloc_new w (ndO ⟨#[]⟩ ⟨#[]⟩ 0 none 0 0)
  have hsz : (w.alloc (ndO ⟨#[]⟩ ⟨#[]⟩ 0 none 0 0)).heap.size = w.heap.size + 1 := World.size_alloc _ _
  generalize hW : w.alloc (ndO ⟨#[]⟩ ⟨#[]⟩ 0 none 0 0) = W at *
  have C0 := Lib.hid (ih s W (Nat.le_refl _) hcnt H1)
  rw [hq1] at C0
  have IH := Lib.hid ih
  have hn := h.f.2.2.2
  have HQ := Lib.hid hQQ
  have T1 := Lib.hid TOP
  clear hQ hQQ hq1 H1 h ih TOP hcnt
  go_enter Tryz.func40, Tryz.ntmps40
  go_wp2_with fail
  refine C0.out.mono ?_
  rintro e w1 ⟨ad, cc, rfl, h1, hk1, hr1⟩
  have hs1 := hk1.size
  have BN := (Below.refl w1.heap.size w1).alloc (Nat.le_refl _) (ndO q1.1.op q1.1.nm q1.1.n ad q1.1.ks.len cc)
  have hCw : w.heap.size < w1.heap.size := by omega
  have L1 := Lib.hid (show LW ts rb a c w w1.heap.size q1.1 ad cc q1.2 (w1.alloc (ndO q1.1.op q1.1.nm q1.1.n ad q1.1.ks.len cc)) from
    ⟨h1.below BN, (K1.trans hk1 (fun i hi _ => hi)).alloc _, (BN.block _ hCw).trans (hk1.heap NB (by show ¬ w.heap.size = rb; omega)), heap_alloc_new w1 _, (ReadsN.imp hr1 (fun b hb hl => ⟨by omega, by omega⟩)).kept BN⟩)
  clear K1 NB hsz C0 h1 hk1 hr1 BN hW hs1
  go_wp2_with fail
  generalize w1.alloc (ndO q1.1.op q1.1.nm q1.1.n ad q1.1.ks.len cc) = V at L1 ⊢
  generalize w1.heap.size = C at L1 hCw ⊢
  go_loopw [4] (fun _ wr => ∃ (n : TN) (s2 : RS) (ad2 : Option Addr) (cc2 : Nat), Hid (LW ts rb a c w C n ad2 cc2 s2 wr) ∧ Hid (pE ts (.sumL n) s2 = Q) ∧ Hid (s2.bad = 0 → s2.pos ≤ ts.length ∧ s2.cnt ≤ 32) ∧ s.pos ≤ s2.pos) (fun _ wr => 2 * ts.length + 2 - posW rb wr)
  case atStart => exact ⟨q1.1, q1.2, ad, cc, L1, HQ, T1, hpos1⟩
  case round =>
    obtain ⟨n, s2, ad2, cc2, hL, hE, hT, hps⟩ := hrel
    obtain ⟨⟨c0, c1, c2, c3, c4⟩, f1, f2, f3, f4⟩ := hL.out.pw.r.cells
    by_cases hb : s2.bad = 0
    · have qb : ((s2.bad : Int) == 0) = true := by rw [hb]; rfl
      have hb' := Lib.hid hb
      have hT2 := hT.out hb
      cases h43 : isS ts [43] s2.pos with
      | true =>
        have CI0 := Lib.hid (is_at (ts := ts) (a := a) (c := c) ⟨#[43]⟩ (v := true) h43 wr hL.out.pw)
        go_wp2_with fail
        refine CI0.out.mono ?_
        rintro e x0 ⟨rfl, hk0⟩
        have LA0 := Lib.hid (hL.out.same hrb hCw hk0)
        clear hk0 CI0
        have hlt := isS_lt h43
        have hop := isS_op h43
        have EQ := Lib.hid (show pE ts (.sumL (twoT [43] n (pE ts .prod (tickR s2)).1)) (pE ts .prod (tickR s2)).2 = Q by
          rw [← hE.out]
          conv => rhs; rw [pE_sumL, if_pos (by rw [hb]; unfold isA; rw [h43]; simp), hop])
        obtain ⟨⟨c0, c1, c2, c3, c4⟩, f1, f2, f3, f4⟩ := LA0.out.pw.r.cells
        obtain ⟨b, off, ha, hbr, -, p1, -, -⟩ := tok_cells LA0.out.pw.t hlt
        have htx : (⟨ts[s2.pos].text.toArray⟩ : ByteArray) = ⟨#[43]⟩ := by
          have : opAt ts s2.pos = ts[s2.pos].text := by unfold opAt; rw [List.getElem?_eq_getElem hlt]
          rw [← this, hop]
        rw [htx] at p1
        rw [ha] at c0
        have a3 : (s2.pos : Int) < (ts.length : Int) := by omega
        have a4 : (0 : Int) ≤ (s2.pos : Int) := by omega
        have a5 : ((s2.pos : Int)).toNat = s2.pos := by omega
        clear hop htx h43
        go_wp2_with (go_quiet (fail))
        have LB := Lib.hid (LA0.out.same hrb hCw ((Kept.refl (fun _ => False) x0).drewN nq))
        have CT := Lib.hid (tick_any ts rb a c s2 (x0.drewN nq) LB.out.pw (fun _ => ⟨hlt, hT2.2⟩) (by omega))
        refine CT.out.mono ?_
        rintro e w4 ⟨rfl, h4, hk4⟩
        have LC := Lib.hid (LB.out.next hrb hCw h4 hk4)
        have htp := tick_pos s2
        have CI := Lib.hid (IH.out (tickR s2) w4 (by omega) (fun hq => by obtain ⟨_, z1, z2, _⟩ := tick_bad hq; omega) h4)
        have hpos3 := pE_pos ts .prod (tickR s2)
        have T3 := Lib.hid (show (pE ts .prod (tickR s2)).2.bad = 0 → (pE ts .prod (tickR s2)).2.pos ≤ ts.length ∧ (pE ts .prod (tickR s2)).2.cnt ≤ 32 from fun hq => by
          by_cases hbt : (tickR s2).bad = 0
          · obtain ⟨_, z1, z2, z3, _⟩ := tick_bad hbt
            exact (pE_top ts .prod (tickR s2) hbt (by omega) (by omega)).2.2 hq
          · rw [pE_stay ts _ _ hbt] at hq; exact absurd hq hbt)
        obtain ⟨q3, hq3⟩ : ∃ q3, pE ts .prod (tickR s2) = q3 := ⟨_, rfl⟩
        rw [hq3] at CI EQ T3 hpos3
        have hpw := posW_of hL.out.pw.r
        have hfin := h4.f
        clear h4 hk4 CT c0 c1 c2 c3 c4 f1 f2 f3 f4 p1 ha LA0 LB hq3
        go_wp2_with fail
        refine CI.out.mono ?_
        rintro e w5 ⟨ad3, cc3, rfl, h5, hk5, hr5⟩
        have LD := Lib.hid (LC.out.two (o := [43]) (cc2 := cc3) hrb hCw h5 hk5 hr5)
        have LE := Lib.hid (LC.out.next hrb hCw h5 hk5)
        have hl5 := LE.out.lt
        have hl6 : C < w5.heap.size + 1 := by omega
        have hpf := h5.f.2.1
        obtain ⟨⟨m0, m1, m2, m3⟩, g0, g1, g2, g3⟩ := four LE.out.cb
        clear h5 hk5 hr5 CI LC
        go_wp2_with fail
        go_roundw
        case rel => exact ⟨twoT [43] n q3.1, q3.2, _, _, LD, EQ, T3, by omega⟩
        case measure =>
          rw [posW_of LD.out.pw.r, hpw]
          omega
      | false =>
        cases h45 : isS ts [45] s2.pos with
        | true =>
          have CI0 := Lib.hid (is_at (ts := ts) (a := a) (c := c) ⟨#[43]⟩ (v := false) h43 wr hL.out.pw)
          go_wp2_with fail
          refine CI0.out.mono ?_
          rintro e x0 ⟨rfl, hk0⟩
          have LA0 := Lib.hid (hL.out.same hrb hCw hk0)
          clear hk0 CI0
          have CI1 := Lib.hid (is_at (ts := ts) (a := a) (c := c) ⟨#[45]⟩ (v := true) h45 x0 LA0.out.pw)
          go_wp2_with fail
          refine CI1.out.mono ?_
          rintro e x1 ⟨rfl, hk1⟩
          have LA1 := Lib.hid (LA0.out.same hrb hCw hk1)
          clear hk1 CI1
          have hlt := isS_lt h45
          have hop := isS_op h45
          have EQ := Lib.hid (show pE ts (.sumL (twoT [45] n (pE ts .prod (tickR s2)).1)) (pE ts .prod (tickR s2)).2 = Q by
            rw [← hE.out]
            conv => rhs; rw [pE_sumL, if_pos (by rw [hb]; unfold isA; rw [h45]; simp), hop])
          obtain ⟨⟨c0, c1, c2, c3, c4⟩, f1, f2, f3, f4⟩ := LA1.out.pw.r.cells
          obtain ⟨b, off, ha, hbr, -, p1, -, -⟩ := tok_cells LA1.out.pw.t hlt
          have htx : (⟨ts[s2.pos].text.toArray⟩ : ByteArray) = ⟨#[45]⟩ := by
            have : opAt ts s2.pos = ts[s2.pos].text := by unfold opAt; rw [List.getElem?_eq_getElem hlt]
            rw [← this, hop]
          rw [htx] at p1
          rw [ha] at c0
          have a3 : (s2.pos : Int) < (ts.length : Int) := by omega
          have a4 : (0 : Int) ≤ (s2.pos : Int) := by omega
          have a5 : ((s2.pos : Int)).toNat = s2.pos := by omega
          clear hop htx h43 h45
          go_wp2_with (go_quiet (fail))
          have LB := Lib.hid (LA1.out.same hrb hCw ((Kept.refl (fun _ => False) x1).drewN nq))
          have CT := Lib.hid (tick_any ts rb a c s2 (x1.drewN nq) LB.out.pw (fun _ => ⟨hlt, hT2.2⟩) (by omega))
          refine CT.out.mono ?_
          rintro e w4 ⟨rfl, h4, hk4⟩
          have LC := Lib.hid (LB.out.next hrb hCw h4 hk4)
          have htp := tick_pos s2
          have CI := Lib.hid (IH.out (tickR s2) w4 (by omega) (fun hq => by obtain ⟨_, z1, z2, _⟩ := tick_bad hq; omega) h4)
          have hpos3 := pE_pos ts .prod (tickR s2)
          have T3 := Lib.hid (show (pE ts .prod (tickR s2)).2.bad = 0 → (pE ts .prod (tickR s2)).2.pos ≤ ts.length ∧ (pE ts .prod (tickR s2)).2.cnt ≤ 32 from fun hq => by
            by_cases hbt : (tickR s2).bad = 0
            · obtain ⟨_, z1, z2, z3, _⟩ := tick_bad hbt
              exact (pE_top ts .prod (tickR s2) hbt (by omega) (by omega)).2.2 hq
            · rw [pE_stay ts _ _ hbt] at hq; exact absurd hq hbt)
          obtain ⟨q3, hq3⟩ : ∃ q3, pE ts .prod (tickR s2) = q3 := ⟨_, rfl⟩
          rw [hq3] at CI EQ T3 hpos3
          have hpw := posW_of hL.out.pw.r
          have hfin := h4.f
          clear h4 hk4 CT c0 c1 c2 c3 c4 f1 f2 f3 f4 p1 ha LA0 LA1 LB hq3
          go_wp2_with fail
          refine CI.out.mono ?_
          rintro e w5 ⟨ad3, cc3, rfl, h5, hk5, hr5⟩
          have LD := Lib.hid (LC.out.two (o := [45]) (cc2 := cc3) hrb hCw h5 hk5 hr5)
          have LE := Lib.hid (LC.out.next hrb hCw h5 hk5)
          have hl5 := LE.out.lt
          have hl6 : C < w5.heap.size + 1 := by omega
          have hpf := h5.f.2.1
          obtain ⟨⟨m0, m1, m2, m3⟩, g0, g1, g2, g3⟩ := four LE.out.cb
          clear h5 hk5 hr5 CI LC
          go_wp2_with fail
          go_roundw
          case rel => exact ⟨twoT [45] n q3.1, q3.2, _, _, LD, EQ, T3, by omega⟩
          case measure =>
            rw [posW_of LD.out.pw.r, hpw]
            omega
        | false =>
          have CI0 := Lib.hid (is_at (ts := ts) (a := a) (c := c) ⟨#[43]⟩ (v := false) h43 wr hL.out.pw)
          go_wp2_with fail
          refine CI0.out.mono ?_
          rintro e x0 ⟨rfl, hk0⟩
          have LA0 := Lib.hid (hL.out.same hrb hCw hk0)
          clear hk0 CI0
          have CI1 := Lib.hid (is_at (ts := ts) (a := a) (c := c) ⟨#[45]⟩ (v := false) h45 x0 LA0.out.pw)
          go_wp2_with fail
          refine CI1.out.mono ?_
          rintro e x1 ⟨rfl, hk1⟩
          have LA1 := Lib.hid (LA0.out.same hrb hCw hk1)
          clear hk1 CI1
          have EQ := Lib.hid (show (n, s2) = Q by rw [← hE.out, pE_sumL, if_neg (by unfold isA; rw [h43, h45]; simp)])
          have LX := LA1
          obtain ⟨⟨m0, m1, m2, m3⟩, -⟩ := four LX.out.cb
          obtain ⟨⟨n0, n1, n2, n3⟩, g0, g1, g2, g3⟩ := four LX.out.nb
          go_wp2_with fail
          have hres := four_set LX.out.nb (.string n.op) (.string n.nm) (.int .i64 n.n) (.slice ad2 n.ks.len cc2)
          obtain ⟨⟨d0, d1, d2, d3⟩, -⟩ := four hres
          refine bodyPost_ret (v := nodeV n.op n.nm n.n ad2 n.ks.len cc2) (by simp [results, Tryz.results40, go_sem, d0, d1, d2, d3]) rfl ?_
          rw [← EQ.out]
          exact PE.put (q := (n, s2)) hrb LX.out.pw LX.out.kp (LX.out.rk.imp (fun b _ hb => hb.1))
    · have qb : ((s2.bad : Int) == 0) = false := beq_eq_false_iff_ne.2 hb
      have EQ := Lib.hid (show (n, s2) = Q by rw [← hE.out, pE_sumL, if_neg (by simp [hb])])
      have LX := hL
      clear hb
      obtain ⟨⟨m0, m1, m2, m3⟩, -⟩ := four LX.out.cb
      obtain ⟨⟨n0, n1, n2, n3⟩, g0, g1, g2, g3⟩ := four LX.out.nb
      go_wp2_with fail
      have hres := four_set LX.out.nb (.string n.op) (.string n.nm) (.int .i64 n.n) (.slice ad2 n.ks.len cc2)
      obtain ⟨⟨d0, d1, d2, d3⟩, -⟩ := four hres
      refine bodyPost_ret (v := nodeV n.op n.nm n.n ad2 n.ks.len cc2) (by simp [results, Tryz.results40, go_sem, d0, d1, d2, d3]) rfl ?_
      rw [← EQ.out]
      exact PE.put (q := (n, s2)) hrb LX.out.pw LX.out.kp (LX.out.rk.imp (fun b _ hb => hb.1))

end Go.Proofs.YteegdemnajhehaaGreatDoor
