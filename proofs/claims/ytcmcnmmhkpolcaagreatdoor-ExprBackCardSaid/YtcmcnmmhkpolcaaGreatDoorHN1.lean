/-
  No statement: what these walks need, of earlier texts: Texts, ENames.
-/
import Derived.Test.YtcmcnmmhkpolcaaGreatDoorHZ10
import Derived.Test.YtcmcnmmhkpolcaaGreatDoorProg
import Derived.WalkKit
import Derived.WalkSpells
import Derived.IntWalk
import Derived.Lib.Hide
import Derived.RangeFuncBox
import Derived.Deep.RegionHeld3
import Derived.Deep.Cut
namespace Go.Proofs.YtcmcnmmhkpolcaaGreatDoor.En
section
open Go.RowKit

theorem row_slice' {W : World} {base : Nat} {e : TypeId} {size : Nat} {v : Value} {k : Nat} {xs : List Value} (h : W.ownsRow base e size v k xs) : ∃ a cap, v = .slice a k cap := by
  rcases h.2 with ⟨rfl, rfl⟩ | ⟨g, cap, _, rfl, _⟩
  · exact ⟨_, _, rfl⟩
  · exact ⟨_, _, rfl⟩

theorem infoStr : (Tryz.prog.info? 9).map (fun i => (i.zero, i.size, i.bytes)) = some (some (.string ⟨#[]⟩), 1, 16) := by kernel_rfl

end

section
open Go.RowKit

abbrev svs (l : List ByteArray) : List Value := l.map Value.string

/-- Names' contract at a tree. -/
def NamOK (t : TN) : Prop := ∀ (G : Nat → Prop) (w : World) (a : Option Addr) (c : Nat), sizeT t ≤ 60 → ReadsN G w a t.ks → Calls Tryz.prog 17 #[nodeV t.op t.nm t.n a t.ks.len c] w fun e w' => (∃ v, e = .returned v ∧ w'.ownsRow w.heap.size 9 1 v (namesT t).length (svs (namesT t))) ∧ Below w.heap.size w w'

theorem own_one (w : World) (B : Nat) (hB : B ≤ w.heap.size) (x : Value) : (w.alloc (.cells #[x] 9)).ownsRow B 9 1 (.slice (some ⟨w.heap.size, 0, none⟩) 1 1) 1 [x] :=
  ⟨rfl, .inr ⟨w.heap.size, 1, #[x], rfl, hB, World.alloc_heap_new w _, Nat.le_refl _, by unfold maxLen; omega, rfl, rfl⟩⟩

theorem own_none (w : World) (B : Nat) : w.ownsRow B 9 1 (.slice none 0 0) 0 [] := ⟨rfl, .inl ⟨rfl, rfl⟩⟩

set_option maxHeartbeats 4000000 in
theorem nam_name (o m : ByteArray) (n : Int) (ks : F) (h : isName o = true) : NamOK ⟨o, m, n, ks⟩ := by
  intro G w a c _ hr
  have : namesT ⟨o, m, n, ks⟩ = [m] := by unfold namesT; rw [if_pos h]
  rw [this]
  clear this hr
  dsimp only
  have g1 : (o.toList == [110, 97, 109, 101]) = true := by unfold isName bName at h; rw [Lib.toList_data]; exact h
  have B0 := Lib.hid ((Below.refl w.heap.size w).alloc (Nat.le_refl _) (ndO o m n a ks.len c))
  have O0 := Lib.hid (own_one (w.alloc (ndO o m n a ks.len c)) w.heap.size (by simp) (.string m))
  clear h
  go_enter Tryz.func17, Tryz.ntmps17
  go_wp2_with fail
  go_ret
  exact ⟨⟨_, rfl, by simpa using O0.out⟩, B0.out.alloc (by simp) _⟩

theorem owns_get {w : World} {base : Nat} {e : TypeId} {size : Nat} {a : Option Addr} {n c j : Nat} {xs : List Value} {u : Value} (h : w.ownsRow base e size (.slice a n c) n xs) (hj : xs[j]? = some u) : ∃ g, a = some ⟨g, 0, none⟩ ∧ w.cell? ⟨g, j, none⟩ = some u := by
  cases a with
  | none =>
    rcases h.2 with ⟨_, h2⟩ | ⟨g, cap, cur, h1, _⟩
    · have := h.1
      subst h2
      rw [Nat.zero_mul] at this
      rw [List.length_eq_zero_iff.1 this] at hj
      cases hj
    · cases h1
  | some a =>
    obtain ⟨g, h1, h2⟩ := owns_at h hj
    exact ⟨g, by rw [h1], h2⟩

theorem ownsCaps {w : World} {base : Nat} {e : TypeId} {a : Option Addr} {c n : Nat} {xs : List Value} (h : w.ownsRow base e 1 (.slice a n c) n xs) : n ≤ c ∧ c ≤ maxLen := by
  rcases h.2 with ⟨h, _⟩ | ⟨g, cap, cur, h, _, _, h1, h2, _⟩
  · simp only [Value.slice.injEq] at h
    obtain ⟨_, rfl, rfl⟩ := h
    exact ⟨Nat.le_refl _, Nat.zero_le _⟩
  · simp only [Value.slice.injEq] at h
    obtain ⟨_, _, rfl⟩ := h
    exact ⟨h1, h2⟩

theorem own_new0 (w : World) (B : Nat) (hB : B ≤ w.heap.size) : (w.alloc (.cells #[] 9)).ownsRow B 9 1 (.slice (some ⟨w.heap.size, 0, none⟩) 0 0) 0 [] :=
  ⟨rfl, .inr ⟨w.heap.size, 0, #[], rfl, hB, World.alloc_heap_new w _, Nat.le_refl _, Nat.zero_le _, rfl, rfl⟩⟩

theorem cell_of_block {w w' : World} {b off : Nat} (h : w'.heap[b]? = w.heap[b]?) : w'.cell? ⟨b, off, none⟩ = w.cell? ⟨b, off, none⟩ := World.cell?_of_block (w := w) h

theorem cell_new0 (w : World) (x : Value) : (w.alloc (.cells #[x] 9)).cell? ⟨w.heap.size, 0, none⟩ = some x := by
  unfold World.cell?
  rw [heap_alloc_new]; rfl

theorem cell_new1 (w : World) (x : Value) {n : Nat} (h : w.heap.size = n) : (w.alloc (.cells #[x] 9)).cell? ⟨n, 0, none⟩ = some x := by subst h; exact cell_new0 w x

theorem own_grown (W U : World) (B : Nat) {n : Nat} (hB : B ≤ n) (hn : W.heap.size = n + 1 + 1) (x : Value) :
    ((W.alloc (.cells (#[x] ++ Builtin.zeroCells #[.string ⟨#[]⟩] ((Question.appendCap 1 0 9).cut (U.tape (U.drawn + 1) (Question.appendCap 1 0 9)) - 1)) 9)).drew.drew).ownsRow B 9 1 (.slice (some ⟨n + 1 + 1, 0, none⟩) 1 ((Question.appendCap 1 0 9).cut (U.tape (U.drawn + 1) (Question.appendCap 1 0 9)))) 1 [x] := by
  have hge : 1 ≤ (Question.appendCap 1 0 9).cut (U.tape (U.drawn + 1) (Question.appendCap 1 0 9)) := grownCap_ge U.drew 1 0 9
  have hcm : (Question.appendCap 1 0 9).cut (U.tape (U.drawn + 1) (Question.appendCap 1 0 9)) ≤ maxLen := grownCap_le_maxLen U.drew 1 0 9 (by unfold maxLen; omega)
  generalize (Question.appendCap 1 0 9).cut (U.tape (U.drawn + 1) (Question.appendCap 1 0 9)) = cap at hge hcm ⊢
  refine ⟨rfl, .inr ⟨n + 1 + 1, _, _, rfl, by omega, by rw [← hn]; exact heap_alloc_new W _, hge, hcm, ?_, ?_⟩⟩
  · rw [Array.size_append, size_zeroCells]
    simp
    omega
  · simp

theorem len_size : ∀ f : F, f.len ≤ sizeF f
  | .nil => Nat.le_refl _
  | .cons _ _ _ _ r => by have := len_size r; rw [F.len, sizeF]; omega

theorem names_step {f : F} {t : TN} {r : F} {X : List ByteArray} (h : f = .cons t.op t.nm t.n t.ks r) : namesF f X = namesF r (putsN X (namesT t)) := by
  rw [h, namesF]; rfl

theorem puts_step {l : List ByteArray} {q : Nat} {x : ByteArray} {Y : List ByteArray} (h : l[q]? = some x) : putsN Y (l.drop q) = putsN (putK lsS Y x) (l.drop (q + 1)) := by
  obtain ⟨hq, hx⟩ := List.getElem?_eq_some_iff.1 h
  rw [List.drop_eq_getElem_cons hq, hx]; rfl

set_option maxRecDepth 100000 in
set_option maxHeartbeats 40000000 in
theorem nam_step (t : TN) (ih : EachF NamOK t.ks) : NamOK t := by
  intro G w a c hS hr
  by_cases hnm : isName t.op = true
  · exact nam_name t.op t.nm t.n t.ks hnm G w a c hS hr
  have hT : namesT t = namesF t.ks [] := by unfold namesT; rw [if_neg hnm]
  have g1 : (t.op.toList == [110, 97, 109, 101]) = false := by
    unfold isName bName at hnm; rw [Lib.toList_data]; simpa using hnm
  have R := Lib.hid hr
  have IH := Lib.hid ih
  have B0 := Lib.hid ((Below.refl w.heap.size w).alloc (Nat.le_refl _) (ndO t.op t.nm t.n a t.ks.len c))
  have NB := Lib.hid (heap_alloc_new w (ndO t.op t.nm t.n a t.ks.len c))
  obtain ⟨i0, hi0, hz0, hz1, hz2⟩ := info_parts infoStr
  have und := Tryz.underlying41
  obtain ⟨Z, hZ⟩ : ∃ Z, namesT t = Z := ⟨_, rfl⟩
  rw [hZ] at hT ⊢
  have H0 := Lib.hid (show namesF (t.ks.drop 0) [] = Z by rw [F.drop_zero]; exact hT.symm)
  have hlen : t.ks.len ≤ 60 := by have := len_size t.ks; unfold sizeT at hS; omega
  have hSz : 0 + sizeF (t.ks.drop 0) ≤ 60 := by rw [F.drop_zero]; unfold sizeT at hS; omega
  clear hr ih hnm hT hZ hS
  have SZ := Lib.hid hSz
  clear hSz
  obtain ⟨B, hB⟩ : ∃ B, w.heap.size = B := ⟨_, rfl⟩
  have HB := Lib.hid hB
  rw [hB] at B0 NB ⊢
  go_enter Tryz.func17, Tryz.ntmps17
  go_wp2_with fail
  clear hB
  generalize w.alloc (ndO t.op t.nm t.n a t.ks.len c) = W at NB B0 ⊢
  go_loopw [3, 4] (fun v i wr => ∃ (k : Nat) (X : List ByteArray) (ao : Option Addr) (co : Nat), i = .int .i64 k ∧ v = .slice ao X.length co ∧ k ≤ t.ks.len ∧ Hid (wr.ownsRow B 9 1 (.slice ao X.length co) X.length (svs X)) ∧ Hid (Rising lsS X) ∧ Hid (namesF (t.ks.drop k) X = Z) ∧ Hid (X.length + sizeF (t.ks.drop k) ≤ 60) ∧ Hid (Below B w wr) ∧ Hid (wr.heap[B]? = some (ndO t.op t.nm t.n a t.ks.len c))) (fun _ i _ => t.ks.len - (intOf i).toNat)
  case atStart => exact ⟨0, [], none, 0, rfl, rfl, Nat.zero_le _, Lib.hid (own_none W B), Lib.hid List.Pairwise.nil, H0, SZ, B0, NB⟩
  case round =>
    obtain ⟨k, X, ao, co, rfl, rfl, hk, hO, hRi, hE, hZ, hB, hN⟩ := hrel
    clear B0 NB H0 SZ
    obtain ⟨⟨m0, m1, m2, m3⟩, -⟩ := four hN.out
    by_cases hlt : k < t.ks.len
    · obtain ⟨t2, hat, hdr⟩ := at_some hlt
      obtain ⟨b, off, a2, c2, ha, hG, hbl, ⟨p0, p1, p2, p3⟩, hr2⟩ := readsN_at (R.out.kept (by rw [HB.out]; exact hB.out)) hat
      have hsz2 : X.length + (sizeT t2 + sizeF (t.ks.drop (k + 1))) ≤ 60 := by
        have := hZ.out
        rw [hdr, sizeF] at this
        unfold sizeT; omega
      have EN := Lib.hid (show namesF (t.ks.drop (k + 1)) (putsN X (namesT t2)) = Z from (names_step hdr).symm.trans hE.out)
      have C := Lib.hid ((EachF.at IH.out hat) G wr a2 c2 (by omega) hr2)
      have hnl := namesT_len t2
      have hBz : B ≤ wr.heap.size := by have := hB.out.size; rw [HB.out] at this; exact this
      subst ha
      obtain ⟨L, hL⟩ : ∃ L, namesT t2 = L := ⟨_, rfl⟩
      rw [hL] at C EN hnl
      obtain ⟨S2, hS2⟩ : ∃ S2, sizeF (t.ks.drop (k + 1)) = S2 := ⟨_, rfl⟩
      have HS2 := Lib.hid hS2
      rw [hS2] at hsz2
      have hZ2 : X.length + L.length + S2 ≤ 60 := by omega
      clear hat hdr hr2 hL hS2 hZ hE hsz2 hnl
      go_wp2_with fail
      refine C.out.mono ?_
      rintro e w1 ⟨⟨v, rfl, hl⟩, hb⟩
      have B1 := Lib.hid (hB.out.trans (hb.mono hBz))
      have N1 := Lib.hid ((hb.block _ (lt_block hN.out)).trans hN.out)
      have O1 := Lib.hid (owns_below hO.out hb)
      obtain ⟨al, cl, rfl⟩ := row_slice' hl
      have OL := Lib.hid (owns_mono hl (Nat.zero_le _))
      clear hb hl C hB hN hO m0 m1 m2 m3 p0 p1 p2 p3 hBz
      have P0 := Lib.hid (show putsN X (L.drop 0) = putsN X L by rw [List.drop_zero])
      go_wp2_with fail
      go_loopw [3, 6] (fun v j wr => ∃ (q : Nat) (Y : List ByteArray) (ay : Option Addr) (cy : Nat), j = .int .i64 q ∧ v = .slice ay Y.length cy ∧ q ≤ L.length ∧ Y.length + (L.length - q) + S2 ≤ 60 ∧ Hid (wr.ownsRow B 9 1 (.slice ay Y.length cy) Y.length (svs Y)) ∧ Hid (Rising lsS Y) ∧ Hid (putsN Y (L.drop q) = putsN X L) ∧ Hid (Below B w wr) ∧ Hid (wr.heap[B]? = some (ndO t.op t.nm t.n (some ⟨b, off, none⟩) t.ks.len c)) ∧ Hid (wr.ownsRow 0 9 1 (.slice al L.length cl) L.length (svs L))) (fun _ j _ => L.length - (intOf j).toNat)
      case atStart => exact ⟨0, X, ao, co, rfl, rfl, Nat.zero_le _, by omega, O1, hRi, P0, B1, N1, OL⟩
      case round =>
        obtain ⟨q, Y, ay, cy, rfl, rfl, hq, hYs, hOY, hRY, hPY, hBY, hNY, hOL⟩ := hrel
        clear O1 hRi P0 B1 N1 OL
        by_cases hql : q < L.length
        · obtain ⟨x, hx⟩ : ∃ x, L[q]? = some x := ⟨_, List.getElem?_eq_getElem hql⟩
          obtain ⟨gl, rfl, xl⟩ := owns_get hOL.out (show (svs L)[q]? = some (.string x) by rw [List.getElem?_map, hx]; rfl)
          obtain ⟨P, hP⟩ : ∃ P, pos lsS Y x = P := ⟨_, rfl⟩
          have hPl : P ≤ Y.length := by rw [← hP]; exact pos_le _ _
          have HP := Lib.hid hP
          obtain ⟨V, hV⟩ : ∃ V, V = wr := ⟨_, rfl⟩
          subst hV
          have hBV : B ≤ V.heap.size := by have := hBY.out.size; rw [HB.out] at this; exact this
          have hglV : gl < V.heap.size := by
            rcases hOL.out.2 with ⟨h, _⟩ | ⟨g, cap, cur, h, _, hg, _⟩
            · cases h
            · simp only [Value.slice.injEq, Option.some.injEq, Addr.mk.injEq] at h
              obtain ⟨⟨rfl, -⟩, -⟩ := h
              exact (Array.getElem?_eq_some_iff.1 hg).1
          have PS := Lib.hid ((puts_step (Y := Y) hx).symm.trans hPY.out)
          have XL := Lib.hid (fun U (h : Below V.heap.size V U) => (h.cell (p := ⟨gl, q, none⟩) hglV).trans xl)
          have OY := Lib.hid (fun U (h : Below V.heap.size V U) => owns_below hOY.out h)
          clear hP hx hPY xl hglV hOY
          go_wp2_with fail
          go_loopw [7] (fun v wr => ∃ p : Nat, v = .int .i64 p ∧ p ≤ P ∧ Hid (Below V.heap.size V wr)) (fun v _ => P - (intOf v).toNat)
          case atStart => exact ⟨0, rfl, Nat.zero_le _, Lib.hid (Below.refl _ _)⟩
          case round =>
            obtain ⟨p, rfl, hp, hBW⟩ := hrel
            by_cases hpP : p < P
            · have hpl : p < Y.length := by omega
              obtain ⟨y, hy⟩ : ∃ y, Y[p]? = some y := ⟨_, List.getElem?_eq_getElem hpl⟩
              have hls : Op.bytesLess y.toList x.toList = true := pos_before Y x p y (by rw [HP.out]; exact hpP) hy
              obtain ⟨gy, rfl, yl⟩ := owns_get (OY.out _ hBW.out) (show (svs Y)[p]? = some (.string y) by rw [List.getElem?_map, hy]; rfl)
              have xl := XL.out _ hBW.out
              clear hy
              go_wp2_with (go_quiet (fail))
              go_roundw
              case rel => exact ⟨p + 1, by go_num, by omega, Lib.hid (below_drewN hBW.out _)⟩
              case measure => simp [intOf]; omega
            · obtain rfl : p = P := by omega
              by_cases hpl : p < Y.length
              · obtain ⟨y, hy⟩ : ∃ y, Y[p]? = some y := ⟨_, List.getElem?_eq_getElem hpl⟩
                have hls : Op.bytesLess y.toList x.toList = false := pos_at Y x y (by rw [HP.out]; exact hy)
                have yv : (svs Y)[p]? = some (.string y) := by rw [List.getElem?_map, hy]; rfl
                obtain ⟨gy, rfl, yl⟩ := owns_get (OY.out _ hBW.out) yv
                have xl := XL.out _ hBW.out
                cases hxy : (y.toList == x.toList) with
                | true =>
                  have PY := Lib.hid (show putsN Y (L.drop (q + 1)) = putsN X L by
                    have e : y = x := bytes_eq (eq_of_beq hxy)
                    subst e
                    have hh : has Y y = true := by rw [has_iff]; exact List.mem_of_getElem? hy
                    have := PS.out
                    unfold putK at this
                    rw [if_pos hh] at this
                    exact this)
                  clear hy
                  go_wp2_with (go_quiet (fail))
                  exact ⟨⟨q + 1, Y, some ⟨gy, 0, none⟩, cy, by go_num, rfl, by omega, by omega, Lib.hid (OY.out _ (below_drewN hBW.out _)), hRY, PY, Lib.hid (hBY.out.trans ((below_drewN hBW.out _).mono hBV)), Lib.hid (((below_drewN hBW.out _).block _ (lt_block hNY.out)).trans hNY.out), Lib.hid (owns_below hOL.out (below_drewN hBW.out _))⟩, by simp [intOf]; omega⟩
                | false =>
                  have HH := Lib.hid (show has Y x = false by
                    rw [found_iff strictS hRY.out HP.out hy]
                    refine decide_eq_false fun e => ?_
                    subst e
                    rw [beq_self_eq_true] at hxy
                    cases hxy)
                  have hpcy : p < Y.length := hpl
                  clear hy
                  go_upto_region 14 with (go_quiet (fail))
                  have hU1 := below_drewN hBW.out nq
                  obtain ⟨g2, h2, yl⟩ := owns_get (OY.out _ hU1) yv
                  cases h2
                  generalize wr.drewN nq = U1 at hU1 yl ⊢
                  have xl := XL.out U1 hU1
                  go_wp2_with (go_quiet (fail))
                  have hU := below_drewN hU1 nq
                  generalize U1.drewN nq = U at hU ⊢
                  have OU := Lib.hid (OY.out U hU)
                  have XU := Lib.hid (fun W' (h : Below U.heap.size U W') => XL.out W' (hU.trans (h.mono hU.size)))
                  have xl := XL.out U hU
                  have hcy := (ownsCaps OU.out).1
                  have z0 : (0 : Int) ≤ (p : Int) := by omega
                  have z1 : (p : Int) ≤ (cy : Int) := by omega
                  have z2 : (p : Int) ≤ (Y.length : Int) := by omega
                  have DB := Lib.hid (drew_below U)
                  have TK : (svs (Y.take p)).length = p := by rw [List.length_map, List.length_take]; omega
                  have FR := Lib.hid (fun W' (h : Below U.heap.size U W') => show From W' (.slice (some ⟨gy, 0, none⟩) p cy) p (svs (Y.take p)) from .inr ⟨⟨gy, 0, none⟩, cy, rfl, TK, fun j u hj => by
                    have hlj : j < p := by
                      rcases Nat.lt_or_ge j p with h | h
                      · exact h
                      · rw [List.getElem?_eq_none (by rw [TK]; exact h)] at hj; cases hj
                    have hj2 : (svs Y)[j]? = some u := by
                      rw [← hj, List.getElem?_map, List.getElem?_map, List.getElem?_take_of_lt hlj]
                    obtain ⟨g3, h3, h4⟩ := owns_get (owns_below OU.out h) hj2
                    cases h3
                    rw [Addr.add_lit, Nat.zero_add]; exact h4⟩)
                  have OW := Lib.hid (show (U.drew.alloc (.cells #[] 9)).ownsRow U.heap.size 9 1 (.slice (some ⟨U.heap.size, 0, none⟩) 0 0) 0 [] from own_new0 U.drew U.heap.size (Nat.le_refl _))
                  have OV := Lib.hid (show ((U.drew.alloc (.cells #[.string x] 9)).alloc (.cells #[] 9)).ownsRow U.heap.size 9 1 (.slice (some ⟨U.heap.size + 1, 0, none⟩) 0 0) 0 [] from by have := own_new0 (U.drew.alloc (.cells #[.string x] 9)) U.heap.size (by simp); rwa [World.size_alloc] at this)
                  have BX2 := Lib.hid (show ((U.drew.alloc (.cells #[] 9)).alloc (.cells #[.string x] 9)).cell? ⟨U.heap.size + 1, 0, none⟩ = some (.string x) from cell_new1 _ _ (by simp))
                  have BX3 := Lib.hid (show ((U.drew.alloc (.cells #[.string x] 9)).alloc (.cells #[] 9)).cell? ⟨U.heap.size, 0, none⟩ = some (.string x) from (cell_of_block (heap_alloc_old _ _ (by simp))).trans (cell_new0 U.drew _))
                  have HK := Lib.hid (show putK lsS Y x = Y.take p ++ x :: Y.drop p by unfold putK; rw [if_neg (by rw [HH.out]; decide), HP.out])
                  have FR2 := Lib.hid (fun W' (h : Below U.heap.size U W') => show From W' (.slice (some ⟨gy, p, none⟩) (Y.length - p) (cy - p)) (Y.length - p) (svs (Y.drop p)) from .inr ⟨⟨gy, p, none⟩, cy - p, rfl, by rw [List.length_map, List.length_drop], fun j u hj => by
                    have hj2 : (svs Y)[p + j]? = some u := by
                      rw [← hj, List.getElem?_map, List.getElem?_map, List.getElem?_drop]
                    obtain ⟨g3, h3, h4⟩ := owns_get (owns_below OU.out h) hj2
                    cases h3
                    rw [Addr.add_lit]; exact h4⟩)
                  have ONE := Lib.hid (fun l : List ByteArray => show ∀ v ∈ svs l, v.oneCell' = true from fun v hv => by obtain ⟨_, _, rfl⟩ := List.mem_map.1 hv; rfl)
                  go_region_held3 (fun w' => w'.cell? ⟨gl, q, none⟩ = some (.string x)) (first | assumption | exact XU.out _ (DB.out.alloc (Nat.le_refl _) _) | exact XU.out _ ((DB.out.alloc (Nat.le_refl _) _).alloc (by simp) _) | exact XU.out _ (A3.out.alloc A3.out.size _)) (first
                    | (refine step_append_from rfl (.tmp 66) (.tmp 69) 41 rfl (base := U.heap.size) und hi0 hz0 hz1 hz2 rfl (.slice (some ⟨U.heap.size, 0, none⟩) 0 0) (.slice (some ⟨gy, 0, none⟩) p cy) 0 p [] (svs (Y.take p)) (by first | (simp [Act.eval]; done) | fail) (by first | (simp [Act.eval]; done) | fail) OW.out (FR.out _ (DB.out.alloc (Nat.le_refl _) (.cells #[] 9))) (ONE.out _) (by unfold maxLen; omega) (by omega) (by simp; try omega) ?_
                       intro v3 w3 ho hg _
                       have O3 := Lib.hid ho
                       have A3 := Lib.hid ((DB.out.alloc (Nat.le_refl _) (.cells #[] 9)).grown hg (by simp; try omega) (fun j e => by cases e; first | exact Nat.le_refl _ | exact Nat.le_succ _))
                       have cc := XU.out _ A3.out
                       clear ho hg)
                    | (refine step_append_from rfl (.tmp 66) (.tmp 69) 41 rfl (base := U.heap.size) und hi0 hz0 hz1 hz2 rfl (.slice (some ⟨U.heap.size, 0, none⟩) 0 0) (.slice (some ⟨gy, 0, none⟩) p cy) 0 p [] (svs (Y.take p)) (by first | (simp [Act.eval]; done) | fail) (by first | (simp [Act.eval]; done) | fail) (OW.out.alloc _) (FR.out _ ((DB.out.alloc (Nat.le_refl _) (.cells #[] 9)).alloc (by simp) (.cells #[.string x] 9))) (ONE.out _) (by unfold maxLen; omega) (by omega) (by simp; try omega) ?_
                       intro v3 w3 ho hg _
                       have O3 := Lib.hid ho
                       have A3 := Lib.hid (((DB.out.alloc (Nat.le_refl _) (.cells #[] 9)).alloc (by simp) (.cells #[.string x] 9)).grown hg (by simp; try omega) (fun j e => by cases e; first | exact Nat.le_refl _ | exact Nat.le_succ _))
                       have BX := Lib.hid (show From w3 (.slice (some ⟨U.heap.size + 1, 0, none⟩) 1 1) 1 [.string x] from from_one ((cell_of_block (hg.block _ (by simp) (fun e => absurd (Option.some.inj (show some (U.heap.size + 1) = some U.heap.size from e)) (by omega)))).trans BX2.out))
                       have cc := XU.out _ A3.out
                       clear ho hg)
                    | (refine step_append_from rfl (.tmp 66) (.tmp 69) 41 rfl (base := U.heap.size) und hi0 hz0 hz1 hz2 rfl (.slice (some ⟨U.heap.size + 1, 0, none⟩) 0 0) (.slice (some ⟨gy, 0, none⟩) p cy) 0 p [] (svs (Y.take p)) (by first | (simp [Act.eval]; done) | fail) (by first | (simp [Act.eval]; done) | fail) OV.out (FR.out _ ((DB.out.alloc (Nat.le_refl _) (.cells #[.string x] 9)).alloc (by simp) (.cells #[] 9))) (ONE.out _) (by unfold maxLen; omega) (by omega) (by simp; try omega) ?_
                       intro v3 w3 ho hg _
                       have O3 := Lib.hid ho
                       have A3 := Lib.hid (((DB.out.alloc (Nat.le_refl _) (.cells #[.string x] 9)).alloc (by simp) (.cells #[] 9)).grown hg (by simp; try omega) (fun j e => by cases e; first | exact Nat.le_refl _ | exact Nat.le_succ _))
                       have BX := Lib.hid (show From w3 (.slice (some ⟨U.heap.size, 0, none⟩) 1 1) 1 [.string x] from from_one ((cell_of_block (hg.block _ (by simp; try omega) (fun e => absurd (Option.some.inj (show some U.heap.size = some (U.heap.size + 1) from e)) (by omega)))).trans BX3.out))
                       have cc := XU.out _ A3.out
                       clear ho hg)
                    | (refine step_append_from rfl (.tmp 70) (.tmp 75) 41 rfl (base := U.heap.size) und hi0 hz0 hz1 hz2 rfl v3 (.slice (some ⟨w3.heap.size, 0, none⟩) 1 1) (0 + p) 1 ([] ++ svs (Y.take p)) [.string x] (by first | (simp [Act.eval]; done) | fail) (by first | (simp [Act.eval]; done) | fail) (O3.out.alloc _) (from_one (cell_new0 _ _)) (ONE.out [x]) (by unfold maxLen; omega) (by omega) (by have := A3.out.size; simp; try omega) ?_
                       intro v4 w4 ho hg _
                       have O4 := Lib.hid ho
                       have A4 := Lib.hid ((A3.out.alloc A3.out.size (.cells #[.string x] 9)).grown hg (by have := A3.out.size; simp; try omega) (fun j e => by
                         rcases O3.out.2 with ⟨h1, _⟩ | ⟨g, cap, cur, h1, h2, _⟩
                         · rw [h1] at e; cases e
                         · rw [h1] at e; cases e; exact h2))
                       have cd := XU.out _ A4.out
                       clear ho hg)
                    | (refine step_append_from rfl (.tmp 70) (.tmp 75) 41 rfl (base := U.heap.size) und hi0 hz0 hz1 hz2 rfl v3 (.slice (some ⟨U.heap.size + 1, 0, none⟩) 1 1) (0 + p) 1 ([] ++ svs (Y.take p)) [.string x] (by first | (simp [Act.eval]; done) | fail) (by first | (simp [Act.eval]; done) | fail) O3.out BX.out (ONE.out [x]) (by unfold maxLen; omega) (by omega) (by have := A3.out.size; simp; try omega) ?_
                       intro v4 w4 ho hg _
                       have O4 := Lib.hid ho
                       have A4 := Lib.hid (A3.out.grown hg (by have := A3.out.size; simp; try omega) (fun j e => by
                         rcases O3.out.2 with ⟨h1, _⟩ | ⟨g, cap, cur, h1, h2, _⟩
                         · rw [h1] at e; cases e
                         · rw [h1] at e; cases e; exact h2))
                       have cd := XU.out _ A4.out
                       clear ho hg)
                    | (refine step_append_from rfl (.tmp 70) (.tmp 75) 41 rfl (base := U.heap.size) und hi0 hz0 hz1 hz2 rfl v3 (.slice (some ⟨U.heap.size, 0, none⟩) 1 1) (0 + p) 1 ([] ++ svs (Y.take p)) [.string x] (by first | (simp [Act.eval]; done) | fail) (by first | (simp [Act.eval]; done) | fail) O3.out BX.out (ONE.out [x]) (by unfold maxLen; omega) (by omega) (by have := A3.out.size; simp; try omega) ?_
                       intro v4 w4 ho hg _
                       have O4 := Lib.hid ho
                       have A4 := Lib.hid (A3.out.grown hg (by have := A3.out.size; simp; try omega) (fun j e => by
                         rcases O3.out.2 with ⟨h1, _⟩ | ⟨g, cap, cur, h1, h2, _⟩
                         · rw [h1] at e; cases e
                         · rw [h1] at e; cases e; exact h2))
                       have cd := XU.out _ A4.out
                       clear ho hg)
                    | fail)
                  all_goals
                    have hn5 : 0 + p + 1 + (Y.length - p) = (putK lsS Y x).length := by rw [HK.out]; simp; omega
                    have HN5 := Lib.hid hn5
                    have hpl2 : p ≤ Y.length := by omega
                    clear hn5
                    go_wp2_with (at_builtin; refine wpList_append_from rfl _ _ 41 rfl (base := U.heap.size) und hi0 hz0 hz1 hz2 rfl _ _ (0 + p + 1) (Y.length - p) _ (svs (Y.drop p)) rfl rfl O4.out (FR2.out _ A4.out) (ONE.out _) (by unfold maxLen; omega) (by omega) A4.out.size ?_; intro v5 w5 ho hg _; have O5 := Lib.hid ho; have A5 := Lib.hid (A4.out.grown hg A4.out.size (fun j e => by rcases O4.out.2 with ⟨h1, _⟩ | ⟨g, cap, cur, h1, h2, _⟩; (rw [h1] at e; cases e); (rw [h1] at e; cases e; exact h2))); clear ho hg)
                    obtain ⟨a5, c5, hv5⟩ := row_slice' O5.out
                    subst hv5
                    have hxs : [] ++ svs (Y.take p) ++ [Value.string x] ++ svs (Y.drop p) = svs (putK lsS Y x) := by rw [HK.out]; simp
                    have hBU : B ≤ U.heap.size := Nat.le_trans hBV hU.size
                    have VW := hU.trans (A5.out.mono hU.size)
                    have O6 := owns_mono O5.out hBU
                    have hl6 := HN5.out
                    rw [hxs, hl6] at O6
                    refine ⟨⟨q + 1, putK lsS Y x, a5, c5, by go_num, by rw [hl6], by omega, by omega, Lib.hid O6, Lib.hid (rising_putK strictS hRY.out x), PS, Lib.hid (hBY.out.trans (VW.mono hBV)), Lib.hid ((VW.block _ (lt_block hNY.out)).trans hNY.out), Lib.hid (owns_below hOL.out VW)⟩, by simp [intOf]; omega⟩
              · have hpe : p = Y.length := by omega
                have HH := Lib.hid (show has Y x = false from found_none strictS hRY.out HP.out (by omega))
                clear hpe
                have hpN : decide (p < Y.length) = false := decide_eq_false hpl
                have xl := XL.out _ hBW.out
                have hOO := OY.out _ hBW.out
                cases ay with
                | none =>
                  have hnil : Y = [] ∧ cy = 0 := by
                    rcases hOO.2 with ⟨h1, _⟩ | ⟨g', cap, cur, h1, _⟩
                    · simp only [Value.slice.injEq] at h1
                      exact ⟨List.length_eq_zero_iff.1 h1.2.1, h1.2.2⟩
                    · cases h1
                  clear hOO
                  obtain ⟨rfl, rfl⟩ := hnil
                  obtain rfl : p = 0 := by simp at hPl; omega
                  go_upto_region 14 with (go_quiet (fail))
                  have hU1 := below_drewN hBW.out nq
                  generalize wr.drewN nq = U1 at hU1 ⊢
                  have xl := XL.out U1 hU1
                  go_wp2_with (go_quiet (fail))
                  have hU := below_drewN hU1 nq
                  generalize U1.drewN nq = U at hU ⊢
                  have OU := Lib.hid (OY.out U hU)
                  have XU := Lib.hid (fun W' (h : Below U.heap.size U W') => XL.out W' (hU.trans (h.mono hU.size)))
                  have xl := XL.out U hU
                  have DB := Lib.hid (drew_below U)
                  have FR := Lib.hid (fun (W' : World) (_ : Below U.heap.size U W') => show From W' (.slice none 0 0) 0 [] from .inl ⟨rfl, rfl, rfl⟩)
                  have OW := Lib.hid (show (U.drew.alloc (.cells #[] 9)).ownsRow U.heap.size 9 1 (.slice (some ⟨U.heap.size, 0, none⟩) 0 0) 0 [] from own_new0 U.drew U.heap.size (Nat.le_refl _))
                  have OV := Lib.hid (show ((U.drew.alloc (.cells #[.string x] 9)).alloc (.cells #[] 9)).ownsRow U.heap.size 9 1 (.slice (some ⟨U.heap.size + 1, 0, none⟩) 0 0) 0 [] from by have := own_new0 (U.drew.alloc (.cells #[.string x] 9)) U.heap.size (by simp); rwa [World.size_alloc] at this)
                  have BX2 := Lib.hid (show ((U.drew.alloc (.cells #[] 9)).alloc (.cells #[.string x] 9)).cell? ⟨U.heap.size + 1, 0, none⟩ = some (.string x) from cell_new1 _ _ (by simp))
                  have BX3 := Lib.hid (show ((U.drew.alloc (.cells #[.string x] 9)).alloc (.cells #[] 9)).cell? ⟨U.heap.size, 0, none⟩ = some (.string x) from (cell_of_block (heap_alloc_old _ _ (by simp))).trans (cell_new0 U.drew _))
                  have HK := Lib.hid (show putK lsS ([] : List ByteArray) x = ([] : List ByteArray).take 0 ++ x :: ([] : List ByteArray).drop 0 by unfold putK; rw [if_neg (by rw [HH.out]; decide), HP.out])
                  have FR2 := Lib.hid (fun (W' : World) => show From W' (.slice none 0 0) 0 [] from .inl ⟨rfl, rfl, rfl⟩)
                  have ONE := Lib.hid (fun l : List ByteArray => show ∀ v ∈ svs l, v.oneCell' = true from fun v hv => by obtain ⟨_, _, rfl⟩ := List.mem_map.1 hv; rfl)
                  go_region_held3 (fun w' => w'.cell? ⟨gl, q, none⟩ = some (.string x)) (first | assumption | exact XU.out _ (DB.out.alloc (Nat.le_refl _) _) | exact XU.out _ ((DB.out.alloc (Nat.le_refl _) _).alloc (by simp) _) | exact XU.out _ (((DB.out.alloc (Nat.le_refl _) _).alloc (by simp) _).alloc (by simp; try omega) _) | exact XU.out _ (((DB.out.alloc (Nat.le_refl _) _).alloc (by simp) _).alloc (by simp; try omega) _).drew) (first | fail)
                  all_goals first
                    | (have O4 := Lib.hid (own_grown ((U.alloc (.cells #[] 9)).alloc (.cells #[.string x] 9)) U U.heap.size (Nat.le_refl _) (by simp) (.string x))
                       have A4 := Lib.hid (show Below U.heap.size U ((((U.alloc (.cells #[] 9)).alloc (.cells #[.string x] 9)).alloc (.cells (#[.string x] ++ Builtin.zeroCells #[.string ⟨#[]⟩] ((Question.appendCap 1 0 9).cut (U.tape (U.drawn + 1) (Question.appendCap 1 0 9)) - 1)) 9)).drew.drew) from ((((Below.refl U.heap.size U).alloc (Nat.le_refl _) _).alloc (by simp) _).alloc (by simp; try omega) _).drew.drew)
                       obtain ⟨w4, hw4⟩ : ∃ w4 : World, (((U.alloc (.cells #[] 9)).alloc (.cells #[.string x] 9)).alloc (.cells (#[.string x] ++ Builtin.zeroCells #[.string ⟨#[]⟩] ((Question.appendCap 1 0 9).cut (U.tape (U.drawn + 1) (Question.appendCap 1 0 9)) - 1)) 9)).drew.drew = w4 := ⟨_, rfl⟩
                       rw [hw4] at O4 A4
                       rw [hw4]
                       clear hw4
                       have hge : 1 ≤ (Question.appendCap 1 0 9).cut (U.tape (U.drawn + 1) (Question.appendCap 1 0 9)) := grownCap_ge U.drew 1 0 9
                       generalize (Question.appendCap 1 0 9).cut (U.tape (U.drawn + 1) (Question.appendCap 1 0 9)) = cap at O4 hge ⊢
                       have hBU : B ≤ U.heap.size := Nat.le_trans hBV hU.size
                       have O6 := Lib.hid (owns_mono O4.out hBU)
                       have hK := HK.out
                       have hKl : (putK lsS [] x).length = 1 := by rw [hK]; rfl
                       have HKl := Lib.hid hKl
                       clear hK hKl O4
                       go_wp2_with fail
                       have VW := hU.trans (A4.out.mono hU.size)
                       refine ⟨⟨q + 1, putK lsS [] x, some ⟨U.heap.size + 1 + 1, 0, none⟩, cap, by go_num, by rw [HKl.out], by omega, by rw [HKl.out]; simp at hYs; omega, Lib.hid (by rw [HKl.out, HK.out]; exact O6.out), Lib.hid (rising_putK strictS hRY.out x), PS, Lib.hid (hBY.out.trans (VW.mono hBV)), Lib.hid ((VW.block _ (lt_block hNY.out)).trans hNY.out), Lib.hid (owns_below hOL.out VW)⟩, by simp [intOf]; omega⟩)
                    | (have O4 := Lib.hid (own_grown ((U.alloc (.cells #[.string x] 9)).alloc (.cells #[] 9)) U U.heap.size (Nat.le_refl _) (by simp) (.string x))
                       have A4 := Lib.hid (show Below U.heap.size U ((((U.alloc (.cells #[.string x] 9)).alloc (.cells #[] 9)).alloc (.cells (#[.string x] ++ Builtin.zeroCells #[.string ⟨#[]⟩] ((Question.appendCap 1 0 9).cut (U.tape (U.drawn + 1) (Question.appendCap 1 0 9)) - 1)) 9)).drew.drew) from ((((Below.refl U.heap.size U).alloc (Nat.le_refl _) _).alloc (by simp) _).alloc (by simp; try omega) _).drew.drew)
                       obtain ⟨w4, hw4⟩ : ∃ w4 : World, (((U.alloc (.cells #[.string x] 9)).alloc (.cells #[] 9)).alloc (.cells (#[.string x] ++ Builtin.zeroCells #[.string ⟨#[]⟩] ((Question.appendCap 1 0 9).cut (U.tape (U.drawn + 1) (Question.appendCap 1 0 9)) - 1)) 9)).drew.drew = w4 := ⟨_, rfl⟩
                       rw [hw4] at O4 A4
                       rw [hw4]
                       clear hw4
                       have hge : 1 ≤ (Question.appendCap 1 0 9).cut (U.tape (U.drawn + 1) (Question.appendCap 1 0 9)) := grownCap_ge U.drew 1 0 9
                       generalize (Question.appendCap 1 0 9).cut (U.tape (U.drawn + 1) (Question.appendCap 1 0 9)) = cap at O4 hge ⊢
                       have hBU : B ≤ U.heap.size := Nat.le_trans hBV hU.size
                       have O6 := Lib.hid (owns_mono O4.out hBU)
                       have hK := HK.out
                       have hKl : (putK lsS [] x).length = 1 := by rw [hK]; rfl
                       have HKl := Lib.hid hKl
                       clear hK hKl O4
                       go_wp2_with fail
                       have VW := hU.trans (A4.out.mono hU.size)
                       refine ⟨⟨q + 1, putK lsS [] x, some ⟨U.heap.size + 1 + 1, 0, none⟩, cap, by go_num, by rw [HKl.out], by omega, by rw [HKl.out]; simp at hYs; omega, Lib.hid (by rw [HKl.out, HK.out]; exact O6.out), Lib.hid (rising_putK strictS hRY.out x), PS, Lib.hid (hBY.out.trans (VW.mono hBV)), Lib.hid ((VW.block _ (lt_block hNY.out)).trans hNY.out), Lib.hid (owns_below hOL.out VW)⟩, by simp [intOf]; omega⟩)
                | some g =>
                  obtain ⟨gy, rfl⟩ : ∃ gy, g = ⟨gy, 0, none⟩ := by
                    rcases hOO.2 with ⟨h1, _⟩ | ⟨g', cap, cur, h1, _⟩
                    · cases h1
                    · simp only [Value.slice.injEq, Option.some.injEq] at h1; exact ⟨g', h1.1⟩
                  have hcap := (ownsCaps hOO).1
                  clear hOO
                  by_cases hpcy : p < cy
                  · go_upto_region 14 with (go_quiet (fail))
                    have hU1 := below_drewN hBW.out nq
                    generalize wr.drewN nq = U1 at hU1 ⊢
                    have xl := XL.out U1 hU1
                    go_wp2_with (go_quiet (fail))
                    have hU := below_drewN hU1 nq
                    generalize U1.drewN nq = U at hU ⊢
                    have OU := Lib.hid (OY.out U hU)
                    have XU := Lib.hid (fun W' (h : Below U.heap.size U W') => XL.out W' (hU.trans (h.mono hU.size)))
                    have xl := XL.out U hU
                    have hcy := (ownsCaps OU.out).1
                    have z0 : (0 : Int) ≤ (p : Int) := by omega
                    have z1 : (p : Int) ≤ (cy : Int) := by omega
                    have z2 : (p : Int) ≤ (Y.length : Int) := by omega
                    have DB := Lib.hid (drew_below U)
                    have TK : (svs (Y.take p)).length = p := by rw [List.length_map, List.length_take]; omega
                    have FR := Lib.hid (fun W' (h : Below U.heap.size U W') => show From W' (.slice (some ⟨gy, 0, none⟩) p cy) p (svs (Y.take p)) from .inr ⟨⟨gy, 0, none⟩, cy, rfl, TK, fun j u hj => by
                      have hlj : j < p := by
                        rcases Nat.lt_or_ge j p with h | h
                        · exact h
                        · rw [List.getElem?_eq_none (by rw [TK]; exact h)] at hj; cases hj
                      have hj2 : (svs Y)[j]? = some u := by
                        rw [← hj, List.getElem?_map, List.getElem?_map, List.getElem?_take_of_lt hlj]
                      obtain ⟨g3, h3, h4⟩ := owns_get (owns_below OU.out h) hj2
                      cases h3
                      rw [Addr.add_lit, Nat.zero_add]; exact h4⟩)
                    have OW := Lib.hid (show (U.drew.alloc (.cells #[] 9)).ownsRow U.heap.size 9 1 (.slice (some ⟨U.heap.size, 0, none⟩) 0 0) 0 [] from own_new0 U.drew U.heap.size (Nat.le_refl _))
                    have OV := Lib.hid (show ((U.drew.alloc (.cells #[.string x] 9)).alloc (.cells #[] 9)).ownsRow U.heap.size 9 1 (.slice (some ⟨U.heap.size + 1, 0, none⟩) 0 0) 0 [] from by have := own_new0 (U.drew.alloc (.cells #[.string x] 9)) U.heap.size (by simp); rwa [World.size_alloc] at this)
                    have BX2 := Lib.hid (show ((U.drew.alloc (.cells #[] 9)).alloc (.cells #[.string x] 9)).cell? ⟨U.heap.size + 1, 0, none⟩ = some (.string x) from cell_new1 _ _ (by simp))
                    have BX3 := Lib.hid (show ((U.drew.alloc (.cells #[.string x] 9)).alloc (.cells #[] 9)).cell? ⟨U.heap.size, 0, none⟩ = some (.string x) from (cell_of_block (heap_alloc_old _ _ (by simp))).trans (cell_new0 U.drew _))
                    have HK := Lib.hid (show putK lsS Y x = Y.take p ++ x :: Y.drop p by unfold putK; rw [if_neg (by rw [HH.out]; decide), HP.out])
                    have FR2 := Lib.hid (fun W' (h : Below U.heap.size U W') => show From W' (.slice (some ⟨gy, p, none⟩) (Y.length - p) (cy - p)) (Y.length - p) (svs (Y.drop p)) from .inr ⟨⟨gy, p, none⟩, cy - p, rfl, by rw [List.length_map, List.length_drop], fun j u hj => by
                      have hj2 : (svs Y)[p + j]? = some u := by
                        rw [← hj, List.getElem?_map, List.getElem?_map, List.getElem?_drop]
                      obtain ⟨g3, h3, h4⟩ := owns_get (owns_below OU.out h) hj2
                      cases h3
                      rw [Addr.add_lit]; exact h4⟩)
                    have ONE := Lib.hid (fun l : List ByteArray => show ∀ v ∈ svs l, v.oneCell' = true from fun v hv => by obtain ⟨_, _, rfl⟩ := List.mem_map.1 hv; rfl)
                    go_region_held3 (fun w' => w'.cell? ⟨gl, q, none⟩ = some (.string x)) (first | assumption | exact XU.out _ (DB.out.alloc (Nat.le_refl _) _) | exact XU.out _ ((DB.out.alloc (Nat.le_refl _) _).alloc (by simp) _) | exact XU.out _ (A3.out.alloc A3.out.size _)) (first
                      | (refine step_append_from rfl (.tmp 66) (.tmp 69) 41 rfl (base := U.heap.size) und hi0 hz0 hz1 hz2 rfl (.slice (some ⟨U.heap.size, 0, none⟩) 0 0) (.slice (some ⟨gy, 0, none⟩) p cy) 0 p [] (svs (Y.take p)) (by first | (simp [Act.eval]; done) | fail) (by first | (simp [Act.eval]; done) | fail) OW.out (FR.out _ (DB.out.alloc (Nat.le_refl _) (.cells #[] 9))) (ONE.out _) (by unfold maxLen; omega) (by omega) (by simp; try omega) ?_
                         intro v3 w3 ho hg _
                         have O3 := Lib.hid ho
                         have A3 := Lib.hid ((DB.out.alloc (Nat.le_refl _) (.cells #[] 9)).grown hg (by simp; try omega) (fun j e => by cases e; first | exact Nat.le_refl _ | exact Nat.le_succ _))
                         have cc := XU.out _ A3.out
                         clear ho hg)
                      | (refine step_append_from rfl (.tmp 66) (.tmp 69) 41 rfl (base := U.heap.size) und hi0 hz0 hz1 hz2 rfl (.slice (some ⟨U.heap.size, 0, none⟩) 0 0) (.slice (some ⟨gy, 0, none⟩) p cy) 0 p [] (svs (Y.take p)) (by first | (simp [Act.eval]; done) | fail) (by first | (simp [Act.eval]; done) | fail) (OW.out.alloc _) (FR.out _ ((DB.out.alloc (Nat.le_refl _) (.cells #[] 9)).alloc (by simp) (.cells #[.string x] 9))) (ONE.out _) (by unfold maxLen; omega) (by omega) (by simp; try omega) ?_
                         intro v3 w3 ho hg _
                         have O3 := Lib.hid ho
                         have A3 := Lib.hid (((DB.out.alloc (Nat.le_refl _) (.cells #[] 9)).alloc (by simp) (.cells #[.string x] 9)).grown hg (by simp; try omega) (fun j e => by cases e; first | exact Nat.le_refl _ | exact Nat.le_succ _))
                         have BX := Lib.hid (show From w3 (.slice (some ⟨U.heap.size + 1, 0, none⟩) 1 1) 1 [.string x] from from_one ((cell_of_block (hg.block _ (by simp) (fun e => absurd (Option.some.inj (show some (U.heap.size + 1) = some U.heap.size from e)) (by omega)))).trans BX2.out))
                         have cc := XU.out _ A3.out
                         clear ho hg)
                      | (refine step_append_from rfl (.tmp 66) (.tmp 69) 41 rfl (base := U.heap.size) und hi0 hz0 hz1 hz2 rfl (.slice (some ⟨U.heap.size + 1, 0, none⟩) 0 0) (.slice (some ⟨gy, 0, none⟩) p cy) 0 p [] (svs (Y.take p)) (by first | (simp [Act.eval]; done) | fail) (by first | (simp [Act.eval]; done) | fail) OV.out (FR.out _ ((DB.out.alloc (Nat.le_refl _) (.cells #[.string x] 9)).alloc (by simp) (.cells #[] 9))) (ONE.out _) (by unfold maxLen; omega) (by omega) (by simp; try omega) ?_
                         intro v3 w3 ho hg _
                         have O3 := Lib.hid ho
                         have A3 := Lib.hid (((DB.out.alloc (Nat.le_refl _) (.cells #[.string x] 9)).alloc (by simp) (.cells #[] 9)).grown hg (by simp; try omega) (fun j e => by cases e; first | exact Nat.le_refl _ | exact Nat.le_succ _))
                         have BX := Lib.hid (show From w3 (.slice (some ⟨U.heap.size, 0, none⟩) 1 1) 1 [.string x] from from_one ((cell_of_block (hg.block _ (by simp; try omega) (fun e => absurd (Option.some.inj (show some U.heap.size = some (U.heap.size + 1) from e)) (by omega)))).trans BX3.out))
                         have cc := XU.out _ A3.out
                         clear ho hg)
                      | (refine step_append_from rfl (.tmp 70) (.tmp 75) 41 rfl (base := U.heap.size) und hi0 hz0 hz1 hz2 rfl v3 (.slice (some ⟨w3.heap.size, 0, none⟩) 1 1) (0 + p) 1 ([] ++ svs (Y.take p)) [.string x] (by first | (simp [Act.eval]; done) | fail) (by first | (simp [Act.eval]; done) | fail) (O3.out.alloc _) (from_one (cell_new0 _ _)) (ONE.out [x]) (by unfold maxLen; omega) (by omega) (by have := A3.out.size; simp; try omega) ?_
                         intro v4 w4 ho hg _
                         have O4 := Lib.hid ho
                         have A4 := Lib.hid ((A3.out.alloc A3.out.size (.cells #[.string x] 9)).grown hg (by have := A3.out.size; simp; try omega) (fun j e => by
                           rcases O3.out.2 with ⟨h1, _⟩ | ⟨g, cap, cur, h1, h2, _⟩
                           · rw [h1] at e; cases e
                           · rw [h1] at e; cases e; exact h2))
                         have cd := XU.out _ A4.out
                         clear ho hg)
                      | (refine step_append_from rfl (.tmp 70) (.tmp 75) 41 rfl (base := U.heap.size) und hi0 hz0 hz1 hz2 rfl v3 (.slice (some ⟨U.heap.size + 1, 0, none⟩) 1 1) (0 + p) 1 ([] ++ svs (Y.take p)) [.string x] (by first | (simp [Act.eval]; done) | fail) (by first | (simp [Act.eval]; done) | fail) O3.out BX.out (ONE.out [x]) (by unfold maxLen; omega) (by omega) (by have := A3.out.size; simp; try omega) ?_
                         intro v4 w4 ho hg _
                         have O4 := Lib.hid ho
                         have A4 := Lib.hid (A3.out.grown hg (by have := A3.out.size; simp; try omega) (fun j e => by
                           rcases O3.out.2 with ⟨h1, _⟩ | ⟨g, cap, cur, h1, h2, _⟩
                           · rw [h1] at e; cases e
                           · rw [h1] at e; cases e; exact h2))
                         have cd := XU.out _ A4.out
                         clear ho hg)
                      | (refine step_append_from rfl (.tmp 70) (.tmp 75) 41 rfl (base := U.heap.size) und hi0 hz0 hz1 hz2 rfl v3 (.slice (some ⟨U.heap.size, 0, none⟩) 1 1) (0 + p) 1 ([] ++ svs (Y.take p)) [.string x] (by first | (simp [Act.eval]; done) | fail) (by first | (simp [Act.eval]; done) | fail) O3.out BX.out (ONE.out [x]) (by unfold maxLen; omega) (by omega) (by have := A3.out.size; simp; try omega) ?_
                         intro v4 w4 ho hg _
                         have O4 := Lib.hid ho
                         have A4 := Lib.hid (A3.out.grown hg (by have := A3.out.size; simp; try omega) (fun j e => by
                           rcases O3.out.2 with ⟨h1, _⟩ | ⟨g, cap, cur, h1, h2, _⟩
                           · rw [h1] at e; cases e
                           · rw [h1] at e; cases e; exact h2))
                         have cd := XU.out _ A4.out
                         clear ho hg)
                      | fail)
                    all_goals
                      have hn5 : 0 + p + 1 + (Y.length - p) = (putK lsS Y x).length := by rw [HK.out]; simp; omega
                      have HN5 := Lib.hid hn5
                      have hpl2 : p ≤ Y.length := by omega
                      clear hn5
                      go_wp2_with (at_builtin; refine wpList_append_from rfl _ _ 41 rfl (base := U.heap.size) und hi0 hz0 hz1 hz2 rfl _ _ (0 + p + 1) (Y.length - p) _ (svs (Y.drop p)) rfl rfl O4.out (FR2.out _ A4.out) (ONE.out _) (by unfold maxLen; omega) (by omega) A4.out.size ?_; intro v5 w5 ho hg _; have O5 := Lib.hid ho; have A5 := Lib.hid (A4.out.grown hg A4.out.size (fun j e => by rcases O4.out.2 with ⟨h1, _⟩ | ⟨g, cap, cur, h1, h2, _⟩; (rw [h1] at e; cases e); (rw [h1] at e; cases e; exact h2))); clear ho hg)
                      obtain ⟨a5, c5, hv5⟩ := row_slice' O5.out
                      subst hv5
                      have hxs : [] ++ svs (Y.take p) ++ [Value.string x] ++ svs (Y.drop p) = svs (putK lsS Y x) := by rw [HK.out]; simp
                      have hBU : B ≤ U.heap.size := Nat.le_trans hBV hU.size
                      have VW := hU.trans (A5.out.mono hU.size)
                      have O6 := owns_mono O5.out hBU
                      have hl6 := HN5.out
                      rw [hxs, hl6] at O6
                      refine ⟨⟨q + 1, putK lsS Y x, a5, c5, by go_num, by rw [hl6], by omega, by omega, Lib.hid O6, Lib.hid (rising_putK strictS hRY.out x), PS, Lib.hid (hBY.out.trans (VW.mono hBV)), Lib.hid ((VW.block _ (lt_block hNY.out)).trans hNY.out), Lib.hid (owns_below hOL.out VW)⟩, by simp [intOf]; omega⟩

                  · obtain rfl : cy = p := by omega
                    go_upto_region 14 with (go_quiet (fail))
                    have hU1 := below_drewN hBW.out nq
                    generalize wr.drewN nq = U1 at hU1 ⊢
                    have xl := XL.out U1 hU1
                    go_wp2_with (go_quiet (fail))
                    have hU := below_drewN hU1 nq
                    generalize U1.drewN nq = U at hU ⊢
                    have OU := Lib.hid (OY.out U hU)
                    have XU := Lib.hid (fun W' (h : Below U.heap.size U W') => XL.out W' (hU.trans (h.mono hU.size)))
                    have xl := XL.out U hU
                    have hcy := (ownsCaps OU.out).1
                    have z0 : (0 : Int) ≤ (cy : Int) := by omega
                    have z1 : (cy : Int) ≤ (cy : Int) := by omega
                    have z2 : (cy : Int) ≤ (Y.length : Int) := by omega
                    have DB := Lib.hid (drew_below U)
                    have TK : (svs (Y.take cy)).length = cy := by rw [List.length_map, List.length_take]; omega
                    have FR := Lib.hid (fun W' (h : Below U.heap.size U W') => show From W' (.slice (some ⟨gy, 0, none⟩) cy cy) cy (svs (Y.take cy)) from .inr ⟨⟨gy, 0, none⟩, cy, rfl, TK, fun j u hj => by
                      have hlj : j < cy := by
                        rcases Nat.lt_or_ge j cy with h | h
                        · exact h
                        · rw [List.getElem?_eq_none (by rw [TK]; exact h)] at hj; cases hj
                      have hj2 : (svs Y)[j]? = some u := by
                        rw [← hj, List.getElem?_map, List.getElem?_map, List.getElem?_take_of_lt hlj]
                      obtain ⟨g3, h3, h4⟩ := owns_get (owns_below OU.out h) hj2
                      cases h3
                      rw [Addr.add_lit, Nat.zero_add]; exact h4⟩)
                    have OW := Lib.hid (show (U.drew.alloc (.cells #[] 9)).ownsRow U.heap.size 9 1 (.slice (some ⟨U.heap.size, 0, none⟩) 0 0) 0 [] from own_new0 U.drew U.heap.size (Nat.le_refl _))
                    have OV := Lib.hid (show ((U.drew.alloc (.cells #[.string x] 9)).alloc (.cells #[] 9)).ownsRow U.heap.size 9 1 (.slice (some ⟨U.heap.size + 1, 0, none⟩) 0 0) 0 [] from by have := own_new0 (U.drew.alloc (.cells #[.string x] 9)) U.heap.size (by simp); rwa [World.size_alloc] at this)
                    have BX2 := Lib.hid (show ((U.drew.alloc (.cells #[] 9)).alloc (.cells #[.string x] 9)).cell? ⟨U.heap.size + 1, 0, none⟩ = some (.string x) from cell_new1 _ _ (by simp))
                    have BX3 := Lib.hid (show ((U.drew.alloc (.cells #[.string x] 9)).alloc (.cells #[] 9)).cell? ⟨U.heap.size, 0, none⟩ = some (.string x) from (cell_of_block (heap_alloc_old _ _ (by simp))).trans (cell_new0 U.drew _))
                    have HK := Lib.hid (show putK lsS Y x = Y.take cy ++ x :: Y.drop cy by unfold putK; rw [if_neg (by rw [HH.out]; decide), HP.out])
                    have FR2 := Lib.hid (fun (W' : World) (A : Addr) (C : Nat) => show From W' (.slice (some A) (Y.length - cy) C) (Y.length - cy) (svs (Y.drop cy)) from .inr ⟨A, C, rfl, by rw [List.length_map, List.length_drop], fun j u hj => by rw [List.drop_eq_nil_of_le (by omega)] at hj; cases hj⟩)
                    have ONE := Lib.hid (fun l : List ByteArray => show ∀ v ∈ svs l, v.oneCell' = true from fun v hv => by obtain ⟨_, _, rfl⟩ := List.mem_map.1 hv; rfl)
                    go_region_held3 (fun w' => w'.cell? ⟨gl, q, none⟩ = some (.string x)) (first | assumption | exact XU.out _ (DB.out.alloc (Nat.le_refl _) _) | exact XU.out _ ((DB.out.alloc (Nat.le_refl _) _).alloc (by simp) _) | exact XU.out _ (A3.out.alloc A3.out.size _)) (first
                      | (refine step_append_from rfl (.tmp 66) (.tmp 69) 41 rfl (base := U.heap.size) und hi0 hz0 hz1 hz2 rfl (.slice (some ⟨U.heap.size, 0, none⟩) 0 0) (.slice (some ⟨gy, 0, none⟩) cy cy) 0 cy [] (svs (Y.take cy)) (by first | (simp [Act.eval]; done) | fail) (by first | (simp [Act.eval]; done) | fail) OW.out (FR.out _ (DB.out.alloc (Nat.le_refl _) (.cells #[] 9))) (ONE.out _) (by unfold maxLen; omega) (by omega) (by simp; try omega) ?_
                         intro v3 w3 ho hg _
                         have O3 := Lib.hid ho
                         have A3 := Lib.hid ((DB.out.alloc (Nat.le_refl _) (.cells #[] 9)).grown hg (by simp; try omega) (fun j e => by cases e; first | exact Nat.le_refl _ | exact Nat.le_succ _))
                         have cc := XU.out _ A3.out
                         clear ho hg)
                      | (refine step_append_from rfl (.tmp 66) (.tmp 69) 41 rfl (base := U.heap.size) und hi0 hz0 hz1 hz2 rfl (.slice (some ⟨U.heap.size, 0, none⟩) 0 0) (.slice (some ⟨gy, 0, none⟩) cy cy) 0 cy [] (svs (Y.take cy)) (by first | (simp [Act.eval]; done) | fail) (by first | (simp [Act.eval]; done) | fail) (OW.out.alloc _) (FR.out _ ((DB.out.alloc (Nat.le_refl _) (.cells #[] 9)).alloc (by simp) (.cells #[.string x] 9))) (ONE.out _) (by unfold maxLen; omega) (by omega) (by simp; try omega) ?_
                         intro v3 w3 ho hg _
                         have O3 := Lib.hid ho
                         have A3 := Lib.hid (((DB.out.alloc (Nat.le_refl _) (.cells #[] 9)).alloc (by simp) (.cells #[.string x] 9)).grown hg (by simp; try omega) (fun j e => by cases e; first | exact Nat.le_refl _ | exact Nat.le_succ _))
                         have BX := Lib.hid (show From w3 (.slice (some ⟨U.heap.size + 1, 0, none⟩) 1 1) 1 [.string x] from from_one ((cell_of_block (hg.block _ (by simp) (fun e => absurd (Option.some.inj (show some (U.heap.size + 1) = some U.heap.size from e)) (by omega)))).trans BX2.out))
                         have cc := XU.out _ A3.out
                         clear ho hg)
                      | (refine step_append_from rfl (.tmp 66) (.tmp 69) 41 rfl (base := U.heap.size) und hi0 hz0 hz1 hz2 rfl (.slice (some ⟨U.heap.size + 1, 0, none⟩) 0 0) (.slice (some ⟨gy, 0, none⟩) cy cy) 0 cy [] (svs (Y.take cy)) (by first | (simp [Act.eval]; done) | fail) (by first | (simp [Act.eval]; done) | fail) OV.out (FR.out _ ((DB.out.alloc (Nat.le_refl _) (.cells #[.string x] 9)).alloc (by simp) (.cells #[] 9))) (ONE.out _) (by unfold maxLen; omega) (by omega) (by simp; try omega) ?_
                         intro v3 w3 ho hg _
                         have O3 := Lib.hid ho
                         have A3 := Lib.hid (((DB.out.alloc (Nat.le_refl _) (.cells #[.string x] 9)).alloc (by simp) (.cells #[] 9)).grown hg (by simp; try omega) (fun j e => by cases e; first | exact Nat.le_refl _ | exact Nat.le_succ _))
                         have BX := Lib.hid (show From w3 (.slice (some ⟨U.heap.size, 0, none⟩) 1 1) 1 [.string x] from from_one ((cell_of_block (hg.block _ (by simp; try omega) (fun e => absurd (Option.some.inj (show some U.heap.size = some (U.heap.size + 1) from e)) (by omega)))).trans BX3.out))
                         have cc := XU.out _ A3.out
                         clear ho hg)
                      | (refine step_append_from rfl (.tmp 70) (.tmp 75) 41 rfl (base := U.heap.size) und hi0 hz0 hz1 hz2 rfl v3 (.slice (some ⟨w3.heap.size, 0, none⟩) 1 1) (0 + cy) 1 ([] ++ svs (Y.take cy)) [.string x] (by first | (simp [Act.eval]; done) | fail) (by first | (simp [Act.eval]; done) | fail) (O3.out.alloc _) (from_one (cell_new0 _ _)) (ONE.out [x]) (by unfold maxLen; omega) (by omega) (by have := A3.out.size; simp; try omega) ?_
                         intro v4 w4 ho hg _
                         have O4 := Lib.hid ho
                         have A4 := Lib.hid ((A3.out.alloc A3.out.size (.cells #[.string x] 9)).grown hg (by have := A3.out.size; simp; try omega) (fun j e => by
                           rcases O3.out.2 with ⟨h1, _⟩ | ⟨g, cap, cur, h1, h2, _⟩
                           · rw [h1] at e; cases e
                           · rw [h1] at e; cases e; exact h2))
                         have cd := XU.out _ A4.out
                         clear ho hg)
                      | (refine step_append_from rfl (.tmp 70) (.tmp 75) 41 rfl (base := U.heap.size) und hi0 hz0 hz1 hz2 rfl v3 (.slice (some ⟨U.heap.size + 1, 0, none⟩) 1 1) (0 + cy) 1 ([] ++ svs (Y.take cy)) [.string x] (by first | (simp [Act.eval]; done) | fail) (by first | (simp [Act.eval]; done) | fail) O3.out BX.out (ONE.out [x]) (by unfold maxLen; omega) (by omega) (by have := A3.out.size; simp; try omega) ?_
                         intro v4 w4 ho hg _
                         have O4 := Lib.hid ho
                         have A4 := Lib.hid (A3.out.grown hg (by have := A3.out.size; simp; try omega) (fun j e => by
                           rcases O3.out.2 with ⟨h1, _⟩ | ⟨g, cap, cur, h1, h2, _⟩
                           · rw [h1] at e; cases e
                           · rw [h1] at e; cases e; exact h2))
                         have cd := XU.out _ A4.out
                         clear ho hg)
                      | (refine step_append_from rfl (.tmp 70) (.tmp 75) 41 rfl (base := U.heap.size) und hi0 hz0 hz1 hz2 rfl v3 (.slice (some ⟨U.heap.size, 0, none⟩) 1 1) (0 + cy) 1 ([] ++ svs (Y.take cy)) [.string x] (by first | (simp [Act.eval]; done) | fail) (by first | (simp [Act.eval]; done) | fail) O3.out BX.out (ONE.out [x]) (by unfold maxLen; omega) (by omega) (by have := A3.out.size; simp; try omega) ?_
                         intro v4 w4 ho hg _
                         have O4 := Lib.hid ho
                         have A4 := Lib.hid (A3.out.grown hg (by have := A3.out.size; simp; try omega) (fun j e => by
                           rcases O3.out.2 with ⟨h1, _⟩ | ⟨g, cap, cur, h1, h2, _⟩
                           · rw [h1] at e; cases e
                           · rw [h1] at e; cases e; exact h2))
                         have cd := XU.out _ A4.out
                         clear ho hg)
                      | fail)
                    all_goals
                      have O4' := O4.out
                      have hxs : [] ++ svs (Y.take cy) ++ [Value.string x] = svs (putK lsS Y x) := by rw [HK.out, List.drop_eq_nil_of_le (by omega)]; simp
                      have hl6 : cy + 1 = (putK lsS Y x).length := by rw [HK.out]; simp; omega
                      rw [hxs, Nat.zero_add] at O4'
                      obtain ⟨a4, c4, hv4⟩ := row_slice' O4'
                      subst hv4
                      obtain ⟨g4, rfl⟩ : ∃ g4, a4 = some ⟨g4, 0, none⟩ := by
                        rcases O4'.2 with ⟨h1, _⟩ | ⟨g, cap, cur, h1, _⟩
                        · simp at h1
                        · simp only [Value.slice.injEq] at h1; exact ⟨g, h1.1⟩
                      have hc4 : cy + 1 ≤ c4 := (ownsCaps O4').1
                      have hBU : B ≤ U.heap.size := Nat.le_trans hBV hU.size
                      have O6 := Lib.hid (owns_mono O4' hBU)
                      have HL6 := Lib.hid hl6
                      clear O4' O4 FR2 hl6 hxs
                      go_wp2_with fail
                      all_goals
                        have hl6 := HL6.out
                        have VW := hU.trans (A4.out.mono hU.size)
                        have O7 := O6.out
                        rw [hl6] at O7
                        refine ⟨⟨q + 1, putK lsS Y x, _, _, by go_num, by rw [← hl6], by omega, by omega, Lib.hid O7, Lib.hid (rising_putK strictS hRY.out x), PS, Lib.hid (hBY.out.trans (VW.mono hBV)), Lib.hid ((VW.block _ (lt_block hNY.out)).trans hNY.out), Lib.hid (owns_below hOL.out VW)⟩, by simp [intOf]; omega⟩
        · have hLe : L.drop q = [] := List.drop_eq_nil_of_le (by omega)
          have hYX : Y = putsN X L := by have := hPY.out; rw [hLe] at this; exact this
          have EN2 := Lib.hid (show namesF (t.ks.drop (k + 1)) Y = Z by rw [hYX]; exact EN.out)
          have hZ3 := Lib.hid (show Y.length + sizeF (t.ks.drop (k + 1)) ≤ 60 by rw [HS2.out]; omega)
          clear hLe hYX hPY
          go_wp2_with fail
          go_roundw
          case rel => exact ⟨k + 1, Y, ay, cy, by go_num, rfl, by omega, hOY, hRY, EN2, hZ3, hBY, hNY⟩
          case measure => simp [intOf]; omega
    · have hX : X = Z := by have := hE.out; rw [F.drop_len _ _ (by omega)] at this; exact this
      have HX := Lib.hid hX
      clear hX
      go_wp2_with fail
      go_ret
      exact ⟨⟨_, rfl, by rw [← HX.out]; exact hO.out⟩, hB.out⟩

theorem nam_any (t : TN) : NamOK t := tree_of nam_step t

end

end Go.Proofs.YtcmcnmmhkpolcaaGreatDoor.En
