/-
  No statement: Sweep of package table.
-/
import Derived.Test.YtikifgenfpkidaaTbGetR
set_option linter.unusedVariables false
set_option linter.unusedSimpArgs false
namespace Go.Proofs.Ytikifgenfpkidaa
open Go.RowKit

/-- Is a row older than that, and not the one to keep? -/
def oldR (d : Int) (keep : ByteArray) (x : RD) : Bool := decide (x.t < d) && !(x.key.toList == keep.toList)
/-- What goes. -/
def goneT (d : Int) (keep : ByteArray) (L : List RD) : List ByteArray := (L.filter (oldR d keep)).map (·.key)
def dropsT (L : List RD) (G : List ByteArray) : List RD := G.foldl dropT L

theorem dropsT_len (L : List RD) (G : List ByteArray) : (dropsT L G).length ≤ L.length := by
  induction G generalizing L with
  | nil => exact Nat.le_refl _
  | cons g r ih => exact Nat.le_trans (ih (dropT L g)) (dropT_len L g)

theorem goneT_snoc (d : Int) (keep : ByteArray) (l : List RD) (x : RD) : goneT d keep (l ++ [x]) = if oldR d keep x = true then goneT d keep l ++ [x.key] else goneT d keep l := by
  unfold goneT
  rw [List.filter_append]
  by_cases h : oldR d keep x = true
  · rw [if_pos h]; simp [h]
  · rw [if_neg h]; simp [h]

theorem infoS : (Try.prog.info? 9).map (fun i => (i.zero, i.size, i.bytes)) = some (some (.string ⟨#[]⟩), 1, 16) := by kernel_rfl

/-- Texts that the call owns. -/
def OwnS1 (w : World) (B : Nat) (v : Value) (G : List ByteArray) : Prop := w.ownsRow B 9 1 v G.length (G.map Value.string)

theorem Kept.owns' {S : Nat → Prop} {w w' : World} {base : Nat} {e : TypeId} {size : Nat} {v : Value} {n : Nat} {xs : List Value} (h : Kept S w w') (ho : w.ownsRow base e size v n xs)
    (hS : ∀ b, v.ownBlock = some b → ¬ S b) : w'.ownsRow base e size v n xs := h.owns ho hS

/-- What Sweep leaves. -/
def SweepPost (w : World) (p : Nat) (most : Int) (F X : Nat → Prop) (L : List RD) (d : Int) (keep : ByteArray) (e : Ending) (w' : World) : Prop :=
  (∃ a c, e = .returned (.slice a (goneT d keep L).length c) ∧ OwnS1 w' w.heap.size (.slice a (goneT d keep L).length c) (goneT d keep L)) ∧ TurnT w w' p most F X (dropsT L (goneT d keep L))

set_option maxRecDepth 100000 in
set_option maxHeartbeats 8000000 in
theorem sweep_any (w : World) (p : Nat) (most : Int) (F X : Nat → Prop) (L : List RD) (now age : Int) (keep : ByteArray) (h1 : 0 ≤ now) (h2 : 0 ≤ age) (h3 : now ≤ 9223372036854775807) (h4 : age ≤ 9223372036854775807) (hn : L.length ≤ 1000) (h : Tab w p most F X L) :
    Calls Try.prog 18 #[.pointer (some ⟨p, 0, none⟩), .int .i64 now, .int .i64 age, .string keep] w (SweepPost w p most F X L (now - age) keep) := by
  obtain ⟨i0, hi, hz0, hz1, hz2⟩ := info_parts infoS
  have und : Try.prog.underlying 50 = some (.slice 9) := Try.underlying50
  have LN := Lib.hid (p := ∀ w', Below w.heap.size w w' → Calls Try.prog 23 #[.pointer (some ⟨p, 0, none⟩)] w' fun e w'' => e = .returned (.int .i64 (L.length : Nat)) ∧ w' = w'') (fun w' hb => tabLen w' p most F X L (h.below hb))
  have AT := Lib.hid (p := ∀ (i : Nat) (x : RD), L[i]? = some x → ∃ a c, RowAt w (fun k => F k ∨ X k) x a ∧ ∀ w', Below w.heap.size w w' → Calls Try.prog 42 #[.pointer (some ⟨p, 0, none⟩), .int .i64 i] w' fun e w'' => e = .returned (rowV x a c) ∧ Below w'.heap.size w' w'') (fun i x hx => tabAt w p most F X L i x (by omega) h hx)
  have HT := Lib.hid h
  have hw : IntKind.i64.wrap (now - age) = now - age := by rw [IntKind.wrap_i64]; omega
  have a1 : decide (now < 0) = false := decide_eq_false (by omega)
  have a2 : decide (age < 0) = false := decide_eq_false (by omega)
  obtain ⟨d, hd⟩ : ∃ d, now - age = d := ⟨_, rfl⟩
  rw [hd] at hw ⊢
  clear h h1 h2 h3 h4
  go_enter Try.func18, Try.ntmps18
  go_wp2_with fail
  refine (LN.out w (Below.refl _ _)).mono ?_
  rintro e w1 ⟨rfl, rfl⟩
  go_wp2_with fail
  go_loopw [9, 22] (fun v iv wr => ∃ (k : Nat) (va : Option Addr) (vl vc : Nat), v = .slice va vl vc ∧ iv = .int .i64 k ∧ k ≤ L.length ∧ Hid (OwnS1 wr w.heap.size (.slice va vl vc) (goneT d keep (L.take k))) ∧ Hid (Below w.heap.size w wr)) (fun _ iv _ => L.length - (intOf iv).toNat)
  case atStart => exact ⟨0, none, 0, 0, rfl, rfl, Nat.zero_le _, Lib.hid (World.ownsRow_nil _ _ _ _), Lib.hid (Below.refl _ _)⟩
  case round =>
    obtain ⟨k, va, vl, vc, rfl, rfl, hk, hO, hB⟩ := hrel
    by_cases hlt : k < L.length
    · obtain ⟨x, hx⟩ : ∃ x, L[k]? = some x := ⟨_, List.getElem?_eq_getElem hlt⟩
      obtain ⟨ax, cx, -, CX'⟩ := AT.out k x hx
      have CX := Lib.hid CX'
      have HS := Lib.hid (show goneT d keep (L.take (k + 1)) = if oldR d keep x = true then goneT d keep (L.take k) ++ [x.key] else goneT d keep (L.take k) by
        rw [List.take_add_one, hx, ← goneT_snoc]; rfl)
      have hzr := hB.out.size
      have hgl : (goneT d keep (L.take k)).length ≤ k := by unfold goneT; rw [List.length_map]; exact Nat.le_trans (List.length_filter_le _ _) (by rw [List.length_take]; omega)
      obtain ⟨GK, hGK⟩ : ∃ GK, goneT d keep (L.take k) = GK := ⟨_, rfl⟩
      rw [hGK] at hO HS hgl
      clear CX' hx hGK
      go_wp2_with fail
      refine (CX.out wr hB.out).mono ?_
      rintro e w3 ⟨rfl, hb3⟩
      unfold rowV
      go_upto_region 8 with fail
      generalize hV : World.alloc w3 _ = V
      have hb2 : Below w3.heap.size w3 V := by rw [← hV]; exact (Below.refl _ _).alloc (Nat.le_refl _) _
      have h1 : V.heap[w3.heap.size]? = some (rowO x ax cx) := by rw [← hV]; exact heap_alloc_new w3 _
      have hbV := hb3.trans (hb2.mono hb3.size)
      have BV := Lib.hid (hB.out.trans (hbV.mono hzr))
      have OV : Hid (OwnS1 V w.heap.size (.slice va vl vc) GK) := Lib.hid (owns_below hO.out hbV)
      have hzV := hbV.size
      have hVl := lt_of_block h1
      clear hV hb2 hb3 hbV hO hB CX
      obtain ⟨⟨x0, x1, x2, x3, x4, x5⟩, -⟩ := six h1
      clear h1
      by_cases ht : x.t < d
      case neg =>
        have ht2 : decide (x.t < d) = false := decide_eq_false ht
        have hold : oldR d keep x = false := by unfold oldR; rw [ht2]; rfl
        have O5 : Hid (OwnS1 V w.heap.size (.slice va vl vc) (goneT d keep (L.take (k + 1)))) := Lib.hid (by rw [HS.out, hold, if_neg (by simp)]; exact OV.out)
        clear HS hold OV
        go_wp2_with fail
        go_roundw
        case rel => exact ⟨k + 1, va, vl, vc, rfl, by go_num, by omega, O5, BV⟩
        case measure => simp [intOf]; omega
      have ht2 : decide (x.t < d) = true := decide_eq_true ht
      cases hkk : (x.key.toList == keep.toList) with
      | true =>
        have hold : oldR d keep x = false := by unfold oldR; rw [ht2, hkk]; rfl
        have O5 : Hid (OwnS1 V w.heap.size (.slice va vl vc) (goneT d keep (L.take (k + 1)))) := Lib.hid (by rw [HS.out, hold, if_neg (by simp)]; exact OV.out)
        have hk2 : (x.key.toList != keep.toList) = false := by rw [bne, hkk]; rfl
        clear HS hold OV
        go_wp2_with fail
        go_roundw
        case rel => exact ⟨k + 1, va, vl, vc, rfl, by go_num, by omega, O5, BV⟩
        case measure => simp [intOf]; omega
      | false =>
        have hold : oldR d keep x = true := by unfold oldR; rw [ht2, hkk]; rfl
        rw [hold, if_pos rfl] at HS
        have hk2 : (x.key.toList != keep.toList) = true := by rw [bne, hkk]; rfl
        have OE : Hid (OwnS1 (V.alloc (.cells #[.string x.key] 9)) w.heap.size (.slice va vl vc) GK) := Lib.hid (owns_below OV.out ((Below.refl _ _).alloc (Nat.le_refl _) _))
        have BE := Lib.hid (BV.out.alloc (by have := BV.out.size; omega) (.cells #[.string x.key] 9))
        have NEW := Lib.hid (p := ∀ j u, ([Value.string x.key] : List Value)[j]? = some u → (V.alloc (.cells #[.string x.key] 9)).cell? ((⟨V.heap.size, 0, none⟩ : Addr).add j) = some u) (fun j u hj => by
          rw [Addr.add_lit, Nat.zero_add, cell_of_row _ _ _ _ _ (0, 0) (heap_alloc_new V _)]
          simpa using hj)
        clear hold OV BV
        go_wp2_with (at_builtin; refine wpList_append_new rfl _ _ 50 rfl (base := w.heap.size) und hi hz0 hz1 hz2 rfl (by decide) (.slice va vl vc) GK.length 1 1 ⟨V.heap.size, 0, none⟩ (GK.map Value.string) [.string x.key] rfl rfl OE.out rfl NEW.out (fun u hu => by rw [List.mem_singleton.1 hu]; rfl) (by unfold maxLen; omega) (by omega) (by have := BE.out.size; omega) ?_)
        intro v5 w5 hown5 hgrow5 hq5
        obtain ⟨va', vc', rfl⟩ := own_rowG hown5
        have O5 : Hid (OwnS1 w5 w.heap.size (.slice va' (GK.length + 1) vc') (goneT d keep (L.take (k + 1)))) := Lib.hid (by rw [HS.out]; unfold OwnS1; rw [List.length_append, List.map_append]; exact hown5)
        have B5 := Lib.hid (BE.out.grown hgrow5 (by have := BE.out.size; omega) (fun q hq => (OE.out.lt q hq).1))
        clear hown5 hgrow5 hq5 OE BE NEW HS
        go_wp2_with fail
        go_roundw
        case rel => exact ⟨k + 1, va', GK.length + 1, vc', rfl, by go_num, by omega, O5, B5⟩
        case measure => simp [intOf]; omega
    · obtain rfl : k = L.length := by omega
      rw [List.take_length] at hO
      have hvl : vl = (goneT d keep L).length := by
        rcases hO.out.2 with ⟨h, h0⟩ | ⟨g, cap, _, h, _⟩
        · simp only [Value.slice.injEq] at h; omega
        · simp only [Value.slice.injEq] at h; omega
      subst hvl
      have hgl : (goneT d keep L).length ≤ 1000 := by unfold goneT; rw [List.length_map]; exact Nat.le_trans (List.length_filter_le _ _) hn
      have PP := Lib.hid (p := ∀ e w', e = .returned (.slice va (goneT d keep L).length vc) → OwnS1 w' w.heap.size (.slice va (goneT d keep L).length vc) (goneT d keep L) → TurnT w w' p most F X (dropsT L (goneT d keep L)) → SweepPost w p most F X L d keep e w') (fun e w' a1 a2 a3 => ⟨⟨va, vc, a1, a2⟩, a3⟩)
      obtain ⟨G, hG⟩ : ∃ G, goneT d keep L = G := ⟨_, rfl⟩
      rw [hG] at hO PP hgl ⊢
      have TX : Hid (Tab wr p most F (fun k => X k ∨ (va.map (·.block)) = some k) L) := Lib.hid (HT.out.more (keptNew hB.out) (fun k hk => by
        rcases hk with h | h
        · exact ⟨.inl h, Nat.lt_of_lt_of_le (HT.out.apart k h).2 hB.out.size⟩
        · have hq : (Value.slice va G.length vc).ownBlock = some k := by cases va with | none => cases h | some q => exact h
          have := hO.out.lt k hq
          exact ⟨.inr this.1, this.2⟩))
      have KX := Lib.hid (show Kept F w wr from (keptNew hB.out).mono (fun _ h _ => h.elim))
      clear hG
      go_wp2_with fail
      have K0 : Hid (∃ F', Tab wr p most F' (fun k => X k ∨ (va.map (·.block)) = some k) (dropsT L (G.take 0)) ∧ Grew w F F' ∧ Kept F w wr) := Lib.hid ⟨F, TX.out, Grew.refl _ _, KX.out⟩
      clear TX KX HT AT LN
      go_loopw [49] (fun iv ws => ∃ k : Nat, iv = .int .i64 k ∧ k ≤ G.length ∧ Hid (OwnS1 ws w.heap.size (.slice va G.length vc) G) ∧ Hid (∃ F', Tab ws p most F' (fun k => X k ∨ (va.map (·.block)) = some k) (dropsT L (G.take k)) ∧ Grew w F F' ∧ Kept F w ws)) (fun iv _ => G.length - (intOf iv).toNat)
      case atStart => exact ⟨0, rfl, Nat.zero_le _, hO, K0⟩
      case round =>
        obtain ⟨k, rfl, hk, hO2, K1⟩ := hrel
        clear K0 hO hB
        by_cases hlt2 : k < G.length
        · obtain ⟨x, hx⟩ : ∃ x, G[k]? = some x := ⟨_, List.getElem?_eq_getElem hlt2⟩
          obtain ⟨q, rfl⟩ : ∃ q, va = some q := by
            rcases hO2.out.2 with ⟨h, h0⟩ | ⟨g, cap, _, h, _⟩
            · omega
            · simp only [Value.slice.injEq] at h; exact ⟨_, h.1⟩
          obtain ⟨g, rfl, hc⟩ := owns_at (j := k) (u := .string x) hO2.out (by simp [hx])
          obtain ⟨F', hT, hG, hK⟩ := K1.out
          have hs : dropsT L (G.take (k + 1)) = dropT (dropsT L (G.take k)) x := by
            unfold dropsT; rw [List.take_add_one, hx, List.foldl_append]; rfl
          have DR := Lib.hid (tabDrop _ p most F' _ (dropsT L (G.take k)) x (Nat.le_trans (dropsT_len _ _) (by omega)) hT)
          have HS := Lib.hid (And.intro hs (And.intro hT (And.intro hG hK)))
          have hi' : (k : Int) < (G.length : Int) := by omega
          have h0i : (0 : Int) ≤ (k : Int) := by omega
          clear hs hT hG hK K1 hx
          go_wp2_with fail
          refine DR.out.mono ?_
          rintro e w8 ⟨rfl, F2, ht, hg, hk8⟩
          have O8 : Hid (OwnS1 w8 w.heap.size (.slice (some ⟨g, 0, none⟩) G.length vc) G) := Lib.hid (hk8.owns' hO2.out (fun b hb hf => (HS.out.2.1.apart b (.inr (by cases hb; rfl))).1 hf))
          have K8 : Hid (∃ F', Tab w8 p most F' (fun k => X k ∨ ((some (⟨g, 0, none⟩ : Addr)).map (·.block)) = some k) (dropsT L (G.take (k + 1))) ∧ Grew w F F' ∧ Kept F w w8) := Lib.hid ⟨F2, by rw [HS.out.1]; exact ht, HS.out.2.2.1.trans hg HS.out.2.2.2.size, HS.out.2.2.2.trans hk8 (fun i h1 h2 => (HS.out.2.2.1 i h1).elim (fun h => h) (fun h => by omega))⟩
          clear ht hg hk8 HS DR hO2 hc
          go_wp2_with fail
          go_roundw
          case rel => exact ⟨k + 1, by go_num, by omega, O8, K8⟩
          case measure => simp [intOf]; omega
        · obtain rfl : k = G.length := by omega
          rw [List.take_length] at K1
          obtain ⟨F', hT, hG, hK⟩ := K1.out
          have Q := Lib.hid (PP.out (.returned (.slice va G.length vc)) _ rfl hO2.out ⟨F', hT.more (Kept.refl _ _) (fun k hx => ⟨.inl (.inl hx), (hT.apart k (.inl hx)).2⟩), hG, hK⟩)
          clear hT hG hK K1 hO2 PP
          go_wp2_with fail
          go_ret
          exact Q.out

set_option maxHeartbeats 1000000 in
theorem sweep_bad (w : World) (p : Nat) (now age : Int) (keep : ByteArray) (h : now < 0 ∨ age < 0) :
    Calls Try.prog 18 #[.pointer (some ⟨p, 0, none⟩), .int .i64 now, .int .i64 age, .string keep] w fun e w' => e = .returned (.slice none 0 0) ∧ w' = w := by
  by_cases h1 : now < 0
  · have a1 : decide (now < 0) = true := decide_eq_true h1
    go_enter Try.func18, Try.ntmps18
    go_wp2_with fail
    go_ret
    exact ⟨rfl, rfl⟩
  · have a1 : decide (now < 0) = false := decide_eq_false h1
    have a2 : decide (age < 0) = true := decide_eq_true (h.resolve_left h1)
    go_enter Try.func18, Try.ntmps18
    go_wp2_with fail
    go_ret
    exact ⟨rfl, rfl⟩

end Go.Proofs.Ytikifgenfpkidaa
