/-
  No statement: the walk of the law WireBytes.
-/
import Derived.Test.YtfenfgbkphpboaaGreatJRTakes
import Derived.Test.YtfenfgbkphpboaaGreatJOpens
import Derived.Test.YtfenfgbkphpboaaGreatJLists
namespace Go.Proofs.YtfenfgbkphpboaaGreat
open Go.RowKit

theorem cmpL_self : ∀ l, cmpL l l = 0
  | [] => rfl
  | a :: r => by rw [cmpL, if_pos (cmpI_self a)]; exact cmpL_self r
theorem cmpV_self (k n : Int) (s : ByteArray) (l : Nat) (z : Nat → Int) : cmpV k n s l z k n s l z = 0 := by
  unfold cmpV
  rw [if_pos rfl]
  split
  · exact cmpI_self n
  · split
    · exact cmpS_self s
    · split
      · exact cmpL_self _
      · rfl
theorem sameAD_self (x : AD) : sameAD x x = true := by
  unfold sameAD; rw [cmpV_self]; simp
theorem sameAs_self : ∀ l, sameAs l l = true
  | [] => rfl
  | x :: r => by unfold sameAs; rw [sameAD_self, sameAs_self r]; rfl
theorem sameR_self (x : RD) : sameR x x = true := by
  unfold sameR; rw [sameAs_self, cmpSt_self]; simp

theorem allR_short {r : RD × DS} (h : r.1.len ≤ 32) : (allOf zR r errR).1.len ≤ 32 := by
  have h0 : zR.len ≤ 32 := Nat.zero_le _
  obtain ⟨x, d⟩ := r
  generalize zR = z at h0 ⊢
  unfold allOf
  by_cases h1 : d.2 = 0
  · rw [if_pos h1]
    by_cases h2 : d.1 = []
    · rw [if_pos h2]
      by_cases h3 : errR x = 0
      · rw [if_pos h3]; exact h
      · rw [if_neg h3]; exact h0
    · rw [if_neg h2]; exact h0
  · rw [if_neg h1]; exact h0
theorem allRs_short {r : List RD × DS} (h : ∀ x ∈ r.1, x.len ≤ 32) : ∀ x ∈ (allOf [] r errRows).1, x.len ≤ 32 := by
  have h0 : ∀ x ∈ ([] : List RD), x.len ≤ 32 := fun x hx => by cases hx
  obtain ⟨l, d⟩ := r
  unfold allOf
  by_cases h1 : d.2 = 0
  · rw [if_pos h1]
    by_cases h2 : d.1 = []
    · rw [if_pos h2]
      by_cases h3 : errRows l = 0
      · rw [if_pos h3]; exact h
      · rw [if_neg h3]; exact h0
    · rw [if_neg h2]; exact h0
  · rw [if_neg h1]; exact h0

theorem decodeR_short (l : List UInt8) : (decodeR l).1.len ≤ 32 := by
  unfold decodeR
  by_cases h1 : (openF l).2 = 0
  · rw [if_pos h1]; exact allR_short (dRow_sz _).l
  · rw [if_neg h1]; exact Nat.zero_le _

theorem decodeRs_short (l : List UInt8) : ∀ j, j < (decodeRs l).1.length → (atR (decodeRs l).1 j).len ≤ 1000 := fun j hj => by
  have h0 : ∀ x ∈ (decodeRs l).1, x.len ≤ 32 := by
    unfold decodeRs
    by_cases h1 : (openF l).2 = 0
    · rw [if_pos h1]; exact allRs_short (fun x hx => (dRows_sz _ x hx).l)
    · rw [if_neg h1]; exact fun x hx => by cases hx
  have e : atR (decodeRs l).1 j = (decodeRs l).1[j] := by unfold atR; rw [List.getD_eq_getElem?_getD, List.getElem?_eq_getElem hj]; rfl
  rw [e]
  have := h0 _ (List.getElem_mem hj)
  omega

/-- What the walk keeps: the two slices of bytes, and their list. -/
structure KB (w0 w : World) (G : Nat) (a : Option Addr) (c : Nat) (l : List UInt8) (a2 : Option Addr) (c2 : Nat) (l2 : List UInt8) : Prop where
  bw : Below w0.heap.size w0 w
  h : w.heap[G]? = some (.cells #[.slice a l.length c, .slice a2 l2.length c2] 29 (0, 0))
  r : BR w a c l
  r2 : BR w a2 c2 l2
theorem KB.kept {w0 w w' : World} {G : Nat} {a : Option Addr} {c : Nat} {l : List UInt8} {a2 : Option Addr} {c2 : Nat} {l2 : List UInt8} (h : KB w0 w G a c l a2 c2 l2) (hb : Below w.heap.size w w') : KB w0 w' G a c l a2 c2 l2 :=
  ⟨h.bw.trans (hb.mono h.bw.size), (hb.block _ (lt_of_block h.h)).trans h.h, h.r.kept hb, h.r2.kept hb⟩
/-- What it reads in a round: the bytes that lie at k. -/
structure KC (w0 w : World) (G k : Nat) (a : Option Addr) (c : Nat) (l : List UInt8) : Prop where
  bw : Below w0.heap.size w0 w
  h : w.cell? ⟨G, k, none⟩ = some (.slice a l.length c)
  r : BR w a c l
theorem KC.kept {w0 w w' : World} {G k : Nat} {a : Option Addr} {c : Nat} {l : List UInt8} (h : KC w0 w G k a c l) (hb : Below w.heap.size w w') : KC w0 w' G k a c l :=
  ⟨h.bw.trans (hb.mono h.bw.size), (keptNew hb).cell h.h (fun h => h), h.r.kept hb⟩
theorem KB.at {w0 w : World} {G : Nat} {a : Option Addr} {c : Nat} {l : List UInt8} {a2 : Option Addr} {c2 : Nat} {l2 : List UInt8} (h : KB w0 w G a c l a2 c2 l2) {k : Nat} (hk : k < 2) (hl : l.length ≤ 4000) (hl2 : l2.length ≤ 4000) : ∃ A C L, KC w0 w G k A C L ∧ L.length ≤ 4000 := by
  rcases (show k = 0 ∨ k = 1 by omega) with rfl | rfl
  · exact ⟨a, c, l, ⟨h.bw, by rw [cell_of_row _ _ _ _ _ _ h.h]; rfl, h.r⟩, hl⟩
  · exact ⟨a2, c2, l2, ⟨h.bw, by rw [cell_of_row _ _ _ _ _ _ h.h]; rfl, h.r2⟩, hl2⟩

set_option maxRecDepth 100000 in
set_option maxHeartbeats 16000000 in
theorem wireBytes_any (a : Option Addr) (c : Nat) (l : List UInt8) (w : World) (h : BR w a c l) :
    Calls Tryz.prog 5 #[.slice a l.length c] w fun e w' => e = .returned (.bool true) ∧ Below w.heap.size w w' := by
  have hll : l.length ≤ 9223372036854775807 := by have := h.1; have := h.2.1; unfold maxLen at this; omega
  have H := Lib.hid h
  clear h
  go_enter Tryz.func5, Tryz.ntmps5
  go_wp2_with fail
  refine (known_any w).mono ?_
  rintro e w1 ⟨rfl, hb1⟩
  have B1 := Lib.hid hb1
  clear hb1
  by_cases hl1 : 1500 < l.length
  · go_wp2_with fail
    go_ret
    exact ⟨rfl, B1.out⟩
  have SE := Lib.hid (rSeal_any a c l (by omega) w1 (H.out.kept B1.out))
  have hsl : (sealB l).length ≤ 4000 := by rw [sealB_len]; omega
  obtain ⟨l2, hl2⟩ : ∃ x, sealB l = x := ⟨_, rfl⟩
  rw [hl2] at SE hsl
  clear hl2
  go_wp2_with fail
  refine SE.out.mono ?_
  rintro e w2 ⟨a2, c2, rfl, ho, hb⟩
  have B2 := Lib.hid (B1.out.trans (hb.mono B1.out.size))
  have R2 := Lib.hid ho.br
  clear hb ho SE
  go_upto_region 6 with fail
  generalize hW : World.alloc w2 _ = W
  have bn : Below w2.heap.size w2 W := by rw [← hW]; exact below_new w2 _
  have K0 := Lib.hid (show KB w W w2.heap.size a c l a2 c2 l2 from ⟨B2.out.trans (bn.mono B2.out.size), by rw [← hW]; exact heap_alloc_new w2 _, (H.out.kept B2.out).kept bn, R2.out.kept bn⟩)
  obtain ⟨G, hG⟩ : ∃ G, w2.heap.size = G := ⟨_, rfl⟩
  rw [hG] at K0
  rw [hG]
  clear hW bn R2 B2 hG H B1
  go_wp2_with fail
  go_loopw [4] (fun i wr => ∃ k : Nat, i = .int .i64 k ∧ k ≤ 2 ∧ Hid (KB w wr G a c l a2 c2 l2)) (fun i _ => 2 - (intOf i).toNat)
  case atStart => exact ⟨0, rfl, by omega, K0⟩
  case round =>
    obtain ⟨k, rfl, hk, hK⟩ := hrel
    by_cases hlt : k < 2
    · obtain ⟨A, C, L, kc, hL⟩ := hK.out.at hlt (by omega) hsl
      have KC1 := Lib.hid kc
      have x0 := kc.h
      have hx32 := decodeR_short L
      have HR32 := Lib.hid (decodeRs_short L)
      have D1 := Lib.hid (fun w' (h : KC w w' G k A C L) => decode_any A C L (by omega) w' h.r)
      have D2 := Lib.hid (fun w' (h : KC w w' G k A C L) => rDecode_any A C L hL w' h.r)
      have D3 := Lib.hid (fun w' (h : KC w w' G k A C L) => rows_any A C L (by omega) w' h.r)
      have D4 := Lib.hid (fun w' (h : KC w w' G k A C L) => rRows_any A C L hL w' h.r)
      obtain ⟨⟨X, er⟩, hX⟩ : ∃ r, decodeR L = r := ⟨_, rfl⟩
      obtain ⟨⟨M, er2⟩, hM⟩ : ∃ r, decodeRs L = r := ⟨_, rfl⟩
      rw [hX] at D1 D2 hx32
      rw [hM] at D3 D4 HR32
      obtain ⟨n, hn⟩ : ∃ n, M.length = n := ⟨_, rfl⟩
      simp only at hx32 HR32
      have HN := Lib.hid hn
      clear hX hM kc hn
      go_wp2_with fail
      refine (D1.out wr KC1.out).mono ?_
      rintro e w3 ⟨⟨y3, c3, rfl, hr3⟩, hb⟩
      have KB3 := Lib.hid (hK.out.kept hb)
      have KC3 := Lib.hid (KC1.out.kept hb)
      have R3 := Lib.hid hr3.plain
      clear hb hr3 D1 x0 KC1 hK
      simp only
      go_upto_region 10 with fail
      generalize hW : World.alloc w3 _ = V
      have bn : Below w3.heap.size w3 V := by rw [← hW]; exact below_new w3 _
      have KB4 := Lib.hid (KB3.out.kept bn)
      have KC4 := Lib.hid (KC3.out.kept bn)
      have R4 := Lib.hid (R3.out.kept bn)
      have X4 := Lib.hid (show V.heap[w3.heap.size]? = some (.cells #[.string X.key, .int .i64 X.t, .int .i64 X.i, .int .i64 X.q, .string X.o, .slice y3 X.len c3] 26 (0, 0)) by rw [← hW]; exact heap_alloc_new w3 _)
      obtain ⟨x, hx⟩ : ∃ x, w3.heap.size = x := ⟨_, rfl⟩
      rw [hx] at X4
      rw [hx]
      have x0 := KC4.out.h
      clear hW bn KB3 KC3 R3 hx
      go_wp2_with fail
      refine (D2.out V KC4.out).mono ?_
      rintro e w5 ⟨⟨y5, c5, rfl, hr5⟩, hb⟩
      have KB5 := Lib.hid (KB4.out.kept hb)
      have KC5 := Lib.hid (KC4.out.kept hb)
      have R5 := Lib.hid (R4.out.kept hb)
      have X5 := Lib.hid ((hb.block _ (lt_of_block X4.out)).trans X4.out)
      have S5 := Lib.hid hr5.plain
      clear hb hr5 D2 x0 KC4 KB4 R4 X4
      simp only
      go_upto_region 11 with fail
      generalize hW : World.alloc w5 _ = V6
      have bn : Below w5.heap.size w5 V6 := by rw [← hW]; exact below_new w5 _
      have KB6 := Lib.hid (KB5.out.kept bn)
      have KC6 := Lib.hid (KC5.out.kept bn)
      have R6 := Lib.hid (R5.out.kept bn)
      have X6 := Lib.hid ((bn.block _ (lt_of_block X5.out)).trans X5.out)
      have S6 := Lib.hid (S5.out.kept bn)
      have Y6 := Lib.hid (show V6.heap[w5.heap.size]? = some (.cells #[.string X.key, .int .i64 X.t, .int .i64 X.i, .int .i64 X.q, .string X.o, .slice y5 X.len c5] 38 (0, 0)) by rw [← hW]; exact heap_alloc_new w5 _)
      obtain ⟨y, hy⟩ : ∃ x, w5.heap.size = x := ⟨_, rfl⟩
      rw [hy] at Y6
      rw [hy]
      have x0 := KC6.out.h
      clear hW bn KB5 KC5 R5 X5 S5 hy
      go_wp2_with fail
      refine (D3.out V6 KC6.out).mono ?_
      rintro e w7 ⟨⟨y7, c7, he7, hr7⟩, hb⟩
      simp only [HN.out] at he7 hr7
      subst he7
      have KB7 := Lib.hid (KB6.out.kept hb)
      have KC7 := Lib.hid (KC6.out.kept hb)
      have R7 := Lib.hid (R6.out.kept hb)
      have X7 := Lib.hid ((hb.block _ (lt_of_block X6.out)).trans X6.out)
      have S7 := Lib.hid (S6.out.kept hb)
      have Y7 := Lib.hid ((hb.block _ (lt_of_block Y6.out)).trans Y6.out)
      have P7 := Lib.hid hr7
      have x0 := KC7.out.h
      clear hb hr7 D3 KB6 KC6 R6 X6 S6 Y6
      go_wp2_with fail
      refine (D4.out w7 KC7.out).mono ?_
      rintro e w8 ⟨⟨y8, c8, he8, hr8⟩, hb⟩
      simp only [HN.out] at he8 hr8
      subst he8
      have KB8 := Lib.hid (KB7.out.kept hb)
      have R8 := Lib.hid (R7.out.kept hb)
      have S8 := Lib.hid (S7.out.kept hb)
      have P8 := Lib.hid (P7.out.below hb)
      have Q8 := Lib.hid hr8
      have X8 := Lib.hid ((hb.block _ (lt_of_block X7.out)).trans X7.out)
      have Y8 := Lib.hid ((hb.block _ (lt_of_block Y7.out)).trans Y7.out)
      have HC := Lib.hid (p := ∀ w', Below w8.heap.size w8 w' → (w'.cell? ⟨x, 0, none⟩ = some (.string X.key) ∧ w'.cell? ⟨x, 1, none⟩ = some (.int .i64 X.t) ∧ w'.cell? ⟨x, 2, none⟩ = some (.int .i64 X.i) ∧ w'.cell? ⟨x, 3, none⟩ = some (.int .i64 X.q) ∧ w'.cell? ⟨x, 4, none⟩ = some (.string X.o) ∧ w'.cell? ⟨x, 5, none⟩ = some (.slice y3 X.len c3)) ∧ w'.cell? ⟨y, 0, none⟩ = some (.string X.key) ∧ w'.cell? ⟨y, 1, none⟩ = some (.int .i64 X.t) ∧ w'.cell? ⟨y, 2, none⟩ = some (.int .i64 X.i) ∧ w'.cell? ⟨y, 3, none⟩ = some (.int .i64 X.q) ∧ w'.cell? ⟨y, 4, none⟩ = some (.string X.o) ∧ w'.cell? ⟨y, 5, none⟩ = some (.slice y5 X.len c5)) (fun w' hb => ⟨box6 ((hb.block _ (lt_of_block X8.out)).trans X8.out), box6 ((hb.block _ (lt_of_block Y8.out)).trans Y8.out)⟩)
      have HDR := Lib.hid (show Below w8.heap.size w8 w8.drew from ⟨rfl, rfl, rfl, Nat.le_refl _, fun _ _ => rfl⟩)
      clear hb hr8 D4 KB7 KC7 R7 X7 S7 Y7 P7 x0 X8 Y8
      obtain ⟨⟨x0, x1, x2, x3, x4, x5⟩, z0, z1, z2, z3, z4, z5⟩ := HC.out w8 (Below.refl _ _)
      go_upto_region 13 with fail
      go_region_held3 (fun w' => (w'.cell? ⟨x, 0, none⟩ = some (.string X.key) ∧ w'.cell? ⟨x, 1, none⟩ = some (.int .i64 X.t) ∧ w'.cell? ⟨x, 2, none⟩ = some (.int .i64 X.i) ∧ w'.cell? ⟨x, 3, none⟩ = some (.int .i64 X.q) ∧ w'.cell? ⟨x, 4, none⟩ = some (.string X.o) ∧ w'.cell? ⟨x, 5, none⟩ = some (.slice y3 X.len c3)) ∧ w'.cell? ⟨y, 0, none⟩ = some (.string X.key) ∧ w'.cell? ⟨y, 1, none⟩ = some (.int .i64 X.t) ∧ w'.cell? ⟨y, 2, none⟩ = some (.int .i64 X.i) ∧ w'.cell? ⟨y, 3, none⟩ = some (.int .i64 X.q) ∧ w'.cell? ⟨y, 4, none⟩ = some (.string X.o) ∧ w'.cell? ⟨y, 5, none⟩ = some (.slice y5 X.len c5)) (first | assumption | (refine ⟨⟨?_, ?_, ?_, ?_, ?_, ?_⟩, ?_, ?_, ?_, ?_, ?_, ?_⟩ <;> (first | assumption | (go_keep; done)))) (first
        | (go_at_call 10
           with_reducible refine (ofR_any X y3 c3 (by omega) _ (R8.out.kept HDR.out)).mono ?_
           rintro e w9 ⟨⟨a9, c9, rfl, hr9⟩, hb⟩
           have B9 := Lib.hid (HDR.out.trans hb)
           have R9 := Lib.hid hr9
           have S9 := Lib.hid (S8.out.kept B9.out)
           have cc := HC.out _ B9.out
           clear hb hr9)
        | (go_at_call 12
           with_reducible refine (xSame_any X X a9 y5 c9 c5 (by omega) _ R9.out S9.out).mono ?_
           rintro e wa ⟨rfl, hb⟩
           rw [sameR_self]
           have Ba := Lib.hid (B9.out.trans (hb.mono B9.out.size))
           have cc := HC.out _ Ba.out
           clear hb)
        | (go_at_call 18
           with_reducible refine (sameRows_any y7 y8 n c7 c8 (atR M) (atR M) (fun j hj => HR32.out j (by rw [HN.out]; exact hj)) (fun j _ => sameR_self _) _ (P8.out.below Ba.out) (Q8.out.below Ba.out)).mono ?_
           rintro e wb ⟨rfl, hb⟩
           have Bb := Lib.hid (Ba.out.trans (hb.mono Ba.out.size))
           have cc := HC.out _ Bb.out
           clear hb)
        | fail)
      have KZ := Lib.hid (KB8.out.kept Bb.out)
      go_wp2_with fail
      go_roundw
      case rel => exact ⟨k + 1, by go_num, by omega, KZ⟩
      case measure => simp [intOf]; omega
    · obtain rfl : k = 2 := by omega
      go_wp2_with fail
      go_ret
      exact ⟨rfl, hK.out.bw⟩

end Go.Proofs.YtfenfgbkphpboaaGreat
