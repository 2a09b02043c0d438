/-
  No statement: the contract of the document's ParseValue.
-/
import Derived.Test.YtdghknmlleffbaaDoorRFields
import Derived.Test.YtdghknmlleffbaaDoorRNumber
import Derived.Test.YtdghknmlleffbaaDoorRCheck
import Derived.Test.YtdghknmlleffbaaDoorVParseAll
import Derived.Test.YtdghknmlleffbaaDoorVBack
import Derived.Test.YtdghknmlleffbaaDoorFour
namespace Go.Proofs.YtdghknmlleffbaaDoor
open Go.RowKit

set_option maxRecDepth 100000 in
set_option maxHeartbeats 4000000 in
theorem rFields_nil (w : World) : Calls Tryd.prog 45 #[.string ⟨#[]⟩] w fun e w' => e = .returned (.slice none 0 0) ∧ w = w' := by
  go_enter Tryd.func45, Tryd.ntmps45
  go_wp2_with fail
  go_ret
  exact ⟨rfl, rfl⟩

theorem numOf_no {c : UInt8} (h : ¬ c = 45) (hd : ¬ isD c) (r : List UInt8) : numOf (c :: r) = none := by
  cases e : numOf (c :: r) with
  | none => rfl
  | some v =>
    rcases num_some e with ⟨_, d, he, _⟩ | ⟨_, ho, _⟩
    · exact absurd (List.cons.inj he).1 h
    · exact absurd (ho.2.2.1 c (by simp)) hd

/-- What ParseValue answers. -/
def RPost (l : List UInt8) (w : World) (e : Ending) (w' : World) : Prop := Below w.heap.size w w' ∧
  ((raw l = none ∧ e = .returned (.tuple #[val 0 0 ⟨#[]⟩ (.slice none 0 0), .int .i64 2])) ∨
   (∃ p, raw l = some p ∧ ¬ errP p = 0 ∧ e = .returned (.tuple #[val 0 0 ⟨#[]⟩ (.slice none 0 0), .int .i64 (errP p)])) ∨
   (∃ p k n T a len cap z, raw l = some p ∧ errP p = 0 ∧ IsPV p k n T a len cap z ∧ Reads w' a len z ∧ e = .returned (.tuple #[val k n T (.slice a len cap), .int .i64 0])))

/-- A row of texts that nobody writes: its pieces. -/
def FRow (w : World) (B : Nat) (af : Option Addr) (P : List (List UInt8)) : Prop := ∀ j x, P[j]? = some x → ∃ g, af = some ⟨g, 0, none⟩ ∧ B ≤ g ∧ w.cell? ⟨g, j, none⟩ = some (tv x)

/-- The pieces of what stands between the brackets. -/
def piecesOf (t : List UInt8) : List (List UInt8) := if t = [] then [] else splitL t

theorem fields_row (D : ByteArray) (hm : D.size ≤ 1000) (w : World) : Calls Tryd.prog 45 #[.string D] w fun e w' => (∃ af cap, e = .returned (.slice af (piecesOf D.data.toList).length cap) ∧ FRow w' w.heap.size af (piecesOf D.data.toList)) ∧ Below w.heap.size w w' := by
  have hl : D.data.toList.length = D.size := by simp
  by_cases h : D.size = 0
  · have e : D = ⟨#[]⟩ := by cases D with | mk d => simp [ByteArray.size] at h; simp [h]
    subst e
    refine (rFields_nil w).mono ?_
    rintro e w' ⟨rfl, rfl⟩
    exact ⟨⟨none, 0, rfl, fun j x hx => by simp [piecesOf] at hx⟩, Below.refl _ _⟩
  · have hp : piecesOf D.data.toList = splitL D.data.toList := by
      unfold piecesOf
      rw [if_neg]
      intro e; rw [e] at hl; simp at hl; omega
    rw [hp]
    refine (rFields_any D (by omega) hm w).mono ?_
    rintro e w' ⟨⟨v, rfl, ho⟩, hb⟩
    have hlen : (splF D.data.toList).length = (splitL D.data.toList).length := by unfold splF; rw [List.length_map]
    obtain ⟨a, q, e⟩ := split_eq D.data.toList
    obtain ⟨M, hM⟩ : ∃ M, (splF D.data.toList).length = M + 1 := ⟨q.length, by rw [hlen, e]; rfl⟩
    rw [hM] at ho
    obtain ⟨g, cap, rfl⟩ := ownsRow_succ ho
    refine ⟨⟨_, cap, by rw [← hlen, hM], fun j x hx => ⟨g, rfl, (own_base ho), (own_cell ho (j := j) (v := tv x) (by unfold splF; rw [List.getElem?_map, hx]; rfl)).1⟩⟩, hb⟩

theorem raw_brackets {s : ByteArray} (h2 : 2 ≤ s.size) (h0 : s[0] = 91) (h1 : s[s.size - 1] = 93) : raw s.data.toList = (numsOf (piecesOf (s.extract 1 (s.size - 1)).data.toList)).map .list := by
  have hl : s.data.toList.length = s.size := by simp
  have hD : (s.extract 1 (s.size - 1)).data.toList = (s.data.toList.drop 1).take (s.data.toList.length - 2) := by
    rw [ByteArray.data_extract, Array.toList_extract]
    show (s.data.toList.drop 1).take (s.size - 1 - 1) = _
    rw [hl]; rfl
  have hi : inner s.data.toList 93 = some (s.extract 1 (s.size - 1)).data.toList := by
    unfold inner
    rw [if_pos ⟨by omega, by rw [List.getLast?_eq_getElem?, hl, List.getElem?_eq_getElem (by simp; omega)]; exact congrArg some h1⟩, hD]
  have h00 : s.data.toList[0]? = some s[0] := List.getElem?_eq_getElem (by simp; omega)
  rw [h0] at h00
  cases e : s.data.toList with
  | nil => rw [e] at h00; simp at h00
  | cons c r =>
    rw [e] at h00
    have : c = 91 := by simpa using h00
    subst this
    rw [e] at hi
    rw [raw, if_neg (by decide), if_pos rfl, hi]
    simp only [Option.bind_some]
    unfold piecesOf
    split <;> rfl

theorem raw_quotes {s : ByteArray} (h2 : 2 ≤ s.size) (h0 : s[0] = 34) (h1 : s[s.size - 1] = 34) : raw s.data.toList = some (.text (s.extract 1 (s.size - 1)).data.toList) := by
  have hl : s.data.toList.length = s.size := by simp
  have hD : (s.extract 1 (s.size - 1)).data.toList = (s.data.toList.drop 1).take (s.data.toList.length - 2) := by
    rw [ByteArray.data_extract, Array.toList_extract]
    show (s.data.toList.drop 1).take (s.size - 1 - 1) = _
    rw [hl]; rfl
  have hi : inner s.data.toList 34 = some (s.extract 1 (s.size - 1)).data.toList := by
    unfold inner
    rw [if_pos ⟨by omega, by rw [List.getLast?_eq_getElem?, hl, List.getElem?_eq_getElem (by simp; omega)]; exact congrArg some h1⟩, hD]
  have h00 : s.data.toList[0]? = some s[0] := List.getElem?_eq_getElem (by simp; omega)
  rw [h0] at h00
  cases e : s.data.toList with
  | nil => rw [e] at h00; simp at h00
  | cons c r =>
    rw [e] at h00
    have : c = 34 := by simpa using h00
    subst this
    rw [e] at hi
    rw [raw, if_pos rfl, hi]
    rfl

theorem infoN : (Tryd.prog.info? 2).map (fun i => (i.zero, i.size, i.bytes)) = some (some (.int .i64 0), 1, 8) := by kernel_rfl

theorem numsOf_hole : ∀ (P : List (List UInt8)) (k : Nat) (x : List UInt8), P[k]? = some x → numOf x = none → numsOf P = none
  | [], _, _, h, _ => by simp at h
  | y :: P, 0, x, h, hx => by
    have : y = x := by simpa using h
    subst this
    simp only [numsOf]; rw [hx]
  | y :: P, k + 1, x, h, hx => by
    simp only [numsOf]
    rw [numsOf_hole P k x (by simpa using h) hx]
    cases numOf y <;> rfl

theorem pieces_short (D : ByteArray) (hm : D.size ≤ 1000) : (piecesOf D.data.toList).length ≤ 1001 ∧ ∀ x ∈ piecesOf D.data.toList, x.length ≤ 1000 := by
  have hl : D.data.toList.length = D.size := by simp
  unfold piecesOf
  split
  · exact ⟨by simp, fun x hx => by cases hx⟩
  · refine ⟨?_, fun x hx => ?_⟩
    · have := split_len D.data.toList; omega
    · have := split_each D.data.toList x hx; omega

set_option maxRecDepth 100000 in
set_option maxHeartbeats 4000000 in
theorem rParseList (s : ByteArray) (h2 : 2 ≤ s.size) (hm : s.size ≤ 1000) (h0 : s[0] = 91) (h1 : s[s.size - 1] = 93) (w : World) :
    Calls Tryd.prog 19 #[.string s] w (RPost s.data.toList w) := by
  have e0 : ((s[0].toNat : Int) == 34) = false := by rw [h0]; decide
  have e1 : ((s[0].toNat : Int) == 91) = true := by rw [h0]; decide
  have e2 : ((s[s.size - 1].toNat : Int) == 93) = true := by rw [h1]; decide
  have R := Lib.hid (raw_brackets h2 h0 h1)
  clear h0 h1
  go_enter Tryd.func19, Tryd.ntmps19
  go_wp2_with fail
  generalize hW : World.alloc (World.alloc w _) _ = W
  have bl : Below w.heap.size w W := by rw [← hW]; exact ((Below.refl _ _).alloc (Nat.le_refl _) _).alloc (by simp) _
  have hV : W.heap[w.heap.size + 1]? = some (.cells #[.int .i64 3, .int .i64 0, .string ⟨#[]⟩, .slice none 0 0] 28 (0, 0)) := by
    rw [← hW]
    have := World.alloc_heap_new (w.alloc (.cells #[.int .i64 0, .int .i64 0, .string ⟨#[]⟩, .slice none 0 0] 28)) (.cells #[.int .i64 3, .int .i64 0, .string ⟨#[]⟩, .slice none 0 0] 28)
    rwa [World.size_alloc] at this
  have hZ : W.heap[w.heap.size]? = some (.cells #[.int .i64 0, .int .i64 0, .string ⟨#[]⟩, .slice none 0 0] 28 (0, 0)) := by
    rw [← hW]; exact (Below.heap_alloc _ _ _ (by simp)).trans (World.alloc_heap_new w _)
  have hWs : W.heap.size = w.heap.size + 2 := by rw [← hW]; simp
  clear hW
  refine (fields_row _ (by simp; omega) W).mono ?_
  rintro e w1 ⟨⟨af, capf, rfl, hf⟩, hb⟩
  have HV := Lib.hid ((hb.block _ (lt_of_block hV)).trans hV)
  have HZ := Lib.hid ((hb.block _ (lt_of_block hZ)).trans hZ)
  have HF := Lib.hid hf
  have B1 := Lib.hid (bl.trans (hb.mono (by omega)))
  have hs1 : w.heap.size + 2 ≤ w1.heap.size := by have := hb.size; omega
  clear hb hf hV hZ bl
  obtain ⟨i0, hi0, hz0, hz1, hz2⟩ := info_parts infoN
  have hsh := pieces_short (s.extract 1 (s.size - 1)) (by simp; omega)
  obtain ⟨P, hP⟩ : ∃ P, piecesOf (s.extract 1 (s.size - 1)).data.toList = P := ⟨_, rfl⟩
  rw [hP] at HF hsh ⊢
  have hPe := Lib.hid hP
  have hPl := Lib.hid hsh.1
  have HX := Lib.hid hsh.2
  clear hP hsh
  go_wp2_with fail
  go_loopw [9] (fun i wr => ∃ (k : Nat) (ns : List Int) (sv : Value), k ≤ P.length ∧ i = .int .i64 k ∧ Hid (ns.length = k) ∧ Hid (numsOf (P.take k) = some ns) ∧ Hid (Kept (fun b => b = w.heap.size + 1) w1 wr) ∧ Hid (wr.heap[w.heap.size + 1]? = some (.cells #[.int .i64 3, .int .i64 0, .string ⟨#[]⟩, sv] 28 (0, 0))) ∧ Hid (wr.ownsRow w1.heap.size 2 1 sv k (ns.map (Value.int .i64)))) (fun i _ => P.length - (intOf i).toNat)
  case atStart => exact ⟨0, [], _, Nat.zero_le _, rfl, Lib.hid rfl, Lib.hid rfl, Lib.hid (Kept.refl _ _), HV, Lib.hid ⟨rfl, .inl ⟨rfl, rfl⟩⟩⟩
  case round =>
    obtain ⟨k, ns, sv, hk, rfl, hns, hnum, hK, hc, ho⟩ := hrel
    have hsz : w1.heap.size ≤ wr.heap.size := hK.out.size
    have HZr := Lib.hid (hK.out.heap HZ.out (by omega))
    obtain ⟨⟨x0, x1, x2, x3⟩, xf0, xf1, xf2, xf3⟩ := four hc.out
    obtain ⟨⟨z0, z1, z2, z3⟩, zf0, zf1, zf2, zf3⟩ := four HZr.out
    obtain ⟨a1, cap1, rfl⟩ := row_slice' ho.out
    have hP := hPl.out
    by_cases hlt : k < P.length
    · obtain ⟨x, hx⟩ : ∃ x, P[k]? = some x := ⟨P[k], List.getElem?_eq_getElem hlt⟩
      obtain ⟨g, rfl, hg, hcell⟩ := HF.out k x hx
      have c1 := hK.out.cell hcell (by show ¬ g = _; omega)
      obtain ⟨T, hT⟩ : ∃ T : ByteArray, ⟨x.toArray⟩ = T := ⟨_, rfl⟩
      have hTx : T.data.toList = x := by rw [← hT]
      have hTs : T.size ≤ 1000 := by rw [← hT]; show x.toArray.size ≤ 1000; have := HX.out x (List.mem_of_getElem? hx); simpa using this
      unfold tv at c1
      rw [hT] at c1
      have N := fun w => rNumber_any T hTs w
      rw [hTx] at N
      clear hT hTx hcell
      cases hn : numOf x with
      | none =>
        rw [hn] at N
        have N := Lib.hid N
        have R2 := Lib.hid (show raw s.data.toList = none by rw [R.out, hPe.out, numsOf_hole P k x hx hn]; rfl)
        clear hx hn
        go_wp2_with fail
        refine (N.out _).mono ?_
        rintro e w2 ⟨rfl, rfl⟩
        unfold numV
        go_wp2_with fail
        obtain ⟨⟨d0, d1, d2, d3⟩, -⟩ := four (four_set HZr.out (.int .i64 0) (.int .i64 0) (.string ⟨#[]⟩) (.slice none 0 0))
        exact bodyPost_ret (v := .tuple #[val 0 0 ⟨#[]⟩ (.slice none 0 0), .int .i64 2]) (by simp [results, Tryd.results19, go_sem, val, d0, d1, d2, d3]) rfl ⟨four_below (B1.out.trans (hK.out.below (B := w.heap.size) (fun b hb => by subst hb; omega) (by omega))) (Nat.le_refl _) _ _ _ _, .inl ⟨R2.out, rfl⟩⟩
      | some v =>
        rw [hn] at N
        have N := Lib.hid N
        have hnum1 := Lib.hid (show numsOf (P.take (k + 1)) = some (ns ++ [v]) by
          have hk' : P.take (k + 1) = P.take k ++ [x] := by
            rw [List.take_succ_eq_append_getElem hlt]
            have := List.getElem?_eq_getElem hlt
            rw [hx] at this
            rw [Option.some.inj this]
          rw [hk']; exact numsOf_snoc hn hnum.out)
        have hml := Lib.hid (show k + 1 ≤ maxLen by unfold maxLen; omega)
        clear hx hn
        go_wp2_with fail
        refine (N.out _).mono ?_
        rintro e w2 ⟨rfl, rfl⟩
        unfold numV
        go_wp2_with (at_builtin; refine wpList_append_own _ rfl _ _ 22 rfl w1.heap.size 2 i0 (.int .i64 0) 1 8 Tryd.underlying22 hi0 hz0 hz1 hz2 rfl (by decide) _ _ _ rfl (ho.out.alloc _) ⟨wr.heap.size, 0, none⟩ 1 1 [.int .i64 v] rfl rfl (cell_one_new _ _ _) (by simp [Value.oneCell']) hml.out (by omega) (by simp; omega) ?_
                     intro v2 w3 hown2 hgrow2 _
                     obtain ⟨g2, cap2, rfl⟩ := ownsRow_succ hown2
                     have hown : ∀ j, (Value.slice a1 k cap1).ownBlock = some j → w1.heap.size ≤ j := fun j e => by
                       rcases ho.out.2 with ⟨h1, _⟩ | ⟨g, cap, cur, h1, hg, _⟩
                       · rw [h1] at e; cases e
                       · rw [h1] at e; cases e; exact hg
                     have K3 := Lib.hid ((hK.out.alloc _).grown hgrow2 (fun j e => .inr (hown j e)))
                     have C3 := Lib.hid ((hgrow2.block (w.heap.size + 1) (by simp; omega) (fun e => by have := hown _ e.symm; omega)).trans ((Below.heap_alloc wr _ _ (by omega)).trans hc.out))
                     have O2 := Lib.hid hown2
                     have F3 := four C3.out
                     obtain ⟨⟨m0, m1, m2, m3⟩, mf0, mf1, mf2, mf3⟩ := F3
                     clear hown2 hgrow2 hown)
        have hgV : g2 ≠ w.heap.size + 1 := by have := own_base O2.out; omega
        have K4 := Lib.hid (K3.out.setCell (p := ⟨w.heap.size + 1, 3, none⟩) (.inl rfl) (.slice (some ⟨g2, 0, none⟩) (k + 1) cap2))
        have C4 := Lib.hid (set_block w3 (w.heap.size + 1) 3 _ _ (.slice (some ⟨g2, 0, none⟩) (k + 1) cap2) C3.out)
        have O4 := Lib.hid ((Kept.setCell (Kept.refl (fun b => b = w.heap.size + 1) w3) (p := ⟨w.heap.size + 1, 3, none⟩) (.inl rfl) (.slice (some ⟨g2, 0, none⟩) (k + 1) cap2)).owns O2.out (fun b hb => by
          have : b = g2 := by simpa [Value.ownBlock] using hb.symm
          subst this; exact hgV))
        go_roundw
        case rel => exact ⟨k + 1, ns ++ [v], _, by omega, by go_num, Lib.hid (by rw [List.length_append, hns.out]; rfl), hnum1, K4, C4, Lib.hid (by rw [List.map_append]; exact O4.out)⟩
        case measure => simp [intOf]; omega
    · obtain rfl : k = P.length := by omega
      have hr0 := reads_of_owns (L := ns) (W := wr) (base := w1.heap.size) (e := 2) (a := a1) (cap := cap1) (by rw [hns.out]; exact ho.out)
      have hup : upTo (fun j => ns.getD j 0) P.length = ns := by rw [← hns.out]; exact upTo_get ns
      have hrab := Lib.hid hr0.2
      have hr1 := hr0.1
      rw [hns.out] at hr1
      have hraw := Lib.hid (show raw s.data.toList = some (.list ns) by rw [R.out, hPe.out, ← List.take_length (l := P), hnum.out]; rfl)
      have CK := rCheck_any 3 0 ⟨#[]⟩ (by decide) a1 P.length cap1 (fun j => ns.getD j 0) wr hr1
      rw [show errV 3 ⟨#[]⟩ P.length (fun j => ns.getD j 0) = errL ns by unfold errV; rw [if_neg (by decide), if_neg (by decide), if_pos rfl, hup]] at CK
      unfold val at CK
      obtain ⟨E, hE⟩ : ∃ E, errL ns = E := ⟨_, rfl⟩
      rw [hE] at CK
      have CK := Lib.hid CK
      have HR := Lib.hid hr1
      have HUP := Lib.hid hup
      have HE := Lib.hid hE
      clear hr0 hr1 hup hE
      go_wp2_with fail
      refine CK.out.mono ?_
      rintro e w2 ⟨rfl, hb⟩
      have BL2 := Lib.hid ((B1.out.trans (hK.out.below (B := w.heap.size) (fun b hb => by subst hb; omega) (by omega))).trans (hb.mono (by omega)))
      have C2 := Lib.hid ((hb.block _ (lt_of_block hc.out)).trans hc.out)
      have Z2 := Lib.hid ((hb.block _ (lt_of_block HZr.out)).trans HZr.out)
      have R2 := Lib.hid (HR.out.kept hb)
      clear hb CK x0 x1 x2 x3 xf0 xf1 xf2 xf3 z0 z1 z2 z3 zf0 zf1 zf2 zf3
      obtain ⟨⟨x0, x1, x2, x3⟩, xf0, xf1, xf2, xf3⟩ := four C2.out
      obtain ⟨⟨z0, z1, z2, z3⟩, zf0, zf1, zf2, zf3⟩ := four Z2.out
      by_cases h0 : E = 0
      · subst h0
        go_wp2_with fail
        obtain ⟨⟨d0, d1, d2, d3⟩, -⟩ := four (four_set Z2.out (.int .i64 3) (.int .i64 0) (.string ⟨#[]⟩) (.slice a1 P.length cap1))
        refine bodyPost_ret (v := .tuple #[val 3 0 ⟨#[]⟩ (.slice a1 P.length cap1), .int .i64 0]) (by simp [results, Tryd.results19, go_sem, val, d0, d1, d2, d3]) rfl ⟨four_below BL2.out (Nat.le_refl _) _ _ _ _, .inr (.inr ⟨.list ns, 3, 0, ⟨#[]⟩, a1, P.length, cap1, fun j => ns.getD j 0, hraw.out, HE.out, ⟨rfl, rfl, rfl, ?_⟩, ?_, rfl⟩)⟩
        · have hl : ns.length ≤ 16 := by
            have := HE.out
            unfold errL at this
            split at this
            · cases this
            · omega
          rw [HUP.out, List.take_of_length_le (by omega)]
        · exact Reads.four R2.out (fun x hx => by have := hrab.out x hx; omega) _ _ _ _
      · have q0 : (E != 0) = true := by simpa using h0
        have HE0 := Lib.hid h0
        clear h0
        go_wp2_with fail
        obtain ⟨⟨d0, d1, d2, d3⟩, -⟩ := four (four_set Z2.out (.int .i64 0) (.int .i64 0) (.string ⟨#[]⟩) (.slice none 0 0))
        exact bodyPost_ret (v := .tuple #[val 0 0 ⟨#[]⟩ (.slice none 0 0), .int .i64 E]) (by simp [results, Tryd.results19, go_sem, val, d0, d1, d2, d3]) rfl ⟨four_below BL2.out (Nat.le_refl _) _ _ _ _, .inr (.inl ⟨.list ns, hraw.out, by show ¬ errL ns = 0; rw [HE.out]; exact HE0.out, by show _ = Ending.returned (.tuple #[_, .int .i64 (errL ns)]); rw [HE.out]⟩)⟩

set_option maxRecDepth 100000 in
set_option maxHeartbeats 4000000 in
theorem rParseText (s : ByteArray) (h2 : 2 ≤ s.size) (hm : s.size ≤ 1000) (h0 : s[0] = 34) (h1 : s[s.size - 1] = 34) (w : World) :
    Calls Tryd.prog 19 #[.string s] w (RPost s.data.toList w) := by
  have e0 : ((s[0].toNat : Int) == 34) = true := by rw [h0]; decide
  have e2 : ((s[s.size - 1].toNat : Int) == 34) = true := by rw [h1]; decide
  have R := Lib.hid (raw_quotes h2 h0 h1)
  clear h0 h1
  obtain ⟨D, hD⟩ : ∃ D, s.extract 1 (s.size - 1) = D := ⟨_, rfl⟩
  have hDs : D.size ≤ 1000 := by rw [← hD]; simp; omega
  rw [hD] at R
  go_enter Tryd.func19, Tryd.ntmps19
  go_wp2_with fail
  generalize hW : World.alloc (World.alloc w _) _ = W
  have BLW := Lib.hid (show Below w.heap.size w W by rw [← hW]; exact ((Below.refl _ _).alloc (Nat.le_refl _) _).alloc (by simp) _)
  have hZ : W.heap[w.heap.size]? = some (.cells #[.int .i64 0, .int .i64 0, .string ⟨#[]⟩, .slice none 0 0] 28 (0, 0)) := by
    rw [← hW]; exact (Below.heap_alloc _ _ _ (by simp)).trans (World.alloc_heap_new w _)
  have hV : W.heap[w.heap.size + 1]? = some (.cells #[.int .i64 2, .int .i64 0, .string D, .slice none 0 0] 28 (0, 0)) := by
    rw [← hW]
    have := World.alloc_heap_new (w.alloc (.cells #[.int .i64 0, .int .i64 0, .string ⟨#[]⟩, .slice none 0 0] 28)) (.cells #[.int .i64 2, .int .i64 0, .string D, .slice none 0 0] 28)
    rwa [World.size_alloc] at this
  have hWs : W.heap.size = w.heap.size + 2 := by rw [← hW]; simp
  clear hW
  have CK := rCheck_any 2 0 D (by omega) none 0 0 (fun _ => 0) W ⟨Nat.zero_le _, .inl rfl⟩
  rw [show errV 2 D 0 (fun _ => 0) = errT D.data.toList by unfold errV; rw [if_neg (by decide), if_pos rfl]] at CK
  unfold val at CK
  obtain ⟨E, hE⟩ : ∃ E, errT D.data.toList = E := ⟨_, rfl⟩
  rw [hE] at CK
  have HE := Lib.hid hE
  refine CK.mono ?_
  clear CK hE
  rintro e w2 ⟨rfl, hb⟩
  have BL2 := Lib.hid (BLW.out.trans (hb.mono (by omega)))
  have C2 := Lib.hid ((hb.block _ (lt_of_block hV)).trans hV)
  have Z2 := Lib.hid ((hb.block _ (lt_of_block hZ)).trans hZ)
  clear hb hV hZ
  obtain ⟨⟨x0, x1, x2, x3⟩, xf0, xf1, xf2, xf3⟩ := four C2.out
  obtain ⟨⟨z0, z1, z2, z3⟩, zf0, zf1, zf2, zf3⟩ := four Z2.out
  by_cases h0 : E = 0
  · subst h0
    go_wp2_with fail
    obtain ⟨⟨d0, d1, d2, d3⟩, -⟩ := four (four_set Z2.out (.int .i64 2) (.int .i64 0) (.string D) (.slice none 0 0))
    exact bodyPost_ret (v := .tuple #[val 2 0 D (.slice none 0 0), .int .i64 0]) (by simp [results, Tryd.results19, go_sem, val, d0, d1, d2, d3]) rfl ⟨four_below BL2.out (Nat.le_refl _) _ _ _ _, .inr (.inr ⟨.text D.data.toList, 2, 0, D, none, 0, 0, fun _ => 0, R.out, HE.out, ⟨rfl, rfl, rfl, rfl, rfl, rfl⟩, ⟨Nat.zero_le _, .inl rfl⟩, rfl⟩)⟩
  · have q0 : (E != 0) = true := by simpa using h0
    have HE0 := Lib.hid h0
    clear h0
    go_wp2_with fail
    obtain ⟨⟨d0, d1, d2, d3⟩, -⟩ := four (four_set Z2.out (.int .i64 0) (.int .i64 0) (.string ⟨#[]⟩) (.slice none 0 0))
    exact bodyPost_ret (v := .tuple #[val 0 0 ⟨#[]⟩ (.slice none 0 0), .int .i64 E]) (by simp [results, Tryd.results19, go_sem, val, d0, d1, d2, d3]) rfl ⟨four_below BL2.out (Nat.le_refl _) _ _ _ _, .inr (.inl ⟨.text D.data.toList, R.out, by show ¬ errT D.data.toList = 0; rw [HE.out]; exact HE0.out, by show _ = Ending.returned (.tuple #[_, .int .i64 (errT D.data.toList)]); rw [HE.out]⟩)⟩

theorem last_is {s : ByteArray} (h : 1 ≤ s.size) : s.data.toList.getLast? = some s[s.size - 1] := by
  have hl : s.data.toList.length = s.size := by simp
  rw [List.getLast?_eq_getElem?, hl, List.getElem?_eq_getElem (by simp; omega)]; rfl

/-- Neither in quotes nor in brackets: a number, or nothing. -/
theorem raw_else {s : ByteArray} (h : s.size < 2 ∨ ∃ h : 2 ≤ s.size, ¬ (s[0] = 34 ∧ s[s.size - 1] = 34) ∧ ¬ (s[0] = 91 ∧ s[s.size - 1] = 93)) : raw s.data.toList = (numOf s.data.toList).map .num := by
  have hl : s.data.toList.length = s.size := by simp
  cases e : s.data.toList with
  | nil =>
    show none = _
    cases hn : numOf [] with
    | none => rfl
    | some v =>
      rcases num_some hn with ⟨_, d, hd, _⟩ | ⟨_, ho, _⟩
      · cases hd
      · exact absurd rfl ho.1
  | cons c r =>
    have no : ∀ x : UInt8, (c = 34 ∧ x = 34) ∨ (c = 91 ∧ x = 93) → inner (c :: r) x = none := fun x hx => by
      unfold inner
      rw [if_neg]
      rintro ⟨h2, hx2⟩
      rw [← e] at h2 hx2
      rw [hl] at h2
      rw [last_is (by omega)] at hx2
      have hx3 : s[s.size - 1] = x := by simpa using hx2
      have h00 : s.data.toList[0]? = some s[0] := List.getElem?_eq_getElem (by simp; omega)
      rw [e] at h00
      have hc : c = s[0] := by simpa using h00
      rcases h with h | ⟨_, h3, h4⟩
      · omega
      · rcases hx with ⟨a, b⟩ | ⟨a, b⟩
        · exact h3 ⟨by rw [← hc, a], by rw [hx3, b]⟩
        · exact h4 ⟨by rw [← hc, a], by rw [hx3, b]⟩
    rw [raw]
    by_cases h34 : c = 34
    · rw [if_pos h34, no 34 (.inl ⟨h34, rfl⟩), numOf_no (by rw [h34]; decide) (by rw [h34]; unfold isD; decide)]; rfl
    · rw [if_neg h34]
      by_cases h91 : c = 91
      · rw [if_pos h91, no 93 (.inr ⟨h91, rfl⟩), numOf_no (by rw [h91]; decide) (by rw [h91]; unfold isD; decide)]; rfl
      · rw [if_neg h91]

theorem byte_is {c : UInt8} (n : Nat) (hn : n < 256) : ((c.toNat : Int) == (n : Int)) = decide (c = UInt8.ofNat n) := by
  by_cases h : c = UInt8.ofNat n
  · subst h
    rw [decide_eq_true rfl, beq_iff_eq, UInt8.toNat_ofNat', Nat.mod_eq_of_lt hn]
  · rw [decide_eq_false h, beq_eq_false_iff_ne]
    intro e; apply h
    apply UInt8.toNat_inj.1
    rw [UInt8.toNat_ofNat', Nat.mod_eq_of_lt hn]; omega

set_option maxRecDepth 100000 in
set_option maxHeartbeats 4000000 in
theorem rParseNum (s : ByteArray) (hm : s.size ≤ 1000) (h : s.size < 2 ∨ ∃ h : 2 ≤ s.size, ¬ (s[0] = 34 ∧ s[s.size - 1] = 34) ∧ ¬ (s[0] = 91 ∧ s[s.size - 1] = 93)) (w : World) :
    Calls Tryd.prog 19 #[.string s] w (RPost s.data.toList w) := by
  have R := Lib.hid (raw_else h)
  have N := Lib.hid (fun w => rNumber_any s hm w)
  by_cases h2 : s.size < 2
  · clear h
    go_enter Tryd.func19, Tryd.ntmps19
    go_wp2_with fail
    refine (N.out _).mono ?_
    rintro e w2 ⟨rfl, hw⟩
    have hb : Below w.heap.size w w2 := by rw [← hw]; exact (Below.refl _ _).alloc (Nat.le_refl _) _
    have hZ : w2.heap[w.heap.size]? = some (.cells #[.int .i64 0, .int .i64 0, .string ⟨#[]⟩, .slice none 0 0] 28 (0, 0)) := by
      rw [← hw]; exact World.alloc_heap_new w _
    have BL2 := Lib.hid hb
    have Z2 := Lib.hid hZ
    obtain ⟨⟨z0, z1, z2, z3⟩, zf0, zf1, zf2, zf3⟩ := four hZ
    clear hb hZ hw
    cases hn : numOf s.data.toList with
    | none =>
      have R2 := Lib.hid (show raw s.data.toList = none by rw [R.out, hn]; rfl)
      clear hn
      unfold numV
      go_wp2_with fail
      obtain ⟨⟨d0, d1, d2, d3⟩, -⟩ := four (four_set Z2.out (.int .i64 0) (.int .i64 0) (.string ⟨#[]⟩) (.slice none 0 0))
      exact bodyPost_ret (v := .tuple #[val 0 0 ⟨#[]⟩ (.slice none 0 0), .int .i64 2]) (by simp [results, Tryd.results19, go_sem, val, d0, d1, d2, d3]) rfl ⟨four_below BL2.out (Nat.le_refl _) _ _ _ _, .inl ⟨R2.out, rfl⟩⟩
    | some v =>
      have R2 := Lib.hid (show raw s.data.toList = some (.num v) by rw [R.out, hn]; rfl)
      clear hn
      unfold numV
      go_wp2_with fail
      obtain ⟨⟨d0, d1, d2, d3⟩, -⟩ := four (four_set Z2.out (.int .i64 1) (.int .i64 v) (.string ⟨#[]⟩) (.slice none 0 0))
      exact bodyPost_ret (v := .tuple #[val 1 v ⟨#[]⟩ (.slice none 0 0), .int .i64 0]) (by simp [results, Tryd.results19, go_sem, val, d0, d1, d2, d3]) rfl ⟨four_below BL2.out (Nat.le_refl _) _ _ _ _, .inr (.inr ⟨.num v, 1, v, ⟨#[]⟩, none, 0, 0, fun _ => 0, R2.out, rfl, ⟨rfl, rfl, rfl, rfl, rfl, rfl⟩, ⟨Nat.zero_le _, .inl rfl⟩, rfl⟩)⟩
  · obtain ⟨h3, h4, h5⟩ := h.resolve_left h2
    have a0 := byte_is (c := s[0]) 34 (by omega)
    have a1 := byte_is (c := s[0]) 91 (by omega)
    have a2 := byte_is (c := s[s.size - 1]) 34 (by omega)
    have a3 := byte_is (c := s[s.size - 1]) 93 (by omega)
    by_cases c1 : s[0] = 34
    · have e0 : ((s[0].toNat : Int) == 34) = true := by rw [c1]; decide
      have e1 : ((s[0].toNat : Int) == 91) = false := by rw [c1]; decide
      have e2 : ((s[s.size - 1].toNat : Int) == 34) = false := a2.trans (decide_eq_false fun x => h4 ⟨c1, x⟩)
      clear c1 a0 a1 a2 a3 h4 h5 h
      go_enter Tryd.func19, Tryd.ntmps19
      go_wp2_with fail
      refine (N.out _).mono ?_
      rintro e w2 ⟨rfl, hw⟩
      have hb : Below w.heap.size w w2 := by rw [← hw]; exact (Below.refl _ _).alloc (Nat.le_refl _) _
      have hZ : w2.heap[w.heap.size]? = some (.cells #[.int .i64 0, .int .i64 0, .string ⟨#[]⟩, .slice none 0 0] 28 (0, 0)) := by
        rw [← hw]; exact World.alloc_heap_new w _
      have BL2 := Lib.hid hb
      have Z2 := Lib.hid hZ
      obtain ⟨⟨z0, z1, z2, z3⟩, zf0, zf1, zf2, zf3⟩ := four hZ
      clear hb hZ hw
      cases hn : numOf s.data.toList with
      | none =>
        have R2 := Lib.hid (show raw s.data.toList = none by rw [R.out, hn]; rfl)
        clear hn
        unfold numV
        go_wp2_with fail
        obtain ⟨⟨d0, d1, d2, d3⟩, -⟩ := four (four_set Z2.out (.int .i64 0) (.int .i64 0) (.string ⟨#[]⟩) (.slice none 0 0))
        exact bodyPost_ret (v := .tuple #[val 0 0 ⟨#[]⟩ (.slice none 0 0), .int .i64 2]) (by simp [results, Tryd.results19, go_sem, val, d0, d1, d2, d3]) rfl ⟨four_below BL2.out (Nat.le_refl _) _ _ _ _, .inl ⟨R2.out, rfl⟩⟩
      | some v =>
        have R2 := Lib.hid (show raw s.data.toList = some (.num v) by rw [R.out, hn]; rfl)
        clear hn
        unfold numV
        go_wp2_with fail
        obtain ⟨⟨d0, d1, d2, d3⟩, -⟩ := four (four_set Z2.out (.int .i64 1) (.int .i64 v) (.string ⟨#[]⟩) (.slice none 0 0))
        exact bodyPost_ret (v := .tuple #[val 1 v ⟨#[]⟩ (.slice none 0 0), .int .i64 0]) (by simp [results, Tryd.results19, go_sem, val, d0, d1, d2, d3]) rfl ⟨four_below BL2.out (Nat.le_refl _) _ _ _ _, .inr (.inr ⟨.num v, 1, v, ⟨#[]⟩, none, 0, 0, fun _ => 0, R2.out, rfl, ⟨rfl, rfl, rfl, rfl, rfl, rfl⟩, ⟨Nat.zero_le _, .inl rfl⟩, rfl⟩)⟩
    · have e0 : ((s[0].toNat : Int) == 34) = false := a0.trans (decide_eq_false c1)
      by_cases c2 : s[0] = 91
      · have e1 : ((s[0].toNat : Int) == 91) = true := by rw [c2]; decide
        have e2 : ((s[s.size - 1].toNat : Int) == 93) = false := a3.trans (decide_eq_false fun x => h5 ⟨c2, x⟩)
        clear c1 c2 a0 a1 a2 a3 h4 h5 h
        go_enter Tryd.func19, Tryd.ntmps19
        go_wp2_with fail
        refine (N.out _).mono ?_
        rintro e w2 ⟨rfl, hw⟩
        have hb : Below w.heap.size w w2 := by rw [← hw]; exact (Below.refl _ _).alloc (Nat.le_refl _) _
        have hZ : w2.heap[w.heap.size]? = some (.cells #[.int .i64 0, .int .i64 0, .string ⟨#[]⟩, .slice none 0 0] 28 (0, 0)) := by
          rw [← hw]; exact World.alloc_heap_new w _
        have BL2 := Lib.hid hb
        have Z2 := Lib.hid hZ
        obtain ⟨⟨z0, z1, z2, z3⟩, zf0, zf1, zf2, zf3⟩ := four hZ
        clear hb hZ hw
        cases hn : numOf s.data.toList with
        | none =>
          have R2 := Lib.hid (show raw s.data.toList = none by rw [R.out, hn]; rfl)
          clear hn
          unfold numV
          go_wp2_with fail
          obtain ⟨⟨d0, d1, d2, d3⟩, -⟩ := four (four_set Z2.out (.int .i64 0) (.int .i64 0) (.string ⟨#[]⟩) (.slice none 0 0))
          exact bodyPost_ret (v := .tuple #[val 0 0 ⟨#[]⟩ (.slice none 0 0), .int .i64 2]) (by simp [results, Tryd.results19, go_sem, val, d0, d1, d2, d3]) rfl ⟨four_below BL2.out (Nat.le_refl _) _ _ _ _, .inl ⟨R2.out, rfl⟩⟩
        | some v =>
          have R2 := Lib.hid (show raw s.data.toList = some (.num v) by rw [R.out, hn]; rfl)
          clear hn
          unfold numV
          go_wp2_with fail
          obtain ⟨⟨d0, d1, d2, d3⟩, -⟩ := four (four_set Z2.out (.int .i64 1) (.int .i64 v) (.string ⟨#[]⟩) (.slice none 0 0))
          exact bodyPost_ret (v := .tuple #[val 1 v ⟨#[]⟩ (.slice none 0 0), .int .i64 0]) (by simp [results, Tryd.results19, go_sem, val, d0, d1, d2, d3]) rfl ⟨four_below BL2.out (Nat.le_refl _) _ _ _ _, .inr (.inr ⟨.num v, 1, v, ⟨#[]⟩, none, 0, 0, fun _ => 0, R2.out, rfl, ⟨rfl, rfl, rfl, rfl, rfl, rfl⟩, ⟨Nat.zero_le _, .inl rfl⟩, rfl⟩)⟩
      · have e1 : ((s[0].toNat : Int) == 91) = false := a1.trans (decide_eq_false c2)
        clear c1 c2 a0 a1 a2 a3 h4 h5 h
        go_enter Tryd.func19, Tryd.ntmps19
        go_wp2_with fail
        refine (N.out _).mono ?_
        rintro e w2 ⟨rfl, hw⟩
        have hb : Below w.heap.size w w2 := by rw [← hw]; exact (Below.refl _ _).alloc (Nat.le_refl _) _
        have hZ : w2.heap[w.heap.size]? = some (.cells #[.int .i64 0, .int .i64 0, .string ⟨#[]⟩, .slice none 0 0] 28 (0, 0)) := by
          rw [← hw]; exact World.alloc_heap_new w _
        have BL2 := Lib.hid hb
        have Z2 := Lib.hid hZ
        obtain ⟨⟨z0, z1, z2, z3⟩, zf0, zf1, zf2, zf3⟩ := four hZ
        clear hb hZ hw
        cases hn : numOf s.data.toList with
        | none =>
          have R2 := Lib.hid (show raw s.data.toList = none by rw [R.out, hn]; rfl)
          clear hn
          unfold numV
          go_wp2_with fail
          obtain ⟨⟨d0, d1, d2, d3⟩, -⟩ := four (four_set Z2.out (.int .i64 0) (.int .i64 0) (.string ⟨#[]⟩) (.slice none 0 0))
          exact bodyPost_ret (v := .tuple #[val 0 0 ⟨#[]⟩ (.slice none 0 0), .int .i64 2]) (by simp [results, Tryd.results19, go_sem, val, d0, d1, d2, d3]) rfl ⟨four_below BL2.out (Nat.le_refl _) _ _ _ _, .inl ⟨R2.out, rfl⟩⟩
        | some v =>
          have R2 := Lib.hid (show raw s.data.toList = some (.num v) by rw [R.out, hn]; rfl)
          clear hn
          unfold numV
          go_wp2_with fail
          obtain ⟨⟨d0, d1, d2, d3⟩, -⟩ := four (four_set Z2.out (.int .i64 1) (.int .i64 v) (.string ⟨#[]⟩) (.slice none 0 0))
          exact bodyPost_ret (v := .tuple #[val 1 v ⟨#[]⟩ (.slice none 0 0), .int .i64 0]) (by simp [results, Tryd.results19, go_sem, val, d0, d1, d2, d3]) rfl ⟨four_below BL2.out (Nat.le_refl _) _ _ _ _, .inr (.inr ⟨.num v, 1, v, ⟨#[]⟩, none, 0, 0, fun _ => 0, R2.out, rfl, ⟨rfl, rfl, rfl, rfl, rfl, rfl⟩, ⟨Nat.zero_le _, .inl rfl⟩, rfl⟩)⟩

theorem rParse_value (s : ByteArray) (hm : s.size ≤ 1000) (w : World) : Calls Tryd.prog 19 #[.string s] w (RPost s.data.toList w) := by
  by_cases h2 : s.size < 2
  · exact rParseNum s hm (.inl h2) w
  · have h2' : 2 ≤ s.size := by omega
    by_cases a : s[0] = 34 ∧ s[s.size - 1] = 34
    · exact rParseText s h2' hm a.1 a.2 w
    · by_cases b : s[0] = 91 ∧ s[s.size - 1] = 93
      · exact rParseList s h2' hm b.1 b.2 w
      · exact rParseNum s hm (.inr ⟨h2', a, b⟩) w

end Go.Proofs.YtdghknmlleffbaaDoor
