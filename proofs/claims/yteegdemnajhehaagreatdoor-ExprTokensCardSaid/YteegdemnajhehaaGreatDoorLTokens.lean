/-
  No statement: tokens in memory; the contract of Tokens of package lex.
-/
import Derived.Test.YteegdemnajhehaaGreatDoorLNumF
import Derived.Test.YteegdemnajhehaaGreatDoorAApp
import Derived.RangeFuncRecord
namespace Go.Proofs.YteegdemnajhehaaGreatDoor
open Go.RowKit

/-- A token's four cells. -/
def tkL (t : Tk) : List Value := [.int .i64 t.kind, .string ⟨t.text.toArray⟩, .int .i64 t.num, .int .i64 t.place]
def tksL (ts : List Tk) : List Value := ts.flatMap tkL

theorem tksL_len (ts : List Tk) : (tksL ts).length = ts.length * 4 := by
  induction ts with
  | nil => rfl
  | cons t ts ih =>
    show (tkL t ++ tksL ts).length = _
    rw [List.length_append, ih, List.length_cons]
    show 4 + _ = _
    omega

theorem tksL_at : ∀ (ts : List Tk) {j i : Nat} (hj : j < ts.length), i < 4 → (tksL ts)[j * 4 + i]? = (tkL ts[j])[i]?
  | [], _, _, hj, _ => by simp at hj
  | t :: ts, 0, i, _, hi => by
    show (tkL t ++ tksL ts)[0 * 4 + i]? = _
    rw [Nat.zero_mul, Nat.zero_add, List.getElem?_append_left (by show i < 4; exact hi)]
    rfl
  | t :: ts, j + 1, i, hj, hi => by
    show (tkL t ++ tksL ts)[(j + 1) * 4 + i]? = _
    rw [List.getElem?_append_right (by show 4 ≤ _; omega)]
    have := tksL_at ts (j := j) (i := i) (by simpa using hj) hi
    rw [show (j + 1) * 4 + i - (tkL t).length = j * 4 + i by show _ - 4 = _; omega, this]
    rfl

theorem tkL_one (t : Tk) : ∀ u ∈ tkL t, u.oneCell' = true := by
  intro u hu
  simp only [tkL, List.mem_cons, List.not_mem_nil, or_false] at hu
  rcases hu with rfl | rfl | rfl | rfl <;> rfl

theorem tksL_snoc (ts : List Tk) (t : Tk) : tksL (ts ++ [t]) = tksL ts ++ tkL t := by unfold tksL; simp

/-- The lexer's end of any text. -/
def lexT (l : List UInt8) : LexEnd := if 1024 < l.length then .bad 0 4 else lexL l 0

/-- What Tokens answers. -/
def TokPost (E : TypeId) (L : LexEnd) (w : World) (e : Ending) (w' : World) : Prop := Below w.heap.size w w' ∧
  match L with
  | .bad p er => e = .returned (.tuple #[.slice none 0 0, .int .i64 (p : Nat), .int .i64 er])
  | .ok ts => ∃ a c, e = .returned (.tuple #[.slice a ts.length c, .int .i64 0, .int .i64 0]) ∧ w'.ownsRow w.heap.size E 4 (.slice a ts.length c) ts.length (tksL ts)

theorem tokInfo : (Tryz.prog.info? 74).map (fun i => (i.zero, i.size, i.bytes)) = some (some (.agg #[.int .i64 0, .string ⟨#[]⟩, .int .i64 0, .int .i64 0]), 4, 40) := by kernel_rfl

theorem new_tok (w : World) (t : Tk) (E : TypeId) : ∀ j u, (tkL t)[j]? = some u → (w.alloc (.cells #[.int .i64 t.kind, .string ⟨t.text.toArray⟩, .int .i64 t.num, .int .i64 t.place] E)).cell? ((⟨w.heap.size, 0, none⟩ : Addr).add j) = some u := fun j u hj => by
  rw [Addr.add_lit, Nat.zero_add, cell_of_row _ _ _ _ _ (0, 0) (heap_alloc_new w _)]
  simpa [tkL] using hj

theorem first_bad {l : List UInt8} {e : Int} (h : firstF l = .bad e) : e = 1 ∨ e = 2 ∨ e = 5 := by
  cases l with
  | nil => cases h; exact .inr (.inl rfl)
  | cons c r =>
    simp only [firstF] at h
    split at h
    · unfold nameF at h
      split at h
      · cases h; exact .inr (.inr rfl)
      · cases h
    · split at h
      · unfold numF at h
        split at h
        · cases h; exact .inr (.inl rfl)
        · split at h
          · cases h; exact .inl rfl
          · cases h
      · unfold signF at h
        split at h
        · cases h; exact .inr (.inl rfl)
        · cases h

set_option maxRecDepth 100000 in
set_option maxHeartbeats 8000000 in
theorem lTokens_any (s : ByteArray) (hm : s.size ≤ 281474976710656) (w : World) (hw : Laid w) : Calls Tryz.prog 29 #[.string s] w (TokPost 74 (lexT s.data.toList) w) := by
  have hl : s.data.toList.length = s.size := by simp
  by_cases hlong : 1024 < s.size
  · have P := Lib.hid (show TokPost 74 (lexT s.data.toList) w (.returned (.tuple #[.slice none 0 0, .int .i64 0, .int .i64 4])) w from by
      unfold lexT
      rw [if_pos (by omega)]
      exact ⟨Below.refl _ _, rfl⟩)
    clear hl
    go_enter Tryz.func29, Tryz.ntmps29
    go_wp2_with fail
    go_ret3
    exact P.out
  obtain ⟨i0, hi, hz0, hz1, hz2⟩ := info_parts tokInfo
  have und : Tryz.prog.underlying 42 = some (.slice 74) := Tryz.underlying42
  obtain ⟨L, hL⟩ : ∃ L, s.data.toList = L := ⟨_, rfl⟩
  have SK := Lib.hid (p := ∀ (p : Nat) (hp : p ≤ s.size) w, Calls Tryz.prog 53 #[.string s, .int .i64 p] w fun e w' => e = .returned (.int .i64 ((p + runL (· == 32) (L.drop p) : Nat) : Int)) ∧ w = w') (fun p hp w => by rw [← hL]; exact lSkip_any s p hp hm w)
  have FI := Lib.hid (p := ∀ (p : Nat) (hp : p < s.size) w (hw : Laid w), Calls Tryz.prog 54 #[.string (s.extract p s.size)] w fun e w' => e = .returned (retF (L.drop p) (firstF (L.drop p))) ∧ Below w.heap.size w w') (fun p hp w hw => by
    rw [← hL, ← list_tail]
    exact lFirst_any (s.extract p s.size) (by rw [ByteArray.size_extract]; omega) (by rw [ByteArray.size_extract]; omega) w hw)
  have hLs : L.length = s.size := by rw [← hL]; exact hl
  have skip_in : ∀ p, p ≤ s.size → p + runL (· == 32) (L.drop p) ≤ s.size := fun p hp => by
    have := run_le (· == 32) (L.drop p)
    rw [List.length_drop] at this
    omega
  have skip_lex : ∀ p, p ≤ s.size → lexL (L.drop p) p = lexL (L.drop (p + runL (· == 32) (L.drop p))) (p + runL (· == 32) (L.drop p)) := fun p _ => by
    rw [lex_skip, List.drop_drop]
  have skip_hd : ∀ p, ¬ (L.drop (p + runL (· == 32) (L.drop p))).head? = some 32 := fun p => by
    rw [← List.drop_drop]; exact skip_head _
  have hE : lexT s.data.toList = lexL L 0 := by
    unfold lexT
    rw [if_neg (by omega), hL]
  rw [hE]
  obtain ⟨E, hEE⟩ : ∃ E, lexL L 0 = E := ⟨_, rfl⟩
  rw [hEE]
  have K0 := Lib.hid (show lexL (L.drop (0 + runL (· == 32) (L.drop 0))) (0 + runL (· == 32) (L.drop 0)) = E by
    rw [← hEE, ← skip_lex 0 (by omega), List.drop_zero])
  have H0 := Lib.hid (skip_hd 0)
  have N0 := skip_in 0 (by omega)
  have D0 := Lib.hid (SK.out 0 (by omega))
  obtain ⟨k0, hk0⟩ : ∃ k0, 0 + runL (· == 32) (L.drop 0) = k0 := ⟨_, rfl⟩
  rw [hk0] at K0 H0 N0 D0
  have SKI := Lib.hid skip_in
  have SKL := Lib.hid skip_lex
  have SKH := Lib.hid skip_hd
  have HW := Lib.hid hw
  have HLS := Lib.hid hLs
  clear hE hEE hk0 skip_in skip_lex skip_hd hL hl hw hLs
  go_enter Tryz.func29, Tryz.ntmps29
  go_wp2_with (go_at_call 53; refine (D0.out _).mono ?_; rintro e w' ⟨rfl, rfl⟩)
  go_loopw [5, 6] (fun v i wr => ∃ (k : Nat) (va : Option Addr) (vc : Nat) (T : List Tk), v = .slice va T.length vc ∧ i = .int .i64 k ∧ k ≤ s.size ∧ T.length ≤ k ∧ Hid (¬ (L.drop k).head? = some 32) ∧ Hid ((lexL (L.drop k) k).after T = E) ∧ Hid (wr.ownsRow w.heap.size 74 4 (.slice va T.length vc) T.length (tksL T)) ∧ Hid (Below w.heap.size w wr)) (fun _ i _ => s.size - (intOf i).toNat)
  case atStart => exact ⟨k0, none, 0, [], rfl, rfl, N0, by simp, H0, Lib.hid (by rw [after_nil]; exact K0.out), Lib.hid (World.ownsRow_nil _ _ _ _), Lib.hid (Below.refl _ _)⟩
  case round =>
    obtain ⟨k, va, vc, T, rfl, rfl, hk, hTk, hH, hE, hO, hB⟩ := hrel
    by_cases hlt : k < s.size
    · have hne : ¬ L.drop k = [] := by
        intro e
        have := congrArg List.length e
        rw [List.length_drop, HLS.out, List.length_nil] at this
        omega
      have LW := Lib.hid (HW.out.step hB.out)
      have F := Lib.hid (FI.out k hlt wr LW.out)
      rcases lex_cases (L.drop k) k hH.out with ⟨h, _⟩ | ⟨er, _, hf, hx⟩ | ⟨kd, n, nv, _, hf, hn1, hn2, hx⟩
      · exact absurd h hne
      · have q : ((er : Int) != 0) = true := by rcases first_bad hf with h | h | h <;> rw [h] <;> decide
        have R := Lib.hid (show E = .bad k er by rw [← hE.out, hx]; rfl)
        have F2 := Lib.hid (p := Calls Tryz.prog 54 #[.string (s.extract k s.size)] wr fun e w' => e = .returned (.tuple #[tkV 0 ⟨#[]⟩ 0 0, .int .i64 er]) ∧ Below wr.heap.size wr w') (by have := F.out; rw [hf] at this; exact this)
        clear hf hx hne F
        go_wp2_with fail
        refine F2.out.mono ?_
        rintro e w1 ⟨rfl, hb⟩
        have hz := hB.out.size
        have B1 := Lib.hid (hB.out.trans (hb.mono hz))
        clear hb
        go_wp2_with fail
        go_ret3
        rw [R.out]
        exact ⟨B1.out.alloc B1.out.size _, rfl⟩
      · have F2 := Lib.hid (p := Calls Tryz.prog 54 #[.string (s.extract k s.size)] wr fun e w' => e = .returned (.tuple #[tkV kd ⟨((L.drop k).take n).toArray⟩ nv 0, .int .i64 0]) ∧ Below wr.heap.size wr w') (by have := F.out; rw [hf] at this; exact this)
        rw [List.length_drop, HLS.out] at hn2
        obtain ⟨t, ht⟩ : ∃ t : Tk, t = ⟨kd, (L.drop k).take n, nv, k⟩ := ⟨_, rfl⟩
        have htl : (⟨((L.drop k).take n).toArray⟩ : ByteArray).size = n := by
          show ((L.drop k).take n).toArray.size = n
          rw [List.size_toArray, List.length_take, List.length_drop, HLS.out]; omega
        have hE2 := Lib.hid (show (lexL (L.drop (k + n)) (k + n)).after (T ++ [t]) = E by
          rw [← hE.out, hx, after_after, List.drop_drop, ht])
        obtain ⟨X, hX⟩ : ∃ X : ByteArray, ⟨((L.drop k).take n).toArray⟩ = X := ⟨_, rfl⟩
        rw [hX] at F2 htl
        have hcells := Lib.hid (show tkL t = [.int .i64 kd, .string X, .int .i64 nv, .int .i64 k] by rw [ht, ← hX]; rfl)
        have hz := hB.out.size
        have D1 := Lib.hid (SK.out (k + n) (by omega))
        have N1 := SKI.out (k + n) (by omega)
        have H1 := Lib.hid (SKH.out (k + n))
        have E1 := Lib.hid (SKL.out (k + n) (by omega))
        obtain ⟨k2, hk2⟩ : ∃ k2, k + n + runL (· == 32) (L.drop (k + n)) = k2 := ⟨_, rfl⟩
        have hk3 : k + n ≤ k2 := by omega
        rw [hk2] at D1 N1 H1 E1
        have E3 := Lib.hid (show (lexL (L.drop k2) k2).after (T ++ [t]) = E by rw [← E1.out]; exact hE2.out)
        clear hf hx hne F ht hE2 hX hk2 E1
        go_wp2_with fail
        refine F2.out.mono ?_
        rintro e w1 ⟨rfl, hb⟩
        have B1 := Lib.hid (hB.out.trans (hb.mono hz))
        have O1 := Lib.hid (owns_below hO.out hb)
        have hsz := hb.size
        have B2 := Lib.hid (show Below w.heap.size w (w1.alloc (tkO kd X nv k)) from B1.out.alloc B1.out.size _)
        have OA := Lib.hid (show ((w1.alloc (tkO kd X nv k)).alloc (tkO kd X nv k)).ownsRow w.heap.size 74 4 (.slice va T.length vc) T.length (tksL T) from (O1.out.alloc _).alloc _)
        have NA := Lib.hid (p := ∀ j u, (tkL t)[j]? = some u → ((w1.alloc (tkO kd X nv k)).alloc (tkO kd X nv k)).cell? ((⟨w1.heap.size + 1, 0, none⟩ : Addr).add j) = some u) (fun j u hj => by
          rw [hcells.out] at hj
          rw [Addr.add_lit, Nat.zero_add, cell_of_row _ _ _ _ _ (0, 0) (show ((w1.alloc (tkO kd X nv k)).alloc (tkO kd X nv k)).heap[w1.heap.size + 1]? = some (tkO kd X nv k) by have := heap_alloc_new (w1.alloc (tkO kd X nv k)) (tkO kd X nv k); rwa [World.size_alloc] at this)]
          simpa using hj)
        have CB := Lib.hid (show ((w1.alloc (tkO kd X nv k)).alloc (tkO kd X nv k)).heap[w1.heap.size]? = some (tkO kd X nv k) from (Below.heap_alloc _ _ _ (by rw [World.size_alloc]; omega)).trans (heap_alloc_new w1 _))
        have BA := Lib.hid (show w.heap.size ≤ ((w1.alloc (tkO kd X nv k)).alloc (tkO kd X nv k)).heap.size by rw [World.size_alloc, World.size_alloc]; omega)
        have OLt := Lib.hid (fun q hq => O1.out.lt q hq)
        clear hb
        go_wp2_with (at_builtin; refine wpList_append_new rfl _ _ 42 rfl (base := w.heap.size) und hi hz0 hz1 hz2 rfl (by decide) (.slice va T.length vc) T.length 1 1 ⟨w1.heap.size + 1, 0, none⟩ (tksL T) (tkL t) rfl rfl OA.out rfl NA.out (tkL_one _) (by unfold maxLen; omega) (by omega) BA.out ?_)
        intro v6 w6 ho hg _
        obtain ⟨va6, c6, rfl⟩ := own_rowG ho
        have B6 := Lib.hid (show Below w.heap.size w w6 from (B2.out.alloc B2.out.size _).grown hg BA.out (fun q hq => (OLt.out q hq).1))
        have O6 := Lib.hid (show w6.ownsRow w.heap.size 74 4 (.slice va6 (T ++ [t]).length c6) (T ++ [t]).length (tksL (T ++ [t])) by rw [tksL_snoc, List.length_append]; exact ho)
        have C6 : w6.heap[w1.heap.size]? = some (tkO kd X nv k) := by
          rw [hg.block w1.heap.size (lt_block CB.out) (fun e => by have := (OLt.out _ e.symm).2; omega)]
          exact CB.out
        obtain ⟨⟨m0, m1, m2, m3⟩, -⟩ := four C6
        rw [show T.length + 1 = (T ++ [t]).length by rw [List.length_append]; rfl]
        have hTl : (T ++ [t]).length ≤ k2 := by rw [List.length_append]; show T.length + 1 ≤ k2; omega
        generalize T ++ [t] = T2 at E3 O6 hTl
        clear ho hg OA NA CB BA OLt C6 O1 B1 B2 hO hB hE
        go_wp2_with (go_at_call 53; refine (D1.out _).mono ?_; rintro e w' ⟨rfl, rfl⟩)
        go_roundw
        case rel => exact ⟨k2, va6, c6, T2, rfl, by go_num, N1, hTl, H1, E3, O6, B6⟩
        case measure => simp [intOf]; omega
    · obtain rfl : k = s.size := by omega
      have R := Lib.hid (show E = .ok T by
        rw [← hE.out, List.drop_of_length_le (by rw [HLS.out]; exact Nat.le_refl _), lex_nil]
        simp [LexEnd.after])
      go_wp2_with fail
      go_ret3
      rw [R.out]
      exact ⟨hB.out, va, vc, rfl, hO.out⟩

end Go.Proofs.YteegdemnajhehaaGreatDoor
