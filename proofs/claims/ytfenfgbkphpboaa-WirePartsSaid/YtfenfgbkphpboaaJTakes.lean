/-
  No statement: a value, a stamp, a row taken from a decoder.
-/
import Derived.Test.YtfenfgbkphpboaaJBook
import Derived.Test.YtfenfgbkphpboaaCDecM
import Derived.Test.YtfenfgbkphpboaaJEncs
namespace Go.Proofs.Ytfenfgbkphpboaa
open Go.RowKit

/-- A Dec since w0: what it has left; only it and new blocks have turned. -/
structure TS (w0 w : World) (p : Nat) (F : Nat → Prop) (d : DS) : Prop where
  d : DecH w p F d
  k : Kept (· = p) w0 w
  f : ∀ k, F k → k < w0.heap.size

theorem DecH.at {w : World} {p : Nat} {F : Nat → Prop} {d : DS} (h : DecH w p F d) : F p := by obtain ⟨_, _, _, _, _, h3⟩ := h; exact h3

section
variable {w0 w w' : World} {p : Nat} {F : Nat → Prop} {d : DS}

theorem TS.start (h : DecH w p F d) (hF : ∀ k, F k → k < w.heap.size) : TS w w p F d := ⟨h, Kept.refl _ _, hF⟩
theorem TS.lt (h : TS w0 w p F d) : p < w0.heap.size := h.f p h.d.at
theorem TS.own (h : TS w0 w p F d) (hk : Kept (fun k => w0.heap.size ≤ k) w w') : TS w0 w' p F d :=
  ⟨h.d.kept hk (fun k hf hs => by have := h.f k hf; omega), h.k.trans hk (fun i hi hl => by omega), h.f⟩
theorem TS.below (h : TS w0 w p F d) (hb : Below w.heap.size w w') : TS w0 w' p F d :=
  h.own ((keptBelow hb).mono (fun k hk _ => by have := h.k.size; omega))
theorem TS.alloc (h : TS w0 w p F d) (o : Obj) : TS w0 (w.alloc o) p F d := h.below (below_new w o)
theorem TS.set (h : TS w0 w p F d) {B i : Nat} (hB : w0.heap.size ≤ B) (u : Value) : TS w0 (w.setCell ⟨B, i, none⟩ u) p F d :=
  h.own ((Kept.refl (fun k => w0.heap.size ≤ k) w).setCell (p := ⟨B, i, none⟩) (.inl hB) u)
theorem TS.step {d' : DS} (h : TS w0 w p F d) (hd : DecH w' p F d') (hk : Kept (· = p) w w') : TS w0 w' p F d' := ⟨hd, h.k.trans hk (fun _ h _ => h), h.f⟩
/-- What lies in a new block stays there behind a call of the Dec. -/
theorem TS.block (h : TS w0 w p F d) (hk : Kept (· = p) w w') {B : Nat} {o : Obj} (hB : w0.heap.size ≤ B) (ho : w.heap[B]? = some o) : w'.heap[B]? = some o :=
  hk.heap ho (fun e => by have := h.lt; subst e; omega)
end

/-- A row of n elements of m cells each in block g, of which the first cells are xs. -/
def Fill (w : World) (g : Nat) (e : TypeId) (m n : Nat) (xs : List Value) : Prop := ∃ cur, w.heap[g]? = some (.cells cur e (0, 0)) ∧ cur.size = n * m ∧ cur.toList.take xs.length = xs

section
variable {w w' : World} {g m n : Nat} {e : TypeId} {xs : List Value}
theorem Fill.made {base : Nat} (h : w.ownsRow base e m (.slice (some ⟨g, 0, none⟩) n n) n xs) : Fill w g e m n [] := by
  rcases h.2 with ⟨h1, _⟩ | ⟨g', cap, cur, h1, _, hg, _, _, hs, _⟩
  · simp at h1
  · simp only [Value.slice.injEq, Option.some.injEq, Addr.mk.injEq] at h1
    obtain ⟨⟨rfl, -⟩, -, rfl⟩ := h1
    exact ⟨cur, hg, hs, rfl⟩
theorem Fill.kept {S : Nat → Prop} (h : Fill w g e m n xs) (hk : Kept S w w') (hS : ¬ S g) : Fill w' g e m n xs := by
  obtain ⟨cur, h0, h1, h2⟩ := h
  exact ⟨cur, hk.heap h0 hS, h1, h2⟩
theorem Fill.cell (h : Fill w g e m n xs) {j : Nat} (hj : j < n * m) : ∃ u, w.cell? ⟨g, j, none⟩ = some u ∧ w.frozen? ⟨g, j, none⟩ = false := by
  obtain ⟨cur, h0, h1, h2⟩ := h
  refine ⟨cur[j]'(by omega), ?_, frozen_of_row w g j _ _ h0⟩
  rw [cell_of_row w g j cur e (0, 0) h0]
  simp [h1, hj]
theorem Fill.at (h : Fill w g e m n xs) {j : Nat} {u : Value} (hj : xs[j]? = some u) : w.cell? ⟨g, j, none⟩ = some u := by
  obtain ⟨cur, h0, h1, h2⟩ := h
  exact owns_cell h0 h2 hj
theorem Fill.lt (h : Fill w g e m n xs) : g < w.heap.size := by obtain ⟨_, h0, _⟩ := h; exact lt_of_block h0
theorem Fill.step (h : Fill w g e m n xs) {vs : List Value} {k : Nat} (hx : xs.length = k * m) (hv : vs.length = m) (hk : k < n) : Fill (w.setCells g (k * m) vs) g e m n (xs ++ vs) := by
  obtain ⟨cur, h0, h1, h2⟩ := h
  have hle : k * m + m ≤ n * m := by rw [← Nat.succ_mul]; exact Nat.mul_le_mul_right m hk
  obtain ⟨c2, q2, t2⟩ := heap_setCells g e vs (k * m) w cur h0 (by omega)
  have hcl : cur.toList.length = n * m := by rw [Array.length_toList, h1]
  refine ⟨c2, q2, ?_, ?_⟩
  · rw [← Array.length_toList, t2]; simp only [List.length_append, List.length_take, List.length_drop]; omega
  · rw [t2, ← hx, h2, List.take_append_of_le_length (Nat.le_refl _), List.take_length]
end

theorem keptSets (g : Nat) (vs : List Value) (o : Nat) (w : World) : Kept (· = g) w (w.setCells g o vs) := kept_setCells g vs o w

theorem zL_map (l : List Int) {j : Nat} (h : j < l.length) : (l.map (Value.int .i64))[j]? = some (.int .i64 (zL l j)) := by
  simp [zL, List.getD_eq_getElem?_getD, List.getElem?_eq_getElem h]

theorem infoI : (Try.prog.info? 2).map (fun i => (i.zero, i.size, i.bytes)) = some (some (.int .i64 0), 1, 8) := by kernel_rfl

set_option maxHeartbeats 4000000 in
set_option maxRecDepth 100000 in
theorem takeEachI_any (p : Nat) (F : Nat → Prop) (d : DS) (most : Nat) (hm : most ≤ 1000) (w : World) (hF : ∀ k, F k → k < w.heap.size) (h : DecH w p F d) :
    Calls Try.prog 45 #[.pointer (some ⟨p, 0, none⟩), .int .i64 (most : Nat), .func (.func 43) #[] #[]] w fun e w' =>
      (∃ a c, e = .returned (.slice a (dMany dInt (dNum 0 most d).1.toNat (dNum 0 most d).2).1.length c) ∧ ReadsG (fun k => w.heap.size ≤ k) w' a (dMany dInt (dNum 0 most d).1.toNat (dNum 0 most d).2).1.length (zL (dMany dInt (dNum 0 most d).1.toNat (dNum 0 most d).2).1)) ∧
      DecH w' p F (dMany dInt (dNum 0 most d).1.toNat (dNum 0 most d).2).2 ∧ Kept (· = p) w w' := by
  obtain ⟨i0, hi0, hz0, hz1, hz2⟩ := info_parts infoI
  have und : Try.prog.underlying 22 = some (.slice 2) := Try.underlying22
  have MA := Lib.hid (decMany_any p F d (most : Nat) ⟨by omega, by omega⟩ w h)
  obtain ⟨hn0, hn1⟩ := dNum_in (most := (most : Nat)) (by omega) d
  obtain ⟨⟨N, d1⟩, hN⟩ : ∃ r, dNum 0 (most : Nat) d = r := ⟨_, rfl⟩
  rw [hN] at MA hn0 hn1
  rw [hN]
  simp only at hn0 hn1 ⊢
  obtain ⟨n, rfl⟩ := Int.eq_ofNat_of_zero_le hn0
  simp only [Int.toNat_natCast]
  rw [dMany_len]
  have T0 := Lib.hid (TS.start h hF)
  have hnm : n ≤ 1000 := by omega
  clear hN h hF hn0 hn1
  go_enter Try.func45, Try.ntmps45
  go_wp2_with fail
  refine MA.out.mono ?_
  rintro e w2 ⟨rfl, hd, hk⟩
  have T2 := Lib.hid (T0.out.step hd hk)
  clear hd hk T0
  go_wp2_with (at_make; refine wpList_make_full _ rfl _ _ 22 rfl 0 2 i0 (Value.int .i64 0) 1 und hi0 hz0 hz1 .i64 .i64 _ _ n rfl rfl rfl rfl (by rw [hz2]; omega) (by unfold maxLen; omega) (Nat.zero_le _) ?_)
  intro w3 hown hgrow
  have G3 := Lib.hid (Fill.made hown)
  have T3 := Lib.hid (T2.out.own (w' := w3) ((Kept.refl _ w2).grown hgrow (fun k hk => by cases hk)))
  have hg : w.heap.size ≤ w2.heap.size := T2.out.k.size
  obtain ⟨g, hgg⟩ : ∃ g, w2.heap.size = g := ⟨_, rfl⟩
  rw [hgg] at G3 hg
  try rw [hgg]
  clear hown hgrow T2
  go_wp2_with fail
  go_loopw [15] (fun i wr => ∃ k : Nat, i = .int .i64 k ∧ k ≤ n ∧ Hid (TS w wr p F (dMany dInt k d1).2) ∧ Hid (Fill wr g 2 1 n ((dMany dInt k d1).1.map (Value.int .i64)))) (fun i _ => n - (intOf i).toNat)
  case atStart => exact ⟨0, rfl, Nat.zero_le _, T3, G3⟩
  case round =>
    obtain ⟨k, rfl, hk, hT, hG⟩ := hrel
    clear T3 G3
    by_cases hlt : k < n
    · have IN := Lib.hid (decInt_any p F _ wr hT.out.d)
      have hs := dMany_succ dInt k d1
      have hl := dMany_len dInt k d1
      obtain ⟨⟨L, D⟩, hD⟩ : ∃ r, dMany dInt k d1 = r := ⟨_, rfl⟩
      rw [hD] at IN hs hl hT hG
      simp only at IN hs hl hT hG
      obtain ⟨⟨v, D2⟩, hv⟩ : ∃ r, dInt D = r := ⟨_, rfl⟩
      rw [hv] at IN hs
      have HS := Lib.hid hs
      have HL := Lib.hid hl
      clear hD hv hs hl
      go_wp2_with fail
      refine IN.out.mono ?_
      rintro e w4 ⟨rfl, hd, hk4⟩
      have T4 := Lib.hid (hT.out.step hd hk4)
      have G4 := Lib.hid (hG.out.kept hk4 (fun e => by have := hT.out.lt; omega))
      obtain ⟨u, c0, f0⟩ := G4.out.cell (j := k) (by omega)
      clear hd hk4 IN
      go_wp2_with fail
      have G5 := Lib.hid (show Fill (w4.setCell ⟨g, k, none⟩ (.int .i64 v)) g 2 1 n ((dMany dInt (k + 1) d1).1.map (Value.int .i64)) by
        rw [HS.out, List.map_append]
        have := G4.out.step (vs := [Value.int .i64 v]) (k := k) (by rw [List.length_map, HL.out, Nat.mul_one]) rfl hlt
        rw [Nat.mul_one] at this
        exact this)
      have T5 := Lib.hid (show TS w (w4.setCell ⟨g, k, none⟩ (.int .i64 v)) p F (dMany dInt (k + 1) d1).2 by rw [HS.out]; exact T4.out.set hg _)
      go_roundw
      case rel => exact ⟨k + 1, by go_num, by omega, T5, G5⟩
      case measure => simp [intOf]; omega
    · obtain rfl : k = n := by omega
      have HL := dMany_len dInt k d1
      have R := Lib.hid (show ReadsG (fun b => w.heap.size ≤ b) wr (some ⟨g, 0, none⟩) k (zL (dMany dInt k d1).1) from ⟨by unfold maxLen; omega, .inr ⟨g, 0, rfl, hg, fun j hj => by rw [Nat.zero_add]; exact hG.out.at (zL_map _ (by omega))⟩⟩)
      clear HL
      go_wp2_with fail
      go_ret
      exact ⟨⟨_, _, rfl, R.out⟩, hT.out.d, hT.out.k⟩

end Go.Proofs.Ytfenfgbkphpboaa

namespace Go.Proofs.Ytfenfgbkphpboaa
open Go.RowKit

theorem err_at {w : World} {p : Nat} {F : Nat → Prop} {d : DS} (h : DecH w p F d) : ∀ o1 o2, Calls Try.prog 25 #[.pointer (some ⟨p, 0, none⟩)] ((w.alloc o1).alloc o2) fun e w' => e = .returned (.int .i64 d.2) ∧ w' = (w.alloc o1).alloc o2 :=
  fun o1 o2 => decErr_any p F d _ (h.kept (((Kept.refl (fun _ => False) w).alloc o1).alloc o2) (fun _ _ h => h))

set_option maxHeartbeats 4000000 in
set_option maxRecDepth 100000 in
theorem orZeroV_any (p : Nat) (F : Nat → Prop) (d : DS) (k n : Int) (s : ByteArray) (y : Option Addr) (len c : Nat) (w : World) (h : DecH w p F d) :
    Calls Try.prog 46 #[.pointer (some ⟨p, 0, none⟩), .agg #[.int .i64 k, .int .i64 n, .string s, .slice y len c]] w fun e w' => (e = .returned (if d.2 = 0 then .agg #[.int .i64 k, .int .i64 n, .string s, .slice y len c] else .agg #[.int .i64 0, .int .i64 0, .string ⟨#[]⟩, .slice none 0 0])) ∧ Below w.heap.size w w' := by
  have E := Lib.hid (err_at h)
  obtain ⟨L, er⟩ := d
  simp only at E ⊢
  clear h
  by_cases he : er = 0
  · subst he
    rw [if_pos rfl]
    go_enter Try.func46, Try.ntmps46
    go_wp2_with fail
    refine (E.out _ _).mono ?_
    rintro e w2 ⟨rfl, rfl⟩
    go_wp2
    exact bodyPost_ret (v := .agg #[.int .i64 k, .int .i64 n, .string s, .slice y len c]) (by simp [results, Try.results46, go_sem]) rfl ⟨rfl, ((Below.refl _ _).alloc (Nat.le_refl _) _).alloc (by simp) _⟩
  · rw [if_neg he]
    have he' : (er == 0) = false := by simpa using he
    clear he
    go_enter Try.func46, Try.ntmps46
    go_wp2_with fail
    refine (E.out _ _).mono ?_
    rintro e w2 ⟨rfl, rfl⟩
    go_wp2
    exact bodyPost_ret (v := .agg #[.int .i64 0, .int .i64 0, .string ⟨#[]⟩, .slice none 0 0]) (by simp [results, Try.results46, go_sem]) rfl ⟨rfl, by first | exact (((Below.refl _ _).alloc (Nat.le_refl _) _).alloc (by simp) _).alloc (by simp; omega) _ | skip⟩

set_option maxHeartbeats 4000000 in
set_option maxRecDepth 100000 in
theorem orZeroS_any (p : Nat) (F : Nat → Prop) (d : DS) (t i q : Int) (o : ByteArray) (w : World) (h : DecH w p F d) :
    Calls Try.prog 47 #[.pointer (some ⟨p, 0, none⟩), .agg #[.int .i64 t, .int .i64 i, .int .i64 q, .string o]] w fun e w' => (e = .returned (if d.2 = 0 then .agg #[.int .i64 t, .int .i64 i, .int .i64 q, .string o] else .agg #[.int .i64 0, .int .i64 0, .int .i64 0, .string ⟨#[]⟩])) ∧ Below w.heap.size w w' := by
  have E := Lib.hid (err_at h)
  obtain ⟨L, er⟩ := d
  simp only at E ⊢
  clear h
  by_cases he : er = 0
  · subst he
    rw [if_pos rfl]
    go_enter Try.func47, Try.ntmps47
    go_wp2_with fail
    refine (E.out _ _).mono ?_
    rintro e w2 ⟨rfl, rfl⟩
    go_wp2
    exact bodyPost_ret (v := .agg #[.int .i64 t, .int .i64 i, .int .i64 q, .string o]) (by simp [results, Try.results47, go_sem]) rfl ⟨rfl, ((Below.refl _ _).alloc (Nat.le_refl _) _).alloc (by simp) _⟩
  · rw [if_neg he]
    have he' : (er == 0) = false := by simpa using he
    clear he
    go_enter Try.func47, Try.ntmps47
    go_wp2_with fail
    refine (E.out _ _).mono ?_
    rintro e w2 ⟨rfl, rfl⟩
    go_wp2
    exact bodyPost_ret (v := .agg #[.int .i64 0, .int .i64 0, .int .i64 0, .string ⟨#[]⟩]) (by simp [results, Try.results47, go_sem]) rfl ⟨rfl, by first | exact (((Below.refl _ _).alloc (Nat.le_refl _) _).alloc (by simp) _).alloc (by simp; omega) _ | skip⟩

set_option maxHeartbeats 4000000 in
set_option maxRecDepth 100000 in
theorem orZeroR_any (p : Nat) (F : Nat → Prop) (d : DS) (x : ByteArray) (t i q : Int) (o : ByteArray) (y : Option Addr) (len c : Nat) (w : World) (h : DecH w p F d) :
    Calls Try.prog 50 #[.pointer (some ⟨p, 0, none⟩), .agg #[.string x, .int .i64 t, .int .i64 i, .int .i64 q, .string o, .slice y len c]] w fun e w' => (e = .returned (if d.2 = 0 then .agg #[.string x, .int .i64 t, .int .i64 i, .int .i64 q, .string o, .slice y len c] else .agg #[.string ⟨#[]⟩, .int .i64 0, .int .i64 0, .int .i64 0, .string ⟨#[]⟩, .slice none 0 0])) ∧ Below w.heap.size w w' := by
  have E := Lib.hid (err_at h)
  obtain ⟨L, er⟩ := d
  simp only at E ⊢
  clear h
  by_cases he : er = 0
  · subst he
    rw [if_pos rfl]
    go_enter Try.func50, Try.ntmps50
    go_wp2_with fail
    refine (E.out _ _).mono ?_
    rintro e w2 ⟨rfl, rfl⟩
    go_wp2
    exact bodyPost_ret (v := .agg #[.string x, .int .i64 t, .int .i64 i, .int .i64 q, .string o, .slice y len c]) (by simp [results, Try.results50, go_sem]) rfl ⟨rfl, ((Below.refl _ _).alloc (Nat.le_refl _) _).alloc (by simp) _⟩
  · rw [if_neg he]
    have he' : (er == 0) = false := by simpa using he
    clear he
    go_enter Try.func50, Try.ntmps50
    go_wp2_with fail
    refine (E.out _ _).mono ?_
    rintro e w2 ⟨rfl, rfl⟩
    go_wp2
    exact bodyPost_ret (v := .agg #[.string ⟨#[]⟩, .int .i64 0, .int .i64 0, .int .i64 0, .string ⟨#[]⟩, .slice none 0 0]) (by simp [results, Try.results50, go_sem]) rfl ⟨rfl, by first | exact (((Below.refl _ _).alloc (Nat.le_refl _) _).alloc (by simp) _).alloc (by simp; omega) _ | skip⟩

end Go.Proofs.Ytfenfgbkphpboaa

namespace Go.Proofs.Ytfenfgbkphpboaa
open Go.RowKit

theorem zReads (G : Nat → Prop) (w : World) (z : Nat → Int) : ReadsG G w none 0 z := ⟨Nat.zero_le _, .inl rfl⟩

theorem orZeroV2_any (p : Nat) (F : Nat → Prop) (D : DS) (x : AD) (y : Option Addr) (c : Nat) (w : World) (h : DecH w p F D) :
    Calls Try.prog 46 #[.pointer (some ⟨p, 0, none⟩), .agg #[.int .i64 x.k, .int .i64 x.n, .string x.s, .slice y x.len c]] w fun e w' => (∃ X Y C, e = .returned (.agg #[.int .i64 X.k, .int .i64 X.n, .string X.s, .slice Y X.len C]) ∧ X = (orZ zA (x, D)).1 ∧ ∀ G w, ReadsG G w y x.len x.z → ReadsG G w Y X.len X.z) ∧ Below w.heap.size w w' := by
  refine (orZeroV_any p F D x.k x.n x.s y x.len c w h).mono fun e w' ⟨he, hb⟩ => ⟨?_, hb⟩
  unfold orZ
  by_cases h0 : D.2 = 0
  · rw [if_pos h0] at he
    exact ⟨x, y, c, he, by rw [if_pos h0], fun _ _ h => h⟩
  · rw [if_neg h0] at he
    exact ⟨zA, none, 0, he, by rw [if_neg h0], fun G w _ => zReads G w _⟩

theorem orZ2 {α : Type} (z : α) (r : α × DS) : (orZ z r).2 = r.2 := by unfold orZ; split <;> rfl

theorem four_set1 {W : World} {B : Nat} {x0 x1 x2 x3 : Value} {t : TypeId} (h : W.heap[B]? = some (.cells #[x0, x1, x2, x3] t (0, 0))) (u : Value) : (W.setCell ⟨B, 1, none⟩ u).heap[B]? = some (.cells #[x0, u, x2, x3] t (0, 0)) := by
  have := heap_setCell_same W B 1 #[x0, x1, x2, x3] t u h
  simpa using this
theorem four_set2 {W : World} {B : Nat} {x0 x1 x2 x3 : Value} {t : TypeId} (h : W.heap[B]? = some (.cells #[x0, x1, x2, x3] t (0, 0))) (u : Value) : (W.setCell ⟨B, 2, none⟩ u).heap[B]? = some (.cells #[x0, x1, u, x3] t (0, 0)) := by
  have := heap_setCell_same W B 2 #[x0, x1, x2, x3] t u h
  simpa using this
theorem four_set3 {W : World} {B : Nat} {x0 x1 x2 x3 : Value} {t : TypeId} (h : W.heap[B]? = some (.cells #[x0, x1, x2, x3] t (0, 0))) (u : Value) : (W.setCell ⟨B, 3, none⟩ u).heap[B]? = some (.cells #[x0, x1, x2, u] t (0, 0)) := by
  have := heap_setCell_same W B 3 #[x0, x1, x2, x3] t u h
  simpa using this

/-- Behind the stores of a value of four cells into a new block. -/
theorem own4 {w0 w : World} {p : Nat} {F : Nat → Prop} {d : DS} (h : TS w0 w p F d) {B : Nat} (hB : w0.heap.size ≤ B) (v0 v1 v2 v3 : Value) : TS w0 ((((w.setCell ⟨B, 0, none⟩ v0).setCell ⟨B, 1, none⟩ v1).setCell ⟨B, 2, none⟩ v2).setCell ⟨B, 3, none⟩ v3) p F d :=
  (((h.set hB v0).set hB v1).set hB v2).set hB v3
theorem kept4 (w : World) (B : Nat) (v0 v1 v2 v3 : Value) : Kept (· = B) w ((((w.setCell ⟨B, 0, none⟩ v0).setCell ⟨B, 1, none⟩ v1).setCell ⟨B, 2, none⟩ v2).setCell ⟨B, 3, none⟩ v3) :=
  ((((Kept.refl (· = B) w).setCell (p := ⟨B, 0, none⟩) (.inl rfl) v0).setCell (p := ⟨B, 1, none⟩) (.inl rfl) v1).setCell (p := ⟨B, 2, none⟩) (.inl rfl) v2).setCell (p := ⟨B, 3, none⟩) (.inl rfl) v3

/-- A value made since w, its list in a new block that is not R. -/
def TV (w : World) (p : Nat) (F : Nat → Prop) (x : AD) (d : DS) (e : Ending) (w' : World) : Prop :=
  (∃ y c, e = .returned (.agg #[.int .i64 x.k, .int .i64 x.n, .string x.s, .slice y x.len c]) ∧ ReadsG (fun k => w.heap.size ≤ k) w' y x.len x.z) ∧ DecH w' p F d ∧ Kept (· = p) w w'

set_option maxHeartbeats 8000000 in
set_option maxRecDepth 100000 in
theorem takeValue_any (p : Nat) (F : Nat → Prop) (d : DS) (w : World) (hF : ∀ k, F k → k < w.heap.size) (h : DecH w p F d) :
    Calls Try.prog 19 #[.pointer (some ⟨p, 0, none⟩)] w (TV w p F (dVal d).1 (dVal d).2) := by
  have hd2 : (dVal d).2 = (dKind (dInt d).1 (dInt d).2).2 := orZ2 _ _
  have hd1 : (dVal d).1 = (orZ zA (dKind (dInt d).1 (dInt d).2)).1 := rfl
  rw [hd2, hd1]
  clear hd2 hd1
  have IN0 := Lib.hid (fun W (hd : DecH W p F d) => decInt_any p F d W hd)
  obtain ⟨⟨k, D1⟩, hk1⟩ : ∃ r, dInt d = r := ⟨_, rfl⟩
  rw [hk1] at IN0 ⊢
  simp only at IN0 ⊢
  clear hk1
  go_enter Try.func19, Try.ntmps19
  go_upto_region 1 with fail
  generalize hW : World.alloc w _ = W
  have T0 := Lib.hid (show TS w W p F d by rw [← hW]; exact (TS.start h hF).alloc _)
  have Z0 := Lib.hid (show W.heap[w.heap.size]? = some (.cells #[.int .i64 0, .int .i64 0, .string ⟨#[]⟩, .slice none 0 0] 24 (0, 0)) by rw [← hW]; exact heap_alloc_new w _)
  have IN := Lib.hid (IN0.out W T0.out.d)
  clear hW h hF IN0
  go_wp2_with fail
  refine IN.out.mono ?_
  rintro e w2 ⟨rfl, hd, hk⟩
  have T2 := Lib.hid (T0.out.step hd hk)
  have Z2 := Lib.hid (T0.out.block hk (Nat.le_refl _) Z0.out)
  clear hd hk T0 Z0 IN
  go_upto_region 2 with fail
  generalize hW : World.alloc w2 _ = W3
  have T3 := Lib.hid (show TS w W3 p F D1 by rw [← hW]; exact T2.out.alloc _)
  have Z3 := Lib.hid (show W3.heap[w.heap.size]? = some (.cells #[.int .i64 0, .int .i64 0, .string ⟨#[]⟩, .slice none 0 0] 24 (0, 0)) by rw [← hW]; exact ((below_new w2 _).block _ (lt_of_block Z2.out)).trans Z2.out)
  have V3 : W3.heap[w2.heap.size]? = some (.cells #[.int .i64 k, .int .i64 0, .string ⟨#[]⟩, .slice none 0 0] 24 (0, 0)) := by rw [← hW]; exact heap_alloc_new w2 _
  have hBw : w.heap.size < w2.heap.size := lt_of_block Z2.out
  obtain ⟨B, hB⟩ : ∃ B, w2.heap.size = B := ⟨_, rfl⟩
  rw [hB] at V3 hBw
  rw [hB]
  have HV3 := Lib.hid V3
  obtain ⟨⟨x0, x1, x2, x3⟩, ⟨f0, f1, f2, f3⟩⟩ := four V3
  clear hW T2 Z2 hB V3
  by_cases h1 : k = 1
  · subst h1
    have CA := Lib.hid (decInt_any p F D1 W3 T3.out.d)
    obtain ⟨⟨v, D⟩, hv⟩ : ∃ r, dInt D1 = r := ⟨_, rfl⟩
    rw [hv] at CA
    simp only at CA
    have HK := Lib.hid (show dKind 1 D1 = (vInt v, D) by unfold dKind; rw [if_pos rfl, hv])
    clear hv
    go_wp2_with fail
    refine CA.out.mono ?_
    rintro e w4 ⟨rfl, hd, hk⟩
    have TV4 := Lib.hid (T3.out.step hd hk)
    have B4 := T3.out.block hk (by omega) HV3.out
    have Z4 := T3.out.block hk (Nat.le_refl _) Z3.out

    clear x0 x1 x2 x3 f0 f1 f2 f3
    obtain ⟨⟨x0, x1, x2, x3⟩, ⟨f0, f1, f2, f3⟩⟩ := four B4
    have HB4 := Lib.hid B4
    have HZ4 := Lib.hid Z4
    clear hd hk B4 Z4 CA
    go_upto_region 9 with fail
    generalize hV : World.setCell w4 _ _ = V
    have TV5 := Lib.hid (show TS w V p F D by rw [← hV]; exact TV4.out.set (by omega) _)
    have VB := Lib.hid (show V.heap[B]? = some (.cells #[.int .i64 (vInt v).k, .int .i64 (vInt v).n, .string (vInt v).s, .slice none (vInt v).len 0] 24 (0, 0)) by rw [← hV]; exact four_set1 HB4.out _)
    have Z5 := Lib.hid (show V.heap[w.heap.size]? = some (.cells #[.int .i64 0, .int .i64 0, .string ⟨#[]⟩, .slice none 0 0] 24 (0, 0)) by rw [← hV, Below.heap_setCell _ ⟨B, 1, none⟩ _ _ (show w.heap.size ≠ B by omega)]; exact HZ4.out)
    have R5 := Lib.hid (show ReadsG (fun k => w.heap.size < k) V none (vInt v).len (vInt v).z from by first | exact zReads _ _ _ | (rw [← hV]; exact (RL.out.kept (kept_p w4 B 1 _) (fun k h e => by omega)).mono (fun k h _ => by omega)))
    clear hV x0 x1 x2 x3 f0 f1 f2 f3 HB4 HZ4 Z3 T3 HV3
    have OZ := Lib.hid (orZeroV2_any p F D (vInt v) none 0 V TV5.out.d)
    clear TV4
    obtain ⟨⟨x0, x1, x2, x3⟩, -⟩ := four VB.out
    simp only [vInt] at x0 x1 x2 x3 OZ
    go_wp2_with fail
    refine OZ.out.mono ?_
    rintro e w6 ⟨⟨X, Y, C, rfl, hX, hY⟩, hb⟩
    have T6 := Lib.hid (TV5.out.below hb)
    have Z6 := (hb.block _ (lt_of_block Z5.out)).trans Z5.out
    have R6 := Lib.hid (hY _ _ (R5.out.kept (keptNew hb) (fun _ _ h => h)))
    have HX := Lib.hid hX
    clear x0 x1 x2 x3 OZ hb hX hY
    obtain ⟨⟨x0, x1, x2, x3⟩, ⟨f0, f1, f2, f3⟩⟩ := four Z6
    clear Z6
    have P := Lib.hid (show TV w p F (orZ zA (dKind 1 D1)).1 (dKind 1 D1).2 (.returned (.agg #[.int .i64 X.k, .int .i64 X.n, .string X.s, .slice Y X.len C])) ((((w6.setCell ⟨w.heap.size, 0, none⟩ (.int .i64 X.k)).setCell ⟨w.heap.size, 1, none⟩ (.int .i64 X.n)).setCell ⟨w.heap.size, 2, none⟩ (.string X.s)).setCell ⟨w.heap.size, 3, none⟩ (.slice Y X.len C)) by
      rw [HK.out, show (orZ zA ((vInt v), D)).1 = X from HX.out.symm]
      have T7 := own4 T6.out (Nat.le_refl _) (.int .i64 X.k) (.int .i64 X.n) (.string X.s) (.slice Y X.len C)
      exact ⟨⟨Y, C, rfl, (R6.out.kept (kept4 w6 w.heap.size _ _ _ _) (fun k h e => by omega)).mono (fun k h _ => by omega)⟩, T7.d, T7.k⟩)
    clear HX R6 T6 Z5 R5 TV5 VB HK
    go_wp2
    exact bodyPost_ret (v := .agg #[.int .i64 X.k, .int .i64 X.n, .string X.s, .slice Y X.len C]) (by simp [results, Try.results19, go_sem, *]) rfl P.out
  by_cases h2 : k = 2
  · subst h2
    clear h1
    have CA := Lib.hid (decText_any p F D1 W3 T3.out.d)
    obtain ⟨⟨v, D⟩, hv⟩ : ∃ r, dText D1 = r := ⟨_, rfl⟩
    rw [hv] at CA
    simp only at CA
    have HK := Lib.hid (show dKind 2 D1 = (vText v, D) by unfold dKind; rw [if_neg (by decide), if_pos rfl, hv])
    clear hv
    go_wp2_with fail
    refine CA.out.mono ?_
    rintro e w4 ⟨rfl, hd, hk⟩
    have TV4 := Lib.hid (T3.out.step hd hk)
    have B4 := T3.out.block hk (by omega) HV3.out
    have Z4 := T3.out.block hk (Nat.le_refl _) Z3.out

    clear x0 x1 x2 x3 f0 f1 f2 f3
    obtain ⟨⟨x0, x1, x2, x3⟩, ⟨f0, f1, f2, f3⟩⟩ := four B4
    have HB4 := Lib.hid B4
    have HZ4 := Lib.hid Z4
    clear hd hk B4 Z4 CA
    go_upto_region 9 with fail
    generalize hV : World.setCell w4 _ _ = V
    have TV5 := Lib.hid (show TS w V p F D by rw [← hV]; exact TV4.out.set (by omega) _)
    have VB := Lib.hid (show V.heap[B]? = some (.cells #[.int .i64 (vText v).k, .int .i64 (vText v).n, .string (vText v).s, .slice none (vText v).len 0] 24 (0, 0)) by rw [← hV]; exact four_set2 HB4.out _)
    have Z5 := Lib.hid (show V.heap[w.heap.size]? = some (.cells #[.int .i64 0, .int .i64 0, .string ⟨#[]⟩, .slice none 0 0] 24 (0, 0)) by rw [← hV, Below.heap_setCell _ ⟨B, 2, none⟩ _ _ (show w.heap.size ≠ B by omega)]; exact HZ4.out)
    have R5 := Lib.hid (show ReadsG (fun k => w.heap.size < k) V none (vText v).len (vText v).z from by first | exact zReads _ _ _ | (rw [← hV]; exact (RL.out.kept (kept_p w4 B 2 _) (fun k h e => by omega)).mono (fun k h _ => by omega)))
    clear hV x0 x1 x2 x3 f0 f1 f2 f3 HB4 HZ4 Z3 T3 HV3
    have OZ := Lib.hid (orZeroV2_any p F D (vText v) none 0 V TV5.out.d)
    clear TV4
    obtain ⟨⟨x0, x1, x2, x3⟩, -⟩ := four VB.out
    simp only [vText] at x0 x1 x2 x3 OZ
    go_wp2_with fail
    refine OZ.out.mono ?_
    rintro e w6 ⟨⟨X, Y, C, rfl, hX, hY⟩, hb⟩
    have T6 := Lib.hid (TV5.out.below hb)
    have Z6 := (hb.block _ (lt_of_block Z5.out)).trans Z5.out
    have R6 := Lib.hid (hY _ _ (R5.out.kept (keptNew hb) (fun _ _ h => h)))
    have HX := Lib.hid hX
    clear x0 x1 x2 x3 OZ hb hX hY
    obtain ⟨⟨x0, x1, x2, x3⟩, ⟨f0, f1, f2, f3⟩⟩ := four Z6
    clear Z6
    have P := Lib.hid (show TV w p F (orZ zA (dKind 2 D1)).1 (dKind 2 D1).2 (.returned (.agg #[.int .i64 X.k, .int .i64 X.n, .string X.s, .slice Y X.len C])) ((((w6.setCell ⟨w.heap.size, 0, none⟩ (.int .i64 X.k)).setCell ⟨w.heap.size, 1, none⟩ (.int .i64 X.n)).setCell ⟨w.heap.size, 2, none⟩ (.string X.s)).setCell ⟨w.heap.size, 3, none⟩ (.slice Y X.len C)) by
      rw [HK.out, show (orZ zA ((vText v), D)).1 = X from HX.out.symm]
      have T7 := own4 T6.out (Nat.le_refl _) (.int .i64 X.k) (.int .i64 X.n) (.string X.s) (.slice Y X.len C)
      exact ⟨⟨Y, C, rfl, (R6.out.kept (kept4 w6 w.heap.size _ _ _ _) (fun k h e => by omega)).mono (fun k h _ => by omega)⟩, T7.d, T7.k⟩)
    clear HX R6 T6 Z5 R5 TV5 VB HK
    go_wp2
    exact bodyPost_ret (v := .agg #[.int .i64 X.k, .int .i64 X.n, .string X.s, .slice Y X.len C]) (by simp [results, Try.results19, go_sem, *]) rfl P.out
  by_cases h3 : k = 3
  · subst h3
    clear h1 h2
    have CA := Lib.hid (takeEachI_any p F D1 16 (by omega) W3 (fun k hf => Nat.lt_of_lt_of_le (T3.out.f k hf) T3.out.k.size) T3.out.d)
    obtain ⟨⟨v, D⟩, hv⟩ : ∃ r, dMany dInt (dNum 0 (16 : Nat) D1).1.toNat (dNum 0 (16 : Nat) D1).2 = r := ⟨_, rfl⟩
    rw [hv] at CA
    simp only at CA
    have HK := Lib.hid (show dKind 3 D1 = (vList v, D) by unfold dKind; rw [if_neg (by decide), if_neg (by decide), if_pos rfl]; unfold dList; rw [show (16 : Int) = ((16 : Nat) : Int) from rfl, hv])
    clear hv
    go_wp2_with fail
    refine CA.out.mono ?_
    rintro e w4 ⟨⟨a4, c4, rfl, hr⟩, hd, hk⟩
    have TV4 := Lib.hid (T3.out.step hd hk)
    have B4 := T3.out.block hk (by omega) HV3.out
    have Z4 := T3.out.block hk (Nat.le_refl _) Z3.out
    have RL := Lib.hid (hr.mono (H := fun k => B < k) (fun k h _ => Nat.lt_of_lt_of_le (lt_of_block HV3.out) h))
    clear hr
    clear x0 x1 x2 x3 f0 f1 f2 f3
    obtain ⟨⟨x0, x1, x2, x3⟩, ⟨f0, f1, f2, f3⟩⟩ := four B4
    have HB4 := Lib.hid B4
    have HZ4 := Lib.hid Z4
    clear hd hk B4 Z4 CA
    go_upto_region 9 with fail
    generalize hV : World.setCell w4 _ _ = V
    have TV5 := Lib.hid (show TS w V p F D by rw [← hV]; exact TV4.out.set (by omega) _)
    have VB := Lib.hid (show V.heap[B]? = some (.cells #[.int .i64 (vList v).k, .int .i64 (vList v).n, .string (vList v).s, .slice a4 (vList v).len c4] 24 (0, 0)) by rw [← hV]; exact four_set3 HB4.out _)
    have Z5 := Lib.hid (show V.heap[w.heap.size]? = some (.cells #[.int .i64 0, .int .i64 0, .string ⟨#[]⟩, .slice none 0 0] 24 (0, 0)) by rw [← hV, Below.heap_setCell _ ⟨B, 3, none⟩ _ _ (show w.heap.size ≠ B by omega)]; exact HZ4.out)
    have R5 := Lib.hid (show ReadsG (fun k => w.heap.size < k) V a4 (vList v).len (vList v).z from by first | exact zReads _ _ _ | (rw [← hV]; exact (RL.out.kept (kept_p w4 B 3 _) (fun k h e => by omega)).mono (fun k h _ => by omega)))
    clear hV x0 x1 x2 x3 f0 f1 f2 f3 HB4 HZ4 Z3 T3 HV3
    have OZ := Lib.hid (orZeroV2_any p F D (vList v) a4 c4 V TV5.out.d)
    clear TV4
    obtain ⟨⟨x0, x1, x2, x3⟩, -⟩ := four VB.out
    simp only [vList] at x0 x1 x2 x3 OZ
    go_wp2_with fail
    refine OZ.out.mono ?_
    rintro e w6 ⟨⟨X, Y, C, rfl, hX, hY⟩, hb⟩
    have T6 := Lib.hid (TV5.out.below hb)
    have Z6 := (hb.block _ (lt_of_block Z5.out)).trans Z5.out
    have R6 := Lib.hid (hY _ _ (R5.out.kept (keptNew hb) (fun _ _ h => h)))
    have HX := Lib.hid hX
    clear x0 x1 x2 x3 OZ hb hX hY
    obtain ⟨⟨x0, x1, x2, x3⟩, ⟨f0, f1, f2, f3⟩⟩ := four Z6
    clear Z6
    have P := Lib.hid (show TV w p F (orZ zA (dKind 3 D1)).1 (dKind 3 D1).2 (.returned (.agg #[.int .i64 X.k, .int .i64 X.n, .string X.s, .slice Y X.len C])) ((((w6.setCell ⟨w.heap.size, 0, none⟩ (.int .i64 X.k)).setCell ⟨w.heap.size, 1, none⟩ (.int .i64 X.n)).setCell ⟨w.heap.size, 2, none⟩ (.string X.s)).setCell ⟨w.heap.size, 3, none⟩ (.slice Y X.len C)) by
      rw [HK.out, show (orZ zA ((vList v), D)).1 = X from HX.out.symm]
      have T7 := own4 T6.out (Nat.le_refl _) (.int .i64 X.k) (.int .i64 X.n) (.string X.s) (.slice Y X.len C)
      exact ⟨⟨Y, C, rfl, (R6.out.kept (kept4 w6 w.heap.size _ _ _ _) (fun k h e => by omega)).mono (fun k h _ => by omega)⟩, T7.d, T7.k⟩)
    clear HX R6 T6 Z5 R5 TV5 VB HK
    go_wp2
    exact bodyPost_ret (v := .agg #[.int .i64 X.k, .int .i64 X.n, .string X.s, .slice Y X.len C]) (by simp [results, Try.results19, go_sem, *]) rfl P.out
  have e1 : (k == 1) = false := by simpa using h1
  have e2 : (k == 2) = false := by simpa using h2
  have e3 : (k == 3) = false := by simpa using h3
  have HK := Lib.hid (show dKind k D1 = (vNone k, D1) by unfold dKind; rw [if_neg h1, if_neg h2, if_neg h3])
  have TV4 := T3
  have TV5 := T3
  have VB := Lib.hid (show W3.heap[B]? = some (.cells #[.int .i64 (vNone k).k, .int .i64 (vNone k).n, .string (vNone k).s, .slice none (vNone k).len 0] 24 (0, 0)) from HV3.out)
  have Z5 := Z3
  have R5 := Lib.hid (show ReadsG (fun k => w.heap.size < k) W3 none (vNone k).len (vNone k).z from zReads _ _ _)
  clear h1 h2 h3 x0 x1 x2 x3 f0 f1 f2 f3 Z3 T3 HV3
  have OZ := Lib.hid (orZeroV2_any p F D1 (vNone k) none 0 W3 TV5.out.d)
  clear TV4
  obtain ⟨⟨x0, x1, x2, x3⟩, -⟩ := four VB.out
  simp only [vNone] at x0 x1 x2 x3 OZ
  go_wp2_with fail
  refine OZ.out.mono ?_
  rintro e w6 ⟨⟨X, Y, C, rfl, hX, hY⟩, hb⟩
  have T6 := Lib.hid (TV5.out.below hb)
  have Z6 := (hb.block _ (lt_of_block Z5.out)).trans Z5.out
  have R6 := Lib.hid (hY _ _ (R5.out.kept (keptNew hb) (fun _ _ h => h)))
  have HX := Lib.hid hX
  clear x0 x1 x2 x3 OZ hb hX hY
  obtain ⟨⟨x0, x1, x2, x3⟩, ⟨f0, f1, f2, f3⟩⟩ := four Z6
  clear Z6
  have P := Lib.hid (show TV w p F (orZ zA (dKind k D1)).1 (dKind k D1).2 (.returned (.agg #[.int .i64 X.k, .int .i64 X.n, .string X.s, .slice Y X.len C])) ((((w6.setCell ⟨w.heap.size, 0, none⟩ (.int .i64 X.k)).setCell ⟨w.heap.size, 1, none⟩ (.int .i64 X.n)).setCell ⟨w.heap.size, 2, none⟩ (.string X.s)).setCell ⟨w.heap.size, 3, none⟩ (.slice Y X.len C)) by
    rw [HK.out, show (orZ zA ((vNone k), D1)).1 = X from HX.out.symm]
    have T7 := own4 T6.out (Nat.le_refl _) (.int .i64 X.k) (.int .i64 X.n) (.string X.s) (.slice Y X.len C)
    exact ⟨⟨Y, C, rfl, (R6.out.kept (kept4 w6 w.heap.size _ _ _ _) (fun k h e => by omega)).mono (fun k h _ => by omega)⟩, T7.d, T7.k⟩)
  clear HX R6 T6 Z5 R5 TV5 VB HK
  go_wp2
  exact bodyPost_ret (v := .agg #[.int .i64 X.k, .int .i64 X.n, .string X.s, .slice Y X.len C]) (by simp [results, Try.results19, go_sem, *]) rfl P.out

end Go.Proofs.Ytfenfgbkphpboaa

namespace Go.Proofs.Ytfenfgbkphpboaa
open Go.RowKit

theorem orZeroS2_any (p : Nat) (F : Nat → Prop) (D : DS) (x : SD) (w : World) (h : DecH w p F D) :
    Calls Try.prog 47 #[.pointer (some ⟨p, 0, none⟩), .agg #[.int .i64 x.t, .int .i64 x.i, .int .i64 x.q, .string x.o]] w fun e w' => (∃ X : SD, e = .returned (.agg #[.int .i64 X.t, .int .i64 X.i, .int .i64 X.q, .string X.o]) ∧ X = (orZ zS (x, D)).1) ∧ Below w.heap.size w w' := by
  refine (orZeroS_any p F D x.t x.i x.q x.o w h).mono fun e w' ⟨he, hb⟩ => ⟨?_, hb⟩
  unfold orZ
  by_cases h0 : D.2 = 0
  · rw [if_pos h0] at he
    exact ⟨x, he, by rw [if_pos h0]⟩
  · rw [if_neg h0] at he
    exact ⟨zS, he, by rw [if_neg h0]⟩

set_option maxHeartbeats 8000000 in
set_option maxRecDepth 100000 in
theorem takeStamp_any (p : Nat) (F : Nat → Prop) (d : DS) (w : World) (hF : ∀ k, F k → k < w.heap.size) (h : DecH w p F d) :
    Calls Try.prog 20 #[.pointer (some ⟨p, 0, none⟩)] w fun e w' => e = .returned (.agg #[.int .i64 (dSt d).1.t, .int .i64 (dSt d).1.i, .int .i64 (dSt d).1.q, .string (dSt d).1.o]) ∧ DecH w' p F (dSt d).2 ∧ Kept (· = p) w w' := by
  have I0 := Lib.hid (fun d W (hd : DecH W p F d) => decInt_any p F d W hd)
  have X0 := Lib.hid (fun d W (hd : DecH W p F d) => decText_any p F d W hd)
  have hd2 : (dSt d).2 = (dText (d1 (d1 (d1 d)))).2 := orZ2 _ _
  have hd1 : (dSt d).1 = (orZ zS (⟨(dInt d).1, (dInt (d1 d)).1, (dInt (d1 (d1 d))).1, ⟨(dText (d1 (d1 (d1 d)))).1.toArray⟩⟩, (dText (d1 (d1 (d1 d)))).2)).1 := rfl
  obtain ⟨S, hS⟩ : ∃ S, (dSt d).1 = S := ⟨_, rfl⟩
  obtain ⟨D, hD⟩ : ∃ D, (dSt d).2 = D := ⟨_, rfl⟩
  rw [hS] at hd1
  rw [hD] at hd2
  rw [hS, hD]
  have HD2 := Lib.hid hd2
  have HD1 := Lib.hid hd1
  clear hd2 hd1 hS hD
  go_enter Try.func20, Try.ntmps20
  go_upto_region 1 with fail
  generalize hW : World.alloc w _ = W
  have T0 := Lib.hid (show TS w W p F d by rw [← hW]; exact (TS.start h hF).alloc _)
  have Z0 := Lib.hid (show W.heap[w.heap.size]? = some (.cells #[.int .i64 0, .int .i64 0, .int .i64 0, .string ⟨#[]⟩] 26 (0, 0)) by rw [← hW]; exact heap_alloc_new w _)
  clear hW h hF
  go_wp2_with fail
  refine (I0.out d W T0.out.d).mono ?_
  rintro e w2 ⟨rfl, hd, hk⟩
  have T2 := Lib.hid (T0.out.step hd hk)
  have Z2 := Lib.hid (T0.out.block hk (Nat.le_refl _) Z0.out)
  clear hd hk T0 Z0
  go_wp2_with fail
  refine (I0.out _ w2 T2.out.d).mono ?_
  rintro e w3 ⟨rfl, hd, hk⟩
  have T3 := Lib.hid (T2.out.step hd hk)
  have Z3 := Lib.hid (T2.out.block hk (Nat.le_refl _) Z2.out)
  clear hd hk T2 Z2
  go_wp2_with fail
  refine (I0.out _ w3 T3.out.d).mono ?_
  rintro e w4 ⟨rfl, hd, hk⟩
  have T4 := Lib.hid (T3.out.step hd hk)
  have Z4 := Lib.hid (T3.out.block hk (Nat.le_refl _) Z3.out)
  clear hd hk T3 Z3
  go_wp2_with fail
  refine (X0.out _ w4 T4.out.d).mono ?_
  rintro e w5 ⟨rfl, hd, hk⟩
  have T5 := Lib.hid (show TS w w5 p F D by rw [HD2.out]; exact T4.out.step hd hk)
  have Z5 := Lib.hid (T4.out.block hk (Nat.le_refl _) Z4.out)
  clear hd hk T4 Z4
  obtain ⟨s, hs⟩ : ∃ s : SD, s = ⟨(dInt d).1, (dInt (dInt d).2).1, (dInt (dInt (dInt d).2).2).1, ⟨(dText (dInt (dInt (dInt d).2).2).2).1.toArray⟩⟩ := ⟨_, rfl⟩
  have HS := Lib.hid (show S = (orZ zS (s, D)).1 by rw [HD1.out, HD2.out, hs]; rfl)
  rw [show (dInt d).1 = s.t by rw [hs], show (dInt (dInt d).2).1 = s.i by rw [hs], show (dInt (dInt (dInt d).2).2).1 = s.q by rw [hs], show (⟨(dText (dInt (dInt (dInt d).2).2).2).1.toArray⟩ : ByteArray) = s.o by rw [hs]]
  clear hs HD1 HD2 I0 X0
  go_upto_region 2 with fail
  generalize hW : World.alloc w5 _ = V
  have T6 := Lib.hid (show TS w V p F D by rw [← hW]; exact T5.out.alloc _)
  have Z6 := Lib.hid (show V.heap[w.heap.size]? = some (.cells #[.int .i64 0, .int .i64 0, .int .i64 0, .string ⟨#[]⟩] 26 (0, 0)) by rw [← hW]; exact ((below_new w5 _).block _ (lt_of_block Z5.out)).trans Z5.out)
  have VB : V.heap[w5.heap.size]? = some (.cells #[.int .i64 s.t, .int .i64 s.i, .int .i64 s.q, .string s.o] 26 (0, 0)) := by rw [← hW]; exact heap_alloc_new w5 _
  obtain ⟨⟨x0, x1, x2, x3⟩, -⟩ := four VB
  have OZ := Lib.hid (orZeroS2_any p F D s V T6.out.d)
  clear hW VB T5 Z5
  go_wp2_with fail
  refine OZ.out.mono ?_
  rintro e w7 ⟨⟨X, rfl, hX⟩, hb⟩
  have T7 := Lib.hid (T6.out.below hb)
  have Z7 := (hb.block _ (lt_of_block Z6.out)).trans Z6.out
  have HX := Lib.hid (show S = X by rw [HS.out, hX])
  clear x0 x1 x2 x3 OZ hb hX
  obtain ⟨⟨x0, x1, x2, x3⟩, ⟨f0, f1, f2, f3⟩⟩ := four Z7
  have T8 := own4 T7.out (Nat.le_refl _) (.int .i64 X.t) (.int .i64 X.i) (.int .i64 X.q) (.string X.o)
  have P := Lib.hid (And.intro T8.d T8.k)
  clear Z7 T8 T7 T6 Z6 HS
  go_wp2
  exact bodyPost_ret (v := .agg #[.int .i64 X.t, .int .i64 X.i, .int .i64 X.q, .string X.o]) (by simp [results, Try.results20, go_sem, *]) rfl ⟨by rw [HX.out], P.out.1, P.out.2⟩

theorem frz5 {w : World} {b : Nat} {v0 v1 v2 v3 v4 : Value} {t : TypeId} (h : w.heap[b]? = some (.cells #[v0, v1, v2, v3, v4] t (0, 0))) :
    w.frozen? ⟨b, 0, none⟩ = false ∧ w.frozen? ⟨b, 1, none⟩ = false ∧ w.frozen? ⟨b, 2, none⟩ = false ∧ w.frozen? ⟨b, 3, none⟩ = false ∧ w.frozen? ⟨b, 4, none⟩ = false := by
  refine ⟨?_, ?_, ?_, ?_, ?_⟩ <;> simp [World.frozen?, h]

/-- The five cells of an attribute, as a list. -/
def fiveC (x : AD) (y : Option Addr) (c : Nat) : List Value := [.string x.m, .int .i64 x.k, .int .i64 x.n, .string x.s, .slice y x.len c]
/-- An attribute made since w. -/
def TA (w : World) (p : Nat) (F : Nat → Prop) (x : AD) (d : DS) (e : Ending) (w' : World) : Prop :=
  (∃ y c, e = .returned (.agg #[.string x.m, .int .i64 x.k, .int .i64 x.n, .string x.s, .slice y x.len c]) ∧ ReadsG (fun k => w.heap.size ≤ k) w' y x.len x.z) ∧ DecH w' p F d ∧ Kept (· = p) w w'

theorem keptSet (w : World) (B o : Nat) (vs : List Value) : Kept (· = B) w (w.setCells B o vs) := kept_setCells B vs o w
theorem TS.sets {w0 w : World} {p : Nat} {F : Nat → Prop} {d : DS} (h : TS w0 w p F d) {B o : Nat} (hB : w0.heap.size ≤ B) (vs : List Value) : TS w0 (w.setCells B o vs) p F d :=
  h.own ((keptSet w B o vs).mono (fun k hk _ => by subst hk; exact hB))

set_option maxHeartbeats 8000000 in
set_option maxRecDepth 100000 in
theorem takeAttr_any (p : Nat) (F : Nat → Prop) (d : DS) (w : World) (hF : ∀ k, F k → k < w.heap.size) (h : DecH w p F d) :
    Calls Try.prog 49 #[.pointer (some ⟨p, 0, none⟩)] w (TA w p F (dAt d).1 (dAt d).2) := by
  have X0 := Lib.hid (fun d W (hd : DecH W p F d) => decText_any p F d W hd)
  have V0 := Lib.hid (fun W (hF : ∀ k, F k → k < W.heap.size) (hd : DecH W p F (dText d).2) => takeValue_any p F (dText d).2 W hF hd)
  have he : dAt d = (nmA (dText d).1 (dVal (dText d).2).1, (dVal (dText d).2).2) := rfl
  rw [he]
  obtain ⟨⟨s, D1⟩, hs⟩ : ∃ r, dText d = r := ⟨_, rfl⟩
  rw [hs] at V0 ⊢
  simp only at V0 ⊢
  have X1 := Lib.hid (fun W hd => X0.out d W hd)
  rw [hs] at X1
  obtain ⟨⟨x, D⟩, hx⟩ : ∃ r, dVal D1 = r := ⟨_, rfl⟩
  rw [hx] at V0 ⊢
  simp only at V0 ⊢
  obtain ⟨m0, xk, xn, xs, xl, xz⟩ := x
  clear hs hx he X0
  go_enter Try.func49, Try.ntmps49
  go_upto_region 1 with fail
  generalize hW : World.alloc w _ = W
  have T0 := Lib.hid (show TS w W p F d by rw [← hW]; exact (TS.start h hF).alloc _)
  have Z0 := Lib.hid (show W.heap[w.heap.size]? = some (.cells #[.string ⟨#[]⟩, .int .i64 0, .int .i64 0, .string ⟨#[]⟩, .slice none 0 0] 34 (0, 0)) by rw [← hW]; exact heap_alloc_new w _)
  clear hW h hF
  go_wp2_with fail
  refine (X1.out W T0.out.d).mono ?_
  rintro e w2 ⟨rfl, hd, hk⟩
  have T2 := Lib.hid (T0.out.step hd hk)
  have Z2 := Lib.hid (T0.out.block hk (Nat.le_refl _) Z0.out)
  clear hd hk T0 Z0 X1
  go_wp2_with fail
  refine (V0.out w2 (fun k hf => Nat.lt_of_lt_of_le (T2.out.f k hf) T2.out.k.size) T2.out.d).mono ?_
  rintro e w3 ⟨⟨y, c, rfl, hr⟩, hd, hk⟩
  have T3 := Lib.hid (T2.out.step hd hk)
  have Z3 := T2.out.block hk (Nat.le_refl _) Z2.out
  have hlt := lt_of_block Z2.out
  have R3 := Lib.hid (hr.mono (H := fun k => w.heap.size < k) (fun k h _ => by omega))
  obtain ⟨x0, x1, x2, x3, x4⟩ := box5 Z3
  obtain ⟨f0, f1, f2, f3, f4⟩ := frz5 Z3
  have P := Lib.hid (show TA w p F (nmA s ⟨m0, xk, xn, xs, xl, xz⟩) D (.returned (.agg #[.string ⟨s.toArray⟩, .int .i64 xk, .int .i64 xn, .string xs, .slice y xl c])) (((((w3.setCell ⟨w.heap.size, 0, none⟩ (.string ⟨s.toArray⟩)).setCell ⟨w.heap.size, 1, none⟩ (.int .i64 xk)).setCell ⟨w.heap.size, 2, none⟩ (.int .i64 xn)).setCell ⟨w.heap.size, 3, none⟩ (.string xs)).setCell ⟨w.heap.size, 4, none⟩ (.slice y xl c)) by
    have T7 := T3.out.sets (Nat.le_refl w.heap.size) (o := 0) [.string ⟨s.toArray⟩, .int .i64 xk, .int .i64 xn, .string xs, .slice y xl c]
    have K7 := keptSet w3 w.heap.size 0 [.string ⟨s.toArray⟩, .int .i64 xk, .int .i64 xn, .string xs, .slice y xl c]
    exact ⟨⟨y, c, rfl, (R3.out.kept K7 (fun k h e => by omega)).mono (fun k h _ => by omega)⟩, T7.d, T7.k⟩)
  clear hd hk hr T2 Z2 Z3 T3 R3 V0
  go_wp2
  exact bodyPost_ret (v := .agg #[.string ⟨s.toArray⟩, .int .i64 xk, .int .i64 xn, .string xs, .slice y xl c]) (by simp [results, Try.results49, go_sem, *]) rfl P.out

end Go.Proofs.Ytfenfgbkphpboaa

namespace Go.Proofs.Ytfenfgbkphpboaa
open Go.RowKit

theorem flat_len {α : Type} {f : α → List Value} {m : Nat} (hf : ∀ x, (f x).length = m) : ∀ l : List α, (l.flatMap f).length = l.length * m
  | [] => by simp
  | x :: l => by rw [List.flatMap_cons, List.length_append, hf, flat_len hf l, List.length_cons, Nat.succ_mul]; omega
theorem flat_at {α : Type} {f : α → List Value} {m : Nat} (hf : ∀ x, (f x).length = m) : ∀ (l : List α) {j i : Nat} (hj : j < l.length), i < m → (l.flatMap f)[j * m + i]? = (f l[j])[i]?
  | [], j, i, hj, _ => by simp at hj
  | x :: l, 0, i, _, hi => by rw [List.flatMap_cons, Nat.zero_mul, Nat.zero_add, List.getElem?_append_left (by rw [hf]; exact hi)]; rfl
  | x :: l, j + 1, i, hj, hi => by
    rw [List.flatMap_cons, List.getElem?_append_right (by rw [hf, Nat.succ_mul]; omega), hf, show (j + 1) * m + i - m = j * m + i by rw [Nat.succ_mul]; omega, flat_at hf l (by simpa using hj) hi]
    rfl

def fiveCT (t : AD × Option Addr × Nat) : List Value := fiveC t.1 t.2.1 t.2.2
theorem infoA : (Try.prog.info? 34).map (fun i => (i.zero, i.size, i.bytes)) = some (some (.agg #[.string ⟨#[]⟩, .int .i64 0, .int .i64 0, .string ⟨#[]⟩, .slice none 0 0]), 5, 72) := by kernel_rfl

set_option maxHeartbeats 8000000 in
set_option maxRecDepth 100000 in
theorem takeEachA_any (p : Nat) (F : Nat → Prop) (d : DS) (most : Nat) (hm : most ≤ 1000) (w : World) (hF : ∀ k, F k → k < w.heap.size) (h : DecH w p F d) :
    Calls Try.prog 48 #[.pointer (some ⟨p, 0, none⟩), .int .i64 (most : Nat), .func (.func 49) #[] #[]] w fun e w' =>
      (∃ a c, e = .returned (.slice a (dMany dAt (dNum 0 most d).1.toNat (dNum 0 most d).2).1.length c) ∧ ReadsAG (fun k => w.heap.size ≤ k) w' a (dMany dAt (dNum 0 most d).1.toNat (dNum 0 most d).2).1.length (atA (dMany dAt (dNum 0 most d).1.toNat (dNum 0 most d).2).1)) ∧
      DecH w' p F (dMany dAt (dNum 0 most d).1.toNat (dNum 0 most d).2).2 ∧ Kept (· = p) w w' := by
  obtain ⟨i0, hi0, hz0, hz1, hz2⟩ := info_parts infoA
  have und : Try.prog.underlying 27 = some (.slice 34) := Try.underlying27
  have MA := Lib.hid (decMany_any p F d (most : Nat) ⟨by omega, by omega⟩ w h)
  obtain ⟨hn0, hn1⟩ := dNum_in (most := (most : Nat)) (by omega) d
  obtain ⟨⟨N, d1⟩, hN⟩ : ∃ r, dNum 0 (most : Nat) d = r := ⟨_, rfl⟩
  rw [hN] at MA hn0 hn1
  rw [hN]
  simp only at hn0 hn1 ⊢
  obtain ⟨n, rfl⟩ := Int.eq_ofNat_of_zero_le hn0
  simp only [Int.toNat_natCast]
  rw [dMany_len]
  have T0 := Lib.hid (TS.start h hF)
  have hnm : n ≤ 1000 := by omega
  clear hN h hF hn0 hn1
  go_enter Try.func48, Try.ntmps48
  go_wp2_with fail
  refine MA.out.mono ?_
  rintro e w2 ⟨rfl, hd, hk⟩
  have T2 := Lib.hid (T0.out.step hd hk)
  clear hd hk T0
  go_wp2_with (at_make; refine wpList_make_full _ rfl _ _ 27 rfl 0 34 i0 (.agg #[.string ⟨#[]⟩, .int .i64 0, .int .i64 0, .string ⟨#[]⟩, .slice none 0 0]) 5 und hi0 hz0 hz1 .i64 .i64 _ _ n rfl rfl rfl rfl (by rw [hz2]; omega) (by unfold maxLen; omega) (Nat.zero_le _) ?_)
  intro w3 hown hgrow
  have G3 := Lib.hid (Fill.made hown)
  have T3 := Lib.hid (T2.out.own (w' := w3) ((Kept.refl _ w2).grown hgrow (fun k hk => by cases hk)))
  have hg : w.heap.size ≤ w2.heap.size := T2.out.k.size
  obtain ⟨g, hgg⟩ : ∃ g, w2.heap.size = g := ⟨_, rfl⟩
  rw [hgg] at G3 hg
  try rw [hgg]
  clear hown hgrow T2
  go_wp2_with fail
  go_loopw [15] (fun i wr => ∃ (k : Nat) (T : List (AD × Option Addr × Nat)), i = .int .i64 k ∧ k ≤ n ∧ T.length = k ∧ Hid (T.map (·.1) = (dMany dAt k d1).1) ∧ Hid (TS w wr p F (dMany dAt k d1).2) ∧ Hid (Fill wr g 34 5 n (T.flatMap fiveCT)) ∧ Hid (∀ t ∈ T, ReadsG (fun b => w.heap.size ≤ b ∧ b ≠ g) wr t.2.1 t.1.len t.1.z)) (fun i _ => n - (intOf i).toNat)
  case atStart => exact ⟨0, [], rfl, Nat.zero_le _, rfl, Lib.hid rfl, T3, G3, Lib.hid (fun t ht => by simp at ht)⟩
  case round =>
    obtain ⟨k, T, rfl, hk, hTl, hM, hT, hG, hR⟩ := hrel
    clear T3 G3
    by_cases hlt : k < n
    · have IN := Lib.hid (takeAttr_any p F _ wr (fun k hf => Nat.lt_of_lt_of_le (hT.out.f k hf) hT.out.k.size) hT.out.d)
      have hs := dMany_succ dAt k d1
      obtain ⟨⟨L, D⟩, hD⟩ : ∃ r, dMany dAt k d1 = r := ⟨_, rfl⟩
      rw [hD] at IN hs hT hM
      simp only at IN hs hT hM
      obtain ⟨⟨x, D2⟩, hv⟩ : ∃ r, dAt D = r := ⟨_, rfl⟩
      rw [hv] at IN hs
      have HS := Lib.hid hs
      clear hD hv hs
      go_wp2_with fail
      refine IN.out.mono ?_
      rintro e w4 ⟨⟨y, c, rfl, hr⟩, hd, hk4⟩
      have T4 := Lib.hid (hT.out.step hd hk4)
      have G4 := Lib.hid (hG.out.kept hk4 (fun e => by have := hT.out.lt; omega))
      have hgl := hG.out.lt
      have hwr := hT.out.k.size
      have K5 := keptSet w4 g (k * 5) [.string x.m, .int .i64 x.k, .int .i64 x.n, .string x.s, .slice y x.len c]
      have R4 := Lib.hid (show ∀ t ∈ T ++ [(x, y, c)], ReadsG (fun b => w.heap.size ≤ b ∧ b ≠ g) (((((w4.setCell ⟨g, k * 5, none⟩ (.string x.m)).setCell ⟨g, k * 5 + 1, none⟩ (.int .i64 x.k)).setCell ⟨g, k * 5 + 2, none⟩ (.int .i64 x.n)).setCell ⟨g, k * 5 + 3, none⟩ (.string x.s)).setCell ⟨g, k * 5 + 4, none⟩ (.slice y x.len c)) t.2.1 t.1.len t.1.z from fun t ht => by
        rcases List.mem_append.1 ht with ht | ht
        · exact ((hR.out t ht).kept hk4 (fun b hb e => by have := hT.out.lt; have := hb.1; omega)).kept K5 (fun b hb e => hb.2 e)
        · rw [List.mem_singleton] at ht
          subst ht
          exact ((hr.mono (H := fun b => w.heap.size ≤ b ∧ b ≠ g) (fun b hb _ => ⟨by omega, by omega⟩)).kept K5 (fun b hb e => hb.2 e)))
      obtain ⟨u0, c0, f0⟩ := G4.out.cell (j := k * 5) (by omega)
      obtain ⟨u1, c1, f1⟩ := G4.out.cell (j := k * 5 + 1) (by omega)
      obtain ⟨u2, c2, f2⟩ := G4.out.cell (j := k * 5 + 2) (by omega)
      obtain ⟨u3, c3, f3⟩ := G4.out.cell (j := k * 5 + 3) (by omega)
      obtain ⟨u4, c4, f4⟩ := G4.out.cell (j := k * 5 + 4) (by omega)
      have G5 := Lib.hid (show Fill (((((w4.setCell ⟨g, k * 5, none⟩ (.string x.m)).setCell ⟨g, k * 5 + 1, none⟩ (.int .i64 x.k)).setCell ⟨g, k * 5 + 2, none⟩ (.int .i64 x.n)).setCell ⟨g, k * 5 + 3, none⟩ (.string x.s)).setCell ⟨g, k * 5 + 4, none⟩ (.slice y x.len c)) g 34 5 n ((T ++ [(x, y, c)]).flatMap fiveCT) by
        rw [List.flatMap_append]
        have := G4.out.step (vs := [.string x.m, .int .i64 x.k, .int .i64 x.n, .string x.s, .slice y x.len c]) (k := k) (by rw [flat_len (m := 5) (fun t => rfl), hTl]) rfl hlt
        exact this)
      have T5 := Lib.hid (show TS w (((((w4.setCell ⟨g, k * 5, none⟩ (.string x.m)).setCell ⟨g, k * 5 + 1, none⟩ (.int .i64 x.k)).setCell ⟨g, k * 5 + 2, none⟩ (.int .i64 x.n)).setCell ⟨g, k * 5 + 3, none⟩ (.string x.s)).setCell ⟨g, k * 5 + 4, none⟩ (.slice y x.len c)) p F (dMany dAt (k + 1) d1).2 by rw [HS.out]; exact T4.out.sets (o := k * 5) hg [.string x.m, .int .i64 x.k, .int .i64 x.n, .string x.s, .slice y x.len c])
      have M5 := Lib.hid (show (T ++ [(x, y, c)]).map (·.1) = (dMany dAt (k + 1) d1).1 by rw [HS.out, List.map_append, hM.out]; rfl)
      clear hd hk4 IN hr hgl hwr K5 hR hM HS G4 T4 hG hT
      go_wp2_with fail
      go_roundw
      case rel => exact ⟨k + 1, T ++ [(x, y, c)], by go_num, by omega, by rw [List.length_append, hTl]; rfl, M5, T5, G5, R4⟩
      case measure => simp [intOf]; omega
    · obtain rfl : k = n := by omega
      have HL := dMany_len dAt k d1
      have R := Lib.hid (show ReadsAG (fun b => w.heap.size ≤ b) wr (some ⟨g, 0, none⟩) k (atA (dMany dAt k d1).1) from ⟨by unfold maxLen; omega, .inr ⟨g, 0, rfl, hg, fun j hj => by
        have hjT : j < T.length := by omega
        have e : atA (dMany dAt k d1).1 j = T[j].1 := by
          rw [← hM.out]
          unfold atA
          rw [List.getD_eq_getElem?_getD, List.getElem?_map, List.getElem?_eq_getElem hjT]
          rfl
        have hc : ∀ i u, i < 5 → (fiveCT T[j])[i]? = some u → wr.cell? ⟨g, 0 + j * 5 + i, none⟩ = some u := fun i u hi hu => by
          rw [Nat.zero_add]
          exact hG.out.at (by rw [flat_at (m := 5) (fun t => rfl) T hjT hi]; exact hu)
        rw [e]
        exact ⟨T[j].2.1, T[j].2.2, ⟨hc 0 _ (by omega) rfl, hc 1 _ (by omega) rfl, hc 2 _ (by omega) rfl, hc 3 _ (by omega) rfl, hc 4 _ (by omega) rfl⟩, (hR.out _ (List.getElem_mem hjT)).mono (fun b hb _ => hb.1)⟩⟩⟩)
      clear HL
      go_wp2_with fail
      go_ret
      exact ⟨⟨_, _, rfl, R.out⟩, hT.out.d, hT.out.k⟩

end Go.Proofs.Ytfenfgbkphpboaa

namespace Go.Proofs.Ytfenfgbkphpboaa
open Go.RowKit

def sixC (x : RD) (y : Option Addr) (c : Nat) : List Value := [.string x.key, .int .i64 x.t, .int .i64 x.i, .int .i64 x.q, .string x.o, .slice y x.len c]
theorem frz6 {w : World} {b : Nat} {v0 v1 v2 v3 v4 v5 : Value} {t : TypeId} (h : w.heap[b]? = some (.cells #[v0, v1, v2, v3, v4, v5] t (0, 0))) :
    w.frozen? ⟨b, 0, none⟩ = false ∧ w.frozen? ⟨b, 1, none⟩ = false ∧ w.frozen? ⟨b, 2, none⟩ = false ∧ w.frozen? ⟨b, 3, none⟩ = false ∧ w.frozen? ⟨b, 4, none⟩ = false ∧ w.frozen? ⟨b, 5, none⟩ = false := by
  refine ⟨?_, ?_, ?_, ?_, ?_, ?_⟩ <;> simp [World.frozen?, h]

/-- A row made since w. -/
def TR (w : World) (p : Nat) (F : Nat → Prop) (x : RD) (d : DS) (e : Ending) (w' : World) : Prop :=
  (∃ y c, e = .returned (.agg #[.string x.key, .int .i64 x.t, .int .i64 x.i, .int .i64 x.q, .string x.o, .slice y x.len c]) ∧ ReadsAG (fun k => w.heap.size ≤ k) w' y x.len x.A) ∧ DecH w' p F d ∧ Kept (· = p) w w'

theorem zReadsA (G : Nat → Prop) (w : World) (A : Nat → AD) : ReadsAG G w none 0 A := ⟨Nat.zero_le _, .inl rfl⟩

theorem orZeroR2_any (p : Nat) (F : Nat → Prop) (D : DS) (x : RD) (y : Option Addr) (c : Nat) (w : World) (h : DecH w p F D) :
    Calls Try.prog 50 #[.pointer (some ⟨p, 0, none⟩), .agg #[.string x.key, .int .i64 x.t, .int .i64 x.i, .int .i64 x.q, .string x.o, .slice y x.len c]] w fun e w' => (∃ X Y C, e = .returned (.agg #[.string X.key, .int .i64 X.t, .int .i64 X.i, .int .i64 X.q, .string X.o, .slice Y X.len C]) ∧ X = (orZ zR (x, D)).1 ∧ ∀ G w, ReadsAG G w y x.len x.A → ReadsAG G w Y X.len X.A) ∧ Below w.heap.size w w' := by
  refine (orZeroR_any p F D x.key x.t x.i x.q x.o y x.len c w h).mono fun e w' ⟨he, hb⟩ => ⟨?_, hb⟩
  unfold orZ
  by_cases h0 : D.2 = 0
  · rw [if_pos h0] at he
    exact ⟨x, y, c, he, by rw [if_pos h0], fun _ _ h => h⟩
  · rw [if_neg h0] at he
    exact ⟨zR, none, 0, he, by rw [if_neg h0], fun G w _ => zReadsA G w _⟩

set_option maxHeartbeats 8000000 in
set_option maxRecDepth 100000 in
theorem takeRow_any (p : Nat) (F : Nat → Prop) (d : DS) (w : World) (hF : ∀ k, F k → k < w.heap.size) (h : DecH w p F d) :
    Calls Try.prog 21 #[.pointer (some ⟨p, 0, none⟩)] w (TR w p F (dRow d).1 (dRow d).2) := by
  have X0 := Lib.hid (fun W (hd : DecH W p F d) => decText_any p F d W hd)
  have S0 := Lib.hid (fun W (hF : ∀ k, F k → k < W.heap.size) (hd : DecH W p F (dText d).2) => takeStamp_any p F (dText d).2 W hF hd)
  have E0 := Lib.hid (fun W (hF : ∀ k, F k → k < W.heap.size) (hd : DecH W p F (dSt (dText d).2).2) => takeEachA_any p F (dSt (dText d).2).2 32 (by omega) W hF hd)
  have hd2 : (dRow d).2 = (dAts (dSt (dText d).2).2).2 := orZ2 _ _
  have hd1 : (dRow d).1 = (orZ zR (rowOf (dText d).1 (dSt (dText d).2).1 (dAts (dSt (dText d).2).2).1, (dAts (dSt (dText d).2).2).2)).1 := rfl
  rw [hd2, hd1]
  obtain ⟨⟨s, D1⟩, hs⟩ : ∃ r, dText d = r := ⟨_, rfl⟩
  rw [hs] at X0 S0 E0 ⊢
  simp only at X0 S0 E0 ⊢
  obtain ⟨⟨st, D2⟩, hst⟩ : ∃ r, dSt D1 = r := ⟨_, rfl⟩
  rw [hst] at S0 E0 ⊢
  simp only at S0 E0 ⊢
  have he : dMany dAt (dNum 0 (32 : Nat) D2).1.toNat (dNum 0 (32 : Nat) D2).2 = dAts D2 := rfl
  rw [he] at E0
  obtain ⟨⟨L, D⟩, hL⟩ : ∃ r, dAts D2 = r := ⟨_, rfl⟩
  rw [hL] at E0 ⊢
  simp only at E0 ⊢
  obtain ⟨x, hx⟩ : ∃ x, rowOf s st L = x := ⟨_, rfl⟩
  have HX0 := Lib.hid (show (⟨s.toArray⟩ : ByteArray) = x.key ∧ st.t = x.t ∧ st.i = x.i ∧ st.q = x.q ∧ st.o = x.o ∧ L.length = x.len ∧ atA L = x.A by rw [← hx]; exact ⟨rfl, rfl, rfl, rfl, rfl, rfl, rfl⟩)
  rw [hx]
  clear hd2 hd1 hs hst he hL hx
  go_enter Try.func21, Try.ntmps21
  go_upto_region 1 with fail
  generalize hW : World.alloc w _ = W
  have T0 := Lib.hid (show TS w W p F d by rw [← hW]; exact (TS.start h hF).alloc _)
  have Z0 := Lib.hid (show W.heap[w.heap.size]? = some (.cells #[.string ⟨#[]⟩, .int .i64 0, .int .i64 0, .int .i64 0, .string ⟨#[]⟩, .slice none 0 0] 29 (0, 0)) by rw [← hW]; exact heap_alloc_new w _)
  clear hW h hF
  go_wp2_with fail
  refine (X0.out W T0.out.d).mono ?_
  rintro e w2 ⟨rfl, hd, hk⟩
  have T2 := Lib.hid (T0.out.step hd hk)
  have Z2 := Lib.hid (T0.out.block hk (Nat.le_refl _) Z0.out)
  clear hd hk T0 Z0 X0
  go_wp2_with fail
  refine (S0.out w2 (fun k hf => Nat.lt_of_lt_of_le (T2.out.f k hf) T2.out.k.size) T2.out.d).mono ?_
  rintro e w3 ⟨rfl, hd, hk⟩
  have T3 := Lib.hid (T2.out.step hd hk)
  have Z3 := Lib.hid (T2.out.block hk (Nat.le_refl _) Z2.out)
  clear hd hk T2 Z2 S0
  go_wp2_with fail
  refine (E0.out w3 (fun k hf => Nat.lt_of_lt_of_le (T3.out.f k hf) T3.out.k.size) T3.out.d).mono ?_
  rintro e w4 ⟨⟨y, c, rfl, hr⟩, hd, hk⟩
  have T4 := Lib.hid (T3.out.step hd hk)
  have Z4 := Lib.hid (T3.out.block hk (Nat.le_refl _) Z3.out)
  have hlt := lt_of_block Z3.out
  obtain ⟨hx1, hx2, hx3, hx4, hx5, hx6, hx7⟩ := HX0.out
  rw [hx6, hx7] at hr
  rw [hx1, hx2, hx3, hx4, hx5, hx6]
  have R4 := Lib.hid (hr.mono (H := fun k => w.heap.size < k) (fun k h _ => by omega))
  clear hd hk T3 Z3 E0 hr hx1 hx2 hx3 hx4 hx5 hx6 hx7 HX0
  go_upto_region 2 with fail
  generalize hW : World.alloc w4 _ = V
  have T6 := Lib.hid (show TS w V p F D by rw [← hW]; exact T4.out.alloc _)
  have Z6 := Lib.hid (show V.heap[w.heap.size]? = some (.cells #[.string ⟨#[]⟩, .int .i64 0, .int .i64 0, .int .i64 0, .string ⟨#[]⟩, .slice none 0 0] 29 (0, 0)) by rw [← hW]; exact ((below_new w4 _).block _ (lt_of_block Z4.out)).trans Z4.out)
  have VB : V.heap[w4.heap.size]? = some (.cells #[.string x.key, .int .i64 x.t, .int .i64 x.i, .int .i64 x.q, .string x.o, .slice y x.len c] 29 (0, 0)) := by rw [← hW]; exact heap_alloc_new w4 _
  have R6 := Lib.hid (show ReadsAG (fun k => w.heap.size < k) V y x.len x.A by rw [← hW]; exact R4.out.kept (keptNew (below_new w4 _)) (fun _ _ h => h))
  obtain ⟨x0, x1, x2, x3, x4, x5⟩ := box6 VB
  have OZ := Lib.hid (orZeroR2_any p F D x y c V T6.out.d)
  clear hW VB T4 Z4 R4
  go_wp2_with fail
  refine OZ.out.mono ?_
  rintro e w7 ⟨⟨X, Y, C, rfl, hX, hY⟩, hb⟩
  have T7 := Lib.hid (T6.out.below hb)
  have Z7 := (hb.block _ (lt_of_block Z6.out)).trans Z6.out
  have R7 := Lib.hid (hY _ _ (R6.out.kept (keptNew hb) (fun _ _ h => h)))
  have HX := Lib.hid hX
  clear x0 x1 x2 x3 x4 x5 OZ hb hX hY R6 T6 Z6
  obtain ⟨x0, x1, x2, x3, x4, x5⟩ := box6 Z7
  obtain ⟨f0, f1, f2, f3, f4, f5⟩ := frz6 Z7
  have P := Lib.hid (show TR w p F (orZ zR (x, D)).1 D (.returned (.agg #[.string X.key, .int .i64 X.t, .int .i64 X.i, .int .i64 X.q, .string X.o, .slice Y X.len C])) ((((((w7.setCell ⟨w.heap.size, 0, none⟩ (.string X.key)).setCell ⟨w.heap.size, 1, none⟩ (.int .i64 X.t)).setCell ⟨w.heap.size, 2, none⟩ (.int .i64 X.i)).setCell ⟨w.heap.size, 3, none⟩ (.int .i64 X.q)).setCell ⟨w.heap.size, 4, none⟩ (.string X.o)).setCell ⟨w.heap.size, 5, none⟩ (.slice Y X.len C)) by
    rw [← HX.out]
    have T8 := T7.out.sets (Nat.le_refl w.heap.size) (o := 0) [.string X.key, .int .i64 X.t, .int .i64 X.i, .int .i64 X.q, .string X.o, .slice Y X.len C]
    have K8 := keptSet w7 w.heap.size 0 [.string X.key, .int .i64 X.t, .int .i64 X.i, .int .i64 X.q, .string X.o, .slice Y X.len C]
    exact ⟨⟨Y, C, rfl, (R7.out.kept K8 (fun k h e => by omega)).mono (fun k h _ => by omega)⟩, T8.d, T8.k⟩)
  clear Z7 T7 R7 HX
  go_wp2
  exact bodyPost_ret (v := .agg #[.string X.key, .int .i64 X.t, .int .i64 X.i, .int .i64 X.q, .string X.o, .slice Y X.len C]) (by simp [results, Try.results21, go_sem, *]) rfl P.out

def sixCT (t : RD × Option Addr × Nat) : List Value := sixC t.1 t.2.1 t.2.2
theorem infoR : (Try.prog.info? 29).map (fun i => (i.zero, i.size, i.bytes)) = some (some (.agg #[.string ⟨#[]⟩, .int .i64 0, .int .i64 0, .int .i64 0, .string ⟨#[]⟩, .slice none 0 0]), 6, 80) := by kernel_rfl

set_option maxHeartbeats 8000000 in
set_option maxRecDepth 100000 in
theorem takeEachR_any (p : Nat) (F : Nat → Prop) (d : DS) (most : Nat) (hm : most ≤ 1000) (w : World) (hF : ∀ k, F k → k < w.heap.size) (h : DecH w p F d) :
    Calls Try.prog 80 #[.pointer (some ⟨p, 0, none⟩), .int .i64 (most : Nat), .func (.func 21) #[] #[]] w fun e w' =>
      (∃ a c, e = .returned (.slice a (dMany dRow (dNum 0 most d).1.toNat (dNum 0 most d).2).1.length c) ∧ ReadsRG (fun k => w.heap.size ≤ k) w' a (dMany dRow (dNum 0 most d).1.toNat (dNum 0 most d).2).1.length (atR (dMany dRow (dNum 0 most d).1.toNat (dNum 0 most d).2).1)) ∧
      DecH w' p F (dMany dRow (dNum 0 most d).1.toNat (dNum 0 most d).2).2 ∧ Kept (· = p) w w' := by
  obtain ⟨i0, hi0, hz0, hz1, hz2⟩ := info_parts infoR
  have und : Try.prog.underlying 73 = some (.slice 29) := Try.underlying73
  have MA := Lib.hid (decMany_any p F d (most : Nat) ⟨by omega, by omega⟩ w h)
  obtain ⟨hn0, hn1⟩ := dNum_in (most := (most : Nat)) (by omega) d
  obtain ⟨⟨N, d1⟩, hN⟩ : ∃ r, dNum 0 (most : Nat) d = r := ⟨_, rfl⟩
  rw [hN] at MA hn0 hn1
  rw [hN]
  simp only at hn0 hn1 ⊢
  obtain ⟨n, rfl⟩ := Int.eq_ofNat_of_zero_le hn0
  simp only [Int.toNat_natCast]
  rw [dMany_len]
  have T0 := Lib.hid (TS.start h hF)
  have hnm : n ≤ 1000 := by omega
  clear hN h hF hn0 hn1
  go_enter Try.func80, Try.ntmps80
  go_wp2_with fail
  refine MA.out.mono ?_
  rintro e w2 ⟨rfl, hd, hk⟩
  have T2 := Lib.hid (T0.out.step hd hk)
  clear hd hk T0
  go_wp2_with (at_make; refine wpList_make_full _ rfl _ _ 73 rfl 0 29 i0 (.agg #[.string ⟨#[]⟩, .int .i64 0, .int .i64 0, .int .i64 0, .string ⟨#[]⟩, .slice none 0 0]) 6 und hi0 hz0 hz1 .i64 .i64 _ _ n rfl rfl rfl rfl (by rw [hz2]; omega) (by unfold maxLen; omega) (Nat.zero_le _) ?_)
  intro w3 hown hgrow
  have G3 := Lib.hid (Fill.made hown)
  have T3 := Lib.hid (T2.out.own (w' := w3) ((Kept.refl _ w2).grown hgrow (fun k hk => by cases hk)))
  have hg : w.heap.size ≤ w2.heap.size := T2.out.k.size
  obtain ⟨g, hgg⟩ : ∃ g, w2.heap.size = g := ⟨_, rfl⟩
  rw [hgg] at G3 hg
  try rw [hgg]
  clear hown hgrow T2
  go_wp2_with fail
  go_loopw [15] (fun i wr => ∃ (k : Nat) (T : List (RD × Option Addr × Nat)), i = .int .i64 k ∧ k ≤ n ∧ T.length = k ∧ Hid (T.map (·.1) = (dMany dRow k d1).1) ∧ Hid (TS w wr p F (dMany dRow k d1).2) ∧ Hid (Fill wr g 29 6 n (T.flatMap sixCT)) ∧ Hid (∀ t ∈ T, ReadsAG (fun b => w.heap.size ≤ b ∧ b ≠ g) wr t.2.1 t.1.len t.1.A)) (fun i _ => n - (intOf i).toNat)
  case atStart => exact ⟨0, [], rfl, Nat.zero_le _, rfl, Lib.hid rfl, T3, G3, Lib.hid (fun t ht => by simp at ht)⟩
  case round =>
    obtain ⟨k, T, rfl, hk, hTl, hM, hT, hG, hR⟩ := hrel
    clear T3 G3
    by_cases hlt : k < n
    · have IN := Lib.hid (takeRow_any p F _ wr (fun k hf => Nat.lt_of_lt_of_le (hT.out.f k hf) hT.out.k.size) hT.out.d)
      have hs := dMany_succ dRow k d1
      obtain ⟨⟨L, D⟩, hD⟩ : ∃ r, dMany dRow k d1 = r := ⟨_, rfl⟩
      rw [hD] at IN hs hT hM
      simp only at IN hs hT hM
      obtain ⟨⟨x, D2⟩, hv⟩ : ∃ r, dRow D = r := ⟨_, rfl⟩
      rw [hv] at IN hs
      have HS := Lib.hid hs
      clear hD hv hs
      go_wp2_with fail
      refine IN.out.mono ?_
      rintro e w4 ⟨⟨y, c, rfl, hr⟩, hd, hk4⟩
      have T4 := Lib.hid (hT.out.step hd hk4)
      have G4 := Lib.hid (hG.out.kept hk4 (fun e => by have := hT.out.lt; omega))
      have hgl := hG.out.lt
      have hwr := hT.out.k.size
      have K5 := keptSet w4 g (k * 6) [.string x.key, .int .i64 x.t, .int .i64 x.i, .int .i64 x.q, .string x.o, .slice y x.len c]
      have R4 := Lib.hid (show ∀ t ∈ T ++ [(x, y, c)], ReadsAG (fun b => w.heap.size ≤ b ∧ b ≠ g) ((((((w4.setCell ⟨g, k * 6, none⟩ (.string x.key)).setCell ⟨g, k * 6 + 1, none⟩ (.int .i64 x.t)).setCell ⟨g, k * 6 + 2, none⟩ (.int .i64 x.i)).setCell ⟨g, k * 6 + 3, none⟩ (.int .i64 x.q)).setCell ⟨g, k * 6 + 4, none⟩ (.string x.o)).setCell ⟨g, k * 6 + 5, none⟩ (.slice y x.len c)) t.2.1 t.1.len t.1.A from fun t ht => by
        rcases List.mem_append.1 ht with ht | ht
        · exact ((hR.out t ht).kept hk4 (fun b hb e => by have := hT.out.lt; have := hb.1; omega)).kept K5 (fun b hb e => hb.2 e)
        · rw [List.mem_singleton] at ht
          subst ht
          exact ((hr.mono (H := fun b => w.heap.size ≤ b ∧ b ≠ g) (fun b hb _ => ⟨by omega, by omega⟩)).kept K5 (fun b hb e => hb.2 e)))
      obtain ⟨u0, c0, f0⟩ := G4.out.cell (j := k * 6) (by omega)
      obtain ⟨u1, c1, f1⟩ := G4.out.cell (j := k * 6 + 1) (by omega)
      obtain ⟨u2, c2, f2⟩ := G4.out.cell (j := k * 6 + 2) (by omega)
      obtain ⟨u3, c3, f3⟩ := G4.out.cell (j := k * 6 + 3) (by omega)
      obtain ⟨u4, c4, f4⟩ := G4.out.cell (j := k * 6 + 4) (by omega)
      obtain ⟨u5, c5, f5⟩ := G4.out.cell (j := k * 6 + 5) (by omega)
      have G5 := Lib.hid (show Fill ((((((w4.setCell ⟨g, k * 6, none⟩ (.string x.key)).setCell ⟨g, k * 6 + 1, none⟩ (.int .i64 x.t)).setCell ⟨g, k * 6 + 2, none⟩ (.int .i64 x.i)).setCell ⟨g, k * 6 + 3, none⟩ (.int .i64 x.q)).setCell ⟨g, k * 6 + 4, none⟩ (.string x.o)).setCell ⟨g, k * 6 + 5, none⟩ (.slice y x.len c)) g 29 6 n ((T ++ [(x, y, c)]).flatMap sixCT) by
        rw [List.flatMap_append]
        have := G4.out.step (vs := [.string x.key, .int .i64 x.t, .int .i64 x.i, .int .i64 x.q, .string x.o, .slice y x.len c]) (k := k) (by rw [flat_len (m := 6) (fun t => rfl), hTl]) rfl hlt
        exact this)
      have T5 := Lib.hid (show TS w ((((((w4.setCell ⟨g, k * 6, none⟩ (.string x.key)).setCell ⟨g, k * 6 + 1, none⟩ (.int .i64 x.t)).setCell ⟨g, k * 6 + 2, none⟩ (.int .i64 x.i)).setCell ⟨g, k * 6 + 3, none⟩ (.int .i64 x.q)).setCell ⟨g, k * 6 + 4, none⟩ (.string x.o)).setCell ⟨g, k * 6 + 5, none⟩ (.slice y x.len c)) p F (dMany dRow (k + 1) d1).2 by rw [HS.out]; exact T4.out.sets (o := k * 6) hg [.string x.key, .int .i64 x.t, .int .i64 x.i, .int .i64 x.q, .string x.o, .slice y x.len c])
      have M5 := Lib.hid (show (T ++ [(x, y, c)]).map (·.1) = (dMany dRow (k + 1) d1).1 by rw [HS.out, List.map_append, hM.out]; rfl)
      clear hd hk4 IN hr hgl hwr K5 hR hM HS G4 T4 hG hT
      go_wp2_with fail
      go_roundw
      case rel => exact ⟨k + 1, T ++ [(x, y, c)], by go_num, by omega, by rw [List.length_append, hTl]; rfl, M5, T5, G5, R4⟩
      case measure => simp [intOf]; omega
    · obtain rfl : k = n := by omega
      have HL := dMany_len dRow k d1
      have R := Lib.hid (show ReadsRG (fun b => w.heap.size ≤ b) wr (some ⟨g, 0, none⟩) k (atR (dMany dRow k d1).1) from ⟨by unfold maxLen; omega, .inr ⟨g, 0, rfl, hg, fun j hj => by
        have hjT : j < T.length := by omega
        have e : atR (dMany dRow k d1).1 j = T[j].1 := by
          rw [← hM.out]
          unfold atR
          rw [List.getD_eq_getElem?_getD, List.getElem?_map, List.getElem?_eq_getElem hjT]
          rfl
        have hc : ∀ i u, i < 6 → (sixCT T[j])[i]? = some u → wr.cell? ⟨g, 0 + j * 6 + i, none⟩ = some u := fun i u hi hu => by
          rw [Nat.zero_add]
          exact hG.out.at (by rw [flat_at (m := 6) (fun t => rfl) T hjT hi]; exact hu)
        rw [e]
        exact ⟨T[j].2.1, T[j].2.2, ⟨hc 0 _ (by omega) rfl, hc 1 _ (by omega) rfl, hc 2 _ (by omega) rfl, hc 3 _ (by omega) rfl, hc 4 _ (by omega) rfl, hc 5 _ (by omega) rfl⟩, (hR.out _ (List.getElem_mem hjT)).mono (fun b hb _ => hb.1)⟩⟩⟩)
      clear HL
      go_wp2_with fail
      go_ret
      exact ⟨⟨_, _, rfl, R.out⟩, hT.out.d, hT.out.k⟩

set_option maxHeartbeats 2000000 in
theorem takeRows_any (p : Nat) (F : Nat → Prop) (d : DS) (w : World) (hF : ∀ k, F k → k < w.heap.size) (h : DecH w p F d) :
    Calls Try.prog 65 #[.pointer (some ⟨p, 0, none⟩)] w fun e w' => (∃ a c, e = .returned (.slice a (dRows d).1.length c) ∧ ReadsRG (fun k => w.heap.size ≤ k) w' a (dRows d).1.length (atR (dRows d).1)) ∧ DecH w' p F (dRows d).2 ∧ Kept (· = p) w w' := by
  have C := Lib.hid (takeEachR_any p F d 64 (by omega) w hF h)
  have e : dMany dRow (dNum 0 (64 : Nat) d).1.toNat (dNum 0 (64 : Nat) d).2 = dRows d := rfl
  rw [e] at C
  obtain ⟨⟨L, D⟩, hD⟩ : ∃ r, dRows d = r := ⟨_, rfl⟩
  rw [hD] at C ⊢
  clear h hF e hD
  go_enter Try.func65, Try.ntmps65
  go_wp2_with fail
  refine C.out.mono ?_
  rintro e w2 ⟨⟨a, c, rfl, hr⟩, hd, hk⟩
  have P := Lib.hid (And.intro hr (And.intro hd hk))
  clear hr hd hk
  go_wp2_with fail
  go_ret
  exact ⟨⟨a, c, rfl, P.out.1⟩, P.out.2.1, P.out.2.2⟩

end Go.Proofs.Ytfenfgbkphpboaa
