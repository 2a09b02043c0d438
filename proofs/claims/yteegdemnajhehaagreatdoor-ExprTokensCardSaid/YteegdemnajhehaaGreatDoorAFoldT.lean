/-
  No statement: the fold that writes; Check, Text.
-/
import Derived.Test.YteegdemnajhehaaGreatDoorAFoldE
import Derived.Test.YteegdemnajhehaaGreatDoorAText
import Derived.Test.YteegdemnajhehaaGreatDoorShelf
import Derived.Test.YteegdemnajhehaaGreatDoorAApp
namespace Go.Proofs.YteegdemnajhehaaGreatDoor
open Go.RowKit

theorem infoT : (Tryz.prog.info? 9).map (fun i => (i.zero, i.size, i.bytes)) = some (some (.string ⟨#[]⟩), 1, 16) := by kernel_rfl

/-- The table of powers. -/
def LaidT (w : World) : Prop := ∃ t f, w.heap[0]? = some (.cells (Lib.pow10Tab.map fun z => Value.int .u64 z).toArray t f)

theorem format_any (n : Int) (h0 : -9223372036854775808 ≤ n) (h1 : n ≤ 9223372036854775807) (w : World) (hw : LaidT w) :
    Calls Tryz.prog 71 #[.int .i64 n, .int .i64 10] w fun e w' => e = .returned (.string ⟨(Lib.itoa n).toArray⟩) ∧ Below w.heap.size w w' := by
  obtain ⟨t, f, h2⟩ := hw
  refine (Tryz.strconv_FormatInt_10 n h0 h1 w (var_of (by kernel_rfl) h2)).mono ?_
  rintro e w' ⟨rfl, k, os, rfl⟩
  exact ⟨rfl, Lib.below_grow _ _ (Nat.le_refl _) _ _⟩

/-- Trees that may be, by their shape. -/
inductive OkI : TN → Prop
  | num (o m : ByteArray) (n : Int) : isNum o = true → 0 ≤ n → n ≤ 9223372036854775807 → OkI ⟨o, m, n, .nil⟩
  | name (o m : ByteArray) (n : Int) : isNum o = false → isName o = true → goodB m.data.toList = true → OkI ⟨o, m, n, .nil⟩
  | neg (o m : ByteArray) (n : Int) (a : TN) : isNum o = false → isName o = false → isNeg o = true → OkI a → OkI ⟨o, m, n, a.f⟩
  | two (o m : ByteArray) (n : Int) (a b : TN) : isNum o = false → isName o = false → isNeg o = false → isTwo o = true → OkI a → OkI b → OkI ⟨o, m, n, .cons a.op a.nm a.n a.ks b.f⟩

theorem okI_of (t : TN) (h : OkT t) (hn : NumsF t.f) : OkI t :=
  tree_induct1 (P := OkI) (fun o m n a b c => .num o m n a b c) (fun o m n a b c => .name o m n a b c) (fun o m n t a b c ih => .neg o m n t a b c ih) (fun o m n t u a b c d ih iu => .two o m n t u a b c d ih iu) t h hn

def PreT (t : TN) : Prop := OkI t ∧ (textE t).length ≤ 4000
theorem preT2 {t t2 : TN} {j : Nat} (h : PreT t) (hj : t.ks.at j = some t2) : PreT t2 := by
  obtain ⟨h, hl⟩ := h
  cases h with
  | num o m n _ _ _ => cases hj
  | name o m n _ _ _ => cases hj
  | neg o m n a h1 h2 h3 h4 =>
    match j, hj with
    | 0, hj =>
      have : a = t2 := Option.some.inj hj
      subst this
      rw [(text_neg a h1 h2 h3).1, List.length_cons] at hl
      exact ⟨h4, by omega⟩
    | j + 1, hj => cases hj
  | two o m n a b h1 h2 h3 h4 h5 h6 =>
    rw [(text_two a b h1 h2 h3).1] at hl
    simp only [List.length_cons, List.length_append, List.length_nil] at hl
    match j, hj with
    | 0, hj =>
      have : a = t2 := Option.some.inj hj
      subst this
      exact ⟨h5, by omega⟩
    | 1, hj =>
      have : b = t2 := Option.some.inj hj
      subst this
      exact ⟨h6, by omega⟩
    | j + 2, hj => cases hj

def WdT (lb : Nat) (w : World) : Prop := LaidT w ∧ lb ≠ 0
theorem wdT {w w' : World} {lb : Nat} (h : WdT lb w) (hk : Kept (· = lb) w w') : WdT lb w' := by
  obtain ⟨⟨t, f, h1⟩, h2⟩ := h
  exact ⟨⟨t, f, hk.heap h1 (fun e => h2 e.symm)⟩, h2⟩
def ResT (_ : Nat → Prop) (_ : World) (t : TN) (v : Value) : Prop := v = .string ⟨(textE t).toArray⟩
theorem resT_imp {G H : Nat → Prop} {w : World} {t : TN} {v : Value} (h : ResT G w t v) (_ : ∀ b, b < w.heap.size → G b → H b) : ResT H w t v := h
theorem resT_keptS {S G : Nat → Prop} {w w' : World} {t : TN} {v : Value} (h : ResT G w t v) (_ : Kept S w w') (_ : ∀ k, S k → ¬ G k) : ResT G w' t v := h
theorem shapeT {G : Nat → Prop} {w : World} {t : TN} {v : Value} (h : ResT G w t v) : ∃ z, v = .string z := ⟨_, h⟩
theorem oneT {G : Nat → Prop} {w : World} {t : TN} {v : Value} (h : ResT G w t v) : v.oneCell' = true := by rw [h]; rfl

set_option maxHeartbeats 8000000 in
theorem ofT_any (t : TN) (w : World) (G : Nat → Prop) (a : Option Addr) (c : Nat) (va : Option Addr) (vc : Nat) (vs : List Value) (base : Nat) (hpre : PreT t) {lb : Nat} (hwd : WdT lb w) (_ : ReadsN G w a t.ks) (ho : w.ownsRow base 9 1 (.slice va t.ks.len vc) t.ks.len vs)
    (hv : ∀ j t2, t.ks.at j = some t2 → ∃ v, vs[j]? = some v ∧ ResT (fun b => base ≤ b ∧ (Value.slice va t.ks.len vc).ownBlock ≠ some b) w t2 v) :
    Calls Tryz.prog 45 #[nodeV t.op t.nm t.n a t.ks.len c, .slice va t.ks.len vc] w fun e w' => ∃ v, e = .returned v ∧ ResT (fun b => w.heap.size ≤ b) w' t v ∧ Below w.heap.size w w' := by
  have BA := (Below.refl w.heap.size w).alloc (Nat.le_refl _) (ndG t.op t.nm t.n a t.ks.len c)
  have NB := heap_alloc_new w (ndG t.op t.nm t.n a t.ks.len c)
  have O1 := Lib.hid (owns_below ho BA)
  have LT : LaidT (w.alloc (ndG t.op t.nm t.n a t.ks.len c)) := by
    obtain ⟨⟨t', f, h1⟩, _⟩ := hwd
    exact ⟨t', f, (BA.block _ (Array.getElem?_eq_some_iff.1 h1).1).trans h1⟩
  generalize hW : w.alloc (ndG t.op t.nm t.n a t.ks.len c) = W at BA NB O1 LT
  have HW := Lib.hid hW
  have HB := Lib.hid BA
  have HLT := Lib.hid LT
  have hzw := BA.size
  have KO := Lib.hid (fun w => kidsOf_any t.op w)
  have P := Lib.hid (p := ∀ s : ByteArray, s = ⟨(textE t).toArray⟩ → ∀ W', Below w.heap.size w W' → ∃ v, Ending.returned (.string s) = .returned v ∧ ResT (fun b => w.heap.size ≤ b) W' t v ∧ Below w.heap.size w W') (fun s hs W' hb => ⟨_, rfl, by rw [hs]; rfl, hb⟩)
  obtain ⟨hi, hl⟩ := hpre
  clear hW BA ho LT hwd
  cases hi with
  | num o m n h1 h0 h9 =>
    have g1 := op_yes h1
    unfold bNum at g1
    have ha : arity o = 0 := by unfold arity; rw [h1]; rfl
    have hE := (text_num (m := m) (n := n) (ks := .nil) h1).1
    have C := Lib.hid (format_any n (by omega) h9 W HLT.out)
    have P2 := Lib.hid (P.out ⟨(Lib.itoa n).toArray⟩ (by rw [hE]))
    obtain ⟨⟨m0, m1, m2, m3⟩, -⟩ := four NB
    dsimp only at *
    rw [ha] at KO
    rw [show F.nil.len = 0 from rfl] at *
    clear P hE ha h1 h0 h9 hl hv NB
    go_enter Tryz.func45, Tryz.ntmps45
    go_upto_region 1 with fail
    rw [HW.out]
    go_upto_region 5 with (go_at_call 68; refine (KO.out _).mono ?_; rintro e w' ⟨rfl, rfl⟩)
    go_wp2_with fail
    refine C.out.mono ?_
    rintro e w1 ⟨rfl, hb⟩
    have P3 := Lib.hid (P2.out w1 (HB.out.trans (hb.mono hzw)))
    clear hb
    go_wp2_with fail
    go_ret
    exact P3.out
  | name o m n h1 h2 h3 =>
    have g1 := op_not h1
    have g2 := op_yes h2
    unfold bNum at g1
    unfold bName at g2
    have ha : arity o = 0 := by unfold arity; rw [h1, h2]; rfl
    have hE := (text_name (m := m) (n := n) (ks := .nil) h1 h2).1
    have P2 := Lib.hid (P.out m (by rw [hE]) W HB.out)
    obtain ⟨⟨m0, m1, m2, m3⟩, -⟩ := four NB
    dsimp only at *
    rw [ha] at KO
    rw [show F.nil.len = 0 from rfl] at *
    clear P hE ha h1 h2 h3 hl hv NB
    go_enter Tryz.func45, Tryz.ntmps45
    go_upto_region 1 with fail
    rw [HW.out]
    go_wp2_with (go_at_call 68; refine (KO.out _).mono ?_; rintro e w' ⟨rfl, rfl⟩)
    go_ret
    exact P2.out
  | neg o m n t1 h1 h2 h3 h4 =>
    have g1 := op_not h1
    have g2 := op_not h2
    have g3 := op_yes h3
    unfold bNum at g1
    unfold bName at g2
    unfold bNeg at g3
    have ha : arity o = 1 := by unfold arity; rw [h1, h2, h3]; rfl
    have hE := (text_neg (m := m) (n := n) t1 h1 h2 h3).1
    rw [hE, List.length_cons] at hl
    obtain ⟨v, hv0, hvr⟩ := hv 0 t1 rfl
    unfold ResT at hvr
    subst hvr
    obtain ⟨g, cc, hva, -, -, hcs⟩ := own_full O1.out (by show (1 : Nat) ≠ 0; decide)
    have hx := hcs 0 _ hv0
    obtain ⟨S, hS⟩ : ∃ S : ByteArray, ⟨(textE t1).toArray⟩ = S := ⟨_, rfl⟩
    have hSz : S.size ≤ 4000 := by rw [← hS]; show (textE t1).toArray.size ≤ _; rw [List.size_toArray]; omega
    have P2 := Lib.hid (P.out (⟨#[45]⟩ ++ S) (by rw [hE, ← hS]; exact text_eq (by simp)) W HB.out)
    rw [hS] at hx
    obtain ⟨⟨m0, m1, m2, m3⟩, -⟩ := four NB
    dsimp only at *
    rw [ha] at KO
    have h1l : t1.f.len = 1 := rfl
    rw [h1l] at HW m3 hva ⊢
    simp only [Value.slice.injEq, true_and] at hva
    obtain ⟨rfl, rfl⟩ := hva
    clear P hE ha h1 h2 h3 h4 hl hv NB hv0 hcs hS h1l
    go_enter Tryz.func45, Tryz.ntmps45
    go_upto_region 1 with fail
    rw [HW.out]
    go_wp2_with (go_at_call 68; refine (KO.out _).mono ?_; rintro e w' ⟨rfl, rfl⟩)
    go_ret
    exact P2.out
  | two o m n t1 t2 h1 h2 h3 h4 h5 h6 =>
    have g1 := op_not h1
    have g2 := op_not h2
    have g3 := op_not h3
    unfold bNum at g1
    unfold bName at g2
    unfold bNeg at g3
    have ha : arity o = 2 := by unfold arity; rw [h1, h2, h3, h4]; rfl
    have hos : o.size = 1 := by
      obtain ⟨_, x, hx, _⟩ := two_sign h4
      have : o.data.toList.length = 1 := by rw [hx]; rfl
      rw [← this]; simp
    have hE := (text_two (m := m) (n := n) t1 t2 h1 h2 h3).1
    rw [hE] at hl
    simp only [List.length_cons, List.length_append, List.length_nil] at hl
    obtain ⟨v, hv0, hvr⟩ := hv 0 t1 rfl
    unfold ResT at hvr
    subst hvr
    obtain ⟨u, hu0, hur⟩ := hv 1 t2 rfl
    unfold ResT at hur
    subst hur
    obtain ⟨g, cc, hva, -, -, hcs⟩ := own_full O1.out (by show (2 : Nat) ≠ 0; decide)
    have hx := hcs 0 _ hv0
    have hy := hcs 1 _ hu0
    obtain ⟨S, hS⟩ : ∃ S : ByteArray, ⟨(textE t1).toArray⟩ = S := ⟨_, rfl⟩
    obtain ⟨V, hV⟩ : ∃ S : ByteArray, ⟨(textE t2).toArray⟩ = S := ⟨_, rfl⟩
    have hSz : S.size ≤ 4000 := by rw [← hS]; show (textE t1).toArray.size ≤ _; rw [List.size_toArray]; omega
    have hVz : V.size ≤ 4000 := by rw [← hV]; show (textE t2).toArray.size ≤ _; rw [List.size_toArray]; omega
    have P2 := Lib.hid (P.out (⟨#[40]⟩ ++ S ++ ⟨#[32]⟩ ++ o ++ ⟨#[32]⟩ ++ V ++ ⟨#[41]⟩) (by rw [hE, ← hS, ← hV]; exact text_eq (by simp)))
    have P3 := Lib.hid (fun n => P2.out (W.drewN n) ⟨HB.out.os, HB.out.tape, HB.out.output, HB.out.size, HB.out.block⟩)
    rw [hS] at hx
    rw [hV] at hy
    have z1 : (9223372036854775807 < 1 + S.size) = False := by rw [eq_iff_iff, iff_false]; omega
    have z2 : (9223372036854775807 < 1 + S.size + 1) = False := by rw [eq_iff_iff, iff_false]; omega
    have z3 : (9223372036854775807 < 1 + S.size + 1 + o.size) = False := by rw [eq_iff_iff, iff_false]; omega
    have z4 : (9223372036854775807 < 1 + S.size + 1 + o.size + 1) = False := by rw [eq_iff_iff, iff_false]; omega
    have z5 : (9223372036854775807 < 1 + S.size + 1 + o.size + 1 + V.size) = False := by rw [eq_iff_iff, iff_false]; omega
    have z6 : (9223372036854775807 < 1 + S.size + 1 + o.size + 1 + V.size + 1) = False := by rw [eq_iff_iff, iff_false]; omega
    obtain ⟨⟨m0, m1, m2, m3⟩, -⟩ := four NB
    dsimp only at *
    rw [ha] at KO
    have h1l : (F.cons t1.op t1.nm t1.n t1.ks t2.f).len = 2 := rfl
    rw [h1l] at HW m3 hva ⊢
    simp only [Value.slice.injEq, true_and] at hva
    obtain ⟨rfl, rfl⟩ := hva
    clear P P2 hE ha h1 h2 h3 h4 h5 h6 hl hv NB hv0 hu0 hcs hS hV h1l hos
    go_enter Tryz.func45, Tryz.ntmps45
    go_upto_region 1 with fail
    rw [HW.out]
    go_upto_region 10 with (go_at_call 68; refine (KO.out _).mono ?_; rintro e w' ⟨rfl, rfl⟩)
    go_wp2_with (go_quiet (fail))
    go_ret
    exact P3.out _

end Go.Proofs.YteegdemnajhehaaGreatDoor

namespace Go.Proofs.YteegdemnajhehaaGreatDoor
open Go.RowKit

/-- What foldWithin does at a tree. -/
def FoldT (t : TN) : Prop := ∀ (G : Nat → Prop) (lb : Nat) (w : World) (a : Option Addr) (c l : Nat), l ≤ 1000 → PreT t → (∀ b, G b → b ≠ lb) → WdT lb w → ReadsN G w a t.ks → w.heap[lb]? = some (.cells #[.int .i64 l] 3 (0, 0)) →
  Calls Tryz.prog 70 #[.pointer (some ⟨lb, 0, none⟩), nodeV t.op t.nm t.n a t.ks.len c, .func (.func 45) #[] #[]] w fun e w' => Kept (· = lb) w w' ∧
    (sizeT t ≤ l → ∃ v, e = .returned (.tuple #[v, .bool true]) ∧ ResT (fun b => w.heap.size ≤ b) w' t v) ∧
    (sizeT t ≤ l → w'.heap[lb]? = some (.cells #[.int .i64 ((l - sizeT t : Nat) : Int)] 3 (0, 0))) ∧
    (¬ sizeT t ≤ l → e = .returned (.tuple #[.string ⟨#[]⟩, .bool false]))

set_option maxHeartbeats 8000000 in
set_option maxRecDepth 100000 in
theorem foldT_step (t : TN) (ih : EachF FoldT t.ks) : FoldT t := by
  intro G lb w a c l hl hpre hG hwd hr hlb
  obtain ⟨i0, hi, hz0, hz1, hz2⟩ := info_parts infoT
  have und : Tryz.prog.underlying 52 = some (.slice 9) := Tryz.underlying52
  have hlt := (Array.getElem?_eq_some_iff.1 hlb).1
  have IH := Lib.hid ih
  have R := Lib.hid hr
  have PRE := Lib.hid hpre
  have HG := Lib.hid hG
  have WD := Lib.hid hwd
  have BA := (Below.refl w.heap.size w).alloc (Nat.le_refl _) (ndG t.op t.nm t.n a t.ks.len c)
  have NB := heap_alloc_new w (ndG t.op t.nm t.n a t.ks.len c)
  have LB1 := (BA.block lb hlt).trans hlb
  have hs0 : (w.alloc (ndG t.op t.nm t.n a t.ks.len c)).heap.size = w.heap.size + 1 := World.size_alloc _ _
  generalize hW : w.alloc (ndG t.op t.nm t.n a t.ks.len c) = W at BA NB LB1 hs0
  have HW := Lib.hid hW
  have hsize : sizeT t = 1 + sizeF t.ks := rfl
  have hlen := len_size t.ks
  have K1 := (kept_below BA (· = lb)).setCell (p := ⟨lb, 0, none⟩) (.inl rfl) (.int .i64 ((l : Int) - 1))
  have LB2 := one_set LB1 (.int .i64 ((l : Int) - 1))
  have NB2 := ((Kept.refl (· = lb) W).setCell (p := ⟨lb, 0, none⟩) (.inl rfl) (.int .i64 ((l : Int) - 1))).heap NB (by omega)
  have hs1 : (W.setCell ⟨lb, 0, none⟩ (.int .i64 ((l : Int) - 1))).heap.size = w.heap.size + 1 := by rw [World.size_setCell]; exact hs0
  obtain ⟨lc, lf⟩ := one_cell LB1
  by_cases hstop : (l : Int) - 1 < (t.ks.len : Int)
  · have P := Lib.hid (show ¬ sizeT t ≤ l by omega)
    generalize hV : W.setCell ⟨lb, 0, none⟩ (.int .i64 ((l : Int) - 1)) = V at K1 LB2 NB2 hs1
    have HV := Lib.hid hV
    obtain ⟨lc2, -⟩ := one_cell LB2
    obtain ⟨⟨m0, m1, m2, m3⟩, -⟩ := four NB2
    have HK1 := Lib.hid K1
    clear hr hpre hG ih hwd hlb hW hV K1 LB1 LB2 NB NB2 BA hsize
    go_enter Tryz.func70, Tryz.ntmps70
    go_upto_region 2 with fail
    rw [HW.out]
    go_upto_region 3 with fail
    rw [HV.out]
    go_wp2_with (go_quiet (fail))
    go_ret2
    exact ⟨HK1.out.drewN _, fun h => absurd h P.out, fun h => absurd h P.out, fun _ => rfl⟩
  · obtain ⟨l', rfl⟩ : ∃ l', l = l' + 1 := ⟨l - 1, by omega⟩
    have hcast : (((l' + 1 : Nat) : Int) - 1) = (l' : Int) := by omega
    rw [hcast] at K1 LB2 NB2 hs1 hstop
    generalize hV : W.setCell ⟨lb, 0, none⟩ (.int .i64 (l' : Int)) = V at K1 LB2 NB2 hs1
    have HV := Lib.hid hV
    obtain ⟨lc2, -⟩ := one_cell LB2
    obtain ⟨⟨m0, m1, m2, m3⟩, -⟩ := four NB2
    have HK1 := Lib.hid K1
    have HLB := Lib.hid LB2
    have HNB := Lib.hid NB2
    have hll : t.ks.len ≤ l' := by omega
    have b9 : ¬ (l' : Int) < (t.ks.len : Int) := hstop
    clear hr hpre hG ih hwd hlb hW hV K1 LB1 LB2 NB NB2 BA hstop hcast
    go_enter Tryz.func70, Tryz.ntmps70
    go_upto_region 2 with fail
    rw [HW.out]
    go_upto_region 3 with fail
    rw [HV.out]
    go_upto_region 5 with (go_quiet (fail))
    have HK2 := Lib.hid (HK1.out.drewN nq)
    have HLB2 := Lib.hid (show (V.drewN nq).heap[lb]? = _ from HLB.out)
    have HNB2 := Lib.hid (show (V.drewN nq).heap[w.heap.size]? = _ from HNB.out)
    have hsV : (V.drewN nq).heap.size = w.heap.size + 1 := hs1
    have n3 : (V.drewN nq).cell? ⟨w.heap.size, 3, none⟩ = some (.slice a t.ks.len c) := m3
    generalize V.drewN nq = U at HK2 HLB2 HNB2 hsV n3 ⊢
    clear m0 m1 m2 m3 lc lf lc2 HW HV HK1 HLB HNB
    go_wp2_with fail
    go_loopw [9, 30] (fun kv i wr => ∃ (k x : Nat) (va : Option Addr) (vc : Nat) (vs : List Value), kv = .slice va k vc ∧ i = .int .i64 k ∧ k ≤ t.ks.len ∧ x + sizeF t.ks = l' + sizeF (t.ks.drop k) ∧ Hid (wr.ownsRow (w.heap.size + 1) 9 1 (.slice va k vc) k vs) ∧
      Hid (∀ j t2, j < k → t.ks.at j = some t2 → ∃ v, vs[j]? = some v ∧ ResT (fun b => w.heap.size + 1 ≤ b ∧ (Value.slice va k vc).ownBlock ≠ some b) wr t2 v) ∧ Hid (wr.heap[lb]? = some (.cells #[.int .i64 x] 3 (0, 0))) ∧ Hid (Kept (· = lb) w wr) ∧ Hid (wr.heap[w.heap.size]? = some (ndG t.op t.nm t.n a t.ks.len c))) (fun _ i _ => t.ks.len - (intOf i).toNat)
    case atStart => exact ⟨0, l', none, 0, [], rfl, rfl, Nat.zero_le _, by rw [F.drop_zero], Lib.hid (World.ownsRow_nil _ _ _ _), Lib.hid (fun _ _ h => absurd h (Nat.not_lt_zero _)), HLB2, HK2, HNB2⟩
    case round =>
      obtain ⟨k, x, va, vc, vs, rfl, rfl, hk, hx, hO, hV, hL, hK, hN⟩ := hrel
      clear n3
      obtain ⟨⟨m0, m1, m2, m3⟩, -⟩ := four hN.out
      have hz := hK.out.size
      by_cases hkl : k < t.ks.len
      · obtain ⟨t2, hat, -⟩ := at_some hkl
        have hsd := size_drop hat
        have hdl := size_drop_le t.ks k
        obtain ⟨b, off, a2, c2, ha, hGb, hbl, ⟨p0, p1, p2, p3⟩, hr2⟩ := readsN_at (R.out.keptS hK.out (fun q hq hg => HG.out q hg hq)) hat
        subst ha
        have hN1 : w.heap.size < wr.heap.size := (Array.getElem?_eq_some_iff.1 hN.out).1
        have BA := (Below.refl wr.heap.size wr).alloc (Nat.le_refl _) (ndG t2.op t2.nm t2.n a2 t2.ks.len c2)
        have NB := heap_alloc_new wr (ndG t2.op t2.nm t2.n a2 t2.ks.len c2)
        have hs2 : (wr.alloc (ndG t2.op t2.nm t2.n a2 t2.ks.len c2)).heap.size = wr.heap.size + 1 := World.size_alloc _ _
        generalize hX : wr.alloc (ndG t2.op t2.nm t2.n a2 t2.ks.len c2) = Z at BA NB hs2
        have HX := Lib.hid hX
        have CF := Lib.hid ((EachF.at IH.out hat) G lb Z a2 c2 x (by omega) (preT2 PRE.out hat) HG.out (wdT WD.out (hK.out.trans (kept_below BA (· = lb)) (fun _ h _ => h))) (hr2.kept BA) ((BA.block lb (by omega)).trans hL.out))
        have HAT := Lib.hid hat
        have HBA := Lib.hid BA
        have OZ := Lib.hid (owns_below hO.out BA)
        obtain ⟨⟨z0, z1, z2, z3⟩, -⟩ := four NB
        clear hX BA NB hr2 hat hGb
        go_upto_region 9 with fail
        rw [HX.out]
        clear p0 p1 p2 p3 m0 m1 m2 m3
        go_wp2_with fail
        refine CF.out.mono ?_
        rintro e w2 ⟨k2, hA1, hA2, hB⟩
        have hzk2 := k2.size
        have K2 := Lib.hid (hK.out.trans ((kept_below HBA.out (· = lb)).trans k2 (fun _ h _ => h)) (fun _ h _ => h))
        have N2 := Lib.hid (k2.heap ((HBA.out.block w.heap.size (by omega)).trans hN.out) (by omega))
        by_cases hfit : sizeT t2 ≤ x
        · obtain ⟨v, rfl, hv⟩ := hA1 hfit
          obtain ⟨z, rfl⟩ := shapeT hv
          have L2 := Lib.hid (hA2 hfit)
          have O2 := Lib.hid (owns_kept (row := some lb) OZ.out (k2.mono (fun i hi _ => by rw [hi])) (fun q hq e => by have := (OZ.out.lt q hq).1; have := Option.some.inj e; omega))
          have HVV := Lib.hid hv
          have hx2 : (x - sizeT t2) + sizeF t.ks = l' + sizeF (t.ks.drop (k + 1)) := by omega
          have hksz : k + 1 ≤ 1000 := by omega
          have vone : ∀ u ∈ [(Value.string z)], u.oneCell' = true := fun u hu => by rw [List.mem_singleton.1 hu]; exact oneT hv
          clear CF hA1 hA2 hB hv hfit z0 z1 z2 z3
          go_upto_region 12 with fail
          have BN := (Below.refl w2.heap.size w2).alloc (Nat.le_refl _) (.cells #[(Value.string z)] 9)
          have F2 := Lib.hid (show ∀ j u, [(Value.string z)][j]? = some u → (w2.alloc (.cells #[(Value.string z)] 9)).cell? ((⟨w2.heap.size, 0, none⟩ : Addr).add j) = some u from fun j u hj => by
            rw [Addr.add_lit, Nat.zero_add, cell_of_row _ _ _ _ _ (0, 0) (heap_alloc_new w2 _)]
            simpa using hj)
          have HBN := Lib.hid BN
          clear BN
          go_wp2_with (at_builtin; refine wpList_append_new rfl _ _ 52 rfl und hi hz0 hz1 hz2 rfl (by decide) (.slice va k vc) k 1 1 ⟨w2.heap.size, 0, none⟩ vs [(Value.string z)] rfl rfl (owns_below O2.out HBN.out) rfl F2.out vone (by unfold maxLen; omega) (by omega) (by rw [World.size_alloc]; omega) ?_)
          intro v3 w3 ho hg hq
          obtain ⟨va3, vc3, rfl⟩ := own_rowG ho
          have kg : Kept (fun b => (Value.slice va k vc).ownBlock = some b) w2 w3 := ((Kept.refl _ w2).alloc _).grown hg (fun q hq => .inl hq)
          have hov : ∀ q, (Value.slice va k vc).ownBlock = some q → w.heap.size + 1 ≤ q ∧ q < w2.heap.size := fun q hq => by have := O2.out.lt q hq; omega
          have O3 := Lib.hid ho
          have L3 := Lib.hid (kg.heap L2.out (fun e => by have := hov lb e; omega))
          have K3 := Lib.hid (K2.out.trans (kg.mono (T := fun b => w.heap.size + 1 ≤ b) (fun i hi _ => (hov i hi).1)) (fun i hi hlt => by omega))
          have N3 := Lib.hid (kg.heap N2.out (fun e => by have := hov _ e; omega))
          have hnewb : ∀ b, b < w2.heap.size → (Value.slice va k vc).ownBlock ≠ some b → (Value.slice va3 (k + 1) vc3).ownBlock ≠ some b := fun b hb hne e => by
            rcases hq b e with h1 | h1
            · exact hne h1
            · omega
          have V3 := Lib.hid (show ∀ j t3, j < k + 1 → t.ks.at j = some t3 → ∃ u, (vs ++ [(Value.string z)])[j]? = some u ∧ ResT (fun b => w.heap.size + 1 ≤ b ∧ (Value.slice va3 (k + 1) vc3).ownBlock ≠ some b) w3 t3 u from fun j t3 hj hjt => by
            have hvl : vs.length = k := by have := hO.out.1; rwa [Nat.mul_one] at this
            by_cases hjk : j < k
            · obtain ⟨u, hu, hru⟩ := hV.out j t3 hjk hjt
              refine ⟨u, by rw [List.getElem?_append_left (by omega)]; exact hu, ?_⟩
              have r1 := resT_keptS (resT_keptS hru (kept_below HBA.out (fun _ => False)) (fun _ h => h.elim)) k2 (fun q hq hg => by have := hg.1; omega)
              have r2 := resT_imp (H := fun b => (w.heap.size + 1 ≤ b ∧ (Value.slice va k vc).ownBlock ≠ some b) ∧ (Value.slice va3 (k + 1) vc3).ownBlock ≠ some b) r1 (fun b hb hg => ⟨hg, hnewb b hb hg.2⟩)
              exact resT_imp (resT_keptS r2 kg (fun q hq hg => hg.1.2 hq)) (fun b hb hg => ⟨hg.1.1, hg.2⟩)
            · obtain rfl : j = k := by omega
              have : t3 = t2 := by rw [HAT.out] at hjt; exact (Option.some.inj hjt).symm
              subst this
              refine ⟨_, by rw [List.getElem?_append_right (by omega), hvl, Nat.sub_self]; rfl, ?_⟩
              have r2 := resT_imp (H := fun b => (w.heap.size + 1 ≤ b ∧ (Value.slice va j vc).ownBlock ≠ some b) ∧ (Value.slice va3 (j + 1) vc3).ownBlock ≠ some b) HVV.out (fun b hb hg => by
                have hne : (Value.slice va j vc).ownBlock ≠ some b := fun e => by have := (OZ.out.lt b e).2; omega
                exact ⟨⟨by omega, hne⟩, hnewb b hb hne⟩)
              exact resT_imp (resT_keptS r2 kg (fun q hq hg => hg.1.2 hq)) (fun b hb hg => ⟨hg.1.1, hg.2⟩))
          clear ho hg hq kg hov hnewb
          go_wp2_with fail
          go_roundw
          case rel => exact ⟨k + 1, x - sizeT t2, va3, vc3, vs ++ [(Value.string z)], rfl, by go_num, by omega, hx2, O3, V3, L3, K3, N3⟩
          case measure => simp [intOf]; omega
        · obtain rfl := hB hfit
          have P := Lib.hid (show ¬ sizeT t ≤ l' + 1 by omega)
          clear CF hA1 hA2 hB hfit z0 z1 z2 z3
          go_wp2_with fail
          go_ret2
          exact ⟨K2.out, fun h => absurd h P.out, fun h => absurd h P.out, fun _ => rfl⟩
      · obtain rfl : k = t.ks.len := by omega
        have hx2 : x + sizeF t.ks = l' := by rw [hx, F.drop_len _ _ (Nat.le_refl _)]; rfl
        have CO := Lib.hid (ofT_any t wr G a c va vc vs (w.heap.size + 1) PRE.out (wdT WD.out hK.out) (R.out.keptS hK.out (fun q hq hg => HG.out q hg hq)) hO.out (fun j t2 hj => hV.out j t2 (at_lt hj) hj))
        go_wp2_with fail
        refine CO.out.mono ?_
        rintro e w2 ⟨v, rfl, hv, hb⟩
        have P := Lib.hid (show Kept (· = lb) w w2 ∧ ResT (fun b => w.heap.size ≤ b) w2 t v ∧ w2.heap[lb]? = some (.cells #[.int .i64 ((l' + 1 - sizeT t : Nat) : Int)] 3 (0, 0)) ∧ sizeT t ≤ l' + 1 from
          ⟨hK.out.trans (kept_below hb (· = lb)) (fun _ h _ => h), resT_imp hv (fun b _ hg => by omega), by rw [hb.block lb (by omega), hL.out, show x = l' + 1 - sizeT t by omega], by omega⟩)
        clear hv hb CO m0 m1 m2 m3
        go_wp2_with fail
        go_ret2
        exact ⟨P.out.1, fun _ => ⟨v, rfl, P.out.2.1⟩, fun _ => P.out.2.2.1, fun h => absurd P.out.2.2.2 h⟩

theorem foldT_all (t : TN) : FoldT t := tree_of foldT_step t

set_option maxHeartbeats 4000000 in
set_option maxRecDepth 100000 in
theorem foldT_any (t : TN) (G : Nat → Prop) (w : World) (a : Option Addr) (c : Nat) (hpre : PreT t) (hwd : ∀ lb, w.heap.size ≤ lb → WdT lb w) (hr : ReadsN G w a t.ks) :
    Calls Tryz.prog 44 #[nodeV t.op t.nm t.n a t.ks.len c, .func (.func 45) #[] #[]] w fun e w' => Below w.heap.size w w' ∧
      (sizeT t ≤ 32 → ∃ v, e = .returned (.tuple #[v, .bool true]) ∧ ResT (fun b => w.heap.size ≤ b) w' t v) ∧ (¬ sizeT t ≤ 32 → e = .returned (.tuple #[.string ⟨#[]⟩, .bool false])) := by
  have BA := (Below.refl w.heap.size w).alloc (Nat.le_refl _) (ndG t.op t.nm t.n a t.ks.len c)
  have NB := heap_alloc_new w (ndG t.op t.nm t.n a t.ks.len c)
  have hs0 : (w.alloc (ndG t.op t.nm t.n a t.ks.len c)).heap.size = w.heap.size + 1 := World.size_alloc _ _
  generalize hW : w.alloc (ndG t.op t.nm t.n a t.ks.len c) = W at BA NB hs0
  have BB := (Below.refl W.heap.size W).alloc (Nat.le_refl _) (.cells #[.int .i64 32] 3)
  have NC := heap_alloc_new W (.cells #[.int .i64 32] 3)
  have hs1 : (W.alloc (.cells #[.int .i64 32] 3)).heap.size = w.heap.size + 2 := by rw [World.size_alloc]; omega
  generalize hV : W.alloc (.cells #[.int .i64 32] 3) = V at BB NC hs1
  rw [hs0] at NC
  have BV := BA.trans (BB.mono (by omega))
  have N2 := (BB.block w.heap.size (by omega)).trans NB
  have hGlt := hr.imp (H := fun b => G b ∧ b < w.heap.size) (fun b hb hg => ⟨hg, hb⟩)
  have CF := Lib.hid (foldT_all t (fun b => G b ∧ b < w.heap.size) (w.heap.size + 1) V a c 32 (by omega) hpre (fun b hg => by omega) (wdT (hwd (w.heap.size + 1) (by omega)) (kept_below BV (fun _ => False) |>.mono (fun _ h _ => h.elim) : Kept (· = w.heap.size + 1) w V)) (hGlt.keptS (kept_below BV (fun _ => False)) (fun _ h => h.elim)) NC)
  have HW := Lib.hid hW
  have HV := Lib.hid hV
  have HB := Lib.hid BV
  obtain ⟨⟨m0, m1, m2, m3⟩, -⟩ := four N2
  clear hW hV BA NB BB NC BV N2 hGlt hr hpre hwd
  go_enter Tryz.func44, Tryz.ntmps44
  go_upto_region 1 with fail
  rw [HW.out]
  go_upto_region 2 with fail
  rw [HV.out]
  go_wp2_with fail
  refine CF.out.mono ?_
  rintro e w2 ⟨k2, hA, -, hB⟩
  have B2 := Lib.hid (HB.out.trans (Kept.below k2 (B := w.heap.size) (fun q hq => by omega) (by omega)))
  by_cases h32 : sizeT t ≤ 32
  · obtain ⟨v, rfl, hv⟩ := hA h32
    have HR := Lib.hid (resT_imp hv (H := fun b => w.heap.size ≤ b) (fun b _ hg => by omega))
    have H32 := Lib.hid h32
    clear k2 hA hB hv h32 CF m0 m1 m2 m3
    go_wp2_with fail
    go_ret2
    exact ⟨B2.out, fun _ => ⟨v, rfl, HR.out⟩, fun h => absurd H32.out h⟩
  · obtain rfl := hB h32
    have H32 := Lib.hid h32
    clear k2 hA hB h32 CF m0 m1 m2 m3
    go_wp2_with fail
    go_ret2
    exact ⟨B2.out, fun h => absurd h H32.out, fun _ => rfl⟩

end Go.Proofs.YteegdemnajhehaaGreatDoor

namespace Go.Proofs.YteegdemnajhehaaGreatDoor
open Go.RowKit

set_option maxHeartbeats 4000000 in
theorem pCheck_any (t : TN) (G : Nat → Prop) (w : World) (a : Option Addr) (c : Nat) (hS : SzF t.f) (hr : ReadsN G w a t.ks) :
    Calls Tryz.prog 20 #[nodeV t.op t.nm t.n a t.ks.len c] w fun e w' => e = .returned (.int .i64 (checkT t)) ∧ Below w.heap.size w w' := by
  have BA := (Below.refl w.heap.size w).alloc (Nat.le_refl _) (ndG t.op t.nm t.n a t.ks.len c)
  have NB := heap_alloc_new w (ndG t.op t.nm t.n a t.ks.len c)
  have CF := foldE_any t G (w.alloc (ndG t.op t.nm t.n a t.ks.len c)) a c hS (fun _ _ => trivial) (hr.kept BA)
  have hz : w.heap.size ≤ (w.alloc (ndG t.op t.nm t.n a t.ks.len c)).heap.size := BA.size
  generalize hW : w.alloc (ndG t.op t.nm t.n a t.ks.len c) = W at BA NB CF hz
  have HCF := Lib.hid CF
  have HB := Lib.hid BA
  have HW := Lib.hid hW
  have HI := Lib.hid (cnt_iff t)
  obtain ⟨⟨m0, m1, m2, m3⟩, -⟩ := four NB
  clear hW BA NB CF hr hS
  go_enter Tryz.func20, Tryz.ntmps20
  go_upto_region 1 with fail
  rw [HW.out]
  go_wp2_with fail
  refine HCF.out.mono ?_
  rintro e w2 ⟨hb, hA, hB⟩
  have B2 := Lib.hid (HB.out.trans (hb.mono hz))
  by_cases h32 : sizeT t ≤ 32
  · obtain ⟨v, rfl, hv⟩ := hA h32
    unfold ResE at hv
    subst hv
    have E := Lib.hid (show checkT t = chkF t.f by unfold checkT; rw [if_neg (fun h => by have := HI.out.1 h; omega)])
    clear hb hA hB h32
    go_wp2_with fail
    go_ret
    rw [E.out]
    exact ⟨rfl, B2.out⟩
  · obtain rfl := hB h32
    have E := Lib.hid (show checkT t = 4 by unfold checkT; rw [if_pos (HI.out.2 (by omega))])
    clear hb hA hB h32
    go_wp2_with fail
    go_ret
    rw [E.out]
    exact ⟨rfl, B2.out⟩

set_option maxHeartbeats 4000000 in
theorem pText_any (t : TN) (G : Nat → Prop) (w : World) (a : Option Addr) (c : Nat) (ho : OkT t) (hn : NumsF t.f) (hs : sizeT t ≤ 32) (hl : LaidT w) (hr : ReadsN G w a t.ks) :
    Calls Tryz.prog 21 #[nodeV t.op t.nm t.n a t.ks.len c] w fun e w' => e = .returned (.string ⟨(textE t).toArray⟩) ∧ Below w.heap.size w w' := by
  have BA := (Below.refl w.heap.size w).alloc (Nat.le_refl _) (ndG t.op t.nm t.n a t.ks.len c)
  have NB := heap_alloc_new w (ndG t.op t.nm t.n a t.ks.len c)
  have LT : LaidT (w.alloc (ndG t.op t.nm t.n a t.ks.len c)) := by
    obtain ⟨t', f, h1⟩ := hl
    exact ⟨t', f, (BA.block _ (Array.getElem?_eq_some_iff.1 h1).1).trans h1⟩
  have CF := foldT_any t G (w.alloc (ndG t.op t.nm t.n a t.ks.len c)) a c ⟨okI_of t ho hn, by have := text_len t ho hn; omega⟩ (fun lb hlb => ⟨LT, fun e => by
    obtain ⟨t', f, h1⟩ := LT
    have := (Array.getElem?_eq_some_iff.1 h1).1
    omega⟩) (hr.kept BA)
  have hz : w.heap.size ≤ (w.alloc (ndG t.op t.nm t.n a t.ks.len c)).heap.size := BA.size
  generalize hW : w.alloc (ndG t.op t.nm t.n a t.ks.len c) = W at BA NB CF hz LT
  have HCF := Lib.hid CF
  have HB := Lib.hid BA
  have HW := Lib.hid hW
  have H32 := Lib.hid hs
  obtain ⟨⟨m0, m1, m2, m3⟩, -⟩ := four NB
  clear hW BA NB CF hr hs LT hl ho hn
  go_enter Tryz.func21, Tryz.ntmps21
  go_upto_region 1 with fail
  rw [HW.out]
  go_wp2_with fail
  refine HCF.out.mono ?_
  rintro e w2 ⟨hb, hA, -⟩
  have B2 := Lib.hid (HB.out.trans (hb.mono hz))
  obtain ⟨v, rfl, hv⟩ := hA H32.out
  unfold ResT at hv
  subst hv
  clear hb hA
  go_wp2_with fail
  go_ret
  exact ⟨rfl, B2.out⟩

end Go.Proofs.YteegdemnajhehaaGreatDoor
