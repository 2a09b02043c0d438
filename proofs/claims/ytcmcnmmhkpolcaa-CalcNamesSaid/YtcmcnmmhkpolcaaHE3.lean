/-
  No statement: what these walks need, of earlier texts: GOfE, EDec, EText, GOfT, GOfL, GLawOf, ELeft, GFoldL, GSame.
-/
import Derived.Test.YtcmcnmmhkpolcaaHE2
import Derived.WalkKit
import Derived.WalkSpells
import Derived.Lib.Hide
import Derived.Deep.Draws
import Derived.Sort.Walk0
import Derived.Lib.ParseIntB
import Derived.Lib.AtoiErrMem
import Derived.Lib.AppendIntMem
import Derived.Test.YtcmcnmmhkpolcaaShelf
import Derived.Test.YtcmcnmmhkpolcaaProg
import Derived.IntWalk
import Derived.LoopTactic
import Derived.StillTailTactics
import Derived.Deep.QuietTactic
import Derived.BigQuiet
import Derived.RangeFuncRecord
import Derived.ArgAppend
import Derived.OwnWalk
import Derived.BigRegion
import Derived.Deep.Cut
import Derived.Deep.RegionLaw
import Derived.Deep.RegionHeld3
import Derived.Shelf.Spec.SearchS
import Derived.Lib.AppendZerosOnto
import Derived.Lib.SliceRun
import Derived.Laws.IdiomStrings
import Derived.Lib.OwnBridge
import Derived.Lib.SlicesCompact
import Derived.Sort.OwnSorted
namespace Go.Proofs.Ytcmcnmmhkpolcaa
section
open Go.RowKit

theorem infoE : (Try.prog.info? 60).map (fun i => (i.zero, i.size, i.bytes)) = some (some (.int .i64 0), 1, 8) := by kernel_rfl

def PreE (t : TN) : Prop := SzF t.f

theorem preE2 {t t2 : TN} {j : Nat} (h : PreE t) (hj : t.ks.at j = some t2) : PreE t2 := SzF.at (f := t.ks) h.2.2.1 hj

def WdE (_ : Nat) (_ : World) : Prop := True

theorem wdE {w w' : World} {lb : Nat} (_ : WdE lb w) (_ : Kept (· = lb) w w') : WdE lb w' := trivial

def ResE (_ : Nat → Prop) (_ : World) (t : TN) (v : Value) : Prop := v = .int .i64 (chkF t.f)

theorem resE_imp {G H : Nat → Prop} {w : World} {t : TN} {v : Value} (h : ResE G w t v) (_ : ∀ b, b < w.heap.size → G b → H b) : ResE H w t v := h

theorem resE_keptS {S G : Nat → Prop} {w w' : World} {t : TN} {v : Value} (h : ResE G w t v) (_ : Kept S w w') (_ : ∀ k, S k → ¬ G k) : ResE G w' t v := h

theorem shapeE {G : Nat → Prop} {w : World} {t : TN} {v : Value} (h : ResE G w t v) : ∃ z, v = .int .i64 z := ⟨_, h⟩

theorem oneE {G : Nat → Prop} {w : World} {t : TN} {v : Value} (h : ResE G w t v) : v.oneCell' = true := by rw [h]; rfl

theorem chkF_cons (t : TN) (r : F) : chkF (.cons t.op t.nm t.n t.ks r) = if chkF t.f = 0 then chkF r else chkF t.f := by
  rw [chk_tree, chkF]
  by_cases h1 : errN t.op t.nm t.n t.ks.len = 0
  · rw [if_pos h1, if_pos h1]
  · rw [if_neg h1, if_neg h1, if_neg h1]

theorem op_yes' {o : ByteArray} {x : List UInt8} (h : (o.data.toList == x) = true) : (o.toList == x) = true := by rw [Lib.toList_data]; exact h

theorem op_not' {o : ByteArray} {x : List UInt8} (h : (o.data.toList == x) = false) : (o.toList == x) = false := by rw [Lib.toList_data]; exact h

set_option maxHeartbeats 8000000 in
theorem ofE_any (t : TN) (w : World) (G : Nat → Prop) (a : Option Addr) (c : Nat) (va : Option Addr) (vc : Nat) (vs : List Value) (base : Nat) (hpre : PreE t) {lb : Nat} (_ : WdE lb w) (_ : ReadsN G w a t.ks) (ho : w.ownsRow base 60 1 (.slice va t.ks.len vc) t.ks.len vs)
    (hv : ∀ j t2, t.ks.at j = some t2 → ∃ v, vs[j]? = some v ∧ ResE (fun b => base ≤ b ∧ (Value.slice va t.ks.len vc).ownBlock ≠ some b) w t2 v) :
    Calls Try.prog 42 #[nodeV t.op t.nm t.n a t.ks.len c, .slice va t.ks.len vc] w fun e w' => ∃ v, e = .returned v ∧ ResE (fun b => w.heap.size ≤ b) w' t v ∧ Below w.heap.size w w' := by
  have BA := (Below.refl w.heap.size w).alloc (Nat.le_refl _) (ndG t.op t.nm t.n a t.ks.len c)
  have NB := heap_alloc_new w (ndG t.op t.nm t.n a t.ks.len c)
  have O1 := Lib.hid (owns_below ho BA)
  generalize hW : w.alloc (ndG t.op t.nm t.n a t.ks.len c) = W at BA NB O1
  have HW := Lib.hid hW
  have HB := Lib.hid BA
  have HV := Lib.hid hv
  have hm : t.nm.size ≤ 281474976710656 := hpre.1
  have hlen9 : t.ks.len ≤ 9223372036854775807 := hpre.2.1
  obtain ⟨⟨m0, m1, m2, m3⟩, -⟩ := four NB
  have KO := Lib.hid (fun w => kidsOf_any t.op w)
  have NM := Lib.hid (fun w => wName_any t.nm hm w)
  have CT := chk_tree t
  unfold errN at CT
  have HCT := Lib.hid CT
  clear hW BA NB ho hv hpre CT
  have P := Lib.hid (p := ∀ r : Int, r = chkF t.f → ∀ W', Below w.heap.size w W' → ∃ v, Ending.returned (.int .i64 r) = .returned v ∧ ResE (fun b => w.heap.size ≤ b) W' t v ∧ Below w.heap.size w W') (fun r hr W' hb => ⟨_, rfl, by rw [hr]; rfl, hb⟩)
  by_cases h1 : (arity t.op != (t.ks.len : Int)) = true
  · have P2 := Lib.hid (P.out 2 (by rw [HCT.out, if_pos h1]; rfl) W HB.out)
    have b1 : ((t.ks.len : Int) != arity t.op) = true := by rw [bne_iff_ne] at h1 ⊢; exact fun e => h1 e.symm
    clear h1 P HCT
    go_enter Try.func42, Try.ntmps42
    go_upto_region 1 with fail
    rw [HW.out]
    go_wp2_with (go_at_call 47; refine (KO.out _).mono ?_; rintro e w' ⟨rfl, rfl⟩)
    go_ret
    exact P2.out
  · have b1 : ((t.ks.len : Int) != arity t.op) = false := by rw [bne_eq_false_iff_eq]; simp at h1; exact h1.symm
    rw [if_neg h1] at HCT
    clear h1
    cases h2 : isName t.op with
    | true =>
      have g2 := op_yes' h2
      have g1 : (t.op.toList == [110, 117, 109]) = false := by
        have : t.op.data.toList = bName := by unfold isName at h2; simpa using h2
        rw [Lib.toList_data, this]; rfl
      have hn : isNum t.op = false := by unfold isNum bNum; rw [← Lib.toList_data]; exact g1
      unfold bName at g2
      cases hg : goodB t.nm.data.toList with
      | false =>
        rw [hg] at NM
        have P2 := Lib.hid (P.out 5 (by rw [HCT.out, h2, hg]; rfl) W HB.out)
        clear h2 hg hn P HCT
        go_enter Try.func42, Try.ntmps42
        go_upto_region 1 with fail
        rw [HW.out]
        go_wp2_with (first | (go_at_call 47; refine (KO.out _).mono ?_; rintro e w' ⟨rfl, rfl⟩) | (go_at_call 54; refine (NM.out _).mono ?_; rintro e w' ⟨rfl, rfl⟩))
        go_ret
        exact P2.out
      | true =>
        rw [hg] at NM
        have E := Lib.hid (show chkF t.f = chkF t.ks by rw [HCT.out, h2, hg, hn]; rfl)
        clear h2 hg hn HCT
        go_enter Try.func42, Try.ntmps42
        go_upto_region 1 with fail
        rw [HW.out]
        go_wp2_with (first | (go_at_call 47; refine (KO.out _).mono ?_; rintro e w' ⟨rfl, rfl⟩) | (go_at_call 54; refine (NM.out _).mono ?_; rintro e w' ⟨rfl, rfl⟩))
        go_loop [35] (fun i => ∃ k : Nat, i = .int .i64 k ∧ k ≤ t.ks.len ∧ Hid (chkF (t.ks.drop k) = chkF t.ks)) (fun i => t.ks.len - (intOf i).toNat)
        case atStart => exact ⟨0, rfl, Nat.zero_le _, Lib.hid (by rw [F.drop_zero])⟩
        case round =>
          obtain ⟨k, rfl, hk, hD⟩ := hrel
          by_cases hlt : k < t.ks.len
          · obtain ⟨t2, hat, hdr⟩ := at_some hlt
            obtain ⟨v, hvj, hvr⟩ := HV.out k t2 hat
            obtain ⟨g, cc, hva, -, -, hcs⟩ := own_full O1.out (by omega)
            have hx := hcs k v hvj
            have HD2 := Lib.hid (show chkF t.ks = if chkF t2.f = 0 then chkF (t.ks.drop (k + 1)) else chkF t2.f by have e := chkF_cons t2 (t.ks.drop (k + 1)); rw [← hdr, hD.out] at e; exact e)
            simp only [Value.slice.injEq, true_and] at hva
            obtain ⟨rfl, rfl⟩ := hva
            unfold ResE at hvr
            subst hvr
            clear hvj hat hdr hcs
            by_cases h0 : chkF t2.f = 0
            · have b0 : ((chkF t2.f : Int) != 0) = false := by rw [h0]; rfl
              have D2 := Lib.hid (show chkF (t.ks.drop (k + 1)) = chkF t.ks by rw [HD2.out, if_pos h0])
              clear h0 HD2
              go_wp2_with fail
              go_round
              case rel => exact ⟨k + 1, by go_num, by omega, D2⟩
              case measure => simp [intOf]; omega
            · have b0 : ((chkF t2.f : Int) != 0) = true := by simpa using h0
              have P2 := Lib.hid (P.out (chkF t2.f) (by rw [E.out, HD2.out, if_neg h0]) W HB.out)
              clear h0 HD2
              go_wp2_with fail
              go_ret
              exact P2.out
          · obtain rfl : k = t.ks.len := by omega
            have P2 := Lib.hid (P.out 0 (by rw [E.out, ← hD.out, F.drop_len _ _ (Nat.le_refl _)]; rfl) W HB.out)
            go_wp2_with fail
            go_ret
            exact P2.out
    | false =>
      have g2 := op_not' h2
      unfold bName at g2
      cases h3 : isNum t.op with
      | true =>
        have g3 := op_yes' h3
        unfold bNum at g3
        by_cases h4 : t.n < 0
        · have P2 := Lib.hid (P.out 1 (by rw [HCT.out, h2, h3, decide_eq_true h4]; rfl) W HB.out)
          clear h2 h3 P HCT
          go_enter Try.func42, Try.ntmps42
          go_upto_region 1 with fail
          rw [HW.out]
          go_wp2_with (go_at_call 47; refine (KO.out _).mono ?_; rintro e w' ⟨rfl, rfl⟩)
          go_ret
          exact P2.out
        · have E := Lib.hid (show chkF t.f = chkF t.ks by rw [HCT.out, h2, h3, decide_eq_false h4]; rfl)
          clear h2 h3 HCT
          go_enter Try.func42, Try.ntmps42
          go_upto_region 1 with fail
          rw [HW.out]
          go_wp2_with (go_at_call 47; refine (KO.out _).mono ?_; rintro e w' ⟨rfl, rfl⟩)
          go_loop [35] (fun i => ∃ k : Nat, i = .int .i64 k ∧ k ≤ t.ks.len ∧ Hid (chkF (t.ks.drop k) = chkF t.ks)) (fun i => t.ks.len - (intOf i).toNat)
          case atStart => exact ⟨0, rfl, Nat.zero_le _, Lib.hid (by rw [F.drop_zero])⟩
          case round =>
            obtain ⟨k, rfl, hk, hD⟩ := hrel
            by_cases hlt : k < t.ks.len
            · obtain ⟨t2, hat, hdr⟩ := at_some hlt
              obtain ⟨v, hvj, hvr⟩ := HV.out k t2 hat
              obtain ⟨g, cc, hva, -, -, hcs⟩ := own_full O1.out (by omega)
              have hx := hcs k v hvj
              have HD2 := Lib.hid (show chkF t.ks = if chkF t2.f = 0 then chkF (t.ks.drop (k + 1)) else chkF t2.f by have e := chkF_cons t2 (t.ks.drop (k + 1)); rw [← hdr, hD.out] at e; exact e)
              simp only [Value.slice.injEq, true_and] at hva
              obtain ⟨rfl, rfl⟩ := hva
              unfold ResE at hvr
              subst hvr
              clear hvj hat hdr hcs
              by_cases h0 : chkF t2.f = 0
              · have b0 : ((chkF t2.f : Int) != 0) = false := by rw [h0]; rfl
                have D2 := Lib.hid (show chkF (t.ks.drop (k + 1)) = chkF t.ks by rw [HD2.out, if_pos h0])
                clear h0 HD2
                go_wp2_with fail
                go_round
                case rel => exact ⟨k + 1, by go_num, by omega, D2⟩
                case measure => simp [intOf]; omega
              · have b0 : ((chkF t2.f : Int) != 0) = true := by simpa using h0
                have P2 := Lib.hid (P.out (chkF t2.f) (by rw [E.out, HD2.out, if_neg h0]) W HB.out)
                clear h0 HD2
                go_wp2_with fail
                go_ret
                exact P2.out
            · obtain rfl : k = t.ks.len := by omega
              have P2 := Lib.hid (P.out 0 (by rw [E.out, ← hD.out, F.drop_len _ _ (Nat.le_refl _)]; rfl) W HB.out)
              go_wp2_with fail
              go_ret
              exact P2.out
      | false =>
        have g3 := op_not' h3
        unfold bNum at g3
        have E := Lib.hid (show chkF t.f = chkF t.ks by rw [HCT.out, h2, h3]; rfl)
        clear h2 h3 HCT
        go_enter Try.func42, Try.ntmps42
        go_upto_region 1 with fail
        rw [HW.out]
        go_wp2_with (go_at_call 47; refine (KO.out _).mono ?_; rintro e w' ⟨rfl, rfl⟩)
        go_loop [35] (fun i => ∃ k : Nat, i = .int .i64 k ∧ k ≤ t.ks.len ∧ Hid (chkF (t.ks.drop k) = chkF t.ks)) (fun i => t.ks.len - (intOf i).toNat)
        case atStart => exact ⟨0, rfl, Nat.zero_le _, Lib.hid (by rw [F.drop_zero])⟩
        case round =>
          obtain ⟨k, rfl, hk, hD⟩ := hrel
          by_cases hlt : k < t.ks.len
          · obtain ⟨t2, hat, hdr⟩ := at_some hlt
            obtain ⟨v, hvj, hvr⟩ := HV.out k t2 hat
            obtain ⟨g, cc, hva, -, -, hcs⟩ := own_full O1.out (by omega)
            have hx := hcs k v hvj
            have HD2 := Lib.hid (show chkF t.ks = if chkF t2.f = 0 then chkF (t.ks.drop (k + 1)) else chkF t2.f by have e := chkF_cons t2 (t.ks.drop (k + 1)); rw [← hdr, hD.out] at e; exact e)
            simp only [Value.slice.injEq, true_and] at hva
            obtain ⟨rfl, rfl⟩ := hva
            unfold ResE at hvr
            subst hvr
            clear hvj hat hdr hcs
            by_cases h0 : chkF t2.f = 0
            · have b0 : ((chkF t2.f : Int) != 0) = false := by rw [h0]; rfl
              have D2 := Lib.hid (show chkF (t.ks.drop (k + 1)) = chkF t.ks by rw [HD2.out, if_pos h0])
              clear h0 HD2
              go_wp2_with fail
              go_round
              case rel => exact ⟨k + 1, by go_num, by omega, D2⟩
              case measure => simp [intOf]; omega
            · have b0 : ((chkF t2.f : Int) != 0) = true := by simpa using h0
              have P2 := Lib.hid (P.out (chkF t2.f) (by rw [E.out, HD2.out, if_neg h0]) W HB.out)
              clear h0 HD2
              go_wp2_with fail
              go_ret
              exact P2.out
          · obtain rfl : k = t.ks.len := by omega
            have P2 := Lib.hid (P.out 0 (by rw [E.out, ← hD.out, F.drop_len _ _ (Nat.le_refl _)]; rfl) W HB.out)
            go_wp2_with fail
            go_ret
            exact P2.out

end

section
open Go.RowKit

/-- What stands ahead of the digits that are told. -/
def ahead (m : Nat) : List UInt8 := if m < 10 then [] else Lib.decDigits (m / 10)

end

section
open Go.RowKit

theorem op_yes {o : ByteArray} {x : List UInt8} (h : (o.data.toList == x) = true) : (o.toList == x) = true := by rw [Lib.toList_data]; exact h

theorem op_not {o : ByteArray} {x : List UInt8} (h : (o.data.toList == x) = false) : (o.toList == x) = false := by rw [Lib.toList_data]; exact h

end

section
open Go.RowKit

theorem infoT : (Try.prog.info? 9).map (fun i => (i.zero, i.size, i.bytes)) = some (some (.string ⟨#[]⟩), 1, 16) := by kernel_rfl

/-- Trees that may be, by their shape. -/
inductive OkI : TN → Prop
  | num (o m : ByteArray) (n : Int) : isNum o = true → 0 ≤ n → n ≤ 9223372036854775807 → OkI ⟨o, m, n, .nil⟩
  | name (o m : ByteArray) (n : Int) : isNum o = false → isName o = true → goodB m.data.toList = true → OkI ⟨o, m, n, .nil⟩
  | neg (o m : ByteArray) (n : Int) (a : TN) : isNum o = false → isName o = false → isNeg o = true → OkI a → OkI ⟨o, m, n, a.f⟩
  | two (o m : ByteArray) (n : Int) (a b : TN) : isNum o = false → isName o = false → isNeg o = false → isTwo o = true → OkI a → OkI b → OkI ⟨o, m, n, .cons a.op a.nm a.n a.ks b.f⟩

theorem okI_of (t : TN) (h : OkT t) (hn : NumsF t.f) : OkI t :=
  tree_induct1 (P := OkI) (fun o m n a b c => .num o m n a b c) (fun o m n a b c => .name o m n a b c) (fun o m n t a b c ih => .neg o m n t a b c ih) (fun o m n t u a b c d ih iu => .two o m n t u a b c d ih iu) t h hn

end

section
open Go.RowKit

theorem infoL : (Try.prog.info? 22).map (fun i => (i.zero, i.size, i.bytes)) = some (some (.slice none 0 0), 1, 24) := infoN

def PreL (t : TN) : Prop := OkI t ∧ sizeT t ≤ 1000

theorem preL2 {t t2 : TN} {j : Nat} (h : PreL t) (hj : t.ks.at j = some t2) : PreL t2 := by
  obtain ⟨h, hl⟩ := h
  refine ⟨?_, ?_⟩
  · cases h with
    | num o m n _ _ _ => cases hj
    | name o m n _ _ _ => cases hj
    | neg o m n a h1 h2 h3 h4 =>
      match j, hj with
      | 0, hj =>
        have : a = t2 := Option.some.inj hj
        subst this
        exact h4
      | j + 1, hj => cases hj
    | two o m n a b h1 h2 h3 h4 h5 h6 =>
      match j, hj with
      | 0, hj =>
        have : a = t2 := Option.some.inj hj
        subst this
        exact h5
      | 1, hj =>
        have : b = t2 := Option.some.inj hj
        subst this
        exact h6
      | j + 2, hj => cases hj
  · have h1 := size_drop hj
    have h2 := size_drop_le t.ks j
    unfold sizeT at hl
    omega

def WdL (_ : Nat) (_ : World) : Prop := True

theorem wdL {w w' : World} {lb : Nat} (_ : WdL lb w) (_ : Kept (· = lb) w w') : WdL lb w' := trivial

/-- A node has no kids just where its Op has none. -/
theorem okI_arity {t : TN} (h : OkI t) : (arity t.op = 0 ∧ t.ks = .nil) ∨ (arity t.op ≠ 0 ∧ 0 < t.ks.len) := by
  cases h with
  | num o m n h1 _ _ => left; exact ⟨by show arity o = 0; unfold arity; rw [h1]; rfl, rfl⟩
  | name o m n h1 h2 _ => left; exact ⟨by show arity o = 0; unfold arity; rw [h1, h2]; rfl, rfl⟩
  | neg o m n a h1 h2 h3 _ =>
    right
    refine ⟨?_, Nat.succ_pos _⟩
    show arity o ≠ 0
    unfold arity; rw [h1, h2, h3]; simp
  | two o m n a b h1 h2 h3 h4 _ _ =>
    right
    refine ⟨?_, Nat.succ_pos _⟩
    show arity o ≠ 0
    unfold arity; rw [h1, h2, h3, h4]; simp

theorem pre_tree (t : TN) : preF t.f = t :: (if arity t.op = 0 then [] else preF t.ks) := by
  rw [TN.f, preF]
  simp [preF]

theorem own_one (w : World) (t : TN) (a : Option Addr) (c : Nat) : (w.alloc (ndG t.op t.nm t.n a t.ks.len c)).ownsRow w.heap.size 24 4 (.slice (some ⟨w.heap.size, 0, none⟩) 1 1) 1 (ndL t (a, c)) :=
  ⟨rfl, .inr ⟨w.heap.size, 1, _, rfl, Nat.le_refl _, heap_alloc_new w _, Nat.le_refl _, by unfold maxLen; omega, rfl, rfl⟩⟩

set_option maxHeartbeats 8000000 in
set_option maxRecDepth 100000 in
theorem ofL_any (t : TN) (w : World) (G : Nat → Prop) (a : Option Addr) (c : Nat) (va : Option Addr) (vc : Nat) (vs : List Value) (base : Nat) (hpre : PreL t) {lb : Nat} (_ : WdL lb w) (_ : ReadsN G w a t.ks) (ho : w.ownsRow base 22 1 (.slice va t.ks.len vc) t.ks.len vs)
    (hv : ∀ j t2, t.ks.at j = some t2 → ∃ v, vs[j]? = some v ∧ ResL (fun b => base ≤ b ∧ (Value.slice va t.ks.len vc).ownBlock ≠ some b) w t2 v) :
    Calls Try.prog 33 #[nodeV t.op t.nm t.n a t.ks.len c, .slice va t.ks.len vc] w fun e w' => ∃ v, e = .returned v ∧ ResL (fun b => w.heap.size ≤ b) w' t v ∧ Below w.heap.size w w' := by
  obtain ⟨i0, hi, hz0, hz1, hz2⟩ := info_parts ndInfo
  have und : Try.prog.underlying 22 = some (.slice 24) := Try.underlying22
  have BA := (Below.refl w.heap.size w).alloc (Nat.le_refl _) (ndG t.op t.nm t.n a t.ks.len c)
  have NB := heap_alloc_new w (ndG t.op t.nm t.n a t.ks.len c)
  have hs0 : (w.alloc (ndG t.op t.nm t.n a t.ks.len c)).heap.size = w.heap.size + 1 := World.size_alloc _ _
  have KO := Lib.hid (fun w => kidsOf_any t.op w)
  have CC := Lib.hid (p := ∀ V, Below w.heap.size w V → Calls Try.prog 48 #[.slice va t.ks.len vc] V fun e w' => ∃ v qs, e = .returned v ∧ qs.length = (preF t.ks).length ∧ w'.ownsRow V.heap.size 24 4 v (preF t.ks).length (lstL (preF t.ks) qs) ∧ Below V.heap.size V w') (fun V hV =>
    concat_any t.ks va vc vs base V (owns_below ho hV) (by have := hpre.2; unfold sizeT at this; omega) (G := fun b => base ≤ b ∧ (Value.slice va t.ks.len vc).ownBlock ≠ some b) (fun j t2 hj => by
      obtain ⟨v, h1, h2⟩ := hv j t2 hj
      exact ⟨v, h1, resL_keptS h2 (kept_below hV (fun _ => False)) (fun _ h => h.elim)⟩))
  generalize hW : w.alloc (ndG t.op t.nm t.n a t.ks.len c) = W at BA NB hs0
  have HW := Lib.hid hW
  have HB := Lib.hid BA
  have hsize := hpre.2
  obtain ⟨⟨m0, m1, m2, m3⟩, -⟩ := four NB
  have HNB := Lib.hid NB
  rcases okI_arity hpre.1 with ⟨h0, h0k⟩ | ⟨h0, h0k⟩
  · have b1 : ((arity t.op : Int) == 0) = true := by rw [h0]; rfl
    have hp : preF t.f = [t] := by rw [pre_tree, if_pos h0]
    have P := (show ResL (fun b => w.heap.size ≤ b) (W.alloc (ndG t.op t.nm t.n a t.ks.len c)) t (.slice (some ⟨W.heap.size, 0, none⟩) 1 1) ∧ Below w.heap.size w (W.alloc (ndG t.op t.nm t.n a t.ks.len c)) from by
      have ob := own_one W t a c
      refine ⟨⟨⟨W.heap.size, 0, 1, [(a, c)], by rw [hp]; rfl, by omega, by rw [World.size_alloc]; omega, by rw [hp]; rfl, fun j u hj => ?_⟩⟩, BA.alloc (by omega) _⟩
      rw [hp] at hj
      have hj2 : (ndL t (a, c))[j]? = some u := by
        have e : lstL [t] [(a, c)] = ndL t (a, c) := by simp [lstL]
        rw [e] at hj; exact hj
      obtain ⟨g', h1, h2⟩ := owns_at ob hj2
      simp only [Addr.mk.injEq, and_true] at h1
      subst h1
      rw [Nat.zero_add]
      exact h2)
    rw [hs0] at P
    have P := Lib.hid P
    clear hW NB BA ho hv hpre h0 h0k hp CC
    go_enter Try.func33, Try.ntmps33
    go_upto_region 1 with fail
    rw [HW.out]
    go_wp2_with (go_at_call 47; refine (KO.out _).mono ?_; rintro e w' ⟨rfl, rfl⟩)
    go_ret
    exact ⟨_, rfl, P.out.1, P.out.2⟩
  · have b1 : ((arity t.op : Int) == 0) = false := by rw [beq_eq_false_iff_ne]; exact h0
    have hp : preF t.f = t :: preF t.ks := by rw [pre_tree, if_neg h0]
    have hpk : 0 < (preF t.ks).length := by
      cases hk : t.ks with
      | nil => rw [hk] at h0k; simp [F.len] at h0k
      | cons o m n k r => rw [preF]; simp
    have hpl := pre_len t.ks
    have hpl2 : (preF t.ks).length ≤ 1000 := by unfold sizeT at hsize; omega
    have HP := Lib.hid hp
    have hpkn : (preF t.ks).length ≠ 0 := by omega
    clear hW NB BA ho hv hpre h0 h0k hp hpl
    go_enter Try.func33, Try.ntmps33
    go_upto_region 1 with fail
    rw [HW.out]
    go_upto_region 3 with (go_at_call 47; refine (KO.out _).mono ?_; rintro e w' ⟨rfl, rfl⟩)
    have BW1 := Lib.hid (show Below w.heap.size w (W.alloc (ndG t.op t.nm t.n a t.ks.len c)).drew from (HB.out.alloc (by omega) _ |> fun b => ⟨b.os, b.tape, b.output, b.size, b.block⟩))
    have ow1 : (W.alloc (ndG t.op t.nm t.n a t.ks.len c)).drew.ownsRow W.heap.size 24 4 (.slice (some ⟨W.heap.size, 0, none⟩) 1 1) 1 (ndL t (a, c)) := own_one W t a c
    rw [hs0] at ow1
    have OW1 := Lib.hid ow1
    clear ow1
    have BW0 := Lib.hid (show Below w.heap.size w W.drew from ⟨HB.out.os, HB.out.tape, HB.out.output, HB.out.size, HB.out.block⟩)
    have hsz0 : W.drew.heap.size = w.heap.size + 1 := hs0
    have hsz1 : (W.alloc (ndG t.op t.nm t.n a t.ks.len c)).drew.heap.size = w.heap.size + 2 := by
      have : (W.alloc (ndG t.op t.nm t.n a t.ks.len c)).drew.heap.size = W.heap.size + 1 := World.size_alloc _ _
      omega
    go_region_law (first
      | (go_simp
         go_at_call 48
         refine (CC.out _ BW1.out).mono ?_
         rintro e w2 ⟨v2, qs, rfl, hq, ho2, hb2⟩
         obtain ⟨g2, c2, rfl, -, -, hc2⟩ := own_full ho2 hpkn
         have O2 := Lib.hid (owns_below OW1.out hb2)
         have HQ := Lib.hid hq
         have HB2 := Lib.hid (BW1.out.trans (hb2.mono (by omega)))
         have HC := Lib.hid (p := ∀ j u, (lstL (preF t.ks) qs)[j]? = some u → w2.cell? ((⟨g2, 0, none⟩ : Addr).add j) = some u) (fun j u hj => by rw [Addr.add_lit, Nat.zero_add]; exact hc2 j u hj)
         have HLL := Lib.hid (lstL_len hq)
         have hz2w : w.heap.size + 2 ≤ w2.heap.size := by have := hb2.size; omega
         clear ho2 hb2 hc2 hq)
      | (refine step_append_new rfl (.tmp 12) (.tmp 14) 22 rfl (base := w.heap.size + 1) und hi hz0 hz1 hz2 rfl (by decide) (.slice (some ⟨w.heap.size + 1, 0, none⟩) 1 1) 1 (preF t.ks).length (ndL t (a, c)) (lstL (preF t.ks) qs) ⟨g2, 0, none⟩ c2 (by first | (simp [Act.eval]; done) | (simp [Act.eval, Act.put]; done) | fail) (by first | (simp [Act.eval]; done) | (simp [Act.eval, Act.put]; done) | fail) O2.out HLL.out HC.out (lstL_one _ _) (by unfold maxLen; omega) (by omega) (by omega) ?_
         intro v3 w3 ho3 hg3 _
         obtain ⟨g3, c3, rfl, -, -, hc3⟩ := own_full ho3 (by omega)
         have hb3 := (ho3.lt g3 rfl)
         have P3 := Lib.hid (show ResL (fun b => w.heap.size ≤ b) w3 t (.slice (some ⟨g3, 0, none⟩) (1 + (preF t.ks).length) c3) from ⟨⟨g3, 0, c3, (a, c) :: qs, by rw [HP.out, List.length_cons, Nat.add_comm], by omega, hb3.2, by rw [HP.out, List.length_cons, List.length_cons, HQ.out], fun j u hj => by
           rw [HP.out, lstL] at hj
           rw [Nat.zero_add]
           exact hc3 j u hj⟩⟩)
         have B3 := Lib.hid (HB2.out.grown hg3 (by omega) (fun q hq => by have := (O2.out.lt q hq).1; omega))
         clear ho3 hg3 hc3 hb3)
      | (go_simp
         go_at_call 48
         refine (CC.out _ BW0.out).mono ?_
         rintro e w2 ⟨v2, qs, rfl, hq, ho2, hb2⟩
         obtain ⟨g2, c2, rfl, -, -, hc2⟩ := own_full ho2 hpkn
         have NB2 := hb2.block w.heap.size (by omega)
         have hz2w : w.heap.size + 1 ≤ w2.heap.size := by have := hb2.size; omega
         have y : w2.heap[w.heap.size]? = some (ndG t.op t.nm t.n a t.ks.len c) := NB2.trans HNB.out
         have O2b := Lib.hid (own_one w2 t a c)
         have HQ := Lib.hid hq
         have HB2b := Lib.hid ((BW0.out.trans (hb2.mono (by omega))).alloc (by omega) (ndG t.op t.nm t.n a t.ks.len c))
         have HCb := Lib.hid (p := ∀ j u, (lstL (preF t.ks) qs)[j]? = some u → (w2.alloc (ndG t.op t.nm t.n a t.ks.len c)).cell? ((⟨g2, 0, none⟩ : Addr).add j) = some u) (fun j u hj => by rw [Addr.add_lit, Nat.zero_add]; exact Lib.cell?_alloc_some _ (hc2 j u hj))
         have HLL := Lib.hid (lstL_len hq)
         have hz3w : (w2.alloc (ndG t.op t.nm t.n a t.ks.len c)).heap.size = w2.heap.size + 1 := World.size_alloc _ _
         clear ho2 hb2 hc2 hq NB2 m0 m1 m2 m3
         obtain ⟨⟨m0, m1, m2, m3⟩, -⟩ := four y
         clear y)
      | (refine step_append_new rfl (.tmp 12) (.tmp 14) 22 rfl (base := w2.heap.size) und hi hz0 hz1 hz2 rfl (by decide) (.slice (some ⟨w2.heap.size, 0, none⟩) 1 1) 1 (preF t.ks).length (ndL t (a, c)) (lstL (preF t.ks) qs) ⟨g2, 0, none⟩ c2 (by first | (simp [Act.eval]; done) | (simp [Act.eval, Act.put]; done) | fail) (by first | (simp [Act.eval]; done) | (simp [Act.eval, Act.put]; done) | fail) O2b.out HLL.out HCb.out (lstL_one _ _) (by unfold maxLen; omega) (by omega) (by rw [World.size_alloc]; omega) ?_
         intro v3 w3 ho3 hg3 _
         obtain ⟨g3, c3, rfl, -, -, hc3⟩ := own_full ho3 (by omega)
         have hb3 := (ho3.lt g3 rfl)
         have P3 := Lib.hid (show ResL (fun b => w.heap.size ≤ b) w3 t (.slice (some ⟨g3, 0, none⟩) (1 + (preF t.ks).length) c3) from ⟨⟨g3, 0, c3, (a, c) :: qs, by rw [HP.out, List.length_cons, Nat.add_comm], by have := hb3.1; omega, hb3.2, by rw [HP.out, List.length_cons, List.length_cons, HQ.out], fun j u hj => by
           rw [HP.out, lstL] at hj
           rw [Nat.zero_add]
           exact hc3 j u hj⟩⟩)
         have B3 := Lib.hid (HB2b.out.grown hg3 (by rw [World.size_alloc]; omega) (fun q hq => by have := (O2b.out.lt q hq).1; omega))
         clear ho3 hg3 hc3 hb3)
      | fail)
    all_goals
      go_wp2_with fail
      go_ret
      exact ⟨_, rfl, P3.out, B3.out⟩

end

section
open Go.RowKit

/-- The trees of a row. -/
def kL : F → List TN
  | .nil => []
  | .cons o m n k r => ⟨o, m, n, k⟩ :: kL r

theorem kL_len : ∀ f : F, (kL f).length = f.len
  | .nil => rfl
  | .cons o m n k r => by rw [kL, List.length_cons, kL_len r, F.len]

theorem kL_at : ∀ {f : F} {j : Nat} {t : TN}, f.at j = some t → (kL f)[j]? = some t
  | .nil, _, _, h => by cases h
  | .cons o m n k r, 0, t, h => by
    have : (⟨o, m, n, k⟩ : TN) = t := Option.some.inj h
    rw [kL, ← this]; rfl
  | .cons o m n k r, j + 1, t, h => kL_at (f := r) h

theorem kL_take {f : F} {k : Nat} {t : TN} (h : f.at k = some t) : (kL f).take (k + 1) = (kL f).take k ++ [t] := by
  have h1 := kL_at h
  obtain ⟨hlt, e⟩ := List.getElem?_eq_some_iff.1 h1
  rw [List.take_succ_eq_append_getElem hlt, e]

theorem dnK_snoc {G : Nat → Prop} {w : World} {t : TN} {p : Option Addr × Nat} : ∀ {l : List TN} {q : List (Option Addr × Nat)}, DnK G w l q → ReadsN G w p.1 t.ks → DnK G w (l ++ [t]) (q ++ [p])
  | [], [], _, h => ⟨h, trivial⟩
  | _ :: _, _ :: _, h, h2 => ⟨h.1, dnK_snoc h.2 h2⟩
  | [], _ :: _, h, _ => h.elim
  | _ :: _, [], h, _ => h.elim

theorem readsF_list {G : Nat → Prop} {w : World} {g : Nat} (hG : G g) (hlt : g < w.heap.size) : ∀ {f : F} {q : List (Option Addr × Nat)} {off : Nat}, (∀ j u, (lstL (kL f) q)[j]? = some u → w.cell? ⟨g, off + j, none⟩ = some u) → DnK G w (kL f) q → ReadsF G w f g off
  | .nil, _, _, _, _ => trivial
  | .cons o m n k r, [], _, _, hd => hd.elim
  | .cons o m n k r, p :: q, off, hc, hd => by
    refine reads_one (t := ⟨o, m, n, k⟩) (q := p) hG hlt (fun j u hj => ?_) hd.1 (readsF_list hG hlt (q := q) (off := off + 4) (fun j u hj => ?_) hd.2)
    · have hj4 : j < 4 := (List.getElem?_eq_some_iff.1 hj).1
      refine hc j u ?_
      rw [kL, lstL, List.getElem?_append_left (by exact hj4)]
      exact hj
    · have h := hc (4 + j) u (by
        rw [kL, lstL, List.getElem?_append_right (by show 4 ≤ _; omega), show 4 + j - (ndL ⟨o, m, n, k⟩ p).length = j by show 4 + j - 4 = j; omega]
        exact hj)
      rw [← Nat.add_assoc] at h
      exact h

/-- What the law's Of does at a tree. -/
def LofOK (t : TN) : Prop := ∀ (G : Nat → Prop) (w : World) (a : Option Addr) (c : Nat), sizeT t ≤ 1000 → ReadsN G w a t.ks → Calls Try.prog 9 #[nodeV t.op t.nm t.n a t.ks.len c] w fun e w' => ∃ a2 c2, e = .returned (nodeV t.op t.nm t.n a2 t.ks.len c2) ∧ ReadsK w.heap.size w' a2 t.ks ∧ Below w.heap.size w w'

theorem rndInfo : (Try.prog.info? 31).map (fun i => (i.zero, i.size, i.bytes)) = some (some (.agg #[.string ⟨#[]⟩, .string ⟨#[]⟩, .int .i64 0, .slice none 0 0]), 4, 64) := by kernel_rfl

theorem rndNew (w : World) (t : TN) (a : Option Addr) (c : Nat) : ∀ j u, (ndL t (a, c))[j]? = some u → (w.alloc (ndO t.op t.nm t.n a t.ks.len c)).cell? ((⟨w.heap.size, 0, none⟩ : Addr).add j) = some u := fun j u hj => by
  have e : ndL t (a, c) = (#[.string t.op, .string t.nm, .int .i64 t.n, .slice a t.ks.len c] : Array Value).toList := rfl
  rw [e] at hj
  rw [Addr.add_lit, Nat.zero_add, cell_of_row _ _ _ _ _ (0, 0) (heap_alloc_new w _)]
  simpa using hj

theorem four_set3' {W : World} {B : Nat} {x0 x1 x2 x3 : Value} {t : TypeId} (h : W.heap[B]? = some (.cells #[x0, x1, x2, x3] t (0, 0))) (u : Value) : (W.setCell ⟨B, 3, none⟩ u).heap[B]? = some (.cells #[x0, x1, x2, u] t (0, 0)) := by
  have := heap_setCell_same W B 3 _ t u h
  simpa using this

/-- What the loop keeps. -/
structure LO (w : World) (t : TN) (a : Option Addr) (c : Nat) (k : Nat) (va : Option Addr) (vc : Nat) (q : List (Option Addr × Nat)) (V : World) : Prop where
  b : Below w.heap.size w V
  bx : V.heap[w.heap.size]? = some (ndG t.op t.nm t.n a t.ks.len c)
  rs : V.heap[w.heap.size + 1]? = some (ndO ⟨#[]⟩ ⟨#[]⟩ 0 none 0 0)
  x : V.heap[w.heap.size + 2]? = some (ndO t.op t.nm t.n va k vc)
  o : V.ownsRow (w.heap.size + 3) 31 4 (.slice va k vc) k (lstL ((kL t.ks).take k) q)
  ql : q.length = k
  d : DnK (fun b => w.heap.size + 3 ≤ b ∧ (Value.slice va k vc).ownBlock ≠ some b) V ((kL t.ks).take k) q
  z : w.heap.size + 3 ≤ V.heap.size

set_option maxHeartbeats 8000000 in
set_option maxRecDepth 100000 in
theorem lof_step (t : TN) (ih : EachF LofOK t.ks) : LofOK t := by
  intro G w a c hs hr
  obtain ⟨i0, hi, hz0, hz1, hz2⟩ := info_parts rndInfo
  have und : Try.prog.underlying 29 = some (.slice 31) := Try.underlying29
  have hlen := len_size t.ks
  have hsz : sizeT t = 1 + sizeF t.ks := rfl
  have IH := Lib.hid ih
  have R := Lib.hid hr
  have B1 := (Below.refl w.heap.size w).alloc (Nat.le_refl _) (ndG t.op t.nm t.n a t.ks.len c)
  have N1 := heap_alloc_new w (ndG t.op t.nm t.n a t.ks.len c)
  have s1 : (w.alloc (ndG t.op t.nm t.n a t.ks.len c)).heap.size = w.heap.size + 1 := World.size_alloc _ _
  generalize hV1 : w.alloc (ndG t.op t.nm t.n a t.ks.len c) = V1 at B1 N1 s1
  have B2 := (Below.refl V1.heap.size V1).alloc (Nat.le_refl _) (ndO ⟨#[]⟩ ⟨#[]⟩ 0 none 0 0)
  have N2 := heap_alloc_new V1 (ndO ⟨#[]⟩ ⟨#[]⟩ 0 none 0 0)
  have s2 : (V1.alloc (ndO ⟨#[]⟩ ⟨#[]⟩ 0 none 0 0)).heap.size = w.heap.size + 2 := by rw [World.size_alloc]; omega
  generalize hV2 : V1.alloc (ndO ⟨#[]⟩ ⟨#[]⟩ 0 none 0 0) = V2 at B2 N2 s2
  have B3 := (Below.refl V2.heap.size V2).alloc (Nat.le_refl _) (ndO t.op t.nm t.n none 0 0)
  have N3 := heap_alloc_new V2 (ndO t.op t.nm t.n none 0 0)
  have s3 : (V2.alloc (ndO t.op t.nm t.n none 0 0)).heap.size = w.heap.size + 3 := by rw [World.size_alloc]; omega
  generalize hV3 : V2.alloc (ndO t.op t.nm t.n none 0 0) = V3 at B3 N3 s3
  rw [s1] at N2
  rw [s2] at N3
  have L0 := Lib.hid (show LO w t a c 0 none 0 [] V3 from ⟨(B1.trans (B2.mono (by omega))).trans (B3.mono (by omega)), (B3.block _ (by omega)).trans ((B2.block _ (by omega)).trans N1), (B3.block _ (by omega)).trans N2, N3, World.ownsRow_nil _ _ _ _, rfl, trivial, by omega⟩)
  have HV1 := Lib.hid hV1
  have HV2 := Lib.hid hV2
  have HV3 := Lib.hid hV3
  have HZ2 := Lib.hid s2
  obtain ⟨⟨m0, m1, m2, m3⟩, -⟩ := four ((B2.block _ (by omega)).trans N1)
  clear hV1 hV2 hV3 B1 B2 B3 N1 N2 N3 hr ih s1 s2 s3
  go_enter Try.func9, Try.ntmps9
  go_upto_region 1 with fail
  rw [HV1.out, HV2.out]
  go_upto_region 2 with fail
  rw [HV3.out, HZ2.out]
  clear m0 m1 m2 m3
  go_wp2_with fail
  go_loopw [4] (fun i wr => ∃ (k : Nat) (va : Option Addr) (vc : Nat) (q : List (Option Addr × Nat)), i = .int .i64 k ∧ k ≤ t.ks.len ∧ Hid (LO w t a c k va vc q wr)) (fun i _ => t.ks.len - (intOf i).toNat)
  case atStart => exact ⟨0, none, 0, [], rfl, Nat.zero_le _, L0⟩
  case round =>
    obtain ⟨k, va, vc, q, rfl, hk, hL⟩ := hrel
    obtain ⟨⟨m0, m1, m2, m3⟩, -⟩ := four hL.out.bx
    obtain ⟨⟨x0, x1, x2, x3⟩, y0, y1, y2, y3⟩ := four hL.out.x
    by_cases hlt : k < t.ks.len
    · obtain ⟨t2, hat, -⟩ := at_some hlt
      have hsd := size_drop hat
      have hdl := size_drop_le t.ks k
      obtain ⟨b, off, a2, c2, ha, hGb, hbl, ⟨p0, p1, p2, p3⟩, hr2⟩ := readsN_at (R.out.kept hL.out.b) hat
      subst ha
      have CI := Lib.hid ((EachF.at IH.out hat) G wr.drew a2 c2 (by omega) (hr2.kept ⟨rfl, rfl, rfl, Nat.le_refl _, fun _ _ => rfl⟩))
      have HT := Lib.hid (kL_take hat)
      have HTL : ((kL t.ks).take k).length = k := by rw [List.length_take, kL_len]; omega
      have a1 : (k : Int) < (t.ks.len : Int) := by omega
      have a2' : (0 : Int) ≤ (k : Int) := by omega
      have a3 : ((k : Int)).toNat = k := by omega
      have hk9 : k + 1 ≤ 1000 := by omega
      clear hat hr2 hGb
      go_wp2_with fail
      go_region_law (first
        | (go_simp
           go_at_call 9
           refine CI.out.mono ?_
           rintro e w2 ⟨a4, c4, rfl, hr4, hb4⟩
           have hb5 : Below wr.heap.size wr w2 := ⟨hb4.os, hb4.tape, hb4.output, hb4.size, hb4.block⟩
           have hz4 : w.heap.size + 3 ≤ w2.heap.size := Nat.le_trans hL.out.z hb4.size
           have X2 := (hb5.block _ (Array.getElem?_eq_some_iff.1 hL.out.x).1).trans hL.out.x
           have HB5 := Lib.hid hb5
           have HR4 := Lib.hid hr4
           have O2 := Lib.hid ((owns_below hL.out.o hb5).alloc (ndO t2.op t2.nm t2.n a4 t2.ks.len c4))
           clear x0 x1 x2 x3 y0 y1 y2 y3 hb4 hr4 hb5
           obtain ⟨⟨x0, x1, x2, x3⟩, y0, y1, y2, y3⟩ := four X2
           have X2a := (((Below.refl w2.heap.size w2).alloc (Nat.le_refl _) (.cells #[.string t2.op, .string t2.nm, .int .i64 t2.n, .slice a4 t2.ks.len c4] 31)).block _ (Array.getElem?_eq_some_iff.1 X2).1).trans X2
           obtain ⟨⟨u0, u1, u2, u3⟩, -⟩ := four X2a
           clear X2 X2a)
        | (refine step_append_new rfl (.tmp 20) (.tmp 27) 29 rfl (base := w.heap.size + 3) und hi hz0 hz1 hz2 rfl (by decide) (.slice va k vc) k 1 (lstL ((kL t.ks).take k) q) (ndL t2 (a4, c4)) ⟨w2.heap.size, 0, none⟩ 1 (by first | (simp [Act.eval]; done) | (simp [Act.eval, Act.put]; done) | fail) (by first | (simp [Act.eval]; done) | (simp [Act.eval, Act.put]; done) | fail) O2.out rfl (rndNew w2 t2 a4 c4) (ndL_one _ _) (by unfold maxLen; omega) (by omega) (by rw [World.size_alloc]; omega) ?_
           intro v3 w3 ho3 hg3 hq3
           obtain ⟨va3, vc3, rfl⟩ := own_rowG ho3
           have kg : Kept (fun b => (Value.slice va k vc).ownBlock = some b) w2 w3 := ((Kept.refl _ w2).alloc _).grown hg3 (fun q hq => .inl hq)
           have hov : ∀ b, (Value.slice va k vc).ownBlock = some b → w.heap.size + 3 ≤ b ∧ b < w2.heap.size := fun b hb => by have h1 := (hL.out.o.lt b hb); have := HB5.out.size; omega
           have X3 := kg.heap ((HB5.out.block _ (Array.getElem?_eq_some_iff.1 hL.out.x).1).trans hL.out.x) (fun e => by have := hov _ e; omega)
           have ks := (Kept.refl (· = w.heap.size + 2) w3).setCell (p := ⟨w.heap.size + 2, 3, none⟩) (.inl rfl) (.slice va3 (k + 1) vc3)
           have hnb : ∀ b, b < w2.heap.size → (Value.slice va k vc).ownBlock ≠ some b → (Value.slice va3 (k + 1) vc3).ownBlock ≠ some b := fun b hb hne e => by
             rcases hq3 b e with h1 | h1
             · exact hne h1
             · rw [World.size_alloc] at h1; omega
           have D2 : DnK (fun b => (w.heap.size + 3 ≤ b ∧ (Value.slice va k vc).ownBlock ≠ some b) ∧ (Value.slice va3 (k + 1) vc3).ownBlock ≠ some b) w2 ((kL t.ks).take k ++ [t2]) (q ++ [(a4, c4)]) := dnK_snoc ((hL.out.d.keptS (kept_below HB5.out (fun _ => False)) (fun _ h => h.elim)).imp (fun b hb hg => ⟨hg, hnb b hb hg.2⟩)) (HR4.out.imp (fun b hb hg => by
             have hg' : wr.heap.size ≤ b := hg
             have hz := hL.out.z
             have hne : (Value.slice va k vc).ownBlock ≠ some b := fun e => by have := (hL.out.o.lt b e).2; omega
             exact ⟨⟨by omega, hne⟩, hnb b hb hne⟩))
           have D3 := ((D2.keptS kg (fun b hb hg => hg.1.2 hb)).keptS ks (fun b hb hg => by have := hg.1.1; omega)).imp (H := fun b => w.heap.size + 3 ≤ b ∧ (Value.slice va3 (k + 1) vc3).ownBlock ≠ some b) (fun b _ hg => ⟨hg.1.1, hg.2⟩)
           have L3 := Lib.hid (show LO w t (some ⟨b, off, none⟩) c (k + 1) va3 vc3 (q ++ [(a4, c4)]) (w3.setCell ⟨w.heap.size + 2, 3, none⟩ (.slice va3 (k + 1) vc3)) from ⟨
             (hL.out.b.trans (HB5.out.mono (by have := hL.out.z; omega))).trans ((kg.mono (T := fun b => w.heap.size ≤ b) (fun i hi _ => by have := hov i hi; omega)).below (fun _ h => h) (by omega) |>.trans (ks.below (B := w.heap.size) (fun i hi => by omega) (by have := kg.size; omega))),
             ks.heap (kg.heap ((HB5.out.block _ (Array.getElem?_eq_some_iff.1 hL.out.bx).1).trans hL.out.bx) (fun e => by have := hov _ e; omega)) (by omega),
             ks.heap (kg.heap ((HB5.out.block _ (Array.getElem?_eq_some_iff.1 hL.out.rs).1).trans hL.out.rs) (fun e => by have := hov _ e; omega)) (by omega),
             four_set3' X3 _,
             by
               rw [HT.out, lstL_app _ _ _ _ (by rw [hL.out.ql, HTL])]
               have e : lstL [t2] [(a4, c4)] = ndL t2 (a4, c4) := by simp [lstL]
               rw [e]
               exact owns_set ho3 (by omega) _ _,
             by rw [List.length_append, hL.out.ql]; rfl,
             by rw [HT.out]; exact D3,
             by rw [World.size_setCell]; have := kg.size; omega⟩)
           obtain ⟨-, y0', y1', y2', y3'⟩ := four X3
           obtain ⟨⟨x0', x1', x2', x3'⟩, -⟩ := four X3
           clear ho3 hg3 hq3 kg hov X3 ks hnb D2 D3 x0 x1 x2 x3 y0 y1 y2 y3)
        | fail)
      all_goals
        go_wp2_with fail
        go_roundw
        case rel => exact ⟨k + 1, va3, vc3, q ++ [(a4, c4)], by go_num, by omega, L3⟩
        case measure => simp [intOf]; omega
    · obtain rfl : k = t.ks.len := by omega
      have htk : (kL t.ks).take t.ks.len = kL t.ks := List.take_of_length_le (by rw [kL_len]; exact Nat.le_refl _)
      have P := Lib.hid (show ReadsN (fun b => w.heap.size + 3 ≤ b) wr va t.ks by
        have ho := hL.out.o
        have hd := hL.out.d
        rw [htk] at ho hd
        by_cases h0 : t.ks = .nil
        · exact .inl h0
        · have hne : t.ks.len ≠ 0 := fun e => h0 (len_zero e)
          obtain ⟨g, cc, hv, -, -, hc⟩ := own_full ho hne
          simp only [Value.slice.injEq, true_and] at hv
          obtain ⟨rfl, rfl⟩ := hv
          have hg := ho.lt g rfl
          exact .inr ⟨g, 0, rfl, readsF_list (G := fun b => w.heap.size + 3 ≤ b) hg.1 hg.2 (fun j u hj => by rw [Nat.zero_add]; exact hc j u hj) (hd.imp (fun b _ hg => hg.1))⟩)
      obtain ⟨⟨r0, r1, r2, r3⟩, z0, z1, z2, z3⟩ := four hL.out.rs
      have a1 : ¬ (t.ks.len : Int) < (t.ks.len : Int) := by omega
      clear htk
      go_wp2_with fail
      have KP := kept_put4 wr (w.heap.size + 1) t.op t.nm t.n va t.ks.len vc
      obtain ⟨⟨d0, d1, d2, d3⟩, -⟩ := four (four_set hL.out.rs (.string t.op) (.string t.nm) (.int .i64 t.n) (.slice va t.ks.len vc))
      exact bodyPost_ret (v := nodeV t.op t.nm t.n va t.ks.len vc) (by simp [results, Try.results9, go_sem, d0, d1, d2, d3]) rfl
        ⟨va, ⟨vc, rfl⟩, (P.out.keptS KP (fun b hb hg => by omega)).imp (fun b _ hg => by omega), hL.out.b.trans (KP.below (B := w.heap.size) (fun b hb => by omega) (by have := hL.out.z; omega))⟩

theorem lof_any (t : TN) : LofOK t := tree_of lof_step t

end

section
open Go.RowKit

/-- Is a node's name or sign too long? -/
def wideB (o m : ByteArray) : Bool := decide (100 < (m.size : Int)) || decide (20 < (o.size : Int))

def leftF : F → Int → Int
  | .nil, l => l
  | .cons o m _ ks r, l => if l < 0 then l else leftF r (if wideB o m = true then -1 else leftF ks (l - 1))

/-- What is left of l nodes behind a tree. -/
def leftT (t : TN) (l : Int) : Int := if wideB t.op t.nm = true then -1 else leftF t.ks (l - 1)

theorem left_cons {f : F} {t : TN} {r : F} {l : Int} (h : f = .cons t.op t.nm t.n t.ks r) : leftF f l = if l < 0 then l else leftF r (leftT t l) := by
  rw [h, leftF]; rfl

theorem left_le : ∀ (f : F) (l : Int), leftF f l ≤ l ∨ leftF f l = -1
  | .nil, _ => .inl (Int.le_refl _)
  | .cons o m _ ks r, l => by
    rw [leftF]
    split
    · exact .inl (Int.le_refl _)
    · rename_i h0
      have h1 := left_le r (if wideB o m = true then -1 else leftF ks (l - 1))
      have h2 := left_le ks (l - 1)
      split at h1
      · rename_i h
        rw [if_pos h]
        omega
      · rename_i h
        rw [if_neg h]
        omega

theorem left_ge : ∀ (f : F) (l : Int), -1 ≤ l → -1 ≤ leftF f l
  | .nil, _, h => h
  | .cons o m _ ks r, l, h => by
    rw [leftF]
    split
    · exact h
    · refine left_ge r _ ?_
      split
      · exact Int.le_refl _
      · exact left_ge ks _ (by omega)

/-- What is left says how many there are, and that names are short. -/
theorem left_size : ∀ (f : F) (l : Int), 0 ≤ l → l ≤ 1000 → 0 ≤ leftF f l → (sizeF f : Int) ≤ l - leftF f l ∧ SzF f
  | .nil, l, _, _, _ => ⟨by rw [leftF, sizeF]; omega, trivial⟩
  | .cons o m _ ks r, l, h0, h9, h => by
    rw [leftF, if_neg (by omega)] at h ⊢
    cases hw : wideB o m with
    | true =>
      rw [hw, if_pos rfl] at h
      exfalso
      cases r with
      | nil => rw [leftF] at h; omega
      | cons _ _ _ _ _ => rw [leftF, if_pos (by decide)] at h; omega
    | false =>
      rw [hw, if_neg (by decide)] at h
      rw [if_neg (by decide)]
      have hk : 0 ≤ leftF ks (l - 1) := by
        rcases Int.lt_or_le (leftF ks (l - 1)) 0 with hn | hn
        · exfalso
          have h2 := left_le r (leftF ks (l - 1))
          omega
        · exact hn
      have hl1 : 0 ≤ l - 1 := by
        have := left_le ks (l - 1)
        omega
      obtain ⟨k1, k2⟩ := left_size ks (l - 1) hl1 (by omega) hk
      have hk9 : leftF ks (l - 1) ≤ 1000 := by have := left_le ks (l - 1); omega
      obtain ⟨r1, r2⟩ := left_size r _ hk hk9 h
      refine ⟨by rw [sizeF]; omega, ?_, ?_, k2, r2⟩
      · unfold wideB at hw
        simp only [Bool.or_eq_false_iff, decide_eq_false_iff_not] at hw
        omega
      · have : ∀ f : F, f.len ≤ sizeF f := by
          intro f
          induction f with
          | nil => exact Nat.le_refl _
          | cons _ _ _ _ r _ ih => rw [F.len, sizeF]; omega
        have := this ks
        omega

abbrev ndP (o m : ByteArray) (n : Int) (a : Option Addr) (l c : Nat) : Obj := .cells #[.string o, .string m, .int .i64 n, .slice a l c] 24

/-- The contract of left at a tree. -/
def LeftOK (t : TN) : Prop := ∀ (G : Nat → Prop) (w : World) (a : Option Addr) (c : Nat) (l : Int), 0 ≤ l → l ≤ 1000 → LenF t.f → ReadsN G w a t.ks → Calls Try.prog 18 #[nodeV t.op t.nm t.n a t.ks.len c, .int .i64 l] w fun e w' => e = .returned (.int .i64 (leftT t l)) ∧ Below w.heap.size w w'

set_option maxHeartbeats 4000000 in
theorem left_step (t : TN) (ih : EachF LeftOK t.ks) : LeftOK t := by
  intro G w a c l hl0 hl1 hL hr
  have R := Lib.hid hr
  have IH := Lib.hid ih
  obtain ⟨hm, hL2, -⟩ := hL
  have LK := Lib.hid hL2
  obtain ⟨r, hR⟩ : ∃ r, leftT t l = r := ⟨_, rfl⟩
  rw [hR]
  unfold leftT wideB at hR
  have NB := Lib.hid (heap_alloc_new w (ndP t.op t.nm t.n a t.ks.len c))
  have B0 := Lib.hid ((Below.refl w.heap.size w).alloc (Nat.le_refl _) (ndP t.op t.nm t.n a t.ks.len c))
  clear hr ih hL2
  by_cases h1 : (100 : Int) < t.nm.size
  · have RR := Lib.hid (show (-1 : Int) = r by rw [← hR, decide_eq_true h1]; rfl)
    clear hR
    go_enter Try.func18, Try.ntmps18
    go_wp2_with fail
    go_ret
    rw [RR.out]
    exact ⟨rfl, B0.out⟩
  · by_cases h2 : (20 : Int) < t.op.size
    · have RR := Lib.hid (show (-1 : Int) = r by rw [← hR, decide_eq_true h2, Bool.or_true]; rfl)
      clear hR
      go_enter Try.func18, Try.ntmps18
      go_wp2_with fail
      go_ret
      rw [RR.out]
      exact ⟨rfl, B0.out⟩
    · have H0 := Lib.hid (show leftF (t.ks.drop 0) (l - 1) = r by rw [F.drop_zero, ← hR, decide_eq_false h1, decide_eq_false h2]; rfl)
      clear hR
      go_enter Try.func18, Try.ntmps18
      go_wp2_with fail
      generalize w.alloc (ndP t.op t.nm t.n a t.ks.len c) = W at NB B0 ⊢
      go_loopw [1, 5] (fun v i wr => ∃ (k : Nat) (x : Int), i = .int .i64 k ∧ v = .int .i64 x ∧ k ≤ t.ks.len ∧ -1 ≤ x ∧ x ≤ 1000 ∧ Hid (leftF (t.ks.drop k) x = r) ∧ Hid (Below w.heap.size w wr) ∧ Hid (wr.heap[w.heap.size]? = some (ndP t.op t.nm t.n a t.ks.len c))) (fun _ i _ => t.ks.len - (intOf i).toNat)
      case atStart => exact ⟨0, l - 1, rfl, rfl, Nat.zero_le _, by omega, by omega, H0, B0, NB⟩
      case round =>
        obtain ⟨k, x, rfl, rfl, hk, hx0, hx1, hE, hB, hN⟩ := hrel
        obtain ⟨⟨m0, m1, m2, m3⟩, -⟩ := four hN.out
        by_cases hlt : k < t.ks.len
        · obtain ⟨t2, hat, hdr⟩ := at_some hlt
          by_cases hx : x < 0
          · have RR := Lib.hid (show x = r by rw [← hE.out, left_cons hdr, if_pos hx])
            have g0 : ¬ (0 : Int) ≤ x := by omega
            clear hat hdr hx
            go_wp2_with fail
            go_ret
            rw [RR.out]
            exact ⟨rfl, hB.out⟩
          · have g0 : (0 : Int) ≤ x := by omega
            obtain ⟨b, off, a2, c2, ha, hG, hbl, ⟨p0, p1, p2, p3⟩, hr2⟩ := readsN_at (R.out.kept hB.out) hat
            have EN := Lib.hid (show leftF (t.ks.drop (k + 1)) (leftT t2 x) = r by rw [← hE.out, left_cons hdr, if_neg hx])
            have C := Lib.hid ((EachF.at IH.out hat) G wr a2 c2 x g0 hx1 (LK.out.at hat) hr2)
            have h3 : -1 ≤ leftT t2 x := by
              unfold leftT
              split
              · exact Int.le_refl _
              · exact left_ge _ _ (by omega)
            have h4 : leftT t2 x ≤ 1000 := by
              unfold leftT
              split
              · omega
              · have := left_le t2.ks (x - 1); omega
            subst ha
            obtain ⟨y, hy⟩ : ∃ y, leftT t2 x = y := ⟨_, rfl⟩
            rw [hy] at C EN h3 h4
            clear hat hdr hx hr2 hy
            go_wp2_with fail
            refine C.out.mono ?_
            rintro e w1 ⟨rfl, hb⟩
            have hz := hB.out.size
            have B1 := Lib.hid (hB.out.trans (hb.mono hz))
            have N1 := Lib.hid ((hb.block _ (lt_block hN.out)).trans hN.out)
            clear hb C m0 m1 m2 m3
            go_wp2_with fail
            go_roundw
            case rel => exact ⟨k + 1, y, by go_num, rfl, by omega, h3, h4, EN, B1, N1⟩
            case measure => simp [intOf]; omega
        · have RR := Lib.hid (show x = r by rw [← hE.out, F.drop_len _ _ (by omega)]; rfl)
          go_wp2_with fail
          go_ret
          rw [RR.out]
          exact ⟨rfl, hB.out⟩

theorem left_any (t : TN) : LeftOK t := tree_of left_step t

theorem few_good {t : TN} (h : 0 ≤ leftT t 60) (hl : t.ks.len ≤ 9223372036854775807) : sizeT t ≤ 60 ∧ SzF t.f := by
  unfold leftT at h
  cases hw : wideB t.op t.nm with
  | true => rw [hw, if_pos rfl] at h; omega
  | false =>
    rw [hw, if_neg (by decide)] at h
    obtain ⟨h1, h2⟩ := left_size t.ks (60 - 1) (by decide) (by decide) h
    unfold wideB at hw
    simp only [Bool.or_eq_false_iff, decide_eq_false_iff_not] at hw
    refine ⟨by unfold sizeT; omega, by omega, hl, h2, trivial⟩

set_option maxHeartbeats 4000000 in
theorem few_any {G : Nat → Prop} {w : World} {a : Option Addr} {t : TN} (c : Nat) (hL : LenF t.f) (hr : ReadsN G w a t.ks) : Calls Try.prog 7 #[nodeV t.op t.nm t.n a t.ks.len c] w fun e w' => e = .returned (.bool (decide (0 ≤ leftT t 60))) ∧ Below w.heap.size w w' := by
  have C := Lib.hid (fun V (hV : Below w.heap.size w V) => left_any t G V a c 60 (by decide) (by decide) hL (hr.kept hV))
  have B0 := Lib.hid ((Below.refl w.heap.size w).alloc (Nat.le_refl _) (ndP t.op t.nm t.n a t.ks.len c))
  have NB := Lib.hid (heap_alloc_new w (ndP t.op t.nm t.n a t.ks.len c))
  obtain ⟨x, hx⟩ : ∃ x, leftT t 60 = x := ⟨_, rfl⟩
  rw [hx] at C ⊢
  clear hx hL hr
  go_enter Try.func7, Try.ntmps7
  go_wp2_with fail
  generalize w.alloc (ndP t.op t.nm t.n a t.ks.len c) = W at NB B0 ⊢
  obtain ⟨⟨m0, m1, m2, m3⟩, -⟩ := four NB.out
  go_wp2_with fail
  refine (C.out W B0.out).mono ?_
  rintro e w1 ⟨rfl, hb⟩
  have B1 := Lib.hid (B0.out.trans (hb.mono B0.out.size))
  clear hb
  go_wp2_with fail
  go_ret
  exact ⟨rfl, B1.out⟩

end

section
open Go.RowKit

/-- What foldWithin does at a tree. -/
def FoldL (t : TN) : Prop := ∀ (G : Nat → Prop) (lb : Nat) (w : World) (a : Option Addr) (c l : Nat), l ≤ 1000 → PreL t → (∀ b, G b → b ≠ lb) → WdL lb w → ReadsN G w a t.ks → w.heap[lb]? = some (.cells #[.int .i64 l] 3 (0, 0)) →
  Calls Try.prog 46 #[.pointer (some ⟨lb, 0, none⟩), nodeV t.op t.nm t.n a t.ks.len c, .func (.func 33) #[] #[]] w fun e w' => Kept (· = lb) w w' ∧
    (sizeT t ≤ l → ∃ v, e = .returned (.tuple #[v, .bool true]) ∧ ResL (fun b => w.heap.size ≤ b) w' t v) ∧
    (sizeT t ≤ l → w'.heap[lb]? = some (.cells #[.int .i64 ((l - sizeT t : Nat) : Int)] 3 (0, 0))) ∧
    (¬ sizeT t ≤ l → e = .returned (.tuple #[.slice none 0 0, .bool false]))

set_option maxHeartbeats 8000000 in
set_option maxRecDepth 100000 in
theorem foldL_step (t : TN) (ih : EachF FoldL t.ks) : FoldL t := by
  intro G lb w a c l hl hpre hG hwd hr hlb
  obtain ⟨i0, hi, hz0, hz1, hz2⟩ := info_parts infoL
  have und : Try.prog.underlying 87 = some (.slice 22) := Try.underlying87
  have hlt := (Array.getElem?_eq_some_iff.1 hlb).1
  have IH := Lib.hid ih
  have R := Lib.hid hr
  have PRE := Lib.hid hpre
  have HG := Lib.hid hG
  have WD := Lib.hid hwd
  have BA := (Below.refl w.heap.size w).alloc (Nat.le_refl _) (ndG t.op t.nm t.n a t.ks.len c)
  have NB := heap_alloc_new w (ndG t.op t.nm t.n a t.ks.len c)
  have LB1 := (BA.block lb hlt).trans hlb
  have hs0 : (w.alloc (ndG t.op t.nm t.n a t.ks.len c)).heap.size = w.heap.size + 1 := World.size_alloc _ _
  generalize hW : w.alloc (ndG t.op t.nm t.n a t.ks.len c) = W at BA NB LB1 hs0
  have HW := Lib.hid hW
  have hsize : sizeT t = 1 + sizeF t.ks := rfl
  have hlen := len_size t.ks
  have K1 := (kept_below BA (· = lb)).setCell (p := ⟨lb, 0, none⟩) (.inl rfl) (.int .i64 ((l : Int) - 1))
  have LB2 := one_set LB1 (.int .i64 ((l : Int) - 1))
  have NB2 := ((Kept.refl (· = lb) W).setCell (p := ⟨lb, 0, none⟩) (.inl rfl) (.int .i64 ((l : Int) - 1))).heap NB (by omega)
  have hs1 : (W.setCell ⟨lb, 0, none⟩ (.int .i64 ((l : Int) - 1))).heap.size = w.heap.size + 1 := by rw [World.size_setCell]; exact hs0
  obtain ⟨lc, lf⟩ := one_cell LB1
  by_cases hstop : (l : Int) - 1 < (t.ks.len : Int)
  · have P := Lib.hid (show ¬ sizeT t ≤ l by omega)
    generalize hV : W.setCell ⟨lb, 0, none⟩ (.int .i64 ((l : Int) - 1)) = V at K1 LB2 NB2 hs1
    have HV := Lib.hid hV
    obtain ⟨lc2, -⟩ := one_cell LB2
    obtain ⟨⟨m0, m1, m2, m3⟩, -⟩ := four NB2
    have HK1 := Lib.hid K1
    clear hr hpre hG ih hwd hlb hW hV K1 LB1 LB2 NB NB2 BA hsize
    go_enter Try.func46, Try.ntmps46
    go_upto_region 2 with fail
    rw [HW.out]
    go_upto_region 3 with fail
    rw [HV.out]
    go_wp2_with (go_quiet (fail))
    go_ret2
    exact ⟨HK1.out.drewN _, fun h => absurd h P.out, fun h => absurd h P.out, fun _ => rfl⟩
  · obtain ⟨l', rfl⟩ : ∃ l', l = l' + 1 := ⟨l - 1, by omega⟩
    have hcast : (((l' + 1 : Nat) : Int) - 1) = (l' : Int) := by omega
    rw [hcast] at K1 LB2 NB2 hs1 hstop
    generalize hV : W.setCell ⟨lb, 0, none⟩ (.int .i64 (l' : Int)) = V at K1 LB2 NB2 hs1
    have HV := Lib.hid hV
    obtain ⟨lc2, -⟩ := one_cell LB2
    obtain ⟨⟨m0, m1, m2, m3⟩, -⟩ := four NB2
    have HK1 := Lib.hid K1
    have HLB := Lib.hid LB2
    have HNB := Lib.hid NB2
    have hll : t.ks.len ≤ l' := by omega
    have b9 : ¬ (l' : Int) < (t.ks.len : Int) := hstop
    clear hr hpre hG ih hwd hlb hW hV K1 LB1 LB2 NB NB2 BA hstop hcast
    go_enter Try.func46, Try.ntmps46
    go_upto_region 2 with fail
    rw [HW.out]
    go_upto_region 3 with fail
    rw [HV.out]
    go_upto_region 5 with (go_quiet (fail))
    have HK2 := Lib.hid (HK1.out.drewN nq)
    have HLB2 := Lib.hid (show (V.drewN nq).heap[lb]? = _ from HLB.out)
    have HNB2 := Lib.hid (show (V.drewN nq).heap[w.heap.size]? = _ from HNB.out)
    have hsV : (V.drewN nq).heap.size = w.heap.size + 1 := hs1
    have n3 : (V.drewN nq).cell? ⟨w.heap.size, 3, none⟩ = some (.slice a t.ks.len c) := m3
    generalize V.drewN nq = U at HK2 HLB2 HNB2 hsV n3 ⊢
    clear m0 m1 m2 m3 lc lf lc2 HW HV HK1 HLB HNB
    go_wp2_with fail
    go_loopw [9, 30] (fun kv i wr => ∃ (k x : Nat) (va : Option Addr) (vc : Nat) (vs : List Value), kv = .slice va k vc ∧ i = .int .i64 k ∧ k ≤ t.ks.len ∧ x + sizeF t.ks = l' + sizeF (t.ks.drop k) ∧ Hid (wr.ownsRow (w.heap.size + 1) 22 1 (.slice va k vc) k vs) ∧
      Hid (∀ j t2, j < k → t.ks.at j = some t2 → ∃ v, vs[j]? = some v ∧ ResL (fun b => w.heap.size + 1 ≤ b ∧ (Value.slice va k vc).ownBlock ≠ some b) wr t2 v) ∧ Hid (wr.heap[lb]? = some (.cells #[.int .i64 x] 3 (0, 0))) ∧ Hid (Kept (· = lb) w wr) ∧ Hid (wr.heap[w.heap.size]? = some (ndG t.op t.nm t.n a t.ks.len c))) (fun _ i _ => t.ks.len - (intOf i).toNat)
    case atStart => exact ⟨0, l', none, 0, [], rfl, rfl, Nat.zero_le _, by rw [F.drop_zero], Lib.hid (World.ownsRow_nil _ _ _ _), Lib.hid (fun _ _ h => absurd h (Nat.not_lt_zero _)), HLB2, HK2, HNB2⟩
    case round =>
      obtain ⟨k, x, va, vc, vs, rfl, rfl, hk, hx, hO, hV, hL, hK, hN⟩ := hrel
      clear n3
      obtain ⟨⟨m0, m1, m2, m3⟩, -⟩ := four hN.out
      have hz := hK.out.size
      by_cases hkl : k < t.ks.len
      · obtain ⟨t2, hat, -⟩ := at_some hkl
        have hsd := size_drop hat
        have hdl := size_drop_le t.ks k
        obtain ⟨b, off, a2, c2, ha, hGb, hbl, ⟨p0, p1, p2, p3⟩, hr2⟩ := readsN_at (R.out.keptS hK.out (fun q hq hg => HG.out q hg hq)) hat
        subst ha
        have hN1 : w.heap.size < wr.heap.size := (Array.getElem?_eq_some_iff.1 hN.out).1
        have BA := (Below.refl wr.heap.size wr).alloc (Nat.le_refl _) (ndG t2.op t2.nm t2.n a2 t2.ks.len c2)
        have NB := heap_alloc_new wr (ndG t2.op t2.nm t2.n a2 t2.ks.len c2)
        have hs2 : (wr.alloc (ndG t2.op t2.nm t2.n a2 t2.ks.len c2)).heap.size = wr.heap.size + 1 := World.size_alloc _ _
        generalize hX : wr.alloc (ndG t2.op t2.nm t2.n a2 t2.ks.len c2) = Z at BA NB hs2
        have HX := Lib.hid hX
        have CF := Lib.hid ((EachF.at IH.out hat) G lb Z a2 c2 x (by omega) (preL2 PRE.out hat) HG.out (wdL WD.out (hK.out.trans (kept_below BA (· = lb)) (fun _ h _ => h))) (hr2.kept BA) ((BA.block lb (by omega)).trans hL.out))
        have HAT := Lib.hid hat
        have HBA := Lib.hid BA
        have OZ := Lib.hid (owns_below hO.out BA)
        obtain ⟨⟨z0, z1, z2, z3⟩, -⟩ := four NB
        clear hX BA NB hr2 hat hGb
        go_upto_region 9 with fail
        rw [HX.out]
        clear p0 p1 p2 p3 m0 m1 m2 m3
        go_wp2_with fail
        refine CF.out.mono ?_
        rintro e w2 ⟨k2, hA1, hA2, hB⟩
        have hzk2 := k2.size
        have K2 := Lib.hid (hK.out.trans ((kept_below HBA.out (· = lb)).trans k2 (fun _ h _ => h)) (fun _ h _ => h))
        have N2 := Lib.hid (k2.heap ((HBA.out.block w.heap.size (by omega)).trans hN.out) (by omega))
        by_cases hfit : sizeT t2 ≤ x
        · obtain ⟨v, rfl, hv⟩ := hA1 hfit
          obtain ⟨za, zn, zc, rfl⟩ := shapeL hv
          have L2 := Lib.hid (hA2 hfit)
          have O2 := Lib.hid (owns_kept (row := some lb) OZ.out (k2.mono (fun i hi _ => by rw [hi])) (fun q hq e => by have := (OZ.out.lt q hq).1; have := Option.some.inj e; omega))
          have HVV := Lib.hid hv
          have hx2 : (x - sizeT t2) + sizeF t.ks = l' + sizeF (t.ks.drop (k + 1)) := by omega
          have hksz : k + 1 ≤ 1000 := by omega
          have vone : ∀ u ∈ [(Value.slice za zn zc)], u.oneCell' = true := fun u hu => by rw [List.mem_singleton.1 hu]; exact oneL hv
          clear CF hA1 hA2 hB hv hfit z0 z1 z2 z3
          go_upto_region 12 with fail
          have BN := (Below.refl w2.heap.size w2).alloc (Nat.le_refl _) (.cells #[(Value.slice za zn zc)] 22)
          have F2 := Lib.hid (show ∀ j u, [(Value.slice za zn zc)][j]? = some u → (w2.alloc (.cells #[(Value.slice za zn zc)] 22)).cell? ((⟨w2.heap.size, 0, none⟩ : Addr).add j) = some u from fun j u hj => by
            rw [Addr.add_lit, Nat.zero_add, cell_of_row _ _ _ _ _ (0, 0) (heap_alloc_new w2 _)]
            simpa using hj)
          have HBN := Lib.hid BN
          clear BN
          go_wp2_with (at_builtin; refine wpList_append_new rfl _ _ 87 rfl und hi hz0 hz1 hz2 rfl (by decide) (.slice va k vc) k 1 1 ⟨w2.heap.size, 0, none⟩ vs [(Value.slice za zn zc)] rfl rfl (owns_below O2.out HBN.out) rfl F2.out vone (by unfold maxLen; omega) (by omega) (by rw [World.size_alloc]; omega) ?_)
          intro v3 w3 ho hg hq
          obtain ⟨va3, vc3, rfl⟩ := own_rowG ho
          have kg : Kept (fun b => (Value.slice va k vc).ownBlock = some b) w2 w3 := ((Kept.refl _ w2).alloc _).grown hg (fun q hq => .inl hq)
          have hov : ∀ q, (Value.slice va k vc).ownBlock = some q → w.heap.size + 1 ≤ q ∧ q < w2.heap.size := fun q hq => by have := O2.out.lt q hq; omega
          have O3 := Lib.hid ho
          have L3 := Lib.hid (kg.heap L2.out (fun e => by have := hov lb e; omega))
          have K3 := Lib.hid (K2.out.trans (kg.mono (T := fun b => w.heap.size + 1 ≤ b) (fun i hi _ => (hov i hi).1)) (fun i hi hlt => by omega))
          have N3 := Lib.hid (kg.heap N2.out (fun e => by have := hov _ e; omega))
          have hnewb : ∀ b, b < w2.heap.size → (Value.slice va k vc).ownBlock ≠ some b → (Value.slice va3 (k + 1) vc3).ownBlock ≠ some b := fun b hb hne e => by
            rcases hq b e with h1 | h1
            · exact hne h1
            · omega
          have V3 := Lib.hid (show ∀ j t3, j < k + 1 → t.ks.at j = some t3 → ∃ u, (vs ++ [(Value.slice za zn zc)])[j]? = some u ∧ ResL (fun b => w.heap.size + 1 ≤ b ∧ (Value.slice va3 (k + 1) vc3).ownBlock ≠ some b) w3 t3 u from fun j t3 hj hjt => by
            have hvl : vs.length = k := by have := hO.out.1; rwa [Nat.mul_one] at this
            by_cases hjk : j < k
            · obtain ⟨u, hu, hru⟩ := hV.out j t3 hjk hjt
              refine ⟨u, by rw [List.getElem?_append_left (by omega)]; exact hu, ?_⟩
              have r1 := resL_keptS (resL_keptS hru (kept_below HBA.out (fun _ => False)) (fun _ h => h.elim)) k2 (fun q hq hg => by have := hg.1; omega)
              have r2 := resL_imp (H := fun b => (w.heap.size + 1 ≤ b ∧ (Value.slice va k vc).ownBlock ≠ some b) ∧ (Value.slice va3 (k + 1) vc3).ownBlock ≠ some b) r1 (fun b hb hg => ⟨hg, hnewb b hb hg.2⟩)
              exact resL_imp (resL_keptS r2 kg (fun q hq hg => hg.1.2 hq)) (fun b hb hg => ⟨hg.1.1, hg.2⟩)
            · obtain rfl : j = k := by omega
              have : t3 = t2 := by rw [HAT.out] at hjt; exact (Option.some.inj hjt).symm
              subst this
              refine ⟨_, by rw [List.getElem?_append_right (by omega), hvl, Nat.sub_self]; rfl, ?_⟩
              have r2 := resL_imp (H := fun b => (w.heap.size + 1 ≤ b ∧ (Value.slice va j vc).ownBlock ≠ some b) ∧ (Value.slice va3 (j + 1) vc3).ownBlock ≠ some b) HVV.out (fun b hb hg => by
                have hne : (Value.slice va j vc).ownBlock ≠ some b := fun e => by have := (OZ.out.lt b e).2; omega
                exact ⟨⟨by omega, hne⟩, hnewb b hb hne⟩)
              exact resL_imp (resL_keptS r2 kg (fun q hq hg => hg.1.2 hq)) (fun b hb hg => ⟨hg.1.1, hg.2⟩))
          clear ho hg hq kg hov hnewb
          go_wp2_with fail
          go_roundw
          case rel => exact ⟨k + 1, x - sizeT t2, va3, vc3, vs ++ [(Value.slice za zn zc)], rfl, by go_num, by omega, hx2, O3, V3, L3, K3, N3⟩
          case measure => simp [intOf]; omega
        · obtain rfl := hB hfit
          have P := Lib.hid (show ¬ sizeT t ≤ l' + 1 by omega)
          clear CF hA1 hA2 hB hfit z0 z1 z2 z3
          go_wp2_with fail
          go_ret2
          exact ⟨K2.out, fun h => absurd h P.out, fun h => absurd h P.out, fun _ => rfl⟩
      · obtain rfl : k = t.ks.len := by omega
        have hx2 : x + sizeF t.ks = l' := by rw [hx, F.drop_len _ _ (Nat.le_refl _)]; rfl
        have CO := Lib.hid (ofL_any t wr G a c va vc vs (w.heap.size + 1) PRE.out (wdL WD.out hK.out) (R.out.keptS hK.out (fun q hq hg => HG.out q hg hq)) hO.out (fun j t2 hj => hV.out j t2 (at_lt hj) hj))
        go_wp2_with fail
        refine CO.out.mono ?_
        rintro e w2 ⟨v, rfl, hv, hb⟩
        have P := Lib.hid (show Kept (· = lb) w w2 ∧ ResL (fun b => w.heap.size ≤ b) w2 t v ∧ w2.heap[lb]? = some (.cells #[.int .i64 ((l' + 1 - sizeT t : Nat) : Int)] 3 (0, 0)) ∧ sizeT t ≤ l' + 1 from
          ⟨hK.out.trans (kept_below hb (· = lb)) (fun _ h _ => h), resL_imp hv (fun b _ hg => by omega), by rw [hb.block lb (by omega), hL.out, show x = l' + 1 - sizeT t by omega], by omega⟩)
        clear hv hb CO m0 m1 m2 m3
        go_wp2_with fail
        go_ret2
        exact ⟨P.out.1, fun _ => ⟨v, rfl, P.out.2.1⟩, fun _ => P.out.2.2.1, fun h => absurd P.out.2.2.2 h⟩

theorem foldL_all (t : TN) : FoldL t := tree_of foldL_step t

set_option maxHeartbeats 4000000 in
set_option maxRecDepth 100000 in
theorem foldL_any (t : TN) (G : Nat → Prop) (w : World) (a : Option Addr) (c : Nat) (hpre : PreL t) (hwd : ∀ lb, w.heap.size ≤ lb → WdL lb w) (hr : ReadsN G w a t.ks) :
    Calls Try.prog 32 #[nodeV t.op t.nm t.n a t.ks.len c, .func (.func 33) #[] #[]] w fun e w' => Below w.heap.size w w' ∧
      (sizeT t ≤ 32 → ∃ v, e = .returned (.tuple #[v, .bool true]) ∧ ResL (fun b => w.heap.size ≤ b) w' t v) ∧ (¬ sizeT t ≤ 32 → e = .returned (.tuple #[.slice none 0 0, .bool false])) := by
  have BA := (Below.refl w.heap.size w).alloc (Nat.le_refl _) (ndG t.op t.nm t.n a t.ks.len c)
  have NB := heap_alloc_new w (ndG t.op t.nm t.n a t.ks.len c)
  have hs0 : (w.alloc (ndG t.op t.nm t.n a t.ks.len c)).heap.size = w.heap.size + 1 := World.size_alloc _ _
  generalize hW : w.alloc (ndG t.op t.nm t.n a t.ks.len c) = W at BA NB hs0
  have BB := (Below.refl W.heap.size W).alloc (Nat.le_refl _) (.cells #[.int .i64 32] 3)
  have NC := heap_alloc_new W (.cells #[.int .i64 32] 3)
  have hs1 : (W.alloc (.cells #[.int .i64 32] 3)).heap.size = w.heap.size + 2 := by rw [World.size_alloc]; omega
  generalize hV : W.alloc (.cells #[.int .i64 32] 3) = V at BB NC hs1
  rw [hs0] at NC
  have BV := BA.trans (BB.mono (by omega))
  have N2 := (BB.block w.heap.size (by omega)).trans NB
  have hGlt := hr.imp (H := fun b => G b ∧ b < w.heap.size) (fun b hb hg => ⟨hg, hb⟩)
  have CF := Lib.hid (foldL_all t (fun b => G b ∧ b < w.heap.size) (w.heap.size + 1) V a c 32 (by omega) hpre (fun b hg => by omega) (wdL (hwd (w.heap.size + 1) (by omega)) (kept_below BV (fun _ => False) |>.mono (fun _ h _ => h.elim) : Kept (· = w.heap.size + 1) w V)) (hGlt.keptS (kept_below BV (fun _ => False)) (fun _ h => h.elim)) NC)
  have HW := Lib.hid hW
  have HV := Lib.hid hV
  have HB := Lib.hid BV
  obtain ⟨⟨m0, m1, m2, m3⟩, -⟩ := four N2
  clear hW hV BA NB BB NC BV N2 hGlt hr hpre hwd
  go_enter Try.func32, Try.ntmps32
  go_upto_region 1 with fail
  rw [HW.out]
  go_upto_region 2 with fail
  rw [HV.out]
  go_wp2_with fail
  refine CF.out.mono ?_
  rintro e w2 ⟨k2, hA, -, hB⟩
  have B2 := Lib.hid (HB.out.trans (Kept.below k2 (B := w.heap.size) (fun q hq => by omega) (by omega)))
  by_cases h32 : sizeT t ≤ 32
  · obtain ⟨v, rfl, hv⟩ := hA h32
    have HR := Lib.hid (resL_imp hv (H := fun b => w.heap.size ≤ b) (fun b _ hg => by omega))
    have H32 := Lib.hid h32
    clear k2 hA hB hv h32 CF m0 m1 m2 m3
    go_wp2_with fail
    go_ret2
    exact ⟨B2.out, fun _ => ⟨v, rfl, HR.out⟩, fun h => absurd H32.out h⟩
  · obtain rfl := hB h32
    have H32 := Lib.hid h32
    clear k2 hA hB h32 CF m0 m1 m2 m3
    go_wp2_with fail
    go_ret2
    exact ⟨B2.out, fun h => absurd h H32.out, fun _ => rfl⟩

end

section
open Go.RowKit

theorem lstL_at : ∀ (l : List TN) (q : List (Option Addr × Nat)) {k : Nat} (_ : q.length = l.length) (hk : k < l.length), ∃ p, q[k]? = some p ∧ ∀ i u, (ndL l[k] p)[i]? = some u → i < 4 → (lstL l q)[k * 4 + i]? = some u
  | [], _, _, _, hk => by simp at hk
  | _ :: _, [], _, h, _ => by simp at h
  | t :: r, q :: s, 0, _, _ => ⟨q, rfl, fun i u hu hi => by
      rw [lstL, Nat.zero_mul, Nat.zero_add, List.getElem?_append_left (by exact hi)]; exact hu⟩
  | t :: r, q :: s, k + 1, h, hk => by
    obtain ⟨p, h1, h2⟩ := lstL_at r s (k := k) (by simpa using h) (by simpa using hk)
    refine ⟨p, h1, fun i u hu hi => ?_⟩
    rw [lstL, List.getElem?_append_right (by show 4 ≤ _; omega), show (k + 1) * 4 + i - (ndL t q).length = k * 4 + i by show (k + 1) * 4 + i - 4 = _; omega]
    exact h2 i u hu hi

/-- A list of nodes at an address. -/
def LstAt (w : World) (b off : Nat) (l : List TN) : Prop := b < w.heap.size ∧ ∃ qs : List (Option Addr × Nat), qs.length = l.length ∧ ∀ j u, (lstL l qs)[j]? = some u → w.cell? ⟨b, off + j, none⟩ = some u

theorem LstAt.below {w w' : World} {b off : Nat} {l : List TN} (h : LstAt w b off l) (hb : Below w.heap.size w w') : LstAt w' b off l :=
  ⟨Nat.lt_of_lt_of_le h.1 hb.size, h.2.imp fun _ hq => ⟨hq.1, fun j u hj => (hb.cell (p := ⟨b, off + j, none⟩) h.1).trans (hq.2 j u hj)⟩⟩

theorem LstAt.node {w : World} {b off : Nat} {l : List TN} (h : LstAt w b off l) {k : Nat} (hk : k < l.length) : ∃ p : Option Addr × Nat, w.cell? ⟨b, off + k * 4, none⟩ = some (.string l[k].op) ∧ w.cell? ⟨b, off + k * 4 + 1, none⟩ = some (.string l[k].nm) ∧ w.cell? ⟨b, off + k * 4 + 2, none⟩ = some (.int .i64 l[k].n) ∧ w.cell? ⟨b, off + k * 4 + 3, none⟩ = some (.slice p.1 l[k].ks.len p.2) := by
  obtain ⟨hb, qs, hq, hc⟩ := h
  obtain ⟨p, _, h2⟩ := lstL_at l qs hq hk
  exact ⟨p, hc (k * 4) _ (h2 0 _ rfl (by omega)), hc (k * 4 + 1) _ (h2 1 _ rfl (by omega)), hc (k * 4 + 2) _ (h2 2 _ rfl (by omega)), hc (k * 4 + 3) _ (h2 3 _ rfl (by omega))⟩

theorem ResL.lst {G : Nat → Prop} {w : World} {t : TN} {v : Value} (h : ResL G w t v) : ∃ b off c, v = .slice (some ⟨b, off, none⟩) (preF t.f).length c ∧ LstAt w b off (preF t.f) := by
  obtain ⟨b, off, c, qs, h1, _, h3, h4, h5⟩ := h.h
  exact ⟨b, off, c, h1, h3, qs, h4, h5⟩

end

end Go.Proofs.Ytcmcnmmhkpolcaa
