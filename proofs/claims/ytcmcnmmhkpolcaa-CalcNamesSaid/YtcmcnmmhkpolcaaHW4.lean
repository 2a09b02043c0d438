/-
  No statement: what these walks need, of earlier texts: XCheck, XOf.
-/
import Derived.Test.YtcmcnmmhkpolcaaHW3
import Derived.Test.YtcmcnmmhkpolcaaProg
import Derived.Deep.LoopGhost
import Derived.Shelf.Spec.SlicesInsertGrow
import Derived.WalkKit
import Derived.WalkSpells
import Derived.IntWalk
import Derived.Lib.Hide
import Derived.LoopTactic
import Derived.Deep.QuietTactic
import Derived.BigQuiet
import Derived.StillTailTactics
import Derived.Deep.RegionHeld3
import Derived.Deep.RegionLaw
import Derived.Lib.SliceRun
import Derived.Lib.SlicesDelete
import Derived.WalkLawsBesides
import Derived.Deep.Cut
import Derived.Test.YtcmcnmmhkpolcaaShelf
import Derived.Lib.Builder
import Derived.Lib.AppendStr
import Derived.RangeFuncRecord
import Derived.Lib.AppendIntMem
import Derived.Lib.AtoiErrMem
import Derived.Lib.ParseIntB
import Derived.Lib.ParseIntBTie
import Derived.Lib.ItoaLen
import Derived.Laws.BytesString
import Derived.RangeFuncBox
import Derived.Maps.AppendAt
import Derived.Laws.IdiomStrings
import Derived.Deep.Slices
import Derived.Deep.Fields
import Derived.ChangeSame
namespace Go.Proofs.Ytcmcnmmhkpolcaa.Wr
section
open Go.RowKit

/-- The name ahead of the k-th attribute. -/
def prevA (A : Nat → AD) (k : Nat) : ByteArray := if k = 0 then ⟨#[]⟩ else (A (k - 1)).m

/-- What the walk of ref.Check keeps. -/
structure XcK (w0 : World) (x : RD) (a : Option Addr) (c : Nat) (w : World) : Prop where
  box : w.heap[w0.heap.size]? = some (.cells #[.string x.key, .int .i64 x.t, .int .i64 x.i, .int .i64 x.q, .string x.o, .slice a x.len c] 59 (0, 0))
  bel : Below w0.heap.size w0 w

theorem XcK.kept {w0 w w' : World} {x : RD} {a : Option Addr} {c : Nat} (h : XcK w0 x a c w) (hb : Below w.heap.size w w') : XcK w0 x a c w' :=
  ⟨(hb.block _ (lt_of_block h.box)).trans h.box, h.bel.trans (hb.mono (by have := lt_of_block h.box; omega))⟩

theorem XcK.drewN {w0 w : World} {x : RD} {a : Option Addr} {c : Nat} (h : XcK w0 x a c w) (n : Nat) : XcK w0 x a c (w.drewN n) :=
  h.kept ⟨rfl, rfl, rfl, Nat.le_refl _, fun _ _ => rfl⟩

set_option maxRecDepth 100000 in
set_option maxHeartbeats 4000000 in
theorem xCheck_any (x : RD) (a : Option Addr) (c : Nat) (hk : x.key.size ≤ 1000) (ho : x.o.size ≤ 1000) (hA : ∀ j, j < x.len → (x.A j).m.size ≤ 1000 ∧ (x.A j).s.size ≤ 1000) (w : World) (hr : ReadsA w a x.len x.A) :
    Calls Try.prog 22 #[.agg #[.string x.key, .int .i64 x.t, .int .i64 x.i, .int .i64 x.q, .string x.o, .slice a x.len c]] w fun e w' => e = .returned (.int .i64 (errR x)) ∧ Below w.heap.size w w' := by
  have R := Lib.hid hr
  have N := Lib.hid (fun w => rName_any x.key (by omega) w)
  have HA := Lib.hid hA
  have hm := hr.1
  unfold maxLen at hm
  have BX := Lib.hid (show ∀ o, o = Obj.cells #[.string x.key, .int .i64 x.t, .int .i64 x.i, .int .i64 x.q, .string x.o, .slice a x.len c] 59 → XcK w x a c (w.alloc o) from fun o h => by subst h; exact ⟨heap_alloc_new w _, (Below.refl _ _).alloc (Nat.le_refl _) _⟩)
  clear hr hA
  cases hg : goodB x.key.data.toList with
  | false =>
    have E := Lib.hid (show errR x = 5 by unfold errR; rw [if_pos hg])
    have N1 := Lib.hid (p := ∀ w, Calls Try.prog 37 #[.string x.key] w fun e w' => e = .returned (.bool false) ∧ w = w') (fun w => by have := N.out w; rwa [hg] at this)
    clear N hg
    go_enter Try.func22, Try.ntmps22
    go_wp2_with fail
    refine (N1.out _).mono ?_
    rintro e w1 ⟨rfl, rfl⟩
    go_wp2_with fail
    go_ret
    exact ⟨ret_i64 E.out.symm, (BX.out _ rfl).bel⟩
  | true =>
    have N1 := Lib.hid (p := ∀ w, Calls Try.prog 37 #[.string x.key] w fun e w' => e = .returned (.bool true) ∧ w = w') (fun w => by have := N.out w; rwa [hg] at this)
    obtain ⟨es, hes⟩ : ∃ es, errS x.t x.i x.q x.o = es := ⟨_, rfl⟩
    have C := Lib.hid (p := ∀ w, Calls Try.prog 39 #[.agg #[.int .i64 x.t, .int .i64 x.i, .int .i64 x.q, .string x.o]] w fun e w' => e = .returned (.int .i64 es) ∧ Below w.heap.size w w') (fun w => by have := rCheckStamp_any x.t x.i x.q x.o ho w; rwa [hes] at this)
    have E0 : errR x = if es = 0 then (if 32 < x.len then 4 else errAs ⟨#[]⟩ (fromA x.A x.len 0)) else es := by unfold errR; rw [if_neg (by rw [hg]; simp), hes]
    clear N hg hes
    by_cases h0 : es = 0
    · subst h0
      rw [if_pos rfl] at E0
      by_cases h32 : 32 < x.len
      · rw [if_pos h32] at E0
        have E := Lib.hid E0
        clear E0
        go_enter Try.func22, Try.ntmps22
        go_wp2_with fail
        refine (N1.out _).mono ?_
        rintro e w1 ⟨rfl, rfl⟩
        go_wp2_with fail
        refine (C.out _).mono ?_
        rintro e w1 ⟨rfl, hb⟩
        have K1 := Lib.hid ((BX.out _ rfl).kept hb)
        clear hb
        obtain ⟨x0, x1, x2, x3, x4, x5⟩ := six K1.out.box
        go_wp2_with fail
        go_ret
        exact ⟨ret_i64 E.out.symm, K1.out.bel⟩
      · rw [if_neg h32] at E0
        have E := Lib.hid E0
        clear E0
        go_enter Try.func22, Try.ntmps22
        go_wp2_with fail
        refine (N1.out _).mono ?_
        rintro e w1 ⟨rfl, rfl⟩
        go_wp2_with fail
        refine (C.out _).mono ?_
        rintro e w1 ⟨rfl, hb⟩
        have K1 := Lib.hid ((BX.out _ rfl).kept hb)
        clear hb
        obtain ⟨x0, x1, x2, x3, x4, x5⟩ := six K1.out.box
        go_wp2_with fail
        go_loopw [3, 4] (fun e i wr => ∃ (k : Nat) (v : Int), e = .int .i64 v ∧ i = .int .i64 k ∧ k ≤ x.len ∧ Hid (errAs ⟨#[]⟩ (fromA x.A x.len 0) = errAs (prevA x.A k) (fromA x.A x.len k)) ∧ Hid (XcK w x a c wr)) (fun _ i _ => x.len - (intOf i).toNat)
        case atStart => exact ⟨0, 0, rfl, rfl, Nat.zero_le _, Lib.hid rfl, K1⟩
        case round =>
          obtain ⟨k, v, rfl, rfl, hk', hE, hK⟩ := hrel
          clear K1 x0 x1 x2 x3 x4 x5
          obtain ⟨x0, x1, x2, x3, x4, x5⟩ := six hK.out.box
          by_cases hlt : k < x.len
          · obtain ⟨-, hc⟩ := R.out
            obtain ⟨b, off, hab, hcs⟩ := hc.resolve_left (by omega)
            obtain ⟨y, cy, h50, hrd⟩ := hcs k hlt
            have h5 := h50.kept hK.out.bel
            obtain ⟨hm1, hs1⟩ := HA.out k hlt
            have hE2 : errAs (prevA x.A k) (fromA x.A x.len k) = if errA (prevA x.A k) (x.A k) = 0 then errAs (x.A k).m (fromA x.A x.len (k + 1)) else errA (prevA x.A k) (x.A k) := by rw [fromA_cons x.A hlt]; rfl
            have hnx : prevA x.A (k + 1) = (x.A k).m := by unfold prevA; rw [if_neg (by omega)]; rfl
            obtain ⟨u, hu⟩ : ∃ u, x.A k = u := ⟨_, rfl⟩
            rw [hu] at h5 h50 hrd hm1 hs1 hE2 hnx
            have HE := Lib.hid (hE.out.trans hE2)
            have NX := Lib.hid hnx
            have CV := Lib.hid (p := ∀ w', Below w.heap.size w w' → Calls Try.prog 40 #[.agg #[.int .i64 u.k, .int .i64 u.n, .string u.s, .slice y u.len cy]] w' fun e w'' => e = .returned (.int .i64 (errV u.k u.s u.len u.z)) ∧ Below w'.heap.size w' w'') (fun w' hb => rCheck_any u.k u.n u.s (by omega) y u.len cy u.z w' (hrd.kept hb))
            have H5 := Lib.hid (p := ∀ w', Below w.heap.size w w' → Cells5 w' b (off + k * 5) u y cy) (fun w' hb => h50.kept hb)
            have NM := Lib.hid (fun w => rName_any u.m (by omega) w)
            have HP := Lib.hid (p := 0 < k → ∀ w', Below w.heap.size w w' → w'.cell? ⟨b, off + (k - 1) * 5, none⟩ = some (.string (prevA x.A k))) (fun h w' hb => by
              obtain ⟨y', cy', g5, _⟩ := hcs (k - 1) (by omega)
              have e : prevA x.A k = (x.A (k - 1)).m := by unfold prevA; rw [if_neg (by omega)]
              rw [e]; exact (g5.kept hb).1)
            obtain ⟨p0, hp0⟩ : ∃ p, prevA x.A k = p := ⟨_, rfl⟩
            have HP0 := Lib.hid (p := k = 0 → p0 = ⟨#[]⟩) (fun h => by rw [← hp0, h]; rfl)
            rw [hp0] at HE HP
            obtain ⟨ev, hev⟩ : ∃ ev, errV u.k u.s u.len u.z = ev := ⟨_, rfl⟩
            have HA2 : errA p0 u = if goodB u.m.data.toList = false then 5 else if lsS p0 u.m = false then 6 else ev := by unfold errA; rw [hev]
            obtain ⟨g, hg⟩ : ∃ g, goodB u.m.data.toList = g := ⟨_, rfl⟩
            have HG := Lib.hid hg
            rw [hg] at HA2 NM
            rw [HA2] at HE
            rw [hev] at CV
            obtain ⟨d0, d1, d2, d3, d4⟩ := h5
            clear hE hE2 hnx hcs hrd h50 hu hp0 hev HA2 hc hg
            rw [hab] at x5
            have hab' := Lib.hid hab
            clear hab
            go_wp2_with fail
            refine (CV.out _ hK.out.bel).mono ?_
            rintro e w2 ⟨rfl, hb⟩
            have K2 := Lib.hid (hK.out.kept hb)
            clear hb hK x0 x1 x2 x3 x4 x5 d0 d1 d2 d3 d4
            obtain ⟨x0, x1, x2, x3, x4, x5⟩ := six K2.out.box
            rw [hab'.out] at x5
            obtain ⟨d0, d1, d2, d3, d4⟩ := H5.out _ K2.out.bel
            cases g with
            | false =>
              have HE1 := Lib.hid (p := errAs ⟨#[]⟩ (fromA x.A x.len 0) = 5) (by have := HE.out; simpa using this)
              clear HE HG
              go_wp2_with fail
              refine (NM.out _).mono ?_
              rintro e w3 ⟨rfl, rfl⟩
              go_wp2_with fail
              go_ret
              exact ⟨ret_i64 (by rw [E.out, HE1.out]), K2.out.bel⟩
            | true =>
              have HE1 := Lib.hid (p := errAs ⟨#[]⟩ (fromA x.A x.len 0) = if (if lsS p0 u.m = false then 6 else ev) = 0 then errAs u.m (fromA x.A x.len (k + 1)) else (if lsS p0 u.m = false then 6 else ev)) (by have := HE.out; simpa using this)
              clear HE
              go_wp2_with fail
              refine (NM.out _).mono ?_
              rintro e w3 ⟨rfl, rfl⟩
              by_cases hk0 : k = 0
              · subst hk0
                have hl : lsS p0 u.m = true := by rw [HP0.out rfl]; exact lsS_empty HG.out
                have HE2 := Lib.hid (p := errAs ⟨#[]⟩ (fromA x.A x.len 0) = if ev = 0 then errAs u.m (fromA x.A x.len (0 + 1)) else ev) (by have := HE1.out; rw [hl] at this; simpa using this)
                clear hl HE1 HP HP0
                go_wp2_with fail
                go_quiet (fail)
                by_cases he : ev = 0
                · subst he
                  have HE3 := Lib.hid (HE2.out.trans (if_pos rfl))
                  clear HE2
                  go_wp2_with fail
                  go_roundw
                  case rel => exact ⟨0 + 1, 0, rfl, by go_num, by omega, Lib.hid (by rw [HE3.out, NX.out]), Lib.hid (K2.out.drewN _)⟩
                  case measure => simp [intOf]; omega
                · have HE3 := Lib.hid (HE2.out.trans (if_neg he))
                  have he' : (ev == 0) = false := by simpa using he
                  clear HE2 he
                  go_wp2_with fail
                  go_ret
                  exact ⟨ret_i64 (by rw [E.out, HE3.out]), (K2.out.drewN _).bel⟩
              · have e0 : 0 < k := by omega
                have dp := HP.out e0 _ K2.out.bel
                have e1 : IntKind.i64.wrap ((k : Int) - 1) = (k : Int) - 1 := IntWalk.i64_in _ (by omega)
                have e2 : 0 ≤ (k : Int) - 1 := by omega
                have e3 : ((k : Int) - 1).toNat = k - 1 := by omega
                have e4 : (k : Int) - 1 < x.len := by omega
                cases hl : lsS p0 u.m with
                | false =>
                  have HE2 := Lib.hid (p := errAs ⟨#[]⟩ (fromA x.A x.len 0) = 6) (by have := HE1.out; rw [hl] at this; simpa using this)
                  have l1 := leqS_yes hl
                  have l2 : Op.bytesLess p0.toList u.m.toList = false := hl
                  clear hl HE1 HP HP0
                  go_wp2_with fail
                  go_quiet (fail)
                  clear e1 e2 e3 e4
                  go_wp2_with fail
                  go_ret
                  exact ⟨ret_i64 (by rw [E.out, HE2.out]), (K2.out.drewN _).bel⟩
                | true =>
                  have HE2 := Lib.hid (p := errAs ⟨#[]⟩ (fromA x.A x.len 0) = if ev = 0 then errAs u.m (fromA x.A x.len (k + 1)) else ev) (by have := HE1.out; rw [hl] at this; simpa using this)
                  obtain ⟨l1, l2⟩ := leqS_no hl
                  have l3 : Op.bytesLess p0.toList u.m.toList = true := hl
                  clear hl HE1 HP HP0
                  go_wp2_with fail
                  go_quiet (fail)
                  clear e1 e2 e3 e4
                  by_cases he : ev = 0
                  · subst he
                    have HE3 := Lib.hid (HE2.out.trans (if_pos rfl))
                    clear HE2
                    go_wp2_with fail
                    go_roundw
                    case rel => exact ⟨k + 1, 0, rfl, by go_num, by omega, Lib.hid (by rw [HE3.out, NX.out]), Lib.hid (K2.out.drewN _)⟩
                    case measure => simp [intOf]; omega
                  · have HE3 := Lib.hid (HE2.out.trans (if_neg he))
                    have he' : (ev == 0) = false := by simpa using he
                    clear HE2 he
                    go_wp2_with fail
                    go_ret
                    exact ⟨ret_i64 (by rw [E.out, HE3.out]), (K2.out.drewN _).bel⟩
          · go_wp2_with fail
            go_ret
            exact ⟨ret_i64 (by rw [E.out, hE.out, fromA_nil x.A (by omega)]; rfl), hK.out.bel⟩
    · rw [if_neg h0] at E0
      have E := Lib.hid E0
      have h0' : (es == 0) = false := by simpa using h0
      clear E0 h0
      go_enter Try.func22, Try.ntmps22
      go_wp2_with fail
      refine (N1.out _).mono ?_
      rintro e w1 ⟨rfl, rfl⟩
      go_wp2_with fail
      refine (C.out _).mono ?_
      rintro e w1 ⟨rfl, hb⟩
      have K1 := Lib.hid ((BX.out _ rfl).kept hb)
      clear hb
      go_wp2_with fail
      go_ret
      exact ⟨ret_i64 E.out.symm, K1.out.bel⟩

end

section
open Go.RowKit

set_option maxHeartbeats 1000000 in
theorem few2_any (k n : Int) (s : ByteArray) (a : Option Addr) (len cap : Nat) (hs : s.size ≤ maxLen) (hl : len ≤ maxLen) (w : World) :
    Calls Try.prog 38 #[.agg #[.int .i64 k, .int .i64 n, .string s, .slice a len cap]] w fun e w' => e = .returned (.bool (decide (s.size ≤ 200) && decide (len ≤ 40))) ∧ Below w.heap.size w w' := by
  unfold maxLen at hs hl
  by_cases h1 : s.size ≤ 200
  · by_cases h2 : len ≤ 40
    · go_enter Try.func38, Try.ntmps38
      go_wp2_with fail
      go_ret
      exact ⟨ret_b (a := decide ((len : Int) ≤ 40)) (by rw [decide_eq_true h1, Bool.true_and, decide_eq_true h2]; exact decide_eq_true (by omega)), (Below.refl _ _).alloc (Nat.le_refl _) _⟩
    · go_enter Try.func38, Try.ntmps38
      go_wp2_with fail
      go_ret
      exact ⟨ret_b (a := decide ((len : Int) ≤ 40)) (by rw [decide_eq_true h1, Bool.true_and, decide_eq_false h2]; exact decide_eq_false (by omega)), (Below.refl _ _).alloc (Nat.le_refl _) _⟩
  · go_enter Try.func38, Try.ntmps38
    go_wp2_with fail
    go_ret
    exact ⟨ret_b (a := false) (by first | rfl | (rw [decide_eq_false h1]; rfl)), (Below.refl _ _).alloc (Nat.le_refl _) _⟩

/-- Is an attribute short? -/
def fewA (x : AD) : Bool := decide (x.m.size ≤ 100) && (decide (x.s.size ≤ 200) && decide (x.len ≤ 40))

def fewAs (l : List AD) : Bool := l.all fewA

/-- Are attributes few, and short? -/
def fewL (n : Nat) (A : Nat → AD) : Bool := decide (n ≤ 40) && fewAs (fromA A n 0)

/-- All sizes are sizes of Go. -/
def SizA (x : AD) : Prop := x.m.size ≤ maxLen ∧ x.s.size ≤ maxLen ∧ x.len ≤ maxLen

set_option maxRecDepth 100000 in
set_option maxHeartbeats 4000000 in
theorem fewAttrs_any (a : Option Addr) (n c : Nat) (A : Nat → AD) (hS : ∀ j, j < n → SizA (A j)) (w : World) (h : ReadsA w a n A) :
    Calls Try.prog 21 #[.slice a n c] w fun e w' => e = .returned (.bool (fewL n A)) ∧ Below w.heap.size w w' := by
  have hm := h.1
  unfold maxLen at hm
  have R := Lib.hid h
  have HS := Lib.hid hS
  clear h hS
  by_cases h40 : 40 < n
  · have E := Lib.hid (p := fewL n A = false) (by unfold fewL; rw [decide_eq_false (by omega)]; rfl)
    go_enter Try.func21, Try.ntmps21
    go_wp2_with fail
    go_ret
    exact ⟨ret_b E.out.symm, Below.refl _ _⟩
  · have E := Lib.hid (p := fewL n A = fewAs (fromA A n 0)) (by unfold fewL; rw [decide_eq_true (by omega)]; rfl)
    go_enter Try.func21, Try.ntmps21
    go_wp2_with fail
    go_loopw [3] (fun i wr => ∃ k : Nat, i = .int .i64 k ∧ k ≤ n ∧ Hid (fewAs (fromA A n 0) = fewAs (fromA A n k)) ∧ Hid (Below w.heap.size w wr)) (fun i _ => n - (intOf i).toNat)
    case atStart => exact ⟨0, rfl, Nat.zero_le _, Lib.hid rfl, Lib.hid (Below.refl _ _)⟩
    case round =>
      obtain ⟨k, rfl, hk, hE, hB⟩ := hrel
      by_cases hlt : k < n
      · obtain ⟨b, off, rfl, hc⟩ := R.out.2.resolve_left (by omega)
        obtain ⟨y, e, g0, -⟩ := hc k hlt
        have g := g0.kept hB.out
        have hE2 := hE.out
        rw [fromA_cons A hlt] at hE2
        have hsz := HS.out k hlt
        obtain ⟨x, hx⟩ : ∃ x, A k = x := ⟨_, rfl⟩
        rw [hx] at g hE2 hsz
        have hE3 : fewAs (fromA A n 0) = (fewA x && fewAs (fromA A n (k + 1))) := hE2
        obtain ⟨hs1, hs2, hs3⟩ := hsz
        have F2 := Lib.hid (fun w => few2_any x.k x.n x.s y x.len e hs2 hs3 w)
        obtain ⟨q, hq⟩ : ∃ q, (decide (x.s.size ≤ 200) && decide (x.len ≤ 40)) = q := ⟨_, rfl⟩
        rw [hq] at F2
        have hf : fewA x = (decide (x.m.size ≤ 100) && q) := by unfold fewA; rw [hq]
        rw [hf] at hE3
        have hz := hB.out.size
        unfold maxLen at hs1
        obtain ⟨p0, p1, p2, p3, p4⟩ := g
        clear hc hE2 hE hx hf hq g0 hs2 hs3
        by_cases h1 : 100 < x.m.size
        · have HE := Lib.hid (p := fewAs (fromA A n 0) = false) (by rw [hE3, decide_eq_false (by omega)]; rfl)
          clear hE3
          go_wp2_with fail
          go_ret
          exact ⟨ret_b (by rw [E.out, HE.out]), hB.out⟩
        · have HE := Lib.hid (p := fewAs (fromA A n 0) = (q && fewAs (fromA A n (k + 1)))) (by rw [hE3, decide_eq_true (by omega)]; rfl)
          clear hE3
          go_wp2_with fail
          refine (F2.out _).mono ?_
          rintro e w2 ⟨rfl, hb⟩
          have B2 := Lib.hid hb
          clear hb p0 p1 p2 p3 p4
          cases q with
          | true =>
            go_wp2_with fail
            go_roundw
            case rel => exact ⟨k + 1, by go_num, by omega, Lib.hid (by rw [HE.out]; rfl), Lib.hid (hB.out.trans (B2.out.mono hz))⟩
            case measure => simp [intOf]; omega
          | false =>
            go_wp2_with fail
            go_ret
            exact ⟨ret_b (by rw [E.out, HE.out]; rfl), hB.out.trans (B2.out.mono hz)⟩
      · go_wp2_with fail
        go_ret
        exact ⟨ret_b (by rw [E.out, hE.out, fromA_nil A (by omega)]; rfl), hB.out⟩

end

end Go.Proofs.Ytcmcnmmhkpolcaa.Wr
