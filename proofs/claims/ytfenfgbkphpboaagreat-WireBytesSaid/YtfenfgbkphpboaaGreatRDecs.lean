/-
  No statement: the document's own decoder.
-/
import Derived.Test.YtfenfgbkphpboaaGreatCDecM
import Derived.Test.YtfenfgbkphpboaaGreatRPut
import Derived.Deep.QuietTactic
import Derived.BigQuiet
namespace Go.Proofs.YtfenfgbkphpboaaGreat
open Go.RowKit
variable {N : Nat}

/-- At block p lies the document's Dec: of bytes B, at k, with the first error. -/
def RDecH (N : Nat) (w : World) (p : Nat) (B : List UInt8) (k : Nat) (bad : Int) : Prop :=
  ∃ a c, w.heap[p]? = some (.cells #[.slice a B.length c, .int .i64 k, .int .i64 bad] 89 (0, 0)) ∧ BR w a c B ∧ (∀ x, a = some x → B ≠ [] → x.block < N) ∧ N ≤ p

theorem BR.keptN {w w' : World} {a : Option Addr} {c : Nat} {l : List UInt8} {S : Nat → Prop} (h : BR w a c l) (hk : Kept S w w') (hS : ∀ x, a = some x → l ≠ [] → ¬ S x.block) : BR w' a c l := by
  by_cases hl : l = []
  · subst hl
    refine ⟨h.1, h.2.1, ?_⟩
    rcases h.2.2 with h | h | ⟨b, off, rfl, _⟩
    · exact .inl h
    · exact .inr (.inl h)
    · exact .inr (.inl ⟨rfl, _, rfl⟩)
  · exact h.keptS hk (fun x hx => hS x hx hl)

theorem RDecH.kept {w w' : World} {p k : Nat} {B : List UInt8} {bad : Int} {S : Nat → Prop} (h : RDecH N w p B k bad) (hk : Kept S w w') (hp : ¬ S p) (hS : ∀ k, S k → N ≤ k) : RDecH N w' p B k bad := by
  obtain ⟨a, c, h0, h1, h2, h3⟩ := h
  exact ⟨a, c, hk.heap h0 hp, h1.keptN hk (fun x hx hl h => by have := h2 x hx hl; have := hS _ h; omega), h2, h3⟩

/-- What Int answers; where it stands then; the first error. -/
def rIntV (B : List UInt8) (k : Nat) (bad : Int) : Int × Nat × Int :=
  if bad = 0 then (if (fstF 0 0 (B.drop k)).2.2 = 0 then (Lib.unzigzag (fstF 0 0 (B.drop k)).1, k + (fstF 0 0 (B.drop k)).2.1, 0) else (0, k, (fstF 0 0 (B.drop k)).2.2)) else (0, k, bad)

/-- What a call of the document's Dec leaves. -/
def RPost (N : Nat) (w : World) (p : Nat) (B : List UInt8) (r : Value) (k : Nat) (bad : Int) (e : Ending) (w' : World) : Prop := e = .returned r ∧ RDecH N w' p B k bad ∧ Kept (· = p) w w'

theorem three_at {w : World} {p : Nat} {x y z : Value} {T : TypeId} (h : w.heap[p]? = some (.cells #[x, y, z] T (0, 0))) : w.cell? ⟨p, 0, none⟩ = some x ∧ w.cell? ⟨p, 1, none⟩ = some y ∧ w.cell? ⟨p, 2, none⟩ = some z ∧ w.frozen? ⟨p, 1, none⟩ = false ∧ w.frozen? ⟨p, 2, none⟩ = false := by
  refine ⟨?_, ?_, ?_, ?_, ?_⟩ <;> simp [World.cell?, World.frozen?, h]
theorem three_set1 {w : World} {p : Nat} {x y z : Value} {T : TypeId} (h : w.heap[p]? = some (.cells #[x, y, z] T (0, 0))) (u : Value) : (w.setCell ⟨p, 1, none⟩ u).heap[p]? = some (.cells #[x, u, z] T (0, 0)) := by
  have := heap_setCell_same w p 1 #[x, y, z] T u h
  simpa using this
theorem three_set2 {w : World} {p : Nat} {x y z : Value} {T : TypeId} (h : w.heap[p]? = some (.cells #[x, y, z] T (0, 0))) (u : Value) : (w.setCell ⟨p, 2, none⟩ u).heap[p]? = some (.cells #[x, y, u] T (0, 0)) := by
  have := heap_setCell_same w p 2 #[x, y, z] T u h
  simpa using this

theorem RDecH.put1 {w : World} {p k : Nat} {B : List UInt8} {bad : Int} (h : RDecH N w p B k bad) (j : Nat) : RDecH N (w.setCell ⟨p, 1, none⟩ (.int .i64 (j : Nat))) p B j bad := by
  obtain ⟨a, c, h0, h1, h2⟩ := h
  exact ⟨a, c, three_set1 h0 _, h1.keptN (kept_p w p 1 _) (fun x hx hl h => by have := h2.1 x hx hl; have := h2.2; omega), h2⟩
theorem RDecH.put2 {w : World} {p k : Nat} {B : List UInt8} {bad : Int} (h : RDecH N w p B k bad) (e : Int) : RDecH N (w.setCell ⟨p, 2, none⟩ (.int .i64 e)) p B k e := by
  obtain ⟨a, c, h0, h1, h2⟩ := h
  exact ⟨a, c, three_set2 h0 _, h1.keptN (kept_p w p 2 _) (fun x hx hl h => by have := h2.1 x hx hl; have := h2.2; omega), h2⟩
theorem RDecH.drewN {w : World} {p k : Nat} {B : List UInt8} {bad : Int} (h : RDecH N w p B k bad) (q : Nat) : RDecH N (w.drewN q) p B k bad := h
theorem keptDrewN (S : Nat → Prop) (w : World) (q : Nat) : Kept S w (w.drewN q) := (Kept.refl S w).drewN q

theorem rForm {w : World} {p k : Nat} {B : List UInt8} {r : Int × Nat × Int} (h : RDecH N w p B k 0) (e : Int) (hr : r = (0, k, e)) (q : Nat) : RPost N w p B (.int .i64 r.1) r.2.1 r.2.2 (.returned (.int .i64 0)) ((w.drewN q).setCell ⟨p, 2, none⟩ (.int .i64 e)) := by
  subst hr
  exact ⟨rfl, (h.drewN q).put2 e, (keptDrewN _ w q).trans (kept_p _ p 2 _) (fun _ h _ => h)⟩

theorem rDone {w : World} {p k j : Nat} {B : List UInt8} {r : Int × Nat × Int} {v : Int} {i : Int} (h : RDecH N w p B k 0) (hr : r = (v, j, 0)) (hi : i = (j : Nat)) (q : Nat) : RPost N w p B (.int .i64 r.1) r.2.1 r.2.2 (.returned (.int .i64 v)) ((w.drewN q).setCell ⟨p, 1, none⟩ (.int .i64 i)) := by
  subst hr; subst hi
  exact ⟨rfl, (h.drewN q).put1 j, (keptDrewN _ w q).trans (kept_p _ p 1 _) (fun _ h _ => h)⟩

set_option maxHeartbeats 8000000 in
set_option maxRecDepth 100000 in
theorem rInt_any (p : Nat) (B : List UInt8) (k0 : Nat) (bad : Int) (hk0 : k0 ≤ B.length) (hBl : B.length ≤ 1000000) (w : World) (h : RDecH N w p B k0 bad) :
    Calls Tryz.prog 82 #[.pointer (some ⟨p, 0, none⟩)] w (RPost N w p B (.int .i64 (rIntV B k0 bad).1) (rIntV B k0 bad).2.1 (rIntV B k0 bad).2.2) := by
  have H := Lib.hid h
  obtain ⟨a, c, h0, h1, h2⟩ := h
  obtain ⟨c0, c1, c2, f1, f2⟩ := three_at h0
  have HB := Lib.hid h1
  clear h0 h1 h2
  unfold rIntV
  by_cases hbad : bad = 0
  · subst hbad
    rw [if_pos rfl]
    have hok := (fst_ok (B.drop k0)).1
    obtain ⟨f, hf⟩ : ∃ f, fstF 0 0 (B.drop k0) = f := ⟨_, rfl⟩
    rw [hf] at hok ⊢
    obtain ⟨r, hr⟩ : ∃ r, (if f.2.2 = 0 then (Lib.unzigzag f.1, k0 + f.2.1, 0) else (0, k0, f.2.2) : Int × Nat × Int) = r := ⟨_, rfl⟩
    rw [hr]
    have HF := Lib.hid hf
    have HOK := Lib.hid hok
    have HR := Lib.hid hr
    clear hf hok hr
    go_enter Tryz.func82, Tryz.ntmps82
    go_wp2_with fail
    go_loopw [3, 4] (fun u i wr => ∃ k acc q : Nat, i = .int .i64 k ∧ k0 + k ≤ B.length ∧ k ≤ 9 ∧ u = .int .u64 acc ∧ Hid (acc < 2 ^ (7 * k)) ∧ Hid (fstF k acc (B.drop (k0 + k)) = f) ∧ Hid (wr = w.drewN q)) (fun _ i _ => 10 - (intOf i).toNat)
    case atStart => exact ⟨0, 0, 0, rfl, hk0, by omega, rfl, Lib.hid (by decide), HF, Lib.hid rfl⟩
    case round =>
      obtain ⟨k, acc, q, rfl, hk, hk9, rfl, HA, HF, hW⟩ := hrel
      obtain rfl := hW.out
      have w1 : IntKind.i64.wrap ((k0 : Int) + (k : Int)) = (k0 : Int) + (k : Int) := IntWalk.i64_in _ (by omega)
      by_cases hlt : k0 + k < B.length
      · obtain ⟨b, off, rfl, hc⟩ := HB.out.cells (by omega)
        have d0 := hc (k0 + k) hlt
        have hne : ((k0 : Int) + (k : Int) == (B.length : Int)) = false := by rw [beq_eq_false_iff_ne]; omega
        have hi0 : 0 ≤ (k0 : Int) + (k : Int) := by omega
        have hi1 : (k0 : Int) + (k : Int) < (B.length : Int) := by omega
        have hiN : ((k0 : Int) + (k : Int)).toNat = k0 + k := by omega
        have hx := byte_lt B[k0 + k]
        have hF := HF.out
        have hd : B.drop (k0 + k) = B[k0 + k] :: B.drop (k0 + k + 1) := List.drop_eq_getElem_cons hlt
        rw [hd, fstF] at hF
        obtain ⟨x, hx'⟩ : ∃ x, B[k0 + k].toNat = x := ⟨_, rfl⟩
        rw [hx'] at d0 hx hF
        have wx : IntKind.u64.wrap (x : Int) = (x : Int) := by rw [IntKind.wrap_u64]; omega
        clear hc hx' hd HF hW
        by_cases h9 : k = 9
        · subst h9
          by_cases h1 : 1 < x
          · rw [if_pos ⟨rfl, h1⟩] at hF
            have HV := Lib.hid (show r = (0, k0, 2) by rw [← HR.out, ← hF]; rfl)
            clear hF
            go_wp2_with fail
            go_quiet (fail)
            go_wp2_with fail
            go_quiet (fail)
            clear hne hi0 hi1 hiN w1
            go_wp2_with fail
            go_ret
            exact rForm H.out 2 HV.out _
          · rw [if_neg (fun h => h1 h.2), if_neg (by omega)] at hF
            by_cases h0 : x = 0
            · subst h0
              rw [if_pos ⟨rfl, by omega⟩] at hF
              clear wx
              have HV := Lib.hid (show r = (0, k0, 2) by rw [← HR.out, ← hF]; rfl)
              clear hF
              go_wp2_with fail
              go_quiet (fail)
              go_wp2_with fail
              go_quiet (fail)
              clear hne hi0 hi1 hiN w1
              go_wp2_with fail
              go_ret
              exact rForm H.out 2 HV.out _
            · obtain rfl : x = 1 := by omega
              rw [if_neg (fun h => by omega)] at hF
              have ha : bits .and .u64 1 127 = 1 := by decide
              have e := or_last acc HA.out
              obtain ⟨k, hk9'⟩ : ∃ k, k = 9 := ⟨9, rfl⟩
              obtain ⟨U, hU⟩ : ∃ U, acc + 9223372036854775808 = U := ⟨_, rfl⟩
              have hUb : U < 18446744073709551616 := by have h9 : acc < 9223372036854775808 := HA.out; omega
              have hr2 : r = (Lib.unzigzag U, k0 + (9 + 1), 0) := by rw [← HR.out, ← hF, ← hU]; rfl
              rw [hU] at e
              clear hF hU wx k hk9'
              by_cases hpar : U % 2 = 1
              · have p1 : bits .and .u64 (U : Int) 1 = (U : Int) % 2 := Lib.u64_and1 _ (by omega) (by omega)
                have p2 : ((U : Int) % 2 == 1) = true := by rw [beq_iff_eq]; omega
                have HV := Lib.hid (show r = (-((U : Int) / 2) - 1, k0 + (9 + 1), 0) by rw [hr2]; unfold Lib.unzigzag; rw [if_neg (by omega)]; congr 1)
                clear hr2 hpar
                go_wp2_with fail
                go_quiet (fail)
                go_wp2_with fail
                go_quiet (fail)
                clear hne hi0 hi1 hiN w1
                go_wp2_with fail
                all_goals (go_ret; exact rDone H.out HV.out (by omega) _)
              · have p1 : bits .and .u64 (U : Int) 1 = (U : Int) % 2 := Lib.u64_and1 _ (by omega) (by omega)
                have p2 : ((U : Int) % 2 == 1) = false := by rw [beq_eq_false_iff_ne]; omega
                have HV := Lib.hid (show r = ((U : Int) / 2, k0 + (9 + 1), 0) by rw [hr2]; unfold Lib.unzigzag; rw [if_pos (by omega)]; congr 1)
                clear hr2 hpar
                go_wp2_with fail
                go_quiet (fail)
                go_wp2_with fail
                go_quiet (fail)
                clear hne hi0 hi1 hiN w1
                go_wp2_with fail
                all_goals (go_ret; exact rDone H.out HV.out (by omega) _)
        · rw [if_neg (fun h => h9 h.1)] at hF
          have ha := and127_u64 x (by omega)
          have h9' : ((k : Int) == 9) = false := by rw [beq_eq_false_iff_ne]; omega
          by_cases h128 : 128 ≤ x
          · have e := or_next acc x k HA.out (by omega)
            rw [if_pos h128] at hF
            have HF := Lib.hid hF
            have HN := Lib.hid (show acc + x % 128 * 2 ^ (7 * k) < 2 ^ (7 * (k + 1)) by
              have : x % 128 * 2 ^ (7 * k) ≤ 127 * 2 ^ (7 * k) := Nat.mul_le_mul_right _ (by omega)
              have := HA.out
              rw [pow7]; omega)
            have hx0 : ((x : Int) == 0) = false := by rw [beq_eq_false_iff_ne]; omega
            clear hF
            go_wp2_with fail
            go_quiet (fail)
            go_wp2_with fail
            go_quiet (fail)
            clear hne hi0 hi1 hiN w1
            go_wp2_with fail
            all_goals
              go_roundw
              case rel => exact ⟨k + 1, _, _, by go_num, by omega, by omega, rfl, HN, HF, Lib.hid rfl⟩
              case measure => simp [intOf]; omega
          · rw [if_neg h128] at hF
            by_cases h0 : x = 0
            · subst h0
              by_cases hk0' : k = 0
              · subst hk0'
                rw [if_neg (fun h => by omega)] at hF
                have e0 := or_none acc (by have : acc < 1 := HA.out; omega)
                have hUb : acc < 18446744073709551616 := by have : acc < 1 := HA.out; omega
                have hr2 : r = (Lib.unzigzag acc, k0 + (0 + 1), 0) := by rw [← HR.out, ← hF]; simp
                rw [Nat.add_zero] at d0 hlt
                have ha0 : bits .and .u64 0 127 = 0 := by decide
                have wx0 : IntKind.u64.wrap 0 = 0 := by decide
                clear hF wx ha
                by_cases hpar : acc % 2 = 1
                · have p1 : bits .and .u64 (acc : Int) 1 = (acc : Int) % 2 := Lib.u64_and1 _ (by omega) (by omega)
                  have p2 : ((acc : Int) % 2 == 1) = true := by rw [beq_iff_eq]; omega
                  have HV := Lib.hid (show r = (-((acc : Int) / 2) - 1, k0 + (0 + 1), 0) by rw [hr2]; unfold Lib.unzigzag; rw [if_neg (by omega)]; congr 1)
                  clear hr2 hpar
                  go_wp2_with fail
                  go_quiet (fail)
                  go_wp2_with fail
                  go_quiet (fail)
                  clear hne hi0 hi1 hiN w1
                  go_wp2_with fail
                  all_goals (go_ret; exact rDone H.out HV.out (by omega) _)
                · have p1 : bits .and .u64 (acc : Int) 1 = (acc : Int) % 2 := Lib.u64_and1 _ (by omega) (by omega)
                  have p2 : ((acc : Int) % 2 == 1) = false := by rw [beq_eq_false_iff_ne]; omega
                  have HV := Lib.hid (show r = ((acc : Int) / 2, k0 + (0 + 1), 0) by rw [hr2]; unfold Lib.unzigzag; rw [if_pos (by omega)]; congr 1)
                  clear hr2 hpar
                  go_wp2_with fail
                  go_quiet (fail)
                  go_wp2_with fail
                  go_quiet (fail)
                  clear hne hi0 hi1 hiN w1
                  go_wp2_with fail
                  all_goals (go_ret; exact rDone H.out HV.out (by omega) _)
              · rw [if_pos ⟨rfl, by omega⟩] at hF
                have hk1 : 0 < k := by omega
                have wx0 : IntKind.u64.wrap 0 = 0 := by decide
                clear wx ha
                have HV := Lib.hid (show r = (0, k0, 2) by rw [← HR.out, ← hF]; rfl)
                clear hF
                go_wp2_with fail
                go_quiet (fail)
                go_wp2_with fail
                go_quiet (fail)
                clear hne hi0 hi1 hiN w1
                go_wp2_with fail
                go_ret
                exact rForm H.out 2 HV.out _
            · have e := or_next acc x k HA.out (by omega)
              rw [if_neg (fun h => h0 h.1)] at hF
              have hx0 : ((x : Int) == 0) = false := by rw [beq_eq_false_iff_ne]; omega
              obtain ⟨U, hU⟩ : ∃ U, acc + x % 128 * 2 ^ (7 * k) = U := ⟨_, rfl⟩
              have hUb : U < 18446744073709551616 := by
                have hp := pow_le8 (show k ≤ 8 by omega)
                have : x % 128 * 2 ^ (7 * k) ≤ 127 * 2 ^ (7 * k) := Nat.mul_le_mul_right _ (by omega)
                have := HA.out
                omega
              have hr2 : r = (Lib.unzigzag U, k0 + (k + 1), 0) := by
                have ex : x % 128 = x := Nat.mod_eq_of_lt (by omega)
                rw [← HR.out, ← hF, ← hU, ex]; rfl
              rw [hU] at e
              clear hF hU h0
              by_cases hpar : U % 2 = 1
              · have p1 : bits .and .u64 (U : Int) 1 = (U : Int) % 2 := Lib.u64_and1 _ (by omega) (by omega)
                have p2 : ((U : Int) % 2 == 1) = true := by rw [beq_iff_eq]; omega
                have HV := Lib.hid (show r = (-((U : Int) / 2) - 1, k0 + (k + 1), 0) by rw [hr2]; unfold Lib.unzigzag; rw [if_neg (by omega)]; congr 1)
                clear hr2 hpar
                go_wp2_with fail
                go_quiet (fail)
                go_wp2_with fail
                go_quiet (fail)
                clear hne hi0 hi1 hiN w1
                go_wp2_with fail
                all_goals (go_ret; exact rDone H.out HV.out (by omega) _)
              · have p1 : bits .and .u64 (U : Int) 1 = (U : Int) % 2 := Lib.u64_and1 _ (by omega) (by omega)
                have p2 : ((U : Int) % 2 == 1) = false := by rw [beq_eq_false_iff_ne]; omega
                have HV := Lib.hid (show r = ((U : Int) / 2, k0 + (k + 1), 0) by rw [hr2]; unfold Lib.unzigzag; rw [if_pos (by omega)]; congr 1)
                clear hr2 hpar
                go_wp2_with fail
                go_quiet (fail)
                go_wp2_with fail
                go_quiet (fail)
                clear hne hi0 hi1 hiN w1
                go_wp2_with fail
                all_goals (go_ret; exact rDone H.out HV.out (by omega) _)
      · obtain hkl : k0 + k = B.length := by omega
        have hF := HF.out
        rw [List.drop_of_length_le (by omega)] at hF
        have HV := Lib.hid (show r = (0, k0, 3) by rw [← HR.out, ← hF]; rfl)
        have heq : ((k0 : Int) + (k : Int) == (B.length : Int)) = true := by rw [beq_iff_eq]; omega
        clear hF hkl hW HF
        go_wp2_with fail
        go_quiet (fail)
        go_wp2_with fail
        go_ret
        exact rForm H.out 3 HV.out _
  · rw [if_neg hbad]
    have P := Lib.hid (show RPost N w p B (.int .i64 0) k0 bad (.returned (.int .i64 0)) w from ⟨rfl, H.out, Kept.refl _ _⟩)
    have hb' : (bad == 0) = false := by simpa using hbad
    clear hbad
    go_enter Tryz.func82, Tryz.ntmps82
    go_wp2_with fail
    go_ret
    exact P.out

end Go.Proofs.YtfenfgbkphpboaaGreat

namespace Go.Proofs.YtfenfgbkphpboaaGreat
open Go.RowKit
variable {N : Nat}

/-- How the document's Dec stands to what is left: bytes, place, error; and the program's. -/
def SameD (B : List UInt8) (k : Nat) (bad : Int) (d : DS) : Prop := k ≤ B.length ∧ d.2 = bad ∧ d.1 = if bad = 0 then B.drop k else []

theorem rInt_same {B : List UInt8} {k : Nat} {bad : Int} {d : DS} (h : SameD B k bad d) : (rIntV B k bad).1 = (dInt d).1 ∧ SameD B (rIntV B k bad).2.1 (rIntV B k bad).2.2 (dInt d).2 := by
  obtain ⟨L, E⟩ := d
  obtain ⟨hk, h1, h2⟩ := h
  simp only at h1 h2
  subst h1
  unfold rIntV dInt dNum
  by_cases hE : E = 0
  · subst hE
    simp only [if_true] at h2 ⊢
    subst h2
    obtain ⟨hu, ho, hs⟩ := fst_ok (B.drop k)
    by_cases he : (fstF 0 0 (B.drop k)).2.2 = 0
    · have hi := unz_in hu
      obtain ⟨-, hl⟩ := hs he
      rw [List.length_drop] at hl
      rw [if_pos he, if_pos he, if_pos hi]
      refine ⟨rfl, by simp only; omega, rfl, ?_⟩
      simp only [if_true, List.drop_drop]
    · rw [if_neg he, if_neg he]
      refine ⟨rfl, hk, rfl, ?_⟩
      simp only [failD, if_true]
      rw [if_neg he]
  · rw [if_neg hE] at h2 ⊢
    subst h2
    have hf : fstF 0 0 [] = (0, 0, 3) := rfl
    simp only [hf, failD, if_neg hE]
    exact ⟨rfl, hk, rfl, by rw [if_neg hE, if_neg (by decide)]⟩

theorem SameD.ok {B : List UInt8} {k : Nat} {bad : Int} {d : DS} (h : SameD B k bad d) : OkD d := by
  obtain ⟨_, h1, h2⟩ := h
  by_cases hb : bad = 0
  · exact .inl (h1.trans hb)
  · rw [if_neg hb] at h2; exact .inr h2

theorem dNum_bad {d : DS} (ho : OkD d) (h : (dInt d).2.2 ≠ 0) (most : Int) : dNum 0 most d = (0, (dInt d).2) := by
  unfold dInt dNum at *
  by_cases he : (fstF 0 0 d.1).2.2 = 0
  · have hi := unz_in (fst_ok d.1).1
    rw [if_pos he, if_pos hi] at h
    rcases ho with ho | ho
    · exact absurd ho h
    · rw [ho] at he; exact absurd he (by decide)
  · rw [if_neg he, if_neg he]

theorem dNum_good {d : DS} (h : (dInt d).2.2 = 0) (most : Int) : dNum 0 most d = if 0 ≤ (dInt d).1 ∧ (dInt d).1 ≤ most then dInt d else (0, [], 2) := by
  unfold dInt dNum at *
  by_cases he : (fstF 0 0 d.1).2.2 = 0
  · have hi := unz_in (fst_ok d.1).1
    rw [if_pos he, if_pos hi] at h ⊢
    rw [if_pos he]
    simp only at h ⊢
    by_cases hin : 0 ≤ Lib.unzigzag (fstF 0 0 d.1).1 ∧ Lib.unzigzag (fstF 0 0 d.1).1 ≤ most
    · rw [if_pos hin, if_pos hin]
    · rw [if_neg hin, if_neg hin]
      simp only [failD, if_pos h]
  · rw [if_neg he] at h
    simp only [failD] at h
    by_cases h2 : d.2 = 0
    · rw [if_pos h2] at h; exact absurd h he
    · rw [if_neg h2] at h; exact absurd h h2

/-- What a call of the document's Dec leaves, told by the program's. -/
def RSame (N : Nat) (w : World) (p : Nat) (B : List UInt8) (r : Value) (d : DS) (e : Ending) (w' : World) : Prop := ∃ k bad, e = .returned r ∧ RDecH N w' p B k bad ∧ SameD B k bad d ∧ Kept (· = p) w w'

theorem rIntS_any (p : Nat) (B : List UInt8) (k : Nat) (bad : Int) (d : DS) (hs : SameD B k bad d) (hB : B.length ≤ 1000000) (w : World) (h : RDecH N w p B k bad) :
    Calls Tryz.prog 82 #[.pointer (some ⟨p, 0, none⟩)] w (RSame N w p B (.int .i64 (dInt d).1) (dInt d).2) := by
  obtain ⟨h1, h2⟩ := rInt_same hs
  refine (rInt_any p B k bad hs.1 hB w h).mono fun e w' ⟨he, hd, hk⟩ => ?_
  rw [h1] at he
  exact ⟨_, _, he, hd, h2, hk⟩

theorem RDecH.bad {w : World} {p k : Nat} {B : List UInt8} {bad : Int} (h : RDecH N w p B k bad) : w.cell? ⟨p, 2, none⟩ = some (.int .i64 bad) := by
  obtain ⟨a, c, h0, _⟩ := h
  exact (three_at h0).2.2.1

set_option maxHeartbeats 2000000 in
set_option maxRecDepth 100000 in
theorem rMany_any (p : Nat) (B : List UInt8) (k : Nat) (bad : Int) (d : DS) (most : Int) (hm : -9223372036854775808 ≤ most ∧ most ≤ 9223372036854775807) (hs : SameD B k bad d) (hB : B.length ≤ 1000000) (w : World) (h : RDecH N w p B k bad) :
    Calls Tryz.prog 45 #[.pointer (some ⟨p, 0, none⟩), .int .i64 most] w (RSame N w p B (.int .i64 (dNum 0 most d).1) (dNum 0 most d).2) := by
  have IN := Lib.hid (rIntS_any p B k bad d hs hB w h)
  have hB1 := dNum_bad hs.ok (most := most)
  have hG1 := dNum_good (d := d) (most := most)
  have hin : -9223372036854775808 ≤ (dInt d).1 ∧ (dInt d).1 ≤ 9223372036854775807 := by
    unfold dInt dNum
    by_cases he : (fstF 0 0 d.1).2.2 = 0
    · have hi := unz_in (fst_ok d.1).1
      rw [if_pos he, if_pos hi]; exact hi
    · rw [if_neg he]; show -9223372036854775808 ≤ (0 : Int) ∧ (0 : Int) ≤ 9223372036854775807; decide
  obtain ⟨⟨n, L1, E1⟩, hr⟩ : ∃ r, dInt d = r := ⟨_, rfl⟩
  rw [hr] at IN hB1 hG1 hin
  simp only at IN hB1 hG1 hin
  obtain ⟨hin0, hin1⟩ := hin
  obtain ⟨hm0, hm1⟩ := hm
  obtain ⟨D, hD⟩ : ∃ D, dNum 0 most d = D := ⟨_, rfl⟩
  rw [hD] at hB1 hG1 ⊢
  have HB1 := Lib.hid hB1
  have HG1 := Lib.hid hG1
  clear hr hD hB1 hG1 h hs
  by_cases hE : E1 = 0
  · subst hE
    by_cases hok : 0 ≤ n ∧ n ≤ most
    · have HD := Lib.hid (show D = (n, L1, 0) by rw [HG1.out rfl, if_pos hok])
      obtain ⟨hok0, hok1⟩ := hok
      go_enter Tryz.func45, Tryz.ntmps45
      go_wp2_with fail
      refine IN.out.mono ?_
      rintro e w2 ⟨k2, b2, rfl, hd, hsd, hk⟩
      obtain rfl : b2 = 0 := hsd.2.1.symm
      have cb := hd.bad
      have P := Lib.hid (show RSame N w p B (.int .i64 D.1) D.2 (.returned (.int .i64 n)) w2 from by rw [HD.out]; exact ⟨k2, 0, rfl, hd, hsd, hk⟩)
      clear hd hsd hk
      go_wp2_with fail
      go_ret
      exact P.out
    · have HD := Lib.hid (show D = (0, [], 2) by rw [HG1.out rfl, if_neg hok])
      have fin : ∀ w2 k2 v, RDecH N w2 p B k2 0 → SameD B k2 0 (L1, 0) → Kept (· = p) w w2 → v = 0 → RSame N w p B (.int .i64 D.1) D.2 (.returned (.int .i64 v)) (w2.setCell ⟨p, 2, none⟩ (.int .i64 2)) := fun w2 k2 v hd hsd hk hv => by
        subst hv
        rw [HD.out]
        exact ⟨k2, 2, rfl, hd.put2 2, ⟨hsd.1, rfl, rfl⟩, hk.trans (kept_p _ p 2 _) (fun _ h _ => h)⟩
      have FIN := Lib.hid fin
      clear fin
      by_cases hneg : n < 0
      · clear hok
        go_enter Tryz.func45, Tryz.ntmps45
        go_wp2_with fail
        refine IN.out.mono ?_
        rintro e w2 ⟨k2, b2, rfl, hd, hsd, hk⟩
        obtain rfl : b2 = 0 := hsd.2.1.symm
        have cb := hd.bad
        have f2 : w2.frozen? ⟨p, 2, none⟩ = false := by obtain ⟨_, _, h0, _⟩ := hd; exact (three_at h0).2.2.2.2
        have P := Lib.hid (FIN.out w2 k2 0 hd hsd hk rfl)
        clear hd hsd hk
        go_wp2_with fail
        go_ret
        exact P.out
      · have hgt : most < n := by omega
        clear hok
        go_enter Tryz.func45, Tryz.ntmps45
        go_wp2_with fail
        refine IN.out.mono ?_
        rintro e w2 ⟨k2, b2, rfl, hd, hsd, hk⟩
        obtain rfl : b2 = 0 := hsd.2.1.symm
        have cb := hd.bad
        have f2 : w2.frozen? ⟨p, 2, none⟩ = false := by obtain ⟨_, _, h0, _⟩ := hd; exact (three_at h0).2.2.2.2
        have P := Lib.hid (FIN.out w2 k2 0 hd hsd hk rfl)
        clear hd hsd hk
        go_wp2_with fail
        go_ret
        exact P.out
  · have HD := Lib.hid (show D = (0, L1, E1) from HB1.out hE)
    have hE' : (E1 == 0) = false := by simpa using hE
    clear hE
    go_enter Tryz.func45, Tryz.ntmps45
    go_wp2_with fail
    refine IN.out.mono ?_
    rintro e w2 ⟨k2, b2, rfl, hd, hsd, hk⟩
    obtain rfl : b2 = E1 := hsd.2.1.symm
    have cb := hd.bad
    have P := Lib.hid (show RSame N w p B (.int .i64 D.1) D.2 (.returned (.int .i64 0)) w2 from by rw [HD.out]; exact ⟨k2, b2, rfl, hd, hsd, hk⟩)
    clear hd hsd hk
    go_wp2_with fail
    go_ret
    exact P.out

set_option maxHeartbeats 2000000 in
set_option maxRecDepth 100000 in
theorem rLeft_any (p : Nat) (B : List UInt8) (k : Nat) (bad : Int) (d : DS) (hs : SameD B k bad d) (hB : B.length ≤ 1000000) (w : World) (h : RDecH N w p B k bad) :
    Calls Tryz.prog 44 #[.pointer (some ⟨p, 0, none⟩)] w fun e w' => e = .returned (.int .i64 (d.1.length : Nat)) ∧ ∃ n, w' = w.drewN n := by
  obtain ⟨a, c, h0, -⟩ := h
  obtain ⟨c0, c1, c2, -⟩ := three_at h0
  obtain ⟨hk, h1, h2⟩ := hs
  clear h0
  by_cases hb : bad = 0
  · subst hb
    rw [if_pos rfl] at h2
    have HL := Lib.hid (show d.1.length = B.length - k by rw [h2, List.length_drop])
    have w1 : IntKind.i64.wrap ((B.length : Int) - (k : Int)) = (B.length : Int) - (k : Int) := IntWalk.i64_in _ (by omega)
    clear h1 h2
    go_enter Tryz.func44, Tryz.ntmps44
    go_wp2_with fail
    go_quiet (fail)
    go_wp2_with fail
    go_ret
    exact ⟨ret_i64' (by rw [HL.out]; omega), _, rfl⟩
  · rw [if_neg hb] at h2
    have HL := Lib.hid (show d.1.length = 0 by rw [h2]; rfl)
    have hb' : (bad == 0) = false := by simpa using hb
    clear h1 h2 hb
    go_enter Tryz.func44, Tryz.ntmps44
    go_wp2_with fail
    go_ret
    exact ⟨ret_i64' (by rw [HL.out]; rfl), 0, rfl⟩

theorem dText_by (d : DS) (ho : OkD d) : dText d = if (dInt d).2.2 = 0 then (if (dInt d).1 < 0 then ([], [], 2) else if ((dInt d).2.1.length : Int) < (dInt d).1 then ([], [], 3) else ((dInt d).2.1.take (dInt d).1.toNat, (dInt d).2.1.drop (dInt d).1.toNat, 0)) else ([], (dInt d).2) := by
  by_cases h : (dInt d).2.2 = 0
  · rw [if_pos h]
    have hg := dNum_good h 9223372036854775807
    have hi : (dInt d).1 ≤ 9223372036854775807 := by
      unfold dInt dNum
      by_cases he : (fstF 0 0 d.1).2.2 = 0
      · have hi := unz_in (fst_ok d.1).1
        rw [if_pos he, if_pos hi]; exact hi.2
      · rw [if_neg he]; show (0 : Int) ≤ 9223372036854775807; decide
    by_cases hn : (dInt d).1 < 0
    · have hg' : dNum 0 9223372036854775807 d = (0, [], 2) := by rw [hg, if_neg (by omega)]
      rw [if_pos hn]
      unfold dText
      rw [hg']
      rfl
    · have hg' : dNum 0 9223372036854775807 d = dInt d := by rw [hg, if_pos ⟨by omega, hi⟩]
      rw [if_neg hn]
      unfold dText
      rw [hg']
      by_cases hl : ((dInt d).2.1.length : Int) < (dInt d).1
      · rw [if_pos hl, if_pos hl]
        simp only [failD, if_pos h]
      · rw [if_neg hl, if_neg hl, h]
  · rw [if_neg h]
    have hb := dNum_bad ho h 9223372036854775807
    have hL : (dInt d).2.1 = [] := by
      rcases (dNum_ok (lo := -9223372036854775808) (hi := 9223372036854775807) ho) with h2 | h2
      · exact absurd h2 h
      · exact h2
    obtain ⟨⟨n, L, E⟩, hr⟩ : ∃ r, dInt d = r := ⟨_, rfl⟩
    rw [hr] at hb hL ⊢
    simp only at hb hL
    subst hL
    unfold dText
    rw [hb]
    rfl

theorem dInt_in (d : DS) : -9223372036854775808 ≤ (dInt d).1 ∧ (dInt d).1 ≤ 9223372036854775807 := by
  unfold dInt dNum
  by_cases he : (fstF 0 0 d.1).2.2 = 0
  · have hi := unz_in (fst_ok d.1).1
    rw [if_pos he, if_pos hi]; exact hi
  · rw [if_neg he]; show -9223372036854775808 ≤ (0 : Int) ∧ (0 : Int) ≤ 9223372036854775807; decide

theorem dInt_nil {d : DS} (h : d.1 = []) : (dInt d).2.2 ≠ 0 := by
  unfold dInt dNum
  rw [h]
  show (failD d 3).2 ≠ 0
  unfold failD
  split
  · show (3 : Int) ≠ 0; decide
  · assumption

set_option maxHeartbeats 4000000 in
set_option maxRecDepth 100000 in
theorem rText_any (p : Nat) (B : List UInt8) (k : Nat) (bad : Int) (d : DS) (hs : SameD B k bad d) (hB : B.length ≤ 1000000) (w : World) (h : RDecH N w p B k bad) :
    Calls Tryz.prog 79 #[.pointer (some ⟨p, 0, none⟩)] w (RSame N w p B (.string ⟨(dText d).1.toArray⟩) (dText d).2) := by
  have IN := Lib.hid (rIntS_any p B k bad d hs hB w h)
  have hT := dText_by d hs.ok
  have hin := dInt_in d
  have hne : (dInt d).2.2 = 0 → B ≠ [] := fun h0 hB0 => dInt_nil (d := d) (by have := hs.2.2; rw [hB0] at this; simpa using this) h0
  obtain ⟨⟨n, L1, E1⟩, hr⟩ : ∃ r, dInt d = r := ⟨_, rfl⟩
  rw [hr] at IN hT hin hne
  simp only at IN hT hin hne
  have HNE := Lib.hid hne
  clear hne
  obtain ⟨hin0, hin1⟩ := hin
  rw [hT]
  clear hr hT h hs
  by_cases hE : E1 = 0
  · subst hE
    rw [if_pos rfl]
    by_cases hneg : n < 0
    · rw [if_pos hneg]
      go_enter Tryz.func79, Tryz.ntmps79
      go_wp2_with fail
      refine IN.out.mono ?_
      rintro e w2 ⟨k2, b2, rfl, hd, hsd, hk⟩
      obtain rfl : b2 = 0 := hsd.2.1.symm
      have cb := hd.bad
      have f2 : w2.frozen? ⟨p, 2, none⟩ = false := by obtain ⟨_, _, h0, _⟩ := hd; exact (three_at h0).2.2.2.2
      have P := Lib.hid (show RSame N w p B (.string ⟨#[]⟩) ([], 2) (.returned (.string ⟨#[]⟩)) (w2.setCell ⟨p, 2, none⟩ (.int .i64 2)) from ⟨k2, 2, rfl, hd.put2 2, ⟨hsd.1, rfl, rfl⟩, hk.trans (kept_p _ p 2 _) (fun _ h _ => h)⟩)
      clear hd hsd hk
      go_wp2_with fail
      go_ret
      exact P.out
    · rw [if_neg hneg]
      obtain ⟨m, rfl⟩ := Int.eq_ofNat_of_zero_le (show 0 ≤ n by omega)
      by_cases hl : ((L1.length : Nat) : Int) < ((m : Nat) : Int)
      · rw [if_pos hl]
        go_enter Tryz.func79, Tryz.ntmps79
        go_wp2_with fail
        refine IN.out.mono ?_
        rintro e w2 ⟨k2, b2, rfl, hd, hsd, hk⟩
        obtain rfl : b2 = 0 := hsd.2.1.symm
        have HD := Lib.hid hd
        have HS := Lib.hid hsd
        have HK := Lib.hid hk
        have hLl : L1.length = B.length - k2 := by have := hsd.2.2; simp only [if_true] at this; rw [this, List.length_drop]
        have hk2 := hsd.1
        obtain ⟨a, c, h0, -⟩ := hd
        obtain ⟨c0, c1, c2, f1, f2⟩ := three_at h0
        have w1 : IntKind.i64.wrap ((B.length : Int) - (k2 : Int)) = (B.length : Int) - (k2 : Int) := IntWalk.i64_in _ (by omega)
        have ht : decide ((B.length : Int) - (k2 : Int) < (m : Int)) = true := by rw [decide_eq_true_iff]; omega
        clear h0 hsd hk hLl hl
        go_wp2_with fail
        go_quiet (fail)
        go_wp2_with fail
        go_ret
        exact ⟨k2, 3, rfl, (HD.out.drewN _).put2 3, ⟨HS.out.1, rfl, rfl⟩, HK.out.trans ((keptDrewN _ w2 _).trans (kept_p _ p 2 _) (fun _ h _ => h)) (fun _ h _ => h)⟩
      · rw [if_neg hl]
        go_enter Tryz.func79, Tryz.ntmps79
        go_wp2_with fail
        refine IN.out.mono ?_
        rintro e w2 ⟨k2, b2, rfl, hd, hsd, hk⟩
        obtain rfl : b2 = 0 := hsd.2.1.symm
        have HD := Lib.hid hd
        have HS := Lib.hid hsd
        have HK := Lib.hid hk
        have hL1 : L1 = B.drop k2 := by have := hsd.2.2; simpa using this
        subst hL1
        rw [List.length_drop] at hl
        have hk2 := hsd.1
        obtain ⟨a, c, h0, h1, -⟩ := hd
        obtain ⟨c0, c1, c2, f1, f2⟩ := three_at h0
        have w1 : IntKind.i64.wrap ((B.length : Int) - (k2 : Int)) = (B.length : Int) - (k2 : Int) := IntWalk.i64_in _ (by omega)
        have ht : decide ((B.length : Int) - (k2 : Int) < (m : Int)) = false := by rw [decide_eq_false_iff_not]; omega
        have w3 : IntKind.i64.wrap ((k2 : Int) + (m : Int)) = (k2 : Int) + (m : Int) := IntWalk.i64_in _ (by omega)
        have hBc := h1.1
        have hcm : c ≤ 9223372036854775807 := by have := h1.2.1; unfold maxLen at this; omega
        obtain ⟨b, off, rfl, -⟩ := h1.cells (List.length_pos_iff.2 (HNE.out (by simp)))
        have hN : (m : Int).toNat = m := Int.toNat_natCast m
        have j0 : (k2 : Int) ≤ (k2 : Int) + (m : Int) := by omega
        have j1 : (k2 : Int) + (m : Int) ≤ (c : Int) := by omega
        have jN : ((k2 : Int) + (m : Int)).toNat = k2 + m := by omega
        have fin : ∀ q q', RSame N w p B (.string ⟨((B.drop k2).take m).toArray⟩) ((B.drop k2).drop m, 0) (.returned (.string ⟨((B.drop k2).take m).toArray⟩)) (((w2.drewN q).drewN q').setCell ⟨p, 1, none⟩ (.int .i64 ((k2 : Int) + (m : Int)))) := fun q q' =>
          ⟨k2 + m, 0, rfl, by rw [show ((k2 : Int) + (m : Int)) = ((k2 + m : Nat) : Int) by omega]; exact ((HD.out.drewN q).drewN q').put1 (k2 + m), ⟨by omega, rfl, by simp⟩, HK.out.trans (((keptDrewN _ w2 q).trans (keptDrewN _ _ q') (fun _ h _ => h)).trans (kept_p _ p 1 _) (fun _ h _ => h)) (fun _ h _ => h)⟩
        have FIN := Lib.hid fin
        by_cases hck : c = k2
        · subst hck
          obtain rfl : m = 0 := by omega
          have hcv : ∀ q, (convert 29 9 (.slice (some ⟨b, off, none⟩) 0 0)).run Tryz.prog (w2.drewN q) = .ok (.string ⟨#[]⟩) (w2.drewN q) := fun q => strB (l := []) ⟨Nat.le_refl _, Nat.zero_le _, .inr (.inl ⟨rfl, _, rfl⟩)⟩
          have hBL : B.length = c := by omega
          have FIN0 := Lib.hid (p := ∀ q, RSame N w p B (.string ⟨#[]⟩) (List.drop 0 (B.drop c), 0) (.returned (.string ⟨#[]⟩)) ((w2.drewN q).setCell ⟨p, 1, none⟩ (.int .i64 (c : Nat)))) (fun q =>
            ⟨c, 0, rfl, (HD.out.drewN q).put1 c, ⟨by omega, rfl, by simp⟩, HK.out.trans ((keptDrewN _ w2 q).trans (kept_p _ p 1 _) (fun _ h _ => h)) (fun _ h _ => h)⟩)
          have HX := Lib.hid hBL
          rw [hBL] at c0 w1 ht
          clear h0 hsd hk hl h1 fin hBL j0 j1 jN w3 hN FIN
          go_wp2_with fail
          go_quiet (fail)
          go_wp2_with fail
          go_quiet (fail)
          go_wp2_with fail
          go_ret
          exact FIN0.out _
        · have hcv : ∀ q, (convert 29 9 (.slice (some ⟨b, off + k2, none⟩) m (c - k2))).run Tryz.prog (w2.drewN q) = .ok (.string ⟨((B.drop k2).take m).toArray⟩) (w2.drewN q) := fun q => by
            have h2 : BR (w2.drewN q) (some ⟨b, off, none⟩) c B := h1
            have h3 := strB ((h2.drop hk2).take m)
            rw [List.length_take_of_le (by rw [List.length_drop]; omega)] at h3
            exact h3
          clear h0 hsd hk hl h1 fin
          go_wp2_with fail
          go_quiet (fail)
          go_wp2_with fail
          go_quiet (fail)
          go_wp2_with fail
          go_ret
          first | exact FIN.out _ _ | exact FIN.out _ 0 | (rw [World.drewN_drewN]; exact FIN.out _ 0) | trace_state
  · rw [if_neg hE]
    have hE' : (E1 == 0) = false := by simpa using hE
    clear hE
    go_enter Tryz.func79, Tryz.ntmps79
    go_wp2_with fail
    refine IN.out.mono ?_
    rintro e w2 ⟨k2, b2, rfl, hd, hsd, hk⟩
    obtain rfl : b2 = E1 := hsd.2.1.symm
    have cb := hd.bad
    have P := Lib.hid (show RSame N w p B (.string ⟨#[]⟩) (L1, b2) (.returned (.string ⟨#[]⟩)) w2 from ⟨k2, b2, rfl, hd, hsd, hk⟩)
    clear hd hsd hk
    go_wp2_with fail
    go_ret
    exact P.out

end Go.Proofs.YtfenfgbkphpboaaGreat
