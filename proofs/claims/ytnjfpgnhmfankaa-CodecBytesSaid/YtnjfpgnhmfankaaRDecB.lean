/-
  No statement: the document's own Dec: Int.
-/
import Derived.Test.YtnjfpgnhmfankaaCDecM
import Derived.Test.YtnjfpgnhmfankaaRPut
import Derived.Deep.QuietTactic
import Derived.BigQuiet
namespace Go.Proofs.Ytnjfpgnhmfankaa
open Go.RowKit
variable {N : Nat}

/-- At block p lies the document's Dec: of bytes B, at k, with the first error. -/
def RDecH (N : Nat) (w : World) (p : Nat) (B : List UInt8) (k : Nat) (bad : Int) : Prop :=
  ∃ a c, w.heap[p]? = some (.cells #[.slice a B.length c, .int .i64 k, .int .i64 bad] 45 (0, 0)) ∧ BR w a c B ∧ (∀ x, a = some x → B ≠ [] → x.block < N) ∧ N ≤ p

theorem BR.keptN {w w' : World} {a : Option Addr} {c : Nat} {l : List UInt8} {S : Nat → Prop} (h : BR w a c l) (hk : Kept S w w') (hS : ∀ x, a = some x → l ≠ [] → ¬ S x.block) : BR w' a c l := by
  by_cases hl : l = []
  · subst hl
    refine ⟨h.1, h.2.1, ?_⟩
    rcases h.2.2 with h | h | ⟨b, off, rfl, _⟩
    · exact .inl h
    · exact .inr (.inl h)
    · exact .inr (.inl ⟨rfl, _, rfl⟩)
  · exact h.keptS hk (fun x hx => hS x hx hl)

theorem RDecH.kept {w w' : World} {p k : Nat} {B : List UInt8} {bad : Int} {S : Nat → Prop} (h : RDecH N w p B k bad) (hk : Kept S w w') (hp : ¬ S p) (hS : ∀ k, S k → N ≤ k) : RDecH N w' p B k bad := by
  obtain ⟨a, c, h0, h1, h2, h3⟩ := h
  exact ⟨a, c, hk.heap h0 hp, h1.keptN hk (fun x hx hl h => by have := h2 x hx hl; have := hS _ h; omega), h2, h3⟩

/-- What Int answers; where it stands then; the first error. -/
def rIntV (B : List UInt8) (k : Nat) (bad : Int) : Int × Nat × Int :=
  if bad = 0 then (if (fstF 0 0 (B.drop k)).2.2 = 0 then (Lib.unzigzag (fstF 0 0 (B.drop k)).1, k + (fstF 0 0 (B.drop k)).2.1, 0) else (0, k, (fstF 0 0 (B.drop k)).2.2)) else (0, k, bad)

/-- What a call of the document's Dec leaves. -/
def RPost (N : Nat) (w : World) (p : Nat) (B : List UInt8) (r : Value) (k : Nat) (bad : Int) (e : Ending) (w' : World) : Prop := e = .returned r ∧ RDecH N w' p B k bad ∧ Kept (· = p) w w'

theorem three_at {w : World} {p : Nat} {x y z : Value} {T : TypeId} (h : w.heap[p]? = some (.cells #[x, y, z] T (0, 0))) : w.cell? ⟨p, 0, none⟩ = some x ∧ w.cell? ⟨p, 1, none⟩ = some y ∧ w.cell? ⟨p, 2, none⟩ = some z ∧ w.frozen? ⟨p, 1, none⟩ = false ∧ w.frozen? ⟨p, 2, none⟩ = false := by
  refine ⟨?_, ?_, ?_, ?_, ?_⟩ <;> simp [World.cell?, World.frozen?, h]
theorem three_set1 {w : World} {p : Nat} {x y z : Value} {T : TypeId} (h : w.heap[p]? = some (.cells #[x, y, z] T (0, 0))) (u : Value) : (w.setCell ⟨p, 1, none⟩ u).heap[p]? = some (.cells #[x, u, z] T (0, 0)) := by
  have := heap_setCell_same w p 1 #[x, y, z] T u h
  simpa using this
theorem three_set2 {w : World} {p : Nat} {x y z : Value} {T : TypeId} (h : w.heap[p]? = some (.cells #[x, y, z] T (0, 0))) (u : Value) : (w.setCell ⟨p, 2, none⟩ u).heap[p]? = some (.cells #[x, y, u] T (0, 0)) := by
  have := heap_setCell_same w p 2 #[x, y, z] T u h
  simpa using this

theorem RDecH.put1 {w : World} {p k : Nat} {B : List UInt8} {bad : Int} (h : RDecH N w p B k bad) (j : Nat) : RDecH N (w.setCell ⟨p, 1, none⟩ (.int .i64 (j : Nat))) p B j bad := by
  obtain ⟨a, c, h0, h1, h2⟩ := h
  exact ⟨a, c, three_set1 h0 _, h1.keptN (kept_p w p 1 _) (fun x hx hl h => by have := h2.1 x hx hl; have := h2.2; omega), h2⟩
theorem RDecH.put2 {w : World} {p k : Nat} {B : List UInt8} {bad : Int} (h : RDecH N w p B k bad) (e : Int) : RDecH N (w.setCell ⟨p, 2, none⟩ (.int .i64 e)) p B k e := by
  obtain ⟨a, c, h0, h1, h2⟩ := h
  exact ⟨a, c, three_set2 h0 _, h1.keptN (kept_p w p 2 _) (fun x hx hl h => by have := h2.1 x hx hl; have := h2.2; omega), h2⟩
theorem RDecH.drewN {w : World} {p k : Nat} {B : List UInt8} {bad : Int} (h : RDecH N w p B k bad) (q : Nat) : RDecH N (w.drewN q) p B k bad := h
theorem keptDrewN (S : Nat → Prop) (w : World) (q : Nat) : Kept S w (w.drewN q) := (Kept.refl S w).drewN q

theorem rForm {w : World} {p k : Nat} {B : List UInt8} {r : Int × Nat × Int} (h : RDecH N w p B k 0) (e : Int) (hr : r = (0, k, e)) (q : Nat) : RPost N w p B (.int .i64 r.1) r.2.1 r.2.2 (.returned (.int .i64 0)) ((w.drewN q).setCell ⟨p, 2, none⟩ (.int .i64 e)) := by
  subst hr
  exact ⟨rfl, (h.drewN q).put2 e, (keptDrewN _ w q).trans (kept_p _ p 2 _) (fun _ h _ => h)⟩

theorem rDone {w : World} {p k j : Nat} {B : List UInt8} {r : Int × Nat × Int} {v : Int} {i : Int} (h : RDecH N w p B k 0) (hr : r = (v, j, 0)) (hi : i = (j : Nat)) (q : Nat) : RPost N w p B (.int .i64 r.1) r.2.1 r.2.2 (.returned (.int .i64 v)) ((w.drewN q).setCell ⟨p, 1, none⟩ (.int .i64 i)) := by
  subst hr; subst hi
  exact ⟨rfl, (h.drewN q).put1 j, (keptDrewN _ w q).trans (kept_p _ p 1 _) (fun _ h _ => h)⟩

set_option maxHeartbeats 8000000 in
set_option maxRecDepth 100000 in
theorem rInt_any (p : Nat) (B : List UInt8) (k0 : Nat) (bad : Int) (hk0 : k0 ≤ B.length) (hBl : B.length ≤ 1000000) (w : World) (h : RDecH N w p B k0 bad) :
    Calls Try.prog 19 #[.pointer (some ⟨p, 0, none⟩)] w (RPost N w p B (.int .i64 (rIntV B k0 bad).1) (rIntV B k0 bad).2.1 (rIntV B k0 bad).2.2) := by
  have H := Lib.hid h
  obtain ⟨a, c, h0, h1, h2⟩ := h
  obtain ⟨c0, c1, c2, f1, f2⟩ := three_at h0
  have HB := Lib.hid h1
  clear h0 h1 h2
  unfold rIntV
  by_cases hbad : bad = 0
  · subst hbad
    rw [if_pos rfl]
    have hok := (fst_ok (B.drop k0)).1
    obtain ⟨f, hf⟩ : ∃ f, fstF 0 0 (B.drop k0) = f := ⟨_, rfl⟩
    rw [hf] at hok ⊢
    obtain ⟨r, hr⟩ : ∃ r, (if f.2.2 = 0 then (Lib.unzigzag f.1, k0 + f.2.1, 0) else (0, k0, f.2.2) : Int × Nat × Int) = r := ⟨_, rfl⟩
    rw [hr]
    have HF := Lib.hid hf
    have HOK := Lib.hid hok
    have HR := Lib.hid hr
    clear hf hok hr
    go_enter Try.func19, Try.ntmps19
    go_wp2_with fail
    go_loopw [3, 4] (fun u i wr => ∃ k acc q : Nat, i = .int .i64 k ∧ k0 + k ≤ B.length ∧ k ≤ 9 ∧ u = .int .u64 acc ∧ Hid (acc < 2 ^ (7 * k)) ∧ Hid (fstF k acc (B.drop (k0 + k)) = f) ∧ Hid (wr = w.drewN q)) (fun _ i _ => 10 - (intOf i).toNat)
    case atStart => exact ⟨0, 0, 0, rfl, hk0, by omega, rfl, Lib.hid (by decide), HF, Lib.hid rfl⟩
    case round =>
      obtain ⟨k, acc, q, rfl, hk, hk9, rfl, HA, HF, hW⟩ := hrel
      obtain rfl := hW.out
      have w1 : IntKind.i64.wrap ((k0 : Int) + (k : Int)) = (k0 : Int) + (k : Int) := IntWalk.i64_in _ (by omega)
      by_cases hlt : k0 + k < B.length
      · obtain ⟨b, off, rfl, hc⟩ := HB.out.cells (by omega)
        have d0 := hc (k0 + k) hlt
        have hne : ((k0 : Int) + (k : Int) == (B.length : Int)) = false := by rw [beq_eq_false_iff_ne]; omega
        have hi0 : 0 ≤ (k0 : Int) + (k : Int) := by omega
        have hi1 : (k0 : Int) + (k : Int) < (B.length : Int) := by omega
        have hiN : ((k0 : Int) + (k : Int)).toNat = k0 + k := by omega
        have hx := byte_lt B[k0 + k]
        have hF := HF.out
        have hd : B.drop (k0 + k) = B[k0 + k] :: B.drop (k0 + k + 1) := List.drop_eq_getElem_cons hlt
        rw [hd, fstF] at hF
        obtain ⟨x, hx'⟩ : ∃ x, B[k0 + k].toNat = x := ⟨_, rfl⟩
        rw [hx'] at d0 hx hF
        have wx : IntKind.u64.wrap (x : Int) = (x : Int) := by rw [IntKind.wrap_u64]; omega
        clear hc hx' hd HF hW
        by_cases h9 : k = 9
        · subst h9
          by_cases h1 : 1 < x
          · rw [if_pos ⟨rfl, h1⟩] at hF
            have HV := Lib.hid (show r = (0, k0, 2) by rw [← HR.out, ← hF]; rfl)
            clear hF
            go_wp2_with fail
            go_quiet (fail)
            go_wp2_with fail
            go_quiet (fail)
            clear hne hi0 hi1 hiN w1
            go_wp2_with fail
            go_ret
            exact rForm H.out 2 HV.out _
          · rw [if_neg (fun h => h1 h.2), if_neg (by omega)] at hF
            by_cases h0 : x = 0
            · subst h0
              rw [if_pos ⟨rfl, by omega⟩] at hF
              clear wx
              have HV := Lib.hid (show r = (0, k0, 2) by rw [← HR.out, ← hF]; rfl)
              clear hF
              go_wp2_with fail
              go_quiet (fail)
              go_wp2_with fail
              go_quiet (fail)
              clear hne hi0 hi1 hiN w1
              go_wp2_with fail
              go_ret
              exact rForm H.out 2 HV.out _
            · obtain rfl : x = 1 := by omega
              rw [if_neg (fun h => by omega)] at hF
              have ha : bits .and .u64 1 127 = 1 := by decide
              have e := or_last acc HA.out
              obtain ⟨k, hk9'⟩ : ∃ k, k = 9 := ⟨9, rfl⟩
              obtain ⟨U, hU⟩ : ∃ U, acc + 9223372036854775808 = U := ⟨_, rfl⟩
              have hUb : U < 18446744073709551616 := by have h9 : acc < 9223372036854775808 := HA.out; omega
              have hr2 : r = (Lib.unzigzag U, k0 + (9 + 1), 0) := by rw [← HR.out, ← hF, ← hU]; rfl
              rw [hU] at e
              clear hF hU wx k hk9'
              by_cases hpar : U % 2 = 1
              · have p1 : bits .and .u64 (U : Int) 1 = (U : Int) % 2 := Lib.u64_and1 _ (by omega) (by omega)
                have p2 : ((U : Int) % 2 == 1) = true := by rw [beq_iff_eq]; omega
                have HV := Lib.hid (show r = (-((U : Int) / 2) - 1, k0 + (9 + 1), 0) by rw [hr2]; unfold Lib.unzigzag; rw [if_neg (by omega)]; congr 1)
                clear hr2 hpar
                go_wp2_with fail
                go_quiet (fail)
                go_wp2_with fail
                go_quiet (fail)
                clear hne hi0 hi1 hiN w1
                go_wp2_with fail
                all_goals (go_ret; exact rDone H.out HV.out (by omega) _)
              · have p1 : bits .and .u64 (U : Int) 1 = (U : Int) % 2 := Lib.u64_and1 _ (by omega) (by omega)
                have p2 : ((U : Int) % 2 == 1) = false := by rw [beq_eq_false_iff_ne]; omega
                have HV := Lib.hid (show r = ((U : Int) / 2, k0 + (9 + 1), 0) by rw [hr2]; unfold Lib.unzigzag; rw [if_pos (by omega)]; congr 1)
                clear hr2 hpar
                go_wp2_with fail
                go_quiet (fail)
                go_wp2_with fail
                go_quiet (fail)
                clear hne hi0 hi1 hiN w1
                go_wp2_with fail
                all_goals (go_ret; exact rDone H.out HV.out (by omega) _)
        · rw [if_neg (fun h => h9 h.1)] at hF
          have ha := and127_u64 x (by omega)
          have h9' : ((k : Int) == 9) = false := by rw [beq_eq_false_iff_ne]; omega
          by_cases h128 : 128 ≤ x
          · have e := or_next acc x k HA.out (by omega)
            rw [if_pos h128] at hF
            have HF := Lib.hid hF
            have HN := Lib.hid (show acc + x % 128 * 2 ^ (7 * k) < 2 ^ (7 * (k + 1)) by
              have : x % 128 * 2 ^ (7 * k) ≤ 127 * 2 ^ (7 * k) := Nat.mul_le_mul_right _ (by omega)
              have := HA.out
              rw [pow7]; omega)
            have hx0 : ((x : Int) == 0) = false := by rw [beq_eq_false_iff_ne]; omega
            clear hF
            go_wp2_with fail
            go_quiet (fail)
            go_wp2_with fail
            go_quiet (fail)
            clear hne hi0 hi1 hiN w1
            go_wp2_with fail
            all_goals
              go_roundw
              case rel => exact ⟨k + 1, _, _, by go_num, by omega, by omega, rfl, HN, HF, Lib.hid rfl⟩
              case measure => simp [intOf]; omega
          · rw [if_neg h128] at hF
            by_cases h0 : x = 0
            · subst h0
              by_cases hk0' : k = 0
              · subst hk0'
                rw [if_neg (fun h => by omega)] at hF
                have e0 := or_none acc (by have : acc < 1 := HA.out; omega)
                have hUb : acc < 18446744073709551616 := by have : acc < 1 := HA.out; omega
                have hr2 : r = (Lib.unzigzag acc, k0 + (0 + 1), 0) := by rw [← HR.out, ← hF]; simp
                rw [Nat.add_zero] at d0 hlt
                have ha0 : bits .and .u64 0 127 = 0 := by decide
                have wx0 : IntKind.u64.wrap 0 = 0 := by decide
                clear hF wx ha
                by_cases hpar : acc % 2 = 1
                · have p1 : bits .and .u64 (acc : Int) 1 = (acc : Int) % 2 := Lib.u64_and1 _ (by omega) (by omega)
                  have p2 : ((acc : Int) % 2 == 1) = true := by rw [beq_iff_eq]; omega
                  have HV := Lib.hid (show r = (-((acc : Int) / 2) - 1, k0 + (0 + 1), 0) by rw [hr2]; unfold Lib.unzigzag; rw [if_neg (by omega)]; congr 1)
                  clear hr2 hpar
                  go_wp2_with fail
                  go_quiet (fail)
                  go_wp2_with fail
                  go_quiet (fail)
                  clear hne hi0 hi1 hiN w1
                  go_wp2_with fail
                  all_goals (go_ret; exact rDone H.out HV.out (by omega) _)
                · have p1 : bits .and .u64 (acc : Int) 1 = (acc : Int) % 2 := Lib.u64_and1 _ (by omega) (by omega)
                  have p2 : ((acc : Int) % 2 == 1) = false := by rw [beq_eq_false_iff_ne]; omega
                  have HV := Lib.hid (show r = ((acc : Int) / 2, k0 + (0 + 1), 0) by rw [hr2]; unfold Lib.unzigzag; rw [if_pos (by omega)]; congr 1)
                  clear hr2 hpar
                  go_wp2_with fail
                  go_quiet (fail)
                  go_wp2_with fail
                  go_quiet (fail)
                  clear hne hi0 hi1 hiN w1
                  go_wp2_with fail
                  all_goals (go_ret; exact rDone H.out HV.out (by omega) _)
              · rw [if_pos ⟨rfl, by omega⟩] at hF
                have hk1 : 0 < k := by omega
                have wx0 : IntKind.u64.wrap 0 = 0 := by decide
                clear wx ha
                have HV := Lib.hid (show r = (0, k0, 2) by rw [← HR.out, ← hF]; rfl)
                clear hF
                go_wp2_with fail
                go_quiet (fail)
                go_wp2_with fail
                go_quiet (fail)
                clear hne hi0 hi1 hiN w1
                go_wp2_with fail
                go_ret
                exact rForm H.out 2 HV.out _
            · have e := or_next acc x k HA.out (by omega)
              rw [if_neg (fun h => h0 h.1)] at hF
              have hx0 : ((x : Int) == 0) = false := by rw [beq_eq_false_iff_ne]; omega
              obtain ⟨U, hU⟩ : ∃ U, acc + x % 128 * 2 ^ (7 * k) = U := ⟨_, rfl⟩
              have hUb : U < 18446744073709551616 := by
                have hp := pow_le8 (show k ≤ 8 by omega)
                have : x % 128 * 2 ^ (7 * k) ≤ 127 * 2 ^ (7 * k) := Nat.mul_le_mul_right _ (by omega)
                have := HA.out
                omega
              have hr2 : r = (Lib.unzigzag U, k0 + (k + 1), 0) := by
                have ex : x % 128 = x := Nat.mod_eq_of_lt (by omega)
                rw [← HR.out, ← hF, ← hU, ex]; rfl
              rw [hU] at e
              clear hF hU h0
              by_cases hpar : U % 2 = 1
              · have p1 : bits .and .u64 (U : Int) 1 = (U : Int) % 2 := Lib.u64_and1 _ (by omega) (by omega)
                have p2 : ((U : Int) % 2 == 1) = true := by rw [beq_iff_eq]; omega
                have HV := Lib.hid (show r = (-((U : Int) / 2) - 1, k0 + (k + 1), 0) by rw [hr2]; unfold Lib.unzigzag; rw [if_neg (by omega)]; congr 1)
                clear hr2 hpar
                go_wp2_with fail
                go_quiet (fail)
                go_wp2_with fail
                go_quiet (fail)
                clear hne hi0 hi1 hiN w1
                go_wp2_with fail
                all_goals (go_ret; exact rDone H.out HV.out (by omega) _)
              · have p1 : bits .and .u64 (U : Int) 1 = (U : Int) % 2 := Lib.u64_and1 _ (by omega) (by omega)
                have p2 : ((U : Int) % 2 == 1) = false := by rw [beq_eq_false_iff_ne]; omega
                have HV := Lib.hid (show r = ((U : Int) / 2, k0 + (k + 1), 0) by rw [hr2]; unfold Lib.unzigzag; rw [if_pos (by omega)]; congr 1)
                clear hr2 hpar
                go_wp2_with fail
                go_quiet (fail)
                go_wp2_with fail
                go_quiet (fail)
                clear hne hi0 hi1 hiN w1
                go_wp2_with fail
                all_goals (go_ret; exact rDone H.out HV.out (by omega) _)
      · obtain hkl : k0 + k = B.length := by omega
        have hF := HF.out
        rw [List.drop_of_length_le (by omega)] at hF
        have HV := Lib.hid (show r = (0, k0, 3) by rw [← HR.out, ← hF]; rfl)
        have heq : ((k0 : Int) + (k : Int) == (B.length : Int)) = true := by rw [beq_iff_eq]; omega
        clear hF hkl hW HF
        go_wp2_with fail
        go_quiet (fail)
        go_wp2_with fail
        go_ret
        exact rForm H.out 3 HV.out _
  · rw [if_neg hbad]
    have P := Lib.hid (show RPost N w p B (.int .i64 0) k0 bad (.returned (.int .i64 0)) w from ⟨rfl, H.out, Kept.refl _ _⟩)
    have hb' : (bad == 0) = false := by simpa using hbad
    clear hbad
    go_enter Try.func19, Try.ntmps19
    go_wp2_with fail
    go_ret
    exact P.out

end Go.Proofs.Ytnjfpgnhmfankaa
