/-
  No statement: the walk of LexBack.
-/
import Derived.Test.YtjkjjpoeegpkaaaDoorLexTextsWalk
import Derived.Test.YtjkjjpoeegpkaaaDoorLBack
namespace Go.Proofs.YtjkjjpoeegpkaaaDoor
open Go.RowKit

theorem core_at {ts ts' : List Tk} (h : ts'.map coreT = ts.map coreT) {k : Nat} (hk : k < ts.length) (hk' : k < ts'.length) : ts'[k].kind = ts[k].kind ∧ ts'[k].text = ts[k].text ∧ ts'[k].num = ts[k].num := by
  have e1 : (ts'.map coreT)[k]? = some (coreT ts'[k]) := by rw [List.getElem?_map, List.getElem?_eq_getElem hk']; rfl
  have e2 : (ts.map coreT)[k]? = some (coreT ts[k]) := by rw [List.getElem?_map, List.getElem?_eq_getElem hk]; rfl
  rw [h, e2] at e1
  have := Option.some.inj e1
  unfold coreT at this
  simp only [Prod.mk.injEq] at this
  exact ⟨this.1.symm, this.2.1.symm, this.2.2.symm⟩

set_option maxRecDepth 100000 in
set_option maxHeartbeats 8000000 in
theorem lexBack_walk (s : ByteArray) (w : World) (hw : Laid w) : Calls Tryd.prog 4 #[.string s] w fun e w' => e = .returned (.bool true) ∧ Below w.heap.size w w' := by
  have K := Lib.hid (known_any w hw)
  have HW := Lib.hid hw
  clear hw
  have hdl : s.data.toList.length = s.size := by simp
  have RT := Lib.hid (fun w => rTokens_any s w)
  cases hE : lexT s.data.toList with
  | bad p er =>
    rw [hE] at RT
    obtain ⟨q0, q1⟩ := lexT_bad_ne hE
    clear hE hdl
    by_cases hlong : 500 < s.size
    all_goals
      go_enter Tryd.func4, Tryd.ntmps4
      go_wp2_with fail
      refine K.out.mono ?_
      rintro e w1 ⟨rfl, hb⟩
      have B1 := Lib.hid hb
      clear hb
      go_wp2_with fail
      refine (RT.out _).mono ?_
      rintro e w2 ⟨hb, rfl⟩
      have B2 := Lib.hid (B1.out.trans (hb.mono B1.out.size))
      clear hb
      go_wp2_with fail
      go_ret
      exact ⟨rfl, B2.out⟩
  | ok ts =>
    rw [hE] at RT
    by_cases hlong : 500 < s.size
    · clear hE hdl
      go_enter Tryd.func4, Tryd.ntmps4
      go_wp2_with fail
      refine K.out.mono ?_
      rintro e w1 ⟨rfl, hb⟩
      have B1 := Lib.hid hb
      clear hb
      go_wp2_with fail
      refine (RT.out _).mono ?_
      rintro e w2 ⟨hb, a, c, rfl, -⟩
      have B2 := Lib.hid (B1.out.trans (hb.mono B1.out.size))
      clear hb
      go_wp2_with fail
      go_ret
      exact ⟨rfl, B2.out⟩
    · obtain ⟨hs1, hs2⟩ := lexT_sizes hE (by omega)
      obtain ⟨ts', hE', hcore⟩ := lexT_back hE (by omega)
      obtain ⟨X, hX⟩ : ∃ X : ByteArray, ⟨(textsT ts).toArray⟩ = X := ⟨_, rfl⟩
      have hXl : X.data.toList = textsT ts := by rw [← hX]
      have hXs : X.size ≤ 100000 := by
        have e : X.size = (textsT ts).length := by rw [← hXl]; simp
        rw [e, ← preT_all]
        exact Nat.le_trans (preT_len ts _) hs1
      have UA := Lib.hid (fun a c w h => rText_any ts a c hs1 w h)
      have LT := Lib.hid (p := ∀ w, Laid w → Calls Tryd.prog 7 #[.string X] w (TokPost 35 (.ok ts') w)) (fun w hw => by
        have := lTokens_any X (by omega) w hw
        rwa [hXl, hE'] at this)
      rw [hX] at UA
      have hlen : ts'.length = ts.length := by have := congrArg List.length hcore; simpa using this
      have HC := Lib.hid hcore
      have qq : (((ts.length : Nat) : Int) != (ts.length : Int)) = false := by simp
      clear hX hE hE' hcore hXl hdl
      go_enter Tryd.func4, Tryd.ntmps4
      go_wp2_with fail
      refine K.out.mono ?_
      rintro e w1 ⟨rfl, hb⟩
      have B1 := Lib.hid hb
      clear hb
      go_wp2_with fail
      refine (RT.out _).mono ?_
      rintro e w2 ⟨hb, a, c, rfl, ho⟩
      have B2 := Lib.hid (B1.out.trans (hb.mono B1.out.size))
      have R2 := Lib.hid (readsT_own ho)
      clear hb ho
      go_wp2_with (go_at_call 11; refine (UA.out _ _ _ R2.out).mono ?_; rintro e w6 ⟨rfl, rfl⟩)
      refine (LT.out _ (HW.out.step B2.out)).mono ?_
      rintro e w3 ⟨hb, a2, c2, rfl, ho⟩
      have B3 := Lib.hid (B2.out.trans (hb.mono B2.out.size))
      have R3 := Lib.hid (R2.out.kept hb)
      have S3 := Lib.hid (readsT_own ho)
      rw [hlen]
      clear hb ho R2
      go_wp2_with fail
      go_loopw [10] (fun i wr => ∃ k : Nat, i = .int .i64 k ∧ k ≤ ts.length ∧ Hid (Below w3.heap.size w3 wr)) (fun i _ => ts.length - (intOf i).toNat)
      case atStart => exact ⟨0, rfl, by omega, Lib.hid (Below.refl _ _)⟩
      case round =>
        obtain ⟨k, rfl, hk, hB⟩ := hrel
        by_cases hlt : k < ts.length
        · have hlt' : k < ts'.length := by omega
          obtain ⟨b, off, hx, -, hc⟩ := (R3.out.kept hB.out).resolve_left (by intro e; rw [e] at hlt; simp at hlt)
          obtain ⟨b2, off2, hx2, -, hc2⟩ := (S3.out.kept hB.out).resolve_left (by intro e; rw [e] at hlt'; simp at hlt')
          subst hx
          subst hx2
          obtain ⟨p0, p1, p2, p3⟩ := hc k hlt
          obtain ⟨q0, q1, q2, q3⟩ := hc2 k hlt'
          obtain ⟨e0, e1, e2⟩ := core_at HC.out hlt hlt'
          rw [e0] at q0
          rw [e1] at q1
          rw [e2] at q2
          obtain ⟨kd, hkd⟩ : ∃ x, ts[k].kind = x := ⟨_, rfl⟩
          obtain ⟨nm, hnm⟩ : ∃ x, ts[k].num = x := ⟨_, rfl⟩
          obtain ⟨Y, hY⟩ : ∃ Y : ByteArray, ⟨ts[k].text.toArray⟩ = Y := ⟨_, rfl⟩
          rw [hkd] at p0 q0
          rw [hY] at p1 q1
          rw [hnm] at p2 q2
          have f1 : (kd != kd) = false := by simp
          have f2 : (nm != nm) = false := by simp
          have f3 : (Y.toList != Y.toList) = false := by simp
          have a1 : (k : Int) < (ts.length : Int) := by omega
          clear hc hc2 p3 q3 e0 e1 e2 hkd hnm hY
          go_wp2_with (go_quiet (fail))
          go_roundw
          case rel => exact ⟨k + 1, by go_num, by omega, Lib.hid (below_drewN hB.out _)⟩
          case measure => simp [intOf]; omega
        · obtain rfl : k = ts.length := by omega
          go_wp2_with fail
          go_ret
          exact ⟨rfl, B3.out.trans (hB.out.mono B3.out.size)⟩

end Go.Proofs.YtjkjjpoeegpkaaaDoor
