/-
  No statement: the walk of LexPlaces.
-/
import Derived.Test.YtjkjjpoeegpkaaaDoorLKnown
import Derived.Test.YtjkjjpoeegpkaaaDoorLBack
import Derived.Test.YtjkjjpoeegpkaaaDoorLRef
namespace Go.Proofs.YtjkjjpoeegpkaaaDoor
open Go.RowKit

theorem stands_at {s : ByteArray} {p : Nat} {t : Tk} {ts : List Tk} (hp : p ≤ s.size) (h : Stands (s.data.toList.drop p) p (t :: ts)) :
    p ≤ t.place ∧ t.place + t.text.length ≤ s.size ∧ (∀ j (h : j < s.size), p ≤ j → j < t.place → s[j] = 32) ∧ (s.extract t.place (t.place + t.text.length)).data.toList = t.text ∧ ¬ t.text = [] ∧ (¬ t.kind = 2 → t.num = 0) ∧
      Stands (s.data.toList.drop (t.place + t.text.length)) (t.place + t.text.length) ts := by
  obtain ⟨b, r, hl, hpl, h1, h2, h3⟩ := h
  have hlen := congrArg List.length hl
  simp only [List.length_drop, List.length_append, List.length_replicate] at hlen
  have hs : s.data.toList.length = s.size := by simp
  rw [hs] at hlen
  have hdp : s.data.toList.drop t.place = t.text ++ r := by
    rw [hpl, ← List.drop_drop, hl, List.drop_append, List.length_replicate, Nat.sub_self, List.drop_of_length_le (by simp)]; rfl
  refine ⟨by omega, by omega, fun j hj h4 h5 => ?_, ?_, h1, h2, ?_⟩
  · have e1 : (s.data.toList.drop p)[j - p]? = some s[j] := by
      rw [List.getElem?_drop, show p + (j - p) = j by omega]
      exact List.getElem?_eq_getElem (by omega)
    rw [hl, List.getElem?_append_left (by simp; omega), List.getElem?_replicate, if_pos (by omega)] at e1
    exact (Option.some.inj e1).symm
  · rw [list_from, hdp, show t.place + t.text.length - t.place = t.text.length by omega, List.take_append_of_le_length (Nat.le_refl _), List.take_length]
  · rw [← List.drop_drop, hdp, List.drop_append, Nat.sub_self, List.drop_of_length_le (Nat.le_refl _)]
    exact h3

theorem stands_end {s : ByteArray} {p : Nat} (h : Stands (s.data.toList.drop p) p []) : ∀ j (h : j < s.size), p ≤ j → s[j] = 32 := by
  intro j hj hp
  refine h s[j] (List.mem_iff_getElem?.2 ⟨j - p, ?_⟩)
  rw [List.getElem?_drop, show p + (j - p) = j by omega]
  exact List.getElem?_eq_getElem (by simpa using hj)

theorem blank_not {c : UInt8} (h : c = 32) : ((c.toNat : Int) != 32) = false := by rw [h]; decide

set_option maxRecDepth 100000 in
set_option maxHeartbeats 16000000 in
theorem lexPlaces_walk (s : ByteArray) (w : World) (hw : Laid w) : Calls Tryd.prog 5 #[.string s] w fun e w' => e = .returned (.bool true) ∧ Below w.heap.size w w' := by
  have K := Lib.hid (known_any w hw)
  have HW := Lib.hid hw
  clear hw
  by_cases hlong : 500 < s.size
  · go_enter Tryd.func5, Tryd.ntmps5
    go_wp2_with fail
    refine K.out.mono ?_
    rintro e w1 ⟨rfl, hb⟩
    have B1 := Lib.hid hb
    clear hb
    go_wp2_with fail
    go_ret
    exact ⟨rfl, B1.out⟩
  have hdl : s.data.toList.length = s.size := by simp
  have LT := Lib.hid (fun w hw => lTokens_any s (by omega) w hw)
  cases hE : lexT s.data.toList with
  | bad p er =>
    rw [hE] at LT
    have q1 : ((er : Int) != 0) = true := by
      unfold lexT at hE
      rw [if_neg (by omega)] at hE
      rcases lex_bad_ne _ _ _ _ hE with h | h | h <;> rw [h] <;> decide
    clear hE hdl
    go_enter Tryd.func5, Tryd.ntmps5
    go_wp2_with fail
    refine K.out.mono ?_
    rintro e w1 ⟨rfl, hb⟩
    have B1 := Lib.hid hb
    clear hb
    go_wp2_with fail
    refine (LT.out _ (HW.out.step B1.out)).mono ?_
    rintro e w2 ⟨hb, rfl⟩
    have B2 := Lib.hid (B1.out.trans (hb.mono B1.out.size))
    clear hb
    go_wp2_with fail
    go_ret
    exact ⟨rfl, B2.out⟩
  | ok ts =>
    rw [hE] at LT
    unfold lexT at hE
    rw [if_neg (by omega)] at hE
    have hn : ts.length ≤ s.size := by have := (lex_sizes _ _ _ hE).2.1; omega
    have ST := Lib.hid (show Stands (s.data.toList.drop 0) 0 (ts.drop 0) from lex_stands _ _ _ hE)
    clear hE hdl
    go_enter Tryd.func5, Tryd.ntmps5
    go_wp2_with fail
    refine K.out.mono ?_
    rintro e w1 ⟨rfl, hb⟩
    have B1 := Lib.hid hb
    clear hb
    go_wp2_with fail
    refine (LT.out _ (HW.out.step B1.out)).mono ?_
    rintro e w2 ⟨hb, a, c, rfl, ho⟩
    have B2 := Lib.hid (B1.out.trans (hb.mono B1.out.size))
    have R2 := Lib.hid (readsT_own ho)
    clear hb ho
    go_wp2_with fail
    go_loopw [6, 7] (fun v i wr => ∃ p k : Nat, v = .int .i64 p ∧ i = .int .i64 k ∧ p ≤ s.size ∧ k ≤ ts.length ∧ Hid (Stands (s.data.toList.drop p) p (ts.drop k)) ∧ Hid (Below w2.heap.size w2 wr)) (fun _ i _ => ts.length - (intOf i).toNat)
    case atStart => exact ⟨0, 0, rfl, rfl, by omega, by omega, ST, Lib.hid (Below.refl _ _)⟩
    case round =>
      obtain ⟨p, k, rfl, rfl, hp, hk, hS, hB⟩ := hrel
      by_cases hlt : k < ts.length
      · obtain ⟨b, off, hx, hbl, hc⟩ := (R2.out.kept hB.out).resolve_left (by intro e; rw [e] at hlt; simp at hlt)
        subst hx
        obtain ⟨p0, p1, p2, p3⟩ := hc k hlt
        obtain ⟨t, ht⟩ : ∃ t, ts[k] = t := ⟨_, rfl⟩
        rw [ht] at p0 p1 p2 p3
        have hS0 := hS.out
        rw [List.drop_eq_getElem_cons hlt, ht] at hS0
        obtain ⟨s1, s2, s3, s4, s5, s6, s7⟩ := stands_at hp hS0
        obtain ⟨X, hX⟩ : ∃ X : ByteArray, ⟨t.text.toArray⟩ = X := ⟨_, rfl⟩
        have hXl : X.data.toList = t.text := by rw [← hX]
        have hXs : X.size = t.text.length := by rw [← hXl]; simp
        rw [← hXs] at s2 s4 s7
        rw [hX] at p1
        obtain ⟨q, hq⟩ : ∃ q, t.place = q := ⟨_, rfl⟩
        obtain ⟨kd, hkd⟩ : ∃ q, t.kind = q := ⟨_, rfl⟩
        obtain ⟨nm, hnm⟩ : ∃ q, t.num = q := ⟨_, rfl⟩
        rw [hq] at s1 s2 s3 s4 s7 p3
        rw [hkd] at p0 s6
        rw [hnm] at p2 s6
        have f1 : decide (q < p) = false := decide_eq_false (by omega)
        have f2 : (X.toList == []) = false := by
          rw [Lib.toList_data, hXl]; exact beq_eq_false_iff_ne.2 s5
        have f3 : decide ((s.size : Int) < (q : Int) + (X.size : Int)) = false := decide_eq_false (by omega)
        have f3' : decide (s.size < q + X.size) = false := decide_eq_false (by omega)
        have f4 : ((s.extract q (q + X.size)).toList != X.toList) = false := by
          rw [Lib.toList_data, Lib.toList_data, s4, hXl]; simp
        have f5 : ((s.extract q (q + X.size)).toList == X.toList) = true := by
          rw [Lib.toList_data, Lib.toList_data, s4, hXl]; simp
        have g1 : (0 : Int) ≤ (q : Int) := by omega
        have g2 : (q : Int) ≤ (q : Int) + (X.size : Int) := by omega
        have g3 : (q : Int) + (X.size : Int) ≤ (s.size : Int) := by omega
        have g4 : ((q : Int) + (X.size : Int)).toNat = q + X.size := by omega
        have g5 : IntKind.i64.wrap ((q : Int) + (X.size : Int)) = (q : Int) + (X.size : Int) := by
          rw [IntKind.wrap_i64]; omega
        have S3 := Lib.hid s3
        have S7 := Lib.hid s7
        have hkk : kd = 2 ∨ (¬ kd = 2 ∧ nm = 0) := by
          by_cases h : kd = 2
          · exact .inl h
          · exact .inr ⟨h, s6 h⟩
        have BA := Lib.hid (show Below w2.heap.size w2 (wr.alloc (tkO kd X nm q)) from hB.out.alloc hB.out.size _)
        obtain ⟨⟨m0, m1, m2, m3⟩, -⟩ := four (heap_alloc_new wr (tkO kd X nm q))
        clear hc hS0 s3 s4 s5 s6 s7 hX hXl hXs hq hkd hnm ht
        rcases hkk with hkk | ⟨hkk, hnn⟩
        · have k1 : (kd != 2) = false := by rw [hkk]; decide
          clear hkk
          go_wp2_with (go_quiet (fail))
          obtain ⟨V, hV⟩ : ∃ V, (wr.alloc (tkO kd X nm q)).drewN nq = V := ⟨_, rfl⟩
          have BV := Lib.hid (show Below w2.heap.size w2 V by rw [← hV]; exact below_drewN BA.out _)
          have v3 : V.cell? ⟨wr.heap.size, 3, none⟩ = some (.int .i64 q) := by rw [← hV]; exact m3
          have v1 : V.cell? ⟨wr.heap.size, 1, none⟩ = some (.string X) := by rw [← hV]; exact m1
          rw [hV]
          clear hV m0 m1 m2 m3 BA f1 f2 f3 f3' f4 f5 g1 g2 g3 g4 g5 p0 p1 p2 p3
          go_loop [9] (fun v => ∃ m : Nat, p ≤ m ∧ m ≤ q ∧ v = .int .i64 m) (fun v => q - (intOf v).toNat)
          case atStart => exact ⟨p, Nat.le_refl _, s1, rfl⟩
          case round =>
            obtain ⟨m, hm1, hm2, rfl⟩ := hrel
            by_cases hml : m < q
            · have hms : m < s.size := by omega
              have z := blank_not (S3.out m hms hm1 hml)
              go_wp2_with fail
              go_round
              case rel => exact ⟨m + 1, by omega, by omega, by go_num⟩
              case measure => simp [intOf]; omega
            · go_wp2_with fail
              go_roundw
              case rel => exact ⟨q + X.size, k + 1, by go_num, by go_num, by omega, by omega, S7, BV⟩
              case measure => simp [intOf]; omega
        · have k1 : (kd != 2) = true := by simpa using hkk
          have k2 : (nm != 0) = false := by rw [hnn]; decide
          clear hkk hnn
          go_wp2_with (go_quiet (fail))
          obtain ⟨V, hV⟩ : ∃ V, (wr.alloc (tkO kd X nm q)).drewN nq = V := ⟨_, rfl⟩
          have BV := Lib.hid (show Below w2.heap.size w2 V by rw [← hV]; exact below_drewN BA.out _)
          have v3 : V.cell? ⟨wr.heap.size, 3, none⟩ = some (.int .i64 q) := by rw [← hV]; exact m3
          have v1 : V.cell? ⟨wr.heap.size, 1, none⟩ = some (.string X) := by rw [← hV]; exact m1
          rw [hV]
          clear hV m0 m1 m2 m3 BA f1 f2 f3 f3' f4 f5 g1 g2 g3 g4 g5 p0 p1 p2 p3
          go_loop [9] (fun v => ∃ m : Nat, p ≤ m ∧ m ≤ q ∧ v = .int .i64 m) (fun v => q - (intOf v).toNat)
          case atStart => exact ⟨p, Nat.le_refl _, s1, rfl⟩
          case round =>
            obtain ⟨m, hm1, hm2, rfl⟩ := hrel
            by_cases hml : m < q
            · have hms : m < s.size := by omega
              have z := blank_not (S3.out m hms hm1 hml)
              go_wp2_with fail
              go_round
              case rel => exact ⟨m + 1, by omega, by omega, by go_num⟩
              case measure => simp [intOf]; omega
            · go_wp2_with fail
              go_roundw
              case rel => exact ⟨q + X.size, k + 1, by go_num, by go_num, by omega, by omega, S7, BV⟩
              case measure => simp [intOf]; omega
      · obtain rfl : k = ts.length := by omega
        have E := Lib.hid (stands_end (s := s) (p := p) (by have := hS.out; rwa [List.drop_length] at this))
        clear hS
        go_wp2_with fail
        go_loop [10] (fun v => ∃ m : Nat, p ≤ m ∧ m ≤ s.size ∧ v = .int .i64 m) (fun v => s.size - (intOf v).toNat)
        case atStart => exact ⟨p, Nat.le_refl _, hp, rfl⟩
        case round =>
          obtain ⟨m, hm1, hm2, rfl⟩ := hrel
          by_cases hml : m < s.size
          · have z := blank_not (E.out m hml hm1)
            go_wp2_with fail
            go_round
            case rel => exact ⟨m + 1, by omega, by omega, by go_num⟩
            case measure => simp [intOf]; omega
          · go_wp2_with fail
            go_ret
            exact ⟨rfl, B2.out.trans (hB.out.mono B2.out.size)⟩

end Go.Proofs.YtjkjjpoeegpkaaaDoor
