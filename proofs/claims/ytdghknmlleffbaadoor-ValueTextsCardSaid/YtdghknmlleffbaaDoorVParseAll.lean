/-
  No statement: the contract of Parse of package value.
-/
import Derived.Test.YtdghknmlleffbaaDoorVParse
namespace Go.Proofs.YtdghknmlleffbaaDoor
open Go.RowKit

/-- What is wrong with a value, as plain data; 0: nothing. -/
def errP : PV → Int
  | .num _ => 0
  | .text t => errT t
  | .list ns => errL ns

/-- The fields of package value's struct are p's (of a list's numbers, the first seventeen). -/
def IsPV : PV → Int → Int → ByteArray → Option Addr → Nat → Nat → (Nat → Int) → Prop
  | .num m, k, n, T, a, len, cap, _ => k = 1 ∧ n = m ∧ T = ⟨#[]⟩ ∧ a = none ∧ len = 0 ∧ cap = 0
  | .text t, k, n, T, a, len, cap, _ => k = 2 ∧ n = 0 ∧ T.data.toList = t ∧ a = none ∧ len = 0 ∧ cap = 0
  | .list ns, k, n, T, _, len, _, z => k = 3 ∧ n = 0 ∧ T = ⟨#[]⟩ ∧ upTo z len = ns.take 17

theorem errL_take (ns : List Int) : errL (ns.take 17) = errL ns := by
  by_cases h : 16 < ns.length
  · have h' : 16 < (ns.take 17).length := by rw [List.length_take]; omega
    unfold errL; rw [if_pos h, if_pos h']
  · rw [List.take_of_length_le (by omega)]

theorem errV_of {p : PV} {k n : Int} {T : ByteArray} {a : Option Addr} {len cap : Nat} {z : Nat → Int} (h : IsPV p k n T a len cap z) : errV k T len z = errP p := by
  cases p with
  | num m => obtain ⟨rfl, _⟩ := h; rfl
  | text t => obtain ⟨rfl, _, rfl, _⟩ := h; rfl
  | list ns => obtain ⟨rfl, _, _, h⟩ := h; unfold errV errP; rw [if_neg (by decide), if_neg (by decide), if_pos rfl, h, errL_take]

/-- What read answers, in one form. -/
def ReadPost2 (s : ByteArray) (w : World) (e : Ending) (w' : World) : Prop := Below w.heap.size w w' ∧
  ((raw s.data.toList = none ∧ ∃ k, e = .returned (.tuple #[val k 0 ⟨#[]⟩ (.slice none 0 0), .bool false])) ∨
   (∃ p k n T a len cap z, raw s.data.toList = some p ∧ IsPV p k n T a len cap z ∧ Reads w' a len z ∧ (∀ x, a = some x → w.heap.size ≤ x.block) ∧ T.size ≤ s.size ∧ e = .returned (.tuple #[val k n T (.slice a len cap), .bool true])))

theorem readPost2 {s : ByteArray} {w : World} {e : Ending} {w' : World} (h : ReadPost s w e w') : ReadPost2 s w e w' := by
  obtain ⟨hb, h | ⟨n, hr, rfl⟩ | ⟨T, hr, hT, rfl⟩ | ⟨ns, a, len, cap, z, hr, hd, hab, hu, rfl⟩⟩ := h
  · exact ⟨hb, .inl h⟩
  · exact ⟨hb, .inr ⟨_, _, _, _, none, 0, 0, fun _ => 0, hr, ⟨rfl, rfl, rfl, rfl, rfl, rfl⟩, ⟨Nat.zero_le _, .inl rfl⟩, fun _ h => by (cases h), Nat.zero_le _, rfl⟩⟩
  · exact ⟨hb, .inr ⟨_, _, _, _, none, 0, 0, fun _ => 0, hr, ⟨rfl, rfl, rfl, rfl, rfl, rfl⟩, ⟨Nat.zero_le _, .inl rfl⟩, fun _ h => by (cases h), hT, rfl⟩⟩
  · exact ⟨hb, .inr ⟨_, _, _, _, a, len, cap, z, hr, ⟨rfl, rfl, rfl, hu⟩, hd, hab, Nat.zero_le _, rfl⟩⟩

/-- The four cells, behind four stores and a new block. -/
theorem four_new {W : World} {B : Nat} {x0 x1 x2 x3 : Value} {t : TypeId} (h : W.heap[B]? = some (.cells #[x0, x1, x2, x3] t (0, 0))) (v0 v1 v2 v3 : Value) (o : Obj) :
    (((((W.setCell ⟨B, 0, none⟩ v0).setCell ⟨B, 1, none⟩ v1).setCell ⟨B, 2, none⟩ v2).setCell ⟨B, 3, none⟩ v3).alloc o).heap[B]? = some (.cells #[v0, v1, v2, v3] t (0, 0)) :=
  (Below.heap_alloc _ _ _ (lt_of_block (four_set h v0 v1 v2 v3))).trans (four_set h v0 v1 v2 v3)

/-- What Parse answers. -/
def ParsePost (s : ByteArray) (w : World) (e : Ending) (w' : World) : Prop := Below w.heap.size w w' ∧
  ((raw s.data.toList = none ∧ e = .returned (.tuple #[val 0 0 ⟨#[]⟩ (.slice none 0 0), .int .i64 2])) ∨
   (∃ p, raw s.data.toList = some p ∧ ¬ errP p = 0 ∧ e = .returned (.tuple #[val 0 0 ⟨#[]⟩ (.slice none 0 0), .int .i64 (errP p)])) ∨
   (∃ p k n T a len cap z, raw s.data.toList = some p ∧ errP p = 0 ∧ IsPV p k n T a len cap z ∧ Reads w' a len z ∧ (∀ x, a = some x → w.heap.size ≤ x.block) ∧ T.size ≤ s.size ∧ e = .returned (.tuple #[val k n T (.slice a len cap), .int .i64 0])))

theorem clone_any (s : ByteArray) (hm : s.size ≤ 281474976710656) (w : World) : Calls Tryd.prog 44 #[.string s] w fun e w' => e = .returned (.string s) ∧ Below w.heap.size w w' := by
  go_enter Tryd.func44, Tryd.ntmps44
  go_wp2_with (go_at_call 61; refine (Tryd.stringslite_Clone s _ hm).mono ?_; rintro e w' ⟨rfl, hb⟩; have hb1 := Lib.hid hb; clear hb)
  go_ret
  exact ⟨rfl, hb1.out⟩

set_option maxHeartbeats 2000000 in
theorem parse_any (s : ByteArray) (hm : s.size ≤ 281474976710656) (w : World) (hw : Laid w) (h8 : 7 ≤ w.heap.size) : Calls Tryd.prog 17 #[.string s] w (ParsePost s w) := by
  have C := Lib.hid (read_any s hm (w.alloc (.cells #[.int .i64 0, .int .i64 0, .string ⟨#[]⟩, .slice none 0 0] 24)) (hw.below ((Below.refl _ w).alloc (Nat.le_refl _) _) h8) (by simp; omega))
  go_enter Tryd.func17, Tryd.ntmps17
  go_wp2_with fail
  refine C.out.mono ?_
  intro e w1 hp
  have hp2 := readPost2 hp
  clear hp
  obtain ⟨hb, ⟨hr, k, rfl⟩ | ⟨p, k, n, T, a, len, cap, z, hr, hi, hd, hab, hT, rfl⟩⟩ := hp2
  · have hB := (hb.block w.heap.size (by simp)).trans (World.alloc_heap_new w _)
    have hb1 := Lib.hid hb
    obtain ⟨⟨k0, k1, k2, k3⟩, g0, g1, g2, g3⟩ := four hB
    have hlt := lt_of_block hB
    have hc := Lib.hid hB
    have R := Lib.hid hr
    clear hb hB hr
    unfold val
    go_wp2_with fail
    obtain ⟨⟨d0, d1, d2, d3⟩, -⟩ := four (four_new hc.out (.int .i64 0) (.int .i64 0) (.string ⟨#[]⟩) (.slice none 0 0) (.cells #[.int .i64 k, .int .i64 0, .string ⟨#[]⟩, .slice none 0 0] 24))
    exact bodyPost_ret (v := .tuple #[val 0 0 ⟨#[]⟩ (.slice none 0 0), .int .i64 2]) (by simp [results, Tryd.results17, go_sem, val, d0, d1, d2, d3]) rfl ⟨(four_below (((Below.refl _ w).alloc (Nat.le_refl _) _).trans (hb1.out.mono (by simp))) (Nat.le_refl _) _ _ _ _).alloc (by have := (four_below (((Below.refl _ w).alloc (Nat.le_refl _) _).trans (hb1.out.mono (by simp))) (Nat.le_refl w.heap.size) (.int .i64 0) (.int .i64 0) (.string ⟨#[]⟩) (.slice none 0 0)).size; exact this) _, .inl ⟨R.out, rfl⟩⟩
  · have hB := (hb.block w.heap.size (by simp)).trans (World.alloc_heap_new w _)
    have hlt := lt_of_block hB
    have hlw : w.heap.size < w1.heap.size := hlt
    have h81 : 7 ≤ w1.heap.size := by omega
    have hd2 := hd.kept ((Below.refl w1.heap.size w1).alloc (Nat.le_refl _) (.cells #[.int .i64 k, .int .i64 n, .string T, .slice a len cap] 24))
    have C2 := check_any k n T (by omega) a len cap z _ hd2
    rw [errV_of hi] at C2
    have B1 : Below w.heap.size w w1 := ((Below.refl _ w).alloc (Nat.le_refl _) _).trans (hb.mono (by simp))
    have hb1 := Lib.hid B1
    have hc := Lib.hid hB
    have R := Lib.hid hr
    have I := Lib.hid hi
    have D := Lib.hid hd2
    have hab2 := Lib.hid (show ∀ x, a = some x → w.heap.size + 1 ≤ x.block from fun x hx => by have := hab x hx; simp at this; omega)
    have hlb := Lib.hid (show len = 0 ∨ ∃ b off, a = some ⟨b, off, none⟩ ∧ b < w1.heap.size from by
      rcases Nat.eq_zero_or_pos len with h | h
      · exact .inl h
      · rcases hd.2 with h0 | ⟨b, off, e, hc⟩
        · exact .inl h0
        · exact .inr ⟨b, off, e, World.block_lt_of_cell? w1 _ (hc 0 h)⟩)
    have hT1 := Lib.hid hT
    unfold val at C2 ⊢
    have C3 := Lib.hid C2
    clear hb hB hr hi hd hd2 B1 C2 hT hab
    go_wp2_with fail
    refine C3.out.mono ?_
    rintro e w2 ⟨rfl, hb⟩
    have hB4 := (hb.block w1.heap.size (by simp)).trans (World.alloc_heap_new w1 _)
    have hB0 := (hb.block w.heap.size (by simp; omega)).trans ((Below.heap_alloc w1 _ _ hlt).trans hc.out)
    have hB2 : Below w.heap.size w w2 := (hb1.out.alloc (by omega) _).trans (hb.mono (by simp; omega))
    have D2 := Lib.hid (D.out.kept hb)
    have hb2 := Lib.hid hB2
    obtain ⟨⟨k0, k1, k2, k3⟩, g0, g1, g2, g3⟩ := four hB0
    have c0 := Lib.hid hB0
    have c4 := Lib.hid hB4
    have hs2 : w1.heap.size < w2.heap.size := lt_of_block hB4
    clear hb hB4 hB0 hB2 C3 hc
    by_cases h0 : errP p = 0
    · rw [h0]
      obtain ⟨⟨m0, m1, m2, m3⟩, f0, f1, f2, f3⟩ := four c4.out
      go_wp2_with fail
      refine (clone_any T (by have := hT1.out; omega) _).mono ?_
      rintro e w3 ⟨rfl, hb⟩
      have hB4 := (hb.block w1.heap.size hs2).trans c4.out
      have hB0 := (hb.block w.heap.size (by omega)).trans c0.out
      have hB3 : Below w.heap.size w w3 := hb2.out.trans (hb.mono (by omega))
      have D3 := Lib.hid (D2.out.kept hb)
      have hb3 := Lib.hid hB3
      clear k0 k1 k2 k3 g0 g1 g2 g3 m0 m1 m2 m3 f0 f1 f2 f3 c0 c4
      obtain ⟨⟨k0, k1, k2, k3⟩, g0, g1, g2, g3⟩ := four hB0
      obtain ⟨⟨m0, m1, m2, m3⟩, f0, f1, f2, f3⟩ := four hB4
      have c0 := Lib.hid hB0
      have c4 := Lib.hid hB4
      have hs3 : w1.heap.size < w3.heap.size := lt_of_block hB4
      clear hb hB4 hB0 hB3
      go_wp2_with fail
      have hne : w.heap.size ≠ w1.heap.size := by omega
      obtain ⟨⟨d0, d1, d2, d3⟩, -⟩ := four (four_set ((Below.heap_setCell w3 ⟨w1.heap.size, 2, none⟩ (.string T) w.heap.size hne).trans c0.out) (.int .i64 k) (.int .i64 n) (.string T) (.slice a len cap))
      refine bodyPost_ret (v := .tuple #[val k n T (.slice a len cap), .int .i64 0]) (by simp [results, Tryd.results17, go_sem, val, d0, d1, d2, d3]) rfl ⟨four_below (hb3.out.setCell (p := ⟨w1.heap.size, 2, none⟩) (by simp; omega) _) (Nat.le_refl _) _ _ _ _, .inr (.inr ⟨p, k, n, T, a, len, cap, z, R.out, h0, I.out, ?_, fun x hx => by have := hab2.out x hx; omega, hT1.out, rfl⟩)⟩
      refine Reads.four ?_ (fun x hx => by have := hab2.out x hx; omega) _ _ _ _
      refine ⟨D3.out.1, ?_⟩
      rcases hlb.out with h | ⟨b, off, rfl, hb⟩
      · exact .inl h
      · rcases D3.out.2 with h | ⟨b', off', e, hc⟩
        · exact .inl h
        · obtain ⟨rfl, rfl⟩ : b = b' ∧ off = off' := by simpa using e
          exact .inr ⟨b, off, rfl, fun j hj => (World.cell?_of_block (w := w3) (a := ⟨b, off + j, none⟩) (Below.heap_setCell w3 ⟨w1.heap.size, 2, none⟩ (.string T) b (show b ≠ w1.heap.size by omega))).trans (hc j hj)⟩
    · obtain ⟨E, hE⟩ : ∃ E, errP p = E := ⟨_, rfl⟩
      have hE1 := Lib.hid hE
      rw [hE] at h0 ⊢
      have q0 : (E != 0) = true := by simpa using h0
      clear hE
      go_wp2_with fail
      obtain ⟨⟨d0, d1, d2, d3⟩, -⟩ := four (four_set c0.out (.int .i64 0) (.int .i64 0) (.string ⟨#[]⟩) (.slice none 0 0))
      exact bodyPost_ret (v := .tuple #[val 0 0 ⟨#[]⟩ (.slice none 0 0), .int .i64 E]) (by simp [results, Tryd.results17, go_sem, val, d0, d1, d2, d3]) rfl ⟨four_below hb2.out (Nat.le_refl _) _ _ _ _, .inr (.inl ⟨p, R.out, by rw [hE1.out]; exact h0, by rw [hE1.out]⟩)⟩

end Go.Proofs.YtdghknmlleffbaaDoor
