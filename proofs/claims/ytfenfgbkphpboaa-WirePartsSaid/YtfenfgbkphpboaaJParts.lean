/-
  No statement: a value, a stamp that came in, opened; what WireParts keeps.
-/
import Derived.Test.YtfenfgbkphpboaaJRowOf
namespace Go.Proofs.Ytfenfgbkphpboaa
open Go.RowKit Go.ChangeShapes Go.WideShapes Go.Deep

/-- A value whose sizes and numbers are those of Go. -/
structure GoV (x : AD) : Prop where
  m : x.m.size ≤ 100
  s : x.s.size ≤ maxLen
  l : x.len ≤ maxLen
  n : NumA x
structure GoS (s : SD) : Prop where
  t : In64 s.t
  i : In64 s.i
  q : In64 s.q
  o : s.o.size ≤ maxLen

set_option maxRecDepth 100000 in
theorem val_of {H : Type} {enc : TypeId × Value → H} {W : World} {base : Nat} {v : Value} {d : DataW H} {p : List MemPlace} (hv : Value.okWide Try.prog W .any base 24 v) (h : DataW.Trod enc Try.prog W 0 (fun _ => true) true 24 v d p) :
    ∃ (x : AD) (a : Option Addr) (c : Nat), v = .agg #[.int .i64 x.k, .int .i64 x.n, .string x.s, .slice a x.len c] ∧ GoV x ∧ Reads W a x.len x.z := by
  obtain ⟨cs, rfl, hsz⟩ := okWide_struct Try.underlying24 hv
  obtain ⟨fuel, hf⟩ := h
  obtain ⟨l⟩ := cs
  have hlen : l.length = 4 := by
    obtain ⟨ys, m, -, -, hlen, hyl, hg⟩ := DataW.trod_struct Try.underlying24 hf
    rw [valueCells] at hlen
    exact hlen
  match l, hlen with
  | [c0, c1, c2, c3], _ =>
    obtain ⟨k, i, s, a, len, cap, z, rfl, rfl, rfl, rfl, wk, wi, ws, wz, hr⟩ := value_cells hf
    exact ⟨⟨⟨#[]⟩, k, i, s, len, z⟩, a, cap, rfl, ⟨Nat.zero_le _, ws, hr.1, ⟨wk, wi, wz⟩⟩, hr⟩

set_option maxRecDepth 100000 in
theorem stamp_of {H : Type} {enc : TypeId × Value → H} {W : World} {base : Nat} {v : Value} {d : DataW H} {p : List MemPlace} (hv : Value.okWide Try.prog W .any base 26 v) (h : DataW.Trod enc Try.prog W 0 (fun _ => true) true 26 v d p) :
    ∃ s : SD, v = .agg #[.int .i64 s.t, .int .i64 s.i, .int .i64 s.q, .string s.o] ∧ GoS s := by
  obtain ⟨cs, rfl, hsz⟩ := okWide_struct Try.underlying26 hv
  obtain ⟨fuel, hf⟩ := h
  obtain ⟨l⟩ := cs
  obtain ⟨zs, m', -, -, hlen, hzl, hz⟩ := DataW.trod_struct Try.underlying26 hf
  rw [stampCells] at hlen
  have z4 : zs.length = 4 := hzl
  match l, hlen with
  | [c1, c2, c3, c4], _ =>
    match zs, z4 with
    | [z0, z1, z2, z3], _ =>
      have g0 : DataW.trod enc Try.prog W 0 (fun _ => true) true m' 2 [c1] = some z0 := hz 0 _ rfl
      have g1 : DataW.trod enc Try.prog W 0 (fun _ => true) true m' 2 [c2] = some z1 := hz 1 _ rfl
      have g2 : DataW.trod enc Try.prog W 0 (fun _ => true) true m' 2 [c3] = some z2 := hz 2 _ rfl
      have g3 : DataW.trod enc Try.prog W 0 (fun _ => true) true m' 9 [c4] = some z3 := hz 3 _ rfl
      obtain ⟨t, e1, -, w1⟩ := DataW.trod_int Try.underlying2 g0
      obtain ⟨i, e2, -, w2⟩ := DataW.trod_int Try.underlying2 g1
      obtain ⟨q, e3, -, w3⟩ := DataW.trod_int Try.underlying2 g2
      obtain ⟨o, e4, -, w4⟩ := DataW.trod_string Try.underlying9 g3
      cases e1; cases e2; cases e3; cases e4
      exact ⟨⟨t, i, q, o⟩, rfl, ⟨in64_of_wfS w1, in64_of_wfS w2, in64_of_wfS w3, w4⟩⟩

theorem box4 {w : World} {b : Nat} {v0 v1 v2 v3 : Value} {t : TypeId} (h : w.heap[b]? = some (.cells #[v0, v1, v2, v3] t (0, 0))) :
    w.cell? ⟨b, 0, none⟩ = some v0 ∧ w.cell? ⟨b, 1, none⟩ = some v1 ∧ w.cell? ⟨b, 2, none⟩ = some v2 ∧ w.cell? ⟨b, 3, none⟩ = some v3 := by
  have hc := fun i => cell_of_row w b i _ t (0, 0) h
  exact ⟨by rw [hc]; rfl, by rw [hc]; rfl, by rw [hc]; rfl, by rw [hc]; rfl⟩

/-- What the walk of WireParts keeps: the value, the stamp, the row, below N. -/
structure KP (w0 w : World) (N : Nat) (v : AD) (va : Option Addr) (vc : Nat) (s : SD) (x : RD) (a : Option Addr) (c : Nat) : Prop where
  bw : Below w0.heap.size w0 w
  le : N ≤ w.heap.size
  l3 : w0.heap.size + 3 ≤ N
  rv : ReadsG (fun k => k < N) w va v.len v.z
  rr : ReadsAG (fun k => k < N) w a x.len x.A
  h0 : w.heap[w0.heap.size]? = some (.cells #[.int .i64 v.k, .int .i64 v.n, .string v.s, .slice va v.len vc] 24 (0, 0))
  h1 : w.heap[w0.heap.size + 1]? = some (.cells #[.int .i64 s.t, .int .i64 s.i, .int .i64 s.q, .string s.o] 26 (0, 0))
  h2 : w.heap[w0.heap.size + 2]? = some (.cells #[.string x.key, .int .i64 x.t, .int .i64 x.i, .int .i64 x.q, .string x.o, .slice a x.len c] 29 (0, 0))
section
variable {w0 w w' : World} {N : Nat} {v : AD} {va : Option Addr} {vc : Nat} {s : SD} {x : RD} {a : Option Addr} {c : Nat}
theorem KP.own (h : KP w0 w N v va vc s x a c) (hk : Kept (fun k => N ≤ k) w w') : KP w0 w' N v va vc s x a c :=
  ⟨h.bw.trans (hk.below (fun k hk => by have := h.l3; omega) h.bw.size), Nat.le_trans h.le hk.size, h.l3, h.rv.kept hk (fun b hb e => by omega), h.rr.kept hk (fun b hb e => by omega),
    hk.heap h.h0 (by have := h.l3; omega), hk.heap h.h1 (by have := h.l3; omega), hk.heap h.h2 (by have := h.l3; omega)⟩
theorem KP.kept (h : KP w0 w N v va vc s x a c) (hb : Below w.heap.size w w') : KP w0 w' N v va vc s x a c := h.own ((keptNew hb).mono (fun _ h _ => h.elim))
theorem KP.start (w0 : World) (hv : Reads w0 va v.len v.z) (hr : ReadsA w0 a x.len x.A) (o0 o1 o2 : Obj)
    (e0 : o0 = .cells #[.int .i64 v.k, .int .i64 v.n, .string v.s, .slice va v.len vc] 24) (e1 : o1 = .cells #[.int .i64 s.t, .int .i64 s.i, .int .i64 s.q, .string s.o] 26) (e2 : o2 = .cells #[.string x.key, .int .i64 x.t, .int .i64 x.i, .int .i64 x.q, .string x.o, .slice a x.len c] 29)
    (hw : w = ((w0.alloc o0).alloc o1).alloc o2) : KP w0 w (w0.heap.size + 3) v va vc s x a c := by
  subst e0; subst e1; subst e2
  have b1 := below_new w0 (.cells #[.int .i64 v.k, .int .i64 v.n, .string v.s, .slice va v.len vc] 24)
  have b2 := below_new (w0.alloc (.cells #[.int .i64 v.k, .int .i64 v.n, .string v.s, .slice va v.len vc] 24)) (.cells #[.int .i64 s.t, .int .i64 s.i, .int .i64 s.q, .string s.o] 26)
  have b3 := below_new ((w0.alloc (.cells #[.int .i64 v.k, .int .i64 v.n, .string v.s, .slice va v.len vc] 24)).alloc (.cells #[.int .i64 s.t, .int .i64 s.i, .int .i64 s.q, .string s.o] 26)) (.cells #[.string x.key, .int .i64 x.t, .int .i64 x.i, .int .i64 x.q, .string x.o, .slice a x.len c] 29)
  have h0 := heap_alloc_new w0 (.cells #[.int .i64 v.k, .int .i64 v.n, .string v.s, .slice va v.len vc] 24)
  have h1 := heap_alloc_new (w0.alloc (.cells #[.int .i64 v.k, .int .i64 v.n, .string v.s, .slice va v.len vc] 24)) (.cells #[.int .i64 s.t, .int .i64 s.i, .int .i64 s.q, .string s.o] 26)
  have h2 := heap_alloc_new ((w0.alloc (.cells #[.int .i64 v.k, .int .i64 v.n, .string v.s, .slice va v.len vc] 24)).alloc (.cells #[.int .i64 s.t, .int .i64 s.i, .int .i64 s.q, .string s.o] 26)) (.cells #[.string x.key, .int .i64 x.t, .int .i64 x.i, .int .i64 x.q, .string x.o, .slice a x.len c] 29)
  have hb : Below w0.heap.size w0 w := by rw [hw]; exact b1.trans ((b2.mono (by rw [World.size_alloc]; omega)).trans (b3.mono (by rw [World.size_alloc, World.size_alloc]; omega)))
  rw [← hw] at h2 b3
  rw [World.size_alloc, World.size_alloc] at h2
  rw [World.size_alloc] at h1
  have hs : w.heap.size = w0.heap.size + 3 := by rw [hw, World.size_alloc, World.size_alloc, World.size_alloc]
  exact ⟨hb, by omega, Nat.le_refl _, (ReadsG.of hv).kept (keptNew hb) (fun _ _ h => h) |>.mono (fun b hb _ => by omega), (ReadsAG.of hr).kept (keptNew hb) (fun _ _ h => h) |>.mono (fun b hb _ => by omega),
    (b3.block _ (lt_of_block ((b2.block _ (lt_of_block h0)).trans h0))).trans ((b2.block _ (lt_of_block h0)).trans h0), (b3.block _ (lt_of_block h1)).trans h1, h2⟩
end

end Go.Proofs.Ytfenfgbkphpboaa
