/-
  No statement: the contract of Text of package row.
-/
import Derived.Test.YtgcjfalgngiebaaGreatDoorWBuild
import Derived.Test.YtgcjfalgngiebaaGreatDoorWSame
import Derived.Test.YtgcjfalgngiebaaGreatDoorVText
import Derived.Test.YtgcjfalgngiebaaGreatDoorSText
namespace Go.Proofs.YtgcjfalgngiebaaGreatDoor
open Go.RowKit

/-- What Text has written ahead of the k-th attribute. -/
def rowPre (x : RD) : Nat → List UInt8
  | 0 => x.key.data.toList ++ [32] ++ textSt x.t x.i x.q x.o
  | k + 1 => rowPre x k ++ [32] ++ (x.A k).m.data.toList ++ [61] ++ textV (x.A k).k (x.A k).n (x.A k).s (x.A k).len (x.A k).z

/-- What Text answers of a row. -/
def textR (x : RD) : List UInt8 := rowPre x x.len

theorem textV_short {k n : Int} {s : ByteArray} {len : Nat} {z : Nat → Int} (hn : In64 n) (hz : ∀ j, In64 (z j)) (hs : s.size ≤ 200) (hl : len ≤ 40) : (textV k n s len z).length ≤ 1000 := by
  unfold textV
  have h1 := Lib.itoa_length_le n hn.1 hn.2
  have h2 := listPre_len z hz len
  split
  · omega
  · split
    · simp; omega
    · split
      · unfold listT; simp; omega
      · simp

theorem textSt_short {t i q : Int} {o : ByteArray} (ht : In64 t) (hi : In64 i) (hq : In64 q) (ho : o.size ≤ 100) : (textSt t i q o).length ≤ 200 := by
  have l1 := Lib.itoa_length_le t ht.1 ht.2
  have l2 := Lib.itoa_length_le i hi.1 hi.2
  have l3 := Lib.itoa_length_le q hq.1 hq.2
  unfold textSt
  simp
  omega

theorem rowPre_len (x : RD) (hk : x.key.size ≤ 100) (ho : x.o.size ≤ 100) (ht : In64 x.t) (hi : In64 x.i) (hq : In64 x.q) (hA : ∀ j, j < x.len → FewA (x.A j) ∧ NumA (x.A j)) : ∀ k, k ≤ x.len → (rowPre x k).length ≤ 400 + 1200 * k
  | 0, _ => by
    have := textSt_short ht hi hq ho
    unfold rowPre
    simp; omega
  | k + 1, h => by
    have ih := rowPre_len x hk ho ht hi hq hA k (by omega)
    obtain ⟨⟨a1, a2, a3⟩, b1, b2, b3⟩ := hA k (by omega)
    have := textV_short (k := (x.A k).k) b2 b3 a2 a3
    unfold rowPre
    simp; omega

theorem Bd.kept {B b : Nat} {bs : List Value} {w w' : World} (h : Bd B b bs w) (hb : Below w.heap.size w w') : Bd B b bs w' := by
  have one : ∀ p, Lib.BuilderAt 87 5 B b p bs w → Lib.BuilderAt 87 5 B b p bs w' := fun p ⟨hB, v, hk, ho, hne⟩ =>
    ⟨hB, v, (hb.block b (lt_of_block hk)).trans hk, ho.kept (row := none) ⟨hb.os, hb.tape, hb.output, hb.size, fun k hk _ => hb.block k hk⟩ (by cases v.ownBlock <;> simp), hne⟩
  rcases h with h | h
  · exact .inl (one _ h)
  · exact .inr (one _ h)

theorem Bd.lt {B b : Nat} {bs : List Value} {w : World} (h : Bd B b bs w) : b < w.heap.size := by
  rcases h with h | h
  · exact h.lt
  · exact h.lt

/-- What the walk keeps: the builder's text, the row's box, nothing older turned. -/
structure TxK (w0 : World) (x : RD) (a : Option Addr) (c : Nat) (l : List UInt8) (w : World) : Prop where
  bd : Bd (w0.heap.size + 1) (w0.heap.size + 1) (Lib.byteCells l) w
  box : w.heap[w0.heap.size]? = some (.cells #[.string x.key, .int .i64 x.t, .int .i64 x.i, .int .i64 x.q, .string x.o, .slice a x.len c] 55 (0, 0))
  bel : Below w0.heap.size w0 w

theorem TxK.sz {w0 w : World} {x : RD} {a : Option Addr} {c : Nat} {l : List UInt8} (h : TxK w0 x a c l w) : w0.heap.size + 1 < w.heap.size := h.bd.lt

theorem TxK.kept {w0 w w' : World} {x : RD} {a : Option Addr} {c : Nat} {l : List UInt8} (h : TxK w0 x a c l w) (hb : Below w.heap.size w w') : TxK w0 x a c l w' :=
  ⟨h.bd.kept hb, (hb.block _ (lt_of_block h.box)).trans h.box, h.bel.trans (hb.mono (by have := h.sz; omega))⟩

theorem mk_size (l : List UInt8) : (⟨l.toArray⟩ : ByteArray).size = l.length := by show l.toArray.size = _; simp

theorem byteCells_add (l : List UInt8) (s : ByteArray) : Lib.byteCells l ++ Lib.strCells s = Lib.byteCells (l ++ s.data.toList) := by simp [Lib.byteCells, Lib.strCells]
theorem byteCells_one (l : List UInt8) (c : UInt8) : Lib.byteCells l ++ [Value.int .u8 c.toNat] = Lib.byteCells (l ++ [c]) := by simp [Lib.byteCells]

theorem TxK.str {w0 w : World} {x : RD} {a : Option Addr} {c : Nat} {l : List UInt8} (h : TxK w0 x a c l w) (s : ByteArray) (hl : l.length + s.size ≤ 1000000) :
    Calls Tryz.prog 42 #[.pointer (some ⟨w0.heap.size + 1, 0, none⟩), .string s] w fun e w' => e = .returned (.tuple #[.int .i64 s.size, .nilIface]) ∧ TxK w0 x a c (l ++ s.data.toList) w' ∧ Oth (w0.heap.size + 1) w w' :=
  (bdString_any _ _ _ s w h.bd (by rw [Lib.byteCells_length]; omega) (by have := h.sz; omega)).mono fun e w' ⟨he, hb, hw, hoth⟩ =>
    ⟨he, ⟨by rwa [byteCells_add] at hb, (hw.block _ (by omega)).trans h.box, h.bel.trans (hw.mono (by omega))⟩, hoth⟩

theorem TxK.byte {w0 w : World} {x : RD} {a : Option Addr} {c : Nat} {l : List UInt8} (h : TxK w0 x a c l w) (d : UInt8) (hl : l.length + 1 ≤ 1000000) :
    Calls Tryz.prog 43 #[.pointer (some ⟨w0.heap.size + 1, 0, none⟩), .int .u8 d.toNat] w fun e w' => e = .returned .nilIface ∧ TxK w0 x a c (l ++ [d]) w' ∧ Oth (w0.heap.size + 1) w w' :=
  (bdByte_any _ _ _ d.toNat w h.bd (by rw [Lib.byteCells_length]; omega) (by have := h.sz; omega)).mono fun e w' ⟨he, hb, hw, hoth⟩ =>
    ⟨he, ⟨by rwa [byteCells_one] at hb, (hw.block _ (by omega)).trans h.box, h.bel.trans (hw.mono (by omega))⟩, hoth⟩

theorem TxK.done {w0 w : World} {x : RD} {a : Option Addr} {c : Nat} {l : List UInt8} (h : TxK w0 x a c l w) :
    Calls Tryz.prog 46 #[.pointer (some ⟨w0.heap.size + 1, 0, none⟩)] w fun e w' => e = .returned (.string ⟨l.toArray⟩) ∧ Below w0.heap.size w0 w' :=
  (Tryz.Builder_String_any _ _ l w h.bd (by have := h.sz; omega)).mono fun e w' ⟨he, hb⟩ => ⟨he, h.bel.trans (hb.mono (by omega))⟩

theorem six {w : World} {b : Nat} {v0 v1 v2 v3 v4 v5 : Value} {t : TypeId} (h : w.heap[b]? = some (.cells #[v0, v1, v2, v3, v4, v5] t (0, 0))) :
    w.cell? ⟨b, 0, none⟩ = some v0 ∧ w.cell? ⟨b, 1, none⟩ = some v1 ∧ w.cell? ⟨b, 2, none⟩ = some v2 ∧ w.cell? ⟨b, 3, none⟩ = some v3 ∧ w.cell? ⟨b, 4, none⟩ = some v4 ∧ w.cell? ⟨b, 5, none⟩ = some v5 := by
  refine ⟨?_, ?_, ?_, ?_, ?_, ?_⟩ <;> simp [World.cell?, h]

set_option maxRecDepth 100000 in
set_option maxHeartbeats 4000000 in
theorem rowText_any (x : RD) (a : Option Addr) (c : Nat) (hk : x.key.size ≤ 100) (ho : x.o.size ≤ 100) (ht : In64 x.t) (hi : In64 x.i) (hq : In64 x.q) (hA : ∀ j, j < x.len → FewA (x.A j) ∧ NumA (x.A j)) (hn : x.len ≤ 100) (w : World) (hr : ReadsA w a x.len x.A) (hw : LaidT w) :
    Calls Tryz.prog 21 #[.agg #[.string x.key, .int .i64 x.t, .int .i64 x.i, .int .i64 x.q, .string x.o, .slice a x.len c]] w fun e w' => e = .returned (.string ⟨(textR x).toArray⟩) ∧ Below w.heap.size w w' := by
  have HL := Lib.hid (rowPre_len x hk ho ht hi hq hA)
  have HA := Lib.hid hA
  have R := Lib.hid hr
  have LW := Lib.hid hw
  have ST := Lib.hid (fun w hw => stampText_any x.t x.i x.q x.o ht hi hq (by omega) w hw)
  have L0 := Lib.hid (HL.out 0 (Nat.zero_le _))
  have HP0 := Lib.hid (show rowPre x 0 = x.key.data.toList ++ [32] ++ textSt x.t x.i x.q x.o from rfl)
  obtain ⟨ts, hts⟩ : ∃ ts, textSt x.t x.i x.q x.o = ts := ⟨_, rfl⟩
  rw [hts] at ST HP0
  have L1 := Lib.hid (textSt_short ht hi hq ho)
  rw [hts] at L1
  unfold stp at ST
  have hkl : x.key.data.toList.length = x.key.size := by simp
  clear hA hr hw ho ht hi hq hts
  go_enter Tryz.func21, Tryz.ntmps21
  go_wp2_with fail
  generalize hW : World.alloc (World.alloc w _) _ = W
  have K0 : Hid (TxK w x a c [] W) := Lib.hid (by
    refine ⟨?_, ?_, ?_⟩
    · rw [← hW]
      have := Lib.fresh_isBuilder 87 5 (w.alloc (.cells #[.string x.key, .int .i64 x.t, .int .i64 x.i, .int .i64 x.q, .string x.o, .slice a x.len c] 55))
      rwa [World.size_alloc] at this
    · rw [← hW]; exact (Below.heap_alloc _ _ _ (by simp)).trans (heap_alloc_new w _)
    · rw [← hW]; exact ((Below.refl _ _).alloc (Nat.le_refl _) _).alloc (by simp) _)
  clear hW
  have key : ∀ {l : List UInt8} {w' : World}, TxK w x a c l w' → ReadsA w' a x.len x.A ∧ LaidT w' := fun k => ⟨R.out.kept k.bel, LW.out.step k.bel⟩
  have KEY := Lib.hid (p := ∀ (l : List UInt8) (w' : World), TxK w x a c l w' → ReadsA w' a x.len x.A ∧ LaidT w') (fun l w' k => key k)
  clear key
  obtain ⟨x0, x1, x2, x3, x4, x5⟩ := six K0.out.box
  have hl0 := hkl
  clear hkl
  go_wp2_with fail
  refine (K0.out.str x.key (by simp; omega)).mono ?_
  rintro e w1 ⟨rfl, h, -⟩
  have K1 := Lib.hid h
  clear h K0 x0 x1 x2 x3 x4 x5
  obtain ⟨x0, x1, x2, x3, x4, x5⟩ := six K1.out.box
  go_wp2_with fail
  refine (K1.out.byte 32 (by simp; omega)).mono ?_
  rintro e w2 ⟨rfl, h, -⟩
  have K2 := Lib.hid h
  clear h K1 x0 x1 x2 x3 x4 x5
  obtain ⟨x0, x1, x2, x3, x4, x5⟩ := six K2.out.box
  go_wp2_with fail
  refine (ST.out _ (KEY.out _ _ K2.out).2).mono ?_
  rintro e w3 ⟨rfl, h⟩
  have K3 := Lib.hid (K2.out.kept h)
  clear h K2 x0 x1 x2 x3 x4 x5
  obtain ⟨x0, x1, x2, x3, x4, x5⟩ := six K3.out.box
  go_wp2_with fail
  refine (K3.out.str ⟨ts.toArray⟩ (by have := L1.out; simp only [List.length_append, List.length_nil, List.length_cons, mk_size]; omega)).mono ?_
  rintro e w4 ⟨rfl, h, -⟩
  have K4 : Hid (TxK w x a c (rowPre x 0) w4) := Lib.hid (by rw [HP0.out]; simpa using h)
  clear h K3 x0 x1 x2 x3 x4 x5
  obtain ⟨x0, x1, x2, x3, x4, x5⟩ := six K4.out.box
  go_wp2_with fail
  go_loopw [17] (fun i wr => ∃ k : Nat, i = .int .i64 k ∧ k ≤ x.len ∧ Hid (TxK w x a c (rowPre x k) wr)) (fun i _ => x.len - (intOf i).toNat)
  case atStart => exact ⟨0, rfl, Nat.zero_le _, K4⟩
  case round =>
    obtain ⟨k, rfl, hk', K5⟩ := hrel
    clear K4 x0 x1 x2 x3 x4 x5
    by_cases hlt : k < x.len
    · obtain ⟨-, hc⟩ := R.out
      obtain ⟨b, off, hab, hcs⟩ := hc.resolve_left (by omega)
      obtain ⟨y, cy, h50, hrd⟩ := hcs k hlt
      have h5 := h50.kept K5.out.bel
      clear h50
      obtain ⟨hfa, hna⟩ := HA.out k hlt
      have hpre := HL.out k hk'
      have hnx : rowPre x (k + 1) = rowPre x k ++ [32] ++ (x.A k).m.data.toList ++ [61] ++ textV (x.A k).k (x.A k).n (x.A k).s (x.A k).len (x.A k).z := rfl
      have hV := textV_short (k := (x.A k).k) hna.2.1 hna.2.2 hfa.2.1 hfa.2.2
      obtain ⟨u, hu⟩ : ∃ u, x.A k = u := ⟨_, rfl⟩
      rw [hu] at h5 hrd hfa hna hnx hV
      obtain ⟨hf1, hf2, hf3⟩ := hfa
      have HN := Lib.hid hna
      have TV := Lib.hid (p := ∀ w', Below w.heap.size w w' → LaidT w' → Calls Tryz.prog 45 #[.agg #[.int .i64 u.k, .int .i64 u.n, .string u.s, .slice y u.len cy]] w' fun e w'' => e = .returned (.string ⟨(textV u.k u.n u.s u.len u.z).toArray⟩) ∧ Below w'.heap.size w' w'') (fun w' hb hl => text_any u.k u.n HN.out.2.1 u.s (by omega) y u.len cy u.z HN.out.2.2 (by omega) w' (hrd.kept hb) hl hl.has)
      obtain ⟨tv, htv⟩ : ∃ tv, textV u.k u.n u.s u.len u.z = tv := ⟨_, rfl⟩
      rw [htv] at TV hnx hV
      have NX := Lib.hid hnx
      have HV := Lib.hid hV
      have H5 := Lib.hid h5
      obtain ⟨d0, d1, d2, d3, d4⟩ := h5
      have hum : u.m.data.toList.length = u.m.size := by simp
      have HUM := Lib.hid hum
      subst hab
      clear hcs hrd hna hnx hV hu htv hc hum
      have bA : ∀ o, Below wr.heap.size wr (wr.alloc o) := fun o => (Below.refl _ _).alloc (Nat.le_refl _) _
      have BA := Lib.hid bA
      have K6 := Lib.hid (fun o => K5.out.kept (bA o))
      have hz := K5.out.sz
      have hq : wr.heap.size ≠ w.heap.size + 1 := by omega
      clear bA
      go_wp2_with fail
      have Q6 := Lib.hid (heap_alloc_new wr (.cells #[.string u.m, .int .i64 u.k, .int .i64 u.n, .string u.s, .slice y u.len cy] 57))
      refine ((K6.out _).byte 32 (by omega)).mono ?_
      rintro e w7 ⟨rfl, h, ho⟩
      have K7 := Lib.hid h
      have Q7 := Lib.hid (ho _ _ _ hq (by decide) Q6.out)
      clear h ho K6 Q6 d0 d1 d2 d3 d4
      obtain ⟨d0, d1, d2, d3, d4⟩ := cells5_block Q7.out
      go_wp2_with fail
      refine (K7.out.str u.m (by simp only [List.length_append, List.length_cons, List.length_nil]; omega)).mono ?_
      rintro e w8 ⟨rfl, h, ho⟩
      have K8 := Lib.hid h
      have Q8 := Lib.hid (ho _ _ _ hq (by decide) Q7.out)
      clear h ho K7 Q7 d0 d1 d2 d3 d4
      obtain ⟨d0, d1, d2, d3, d4⟩ := cells5_block Q8.out
      go_wp2_with fail
      refine (K8.out.byte 61 (by simp only [List.length_append, List.length_cons, List.length_nil, HUM.out]; omega)).mono ?_
      rintro e w9 ⟨rfl, h, ho⟩
      have K9 := Lib.hid h
      have Q9 := Lib.hid (ho _ _ _ hq (by decide) Q8.out)
      clear h ho K8 Q8 d0 d1 d2 d3 d4
      obtain ⟨d0, d1, d2, d3, d4⟩ := cells5_block Q9.out
      go_wp2_with fail
      refine (TV.out _ K9.out.bel (KEY.out _ _ K9.out).2).mono ?_
      rintro e w10 ⟨rfl, h⟩
      have K10 := Lib.hid (K9.out.kept h)
      clear h K9 Q9 d0 d1 d2 d3 d4
      go_wp2_with fail
      refine (K10.out.str ⟨tv.toArray⟩ (by have := HV.out; simp only [List.length_append, List.length_cons, List.length_nil, mk_size, HUM.out]; omega)).mono ?_
      rintro e w11 ⟨rfl, h, -⟩
      have K11 : Hid (TxK w x _ c (rowPre x (k + 1)) w11) := Lib.hid (by rw [NX.out]; simpa using h)
      clear h K10
      go_wp2_with fail
      go_roundw
      case rel => exact ⟨k + 1, by go_num, by omega, K11⟩
      case measure => simp [intOf]; omega
    · obtain rfl : k = x.len := by omega
      go_wp2_with fail
      refine K5.out.done.mono ?_
      rintro e w6 ⟨rfl, h⟩
      have H6 := Lib.hid h
      clear h
      go_wp2_with fail
      go_ret
      exact ⟨rfl, H6.out⟩

end Go.Proofs.YtgcjfalgngiebaaGreatDoor
