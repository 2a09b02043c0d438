/-
  No statement: a value, a stamp, a row put on an encoder, and sealed.
-/
import Derived.Test.YtfenfgbkphpboaaJBook
import Derived.Test.YtfenfgbkphpboaaCSeal
namespace Go.Proofs.Ytfenfgbkphpboaa
open Go.RowKit

/-- What became of an Enc, told since an earlier world. -/
theorem EncS.go {w0 w1 w' : World} {F0 F : Nat → Prop} {p : Nat} {m : List UInt8} (hg : Grew w0 F0 F) (hk : Kept F0 w0 w1) (h : EncS w1 F p w' m) : EncS w0 F0 p w' m := by
  obtain ⟨F', hE', hg', hk'⟩ := h
  refine ⟨F', hE', fun k hk2 => ?_, hk.trans hk' (fun i hi hlt => ?_)⟩
  · rcases hg' k hk2 with h | h
    · exact hg k h
    · exact .inr (Nat.le_trans hk.size h)
  · rcases hg i hi with h | h
    · exact h
    · omega

/-- A call at an Enc as it is since w0. -/
theorem EncS.call {w0 w : World} {F0 : Nat → Prop} {p : Nat} {l m : List UInt8} {f : FuncId} {args : Array Value} (h : EncS w0 F0 p w l)
    (hc : ∀ F, EncH w p F l → Grew w0 F0 F → Kept F0 w0 w → Calls Try.prog f args w (EncPost w F p m)) : Calls Try.prog f args w (EncPost w0 F0 p m) := by
  obtain ⟨F, hE, hg, hk⟩ := h
  exact (hc F hE hg hk).mono fun e w' ⟨he, hS⟩ => ⟨he, hS.go hg hk⟩

theorem EncH.lt {w : World} {F : Nat → Prop} {p : Nat} {l : List UInt8} (h : EncH w p F l) : ∀ k, F k → k < w.heap.size := by obtain ⟨_, _, _, _, _, _, h5⟩ := h; exact h5

theorem EncS.below {w0 w w' : World} {F0 : Nat → Prop} {p : Nat} {l : List UInt8} (h : EncS w0 F0 p w l) (hb : Below w.heap.size w w') : EncS w0 F0 p w' l := by
  obtain ⟨F, hE, hg, hk⟩ := h
  exact ⟨F, hE.kept (keptNew hb) (fun _ _ h => h), hg, hk.trans (keptNew hb) (fun _ h => h.elim)⟩

/-- What was since a later world was since an earlier one. -/
theorem EncS.early {w0 W w : World} {F : Nat → Prop} {p : Nat} {l : List UInt8} (h : EncS W F p w l) (hb : Below w0.heap.size w0 W) : EncS w0 F p w l := by
  obtain ⟨F', hE, hg, hk⟩ := h
  exact ⟨F', hE, fun k hk2 => (hg k hk2).imp id (fun h => Nat.le_trans hb.size h), ((keptNew hb).mono (fun _ h => h.elim)).trans hk (fun i hi _ => hi)⟩

/-- Int of numbers in the row that was made last. -/
theorem encIs_any {w0 w : World} {F0 : Nat → Prop} {p : Nat} {l : List UInt8} {B n : Nat} {xs : Array Value} (h : EncS w0 F0 p w l) (zs : List Int) (hB : B = w.heap.size) (hx : xs = (zs.map (Value.int .i64)).toArray) (hn : n = zs.length)
    (hz : ∀ z ∈ zs, In64 z) (hl : l.length + 10 * zs.length ≤ 100000000000) :
    Calls Try.prog 33 #[.pointer (some ⟨p, 0, none⟩), .slice (some ⟨B, 0, none⟩) n n] (w.alloc (.cells xs 2)) (EncPost w0 F0 p (l ++ encs zs)) := by
  subst hB; subst hx; subst hn
  obtain ⟨F, hE, hg, hk⟩ := h
  have hlt := hE.lt
  have hE1 : EncH (w.alloc (.cells (zs.map (Value.int .i64)).toArray 2)) p F l := hE.kept ((Kept.refl (fun _ => False) w).alloc _) (fun _ _ h => h)
  refine (encInt_any p F l _ zs _ _ hz hl hE1 ⟨by unfold maxLen; omega, .inr ⟨_, _, rfl, fun h => by have := hlt _ h; omega, fun j hj => ?_⟩⟩).mono fun e w' ⟨he, hS⟩ => ⟨he, hS.go hg (hk.alloc _)⟩
  rw [cell_of_row _ _ _ _ _ (0, 0) (heap_alloc_new w _), Nat.zero_add]
  simp [List.getElem?_eq_getElem hj]

theorem encI1_any {w0 w : World} {F0 : Nat → Prop} {p : Nat} {l : List UInt8} {B : Nat} (h : EncS w0 F0 p w l) (n : Int) (hB : B = w.heap.size) (hn : In64 n) (hl : l.length ≤ 10000000000) :
    Calls Try.prog 33 #[.pointer (some ⟨p, 0, none⟩), .slice (some ⟨B, 0, none⟩) 1 1] (w.alloc (.cells #[.int .i64 n] 2)) (EncPost w0 F0 p (l ++ encI n)) := by
  have := encIs_any (n := 1) (xs := #[.int .i64 n]) h [n] hB rfl rfl (fun z hz => by rw [List.mem_singleton] at hz; subst hz; exact hn) (by simp; omega)
  rwa [encs_one] at this

theorem encT1_any {w0 w : World} {F0 : Nat → Prop} {p : Nat} {l : List UInt8} {B : Nat} (h : EncS w0 F0 p w l) (s : ByteArray) (hB : B = w.heap.size) (hs : s.size ≤ 1000000) (hl : l.length ≤ 1000000000) :
    Calls Try.prog 34 #[.pointer (some ⟨p, 0, none⟩), .slice (some ⟨B, 0, none⟩) 1 1] (w.alloc (.cells #[.string s] 9)) (EncPost w0 F0 p (l ++ encTB s)) := by
  subst hB
  have hsl : s.data.toList.length = s.size := by rw [Array.length_toList]; rfl
  have hx : encts [s.data.toList] = encTB s := by simp [encts, encT, encTB, hsl]
  obtain ⟨F, hE, hg, hk⟩ := h
  have hlt := hE.lt
  have hE1 : EncH (w.alloc (.cells #[.string s] 9)) p F l := hE.kept ((Kept.refl (fun _ => False) w).alloc _) (fun _ _ h => h)
  have := encText_any p F l (some ⟨w.heap.size, 0, none⟩) [s.data.toList] 1 _ (by simp only [List.mem_singleton, forall_eq]; omega) (by simp) hl hE1 ⟨by unfold maxLen; simp, .inr ⟨_, _, rfl, fun h => by have := hlt _ h; omega, fun j hj => by
    have : j = 0 := by simpa using hj
    subst this
    rw [cell_of_row _ _ _ _ _ (0, 0) (heap_alloc_new w _)]
    simp⟩⟩
  rw [hx] at this
  exact this.mono fun e w' ⟨he, hS⟩ => ⟨he, hS.go hg (hk.alloc _)⟩

/-- The data behind a call of an Enc, apart from its blocks. -/
theorem ReadsG.enc {w0 w : World} {F0 F : Nat → Prop} {a : Option Addr} {len : Nat} {z : Nat → Int} (h : ReadsG (fun k => ¬ F0 k) w0 a len z) (hg : Grew w0 F0 F) (hk : Kept F0 w0 w) : ReadsG (fun k => ¬ F k) w a len z :=
  ((h.lt.kept hk (fun _ h => h.1)).mono (fun k h _ hf => (hg k hf).elim h.1 (fun h2 => by have := h.2; omega)))
theorem ReadsAG.lt {G : Nat → Prop} {w : World} {a : Option Addr} {len : Nat} {A : Nat → AD} (h : ReadsAG G w a len A) : ReadsAG (fun k => G k ∧ k < w.heap.size) w a len A := h.mono (fun _ h1 h2 => ⟨h1, h2⟩)
theorem ReadsRG.lt {G : Nat → Prop} {w : World} {a : Option Addr} {len : Nat} {A : Nat → RD} (h : ReadsRG G w a len A) : ReadsRG (fun k => G k ∧ k < w.heap.size) w a len A := h.mono (fun _ h1 h2 => ⟨h1, h2⟩)
theorem ReadsAG.enc {w0 w : World} {F0 F : Nat → Prop} {a : Option Addr} {len : Nat} {A : Nat → AD} (h : ReadsAG (fun k => ¬ F0 k) w0 a len A) (hg : Grew w0 F0 F) (hk : Kept F0 w0 w) : ReadsAG (fun k => ¬ F k) w a len A :=
  ((h.lt.kept hk (fun _ h => h.1)).mono (fun k h _ hf => (hg k hf).elim h.1 (fun h2 => by have := h.2; omega)))
theorem ReadsRG.enc {w0 w : World} {F0 F : Nat → Prop} {a : Option Addr} {len : Nat} {A : Nat → RD} (h : ReadsRG (fun k => ¬ F0 k) w0 a len A) (hg : Grew w0 F0 F) (hk : Kept F0 w0 w) : ReadsRG (fun k => ¬ F k) w a len A :=
  ((h.lt.kept hk (fun _ h => h.1)).mono (fun k h _ hf => (hg k hf).elim h.1 (fun h2 => by have := h.2; omega)))

/-- A block that is none of the Enc's. -/
theorem EncS.block {w0 w : World} {F0 : Nat → Prop} {p k : Nat} {l : List UInt8} {o : Obj} (h : EncS w0 F0 p w l) (hk : w0.heap[k]? = some o) (hF : ¬ F0 k) : w.heap[k]? = some o := by
  obtain ⟨_, _, _, hk0⟩ := h
  exact hk0.heap hk hF

set_option maxHeartbeats 1000000 in
theorem putInt_any (p : Nat) (F : Nat → Prop) (l : List UInt8) (n : Int) (hn : In64 n) (hl : l.length ≤ 10000000000) (w : World) (h : EncH w p F l) :
    Calls Try.prog 36 #[.pointer (some ⟨p, 0, none⟩), .int .i64 n] w (EncPost w F p (l ++ encI n)) := by
  have E := Lib.hid (EncS.start h)
  clear h
  go_enter Try.func36, Try.ntmps36
  go_wp2_with fail
  refine (encI1_any E.out n rfl hn hl).mono ?_
  rintro e w2 ⟨rfl, hE⟩
  have P := Lib.hid (show EncPost w F p (l ++ encI n) (.returned (.tuple #[])) w2 from ⟨rfl, hE⟩)
  clear hE
  go_wp2_with fail
  go_end0
  exact P.out

end Go.Proofs.Ytfenfgbkphpboaa

namespace Go.Proofs.Ytfenfgbkphpboaa
open Go.RowKit

set_option maxHeartbeats 4000000 in
set_option maxRecDepth 100000 in
theorem putEachI_any (p : Nat) (F : Nat → Prop) (l : List UInt8) (y : Option Addr) (n c : Nat) (z : Nat → Int) (hz : ∀ j, In64 (z j)) (hn : n ≤ 1000) (hl : l.length ≤ 900000000) (w : World) (h : EncH w p F l) (hr : ReadsG (fun k => ¬ F k) w y n z) :
    Calls Try.prog 35 #[.pointer (some ⟨p, 0, none⟩), .slice y n c, .func (.func 36) #[] #[]] w (EncPost w F p (l ++ (encI (n : Nat) ++ encs (upTo z n)))) := by
  have E := Lib.hid (EncS.start h)
  have R := Lib.hid hr
  have HL := Lib.hid (encs_len hz)
  have h10 := encI_lenN (n := n) (by omega)
  have HZ := Lib.hid hz
  clear h hr hz
  go_enter Try.func35, Try.ntmps35
  go_wp2_with fail
  refine (encI1_any E.out (n : Nat) rfl ⟨by omega, by omega⟩ (by omega)).mono ?_
  rintro e w2 ⟨rfl, hE⟩
  obtain ⟨q, hq⟩ : ∃ q, l ++ encI (n : Nat) = q := ⟨_, rfl⟩
  have hql : q.length ≤ 900000010 := by rw [← hq, List.length_append]; omega
  rw [hq] at hE
  have E2 := Lib.hid (show EncS w F p w2 (q ++ encs (upTo z 0)) by simpa [upTo, encs] using hE)
  have HQ := Lib.hid (show l ++ (encI (n : Nat) ++ encs (upTo z n)) = q ++ encs (upTo z n) by rw [← List.append_assoc, hq])
  clear hE hq h10 E
  go_wp2_with fail
  go_loopw [15] (fun i wr => ∃ k : Nat, i = .int .i64 k ∧ k ≤ n ∧ Hid (EncS w F p wr (q ++ encs (upTo z k)))) (fun i _ => n - (intOf i).toNat)
  case atStart => exact ⟨0, rfl, Nat.zero_le _, E2⟩
  case round =>
    obtain ⟨k, rfl, hk, hS⟩ := hrel
    clear E2
    by_cases hlt : k < n
    · obtain ⟨b, off, rfl, hbF, hc⟩ := R.out.2.resolve_left (by omega)
      have c0 : wr.cell? ⟨b, off + k, none⟩ = some (.int .i64 (z k)) := by
        obtain ⟨_, _, _, hk0⟩ := hS.out
        exact hk0.cell (hc k hlt) hbF
      have hlk := HL.out k
      have hzk := HZ.out k
      have hnx : q ++ encs (upTo z k) ++ encI (z k) = q ++ encs (upTo z (k + 1)) := by rw [upTo_succ, encs_app, encs_one, List.append_assoc]
      obtain ⟨v, hv⟩ : ∃ v, z k = v := ⟨_, rfl⟩
      rw [hv] at c0 hnx hzk
      have NX := Lib.hid hnx
      have C := Lib.hid (p := Calls Try.prog 36 #[.pointer (some ⟨p, 0, none⟩), .int .i64 v] wr (EncPost w F p (q ++ encs (upTo z k) ++ encI v))) (hS.out.call fun F2 hE2 _ _ => putInt_any p F2 _ v hzk (by rw [List.length_append]; omega) wr hE2)
      clear hc hv hnx hzk hlk hbF
      go_wp2_with fail
      refine C.out.mono ?_
      rintro e w3 ⟨rfl, hE3⟩
      rw [NX.out] at hE3
      have E3 := Lib.hid hE3
      clear hE3 C c0 hS
      go_wp2_with fail
      go_roundw
      case rel => exact ⟨k + 1, by go_num, by omega, E3⟩
      case measure => simp [intOf]; omega
    · obtain rfl : k = n := by omega
      have P := Lib.hid (show EncPost w F p (l ++ (encI (k : Nat) ++ encs (upTo z k))) (.returned (.tuple #[])) wr from ⟨rfl, by rw [HQ.out]; exact hS.out⟩)
      clear hS
      go_wp2_with fail
      go_end0
      exact P.out

set_option maxHeartbeats 4000000 in
set_option maxRecDepth 100000 in
theorem putValue_any (p : Nat) (F : Nat → Prop) (l : List UInt8) (x : AD) (y : Option Addr) (c : Nat) (hf : FewA x) (hn : NumA x) (hl : l.length ≤ 890000000) (w : World) (h : EncH w p F l) (hr : ReadsG (fun k => ¬ F k) w y x.len x.z) :
    Calls Try.prog 8 #[.pointer (some ⟨p, 0, none⟩), .agg #[.int .i64 x.k, .int .i64 x.n, .string x.s, .slice y x.len c]] w (EncPost w F p (l ++ encV x)) := by
  obtain ⟨m, kd, n, s, len, z⟩ := x
  obtain ⟨hf1, hf2, hf3⟩ := hf
  obtain ⟨hn1, hn2, hn3⟩ := hn
  simp only at hf1 hf2 hf3 hn1 hn2 hn3 hr ⊢
  have hlt := h.lt
  have hFB : ¬ F w.heap.size := fun hh => by have := hlt _ hh; omega
  go_enter Try.func8, Try.ntmps8
  go_upto_region 1 with fail
  generalize hW : World.alloc w _ = W
  have hb0 : Below w.heap.size w W := by rw [← hW]; exact below_new w _
  have hbx : W.heap[w.heap.size]? = some (.cells #[.int .i64 kd, .int .i64 n, .string s, .slice y len c] 24 (0, 0)) := by rw [← hW]; exact heap_alloc_new w _
  have E0 := Lib.hid (EncS.start (h.kept (keptNew hb0) (fun _ _ h => h)))
  have R0 := Lib.hid (hr.lt.kept (keptNew hb0) (fun _ _ h => h))
  have HX := Lib.hid hbx
  have HB := Lib.hid hb0
  have h10 := encI_len10 hn1
  obtain ⟨⟨x0, x1, x2, x3⟩, -⟩ := four hbx
  have HN1 := Lib.hid hn1
  have HN2 := Lib.hid hn2
  have HN3 := Lib.hid hn3
  have HFB := Lib.hid hFB
  clear hW h hr hbx hb0 hn1 hn2 hn3 hlt hFB
  go_wp2_with fail
  refine (encI1_any E0.out kd rfl HN1.out (by omega)).mono ?_
  rintro e w2 ⟨rfl, hE⟩
  have E2 := Lib.hid hE
  obtain ⟨q, hq⟩ : ∃ q, l ++ encI kd = q := ⟨_, rfl⟩
  have hql : q.length ≤ 890000010 := by rw [← hq, List.length_append]; omega
  rw [hq] at E2
  have HQ := Lib.hid (show l ++ encV ⟨m, kd, n, s, len, z⟩ = q ++ (if kd = 1 then encI n else if kd = 2 then encTB s else if kd = 3 then encI (len : Nat) ++ encs (upTo z len) else []) by unfold encV; rw [← List.append_assoc, hq])
  clear hE hq h10 x0 x1 x2 x3
  have hx2 := E2.out.block HX.out HFB.out
  obtain ⟨⟨x0, x1, x2, x3⟩, -⟩ := four hx2
  clear hx2
  by_cases h1 : kd = 1
  · subst h1
    go_wp2_with fail
    refine (encI1_any E2.out n rfl HN2.out (by omega)).mono ?_
    rintro e w3 ⟨rfl, hE⟩
    have P := Lib.hid (show EncPost w F p (l ++ encV ⟨m, 1, n, s, len, z⟩) (.returned (.tuple #[])) w3 from ⟨rfl, by rw [HQ.out, if_pos trivial]; exact hE.early HB.out⟩)
    clear hE
    go_wp2_with fail
    go_end0
    exact P.out
  by_cases h2 : kd = 2
  · subst h2
    clear h1
    go_wp2_with fail
    refine (encT1_any E2.out s rfl (by omega) (by omega)).mono ?_
    rintro e w3 ⟨rfl, hE⟩
    have P := Lib.hid (show EncPost w F p (l ++ encV ⟨m, 2, n, s, len, z⟩) (.returned (.tuple #[])) w3 from ⟨rfl, by rw [HQ.out, if_neg (by decide), if_pos trivial]; exact hE.early HB.out⟩)
    clear hE
    go_wp2_with fail
    go_end0
    exact P.out
  by_cases h3 : kd = 3
  · subst h3
    clear h1 h2
    have C := Lib.hid (p := Calls Try.prog 35 #[.pointer (some ⟨p, 0, none⟩), .slice y len c, .func (.func 36) #[] #[]] w2 (EncPost W F p (q ++ (encI (len : Nat) ++ encs (upTo z len))))) (E2.out.call fun F2 hE2 hg hk => putEachI_any p F2 _ y len c z HN3.out (by omega) (by omega) w2 hE2 ((R0.out.mono (fun _ h _ => h.1)).enc hg hk))
    go_wp2_with fail
    refine C.out.mono ?_
    rintro e w3 ⟨rfl, hE⟩
    have P := Lib.hid (show EncPost w F p (l ++ encV ⟨m, 3, n, s, len, z⟩) (.returned (.tuple #[])) w3 from ⟨rfl, by rw [HQ.out, if_neg (by decide), if_neg (by decide), if_pos trivial]; exact hE.early HB.out⟩)
    clear hE
    go_wp2_with fail
    go_end0
    exact P.out
  have e1 : (kd == 1) = false := by simpa using h1
  have e2 : (kd == 2) = false := by simpa using h2
  have e3 : (kd == 3) = false := by simpa using h3
  have P := Lib.hid (show EncPost w F p (l ++ encV ⟨m, kd, n, s, len, z⟩) (.returned (.tuple #[])) w2 from ⟨rfl, by rw [HQ.out, if_neg h1, if_neg h2, if_neg h3, List.append_nil]; exact E2.out.early HB.out⟩)
  clear h1 h2 h3
  go_wp2_with fail
  go_end0
  exact P.out

set_option maxHeartbeats 4000000 in
set_option maxRecDepth 100000 in
theorem putStamp_any (p : Nat) (F : Nat → Prop) (l : List UInt8) (t i q : Int) (o : ByteArray) (ht : In64 t) (hi : In64 i) (hq : In64 q) (ho : o.size ≤ 1000) (hl : l.length ≤ 890000000) (w : World) (h : EncH w p F l) :
    Calls Try.prog 9 #[.pointer (some ⟨p, 0, none⟩), .agg #[.int .i64 t, .int .i64 i, .int .i64 q, .string o]] w (EncPost w F p (l ++ encSt t i q o)) := by
  have hlt := h.lt
  have hFB : ¬ F w.heap.size := fun hh => by have := hlt _ hh; omega
  go_enter Try.func9, Try.ntmps9
  go_upto_region 1 with fail
  generalize hW : World.alloc w _ = W
  have hb0 : Below w.heap.size w W := by rw [← hW]; exact below_new w _
  have hbx : W.heap[w.heap.size]? = some (.cells #[.int .i64 t, .int .i64 i, .int .i64 q, .string o] 26 (0, 0)) := by rw [← hW]; exact heap_alloc_new w _
  have E0 := Lib.hid (EncS.start (h.kept (keptNew hb0) (fun _ _ h => h)))
  have HX := Lib.hid hbx
  have HB := Lib.hid hb0
  obtain ⟨⟨x0, x1, x2, x3⟩, -⟩ := four hbx
  have HN := Lib.hid (show ∀ z ∈ [t, i, q], In64 z from fun z hz => by
    simp only [List.mem_cons, List.not_mem_nil, or_false] at hz
    rcases hz with rfl | rfl | rfl <;> assumption)
  have HFB := Lib.hid hFB
  have H1 := encI_len10 ht
  have H2 := encI_len10 hi
  have H3 := encI_len10 hq
  have e3 : encs [t, i, q] = encI t ++ encI i ++ encI q := by simp [encs]
  clear hW h hbx hb0 ht hi hq hlt hFB
  go_wp2_with fail
  refine (encIs_any E0.out [t, i, q] rfl rfl rfl HN.out (by simp; omega)).mono ?_
  rintro e w2 ⟨rfl, hE⟩
  obtain ⟨u, hu⟩ : ∃ u, l ++ encs [t, i, q] = u := ⟨_, rfl⟩
  have hul : u.length ≤ 890000030 := by rw [← hu, e3]; simp only [List.length_append]; omega
  have HU := Lib.hid (show l ++ encSt t i q o = u ++ encTB o by unfold encSt; rw [← hu, e3]; simp)
  rw [hu] at hE
  have E2 := Lib.hid hE
  clear hE hu H1 H2 H3 e3 x0 x1 x2 x3
  have hx2 := E2.out.block HX.out HFB.out
  obtain ⟨⟨x0, x1, x2, x3⟩, -⟩ := four hx2
  clear hx2
  go_wp2_with fail
  refine (encT1_any E2.out o rfl (by omega) (by omega)).mono ?_
  rintro e w3 ⟨rfl, hE⟩
  have P := Lib.hid (show EncPost w F p (l ++ encSt t i q o) (.returned (.tuple #[])) w3 from ⟨rfl, by rw [HU.out]; exact hE.early HB.out⟩)
  clear hE
  go_wp2_with fail
  go_end0
  exact P.out

end Go.Proofs.Ytfenfgbkphpboaa

namespace Go.Proofs.Ytfenfgbkphpboaa
open Go.RowKit

theorem box5 {w : World} {b : Nat} {v0 v1 v2 v3 v4 : Value} {t : TypeId} (h : w.heap[b]? = some (.cells #[v0, v1, v2, v3, v4] t (0, 0))) :
    w.cell? ⟨b, 0, none⟩ = some v0 ∧ w.cell? ⟨b, 1, none⟩ = some v1 ∧ w.cell? ⟨b, 2, none⟩ = some v2 ∧ w.cell? ⟨b, 3, none⟩ = some v3 ∧ w.cell? ⟨b, 4, none⟩ = some v4 := by
  refine ⟨?_, ?_, ?_, ?_, ?_⟩ <;> simp [World.cell?, h]
theorem box6 {w : World} {b : Nat} {v0 v1 v2 v3 v4 v5 : Value} {t : TypeId} (h : w.heap[b]? = some (.cells #[v0, v1, v2, v3, v4, v5] t (0, 0))) :
    w.cell? ⟨b, 0, none⟩ = some v0 ∧ w.cell? ⟨b, 1, none⟩ = some v1 ∧ w.cell? ⟨b, 2, none⟩ = some v2 ∧ w.cell? ⟨b, 3, none⟩ = some v3 ∧ w.cell? ⟨b, 4, none⟩ = some v4 ∧ w.cell? ⟨b, 5, none⟩ = some v5 := by
  refine ⟨?_, ?_, ?_, ?_, ?_, ?_⟩ <;> simp [World.cell?, h]

set_option maxHeartbeats 4000000 in
set_option maxRecDepth 100000 in
theorem putAttr_any (p : Nat) (F : Nat → Prop) (l : List UInt8) (x : AD) (y : Option Addr) (c : Nat) (hf : FewA x) (hn : NumA x) (hl : l.length ≤ 880000000) (w : World) (h : EncH w p F l) (hr : ReadsG (fun k => ¬ F k) w y x.len x.z) :
    Calls Try.prog 38 #[.pointer (some ⟨p, 0, none⟩), .agg #[.string x.m, .int .i64 x.k, .int .i64 x.n, .string x.s, .slice y x.len c]] w (EncPost w F p (l ++ encA x)) := by
  have hlt := h.lt
  have hFB : ¬ F w.heap.size := fun hh => by have := hlt _ hh; omega
  go_enter Try.func38, Try.ntmps38
  go_upto_region 1 with fail
  generalize hW : World.alloc w _ = W
  have hb0 : Below w.heap.size w W := by rw [← hW]; exact below_new w _
  have hbx : W.heap[w.heap.size]? = some (.cells #[.string x.m, .int .i64 x.k, .int .i64 x.n, .string x.s, .slice y x.len c] 34 (0, 0)) := by rw [← hW]; exact heap_alloc_new w _
  have E0 := Lib.hid (EncS.start (h.kept (keptNew hb0) (fun _ _ h => h)))
  have R0 := Lib.hid (hr.lt.kept (keptNew hb0) (fun _ _ h => h))
  have HX := Lib.hid hbx
  have HB := Lib.hid hb0
  have HF := Lib.hid hf
  have HN := Lib.hid hn
  have h10 := encTB_len (s := x.m) (by have := hf.1; omega)
  have hm := hf.1
  obtain ⟨x0, x1, x2, x3, x4⟩ := box5 hbx
  have HFB := Lib.hid hFB
  clear hW h hr hbx hb0 hlt hFB hf hn
  go_wp2_with fail
  refine (encT1_any E0.out x.m rfl (by omega) (by omega)).mono ?_
  rintro e w2 ⟨rfl, hE⟩
  have E2 := Lib.hid hE
  have C := Lib.hid (p := Calls Try.prog 8 #[.pointer (some ⟨p, 0, none⟩), .agg #[.int .i64 x.k, .int .i64 x.n, .string x.s, .slice y x.len c]] w2 (EncPost W F p (l ++ encTB x.m ++ encV x))) (hE.call fun F2 hE2 hg hk => putValue_any p F2 _ x y c HF.out HN.out (by rw [List.length_append]; omega) w2 hE2 ((R0.out.mono (fun _ h _ => h.1)).enc hg hk))
  clear hE x0 x1 x2 x3 x4
  have hx2 := E2.out.block HX.out HFB.out
  obtain ⟨x0, x1, x2, x3, x4⟩ := box5 hx2
  clear hx2
  go_wp2_with fail
  refine C.out.mono ?_
  rintro e w3 ⟨rfl, hE⟩
  have P := Lib.hid (show EncPost w F p (l ++ encA x) (.returned (.tuple #[])) w3 from ⟨rfl, by unfold encA; rw [← List.append_assoc]; exact hE.early HB.out⟩)
  clear hE
  go_wp2_with fail
  go_end0
  exact P.out

set_option maxHeartbeats 4000000 in
set_option maxRecDepth 100000 in
theorem putEachA_any (p : Nat) (F : Nat → Prop) (l : List UInt8) (a : Option Addr) (n c : Nat) (A : Nat → AD) (hA : ∀ j, j < n → FewA (A j) ∧ NumA (A j)) (hn : n ≤ 100) (hl : l.length ≤ 870000000) (w : World) (h : EncH w p F l) (hr : ReadsAG (fun k => ¬ F k) w a n A) :
    Calls Try.prog 37 #[.pointer (some ⟨p, 0, none⟩), .slice a n c, .func (.func 38) #[] #[]] w (EncPost w F p (l ++ (encI (n : Nat) ++ encAs (tkA A n)))) := by
  have E := Lib.hid (EncS.start h)
  have R := Lib.hid hr
  have HL := Lib.hid (encAs_len hA)
  have h10 := encI_lenN (n := n) (by omega)
  have HA := Lib.hid hA
  clear h hr hA
  go_enter Try.func37, Try.ntmps37
  go_wp2_with fail
  refine (encI1_any E.out (n : Nat) rfl ⟨by omega, by omega⟩ (by omega)).mono ?_
  rintro e w2 ⟨rfl, hE⟩
  obtain ⟨q, hq⟩ : ∃ q, l ++ encI (n : Nat) = q := ⟨_, rfl⟩
  have hql : q.length ≤ 870000010 := by rw [← hq, List.length_append]; omega
  rw [hq] at hE
  have E2 := Lib.hid (show EncS w F p w2 (q ++ encAs (tkA A 0)) by simpa [tkA, fromA, encAs] using hE)
  have HQ := Lib.hid (show l ++ (encI (n : Nat) ++ encAs (tkA A n)) = q ++ encAs (tkA A n) by rw [← List.append_assoc, hq])
  clear hE hq h10 E
  go_wp2_with fail
  go_loopw [15] (fun i wr => ∃ k : Nat, i = .int .i64 k ∧ k ≤ n ∧ Hid (EncS w F p wr (q ++ encAs (tkA A k)))) (fun i _ => n - (intOf i).toNat)
  case atStart => exact ⟨0, rfl, Nat.zero_le _, E2⟩
  case round =>
    obtain ⟨k, rfl, hk, hS⟩ := hrel
    clear E2
    by_cases hlt : k < n
    · obtain ⟨b, off, rfl, hbF, hc⟩ := R.out.2.resolve_left (by omega)
      obtain ⟨y, ce, h5, hy⟩ := hc k hlt
      have h5r : Cells5 wr b (off + k * 5) (A k) y ce := by
        obtain ⟨_, _, _, hk0⟩ := hS.out
        exact h5.keptS hk0 hbF
      have hlk := HL.out k hk
      obtain ⟨hfk, hnk⟩ := HA.out k hlt
      have hnx : q ++ encAs (tkA A k) ++ encA (A k) = q ++ encAs (tkA A (k + 1)) := by rw [tkA_succ, encAs_snoc, List.append_assoc]
      obtain ⟨x, hx⟩ : ∃ x, A k = x := ⟨_, rfl⟩
      rw [hx] at h5r hy hfk hnk hnx
      have NX := Lib.hid hnx
      have C := Lib.hid (p := ∀ o, Calls Try.prog 38 #[.pointer (some ⟨p, 0, none⟩), .agg #[.string x.m, .int .i64 x.k, .int .i64 x.n, .string x.s, .slice y x.len ce]] (wr.alloc o) (EncPost w F p (q ++ encAs (tkA A k) ++ encA x))) (fun o => (hS.out.below (below_new wr o)).call fun F2 hE2 hg hk2 => putAttr_any p F2 _ x y ce hfk hnk (by rw [List.length_append]; omega) _ hE2 (hy.enc hg hk2))
      obtain ⟨p0, p1, p2, p3, p4⟩ := h5r
      clear hc hx hnx hfk hnk hlk hbF h5 hy
      go_wp2_with fail
      refine (C.out _).mono ?_
      rintro e w3 ⟨rfl, hE3⟩
      rw [NX.out] at hE3
      have E3 := Lib.hid hE3
      clear hE3 C p0 p1 p2 p3 p4 hS
      go_wp2_with fail
      go_roundw
      case rel => exact ⟨k + 1, by go_num, by omega, E3⟩
      case measure => simp [intOf]; omega
    · obtain rfl : k = n := by omega
      have P := Lib.hid (show EncPost w F p (l ++ (encI (k : Nat) ++ encAs (tkA A k))) (.returned (.tuple #[])) wr from ⟨rfl, by rw [HQ.out]; exact hS.out⟩)
      clear hS
      go_wp2_with fail
      go_end0
      exact P.out

set_option maxHeartbeats 4000000 in
set_option maxRecDepth 100000 in
theorem putRow_any (p : Nat) (F : Nat → Prop) (l : List UInt8) (x : RD) (a : Option Addr) (c : Nat) (hx : FewR x) (hl : l.length ≤ 860000000) (w : World) (h : EncH w p F l) (hr : ReadsAG (fun k => ¬ F k) w a x.len x.A) :
    Calls Try.prog 10 #[.pointer (some ⟨p, 0, none⟩), .agg #[.string x.key, .int .i64 x.t, .int .i64 x.i, .int .i64 x.q, .string x.o, .slice a x.len c]] w (EncPost w F p (l ++ encR x)) := by
  have hlt := h.lt
  have hFB : ¬ F w.heap.size := fun hh => by have := hlt _ hh; omega
  go_enter Try.func10, Try.ntmps10
  go_upto_region 1 with fail
  generalize hW : World.alloc w _ = W
  have hb0 : Below w.heap.size w W := by rw [← hW]; exact below_new w _
  have hbx : W.heap[w.heap.size]? = some (.cells #[.string x.key, .int .i64 x.t, .int .i64 x.i, .int .i64 x.q, .string x.o, .slice a x.len c] 29 (0, 0)) := by rw [← hW]; exact heap_alloc_new w _
  have E0 := Lib.hid (EncS.start (h.kept (keptNew hb0) (fun _ _ h => h)))
  have R0 := Lib.hid (hr.lt.kept (keptNew hb0) (fun _ _ h => h))
  have HX := Lib.hid hbx
  have HB := Lib.hid hb0
  have FX := Lib.hid hx
  have h10 := encTB_len (s := x.key) (by have := hx.k; omega)
  have hm := hx.k
  have h11 := encSt_len hx.t hx.i hx.q hx.o
  obtain ⟨x0, x1, x2, x3, x4, x5⟩ := box6 hbx
  have HFB := Lib.hid hFB
  clear hW h hr hbx hb0 hlt hFB hx
  go_wp2_with fail
  refine (encT1_any E0.out x.key rfl (by omega) (by omega)).mono ?_
  rintro e w2 ⟨rfl, hE⟩
  obtain ⟨q, hq⟩ : ∃ q, l ++ encTB x.key = q := ⟨_, rfl⟩
  have hql : q.length ≤ 860000110 := by rw [← hq, List.length_append]; omega
  rw [hq] at hE
  have E2 := Lib.hid hE
  have HQ := Lib.hid (show l ++ encR x = q ++ encSt x.t x.i x.q x.o ++ (encI (x.len : Nat) ++ encAs (tkA x.A x.len)) by unfold encR tkA; rw [← hq]; simp only [List.append_assoc])
  have C := Lib.hid (p := Calls Try.prog 9 #[.pointer (some ⟨p, 0, none⟩), .agg #[.int .i64 x.t, .int .i64 x.i, .int .i64 x.q, .string x.o]] w2 (EncPost W F p (q ++ encSt x.t x.i x.q x.o))) (hE.call fun F2 hE2 _ _ => putStamp_any p F2 _ x.t x.i x.q x.o FX.out.t FX.out.i FX.out.q (by have := FX.out.o; omega) (by omega) w2 hE2)
  clear hE x0 x1 x2 x3 x4 x5 hq
  have hx2 := E2.out.block HX.out HFB.out
  obtain ⟨x0, x1, x2, x3, x4, x5⟩ := box6 hx2
  clear hx2
  go_wp2_with fail
  refine C.out.mono ?_
  rintro e w3 ⟨rfl, hE⟩
  have E3 := Lib.hid hE
  have D := Lib.hid (p := Calls Try.prog 37 #[.pointer (some ⟨p, 0, none⟩), .slice a x.len c, .func (.func 38) #[] #[]] w3 (EncPost W F p (q ++ encSt x.t x.i x.q x.o ++ (encI (x.len : Nat) ++ encAs (tkA x.A x.len))))) (hE.call fun F2 hE2 hg hk => putEachA_any p F2 _ a x.len c x.A (fun j hj => ⟨FX.out.f j hj, FX.out.n j hj⟩) (by have := FX.out.l; omega) (by rw [List.length_append]; omega) w3 hE2 ((R0.out.mono (fun _ h _ => h.1)).enc hg hk))
  clear hE C x0 x1 x2 x3 x4 x5
  have hx3 := E3.out.block HX.out HFB.out
  obtain ⟨x0, x1, x2, x3, x4, x5⟩ := box6 hx3
  clear hx3
  go_wp2_with fail
  refine D.out.mono ?_
  rintro e w4 ⟨rfl, hE⟩
  have P := Lib.hid (show EncPost w F p (l ++ encR x) (.returned (.tuple #[])) w4 from ⟨rfl, by rw [HQ.out]; exact hE.early HB.out⟩)
  clear hE
  go_wp2_with fail
  go_end0
  exact P.out

set_option maxHeartbeats 4000000 in
set_option maxRecDepth 100000 in
theorem putEachR_any (p : Nat) (F : Nat → Prop) (l : List UInt8) (a : Option Addr) (n c : Nat) (R : Nat → RD) (hA : ∀ j, j < n → FewR (R j)) (hn : n ≤ 100) (hl : l.length ≤ 800000000) (w : World) (h : EncH w p F l) (hr : ReadsRG (fun k => ¬ F k) w a n R) :
    Calls Try.prog 79 #[.pointer (some ⟨p, 0, none⟩), .slice a n c, .func (.func 10) #[] #[]] w (EncPost w F p (l ++ (encI (n : Nat) ++ encRs (tkR R n)))) := by
  have E := Lib.hid (EncS.start h)
  have RR := Lib.hid hr
  have HL := Lib.hid (encRs_len hA)
  have h10 := encI_lenN (n := n) (by omega)
  have HA := Lib.hid hA
  clear h hr hA
  go_enter Try.func79, Try.ntmps79
  go_wp2_with fail
  refine (encI1_any E.out (n : Nat) rfl ⟨by omega, by omega⟩ (by omega)).mono ?_
  rintro e w2 ⟨rfl, hE⟩
  obtain ⟨q, hq⟩ : ∃ q, l ++ encI (n : Nat) = q := ⟨_, rfl⟩
  have hql : q.length ≤ 800000010 := by rw [← hq, List.length_append]; omega
  rw [hq] at hE
  have E2 := Lib.hid (show EncS w F p w2 (q ++ encRs (tkR R 0)) by simpa [tkR, encRs] using hE)
  have HQ := Lib.hid (show l ++ (encI (n : Nat) ++ encRs (tkR R n)) = q ++ encRs (tkR R n) by rw [← List.append_assoc, hq])
  clear hE hq h10 E
  go_wp2_with fail
  go_loopw [15] (fun i wr => ∃ k : Nat, i = .int .i64 k ∧ k ≤ n ∧ Hid (EncS w F p wr (q ++ encRs (tkR R k)))) (fun i _ => n - (intOf i).toNat)
  case atStart => exact ⟨0, rfl, Nat.zero_le _, E2⟩
  case round =>
    obtain ⟨k, rfl, hk, hS⟩ := hrel
    clear E2
    by_cases hlt : k < n
    · obtain ⟨b, off, rfl, hbF, hc⟩ := RR.out.2.resolve_left (by omega)
      obtain ⟨y, ce, h5, hy⟩ := hc k hlt
      have h5r : Cells6 wr b (off + k * 6) (R k) y ce := by
        obtain ⟨_, _, _, hk0⟩ := hS.out
        exact h5.keptS hk0 hbF
      have hlk := HL.out k hk
      have hfk := HA.out k hlt
      have hnx : q ++ encRs (tkR R k) ++ encR (R k) = q ++ encRs (tkR R (k + 1)) := by rw [tkR_succ, encRs_snoc, List.append_assoc]
      obtain ⟨x, hx⟩ : ∃ x, R k = x := ⟨_, rfl⟩
      rw [hx] at h5r hy hfk hnx
      have NX := Lib.hid hnx
      have C := Lib.hid (p := ∀ o, Calls Try.prog 10 #[.pointer (some ⟨p, 0, none⟩), .agg #[.string x.key, .int .i64 x.t, .int .i64 x.i, .int .i64 x.q, .string x.o, .slice y x.len ce]] (wr.alloc o) (EncPost w F p (q ++ encRs (tkR R k) ++ encR x))) (fun o => (hS.out.below (below_new wr o)).call fun F2 hE2 hg hk2 => putRow_any p F2 _ x y ce hfk (by rw [List.length_append]; omega) _ hE2 (hy.enc hg hk2))
      obtain ⟨p0, p1, p2, p3, p4, p5⟩ := h5r
      clear hc hx hnx hfk hlk hbF h5 hy
      go_wp2_with fail
      refine (C.out _).mono ?_
      rintro e w3 ⟨rfl, hE3⟩
      rw [NX.out] at hE3
      have E3 := Lib.hid hE3
      clear hE3 C p0 p1 p2 p3 p4 p5 hS
      go_wp2_with fail
      go_roundw
      case rel => exact ⟨k + 1, by go_num, by omega, E3⟩
      case measure => simp [intOf]; omega
    · obtain rfl : k = n := by omega
      have P := Lib.hid (show EncPost w F p (l ++ (encI (k : Nat) ++ encRs (tkR R k))) (.returned (.tuple #[])) wr from ⟨rfl, by rw [HQ.out]; exact hS.out⟩)
      clear hS
      go_wp2_with fail
      go_end0
      exact P.out

set_option maxHeartbeats 1000000 in
theorem putRows_any (p : Nat) (F : Nat → Prop) (l : List UInt8) (a : Option Addr) (n c : Nat) (R : Nat → RD) (hA : ∀ j, j < n → FewR (R j)) (hn : n ≤ 100) (hl : l.length ≤ 800000000) (w : World) (h : EncH w p F l) (hr : ReadsRG (fun k => ¬ F k) w a n R) :
    Calls Try.prog 63 #[.pointer (some ⟨p, 0, none⟩), .slice a n c] w (EncPost w F p (l ++ (encI (n : Nat) ++ encRs (tkR R n)))) := by
  have C := Lib.hid (putEachR_any p F l a n c R hA hn hl w h hr)
  clear h hr hA
  go_enter Try.func63, Try.ntmps63
  go_wp2_with fail
  refine C.out.mono ?_
  rintro e w2 ⟨rfl, hE⟩
  have P := Lib.hid (show EncPost w F p (l ++ (encI (n : Nat) ++ encRs (tkR R n))) (.returned (.tuple #[])) w2 from ⟨rfl, hE⟩)
  clear hE
  go_wp2_with fail
  go_end0
  exact P.out

end Go.Proofs.Ytfenfgbkphpboaa

namespace Go.Proofs.Ytfenfgbkphpboaa
open Go.RowKit

/-- Bytes and an error. -/
def OutE (w : World) (r : List UInt8 × Int) (e : Ending) (w' : World) : Prop := (∃ a c, e = .returned (.tuple #[.slice a r.1.length c, .int .i64 r.2]) ∧ BR w' a c r.1) ∧ Below w.heap.size w w'

theorem ReadsRG.cells {G : Nat → Prop} {w : World} {a : Option Addr} {n : Nat} {R : Nat → RD} (h : ReadsRG G w a n R) {k : Nat} (hk : k < n) : ∃ b off y c, a = some ⟨b, off, none⟩ ∧ G b ∧ Cells6 w b (off + k * 6) (R k) y c ∧ ReadsAG G w y (R k).len (R k).A := by
  obtain ⟨b, off, rfl, hg, hc⟩ := h.2.resolve_left (by omega)
  obtain ⟨y, c, h6, hy⟩ := hc k hk
  exact ⟨b, off, y, c, rfl, hg, h6, hy⟩

theorem ret_i64e {a b : Int} (h : a = b) : Ending.returned (.int .i64 a) = .returned (.int .i64 b) := by rw [h]

set_option maxHeartbeats 4000000 in
set_option maxRecDepth 100000 in
theorem checkRows_any (a : Option Addr) (n c : Nat) (R : Nat → RD) (hR : ∀ j, j < n → SzR 4000000 (R j) ∨ FewR (R j)) (hn : n ≤ 100) (w : World) (h : ReadsR w a n R) :
    Calls Try.prog 62 #[.slice a n c] w fun e w' => e = .returned (.int .i64 (errRows (tkR R n))) ∧ Below w.heap.size w w' := by
  have H := Lib.hid h
  have HR := Lib.hid (p := ∀ j, j < n → (R j).key.size ≤ 281474976710656 ∧ (R j).o.size ≤ 281474976710656 ∧ ∀ i, i < (R j).len → ((R j).A i).m.size ≤ 281474976710656 ∧ ((R j).A i).s.size ≤ 281474976710656) (fun j hj => by
    rcases hR j hj with h | h
    · exact ⟨by have := h.k; omega, by have := h.o; omega, fun i hi => ⟨by have := (h.a i hi).1; omega, by have := (h.a i hi).2; omega⟩⟩
    · exact ⟨by have := h.k; omega, by have := h.o; omega, fun i hi => ⟨by have := (h.f i hi).1; omega, by have := (h.f i hi).2.1; omega⟩⟩)
  clear h hR
  by_cases h64 : 64 < n
  · have E := Lib.hid (show errRows (tkR R n) = 4 by unfold errRows; rw [tkR_len, if_pos h64])
    go_enter Try.func62, Try.ntmps62
    go_wp2_with fail
    go_ret
    exact ⟨ret_i64e E.out.symm, Below.refl _ _⟩
  have E := Lib.hid (show errRows (tkR R n) = errF (fromR R n 0) by unfold errRows; rw [tkR_len, if_neg h64, fromR_all])
  go_enter Try.func62, Try.ntmps62
  go_wp2_with fail
  go_loopw [11] (fun i wr => ∃ k : Nat, i = .int .i64 k ∧ k ≤ n ∧ Hid (errF (fromR R n 0) = errF (fromR R n k)) ∧ Hid (Below w.heap.size w wr)) (fun i _ => n - (intOf i).toNat)
  case atStart => exact ⟨0, rfl, Nat.zero_le _, Lib.hid rfl, Lib.hid (Below.refl _ _)⟩
  case round =>
    obtain ⟨k, rfl, hk, hE, hB⟩ := hrel
    by_cases hlt : k < n
    · obtain ⟨b, off, y, ce, rfl, -, h6, hy⟩ := (H.out.below hB.out).cells hlt
      have hE2 := hE.out
      rw [fromR_cons R hlt, errF] at hE2
      obtain ⟨hk1, ho1, hA1⟩ := HR.out k hlt
      have C := Lib.hid (fun o => wCheck_any (R k) y ce hk1 ho1 hA1 (wr.alloc o) (hy.plain.kept (below_new wr o)))
      obtain ⟨x, hx⟩ : ∃ x, R k = x := ⟨_, rfl⟩
      rw [hx] at h6 hE2 C
      obtain ⟨q, hq⟩ : ∃ q, errR x = q := ⟨_, rfl⟩
      rw [hq] at C hE2
      have HE := Lib.hid hE2
      obtain ⟨p0, p1, p2, p3, p4, p5⟩ := h6
      have hz := hB.out.size
      clear hE2 hx hq hk1 ho1 hA1 hy hE
      by_cases h0 : q = 0
      · subst h0
        go_wp2_with fail
        refine (C.out _).mono ?_
        rintro e w2 ⟨rfl, hb⟩
        have B2 := Lib.hid (hB.out.trans (((below_new wr _).trans (hb.mono (by simp))).mono hz))
        clear hb C p0 p1 p2 p3 p4 p5
        go_wp2_with fail
        go_roundw
        case rel => exact ⟨k + 1, by go_num, by omega, Lib.hid (by rw [HE.out, if_pos trivial]), B2⟩
        case measure => simp [intOf]; omega
      · have h0' : (q == 0) = false := by simpa using h0
        have E2 := Lib.hid (show errRows (tkR R n) = q by rw [E.out, HE.out, if_neg h0])
        clear h0
        go_wp2_with fail
        refine (C.out _).mono ?_
        rintro e w2 ⟨rfl, hb⟩
        have B2 := Lib.hid (hB.out.trans (((below_new wr _).trans (hb.mono (by simp))).mono hz))
        clear hb C p0 p1 p2 p3 p4 p5
        go_wp2_with fail
        go_ret
        exact ⟨ret_i64e E2.out.symm, B2.out⟩
    · obtain rfl : k = n := by omega
      have E2 := Lib.hid (show errRows (tkR R k) = 0 by rw [E.out, hE.out, fromR_nil R (Nat.le_refl _)]; rfl)
      go_wp2_with fail
      go_ret
      exact ⟨ret_i64e E2.out.symm, hB.out⟩

theorem EncH.new (w : World) : EncH (w.alloc (.cells #[.slice none 0 0] 38)) w.heap.size (· = w.heap.size) [] :=
  ⟨_, heap_alloc_new w _, World.ownsRow_nil _ _ _ _, fun h => (by cases h), rfl, fun _ h => (by cases h), fun k hk => by simp; omega⟩

theorem EncS.base {w0 W w : World} {p : Nat} {F : Nat → Prop} {l : List UInt8} (h : EncS W F p w l) (hb : Below w0.heap.size w0 W) (hF : ∀ k, F k → w0.heap.size ≤ k) : Below w0.heap.size w0 w := by
  obtain ⟨_, _, _, hk⟩ := h
  exact hb.trans (hk.below hF hb.size)

/-- Seal of an Enc's bytes. -/
theorem bytes_any {W w : World} {F : Nat → Prop} {p : Nat} {l : List UInt8} (h : EncS W F p w l) (hl : l.length ≤ 100000000000) : Calls Try.prog 17 #[.pointer (some ⟨p, 0, none⟩)] w (OutB w l) := by
  obtain ⟨F', hE, _, _⟩ := h
  exact encBytes_any p F' l hl w hE

set_option maxHeartbeats 4000000 in
set_option maxRecDepth 100000 in
theorem sealR_any (x : RD) (a : Option Addr) (c : Nat) (hx : FewR x) (w : World) (h : ReadsA w a x.len x.A) :
    Calls Try.prog 58 #[.agg #[.string x.key, .int .i64 x.t, .int .i64 x.i, .int .i64 x.q, .string x.o, .slice a x.len c], .func (.func 59) #[] #[], .func (.func 10) #[] #[]] w (OutE w (encodeR x)) := by
  have hk := hx.k
  have ho := hx.o
  have CK := Lib.hid (fun W (hb : Below w.heap.size w W) => wCheck_any x a c (by omega) (by omega) (fun j hj => ⟨by have := (hx.f j hj).1; omega, by have := (hx.f j hj).2.1; omega⟩) W (h.kept hb))
  have hlen := encR_len hx
  have FX := Lib.hid hx
  have RA := Lib.hid (ReadsAG.of h)
  obtain ⟨q, hq⟩ : ∃ q, errR x = q := ⟨_, rfl⟩
  rw [hq] at CK
  have HQ := Lib.hid hq
  clear h hq hk ho
  go_enter Try.func58, Try.ntmps58
  go_upto_region 1 with fail
  generalize hW : World.alloc w _ = W
  have B0 := Lib.hid (show Below w.heap.size w W by rw [← hW]; exact below_new w _)
  have X0 := Lib.hid (show W.heap[w.heap.size]? = some (.cells #[.string x.key, .int .i64 x.t, .int .i64 x.i, .int .i64 x.q, .string x.o, .slice a x.len c] 29 (0, 0)) by rw [← hW]; exact heap_alloc_new w _)
  obtain ⟨x0, x1, x2, x3, x4, x5⟩ := box6 X0.out
  clear hW
  by_cases h0 : q = 0
  · subst h0
    go_wp2_with fail
    refine (CK.out W B0.out).mono ?_
    rintro e w2 ⟨rfl, hb⟩
    have B2 := Lib.hid (B0.out.trans (hb.mono B0.out.size))
    have X2 := Lib.hid ((hb.block _ (lt_of_block X0.out)).trans X0.out)
    clear hb x0 x1 x2 x3 x4 x5 CK
    go_upto_region 5 with fail
    generalize hW : World.alloc w2 _ = W4
    have B4 := Lib.hid (show Below w.heap.size w W4 by rw [← hW]; exact B2.out.alloc B2.out.size _)
    have X4 := Lib.hid (show W4.heap[w.heap.size]? = some (.cells #[.string x.key, .int .i64 x.t, .int .i64 x.i, .int .i64 x.q, .string x.o, .slice a x.len c] 29 (0, 0)) by rw [← hW]; exact ((below_new w2 _).block _ (lt_of_block X2.out)).trans X2.out)
    have PR := Lib.hid (putRow_any w2.heap.size (· = w2.heap.size) [] x a c FX.out (by simp) W4 (by rw [← hW]; exact EncH.new w2) ((RA.out.kept (keptBelow B4.out) (fun k h1 h2 => by omega)).mono (fun k h1 _ h2 => by have := B2.out.size; omega)))
    rw [List.nil_append] at PR
    obtain ⟨x0, x1, x2, x3, x4, x5⟩ := box6 X4.out
    have hp := B2.out.size
    clear hW X0 X2
    go_wp2_with fail
    refine PR.out.mono ?_
    rintro e w5 ⟨rfl, hE⟩
    have E5 := Lib.hid hE
    have B5 := Lib.hid (hE.base B4.out (fun k hk => by omega))
    clear hE x0 x1 x2 x3 x4 x5 PR
    go_wp2_with fail
    refine (bytes_any E5.out (by omega)).mono ?_
    rintro e w6 ⟨a6, c6, rfl, ho6, hb6⟩
    have B6 := Lib.hid (B5.out.trans (hb6.mono B5.out.size))
    have SE := Lib.hid (seal_any a6 c6 (encR x) (by omega) w6 ho6.br)
    clear ho6 hb6
    go_wp2_with fail
    refine SE.out.mono ?_
    rintro e w7 ⟨a7, c7, rfl, ho7, hb7⟩
    have P := Lib.hid (show OutE w (encodeR x) (.returned (.tuple #[.slice a7 (sealB (encR x)).length c7, .int .i64 0])) w7 by
      unfold encodeR
      rw [if_pos HQ.out]
      exact ⟨⟨a7, c7, rfl, ho7.br⟩, B6.out.trans (hb7.mono B6.out.size)⟩)
    clear ho7 hb7 SE
    go_wp2_with fail
    go_ret2
    exact P.out
  · have h0' : (q == 0) = false := by simpa using h0
    have HN := Lib.hid h0
    clear h0
    go_wp2_with fail
    refine (CK.out W B0.out).mono ?_
    rintro e w2 ⟨rfl, hb⟩
    have P := Lib.hid (show OutE w (encodeR x) (.returned (.tuple #[.slice none 0 0, .int .i64 q])) w2 by
      unfold encodeR
      rw [if_neg (by rw [HQ.out]; exact HN.out), HQ.out]
      exact ⟨⟨none, 0, rfl, BR.nil' _⟩, B0.out.trans (hb.mono B0.out.size)⟩)
    clear hb x0 x1 x2 x3 x4 x5 CK
    go_wp2_with fail
    go_ret2
    exact P.out

set_option maxHeartbeats 4000000 in
theorem encode_any (x : RD) (a : Option Addr) (c : Nat) (hx : FewR x) (w : World) (h : ReadsA w a x.len x.A) :
    Calls Try.prog 27 #[.agg #[.string x.key, .int .i64 x.t, .int .i64 x.i, .int .i64 x.q, .string x.o, .slice a x.len c]] w (OutE w (encodeR x)) := by
  have C := Lib.hid (fun o => sealR_any x a c hx (w.alloc o) (h.kept (below_new w o)))
  obtain ⟨⟨B, er⟩, hr⟩ : ∃ r, encodeR x = r := ⟨_, rfl⟩
  rw [hr] at C ⊢
  clear h hr
  go_enter Try.func27, Try.ntmps27
  go_wp2_with fail
  refine (C.out _).mono ?_
  rintro e w2 ⟨⟨a2, c2, rfl, hb⟩, hbl⟩
  have P := Lib.hid (show OutE w (B, er) (.returned (.tuple #[.slice a2 B.length c2, .int .i64 er])) w2 from ⟨⟨a2, c2, rfl, hb⟩, (below_new w _).trans (hbl.mono (by simp))⟩)
  clear hb hbl
  go_wp2_with fail
  go_ret2
  exact P.out

set_option maxHeartbeats 4000000 in
set_option maxRecDepth 100000 in
theorem sealRs_any (a : Option Addr) (n c : Nat) (R : Nat → RD) (hR : ∀ j, j < n → FewR (R j)) (hn : n ≤ 100) (w : World) (h : ReadsR w a n R) :
    Calls Try.prog 61 #[.slice a n c, .func (.func 62) #[] #[], .func (.func 63) #[] #[]] w (OutE w (encodeRs (tkR R n))) := by
  have CK := Lib.hid (checkRows_any a n c R (fun j hj => .inr (hR j hj)) hn w h)
  have hl1 := encRs_len hR n (Nat.le_refl _)
  have hl2 := encI_lenN (n := n) (by omega)
  have HR := Lib.hid hR
  have H := Lib.hid h
  have HT := Lib.hid (tkR_len R n)
  obtain ⟨q, hq⟩ : ∃ q, errRows (tkR R n) = q := ⟨_, rfl⟩
  rw [hq] at CK
  have HQ := Lib.hid hq
  clear h hq hR
  go_enter Try.func61, Try.ntmps61
  by_cases h0 : q = 0
  · subst h0
    go_wp2_with fail
    refine CK.out.mono ?_
    rintro e w2 ⟨rfl, hb⟩
    have B2 := Lib.hid hb
    clear hb CK
    go_upto_region 5 with fail
    generalize hW : World.alloc w2 _ = W4
    have B4 := Lib.hid (show Below w.heap.size w W4 by rw [← hW]; exact B2.out.alloc B2.out.size _)
    have PR := Lib.hid (putRows_any w2.heap.size (· = w2.heap.size) [] a n c R HR.out hn (by simp) W4 (by rw [← hW]; exact EncH.new w2) ((ReadsRG.kept (G := fun k => k < w.heap.size) H.out (keptBelow B4.out) (fun k h1 h2 => by omega)).mono (fun k h1 _ h2 => by have := B2.out.size; omega)))
    rw [List.nil_append] at PR
    have hp := B2.out.size
    have hq1 : (encI (n : Nat) ++ encRs (tkR R n)).length ≤ 2150010 := by rw [List.length_append]; omega
    obtain ⟨Q, hQ⟩ : ∃ Q, encI (n : Nat) ++ encRs (tkR R n) = Q := ⟨_, rfl⟩
    have HQ2 := Lib.hid hQ
    rw [hQ] at PR hq1
    clear hW hQ
    go_wp2_with fail
    refine PR.out.mono ?_
    rintro e w5 ⟨rfl, hE⟩
    have E5 := Lib.hid hE
    have B5 := Lib.hid (hE.base B4.out (fun k hk => by omega))
    clear hE PR
    go_wp2_with fail
    refine (bytes_any E5.out (by omega)).mono ?_
    rintro e w6 ⟨a6, c6, rfl, ho6, hb6⟩
    have B6 := Lib.hid (B5.out.trans (hb6.mono B5.out.size))
    have SE := Lib.hid (seal_any a6 c6 Q (by omega) w6 ho6.br)
    clear ho6 hb6
    go_wp2_with fail
    refine SE.out.mono ?_
    rintro e w7 ⟨a7, c7, rfl, ho7, hb7⟩
    have P := Lib.hid (show OutE w (encodeRs (tkR R n)) (.returned (.tuple #[.slice a7 (sealB Q).length c7, .int .i64 0])) w7 by
      unfold encodeRs
      rw [if_pos HQ.out, HT.out, HQ2.out]
      exact ⟨⟨a7, c7, rfl, ho7.br⟩, B6.out.trans (hb7.mono B6.out.size)⟩)
    clear ho7 hb7 SE
    go_wp2_with fail
    go_ret2
    exact P.out
  · have h0' : (q == 0) = false := by simpa using h0
    have HN := Lib.hid h0
    clear h0
    go_wp2_with fail
    refine CK.out.mono ?_
    rintro e w2 ⟨rfl, hb⟩
    have P := Lib.hid (show OutE w (encodeRs (tkR R n)) (.returned (.tuple #[.slice none 0 0, .int .i64 q])) w2 by
      unfold encodeRs
      rw [if_neg (by rw [HQ.out]; exact HN.out), HQ.out]
      exact ⟨⟨none, 0, rfl, BR.nil' _⟩, hb⟩)
    clear hb CK
    go_wp2_with fail
    go_ret2
    exact P.out

set_option maxHeartbeats 4000000 in
theorem all_any (a : Option Addr) (n c : Nat) (R : Nat → RD) (hR : ∀ j, j < n → FewR (R j)) (hn : n ≤ 100) (w : World) (h : ReadsR w a n R) :
    Calls Try.prog 29 #[.slice a n c] w (OutE w (encodeRs (tkR R n))) := by
  have C := Lib.hid (sealRs_any a n c R hR hn w h)
  obtain ⟨⟨B, er⟩, hr⟩ : ∃ r, encodeRs (tkR R n) = r := ⟨_, rfl⟩
  rw [hr] at C ⊢
  clear h hr hR
  go_enter Try.func29, Try.ntmps29
  go_wp2_with fail
  refine C.out.mono ?_
  rintro e w2 ⟨⟨a2, c2, rfl, hb⟩, hbl⟩
  have P := Lib.hid (show OutE w (B, er) (.returned (.tuple #[.slice a2 B.length c2, .int .i64 er])) w2 from ⟨⟨a2, c2, rfl, hb⟩, hbl⟩)
  clear hb hbl
  go_wp2_with fail
  go_ret2
  exact P.out

end Go.Proofs.Ytfenfgbkphpboaa
