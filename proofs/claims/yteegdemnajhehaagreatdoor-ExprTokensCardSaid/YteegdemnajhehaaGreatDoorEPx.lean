/-
  No statement: contracts of the document's place, ParseExpr.
-/
import Derived.Test.YteegdemnajhehaaGreatDoorEOf
namespace Go.Proofs.YteegdemnajhehaaGreatDoor
open Go.RowKit

theorem ofL_ne {L : List Tk} {p q : Nat} {e : Int} (h : ofL L p = .bad q e) : ((e : Int) != 0) = true ∧ (q : Nat) ≤ 1000000 ∨ ((e : Int) != 0) = true := by
  unfold ofL at h
  split at h
  · cases h
  · rename_i hb
    cases h
    exact .inr (by simpa using hb)

theorem lexT_len {l : List UInt8} {ts : List Tk} (h : lexT l = .ok ts) : ts.length ≤ 1024 := by
  unfold lexT at h
  split at h
  · cases h
  · have := (lex_sizes _ _ _ h).2.1
    omega

set_option maxHeartbeats 2000000 in
theorem rPlace_any (s : ByteArray) (ts : List Tk) (a : Option Addr) (c p : Nat) (_hn : ts.length ≤ 100000) (w : World) (hr : ReadsT w a ts) :
    Calls Tryz.prog 31 #[.string s, .slice a ts.length c, .int .i64 p] w fun e w' => e = .returned (.int .i64 ((placeT s.size ts p : Nat) : Int)) ∧ w = w' := by
  by_cases hlt : p < ts.length
  · obtain ⟨b, off, ha, -, hc⟩ := hr.resolve_left (by intro e; rw [e] at hlt; simp at hlt)
    obtain ⟨-, -, -, p3⟩ := hc p hlt
    subst ha
    have e : placeT s.size ts p = ts[p].place := by unfold placeT; rw [List.getElem?_eq_getElem hlt]
    rw [e]
    clear hc
    go_enter Tryz.func31, Tryz.ntmps31
    go_wp2_with fail
    go_ret
    exact ⟨rfl, rfl⟩
  · have e : placeT s.size ts p = s.size := by unfold placeT; rw [List.getElem?_eq_none (by omega)]
    rw [e]
    clear hr
    go_enter Tryz.func31, Tryz.ntmps31
    go_wp2_with fail
    go_ret
    exact ⟨rfl, rfl⟩

/-- What Parse answers, of the program and of the document. -/
def PxPost (q : PxEnd) (w : World) (e : Ending) (w' : World) : Prop := Below w.heap.size w w' ∧
  match q with
  | .bad p er => e = .returned (.tuple #[nodeV ⟨#[]⟩ ⟨#[]⟩ 0 none 0 0, .int .i64 (p : Nat), .int .i64 er])
  | .ok t => ∃ a c, e = .returned (.tuple #[nodeV t.op t.nm t.n a t.ks.len c, .int .i64 0, .int .i64 0]) ∧ ReadsK w.heap.size w' a t.ks

set_option maxHeartbeats 4000000 in
theorem rPxA (s : ByteArray) (w : World) {p : Nat} {er : Int} (hL : lexT s.data.toList = .bad p er) : Calls Tryz.prog 11 #[.string s] w (PxPost (.bad p er) w) := by
  obtain ⟨-, qe⟩ := lexT_bad_ne hL
  have B1 := (Below.refl w.heap.size w).alloc (Nat.le_refl _) (ndO ⟨#[]⟩ ⟨#[]⟩ 0 none 0 0)
  have NB := heap_alloc_new w (ndO ⟨#[]⟩ ⟨#[]⟩ 0 none 0 0)
  have hs0 : (w.alloc (ndO ⟨#[]⟩ ⟨#[]⟩ 0 none 0 0)).heap.size = w.heap.size + 1 := World.size_alloc _ _
  generalize hW : w.alloc (ndO ⟨#[]⟩ ⟨#[]⟩ 0 none 0 0) = W at *
  have C := Lib.hid (rTokens_any s W)
  rw [hL] at C
  go_enter Tryz.func11, Tryz.ntmps11
  go_wp2_with fail
  refine C.out.mono ?_
  rintro e w1 ⟨hb, rfl⟩
  have N1 := (hb.block w.heap.size (by omega)).trans NB
  have hz := hb.size
  have B2 := Lib.hid (B1.trans (hb.mono (by omega)))
  obtain ⟨⟨n0, n1, n2, n3⟩, g0, g1, g2, g3⟩ := four N1
  have N2 := Lib.hid N1
  clear hb N1 C hW
  go_wp2_with fail
  have KP := kept_put4 w1 w.heap.size ⟨#[]⟩ ⟨#[]⟩ 0 none 0 0
  have hres := four_set N2.out (.string ⟨#[]⟩) (.string ⟨#[]⟩) (.int .i64 0) (.slice none 0 0)
  obtain ⟨⟨d0, d1, d2, d3⟩, -⟩ := four hres
  exact bodyPost_ret (v := .tuple #[nodeV ⟨#[]⟩ ⟨#[]⟩ 0 none 0 0, .int .i64 (p : Nat), .int .i64 er]) (by simp [results, Tryz.results11, go_sem, d0, d1, d2, d3]) rfl ⟨B2.out.trans (KP.below (B := w.heap.size) (fun k hk => by omega) (by omega)), rfl⟩

set_option maxHeartbeats 4000000 in
theorem rPxB (s : ByteArray) (w : World) {ts : List Tk} {p : Nat} {er : Int} (hL : lexT s.data.toList = .ok ts) (hO : ofL ts 0 = .bad p er) : Calls Tryz.prog 11 #[.string s] w (PxPost (.bad (placeT s.size ts p) er) w) := by
  have qe : ((er : Int) != 0) = true := by rcases ofL_ne hO with h | h; exact h.1; exact h
  have B1 := (Below.refl w.heap.size w).alloc (Nat.le_refl _) (ndO ⟨#[]⟩ ⟨#[]⟩ 0 none 0 0)
  have NB := heap_alloc_new w (ndO ⟨#[]⟩ ⟨#[]⟩ 0 none 0 0)
  have hs0 : (w.alloc (ndO ⟨#[]⟩ ⟨#[]⟩ 0 none 0 0)).heap.size = w.heap.size + 1 := World.size_alloc _ _
  generalize hW : w.alloc (ndO ⟨#[]⟩ ⟨#[]⟩ 0 none 0 0) = W at *
  have C := Lib.hid (rTokens_any s W)
  rw [hL] at C
  go_enter Tryz.func11, Tryz.ntmps11
  go_wp2_with fail
  refine C.out.mono ?_
  rintro e w1 ⟨hb, a, c, rfl, ho⟩
  have N1 := (hb.block w.heap.size (by omega)).trans NB
  have hz := hb.size
  have B2 := Lib.hid (B1.trans (hb.mono (by omega)))
  have R1 := Lib.hid (readsT_own ho)
  have OL := Lib.hid (fun q hq => ho.lt q hq)
  have N2 := Lib.hid N1
  have CO := Lib.hid (rOf_any ts a c 0 (by have := lexT_len hL; omega) (Nat.zero_le _) w1 R1.out)
  rw [hO] at CO
  have hlen := lexT_len hL
  clear hb N1 C hW ho
  go_wp2_with fail
  refine CO.out.mono ?_
  rintro e w2 ⟨hb, rfl⟩
  have N3 := (hb.block w.heap.size (by omega)).trans N2.out
  have hz2 := hb.size
  have R2 := R1.out.kept hb
  have B3 := B2.out.trans (hb.mono (by omega))
  have BN := (Below.refl w2.heap.size w2).alloc (Nat.le_refl _) (ndO ⟨#[]⟩ ⟨#[]⟩ 0 none 0 0)
  have hnew := heap_alloc_new w2 (ndO ⟨#[]⟩ ⟨#[]⟩ 0 none 0 0)
  have hs2 : (w2.alloc (ndO ⟨#[]⟩ ⟨#[]⟩ 0 none 0 0)).heap.size = w2.heap.size + 1 := World.size_alloc _ _
  have N4 := (BN.block w.heap.size (by omega)).trans N3
  have R4 := R2.kept BN
  have B4 := B3.trans (BN.mono (by omega))
  have CP := Lib.hid (rPlace_any s ts a c p (by omega) (w2.alloc (ndO ⟨#[]⟩ ⟨#[]⟩ 0 none 0 0)) R4)
  obtain ⟨⟨n0, n1, n2, n3⟩, g0, g1, g2, g3⟩ := four N4
  have N5 := Lib.hid N4
  have B5 := Lib.hid B4
  clear hb N3 N4 R2 R4 B3 B4 BN hnew CO
  go_wp2_with (go_at_call 31; refine CP.out.mono ?_; rintro e w6 ⟨rfl, rfl⟩)
  have KP := kept_put4 (w2.alloc (ndO ⟨#[]⟩ ⟨#[]⟩ 0 none 0 0)) w.heap.size ⟨#[]⟩ ⟨#[]⟩ 0 none 0 0
  have hres := four_set N5.out (.string ⟨#[]⟩) (.string ⟨#[]⟩) (.int .i64 0) (.slice none 0 0)
  obtain ⟨⟨d0, d1, d2, d3⟩, -⟩ := four hres
  exact bodyPost_ret (v := .tuple #[nodeV ⟨#[]⟩ ⟨#[]⟩ 0 none 0 0, .int .i64 ((placeT s.size ts p : Nat) : Int), .int .i64 er]) (by simp [results, Tryz.results11, go_sem, d0, d1, d2, d3]) rfl ⟨B5.out.trans (KP.below (B := w.heap.size) (fun k hk => by omega) (by omega)), rfl⟩

set_option maxHeartbeats 8000000 in
theorem rPxC (s : ByteArray) (w : World) {ts : List Tk} {p : Nat} {t : TN} (hL : lexT s.data.toList = .ok ts) (hO : ofL ts 0 = .ok t p) (hp : p < ts.length) : Calls Tryz.prog 11 #[.string s] w (PxPost (.bad (placeT s.size ts p) 2) w) := by
  have B1 := (Below.refl w.heap.size w).alloc (Nat.le_refl _) (ndO ⟨#[]⟩ ⟨#[]⟩ 0 none 0 0)
  have NB := heap_alloc_new w (ndO ⟨#[]⟩ ⟨#[]⟩ 0 none 0 0)
  have hs0 : (w.alloc (ndO ⟨#[]⟩ ⟨#[]⟩ 0 none 0 0)).heap.size = w.heap.size + 1 := World.size_alloc _ _
  generalize hW : w.alloc (ndO ⟨#[]⟩ ⟨#[]⟩ 0 none 0 0) = W at *
  have C := Lib.hid (rTokens_any s W)
  rw [hL] at C
  go_enter Tryz.func11, Tryz.ntmps11
  go_wp2_with fail
  refine C.out.mono ?_
  rintro e w1 ⟨hb, a, c, rfl, ho⟩
  have N1 := (hb.block w.heap.size (by omega)).trans NB
  have hz := hb.size
  have B2 := Lib.hid (B1.trans (hb.mono (by omega)))
  have R1 := Lib.hid (readsT_own ho)
  have OL := Lib.hid (fun q hq => ho.lt q hq)
  have N2 := Lib.hid N1
  have CO := Lib.hid (rOf_any ts a c 0 (by have := lexT_len hL; omega) (Nat.zero_le _) w1 R1.out)
  rw [hO] at CO
  have hlen := lexT_len hL
  clear hb N1 C hW ho
  go_wp2_with fail
  refine CO.out.mono ?_
  rintro e w2 ⟨hb, ad, cc, rfl, hr⟩
  have N3 := (hb.block w.heap.size (by omega)).trans N2.out
  have hz2 := hb.size
  have R2 := R1.out.kept hb
  have B3 := B2.out.trans (hb.mono (by omega))
  have BN := (Below.refl w2.heap.size w2).alloc (Nat.le_refl _) (ndO t.op t.nm t.n ad t.ks.len cc)
  have hnew := heap_alloc_new w2 (ndO t.op t.nm t.n ad t.ks.len cc)
  have hs2 : (w2.alloc (ndO t.op t.nm t.n ad t.ks.len cc)).heap.size = w2.heap.size + 1 := World.size_alloc _ _
  have N4 := (BN.block w.heap.size (by omega)).trans N3
  have R4 := R2.kept BN
  have B4 := B3.trans (BN.mono (by omega))
  generalize hV : w2.alloc (ndO t.op t.nm t.n ad t.ks.len cc) = V at *
  obtain ⟨bb, off, ha, -, hc⟩ := R4.resolve_left (by intro e; rw [e] at hp; simp at hp)
  obtain ⟨-, -, -, p3⟩ := hc p hp
  subst ha
  have hbb : w.heap.size < bb := by have := (OL.out bb (by simp [Value.ownBlock])).1; omega
  have p4 := (kept_put4 V w.heap.size ⟨#[]⟩ ⟨#[]⟩ 0 none 0 0).cell p3 (by show ¬ bb = w.heap.size; omega)
  unfold put4 at p4
  have e : placeT s.size ts p = ts[p].place := by unfold placeT; rw [List.getElem?_eq_getElem hp]
  have EE := Lib.hid e
  have a3 : (p : Int) < (ts.length : Int) := by omega
  have a4 : (0 : Int) ≤ (p : Int) := by omega
  have a5 : ((p : Int)).toNat = p := by omega
  obtain ⟨⟨n0, n1, n2, n3⟩, g0, g1, g2, g3⟩ := four N4
  have N5 := Lib.hid N4
  have B5 := Lib.hid B4
  clear hb N3 N4 R2 R4 B3 B4 BN hnew CO hc e hr
  go_wp2_with fail
  clear hV
  go_region
  go_wp2_with fail
  have KP := kept_put4 V w.heap.size ⟨#[]⟩ ⟨#[]⟩ 0 none 0 0
  have hres := four_set N5.out (.string ⟨#[]⟩) (.string ⟨#[]⟩) (.int .i64 0) (.slice none 0 0)
  obtain ⟨U, hU⟩ : ∃ U, (put4 V w.heap.size ⟨#[]⟩ ⟨#[]⟩ 0 none 0 0).drew = U := ⟨_, rfl⟩
  have hres' : U.heap[w.heap.size]? = some (ndO ⟨#[]⟩ ⟨#[]⟩ 0 none 0 0) := by rw [← hU]; exact hres
  have BU := Lib.hid (show Below w.heap.size w U by
    rw [← hU]
    have := B5.out.trans (KP.below (B := w.heap.size) (fun k hk => by omega) (by omega))
    exact ⟨this.os, this.tape, this.output, this.size, this.block⟩)
  rw [hU]
  obtain ⟨⟨d0, d1, d2, d3⟩, -⟩ := four hres'
  exact bodyPost_ret (v := .tuple #[nodeV ⟨#[]⟩ ⟨#[]⟩ 0 none 0 0, .int .i64 ts[p].place, .int .i64 2]) (by simp [results, Tryz.results11, go_sem, d0, d1, d2, d3]) rfl ⟨BU.out, by rw [EE.out]⟩

set_option maxHeartbeats 4000000 in
theorem rPxD (s : ByteArray) (w : World) {ts : List Tk} {p : Nat} {t : TN} (hL : lexT s.data.toList = .ok ts) (hO : ofL ts 0 = .ok t p) (hp : ¬ p < ts.length) : Calls Tryz.prog 11 #[.string s] w (PxPost (.ok t) w) := by
  have B1 := (Below.refl w.heap.size w).alloc (Nat.le_refl _) (ndO ⟨#[]⟩ ⟨#[]⟩ 0 none 0 0)
  have NB := heap_alloc_new w (ndO ⟨#[]⟩ ⟨#[]⟩ 0 none 0 0)
  have hs0 : (w.alloc (ndO ⟨#[]⟩ ⟨#[]⟩ 0 none 0 0)).heap.size = w.heap.size + 1 := World.size_alloc _ _
  generalize hW : w.alloc (ndO ⟨#[]⟩ ⟨#[]⟩ 0 none 0 0) = W at *
  have C := Lib.hid (rTokens_any s W)
  rw [hL] at C
  go_enter Tryz.func11, Tryz.ntmps11
  go_wp2_with fail
  refine C.out.mono ?_
  rintro e w1 ⟨hb, a, c, rfl, ho⟩
  have N1 := (hb.block w.heap.size (by omega)).trans NB
  have hz := hb.size
  have B2 := Lib.hid (B1.trans (hb.mono (by omega)))
  have R1 := Lib.hid (readsT_own ho)
  have OL := Lib.hid (fun q hq => ho.lt q hq)
  have N2 := Lib.hid N1
  have CO := Lib.hid (rOf_any ts a c 0 (by have := lexT_len hL; omega) (Nat.zero_le _) w1 R1.out)
  rw [hO] at CO
  have hlen := lexT_len hL
  clear hb N1 C hW ho
  go_wp2_with fail
  refine CO.out.mono ?_
  rintro e w2 ⟨hb, ad, cc, rfl, hr⟩
  have N3 := (hb.block w.heap.size (by omega)).trans N2.out
  have hz2 := hb.size
  have R2 := R1.out.kept hb
  have B3 := B2.out.trans (hb.mono (by omega))
  have BN := (Below.refl w2.heap.size w2).alloc (Nat.le_refl _) (ndO t.op t.nm t.n ad t.ks.len cc)
  have hnew := heap_alloc_new w2 (ndO t.op t.nm t.n ad t.ks.len cc)
  have hs2 : (w2.alloc (ndO t.op t.nm t.n ad t.ks.len cc)).heap.size = w2.heap.size + 1 := World.size_alloc _ _
  have N4 := (BN.block w.heap.size (by omega)).trans N3
  have R4 := R2.kept BN
  have B4 := B3.trans (BN.mono (by omega))
  have RT := Lib.hid (hr.kept BN)
  generalize hV : w2.alloc (ndO t.op t.nm t.n ad t.ks.len cc) = V at *
  obtain ⟨⟨n0, n1, n2, n3⟩, g0, g1, g2, g3⟩ := four N4
  obtain ⟨⟨m0, m1, m2, m3⟩, -⟩ := four hnew
  have N5 := Lib.hid N4
  have B5 := Lib.hid B4
  clear hb N3 N4 R2 R4 B3 B4 BN hnew CO hr
  go_wp2_with fail
  clear hV
  have KP := kept_put4 V w.heap.size t.op t.nm t.n ad t.ks.len cc
  have hres := four_set N5.out (.string t.op) (.string t.nm) (.int .i64 t.n) (.slice ad t.ks.len cc)
  obtain ⟨⟨d0, d1, d2, d3⟩, -⟩ := four hres
  exact bodyPost_ret (v := .tuple #[nodeV t.op t.nm t.n ad t.ks.len cc, .int .i64 0, .int .i64 0]) (by simp [results, Tryz.results11, go_sem, d0, d1, d2, d3]) rfl
    ⟨B5.out.trans (KP.below (B := w.heap.size) (fun k hk => by omega) (by omega)), ad, cc, rfl, (RT.out.keptS KP (fun k hk => by omega)).mono (by omega)⟩

theorem rParse_any (s : ByteArray) (w : World) : Calls Tryz.prog 11 #[.string s] w (PxPost (parseX s.data.toList) w) := by
  have hl : s.data.toList.length = s.size := by simp
  cases hL : lexT s.data.toList with
  | bad p er =>
    have e : parseX s.data.toList = .bad p er := by unfold parseX; rw [hL]
    rw [e]
    exact rPxA s w hL
  | ok ts =>
    cases hO : ofL ts 0 with
    | bad p er =>
      have e : parseX s.data.toList = .bad (placeT s.size ts p) er := by unfold parseX; rw [hL]; simp only; rw [hO, hl]
      rw [e]
      exact rPxB s w hL hO
    | ok t p =>
      by_cases hp : p < ts.length
      · have e : parseX s.data.toList = .bad (placeT s.size ts p) 2 := by unfold parseX; rw [hL]; simp only; rw [hO, hl]; simp only; rw [if_pos hp]
        rw [e]
        exact rPxC s w hL hO hp
      · have e : parseX s.data.toList = .ok t := by unfold parseX; rw [hL]; simp only; rw [hO]; simp only; rw [if_neg hp]
        rw [e]
        exact rPxD s w hL hO hp

end Go.Proofs.YteegdemnajhehaaGreatDoor
