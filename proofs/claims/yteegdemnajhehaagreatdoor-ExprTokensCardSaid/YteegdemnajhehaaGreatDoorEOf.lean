/-
  No statement: contracts of the document's Of, place, ParseExpr.
-/
import Derived.Test.YteegdemnajhehaaGreatDoorEProd
import Derived.Test.YteegdemnajhehaaGreatDoorLRTok
import Derived.Test.YteegdemnajhehaaGreatDoorABack
namespace Go.Proofs.YteegdemnajhehaaGreatDoor
open Go.RowKit

/-- The reader's three methods, whatever is left. -/
theorem rdr_all (ts : List Tk) (rb : Nat) (a : Option Addr) (c : Nat) : ∀ m : Nat,
    (∀ s w, ts.length - s.pos ≤ m → (s.bad = 0 → s.cnt ≤ 32) → PW ts rb a c s w → Calls Tryz.prog 86 #[.pointer (some ⟨rb, 0, none⟩)] w (PE ts rb a c (pE ts .fac s) w)) ∧
    (∀ s w, ts.length - s.pos ≤ m → (s.bad = 0 → s.cnt ≤ 32) → PW ts rb a c s w → Calls Tryz.prog 64 #[.pointer (some ⟨rb, 0, none⟩)] w (PE ts rb a c (pE ts .prod s) w)) ∧
    (∀ s w, ts.length - s.pos ≤ m → (s.bad = 0 → s.cnt ≤ 32) → PW ts rb a c s w → Calls Tryz.prog 40 #[.pointer (some ⟨rb, 0, none⟩)] w (PE ts rb a c (pE ts .sum s) w)) := by
  intro m
  induction m with
  | zero =>
    have hf : ∀ s w, ts.length - s.pos ≤ 0 → (s.bad = 0 → s.cnt ≤ 32) → PW ts rb a c s w → Calls Tryz.prog 86 #[.pointer (some ⟨rb, 0, none⟩)] w (PE ts rb a c (pE ts .fac s) w) := fun s w hm _ h => by
      by_cases hb : s.bad = 0
      · exact fac_end ts rb a c s w h hb (by omega)
      · exact fac_stay ts rb a c s w h hb
    have hp : ∀ s w, ts.length - s.pos ≤ 0 → (s.bad = 0 → s.cnt ≤ 32) → PW ts rb a c s w → Calls Tryz.prog 64 #[.pointer (some ⟨rb, 0, none⟩)] w (PE ts rb a c (pE ts .prod s) w) := fun s w hm hc h =>
      prod_any ts rb a c s w h hc (fun s' w' hp hc' h' => hf s' w' (by omega) hc' h')
    exact ⟨hf, hp, fun s w hm hc h => sum_any ts rb a c s w h hc (fun s' w' hp' hc' h' => hp s' w' (by omega) hc' h')⟩
  | succ m ih =>
    obtain ⟨if_, ip, is_⟩ := ih
    have hf : ∀ s w, ts.length - s.pos ≤ m + 1 → (s.bad = 0 → s.cnt ≤ 32) → PW ts rb a c s w → Calls Tryz.prog 86 #[.pointer (some ⟨rb, 0, none⟩)] w (PE ts rb a c (pE ts .fac s) w) := fun s w hm hc h => by
      by_cases hb : s.bad = 0
      · by_cases hp : s.pos < ts.length
        · by_cases h2 : ts[s.pos].kind = 2
          · exact fac_num ts rb a c s w h hb hp (hc hb) h2
          by_cases h1 : ts[s.pos].kind = 1
          · exact fac_name ts rb a c s w h hb hp (hc hb) h1
          by_cases h45 : ts[s.pos].text = [45]
          · exact fac_neg ts rb a c s w h hb hp (hc hb) h2 h1 h45 (fun w' h' => if_ _ w' (by rw [tick_pos]; omega) (fun hq => by obtain ⟨_, z1, z2, _⟩ := tick_bad hq; omega) h')
          by_cases h40 : ts[s.pos].text = [40]
          · have hs : ∀ w', PW ts rb a c (stepR s) w' → Calls Tryz.prog 40 #[.pointer (some ⟨rb, 0, none⟩)] w' (PE ts rb a c (pE ts .sum (stepR s)) w') :=
              fun w' h' => is_ _ w' (by show ts.length - (s.pos + 1) ≤ m; omega) (fun _ => hc hb) h'
            by_cases hq : (pE ts .sum (stepR s)).2.bad = 0
            · cases hsh : isS ts [41] (pE ts .sum (stepR s)).2.pos with
              | true => exact fac_par2 ts rb a c s w h hb hp (hc hb) h2 h1 h40 hs hq hsh
              | false => exact fac_par3 ts rb a c s w h hb hp (hc hb) h2 h1 h40 hs hq hsh
            · exact fac_par1 ts rb a c s w h hb hp (hc hb) h2 h1 h40 hs hq
          exact fac_none ts rb a c s w h hb hp (hc hb) h2 h1 h45 h40
        · exact fac_end ts rb a c s w h hb hp
      · exact fac_stay ts rb a c s w h hb
    have hp : ∀ s w, ts.length - s.pos ≤ m + 1 → (s.bad = 0 → s.cnt ≤ 32) → PW ts rb a c s w → Calls Tryz.prog 64 #[.pointer (some ⟨rb, 0, none⟩)] w (PE ts rb a c (pE ts .prod s) w) := fun s w hm hc h =>
      prod_any ts rb a c s w h hc (fun s' w' hp hc' h' => hf s' w' (by omega) hc' h')
    exact ⟨hf, hp, fun s w hm hc h => sum_any ts rb a c s w h hc (fun s' w' hp' hc' h' => hp s' w' (by omega) hc' h')⟩

/-- What Of answers, of the program and of the document. -/
def OfPost (q : OfEnd) (w : World) (e : Ending) (w' : World) : Prop := Below w.heap.size w w' ∧
  match q with
  | .bad p er => e = .returned (.tuple #[nodeV ⟨#[]⟩ ⟨#[]⟩ 0 none 0 0, .int .i64 (p : Nat), .int .i64 er])
  | .ok t p => ∃ a c, e = .returned (.tuple #[nodeV t.op t.nm t.n a t.ks.len c, .int .i64 (p : Nat), .int .i64 0]) ∧ ReadsK w.heap.size w' a t.ks

set_option maxHeartbeats 8000000 in
theorem rOf_any (ts : List Tk) (a : Option Addr) (c : Nat) (p : Nat) (hn : ts.length ≤ 100000) (hp : p ≤ ts.length) (w : World) (hr : ReadsT w a ts) :
    Calls Tryz.prog 18 #[.slice a ts.length c, .int .i64 p] w (OfPost (ofL ts p) w) := by
  have hrb : w.heap.size < (w.alloc (ndO ⟨#[]⟩ ⟨#[]⟩ 0 none 0 0)).heap.size := by rw [World.size_alloc]; omega
  have B1 := (Below.refl w.heap.size w).alloc (Nat.le_refl _) (ndO ⟨#[]⟩ ⟨#[]⟩ 0 none 0 0)
  have NB := heap_alloc_new w (ndO ⟨#[]⟩ ⟨#[]⟩ 0 none 0 0)
  have hs0 : (w.alloc (ndO ⟨#[]⟩ ⟨#[]⟩ 0 none 0 0)).heap.size = w.heap.size + 1 := World.size_alloc _ _
  generalize hW : w.alloc (ndO ⟨#[]⟩ ⟨#[]⟩ 0 none 0 0) = W at *
  have B2 := (Below.refl W.heap.size W).alloc (Nat.le_refl _) (.cells #[.slice a ts.length c, .int .i64 p, .int .i64 0, .int .i64 0, .int .i64 0] 77)
  have PV : PW ts W.heap.size a c ⟨p, 0, 0, 0⟩ (W.alloc (.cells #[.slice a ts.length c, .int .i64 p, .int .i64 0, .int .i64 0, .int .i64 0] 77)) :=
    ⟨heap_alloc_new W _, (tokB_of (hr.kept B1)).kept (kept_below B2 (fun _ => False)) (fun _ h => h.elim), ⟨fun _ => hp, by show p ≤ _; omega, by show 0 ≤ 33; omega, hn⟩⟩
  have NV : (W.alloc (.cells #[.slice a ts.length c, .int .i64 p, .int .i64 0, .int .i64 0, .int .i64 0] 77)).heap[w.heap.size]? = some (ndO ⟨#[]⟩ ⟨#[]⟩ 0 none 0 0) := (B2.block _ (by omega)).trans NB
  have hs1 : (W.alloc (.cells #[.slice a ts.length c, .int .i64 p, .int .i64 0, .int .i64 0, .int .i64 0] 77)).heap.size = w.heap.size + 2 := by rw [World.size_alloc]; omega
  have BV : Below w.heap.size w (W.alloc (.cells #[.slice a ts.length c, .int .i64 p, .int .i64 0, .int .i64 0, .int .i64 0] 77)) := B1.trans (B2.mono (by omega))
  rw [hs0] at PV
  have C := Lib.hid (((rdr_all ts (w.heap.size + 1) a c ts.length).2.2 ⟨p, 0, 0, 0⟩ _ (by show ts.length - p ≤ ts.length; omega) (fun _ => Nat.zero_le _) PV))
  have hq := show ofL ts p = if (pE ts .sum ⟨p, 0, 0, 0⟩).2.bad = 0 then .ok (pE ts .sum ⟨p, 0, 0, 0⟩).1 (pE ts .sum ⟨p, 0, 0, 0⟩).2.pos else .bad (pE ts .sum ⟨p, 0, 0, 0⟩).2.whr (pE ts .sum ⟨p, 0, 0, 0⟩).2.bad from rfl
  rw [hq]
  obtain ⟨q, hqq⟩ : ∃ q, pE ts .sum ⟨p, 0, 0, 0⟩ = q := ⟨_, rfl⟩
  rw [hqq] at C ⊢
  clear hq hqq B2 NB hr PV
  by_cases hb : q.2.bad = 0
  · rw [if_pos hb]
    have qb : ((q.2.bad : Int) != 0) = false := by rw [hb]; rfl
    clear hb
    go_enter Tryz.func18, Tryz.ntmps18
    go_wp2_with fail
    refine C.out.mono ?_
    rintro e w1 ⟨ad, cc, rfl, h1, hk1, hr1⟩
    have BN := (Below.refl w1.heap.size w1).alloc (Nat.le_refl _) (ndO q.1.op q.1.nm q.1.n ad q.1.ks.len cc)
    have h2 := h1.below BN
    have hz := hk1.size
    have hw1 : w.heap.size < w1.heap.size := by omega
    have hlt : w.heap.size < (w1.alloc (ndO q.1.op q.1.nm q.1.n ad q.1.ks.len cc)).heap.size := by rw [World.size_alloc]; omega
    have N2 := (BN.block w.heap.size hw1).trans (hk1.heap NV (by show ¬ w.heap.size = w.heap.size + 1; omega))
    have B2 := Lib.hid (show Below w.heap.size w (w1.alloc (ndO q.1.op q.1.nm q.1.n ad q.1.ks.len cc)) from (BV.trans (hk1.below (fun k hk => by omega) (by omega))).trans (BN.mono (by omega)))
    have R2 := Lib.hid (hr1.kept BN)
    have hnew := heap_alloc_new w1 (ndO q.1.op q.1.nm q.1.n ad q.1.ks.len cc)
    generalize hV : w1.alloc (ndO q.1.op q.1.nm q.1.n ad q.1.ks.len cc) = V at *
    obtain ⟨⟨c0, c1, c2, c3, c4⟩, -⟩ := h2.r.cells
    obtain ⟨⟨n0, n1, n2, n3⟩, g0, g1, g2, g3⟩ := four N2
    obtain ⟨⟨m0, m1, m2, m3⟩, -⟩ := four hnew
    have N3 := Lib.hid N2
    clear h1 hk1 hr1 BN h2 N2 hnew C
    go_wp2_with fail
    clear hV
    go_region
    go_wp2_with fail
    have KP := kept_put4 V w.heap.size q.1.op q.1.nm q.1.n ad q.1.ks.len cc
    have hres := four_set N3.out (.string q.1.op) (.string q.1.nm) (.int .i64 q.1.n) (.slice ad q.1.ks.len cc)
    obtain ⟨U, hU⟩ : ∃ U, (put4 V w.heap.size q.1.op q.1.nm q.1.n ad q.1.ks.len cc).drew = U := ⟨_, rfl⟩
    have hres' : U.heap[w.heap.size]? = some (ndO q.1.op q.1.nm q.1.n ad q.1.ks.len cc) := by rw [← hU]; exact hres
    have BU := Lib.hid (show Below w.heap.size w U by
      rw [← hU]
      have := B2.out.trans (KP.below (B := w.heap.size) (fun k hk => by omega) (by omega))
      exact ⟨this.os, this.tape, this.output, this.size, this.block⟩)
    have RU := Lib.hid (show ReadsK w.heap.size U ad q.1.ks by
      rw [← hU]
      exact ((R2.out.keptS KP (fun k hk => by omega)).keptS ((Kept.refl (fun _ => False) _).drew) (fun _ h => h.elim)).mono (by omega))
    rw [hU]
    obtain ⟨⟨d0, d1, d2, d3⟩, -⟩ := four hres'
    exact bodyPost_ret (v := .tuple #[nodeV q.1.op q.1.nm q.1.n ad q.1.ks.len cc, .int .i64 q.2.pos, .int .i64 0]) (by simp [results, Tryz.results18, go_sem, d0, d1, d2, d3]) rfl ⟨BU.out, ad, cc, rfl, RU.out⟩
  · rw [if_neg hb]
    have qb : ((q.2.bad : Int) != 0) = true := by simpa using hb
    clear hb
    go_enter Tryz.func18, Tryz.ntmps18
    go_wp2_with fail
    refine C.out.mono ?_
    rintro e w1 ⟨ad, cc, rfl, h1, hk1, hr1⟩
    have BN := (Below.refl w1.heap.size w1).alloc (Nat.le_refl _) (ndO q.1.op q.1.nm q.1.n ad q.1.ks.len cc)
    have h2 := h1.below BN
    have hz := hk1.size
    have hw1 : w.heap.size < w1.heap.size := by omega
    have hlt : w.heap.size < (w1.alloc (ndO q.1.op q.1.nm q.1.n ad q.1.ks.len cc)).heap.size := by rw [World.size_alloc]; omega
    have N2 := (BN.block w.heap.size hw1).trans (hk1.heap NV (by show ¬ w.heap.size = w.heap.size + 1; omega))
    have B2 := Lib.hid (show Below w.heap.size w (w1.alloc (ndO q.1.op q.1.nm q.1.n ad q.1.ks.len cc)) from (BV.trans (hk1.below (fun k hk => by omega) (by omega))).trans (BN.mono (by omega)))
    generalize hV : w1.alloc (ndO q.1.op q.1.nm q.1.n ad q.1.ks.len cc) = V at *
    obtain ⟨⟨c0, c1, c2, c3, c4⟩, -⟩ := h2.r.cells
    obtain ⟨⟨n0, n1, n2, n3⟩, g0, g1, g2, g3⟩ := four N2
    have N3 := Lib.hid N2
    clear h1 hk1 hr1 BN h2 N2 C
    go_wp2_with fail
    clear hV
    go_region
    go_wp2_with fail
    have KP := kept_put4 V w.heap.size ⟨#[]⟩ ⟨#[]⟩ 0 none 0 0
    have hres := four_set N3.out (.string ⟨#[]⟩) (.string ⟨#[]⟩) (.int .i64 0) (.slice none 0 0)
    obtain ⟨U, hU⟩ : ∃ U, (put4 V w.heap.size ⟨#[]⟩ ⟨#[]⟩ 0 none 0 0).drew = U := ⟨_, rfl⟩
    have hres' : U.heap[w.heap.size]? = some (ndO ⟨#[]⟩ ⟨#[]⟩ 0 none 0 0) := by rw [← hU]; exact hres
    have BU := Lib.hid (show Below w.heap.size w U by
      rw [← hU]
      have := B2.out.trans (KP.below (B := w.heap.size) (fun k hk => by omega) (by omega))
      exact ⟨this.os, this.tape, this.output, this.size, this.block⟩)
    rw [hU]
    obtain ⟨⟨d0, d1, d2, d3⟩, -⟩ := four hres'
    exact bodyPost_ret (v := .tuple #[nodeV ⟨#[]⟩ ⟨#[]⟩ 0 none 0 0, .int .i64 q.2.whr, .int .i64 q.2.bad]) (by simp [results, Tryz.results18, go_sem, d0, d1, d2, d3]) rfl ⟨BU.out, rfl⟩

end Go.Proofs.YteegdemnajhehaaGreatDoor
