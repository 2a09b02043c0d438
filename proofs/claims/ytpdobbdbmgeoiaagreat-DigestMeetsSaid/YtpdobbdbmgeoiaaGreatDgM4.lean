/-
  No statement: rows that were made anew may be put; one put into a table in its box.
-/
import Derived.Test.YtpdobbdbmgeoiaaGreatDgTab
import Derived.Test.YtpdobbdbmgeoiaaGreatDgRise
import Derived.Test.YtpdobbdbmgeoiaaGreatRT5
set_option linter.unusedVariables false
set_option linter.unusedSimpArgs false
namespace Go.Proofs.YtpdobbdbmgeoiaaGreat
open Go.RowKit

theorem errV_dt {k : Int} {s : ByteArray} {len : Nat} {z : Nat → Int} (h5 : errV k s len z = 0) : errV k (twS k s) (twL k len) z = 0 := by
  unfold errV twS twL at *
  by_cases k1 : k = 1
  · rw [if_pos k1]
  · rw [if_neg k1] at h5 ⊢
    by_cases k2 : k = 2
    · rw [if_pos k2] at h5 ⊢; rw [if_pos k2]; exact h5
    · rw [if_neg k2] at h5 ⊢
      by_cases k3 : k = 3
      · rw [if_pos k3] at h5 ⊢; rw [if_pos k3]; exact h5
      · rw [if_neg k3] at h5; cases h5

theorem errA_dt {p : ByteArray} {x : AD} (h : errA p x = 0) : errA p (twA x) = 0 := by
  unfold errA at h
  by_cases g1 : goodB x.m.data.toList = false
  · rw [if_pos g1] at h; cases h
  · rw [if_neg g1] at h
    by_cases g2 : lsS p x.m = false
    · rw [if_pos g2] at h; cases h
    · rw [if_neg g2] at h
      have g1' : ¬ goodB (twA x).m.data.toList = false := g1
      have g2' : ¬ lsS p (twA x).m = false := g2
      unfold errA
      rw [if_neg g1', if_neg g2']
      exact errV_dt h

theorem errAs_dt : ∀ (l : List AD) (p : ByteArray), errAs p l = 0 → errAs p (l.map twA) = 0
  | [], p, _ => rfl
  | x :: r, p, h => by
    have h' : (if errA p x = 0 then errAs x.m r else errA p x) = 0 := h
    by_cases e : errA p x = 0
    · rw [if_pos e] at h'
      show (if errA p (twA x) = 0 then errAs (twA x).m (r.map twA) else errA p (twA x)) = 0
      rw [if_pos (errA_dt e)]
      exact errAs_dt r x.m h'
    · rw [if_neg e] at h'; exact absurd h' e

theorem errR_dt {x : RD} (h : errR x = 0) : errR (dtR x) = 0 := by
  have e : fromA (twF x.A) x.len 0 = (fromA x.A x.len 0).map twA := by unfold fromA; rw [List.map_map]; rfl
  show (if goodB x.key.data.toList = false then (5 : Int) else if errS x.t x.i x.q x.o = 0 then (if 32 < x.len then 4 else errAs ⟨#[]⟩ (fromA (twF x.A) x.len 0)) else errS x.t x.i x.q x.o) = 0
  have h' : (if goodB x.key.data.toList = false then (5 : Int) else if errS x.t x.i x.q x.o = 0 then (if 32 < x.len then 4 else errAs ⟨#[]⟩ (fromA x.A x.len 0)) else errS x.t x.i x.q x.o) = 0 := h
  by_cases g1 : goodB x.key.data.toList = false
  · rw [if_pos g1] at h'; cases h'
  · rw [if_neg g1] at h' ⊢
    by_cases g2 : errS x.t x.i x.q x.o = 0
    · rw [if_pos g2] at h' ⊢
      by_cases g3 : 32 < x.len
      · rw [if_pos g3] at h'; cases h'
      · rw [if_neg g3] at h' ⊢
        rw [e]
        exact errAs_dt _ _ h'
    · rw [if_neg g2] at h'; exact absurd h' g2

/-- A row that may be put. -/
def ChkR (s : RD) : Prop := errR s = 0 ∧ s.key.size ≤ 4000 ∧ s.o.size ≤ 4000 ∧ (∀ j, j < s.len → (s.A j).m.size ≤ 4000 ∧ (s.A j).s.size ≤ 4000) ∧ s.len ≤ 1000
theorem chk_dt {x : RD} (f : FewR x) (e : errR x = 0) : ChkR (dtR x) := by
  refine ⟨errR_dt e, Nat.le_trans f.k (by omega), Nat.le_trans f.o (by omega), fun j hj => ?_, Nat.le_trans f.l (by omega)⟩
  have := f.f j hj
  refine ⟨Nat.le_trans this.1 (by omega), ?_⟩
  show (twS (x.A j).k (x.A j).s).size ≤ 4000
  unfold twS
  split
  · have := this.2.1; omega
  · exact Nat.zero_le _

/-- All that is wanted of two that meet: what is sent, what is asked for, what is answered. -/
structure Meets (al bl SL FL : List RD) (KL : List ByteArray) : Prop where
  sq : (pickW RD.key MK.key sendK al (bl.map mkK)).map dtR = SL
  wq : (pickW MK.key RD.key wantK (bl.map mkK) al).map MK.key = KL
  wr : Rising lsS KL
  wn : KL.length ≤ bl.length
  pq : (pickW RD.key idK bothK bl KL).map dtR = FL
  sn : SL.length ≤ al.length
  fn : FL.length ≤ bl.length
  sl : ∀ j, j < SL.length → (atD SL j).len ≤ 1000
  fl : ∀ j, j < FL.length → (atD FL j).len ≤ 1000
  sc : ∀ s ∈ SL, ChkR s
  fc : ∀ s ∈ FL, ChkR s
  sr : RiR SL
  fr : RiR FL
  so : ∀ s ∈ SL, ∀ z ∈ bl, z.key = s.key → cmR z s < 0
  fo : ∀ s ∈ FL, ∀ z ∈ al, z.key = s.key → cmR z s < 0
  len : (insAll al FL).length = (insAll bl SL).length
  same : ∀ j, j < (insAll al FL).length → sameR (atD (insAll al FL) j) (atD (insAll bl SL) j) = true
  sz : ∀ j, j < (insAll al FL).length → (atD (insAll al FL) j).len ≤ 1000

theorem meets_all {al bl : List RD} (ha : RiseL al) (hb : RiseL bl) (hno : ∀ x ∈ al, ∀ y ∈ bl, x.key = y.key → cmR x y = 0 → sameR x y = true) : ∃ SL FL KL, Meets al bl SL FL KL := by
  have km : (bl.map mkK).map MK.key = bl.map RD.key := by rw [List.map_map]; rfl
  have rm : Rising lsS ((bl.map mkK).map MK.key) := by rw [km]; exact hb.r
  have wr : Rising lsS (wantQ al (bl.map mkK)) := by
    unfold wantQ
    exact List.Pairwise.sublist (List.filter_sublist.map MK.key) rm
  have hs : ∀ s ∈ sendQ al (bl.map mkK), s ∈ al := fun s h => (List.mem_filter.1 h).1
  have hf : ∀ s ∈ pickQ bl (wantQ al (bl.map mkK)), s ∈ bl := fun s h => (List.mem_filter.1 h).1
  have sc : ∀ s ∈ (sendQ al (bl.map mkK)).map dtR, ChkR s := fun s h => by
    obtain ⟨x, hx, rfl⟩ := List.mem_map.1 h
    exact chk_dt (ha.f _ (hs _ hx)) (ha.e _ (hs _ hx))
  have fc : ∀ s ∈ (pickQ bl (wantQ al (bl.map mkK))).map dtR, ChkR s := fun s h => by
    obtain ⟨x, hx, rfl⟩ := List.mem_map.1 h
    exact chk_dt (hb.f _ (hf _ hx)) (hb.e _ (hf _ hx))
  obtain ⟨m1, m2⟩ := meets ha.r hb.r hno
  have fr : RiR ((pickQ bl (wantQ al (bl.map mkK))).map dtR) := ((show RiR bl from hb.r).sub List.filter_sublist).dt
  refine ⟨_, _, _, by rw [send_same ha.r rm], want_same ha.r rm, wr, ?_, by rw [pick_same hb.r wr], ?_, ?_, fun j hj => ?_, fun j hj => ?_, sc, fc, ((show RiR al from ha.r).sub List.filter_sublist).dt, fr, ?_, ?_, m1, m2, fun j hj => ?_⟩
  · unfold wantQ
    rw [List.length_map]
    exact Nat.le_trans (List.length_filter_le _ _) (by rw [List.length_map]; exact Nat.le_refl _)
  · rw [List.length_map]; exact List.length_filter_le _ _
  · rw [List.length_map]; exact List.length_filter_le _ _
  · rw [atD_lt hj]; exact (sc _ (List.getElem_mem _)).2.2.2.2
  · rw [atD_lt hj]; exact (fc _ (List.getElem_mem _)).2.2.2.2
  · intro s h z hz he
    obtain ⟨x, hx, rfl⟩ := List.mem_map.1 h
    exact ((mem_send x).1 hx).2 z hz he
  · intro s h z hz he
    obtain ⟨x, hx, rfl⟩ := List.mem_map.1 h
    exact ((mem_want hb.r x).1 hx).2 z hz he
  · rw [atD_lt hj]
    have hm : (insAll al ((pickQ bl (wantQ al (bl.map mkK))).map dtR))[j] ∈ insAll al ((pickQ bl (wantQ al (bl.map mkK))).map dtR) := List.getElem_mem _
    rcases ((insAll_all fr (show RiR al from ha.r)).2.2 _).1 hm with h | ⟨h, -⟩
    · exact (fc _ h).2.2.2.2
    · exact Nat.le_trans (ha.f _ h).l (by omega)

theorem put_step {wr : World} {U : Nat} {va : Option Addr} {vc : Nat} {T : List RTd} (hT : TabK wr U va vc T) {L : List RD} (hL : T.map (·.1) = L) (x : RD) (y : Option Addr) (cy : Nat) (ok : ChkR x)
    (hold : isQ L x.key = true → cmR (getQ L x.key) x < 0) (hlen : L.length < 64) (hy : ReadsAG (fun q => q < wr.heap.size) wr y x.len x.A) (W : World) (hb : Below wr.heap.size wr W) :
    Calls Tryz.prog 8 #[tabV 64 va T.length vc, rowA x y cy] W fun e w' => (∃ (va' : Option Addr) (vc' : Nat) (T' : List RTd), e = .returned (.tuple #[tabV 64 va' T'.length vc', .int .i64 0]) ∧ OwnQ (fun q => q < W.heap.size) w' W.heap.size (.slice va' T'.length vc') T' ∧ T'.map (·.1) = insQ (putRest L x.key) x) ∧ Below W.heap.size W w' := by
  have hTW := hT.below hb
  have hl : T.length = L.length := by rw [← hL, List.length_map]
  have hz := hb.size
  obtain ⟨h1, h2, h3, h4, h5⟩ := hTW
  have hr := (hT.below hb).reads (by omega)
  rw [hL, hl] at hr
  rw [hl] at h4
  rw [hl]
  refine rPut_any 64 L va vc x y cy (by omega) h3 h4 W (fun q => q < W.heap.size) (fun q hq => hq) (fun W' hb' => ?_) hold (fun _ => by omega) (fun b off e => (h5 b off e).1) T hL h2 hr ((hy.kept (keptNew hb) (fun _ _ h => h)).mono (fun q hq _ => by omega))
  have C := xCheck_any x y cy ok.2.1 ok.2.2.1 ok.2.2.2.1 W' ((hy.plain.kept hb).kept hb')
  rwa [ok.1] at C

end Go.Proofs.YtpdobbdbmgeoiaaGreat
