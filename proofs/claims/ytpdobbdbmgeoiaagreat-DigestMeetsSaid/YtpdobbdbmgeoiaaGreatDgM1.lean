/-
  No statement: what one lacks of itself and of none, as plain facts.
-/
import Derived.Test.YtpdobbdbmgeoiaaGreatDgRise
import Derived.Test.YtpdobbdbmgeoiaaGreatSTurn
set_option linter.unusedVariables false
set_option linter.unusedSimpArgs false
namespace Go.Proofs.YtpdobbdbmgeoiaaGreat
open Go.RowKit

theorem map_mk (al : List RD) : (al.map mkK).map MK.key = al.map RD.key := by rw [List.map_map]; rfl

theorem find_of {A : Type} (ka : A → ByteArray) : ∀ {l : List A}, Rising lsS (l.map ka) → ∀ {x : A}, x ∈ l → l.find? (fun y => decide (ka y = ka x)) = some x
  | [], _, x, hx => by cases hx
  | y :: r, h, x, hx => by
    rw [List.map_cons] at h
    obtain ⟨h1, h2⟩ := List.pairwise_cons.1 h
    rcases List.mem_cons.1 hx with rfl | hx
    · rw [List.find?_cons_of_pos (by simp)]
    · rw [List.find?_cons_of_neg, find_of ka h2 hx]
      simp only [decide_eq_true_eq]
      intro e
      have := h1 _ (List.mem_map.2 ⟨x, hx, rfl⟩)
      rw [e, strictS.irrefl] at this; cases this

theorem send_self {al : List RD} (h : Rising lsS (al.map RD.key)) : pickW RD.key MK.key sendK al (al.map mkK) = [] := by
  rw [pickW_filter _ _ _ _ _ h (by rw [map_mk]; exact h), List.filter_eq_nil_iff]
  intro x hx
  have : (al.map mkK).find? (fun y => decide (MK.key y = MK.key (mkK x))) = some (mkK x) := find_of MK.key (by rw [map_mk]; exact h) (List.mem_map.2 ⟨x, hx, rfl⟩)
  have e : MK.key (mkK x) = x.key := rfl
  rw [e] at this
  rw [this]
  show ¬ (newRK x (mkK x) = true)
  unfold newRK mkK
  rw [cmpSt_self]; decide

theorem want_self {al : List RD} (h : Rising lsS (al.map RD.key)) : pickW MK.key RD.key wantK (al.map mkK) al = [] := by
  rw [pickW_filter _ _ _ _ _ (by rw [map_mk]; exact h) h, List.filter_eq_nil_iff]
  intro m hm
  obtain ⟨x, hx, rfl⟩ := List.mem_map.1 hm
  have : al.find? (fun y => decide (RD.key y = MK.key (mkK x))) = some x := find_of RD.key h hx
  rw [this]
  show ¬ (newKR (mkK x) x = true)
  unfold newKR mkK
  rw [cmpSt_self]; decide

theorem send_none : ∀ al : List RD, pickW RD.key MK.key sendK al [] = al
  | [] => rfl
  | x :: r => by show x :: pickW RD.key MK.key sendK r [] = x :: r; rw [send_none r]
theorem want_none : ∀ bl : List MK, pickW MK.key RD.key wantK bl [] = bl
  | [] => rfl
  | x :: r => by show x :: pickW MK.key RD.key wantK r [] = x :: r; rw [want_none r]
theorem pick_none : ∀ al : List RD, pickW RD.key idK bothK al [] = []
  | [] => rfl
  | x :: r => by show pickW RD.key idK bothK r [] = []; exact pick_none r

theorem pick_keys {al : List RD} {kl : List ByteArray} (h : Rising lsS (al.map RD.key)) (hs : kl.Sublist (al.map RD.key)) : (pickW RD.key idK bothK al kl).map RD.key = kl := by
  have hk : Rising lsS kl := List.Pairwise.sublist hs h
  have hk' : Rising lsS (kl.map idK) := by rw [show kl.map idK = kl from List.map_id kl]; exact hk
  rw [pickW_filter _ _ _ _ _ h hk']
  refine rising_ext strictS ?_ hk (fun k => ?_)
  · exact List.Pairwise.sublist ((List.filter_sublist).map _) h
  · rw [List.mem_map]
    constructor
    · rintro ⟨x, hx, rfl⟩
      have := (List.mem_filter.1 hx).2
      unfold bothK at this
      obtain ⟨k', hk'⟩ := Option.isSome_iff_exists.1 this
      have h1 := List.find?_some hk'
      have h2 := List.mem_of_find?_eq_some hk'
      simp only [decide_eq_true_eq] at h1
      rw [← h1]; exact h2
    · intro hk2
      obtain ⟨x, hx, rfl⟩ := List.mem_map.1 (hs.subset hk2)
      refine ⟨x, List.mem_filter.2 ⟨hx, ?_⟩, rfl⟩
      unfold bothK
      rw [List.find?_isSome]
      exact ⟨x.key, hk2, by simp⟩

theorem errM_fine {x : RD} (he : errR x = 0) {p : ByteArray} (hp : lsS p x.key = true) : errM p (mkK x) = 0 := by
  unfold errR at he
  unfold errM mkK
  split at he
  · cases he
  · next hg =>
    rw [if_neg hg, if_neg (by rw [hp]; decide)]
    split at he
    · next h => exact h
    · next h => exact absurd he h

theorem errMs_fine : ∀ (al : List RD) (p : ByteArray), (∀ x ∈ al, errR x = 0) → Rising lsS (p :: al.map RD.key) → errMs p (al.map mkK) = 0
  | [], _, _, _ => rfl
  | x :: r, p, he, hr => by
    obtain ⟨h1, h2⟩ := List.pairwise_cons.1 hr
    have e := errM_fine (he x List.mem_cons_self) (p := p) (h1 _ (by rw [List.map_cons]; exact List.mem_cons_self))
    show (if errM p (mkK x) = 0 then errMs x.key (r.map mkK) else errM p (mkK x)) = 0
    rw [if_pos e]
    exact errMs_fine r x.key (fun y hy => he y (List.mem_cons_of_mem _ hy)) (by rw [List.map_cons] at h2; exact h2)

theorem errMarks_fine {al : List RD} (h : RiseL al) : errMarks (al.map mkK) = 0 := by
  unfold errMarks
  rw [if_neg (by rw [List.length_map]; have := h.n; omega)]
  refine errMs_fine al _ h.e (List.pairwise_cons.2 ⟨fun k hk => ?_, h.r⟩)
  obtain ⟨x, hx, rfl⟩ := List.mem_map.1 hk
  have he := h.e x hx
  unfold errR at he
  split at he
  · cases he
  · next hg => exact lsS_empty (by simpa using hg)

end Go.Proofs.YtpdobbdbmgeoiaaGreat
