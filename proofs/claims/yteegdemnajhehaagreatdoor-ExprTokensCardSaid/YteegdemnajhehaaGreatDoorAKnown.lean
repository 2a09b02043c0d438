/-
  No statement: what is known; what the parser makes is small.
-/
import Derived.Test.YteegdemnajhehaaGreatDoorAPre
import Derived.Test.YteegdemnajhehaaGreatDoorGPx
import Derived.Test.YteegdemnajhehaaGreatDoorAFoldT
import Derived.Test.YteegdemnajhehaaGreatDoorASame
import Derived.Test.YteegdemnajhehaaGreatDoorABack
import Derived.Test.YteegdemnajhehaaGreatDoorAChk
namespace Go.Proofs.YteegdemnajhehaaGreatDoor
open Go.RowKit

def bareF : F → F
  | .nil => .nil
  | .cons o _ n ks r => .cons (if isName o = true then ⟨#[110, 117, 109]⟩ else o) ⟨#[]⟩ (if isName o = true then 1 else n) (if isName o = true then .nil else bareF ks) (bareF r)

/-- The tree itself. -/
def bareT (t : TN) : TN := if isName t.op = true then ⟨⟨#[110, 117, 109]⟩, ⟨#[]⟩, 1, .nil⟩ else ⟨t.op, ⟨#[]⟩, t.n, bareF t.ks⟩

theorem bare_tree (t : TN) : (bareT t).f = bareF t.f := by
  unfold bareT TN.f
  rw [bareF, bareF]
  by_cases h : isName t.op = true
  · rw [if_pos h, if_pos h, if_pos h, if_pos h]
  · rw [if_neg h, if_neg h, if_neg h, if_neg h]

theorem bare_cons (t : TN) (r : F) : bareF (.cons t.op t.nm t.n t.ks r) = .cons (bareT t).op (bareT t).nm (bareT t).n (bareT t).ks (bareF r) := by
  unfold bareT
  rw [bareF]
  by_cases h : isName t.op = true
  · simp only [if_pos h]
  · simp only [if_neg h]

theorem bare_len : ∀ f : F, (bareF f).len = f.len
  | .nil => rfl
  | .cons _ _ _ _ r => by rw [bareF, F.len, F.len, bare_len r]

theorem bare_size : ∀ f : F, sizeF (bareF f) ≤ sizeF f
  | .nil => Nat.le_refl _
  | .cons o _ _ ks r => by
    have h1 := bare_size ks
    have h2 := bare_size r
    rw [bareF, sizeF, sizeF]
    split
    · have : sizeF .nil = 0 := rfl
      omega
    · omega

theorem bare_names : ∀ f : F, allN (bareF f) = []
  | .nil => rfl
  | .cons o _ _ ks r => by
    rw [bareF, allN, bare_names r, List.append_nil]
    by_cases h : isName o = true
    · rw [if_pos h, if_pos h]; rfl
    · rw [if_neg h, if_neg h, if_neg h, bare_names ks]

theorem bare_err {o m : ByteArray} {n : Int} {k : Nat} (h : errN o m n k = 0) (hn : isName o = false) : errN o ⟨#[]⟩ n k = 0 := by
  unfold errN at h ⊢
  rw [hn] at h ⊢
  split at h
  · cases h
  · rename_i h1
    rw [if_neg h1]
    exact h

theorem bare_chk : ∀ f : F, chkF f = 0 → chkF (bareF f) = 0
  | .nil, _ => rfl
  | .cons o m n ks r, h => by
    rw [chkF] at h
    by_cases h1 : errN o m n ks.len = 0
    · rw [if_pos h1] at h
      by_cases h2 : chkF ks = 0
      · rw [if_pos h2] at h
        have ir := bare_chk r h
        have ik := bare_chk ks h2
        rw [bareF, chkF]
        by_cases hn : isName o = true
        · rw [if_pos hn, if_pos hn, if_pos hn]
          rw [if_pos (show errN ⟨#[110, 117, 109]⟩ ⟨#[]⟩ 1 F.nil.len = 0 by decide), if_pos (show chkF .nil = 0 from rfl)]
          exact ir
        · rw [if_neg hn, if_neg hn, if_neg hn, bare_len, if_pos (bare_err h1 (by simpa using hn)), if_pos ik]
          exact ir
      · rw [if_neg h2] at h; exact absurd h h2
    · rw [if_neg h1] at h; exact absurd h h1

theorem check_iff (t : TN) : checkT t = 0 ↔ OkT t ∧ sizeT t ≤ 32 := by
  unfold checkT OkT
  have h := cnt_iff t
  by_cases k : cntF t.ks 31 < 0
  · rw [if_pos k]
    exact ⟨fun e => absurd e (by decide), fun e => by have := h.1 k; omega⟩
  · rw [if_neg k]
    exact ⟨fun e => ⟨e, by have : ¬ 32 < sizeT t := fun x => k (h.2 x); omega⟩, fun e => e.1⟩

theorem bare_check {t : TN} (h : checkT t = 0) : checkT (bareT t) = 0 ∧ namesT (bareT t) = [] := by
  rw [check_iff] at h ⊢
  refine ⟨⟨?_, ?_⟩, ?_⟩
  · unfold OkT; rw [bare_tree]; exact bare_chk _ h.1
  · rw [← sizeF_tree, bare_tree]
    have := bare_size t.f
    rw [sizeF_tree] at this
    omega
  · cases e : namesT (bareT t) with
    | nil => rfl
    | cons x l =>
      have : x ∈ namesT (bareT t) := by rw [e]; exact List.mem_cons_self
      rw [namesT_mem, bare_tree, bare_names] at this
      cases this

end Go.Proofs.YteegdemnajhehaaGreatDoor

namespace Go.Proofs.YteegdemnajhehaaGreatDoor
open Go.RowKit

def k9T : List Tk := [⟨1, [97], 0, 0⟩, ⟨3, [43], 0, 2⟩, ⟨2, [50], 2, 4⟩, ⟨3, [42], 0, 6⟩, ⟨3, [45], 0, 8⟩, ⟨3, [40], 0, 9⟩, ⟨1, [98], 0, 10⟩, ⟨3, [45], 0, 12⟩, ⟨2, [49], 1, 14⟩, ⟨3, [41], 0, 15⟩]
def k9B : List Tk := [⟨1, [97], 0, 0⟩, ⟨3, [43], 0, 2⟩, ⟨3, [41], 0, 4⟩]
def t9 : TN := twoT [43] (nameT [97]) (twoT [42] (numT 2) (negT (twoT [45] (nameT [98]) (numT 1))))

theorem k9_step {l : List UInt8} {p : Nat} {k v : Int} {n : Nat} {ts : List Tk} (h1 : ¬ l.head? = some 32) (hn : 1 ≤ n) (h : firstF l = .tok k n v) (hr : lexL (l.drop n) (p + n) = .ok ts) : lexL l p = .ok (⟨k, l.take n, v, p⟩ :: ts) := by
  rw [lex_tok h1 hn h, hr]; rfl

theorem k9_a : lexL [97, 32, 43, 32, 50, 32, 42, 32, 45, 40, 98, 32, 45, 32, 49, 41] 0 = .ok k9T := by
  refine k9_step (n := 1) (k := 1) (v := 0) (by decide) (by decide) (by rfl) ?_
  refine (lex_blank _ _).trans ?_
  refine k9_step (n := 1) (k := 3) (v := 0) (by decide) (by decide) (by rfl) ?_
  refine (lex_blank _ _).trans ?_
  refine k9_step (n := 1) (k := 2) (v := 2) (by decide) (by decide) (by rfl) ?_
  refine (lex_blank _ _).trans ?_
  refine k9_step (n := 1) (k := 3) (v := 0) (by decide) (by decide) (by rfl) ?_
  refine (lex_blank _ _).trans ?_
  refine k9_step (n := 1) (k := 3) (v := 0) (by decide) (by decide) (by rfl) ?_
  refine k9_step (n := 1) (k := 3) (v := 0) (by decide) (by decide) (by rfl) ?_
  refine k9_step (n := 1) (k := 1) (v := 0) (by decide) (by decide) (by rfl) ?_
  refine (lex_blank _ _).trans ?_
  refine k9_step (n := 1) (k := 3) (v := 0) (by decide) (by decide) (by rfl) ?_
  refine (lex_blank _ _).trans ?_
  refine k9_step (n := 1) (k := 2) (v := 1) (by decide) (by decide) (by rfl) ?_
  refine k9_step (n := 1) (k := 3) (v := 0) (by decide) (by decide) (by rfl) ?_
  exact lex_nil _

theorem k9_b : lexL [97, 32, 43, 32, 41] 0 = .ok k9B := by
  refine k9_step (n := 1) (k := 1) (v := 0) (by decide) (by decide) (by rfl) ?_
  refine (lex_blank _ _).trans ?_
  refine k9_step (n := 1) (k := 3) (v := 0) (by decide) (by decide) (by rfl) ?_
  refine (lex_blank _ _).trans ?_
  refine k9_step (n := 1) (k := 3) (v := 0) (by decide) (by decide) (by rfl) ?_
  exact lex_nil _

theorem k9_of : ofL k9T 0 = .ok t9 10 := by rfl
theorem k9_ofb : ofL k9B 0 = .bad 2 2 := by rfl

theorem k9_pa : parseX (⟨#[97, 32, 43, 32, 50, 32, 42, 32, 45, 40, 98, 32, 45, 32, 49, 41]⟩ : ByteArray).data.toList = .ok t9 := by
  have h : lexT (⟨#[97, 32, 43, 32, 50, 32, 42, 32, 45, 40, 98, 32, 45, 32, 49, 41]⟩ : ByteArray).data.toList = .ok k9T := by
    unfold lexT
    rw [if_neg (by decide)]
    exact k9_a
  unfold parseX
  rw [h]
  simp only
  rw [k9_of]
  rfl
theorem k9_pb : parseX (⟨#[97, 32, 43, 32, 41]⟩ : ByteArray).data.toList = .bad 4 2 := by
  have h : lexT (⟨#[97, 32, 43, 32, 41]⟩ : ByteArray).data.toList = .ok k9B := by
    unfold lexT
    rw [if_neg (by decide)]
    exact k9_b
  unfold parseX
  rw [h]
  simp only
  rw [k9_ofb]
  rfl

theorem k9_check : checkT t9 = 0 := by rfl
theorem k9_ok : OkT t9 := ((check_iff t9).1 k9_check).1
theorem k9_nums : NumsF t9.f := by simp [t9, twoT, nameT, numT, negT, TN.f, NumsF]
theorem k9_sz : SzF t9.f := by simp [t9, twoT, nameT, numT, negT, TN.f, SzF, F.len, ByteArray.size]
theorem k9_text : textE t9 = [40, 97, 32, 43, 32, 40, 50, 32, 42, 32, 45, 40, 98, 32, 45, 32, 49, 41, 41, 41] := by
  have h1 : Lib.itoa 1 = [49] := by simp [Lib.itoa, Lib.decDigits]
  have h2 : Lib.itoa 2 = [50] := by simp [Lib.itoa, Lib.decDigits]
  show 40 :: ([97] ++ 32 :: ([43] ++ 32 :: ((40 :: (Lib.itoa 2 ++ 32 :: ([42] ++ 32 :: ((45 :: (40 :: ([98] ++ 32 :: ([45] ++ 32 :: (Lib.itoa 1 ++ [41]))))) ++ [41])))) ++ [41]))) = _
  rw [h1, h2]
  rfl
theorem k9_same : sameT t9 t9 = true := by rfl
theorem k9_names : namesT t9 = [⟨#[97]⟩, ⟨#[98]⟩] := by
  refine (namesT_of (t := t9) (l := [⟨#[97]⟩, ⟨#[98]⟩]) ?_ (fun y => ?_)).symm
  · have h : lsS ⟨#[97]⟩ ⟨#[98]⟩ = true := by
      unfold lsS
      rw [Lib.toList_data, Lib.toList_data]
      rfl
    simp [Rising, h]
  · have : allN t9.f = [⟨#[97]⟩, ⟨#[98]⟩] := by rfl
    rw [this]
theorem k9_plus : checkT ⟨⟨#[43]⟩, ⟨#[]⟩, 0, .nil⟩ = 2 := by rfl

/-- The library's variables that the program reads: two errors, the table of powers. -/
def Laid9 (w : World) : Prop := Laid w ∧ LaidT w
theorem LaidT.step {w w' : World} (h : LaidT w) (hb : Below w.heap.size w w') : LaidT w' := by
  obtain ⟨t, f, h1⟩ := h
  exact ⟨t, f, (hb.block _ (Array.getElem?_eq_some_iff.1 h1).1).trans h1⟩
theorem Laid9.step {w w' : World} (h : Laid9 w) (hb : Below w.heap.size w w') : Laid9 w' := ⟨h.1.step hb, h.2.step hb⟩

/-- What known keeps: its tree, all else. -/
structure K9 (w : World) (n : Nat) (a : Option Addr) (c : Nat) (V : World) : Prop where
  b : Below w.heap.size w V
  n : V.heap[n]? = some (ndG ⟨#[43]⟩ ⟨#[]⟩ 0 a 2 c)
  r : ReadsK w.heap.size V a t9.ks
  l : Laid9 V
  z : w.heap.size ≤ V.heap.size
theorem K9.step {w V V' : World} {n : Nat} {a : Option Addr} {c : Nat} (h : K9 w n a c V) (hb : Below V.heap.size V V') : K9 w n a c V' :=
  ⟨h.b.trans (hb.mono h.z), (hb.block _ (Array.getElem?_eq_some_iff.1 h.n).1).trans h.n, h.r.kept hb, h.l.step hb, Nat.le_trans h.z hb.size⟩

set_option maxRecDepth 100000 in
set_option maxHeartbeats 8000000 in
theorem known9_any (w : World) (hw : Laid9 w) : Calls Tryz.prog 9 #[] w fun e w' => e = .returned (.bool true) ∧ Below w.heap.size w w' := by
  have A1 := Lib.hid (p := ∀ w, Laid w → Calls Tryz.prog 10 #[.string ⟨#[97, 32, 43, 32, 50, 32, 42, 32, 45, 40, 98, 32, 45, 32, 49, 41]⟩] w fun e w' => Below w.heap.size w w' ∧ ∃ a c, e = .returned (.tuple #[nodeV ⟨#[43]⟩ ⟨#[]⟩ 0 a 2 c, .int .i64 0, .int .i64 0]) ∧ ReadsK w.heap.size w' a t9.ks) (fun w hw => by
    have h := pParse_any ⟨#[97, 32, 43, 32, 50, 32, 42, 32, 45, 40, 98, 32, 45, 32, 49, 41]⟩ (by decide) w hw
    rw [k9_pa] at h
    exact h)
  have A2 := Lib.hid (p := ∀ w, Laid w → Calls Tryz.prog 10 #[.string ⟨#[97, 32, 43, 32, 41]⟩] w fun e w' => Below w.heap.size w w' ∧ e = .returned (.tuple #[nodeV ⟨#[]⟩ ⟨#[]⟩ 0 none 0 0, .int .i64 4, .int .i64 2])) (fun w hw => by
    have h := pParse_any ⟨#[97, 32, 43, 32, 41]⟩ (by decide) w hw
    rw [k9_pb] at h
    exact h)
  have NM := Lib.hid (p := ∀ (G : Nat → Prop) w a c, ReadsN G w a t9.ks → Calls Tryz.prog 25 #[nodeV ⟨#[43]⟩ ⟨#[]⟩ 0 a 2 c] w fun e w' => ∃ g vc, e = .returned (.slice (some ⟨g, 0, none⟩) 2 vc) ∧ w'.cell? ⟨g, 0, none⟩ = some (.string ⟨#[97]⟩) ∧ g < w'.heap.size ∧ Below w.heap.size w w') (fun G w a c hr => by
    have h := pNames_any t9 G w a c k9_ok k9_nums (by decide) hr
    rw [k9_names] at h
    refine h.mono ?_
    rintro e w' ⟨v, rfl, ho, hb⟩
    obtain ⟨g, vc, rfl, -, -, hc⟩ := own_full ho (by decide)
    exact ⟨g, vc, rfl, hc 0 _ rfl, (ho.lt g rfl).2, hb⟩)
  have TX := Lib.hid (p := ∀ (G : Nat → Prop) w a c, LaidT w → ReadsN G w a t9.ks → Calls Tryz.prog 21 #[nodeV ⟨#[43]⟩ ⟨#[]⟩ 0 a 2 c] w fun e w' => e = .returned (.string ⟨#[40, 97, 32, 43, 32, 40, 50, 32, 42, 32, 45, 40, 98, 32, 45, 32, 49, 41, 41, 41]⟩) ∧ Below w.heap.size w w') (fun G w a c hl hr => by
    have h := pText_any t9 G w a c k9_ok k9_nums (by decide) hl hr
    rw [k9_text] at h
    exact h)
  have CK := Lib.hid (p := ∀ (G : Nat → Prop) w a c, ReadsN G w a t9.ks → Calls Tryz.prog 20 #[nodeV ⟨#[43]⟩ ⟨#[]⟩ 0 a 2 c] w fun e w' => e = .returned (.int .i64 0) ∧ Below w.heap.size w w') (fun G w a c hr => by
    have h := pCheck_any t9 G w a c k9_sz hr
    rw [k9_check] at h
    exact h)
  have SM := Lib.hid (p := ∀ (G : Nat → Prop) w a c, ReadsN G w a t9.ks → Calls Tryz.prog 23 #[nodeV ⟨#[43]⟩ ⟨#[]⟩ 0 a 2 c, nodeV ⟨#[43]⟩ ⟨#[]⟩ 0 a 2 c] w fun e w' => e = .returned (.bool true) ∧ Below w.heap.size w w') (fun G w a c hr => by
    have h := pSame_any t9 t9 G G w a a c c k9_ok k9_nums (by decide) k9_ok k9_nums (by decide) hr hr
    rw [k9_same] at h
    exact h)
  have CP := Lib.hid (p := ∀ w, Calls Tryz.prog 20 #[nodeV ⟨#[43]⟩ ⟨#[]⟩ 0 none 0 0] w fun e w' => e = .returned (.int .i64 2) ∧ Below w.heap.size w w') (fun w => by
    have h := pCheck_any ⟨⟨#[43]⟩, ⟨#[]⟩, 0, .nil⟩ (fun _ => True) w none 0 (by simp [TN.f, SzF, F.len, ByteArray.size]) (.inl rfl)
    rw [k9_plus] at h
    exact h)
  have LD := Lib.hid hw
  clear hw
  go_enter Tryz.func9, Tryz.ntmps9
  go_wp2_with fail
  refine (A1.out w LD.out.1).mono ?_
  rintro e w1 ⟨hb1, a, c, rfl, hr1⟩
  have BA1 := (Below.refl w1.heap.size w1).alloc (Nat.le_refl _) (ndG ⟨#[43]⟩ ⟨#[]⟩ 0 a 2 c)
  have NB1 := heap_alloc_new w1 (ndG ⟨#[43]⟩ ⟨#[]⟩ 0 a 2 c)
  have hz1 := hb1.size
  have S1 : K9 w w1.heap.size a c (w1.alloc (ndG ⟨#[43]⟩ ⟨#[]⟩ 0 a 2 c)) := ⟨hb1.trans (BA1.mono hz1), NB1, hr1.kept BA1, (LD.out.step hb1).step BA1, Nat.le_trans hz1 BA1.size⟩
  generalize hn1 : w1.heap.size = n1 at S1
  generalize hV1 : w1.alloc (ndG ⟨#[43]⟩ ⟨#[]⟩ 0 a 2 c) = V1 at S1
  have HS1 := Lib.hid S1
  have HN1 := Lib.hid hn1
  have HV1 := Lib.hid hV1
  clear hb1 hr1 BA1 NB1 S1 hn1 hV1 A1
  go_upto_region 2 with fail
  rw [HV1.out, HN1.out]
  go_wp2_with fail
  refine (A2.out V1 HS1.out.l.1).mono ?_
  rintro e w2 ⟨hb2, rfl⟩
  have S2 := (HS1.out.step hb2).step ((Below.refl w2.heap.size w2).alloc (Nat.le_refl _) (ndG ⟨#[]⟩ ⟨#[]⟩ 0 none 0 0))
  generalize hn2 : w2.heap.size = n2
  generalize hV2 : w2.alloc (ndG ⟨#[]⟩ ⟨#[]⟩ 0 none 0 0) = V2 at S2
  have HS2 := Lib.hid S2
  have HN2 := Lib.hid hn2
  have HV2 := Lib.hid hV2
  clear hb2 S2 hn2 hV2 A2
  go_upto_region 3 with fail
  rw [HV2.out]
  obtain ⟨⟨x0, x1, x2, x3⟩, -⟩ := four HS2.out.n
  go_wp2_with fail
  refine (NM.out _ V2 a c HS2.out.r).mono ?_
  rintro e w3 ⟨g, vc, rfl, hg, hgl, hb3⟩
  have HS3 := Lib.hid (HS2.out.step hb3)
  have HG3 := Lib.hid hg
  have HGL := Lib.hid hgl
  clear hb3 hg hgl NM x0 x1 x2 x3
  obtain ⟨⟨x0, x1, x2, x3⟩, -⟩ := four HS3.out.n
  go_wp2_with fail
  refine (TX.out _ w3 a c HS3.out.l.2 HS3.out.r).mono ?_
  rintro e w4 ⟨rfl, hb4⟩
  have HS4 := Lib.hid (HS3.out.step hb4)
  have HG4 := Lib.hid ((hb4.cell (p := ⟨g, 0, none⟩) HGL.out).trans HG3.out)
  have HGL4 := Lib.hid (Nat.lt_of_lt_of_le HGL.out hb4.size)
  clear hb4 TX x0 x1 x2 x3
  obtain ⟨⟨x0, x1, x2, x3⟩, -⟩ := four HS4.out.n
  go_wp2_with fail
  refine (CK.out _ w4 a c HS4.out.r).mono ?_
  rintro e w5 ⟨rfl, hb5⟩
  have HS5 := Lib.hid (HS4.out.step hb5)
  have HG5 := Lib.hid ((hb5.cell (p := ⟨g, 0, none⟩) HGL4.out).trans HG4.out)
  have HGL5 := Lib.hid (Nat.lt_of_lt_of_le HGL4.out hb5.size)
  clear hb5 CK x0 x1 x2 x3
  obtain ⟨⟨x0, x1, x2, x3⟩, -⟩ := four HS5.out.n
  go_wp2_with fail
  refine (SM.out _ w5 a c HS5.out.r).mono ?_
  rintro e w6 ⟨rfl, hb6⟩
  have HS6 := Lib.hid (HS5.out.step hb6)
  have hg6 := (hb6.cell (p := ⟨g, 0, none⟩) HGL5.out).trans HG5.out
  clear hb6 SM x0 x1 x2 x3
  go_wp2_with fail
  refine (CP.out w6).mono ?_
  rintro e w7 ⟨rfl, hb7⟩
  have HS7 := Lib.hid (HS6.out.step hb7)
  clear hb7 CP hg6
  go_wp2_with fail
  go_ret
  exact ⟨rfl, HS7.out.b⟩

end Go.Proofs.YteegdemnajhehaaGreatDoor

namespace Go.Proofs.YteegdemnajhehaaGreatDoor
open Go.RowKit

def MdF : F → Prop
  | .nil => True
  | .cons _ m n ks r => m.size ≤ 8 ∧ n ≤ 9223372036854775807 ∧ ks.len ≤ 2 ∧ MdF ks ∧ MdF r
def mdT (t : TN) : Prop := MdF t.f

theorem md_zero : mdT zeroT := ⟨by decide, by decide, by decide, trivial, trivial⟩
theorem md_num {v : Int} (h : v ≤ 9223372036854775807) : mdT (numT v) := ⟨by show (0 : Nat) ≤ 8; decide, h, by show (0 : Nat) ≤ 2; decide, trivial, trivial⟩
theorem md_name {x : List UInt8} (h : x.length ≤ 8) : mdT (nameT x) := ⟨by show x.toArray.size ≤ 8; rw [List.size_toArray]; exact h, by show (0 : Int) ≤ _; decide, by show (0 : Nat) ≤ 2; decide, trivial, trivial⟩
theorem md_neg {k : TN} (h : mdT k) : mdT (negT k) := ⟨by show (0 : Nat) ≤ 8; decide, by show (0 : Int) ≤ _; decide, by show (1 : Nat) ≤ 2; decide, h, trivial⟩
theorem md_two {o : List UInt8} {a b : TN} (ha : mdT a) (hb : mdT b) : mdT (twoT o a b) :=
  ⟨by show (0 : Nat) ≤ 8; decide, by show (0 : Int) ≤ _; decide, by show (2 : Nat) ≤ 2; decide, ⟨ha.1, ha.2.1, ha.2.2.1, ha.2.2.2.1, hb⟩, trivial⟩

def Md.made : Md → Prop
  | .prodL n => mdT n
  | .sumL n => mdT n
  | _ => True

theorem pr_made (L : List Tk) (hL : ∀ t ∈ L, GoodTk t) : ∀ (f : Nat) (md : Md) (s : RS), md.made → mdT (pr L f md s).1
  | 0, md, s, _ => md_zero
  | f + 1, .fac, s, _ => by
    rw [pr]
    by_cases hb : s.bad = 0
    · rw [if_pos hb]
      cases e : L[s.pos]? with
      | none => exact md_zero
      | some t =>
        have hg := hL t (by rw [← (List.getElem?_eq_some_iff.1 e).2]; exact List.getElem_mem (List.getElem?_eq_some_iff.1 e).1)
        simp only
        by_cases h2 : t.kind = 2
        · rw [if_pos h2]
          refine md_num ?_
          rcases hg with ⟨h, _⟩ | ⟨_, _, h⟩ | h
          · rw [h] at h2; exact absurd h2 (by decide)
          · exact h
          · rw [h] at h2; exact absurd h2 (by decide)
        rw [if_neg h2]
        by_cases h1 : t.kind = 1
        · rw [if_pos h1]
          refine md_name ?_
          rcases hg with ⟨_, h⟩ | ⟨h, _⟩ | h
          · exact good_len h
          · rw [h] at h1; exact absurd h1 (by decide)
          · rw [h] at h1; exact absurd h1 (by decide)
        rw [if_neg h1]
        by_cases h45 : t.text = [45]
        · rw [if_pos h45]
          exact md_neg (pr_made L hL f .fac _ trivial)
        rw [if_neg h45]
        by_cases h40 : t.text = [40]
        · rw [if_pos h40]
          exact pr_made L hL f .sum _ trivial
        rw [if_neg h40]
        exact md_zero
    · rw [if_neg hb]; exact md_zero
  | f + 1, .prod, s, _ => by rw [pr]; exact pr_made L hL f _ _ (pr_made L hL f .fac s trivial)
  | f + 1, .prodL n, s, hn => by
    rw [pr]
    split
    · exact pr_made L hL f _ _ (md_two hn (pr_made L hL f .fac _ trivial))
    · exact hn
  | f + 1, .sum, s, _ => by rw [pr]; exact pr_made L hL f _ _ (pr_made L hL f .prod s trivial)
  | f + 1, .sumL n, s, hn => by
    rw [pr]
    split
    · exact pr_made L hL f _ _ (md_two hn (pr_made L hL f .prod _ trivial))
    · exact hn

theorem ofL_made {L : List Tk} (hL : ∀ t ∈ L, GoodTk t) {p q : Nat} {t : TN} (h : ofL L p = .ok t q) : mdT t := by
  unfold ofL at h
  split at h
  · cases h
    exact pr_made L hL _ _ _ trivial
  · cases h

theorem parse_made {l : List UInt8} {t : TN} (h : parseX l = .ok t) : mdT t := by
  unfold parseX at h
  cases hl : lexT l with
  | bad p e => rw [hl] at h; cases h
  | ok L =>
    rw [hl] at h
    simp only at h
    cases ho : ofL L 0 with
    | bad p e => rw [ho] at h; cases h
    | ok t' q =>
      rw [ho] at h
      simp only at h
      split at h
      · cases h
      · cases h
        exact ofL_made (lexT_good hl) ho

theorem md_sz : ∀ {f : F}, MdF f → SzF f
  | .nil, _ => trivial
  | .cons _ _ _ _ _, h => ⟨by have := h.1; omega, by have := h.2.2.1; omega, md_sz h.2.2.2.1, md_sz h.2.2.2.2⟩
theorem md_nums : ∀ {f : F}, MdF f → NumsF f
  | .nil, _ => trivial
  | .cons _ _ _ _ _, h => ⟨h.2.1, md_nums h.2.2.2.1, md_nums h.2.2.2.2⟩

theorem parse_sz {l : List UInt8} {t : TN} (h : parseX l = .ok t) : SzF t.f := md_sz (parse_made h)
theorem parse_nums {l : List UInt8} {t : TN} (h : parseX l = .ok t) : NumsF t.f := md_nums (parse_made h)

end Go.Proofs.YteegdemnajhehaaGreatDoor
