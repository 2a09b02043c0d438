/-
 No statement: what AggTurnedCard needs, of the texts OE3, OE4, OE6.
-/
import Derived.Test.YtapcjnoaofmmiaaGreatDoorVU3
namespace Go.Proofs.YtapcjnoaofmmiaaGreatDoor
section
section
open Go.RowKit
def dZ (G : Nat -> Prop) (w : World) : F -> Nat -> Nat -> Prop
 | .nil, _, _ => True
 | .cons o m n ks r, b, off => G b /\ b < w.heap.size /\ (∃ (a : Option Addr) (c : Nat), (w.cell? ⟨b, off, none⟩ = some (.string o) /\ w.cell? ⟨b, off + 1, none⟩ = some (.string m) /\ w.cell? ⟨b, off + 2, none⟩ = some (.int .i64 n) /\ w.cell? ⟨b, off + 3, none⟩ = some (.slice a ks.len c)) /\
  (ks = .nil \/ ∃ b' off', a = some ⟨b', off', none⟩ /\ dZ G w ks b' off')) /\ dZ G w r b (off + 4)
def aG (G : Nat -> Prop) (w : World) (a : Option Addr) (ks : F) : Prop := ks = .nil \/ ∃ b off, a = some ⟨b, off, none⟩ /\ dZ G w ks b off
abbrev bY (lo : Nat) (w : World) (a : Option Addr) (ks : F) : Prop := aG (fun b => lo <= b) w a ks
abbrev bW (o m : ByteArray) (n : Int) (a : Option Addr) (l c : Nat) : Value := .agg #[.string o, .string m, .int .i64 n, .slice a l c]
theorem dZ.imp {G H : Nat -> Prop} {w : World} (hG : ∀ b, b < w.heap.size -> G b -> H b) : ∀ {f : F} {b off : Nat}, dZ G w f b off -> dZ H w f b off
 | .nil, _, _, _ => trivial
 | .cons _ _ _ _ _, _, _, ⟨h1, h2, ⟨a, c, hc, hk⟩, hr⟩ => ⟨hG _ h2 h1, h2, ⟨a, c, hc, hk.imp id fun ⟨b', off', e, h⟩ => ⟨b', off', e, h.imp hG⟩⟩, hr.imp hG⟩
theorem dZ.keptS {S G : Nat -> Prop} {w w' : World} (hk : aF S w w') (hS : ∀ k, S k -> ¬ G k) : ∀ {f : F} {b off : Nat}, dZ G w f b off -> dZ G w' f b off
 | .nil, _, _, _ => trivial
 | .cons _ _ _ _ _, b, _, ⟨h1, h2, ⟨a, c, ⟨c0, c1, c2, c3⟩, hks⟩, hr⟩ => by
   have hb : ¬ S b := fun hs => hS b hs h1
   exact ⟨h1, Nat.lt_of_lt_of_le h2 hk.size, ⟨a, c, ⟨hk.cell c0 hb, hk.cell c1 hb, hk.cell c2 hb, hk.cell c3 hb⟩, hks.imp id fun ⟨b', off', e, h⟩ => ⟨b', off', e, h.keptS hk hS⟩⟩, hr.keptS hk hS⟩
theorem aE {w w' : World} (hb : Below w.heap.size w w') (S : Nat -> Prop) : aF S w w' := ⟨hb.os, hb.tape, hb.output, hb.size, fun k hk _ => hb.block k hk⟩
theorem dZ.kept {G : Nat -> Prop} {w w' : World} (hb : Below w.heap.size w w') {f : F} {b off : Nat} (h : dZ G w f b off) : dZ G w' f b off :=
 h.keptS (S := fun _ => False) (aE hb _) (fun _ h => h.elim)
theorem aG.imp {G H : Nat -> Prop} {w : World} {a : Option Addr} {ks : F} (h : aG G w a ks) (hG : ∀ b, b < w.heap.size -> G b -> H b) : aG H w a ks :=
 Or.imp id (fun ⟨b, off, e, h⟩ => ⟨b, off, e, h.imp hG⟩) h
theorem aG.keptS {S G : Nat -> Prop} {w w' : World} {a : Option Addr} {ks : F} (h : aG G w a ks) (hk : aF S w w') (hS : ∀ k, S k -> ¬ G k) : aG G w' a ks :=
 Or.imp id (fun ⟨b, off, e, h⟩ => ⟨b, off, e, h.keptS hk hS⟩) h
theorem aG.kept {G : Nat -> Prop} {w w' : World} {a : Option Addr} {ks : F} (h : aG G w a ks) (hb : Below w.heap.size w w') : aG G w' a ks :=
 Or.imp id (fun ⟨b, off, e, h⟩ => ⟨b, off, e, h.kept hb⟩) h
theorem bY.keptS {S : Nat -> Prop} {lo : Nat} {w w' : World} {a : Option Addr} {ks : F} (h : bY lo w a ks) (hk : aF S w w') (hS : ∀ k, S k -> k < lo) : bY lo w' a ks :=
 aG.keptS h hk (fun k hk h => by have := hS k hk; omega)
theorem bY.kept {lo : Nat} {w w' : World} {a : Option Addr} {ks : F} (h : bY lo w a ks) (hb : Below w.heap.size w w') : bY lo w' a ks := aG.kept h hb
theorem bY.mono {lo lo' : Nat} {w : World} {a : Option Addr} {ks : F} (h : bY lo w a ks) (hlo : lo' <= lo) : bY lo' w a ks := aG.imp h (fun _ _ h => Nat.le_trans hlo h)
theorem dZ.drop {G : Nat -> Prop} {w : World} : ∀ {f : F} {b off : Nat} (j : Nat), dZ G w f b off -> dZ G w (f.drop j) b (off + j * 4)
 | f, _, off, 0, h => by rw [F.drop_zero, Nat.zero_mul, Nat.add_zero]; exact h
 | .nil, _, _, _ + 1, _ => trivial
 | .cons _ _ _ _ _, _, off, j + 1, ⟨_, _, _, hr⟩ => by
   have := hr.drop j;rw [show off + 4 + j * 4 = off + (j + 1) * 4 by omega] at this;exact this
def IsR (w : World) (b : Nat) (a : Option Addr) (l c : Nat) (s : RS) : Prop := w.heap[b]? = some (.cells #[.slice a l c, .int .i64 s.pos, .int .i64 s.cnt, .int .i64 s.bad, .int .i64 s.whr] 83 (0, 0))
end
section
open Go.RowKit
theorem Cs {L : List Tk} {y : List UInt8} {p : Nat} (h : L.length <= p) : isS L y p = false := by
 unfold isS; rw [List.getElem?_eq_none h]
def bK : F -> Nat
 | .nil => 0
 | .cons _ _ _ ks r => 1 + bK ks + bK r
def aM (t : TN) : Nat := 1 + bK t.ks
theorem nW (t : TN) : bK t.f = aM t := by unfold TN.f aM; rw [bK, bK, Nat.add_zero]
theorem p9 : ∀ (f : F) (l : Int), f8 f l <= l
 | .nil, l => Int.le_refl _
 | .cons _ _ _ ks r, l => by
   rw [f8]
   split
   · exact Int.le_refl _
   · have := p9 ks (l - 1)
     have := p9 r (f8 ks (l - 1));omega
theorem pD : ∀ (f : F) (l : Int), (bK f : Int) <= l -> f8 f l = l - bK f
 | .nil, l, _ => by rw [f8, bK]; omega
 | .cons _ _ _ ks r, l, h => by
   rw [bK] at h;rw [f8, if_neg (by omega), pD ks (l - 1) (by omega), pD r _ (by omega), bK];omega
theorem tF : ∀ (f : F) (l : Int), 0 <= l -> l < bK f -> f8 f l < 0
 | .nil, l, h0, h => by rw [bK] at h; omega
 | .cons _ _ _ ks r, l, h0, h => by
   rw [bK] at h;rw [f8, if_neg (by omega)]
   by_cases h1 : (bK ks : Int) <= l - 1
   · rw [pD ks _ h1]
     exact tF r _ (by omega) (by omega)
   · by_cases h2 : 0 <= l - 1
     · have := tF ks (l - 1) h2 (by omega)
       have := p9 r (f8 ks (l - 1));omega
     · have := p9 ks (l - 1)
       have := p9 r (f8 ks (l - 1));omega
theorem CU (t : TN) : f8 t.ks 31 < 0 ↔ 32 < aM t := by
 unfold aM
 by_cases h : (bK t.ks : Int) <= 31
 · rw [pD _ _ h]; omega
 · have := tF t.ks 31 (by omega) (by omega)
   omega
def eG (t : Tk) : Prop := (t.kind = 1 /\ cB t.text = true) \/ (t.kind = 2 /\ 0 <= t.num /\ t.num <= 9223372036854775807) \/ t.kind = 3
theorem DL {l : List UInt8} {n : Nat} {k v : Int} {c : UInt8} {r : List UInt8} (hl : l = c :: r) (hc : cO c = true) (h : nN l = .tok k n v) : k = 1 /\ cB (l.take n) = true := by
 unfold nN at h
 split at h
 · cases h
 · rename_i h8
   cases h;refine ⟨rfl, ?_⟩;have hp : 1 <= cI bB l := by rw [hl]; exact q9 (by unfold bB; rw [hc]; rfl)
   have hall : ∀ d ∈ l.take (cI bB l), bB d = true := by
    rw [yL];exact fun d hd => List.all_eq_true.1 List.all_takeWhile d hd
   have hlen : (l.take (cI bB l)).length <= 8 := by rw [List.length_take]; omega
   rw [hl] at hall hlen |-
   obtain ⟨m, hm⟩ : ∃ m, cI bB (c :: r) = m + 1 := ⟨cI bB (c :: r) - 1, by rw [hl] at hp; omega⟩;rw [hm] at hall hlen |-
   rw [List.take_succ_cons] at hall hlen |-
   rw [mY, hc, decide_eq_true (by simpa using hlen), Bool.true_and, Bool.true_and, List.all_eq_true];exact fun d hd => hall d (by simp [hd])
theorem Bq {l : List UInt8} {n : Nat} {k v : Int} (p : Nat) (h : dE l = .tok k n v) : eG ⟨k, l.take n, v, p⟩ := by
 have hf := vI h;cases l with
 | nil => cases h
 | cons c r =>
   simp only [dE] at h
   split at h
   · rename_i hc
     obtain ⟨rfl, hg⟩ := DL rfl hc h;exact .inl ⟨rfl, hg⟩
   · split at h
     · unfold wP at h
       split at h
       · cases h
       · split at h
         · cases h
         · cases h; exact .inr (.inl ⟨rfl, hf.2.2⟩)
     · unfold nI at h
       split at h
       · cases h
       · cases h; exact .inr (.inr rfl)
theorem F9 (l : List UInt8) (p : Nat) : ∀ ts, dP l p = .ok ts -> ∀ t ∈ ts, eG t := by
 refine lB (C := fun l p => ∀ ts, dP l p = .ok ts -> ∀ t ∈ ts, eG t) ?_ ?_ ?_ ?_ l.length l p (Nat.le_refl _)
 · intro p ts h
   rw [iC] at h; cases h;intro t ht; cases ht
 · intro r p ih ts h
   rw [cV] at h;exact ih ts h
 · intro l p e h1 h0 hf ts h
   rw [oW h0 h1 hf] at h; cases h
 · intro l p k n v h1 h0 hf hn hl ih ts h
   rw [mS h1 hn hf] at h;obtain ⟨ts', h', rfl⟩ := tR h;intro t ht
   rcases List.mem_cons.1 ht with rfl | ht
   · exact Bq p hf
   · exact ih ts' h' t ht
theorem DR {l : List UInt8} {ts : List Tk} (h : iT l = .ok ts) : ∀ t ∈ ts, eG t := by
 unfold iT at h
 split at h
 · cases h
 · exact F9 _ _ _ h
def OkT (t : TN) : Prop := aU t.f = 0
def rS (o : List UInt8) : Prop := o = [43] \/ o = [45] \/ o = [42] \/ o = [47] \/ o = [37]
theorem opM {L : List Tk} {p : Nat} (h : isM L p = true) : rS (fT L p) := by
 unfold isM isS at h;unfold fT;cases e : L[p]? with
 | none => rw [e] at h; simp at h
 | some t =>
   rw [e] at h;simp only [Bool.or_eq_true, Bool.and_eq_true, beq_iff_eq] at h
   rcases h with (⟨_, h⟩ | ⟨_, h⟩) | ⟨_, h⟩
   · exact .inr (.inr (.inl h))
   · exact .inr (.inr (.inr (.inl h)))
   · exact .inr (.inr (.inr (.inr h)))
theorem opA {L : List Tk} {p : Nat} (h : isA L p = true) : rS (fT L p) := by
 unfold isA isS at h;unfold fT;cases e : L[p]? with
 | none => rw [e] at h; simp at h
 | some t =>
   rw [e] at h;simp only [Bool.or_eq_true, Bool.and_eq_true, beq_iff_eq] at h
   rcases h with ⟨_, h⟩ | ⟨_, h⟩
   · exact .inl h
   · exact .inr (.inl h)
theorem e9 (L : List Tk) : ∀ (f : Nat) (md : Md) (s : RS), ¬ s.bad = 0 -> (pr L f md s).2 = s
 | 0, _, _, _ => rfl
 | f + 1, .fac, s, h => by rw [pr, if_neg h]
 | f + 1, .prod, s, h => by rw [pr, e9 L f .fac s h, e9 L f _ s h]
 | f + 1, .prodL n, s, h => by rw [pr, if_neg (by simp [h])]
 | f + 1, .sum, s, h => by rw [pr, e9 L f .prod s h, e9 L f _ s h]
 | f + 1, .sumL n, s, h => by rw [pr, if_neg (by simp [h])]
end
section
open Go.RowKit
theorem fH {B : Nat} {a w : World} (h : Below B a w) (n : Nat) : Below B a (w.drewN n) := ⟨h.os, h.tape, h.output, h.size, h.block⟩
end
section
open Go.RowKit
def xP (lim : Nat) (w : World) (a : Option Addr) (ts : List Tk) : Prop :=
 ts = [] \/ ∃ b off, a = some ⟨b, off, none⟩ /\ b < lim /\ ∀ j (h : j < ts.length), w.cell? ⟨b, off + j * 4, none⟩ = some (.int .i64 ts[j].kind) /\ w.cell? ⟨b, off + j * 4 + 1, none⟩ = some (.string ⟨ts[j].text.toArray⟩) /\
  w.cell? ⟨b, off + j * 4 + 2, none⟩ = some (.int .i64 ts[j].num) /\ w.cell? ⟨b, off + j * 4 + 3, none⟩ = some (.int .i64 ts[j].place)
theorem xP.kept {lim : Nat} {S : Nat -> Prop} {w w' : World} {a : Option Addr} {ts : List Tk} (h : xP lim w a ts) (hk : aF S w w') (hS : ∀ k, S k -> lim <= k) : xP lim w' a ts := by
 rcases h with h | ⟨b, off, rfl, hlt, hc⟩
 · exact .inl h
 · have hb : ¬ S b := fun hs => by have := hS b hs; omega
   refine .inr ⟨b, off, rfl, hlt, fun j hj => ?_⟩;obtain ⟨c0, c1, c2, c3⟩ := hc j hj;exact ⟨hk.cell c0 hb, hk.cell c1 hb, hk.cell c2 hb, hk.cell c3 hb⟩
theorem Cb {w : World} {a : Option Addr} {ts : List Tk} (h : gA w a ts) : xP w.heap.size w a ts := h.imp id fun ⟨b, off, e, hlt, hc⟩ => ⟨b, off, e, hlt, hc⟩
def Ku (n : Nat) (s : RS) : Prop := (s.bad = 0 -> s.pos <= n) /\ s.pos <= 2 * n + 1 /\ s.cnt <= 33 /\ n <= 100000
structure PW (ts : List Tk) (rb : Nat) (a : Option Addr) (c : Nat) (s : RS) (w : World) : Prop where
 r : IsR w rb a ts.length c s
 t : xP rb w a ts
 f : Ku ts.length s
theorem KL {w : World} {b : Nat} {v0 v1 v2 v3 v4 : Value} {t : TypeId} (h : w.heap[b]? = some (.cells #[v0, v1, v2, v3, v4] t (0, 0))) (o : Nat) (v : Value) :
 (w.setCell ⟨b, o, none⟩ v).heap[b]? = some (.cells ((#[v0, v1, v2, v3, v4] : Array Value).setIfInBounds o v) t (0, 0)) := heap_setCell_same w b o _ t v h
theorem oX {rb : Nat} {w0 w : World} (h : aF (· = rb) w0 w) (o : Nat) (v : Value) : aF (· = rb) w0 (w.setCell ⟨rb, o, none⟩ v) := h.setCell (p := ⟨rb, o, none⟩) (.inl rfl) v
theorem uH {ts : List Tk} {rb : Nat} {a : Option Addr} {w : World} (h : xP rb w a ts) {p : Nat} (hp : p < ts.length) : ∃ b off, a = some ⟨b, off, none⟩ /\ b < rb /\ w.cell? ⟨b, off + p * 4, none⟩ = some (.int .i64 ts[p].kind) /\ w.cell? ⟨b, off + p * 4 + 1, none⟩ = some (.string ⟨ts[p].text.toArray⟩) /\
 w.cell? ⟨b, off + p * 4 + 2, none⟩ = some (.int .i64 ts[p].num) /\ w.cell? ⟨b, off + p * 4 + 3, none⟩ = some (.int .i64 ts[p].place) := by
 rcases h with h | ⟨b, off, e, hlt, hc⟩
 · rw [h] at hp; simp at hp
 · exact ⟨b, off, e, hlt, hc p hp⟩
end
section
open Go.RowKit
abbrev ndO (o m : ByteArray) (n : Int) (a : Option Addr) (l c : Nat) : Obj := .cells #[.string o, .string m, .int .i64 n, .slice a l c] 34
abbrev AR (w : World) (B : Nat) (o m : ByteArray) (n : Int) (a : Option Addr) (l c : Nat) : World :=
 (((w.setCell ⟨B, 0, none⟩ (.string o)).setCell ⟨B, 1, none⟩ (.string m)).setCell ⟨B, 2, none⟩ (.int .i64 n)).setCell ⟨B, 3, none⟩ (.slice a l c)
theorem pU (w : World) (B : Nat) (o m : ByteArray) (n : Int) (a : Option Addr) (l c : Nat) : aF (· = B) w (AR w B o m n a l c) :=
 ((((aF.refl (· = B) w).setCell (p := ⟨B, 0, none⟩) (.inl rfl) _).setCell (p := ⟨B, 1, none⟩) (.inl rfl) _).setCell (p := ⟨B, 2, none⟩) (.inl rfl) _).setCell (p := ⟨B, 3, none⟩) (.inl rfl) _
end
end
section
section
open Go.RowKit
structure FW (ts : List Tk) (rb : Nat) (a : Option Addr) (c : Nat) (s : RS) (w0 : World) (k : Int) (X : ByteArray) (n p : Int) (w : World) : Prop where
 pw : PW ts rb a c s w
 kp : aF (· = rb) w0 w
 nb : w.heap[w0.heap.size]? = some (ndO ⟨#[]⟩ ⟨#[]⟩ 0 none 0 0)
 tb : w.heap[w0.heap.size + 1]? = some (.cells #[.int .i64 k, .string X, .int .i64 n, .int .i64 p] 85 (0, 0))
end
end
section
section
open Go.RowKit
end
section
open Go.RowKit
theorem A8 (l : List UInt8) (p : Nat) : ∀ q e, dP l p = .bad q e -> e = 1 \/ e = 2 \/ e = 5 := by
 refine lB (C := fun l p => ∀ q e, dP l p = .bad q e -> e = 1 \/ e = 2 \/ e = 5) ?_ ?_ ?_ ?_ l.length l p (Nat.le_refl _)
 · intro p q e h
   rw [iC] at h; cases h
 · intro r p ih q e h
   rw [cV] at h;exact ih q e h
 · intro l p e h1 h0 hf q e2 h
   rw [oW h0 h1 hf] at h; cases h;exact vJ hf
 · intro l p k n v h1 h0 hf hn hl ih q e h
   rw [mS h1 hn hf] at h;cases hx : dP (l.drop n) (p + n) with
   | ok ts => rw [hx] at h; cases h
   | bad q' e' => rw [hx] at h; cases h; exact ih _ _ hx
theorem zT {l : List UInt8} {p : Nat} {e : Int} (h : iT l = .bad p e) : (e == 0) = false /\ (e != 0) = true := by
 have : e = 4 \/ e = 1 \/ e = 2 \/ e = 5 := by
  unfold iT at h
  split at h
  · cases h; exact .inl rfl
  · exact .inr (A8 _ _ _ _ h)
 rcases this with h | h | h | h <;> rw [h] <;> exact ⟨by decide, by decide⟩
end
section
open Go.RowKit
def qG (q : C7) (w : World) (e : Ending) (w' : World) : Prop := Below w.heap.size w w' /\
 match q with
 | .bad p er => e = .returned (.tuple #[bW ⟨#[]⟩ ⟨#[]⟩ 0 none 0 0, .int .i64 (p : Nat), .int .i64 er])
 | .ok t p => ∃ a c, e = .returned (.tuple #[bW t.op t.nm t.n a t.ks.len c, .int .i64 (p : Nat), .int .i64 0]) /\ bY w.heap.size w' a t.ks
end
section
open Go.RowKit
theorem Ga {l : List UInt8} {ts : List Tk} (h : iT l = .ok ts) : ts.length <= 1024 := by
 unfold iT at h
 split at h
 · cases h
 · have := (DQ _ _ _ h).2.1
   omega
end
end
end Go.Proofs.YtapcjnoaofmmiaaGreatDoor
