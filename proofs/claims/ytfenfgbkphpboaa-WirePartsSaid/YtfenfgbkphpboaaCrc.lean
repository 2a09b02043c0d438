/-
  No statement: plain facts on the CRC-32, as a function on numbers below 2^32.
-/
import Derived.Laws.BitsLemmas
namespace Go.Proofs.Ytfenfgbkphpboaa

/-- One step of the sum. -/
def crcS (s : Nat) : Nat := s / 2 ^^^ (if s % 2 = 1 then 3988292384 else 0)

theorem stp_lt {s : Nat} (h : s < 4294967296) : crcS s < 4294967296 := by
  have h1 : s / 2 < 2 ^ 32 := by omega
  have h2 : (if s % 2 = 1 then 3988292384 else 0) < 2 ^ 32 := by split <;> decide
  exact Nat.xor_lt_two_pow h1 h2

theorem xor_half (a b : Nat) : (a ^^^ b) / 2 = a / 2 ^^^ b / 2 := by
  apply Nat.eq_of_testBit_eq
  intro i
  rw [Nat.testBit_xor, Nat.testBit_div_two, Nat.testBit_div_two, Nat.testBit_div_two, Nat.testBit_xor]

theorem xor_odd (a b : Nat) : (a ^^^ b) % 2 = (a % 2 + b % 2) % 2 := by
  have h : ∀ n : Nat, n % 2 = (n.testBit 0).toNat := fun n => by
    rw [Nat.testBit_zero]
    rcases Nat.mod_two_eq_zero_or_one n with h | h <;> simp [h]
  rw [h (a ^^^ b), h a, h b, Nat.testBit_xor]
  cases a.testBit 0 <;> cases b.testBit 0 <;> rfl

theorem stp_xor (a b : Nat) : crcS (a ^^^ b) = crcS a ^^^ crcS b := by
  unfold crcS
  rw [xor_half, xor_odd]
  rcases Nat.mod_two_eq_zero_or_one a with ha | ha <;> rcases Nat.mod_two_eq_zero_or_one b with hb | hb <;> simp only [ha, hb]
  · simp
  · simp [Nat.xor_assoc]
  · simp only [if_true, Nat.xor_zero, if_neg (show ¬ (0 : Nat) = 1 by decide)]
    rw [Nat.xor_assoc, Nat.xor_assoc, Nat.xor_comm (b / 2)]
  · simp only [if_true]
    rw [if_neg (by decide), Nat.xor_zero]
    have : ∀ x y z : Nat, (x ^^^ z) ^^^ (y ^^^ z) = x ^^^ y := fun x y z => by
      rw [Nat.xor_comm y z, ← Nat.xor_assoc, Nat.xor_assoc x z z, Nat.xor_self, Nat.xor_zero]
    rw [this]

theorem stp_even (c : Nat) : crcS (2 * c) = c := by
  unfold crcS
  rw [if_neg (by omega), Nat.xor_zero]
  omega

theorem stp_zero_inv {s : Nat} (h : crcS s = 0) (hs : s < 4294967296) : s = 0 := by
  unfold crcS at h
  have h2 : s / 2 = if s % 2 = 1 then 3988292384 else 0 := by
    have := congrArg (· ^^^ (if s % 2 = 1 then 3988292384 else 0)) h
    simpa [Nat.xor_assoc] using this
  split at h2 <;> omega

/-- n steps. -/
def stps : Nat → Nat → Nat
  | 0, s => s
  | n + 1, s => stps n (crcS s)

theorem stps_succ' : ∀ n s, stps (n + 1) s = crcS (stps n s)
  | 0, _ => rfl
  | n + 1, s => stps_succ' n (crcS s)

theorem stps_add : ∀ m n s, stps (m + n) s = stps n (stps m s)
  | 0, n, s => by rw [Nat.zero_add]; rfl
  | m + 1, n, s => by rw [show m + 1 + n = (m + n) + 1 by omega]; exact stps_add m n (crcS s)

theorem stps_lt : ∀ n {s}, s < 4294967296 → stps n s < 4294967296
  | 0, _, h => h
  | n + 1, _, h => stps_lt n (stp_lt h)

theorem stps_xor : ∀ n a b, stps n (a ^^^ b) = stps n a ^^^ stps n b
  | 0, _, _ => rfl
  | n + 1, a, b => by unfold stps; rw [stp_xor]; exact stps_xor n _ _

theorem stps_even : ∀ n c, stps n (2 ^ n * c) = c
  | 0, c => by unfold stps; omega
  | n + 1, c => by
    unfold stps
    rw [show 2 ^ (n + 1) * c = 2 * (2 ^ n * c) by rw [Nat.pow_succ, Nat.mul_comm (2 ^ n) 2, Nat.mul_assoc], stp_even]
    exact stps_even n c

theorem stps_inv : ∀ n {s}, stps n s = 0 → s < 4294967296 → s = 0
  | 0, _, h, _ => h
  | n + 1, _, h, hs => stp_zero_inv (stps_inv n h (stp_lt hs)) hs

/-- The sum's state behind some bytes. -/
def reg (s : Nat) (l : List UInt8) : Nat := l.foldl (fun s c => stps 8 (s ^^^ c.toNat)) s

theorem reg_nil (s : Nat) : reg s [] = s := rfl
theorem reg_cons (s : Nat) (c : UInt8) (l : List UInt8) : reg s (c :: l) = reg (stps 8 (s ^^^ c.toNat)) l := rfl
theorem reg_append (s : Nat) (a b : List UInt8) : reg s (a ++ b) = reg (reg s a) b := by unfold reg; rw [List.foldl_append]
theorem reg_snoc (s : Nat) (a : List UInt8) (c : UInt8) : reg s (a ++ [c]) = stps 8 (reg s a ^^^ c.toNat) := by rw [reg_append]; rfl

theorem byte_lt (c : UInt8) : c.toNat < 256 := c.toNat_lt

theorem reg_lt : ∀ (l : List UInt8) {s}, s < 4294967296 → reg s l < 4294967296
  | [], _, h => h
  | c :: l, s, h => by
    rw [reg_cons]
    have := byte_lt c
    exact reg_lt l (stps_lt 8 (Nat.xor_lt_two_pow (n := 32) h (by omega)))

/-- The sum of some bytes. -/
def crc (l : List UInt8) : Nat := 4294967295 - reg 4294967295 l

/-- Four bytes, the lowest first. -/
def le4 (v : Nat) : List UInt8 := [(v % 256).toUInt8, (v / 256 % 256).toUInt8, (v / 65536 % 256).toUInt8, (v / 16777216 % 256).toUInt8]

/-- The number that four bytes are. -/
def of4 (a b c d : UInt8) : Nat := a.toNat + 256 * b.toNat + 65536 * c.toNat + 16777216 * d.toNat

theorem of4_lt (a b c d : UInt8) : of4 a b c d < 4294967296 := by
  have := byte_lt a; have := byte_lt b; have := byte_lt c; have := byte_lt d; unfold of4; omega

theorem u8_nat {a : Nat} (h : a < 256) : (a.toUInt8).toNat = a := by
  simp [Nat.toUInt8, UInt8.toNat_ofNat']
  omega

theorem le4_of4 (a b c d : UInt8) : le4 (of4 a b c d) = [a, b, c, d] := by
  have ha := byte_lt a; have hb := byte_lt b; have hc := byte_lt c; have hd := byte_lt d
  unfold le4 of4
  have e : ∀ (x : Nat) (y : UInt8), x = y.toNat → x.toUInt8 = y := fun x y h => by subst h; simp
  rw [e _ a (by omega), e _ b (by omega), e _ c (by omega), e _ d (by omega)]

theorem of4_le4 {v : Nat} (h : v < 4294967296) : of4 (v % 256).toUInt8 (v / 256 % 256).toUInt8 (v / 65536 % 256).toUInt8 (v / 16777216 % 256).toUInt8 = v := by
  unfold of4
  rw [u8_nat (by omega), u8_nat (by omega), u8_nat (by omega), u8_nat (by omega)]
  omega

/-- A low byte and the rest, put together by xor. -/
theorem split_low (v : Nat) : v = v % 256 ^^^ 2 ^ 8 * (v / 256) := by
  apply Nat.eq_of_testBit_eq
  intro i
  rw [Nat.testBit_xor, show v % 256 = v % 2 ^ 8 by rfl, Nat.testBit_mod_two_pow, Nat.testBit_two_pow_mul, show v / 256 = v / 2 ^ 8 by rfl, Nat.testBit_div_two_pow]
  by_cases hi : i < 8
  · simp [hi, show ¬ 8 ≤ i by omega]
  · simp [hi, show 8 ≤ i by omega]

theorem low_step (r v : Nat) : stps 8 (r ^^^ v % 256) ^^^ v / 256 = stps 8 (r ^^^ v) := by
  have h : stps 8 (r ^^^ v) = stps 8 ((r ^^^ v % 256) ^^^ 2 ^ 8 * (v / 256)) := by rw [Nat.xor_assoc, ← split_low v]
  rw [h, stps_xor 8 (r ^^^ v % 256), stps_even]

/-- Four bytes are taken as the number that they are. -/
theorem reg_le4 (r : Nat) {v : Nat} (hv : v < 4294967296) : reg r (le4 v) = stps 32 (r ^^^ v) := by
  have h1 := low_step r v
  have h2 := low_step (stps 8 (r ^^^ v % 256)) (v / 256)
  have h3 := low_step (stps 8 (stps 8 (r ^^^ v % 256) ^^^ v / 256 % 256)) (v / 65536)
  rw [Nat.div_div_eq_div_mul, show 256 * 256 = 65536 by rfl] at h2
  rw [Nat.div_div_eq_div_mul, show 65536 * 256 = 16777216 by rfl] at h3
  unfold le4
  rw [reg_cons, reg_cons, reg_cons, reg_cons, reg_nil, u8_nat (by omega), u8_nat (by omega), u8_nat (by omega), u8_nat (by omega)]
  rw [show v / 16777216 % 256 = v / 16777216 by omega, h3, h2, h1]
  rw [← stps_add, ← stps_add, ← stps_add]

theorem xor_all {r : Nat} (h : r < 4294967296) : r ^^^ (4294967295 - r) = 4294967295 := by
  apply Nat.eq_of_testBit_eq
  intro i
  rw [Nat.testBit_xor, show (4294967295 : Nat) = 2 ^ 32 - 1 by rfl, show 2 ^ 32 - 1 - r = 2 ^ 32 - (r + 1) by omega, Nat.testBit_two_pow_sub_succ (by simpa using h), Nat.testBit_two_pow_sub_one]
  by_cases hi : i < 32
  · simp [hi]
  · have : r.testBit i = false := Nat.testBit_lt_two_pow (Nat.lt_of_lt_of_le h (by rw [show (4294967296 : Nat) = 2 ^ 32 by rfl]; exact Nat.pow_le_pow_right (by decide) (by omega)))
    simp [hi, this]

/-- Bytes with their sum behind them. -/
def sealB (l : List UInt8) : List UInt8 := l ++ le4 (crc l)

theorem crc_lt (l : List UInt8) : crc l < 4294967296 := by unfold crc; omega

/-- What is sealed comes to one number, whatever it is. -/
theorem reg_sealB (l : List UInt8) : reg 4294967295 (sealB l) = stps 32 4294967295 := by
  unfold sealB
  rw [reg_append, reg_le4 _ (crc_lt l)]
  unfold crc
  rw [xor_all (reg_lt l (by decide))]

/-- Two rows of bytes of one length, each byte by xor. -/
def xorB : List UInt8 → List UInt8 → List UInt8
  | a :: r, b :: t => (a ^^^ b) :: xorB r t
  | _, _ => []

theorem reg_xor : ∀ (l m : List UInt8) (a b : Nat), l.length = m.length → reg (a ^^^ b) (xorB l m) = reg a l ^^^ reg b m
  | [], [], _, _, _ => rfl
  | [], _ :: _, _, _, h => by cases h
  | _ :: _, [], _, _, h => by cases h
  | c :: l, d :: m, a, b, h => by
    rw [xorB, reg_cons, reg_cons, reg_cons, ← reg_xor l m _ _ (by simpa using h), ← stps_xor]
    congr 2
    rw [UInt8.toNat_xor]
    rw [Nat.xor_assoc, Nat.xor_assoc, ← Nat.xor_assoc b, Nat.xor_comm b c.toNat, Nat.xor_assoc]

theorem reg_zeros : ∀ n, reg 0 (List.replicate n 0) = 0
  | 0 => rfl
  | n + 1 => by rw [List.replicate_succ, reg_cons]; exact reg_zeros n

theorem reg_zeros_inv : ∀ n {s}, s < 4294967296 → reg s (List.replicate n 0) = 0 → s = 0
  | 0, _, _, h => h
  | n + 1, s, hs, h => by
    rw [List.replicate_succ, reg_cons] at h
    have e : s ^^^ (0 : UInt8).toNat = s := by simp
    rw [e] at h
    exact stps_inv 8 (reg_zeros_inv n (stps_lt 8 hs) h) hs

/-- Bytes, four of which have been turned from the k-th on. -/
def turn4 (l : List UInt8) (k : Nat) (t : Nat) : List UInt8 := xorB l (List.replicate k 0 ++ le4 t ++ List.replicate (l.length - k - 4) 0)

theorem xorB_len : ∀ (l m : List UInt8), l.length = m.length → (xorB l m).length = l.length
  | [], [], _ => rfl
  | [], _ :: _, h => by cases h
  | _ :: _, [], h => by cases h
  | c :: l, d :: m, h => by rw [xorB, List.length_cons, xorB_len l m (by simpa using h), List.length_cons]

theorem le4_len (v : Nat) : (le4 v).length = 4 := rfl

/-- What is sealed, up to 32 bits in a row turned, is sealed no more. -/
theorem turned_breaks (b m : List UInt8) (k t : Nat) (ht : t < 4294967296) (h0 : t ≠ 0) (hk : k + 4 ≤ (sealB b).length) : turn4 (sealB b) k t ≠ sealB m := by
  intro h
  have hl : (sealB b).length = (List.replicate k (0 : UInt8) ++ le4 t ++ List.replicate ((sealB b).length - k - 4) 0).length := by
    rw [List.length_append, List.length_append, List.length_replicate, List.length_replicate, le4_len]; omega
  have h1 := reg_sealB m
  rw [← h] at h1
  unfold turn4 at h1
  have h2 := reg_xor (sealB b) _ 4294967295 0 hl
  rw [Nat.xor_zero, h1, reg_sealB, reg_append, reg_append, reg_zeros, reg_le4 _ ht, Nat.zero_xor] at h2
  have h3 : reg (stps 32 t) (List.replicate ((sealB b).length - k - 4) 0) = 0 := by
    have := congrArg (stps 32 4294967295 ^^^ ·) h2
    simp only [Nat.xor_self, ← Nat.xor_assoc, Nat.zero_xor] at this
    exact this.symm
  exact h0 (stps_inv 32 (reg_zeros_inv _ (stps_lt 32 ht) h3) ht)

end Go.Proofs.Ytfenfgbkphpboaa
