import Derived.Test.YtlonjkpnhdfjiaaDoorCrc
namespace Go.Proofs.YtlonjkpnhdfjiaaDoor

theorem xor_half (n a b : Nat) : (a ^^^ b) / 2 ^ n = a / 2 ^ n ^^^ b / 2 ^ n := by
  rw [← Nat.shiftRight_eq_div_pow, ← Nat.shiftRight_eq_div_pow, ← Nat.shiftRight_eq_div_pow, Nat.shiftRight_xor_distrib]
theorem xor_up (n a b : Nat) : (a ^^^ b) * 2 ^ n = a * 2 ^ n ^^^ b * 2 ^ n := by
  rw [← Nat.shiftLeft_eq, ← Nat.shiftLeft_eq, ← Nat.shiftLeft_eq, Nat.shiftLeft_xor_distrib]
theorem xor_mod (n a b : Nat) : (a ^^^ b) % 2 ^ n = a % 2 ^ n ^^^ b % 2 ^ n := Nat.xor_mod_two_pow

theorem swap4 (a b c d : Nat) : (a ^^^ b) ^^^ (c ^^^ d) = (a ^^^ c) ^^^ (b ^^^ d) := by
  rw [Nat.xor_assoc, ← Nat.xor_assoc b, Nat.xor_comm b c, Nat.xor_assoc c, ← Nat.xor_assoc a]

theorem bit_mul (p q m : Nat) (hp : p < 2) (hq : q < 2) : (p ^^^ q) * m = p * m ^^^ q * m := by
  rcases (show p = 0 ∨ p = 1 by omega) with rfl | rfl <;> rcases (show q = 0 ∨ q = 1 by omega) with rfl | rfl <;> simp

theorem d16_xor (a b : Nat) (ha : a < 65536) (hb : b < 65536) : d16 (a ^^^ b) = d16 a ^^^ d16 b := by
  unfold d16
  rw [swap4]
  congr 1
  · have h := xor_up 1 a b
    have h2 := xor_mod 16 (a * 2) (b * 2)
    simp only [Nat.reducePow] at h h2
    rw [h, h2]
  · have h := xor_half 15 a b
    simp only [Nat.reducePow] at h
    rw [h]
    exact bit_mul _ _ _ (by omega) (by omega)

theorem d16s_xor : ∀ (k a b : Nat), a < 65536 → b < 65536 → d16s k (a ^^^ b) = d16s k a ^^^ d16s k b
  | 0, _, _, _, _ => rfl
  | k + 1, a, b, ha, hb => by
    show d16s k (d16 (a ^^^ b)) = _
    rw [d16_xor a b ha hb]
    exact d16s_xor k _ _ (d16_lt ha) (d16_lt hb)

theorem d16s_low_fin : ∀ x : Fin 256, d16s 8 x.val = x.val * 256 := by decide +kernel
theorem d16s_low (x : Nat) (h : x < 256) : d16s 8 x = x * 256 := d16s_low_fin ⟨x, h⟩

theorem split_byte (y : Nat) : y / 256 * 256 ^^^ y % 256 = y := by
  apply Nat.eq_of_testBit_eq
  intro i
  have h1 : y / 256 * 256 = (y >>> 8) <<< 8 := by rw [Nat.shiftLeft_eq, Nat.shiftRight_eq_div_pow]
  have h2 : y % 256 = y % 2 ^ 8 := rfl
  rw [h1, h2, Nat.testBit_xor, Nat.testBit_shiftLeft, Nat.testBit_shiftRight, Nat.testBit_mod_two_pow]
  by_cases hi : i < 8
  · simp [hi, Nat.not_le.2 hi]
  · have : 8 + (i - 8) = i := by omega
    simp [hi, Nat.not_lt.1 hi, this]

/-- A byte by the table of sixteen bits is a byte bit by bit. -/
theorem table16 (y v : Nat) (hy : y < 65536) (hv : v < 256) : (y * 256 % 65536) ^^^ d16s 8 ((y / 256 ^^^ v) * 256) = d16s 8 (y ^^^ (v * 256)) := by
  have hp : y / 256 ^^^ v < 256 := xor8_lt (by omega) hv
  have e1 : y ^^^ (v * 256) = ((y / 256 ^^^ v) * 256) ^^^ (y % 256) := by
    have h := xor_up 8 (y / 256) v
    simp only [Nat.reducePow] at h
    rw [h, Nat.xor_assoc, Nat.xor_comm (v * 256), ← Nat.xor_assoc, split_byte]
  rw [e1, d16s_xor 8 _ _ (by omega) (by omega), d16s_low (y % 256) (by omega), Nat.xor_comm]
  congr 1
  omega
end Go.Proofs.YtlonjkpnhdfjiaaDoor
