import Derived.Test.YtgkenhmbilkhdaaGreatDoorCrc
namespace Go.Proofs.YtgkenhmbilkhdaaGreatDoor

theorem xor_half (n a b : Nat) : (a ^^^ b) / 2 ^ n = a / 2 ^ n ^^^ b / 2 ^ n := by
  rw [← Nat.shiftRight_eq_div_pow, ← Nat.shiftRight_eq_div_pow, ← Nat.shiftRight_eq_div_pow, Nat.shiftRight_xor_distrib]
theorem xor_up (n a b : Nat) : (a ^^^ b) * 2 ^ n = a * 2 ^ n ^^^ b * 2 ^ n := by
  rw [← Nat.shiftLeft_eq, ← Nat.shiftLeft_eq, ← Nat.shiftLeft_eq, Nat.shiftLeft_xor_distrib]
theorem xor_mod (n a b : Nat) : (a ^^^ b) % 2 ^ n = a % 2 ^ n ^^^ b % 2 ^ n := Nat.xor_mod_two_pow

theorem swap4 (a b c d : Nat) : (a ^^^ b) ^^^ (c ^^^ d) = (a ^^^ c) ^^^ (b ^^^ d) := by
  rw [Nat.xor_assoc, ← Nat.xor_assoc b, Nat.xor_comm b c, Nat.xor_assoc c, ← Nat.xor_assoc a]

theorem bit_mul (p q m : Nat) (hp : p < 2) (hq : q < 2) : (p ^^^ q) * m = p * m ^^^ q * m := by
  rcases (show p = 0 ∨ p = 1 by omega) with rfl | rfl <;> rcases (show q = 0 ∨ q = 1 by omega) with rfl | rfl <;> simp

theorem d16_xor (a b : Nat) (ha : a < 65536) (hb : b < 65536) : d16 (a ^^^ b) = d16 a ^^^ d16 b := by
  unfold d16
  rw [swap4]
  congr 1
  · have h := xor_up 1 a b
    have h2 := xor_mod 16 (a * 2) (b * 2)
    simp only [Nat.reducePow] at h h2
    rw [h, h2]
  · have h := xor_half 15 a b
    simp only [Nat.reducePow] at h
    rw [h]
    exact bit_mul _ _ _ (by omega) (by omega)

theorem d16s_xor : ∀ (k a b : Nat), a < 65536 → b < 65536 → d16s k (a ^^^ b) = d16s k a ^^^ d16s k b
  | 0, _, _, _, _ => rfl
  | k + 1, a, b, ha, hb => by
    show d16s k (d16 (a ^^^ b)) = _
    rw [d16_xor a b ha hb]
    exact d16s_xor k _ _ (d16_lt ha) (d16_lt hb)

theorem d16s_low_fin : ∀ x : Fin 256, d16s 8 x.val = x.val * 256 := by decide +kernel
theorem d16s_low (x : Nat) (h : x < 256) : d16s 8 x = x * 256 := d16s_low_fin ⟨x, h⟩

theorem split_byte (y : Nat) : y / 256 * 256 ^^^ y % 256 = y := by
  apply Nat.eq_of_testBit_eq
  intro i
  have h1 : y / 256 * 256 = (y >>> 8) <<< 8 := by rw [Nat.shiftLeft_eq, Nat.shiftRight_eq_div_pow]
  have h2 : y % 256 = y % 2 ^ 8 := rfl
  rw [h1, h2, Nat.testBit_xor, Nat.testBit_shiftLeft, Nat.testBit_shiftRight, Nat.testBit_mod_two_pow]
  by_cases hi : i < 8
  · simp [hi, Nat.not_le.2 hi]
  · have : 8 + (i - 8) = i := by omega
    simp [hi, Nat.not_lt.1 hi, this]

/-- A byte by the table of sixteen bits is a byte bit by bit. -/
theorem table16 (y v : Nat) (hy : y < 65536) (hv : v < 256) : (y * 256 % 65536) ^^^ d16s 8 ((y / 256 ^^^ v) * 256) = d16s 8 (y ^^^ (v * 256)) := by
  have hp : y / 256 ^^^ v < 256 := xor8_lt (by omega) hv
  have e1 : y ^^^ (v * 256) = ((y / 256 ^^^ v) * 256) ^^^ (y % 256) := by
    have h := xor_up 8 (y / 256) v
    simp only [Nat.reducePow] at h
    rw [h, Nat.xor_assoc, Nat.xor_comm (v * 256), ← Nat.xor_assoc, split_byte]
  rw [e1, d16s_xor 8 _ _ (by omega) (by omega), d16s_low (y % 256) (by omega), Nat.xor_comm]
  congr 1
  omega

/-! ### Eight bytes at once -/
/-- k bytes of noughts more. -/
def adv : Nat → Nat → Nat
  | 0, x => x
  | k + 1, x => adv k (d16s 8 x)
theorem adv_lt : ∀ (k : Nat) {x : Nat}, x < 65536 → adv k x < 65536
  | 0, _, h => h
  | k + 1, _, h => adv_lt k (d16s_lt 8 h)
theorem adv_last : ∀ (k x : Nat), adv (k + 1) x = d16s 8 (adv k x)
  | 0, _ => rfl
  | k + 1, x => adv_last k (d16s 8 x)
theorem adv_xor : ∀ (k a b : Nat), a < 65536 → b < 65536 → adv k (a ^^^ b) = adv k a ^^^ adv k b
  | 0, _, _, _, _ => rfl
  | k + 1, a, b, ha, hb => by
    show adv k (d16s 8 (a ^^^ b)) = _
    rw [d16s_xor 8 a b ha hb]
    exact adv_xor k _ _ (d16s_lt 8 ha) (d16s_lt 8 hb)
theorem crc16_lin : ∀ (l : List Nat) (c : Nat), c < 65536 → (∀ x ∈ l, x < 256) → crc16 c l = adv l.length c ^^^ crc16 0 l
  | [], c, _, _ => by show c = c ^^^ 0; rw [Nat.xor_zero]
  | x :: l, c, hc, hl => by
    have hx := hl x (by simp)
    have hl' : ∀ y ∈ l, y < 256 := fun y hy => hl y (by simp [hy])
    have h1 : x * 256 < 65536 := by omega
    show crc16 (d16s 8 (c ^^^ (x * 256))) l = adv l.length (d16s 8 c) ^^^ crc16 (d16s 8 (0 ^^^ (x * 256))) l
    rw [Nat.zero_xor, crc16_lin l _ (d16s_lt 8 (xor16_lt hc h1)) hl', crc16_lin l (d16s 8 (x * 256)) (d16s_lt 8 h1) hl', d16s_xor 8 _ _ hc h1, adv_xor _ _ _ (d16s_lt 8 hc) (d16s_lt 8 h1), Nat.xor_assoc]
theorem crc16_cons0 (x : Nat) (l : List Nat) (hx : x < 256) (hl : ∀ y ∈ l, y < 256) : crc16 0 (x :: l) = adv (l.length + 1) (x * 256) ^^^ crc16 0 l := by
  show crc16 (d16s 8 (0 ^^^ (x * 256))) l = adv l.length (d16s 8 (x * 256)) ^^^ crc16 0 l
  rw [Nat.zero_xor, crc16_lin l _ (d16s_lt 8 (by omega)) hl]
theorem adv_split (k c : Nat) (hc : c < 65536) : adv (k + 1) c = adv (k + 1) (c / 256 * 256) ^^^ adv k (c % 256 * 256) := by
  have h := adv_xor (k + 1) (c / 256 * 256) (c % 256) (by omega) (by omega)
  rw [split_byte] at h
  rw [h]
  congr 1
  show adv k (d16s 8 (c % 256)) = _
  rw [d16s_low _ (by omega)]
theorem up8_xor (a b : Nat) : (a ^^^ b) * 256 = a * 256 ^^^ b * 256 := xor_up 8 a b
theorem ac8 (x0 x1 y0 y1 a b c d e f : Nat) : (x0 ^^^ y0) ^^^ (x1 ^^^ y1) ^^^ a ^^^ b ^^^ c ^^^ d ^^^ e ^^^ f = (y0 ^^^ y1) ^^^ (x0 ^^^ (x1 ^^^ (a ^^^ (b ^^^ (c ^^^ (d ^^^ (e ^^^ f))))))) := by
  rw [swap4, Nat.xor_comm (x0 ^^^ x1)]
  simp only [Nat.xor_assoc]
theorem eight_bytes (c b0 b1 b2 b3 b4 b5 b6 b7 : Nat) (hc : c < 65536) (h0 : b0 < 256) (h1 : b1 < 256) (h2 : b2 < 256) (h3 : b3 < 256) (h4 : b4 < 256) (h5 : b5 < 256) (h6 : b6 < 256) (h7 : b7 < 256) :
    adv 8 ((b0 ^^^ c / 256) * 256) ^^^ adv 7 ((b1 ^^^ c % 256) * 256) ^^^ adv 6 (b2 * 256) ^^^ adv 5 (b3 * 256) ^^^ adv 4 (b4 * 256) ^^^ adv 3 (b5 * 256) ^^^ adv 2 (b6 * 256) ^^^ adv 1 (b7 * 256) = crc16 c [b0, b1, b2, b3, b4, b5, b6, b7] := by
  rw [crc16_lin _ c hc (by simp; omega), crc16_cons0 b0 _ h0 (by simp; omega), crc16_cons0 b1 _ h1 (by simp; omega), crc16_cons0 b2 _ h2 (by simp; omega), crc16_cons0 b3 _ h3 (by simp; omega), crc16_cons0 b4 _ h4 (by simp; omega), crc16_cons0 b5 _ h5 (by simp; omega), crc16_cons0 b6 _ h6 (by simp; omega), crc16_cons0 b7 _ h7 (by simp)]
  rw [up8_xor, up8_xor, adv_xor 8 _ _ (by omega) (by omega), adv_xor 7 _ _ (by omega) (by omega)]
  simp only [List.length_cons, List.length_nil, Nat.zero_add, Nat.reduceAdd]
  rw [adv_split 7 c hc, show crc16 0 [] = 0 from rfl, Nat.xor_zero]
  exact ac8 _ _ _ _ _ _ _ _ _ _
end Go.Proofs.YtgkenhmbilkhdaaGreatDoor
