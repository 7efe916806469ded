import Derived.Handy
namespace Go.Proofs.YtgkenhmbilkhdaaGreatDoor
/-! ### One bit, one byte, a text, of each sum -/
def d8 (x : Nat) : Nat := (x * 2 % 256) ^^^ (x / 128 * 7)
def d8s : Nat → Nat → Nat
  | 0, x => x
  | k + 1, x => d8s k (d8 x)
def d16 (x : Nat) : Nat := (x * 2 % 65536) ^^^ (x / 32768 * 32773)
def d16s : Nat → Nat → Nat
  | 0, x => x
  | k + 1, x => d16s k (d16 x)
def crc8 (c : Nat) (l : List Nat) : Nat := l.foldl (fun c x => d8s 8 (c ^^^ x)) c
def crc16 (c : Nat) (l : List Nat) : Nat := l.foldl (fun c x => d16s 8 (c ^^^ (x * 256))) c

theorem d8_lt {x : Nat} (h : x < 256) : d8 x < 256 := Nat.xor_lt_two_pow (n := 8) (by omega) (by omega)
theorem d8s_lt : ∀ (k : Nat) {x : Nat}, x < 256 → d8s k x < 256
  | 0, _, h => h
  | k + 1, _, h => d8s_lt k (d8_lt h)
theorem d16_lt {x : Nat} (h : x < 65536) : d16 x < 65536 := Nat.xor_lt_two_pow (n := 16) (by omega) (by omega)
theorem d16s_lt : ∀ (k : Nat) {x : Nat}, x < 65536 → d16s k x < 65536
  | 0, _, h => h
  | k + 1, _, h => d16s_lt k (d16_lt h)
theorem xor8_lt {a b : Nat} (ha : a < 256) (hb : b < 256) : a ^^^ b < 256 := Nat.xor_lt_two_pow (n := 8) ha hb
theorem xor16_lt {a b : Nat} (ha : a < 65536) (hb : b < 65536) : a ^^^ b < 65536 := Nat.xor_lt_two_pow (n := 16) ha hb
theorem crc8_lt : ∀ (l : List Nat) {c : Nat}, c < 256 → (∀ x ∈ l, x < 256) → crc8 c l < 256
  | [], _, h, _ => h
  | x :: l, _, h, hl => crc8_lt l (d8s_lt 8 (xor8_lt h (hl x (by simp)))) (fun y hy => hl y (by simp [hy]))
theorem crc16_lt : ∀ (l : List Nat) {c : Nat}, c < 65536 → (∀ x ∈ l, x < 256) → crc16 c l < 65536
  | [], _, h, _ => h
  | x :: l, _, h, hl => crc16_lt l (d16s_lt 8 (xor16_lt h (by have := hl x (by simp); omega))) (fun y hy => hl y (by simp [hy]))
theorem crc8_snoc (c : Nat) (l : List Nat) (x : Nat) : crc8 c (l ++ [x]) = d8s 8 (crc8 c l ^^^ x) := by simp [crc8]
theorem crc16_snoc (c : Nat) (l : List Nat) (x : Nat) : crc16 c (l ++ [x]) = d16s 8 (crc16 c l ^^^ (x * 256)) := by simp [crc16]
theorem crc8_app (c : Nat) (l m : List Nat) : crc8 c (l ++ m) = crc8 (crc8 c l) m := by simp [crc8]
theorem crc16_app (c : Nat) (l m : List Nat) : crc16 c (l ++ m) = crc16 (crc16 c l) m := by simp [crc16]

end Go.Proofs.YtgkenhmbilkhdaaGreatDoor
