import Derived.Test.YtgkenhmbilkhdaaGreatDoorBits64
namespace Go.Proofs.YtgkenhmbilkhdaaGreatDoor

/-! ### The MD5, in plain numbers -/
def sinT : List Nat := [0xd76aa478, 0xe8c7b756, 0x242070db, 0xc1bdceee, 0xf57c0faf, 0x4787c62a, 0xa8304613, 0xfd469501,
  0x698098d8, 0x8b44f7af, 0xffff5bb1, 0x895cd7be, 0x6b901122, 0xfd987193, 0xa679438e, 0x49b40821,
  0xf61e2562, 0xc040b340, 0x265e5a51, 0xe9b6c7aa, 0xd62f105d, 0x02441453, 0xd8a1e681, 0xe7d3fbc8,
  0x21e1cde6, 0xc33707d6, 0xf4d50d87, 0x455a14ed, 0xa9e3e905, 0xfcefa3f8, 0x676f02d9, 0x8d2a4c8a,
  0xfffa3942, 0x8771f681, 0x6d9d6122, 0xfde5380c, 0xa4beea44, 0x4bdecfa9, 0xf6bb4b60, 0xbebfbc70,
  0x289b7ec6, 0xeaa127fa, 0xd4ef3085, 0x04881d05, 0xd9d4d039, 0xe6db99e5, 0x1fa27cf8, 0xc4ac5665,
  0xf4292244, 0x432aff97, 0xab9423a7, 0xfc93a039, 0x655b59c3, 0x8f0ccc92, 0xffeff47d, 0x85845dd1,
  0x6fa87e4f, 0xfe2ce6e0, 0xa3014314, 0x4e0811a1, 0xf7537e82, 0xbd3af235, 0x2ad7d2bb, 0xeb86d391]
def turnT : List Nat := [7, 12, 17, 22, 5, 9, 14, 20, 4, 11, 16, 23, 6, 10, 15, 21]
def mK (i : Nat) : Nat := sinT.getD i 0
def mS (i : Nat) : Nat := turnT.getD (i / 16 * 4 + i % 4) 0

def mF (i b c d : Nat) : Nat :=
  if i / 16 = 0 then (b &&& c) ||| ((4294967295 - b) &&& d)
  else if i / 16 = 1 then (b &&& d) ||| (c &&& (4294967295 - d))
  else if i / 16 = 2 then (b ^^^ c) ^^^ d
  else c ^^^ (b ||| (4294967295 - d))
def mG (i : Nat) : Nat :=
  if i / 16 = 0 then i else if i / 16 = 1 then (5 * i + 1) % 16 else if i / 16 = 2 then (3 * i + 5) % 16 else 7 * i % 16
def rot (n x : Nat) : Nat := (x * 2 ^ n % 4294967296) ||| (x / 2 ^ (32 - n))

/-- The four words. -/
structure Quad where
  a : Nat
  b : Nat
  c : Nat
  d : Nat

def Quad.ok (q : Quad) : Prop := q.a < 4294967296 ∧ q.b < 4294967296 ∧ q.c < 4294967296 ∧ q.d < 4294967296
def mf (W : Nat → Nat) (i : Nat) (q : Quad) : Nat := (mF i q.b q.c q.d + (q.a + mK i + W (mG i))) % 4294967296
def rnd (W : Nat → Nat) (i : Nat) (q : Quad) : Quad := ⟨q.d, (q.b + rot (mS i) (mf W i q)) % 4294967296, q.b, q.c⟩
def rnds (W : Nat → Nat) : Nat → Quad → Quad
  | 0, q => q
  | k + 1, q => rnd W k (rnds W k q)
def quadAdd (h r : Quad) : Quad := ⟨(h.a + r.a) % 4294967296, (h.b + r.b) % 4294967296, (h.c + r.c) % 4294967296, (h.d + r.d) % 4294967296⟩
def mixQ (W : Nat → Nat) (h : Quad) : Quad := quadAdd h (rnds W 64 h)
def wordOf (l : List Nat) (g : Nat) : Nat := l.getD (4 * g) 0 + l.getD (4 * g + 1) 0 * 256 + l.getD (4 * g + 2) 0 * 65536 + l.getD (4 * g + 3) 0 * 16777216
def h0Q : Quad := ⟨0x67452301, 0xefcdab89, 0x98badcfe, 0x10325476⟩
/-- The state behind the first j chunks of a text. -/
def md (l : List Nat) : Nat → Quad
  | 0 => h0Q
  | j + 1 => mixQ (wordOf ((l.drop (64 * j)).take 64)) (md l j)

theorem not32_lt (x : Nat) : 4294967295 - x < 4294967296 := by omega
theorem mF_lt (i b c d : Nat) (hb : b < 4294967296) (hc : c < 4294967296) (hd : d < 4294967296) : mF i b c d < 4294967296 := by
  unfold mF
  split
  · exact Nat.or_lt_two_pow (n := 32) (Nat.and_lt_two_pow _ hc) (Nat.and_lt_two_pow _ hd)
  split
  · exact Nat.or_lt_two_pow (n := 32) (Nat.and_lt_two_pow _ hd) (Nat.and_lt_two_pow _ (not32_lt d))
  split
  · exact Nat.xor_lt_two_pow (n := 32) (Nat.xor_lt_two_pow (n := 32) hb hc) hd
  · exact Nat.xor_lt_two_pow (n := 32) hc (Nat.or_lt_two_pow (n := 32) hb (not32_lt d))
theorem mG_lt (i : Nat) (h : i < 64) : mG i < 16 := by unfold mG; split <;> (try split) <;> (try split) <;> omega
theorem mS_fin : ∀ i : Fin 64, 1 ≤ mS i.val ∧ mS i.val ≤ 31 := by decide +kernel
theorem mS_bd (i : Nat) (h : i < 64) : 1 ≤ mS i ∧ mS i ≤ 31 := mS_fin ⟨i, h⟩
theorem mK_fin : ∀ i : Fin 64, mK i.val < 4294967296 := by decide +kernel
theorem mK_lt (i : Nat) (h : i < 64) : mK i < 4294967296 := mK_fin ⟨i, h⟩
theorem rot_lt (n x : Nat) (hx : x < 4294967296) : rot n x < 4294967296 :=
  Nat.or_lt_two_pow (n := 32) (by omega) (Nat.lt_of_le_of_lt (Nat.div_le_self _ _) hx)
theorem rnd_ok (W : Nat → Nat) (i : Nat) (q : Quad) (h : q.ok) : (rnd W i q).ok := ⟨h.2.2.2, Nat.mod_lt _ (by omega), h.2.1, h.2.2.1⟩
theorem rnds_ok (W : Nat → Nat) : ∀ (k : Nat) (q : Quad), q.ok → (rnds W k q).ok
  | 0, _, h => h
  | k + 1, q, h => rnd_ok W k _ (rnds_ok W k q h)
theorem mixQ_ok (W : Nat → Nat) (q : Quad) : (mixQ W q).ok := ⟨Nat.mod_lt _ (by omega), Nat.mod_lt _ (by omega), Nat.mod_lt _ (by omega), Nat.mod_lt _ (by omega)⟩
theorem md_ok (l : List Nat) : ∀ j, (md l j).ok
  | 0 => by unfold Quad.ok md h0Q; decide
  | _ + 1 => mixQ_ok _ _
theorem rnd_congr {W V : Nat → Nat} (h : ∀ g, g < 16 → W g = V g) (i : Nat) (hi : i < 64) (q : Quad) : rnd W i q = rnd V i q := by
  unfold rnd mf
  rw [h _ (mG_lt i hi)]
theorem rnds_congr {W V : Nat → Nat} (h : ∀ g, g < 16 → W g = V g) : ∀ (k : Nat) (_ : k ≤ 64) (q : Quad), rnds W k q = rnds V k q
  | 0, _, _ => rfl
  | k + 1, hk, q => by
    show rnd W k (rnds W k q) = rnd V k (rnds V k q)
    rw [rnds_congr h k (by omega) q, rnd_congr h k (by omega)]
theorem byte_lt {l : List Nat} (h : ∀ x ∈ l, x < 256) (i : Nat) : l.getD i 0 < 256 := by
  rcases Nat.lt_or_ge i l.length with hi | hi
  · rw [List.getD_eq_getElem?_getD, List.getElem?_eq_getElem hi]; exact h _ (List.getElem_mem hi)
  · rw [List.getD_eq_getElem?_getD, List.getElem?_eq_none hi]; decide
theorem wordOf_lt {l : List Nat} (h : ∀ x ∈ l, x < 256) (g : Nat) : wordOf l g < 4294967296 := by
  have h0 := byte_lt h (4 * g); have h1 := byte_lt h (4 * g + 1); have h2 := byte_lt h (4 * g + 2); have h3 := byte_lt h (4 * g + 3)
  unfold wordOf
  omega
end Go.Proofs.YtgkenhmbilkhdaaGreatDoor
