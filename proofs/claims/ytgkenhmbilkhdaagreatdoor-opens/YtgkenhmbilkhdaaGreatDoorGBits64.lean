import Derived.WalkKit
import Derived.RowKit
import Derived.Laws.BitsLemmas
import Derived.Laws.BitsAllLaws
import Derived.Test.YtgkenhmbilkhdaaGreatDoorProg
import Derived.Test.YtgkenhmbilkhdaaGreatDoorBlk
import Derived.WalkSpells
import Derived.WalkLawsBesides
import Derived.Handy
import Derived.KernelRfl
import Derived.Deep.RegionHeld3
import Derived.BigQuiet
namespace Go.Proofs.YtgkenhmbilkhdaaGreatDoor
open Go.RowKit

theorem ofInt_64 (a : Nat) (ha : a < 9223372036854775808) : (BitVec.ofInt 64 (a : Int)).toNat = a := by
  rw [BitVec.ofInt_natCast, BitVec.toNat_ofNat]; exact Nat.mod_eq_of_lt (by omega)
theorem i64_and_nat (a b : Nat) (ha : a < 9223372036854775808) (hb : b < 9223372036854775808) : bits .and .i64 (a : Int) (b : Int) = ((a &&& b : Nat) : Int) := by
  have hx : a &&& b < 2 ^ 63 := Nat.and_lt_two_pow _ (by omega)
  show IntKind.i64.wrap ((BitVec.ofInt 64 (a : Int) &&& BitVec.ofInt 64 (b : Int)).toNat : Int) = _
  rw [BitVec.toNat_and, ofInt_64 a ha, ofInt_64 b hb, IntKind.wrap_i64]
  omega
theorem i64_or_nat (a b : Nat) (ha : a < 9223372036854775808) (hb : b < 9223372036854775808) : bits .or .i64 (a : Int) (b : Int) = ((a ||| b : Nat) : Int) := by
  have hx : a ||| b < 2 ^ 63 := Nat.or_lt_two_pow (by omega) (by omega)
  show IntKind.i64.wrap ((BitVec.ofInt 64 (a : Int) ||| BitVec.ofInt 64 (b : Int)).toNat : Int) = _
  rw [BitVec.toNat_or, ofInt_64 a ha, ofInt_64 b hb, IntKind.wrap_i64]
  omega
theorem i64_xor_nat (a b : Nat) (ha : a < 9223372036854775808) (hb : b < 9223372036854775808) : bits .xor .i64 (a : Int) (b : Int) = ((a ^^^ b : Nat) : Int) := by
  have hx : a ^^^ b < 2 ^ 63 := Nat.xor_lt_two_pow (by omega) (by omega)
  show IntKind.i64.wrap ((BitVec.ofInt 64 (a : Int) ^^^ BitVec.ofInt 64 (b : Int)).toNat : Int) = _
  rw [BitVec.toNat_xor, ofInt_64 a ha, ofInt_64 b hb, IntKind.wrap_i64]
  omega
theorem i64_and_one (a : Nat) (ha : a < 9223372036854775808) : bits .and .i64 (a : Int) 1 = ((a % 2 : Nat) : Int) := by
  have h := i64_and_nat a 1 ha (by omega)
  rw [nat_mask1] at h
  exact h
theorem i64_and_255 (a : Nat) (ha : a < 9223372036854775808) : bits .and .i64 (a : Int) 255 = ((a % 256 : Nat) : Int) := by
  have h := i64_and_nat a 255 ha (by omega)
  rw [nat_mask8] at h
  exact h
theorem i64_and_65535 (a : Nat) (ha : a < 9223372036854775808) : bits .and .i64 (a : Int) 65535 = ((a % 65536 : Nat) : Int) := by
  have h := i64_and_nat a 65535 ha (by omega)
  rw [show a &&& 65535 = a % 65536 from Nat.and_two_pow_sub_one_eq_mod a 16] at h
  exact h
theorem i64_and_m32 (a : Nat) (ha : a < 9223372036854775808) : bits .and .i64 (a : Int) 4294967295 = ((a % 4294967296 : Nat) : Int) := by
  have h := i64_and_nat a 4294967295 ha (by omega)
  rw [show a &&& 4294967295 = a % 4294967296 from Nat.and_two_pow_sub_one_eq_mod a 32] at h
  exact h
end Go.Proofs.YtgkenhmbilkhdaaGreatDoor

namespace Go.Proofs.YtgkenhmbilkhdaaGreatDoor

/-! ### The MD5, in plain numbers -/
def sinT : List Nat := [0xd76aa478, 0xe8c7b756, 0x242070db, 0xc1bdceee, 0xf57c0faf, 0x4787c62a, 0xa8304613, 0xfd469501,
  0x698098d8, 0x8b44f7af, 0xffff5bb1, 0x895cd7be, 0x6b901122, 0xfd987193, 0xa679438e, 0x49b40821,
  0xf61e2562, 0xc040b340, 0x265e5a51, 0xe9b6c7aa, 0xd62f105d, 0x02441453, 0xd8a1e681, 0xe7d3fbc8,
  0x21e1cde6, 0xc33707d6, 0xf4d50d87, 0x455a14ed, 0xa9e3e905, 0xfcefa3f8, 0x676f02d9, 0x8d2a4c8a,
  0xfffa3942, 0x8771f681, 0x6d9d6122, 0xfde5380c, 0xa4beea44, 0x4bdecfa9, 0xf6bb4b60, 0xbebfbc70,
  0x289b7ec6, 0xeaa127fa, 0xd4ef3085, 0x04881d05, 0xd9d4d039, 0xe6db99e5, 0x1fa27cf8, 0xc4ac5665,
  0xf4292244, 0x432aff97, 0xab9423a7, 0xfc93a039, 0x655b59c3, 0x8f0ccc92, 0xffeff47d, 0x85845dd1,
  0x6fa87e4f, 0xfe2ce6e0, 0xa3014314, 0x4e0811a1, 0xf7537e82, 0xbd3af235, 0x2ad7d2bb, 0xeb86d391]
def turnT : List Nat := [7, 12, 17, 22, 5, 9, 14, 20, 4, 11, 16, 23, 6, 10, 15, 21]
def mK (i : Nat) : Nat := sinT.getD i 0
def mS (i : Nat) : Nat := turnT.getD (i / 16 * 4 + i % 4) 0

def mF (i b c d : Nat) : Nat :=
  if i / 16 = 0 then (b &&& c) ||| ((4294967295 - b) &&& d)
  else if i / 16 = 1 then (b &&& d) ||| (c &&& (4294967295 - d))
  else if i / 16 = 2 then (b ^^^ c) ^^^ d
  else c ^^^ (b ||| (4294967295 - d))
def mG (i : Nat) : Nat :=
  if i / 16 = 0 then i else if i / 16 = 1 then (5 * i + 1) % 16 else if i / 16 = 2 then (3 * i + 5) % 16 else 7 * i % 16
def rot (n x : Nat) : Nat := (x * 2 ^ n % 4294967296) ||| (x / 2 ^ (32 - n))

/-- The four words. -/
structure Quad where
  a : Nat
  b : Nat
  c : Nat
  d : Nat

def Quad.ok (q : Quad) : Prop := q.a < 4294967296 ∧ q.b < 4294967296 ∧ q.c < 4294967296 ∧ q.d < 4294967296
def mf (W : Nat → Nat) (i : Nat) (q : Quad) : Nat := (mF i q.b q.c q.d + (q.a + mK i + W (mG i))) % 4294967296
def rnd (W : Nat → Nat) (i : Nat) (q : Quad) : Quad := ⟨q.d, (q.b + rot (mS i) (mf W i q)) % 4294967296, q.b, q.c⟩
def rnds (W : Nat → Nat) : Nat → Quad → Quad
  | 0, q => q
  | k + 1, q => rnd W k (rnds W k q)
def quadAdd (h r : Quad) : Quad := ⟨(h.a + r.a) % 4294967296, (h.b + r.b) % 4294967296, (h.c + r.c) % 4294967296, (h.d + r.d) % 4294967296⟩
def mixQ (W : Nat → Nat) (h : Quad) : Quad := quadAdd h (rnds W 64 h)
def wordOf (l : List Nat) (g : Nat) : Nat := l.getD (4 * g) 0 + l.getD (4 * g + 1) 0 * 256 + l.getD (4 * g + 2) 0 * 65536 + l.getD (4 * g + 3) 0 * 16777216
def h0Q : Quad := ⟨0x67452301, 0xefcdab89, 0x98badcfe, 0x10325476⟩
/-- The state behind the first j chunks of a text. -/
def md (l : List Nat) : Nat → Quad
  | 0 => h0Q
  | j + 1 => mixQ (wordOf ((l.drop (64 * j)).take 64)) (md l j)

theorem not32_lt (x : Nat) : 4294967295 - x < 4294967296 := by omega
theorem mF_lt (i b c d : Nat) (hb : b < 4294967296) (hc : c < 4294967296) (hd : d < 4294967296) : mF i b c d < 4294967296 := by
  unfold mF
  split
  · exact Nat.or_lt_two_pow (n := 32) (Nat.and_lt_two_pow _ hc) (Nat.and_lt_two_pow _ hd)
  split
  · exact Nat.or_lt_two_pow (n := 32) (Nat.and_lt_two_pow _ hd) (Nat.and_lt_two_pow _ (not32_lt d))
  split
  · exact Nat.xor_lt_two_pow (n := 32) (Nat.xor_lt_two_pow (n := 32) hb hc) hd
  · exact Nat.xor_lt_two_pow (n := 32) hc (Nat.or_lt_two_pow (n := 32) hb (not32_lt d))
theorem mG_lt (i : Nat) (h : i < 64) : mG i < 16 := by unfold mG; split <;> (try split) <;> (try split) <;> omega
theorem mS_fin : ∀ i : Fin 64, 1 ≤ mS i.val ∧ mS i.val ≤ 31 := by decide +kernel
theorem mS_bd (i : Nat) (h : i < 64) : 1 ≤ mS i ∧ mS i ≤ 31 := mS_fin ⟨i, h⟩
theorem mK_fin : ∀ i : Fin 64, mK i.val < 4294967296 := by decide +kernel
theorem mK_lt (i : Nat) (h : i < 64) : mK i < 4294967296 := mK_fin ⟨i, h⟩
theorem rot_lt (n x : Nat) (hx : x < 4294967296) : rot n x < 4294967296 :=
  Nat.or_lt_two_pow (n := 32) (by omega) (Nat.lt_of_le_of_lt (Nat.div_le_self _ _) hx)
theorem rnd_ok (W : Nat → Nat) (i : Nat) (q : Quad) (h : q.ok) : (rnd W i q).ok := ⟨h.2.2.2, Nat.mod_lt _ (by omega), h.2.1, h.2.2.1⟩
theorem rnds_ok (W : Nat → Nat) : ∀ (k : Nat) (q : Quad), q.ok → (rnds W k q).ok
  | 0, _, h => h
  | k + 1, q, h => rnd_ok W k _ (rnds_ok W k q h)
theorem mixQ_ok (W : Nat → Nat) (q : Quad) : (mixQ W q).ok := ⟨Nat.mod_lt _ (by omega), Nat.mod_lt _ (by omega), Nat.mod_lt _ (by omega), Nat.mod_lt _ (by omega)⟩
theorem md_ok (l : List Nat) : ∀ j, (md l j).ok
  | 0 => by unfold Quad.ok md h0Q; decide
  | _ + 1 => mixQ_ok _ _
theorem rnd_congr {W V : Nat → Nat} (h : ∀ g, g < 16 → W g = V g) (i : Nat) (hi : i < 64) (q : Quad) : rnd W i q = rnd V i q := by
  unfold rnd mf
  rw [h _ (mG_lt i hi)]
theorem rnds_congr {W V : Nat → Nat} (h : ∀ g, g < 16 → W g = V g) : ∀ (k : Nat) (_ : k ≤ 64) (q : Quad), rnds W k q = rnds V k q
  | 0, _, _ => rfl
  | k + 1, hk, q => by
    show rnd W k (rnds W k q) = rnd V k (rnds V k q)
    rw [rnds_congr h k (by omega) q, rnd_congr h k (by omega)]
theorem byte_lt {l : List Nat} (h : ∀ x ∈ l, x < 256) (i : Nat) : l.getD i 0 < 256 := by
  rcases Nat.lt_or_ge i l.length with hi | hi
  · rw [List.getD_eq_getElem?_getD, List.getElem?_eq_getElem hi]; exact h _ (List.getElem_mem hi)
  · rw [List.getD_eq_getElem?_getD, List.getElem?_eq_none hi]; decide
theorem wordOf_lt {l : List Nat} (h : ∀ x ∈ l, x < 256) (g : Nat) : wordOf l g < 4294967296 := by
  have h0 := byte_lt h (4 * g); have h1 := byte_lt h (4 * g + 1); have h2 := byte_lt h (4 * g + 2); have h3 := byte_lt h (4 * g + 3)
  unfold wordOf
  omega
end Go.Proofs.YtgkenhmbilkhdaaGreatDoor

namespace Go.Proofs.YtgkenhmbilkhdaaGreatDoor
open Go.RowKit

theorem xor_ones (b : Nat) (hb : b < 4294967296) : 4294967295 ^^^ b = 4294967295 - b := by
  have h1 : (BitVec.allOnes 32 ^^^ BitVec.ofNat 32 b) = ~~~ (BitVec.ofNat 32 b) := by rw [BitVec.allOnes_xor]
  have h2 := congrArg BitVec.toNat h1
  rw [BitVec.toNat_xor, BitVec.toNat_not, BitVec.toNat_allOnes, BitVec.toNat_ofNat, Nat.mod_eq_of_lt hb] at h2
  simpa using h2
theorem u32_not (b : Nat) (hb : b < 4294967296) : bits .xor .u32 IntKind.u32.max (b : Int) = ((4294967295 - b : Nat) : Int) := by
  have h := u32_xor_nat 4294967295 b (by omega) hb
  rw [xor_ones b hb] at h
  exact h
theorem and32 {a b : Nat} (hb : b < 4294967296) : a &&& b < 4294967296 := Nat.and_lt_two_pow (n := 32) _ hb
theorem or32 {a b : Nat} (ha : a < 4294967296) (hb : b < 4294967296) : a ||| b < 4294967296 := Nat.or_lt_two_pow (n := 32) ha hb
theorem xor32 {a b : Nat} (ha : a < 4294967296) (hb : b < 4294967296) : a ^^^ b < 4294967296 := Nat.xor_lt_two_pow (n := 32) ha hb

theorem mF_0 (i b c d : Nat) (h : i / 16 = 0) (hb : b < 4294967296) (hc : c < 4294967296) (hd : d < 4294967296) :
    bits .or .u32 (bits .and .u32 b c) (bits .and .u32 (bits .xor .u32 IntKind.u32.max b) d) = ((mF i b c d : Nat) : Int) := by
  rw [u32_not b hb, u32_and_nat b c hb hc, u32_and_nat _ d (not32_lt b) hd, u32_or_nat _ _ (and32 hc) (and32 hd)]
  unfold mF; rw [if_pos h]
theorem mF_1 (i b c d : Nat) (h : i / 16 = 1) (hb : b < 4294967296) (hc : c < 4294967296) (hd : d < 4294967296) :
    bits .or .u32 (bits .and .u32 b d) (bits .andNot .u32 c d) = ((mF i b c d : Nat) : Int) := by
  rw [u32_and_nat b d hb hd, u32_andNot_nat c d hc hd, u32_or_nat _ _ (and32 hd) (and32 (not32_lt d))]
  unfold mF; rw [if_neg (by omega), if_pos h]
theorem mF_2 (i b c d : Nat) (h : i / 16 = 2) (hb : b < 4294967296) (hc : c < 4294967296) (hd : d < 4294967296) :
    bits .xor .u32 (bits .xor .u32 b c) d = ((mF i b c d : Nat) : Int) := by
  rw [u32_xor_nat b c hb hc, u32_xor_nat _ d (xor32 hb hc) hd]
  unfold mF; rw [if_neg (by omega), if_neg (by omega), if_pos h]
theorem mF_3 (i b c d : Nat) (h : i / 16 = 3) (hb : b < 4294967296) (hc : c < 4294967296) (hd : d < 4294967296) :
    bits .xor .u32 c (bits .or .u32 b (bits .xor .u32 IntKind.u32.max d)) = ((mF i b c d : Nat) : Int) := by
  rw [u32_not d hd, u32_or_nat b _ hb (not32_lt d), u32_xor_nat c _ hc (or32 hb (not32_lt d))]
  unfold mF; rw [if_neg (by omega), if_neg (by omega), if_neg (by omega)]
theorem mG_0 (i : Nat) (h : i / 16 = 0) : mG i = i := by unfold mG; rw [if_pos h]
theorem mG_1 (i : Nat) (h : i / 16 = 1) : mG i = (5 * i + 1) % 16 := by unfold mG; rw [if_neg (by omega), if_pos h]
theorem mG_2 (i : Nat) (h : i / 16 = 2) : mG i = (3 * i + 5) % 16 := by unfold mG; rw [if_neg (by omega), if_neg (by omega), if_pos h]
theorem mG_3 (i : Nat) (h : i / 16 = 3) : mG i = 7 * i % 16 := by unfold mG; rw [if_neg (by omega), if_neg (by omega), if_neg (by omega)]
theorem ret2_eq {x y : Nat} {X Y : Int} (hX : X = x) (hY : Y = y) : Ending.returned (.tuple #[.int .u32 X, .int .i64 Y]) = .returned (.tuple #[.int .u32 x, .int .i64 y]) := by rw [hX, hY]

set_option maxHeartbeats 1000000 in
theorem step_any (i b c d : Nat) (hi : i < 64) (hb : b < 4294967296) (hc : c < 4294967296) (hd : d < 4294967296) (w : World) :
    Calls Tryz.prog 124 #[.int .i64 i, .int .u32 b, .int .u32 c, .int .u32 d] w fun e w' => e = .returned (.tuple #[.int .u32 (mF i b c d : Nat), .int .i64 (mG i : Nat)]) ∧ w' = w := by
  rcases (show i / 16 = 0 ∨ i / 16 = 1 ∨ i / 16 = 2 ∨ i / 16 = 3 by omega) with hq | hq | hq | hq
  · have F := mF_0 i b c d hq hb hc hd
    have G := mG_0 i hq
    have e1 : (i : Int) / 16 = 0 := by omega
    have HF : Hid (bits .or .u32 (bits .and .u32 b c) (bits .and .u32 (bits .xor .u32 IntKind.u32.max b) d) = ((mF i b c d : Nat) : Int)) := F
    have HG : Hid (mG i = i) := G
    clear F G
    go_enter Tryz.func124, Tryz.ntmps124
    go_wp2
    go_ret2
    exact ⟨ret2_eq HF.out (by rw [HG.out]), rfl⟩
  · have HF : Hid (bits .or .u32 (bits .and .u32 b d) (bits .andNot .u32 c d) = ((mF i b c d : Nat) : Int)) := mF_1 i b c d hq hb hc hd
    have HG : Hid (mG i = (5 * i + 1) % 16) := mG_1 i hq
    have e1 : (i : Int) / 16 = 1 := by omega
    go_enter Tryz.func124, Tryz.ntmps124
    go_wp2
    go_ret2
    exact ⟨ret2_eq HF.out (by rw [HG.out]; omega), rfl⟩
  · have HF : Hid (bits .xor .u32 (bits .xor .u32 b c) d = ((mF i b c d : Nat) : Int)) := mF_2 i b c d hq hb hc hd
    have HG : Hid (mG i = (3 * i + 5) % 16) := mG_2 i hq
    have e1 : (i : Int) / 16 = 2 := by omega
    go_enter Tryz.func124, Tryz.ntmps124
    go_wp2
    go_ret2
    exact ⟨ret2_eq HF.out (by rw [HG.out]; omega), rfl⟩
  · have HF : Hid (bits .xor .u32 c (bits .or .u32 b (bits .xor .u32 IntKind.u32.max d)) = ((mF i b c d : Nat) : Int)) := mF_3 i b c d hq hb hc hd
    have HG : Hid (mG i = 7 * i % 16) := mG_3 i hq
    have e1 : (i : Int) / 16 = 3 := by omega
    go_enter Tryz.func124, Tryz.ntmps124
    go_wp2
    go_ret2
    exact ⟨ret2_eq HF.out (by rw [HG.out]; omega), rfl⟩

theorem rot_bits (n x : Nat) (hx : x < 4294967296) : bits .or .u32 ((x : Int) * 2 ^ n % 4294967296) ((x : Int) / 2 ^ (32 - n)) = ((rot n x : Nat) : Int) := by
  have h := u32_or_nat (x * 2 ^ n % 4294967296) (x / 2 ^ (32 - n)) (Nat.mod_lt _ (by omega)) (Nat.lt_of_le_of_lt (Nat.div_le_self _ _) hx)
  rw [Int.natCast_emod, Int.natCast_mul, Int.natCast_pow, Int.natCast_ediv, Int.natCast_pow] at h
  exact h
theorem ret1_eq {k : IntKind} {X Y : Int} (h : X = Y) : Ending.returned (.int k X) = .returned (.int k Y) := by rw [h]

theorem rotl_any (x n : Nat) (hx : x < 4294967296) (h1 : 1 ≤ n) (h2 : n ≤ 31) (w : World) :
    Calls Tryz.prog 125 #[.int .u32 x, .int .i64 n] w fun e w' => e = .returned (.int .u32 (rot n x : Nat)) ∧ w' = w := by
  have h3 : (n : Int) ≤ 31 := by omega
  have h4 : (1 : Int) ≤ (n : Int) := by omega
  have hand : bits .and .u64 (n : Int) 31 = (n : Int) := by
    have h := u64_and_nat n 31 (by omega) (by omega)
    rw [nat_mask5, Nat.mod_eq_of_lt (by omega)] at h
    exact h
  go_enter Tryz.func125, Tryz.ntmps125
  go_wp2
  go_ret
  exact ⟨ret1_eq (rot_bits n x hx), rfl⟩

/-! ### The cells of an MD5 -/
def byteV (x : Nat) : Value := .int .u8 (x : Int)
def mdCells (q : Quad) (bl : List Nat) (n : Nat) : Array Value := ([Value.int .u32 (q.a : Int), .int .u32 (q.b : Int), .int .u32 (q.c : Int), .int .u32 (q.d : Int)] ++ bl.map byteV ++ [Value.int .u64 (n : Int)]).toArray

theorem mdCells_block (q : Quad) (bl : List Nat) (n i : Nat) (h : i < bl.length) : (mdCells q bl n)[4 + i]? = some (byteV (bl.getD i 0)) := by
  unfold mdCells
  rw [List.getElem?_toArray, List.append_assoc, List.getElem?_append_right (by simp)]
  simp only [List.length_cons, List.length_nil]
  rw [show 4 + i - (0 + 1 + 1 + 1 + 1) = i by omega, List.getElem?_append_left (by simpa using h), List.getElem?_map, List.getElem?_eq_getElem h, List.getD_eq_getElem?_getD, List.getElem?_eq_getElem h]
  rfl
theorem mdCells_size (q : Quad) (bl : List Nat) (n : Nat) (h : bl.length = 64) : (mdCells q bl n)[68]? = some (.int .u64 (n : Int)) := by
  unfold mdCells
  rw [List.getElem?_toArray, List.getElem?_append_right (by simp [h])]
  simp [h]
theorem mdCells_a (q : Quad) (bl : List Nat) (n : Nat) : (mdCells q bl n)[0]? = some (.int .u32 (q.a : Int)) := by unfold mdCells; simp
theorem mdCells_b (q : Quad) (bl : List Nat) (n : Nat) : (mdCells q bl n)[1]? = some (.int .u32 (q.b : Int)) := by unfold mdCells; simp
theorem mdCells_c (q : Quad) (bl : List Nat) (n : Nat) : (mdCells q bl n)[2]? = some (.int .u32 (q.c : Int)) := by unfold mdCells; simp
theorem mdCells_d (q : Quad) (bl : List Nat) (n : Nat) : (mdCells q bl n)[3]? = some (.int .u32 (q.d : Int)) := by unfold mdCells; simp
end Go.Proofs.YtgkenhmbilkhdaaGreatDoor
