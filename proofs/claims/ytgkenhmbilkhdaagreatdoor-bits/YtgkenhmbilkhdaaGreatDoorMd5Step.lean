import Derived.Test.YtgkenhmbilkhdaaGreatDoorProg
import Derived.Test.YtgkenhmbilkhdaaGreatDoorMd5Pure
import Derived.Test.YtgkenhmbilkhdaaGreatDoorBlk
import Derived.WalkSpells
import Derived.WalkLawsBesides
import Derived.Handy
import Derived.KernelRfl
import Derived.Deep.RegionHeld3
import Derived.BigQuiet
namespace Go.Proofs.YtgkenhmbilkhdaaGreatDoor
open Go.RowKit

theorem xor_ones (b : Nat) (hb : b < 4294967296) : 4294967295 ^^^ b = 4294967295 - b := by
  have h1 : (BitVec.allOnes 32 ^^^ BitVec.ofNat 32 b) = ~~~ (BitVec.ofNat 32 b) := by rw [BitVec.allOnes_xor]
  have h2 := congrArg BitVec.toNat h1
  rw [BitVec.toNat_xor, BitVec.toNat_not, BitVec.toNat_allOnes, BitVec.toNat_ofNat, Nat.mod_eq_of_lt hb] at h2
  simpa using h2
theorem u32_not (b : Nat) (hb : b < 4294967296) : bits .xor .u32 IntKind.u32.max (b : Int) = ((4294967295 - b : Nat) : Int) := by
  have h := u32_xor_nat 4294967295 b (by omega) hb
  rw [xor_ones b hb] at h
  exact h
theorem and32 {a b : Nat} (hb : b < 4294967296) : a &&& b < 4294967296 := Nat.and_lt_two_pow (n := 32) _ hb
theorem or32 {a b : Nat} (ha : a < 4294967296) (hb : b < 4294967296) : a ||| b < 4294967296 := Nat.or_lt_two_pow (n := 32) ha hb
theorem xor32 {a b : Nat} (ha : a < 4294967296) (hb : b < 4294967296) : a ^^^ b < 4294967296 := Nat.xor_lt_two_pow (n := 32) ha hb

theorem mF_0 (i b c d : Nat) (h : i / 16 = 0) (hb : b < 4294967296) (hc : c < 4294967296) (hd : d < 4294967296) :
    bits .or .u32 (bits .and .u32 b c) (bits .and .u32 (bits .xor .u32 IntKind.u32.max b) d) = ((mF i b c d : Nat) : Int) := by
  rw [u32_not b hb, u32_and_nat b c hb hc, u32_and_nat _ d (not32_lt b) hd, u32_or_nat _ _ (and32 hc) (and32 hd)]
  unfold mF; rw [if_pos h]
theorem mF_1 (i b c d : Nat) (h : i / 16 = 1) (hb : b < 4294967296) (hc : c < 4294967296) (hd : d < 4294967296) :
    bits .or .u32 (bits .and .u32 b d) (bits .andNot .u32 c d) = ((mF i b c d : Nat) : Int) := by
  rw [u32_and_nat b d hb hd, u32_andNot_nat c d hc hd, u32_or_nat _ _ (and32 hd) (and32 (not32_lt d))]
  unfold mF; rw [if_neg (by omega), if_pos h]
theorem mF_2 (i b c d : Nat) (h : i / 16 = 2) (hb : b < 4294967296) (hc : c < 4294967296) (hd : d < 4294967296) :
    bits .xor .u32 (bits .xor .u32 b c) d = ((mF i b c d : Nat) : Int) := by
  rw [u32_xor_nat b c hb hc, u32_xor_nat _ d (xor32 hb hc) hd]
  unfold mF; rw [if_neg (by omega), if_neg (by omega), if_pos h]
theorem mF_3 (i b c d : Nat) (h : i / 16 = 3) (hb : b < 4294967296) (hc : c < 4294967296) (hd : d < 4294967296) :
    bits .xor .u32 c (bits .or .u32 b (bits .xor .u32 IntKind.u32.max d)) = ((mF i b c d : Nat) : Int) := by
  rw [u32_not d hd, u32_or_nat b _ hb (not32_lt d), u32_xor_nat c _ hc (or32 hb (not32_lt d))]
  unfold mF; rw [if_neg (by omega), if_neg (by omega), if_neg (by omega)]
theorem mG_0 (i : Nat) (h : i / 16 = 0) : mG i = i := by unfold mG; rw [if_pos h]
theorem mG_1 (i : Nat) (h : i / 16 = 1) : mG i = (5 * i + 1) % 16 := by unfold mG; rw [if_neg (by omega), if_pos h]
theorem mG_2 (i : Nat) (h : i / 16 = 2) : mG i = (3 * i + 5) % 16 := by unfold mG; rw [if_neg (by omega), if_neg (by omega), if_pos h]
theorem mG_3 (i : Nat) (h : i / 16 = 3) : mG i = 7 * i % 16 := by unfold mG; rw [if_neg (by omega), if_neg (by omega), if_neg (by omega)]
theorem ret2_eq {x y : Nat} {X Y : Int} (hX : X = x) (hY : Y = y) : Ending.returned (.tuple #[.int .u32 X, .int .i64 Y]) = .returned (.tuple #[.int .u32 x, .int .i64 y]) := by rw [hX, hY]

set_option maxHeartbeats 1000000 in
theorem step_any (i b c d : Nat) (hi : i < 64) (hb : b < 4294967296) (hc : c < 4294967296) (hd : d < 4294967296) (w : World) :
    Calls Tryz.prog 124 #[.int .i64 i, .int .u32 b, .int .u32 c, .int .u32 d] w fun e w' => e = .returned (.tuple #[.int .u32 (mF i b c d : Nat), .int .i64 (mG i : Nat)]) ∧ w' = w := by
  rcases (show i / 16 = 0 ∨ i / 16 = 1 ∨ i / 16 = 2 ∨ i / 16 = 3 by omega) with hq | hq | hq | hq
  · have F := mF_0 i b c d hq hb hc hd
    have G := mG_0 i hq
    have e1 : (i : Int) / 16 = 0 := by omega
    have HF : Hid (bits .or .u32 (bits .and .u32 b c) (bits .and .u32 (bits .xor .u32 IntKind.u32.max b) d) = ((mF i b c d : Nat) : Int)) := F
    have HG : Hid (mG i = i) := G
    clear F G
    go_enter Tryz.func124, Tryz.ntmps124
    go_wp2
    go_ret2
    exact ⟨ret2_eq HF.out (by rw [HG.out]), rfl⟩
  · have HF : Hid (bits .or .u32 (bits .and .u32 b d) (bits .andNot .u32 c d) = ((mF i b c d : Nat) : Int)) := mF_1 i b c d hq hb hc hd
    have HG : Hid (mG i = (5 * i + 1) % 16) := mG_1 i hq
    have e1 : (i : Int) / 16 = 1 := by omega
    go_enter Tryz.func124, Tryz.ntmps124
    go_wp2
    go_ret2
    exact ⟨ret2_eq HF.out (by rw [HG.out]; omega), rfl⟩
  · have HF : Hid (bits .xor .u32 (bits .xor .u32 b c) d = ((mF i b c d : Nat) : Int)) := mF_2 i b c d hq hb hc hd
    have HG : Hid (mG i = (3 * i + 5) % 16) := mG_2 i hq
    have e1 : (i : Int) / 16 = 2 := by omega
    go_enter Tryz.func124, Tryz.ntmps124
    go_wp2
    go_ret2
    exact ⟨ret2_eq HF.out (by rw [HG.out]; omega), rfl⟩
  · have HF : Hid (bits .xor .u32 c (bits .or .u32 b (bits .xor .u32 IntKind.u32.max d)) = ((mF i b c d : Nat) : Int)) := mF_3 i b c d hq hb hc hd
    have HG : Hid (mG i = 7 * i % 16) := mG_3 i hq
    have e1 : (i : Int) / 16 = 3 := by omega
    go_enter Tryz.func124, Tryz.ntmps124
    go_wp2
    go_ret2
    exact ⟨ret2_eq HF.out (by rw [HG.out]; omega), rfl⟩

theorem rot_bits (n x : Nat) (hx : x < 4294967296) : bits .or .u32 ((x : Int) * 2 ^ n % 4294967296) ((x : Int) / 2 ^ (32 - n)) = ((rot n x : Nat) : Int) := by
  have h := u32_or_nat (x * 2 ^ n % 4294967296) (x / 2 ^ (32 - n)) (Nat.mod_lt _ (by omega)) (Nat.lt_of_le_of_lt (Nat.div_le_self _ _) hx)
  rw [Int.natCast_emod, Int.natCast_mul, Int.natCast_pow, Int.natCast_ediv, Int.natCast_pow] at h
  exact h
theorem ret1_eq {k : IntKind} {X Y : Int} (h : X = Y) : Ending.returned (.int k X) = .returned (.int k Y) := by rw [h]

theorem rotl_any (x n : Nat) (hx : x < 4294967296) (h1 : 1 ≤ n) (h2 : n ≤ 31) (w : World) :
    Calls Tryz.prog 125 #[.int .u32 x, .int .i64 n] w fun e w' => e = .returned (.int .u32 (rot n x : Nat)) ∧ w' = w := by
  have h3 : (n : Int) ≤ 31 := by omega
  have h4 : (1 : Int) ≤ (n : Int) := by omega
  have hand : bits .and .u64 (n : Int) 31 = (n : Int) := by
    have h := u64_and_nat n 31 (by omega) (by omega)
    rw [nat_mask5, Nat.mod_eq_of_lt (by omega)] at h
    exact h
  go_enter Tryz.func125, Tryz.ntmps125
  go_wp2
  go_ret
  exact ⟨ret1_eq (rot_bits n x hx), rfl⟩

/-! ### The cells of an MD5 -/
def byteV (x : Nat) : Value := .int .u8 (x : Int)
def mdCells (q : Quad) (bl : List Nat) (n : Nat) : Array Value := ([Value.int .u32 (q.a : Int), .int .u32 (q.b : Int), .int .u32 (q.c : Int), .int .u32 (q.d : Int)] ++ bl.map byteV ++ [Value.int .u64 (n : Int)]).toArray

theorem mdCells_block (q : Quad) (bl : List Nat) (n i : Nat) (h : i < bl.length) : (mdCells q bl n)[4 + i]? = some (byteV (bl.getD i 0)) := by
  unfold mdCells
  rw [List.getElem?_toArray, List.append_assoc, List.getElem?_append_right (by simp)]
  simp only [List.length_cons, List.length_nil]
  rw [show 4 + i - (0 + 1 + 1 + 1 + 1) = i by omega, List.getElem?_append_left (by simpa using h), List.getElem?_map, List.getElem?_eq_getElem h, List.getD_eq_getElem?_getD, List.getElem?_eq_getElem h]
  rfl
theorem mdCells_size (q : Quad) (bl : List Nat) (n : Nat) (h : bl.length = 64) : (mdCells q bl n)[68]? = some (.int .u64 (n : Int)) := by
  unfold mdCells
  rw [List.getElem?_toArray, List.getElem?_append_right (by simp [h])]
  simp [h]
theorem mdCells_a (q : Quad) (bl : List Nat) (n : Nat) : (mdCells q bl n)[0]? = some (.int .u32 (q.a : Int)) := by unfold mdCells; simp
theorem mdCells_b (q : Quad) (bl : List Nat) (n : Nat) : (mdCells q bl n)[1]? = some (.int .u32 (q.b : Int)) := by unfold mdCells; simp
theorem mdCells_c (q : Quad) (bl : List Nat) (n : Nat) : (mdCells q bl n)[2]? = some (.int .u32 (q.c : Int)) := by unfold mdCells; simp
theorem mdCells_d (q : Quad) (bl : List Nat) (n : Nat) : (mdCells q bl n)[3]? = some (.int .u32 (q.d : Int)) := by unfold mdCells; simp
end Go.Proofs.YtgkenhmbilkhdaaGreatDoor
