import Derived.Test.YtgkenhmbilkhdaaGreatDoorGBitsPure2
import Derived.Deep.RegionWith
import Derived.Deep.MidRow
namespace Go.Proofs.YtgkenhmbilkhdaaGreatDoor

theorem xor_half (n a b : Nat) : (a ^^^ b) / 2 ^ n = a / 2 ^ n ^^^ b / 2 ^ n := by
  rw [← Nat.shiftRight_eq_div_pow, ← Nat.shiftRight_eq_div_pow, ← Nat.shiftRight_eq_div_pow, Nat.shiftRight_xor_distrib]
theorem xor_up (n a b : Nat) : (a ^^^ b) * 2 ^ n = a * 2 ^ n ^^^ b * 2 ^ n := by
  rw [← Nat.shiftLeft_eq, ← Nat.shiftLeft_eq, ← Nat.shiftLeft_eq, Nat.shiftLeft_xor_distrib]
theorem xor_mod (n a b : Nat) : (a ^^^ b) % 2 ^ n = a % 2 ^ n ^^^ b % 2 ^ n := Nat.xor_mod_two_pow

theorem swap4 (a b c d : Nat) : (a ^^^ b) ^^^ (c ^^^ d) = (a ^^^ c) ^^^ (b ^^^ d) := by
  rw [Nat.xor_assoc, ← Nat.xor_assoc b, Nat.xor_comm b c, Nat.xor_assoc c, ← Nat.xor_assoc a]

theorem bit_mul (p q m : Nat) (hp : p < 2) (hq : q < 2) : (p ^^^ q) * m = p * m ^^^ q * m := by
  rcases (show p = 0 ∨ p = 1 by omega) with rfl | rfl <;> rcases (show q = 0 ∨ q = 1 by omega) with rfl | rfl <;> simp

theorem d16_xor (a b : Nat) (ha : a < 65536) (hb : b < 65536) : d16 (a ^^^ b) = d16 a ^^^ d16 b := by
  unfold d16
  rw [swap4]
  congr 1
  · have h := xor_up 1 a b
    have h2 := xor_mod 16 (a * 2) (b * 2)
    simp only [Nat.reducePow] at h h2
    rw [h, h2]
  · have h := xor_half 15 a b
    simp only [Nat.reducePow] at h
    rw [h]
    exact bit_mul _ _ _ (by omega) (by omega)

theorem d16s_xor : ∀ (k a b : Nat), a < 65536 → b < 65536 → d16s k (a ^^^ b) = d16s k a ^^^ d16s k b
  | 0, _, _, _, _ => rfl
  | k + 1, a, b, ha, hb => by
    show d16s k (d16 (a ^^^ b)) = _
    rw [d16_xor a b ha hb]
    exact d16s_xor k _ _ (d16_lt ha) (d16_lt hb)

theorem d16s_low_fin : ∀ x : Fin 256, d16s 8 x.val = x.val * 256 := by decide +kernel
theorem d16s_low (x : Nat) (h : x < 256) : d16s 8 x = x * 256 := d16s_low_fin ⟨x, h⟩

theorem split_byte (y : Nat) : y / 256 * 256 ^^^ y % 256 = y := by
  apply Nat.eq_of_testBit_eq
  intro i
  have h1 : y / 256 * 256 = (y >>> 8) <<< 8 := by rw [Nat.shiftLeft_eq, Nat.shiftRight_eq_div_pow]
  have h2 : y % 256 = y % 2 ^ 8 := rfl
  rw [h1, h2, Nat.testBit_xor, Nat.testBit_shiftLeft, Nat.testBit_shiftRight, Nat.testBit_mod_two_pow]
  by_cases hi : i < 8
  · simp [hi, Nat.not_le.2 hi]
  · have : 8 + (i - 8) = i := by omega
    simp [hi, Nat.not_lt.1 hi, this]

/-- A byte by the table of sixteen bits is a byte bit by bit. -/
theorem table16 (y v : Nat) (hy : y < 65536) (hv : v < 256) : (y * 256 % 65536) ^^^ d16s 8 ((y / 256 ^^^ v) * 256) = d16s 8 (y ^^^ (v * 256)) := by
  have hp : y / 256 ^^^ v < 256 := xor8_lt (by omega) hv
  have e1 : y ^^^ (v * 256) = ((y / 256 ^^^ v) * 256) ^^^ (y % 256) := by
    have h := xor_up 8 (y / 256) v
    simp only [Nat.reducePow] at h
    rw [h, Nat.xor_assoc, Nat.xor_comm (v * 256), ← Nat.xor_assoc, split_byte]
  rw [e1, d16s_xor 8 _ _ (by omega) (by omega), d16s_low (y % 256) (by omega), Nat.xor_comm]
  congr 1
  omega

/-! ### Eight bytes at once -/
/-- k bytes of noughts more. -/
def adv : Nat → Nat → Nat
  | 0, x => x
  | k + 1, x => adv k (d16s 8 x)
theorem adv_lt : ∀ (k : Nat) {x : Nat}, x < 65536 → adv k x < 65536
  | 0, _, h => h
  | k + 1, _, h => adv_lt k (d16s_lt 8 h)
theorem adv_last : ∀ (k x : Nat), adv (k + 1) x = d16s 8 (adv k x)
  | 0, _ => rfl
  | k + 1, x => adv_last k (d16s 8 x)
theorem adv_xor : ∀ (k a b : Nat), a < 65536 → b < 65536 → adv k (a ^^^ b) = adv k a ^^^ adv k b
  | 0, _, _, _, _ => rfl
  | k + 1, a, b, ha, hb => by
    show adv k (d16s 8 (a ^^^ b)) = _
    rw [d16s_xor 8 a b ha hb]
    exact adv_xor k _ _ (d16s_lt 8 ha) (d16s_lt 8 hb)
theorem crc16_lin : ∀ (l : List Nat) (c : Nat), c < 65536 → (∀ x ∈ l, x < 256) → crc16 c l = adv l.length c ^^^ crc16 0 l
  | [], c, _, _ => by show c = c ^^^ 0; rw [Nat.xor_zero]
  | x :: l, c, hc, hl => by
    have hx := hl x (by simp)
    have hl' : ∀ y ∈ l, y < 256 := fun y hy => hl y (by simp [hy])
    have h1 : x * 256 < 65536 := by omega
    show crc16 (d16s 8 (c ^^^ (x * 256))) l = adv l.length (d16s 8 c) ^^^ crc16 (d16s 8 (0 ^^^ (x * 256))) l
    rw [Nat.zero_xor, crc16_lin l _ (d16s_lt 8 (xor16_lt hc h1)) hl', crc16_lin l (d16s 8 (x * 256)) (d16s_lt 8 h1) hl', d16s_xor 8 _ _ hc h1, adv_xor _ _ _ (d16s_lt 8 hc) (d16s_lt 8 h1), Nat.xor_assoc]
theorem crc16_cons0 (x : Nat) (l : List Nat) (hx : x < 256) (hl : ∀ y ∈ l, y < 256) : crc16 0 (x :: l) = adv (l.length + 1) (x * 256) ^^^ crc16 0 l := by
  show crc16 (d16s 8 (0 ^^^ (x * 256))) l = adv l.length (d16s 8 (x * 256)) ^^^ crc16 0 l
  rw [Nat.zero_xor, crc16_lin l _ (d16s_lt 8 (by omega)) hl]
theorem adv_split (k c : Nat) (hc : c < 65536) : adv (k + 1) c = adv (k + 1) (c / 256 * 256) ^^^ adv k (c % 256 * 256) := by
  have h := adv_xor (k + 1) (c / 256 * 256) (c % 256) (by omega) (by omega)
  rw [split_byte] at h
  rw [h]
  congr 1
  show adv k (d16s 8 (c % 256)) = _
  rw [d16s_low _ (by omega)]
theorem up8_xor (a b : Nat) : (a ^^^ b) * 256 = a * 256 ^^^ b * 256 := xor_up 8 a b
theorem ac8 (x0 x1 y0 y1 a b c d e f : Nat) : (x0 ^^^ y0) ^^^ (x1 ^^^ y1) ^^^ a ^^^ b ^^^ c ^^^ d ^^^ e ^^^ f = (y0 ^^^ y1) ^^^ (x0 ^^^ (x1 ^^^ (a ^^^ (b ^^^ (c ^^^ (d ^^^ (e ^^^ f))))))) := by
  rw [swap4, Nat.xor_comm (x0 ^^^ x1)]
  simp only [Nat.xor_assoc]
theorem eight_bytes (c b0 b1 b2 b3 b4 b5 b6 b7 : Nat) (hc : c < 65536) (h0 : b0 < 256) (h1 : b1 < 256) (h2 : b2 < 256) (h3 : b3 < 256) (h4 : b4 < 256) (h5 : b5 < 256) (h6 : b6 < 256) (h7 : b7 < 256) :
    adv 8 ((b0 ^^^ c / 256) * 256) ^^^ adv 7 ((b1 ^^^ c % 256) * 256) ^^^ adv 6 (b2 * 256) ^^^ adv 5 (b3 * 256) ^^^ adv 4 (b4 * 256) ^^^ adv 3 (b5 * 256) ^^^ adv 2 (b6 * 256) ^^^ adv 1 (b7 * 256) = crc16 c [b0, b1, b2, b3, b4, b5, b6, b7] := by
  rw [crc16_lin _ c hc (by simp; omega), crc16_cons0 b0 _ h0 (by simp; omega), crc16_cons0 b1 _ h1 (by simp; omega), crc16_cons0 b2 _ h2 (by simp; omega), crc16_cons0 b3 _ h3 (by simp; omega), crc16_cons0 b4 _ h4 (by simp; omega), crc16_cons0 b5 _ h5 (by simp; omega), crc16_cons0 b6 _ h6 (by simp; omega), crc16_cons0 b7 _ h7 (by simp)]
  rw [up8_xor, up8_xor, adv_xor 8 _ _ (by omega) (by omega), adv_xor 7 _ _ (by omega) (by omega)]
  simp only [List.length_cons, List.length_nil, Nat.zero_add, Nat.reduceAdd]
  rw [adv_split 7 c hc, show crc16 0 [] = 0 from rfl, Nat.xor_zero]
  exact ac8 _ _ _ _ _ _ _ _ _ _
end Go.Proofs.YtgkenhmbilkhdaaGreatDoor

namespace Go.Proofs.YtgkenhmbilkhdaaGreatDoor
open Go.RowKit

theorem idx_tab {P : Program} {t e : TypeId} {n : Nat} {k0 : IntKind} (hu : P.underlying t = some (.array n e)) (he : P.underlying e = some (.int k0)) (hs : (P.info? e).map (·.size) = some 1)
    (cs : Array Value) (k : Nat) (v : Value) (hk : k < n) (hv : cs[k]? = some v) (w : World) : (Instr.index t (.agg cs) (.int .i64 k)).run P w = .ok v w := by
  obtain ⟨i, hi, hs1⟩ := Option.map_eq_some_iff.1 hs
  simp [Instr.index, asIntOf, run_underlying hu, part, isAgg, run_underlying he, sizeOf, typeInfo, hi, hs1, hv]
  intro h
  omega

/-- What the tables hold: at cell j, if it is made, and else. -/
def tabFull (j : Nat) : Value := if j < 256 then .int .u8 ((d8s 8 j : Nat) : Int) else .int .u16 ((adv ((j - 256) / 256 + 1) ((j - 256) % 256 * 256) : Nat) : Int)
def tabNone (j : Nat) : Value := if j < 256 then .int .u8 0 else .int .u16 0
def tabOf (p : Nat → Bool) : Array Value := ((List.range 2304).map fun j => if p j then tabFull j else tabNone j).toArray
def ph1 (k j : Nat) : Bool := j < k ∨ (256 ≤ j ∧ j < 256 + k)
def ph2 (c j : Nat) : Bool := j < c

theorem tab_zero : Tryz.zeroCells246 = tabOf (ph1 0) := by kernel_rfl
theorem tabOf_size (p : Nat → Bool) : (tabOf p).size = 2304 := by simp [tabOf]
theorem tabOf_get (p : Nat → Bool) (j : Nat) (h : j < 2304) : (tabOf p)[j]? = some (if p j then tabFull j else tabNone j) := by simp [tabOf, h]
theorem tabOf_congr {p q : Nat → Bool} (h : ∀ j, j < 2304 → p j = q j) : tabOf p = tabOf q := by
  apply Array.ext_getElem?
  intro i
  rcases Nat.lt_or_ge i 2304 with hi | hi
  · rw [tabOf_get p i hi, tabOf_get q i hi, h i hi]
  · rw [Array.getElem?_eq_none (by rw [tabOf_size]; omega), Array.getElem?_eq_none (by rw [tabOf_size]; omega)]
theorem tabOf_set (p : Nat → Bool) (k : Nat) (h : k < 2304) : (tabOf p).setIfInBounds k (tabFull k) = tabOf (fun j => p j || j == k) := by
  apply Array.ext_getElem?
  intro i
  rw [Array.getElem?_setIfInBounds, tabOf_size]
  rcases Nat.lt_or_ge i 2304 with hi | hi
  · rw [tabOf_get _ i hi, tabOf_get _ i hi]
    by_cases e : k = i
    · subst e; simp [h]
    · simp [e, show (i == k) = false by simp; omega]
  · rw [if_neg (by omega), Array.getElem?_eq_none (by rw [tabOf_size]; omega), Array.getElem?_eq_none (by rw [tabOf_size]; omega)]
theorem full_lo (j : Nat) (h : j < 256) : tabFull j = .int .u8 (d8s 8 j : Nat) := by unfold tabFull; rw [if_pos h]
theorem full_row (k z : Nat) (h : z < 256) : tabFull (256 + 256 * k + z) = .int .u16 (adv (k + 1) (z * 256) : Nat) := by
  unfold tabFull
  rw [if_neg (by omega), show (256 + 256 * k + z - 256) / 256 = k by omega, show (256 + 256 * k + z - 256) % 256 = z by omega]
theorem full_hi (z : Nat) (h : z < 256) : tabFull (256 + z) = .int .u16 (d16s 8 (z * 256) : Nat) := full_row 0 z h
theorem ph1_next (k : Nat) (h : k < 256) : ((tabOf (ph1 k)).setIfInBounds k (.int .u8 (d8s 8 k : Nat))).setIfInBounds (256 + k) (.int .u16 (d16s 8 (k * 256) : Nat)) = tabOf (ph1 (k + 1)) := by
  rw [← full_lo k h, ← full_hi k h, tabOf_set _ _ (by omega), tabOf_set _ _ (by omega)]
  refine tabOf_congr fun j _ => ?_
  unfold ph1
  rw [Bool.eq_iff_iff]
  simp
  omega
theorem ph_turn : tabOf (ph1 256) = tabOf (ph2 512) := by
  refine tabOf_congr fun j _ => ?_
  unfold ph1 ph2
  rw [Bool.eq_iff_iff]
  simp
  omega
theorem ph2_next (k z : Nat) (hz : z < 256) (hk : k < 8) : (tabOf (ph2 (256 + 256 * k + z))).setIfInBounds (256 + 256 * k + z) (.int .u16 (adv (k + 1) (z * 256) : Nat)) = tabOf (ph2 (256 + 256 * k + (z + 1))) := by
  rw [← full_row k z hz, tabOf_set _ _ (by omega)]
  refine tabOf_congr fun j _ => ?_
  unfold ph2
  rw [Bool.eq_iff_iff]
  simp
  omega

/-- The tables' first row of sixteen bits. -/
def Row0 (w : World) (tb : Nat) : Prop := ∀ z, z < 256 → w.cell? ⟨tb, 256 + z, none⟩ = some (.int .u16 (d16s 8 (z * 256) : Nat))
theorem row0_of {w : World} {tb c : Nat} (hT : Blk w tb (tabOf (ph2 c)) 246) (hc : 512 ≤ c) : Row0 w tb := fun z hz => by
  rw [hT.cell, tabOf_get _ _ (by omega), ← full_hi z hz]
  unfold ph2
  rw [if_pos (by simp; omega)]

set_option maxHeartbeats 1000000 in
theorem next16_any (tb y v : Nat) (hy : y < 65536) (hv : v < 256) (w : World) (hT : Row0 w tb) :
    Calls Tryz.prog 122 #[.pointer (some ⟨tb, 0, none⟩), .int .u16 y, .int .u8 v] w fun e w' => e = .returned (.int .u16 (d16s 8 (y ^^^ (v * 256)) : Nat)) ∧ w' = w := by
  have H : Hid (d16s 8 (y ^^^ (v * 256)) = (y * 256 % 65536) ^^^ d16s 8 ((y / 256 ^^^ v) * 256)) := (table16 y v hy hv).symm
  generalize d16s 8 (y ^^^ (v * 256)) = R at H
  have hw8 : IntKind.u8.wrap ((y : Int) / 256) = ((y / 256 : Nat) : Int) := by rw [IntKind.wrap_u8']; omega
  have hw16 : IntKind.u16.wrap ((y : Int) * 256) = ((y * 256 % 65536 : Nat) : Int) := by rw [IntKind.wrap_u16]; omega
  have hp : y / 256 < 256 := by omega
  have hm : y * 256 % 65536 < 65536 := by omega
  generalize y / 256 = p at hw8 hp H
  generalize y * 256 % 65536 = m at hw16 hm H
  have hxor := u8_xor_nat p v hp hv
  have hz : p ^^^ v < 256 := xor8_lt hp hv
  have hT1 := hT _ hz
  have hxor2 := u16_xor_nat m (d16s 8 ((p ^^^ v) * 256)) hm (d16s_lt 8 (by omega))
  generalize p ^^^ v = z at hxor hz hT1 H hxor2
  generalize d16s 8 (z * 256) = q at hT1 H hxor2
  generalize m ^^^ q = r at hxor2 H
  have hz' : (z : Int) < 256 := by omega
  go_enter Tryz.func122, Tryz.ntmps122
  go_wp2
  go_ret
  exact ⟨by rw [H.out]; rfl, rfl⟩

theorem next16_zero (tb y : Nat) (hy : y < 65536) (w : World) (hT : Row0 w tb) :
    Calls Tryz.prog 122 #[.pointer (some ⟨tb, 0, none⟩), .int .u16 y, .int .u8 0] w fun e w' => e = .returned (.int .u16 (d16s 8 y : Nat)) ∧ w' = w := by
  have h := next16_any tb y 0 hy (by omega) w hT
  rw [Nat.zero_mul, Nat.xor_zero] at h
  exact h
/-- A row of the tables. -/
def rowL (m : Nat) : List Value := (List.range 256).map fun z => Value.int .u16 ((adv (m + 1) (z * 256) : Nat) : Int)
theorem tab_row {w : World} {tb c : Nat} (hT : Blk w tb (tabOf (ph2 c)) 246) (m : Nat) (hc : 512 + 256 * m ≤ c ∧ m < 8) : w.rangeAt tb (256 + m * 256) (rowL m) := by
  intro j v h
  have hj : j < 256 := by
    have := (List.getElem?_eq_some_iff.1 h).1
    simpa [rowL] using this
  simp [rowL, hj] at h
  rw [hT.cell, tabOf_get _ _ (by omega), ← h, show 256 + m * 256 + j = 256 + 256 * m + j by omega, full_row m j hj]
  unfold ph2
  rw [if_pos (by simp; omega)]

set_option maxHeartbeats 2000000 in
set_option maxRecDepth 20000 in
theorem newTables_any (w : World) : Calls Tryz.prog 93 #[] w fun e w' => e = .returned (.pointer (some ⟨w.heap.size, 0, none⟩)) ∧ Below w.heap.size w w' ∧ Blk w' w.heap.size (tabOf (ph2 2304)) 246 := by
  go_enter Tryz.func93, Tryz.ntmps93
  go_wp2
  go_loopw [8] (fun i wr => ∃ k : Nat, k ≤ 256 ∧ i = .int .i64 k ∧ Below w.heap.size w wr ∧ Blk wr w.heap.size (tabOf (ph1 k)) 246) (fun i _ => 256 - (intOf i).toNat)
  case atStart => exact ⟨0, by omega, rfl, by go_grown, by rw [tab_zero]; exact Blk.new _ _ _⟩
  case round =>
    obtain ⟨k, hk, rfl, hb, hB⟩ := hrel
    by_cases hlt : k < 256
    · have h1 : (k : Int) < 256 := by omega
      have c0 := hB.cell k
      have f0 := hB.free k
      rw [tabOf_get _ _ (by omega)] at c0
      have w8 : IntKind.u8.wrap (k : Int) = k := by rw [IntKind.wrap_u8']; omega
      have w16 : IntKind.u16.wrap (k : Int) = k := by rw [IntKind.wrap_u16]; omega
      have w17 : IntKind.u16.wrap ((k : Int) * 256) = ((k * 256 : Nat) : Int) := by rw [IntKind.wrap_u16]; omega
      go_wp2
      go_region_with (go_at_call 120; refine (divide8_any k hlt _).mono ?_; rintro e w' ⟨rfl, rfl⟩)
      have c1 := hB.cell (256 + k)
      have f1 := hB.free (256 + k)
      rw [tabOf_get _ _ (by omega)] at c1
      have hB1 := hB.set k (.int .u8 (d8s 8 k : Nat))
      have c2 := hB1.cell (256 + k)
      have f2 := hB1.free (256 + k)
      rw [Array.getElem?_setIfInBounds_ne (by omega), tabOf_get _ _ (by omega)] at c2
      go_wp2
      go_region_with (go_at_call 121; refine (divide16_any (k * 256) (by omega) _).mono ?_; rintro e w' ⟨rfl, rfl⟩)
      go_wp2
      go_roundw
      case rel => exact ⟨k + 1, by omega, by go_num, ((hb.setCell (p := ⟨w.heap.size, k, none⟩) (by simp) _).setCell (p := ⟨w.heap.size, 256 + k, none⟩) (by simp) _).drew.drew, by
        have h := hB1.set (256 + k) (.int .u16 (d16s 8 (k * 256) : Nat))
        rw [ph1_next k hlt] at h
        exact h⟩
      case measure => simp [intOf]; omega
    · obtain rfl : k = 256 := by omega
      rw [ph_turn] at hB
      clear hk hlt
      go_wp2
      go_loopw [3] (fun i wr => ∃ k : Nat, 1 ≤ k ∧ k ≤ 8 ∧ i = .int .i64 k ∧ Below w.heap.size w wr ∧ Blk wr w.heap.size (tabOf (ph2 (256 + 256 * k + 0))) 246) (fun i _ => 8 - (intOf i).toNat)
      case atStart => exact ⟨1, by omega, by omega, rfl, hb, hB⟩
      case round =>
        obtain ⟨k, hk1, hk8, rfl, hb, hB⟩ := hrel
        by_cases hlt : k < 8
        · obtain ⟨m, rfl⟩ : ∃ m, k = m + 1 := ⟨k - 1, by omega⟩
          have hlt' : (m : Int) + 1 < 8 := by omega
          have hm8 : (m : Int) < 8 := by omega
          have HR : Hid (wr.rangeAt w.heap.size (256 + m * 256) (rowL m)) := tab_row hB m (by omega)
          have HI : Hid ((Tryz.prog.info? 243).map (·.size) = some (rowL m).length) := by
            show _ = some (rowL m).length
            rw [show (rowL m).length = 256 by simp [rowL]]
            kernel_rfl
          obtain ⟨L, HL⟩ : ∃ L, Hid (L = rowL m) := ⟨_, rfl⟩
          rw [← HL.out] at HR HI
          go_wp2_with (refine wpList_load_mid rfl 243 _ rfl w.heap.size (256 + m * 256) rfl L _ HR.out Tryz.underlying243 rfl HI.out ?_)
          go_loopw [41] (fun i wr => ∃ z : Nat, z ≤ 256 ∧ i = .int .i64 z ∧ Below w.heap.size w wr ∧ Blk wr w.heap.size (tabOf (ph2 (256 + 256 * (m + 1) + z))) 246) (fun i _ => 256 - (intOf i).toNat)
          case atStart => exact ⟨0, by omega, rfl, hb, hB⟩
          case round =>
            obtain ⟨z, hz, rfl, hb, hB⟩ := hrel
            by_cases hzlt : z < 256
            · have hz' : (z : Int) < 256 := by omega
              have hidx := idx_tab (P := Tryz.prog) Tryz.underlying243 Tryz.underlying76 (by kernel_rfl) L.toArray z (.int .u16 ((adv (m + 1) (z * 256) : Nat) : Int)) hzlt (by rw [HL.out]; simp [rowL, hzlt])
              have H : Hid (d16s 8 (adv (m + 1) (z * 256)) = adv (m + 1 + 1) (z * 256)) := (adv_last (m + 1) _).symm
              have hlt65 : adv (m + 1) (z * 256) < 65536 := adv_lt _ (by omega)
              generalize adv (m + 1) (z * 256) = y at hidx H hlt65
              have c0 := hB.cell (256 + (m + 1) * 256 + z)
              have f0 := hB.free (256 + (m + 1) * 256 + z)
              rw [tabOf_get _ _ (by omega)] at c0
              go_wp2
              go_region_with (go_at_call 122; refine (next16_zero w.heap.size y hlt65 _ (row0_of hB.drew (by omega))).mono ?_; rintro e w' ⟨rfl, rfl⟩)
              all_goals
                go_wp2
                go_roundw
                case rel => exact ⟨z + 1, by omega, by go_num, (hb.setCell (p := ⟨w.heap.size, 256 + (m + 1) * 256 + z, none⟩) (by simp) _).drew, by
                  have h := hB.set (256 + 256 * (m + 1) + z) (.int .u16 (adv (m + 1 + 1) (z * 256) : Nat))
                  rw [ph2_next (m + 1) z hzlt (by omega), ← H.out, show 256 + 256 * (m + 1) + z = 256 + (m + 1) * 256 + z by omega] at h
                  exact h⟩
                case measure => simp [intOf]; omega
            · obtain rfl : z = 256 := by omega
              clear hz hzlt
              go_wp2
              go_roundw
              case rel =>
                repeat apply Exists.intro
                refine ⟨?_, rfl⟩
                exact ⟨m + 1 + 1, by omega, by omega, by go_num, hb, by
                  rw [show 256 + 256 * (m + 1 + 1) + 0 = 256 + 256 * (m + 1) + 256 by omega]
                  exact hB⟩
              case measure => simp [intOf]; omega
        · obtain rfl : k = 8 := by omega
          clear hk1 hk8 hlt
          go_wp2
          go_ret
          exact ⟨rfl, hb, hB⟩

end Go.Proofs.YtgkenhmbilkhdaaGreatDoor
