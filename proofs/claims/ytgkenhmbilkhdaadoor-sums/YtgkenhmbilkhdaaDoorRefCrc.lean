import Derived.Test.YtgkenhmbilkhdaaDoorCrcMath
import Derived.Test.YtgkenhmbilkhdaaDoorBits64
import Derived.Deep.QuietTactic
import Derived.BigQuiet
import Derived.WalkSmall
namespace Go.Proofs.YtgkenhmbilkhdaaDoor
open Go.RowKit

/-- One bit more of a byte. -/
theorem d8_step (c u : Nat) : d8 (c ^^^ u) = ((c * 2 % 256) ^^^ ((u / 128 ^^^ c / 128) * 7)) ^^^ (u * 2 % 256) := by
  unfold d8
  have h := xor_up 1 c u
  have h2 := xor_mod 8 (c * 2) (u * 2)
  have h3 := xor_half 7 c u
  simp only [Nat.reducePow] at h h2 h3
  rw [h, h2, h3, Nat.xor_comm (c / 128), Nat.xor_assoc, Nat.xor_assoc, Nat.xor_comm (u * 2 % 256)]

/-- One bit more of a byte. -/
theorem d16_step (c u : Nat) : d16 (c ^^^ u) = ((c * 2 % 65536) ^^^ ((u / 32768 ^^^ c / 32768) * 32773)) ^^^ (u * 2 % 65536) := by
  unfold d16
  have h := xor_up 1 c u
  have h2 := xor_mod 16 (c * 2) (u * 2)
  have h3 := xor_half 15 c u
  simp only [Nat.reducePow] at h h2 h3
  rw [h, h2, h3, Nat.xor_comm (c / 32768), Nat.xor_assoc, Nat.xor_assoc, Nat.xor_comm (u * 2 % 65536)]

theorem bit_of (x k : Nat) (hx : x < 256) (hk : k < 8) : x / 2 ^ k % 2 = x * 2 ^ (7 - k) % 256 / 128 := by
  rcases (show k = 0 ∨ k = 1 ∨ k = 2 ∨ k = 3 ∨ k = 4 ∨ k = 5 ∨ k = 6 ∨ k = 7 by omega) with rfl | rfl | rfl | rfl | rfl | rfl | rfl | rfl <;> simp only [Nat.reducePow, Nat.reduceSub] <;> omega

theorem up_next (x k : Nat) (hk : k < 8) (h0 : 0 < k) : x * 2 ^ (7 - k) % 256 * 2 % 256 = x * 2 ^ (7 - (k - 1)) % 256 := by
  rcases (show k = 1 ∨ k = 2 ∨ k = 3 ∨ k = 4 ∨ k = 5 ∨ k = 6 ∨ k = 7 by omega) with rfl | rfl | rfl | rfl | rfl | rfl | rfl <;> simp only [Nat.reducePow, Nat.reduceSub] <;> omega

/-- What is left of a byte's work: kk bits more, c the sum so far. -/
def left8 (x kk c : Nat) : Nat := d8s kk (c ^^^ (x * 2 ^ (8 - kk) % 256))
def left16 (x kk c : Nat) : Nat := d16s kk (c ^^^ (x * 2 ^ (8 - kk) % 256 * 256))

theorem left8_next (x k c : Nat) (hx : x < 256) (hk : k < 8) : left8 x (k + 1) c = left8 x k ((c * 2 % 256) ^^^ ((x / 2 ^ k % 2 ^^^ c / 128) * 7)) := by
  unfold left8
  show d8s k (d8 _) = _
  rw [show 8 - (k + 1) = 7 - k by omega, d8_step c _, ← bit_of x k hx hk]
  congr 2
  rcases (show k = 0 ∨ k = 1 ∨ k = 2 ∨ k = 3 ∨ k = 4 ∨ k = 5 ∨ k = 6 ∨ k = 7 by omega) with rfl | rfl | rfl | rfl | rfl | rfl | rfl | rfl <;> simp only [Nat.reducePow, Nat.reduceSub] <;> omega

theorem left16_next (x k c : Nat) (hx : x < 256) (hk : k < 8) : left16 x (k + 1) c = left16 x k ((c * 2 % 65536) ^^^ ((x / 2 ^ k % 2 ^^^ c / 32768) * 32773)) := by
  unfold left16
  show d16s k (d16 _) = _
  rw [show 8 - (k + 1) = 7 - k by omega, d16_step c _, show x * 2 ^ (7 - k) % 256 * 256 / 32768 = x / 2 ^ k % 2 by rw [bit_of x k hx hk]; omega]
  congr 2
  rcases (show k = 0 ∨ k = 1 ∨ k = 2 ∨ k = 3 ∨ k = 4 ∨ k = 5 ∨ k = 6 ∨ k = 7 by omega) with rfl | rfl | rfl | rfl | rfl | rfl | rfl | rfl <;> simp only [Nat.reducePow, Nat.reduceSub] <;> omega

theorem left8_all (x c : Nat) (hx : x < 256) : left8 x 8 c = d8s 8 (c ^^^ x) := by
  unfold left8; rw [show x * 2 ^ (8 - 8) % 256 = x by simp only [Nat.sub_self, Nat.pow_zero]; omega]
theorem left16_all (x c : Nat) (hx : x < 256) : left16 x 8 c = d16s 8 (c ^^^ (x * 256)) := by
  unfold left16; rw [show x * 2 ^ (8 - 8) % 256 = x by simp only [Nat.sub_self, Nat.pow_zero]; omega]
theorem left8_none (x c : Nat) : left8 x 0 c = c := by
  unfold left8; rw [show x * 2 ^ (8 - 0) % 256 = 0 by simp only [Nat.sub_zero, Nat.reducePow]; omega]; exact Nat.xor_zero c
theorem left16_none (x c : Nat) : left16 x 0 c = c := by
  unfold left16; rw [show x * 2 ^ (8 - 0) % 256 = 0 by simp only [Nat.sub_zero, Nat.reducePow]; omega]; exact Nat.xor_zero c

set_option maxHeartbeats 2000000 in
theorem ref8 (s : ByteArray) (hs : s.size ≤ 1048576) (w : World) :
    Calls Tryd.prog 6 #[.string s, .int .i64 8, .int .i64 7] w fun e w' => e = .returned (.int .i64 (crc8 0 (s.data.toList.map UInt8.toNat) : Nat)) ∧ Below w.heap.size w w' := by
  have hlen : (s.data.toList.map UInt8.toNat).length = s.size := by rw [List.length_map, Array.length_toList]; rfl
  have hall : ∀ x ∈ s.data.toList.map UInt8.toNat, x < 256 := by
    intro x hx
    obtain ⟨b, _, rfl⟩ := List.mem_map.1 hx
    exact UInt8.toNat_lt b
  have hget : ∀ (j : Nat) (h : j < s.size), (s[j]'h).toNat = (s.data.toList.map UInt8.toNat).getD j 0 := by
    intro j h
    rw [List.getD_eq_getElem?_getD, List.getElem?_map, List.getElem?_eq_getElem (by simpa using h)]
    rfl
  generalize s.data.toList.map UInt8.toNat = l at hlen hall hget
  have HG : Hid (∀ (j : Nat) (h : j < s.size), (s[j]'h).toNat = l.getD j 0) := hget
  clear hget
  have HL : Hid (l.length = s.size) := hlen
  clear hlen
  go_enter Tryd.func6, Tryd.ntmps6
  go_wp2
  go_loopw [7, 8] (fun c i wr => ∃ j : Nat, j ≤ s.size ∧ i = .int .i64 j ∧ c = .int .i64 (crc8 0 (l.take j) : Nat) ∧ Below w.heap.size w wr) (fun _ i _ => s.size - (intOf i).toNat)
  case atStart => exact ⟨0, by omega, rfl, rfl, by go_grown⟩
  case round =>
    obtain ⟨j, hj, rfl, rfl, hb⟩ := hrel
    by_cases hlt : j < s.size
    · have hlt' : (j : Int) < s.size := by omega
      have hsj := HG.out j hlt
      have hv := getD_lt hall (by omega) j
      have H : Hid (crc8 0 (l.take (j + 1)) = left8 (l.getD j 0) 8 (crc8 0 (l.take j))) := by
        show crc8 0 (l.take (j + 1)) = _
        rw [take_next (by rw [HL.out]; exact hlt), crc8_snoc, left8_all _ _ hv]
      have hy := crc8_lt (l.take j) (c := 0) (by omega) (fun x hx => hall x (List.mem_of_mem_take hx))
      generalize l.getD j 0 = v at hsj hv H
      generalize crc8 0 (l.take j) = y at hy H
      have hv' : (v : Int) < 256 := by omega
      go_wp2
      go_loopw [7, 9] (fun c k wr => ∃ kk cc : Nat, kk ≤ 8 ∧ cc < 256 ∧ k = .int .i64 ((kk : Int) - 1) ∧ c = .int .i64 cc ∧ left8 v kk cc = left8 v 8 y ∧ Below w.heap.size w wr) (fun _ k _ => ((intOf k) + 1).toNat)
      case atStart => exact ⟨8, y, by omega, hy, by simp, rfl, rfl, hb⟩
      case round =>
        obtain ⟨kk, cc, hk, hc, rfl, rfl, hq, hb1⟩ := hrel
        by_cases h0 : kk = 0
        · subst h0
          rw [left8_none] at hq
          have HQ : Hid (cc = left8 v 8 y) := hq
          clear hq
          go_wp2
          go_roundw
          case rel => exact ⟨j + 1, by omega, by go_num, by rw [H.out, ← HQ.out], hb1⟩
          case measure => simp [intOf]; omega
        · obtain ⟨k, rfl⟩ : ∃ k, kk = k + 1 := ⟨kk - 1, by omega⟩
          rw [left8_next v k cc hv (by omega)] at hq
          have HQ : Hid (left8 v k ((cc * 2 % 256) ^^^ ((v / 2 ^ k % 2 ^^^ cc / 128) * 7)) = left8 v 8 y) := hq
          clear hq
          have e1 : ((k + 1 : Nat) : Int) - 1 = k := by omega
          rw [e1]
          clear e1
          have hk7 : (k : Int) ≤ 7 := by omega
          have hsm : v / 2 ^ k < 9223372036854775808 := Nat.lt_of_le_of_lt (Nat.div_le_self _ _) (by omega)
          have hA := i64_and_one (v / 2 ^ k) hsm
          have hC := i64_and_one (cc / 128) (by omega)
          have hM := i64_and_255 (cc * 2) (by omega)
          have hp : v / 2 ^ k % 2 < 2 := Nat.mod_lt _ (by omega)
          have hq2 : cc / 128 % 2 = cc / 128 := by omega
          rw [hq2] at hC
          clear hq2
          rw [Int.natCast_ediv] at hC
          rw [Int.natCast_ediv, Int.natCast_pow] at hA
          rw [Int.natCast_mul] at hM
          simp only [Int.cast_ofNat_Int] at hA hC hM
          have hq : cc / 128 < 2 := by omega
          have hm : cc * 2 % 256 < 256 := by omega
          generalize v / 2 ^ k % 2 = p at hA hp HQ
          have hqc : (cc : Int) / 128 = ((cc / 128 : Nat) : Int) := by omega
          generalize cc / 128 = q at hC hq hqc HQ
          rw [hqc] at hC
          generalize cc * 2 % 256 = m at hM hm HQ
          have hX := i64_xor_nat p q (by omega) (by omega)
          have hr : p ^^^ q < 2 := Nat.xor_lt_two_pow (n := 1) (by omega) (by omega)
          generalize p ^^^ q = r at hX hr HQ
          clear hsm hp hq
          rcases (show r = 0 ∨ r = 1 by omega) with rfl | rfl
          · go_wp2
            go_quiet (fail)
            clear hsj hv hv'
            go_wp2
            go_roundw
            case rel => exact ⟨k, m, by omega, hm, rfl, rfl, by rw [← HQ.out]; simp, below_drewN hb1 _⟩
            case measure => simp [intOf]
          · have hX7 : bits .xor .i64 (m : Int) 7 = ((m ^^^ 7 : Nat) : Int) := i64_xor_nat m 7 (by omega) (by omega)
            have hm7 : m ^^^ 7 < 256 := Nat.xor_lt_two_pow (n := 8) hm (by omega)
            rw [Nat.one_mul] at HQ
            generalize m ^^^ 7 = m7 at hX7 hm7 HQ
            go_wp2
            go_quiet (fail)
            clear hsj hv hv'
            go_wp2
            go_roundw
            case rel => exact ⟨k, m7, by omega, hm7, rfl, rfl, HQ.out, below_drewN hb1 _⟩
            case measure => simp [intOf]
    · go_wp2
      go_ret
      exact ⟨by rw [List.take_of_length_le (by rw [HL.out]; omega)]; rfl, hb⟩

set_option maxHeartbeats 2000000 in
theorem ref16 (s : ByteArray) (hs : s.size ≤ 1048576) (w : World) :
    Calls Tryd.prog 6 #[.string s, .int .i64 16, .int .i64 32773] w fun e w' => e = .returned (.int .i64 (crc16 0 (s.data.toList.map UInt8.toNat) : Nat)) ∧ Below w.heap.size w w' := by
  have hlen : (s.data.toList.map UInt8.toNat).length = s.size := by rw [List.length_map, Array.length_toList]; rfl
  have hall : ∀ x ∈ s.data.toList.map UInt8.toNat, x < 256 := by
    intro x hx
    obtain ⟨b, _, rfl⟩ := List.mem_map.1 hx
    exact UInt8.toNat_lt b
  have hget : ∀ (j : Nat) (h : j < s.size), (s[j]'h).toNat = (s.data.toList.map UInt8.toNat).getD j 0 := by
    intro j h
    rw [List.getD_eq_getElem?_getD, List.getElem?_map, List.getElem?_eq_getElem (by simpa using h)]
    rfl
  generalize s.data.toList.map UInt8.toNat = l at hlen hall hget
  have HG : Hid (∀ (j : Nat) (h : j < s.size), (s[j]'h).toNat = l.getD j 0) := hget
  clear hget
  have HL : Hid (l.length = s.size) := hlen
  clear hlen
  go_enter Tryd.func6, Tryd.ntmps6
  go_wp2
  go_loopw [7, 8] (fun c i wr => ∃ j : Nat, j ≤ s.size ∧ i = .int .i64 j ∧ c = .int .i64 (crc16 0 (l.take j) : Nat) ∧ Below w.heap.size w wr) (fun _ i _ => s.size - (intOf i).toNat)
  case atStart => exact ⟨0, by omega, rfl, rfl, by go_grown⟩
  case round =>
    obtain ⟨j, hj, rfl, rfl, hb⟩ := hrel
    by_cases hlt : j < s.size
    · have hlt' : (j : Int) < s.size := by omega
      have hsj := HG.out j hlt
      have hv := getD_lt hall (by omega) j
      have H : Hid (crc16 0 (l.take (j + 1)) = left16 (l.getD j 0) 8 (crc16 0 (l.take j))) := by
        show crc16 0 (l.take (j + 1)) = _
        rw [take_next (by rw [HL.out]; exact hlt), crc16_snoc, left16_all _ _ hv]
      have hy := crc16_lt (l.take j) (c := 0) (by omega) (fun x hx => hall x (List.mem_of_mem_take hx))
      generalize l.getD j 0 = v at hsj hv H
      generalize crc16 0 (l.take j) = y at hy H
      have hv' : (v : Int) < 256 := by omega
      go_wp2
      go_loopw [7, 9] (fun c k wr => ∃ kk cc : Nat, kk ≤ 8 ∧ cc < 65536 ∧ k = .int .i64 ((kk : Int) - 1) ∧ c = .int .i64 cc ∧ left16 v kk cc = left16 v 8 y ∧ Below w.heap.size w wr) (fun _ k _ => ((intOf k) + 1).toNat)
      case atStart => exact ⟨8, y, by omega, hy, by simp, rfl, rfl, hb⟩
      case round =>
        obtain ⟨kk, cc, hk, hc, rfl, rfl, hq, hb1⟩ := hrel
        by_cases h0 : kk = 0
        · subst h0
          rw [left16_none] at hq
          have HQ : Hid (cc = left16 v 8 y) := hq
          clear hq
          go_wp2
          go_roundw
          case rel => exact ⟨j + 1, by omega, by go_num, by rw [H.out, ← HQ.out], hb1⟩
          case measure => simp [intOf]; omega
        · obtain ⟨k, rfl⟩ : ∃ k, kk = k + 1 := ⟨kk - 1, by omega⟩
          rw [left16_next v k cc hv (by omega)] at hq
          have HQ : Hid (left16 v k ((cc * 2 % 65536) ^^^ ((v / 2 ^ k % 2 ^^^ cc / 32768) * 32773)) = left16 v 8 y) := hq
          clear hq
          have e1 : ((k + 1 : Nat) : Int) - 1 = k := by omega
          rw [e1]
          clear e1
          have hk7 : (k : Int) ≤ 7 := by omega
          have hsm : v / 2 ^ k < 9223372036854775808 := Nat.lt_of_le_of_lt (Nat.div_le_self _ _) (by omega)
          have hA := i64_and_one (v / 2 ^ k) hsm
          have hC := i64_and_one (cc / 32768) (by omega)
          have hM := i64_and_65535 (cc * 2) (by omega)
          have hp : v / 2 ^ k % 2 < 2 := Nat.mod_lt _ (by omega)
          have hq2 : cc / 32768 % 2 = cc / 32768 := by omega
          rw [hq2] at hC
          clear hq2
          rw [Int.natCast_ediv] at hC
          rw [Int.natCast_ediv, Int.natCast_pow] at hA
          rw [Int.natCast_mul] at hM
          simp only [Int.cast_ofNat_Int] at hA hC hM
          have hq : cc / 32768 < 2 := by omega
          have hm : cc * 2 % 65536 < 65536 := by omega
          generalize v / 2 ^ k % 2 = p at hA hp HQ
          have hqc : (cc : Int) / 32768 = ((cc / 32768 : Nat) : Int) := by omega
          generalize cc / 32768 = q at hC hq hqc HQ
          rw [hqc] at hC
          generalize cc * 2 % 65536 = m at hM hm HQ
          have hX := i64_xor_nat p q (by omega) (by omega)
          have hr : p ^^^ q < 2 := Nat.xor_lt_two_pow (n := 1) (by omega) (by omega)
          generalize p ^^^ q = r at hX hr HQ
          clear hsm hp hq
          rcases (show r = 0 ∨ r = 1 by omega) with rfl | rfl
          · go_wp2
            go_quiet (fail)
            clear hsj hv hv'
            go_wp2
            go_roundw
            case rel => exact ⟨k, m, by omega, hm, rfl, rfl, by rw [← HQ.out]; simp, below_drewN hb1 _⟩
            case measure => simp [intOf]
          · have hX7 : bits .xor .i64 (m : Int) 32773 = ((m ^^^ 32773 : Nat) : Int) := i64_xor_nat m 32773 (by omega) (by omega)
            have hm7 : m ^^^ 32773 < 65536 := Nat.xor_lt_two_pow (n := 16) hm (by omega)
            rw [Nat.one_mul] at HQ
            generalize m ^^^ 32773 = m7 at hX7 hm7 HQ
            go_wp2
            go_quiet (fail)
            clear hsj hv hv'
            go_wp2
            go_roundw
            case rel => exact ⟨k, m7, by omega, hm7, rfl, rfl, HQ.out, below_drewN hb1 _⟩
            case measure => simp [intOf]
    · go_wp2
      go_ret
      exact ⟨by rw [List.take_of_length_le (by rw [HL.out]; omega)]; rfl, hb⟩
end Go.Proofs.YtgkenhmbilkhdaaDoor
