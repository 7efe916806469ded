import Derived.Test.YtgkenhmbilkhdaaGreatDoorProg
import Derived.Test.YtgkenhmbilkhdaaGreatDoorBlk
import Derived.Test.YtgkenhmbilkhdaaGreatDoorCrcPure
import Derived.WalkKit
import Derived.WalkSpells
import Derived.WalkLawsBesides
import Derived.Handy
import Derived.KernelRfl
import Derived.Laws.BitsAllLaws
import Derived.Deep.RegionHeld3
namespace Go.Proofs.YtgkenhmbilkhdaaGreatDoor
open Go.RowKit

theorem d8_bits (y : Nat) (h : y < 256) : bits .xor .u8 ((y : Int) * 2 % 256) ((y : Int) / 128 * 7) = ((d8 y : Nat) : Int) := by
  have := u8_xor_nat (y * 2 % 256) (y / 128 * 7) (by omega) (by omega)
  simpa [d8] using this
theorem d16_bits (y : Nat) (h : y < 65536) : bits .xor .u16 ((y : Int) * 2 % 65536) ((y : Int) / 32768 * 32773) = ((d16 y : Nat) : Int) := by
  have := u16_xor_nat (y * 2 % 65536) (y / 32768 * 32773) (by omega) (by omega)
  simpa [d16] using this

theorem divide8_any (x : Nat) (hx : x < 256) (w : World) : Calls Tryz.prog 120 #[.int .u8 x] w fun e w' => e = .returned (.int .u8 (d8s 8 x : Nat)) ∧ w' = w := by
  go_enter Tryz.func120, Tryz.ntmps120
  go_wp2
  go_loop [0, 4] (fun s i => ∃ k y : Nat, k ≤ 8 ∧ y < 256 ∧ i = .int .i64 k ∧ s = .int .u8 y ∧ d8s (8 - k) y = d8s 8 x) (fun _ i => 8 - (intOf i).toNat)
  case atStart => exact ⟨0, x, by omega, hx, rfl, rfl, rfl⟩
  case round =>
    obtain ⟨k, y, hk, hy, rfl, rfl, hrest⟩ := hrel
    have H : Hid (d8s (8 - k) y = d8s 8 x) := hrest
    clear hrest
    by_cases hlt : (k : Int) < 8
    · go_wp2
      go_round
      case rel => exact ⟨k + 1, d8 y, by omega, d8_lt hy, by go_num, by rw [d8_bits y hy], by
        have h := H.out
        rw [show 8 - k = (8 - (k + 1)) + 1 by omega] at h
        exact h⟩
      case measure => simp [intOf]; omega
    · go_wp2
      go_ret
      have h := H.out
      rw [show 8 - k = 0 by omega] at h
      exact ⟨by rw [← h]; rfl, rfl⟩

theorem divide16_any (x : Nat) (hx : x < 65536) (w : World) : Calls Tryz.prog 121 #[.int .u16 x] w fun e w' => e = .returned (.int .u16 (d16s 8 x : Nat)) ∧ w' = w := by
  go_enter Tryz.func121, Tryz.ntmps121
  go_wp2
  go_loop [0, 4] (fun s i => ∃ k y : Nat, k ≤ 8 ∧ y < 65536 ∧ i = .int .i64 k ∧ s = .int .u16 y ∧ d16s (8 - k) y = d16s 8 x) (fun _ i => 8 - (intOf i).toNat)
  case atStart => exact ⟨0, x, by omega, hx, rfl, rfl, rfl⟩
  case round =>
    obtain ⟨k, y, hk, hy, rfl, rfl, hrest⟩ := hrel
    have H : Hid (d16s (8 - k) y = d16s 8 x) := hrest
    clear hrest
    by_cases hlt : (k : Int) < 8
    · go_wp2
      go_round
      case rel => exact ⟨k + 1, d16 y, by omega, d16_lt hy, by go_num, by rw [IntKind.wrap_u16, d16_bits y hy], by
        have h := H.out
        rw [show 8 - k = (8 - (k + 1)) + 1 by omega] at h
        exact h⟩
      case measure => simp [intOf]; omega
    · go_wp2
      go_ret
      have h := H.out
      rw [show 8 - k = 0 by omega] at h
      exact ⟨by rw [← h]; rfl, rfl⟩

/-- From ⟨g, off⟩ on there are these bytes. -/
def Bytes8 (w : World) (g off : Nat) (l : List Nat) : Prop := ∀ i, i < l.length → w.cell? ⟨g, off + i, none⟩ = some (.int .u8 (l.getD i 0 : Nat))

theorem Bytes8.below {w w' : World} {g off B : Nat} {l : List Nat} (h : Bytes8 w g off l) (hb : Below B w w') (hg : g < B) : Bytes8 w' g off l :=
  fun i hi => (hb.cell (p := ⟨g, off + i, none⟩) hg).trans (h i hi)

theorem getD_lt {l : List Nat} {n : Nat} (h : ∀ x ∈ l, x < n) (hn : 0 < n) (i : Nat) : l.getD i 0 < n := by
  rcases Nat.lt_or_ge i l.length with hi | hi
  · rw [List.getD_eq_getElem?_getD, List.getElem?_eq_getElem hi]; exact h _ (List.getElem_mem hi)
  · rw [List.getD_eq_getElem?_getD, List.getElem?_eq_none hi]; exact hn

theorem take_next {l : List Nat} {k : Nat} (h : k < l.length) : l.take (k + 1) = l.take k ++ [l.getD k 0] := by
  rw [List.take_succ_eq_append_getElem h, List.getD_eq_getElem?_getD, List.getElem?_eq_getElem h]; rfl

theorem bw8 (c : Nat) (hc : c < 256) (g off cap : Nat) (l : List Nat) (hl : ∀ x ∈ l, x < 256) (hlen : l.length ≤ 1048576) (w : World) (hrow : Bytes8 w g off l) (hg : g < w.heap.size) :
    Calls Tryz.prog 289 #[.agg #[], .int .u8 c, .slice (some ⟨g, off, none⟩) l.length cap] w fun e w' => e = .returned (.int .u8 (crc8 c l : Nat)) ∧ Below w.heap.size w w' := by
  have hrow1 : Bytes8 (w.alloc (.cells #[] 192)) g off l := hrow.below (B := w.heap.size) (by go_grown) hg
  go_enter Tryz.func289, Tryz.ntmps289
  go_wp2
  go_loop [1, 11] (fun s i => ∃ k : Nat, k ≤ l.length ∧ i = .int .i64 k ∧ s = .int .u8 (crc8 c (l.take k) : Nat)) (fun _ i => l.length - (intOf i).toNat)
  case atStart => exact ⟨0, by omega, rfl, rfl⟩
  case round =>
    obtain ⟨k, hk, rfl, rfl⟩ := hrel
    by_cases hlt : k < l.length
    · have hcell := hrow1 k hlt
      have hv := getD_lt hl (by omega) k
      have H : Hid (crc8 c (l.take (k + 1)) = d8s 8 (crc8 c (l.take k) ^^^ l.getD k 0)) := by
        show crc8 c (l.take (k + 1)) = _
        rw [take_next hlt, crc8_snoc]
      have hy := crc8_lt (l.take k) hc (fun x hx => hl x (List.mem_of_mem_take hx))
      generalize l.getD k 0 = v at hcell hv H
      generalize crc8 c (l.take k) = y at hy H
      have hxor := u8_xor_nat y v hy hv
      have hlt' : (k : Int) < l.length := by omega
      go_wp2_with fail
      refine (divide8_any (y ^^^ v) (xor8_lt hy hv) _).mono ?_
      rintro e w' ⟨rfl, rfl⟩
      go_wp2
      go_round
      case rel => exact ⟨k + 1, by omega, by go_num, by rw [H.out]⟩
      case measure => simp [intOf]; omega
    · go_wp2
      go_ret
      exact ⟨by rw [List.take_of_length_le (by omega)]; rfl, by go_grown⟩
theorem bw16 (c : Nat) (hc : c < 65536) (g off cap : Nat) (l : List Nat) (hl : ∀ x ∈ l, x < 256) (hlen : l.length ≤ 1048576) (w : World) (hrow : Bytes8 w g off l) (hg : g < w.heap.size) :
    Calls Tryz.prog 288 #[.agg #[], .int .u16 c, .slice (some ⟨g, off, none⟩) l.length cap] w fun e w' => e = .returned (.int .u16 (crc16 c l : Nat)) ∧ Below w.heap.size w w' := by
  have hrow1 : Bytes8 (w.alloc (.cells #[] 192)) g off l := hrow.below (B := w.heap.size) (by go_grown) hg
  go_enter Tryz.func288, Tryz.ntmps288
  go_wp2
  go_loop [1, 11] (fun s i => ∃ k : Nat, k ≤ l.length ∧ i = .int .i64 k ∧ s = .int .u16 (crc16 c (l.take k) : Nat)) (fun _ i => l.length - (intOf i).toNat)
  case atStart => exact ⟨0, by omega, rfl, rfl⟩
  case round =>
    obtain ⟨k, hk, rfl, rfl⟩ := hrel
    by_cases hlt : k < l.length
    · have hcell := hrow1 k hlt
      have hv := getD_lt hl (by omega) k
      have H : Hid (crc16 c (l.take (k + 1)) = d16s 8 (crc16 c (l.take k) ^^^ (l.getD k 0 * 256))) := by
        show crc16 c (l.take (k + 1)) = _
        rw [take_next hlt, crc16_snoc]
      have hy := crc16_lt (l.take k) hc (fun x hx => hl x (List.mem_of_mem_take hx))
      generalize l.getD k 0 = v at hcell hv H
      generalize crc16 c (l.take k) = y at hy H
      have hxor := u16_xor_nat y (v * 256) hy (by omega)
      rw [Int.natCast_mul] at hxor
      simp only [Int.cast_ofNat_Int] at hxor
      have hlt' : (k : Int) < l.length := by omega
      go_wp2_with fail
      refine (divide16_any (y ^^^ (v * 256)) (xor16_lt hy (by omega)) _).mono ?_
      rintro e w' ⟨rfl, rfl⟩
      go_wp2
      go_round
      case rel => exact ⟨k + 1, by omega, by go_num, by rw [H.out]⟩
      case measure => simp [intOf]; omega
    · go_wp2
      go_ret
      exact ⟨by rw [List.take_of_length_le (by omega)]; rfl, by go_grown⟩
end Go.Proofs.YtgkenhmbilkhdaaGreatDoor
