import Derived.Test.YtgkenhmbilkhdaaGreatDoorGCrcMath
import Derived.Deep.QuietTactic
import Derived.BigQuiet
namespace Go.Proofs.YtgkenhmbilkhdaaGreatDoor
open Go.RowKit

/-- The tables are made. -/
abbrev tabCells : Array Value := tabOf (ph2 2304)
theorem tab_cell {w : World} {tb : Nat} (hT : Blk w tb tabCells 246) (k z o : Nat) (hk : k < 8) (hz : z < 256) (ho : o = 256 + 256 * k + z) : w.cell? ⟨tb, o, none⟩ = some (.int .u16 (adv (k + 1) (z * 256) : Nat)) := by
  subst ho
  rw [hT.cell, tabOf_get _ _ (by omega), full_row k z hz]
  unfold ph2
  rw [if_pos (by simp; omega)]
theorem tab_lo {w : World} {tb : Nat} (hT : Blk w tb tabCells 246) (z : Nat) (hz : z < 256) : w.cell? ⟨tb, z, none⟩ = some (.int .u8 (d8s 8 z : Nat)) := by
  rw [hT.cell, tabOf_get _ _ (by omega), full_lo z hz]
  unfold ph2
  rw [if_pos (by simp; omega)]

set_option maxHeartbeats 1000000 in
theorem tb8 (tb : Nat) (c : Nat) (hc : c < 256) (g off cap : Nat) (l : List Nat) (hl : ∀ x ∈ l, x < 256) (hlen : l.length ≤ 1048576) (w : World) (hrow : Bytes8 w g off l) (hT : Blk w tb tabCells 246) :
    Calls Tryz.prog 286 #[.pointer (some ⟨tb, 0, none⟩), .int .u8 c, .slice (some ⟨g, off, none⟩) l.length cap] w fun e w' => e = .returned (.int .u8 (crc8 c l : Nat)) ∧ w' = w := by
  go_enter Tryz.func286, Tryz.ntmps286
  go_wp2
  go_loop [1, 11] (fun s i => ∃ k : Nat, k ≤ l.length ∧ i = .int .i64 k ∧ s = .int .u8 (crc8 c (l.take k) : Nat)) (fun _ i => l.length - (intOf i).toNat)
  case atStart => exact ⟨0, by omega, rfl, rfl⟩
  case round =>
    obtain ⟨k, hk, rfl, rfl⟩ := hrel
    by_cases hlt : k < l.length
    · have hcell := hrow k hlt
      have hv := getD_lt hl (by omega) k
      have H : Hid (crc8 c (l.take (k + 1)) = d8s 8 (crc8 c (l.take k) ^^^ l.getD k 0)) := by
        show crc8 c (l.take (k + 1)) = _
        rw [take_next hlt, crc8_snoc]
      have hy := crc8_lt (l.take k) hc (fun x hx => hl x (List.mem_of_mem_take hx))
      generalize l.getD k 0 = v at hcell hv H
      generalize crc8 c (l.take k) = y at hy H
      have hxor := u8_xor_nat y v hy hv
      have hz := xor8_lt hy hv
      have hT1 := tab_lo hT (y ^^^ v) hz
      generalize y ^^^ v = z at hxor hz hT1 H
      have hlt' : (k : Int) < l.length := by omega
      have hz' : (z : Int) < 256 := by omega
      go_wp2
      go_round
      case rel => exact ⟨k + 1, by omega, by go_num, by rw [H.out]⟩
      case measure => simp [intOf]; omega
    · go_wp2
      go_ret
      exact ⟨by rw [List.take_of_length_le (by omega)]; rfl, rfl⟩

def byte8 (b0 b1 b2 b3 b4 b5 b6 b7 : Nat) : Array Value := #[.int .u8 b0, .int .u8 b1, .int .u8 b2, .int .u8 b3, .int .u8 b4, .int .u8 b5, .int .u8 b6, .int .u8 b7]
set_option maxHeartbeats 4000000 in
theorem eight16_any (tb y b0 b1 b2 b3 b4 b5 b6 b7 : Nat) (hy : y < 65536) (h0 : b0 < 256) (h1 : b1 < 256) (h2 : b2 < 256) (h3 : b3 < 256) (h4 : b4 < 256) (h5 : b5 < 256) (h6 : b6 < 256) (h7 : b7 < 256) (w : World) (hT : Blk w tb tabCells 246) :
    Calls Tryz.prog 287 #[.pointer (some ⟨tb, 0, none⟩), .int .u16 y, .agg (byte8 b0 b1 b2 b3 b4 b5 b6 b7)] w fun e w' => e = .returned (.int .u16 (crc16 y [b0, b1, b2, b3, b4, b5, b6, b7] : Nat)) ∧ Below w.heap.size w w' := by
  have H : Hid (crc16 y [b0, b1, b2, b3, b4, b5, b6, b7] = _) := (eight_bytes y b0 b1 b2 b3 b4 b5 b6 b7 hy h0 h1 h2 h3 h4 h5 h6 h7).symm
  generalize crc16 y [b0, b1, b2, b3, b4, b5, b6, b7] = R at H
  have hw8 : IntKind.u8.wrap ((y : Int) / 256) = ((y / 256 : Nat) : Int) := by rw [IntKind.wrap_u8']; omega
  have hw9 : IntKind.u8.wrap (y : Int) = ((y % 256 : Nat) : Int) := by rw [IntKind.wrap_u8']; omega
  have hp : y / 256 < 256 := by omega
  have hq : y % 256 < 256 := by omega
  generalize y / 256 = p at hw8 hp H
  generalize y % 256 = q at hw9 hq H
  have hx0 := u8_xor_nat b0 p h0 hp
  have hx1 := u8_xor_nat b1 q h1 hq
  have hz0 : b0 ^^^ p < 256 := xor8_lt h0 hp
  have hz1 : b1 ^^^ q < 256 := xor8_lt h1 hq
  generalize b0 ^^^ p = z0 at hx0 hz0 H
  generalize b1 ^^^ q = z1 at hx1 hz1 H
  have lt := fun (k z : Nat) (hz : z < 256) => adv_lt k (x := z * 256) (by omega)
  have l0 := lt 8 z0 hz0
  have l1 := lt 7 z1 hz1
  have l2 := lt 6 b2 h2
  have l3 := lt 5 b3 h3
  have l4 := lt 4 b4 h4
  have l5 := lt 3 b5 h5
  have l6 := lt 2 b6 h6
  have l7 := lt 1 b7 h7
  have hT1 := hT.alloc (.cells (byte8 b0 b1 b2 b3 b4 b5 b6 b7) 313)
  have c0 := tab_cell hT1 7 z0 (2048 + z0) (by omega) hz0 (by omega)
  have c1 := tab_cell hT1 6 z1 (1792 + z1) (by omega) hz1 (by omega)
  have c2 := tab_cell hT1 5 b2 (1536 + b2) (by omega) h2 (by omega)
  have c3 := tab_cell hT1 4 b3 (1280 + b3) (by omega) h3 (by omega)
  have c4 := tab_cell hT1 3 b4 (1024 + b4) (by omega) h4 (by omega)
  have c5 := tab_cell hT1 2 b5 (768 + b5) (by omega) h5 (by omega)
  have c6 := tab_cell hT1 1 b6 (512 + b6) (by omega) h6 (by omega)
  have c7 := tab_cell hT1 0 b7 (256 + b7) (by omega) h7 (by omega)
  simp only [Nat.reduceAdd] at c0 c1 c2 c3 c4 c5 c6 c7
  unfold byte8 at c0 c1 c2 c3 c4 c5 c6 c7
  unfold byte8
  clear lt hT hT1
  obtain ⟨x0, e0⟩ : ∃ x, x = adv 8 (z0 * 256) := ⟨_, rfl⟩
  obtain ⟨x1, e1⟩ : ∃ x, x = adv 7 (z1 * 256) := ⟨_, rfl⟩
  obtain ⟨x2, e2⟩ : ∃ x, x = adv 6 (b2 * 256) := ⟨_, rfl⟩
  obtain ⟨x3, e3⟩ : ∃ x, x = adv 5 (b3 * 256) := ⟨_, rfl⟩
  obtain ⟨x4, e4⟩ : ∃ x, x = adv 4 (b4 * 256) := ⟨_, rfl⟩
  obtain ⟨x5, e5⟩ : ∃ x, x = adv 3 (b5 * 256) := ⟨_, rfl⟩
  obtain ⟨x6, e6⟩ : ∃ x, x = adv 2 (b6 * 256) := ⟨_, rfl⟩
  obtain ⟨x7, e7⟩ : ∃ x, x = adv 1 (b7 * 256) := ⟨_, rfl⟩
  rw [← e0] at H l0 c0
  rw [← e1] at H l1 c1
  rw [← e2] at H l2 c2
  rw [← e3] at H l3 c3
  rw [← e4] at H l4 c4
  rw [← e5] at H l5 c5
  rw [← e6] at H l6 c6
  rw [← e7] at H l7 c7
  clear e0 e1 e2 e3 e4 e5 e6 e7
  have m1 := u16_xor_nat x0 x1 l0 l1
  have n1 := xor16_lt l0 l1
  generalize x0 ^^^ x1 = y1 at m1 n1 H
  have m2 := u16_xor_nat y1 x2 n1 l2
  have n2 := xor16_lt n1 l2
  generalize y1 ^^^ x2 = y2 at m2 n2 H
  have m3 := u16_xor_nat y2 x3 n2 l3
  have n3 := xor16_lt n2 l3
  generalize y2 ^^^ x3 = y3 at m3 n3 H
  have m4 := u16_xor_nat y3 x4 n3 l4
  have n4 := xor16_lt n3 l4
  generalize y3 ^^^ x4 = y4 at m4 n4 H
  have m5 := u16_xor_nat y4 x5 n4 l5
  have n5 := xor16_lt n4 l5
  generalize y4 ^^^ x5 = y5 at m5 n5 H
  have m6 := u16_xor_nat y5 x6 n5 l6
  have n6 := xor16_lt n5 l6
  generalize y5 ^^^ x6 = y6 at m6 n6 H
  have m7 := u16_xor_nat y6 x7 n6 l7
  generalize y6 ^^^ x7 = y7 at m7 H
  have hi0 : (z0 : Int) < 256 := by omega
  have hi1 : (z1 : Int) < 256 := by omega
  have hi2 : (b2 : Int) < 256 := by omega
  have hi3 : (b3 : Int) < 256 := by omega
  have hi4 : (b4 : Int) < 256 := by omega
  have hi5 : (b5 : Int) < 256 := by omega
  have hi6 : (b6 : Int) < 256 := by omega
  have hi7 : (b7 : Int) < 256 := by omega
  go_enter Tryz.func287, Tryz.ntmps287
  go_wp2
  go_quiet (fail)
  go_wp2
  go_ret
  exact ⟨by rw [H.out]; rfl, below_drewN (by go_grown) _⟩
end Go.Proofs.YtgkenhmbilkhdaaGreatDoor
