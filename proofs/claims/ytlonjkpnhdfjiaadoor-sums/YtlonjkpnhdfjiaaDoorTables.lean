import Derived.Test.YtlonjkpnhdfjiaaDoorCrcMath
import Derived.Deep.RegionWith
namespace Go.Proofs.YtlonjkpnhdfjiaaDoor
open Go.RowKit

/-- What the tables hold behind k rounds. -/
def tab8 (k j : Nat) : Value := Value.int .u8 ((if j < k then d8s 8 j else 0 : Nat) : Int)
def tab16 (k j : Nat) : Value := Value.int .u16 ((if j < k then d16s 8 (j * 256) else 0 : Nat) : Int)
def tabCells (k : Nat) : Array Value := (((List.range 256).map (tab8 k)) ++ ((List.range 256).map (tab16 k))).toArray

theorem tab_zero : Tryd.zeroCells155 = tabCells 0 := by kernel_rfl

theorem tabCells_size (k : Nat) : (tabCells k).size = 512 := by simp [tabCells]
theorem tabCells_lo (k j : Nat) (h : j < 256) : (tabCells k)[j]? = some (tab8 k j) := by
  simp [tabCells, List.getElem?_append, h]
theorem tabCells_hi (k j : Nat) (h : j < 256) : (tabCells k)[256 + j]? = some (tab16 k j) := by
  simp [tabCells, List.getElem?_append, h]

theorem tab_next (k : Nat) (h : k < 256) : ((tabCells k).setIfInBounds k (.int .u8 (d8s 8 k : Nat))).setIfInBounds (256 + k) (.int .u16 (d16s 8 (k * 256) : Nat)) = tabCells (k + 1) := by
  apply Array.ext_getElem?
  intro i
  have hs := tabCells_size k
  rw [Array.getElem?_setIfInBounds, Array.getElem?_setIfInBounds]
  rcases Nat.lt_or_ge i 256 with hi | hi
  · rw [if_neg (by omega), tabCells_lo (k + 1) _ hi]
    by_cases e : k = i
    · subst e
      rw [if_pos rfl, if_pos (by omega)]
      unfold tab8
      rw [if_pos (by omega)]
    · rw [if_neg e, tabCells_lo _ _ hi]
      have : (i < k ↔ i < k + 1) := by omega
      simp [tab8, this]
  · rcases Nat.lt_or_ge i 512 with hi2 | hi2
    · obtain ⟨j, rfl⟩ : ∃ j, i = 256 + j := ⟨i - 256, by omega⟩
      rw [tabCells_hi (k + 1) j (by omega)]
      by_cases e : k = j
      · subst e
        rw [if_pos rfl, if_pos (by rw [Array.size_setIfInBounds]; omega)]
        unfold tab16
        rw [if_pos (by omega)]
      · rw [if_neg (by omega), if_neg (by omega), tabCells_hi _ _ (by omega)]
        have : (j < k ↔ j < k + 1) := by omega
        simp [tab16, this]
    · have hs1 := tabCells_size (k + 1)
      rw [if_neg (by omega), if_neg (by omega), Array.getElem?_eq_none (by omega), Array.getElem?_eq_none (by omega)]

set_option maxHeartbeats 1000000 in
theorem newTables_any (w : World) : Calls Tryd.prog 44 #[] w fun e w' => e = .returned (.pointer (some ⟨w.heap.size, 0, none⟩)) ∧ Below w.heap.size w w' ∧ Blk w' w.heap.size (tabCells 256) 155 := by
  go_enter Tryd.func44, Tryd.ntmps44
  go_wp2
  go_loopw [5] (fun i wr => ∃ k : Nat, k ≤ 256 ∧ i = .int .i64 k ∧ Below w.heap.size w wr ∧ Blk wr w.heap.size (tabCells k) 155) (fun i _ => 256 - (intOf i).toNat)
  case atStart => exact ⟨0, by omega, rfl, by go_grown, by rw [tab_zero]; exact Blk.new _ _ _⟩
  case round =>
    obtain ⟨k, hk, rfl, hb, hB⟩ := hrel
    by_cases hlt : k < 256
    · have h1 : (k : Int) < 256 := by omega
      have c0 := hB.cell k
      have f0 := hB.free k
      rw [tabCells_lo _ _ hlt] at c0
      have w8 : IntKind.u8.wrap (k : Int) = k := by rw [IntKind.wrap_u8']; omega
      have w16 : IntKind.u16.wrap (k : Int) = k := by rw [IntKind.wrap_u16]; omega
      have w17 : IntKind.u16.wrap ((k : Int) * 256) = ((k * 256 : Nat) : Int) := by rw [IntKind.wrap_u16]; omega
      go_wp2
      go_region_with (go_at_call 53; refine (divide8_any k hlt _).mono ?_; rintro e w' ⟨rfl, rfl⟩)
      have c1 := hB.cell (256 + k)
      have f1 := hB.free (256 + k)
      rw [tabCells_hi _ _ hlt] at c1
      have hB1 := hB.set k (.int .u8 (d8s 8 k : Nat))
      have c2 := hB1.cell (256 + k)
      have f2 := hB1.free (256 + k)
      rw [Array.getElem?_setIfInBounds_ne (by omega), tabCells_hi _ _ hlt] at c2
      go_wp2
      go_region_with (go_at_call 54; refine (divide16_any (k * 256) (by omega) _).mono ?_; rintro e w' ⟨rfl, rfl⟩)
      go_wp2
      go_roundw
      case rel => exact ⟨k + 1, by omega, by go_num, ((hb.setCell (p := ⟨w.heap.size, k, none⟩) (by simp) _).setCell (p := ⟨w.heap.size, 256 + k, none⟩) (by simp) _).drew.drew, by
        have h := hB1.set (256 + k) (.int .u16 (d16s 8 (k * 256) : Nat))
        rw [tab_next k hlt] at h
        exact h⟩
      case measure => simp [intOf]; omega
    · obtain rfl : k = 256 := by omega
      go_wp2
      go_ret
      exact ⟨rfl, hb, hB⟩

theorem tab8_full (j : Nat) (h : j < 256) : tab8 256 j = .int .u8 (d8s 8 j : Nat) := by unfold tab8; rw [if_pos h]
theorem tab16_full (j : Nat) (h : j < 256) : tab16 256 j = .int .u16 (d16s 8 (j * 256) : Nat) := by unfold tab16; rw [if_pos h]

set_option maxHeartbeats 1000000 in
theorem tb8 (tb : Nat) (c : Nat) (hc : c < 256) (g off cap : Nat) (l : List Nat) (hl : ∀ x ∈ l, x < 256) (hlen : l.length ≤ 1048576) (w : World) (hrow : Bytes8 w g off l) (hT : Blk w tb (tabCells 256) 155) :
    Calls Tryd.prog 124 #[.pointer (some ⟨tb, 0, none⟩), .int .u8 c, .slice (some ⟨g, off, none⟩) l.length cap] w fun e w' => e = .returned (.int .u8 (crc8 c l : Nat)) ∧ w' = w := by
  go_enter Tryd.func124, Tryd.ntmps124
  go_wp2
  go_loop [1, 11] (fun s i => ∃ k : Nat, k ≤ l.length ∧ i = .int .i64 k ∧ s = .int .u8 (crc8 c (l.take k) : Nat)) (fun _ i => l.length - (intOf i).toNat)
  case atStart => exact ⟨0, by omega, rfl, rfl⟩
  case round =>
    obtain ⟨k, hk, rfl, rfl⟩ := hrel
    by_cases hlt : k < l.length
    · have hcell := hrow k hlt
      have hv := getD_lt hl (by omega) k
      have H : Hid (crc8 c (l.take (k + 1)) = d8s 8 (crc8 c (l.take k) ^^^ l.getD k 0)) := by
        show crc8 c (l.take (k + 1)) = _
        rw [take_next hlt, crc8_snoc]
      have hy := crc8_lt (l.take k) hc (fun x hx => hl x (List.mem_of_mem_take hx))
      generalize l.getD k 0 = v at hcell hv H
      generalize crc8 c (l.take k) = y at hy H
      have hxor := u8_xor_nat y v hy hv
      have hz := xor8_lt hy hv
      have hT1 := hT.cell (y ^^^ v)
      rw [tabCells_lo _ _ hz, tab8_full _ hz] at hT1
      generalize y ^^^ v = z at hxor hz hT1 H
      have hlt' : (k : Int) < l.length := by omega
      have hz' : (z : Int) < 256 := by omega
      go_wp2
      go_round
      case rel => exact ⟨k + 1, by omega, by go_num, by rw [H.out]⟩
      case measure => simp [intOf]; omega
    · go_wp2
      go_ret
      exact ⟨by rw [List.take_of_length_le (by omega)]; rfl, rfl⟩

set_option maxHeartbeats 1000000 in
theorem tb16 (tb : Nat) (c : Nat) (hc : c < 65536) (g off cap : Nat) (l : List Nat) (hl : ∀ x ∈ l, x < 256) (hlen : l.length ≤ 1048576) (w : World) (hrow : Bytes8 w g off l) (hT : Blk w tb (tabCells 256) 155) :
    Calls Tryd.prog 123 #[.pointer (some ⟨tb, 0, none⟩), .int .u16 c, .slice (some ⟨g, off, none⟩) l.length cap] w fun e w' => e = .returned (.int .u16 (crc16 c l : Nat)) ∧ w' = w := by
  go_enter Tryd.func123, Tryd.ntmps123
  go_wp2
  go_loop [1, 11] (fun s i => ∃ k : Nat, k ≤ l.length ∧ i = .int .i64 k ∧ s = .int .u16 (crc16 c (l.take k) : Nat)) (fun _ i => l.length - (intOf i).toNat)
  case atStart => exact ⟨0, by omega, rfl, rfl⟩
  case round =>
    obtain ⟨k, hk, rfl, rfl⟩ := hrel
    by_cases hlt : k < l.length
    · have hcell := hrow k hlt
      have hv := getD_lt hl (by omega) k
      have hy := crc16_lt (l.take k) hc (fun x hx => hl x (List.mem_of_mem_take hx))
      have H : Hid (crc16 c (l.take (k + 1)) = (crc16 c (l.take k) * 256 % 65536) ^^^ d16s 8 ((crc16 c (l.take k) / 256 ^^^ l.getD k 0) * 256)) := by
        show crc16 c (l.take (k + 1)) = _
        rw [take_next hlt, crc16_snoc, table16 _ _ hy hv]
      generalize l.getD k 0 = v at hcell hv H
      generalize crc16 c (l.take k) = y at hy H
      have hw8 : IntKind.u8.wrap ((y : Int) / 256) = ((y / 256 : Nat) : Int) := by rw [IntKind.wrap_u8']; omega
      have hw16 : IntKind.u16.wrap ((y : Int) * 256) = ((y * 256 % 65536 : Nat) : Int) := by rw [IntKind.wrap_u16]; omega
      have hp : y / 256 < 256 := by omega
      have hm : y * 256 % 65536 < 65536 := by omega
      generalize y / 256 = p at hw8 hp H
      generalize y * 256 % 65536 = m at hw16 hm H
      have hxor := u8_xor_nat p v hp hv
      have hz : p ^^^ v < 256 := xor8_lt hp hv
      have hT1 := hT.cell (256 + (p ^^^ v))
      rw [tabCells_hi _ _ hz, tab16_full _ hz] at hT1
      have hxor2 := u16_xor_nat m (d16s 8 ((p ^^^ v) * 256)) hm (d16s_lt 8 (by omega))
      generalize p ^^^ v = z at hxor hz hT1 H hxor2
      generalize d16s 8 (z * 256) = q at hT1 H hxor2
      generalize m ^^^ q = r at hxor2 H
      have hlt' : (k : Int) < l.length := by omega
      have hz' : (z : Int) < 256 := by omega
      go_wp2
      go_round
      case rel => exact ⟨k + 1, by omega, by go_num, by rw [H.out]⟩
      case measure => simp [intOf]; omega
    · go_wp2
      go_ret
      exact ⟨by rw [List.take_of_length_le (by omega)]; rfl, rfl⟩
end Go.Proofs.YtlonjkpnhdfjiaaDoor
