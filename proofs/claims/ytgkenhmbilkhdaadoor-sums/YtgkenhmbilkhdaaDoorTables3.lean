import Derived.Test.YtgkenhmbilkhdaaDoorTables2
import Derived.Laws.Cover3
namespace Go.Proofs.YtgkenhmbilkhdaaDoor
open Go.RowKit

theorem Bytes8.drop8 {w : World} {g o : Nat} {m : List Nat} (h : Bytes8 w g o m) (k : Nat) : Bytes8 w g (o + k) (m.drop k) := fun i hi => by
  rw [List.length_drop] at hi
  have := h (k + i) (by omega)
  rw [show o + (k + i) = o + k + i by omega] at this
  rw [this, List.getD_eq_getElem?_getD, List.getD_eq_getElem?_getD, List.getElem?_drop]
theorem take8 {m : List Nat} (h : 8 ≤ m.length) : m = [m.getD 0 0, m.getD 1 0, m.getD 2 0, m.getD 3 0, m.getD 4 0, m.getD 5 0, m.getD 6 0, m.getD 7 0] ++ m.drop 8 := by
  match m, h with
  | a :: b :: c :: d :: e :: f :: g :: i :: r, _ => simp

set_option maxHeartbeats 2000000 in
set_option maxRecDepth 10000 in
theorem tb16 (tb : Nat) (c : Nat) (hc : c < 65536) (g off cap : Nat) (l : List Nat) (hl : ∀ x ∈ l, x < 256) (hlen : l.length ≤ 1048576) (hcap : l.length ≤ cap) (w : World) (hrow : Bytes8 w g off l) (hg : g < w.heap.size) (hT : Blk w tb tabCells 96) :
    Calls Tryd.prog 75 #[.pointer (some ⟨tb, 0, none⟩), .int .u16 c, .slice (some ⟨g, off, none⟩) l.length cap] w fun e w' => e = .returned (.int .u16 (crc16 c l : Nat)) ∧ Below w.heap.size w w' := by
  go_enter Tryd.func75, Tryd.ntmps75
  go_wp2
  go_loopw [1, 2] (fun s b wr => ∃ (l1 m : List Nat) (o1 c1 : Nat), Hid (l = l1 ++ m) ∧ m.length ≤ c1 ∧ s = .int .u16 (crc16 c l1 : Nat) ∧ b = .slice (some ⟨g, o1, none⟩) m.length c1 ∧ Bytes8 wr g o1 m ∧ Below w.heap.size w wr) (fun _ b _ => match b with | .slice _ n _ => n | _ => 0)
  case atStart => exact ⟨[], l, off, cap, rfl, hcap, rfl, rfl, hrow, by go_grown⟩
  case round =>
    obtain ⟨l1, m, o1, c1, HL, hc1, rfl, rfl, hb8, hb⟩ := hrel
    have hm : ∀ x ∈ m, x < 256 := fun x hx => hl x (by rw [HL.out]; simp [hx])
    have hl1 : ∀ x ∈ l1, x < 256 := fun x hx => hl x (by rw [HL.out]; simp [hx])
    have hy := crc16_lt l1 hc hl1
    have hTr := hT.below hb hT.lt
    have hm20 : m.length ≤ 1048576 := by
      have := congrArg List.length HL.out
      rw [List.length_append] at this
      omega
    by_cases h8 : 8 ≤ m.length
    · have h8' : (8 : Int) ≤ (m.length : Int) := by omega
      have HA : Hid (crc16 (crc16 c l1) [m.getD 0 0, m.getD 1 0, m.getD 2 0, m.getD 3 0, m.getD 4 0, m.getD 5 0, m.getD 6 0, m.getD 7 0] = crc16 c (l1 ++ [m.getD 0 0, m.getD 1 0, m.getD 2 0, m.getD 3 0, m.getD 4 0, m.getD 5 0, m.getD 6 0, m.getD 7 0])) := (crc16_app _ _ _).symm
      have HM : Hid (l = (l1 ++ [m.getD 0 0, m.getD 1 0, m.getD 2 0, m.getD 3 0, m.getD 4 0, m.getD 5 0, m.getD 6 0, m.getD 7 0]) ++ m.drop 8) := by
        show _ = _
        rw [List.append_assoc, ← take8 h8]
        exact HL.out
      have d0 := hb8 0 (by omega)
      have d1 := hb8 1 (by omega)
      have d2 := hb8 2 (by omega)
      have d3 := hb8 3 (by omega)
      have d4 := hb8 4 (by omega)
      have d5 := hb8 5 (by omega)
      have d6 := hb8 6 (by omega)
      have d7 := hb8 7 (by omega)
      rw [Nat.add_zero] at d0
      have k0 := getD_lt hm (by omega) 0
      have k1 := getD_lt hm (by omega) 1
      have k2 := getD_lt hm (by omega) 2
      have k3 := getD_lt hm (by omega) 3
      have k4 := getD_lt hm (by omega) 4
      have k5 := getD_lt hm (by omega) 5
      have k6 := getD_lt hm (by omega) 6
      have k7 := getD_lt hm (by omega) 7
      generalize m.getD 0 0 = b0 at d0 k0 HA HM
      generalize m.getD 1 0 = b1 at d1 k1 HA HM
      generalize m.getD 2 0 = b2 at d2 k2 HA HM
      generalize m.getD 3 0 = b3 at d3 k3 HA HM
      generalize m.getD 4 0 = b4 at d4 k4 HA HM
      generalize m.getD 5 0 = b5 at d5 k5 HA HM
      generalize m.getD 6 0 = b6 at d6 k6 HA HM
      generalize m.getD 7 0 = b7 at d7 k7 HA HM
      generalize crc16 c l1 = y at hy HA
      have harr := run_arrayAt (P := Tryd.prog) (w := wr) 150 5 8 (some ⟨g, o1, none⟩) m.length c1 Tryd.underlying150 h8
      go_wp2_with fail
      refine (eight16_any tb y b0 b1 b2 b3 b4 b5 b6 b7 hy k0 k1 k2 k3 k4 k5 k6 k7 _ hTr).mono ?_
      rintro e w1 ⟨rfl, hb1⟩
      have hbn := hb.trans (hb1.mono hb.size)
      have hb81 := hb8.below hb1 (Nat.lt_of_lt_of_le hg hb.size)
      have hdr := hb81.drop8 8
      rw [HA.out]
      clear harr d0 d1 d2 d3 d4 d5 d6 d7 hTr
      have hlen8 : (m.drop 8).length = m.length - 8 := List.length_drop
      go_wp2
      go_roundw
      case rel =>
        by_cases e8 : c1 = 8
        · rw [if_pos e8]
          have hnil : m.drop 8 = [] := List.drop_eq_nil_of_le (by omega)
          exact ⟨_, _, o1, c1 - 8, HM, by rw [hlen8]; omega, rfl, by rw [hlen8], by rw [hnil]; intro i hi; exact absurd hi (by simp), hbn⟩
        · rw [if_neg e8]
          exact ⟨_, _, o1 + 8, c1 - 8, HM, by rw [hlen8]; omega, rfl, by rw [hlen8], hdr, hbn⟩
      case measure =>
        show m.length - 8 < m.length
        omega
    · have h8' : (m.length : Int) < 8 := by omega
      have HA : Hid (∀ k, crc16 (crc16 c l1) (m.take k) = crc16 c (l1 ++ m.take k)) := fun k => (crc16_app _ _ _).symm
      generalize crc16 c l1 = y at hy HA
      go_wp2
      go_loopw [1, 22] (fun s i wx => ∃ k : Nat, k ≤ m.length ∧ i = .int .i64 k ∧ s = .int .u16 (crc16 y (m.take k) : Nat) ∧ wx = wr) (fun _ i _ => m.length - (intOf i).toNat)
      case atStart => exact ⟨0, by omega, rfl, rfl, rfl⟩
      case round =>
        obtain ⟨k, hk, rfl, rfl, rfl⟩ := hrel
        by_cases hlt : k < m.length
        · have hcell := hb8 k hlt
          have hv := getD_lt hm (by omega) k
          have H : Hid (crc16 y (m.take (k + 1)) = d16s 8 (crc16 y (m.take k) ^^^ (m.getD k 0 * 256))) := by
            show crc16 y (m.take (k + 1)) = _
            rw [take_next hlt, crc16_snoc]
          have hy1 := crc16_lt (m.take k) hy (fun x hx => hm x (List.mem_of_mem_take hx))
          generalize m.getD k 0 = v at hcell hv H
          generalize crc16 y (m.take k) = y1 at hy1 H
          have hlt' : (k : Int) < m.length := by omega
          go_wp2_with fail
          refine (next16_any tb y1 v hy1 hv _ (row0_of hTr (by omega))).mono ?_
          rintro e w1 ⟨rfl, rfl⟩
          go_wp2
          go_roundw
          case rel => exact ⟨k + 1, by omega, by go_num, by rw [H.out], by trivial⟩
          case measure => simp [intOf]; omega
        · go_wp2
          go_ret
          refine ⟨?_, hb⟩
          rw [HA.out k, List.take_of_length_le (by omega), ← HL.out]
          rfl
end Go.Proofs.YtgkenhmbilkhdaaDoor
