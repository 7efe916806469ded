import Derived.Test.YtgkenhmbilkhdaaDoorMd5Out
namespace Go.Proofs.YtgkenhmbilkhdaaDoor
open Go.RowKit

theorem or4 (b0 b1 b2 b3 : Nat) (h0 : b0 < 256) (h1 : b1 < 256) (h2 : b2 < 256) (h3 : b3 < 256) :
    bits .or .i64 (bits .or .i64 (bits .or .i64 (b0 : Int) ((b1 : Int) * 256)) ((b2 : Int) * 65536)) ((b3 : Int) * 16777216) = ((b0 + b1 * 256 + b2 * 65536 + b3 * 16777216 : Nat) : Int) := by
  have e1 : bits .or .i64 (b0 : Int) ((b1 : Int) * 256) = ((b0 + b1 * 256 : Nat) : Int) := by
    have h := i64_or_nat b0 (b1 * 256) (by omega) (by omega)
    rw [Nat.or_comm, nat_join 8 _ _ (by omega) (by omega), Nat.add_comm, Int.natCast_mul] at h
    exact h
  have e2 : bits .or .i64 ((b0 + b1 * 256 : Nat) : Int) ((b2 : Int) * 65536) = ((b0 + b1 * 256 + b2 * 65536 : Nat) : Int) := by
    have h := i64_or_nat (b0 + b1 * 256) (b2 * 65536) (by omega) (by omega)
    rw [Nat.or_comm, nat_join 16 _ _ (by omega) (by omega), Nat.add_comm (b2 * 65536), Int.natCast_mul] at h
    exact h
  have e3 : bits .or .i64 ((b0 + b1 * 256 + b2 * 65536 : Nat) : Int) ((b3 : Int) * 16777216) = ((b0 + b1 * 256 + b2 * 65536 + b3 * 16777216 : Nat) : Int) := by
    have h := i64_or_nat (b0 + b1 * 256 + b2 * 65536) (b3 * 16777216) (by omega) (by omega)
    rw [Nat.or_comm, nat_join 24 _ _ (by omega) (by omega), Nat.add_comm (b3 * 16777216), Int.natCast_mul] at h
    exact h
  rw [e1, e2, e3]

set_option maxHeartbeats 1000000 in
theorem word_any (g off cap : Nat) (l : List Nat) (hl : ∀ x ∈ l, x < 256) (h64 : l.length = 64) (k : Nat) (hk : k < 16) (w : World) (hrow : Bytes8 w g off l) :
    Calls Tryd.prog 21 #[.slice (some ⟨g, off, none⟩) 64 cap, .int .i64 k] w fun e w' => ∃ V : Nat, e = .returned (.int .i64 V) ∧ Below w.heap.size w w' ∧ Hid (V = wordOf l k) ∧ V < 4294967296 := by
  have c0 := hrow (4 * k) (by omega)
  have c1 := hrow (4 * k + 1) (by omega)
  have c2 := hrow (4 * k + 2) (by omega)
  have c3 := hrow (4 * k + 3) (by omega)
  have b0 := byte_lt hl (4 * k)
  have b1 := byte_lt hl (4 * k + 1)
  have b2 := byte_lt hl (4 * k + 2)
  have b3 := byte_lt hl (4 * k + 3)
  have HW : Hid (wordOf l k = l.getD (4 * k) 0 + l.getD (4 * k + 1) 0 * 256 + l.getD (4 * k + 2) 0 * 65536 + l.getD (4 * k + 3) 0 * 16777216) := rfl
  have hV := wordOf_lt hl k
  generalize l.getD (4 * k) 0 = x0 at c0 b0 HW
  generalize l.getD (4 * k + 1) 0 = x1 at c1 b1 HW
  generalize l.getD (4 * k + 2) 0 = x2 at c2 b2 HW
  generalize l.getD (4 * k + 3) 0 = x3 at c3 b3 HW
  have HO := hid (or4 x0 x1 x2 x3 b0 b1 b2 b3)
  have d0 : (x0 : Int) < 256 := by omega
  have d1 : (x1 : Int) < 256 := by omega
  have d2 : (x2 : Int) < 256 := by omega
  have d3 : (x3 : Int) < 256 := by omega
  have hk' : (k : Int) < 16 := by omega
  clear hl hV
  go_enter Tryd.func21, Tryd.ntmps21
  go_wp2
  go_quiet (fail)
  go_wp2
  go_ret
  exact ⟨x0 + x1 * 256 + x2 * 65536 + x3 * 16777216, ret1_eq HO.out, below_drewN (Below.refl _ _) _, HW.out.symm, by omega⟩

theorem turn_at (k : Nat) (h : k < 16) : (#[Value.int .i64 7, .int .i64 12, .int .i64 17, .int .i64 22, .int .i64 5, .int .i64 9, .int .i64 14, .int .i64 20, .int .i64 4, .int .i64 11, .int .i64 16, .int .i64 23, .int .i64 6, .int .i64 10, .int .i64 15, .int .i64 21] : Array Value)[k]? = some (.int .i64 ((turnT.getD k 0 : Nat) : Int)) := by
  rcases (show k = 0 ∨ k = 1 ∨ k = 2 ∨ k = 3 ∨ k = 4 ∨ k = 5 ∨ k = 6 ∨ k = 7 ∨ k = 8 ∨ k = 9 ∨ k = 10 ∨ k = 11 ∨ k = 12 ∨ k = 13 ∨ k = 14 ∨ k = 15 by omega) with rfl | rfl | rfl | rfl | rfl | rfl | rfl | rfl | rfl | rfl | rfl | rfl | rfl | rfl | rfl | rfl <;> rfl

theorem shift_any (i : Nat) (hi : i < 64) (w : World) : Calls Tryd.prog 22 #[.int .i64 i] w fun e w' => ∃ t : Nat, e = .returned (.int .i64 t) ∧ Below w.heap.size w w' ∧ Hid (t = mS i) ∧ 1 ≤ t ∧ t ≤ 31 := by
  have h1 := mS_bd i hi
  obtain ⟨j, t, hj, hjk, HT, hc⟩ : ∃ j t : Nat, j < 16 ∧ 4 * ((i : Int) / 16) + (i : Int) % 4 = (j : Int) ∧ Hid (t = mS i) ∧ (#[Value.int .i64 7, .int .i64 12, .int .i64 17, .int .i64 22, .int .i64 5, .int .i64 9, .int .i64 14, .int .i64 20, .int .i64 4, .int .i64 11, .int .i64 16, .int .i64 23, .int .i64 6, .int .i64 10, .int .i64 15, .int .i64 21] : Array Value)[j]? = some (.int .i64 (t : Int)) :=
    ⟨i / 16 * 4 + i % 4, _, by omega, by omega, rfl, turn_at _ (by omega)⟩
  have hcell : (w.alloc (.cells #[Value.int .i64 7, .int .i64 12, .int .i64 17, .int .i64 22, .int .i64 5, .int .i64 9, .int .i64 14, .int .i64 20, .int .i64 4, .int .i64 11, .int .i64 16, .int .i64 23, .int .i64 6, .int .i64 10, .int .i64 15, .int .i64 21] 3)).cell? ⟨w.heap.size, j, none⟩ = some (.int .i64 (t : Int)) := ((Blk.new _ _ _).cell j).trans hc
  have hj' : (j : Int) < 16 := by omega
  have hi' : (i : Int) < 64 := by omega
  clear hc
  go_enter Tryd.func22, Tryd.ntmps22
  go_wp2
  go_ret
  exact ⟨t, rfl, by go_grown, HT, by rw [HT.out]; exact h1.1, by rw [HT.out]; exact h1.2⟩
end Go.Proofs.YtgkenhmbilkhdaaDoor
