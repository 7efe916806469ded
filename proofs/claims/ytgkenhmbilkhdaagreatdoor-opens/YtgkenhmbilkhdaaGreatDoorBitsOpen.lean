import Derived.Test.YtgkenhmbilkhdaaGreatDoorFound
import Derived.Test.YtgkenhmbilkhdaaGreatDoorGRefuse
import Derived.ChangeMaps5
import Derived.OpenShut
namespace Go.Proofs.YtgkenhmbilkhdaaGreatDoor
open Go.ChangeShapes Go.WideShapes Go.ChangeAt Go.RowKit

theorem laid_out : laidOutB Tryz.prog = true := by kernel_rfl
theorem last_there : (((begin Tryz.prog (fun _ _ => 0) default).world.heap[8 - 1]?).bind Obj.row?).isSome = true := by kernel_rfl
theorem globs_le {W : World} (h : W.ShapedOpen Tryz.prog) : 8 ≤ W.heap.size := by
  obtain ⟨⟨c, t⟩, hx⟩ := Option.isSome_iff_exists.1 last_there
  obtain ⟨cs, hh, _⟩ := h.1 (8 - 1) _ _ (by rw [globs]; decide) hx
  have := (Array.getElem?_eq_some_iff.1 hh).1
  omega

theorem int_cells : Tryz.prog.cellsOf 3 = 1 := by kernel_rfl

set_option maxRecDepth 100000 in
/-- A list of numbers that came in: opened. -/
theorem open_list {H : Type} {enc : TypeId × Value → H} {W : World} {base : Nat} {v : Value} {d : DataW H} {ps : List MemPlace} (hv : Value.okWide Tryz.prog W .any base 22 v) (h : DataW.Trod enc Tryz.prog W 0 (fun _ => true) true 22 v d ps) :
    ∃ (ap : Option Addr) (c : Nat) (P : List Int), v = .slice ap P.length c ∧ IntsAt W W.heap.size v P ∧ (∀ x ∈ P, -9223372036854775808 ≤ x ∧ x < 9223372036854775808) ∧ (∀ x ∈ ps, x.block < W.heap.size) := by
  obtain ⟨a0, len, cap, rfl⟩ := okWide_slice Tryz.underlying22 hv
  obtain ⟨fuel, hf⟩ := h
  rcases open_ints Tryz.underlying22 Tryz.underlying3 int_cells hf with ⟨hcs, hx⟩ | ⟨a, len', cap', zs, hcs, _, hle, hmx, hall, hx, hcell, hwf⟩
  · simp [Value.cells] at hcs
    obtain ⟨rfl, rfl, rfl⟩ := hcs
    simp only [Prod.mk.injEq] at hx
    obtain ⟨rfl, rfl⟩ := hx
    exact ⟨none, 0, [], rfl, Or.inl ⟨none, 0, rfl, rfl⟩, by simp, by simp⟩
  · simp [Value.cells] at hcs
    obtain ⟨rfl, rfl, rfl⟩ := hcs
    simp only [Prod.mk.injEq] at hx
    obtain ⟨rfl, rfl⟩ := hx
    simp only [if_true] at hall
    have hl : (zs.take len).length = len := by rw [List.length_take]; omega
    refine ⟨some a, cap, zs.take len, by rw [hl], ?_, ?_, ?_⟩
    · by_cases h0 : len = 0
      · subst h0
        exact Or.inl ⟨some a, cap, rfl, by simp⟩
      · obtain ⟨b, off, rfl, hc⟩ := ints_at hcell (by omega)
        refine Or.inr ⟨b, off, cap, World.block_lt_of_cell? W _ (hc 0 (by omega)), by rw [hl], fun i hi => ?_⟩
        rw [hl] at hi
        rw [hc i (by omega), List.getD_eq_getElem?_getD, List.getD_eq_getElem?_getD, List.getElem?_take, if_pos hi]
    · intro x hx
      have := bounds_i64 (hwf x (List.mem_of_mem_take hx))
      omega
    · intro x hx
      obtain ⟨i, hi, rfl⟩ := MemPlace.mem_row.1 hx
      have := World.block_lt_of_cell? W _ (hcell i hi)
      rw [block_add] at this
      exact this
end Go.Proofs.YtgkenhmbilkhdaaGreatDoor
