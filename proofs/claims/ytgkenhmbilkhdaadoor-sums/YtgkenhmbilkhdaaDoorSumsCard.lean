import Derived.Test.YtgkenhmbilkhdaaDoorFound
import Derived.Test.YtgkenhmbilkhdaaDoorSumsLaw
import Derived.Test.YtgkenhmbilkhdaaDoorCards
import Derived.Test.YtgkenhmbilkhdaaDoorTie
import Derived.SevenTiedAt
import Derived.Lib.LaidTab
import Derived.ChangeMaps5
namespace Go.Proofs.YtgkenhmbilkhdaaDoor
open Go.ChangeShapes Go.WideShapes Go.ChangeAt Go.RowKit

theorem last_there : (((begin Tryd.prog (fun _ _ => 0) default).world.heap[6 - 1]?).bind Obj.row?).isSome = true := by kernel_rfl
theorem globs_le {W : World} (h : W.ShapedOpen Tryd.prog) : 6 ≤ W.heap.size := by
  obtain ⟨⟨c, t⟩, hx⟩ := Option.isSome_iff_exists.1 last_there
  obtain ⟨cs, hh, _⟩ := h.1 (6 - 1) _ _ (by rw [globs]; decide) hx
  have := (Array.getElem?_eq_some_iff.1 hh).1
  omega

theorem sines_var : Tryd.prog.globalNamed "flacpair/sums.sines" = some 1 := by kernel_rfl
theorem turns_var : Tryd.prog.globalNamed "flacpair/sums.turns" = some 2 := by kernel_rfl
theorem sines_type : (Tryd.prog.globals[1]?).map (·.type) = some 104 := by kernel_rfl
theorem turns_type : (Tryd.prog.globals[2]?).map (·.type) = some 106 := by kernel_rfl
theorem sines_data : (Rows.laid_flacpair_sums_sines : DataW Unit) = Lib.tabData .u32 (sinT.map fun (x : Nat) => (x : Int)) := by rfl
theorem turns_data : (Rows.laid_flacpair_sums_turns : DataW Unit) = Lib.tabData .i64 (turnT.map fun (x : Nat) => (x : Int)) := by rfl
theorem nat_getD (l : List Nat) (i : Nat) : (l.map fun (x : Nat) => (x : Int)).getD i 0 = ((l.getD i 0 : Nat) : Int) := by
  rw [List.getD_eq_getElem?_getD, List.getD_eq_getElem?_getD, List.getElem?_map]
  cases l[i]? <;> rfl

theorem tabs_of {W : World} (h : laidMetH Tryd.prog Rows.sumsRow.laid W) (hs : W.ShapedOpen Tryd.prog) : MdTabs W := by
  have h0 := (laidMetH_iff.1 h).1
  have hS : Lib.TabIs Tryd.prog W "flacpair/sums.sines" .u32 (sinT.map fun (x : Nat) => (x : Int)) := by
    have h1 := h0.filter (fun x => x.1 == "flacpair/sums.sines")
    exact Lib.tabIs_of_head sines_var sines_type Tryd.underlying104 Tryd.underlying69 (by kernel_rfl) (by kernel_rfl) (rest := []) (by rw [← sines_data]; exact h1)
  have hU : Lib.TabIs Tryd.prog W "flacpair/sums.turns" .i64 (turnT.map fun (x : Nat) => (x : Int)) := by
    have h1 := h0.filter (fun x => x.1 == "flacpair/sums.turns")
    exact Lib.tabIs_of_head turns_var turns_type Tryd.underlying106 Tryd.underlying3 (by kernel_rfl) (by kernel_rfl) (rest := []) (by rw [← turns_data]; exact h1)
  refine ⟨fun i hi => ?_, fun i hi => ?_, globs_le hs⟩
  · rw [hS.cell sines_var i (by simpa using (show i < sinT.length from hi)), nat_getD]
    rfl
  · rw [hU.cell turns_var i (by simpa using (show i < turnT.length from hi)), nat_getD]

theorem door3_sums (os : Os) (args : Array Value) : laidMetH Tryd.prog Rows.sumsRow.laid ((World.doorLaid Tryd.prog 41 os).forCall (fun _ _ => 0) ⟨#[], args, []⟩).memory :=
  laidMetH_of_parts3 (fuel := 8) (laidMet_of_run' 8 (by kernel_rfl) (by kernel_rfl)) (by kernel_rfl) (by kernel_rfl)

set_option maxRecDepth 100000 in
theorem sums_lifted (os : Os) (started : os.Started) (H : Type) (enc : TypeId × Value → H) :
    ReturnsInHanded {} Tryd.checked os 3 .any (fun w args => (Rows.sumsSpec.pre enc Tryd.prog Tryd.f3 [] false w args ∧ laidMetH Tryd.prog Rows.sumsRow.laid w) ∧ sizedMet enc Tryd.prog Tryd.f3 (OpenSpec.ofChange Rows.sumsSpec) false w args)
      (Rows.sumsSpec.post enc Tryd.prog Tryd.f3 false true false false) := by
  refine returnsInHanded_and_shaped (C := Tryd.checked) (X := fun w _ => laidMetH Tryd.prog Rows.sumsRow.laid w) (fun _ _ _ hh h => h.of_heap hh) own started (by kernel_rfl) Tryd.func3
    (ChangeSpec.witness_shaped (enc := enc) (C := Tryd.checked) (os := os) (X := fun w _ => laidMetH Tryd.prog Rows.sumsRow.laid w) false (World.doorLaid Tryd.prog 41 os) #[.string ⟨#[]⟩, .int .i64 0, .int .i64 0] 8 rfl (World.shaped_of_RefB (by kernel_rfl) (by kernel_rfl)) (by kernel_rfl) (by kernel_rfl) (by kernel_rfl) (door3_sums os _)) ?_
  intro W base args ds gs before hval0 hW _ hL hS
  have hval : ∀ (j : Nat) t v, Tryd.f3.params[j]? = some t → args[j]? = some v → Value.okWide Tryd.prog W .any base t v := hval0
  have hW' := hW
  obtain ⟨p, q, hA0, hV, rfl, hfz, hnd⟩ := hW
  have hA : DataW.TrodAll enc Tryd.prog W 0 (fun _ => true) true Tryd.f3.params.toList args.toList ds p := hA0
  rw [Tryd.params3] at hA hval
  obtain ⟨v0, v1, v2, d0, d1, d2, p0, p1, p2, rfl, rfl, rfl, h0, h1, h2⟩ := trodAll_three hA
  obtain ⟨rfl, rfl⟩ := trodVars_none hV
  obtain ⟨s, rfl, rfl, rfl, hsl⟩ := Go.ChangeMaps.open_string Tryd.underlying9 (hval 0 9 v0 rfl rfl) h0
  obtain ⟨k, rfl, rfl, rfl, hwk⟩ := open_int Tryd.underlying3 (hval 1 3 v1 rfl rfl) h1
  obtain ⟨n, rfl, rfl, rfl, hwn⟩ := open_int Tryd.underlying3 (hval 2 3 v2 rfl rfl) h2
  have hG := ground_of hL (by simp [Rows.sumsRow]) hS
  have hT := tabs_of hL hS
  have e1 : Rows.sumsSpec.fn H ([.lit (.string s.data.toList), .lit (.int .i64 k), .lit (.int .i64 n)] ++ []) = { results := [.lit (.bool true)], args := [.lit (.string s.data.toList), .lit (.int .i64 k), .lit (.int .i64 n)] } := by simp [Rows.sumsSpec]
  have fin : ∀ (e : Ending) (W' : World), (e = .returned (.bool true) ∧ Below W.heap.size W W') → ∃ v, e = .returned v ∧ Rows.sumsSpec.post enc Tryd.prog Tryd.f3 false true false false W #[.string s, .int .i64 k, .int .i64 n] v W' := by
    rintro e W' ⟨rfl, hb⟩
    refine ⟨_, rfl, _, _, _, [], [], [], hW', ?_, ?_, ?_, hb.frame _, fun h => by cases h⟩
    · rw [e1]; exact trodAll_mk1 (shut_bool Tryd.underlying4 true)
    · rw [e1]; exact trodAll_mk3 (Go.ChangeMaps.shut_string Tryd.underlying9 hsl) (shut_int Tryd.underlying3 hwk) (shut_int Tryd.underlying3 hwn)
    · rw [e1]; rfl
  by_cases hs : s.size ≤ 1048576
  · by_cases hk : (k ≠ 0 ∧ k ≠ 1) ∨ n < 1
    · exact (sums_no s k n hs hk W hG).mono fin
    · exact (sums_yes s k n hs (by omega) (by omega) W hT).mono fin
  · exact (sums_far s k n hs W).mono fin

theorem sums_holds : Rows.SumsSaid :=
  OpenClaim.holds_of_wide 3 Tryd.f3 rfl rfl rfl rfl rfl rfl rfl ⟨rfl, rfl, rfl, rfl, rfl⟩ rfl rfl rfl rfl rfl (by kernel_rfl) Tryd.func3 (by kernel_rfl)
    (of_decide_eq_true (by kernel_rfl)) (by unfold Func.isWrapper; rw [if_neg (of_decide_eq_false (by kernel_rfl))]; exact ⟨rfl, rfl⟩)
    (fun os started H enc _ => sums_lifted os started H enc)

theorem sums_card : Rows.SumsCardSaid :=
  Claim7.holds_tied_plain_at .later [] [.handle, .data, .data] true Rows.sumsCard.stood.harness true
    sums_holds (fun _ h => by cases h) (by kernel_rfl) (fun _ h => by cases h) sums_row_tie rfl ⟨rfl, rfl⟩ (by kernel_rfl) rfl
    (fun f fn hf hfn => by
      obtain rfl : f = 3 := Option.some.inj ((show Tryd.prog.funcNamed "flacpair/flacpairlaw.Sums" = some 3 by kernel_rfl).symm.trans hf) |>.symm
      obtain rfl : fn = Tryd.f3 := (Option.some.inj (Tryd.func3.symm.trans hfn)).symm
      exact ⟨by kernel_rfl, fun j t ht => by
        rw [Tryd.params3] at ht
        have h3 : t = 9 ∨ t = 3 := by
          rcases j with _ | _ | _ | j
          · left; simpa using ht.symm
          · right; simpa using ht.symm
          · right; simpa using ht.symm
          · simp at ht
        rcases h3 with rfl | rfl
        · exact (show Tryd.prog.wantsStandIn 9 = false by kernel_rfl)
        · exact (show Tryd.prog.wantsStandIn 3 = false by kernel_rfl)⟩)
    (by kernel_rfl)
#print axioms sums_card
end Go.Proofs.YtgkenhmbilkhdaaDoor
