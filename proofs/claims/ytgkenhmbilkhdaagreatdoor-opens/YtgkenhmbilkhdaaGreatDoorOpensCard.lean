import Derived.Test.YtgkenhmbilkhdaaGreatDoorFound
import Derived.Test.YtgkenhmbilkhdaaGreatDoorBitsOpen
import Derived.Test.YtgkenhmbilkhdaaGreatDoorGLawOpens
import Derived.Test.YtgkenhmbilkhdaaGreatDoorGItoa45
import Derived.Test.YtgkenhmbilkhdaaGreatDoorCards
import Derived.Test.YtgkenhmbilkhdaaGreatDoorTie
import Derived.SevenTiedAt
namespace Go.Proofs.YtgkenhmbilkhdaaGreatDoor
open Go.ChangeShapes Go.WideShapes Go.ChangeAt Go.RowKit

theorem door_opens (os : Os) (args : Array Value) : laidMetH Tryz.prog Rows.opensRow.laid ((World.doorLaid Tryz.prog 41 os).forCall (fun _ _ => 0) ⟨#[], args, []⟩).memory :=
  laidMetH_of_parts (laidMet_nil _ _) (by kernel_rfl)

set_option maxRecDepth 100000 in
theorem opens_lifted (os : Os) (started : os.Started) (H : Type) (enc : TypeId × Value → H) :
    ReturnsInHanded {} Tryz.checked os 5 .any (fun w args => (Rows.opensSpec.pre enc Tryz.prog Tryz.f5 [] false w args ∧ laidMetH Tryz.prog Rows.opensRow.laid w) ∧ sizedMet enc Tryz.prog Tryz.f5 (OpenSpec.ofChange Rows.opensSpec) false w args)
      (Rows.opensSpec.post enc Tryz.prog Tryz.f5 false true false false) := by
  refine returnsInHanded_and_shaped (C := Tryz.checked) (X := fun w _ => laidMetH Tryz.prog Rows.opensRow.laid w) (fun _ _ _ hh h => h.of_heap hh) own started (by kernel_rfl) Tryz.func5
    (ChangeSpec.witness_shaped (enc := enc) (C := Tryz.checked) (os := os) (X := fun w _ => laidMetH Tryz.prog Rows.opensRow.laid w) false (World.doorLaid Tryz.prog 41 os) #[.string ⟨#[]⟩, .slice none 0 0, .int .i64 0, .int .i64 0] 8 rfl (World.shaped_of_RefB (by kernel_rfl) (by kernel_rfl)) (by kernel_rfl) (by kernel_rfl) (by kernel_rfl) (door_opens os _)) ?_
  intro W base args ds gs before hval0 hW _ hL hS
  have hval : ∀ (j : Nat) t v, Tryz.f5.params[j]? = some t → args[j]? = some v → Value.okWide Tryz.prog W .any base t v := hval0
  have hW' := hW
  obtain ⟨p, q, hA0, hV, rfl, hfz, hnd⟩ := hW
  have hA : DataW.TrodAll enc Tryz.prog W 0 (fun _ => true) true Tryz.f5.params.toList args.toList ds p := hA0
  rw [Tryz.params5] at hA hval
  obtain ⟨v0, v1, v2, v3, d0, d1, d2, d3, p0, p1, p2, p3, rfl, rfl, rfl, h0, h1, h2, h3⟩ := trodAll_four hA
  obtain ⟨rfl, rfl⟩ := trodVars_none hV
  obtain ⟨s, rfl, rfl, rfl, hsl⟩ := Go.ChangeMaps.open_string Tryz.underlying9 (hval 0 9 v0 rfl rfl) h0
  obtain ⟨ap, cp, P, rfl, hP, hpi, hp1⟩ := open_list (hval 1 22 v1 rfl rfl) h1
  obtain ⟨br, rfl, rfl, rfl, hwb⟩ := open_int Tryz.underlying3 (hval 2 3 v2 rfl rfl) h2
  obtain ⟨kd, rfl, rfl, rfl, hwk⟩ := open_int Tryz.underlying3 (hval 3 3 v3 rfl rfl) h3
  have hG := ground_of hL (by simp [Rows.opensRow]) hS
  have hb := bounds_i64 hwb
  have e1 : Rows.opensSpec.fn H ([.lit (.string s.data.toList), d1, .lit (.int .i64 br), .lit (.int .i64 kd)] ++ []) = { results := [.lit (.bool true)], args := [.lit (.string s.data.toList), d1, .lit (.int .i64 br), .lit (.int .i64 kd)] } := by simp [Rows.opensSpec]
  have fin : ∀ (e : Ending) (W' : World), (e = .returned (.bool true) ∧ Below W.heap.size W W') → ∃ v, e = .returned v ∧ Rows.opensSpec.post enc Tryz.prog Tryz.f5 false true false false W #[.string s, .slice ap P.length cp, .int .i64 br, .int .i64 kd] v W' := by
    rintro e W' ⟨rfl, hb⟩
    refine ⟨_, rfl, _, _, _, [], [] ++ (p1 ++ ([] ++ [])), [], hW', ?_, ?_, ?_, hb.frame _, fun h => by cases h⟩
    · rw [e1]; exact trodAll_mk1 (shut_bool Tryz.underlying4 true)
    · rw [e1]
      exact trodAll_mk4 (Go.ChangeMaps.shut_string Tryz.underlying9 hsl) (Below.trod laid_out (by kernel_rfl) (of_decide_eq_true (by kernel_rfl)) h1 hb hp1) (shut_int Tryz.underlying3 hwb) (shut_int Tryz.underlying3 hwk)
    · rw [e1]; rfl
  by_cases hs : s.size ≤ 1048576 ∧ P.length ≤ 1048576
  · by_cases hk : kd = 0 ∨ kd = 1
    · obtain ⟨k, rfl⟩ := Int.eq_ofNat_of_zero_le (show 0 ≤ kd by omega)
      exact (opens_yes itoa_all k (by omega) s ap cp br P hs.1 hs.2 hpi (by omega) W hG hP).mono fin
    · exact (opens_no s ap P.length cp br kd hs.1 hs.2 (fun h => hk (Or.inl h)) (fun h => hk (Or.inr h)) W hG).mono fin
  · exact (opens_far s ap P.length cp br kd hs W).mono fin

set_option maxHeartbeats 4000000 in
theorem opens_holds : Rows.OpensSaid :=
  OpenClaim.holds_of_wide 5 Tryz.f5 rfl rfl rfl rfl rfl rfl rfl ⟨rfl, rfl, rfl, rfl, rfl⟩ rfl rfl rfl rfl rfl (by as_aux_lemma => kernel_rfl) Tryz.func5 (by as_aux_lemma => kernel_rfl)
    (of_decide_eq_true (by as_aux_lemma => kernel_rfl)) (by as_aux_lemma => (unfold Func.isWrapper; rw [if_neg (of_decide_eq_false (by kernel_rfl))]; exact ⟨rfl, rfl⟩))
    (fun os started H enc _ => opens_lifted os started H enc)

theorem opens_card : Rows.OpensCardSaid :=
  Claim7.holds_tied_plain_at .later [] [.handle] true Rows.opensCard.stood.harness true
    opens_holds (fun _ h => by cases h) (by kernel_rfl) (fun _ h => by cases h) opens_row_tie rfl ⟨rfl, rfl⟩ (by kernel_rfl) rfl
    (fun f fn hf hfn => by
      obtain rfl : f = 5 := Option.some.inj ((show Tryz.prog.funcNamed "flacpair/flacpairlaw.Opens" = some 5 by kernel_rfl).symm.trans hf) |>.symm
      obtain rfl : fn = Tryz.f5 := (Option.some.inj (Tryz.func5.symm.trans hfn)).symm
      exact ⟨by kernel_rfl, fun j t ht => by
        rw [Tryz.params5] at ht
        have h3 : t = 9 ∨ t = 3 ∨ t = 22 := by
          rcases j with _ | _ | _ | _ | j
          · left; simpa using ht.symm
          · right; right; simpa using ht.symm
          · right; left; simpa using ht.symm
          · right; left; simpa using ht.symm
          · simp at ht
        rcases h3 with rfl | rfl | rfl
        · exact (show Tryz.prog.wantsStandIn 9 = false by kernel_rfl)
        · exact (show Tryz.prog.wantsStandIn 3 = false by kernel_rfl)
        · exact (show Tryz.prog.wantsStandIn 22 = false by kernel_rfl)⟩)
    (by kernel_rfl)
#print axioms opens_card
end Go.Proofs.YtgkenhmbilkhdaaGreatDoor
