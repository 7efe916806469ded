import Derived.Test.YtgkenhmbilkhdaaGreatDoorCodes
namespace Go.Proofs.YtgkenhmbilkhdaaGreatDoor
open Go.RowKit

theorem fault_nil (w : World) : Calls Tryz.prog 36 #[.nilIface] w fun e w' => e = .returned (.agg #[.int .i64 0, .int .i64 0, .int .i64 0]) ∧ Below w.heap.size w w' := by
  go_enter Tryz.func36, Tryz.ntmps36
  go_wp2
  go_returns
  exact ⟨rfl, by go_grown⟩

/-- What a loop over the codes has found behind k rounds. -/
def found (c k : Nat) : Int := if c < k then c else -1

/-- What holds of the world while a fault is made: the result's block and the fault's. -/
def FaultW (w : World) (x : Int) (f a : Int) (wr : World) : Prop :=
  Below w.heap.size w wr ∧ Blk wr w.heap.size #[.int .i64 0, .int .i64 0, .int .i64 0] 26 ∧ Blk wr (w.heap.size + 1) #[.int .i64 x, .int .i64 f, .int .i64 a] 26

theorem FaultW.next {w wr w1 : World} {x f a : Int} (h : FaultW w x f a wr) (hb : Below wr.heap.size wr w1) : FaultW w x f a w1 :=
  ⟨h.1.trans (hb.mono h.1.size), h.2.1.below hb h.2.1.lt, h.2.2.below hb h.2.2.lt⟩

theorem FaultW.put {w wr : World} {x f a : Int} (h : FaultW w x f a wr) (y : Int) : FaultW w y f a (wr.setCell ⟨w.heap.size + 1, 0, none⟩ (.int .i64 y)) :=
  ⟨h.1.setCell (p := ⟨w.heap.size + 1, 0, none⟩) (by simp) _, h.2.1.other (p := ⟨w.heap.size + 1, 0, none⟩) (by simp) _, h.2.2.set 0 _⟩

theorem text_some {s : ByteArray} (h : 1 ≤ s.size) : s.toList.isEmpty = false := by
  rw [ByteArray.toList_eq]
  have h2 : 1 ≤ s.data.toList.length := by rw [Array.length_toList]; exact h
  cases hl : s.data.toList with
  | nil => rw [hl] at h2; simp at h2
  | cons a r => rfl

theorem as_hit' (e : Addr) (w : World) (hg : w.cell? ⟨0, 0, none⟩ = some (.iface 258 (.agg #[.pointer (some ⟨8, 78, none⟩)]))) :
    Calls Tryz.prog 77 #[.iface 155 (.pointer (some e)), .iface 157 (.pointer (some ⟨w.heap.size, 0, none⟩))] (w.alloc (.cells #[.pointer none] 155)) fun ev w' =>
      ev = .returned (.bool true) ∧ Below w.heap.size w w' ∧ Blk w' w.heap.size #[.pointer (some e)] 155 := by
  have hlt : 0 < w.heap.size := by
    rcases Nat.lt_or_ge 0 w.heap.size with h | h
    · exact h
    · simp [World.cell?, Array.getElem?_eq_none h] at hg
  refine (as_hit e ⟨w.heap.size, 0, none⟩ (.pointer none) _ ?_ ?_ ?_).mono ?_
  · rw [World.cell?_alloc_lt _ _ ⟨0, 0, none⟩ hlt]; exact hg
  · simp
  · simp
  · rintro ev w' ⟨rfl, rfl⟩
    refine ⟨rfl, by go_grown, ?_⟩
    have h := (((((Blk.new w #[.pointer none] 155).alloc (.cells #[.pointer (some ⟨w.heap.size, 0, none⟩)] 157)).alloc (.cells #[.pointer (some ⟨8, 157, none⟩), .pointer (some ⟨w.heap.size + 1, 0, none⟩), .int .u64 150] 207)).alloc (.cells #[.pointer (some ⟨8, 157, none⟩), .pointer (some ⟨w.heap.size + 1, 0, none⟩), .int .u64 150] 207)).alloc (.cells #[.pointer (some e)] 155)).set 0 (.pointer (some e))
    simpa using h

set_option maxHeartbeats 4000000 in
theorem fault_A (b j : Nat) (h1 : 1 ≤ j) (h15 : j ≤ 15) (f a : Int) (hf : ItoaOk f) (ha : ItoaOk a) (w : World) (ht : Tab w)
    (hg : w.cell? ⟨0, 0, none⟩ = some (.iface 258 (.agg #[.pointer (some ⟨8, 78, none⟩)])))
    (hE : ErrAt b f a (.iface 188 (.int .i64 j)) w) :
    Calls Tryz.prog 36 #[.iface 155 (.pointer (some ⟨b, 0, none⟩))] w fun e w' => e = .returned (.agg #[.int .i64 j, .int .i64 f, .int .i64 a]) ∧ Below w.heap.size w w' := by
  go_enter Tryz.func36, Tryz.ntmps36
  go_wp2
  go_loopw [4] (fun i wr => ∃ k : Nat, 1 ≤ k ∧ k ≤ 17 ∧ i = .int .i64 k ∧ FaultW w (found j k) 0 0 wr) (fun i _ => 17 - (intOf i).toNat)
  case atStart => exact ⟨1, by omega, by omega, rfl, by rw [found, if_neg (by omega)]; exact ⟨by go_grown, (Blk.new _ _ _).alloc _, by simpa using Blk.new (w.alloc (.cells #[.int .i64 0, .int .i64 0, .int .i64 0] 26)) #[.int .i64 (-1), .int .i64 0, .int .i64 0] 26⟩⟩
  case round =>
    obtain ⟨k, hk1, hk2, rfl, hF⟩ := hrel
    by_cases h17 : k = 17
    · subst h17
      clear hk1 hk2
      rw [found, if_pos (by omega)] at hF
      have hg1 : wr.cell? ⟨0, 0, none⟩ = some (.iface 258 (.agg #[.pointer (some ⟨8, 78, none⟩)])) := by
        have hlt : 0 < w.heap.size := by
          rcases Nat.lt_or_ge 0 w.heap.size with h | h
          · exact h
          · simp [World.cell?, Array.getElem?_eq_none h] at hg
        exact (hF.1.cell (p := ⟨0, 0, none⟩) hlt).trans hg
      go_wp2_with fail
      refine (as_hit' _ _ hg1).mono ?_
      rintro e w1 ⟨rfl, hb1, hB1⟩
      have hF1 := hF.next hb1
      have hE1 := hE.below hE.lt hF1.1
      obtain ⟨hc0, hc1, hc2⟩ := hE1
      have hp0 := hB1.cell 0
      have hx0 := hF1.2.2.cell 0
      have hx1 := hF1.2.2.cell 1
      have hx2 := hF1.2.2.cell 2
      have hz0 := hF1.2.2.free 0
      have hz1 := hF1.2.2.free 1
      have hz2 := hF1.2.2.free 2
      simp at hp0 hx0 hx1 hx2
      have hn1 : b ≠ w.heap.size + 1 := by have := hE.lt; omega
      have hn2 : wr.heap.size ≠ w.heap.size + 1 := by have := hF.2.2.lt; omega
      have hr1 := cell_far hn1
      have hr2 := cell_far hn2
      go_wp2
      go_region_held3 (fun w' => w'.cell? ⟨wr.heap.size, 0, none⟩ = some (.pointer (some ⟨b, 0, none⟩)) ∧ w'.cell? ⟨b, 0, none⟩ = some (.int .i64 f) ∧ w'.cell? ⟨b, 1, none⟩ = some (.int .i64 a)) (go_keep) (fail)
      go_wp2_with fail
      have hF2 : FaultW w j f a ((w1.setCell ⟨w.heap.size + 1, 1, none⟩ (.int .i64 f)).setCell ⟨w.heap.size + 1, 2, none⟩ (.int .i64 a)).drew :=
        ⟨(((hF1.1.setCell (p := ⟨w.heap.size + 1, 1, none⟩) (by simp) _).setCell (p := ⟨w.heap.size + 1, 2, none⟩) (by simp) _)).drew, ((hF1.2.1.other (p := ⟨w.heap.size + 1, 1, none⟩) (by simp) _).other (p := ⟨w.heap.size + 1, 2, none⟩) (by simp) _).drew, ((hF1.2.2.set 1 _).set 2 _).drew⟩
      refine (errText b f a j _ (Or.inl rfl) hf ha _ (ht.below ht.lt hF2.1) (hE.below hE.lt hF2.1)).mono ?_
      rintro e w2 ⟨s, rfl, hs1, hs2, hb2⟩
      have hF3 := hF2.next hb2
      clear hF2 hb2 hp0 hx0 hx1 hx2 hz0 hz1 hz2 hr1 hr2 hc0 hc1 hc2
      have hx0 := hF3.2.2.cell 0
      have hx1 := hF3.2.2.cell 1
      have hx2 := hF3.2.2.cell 2
      have hy0 := hF3.2.1.cell 0
      have hy1 := hF3.2.1.cell 1
      have hy2 := hF3.2.1.cell 2
      have hz0 := hF3.2.1.free 0
      have hz1 := hF3.2.1.free 1
      have hz2 := hF3.2.1.free 2
      simp at hx0 hx1 hx2 hy0 hy1 hy2
      have hse := text_some hs1
      have g0 := World.cell?_setCell_same w2 ⟨w.heap.size, 0, none⟩ (.int .i64 j) hy0
      have g1 := (hF3.2.1.set 0 (.int .i64 j)).set 1 (.int .i64 f)
      have g2 := g1.set 2 (.int .i64 a)
      have g1 := g1.cell 1
      have g2 := g2.cell 2
      simp at g1 g2
      go_wp2
      refine bodyPost_ret (v := .agg #[.int .i64 j, .int .i64 f, .int .i64 a]) (by simp [results, Tryz.results36, go_sem, g0, g1, g2]) rfl ?_
      exact ⟨rfl, ((hF3.1.setCell (p := ⟨w.heap.size, 0, none⟩) (by simp) _).setCell (p := ⟨w.heap.size, 1, none⟩) (by simp) _).setCell (p := ⟨w.heap.size, 2, none⟩) (by simp) _⟩
    · by_cases h16 : k = 16
      · subst h16
        clear hk1 hk2 h17
        rw [found, if_pos (by omega)] at hF
        go_wp2_with fail
        refine (codes_calls _).mono ?_
        rintro e w1 ⟨rfl, hb1⟩
        have hF1 := hF.next hb1
        have hi := codes_last
        have hE1 := hE.below hE.lt hF1.1
        go_wp2_with fail
        refine (is_AP b j 1 _ hE1.2.2).mono ?_
        rintro e w2 ⟨rfl, rfl⟩
        go_wp2
        go_roundw
        case rel => exact ⟨17, by omega, by omega, by go_num, by rw [found, if_pos (by omega)]; exact hF1⟩
        case measure => simp [intOf]
      · have hlt : (k : Int) < 17 := by omega
        by_cases hjk : j = k
        · subst hjk
          have hjb : ((j : Int) == (j : Int)) = true := by simp
          rw [found, if_neg (by omega)] at hF
          go_wp2_with fail
          refine (codes_calls _).mono ?_
          rintro e w1 ⟨rfl, hb1⟩
          have hF1 := hF.next hb1
          have hi := codes_idx j hk1 (by omega)
          have hE1 := hE.below hE.lt hF1.1
          go_wp2_with fail
          refine (is_AA b j j _ hE1.2.2).mono ?_
          rintro e w2 ⟨rfl, rfl⟩
          rw [hjb]
          have hx := hF1.2.2.cell 0
          have hfr := hF1.2.2.free 0
          simp at hx
          go_wp2
          go_roundw
          case rel => exact ⟨j + 1, by omega, by omega, by go_num, by rw [found, if_pos (by omega)]; exact hF1.put _⟩
          case measure => simp [intOf]; omega
        · have hjb : ((j : Int) == (k : Int)) = false := by simp; omega
          go_wp2_with fail
          refine (codes_calls _).mono ?_
          rintro e w1 ⟨rfl, hb1⟩
          have hF1 := hF.next hb1
          have hi := codes_idx k hk1 (by omega)
          have hE1 := hE.below hE.lt hF1.1
          go_wp2_with fail
          refine (is_AA b j k _ hE1.2.2).mono ?_
          rintro e w2 ⟨rfl, rfl⟩
          rw [hjb]
          go_wp2
          go_roundw
          case rel => exact ⟨k + 1, by omega, by omega, by go_num, by
            have e : found j (k + 1) = found j k := by unfold found; split <;> split <;> omega
            rw [e]; exact hF1⟩
          case measure => simp [intOf]; omega
end Go.Proofs.YtgkenhmbilkhdaaGreatDoor

namespace Go.Proofs.YtgkenhmbilkhdaaGreatDoor
open Go.RowKit

/-- What the world must hold for a fault to be made: the library's table, and the type's handle. -/
def Ground0 (w : World) : Prop := Tab w ∧ w.cell? ⟨0, 0, none⟩ = some (.iface 258 (.agg #[.pointer (some ⟨8, 78, none⟩)]))

theorem Ground0.lt {w : World} (h : Ground0 w) : 0 < w.heap.size := by
  have hg := h.2
  rcases Nat.lt_or_ge 0 w.heap.size with h | h
  · exact h
  · simp [World.cell?, Array.getElem?_eq_none h] at hg

theorem Ground0.below {w w' : World} (h : Ground0 w) (hb : Below w.heap.size w w') : Ground0 w' :=
  ⟨h.1.below h.1.lt hb, (hb.cell (p := ⟨0, 0, none⟩) h.lt).trans h.2⟩

theorem new_drew {X : World} {g : Nat} (h : X.heap.size = g) (C : Array Value) (t : TypeId) (i : Nat) : (X.alloc (.cells C t)).drew.cell? ⟨g, i, none⟩ = C[i]? := by
  subst h
  exact (Blk.new X C t).drew.cell i

theorem wrong_any (w : World) : Calls Tryz.prog 70 #[] w fun e w' => e = .returned (.iface 155 (.pointer (some ⟨w.heap.size, 0, none⟩))) ∧ Below w.heap.size w w' ∧ ErrAt w.heap.size (-1) 0 (.iface 188 (.int .i64 15)) w' := by
  go_enter Tryz.func70, Tryz.ntmps70
  go_wp2
  go_ret
  exact ⟨rfl, by go_grown, by simp [ErrAt]⟩

theorem kind_no (k : Int) (h0 : k ≠ 0) (h1 : k ≠ 1) (w : World) : Calls Tryz.prog 69 #[.int .i64 k] w fun e w' => e = .returned (.bool false) ∧ w' = w := by
  have g0 : (k == 0) = false := by simp [h0]
  have g1 : (k == 1) = false := by simp [h1]
  go_enter Tryz.func69, Tryz.ntmps69
  go_wp2
  go_ret
  exact ⟨rfl, rfl⟩

theorem kind_yes (k : Int) (h : k = 0 ∨ k = 1) (w : World) : Calls Tryz.prog 69 #[.int .i64 k] w fun e w' => e = .returned (.bool true) ∧ w' = w := by
  rcases h with rfl | rfl
  all_goals
    go_enter Tryz.func69, Tryz.ntmps69
    go_wp2
    go_ret
    exact ⟨rfl, rfl⟩

theorem fault_wrong (b : Nat) (w : World) (hG : Ground0 w) (hE : ErrAt b (-1) 0 (.iface 188 (.int .i64 15)) w) :
    Calls Tryz.prog 36 #[.iface 155 (.pointer (some ⟨b, 0, none⟩))] w fun e w' => e = .returned (.agg #[.int .i64 15, .int .i64 (-1), .int .i64 0]) ∧ Below w.heap.size w w' :=
  fault_A b 15 (by omega) (by omega) (-1) 0 itoa_neg1 itoa_zero w hG.1 hG.2 hE

theorem flacSums_no (s : ByteArray) (k n : Int) (h : (k ≠ 0 ∧ k ≠ 1) ∨ n < 1) (w : World) : Calls Tryz.prog 35 #[.string s, .int .i64 k, .int .i64 n] w fun e w' =>
    e = .returned (.tuple #[.int .u8 0, .int .u16 0, .string ⟨#[]⟩, .iface 155 (.pointer (some ⟨w.heap.size, 0, none⟩))]) ∧ Below w.heap.size w w' ∧ ErrAt w.heap.size (-1) 0 (.iface 188 (.int .i64 15)) w' := by
  by_cases hk : k ≠ 0 ∧ k ≠ 1
  · go_enter Tryz.func35, Tryz.ntmps35
    go_wp2_with (first | (go_at_call 69; refine (kind_no k hk.1 hk.2 _).mono ?_; rintro e w' ⟨rfl, rfl⟩) | (go_at_call 70; refine (wrong_any _).mono ?_; rintro e w' ⟨rfl, hb, hE⟩))
    exact bodyPost_ret (v := .tuple #[.int .u8 0, .int .u16 0, .string ⟨#[]⟩, .iface 155 (.pointer (some ⟨_, 0, none⟩))]) (by simp [results, Tryz.results35, go_sem]) rfl ⟨rfl, ‹_›, ‹_›⟩
  · have hn : n < 1 := by omega
    go_enter Tryz.func35, Tryz.ntmps35
    go_wp2_with (first | (go_at_call 69; refine (kind_yes k (by omega) _).mono ?_; rintro e w' ⟨rfl, rfl⟩) | (go_at_call 70; refine (wrong_any _).mono ?_; rintro e w' ⟨rfl, hb, hE⟩))
    exact bodyPost_ret (v := .tuple #[.int .u8 0, .int .u16 0, .string ⟨#[]⟩, .iface 155 (.pointer (some ⟨_, 0, none⟩))]) (by simp [results, Tryz.results35, go_sem]) rfl ⟨rfl, ‹_›, ‹_›⟩

theorem plainSums_no (s : ByteArray) (k n : Int) (h : (k ≠ 0 ∧ k ≠ 1) ∨ n < 1) (w : World) (hG : Ground0 w) : Calls Tryz.prog 14 #[.string s, .int .i64 k, .int .i64 n] w fun e w' =>
    e = .returned (.tuple #[.int .i64 0, .int .i64 0, .string ⟨#[]⟩, .agg #[.int .i64 15, .int .i64 (-1), .int .i64 0]]) ∧ Below w.heap.size w w' := by
  go_enter Tryz.func14, Tryz.ntmps14
  go_wp2_with fail
  refine (flacSums_no s k n h _).mono ?_
  rintro e w1 ⟨rfl, hb1, hE1⟩
  rw [World.size_alloc] at hE1
  have hb0 : Below w.heap.size w w1 := (show Below w.heap.size w (w.alloc (.cells #[.int .i64 0, .int .i64 0, .int .i64 0] 26)) by go_grown).trans (hb1.mono (by simp))
  have hR : Blk w1 w.heap.size #[.int .i64 0, .int .i64 0, .int .i64 0] 26 := (Blk.new _ _ _).below hb1 (by simp)
  go_wp2_with fail
  refine (fault_wrong _ _ (hG.below hb0) hE1).mono ?_
  rintro e w2 ⟨rfl, hb2⟩
  have hb3 := hb0.trans (hb2.mono hb0.size)
  have hR2 := hR.below hb2 hR.lt
  have hy0 := hR2.cell 0
  have hy1 := hR2.cell 1
  have hy2 := hR2.cell 2
  have hz0 := hR2.free 0
  have hz1 := hR2.free 1
  have hz2 := hR2.free 2
  simp at hy0 hy1 hy2
  have g0 := (hR2.set 0 (.int .i64 15)).cell 0
  have g1 := ((hR2.set 0 (.int .i64 15)).set 1 (.int .i64 (-1))).cell 1
  have g2 := (((hR2.set 0 (.int .i64 15)).set 1 (.int .i64 (-1))).set 2 (.int .i64 0)).cell 2
  simp at g0 g1 g2
  go_wp2
  refine bodyPost_ret (v := .tuple #[.int .i64 0, .int .i64 0, .string ⟨#[]⟩, .agg #[.int .i64 15, .int .i64 (-1), .int .i64 0]]) (by simp [results, Tryz.results14, go_sem, g0, g1, g2]) rfl ?_
  exact ⟨rfl, ((hb3.setCell (p := ⟨w.heap.size, 0, none⟩) (by simp) _).setCell (p := ⟨w.heap.size, 1, none⟩) (by simp) _).setCell (p := ⟨w.heap.size, 2, none⟩) (by simp) _⟩
end Go.Proofs.YtgkenhmbilkhdaaGreatDoor
