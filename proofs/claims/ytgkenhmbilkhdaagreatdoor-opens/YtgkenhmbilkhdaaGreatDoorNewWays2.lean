import Derived.Test.YtgkenhmbilkhdaaGreatDoorGMd5Sum
import Derived.Test.YtgkenhmbilkhdaaGreatDoorGMd5Out
namespace Go.Proofs.YtgkenhmbilkhdaaGreatDoor
open Go.RowKit

theorem ways_size : (Tryz.prog.info? 223).map (·.size) = some 6 := by kernel_rfl
theorem ways_one (a b : Value) (f1 f2 f3 f4 : Fn) (x1 y1 x2 y2 x3 y3 x4 y4 : Array Value) (T U : TypeId) : ∀ v ∈ [Value.iface T a, .iface U b, .func f1 x1 y1, .func f2 x2 y2, .func f3 x3 y3, .func f4 x4 y4], v.oneCell' = true := by
  intro v hv
  simp only [List.mem_cons, List.mem_nil_iff, or_false] at hv
  rcases hv with rfl | rfl | rfl | rfl | rfl | rfl <;> rfl

set_option maxRecDepth 10000 in
set_option maxHeartbeats 4000000 in
theorem fastWays_any (c : Nat) (w : World) : Calls Tryz.prog 128 #[srcV c] w fun e w' => WaysPost 1 c w e w' := by
  have hmf : ∀ (fn : Fn) (first cap : Array Value) (w : World), (Instr.makeFunc fn first cap).run Tryz.prog w = .ok (.func fn first cap) w := fun _ _ _ _ => rfl
  have HNS := hid (fun W => newFast c W)
  unfold srcV at *
  go_enter Tryz.func128, Tryz.ntmps128
  go_wp2_with fail
  refine (HNS.out _).mono ?_
  rintro e w1 ⟨rfl, rfl⟩
  obtain ⟨W, HW⟩ : ∃ W, Hid (W = ((((w.alloc (.cells #[.nilIface, .nilIface, .nilFunc, .nilFunc, .nilFunc, .nilFunc] 223)).alloc (.cells (rdNew 1 c) 277)).alloc (.cells #[ptr (w.heap.size + 1)] 214)).alloc (.cells #[rdV 1 (w.heap.size + 1)] 219)).drew) := ⟨_, rfl⟩
  have e1 : ∀ a : Obj, (w.alloc a).heap.size = w.heap.size + 1 := fun a => World.size_alloc _ _
  have e2 : ∀ (a b : Obj), ((w.alloc a).alloc b).heap.size = w.heap.size + 1 + 1 := fun a b => by rw [World.size_alloc, World.size_alloc]
  have e3 : ∀ (a b c : Obj), (((w.alloc a).alloc b).alloc c).heap.size = w.heap.size + 1 + 1 + 1 := fun a b c => by rw [World.size_alloc, e2]
  have B0 : Blk W w.heap.size #[.nilIface, .nilIface, .nilFunc, .nilFunc, .nilFunc, .nilFunc] 223 := by rw [HW.out]; exact ((((Blk.new w _ _).alloc _).alloc _).alloc _).drew
  have B1 : Blk W (w.heap.size + 1) (rdNew 1 c) 277 := by
    rw [HW.out]
    have := Blk.new (w.alloc (.cells #[.nilIface, .nilIface, .nilFunc, .nilFunc, .nilFunc, .nilFunc] 223)) (rdNew 1 c) 277
    rw [e1] at this
    exact ((this.alloc _).alloc _).drew
  have B2 : Blk W (w.heap.size + 1 + 1) #[ptr (w.heap.size + 1)] 214 := by
    rw [HW.out]
    have := Blk.new ((w.alloc (.cells #[.nilIface, .nilIface, .nilFunc, .nilFunc, .nilFunc, .nilFunc] 223)).alloc (.cells (rdNew 1 c) 277)) #[ptr (w.heap.size + 1)] 214
    rw [e2] at this
    exact (this.alloc _).drew
  have B3 : Blk W (w.heap.size + 1 + 1 + 1) #[rdV 1 (w.heap.size + 1)] 219 := by
    rw [HW.out]
    have := Blk.new (((w.alloc (.cells #[.nilIface, .nilIface, .nilFunc, .nilFunc, .nilFunc, .nilFunc] 223)).alloc (.cells (rdNew 1 c) 277)).alloc (.cells #[ptr (w.heap.size + 1)] 214)) #[rdV 1 (w.heap.size + 1)] 219
    rw [e3] at this
    exact this.drew
  have hsz : W.heap.size = w.heap.size + 1 + 1 + 1 + 1 := by
    rw [HW.out]
    show ((((w.alloc _).alloc _).alloc _).alloc _).heap.size = _
    rw [World.size_alloc, e3]
  have hbW : Below w.heap.size w W := by
    rw [HW.out]
    go_grown
  have HC : Hid (Calls Tryz.prog 71 #[.int .i64 1] W fun e w' => e = .returned (.iface 189 (.pointer (some ⟨w.heap.size + 1 + 1 + 1 + 1, 0, none⟩))) ∧ Blk w' w.heap.size #[.nilIface, .nilIface, .nilFunc, .nilFunc, .nilFunc, .nilFunc] 223 ∧ Blk w' (w.heap.size + 1) (rdNew 1 c) 277 ∧ Blk w' (w.heap.size + 1 + 1) #[ptr (w.heap.size + 1)] 214 ∧ Blk w' (w.heap.size + 1 + 1 + 1) #[rdV 1 (w.heap.size + 1)] 219 ∧ Blk w' (w.heap.size + 1 + 1 + 1 + 1) tabCells 246 ∧ Below w.heap.size w w') := by
    refine (crcNew1 W).mono ?_
    rintro e w' ⟨rfl, hb, hT⟩
    rw [hsz] at hb hT ⊢
    exact ⟨rfl, B0.below hb (by omega), B1.below hb (by omega), B2.below hb (by omega), B3.below hb (by omega), hT, hbW.trans (hb.mono (by omega))⟩
  have hib := B3.cell 0
  rw [HW.out] at HC hib
  have hib2 := hid hib
  clear e1 e2 e3 B0 B1 B2 B3 hsz hbW HW
  go_wp2
  refine wp_region_held_drew (S := fun w' => w'.cell? ⟨w.heap.size + 1 + 1 + 1, 0, none⟩ = some (.iface 214 (.pointer (some ⟨w.heap.size + 1, 0, none⟩)))) (by kernel_rfl) hib2.out (fun hHeld => ?_)
  refine wpAnyH_take (i := 0) (oi := _) (v := ?_) rfl (by kernel_rfl) (by kernel_rfl) (by kernel_rfl) (fun _ _ _ h => h) (Or.inl ⟨by rfl, ?_⟩) (by assumption) ?_
  rotate_left
  · intro wy hSw; (try dsimp only at hSw); go_simp; try with_reducible rfl
  try simp only [List.getElem_toArray]
  try simp only [List.getElem_cons_succ]
  try simp only [List.getElem_cons_zero]
  try simp only [Act.put]
  try simp only [List.setIfInBounds_toArray]
  refine wpAnyH_take (i := 2) (oi := _) (v := ?_) rfl (by kernel_rfl) (by kernel_rfl) (by kernel_rfl) (fun _ _ _ h => h) (Or.inl ⟨by rfl, ?_⟩) (by assumption) ?_
  rotate_left
  · intro wy hSw; (try dsimp only at hSw); go_simp; try with_reducible rfl
  try simp only [List.getElem_toArray]
  try simp only [List.getElem_cons_succ]
  try simp only [List.getElem_cons_zero]
  try simp only [Act.put]
  try simp only [List.setIfInBounds_toArray]
  refine wpAnyH_take (i := 3) (oi := _) (v := ?_) rfl (by kernel_rfl) (by kernel_rfl) (by kernel_rfl) (fun _ _ _ h => h) (Or.inl ⟨by rfl, ?_⟩) (by assumption) ?_
  rotate_left
  · intro wy hSw; (try dsimp only at hSw); go_simp; try with_reducible rfl
  try simp only [List.getElem_toArray]
  try simp only [List.getElem_cons_succ]
  try simp only [List.getElem_cons_zero]
  try simp only [Act.put]
  try simp only [List.setIfInBounds_toArray]
  refine wpAnyH_ready (rs := [1]) (by kernel_rfl) (by simp) ?_
  refine AllReadyH.cons (o := _) rfl (fun K hK => ?_) AllReadyH.nil
  go_simp
  refine HC.out.mono ?_
  rintro e w1 ⟨rfl, b0, b1, b2, b3, b4, hb⟩
  have HB := hid (And.intro b0 (And.intro b1 (And.intro b2 (And.intro b3 (And.intro b4 hb)))))
  replace hib2 := hid (b3.cell 0)
  clear b0 b1 b2 b3 b4 hb
  show K _ _
  refine hK.out _ _ ?_ (fun hHeld => ?_)
  · exact hib2.out
  clear hK K
  try simp only [List.getElem_toArray]
  try simp only [List.getElem_cons_succ]
  try simp only [List.getElem_cons_zero]
  try simp only [Act.put]
  try simp only [List.setIfInBounds_toArray]
  refine wpAnyH_take (i := 4) (oi := _) (v := ?_) rfl (by kernel_rfl) (by kernel_rfl) (by kernel_rfl) (fun _ _ _ h => h) (Or.inl ⟨by rfl, ?_⟩) (by assumption) ?_
  rotate_left
  · intro wy hSw; (try dsimp only at hSw); go_simp; try with_reducible rfl
  try simp only [List.getElem_toArray]
  try simp only [List.getElem_cons_succ]
  try simp only [List.getElem_cons_zero]
  try simp only [Act.put]
  try simp only [List.setIfInBounds_toArray]
  refine wpAnyH_ready (rs := [5]) (by kernel_rfl) (by simp) ?_
  refine AllReadyH.cons (o := _) rfl (fun K hK => ?_) AllReadyH.nil
  rw [if_pos (by rfl)]
  refine wp_store_blk _ _ _ rfl HB.out.1 0 [rdV 1 (w.heap.size + 1), .iface 189 (ptr (w.heap.size + 1 + 1 + 1 + 1)), fnV 147 #[ptr (w.heap.size + 1 + 1), ptr (w.heap.size + 1 + 1 + 1)], fnV 153 #[ptr (w.heap.size + 1 + 1), ptr (w.heap.size + 1 + 1 + 1)], fnV 158 #[], fnV 161 #[]] (Nat.le_of_ble_eq_true rfl) ways_size rfl rfl (all_oneCell_toArray (ways_one _ _ _ _ _ _ _ _ _ _ _ _ _ _ _ _)) ?_
  intro W2 hK2 hW2
  rw [setFrom_all _ _ (by rfl)] at hW2
  have HKF := hid hK2
  have HW2 := hid hW2
  refine hK.out _ _ ?_ (fun hHeld2 => ?_)
  · exact (HKF.out.blk HB.out.2.2.2.1 (by simp; omega)).cell 0
  clear hK K hW2 hK2 hHeld hHeld2
  try simp only [List.getElem_toArray]
  try simp only [List.getElem_cons_succ]
  try simp only [List.getElem_cons_zero]
  try simp only [Act.put]
  refine wpAnyH_done (by kernel_rfl) ?_ _
  clear hib
  go_wp2
  refine bodyPost_ret (results_cell_row Tryz.results128 _ _ w.heap.size _ _ _ _ rfl HW2.out Tryz.underlying223 rfl ways_size) rfl ?_
  obtain ⟨b0, b1, b2, b3, b4, hb⟩ := HB.out
  refine ⟨w.heap.size + 1, _, _, rfl, Or.inr ⟨rfl, w.heap.size + 1 + 1, w.heap.size + 1 + 1 + 1, w.heap.size + 1 + 1 + 1 + 1, rfl, rfl⟩, hb.trans (HKF.out.below (by simp) hb.size), HKF.out.blk b1 (by simp), by omega, by simp <;> omega, ?_⟩
  intro x hx
  simp only [List.mem_cons, List.mem_nil_iff, or_false] at hx
  rcases hx with rfl | rfl | rfl
  · exact ⟨HKF.out.blk b2 (by simp; omega), by show w.heap.size ≤ w.heap.size + 1 + 1; omega⟩
  · exact ⟨HKF.out.blk b3 (by simp; omega), by show w.heap.size ≤ w.heap.size + 1 + 1 + 1; omega⟩
  · exact ⟨HKF.out.blk b4 (by simp; omega), by show w.heap.size ≤ w.heap.size + 1 + 1 + 1 + 1; omega⟩
end Go.Proofs.YtgkenhmbilkhdaaGreatDoor
