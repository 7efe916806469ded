import Derived.Test.YtgkenhmbilkhdaaGreatDoorGAsked2
import Derived.Test.YtgkenhmbilkhdaaGreatDoorGRefOf
namespace Go.Proofs.YtgkenhmbilkhdaaGreatDoor
open Go.RowKit

def rdT (k : Nat) : TypeId := if k = 0 then 279 else 277
def rdEx (k : Nat) : List Value := if k = 0 then [] else fex 0 0

theorem newRd (k : Nat) (hk : k = 0 ∨ k = 1) (c : Nat) (w : World) : Calls Tryz.prog 78 #[srcV c, .int .i64 (k : Int)] w fun e w' => e = .returned (rdV k w.heap.size) ∧ Below w.heap.size w w' ∧ Blk w' w.heap.size (rdCells c (.slice none 0 0) 0 .nilIface 0 false 0 (rdEx k)) (rdT k) := by
  unfold srcV
  rcases hk with rfl | rfl
  · go_enter Tryz.func78, Tryz.ntmps78
    go_wp2
    go_ret
    exact ⟨rfl, by go_grown, Blk.new _ _ _⟩
  · go_enter Tryz.func78, Tryz.ntmps78
    go_wp2
    go_ret
    exact ⟨rfl, by go_grown, Blk.new _ _ _⟩

theorem flacBits_yes (k : Nat) (hk : k = 0 ∨ k = 1) (c : Nat) (w : World) : Calls Tryz.prog 37 #[srcV c, .int .i64 (k : Int)] w fun e w' => e = .returned (.tuple #[rdV k w.heap.size, .nilIface]) ∧ Below w.heap.size w w' ∧ Blk w' w.heap.size (rdCells c (.slice none 0 0) 0 .nilIface 0 false 0 (rdEx k)) (rdT k) := by
  have HN := hid (newRd k hk c w)
  have HK := hid (fun W => kind_yes (k : Int) (by omega) W)
  unfold srcV at *
  go_enter Tryz.func37, Tryz.ntmps37
  go_wp2_with fail
  refine (HK.out _).mono ?_
  rintro e w1 ⟨rfl, rfl⟩
  go_wp2_with fail
  refine HN.out.mono ?_
  rintro e w2 ⟨rfl, hb, hB⟩
  go_wp2
  refine bodyPost_ret (v := .tuple #[rdV k w1.heap.size, .nilIface]) (by simp [results, Tryz.results37, go_sem]) rfl ?_
  exact ⟨rfl, hb, hB⟩

set_option maxHeartbeats 4000000 in
set_option maxRecDepth 10000 in
theorem pbNew (k : Nat) (hk : k = 0 ∨ k = 1) (s : ByteArray) (ap : Option Addr) (l cap : Nat) (br : Int) (w : World) :
    Calls Tryz.prog 15 #[.agg #[.string s, .slice ap l cap, .int .i64 br], .int .i64 (k : Int)] w fun e w' =>
      ∃ pb, e = .returned (.tuple #[.pointer (some ⟨pb, 0, none⟩), faultV 0 0 0]) ∧ Below w.heap.size w w' ∧ w.heap.size ≤ pb ∧ Blk w' pb (pbCells k (w.heap.size + 3) (w.heap.size + 2)) 90 ∧ Blk w' (w.heap.size + 3) (rdCells (w.heap.size + 2) (.slice none 0 0) 0 .nilIface 0 false 0 (rdEx k)) (rdT k) ∧ Blk w' (w.heap.size + 2) (srcCells s (.slice ap l cap) br 0 0 0) 84 := by
  have hk1 : (k : Int) ≤ 1 := by omega
  go_enter Tryz.func15, Tryz.ntmps15
  go_wp2_with fail
  refine (flacBits_yes k hk (w.heap.size + 2) _).mono ?_
  rintro e w1 ⟨rfl, hb1, hP1⟩
  simp only [World.size_alloc] at hP1 hb1
  have hb0 : Below w.heap.size w w1 := Below.trans (by go_grown) (hb1.mono (by omega))
  have hR : Blk w1 (w.heap.size + 1) #[.int .i64 0, .int .i64 0, .int .i64 0] 26 := by
    have h := Blk.new (w.alloc (.cells #[.string s, .slice ap l cap, .int .i64 br] 24)) #[.int .i64 0, .int .i64 0, .int .i64 0] 26
    rw [World.size_alloc] at h
    exact (h.alloc _).below hb1 (by omega)
  have hC : Blk w1 (w.heap.size + 2) (srcCells s (.slice ap l cap) br 0 0 0) 84 := by
    have h := Blk.new ((w.alloc (.cells #[.string s, .slice ap l cap, .int .i64 br] 24)).alloc (.cells #[.int .i64 0, .int .i64 0, .int .i64 0] 26)) (srcCells s (.slice ap l cap) br 0 0 0) 84
    simp only [World.size_alloc] at h
    exact h.below hb1 (by omega)
  go_wp2_with fail
  refine (fault_nil _).mono ?_
  rintro e w2 ⟨rfl, hb2⟩
  have hb3 := hb0.trans (hb2.mono hb0.size)
  have hR2 := hR.below hb2 hR.lt
  have hC2 := hC.below hb2 hC.lt
  have hP2 := hP1.below hb2 hP1.lt
  have hl2 := hP2.lt
  obtain ⟨⟨y0, y1, y2⟩, ⟨z0, z1, z2⟩, g⟩ := put_fault hR2 0 0 0
  have hn : w2.heap.size ≠ w.heap.size + 1 := by omega
  have hn2 : w2.heap.size + 1 ≠ w.heap.size + 1 := by omega
  have hlt1 : w.heap.size + 1 < w2.heap.size := by omega
  have hlt2 : w.heap.size + 1 < w2.heap.size + 1 := by omega
  obtain ⟨T1, V1, hrv⟩ : ∃ T V, rdV k (w.heap.size + 3) = .iface T V := ⟨_, _, rfl⟩
  rw [hrv]
  have HRV := hid hrv
  clear hrv
  go_wp2
  have hR3 := put_blk hR2 0 0 0
  have hRf := (hR3.alloc (.cells #[.int .i64 0, .int .i64 0, .int .i64 0] 26)).alloc (.cells #[.iface T1 V1, .pointer (some ⟨w.heap.size + 1 + 1, 0, none⟩)] 90)
  have e0 := hRf.cell 0
  have e1 := hRf.cell 1
  have e2 := hRf.cell 2
  simp only [List.getElem?_toArray, List.getElem?_cons_zero, List.getElem?_cons_succ] at e0 e1 e2
  have hpb := Blk.new ((((w2.setCell ⟨w.heap.size + 1, 0, none⟩ (.int .i64 0)).setCell ⟨w.heap.size + 1, 1, none⟩ (.int .i64 0)).setCell ⟨w.heap.size + 1, 2, none⟩ (.int .i64 0)).alloc (.cells #[.int .i64 0, .int .i64 0, .int .i64 0] 26)) #[.iface T1 V1, .pointer (some ⟨w.heap.size + 1 + 1, 0, none⟩)] 90
  simp only [World.size_alloc, World.size_setCell] at hpb
  have hK3 : Below (w.heap.size + 1) w2 ((((w2.setCell ⟨w.heap.size + 1, 0, none⟩ (.int .i64 0)).setCell ⟨w.heap.size + 1, 1, none⟩ (.int .i64 0)).setCell ⟨w.heap.size + 1, 2, none⟩ (.int .i64 0))) := (((Below.refl _ _).setCell (p := ⟨w.heap.size + 1, 0, none⟩) (by simp) _).setCell (p := ⟨w.heap.size + 1, 1, none⟩) (by simp) _).setCell (p := ⟨w.heap.size + 1, 2, none⟩) (by simp) _
  have far : ∀ {b : Nat} {cs : Array Value} {t : TypeId}, Blk w2 b cs t → b ≠ w.heap.size + 1 → Blk (((((w2.setCell ⟨w.heap.size + 1, 0, none⟩ (.int .i64 0)).setCell ⟨w.heap.size + 1, 1, none⟩ (.int .i64 0)).setCell ⟨w.heap.size + 1, 2, none⟩ (.int .i64 0)).alloc (.cells #[.int .i64 0, .int .i64 0, .int .i64 0] 26)).alloc (.cells #[.iface T1 V1, .pointer (some ⟨w.heap.size + 1 + 1, 0, none⟩)] 90)) b cs t := fun hb hne =>
    ((((hb.other (p := ⟨w.heap.size + 1, 0, none⟩) hne _).other (p := ⟨w.heap.size + 1, 1, none⟩) hne _).other (p := ⟨w.heap.size + 1, 2, none⟩) hne _).alloc _).alloc _
  refine bodyPost_ret (v := .tuple #[.pointer (some ⟨w2.heap.size + 1, 0, none⟩), faultV 0 0 0]) (by simp [results, Tryz.results15, go_sem, faultV, e0, e1, e2]) rfl ?_
  refine ⟨w2.heap.size + 1, rfl, ?_, by omega, ?_, far hP2 (by omega), far hC2 (by omega)⟩
  · exact (((hb3.trans (hK3.mono (by omega))).alloc (by rw [World.size_setCell, World.size_setCell, World.size_setCell]; omega) _).alloc (by rw [World.size_alloc, World.size_setCell, World.size_setCell, World.size_setCell]; omega) _)
  · unfold pbCells
    rw [HRV.out]
    exact hpb
end Go.Proofs.YtgkenhmbilkhdaaGreatDoor
