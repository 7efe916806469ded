import Derived.Test.YtgkenhmbilkhdaaGreatDoorGAsked2
namespace Go.Proofs.YtgkenhmbilkhdaaGreatDoor
open Go.RowKit

set_option maxHeartbeats 8000000 in
set_option maxRecDepth 10000 in
theorem of_pos (s : ByteArray) (pv : Value) (P : List Int) (br : Int) (B : Nat) (hs : s.size ≤ 1048576) (hP20 : P.length ≤ 1048576) (hpi : ∀ x ∈ P, -9223372036854775808 ≤ x ∧ x < 9223372036854775808) (hbr : 0 ≤ br) (hb63 : br < 9223372036854775808) (w : World) (hP : IntsAt w B pv P) :
    Calls Tryz.prog 18 #[.string s, pv, .int .i64 br] w fun e w' => OfPost w s (ofFrom s.size br P 0 0) e w' := by
  have HPI := hid hpi
  clear hpi
  have h1 : decide (0 ≤ br) = true := by simp; omega
  obtain ⟨ap, cap, hpv, hcell⟩ : ∃ ap cap, pv = .slice ap P.length cap ∧ Hid (∀ i, i < P.length → ∃ g off, ap = some ⟨g, off, none⟩ ∧ w.cell? ⟨g, off + i, none⟩ = some (.int .i64 (P.getD i 0))) := by
    rcases hP with ⟨ap0, cap, rfl, rfl⟩ | ⟨g, off, cap, _, rfl, hc⟩
    · exact ⟨ap0, cap, rfl, fun i hi => by simp at hi⟩
    · exact ⟨_, cap, rfl, fun i hi => ⟨g, off, rfl, hc i hi⟩⟩
  subst hpv
  clear hP
  go_enter Tryz.func18, Tryz.ntmps18
  go_wp2
  go_loopg [7, 8, 9] (P.length + 1) (fun gk va ve vk wr => (OfRel s P br va ve vk ∧ wr = w) ∧ ∃ k : Nat, vk = .int .i64 k ∧ gk + k = P.length + 1)
  case atStart => exact ⟨⟨⟨0, 0, 0, rfl, rfl, rfl, by omega, ⟨by omega, by omega⟩, by omega, rfl⟩, rfl⟩, 0, rfl, rfl⟩
  case round =>
    obtain ⟨⟨⟨k, a, e, rfl, rfl, rfl, hk, hok, he, HR⟩, rfl⟩, k', hkk, hgk⟩ := hrel
    obtain rfl : k = k' := by injection hkk with _ hkk; omega
    clear hkk
    have ha := hok.1
    have ha2 := hok.2
    have he' : (e : Int) ≤ 8 := by omega
    by_cases hkl : k < P.length
    · have hkl' : (k : Int) < (P.length : Int) := by omega
      have hPk : P[k]? = some (P.getD k 0) := by rw [List.getD_eq_getElem?_getD, List.getElem?_eq_getElem hkl]; rfl
      obtain ⟨g, off, rfl, hck⟩ := hcell.out k hkl
      have hpb := HPI.out _ (List.mem_of_getElem? hPk)
      have HD := hid (drop_at hPk)
      generalize P.getD k 0 = p at hck hpb HD
      clear hPk
      by_cases hbk : br ≤ a
      · have h2 : decide (br ≤ (a : Int)) = true := by simp; omega
        go_wp2
        go_ret
        have hf : ofFrom s.size br P 0 0 = (a, 16) := by rw [HR.out, HD.out]; unfold ofFrom; rw [if_pos ⟨hbr, hbk⟩]
        rw [hf]
        exact of_new _ s a 16 _ rfl
      have h2 : decide (br ≤ (a : Int)) = false := by simp; omega
      have hbk' : ¬ br ≤ (a : Int) := hbk
      by_cases hp0 : p ≤ 0
      · by_cases h8 : e = 8
        · subst h8
          go_wp2
          go_ret
          have hf : ofFrom s.size br P 0 0 = (a, 14) := by rw [HR.out, HD.out]; unfold ofFrom; rw [if_neg (by omega), if_pos hp0, if_pos (by omega)]
          rw [hf]
          exact of_new _ s a 14 _ rfl
        · have h8' : (e : Int) < 8 := by omega
          go_wp2
          go_roundg (P.length - k)
          case measure => omega
          case rel =>
            refine ⟨⟨⟨k + 1, a, e + 1, rfl, by go_num, by go_num, by omega, hok, by omega, ?_⟩, by trivial⟩, k + 1, by go_num, by omega⟩
            show _ = _
            rw [HR.out, HD.out]
            conv => lhs; unfold ofFrom
            rw [if_neg (by omega), if_pos hp0, if_neg (by omega)]
      · obtain ⟨q, rfl⟩ := Int.eq_ofNat_of_zero_le (show 0 ≤ p by omega)
        have hq0 : 0 < (q : Int) := by omega
        by_cases hlong : (s.size : Int) - (a : Int) < (q : Int)
        · have hf : ofFrom s.size br P 0 0 = finalOf s.size br := by rw [HR.out, HD.out]; unfold ofFrom; rw [if_neg (by omega), if_neg (by omega), if_pos hlong]
          have HF := hid hf
          clear hf
          by_cases hbN : br ≤ (s.size : Int)
          · have h3 : decide (br ≤ (s.size : Int)) = true := by simp; omega
            go_wp2
            go_ret
            rw [HF.out]
            unfold finalOf
            rw [if_pos ⟨hbr, hbN⟩]
            exact of_new _ s br.toNat 16 _ rfl
          · have h3 : decide (br ≤ (s.size : Int)) = false := by simp; omega
            go_wp2
            go_ret
            rw [HF.out]
            unfold finalOf
            rw [if_neg (by omega)]
            exact of_all _ s
        · have hl2 : ¬ (s.size : Int) - (a : Int) < (q : Int) := hlong
          have hstep : ofFrom s.size br P 0 0 = ofFrom s.size br (P.drop (k + 1)) (clip br (a + q)) 0 := by
            rw [HR.out, HD.out]
            conv => lhs; unfold ofFrom
            rw [if_neg (by omega), if_neg (by omega), if_neg hlong]
            rfl
          have HS := hid hstep
          clear hstep
          by_cases hcl : br < (a : Int) + (q : Int)
          · have h3 : decide (br < (a : Int) + (q : Int)) = true := by simp; omega
            go_wp2
            go_roundg (P.length - k)
            case measure => omega
            case rel =>
              refine ⟨⟨⟨k + 1, br.toNat, 0, by rw [Int.toNat_of_nonneg hbr], rfl, by go_num, by omega, ⟨by omega, by omega⟩, by omega, ?_⟩, by trivial⟩, k + 1, by go_num, by omega⟩
              show _ = _
              rw [HS.out]
              unfold clip
              rw [if_pos ⟨by omega, by omega⟩]
          · have h3 : decide (br < (a : Int) + (q : Int)) = false := by simp; omega
            go_wp2
            go_roundg (P.length - k)
            case measure => omega
            case rel =>
              refine ⟨⟨⟨k + 1, a + q, 0, by rw [Int.natCast_add], rfl, by go_num, by omega, ⟨by omega, by omega⟩, by omega, ?_⟩, by trivial⟩, k + 1, by go_num, by omega⟩
              show _ = _
              rw [HS.out]
              unfold clip
              rw [if_neg (by omega)]
    · obtain rfl : k = P.length := by omega
      have hf : ofFrom s.size br P 0 0 = finalOf s.size br := by rw [HR.out, List.drop_length]; rfl
      have HF := hid hf
      clear hf
      by_cases hbN : br ≤ (s.size : Int)
      · have h3 : decide (br ≤ (s.size : Int)) = true := by simp; omega
        go_wp2
        go_ret
        rw [HF.out]
        unfold finalOf
        rw [if_pos ⟨hbr, hbN⟩]
        exact of_new _ s br.toNat 16 _ rfl
      · have h3 : decide (br ≤ (s.size : Int)) = false := by simp; omega
        go_wp2
        go_ret
        rw [HF.out]
        unfold finalOf
        rw [if_neg (by omega)]
        exact of_all _ s

theorem of_any (s : ByteArray) (pv : Value) (P : List Int) (br : Int) (B : Nat) (hs : s.size ≤ 1048576) (hP20 : P.length ≤ 1048576) (hpi : ∀ x ∈ P, -9223372036854775808 ≤ x ∧ x < 9223372036854775808) (hb63 : br < 9223372036854775808) (w : World) (hP : IntsAt w B pv P) :
    Calls Tryz.prog 18 #[.string s, pv, .int .i64 br] w fun e w' => OfPost w s (ofFrom s.size br P 0 0) e w' := by
  rcases Int.lt_or_le br 0 with h | h
  · exact of_neg s pv P br B hs hP20 hpi h w hP
  · exact of_pos s pv P br B hs hP20 hpi h hb63 w hP
end Go.Proofs.YtgkenhmbilkhdaaGreatDoor

namespace Go.Proofs.YtgkenhmbilkhdaaGreatDoor
open Go.RowKit

def rdT (k : Nat) : TypeId := if k = 0 then 279 else 277
def rdEx (k : Nat) : List Value := if k = 0 then [] else fex 0 0

theorem newRd (k : Nat) (hk : k = 0 ∨ k = 1) (c : Nat) (w : World) : Calls Tryz.prog 78 #[srcV c, .int .i64 (k : Int)] w fun e w' => e = .returned (rdV k w.heap.size) ∧ Below w.heap.size w w' ∧ Blk w' w.heap.size (rdCells c (.slice none 0 0) 0 .nilIface 0 false 0 (rdEx k)) (rdT k) := by
  unfold srcV
  rcases hk with rfl | rfl
  · go_enter Tryz.func78, Tryz.ntmps78
    go_wp2
    go_ret
    exact ⟨rfl, by go_grown, Blk.new _ _ _⟩
  · go_enter Tryz.func78, Tryz.ntmps78
    go_wp2
    go_ret
    exact ⟨rfl, by go_grown, Blk.new _ _ _⟩

theorem flacBits_yes (k : Nat) (hk : k = 0 ∨ k = 1) (c : Nat) (w : World) : Calls Tryz.prog 37 #[srcV c, .int .i64 (k : Int)] w fun e w' => e = .returned (.tuple #[rdV k w.heap.size, .nilIface]) ∧ Below w.heap.size w w' ∧ Blk w' w.heap.size (rdCells c (.slice none 0 0) 0 .nilIface 0 false 0 (rdEx k)) (rdT k) := by
  have HN := hid (newRd k hk c w)
  have HK := hid (fun W => kind_yes (k : Int) (by omega) W)
  unfold srcV at *
  go_enter Tryz.func37, Tryz.ntmps37
  go_wp2_with fail
  refine (HK.out _).mono ?_
  rintro e w1 ⟨rfl, rfl⟩
  go_wp2_with fail
  refine HN.out.mono ?_
  rintro e w2 ⟨rfl, hb, hB⟩
  go_wp2
  refine bodyPost_ret (v := .tuple #[rdV k w1.heap.size, .nilIface]) (by simp [results, Tryz.results37, go_sem]) rfl ?_
  exact ⟨rfl, hb, hB⟩

set_option maxHeartbeats 4000000 in
set_option maxRecDepth 10000 in
theorem pbNew (k : Nat) (hk : k = 0 ∨ k = 1) (s : ByteArray) (ap : Option Addr) (l cap : Nat) (br : Int) (w : World) :
    Calls Tryz.prog 15 #[.agg #[.string s, .slice ap l cap, .int .i64 br], .int .i64 (k : Int)] w fun e w' =>
      ∃ pb, e = .returned (.tuple #[.pointer (some ⟨pb, 0, none⟩), faultV 0 0 0]) ∧ Below w.heap.size w w' ∧ w.heap.size ≤ pb ∧ Blk w' pb (pbCells k (w.heap.size + 3) (w.heap.size + 2)) 90 ∧ Blk w' (w.heap.size + 3) (rdCells (w.heap.size + 2) (.slice none 0 0) 0 .nilIface 0 false 0 (rdEx k)) (rdT k) ∧ Blk w' (w.heap.size + 2) (srcCells s (.slice ap l cap) br 0 0 0) 84 := by
  have hk1 : (k : Int) ≤ 1 := by omega
  go_enter Tryz.func15, Tryz.ntmps15
  go_wp2_with fail
  refine (flacBits_yes k hk (w.heap.size + 2) _).mono ?_
  rintro e w1 ⟨rfl, hb1, hP1⟩
  simp only [World.size_alloc] at hP1 hb1
  have hb0 : Below w.heap.size w w1 := Below.trans (by go_grown) (hb1.mono (by omega))
  have hR : Blk w1 (w.heap.size + 1) #[.int .i64 0, .int .i64 0, .int .i64 0] 26 := by
    have h := Blk.new (w.alloc (.cells #[.string s, .slice ap l cap, .int .i64 br] 24)) #[.int .i64 0, .int .i64 0, .int .i64 0] 26
    rw [World.size_alloc] at h
    exact (h.alloc _).below hb1 (by omega)
  have hC : Blk w1 (w.heap.size + 2) (srcCells s (.slice ap l cap) br 0 0 0) 84 := by
    have h := Blk.new ((w.alloc (.cells #[.string s, .slice ap l cap, .int .i64 br] 24)).alloc (.cells #[.int .i64 0, .int .i64 0, .int .i64 0] 26)) (srcCells s (.slice ap l cap) br 0 0 0) 84
    simp only [World.size_alloc] at h
    exact h.below hb1 (by omega)
  go_wp2_with fail
  refine (fault_nil _).mono ?_
  rintro e w2 ⟨rfl, hb2⟩
  have hb3 := hb0.trans (hb2.mono hb0.size)
  have hR2 := hR.below hb2 hR.lt
  have hC2 := hC.below hb2 hC.lt
  have hP2 := hP1.below hb2 hP1.lt
  have hl2 := hP2.lt
  obtain ⟨⟨y0, y1, y2⟩, ⟨z0, z1, z2⟩, g⟩ := put_fault hR2 0 0 0
  have hn : w2.heap.size ≠ w.heap.size + 1 := by omega
  have hn2 : w2.heap.size + 1 ≠ w.heap.size + 1 := by omega
  have hlt1 : w.heap.size + 1 < w2.heap.size := by omega
  have hlt2 : w.heap.size + 1 < w2.heap.size + 1 := by omega
  obtain ⟨T1, V1, hrv⟩ : ∃ T V, rdV k (w.heap.size + 3) = .iface T V := ⟨_, _, rfl⟩
  rw [hrv]
  have HRV := hid hrv
  clear hrv
  go_wp2
  have hR3 := put_blk hR2 0 0 0
  have hRf := (hR3.alloc (.cells #[.int .i64 0, .int .i64 0, .int .i64 0] 26)).alloc (.cells #[.iface T1 V1, .pointer (some ⟨w.heap.size + 1 + 1, 0, none⟩)] 90)
  have e0 := hRf.cell 0
  have e1 := hRf.cell 1
  have e2 := hRf.cell 2
  simp only [List.getElem?_toArray, List.getElem?_cons_zero, List.getElem?_cons_succ] at e0 e1 e2
  have hpb := Blk.new ((((w2.setCell ⟨w.heap.size + 1, 0, none⟩ (.int .i64 0)).setCell ⟨w.heap.size + 1, 1, none⟩ (.int .i64 0)).setCell ⟨w.heap.size + 1, 2, none⟩ (.int .i64 0)).alloc (.cells #[.int .i64 0, .int .i64 0, .int .i64 0] 26)) #[.iface T1 V1, .pointer (some ⟨w.heap.size + 1 + 1, 0, none⟩)] 90
  simp only [World.size_alloc, World.size_setCell] at hpb
  have hK3 : Below (w.heap.size + 1) w2 ((((w2.setCell ⟨w.heap.size + 1, 0, none⟩ (.int .i64 0)).setCell ⟨w.heap.size + 1, 1, none⟩ (.int .i64 0)).setCell ⟨w.heap.size + 1, 2, none⟩ (.int .i64 0))) := (((Below.refl _ _).setCell (p := ⟨w.heap.size + 1, 0, none⟩) (by simp) _).setCell (p := ⟨w.heap.size + 1, 1, none⟩) (by simp) _).setCell (p := ⟨w.heap.size + 1, 2, none⟩) (by simp) _
  have far : ∀ {b : Nat} {cs : Array Value} {t : TypeId}, Blk w2 b cs t → b ≠ w.heap.size + 1 → Blk (((((w2.setCell ⟨w.heap.size + 1, 0, none⟩ (.int .i64 0)).setCell ⟨w.heap.size + 1, 1, none⟩ (.int .i64 0)).setCell ⟨w.heap.size + 1, 2, none⟩ (.int .i64 0)).alloc (.cells #[.int .i64 0, .int .i64 0, .int .i64 0] 26)).alloc (.cells #[.iface T1 V1, .pointer (some ⟨w.heap.size + 1 + 1, 0, none⟩)] 90)) b cs t := fun hb hne =>
    ((((hb.other (p := ⟨w.heap.size + 1, 0, none⟩) hne _).other (p := ⟨w.heap.size + 1, 1, none⟩) hne _).other (p := ⟨w.heap.size + 1, 2, none⟩) hne _).alloc _).alloc _
  refine bodyPost_ret (v := .tuple #[.pointer (some ⟨w2.heap.size + 1, 0, none⟩), faultV 0 0 0]) (by simp [results, Tryz.results15, go_sem, faultV, e0, e1, e2]) rfl ?_
  refine ⟨w2.heap.size + 1, rfl, ?_, by omega, ?_, far hP2 (by omega), far hC2 (by omega)⟩
  · exact (((hb3.trans (hK3.mono (by omega))).alloc (by rw [World.size_setCell, World.size_setCell, World.size_setCell]; omega) _).alloc (by rw [World.size_alloc, World.size_setCell, World.size_setCell, World.size_setCell]; omega) _)
  · unfold pbCells
    rw [HRV.out]
    exact hpb
end Go.Proofs.YtgkenhmbilkhdaaGreatDoor
