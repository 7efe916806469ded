import Derived.Test.YtgkenhmbilkhdaaGreatDoorRefBits
namespace Go.Proofs.YtgkenhmbilkhdaaGreatDoor
open Go.RowKit

theorem bytes_take (t : ByteArray) (c : Nat) : bytesOf (t.extract 0 c) = (bytesOf t).take c := by
  unfold bytesOf
  rw [ByteArray.data_extract, Array.toList_extract]
  simp
/-- What 'Of' makes. -/
def OfPost (w : World) (s : ByteArray) (N : Nat × Nat) (e : Ending) (w' : World) : Prop :=
  ∃ tx, e = .returned (.pointer (some ⟨w.heap.size, 0, none⟩)) ∧ Below w.heap.size w w' ∧ Blk w' w.heap.size (stCells tx N.2 0) 98 ∧ bytesOf tx = (bytesOf s).take N.1
theorem of_new (w : World) (s : ByteArray) (n st : Nat) (x : Int) (hx : x = (st : Int)) : OfPost w s (n, st) (.returned (.pointer (some ⟨w.heap.size, 0, none⟩))) (w.alloc (.cells #[.string (s.extract 0 n), .int .i64 x, .int .i64 0] 98)) := by
  subst hx
  exact ⟨s.extract 0 n, rfl, by go_grown, Blk.new _ _ _, bytes_take s n⟩
theorem of_all (w : World) (s : ByteArray) : OfPost w s (s.size, 1) (.returned (.pointer (some ⟨w.heap.size, 0, none⟩))) (w.alloc (.cells #[.string s, .int .i64 1, .int .i64 0] 98)) :=
  ⟨s, rfl, by go_grown, Blk.new _ _ _, by rw [List.take_of_length_le (by rw [bytesOf_len]; omega)]⟩

def OfRel (s : ByteArray) (P : List Int) (br : Int) (va ve vk : Value) : Prop :=
  ∃ k a e : Nat, va = .int .i64 a ∧ ve = .int .i64 e ∧ vk = .int .i64 k ∧ k ≤ P.length ∧ SrcOk s.size br a ∧ e ≤ 8 ∧ Hid (ofFrom s.size br P 0 0 = ofFrom s.size br (P.drop k) a e)

set_option maxHeartbeats 8000000 in
set_option maxRecDepth 10000 in
theorem of_neg (s : ByteArray) (pv : Value) (P : List Int) (br : Int) (B : Nat) (hs : s.size ≤ 1048576) (hP20 : P.length ≤ 1048576) (hpi : ∀ x ∈ P, -9223372036854775808 ≤ x ∧ x < 9223372036854775808) (hbr : br < 0) (w : World) (hP : IntsAt w B pv P) :
    Calls Tryz.prog 18 #[.string s, pv, .int .i64 br] w fun e w' => OfPost w s (ofFrom s.size br P 0 0) e w' := by
  have HPI := hid hpi
  clear hpi
  have h1 : decide (0 ≤ br) = false := by simp; omega
  obtain ⟨ap, cap, hpv, hcell⟩ : ∃ ap cap, pv = .slice ap P.length cap ∧ Hid (∀ i, i < P.length → ∃ g off, ap = some ⟨g, off, none⟩ ∧ w.cell? ⟨g, off + i, none⟩ = some (.int .i64 (P.getD i 0))) := by
    rcases hP with ⟨ap0, cap, rfl, rfl⟩ | ⟨g, off, cap, _, rfl, hc⟩
    · exact ⟨ap0, cap, rfl, fun i hi => by simp at hi⟩
    · exact ⟨_, cap, rfl, fun i hi => ⟨g, off, rfl, hc i hi⟩⟩
  subst hpv
  clear hP
  go_enter Tryz.func18, Tryz.ntmps18
  go_wp2
  go_loopg [7, 8, 9] (P.length + 1) (fun gk va ve vk wr => (OfRel s P br va ve vk ∧ wr = w) ∧ ∃ k : Nat, vk = .int .i64 k ∧ gk + k = P.length + 1)
  case atStart => exact ⟨⟨⟨0, 0, 0, rfl, rfl, rfl, by omega, ⟨by omega, by omega⟩, by omega, rfl⟩, rfl⟩, 0, rfl, rfl⟩
  case round =>
    obtain ⟨⟨⟨k, a, e, rfl, rfl, rfl, hk, hok, he, HR⟩, rfl⟩, k', hkk, hgk⟩ := hrel
    obtain rfl : k = k' := by injection hkk with _ hkk; omega
    clear hkk
    have ha := hok.1
    have ha2 := hok.2
    have he' : (e : Int) ≤ 8 := by omega
    by_cases hkl : k < P.length
    · have hkl' : (k : Int) < (P.length : Int) := by omega
      have hPk : P[k]? = some (P.getD k 0) := by rw [List.getD_eq_getElem?_getD, List.getElem?_eq_getElem hkl]; rfl
      obtain ⟨g, off, rfl, hck⟩ := hcell.out k hkl
      have hpb := HPI.out _ (List.mem_of_getElem? hPk)
      have HD := hid (drop_at hPk)
      generalize P.getD k 0 = p at hck hpb HD
      clear hPk
      by_cases hp0 : p ≤ 0
      · by_cases h8 : e = 8
        · subst h8
          go_wp2
          go_ret
          have hf : ofFrom s.size br P 0 0 = (a, 14) := by rw [HR.out, HD.out]; unfold ofFrom; rw [if_neg (by omega), if_pos hp0, if_pos (by omega)]
          rw [hf]
          exact of_new _ s a 14 _ rfl
        · have h8' : (e : Int) < 8 := by omega
          go_wp2
          go_roundg (P.length - k)
          case measure => omega
          case rel =>
            refine ⟨⟨⟨k + 1, a, e + 1, rfl, by go_num, by go_num, by omega, hok, by omega, ?_⟩, by trivial⟩, k + 1, by go_num, by omega⟩
            show _ = _
            rw [HR.out, HD.out]
            conv => lhs; unfold ofFrom
            rw [if_neg (by omega), if_pos hp0, if_neg (by omega)]
      · obtain ⟨q, rfl⟩ := Int.eq_ofNat_of_zero_le (show 0 ≤ p by omega)
        have hq0 : 0 < (q : Int) := by omega
        by_cases hlong : (s.size : Int) - (a : Int) < (q : Int)
        · have hf : ofFrom s.size br P 0 0 = finalOf s.size br := by rw [HR.out, HD.out]; unfold ofFrom; rw [if_neg (by omega), if_neg (by omega), if_pos hlong]
          have HF := hid hf
          clear hf
          go_wp2
          go_ret
          rw [HF.out]
          unfold finalOf
          rw [if_neg (by omega)]
          exact of_all _ s
        · have hl2 : ¬ (s.size : Int) - (a : Int) < (q : Int) := hlong
          have hstep : ofFrom s.size br P 0 0 = ofFrom s.size br (P.drop (k + 1)) (clip br (a + q)) 0 := by
            rw [HR.out, HD.out]
            conv => lhs; unfold ofFrom
            rw [if_neg (by omega), if_neg (by omega), if_neg hlong]
            rfl
          have HS := hid hstep
          clear hstep
          go_wp2
          go_roundg (P.length - k)
          case measure => omega
          case rel =>
            refine ⟨⟨⟨k + 1, a + q, 0, by rw [Int.natCast_add], rfl, by go_num, by omega, ⟨by omega, by omega⟩, by omega, ?_⟩, by trivial⟩, k + 1, by go_num, by omega⟩
            show _ = _
            rw [HS.out]
            unfold clip
            rw [if_neg (by omega)]
    · obtain rfl : k = P.length := by omega
      have hf : ofFrom s.size br P 0 0 = finalOf s.size br := by rw [HR.out, List.drop_length]; rfl
      have HF := hid hf
      clear hf
      go_wp2
      go_ret
      rw [HF.out]
      unfold finalOf
      rw [if_neg (by omega)]
      exact of_all _ s
end Go.Proofs.YtgkenhmbilkhdaaGreatDoor

namespace Go.Proofs.YtgkenhmbilkhdaaGreatDoor
open Go.RowKit

set_option maxHeartbeats 8000000 in
set_option maxRecDepth 10000 in
theorem of_pos (s : ByteArray) (pv : Value) (P : List Int) (br : Int) (B : Nat) (hs : s.size ≤ 1048576) (hP20 : P.length ≤ 1048576) (hpi : ∀ x ∈ P, -9223372036854775808 ≤ x ∧ x < 9223372036854775808) (hbr : 0 ≤ br) (hb63 : br < 9223372036854775808) (w : World) (hP : IntsAt w B pv P) :
    Calls Tryz.prog 18 #[.string s, pv, .int .i64 br] w fun e w' => OfPost w s (ofFrom s.size br P 0 0) e w' := by
  have HPI := hid hpi
  clear hpi
  have h1 : decide (0 ≤ br) = true := by simp; omega
  obtain ⟨ap, cap, hpv, hcell⟩ : ∃ ap cap, pv = .slice ap P.length cap ∧ Hid (∀ i, i < P.length → ∃ g off, ap = some ⟨g, off, none⟩ ∧ w.cell? ⟨g, off + i, none⟩ = some (.int .i64 (P.getD i 0))) := by
    rcases hP with ⟨ap0, cap, rfl, rfl⟩ | ⟨g, off, cap, _, rfl, hc⟩
    · exact ⟨ap0, cap, rfl, fun i hi => by simp at hi⟩
    · exact ⟨_, cap, rfl, fun i hi => ⟨g, off, rfl, hc i hi⟩⟩
  subst hpv
  clear hP
  go_enter Tryz.func18, Tryz.ntmps18
  go_wp2
  go_loopg [7, 8, 9] (P.length + 1) (fun gk va ve vk wr => (OfRel s P br va ve vk ∧ wr = w) ∧ ∃ k : Nat, vk = .int .i64 k ∧ gk + k = P.length + 1)
  case atStart => exact ⟨⟨⟨0, 0, 0, rfl, rfl, rfl, by omega, ⟨by omega, by omega⟩, by omega, rfl⟩, rfl⟩, 0, rfl, rfl⟩
  case round =>
    obtain ⟨⟨⟨k, a, e, rfl, rfl, rfl, hk, hok, he, HR⟩, rfl⟩, k', hkk, hgk⟩ := hrel
    obtain rfl : k = k' := by injection hkk with _ hkk; omega
    clear hkk
    have ha := hok.1
    have ha2 := hok.2
    have he' : (e : Int) ≤ 8 := by omega
    by_cases hkl : k < P.length
    · have hkl' : (k : Int) < (P.length : Int) := by omega
      have hPk : P[k]? = some (P.getD k 0) := by rw [List.getD_eq_getElem?_getD, List.getElem?_eq_getElem hkl]; rfl
      obtain ⟨g, off, rfl, hck⟩ := hcell.out k hkl
      have hpb := HPI.out _ (List.mem_of_getElem? hPk)
      have HD := hid (drop_at hPk)
      generalize P.getD k 0 = p at hck hpb HD
      clear hPk
      by_cases hbk : br ≤ a
      · have h2 : decide (br ≤ (a : Int)) = true := by simp; omega
        go_wp2
        go_ret
        have hf : ofFrom s.size br P 0 0 = (a, 16) := by rw [HR.out, HD.out]; unfold ofFrom; rw [if_pos ⟨hbr, hbk⟩]
        rw [hf]
        exact of_new _ s a 16 _ rfl
      have h2 : decide (br ≤ (a : Int)) = false := by simp; omega
      have hbk' : ¬ br ≤ (a : Int) := hbk
      by_cases hp0 : p ≤ 0
      · by_cases h8 : e = 8
        · subst h8
          go_wp2
          go_ret
          have hf : ofFrom s.size br P 0 0 = (a, 14) := by rw [HR.out, HD.out]; unfold ofFrom; rw [if_neg (by omega), if_pos hp0, if_pos (by omega)]
          rw [hf]
          exact of_new _ s a 14 _ rfl
        · have h8' : (e : Int) < 8 := by omega
          go_wp2
          go_roundg (P.length - k)
          case measure => omega
          case rel =>
            refine ⟨⟨⟨k + 1, a, e + 1, rfl, by go_num, by go_num, by omega, hok, by omega, ?_⟩, by trivial⟩, k + 1, by go_num, by omega⟩
            show _ = _
            rw [HR.out, HD.out]
            conv => lhs; unfold ofFrom
            rw [if_neg (by omega), if_pos hp0, if_neg (by omega)]
      · obtain ⟨q, rfl⟩ := Int.eq_ofNat_of_zero_le (show 0 ≤ p by omega)
        have hq0 : 0 < (q : Int) := by omega
        by_cases hlong : (s.size : Int) - (a : Int) < (q : Int)
        · have hf : ofFrom s.size br P 0 0 = finalOf s.size br := by rw [HR.out, HD.out]; unfold ofFrom; rw [if_neg (by omega), if_neg (by omega), if_pos hlong]
          have HF := hid hf
          clear hf
          by_cases hbN : br ≤ (s.size : Int)
          · have h3 : decide (br ≤ (s.size : Int)) = true := by simp; omega
            go_wp2
            go_ret
            rw [HF.out]
            unfold finalOf
            rw [if_pos ⟨hbr, hbN⟩]
            exact of_new _ s br.toNat 16 _ rfl
          · have h3 : decide (br ≤ (s.size : Int)) = false := by simp; omega
            go_wp2
            go_ret
            rw [HF.out]
            unfold finalOf
            rw [if_neg (by omega)]
            exact of_all _ s
        · have hl2 : ¬ (s.size : Int) - (a : Int) < (q : Int) := hlong
          have hstep : ofFrom s.size br P 0 0 = ofFrom s.size br (P.drop (k + 1)) (clip br (a + q)) 0 := by
            rw [HR.out, HD.out]
            conv => lhs; unfold ofFrom
            rw [if_neg (by omega), if_neg (by omega), if_neg hlong]
            rfl
          have HS := hid hstep
          clear hstep
          by_cases hcl : br < (a : Int) + (q : Int)
          · have h3 : decide (br < (a : Int) + (q : Int)) = true := by simp; omega
            go_wp2
            go_roundg (P.length - k)
            case measure => omega
            case rel =>
              refine ⟨⟨⟨k + 1, br.toNat, 0, by rw [Int.toNat_of_nonneg hbr], rfl, by go_num, by omega, ⟨by omega, by omega⟩, by omega, ?_⟩, by trivial⟩, k + 1, by go_num, by omega⟩
              show _ = _
              rw [HS.out]
              unfold clip
              rw [if_pos ⟨by omega, by omega⟩]
          · have h3 : decide (br < (a : Int) + (q : Int)) = false := by simp; omega
            go_wp2
            go_roundg (P.length - k)
            case measure => omega
            case rel =>
              refine ⟨⟨⟨k + 1, a + q, 0, by rw [Int.natCast_add], rfl, by go_num, by omega, ⟨by omega, by omega⟩, by omega, ?_⟩, by trivial⟩, k + 1, by go_num, by omega⟩
              show _ = _
              rw [HS.out]
              unfold clip
              rw [if_neg (by omega)]
    · obtain rfl : k = P.length := by omega
      have hf : ofFrom s.size br P 0 0 = finalOf s.size br := by rw [HR.out, List.drop_length]; rfl
      have HF := hid hf
      clear hf
      by_cases hbN : br ≤ (s.size : Int)
      · have h3 : decide (br ≤ (s.size : Int)) = true := by simp; omega
        go_wp2
        go_ret
        rw [HF.out]
        unfold finalOf
        rw [if_pos ⟨hbr, hbN⟩]
        exact of_new _ s br.toNat 16 _ rfl
      · have h3 : decide (br ≤ (s.size : Int)) = false := by simp; omega
        go_wp2
        go_ret
        rw [HF.out]
        unfold finalOf
        rw [if_neg (by omega)]
        exact of_all _ s

theorem of_any (s : ByteArray) (pv : Value) (P : List Int) (br : Int) (B : Nat) (hs : s.size ≤ 1048576) (hP20 : P.length ≤ 1048576) (hpi : ∀ x ∈ P, -9223372036854775808 ≤ x ∧ x < 9223372036854775808) (hb63 : br < 9223372036854775808) (w : World) (hP : IntsAt w B pv P) :
    Calls Tryz.prog 18 #[.string s, pv, .int .i64 br] w fun e w' => OfPost w s (ofFrom s.size br P 0 0) e w' := by
  rcases Int.lt_or_le br 0 with h | h
  · exact of_neg s pv P br B hs hP20 hpi h w hP
  · exact of_pos s pv P br B hs hP20 hpi h hb63 w hP
end Go.Proofs.YtgkenhmbilkhdaaGreatDoor
