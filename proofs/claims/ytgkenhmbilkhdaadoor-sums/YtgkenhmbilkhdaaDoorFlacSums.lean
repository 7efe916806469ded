import Derived.Test.YtgkenhmbilkhdaaDoorRefSum
import Derived.Test.YtgkenhmbilkhdaaDoorGround
import Derived.Test.YtgkenhmbilkhdaaDoorTables3
namespace Go.Proofs.YtgkenhmbilkhdaaDoor
open Go.RowKit

/-- The way of a kind. -/
def crcV (k : Nat) (tb : Nat) : Value := if k = 0 then .iface 68 (.agg #[]) else .iface 65 (.pointer (some ⟨tb, 0, none⟩))

theorem newCrc0 (w : World) : Calls Tryd.prog 14 #[.int .i64 0] w fun e w' => e = .returned (.iface 68 (.agg #[])) ∧ w' = w := by
  go_enter Tryd.func14, Tryd.ntmps14
  go_wp2
  go_ret
  exact ⟨rfl, rfl⟩
theorem newCrc1 (w : World) : Calls Tryd.prog 14 #[.int .i64 1] w fun e w' => e = .returned (.iface 65 (.pointer (some ⟨w.heap.size, 0, none⟩))) ∧ Below w.heap.size w w' ∧ Blk w' w.heap.size tabCells 96 := by
  go_enter Tryd.func14, Tryd.ntmps14
  go_wp2_with (go_at_call 23; refine (newTables_any _).mono ?_; rintro e w' ⟨rfl, hb, hT⟩)
  go_ret
  exact ⟨rfl, ‹_›, ‹_›⟩

def strSize : Value → Nat
  | .string t => t.size
  | _ => 0

theorem ext_take (t : ByteArray) (c : Nat) : bytesOf (t.extract 0 c) = (bytesOf t).take c := by
  unfold bytesOf
  rw [ByteArray.data_extract, Array.toList_extract]
  simp
theorem ext_drop (t : ByteArray) (c : Nat) : bytesOf (t.extract c t.size) = (bytesOf t).drop c := by
  unfold bytesOf
  rw [ByteArray.data_extract, Array.toList_extract]
  simp
  exact List.take_of_length_le (by simp)

theorem toList_ne (t : ByteArray) (h0 : ¬ t.size = 0) : (t.toList == []) = false := by
  rw [ByteArray.toList_eq]
  simp
  intro h
  exact h0 (by show t.data.size = 0; rw [h]; rfl)

theorem bw8L (c : Nat) (hc : c < 256) (g off cap : Nat) (l : List Nat) (hl : ∀ x ∈ l, x < 256) (L : Nat) (hL : L = l.length) (hlen : L ≤ 1048576) (w : World) (hrow : Bytes8 w g off l) (hg : g < w.heap.size) :
    Calls Tryd.prog 79 #[.agg #[], .int .u8 c, .slice (some ⟨g, off, none⟩) L cap] w fun e w' => ∃ d : Nat, e = .returned (.int .u8 d) ∧ Hid (d = crc8 c l) ∧ Below w.heap.size w w' := by
  subst hL
  refine (bw8 c hc g off cap l hl hlen w hrow hg).mono ?_
  rintro e w' ⟨rfl, hb⟩
  exact ⟨_, rfl, rfl, hb⟩
theorem bw16L (c : Nat) (hc : c < 65536) (g off cap : Nat) (l : List Nat) (hl : ∀ x ∈ l, x < 256) (L : Nat) (hL : L = l.length) (hlen : L ≤ 1048576) (w : World) (hrow : Bytes8 w g off l) (hg : g < w.heap.size) :
    Calls Tryd.prog 78 #[.agg #[], .int .u16 c, .slice (some ⟨g, off, none⟩) L cap] w fun e w' => ∃ d : Nat, e = .returned (.int .u16 d) ∧ Hid (d = crc16 c l) ∧ Below w.heap.size w w' := by
  subst hL
  refine (bw16 c hc g off cap l hl hlen w hrow hg).mono ?_
  rintro e w' ⟨rfl, hb⟩
  exact ⟨_, rfl, rfl, hb⟩
theorem tb8L (tb c : Nat) (hc : c < 256) (g off cap : Nat) (l : List Nat) (hl : ∀ x ∈ l, x < 256) (L : Nat) (hL : L = l.length) (hlen : L ≤ 1048576) (w : World) (hrow : Bytes8 w g off l) (hT : Blk w tb tabCells 96) :
    Calls Tryd.prog 76 #[.pointer (some ⟨tb, 0, none⟩), .int .u8 c, .slice (some ⟨g, off, none⟩) L cap] w fun e w' => ∃ d : Nat, e = .returned (.int .u8 d) ∧ Hid (d = crc8 c l) ∧ Below w.heap.size w w' := by
  subst hL
  refine (tb8 tb c hc g off cap l hl hlen w hrow hT).mono ?_
  rintro e w' ⟨rfl, rfl⟩
  exact ⟨_, rfl, rfl, Below.refl _ _⟩
theorem tb16L (tb c : Nat) (hc : c < 65536) (g off cap : Nat) (l : List Nat) (hl : ∀ x ∈ l, x < 256) (L : Nat) (hL : L = l.length) (hlen : L ≤ 1048576) (hcap : l.length ≤ cap) (w : World) (hrow : Bytes8 w g off l) (hg : g < w.heap.size) (hT : Blk w tb tabCells 96) :
    Calls Tryd.prog 75 #[.pointer (some ⟨tb, 0, none⟩), .int .u16 c, .slice (some ⟨g, off, none⟩) L cap] w fun e w' => ∃ d : Nat, e = .returned (.int .u16 d) ∧ Hid (d = crc16 c l) ∧ Below w.heap.size w w' := by
  subst hL
  refine (tb16 tb c hc g off cap l hl hlen hcap w hrow hg hT).mono ?_
  rintro e w' ⟨rfl, hb⟩
  exact ⟨_, rfl, rfl, hb⟩
theorem addL (p : Nat) (l m : List Nat) (g off cap : Nat) (hm : ∀ x ∈ m, x < 256) (L : Nat) (hL : L = m.length) (hlen : l.length + L ≤ 1099511627776) (hcap : m.length ≤ cap) (w : World) (hT : MdTabs w) (hp : 6 ≤ p) (hg : g < w.heap.size) (hgp : g ≠ p) (hrow : Bytes8 w g off m) (hM : MdAt w p l) :
    Calls Tryd.prog 16 #[.pointer (some ⟨p, 0, none⟩), .slice (some ⟨g, off, none⟩) L cap] w fun e w' => e = .returned (.tuple #[]) ∧ Kept p w w' ∧ MdAt w' p (l ++ m) := by
  subst hL
  exact add_any p l m g off cap hm hlen hcap w hT hp hg hgp hrow hM
theorem part_pos {s t : ByteArray} {l : List Nat} {n : Nat} (h : bytesOf s = l ++ bytesOf t) (hn : n ≤ t.size) : (bytesOf (t.extract 0 n)).length = n ∧ bytesOf s = (l ++ bytesOf (t.extract 0 n)) ++ bytesOf (t.extract n t.size) := by
  refine ⟨by rw [ext_take, List.length_take, bytesOf_len]; omega, ?_⟩
  rw [ext_take, ext_drop, List.append_assoc, List.take_append_drop, h]
theorem part_neg {s t : ByteArray} {l : List Nat} (h : bytesOf s = l ++ bytesOf t) : (bytesOf t).length = t.size ∧ bytesOf s = (l ++ bytesOf t) ++ bytesOf ByteArray.empty :=
  ⟨bytesOf_len t, by rw [show bytesOf ByteArray.empty = [] from rfl, List.append_nil, h]⟩
theorem size_rest {t : ByteArray} {n : Nat} (h0 : ¬ t.size = 0) (hn : 1 ≤ n) : (t.extract n t.size).size < t.size := by
  rw [ByteArray.size_extract]; omega

set_option maxHeartbeats 2000000 in
set_option maxRecDepth 10000 in
theorem flacSums_yes0 (X : ByteArray) (x8 x16 : Nat) (s : ByteArray) (n : Nat) (hn : 1 ≤ n) (hs : s.size ≤ 1048576) (w : World) (hT : MdTabs w) (HX : Hid (X = digest (md (padded (bytesOf s)) ((padded (bytesOf s)).length / 64)))) (H8 : Hid (x8 = crc8 0 (bytesOf s))) (H16 : Hid (x16 = crc16 0 (bytesOf s))) :
    Calls Tryd.prog 8 #[.string s, .int .i64 0, .int .i64 n] w fun e w' => e = .returned (.tuple #[.int .u8 x8, .int .u16 x16, .string X, .nilIface]) ∧ Below w.heap.size w w' := by
  have HLB := hid (bytesOf_lt s)
  have HLS := hid (bytesOf_len s)
  have hn' : ¬ (n : Int) < 1 := by omega
  go_enter Tryd.func8, Tryd.ntmps8
  go_wp2_with (first
    | (go_at_call 12; refine (kind_yes 0 (by omega) _).mono ?_; rintro e w ⟨rfl, rfl⟩)
    | (go_at_call 14; refine (newCrc0 _).mono ?_; rintro e w ⟨rfl, rfl⟩)
    | (go_at_call 15; refine (newMd5_any _).mono ?_; rintro e w1 ⟨rfl, hb1, hM1⟩))
  rename World => W1
  have HT1 := hid (hT.below hb1)
  have hpG : 6 ≤ w.heap.size := hT.2.2
  have HbW1 := hid hb1
  clear hT hb1
  go_loopw [0, 12, 13] (fun vs v8 v16 wr => ∃ (l : List Nat) (t : ByteArray), vs = .string t ∧ Hid (bytesOf s = l ++ bytesOf t) ∧ v8 = .int .u8 ((crc8 0 l : Nat) : Int) ∧ v16 = .int .u16 ((crc16 0 l : Nat) : Int) ∧ MdAt wr w.heap.size l ∧ Kept w.heap.size W1 wr) (fun vs _ _ _ => strSize vs)
  case atStart => exact ⟨[], s, rfl, hid rfl, rfl, rfl, hM1, Kept.refl _ _⟩
  case round =>
    obtain ⟨l, t, rfl, HS, rfl, rfl, hM, hk⟩ := hrel
    have HLL : Hid (l.length + t.size = s.size) := by
      show _ = _
      have h := congrArg List.length HS.out
      rw [List.length_append, bytesOf_len, bytesOf_len] at h
      omega
    have HLl : Hid (∀ x ∈ l, x < 256) := fun x hx => HLB.out x (by rw [HS.out]; exact List.mem_append_left _ hx)
    obtain ⟨c8, HC8, hc8⟩ : ∃ c8, Hid (c8 = crc8 0 l) ∧ c8 < 256 := ⟨_, hid rfl, crc8_lt l (by omega) HLl.out⟩
    obtain ⟨c16, HC16, hc16⟩ : ∃ c16, Hid (c16 = crc16 0 l) ∧ c16 < 65536 := ⟨_, hid rfl, crc16_lt l (by omega) HLl.out⟩
    rw [← HC8.out, ← HC16.out]
    have hlt := hM.lt
    have HM := hid hM
    clear hM hM1
    by_cases h0 : t.size = 0
    · obtain rfl : t = ⟨#[]⟩ := ByteArray.ext (Array.eq_empty_of_size_eq_zero h0)
      have hsl : bytesOf s = l := by have h := HS.out; rw [h]; exact List.append_nil _
      have HSL := hid hsl
      clear hsl
      go_wp2_with fail
      refine (sum_core X w.heap.size l (by rw [← HSL.out]; exact HX) (by rw [← HSL.out, HLS.out]; exact hs) _ (HT1.out.kept hk hpG) HM.out).mono ?_
      rintro e W9 ⟨rfl, hb9⟩
      go_wp2
      refine bodyPost_ret (v := .tuple #[.int .u8 c8, .int .u16 c16, .string X, .nilIface]) (by simp [results, Tryd.results8, go_sem]) rfl ⟨?_, ?_⟩
      · rw [HC8.out, HC16.out, H8.out, H16.out, HSL.out]
      · exact (HbW1.out.trans (hk.below (Nat.le_refl _) HbW1.out.size)).trans (hb9.mono (Nat.le_trans HbW1.out.size hk.size))
    · have hne := toList_ne t h0
      by_cases hnt : n ≤ t.size
      case' pos =>
        have hnt' : (n : Int) ≤ (t.size : Int) := by omega
        have HM2 := hid (part_pos HS.out hnt)
        have HL20 : Hid (n ≤ 1048576 ∧ l.length + n ≤ 1099511627776) := by have h := HLL.out; show _ ∧ _; omega
        have HZ := hid (size_rest (n := n) h0 hn)
      case' neg =>
        have hnt' : (t.size : Int) < (n : Int) := by omega
        have HM2 := hid (part_neg HS.out)
        have HL20 : Hid (t.size ≤ 1048576 ∧ l.length + t.size ≤ 1099511627776) := by have h := HLL.out; show _ ∧ _; omega
        have HZ : Hid (ByteArray.empty.size < t.size) := by show 0 < t.size; omega
      all_goals
        go_wp2_with (refine wpList_bytes rfl (.tmp 35) 9 38 5 rfl Tryd.underlying9 Tryd.underlying38 Tryd.underlying5 _ rfl wr.heap.size (Nat.le_refl _) ?_; intro cap5 W5 hO5 hb5)
        refine (bw8L c8 hc8 _ 0 cap5 _ (bytesOf_lt _) _ HM2.out.1.symm HL20.out.1 _ hO5.row hO5.lt).mono ?_
        rintro e W6 ⟨d8, rfl, HD8, hb6⟩
        have hO6 := hO5.below hb6 hO5.lt
        go_wp2_with fail
        refine (bw16L c16 hc16 _ 0 cap5 _ (bytesOf_lt _) _ HM2.out.1.symm HL20.out.1 _ hO6.row hO6.lt).mono ?_
        rintro e W7 ⟨d16, rfl, HD16, hb7⟩
        have hO7 := hO6.below hb7 hO6.lt
        have hb57 : Below wr.heap.size wr W7 := (hb5.trans (hb6.mono hb5.size)).trans (hb7.mono (Nat.le_trans hb5.size hb6.size))
        have hT7 := (HT1.out.kept hk hpG).below hb57
        have hM7 := HM.out.below hb57
        go_wp2_with fail
        refine (addL w.heap.size l _ wr.heap.size 0 cap5 (bytesOf_lt _) _ HM2.out.1.symm HL20.out.2 hO7.fits _ hT7 hpG hO7.lt (by omega) hO7.row hM7).mono ?_
        rintro e W8 ⟨rfl, hk8, hM8⟩
        go_wp2
        go_roundw
        case rel => exact ⟨_, _, rfl, hid HM2.out.2, by rw [HD8.out, HC8.out, crc8_app], by rw [HD16.out, HC16.out, crc16_app], hM8, (hk.trans (Kept.of_below hb57)).trans hk8⟩
        case measure => exact HZ.out
set_option maxHeartbeats 2000000 in
set_option maxRecDepth 10000 in
theorem flacSums_yes1 (X : ByteArray) (x8 x16 : Nat) (s : ByteArray) (n : Nat) (hn : 1 ≤ n) (hs : s.size ≤ 1048576) (w : World) (hT : MdTabs w) (HX : Hid (X = digest (md (padded (bytesOf s)) ((padded (bytesOf s)).length / 64)))) (H8 : Hid (x8 = crc8 0 (bytesOf s))) (H16 : Hid (x16 = crc16 0 (bytesOf s))) :
    Calls Tryd.prog 8 #[.string s, .int .i64 1, .int .i64 n] w fun e w' => e = .returned (.tuple #[.int .u8 x8, .int .u16 x16, .string X, .nilIface]) ∧ Below w.heap.size w w' := by
  have HLB := hid (bytesOf_lt s)
  have HLS := hid (bytesOf_len s)
  have hn' : ¬ (n : Int) < 1 := by omega
  go_enter Tryd.func8, Tryd.ntmps8
  go_wp2_with (first
    | (go_at_call 12; refine (kind_yes 1 (by omega) _).mono ?_; rintro e w ⟨rfl, rfl⟩)
    | (go_at_call 14; refine (newCrc1 _).mono ?_; rintro e wT ⟨rfl, hbT, hTT⟩)
    | (go_at_call 15; refine (newMd5_any _).mono ?_; rintro e w1 ⟨rfl, hb1, hM1⟩))
  rename World => W1
  have HT1 := hid ((hT.below hbT).below hb1)
  have hpG : 6 ≤ wT.heap.size := Nat.le_trans hT.2.2 hbT.size
  have HbW1 := hid (hbT.trans (hb1.mono hbT.size))
  have HpW : Hid (w.heap.size ≤ wT.heap.size) := hbT.size
  have HWW : Hid (w.heap.size ≤ W1.heap.size) := HbW1.out.size
  have HTT := hid (hTT.below hb1 hTT.lt)
  have htb : w.heap.size ≠ wT.heap.size := by have := hTT.lt; omega
  have HTl : Hid (w.heap.size < W1.heap.size) := Nat.lt_of_lt_of_le hTT.lt hb1.size
  clear hT hb1 hbT hTT
  go_loopw [0, 12, 13] (fun vs v8 v16 wr => ∃ (l : List Nat) (t : ByteArray), vs = .string t ∧ Hid (bytesOf s = l ++ bytesOf t) ∧ v8 = .int .u8 ((crc8 0 l : Nat) : Int) ∧ v16 = .int .u16 ((crc16 0 l : Nat) : Int) ∧ MdAt wr wT.heap.size l ∧ Kept wT.heap.size W1 wr) (fun vs _ _ _ => strSize vs)
  case atStart => exact ⟨[], s, rfl, hid rfl, rfl, rfl, hM1, Kept.refl _ _⟩
  case round =>
    obtain ⟨l, t, rfl, HS, rfl, rfl, hM, hk⟩ := hrel
    have HLL : Hid (l.length + t.size = s.size) := by
      show _ = _
      have h := congrArg List.length HS.out
      rw [List.length_append, bytesOf_len, bytesOf_len] at h
      omega
    have HLl : Hid (∀ x ∈ l, x < 256) := fun x hx => HLB.out x (by rw [HS.out]; exact List.mem_append_left _ hx)
    obtain ⟨c8, HC8, hc8⟩ : ∃ c8, Hid (c8 = crc8 0 l) ∧ c8 < 256 := ⟨_, hid rfl, crc8_lt l (by omega) HLl.out⟩
    obtain ⟨c16, HC16, hc16⟩ : ∃ c16, Hid (c16 = crc16 0 l) ∧ c16 < 65536 := ⟨_, hid rfl, crc16_lt l (by omega) HLl.out⟩
    rw [← HC8.out, ← HC16.out]
    have hlt := hM.lt
    have HM := hid hM
    clear hM hM1
    by_cases h0 : t.size = 0
    · obtain rfl : t = ⟨#[]⟩ := ByteArray.ext (Array.eq_empty_of_size_eq_zero h0)
      have hsl : bytesOf s = l := by have h := HS.out; rw [h]; exact List.append_nil _
      have HSL := hid hsl
      clear hsl
      go_wp2_with fail
      refine (sum_core X wT.heap.size l (by rw [← HSL.out]; exact HX) (by rw [← HSL.out, HLS.out]; exact hs) _ (HT1.out.kept hk hpG) HM.out).mono ?_
      rintro e W9 ⟨rfl, hb9⟩
      go_wp2
      refine bodyPost_ret (v := .tuple #[.int .u8 c8, .int .u16 c16, .string X, .nilIface]) (by simp [results, Tryd.results8, go_sem]) rfl ⟨?_, ?_⟩
      · rw [HC8.out, HC16.out, H8.out, H16.out, HSL.out]
      · exact (HbW1.out.trans (hk.below HpW.out HbW1.out.size)).trans (hb9.mono (Nat.le_trans HbW1.out.size hk.size))
    · have hne := toList_ne t h0
      by_cases hnt : n ≤ t.size
      case' pos =>
        have hnt' : (n : Int) ≤ (t.size : Int) := by omega
        have HM2 := hid (part_pos HS.out hnt)
        have HL20 : Hid (n ≤ 1048576 ∧ l.length + n ≤ 1099511627776) := by have h := HLL.out; show _ ∧ _; omega
        have HZ := hid (size_rest (n := n) h0 hn)
      case' neg =>
        have hnt' : (t.size : Int) < (n : Int) := by omega
        have HM2 := hid (part_neg HS.out)
        have HL20 : Hid (t.size ≤ 1048576 ∧ l.length + t.size ≤ 1099511627776) := by have h := HLL.out; show _ ∧ _; omega
        have HZ : Hid (ByteArray.empty.size < t.size) := by show 0 < t.size; omega
      all_goals
        go_wp2_with (refine wpList_bytes rfl (.tmp 35) 9 38 5 rfl Tryd.underlying9 Tryd.underlying38 Tryd.underlying5 _ rfl wr.heap.size (Nat.le_refl _) ?_; intro cap5 W5 hO5 hb5)
        have hB5 := (hk.blk HTT.out htb).below hb5 (Nat.lt_of_lt_of_le HTl.out hk.size)
        refine (tb8L w.heap.size c8 hc8 _ 0 cap5 _ (bytesOf_lt _) _ HM2.out.1.symm HL20.out.1 _ hO5.row hB5).mono ?_
        rintro e W6 ⟨d8, rfl, HD8, hb6⟩
        have hO6 := hO5.below hb6 hO5.lt
        go_wp2_with fail
        refine (tb16L w.heap.size c16 hc16 _ 0 cap5 _ (bytesOf_lt _) _ HM2.out.1.symm HL20.out.1 hO6.fits _ hO6.row hO6.lt (hB5.below hb6 hB5.lt)).mono ?_
        rintro e W7 ⟨d16, rfl, HD16, hb7⟩
        have hO7 := hO6.below hb7 hO6.lt
        have hb57 : Below wr.heap.size wr W7 := (hb5.trans (hb6.mono hb5.size)).trans (hb7.mono (Nat.le_trans hb5.size hb6.size))
        have hT7 := (HT1.out.kept hk hpG).below hb57
        have hM7 := HM.out.below hb57
        go_wp2_with fail
        refine (addL wT.heap.size l _ wr.heap.size 0 cap5 (bytesOf_lt _) _ HM2.out.1.symm HL20.out.2 hO7.fits _ hT7 hpG hO7.lt (by omega) hO7.row hM7).mono ?_
        rintro e W8 ⟨rfl, hk8, hM8⟩
        go_wp2
        go_roundw
        case rel => exact ⟨_, _, rfl, hid HM2.out.2, by rw [HD8.out, HC8.out, crc8_app], by rw [HD16.out, HC16.out, crc16_app], hM8, (hk.trans (Kept.of_below hb57)).trans hk8⟩
        case measure => exact HZ.out

theorem flacSums_yes (k : Int) (hk : k = 0 ∨ k = 1) (s : ByteArray) (n : Int) (hn : 1 ≤ n) (hs : s.size ≤ 1048576) (w : World) (hT : MdTabs w) :
    Calls Tryd.prog 8 #[.string s, .int .i64 k, .int .i64 n] w fun e w' => e = .returned (.tuple #[.int .u8 (crc8 0 (bytesOf s) : Nat), .int .u16 (crc16 0 (bytesOf s) : Nat), .string (digest (md (padded (bytesOf s)) ((padded (bytesOf s)).length / 64))), .nilIface]) ∧ Below w.heap.size w w' := by
  obtain ⟨m, rfl⟩ := Int.eq_ofNat_of_zero_le (show 0 ≤ n by omega)
  rcases hk with rfl | rfl
  · exact flacSums_yes0 _ _ _ s m (by omega) hs w hT (hid rfl) (hid rfl) (hid rfl)
  · exact flacSums_yes1 _ _ _ s m (by omega) hs w hT (hid rfl) (hid rfl) (hid rfl)
end Go.Proofs.YtgkenhmbilkhdaaDoor
