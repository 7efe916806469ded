import Derived.Test.YtgkenhmbilkhdaaGreatDoorBitsPure
import Derived.Handy
import Derived.Test.YtgkenhmbilkhdaaGreatDoorProg
import Derived.Test.YtgkenhmbilkhdaaGreatDoorBlk
import Derived.WalkKit
import Derived.WalkSpells
import Derived.WalkLawsBesides
import Derived.KernelRfl
import Derived.Laws.BitsAllLaws
import Derived.Deep.RegionHeld3
namespace Go.Proofs.YtgkenhmbilkhdaaGreatDoor

/-! ### eight bytes at once into the reservoir -/
theorem or_add (a x k : Nat) (h : x < 2 ^ k) : a * 2 ^ k ||| x = a * 2 ^ k + x := by
  rw [Nat.mul_comm, ← Nat.two_pow_add_eq_or_of_lt h]

/-- Eight bytes as a number, the first of them highest. -/
def word8 (b0 b1 b2 b3 b4 b5 b6 b7 : Nat) : Nat := ((((((b0 * 72057594037927936 ||| b1 * 281474976710656) ||| b2 * 1099511627776) ||| b3 * 4294967296) ||| b4 * 16777216) ||| b5 * 65536) ||| b6 * 256) ||| b7
theorem word8_eq (b0 b1 b2 b3 b4 b5 b6 b7 : Nat) (h1 : b1 < 256) (h2 : b2 < 256) (h3 : b3 < 256) (h4 : b4 < 256) (h5 : b5 < 256) (h6 : b6 < 256) (h7 : b7 < 256) :
    word8 b0 b1 b2 b3 b4 b5 b6 b7 = ((((((b0 * 256 + b1) * 256 + b2) * 256 + b3) * 256 + b4) * 256 + b5) * 256 + b6) * 256 + b7 := by
  unfold word8
  have e1 := or_add b0 (b1 * 281474976710656) 56 (by omega)
  have e2 := or_add (b0 * 256 + b1) (b2 * 1099511627776) 48 (by omega)
  have e3 := or_add ((b0 * 256 + b1) * 256 + b2) (b3 * 4294967296) 40 (by omega)
  have e4 := or_add (((b0 * 256 + b1) * 256 + b2) * 256 + b3) (b4 * 16777216) 32 (by omega)
  have e5 := or_add ((((b0 * 256 + b1) * 256 + b2) * 256 + b3) * 256 + b4) (b5 * 65536) 24 (by omega)
  have e6 := or_add (((((b0 * 256 + b1) * 256 + b2) * 256 + b3) * 256 + b4) * 256 + b5) (b6 * 256) 16 (by omega)
  have e7 := or_add ((((((b0 * 256 + b1) * 256 + b2) * 256 + b3) * 256 + b4) * 256 + b5) * 256 + b6) b7 8 (by omega)
  simp only [Nat.reducePow] at e1 e2 e3 e4 e5 e6 e7
  rw [e1, show b0 * 72057594037927936 + b1 * 281474976710656 = (b0 * 256 + b1) * 281474976710656 by omega]
  rw [e2, show (b0 * 256 + b1) * 281474976710656 + b2 * 1099511627776 = ((b0 * 256 + b1) * 256 + b2) * 1099511627776 by omega]
  rw [e3, show ((b0 * 256 + b1) * 256 + b2) * 1099511627776 + b3 * 4294967296 = (((b0 * 256 + b1) * 256 + b2) * 256 + b3) * 4294967296 by omega]
  rw [e4, show (((b0 * 256 + b1) * 256 + b2) * 256 + b3) * 4294967296 + b4 * 16777216 = ((((b0 * 256 + b1) * 256 + b2) * 256 + b3) * 256 + b4) * 16777216 by omega]
  rw [e5, show ((((b0 * 256 + b1) * 256 + b2) * 256 + b3) * 256 + b4) * 16777216 + b5 * 65536 = (((((b0 * 256 + b1) * 256 + b2) * 256 + b3) * 256 + b4) * 256 + b5) * 65536 by omega]
  rw [e6, show (((((b0 * 256 + b1) * 256 + b2) * 256 + b3) * 256 + b4) * 256 + b5) * 65536 + b6 * 256 = ((((((b0 * 256 + b1) * 256 + b2) * 256 + b3) * 256 + b4) * 256 + b5) * 256 + b6) * 256 by omega]
  exact e7
theorem valAt_bytes (T : List Nat) (j : Nat) (hx : ∀ k, T.getD k 0 < 256) : ∀ n, valAt T (8 * j) (8 * (n + 1)) = valAt T (8 * j) (8 * n) * 256 + T.getD (j + n) 0 := by
  intro n
  rw [show 8 * (n + 1) = 8 * n + 8 by omega, valAt_add, show 8 * j + 8 * n = 8 * (j + n) by omega, valAt_byte T (j + n) (hx _)]
theorem valAt_word (T : List Nat) (j : Nat) (hx : ∀ k, T.getD k 0 < 256) :
    word8 (T.getD j 0) (T.getD (j + 1) 0) (T.getD (j + 2) 0) (T.getD (j + 3) 0) (T.getD (j + 4) 0) (T.getD (j + 5) 0) (T.getD (j + 6) 0) (T.getD (j + 7) 0) = valAt T (8 * j) 64 := by
  rw [word8_eq _ _ _ _ _ _ _ _ (hx _) (hx _) (hx _) (hx _) (hx _) (hx _) (hx _)]
  have e := valAt_bytes T j hx
  rw [show (64 : Nat) = 8 * (7 + 1) from rfl, e 7, show (8 * 7 : Nat) = 8 * (6 + 1) from rfl, e 6, show (8 * 6 : Nat) = 8 * (5 + 1) from rfl, e 5, show (8 * 5 : Nat) = 8 * (4 + 1) from rfl, e 4, show (8 * 4 : Nat) = 8 * (3 + 1) from rfl, e 3, show (8 * 3 : Nat) = 8 * (2 + 1) from rfl, e 2, show (8 * 2 : Nat) = 8 * (1 + 1) from rfl, e 1, show (8 * 1 : Nat) = 8 * (0 + 1) from rfl, e 0]
  simp [valAt]
theorem PoolOk.fill8 {T : List Nat} {i pool held j room W : Nat} (h : PoolOk T i pool held) (hj : i + held = 8 * j) (hr : room ≤ 64 - held) (hW : W = valAt T (8 * j) 64) :
    PoolOk T i (pool ||| W / 2 ^ (64 - room) * 2 ^ (64 - room) / 2 ^ held) (held + room) := by
  obtain ⟨h1, rfl⟩ := h
  refine ⟨by omega, ?_⟩
  have e0 : W / 2 ^ (64 - room) = valAt T (8 * j) room := by
    rw [hW]
    have := valAt_div T (8 * j) room (64 - room)
    rwa [show room + (64 - room) = 64 by omega] at this
  have e1 : valAt T (8 * j) room * 2 ^ (64 - room) / 2 ^ held = valAt T (8 * j) room * 2 ^ (64 - held - room) := by
    rw [show 64 - room = (64 - held - room) + held by omega, Nat.pow_add, ← Nat.mul_assoc, Nat.mul_div_cancel _ (Nat.two_pow_pos _)]
  have l : valAt T (8 * j) room * 2 ^ (64 - held - room) < 2 ^ (64 - held) := by
    have := Nat.mul_lt_mul_of_pos_right (valAt_lt T (8 * j) room) (Nat.two_pow_pos (64 - held - room))
    rwa [← Nat.pow_add, show room + (64 - held - room) = 64 - held by omega] at this
  rw [e0, e1, or_add _ _ _ l, valAt_add T i held room, hj, Nat.add_mul, Nat.mul_assoc, ← Nat.pow_add, show room + (64 - (held + room)) = 64 - held by omega, show 64 - (held + room) = 64 - held - room by omega]

/-! ### numbers with their signs -/
def sgn (n v : Nat) : Int := if 0 < n ∧ 2 ^ (n - 1) ≤ v then (v : Int) - 2 ^ n else v
theorem pool_sgn {T : List Nat} {i pool held n : Nat} (h : PoolOk T i pool held) (hn : n ≤ held) (h0 : 0 < n) :
    (if 9223372036854775808 ≤ pool then (pool : Int) - 18446744073709551616 else pool) / ((2 ^ (64 - n) : Nat) : Int) = sgn n (valAt T i n) := by
  have hp := h.take hn
  have hl := h.lt
  have h64 := h.1
  obtain ⟨k, hk⟩ : ∃ k, k = 64 - n := ⟨_, rfl⟩
  rw [← hk] at hp ⊢
  have e2 : (2 : Nat) ^ 63 = 2 ^ (n - 1) * 2 ^ k := by rw [← Nat.pow_add]; congr 1; omega
  have e3 : (18446744073709551616 : Int) = 2 ^ n * ((2 ^ k : Nat) : Int) := by
    have : (2 : Nat) ^ 64 = 2 ^ n * 2 ^ k := by rw [← Nat.pow_add]; congr 1; omega
    have h' : ((2 ^ 64 : Nat) : Int) = ((2 ^ n * 2 ^ k : Nat) : Int) := by rw [this]
    rw [Int.natCast_mul, Int.natCast_pow 2 n] at h'
    exact h'
  have hpos : 0 < 2 ^ k := Nat.two_pow_pos k
  unfold sgn
  by_cases hb : 9223372036854775808 ≤ pool
  · have : 2 ^ (n - 1) ≤ valAt T i n := by
      rw [← hp]
      refine (Nat.le_div_iff_mul_le hpos).2 ?_
      rw [← e2]
      exact hb
    rw [if_pos hb, if_pos ⟨h0, this⟩, e3, ← hp, Int.sub_mul_ediv_right _ _ (by omega)]
    rfl
  · have : ¬ 2 ^ (n - 1) ≤ valAt T i n := by
      rw [← hp]
      intro h'
      have := (Nat.le_div_iff_mul_le hpos).1 h'
      rw [← e2] at this
      omega
    rw [if_neg hb, if_neg (fun h' => this h'.2), ← hp]
    rfl
end Go.Proofs.YtgkenhmbilkhdaaGreatDoor

namespace Go.Proofs.YtgkenhmbilkhdaaGreatDoor
/-! ### One bit, one byte, a text, of each sum -/
def d8 (x : Nat) : Nat := (x * 2 % 256) ^^^ (x / 128 * 7)
def d8s : Nat → Nat → Nat
  | 0, x => x
  | k + 1, x => d8s k (d8 x)
def d16 (x : Nat) : Nat := (x * 2 % 65536) ^^^ (x / 32768 * 32773)
def d16s : Nat → Nat → Nat
  | 0, x => x
  | k + 1, x => d16s k (d16 x)
def crc8 (c : Nat) (l : List Nat) : Nat := l.foldl (fun c x => d8s 8 (c ^^^ x)) c
def crc16 (c : Nat) (l : List Nat) : Nat := l.foldl (fun c x => d16s 8 (c ^^^ (x * 256))) c

theorem d8_lt {x : Nat} (h : x < 256) : d8 x < 256 := Nat.xor_lt_two_pow (n := 8) (by omega) (by omega)
theorem d8s_lt : ∀ (k : Nat) {x : Nat}, x < 256 → d8s k x < 256
  | 0, _, h => h
  | k + 1, _, h => d8s_lt k (d8_lt h)
theorem d16_lt {x : Nat} (h : x < 65536) : d16 x < 65536 := Nat.xor_lt_two_pow (n := 16) (by omega) (by omega)
theorem d16s_lt : ∀ (k : Nat) {x : Nat}, x < 65536 → d16s k x < 65536
  | 0, _, h => h
  | k + 1, _, h => d16s_lt k (d16_lt h)
theorem xor8_lt {a b : Nat} (ha : a < 256) (hb : b < 256) : a ^^^ b < 256 := Nat.xor_lt_two_pow (n := 8) ha hb
theorem xor16_lt {a b : Nat} (ha : a < 65536) (hb : b < 65536) : a ^^^ b < 65536 := Nat.xor_lt_two_pow (n := 16) ha hb
theorem crc8_lt : ∀ (l : List Nat) {c : Nat}, c < 256 → (∀ x ∈ l, x < 256) → crc8 c l < 256
  | [], _, h, _ => h
  | x :: l, _, h, hl => crc8_lt l (d8s_lt 8 (xor8_lt h (hl x (by simp)))) (fun y hy => hl y (by simp [hy]))
theorem crc16_lt : ∀ (l : List Nat) {c : Nat}, c < 65536 → (∀ x ∈ l, x < 256) → crc16 c l < 65536
  | [], _, h, _ => h
  | x :: l, _, h, hl => crc16_lt l (d16s_lt 8 (xor16_lt h (by have := hl x (by simp); omega))) (fun y hy => hl y (by simp [hy]))
theorem crc8_snoc (c : Nat) (l : List Nat) (x : Nat) : crc8 c (l ++ [x]) = d8s 8 (crc8 c l ^^^ x) := by simp [crc8]
theorem crc16_snoc (c : Nat) (l : List Nat) (x : Nat) : crc16 c (l ++ [x]) = d16s 8 (crc16 c l ^^^ (x * 256)) := by simp [crc16]
theorem crc8_app (c : Nat) (l m : List Nat) : crc8 c (l ++ m) = crc8 (crc8 c l) m := by simp [crc8]
theorem crc16_app (c : Nat) (l m : List Nat) : crc16 c (l ++ m) = crc16 (crc16 c l) m := by simp [crc16]

end Go.Proofs.YtgkenhmbilkhdaaGreatDoor

namespace Go.Proofs.YtgkenhmbilkhdaaGreatDoor
open Go.RowKit

theorem d8_bits (y : Nat) (h : y < 256) : bits .xor .u8 ((y : Int) * 2 % 256) ((y : Int) / 128 * 7) = ((d8 y : Nat) : Int) := by
  have := u8_xor_nat (y * 2 % 256) (y / 128 * 7) (by omega) (by omega)
  simpa [d8] using this
theorem d16_bits (y : Nat) (h : y < 65536) : bits .xor .u16 ((y : Int) * 2 % 65536) ((y : Int) / 32768 * 32773) = ((d16 y : Nat) : Int) := by
  have := u16_xor_nat (y * 2 % 65536) (y / 32768 * 32773) (by omega) (by omega)
  simpa [d16] using this

theorem divide8_any (x : Nat) (hx : x < 256) (w : World) : Calls Tryz.prog 120 #[.int .u8 x] w fun e w' => e = .returned (.int .u8 (d8s 8 x : Nat)) ∧ w' = w := by
  go_enter Tryz.func120, Tryz.ntmps120
  go_wp2
  go_loop [0, 4] (fun s i => ∃ k y : Nat, k ≤ 8 ∧ y < 256 ∧ i = .int .i64 k ∧ s = .int .u8 y ∧ d8s (8 - k) y = d8s 8 x) (fun _ i => 8 - (intOf i).toNat)
  case atStart => exact ⟨0, x, by omega, hx, rfl, rfl, rfl⟩
  case round =>
    obtain ⟨k, y, hk, hy, rfl, rfl, hrest⟩ := hrel
    have H : Hid (d8s (8 - k) y = d8s 8 x) := hrest
    clear hrest
    by_cases hlt : (k : Int) < 8
    · go_wp2
      go_round
      case rel => exact ⟨k + 1, d8 y, by omega, d8_lt hy, by go_num, by rw [d8_bits y hy], by
        have h := H.out
        rw [show 8 - k = (8 - (k + 1)) + 1 by omega] at h
        exact h⟩
      case measure => simp [intOf]; omega
    · go_wp2
      go_ret
      have h := H.out
      rw [show 8 - k = 0 by omega] at h
      exact ⟨by rw [← h]; rfl, rfl⟩

theorem divide16_any (x : Nat) (hx : x < 65536) (w : World) : Calls Tryz.prog 121 #[.int .u16 x] w fun e w' => e = .returned (.int .u16 (d16s 8 x : Nat)) ∧ w' = w := by
  go_enter Tryz.func121, Tryz.ntmps121
  go_wp2
  go_loop [0, 4] (fun s i => ∃ k y : Nat, k ≤ 8 ∧ y < 65536 ∧ i = .int .i64 k ∧ s = .int .u16 y ∧ d16s (8 - k) y = d16s 8 x) (fun _ i => 8 - (intOf i).toNat)
  case atStart => exact ⟨0, x, by omega, hx, rfl, rfl, rfl⟩
  case round =>
    obtain ⟨k, y, hk, hy, rfl, rfl, hrest⟩ := hrel
    have H : Hid (d16s (8 - k) y = d16s 8 x) := hrest
    clear hrest
    by_cases hlt : (k : Int) < 8
    · go_wp2
      go_round
      case rel => exact ⟨k + 1, d16 y, by omega, d16_lt hy, by go_num, by rw [IntKind.wrap_u16, d16_bits y hy], by
        have h := H.out
        rw [show 8 - k = (8 - (k + 1)) + 1 by omega] at h
        exact h⟩
      case measure => simp [intOf]; omega
    · go_wp2
      go_ret
      have h := H.out
      rw [show 8 - k = 0 by omega] at h
      exact ⟨by rw [← h]; rfl, rfl⟩

/-- From ⟨g, off⟩ on there are these bytes. -/
def Bytes8 (w : World) (g off : Nat) (l : List Nat) : Prop := ∀ i, i < l.length → w.cell? ⟨g, off + i, none⟩ = some (.int .u8 (l.getD i 0 : Nat))

theorem Bytes8.below {w w' : World} {g off B : Nat} {l : List Nat} (h : Bytes8 w g off l) (hb : Below B w w') (hg : g < B) : Bytes8 w' g off l :=
  fun i hi => (hb.cell (p := ⟨g, off + i, none⟩) hg).trans (h i hi)

theorem getD_lt {l : List Nat} {n : Nat} (h : ∀ x ∈ l, x < n) (hn : 0 < n) (i : Nat) : l.getD i 0 < n := by
  rcases Nat.lt_or_ge i l.length with hi | hi
  · rw [List.getD_eq_getElem?_getD, List.getElem?_eq_getElem hi]; exact h _ (List.getElem_mem hi)
  · rw [List.getD_eq_getElem?_getD, List.getElem?_eq_none hi]; exact hn

theorem take_next {l : List Nat} {k : Nat} (h : k < l.length) : l.take (k + 1) = l.take k ++ [l.getD k 0] := by
  rw [List.take_succ_eq_append_getElem h, List.getD_eq_getElem?_getD, List.getElem?_eq_getElem h]; rfl

theorem bw8 (c : Nat) (hc : c < 256) (g off cap : Nat) (l : List Nat) (hl : ∀ x ∈ l, x < 256) (hlen : l.length ≤ 1048576) (w : World) (hrow : Bytes8 w g off l) (hg : g < w.heap.size) :
    Calls Tryz.prog 289 #[.agg #[], .int .u8 c, .slice (some ⟨g, off, none⟩) l.length cap] w fun e w' => e = .returned (.int .u8 (crc8 c l : Nat)) ∧ Below w.heap.size w w' := by
  have hrow1 : Bytes8 (w.alloc (.cells #[] 192)) g off l := hrow.below (B := w.heap.size) (by go_grown) hg
  go_enter Tryz.func289, Tryz.ntmps289
  go_wp2
  go_loop [1, 11] (fun s i => ∃ k : Nat, k ≤ l.length ∧ i = .int .i64 k ∧ s = .int .u8 (crc8 c (l.take k) : Nat)) (fun _ i => l.length - (intOf i).toNat)
  case atStart => exact ⟨0, by omega, rfl, rfl⟩
  case round =>
    obtain ⟨k, hk, rfl, rfl⟩ := hrel
    by_cases hlt : k < l.length
    · have hcell := hrow1 k hlt
      have hv := getD_lt hl (by omega) k
      have H : Hid (crc8 c (l.take (k + 1)) = d8s 8 (crc8 c (l.take k) ^^^ l.getD k 0)) := by
        show crc8 c (l.take (k + 1)) = _
        rw [take_next hlt, crc8_snoc]
      have hy := crc8_lt (l.take k) hc (fun x hx => hl x (List.mem_of_mem_take hx))
      generalize l.getD k 0 = v at hcell hv H
      generalize crc8 c (l.take k) = y at hy H
      have hxor := u8_xor_nat y v hy hv
      have hlt' : (k : Int) < l.length := by omega
      go_wp2_with fail
      refine (divide8_any (y ^^^ v) (xor8_lt hy hv) _).mono ?_
      rintro e w' ⟨rfl, rfl⟩
      go_wp2
      go_round
      case rel => exact ⟨k + 1, by omega, by go_num, by rw [H.out]⟩
      case measure => simp [intOf]; omega
    · go_wp2
      go_ret
      exact ⟨by rw [List.take_of_length_le (by omega)]; rfl, by go_grown⟩
theorem bw16 (c : Nat) (hc : c < 65536) (g off cap : Nat) (l : List Nat) (hl : ∀ x ∈ l, x < 256) (hlen : l.length ≤ 1048576) (w : World) (hrow : Bytes8 w g off l) (hg : g < w.heap.size) :
    Calls Tryz.prog 288 #[.agg #[], .int .u16 c, .slice (some ⟨g, off, none⟩) l.length cap] w fun e w' => e = .returned (.int .u16 (crc16 c l : Nat)) ∧ Below w.heap.size w w' := by
  have hrow1 : Bytes8 (w.alloc (.cells #[] 192)) g off l := hrow.below (B := w.heap.size) (by go_grown) hg
  go_enter Tryz.func288, Tryz.ntmps288
  go_wp2
  go_loop [1, 11] (fun s i => ∃ k : Nat, k ≤ l.length ∧ i = .int .i64 k ∧ s = .int .u16 (crc16 c (l.take k) : Nat)) (fun _ i => l.length - (intOf i).toNat)
  case atStart => exact ⟨0, by omega, rfl, rfl⟩
  case round =>
    obtain ⟨k, hk, rfl, rfl⟩ := hrel
    by_cases hlt : k < l.length
    · have hcell := hrow1 k hlt
      have hv := getD_lt hl (by omega) k
      have H : Hid (crc16 c (l.take (k + 1)) = d16s 8 (crc16 c (l.take k) ^^^ (l.getD k 0 * 256))) := by
        show crc16 c (l.take (k + 1)) = _
        rw [take_next hlt, crc16_snoc]
      have hy := crc16_lt (l.take k) hc (fun x hx => hl x (List.mem_of_mem_take hx))
      generalize l.getD k 0 = v at hcell hv H
      generalize crc16 c (l.take k) = y at hy H
      have hxor := u16_xor_nat y (v * 256) hy (by omega)
      rw [Int.natCast_mul] at hxor
      simp only [Int.cast_ofNat_Int] at hxor
      have hlt' : (k : Int) < l.length := by omega
      go_wp2_with fail
      refine (divide16_any (y ^^^ (v * 256)) (xor16_lt hy (by omega)) _).mono ?_
      rintro e w' ⟨rfl, rfl⟩
      go_wp2
      go_round
      case rel => exact ⟨k + 1, by omega, by go_num, by rw [H.out]⟩
      case measure => simp [intOf]; omega
    · go_wp2
      go_ret
      exact ⟨by rw [List.take_of_length_le (by omega)]; rfl, by go_grown⟩
end Go.Proofs.YtgkenhmbilkhdaaGreatDoor
