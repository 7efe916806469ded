import Derived.Test.YtgkenhmbilkhdaaGreatDoorGSlowRd
import Derived.Test.YtgkenhmbilkhdaaGreatDoorTables2
import Derived.Laws.Cover3
import Derived.Test.YtgkenhmbilkhdaaGreatDoorProg
import Derived.Shelf.Small.Bits
import Derived.Shelf.Strconv.Itoa1
import Derived.Shelf.LaysM
namespace Go.Proofs.YtgkenhmbilkhdaaGreatDoor
open Go.RowKit

set_option maxHeartbeats 4000000 in
theorem wordOf_any (b0 b1 b2 b3 b4 b5 b6 b7 : Nat) (h0 : b0 < 256) (h1 : b1 < 256) (h2 : b2 < 256) (h3 : b3 < 256) (h4 : b4 < 256) (h5 : b5 < 256) (h6 : b6 < 256) (h7 : b7 < 256) (w : World) :
    Calls Tryz.prog 194 #[.agg (byte8 b0 b1 b2 b3 b4 b5 b6 b7)] w fun e w' => e = .returned (.int .u64 ((word8 b0 b1 b2 b3 b4 b5 b6 b7 : Nat) : Int)) ∧ Below w.heap.size w w' := by
  obtain ⟨R, hR⟩ : ∃ R, R = word8 b0 b1 b2 b3 b4 b5 b6 b7 := ⟨_, rfl⟩
  rw [← hR]
  unfold word8 at hR
  have HR := hid hR
  clear hR
  unfold byte8
  have e1 := u64_or_nat (b0 * 72057594037927936) (b1 * 281474976710656) (by omega) (by omega)
  have l1 : b0 * 72057594037927936 ||| b1 * 281474976710656 < 2 ^ 64 := Nat.or_lt_two_pow (by omega) (by omega)
  generalize b0 * 72057594037927936 ||| b1 * 281474976710656 = y1 at e1 l1 HR
  have e2 := u64_or_nat y1 (b2 * 1099511627776) l1 (by omega)
  have l2 : y1 ||| b2 * 1099511627776 < 2 ^ 64 := Nat.or_lt_two_pow l1 (by omega)
  generalize y1 ||| b2 * 1099511627776 = y2 at e2 l2 HR
  have e3 := u64_or_nat y2 (b3 * 4294967296) l2 (by omega)
  have l3 : y2 ||| b3 * 4294967296 < 2 ^ 64 := Nat.or_lt_two_pow l2 (by omega)
  generalize y2 ||| b3 * 4294967296 = y3 at e3 l3 HR
  have e4 := u64_or_nat y3 (b4 * 16777216) l3 (by omega)
  have l4 : y3 ||| b4 * 16777216 < 2 ^ 64 := Nat.or_lt_two_pow l3 (by omega)
  generalize y3 ||| b4 * 16777216 = y4 at e4 l4 HR
  have e5 := u64_or_nat y4 (b5 * 65536) l4 (by omega)
  have l5 : y4 ||| b5 * 65536 < 2 ^ 64 := Nat.or_lt_two_pow l4 (by omega)
  generalize y4 ||| b5 * 65536 = y5 at e5 l5 HR
  have e6 := u64_or_nat y5 (b6 * 256) l5 (by omega)
  have l6 : y5 ||| b6 * 256 < 2 ^ 64 := Nat.or_lt_two_pow l5 (by omega)
  generalize y5 ||| b6 * 256 = y6 at e6 l6 HR
  have e7 := u64_or_nat y6 b7 l6 (by omega)
  generalize y6 ||| b7 = y7 at e7 HR
  rw [Int.natCast_mul, Int.natCast_mul] at e1
  rw [Int.natCast_mul] at e2 e3 e4 e5 e6
  simp only [Int.cast_ofNat_Int] at e1 e2 e3 e4 e5 e6
  go_enter Tryz.func194, Tryz.ntmps194
  go_wp2
  go_ret
  exact ⟨by rw [HR.out]; rfl, by go_grown⟩

theorem andNot7_fin : ∀ x : Fin 65, bits .andNot .i64 (x.val : Int) 7 = ((x.val / 8 * 8 : Nat) : Int) := by decide +kernel
theorem andNot7 (x : Nat) (h : x ≤ 64) : bits .andNot .i64 (x : Int) 7 = ((x / 8 * 8 : Nat) : Int) := andNot7_fin ⟨x, by omega⟩
end Go.Proofs.YtgkenhmbilkhdaaGreatDoor

namespace Go.Proofs.YtgkenhmbilkhdaaGreatDoor
open Go.RowKit

/-- What 'filled' tells. -/
def FillPost (w : World) (I : Inp) (r : RdS) (q held : Nat) (e : Ending) (w' : World) : Prop :=
  ∃ pool' held' : Nat, e = .returned (.tuple #[.int .u64 pool', .int .i64 held']) ∧ PoolOk I.T q pool' held' ∧ (q + held') % 8 = 0 ∧ q + held' ≤ 8 * r.came ∧ held ≤ held' ∧ (57 ≤ held' ∨ q + held' = 8 * r.came) ∧ Below w.heap.size w w'

set_option maxHeartbeats 8000000 in
set_option maxRecDepth 10000 in
theorem filled_any (B p c : Nat) (ex : List Value) (S : Src) (I : Inp) (pos : Nat) (mk : Bool) (mark : Nat) (r : RdS) (pool held i q : Nat) (w : World) (h : RdX w B p c 277 ex S I pos mk mark r) (h1 : r.gone ≤ i) (h2 : i ≤ r.came) (hq : q + held = 8 * i) (hP : PoolOk I.T q pool held) :
    Calls Tryz.prog 177 #[.pointer (some ⟨p, 0, none⟩), .int .u64 pool, .int .i64 held, .int .i64 i] w fun e w' => FillPost w I r q held e w' := by
  obtain ⟨c0, c1, c2, c3, c4, c5, c6⟩ := rd_c0 h.blk
  have hlen := h.len
  have hle := h.le
  have hrl := h.rowlen
  have hlt := h.lt256
  have hh := hP.1
  have hpl := hP.lt
  have HP := hid hP
  obtain ⟨k, hk⟩ : ∃ k, k = i - r.gone := ⟨_, rfl⟩
  have hki : (i : Int) - (r.gone : Int) = (k : Int) := by omega
  rcases h.row with ⟨e1, e2⟩ | ⟨g, cap, cur, e1, g1, g2, g3, g4, g5, g6⟩
  · have hrl0 := hrl
    rw [e2] at hrl0
    have hz : r.came = r.gone := by simp at hrl0; omega
    have hk0 : k = 0 := by omega
    have hki0 : (i : Int) - (r.gone : Int) = 0 := by omega
    clear hki
    rw [e1] at c1
    go_enter Tryz.func177, Tryz.ntmps177
    go_wp2
    go_quiet (fail)
    go_wp2
    refine wp_loop_rounds 1 ?_
    rw [rounds_succ]
    go_wp2
    refine bodyPost_ret (v := .tuple #[.int .u64 pool, .int .i64 held]) (by simp [results, Tryz.results177, go_sem]) rfl ?_
    exact ⟨pool, held, rfl, HP.out, by omega, by omega, by omega, Or.inr (by omega), below_drewN (Below.refl _ _) _⟩
  · rw [e1, hrl] at c1
    have hR : RowAt w B (.slice (some ⟨g, 0, none⟩) ((I.T.take r.came).drop r.gone).length cap) ((I.T.take r.came).drop r.gone) := Or.inr ⟨g, cap, cur, rfl, g1, g2, g3, g4, g5, g6⟩
    have hby : ∀ j, i + j < r.came → w.cell? ⟨g, k + j, none⟩ = some (.int .u8 (I.T.getD (i + j) 0 : Nat)) := by
      intro j hj
      have := hR.bytes (k + j) (by rw [hrl]; omega)
      rw [Nat.zero_add] at this
      rw [this, List.getD_eq_getElem?_getD, List.getElem?_drop, show r.gone + (k + j) = i + j by omega, List.getElem?_take, if_pos hj, ← List.getD_eq_getElem?_getD]
    obtain ⟨n, hn⟩ : ∃ n, n = r.came - r.gone := ⟨_, rfl⟩
    rw [← hn] at c1
    rw [hrl, ← hn] at g3
    have hkn : (k : Int) ≤ (n : Int) := by omega
    have HBY := hid hby
    have HG := hid g2
    have HLT := hid hlt
    have glt := g2.lt
    have hka : r.gone + k = i := by omega
    have hna : r.gone + n = r.came := by omega
    clear hby hR g2 g6 hlt hrl e1 hk hn
    by_cases h8 : i + 8 ≤ r.came
    · have h8' : (8 : Int) ≤ ((n - k : Nat) : Int) := by omega
      have hcapk : ¬ cap = k := by omega
      have d0 := HBY.out 0 (by omega)
      have d1 := HBY.out 1 (by omega)
      have d2 := HBY.out 2 (by omega)
      have d3 := HBY.out 3 (by omega)
      have d4 := HBY.out 4 (by omega)
      have d5 := HBY.out 5 (by omega)
      have d6 := HBY.out 6 (by omega)
      have d7 := HBY.out 7 (by omega)
      have HW := hid (valAt_word I.T i HLT.out)
      rw [Nat.add_zero, Nat.add_zero] at d0
      have z0 := HLT.out i
      have z1 := HLT.out (i + 1)
      have z2 := HLT.out (i + 2)
      have z3 := HLT.out (i + 3)
      have z4 := HLT.out (i + 4)
      have z5 := HLT.out (i + 5)
      have z6 := HLT.out (i + 6)
      have z7 := HLT.out (i + 7)
      generalize I.T.getD i 0 = b0 at d0 z0 HW
      generalize I.T.getD (i + 1) 0 = b1 at d1 z1 HW
      generalize I.T.getD (i + 2) 0 = b2 at d2 z2 HW
      generalize I.T.getD (i + 3) 0 = b3 at d3 z3 HW
      generalize I.T.getD (i + 4) 0 = b4 at d4 z4 HW
      generalize I.T.getD (i + 5) 0 = b5 at d5 z5 HW
      generalize I.T.getD (i + 6) 0 = b6 at d6 z6 HW
      generalize I.T.getD (i + 7) 0 = b7 at d7 z7 HW
      have HWO := hid (fun W => wordOf_any b0 b1 b2 b3 b4 b5 b6 b7 z0 z1 z2 z3 z4 z5 z6 z7 W)
      generalize word8 b0 b1 b2 b3 b4 b5 b6 b7 = V at HW HWO
      have hV : V < 2 ^ 64 := by rw [HW.out]; exact valAt_lt _ _ _
      obtain ⟨x, hx⟩ : ∃ x : Nat, (64 : Int) - (held : Int) = (x : Int) := ⟨64 - held, by omega⟩
      have hx64 : x ≤ 64 := by omega
      have hAN := andNot7 x hx64
      obtain ⟨room, hroom⟩ : ∃ room, room = x / 8 * 8 := ⟨_, rfl⟩
      rw [← hroom] at hAN
      have hrx : room ≤ x ∧ x < room + 8 ∧ room % 8 = 0 := by omega
      obtain ⟨sh, hsh⟩ : ∃ sh : Nat, (64 : Int) - (room : Int) = (sh : Int) := ⟨64 - room, by omega⟩
      have hsh64 : sh ≤ 64 := by omega
      have HF := hid (HP.out.fill8 hq (room := room) (by omega) HW.out)
      rw [show 64 - room = sh by omega] at HF
      have hy64 : V / 2 ^ sh * 2 ^ sh < 2 ^ 64 := Nat.lt_of_le_of_lt (Nat.div_mul_le_self V (2 ^ sh)) hV
      have hwr : IntKind.u64.wrap ((V : Int) / 2 ^ sh * 2 ^ sh) = ((V / 2 ^ sh * 2 ^ sh : Nat) : Int) := by
        have e : ((V : Int) / 2 ^ sh * 2 ^ sh) = ((V / 2 ^ sh * 2 ^ sh : Nat) : Int) := by rw [Int.natCast_mul, Int.natCast_ediv, Int.natCast_pow]; rfl
        rw [e, IntKind.wrap_u64]
        omega
      generalize V / 2 ^ sh * 2 ^ sh = y at hwr hy64 HF
      have hz : (y : Int) / 2 ^ held = ((y / 2 ^ held : Nat) : Int) := by rw [Int.natCast_ediv, Int.natCast_pow]; rfl
      have hz64 : y / 2 ^ held < 2 ^ 64 := Nat.lt_of_le_of_lt (Nat.div_le_self _ _) hy64
      generalize y / 2 ^ held = z at hz hz64 HF
      have hor := u64_or_nat pool z hpl hz64
      generalize pool ||| z = o at hor HF
      have HRX := hid hrx
      clear hroom hrx HW HP hP
      have harr := fun W => run_arrayAt (P := Tryz.prog) (w := W) 313 5 8 (some ⟨g, k, none⟩) (n - k) (cap - k) Tryz.underlying313 (by omega)
      go_enter Tryz.func177, Tryz.ntmps177
      go_wp2
      go_quiet (fail)
      go_wp2_with fail
      refine (HWO.out _).mono ?_
      rintro e w1 ⟨rfl, hb1⟩
      go_wp2
      refine bodyPost_ret (v := .tuple #[.int .u64 o, .int .i64 ((held : Int) + (room : Int))]) (by simp [results, Tryz.results177, go_sem]) rfl ?_
      have h3 := HRX.out
      exact ⟨o, held + room, by rw [Int.natCast_add], HF.out, by omega, by omega, by omega, Or.inl (by omega), (below_drewN (Below.refl _ _) _).trans hb1⟩
    · have h8' : ((n - k : Nat) : Int) < 8 := by omega
      by_cases hcapk : cap = k
      · subst hcapk
        have hz : n - cap = 0 := by omega
        go_enter Tryz.func177, Tryz.ntmps177
        go_wp2
        go_quiet (fail)
        go_wp2
        refine wp_loop_rounds 1 ?_
        rw [rounds_succ]
        go_wp2
        refine bodyPost_ret (v := .tuple #[.int .u64 pool, .int .i64 held]) (by simp [results, Tryz.results177, go_sem]) rfl ?_
        exact ⟨pool, held, rfl, HP.out, by omega, by omega, by omega, Or.inr (by omega), below_drewN (Below.refl _ _) _⟩
      · go_enter Tryz.func177, Tryz.ntmps177
        go_wp2
        go_quiet (fail)
        go_wp2
        go_loopw [1, 2, 56] (fun vp vh vi wr => ∃ (j pl hd : Nat), j ≤ n - k ∧ vi = .int .i64 j ∧ vp = .int .u64 pl ∧ vh = .int .i64 hd ∧ PoolOk I.T q pl hd ∧ q + hd = 8 * (i + j) ∧ held ≤ hd ∧ Below w.heap.size w wr) (fun _ _ vi _ => (n - k) - (intOf vi).toNat)
        case atStart => exact ⟨0, pool, held, by omega, rfl, rfl, rfl, HP.out, by omega, by omega, below_drewN (Below.refl _ _) _⟩
        case round =>
          obtain ⟨j, pl, hd, hj, rfl, rfl, rfl, hP1, hq1, hhd, hb⟩ := hrel
          have hd64 := hP1.1
          have HP1 := hid hP1
          clear hP1
          by_cases hjn : j < n - k
          · have hjn' : (j : Int) < ((n - k : Nat) : Int) := by omega
            by_cases h56 : hd ≤ 56
            · have h56' : (hd : Int) ≤ 56 := by omega
              have hcell := (hb.cell (p := ⟨g, k + j, none⟩) glt).trans (HBY.out j (by omega))
              have hx := HLT.out (i + j)
              have HF := hid (HP1.out.fill h56 hq1 hx)
              generalize I.T.getD (i + j) 0 = x at hcell hx HF
              obtain ⟨sh, hsh⟩ : ∃ sh, sh = 56 - hd := ⟨_, rfl⟩
              rw [← hsh] at HF
              have hshI : (56 : Int) - (hd : Int) = (sh : Int) := by omega
              have hxs : x * 2 ^ sh < 2 ^ 64 := by
                have := Nat.mul_lt_mul_of_pos_right (show x < 2 ^ 8 from hx) (Nat.two_pow_pos sh)
                rw [← Nat.pow_add] at this
                exact Nat.lt_of_lt_of_le this (Nat.pow_le_pow_right (by omega) (by omega))
              have hwr : IntKind.u64.wrap ((x : Int) * 2 ^ sh) = ((x * 2 ^ sh : Nat) : Int) := by
                rw [IntKind.wrap_u64, Int.natCast_mul, Int.natCast_pow]
                rw [Int.emod_eq_of_lt]
                · rfl
                · have := Int.natCast_nonneg (x * 2 ^ sh); rw [Int.natCast_mul, Int.natCast_pow] at this; exact this
                · have : ((x * 2 ^ sh : Nat) : Int) < ((2 ^ 64 : Nat) : Int) := by omega
                  rw [Int.natCast_mul, Int.natCast_pow] at this; exact this
              have hor := u64_or_nat pl (x * 2 ^ sh) HP1.out.lt hxs
              generalize pl ||| x * 2 ^ sh = z at hor HF
              generalize x * 2 ^ sh = y at hwr hor
              have hsh2 : sh ≤ 56 := by omega
              clear hsh hxs
              go_wp2
              go_roundw
              case rel => exact ⟨j + 1, z, hd + 8, by omega, by go_num, rfl, by go_num, HF.out, by omega, by omega, hb⟩
              case measure => simp [intOf]; omega
            · have h56' : (56 : Int) < (hd : Int) := by omega
              have hcell := (hb.cell (p := ⟨g, k + j, none⟩) glt).trans (HBY.out j (by omega))
              go_wp2
              refine bodyPost_ret (v := .tuple #[.int .u64 pl, .int .i64 hd]) (by simp [results, Tryz.results177, go_sem]) rfl ?_
              exact ⟨pl, hd, rfl, HP1.out, by omega, by omega, by omega, Or.inl (by omega), hb⟩
          · go_wp2
            refine bodyPost_ret (v := .tuple #[.int .u64 pl, .int .i64 hd]) (by simp [results, Tryz.results177, go_sem]) rfl ?_
            exact ⟨pl, hd, rfl, HP1.out, by omega, by omega, by omega, Or.inr (by omega), hb⟩
end Go.Proofs.YtgkenhmbilkhdaaGreatDoor

namespace Go.Proofs.YtgkenhmbilkhdaaGreatDoor
open Go.Shelf

/-! Counts of bits, by the library's contracts. -/
def ren126 : Go.Shelf.Ren := ⟨fun | 126 => 279 | n => n, fun | 3 => 3 | 5 => 5 | 9 => 9 | n => n, fun | n => n⟩
theorem lays126 : Go.Proofs.Lays.n126 Tryz.prog ren126 := {
  mixed := by kernel_rfl
  f126 := Tryz.func279.trans (congrArg some (by kernel_rfl))
  t3 := Tryz.underlying3
  a3 := Tryz.isAgg3
  z3 := Tryz.sizeOf3
  v3 := Tryz.zeroValue3
  t5 := Tryz.underlying5
  a5 := Tryz.isAgg5
  z5 := Tryz.sizeOf5
  v5 := Tryz.zeroValue5
  t9 := Tryz.underlying9
  a9 := Tryz.isAgg9
  z9 := Tryz.sizeOf9
  v9 := Tryz.zeroValue9 }
def ren131 : Go.Shelf.Ren := ⟨fun | 131 => 274 | 126 => 279 | n => n, fun | 3 => 3 | 5 => 5 | 9 => 9 | n => n, fun | n => n⟩
theorem lays131 : Go.Proofs.Lays.n131 Tryz.prog ren131 := {
  mixed := by kernel_rfl
  f126 := Tryz.func279.trans (congrArg some (by kernel_rfl))
  f131 := Tryz.func274.trans (congrArg some (by kernel_rfl))
  t3 := Tryz.underlying3
  a3 := Tryz.isAgg3
  z3 := Tryz.sizeOf3
  v3 := Tryz.zeroValue3
  t5 := Tryz.underlying5
  a5 := Tryz.isAgg5
  z5 := Tryz.sizeOf5
  v5 := Tryz.zeroValue5
  t9 := Tryz.underlying9
  a9 := Tryz.isAgg9
  z9 := Tryz.sizeOf9
  v9 := Tryz.zeroValue9 }
def ren129 : Go.Shelf.Ren := ⟨fun | 129 => 195 | n => n, fun | 3 => 3 | 4 => 4 | 5 => 5 | 9 => 9 | 46 => 238 | 53 => 174 | n => n, fun | n => n⟩
theorem lays129 : Go.Proofs.Lays.n129 Tryz.prog ren129 := {
  mixed := by kernel_rfl
  f129 := Tryz.func195.trans (congrArg some (by kernel_rfl))
  t3 := Tryz.underlying3
  a3 := Tryz.isAgg3
  z3 := Tryz.sizeOf3
  v3 := Tryz.zeroValue3
  t4 := Tryz.underlying4
  a4 := Tryz.isAgg4
  z4 := Tryz.sizeOf4
  v4 := Tryz.zeroValue4
  t5 := Tryz.underlying5
  a5 := Tryz.isAgg5
  z5 := Tryz.sizeOf5
  v5 := Tryz.zeroValue5
  t9 := Tryz.underlying9
  a9 := Tryz.isAgg9
  z9 := Tryz.sizeOf9
  v9 := Tryz.zeroValue9
  t46 := Tryz.underlying238
  a46 := Tryz.isAgg238
  z46 := Tryz.sizeOf238
  v46 := Tryz.zeroValue238
  t53 := Tryz.underlying174
  a53 := Tryz.isAgg174
  z53 := Tryz.sizeOf174
  v53 := Tryz.zeroValue174 }
def ren134 : Go.Shelf.Ren := ⟨fun | 134 => 178 | 129 => 195 | n => n, fun | 3 => 3 | 4 => 4 | 5 => 5 | 9 => 9 | 46 => 238 | 53 => 174 | n => n, fun | n => n⟩
theorem lays134 : Go.Proofs.Lays.n134 Tryz.prog ren134 := {
  mixed := by kernel_rfl
  f129 := Tryz.func195.trans (congrArg some (by kernel_rfl))
  f134 := Tryz.func178.trans (congrArg some (by kernel_rfl))
  t3 := Tryz.underlying3
  a3 := Tryz.isAgg3
  z3 := Tryz.sizeOf3
  v3 := Tryz.zeroValue3
  t4 := Tryz.underlying4
  a4 := Tryz.isAgg4
  z4 := Tryz.sizeOf4
  v4 := Tryz.zeroValue4
  t5 := Tryz.underlying5
  a5 := Tryz.isAgg5
  z5 := Tryz.sizeOf5
  v5 := Tryz.zeroValue5
  t9 := Tryz.underlying9
  a9 := Tryz.isAgg9
  z9 := Tryz.sizeOf9
  v9 := Tryz.zeroValue9
  t46 := Tryz.underlying238
  a46 := Tryz.isAgg238
  z46 := Tryz.sizeOf238
  v46 := Tryz.zeroValue238
  t53 := Tryz.underlying174
  a53 := Tryz.isAgg174
  z53 := Tryz.sizeOf174
  v53 := Tryz.zeroValue174 }

theorem clz8 (x : Nat) (h : x < 256) (w : World) : Calls Tryz.prog 274 #[.int .u8 x] w fun e w' => e = .returned (.int .i64 (8 - (Lib.bitLen x : Int))) ∧ w' = w :=
  Any.bits_LeadingZeros8 lays131 x w (by omega) (by omega)
theorem clz64 (x : Nat) (h : x < 18446744073709551616) (w : World) : Calls Tryz.prog 178 #[.int .u64 x] w fun e w' => e = .returned (.int .i64 (64 - (Lib.bitLen x : Int))) ∧ w' = w :=
  Any.bits_LeadingZeros64 lays134 x w (by omega) (by omega)
theorem len64 (x : Nat) (h : x < 18446744073709551616) (w : World) : Calls Tryz.prog 195 #[.int .u64 x] w fun e w' => e = .returned (.int .i64 (Lib.bitLen x : Int)) ∧ w' = w :=
  Any.bits_Len64 lays129 x w (by omega) (by omega)
end Go.Proofs.YtgkenhmbilkhdaaGreatDoor
