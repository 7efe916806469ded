import Derived.Test.YtgkenhmbilkhdaaGreatDoorGPBits2
namespace Go.Proofs.YtgkenhmbilkhdaaGreatDoor
open Go.RowKit

/-- The document's stream. -/
def stCells (tx : ByteArray) (st pos : Nat) : Array Value := #[.string tx, .int .i64 st, .int .i64 pos]
def StAt (w : World) (sb : Nat) (tx : ByteArray) (I : Inp) (pos : Nat) : Prop := Blk w sb (stCells tx I.st pos) 98 ∧ bytesOf tx = I.T ∧ I.T.length ≤ 1048576 ∧ (I.st = 1 ∨ I.st = 14 ∨ I.st = 16) ∧ pos ≤ 8 * I.T.length
theorem StAt.len {w : World} {sb : Nat} {tx : ByteArray} {I : Inp} {pos : Nat} (h : StAt w sb tx I pos) : tx.size = I.T.length := by rw [← h.2.1, bytesOf_len]
theorem StAt.cells {w : World} {sb : Nat} {tx : ByteArray} {I : Inp} {pos : Nat} (h : StAt w sb tx I pos) : w.cell? ⟨sb, 0, none⟩ = some (.string tx) ∧ w.cell? ⟨sb, 1, none⟩ = some (.int .i64 I.st) ∧ w.cell? ⟨sb, 2, none⟩ = some (.int .i64 pos) ∧ w.frozen? ⟨sb, 2, none⟩ = false := by
  refine ⟨(h.1.cell 0).trans ?_, (h.1.cell 1).trans ?_, (h.1.cell 2).trans ?_, h.1.free 2⟩ <;> simp [stCells]
theorem StAt.go {w : World} {sb : Nat} {tx : ByteArray} {I : Inp} {pos : Nat} (h : StAt w sb tx I pos) (pos' : Nat) (x : Int) (hx : x = (pos' : Int)) (hp : pos' ≤ 8 * I.T.length) : StAt (w.setCell ⟨sb, 2, none⟩ (.int .i64 x)) sb tx I pos' := by
  subst hx
  have := h.1.set 2 (.int .i64 pos')
  exact ⟨this, h.2.1, h.2.2.1, h.2.2.2.1, hp⟩
theorem StAt.drewN {w : World} {sb : Nat} {tx : ByteArray} {I : Inp} {pos : Nat} (h : StAt w sb tx I pos) (n : Nat) : StAt (w.drewN n) sb tx I pos := h

theorem there_any (sb : Nat) (tx : ByteArray) (I : Inp) (pos n : Nat) (hn : n ≤ 9000000) (w : World) (h : StAt w sb tx I pos) :
    Calls Tryz.prog 80 #[.pointer (some ⟨sb, 0, none⟩), .int .i64 n] w fun e w' => e = .returned (.int .i64 ((if pos + n ≤ 8 * I.T.length then 0 else stopE I.st : Nat) : Int)) ∧ ∃ m, w' = w.drewN m := by
  obtain ⟨c0, c1, c2, _⟩ := h.cells
  have hsz := h.len
  have hl := h.2.2.1
  have hp := h.2.2.2.2
  have hst := h.2.2.2.1
  by_cases hle : pos + n ≤ 8 * I.T.length
  · have hle' : (pos : Int) + (n : Int) ≤ 8 * (tx.size : Int) := by omega
    rw [if_pos hle]
    have htx : tx.size ≤ 1048576 := by omega
    clear h hsz
    go_enter Tryz.func80, Tryz.ntmps80
    go_wp2
    go_quiet (fail)
    go_wp2
    go_ret
    exact ⟨rfl, _, rfl⟩
  · have hle' : ¬ (pos : Int) + (n : Int) ≤ 8 * (tx.size : Int) := by omega
    rw [if_neg hle]
    have htx : tx.size ≤ 1048576 := by omega
    clear h hsz
    unfold stopE
    rcases hst with e | e | e <;> rw [e] at c1 ⊢
    all_goals
      go_enter Tryz.func80, Tryz.ntmps80
      go_wp2
      go_quiet (fail)
      go_wp2
      go_ret
      exact ⟨rfl, _, rfl⟩

theorem w64_small (v : Nat) (h : v < 9223372036854775808) : wrap64 (v : Int) = (v : Int) := by
  unfold wrap64
  omega
theorem w64_add (a b : Int) : wrap64 (wrap64 a + b) = wrap64 (a + b) := by
  unfold wrap64
  rw [show (a + 9223372036854775808) % 18446744073709551616 - 9223372036854775808 + b + 9223372036854775808 = (a + 9223372036854775808) % 18446744073709551616 + b by omega, Int.emod_add_emod]
  congr 2
  omega
theorem i64_and1 (x k : Nat) (hx : x < 256) : bits .and .i64 ((x : Int) / 2 ^ k) 1 = ((x / 2 ^ k % 2 : Nat) : Int) := by
  have h := i64_and_one (x / 2 ^ k) (Nat.lt_of_le_of_lt (Nat.div_le_self _ _) (by omega))
  rw [Int.natCast_ediv, Int.natCast_pow] at h
  exact h

set_option maxHeartbeats 1000000 in
theorem refBit (sb : Nat) (tx : ByteArray) (I : Inp) (pos : Nat) (w : World) (h : StAt w sb tx I pos) (hp : pos < 8 * I.T.length) :
    Calls Tryz.prog 81 #[.pointer (some ⟨sb, 0, none⟩)] w fun e w' => e = .returned (.int .i64 ((bitAt I.T pos : Nat) : Int)) ∧ KeptX [sb] w w' ∧ StAt w' sb tx I (pos + 1) := by
  obtain ⟨c0, c1, c2, f2⟩ := h.cells
  have hsz := h.len
  have hl := h.2.2.1
  have hlt : pos / 8 < tx.size := by omega
  have hget : (tx[pos / 8]'hlt).toNat = I.T.getD (pos / 8) 0 := by
    rw [← h.2.1]
    unfold bytesOf
    rw [List.getD_eq_getElem?_getD, List.getElem?_map, List.getElem?_eq_getElem (by simpa using hlt)]
    rfl
  have hx : I.T.getD (pos / 8) 0 < 256 := by rw [← hget]; exact UInt8.toNat_lt _
  have hq : (pos : Int).tdiv 8 = ((pos / 8 : Nat) : Int) := by rw [Int.tdiv_eq_ediv_of_nonneg (by omega)]; omega
  have hm : (pos : Int).tmod 8 = ((pos % 8 : Nat) : Int) := by rw [Int.tmod_eq_emod_of_nonneg (by omega)]; omega
  have hA := i64_and1 (I.T.getD (pos / 8) 0) (7 - pos % 8) hx
  rw [← bitAt_eq] at hA
  have hm8 : pos % 8 ≤ 7 := by omega
  have hidx : ∀ W, (Instr.index 9 (.string tx) (.int .i64 ((pos / 8 : Nat) : Int))).run Tryz.prog W = .ok (.int .u8 ((I.T.getD (pos / 8) 0 : Nat) : Int)) W := by
    intro W
    rw [run_index_string W 9 tx .i64 _ Tryz.underlying9, dif_pos ⟨by omega, by omega⟩]
    have e : (((pos / 8 : Nat) : Int)).toNat = pos / 8 := by omega
    simp only [e]
    rw [hget]
  have hq8 : pos / 8 ≤ 1048576 := by omega
  have HP : Hid (pos < 8 * I.T.length) := hp
  clear hget
  generalize I.T.getD (pos / 8) 0 = x at hidx hx hA
  generalize hbb : bitAt I.T pos = bb at hA
  have HBB := hid hbb
  generalize pos / 8 = q at hidx hq hlt hq8
  generalize pos % 8 = k at hm hA hm8
  have HS := hid h
  have hpos : pos ≤ 8388608 := by omega
  clear h hbb hsz hp
  go_enter Tryz.func81, Tryz.ntmps81
  go_wp2
  go_quiet (fail)
  go_wp2
  go_ret
  refine ⟨rfl, ((KeptX.refl _ _).drewN _).setCell (by simp) 2 _, ?_⟩
  exact (HS.out.drewN _).go (pos + 1) _ (by omega) (by have := HP.out; omega)

/-- What the document's reads leave. -/
def StStep (w : World) (sb : Nat) (tx : ByteArray) (I : Inp) (pos' : Nat) (w' : World) : Prop := KeptX [sb] w w' ∧ StAt w' sb tx I pos'

set_option maxHeartbeats 4000000 in
theorem refRead (sb : Nat) (tx : ByteArray) (I : Inp) (pos n : Nat) (hn : n ≤ 64) (w : World) (h : StAt w sb tx I pos) :
    Calls Tryz.prog 45 #[.pointer (some ⟨sb, 0, none⟩), .int .i64 n] w fun e w' =>
      (pos + n ≤ 8 * I.T.length ∧ e = .returned (.tuple #[.int .i64 (wrap64 (valAt I.T pos n : Nat)), .int .i64 0]) ∧ StStep w sb tx I (pos + n) w') ∨
      (¬ pos + n ≤ 8 * I.T.length ∧ e = .returned (.tuple #[.int .i64 0, .int .i64 (stopE I.st : Nat)]) ∧ StStep w sb tx I pos w') := by
  have hl := h.2.2.1
  have hst := h.2.2.2.1
  have hn' : (n : Int) ≤ 64 := by omega
  have HT := hid (there_any sb tx I pos n (by omega) w h)
  have H := hid h
  clear h
  by_cases hle : pos + n ≤ 8 * I.T.length
  · rw [if_pos hle] at HT
    go_enter Tryz.func45, Tryz.ntmps45
    go_wp2_with fail
    refine HT.out.mono ?_
    rintro e w1 ⟨rfl, m1, rfl⟩
    go_wp2
    go_loopw [7, 8] (fun v i wr => ∃ k : Nat, k ≤ n ∧ i = .int .i64 k ∧ v = .int .i64 (wrap64 (valAt I.T pos k : Nat)) ∧ StStep w sb tx I (pos + k) wr) (fun _ i _ => n - (intOf i).toNat)
    case atStart => exact ⟨0, by omega, rfl, by show _ = Value.int .i64 (wrap64 ((0 : Nat) : Int)); rw [w64_small 0 (by omega)]; rfl, (KeptX.refl _ _).drewN _, H.out.drewN _⟩
    case round =>
      obtain ⟨k, hk, rfl, rfl, hK, hS⟩ := hrel
      by_cases hlt : k < n
      · have hlt' : (k : Int) < (n : Int) := by omega
        have HB := hid (refBit sb tx I (pos + k) wr hS (by omega))
        have HV : Hid (valAt I.T pos (k + 1) = 2 * valAt I.T pos k + bitAt I.T (pos + k)) := rfl
        have hv : valAt I.T pos k < 9223372036854775808 := Nat.lt_of_lt_of_le (valAt_lt I.T pos k) (Nat.pow_le_pow_right (n := 2) (by omega) (show k ≤ 63 by omega))
        have hb := bitAt_lt I.T (pos + k)
        generalize valAt I.T pos k = v at hv HV
        generalize bitAt I.T (pos + k) = b at hb HV HB
        have hwv : wrap64 (v : Int) = (v : Int) := w64_small v hv
        rw [hwv]
        clear hwv
        go_wp2_with fail
        refine HB.out.mono ?_
        rintro e w' ⟨rfl, hK2, hS2⟩
        go_wp2
        go_roundw
        case rel => exact ⟨k + 1, by omega, by go_num, by rw [HV.out, Int.natCast_add, Int.natCast_mul, w64_add]; rfl, hK.trans hK2 (fun i hi => hi) (fun i _ hi => hi), hS2⟩
        case measure => simp [intOf]; omega
      · obtain rfl : k = n := by omega
        go_wp2
        refine bodyPost_ret (v := .tuple #[.int .i64 (wrap64 (valAt I.T pos k : Nat)), .int .i64 0]) (by simp [results, Tryz.results45, go_sem]) rfl ?_
        exact Or.inl ⟨hle, rfl, hK, hS⟩
  · rw [if_neg hle] at HT
    have he : stopE I.st = 3 ∨ stopE I.st = 14 ∨ stopE I.st = 16 := by unfold stopE; split <;> omega
    generalize hee : stopE I.st = ee at HT he
    have hee0 : ((ee : Int) == 0) = false := by simp; omega
    have HEE := hid hee
    clear hee
    go_enter Tryz.func45, Tryz.ntmps45
    go_wp2_with fail
    refine HT.out.mono ?_
    rintro e w1 ⟨rfl, m1, rfl⟩
    go_wp2
    refine bodyPost_ret (v := .tuple #[.int .i64 0, .int .i64 (ee : Nat)]) (by simp [results, Tryz.results45, go_sem]) rfl ?_
    exact Or.inr ⟨hle, rfl, (KeptX.refl _ _).drewN _, H.out.drewN _⟩

theorem refArg (sb : Nat) (n : Int) (hn : n < 0 ∨ 64 < n) (w : World) :
    Calls Tryz.prog 45 #[.pointer (some ⟨sb, 0, none⟩), .int .i64 n] w fun e w' => e = .returned (.tuple #[.int .i64 0, .int .i64 15]) ∧ w' = w := by
  rcases hn with h | h
  all_goals
    go_enter Tryz.func45, Tryz.ntmps45
    go_wp2
    refine bodyPost_ret (v := .tuple #[.int .i64 0, .int .i64 15]) (by simp [results, Tryz.results45, go_sem]) rfl ?_
    exact ⟨rfl, rfl⟩

theorem rest_int (pos : Nat) (hp : pos ≤ 8388608) : (8 - (pos : Int).tmod 8).tmod 8 = ((restOf pos : Nat) : Int) := by
  rw [Int.tmod_eq_emod_of_nonneg (show 0 ≤ (pos : Int) by omega), Int.tmod_eq_emod_of_nonneg (by omega)]
  unfold restOf
  omega

set_option maxHeartbeats 1000000 in
theorem refAlign (sb : Nat) (tx : ByteArray) (I : Inp) (pos : Nat) (w : World) (h : StAt w sb tx I pos) :
    Calls Tryz.prog 43 #[.pointer (some ⟨sb, 0, none⟩)] w fun e w' => e = .returned (.tuple #[.bool (decide (valAt I.T pos (restOf pos) = 0)), .int .i64 0]) ∧ StStep w sb tx I (pos + restOf pos) w' := by
  obtain ⟨c0, c1, c2, f2⟩ := h.cells
  have hl := h.2.2.1
  have hr := rest_le h.2.2.2.2
  have hm : (pos : Int).tmod 8 = ((pos % 8 : Nat) : Int) := by rw [Int.tmod_eq_emod_of_nonneg (by omega)]; omega
  have hri := rest_int pos (by have := h.2.2.2.2; omega)
  rw [hm] at hri
  have hm8 : pos % 8 ≤ 7 := by omega
  have HR := hid (refRead sb tx I pos (restOf pos) (by omega) w h)
  have hv7 : valAt I.T pos (restOf pos) < 9223372036854775808 := Nat.lt_of_lt_of_le (valAt_lt I.T pos (restOf pos)) (Nat.pow_le_pow_right (n := 2) (by omega) (show restOf pos ≤ 63 by omega))
  generalize hR : restOf pos = R at hri HR hr hv7
  have HRR := hid hR
  generalize pos % 8 = k at hm hri hm8
  clear hR
  go_enter Tryz.func43, Tryz.ntmps43
  go_wp2_with fail
  refine HR.out.mono ?_
  rintro e w1 (⟨hle, rfl, hS⟩ | ⟨hle, rfl, hS⟩)
  · rw [w64_small _ hv7]
    generalize hvv : valAt I.T pos R = v at hv7
    have hb0 : ((v : Int) == 0) = decide (v = 0) := beq_zero v
    go_wp2
    refine bodyPost_ret (v := .tuple #[.bool (decide (v = 0)), .int .i64 0]) (by simp [results, Tryz.results43, go_sem]) rfl ?_
    exact ⟨by rw [hvv], hS⟩
  · exact absurd hr.1 hle

def RefURel (w : World) (sb : Nat) (tx : ByteArray) (I : Inp) (pos : Nat) (gk : Nat) (v : Value) (wr : World) : Prop :=
  ∃ n : Nat, v = .int .i64 n ∧ StStep w sb tx I (pos + n) wr ∧ Hid (Zeros I.T pos n) ∧ gk + n = 8 * I.T.length + 1

set_option maxHeartbeats 2000000 in
theorem refUnary (sb : Nat) (tx : ByteArray) (I : Inp) (pos : Nat) (w : World) (h : StAt w sb tx I pos) :
    Calls Tryz.prog 41 #[.pointer (some ⟨sb, 0, none⟩)] w fun e w' =>
      (∃ q, un I pos = .ok (q, pos + q + 1) ∧ e = .returned (.tuple #[.int .i64 (q : Int), .int .i64 0]) ∧ StStep w sb tx I (pos + q + 1) w') ∨
      (un I pos = .error (stopE I.st) ∧ e = .returned (.tuple #[.int .i64 0, .int .i64 (stopE I.st : Nat)]) ∧ StStep w sb tx I pos w') := by
  obtain ⟨c0, c1, c2, f2⟩ := h.cells
  have hl := h.2.2.1
  have hst := h.2.2.2.1
  have hp := h.2.2.2.2
  have H := hid h
  clear h
  go_enter Tryz.func41, Tryz.ntmps41
  go_wp2
  go_loopg [5] (8 * I.T.length + 1) (fun gk v wr => RefURel w sb tx I pos gk v wr)
  case atStart => exact ⟨0, rfl, ⟨KeptX.refl _ _, H.out⟩, fun j hj => by omega, rfl⟩
  case round =>
    obtain ⟨n, rfl, ⟨hK, hS⟩, HZ, hgk⟩ := hrel
    have hpn := hS.2.2.2.2
    have HT := hid (there_any sb tx I (pos + n) 1 (by omega) wr hS)
    have hn20 : (n : Int) ≤ 8388608 := by omega
    by_cases hle : pos + n + 1 ≤ 8 * I.T.length
    · rw [if_pos hle] at HT
      have HB := hid (fun m => refBit sb tx I (pos + n) (wr.drewN m) (hS.drewN m) (by omega))
      go_wp2_with fail
      refine HT.out.mono ?_
      rintro e w1 ⟨rfl, m1, rfl⟩
      rcases (show bitAt I.T (pos + n) = 0 ∨ bitAt I.T (pos + n) = 1 by have := bitAt_lt I.T (pos + n); omega) with hbit | hbit
      · have HBI := hid hbit
        rw [hbit] at HB
        clear hbit
        go_wp2_with fail
        refine (HB.out _).mono ?_
        rintro e w2 ⟨rfl, hK2, hS2⟩
        go_wp2
        go_roundg (8 * I.T.length + 1 - (n + 1))
        case measure => omega
        case rel => exact ⟨n + 1, by go_num, ⟨(hK.drewN m1).trans hK2 (fun i hi => hi) (fun i _ hi => hi), hS2⟩, zeros_app HZ.out (fun j hj => by
            obtain rfl : j = 0 := by omega
            exact HBI.out), by omega⟩
      · have HBI := hid hbit
        rw [hbit] at HB
        clear hbit
        go_wp2_with fail
        refine (HB.out _).mono ?_
        rintro e w2 ⟨rfl, hK2, hS2⟩
        go_wp2
        refine bodyPost_ret (v := .tuple #[.int .i64 (n : Int), .int .i64 0]) (by simp [results, Tryz.results41, go_sem]) rfl ?_
        exact Or.inl ⟨n, un_some HZ.out HBI.out (by omega), rfl, (hK.drewN m1).trans hK2 (fun i hi => hi) (fun i _ hi => hi), hS2⟩
    · rw [if_neg hle] at HT
      have he : stopE I.st = 3 ∨ stopE I.st = 14 ∨ stopE I.st = 16 := by unfold stopE; split <;> omega
      have HU := hid (un_none (I := I) (i := pos) (fun j hj => HZ.out j (by omega)))
      generalize hee : stopE I.st = ee at HT he HU
      have hee0 : ((ee : Int) == 0) = false := by simp; omega
      have HEE := hid hee
      clear hee
      obtain ⟨d0, d1, d2, g2⟩ := hS.cells
      go_wp2_with fail
      refine HT.out.mono ?_
      rintro e w1 ⟨rfl, m1, rfl⟩
      go_wp2
      refine bodyPost_ret (v := .tuple #[.int .i64 0, .int .i64 (ee : Nat)]) (by simp [results, Tryz.results41, go_sem]) rfl ?_
      exact Or.inr ⟨by rw [HEE.out]; exact HU.out, by rw [HEE.out], (hK.drewN m1).setCell (by simp) 2 _, (hS.drewN m1).go pos _ rfl (by omega)⟩
end Go.Proofs.YtgkenhmbilkhdaaGreatDoor

namespace Go.Proofs.YtgkenhmbilkhdaaGreatDoor
open Go.RowKit

/-- What one question leaves. -/
def AskPost (k : Nat) (w : World) (B p c : Nat) (S : Src) (I : Inp) (mk : Bool) (mark : Nat) (r : RdS) (pb sb : Nat) (tx : ByteArray) (e : Ending) (w' : World) : Prop :=
  ∃ r' pos', e = .returned (.bool true) ∧ KeptX (sb :: p :: c :: rowX r.hv) w w' ∧ (∀ g ∈ rowX r'.hv, g ∈ rowX r.hv ∨ w.heap.size ≤ g) ∧ RdK k w' B p c S I pos' mk mark r' ∧ StAt w' sb tx I pos' ∧ Blk w' pb (pbCells k p c) 90

/-- A fault that has been told: its block. -/
theorem put_blk {w : World} {b : Nat} (h : Blk w b #[.int .i64 0, .int .i64 0, .int .i64 0] 26) (x y z : Int) : Blk (((w.setCell ⟨b, 0, none⟩ (.int .i64 x)).setCell ⟨b, 1, none⟩ (.int .i64 y)).setCell ⟨b, 2, none⟩ (.int .i64 z)) b #[.int .i64 x, .int .i64 y, .int .i64 z] 26 := ((h.set 0 _).set 1 _).set 2 _

/-- All that stands around one question. -/
structure Ask (k : Nat) (w : World) (B p c : Nat) (S : Src) (I : Inp) (pos : Nat) (mk : Bool) (mark : Nat) (r : RdS) (pb sb : Nat) (tx : ByteArray) : Prop where
  rd : RdK k w B p c S I pos mk mark r
  st : StAt w sb tx I pos
  pb : Blk w pb (pbCells k p c) 90
  ge : B ≤ sb

theorem Ask.below {k : Nat} {w w' : World} {B p c : Nat} {S : Src} {I : Inp} {pos : Nat} {mk : Bool} {mark : Nat} {r : RdS} {pb sb : Nat} {tx : ByteArray} (h : Ask k w B p c S I pos mk mark r pb sb tx) (hb : Below w.heap.size w w') : Ask k w' B p c S I pos mk mark r pb sb tx :=
  ⟨h.rd.below hb, ⟨h.st.1.below hb h.st.1.lt, h.st.2⟩, h.pb.below hb h.pb.lt, h.ge⟩

/-- Behind package plain's call, the fault's store and the document's call. -/
theorem ask_mid {k : Nat} {w w1 : World} {B p c : Nat} {S : Src} {I : Inp} {pos pos' : Nat} {mk : Bool} {mark : Nat} {r : RdS} {pb sb : Nat} {tx : ByteArray} (h : Ask k w B p c S I pos mk mark r pb sb tx) (hS : Step k (w.alloc (.cells #[.int .i64 0, .int .i64 0, .int .i64 0] 26)) B p c S I mk mark r pos' w1) (x y z : Int) :
    ∃ r1, Blk w1 w.heap.size #[.int .i64 0, .int .i64 0, .int .i64 0] 26 ∧ StAt (((w1.setCell ⟨w.heap.size, 0, none⟩ (.int .i64 x)).setCell ⟨w.heap.size, 1, none⟩ (.int .i64 y)).setCell ⟨w.heap.size, 2, none⟩ (.int .i64 z)) sb tx I pos ∧
      (∀ w2, KeptX [sb] (((w1.setCell ⟨w.heap.size, 0, none⟩ (.int .i64 x)).setCell ⟨w.heap.size, 1, none⟩ (.int .i64 y)).setCell ⟨w.heap.size, 2, none⟩ (.int .i64 z)) w2 → StAt w2 sb tx I pos' →
        Blk w2 w.heap.size #[.int .i64 x, .int .i64 y, .int .i64 z] 26 ∧ RdK k w2 B p c S I pos' mk mark r1 ∧ Blk w2 pb (pbCells k p c) 90 ∧ AskPost k w B p c S I mk mark r pb sb tx (.returned (.bool true)) w2) := by
  have hw0 : Below w.heap.size w (w.alloc (.cells #[.int .i64 0, .int .i64 0, .int .i64 0] 26)) := by go_grown
  have h0 := h.below hw0
  obtain ⟨r1, hM, hR⟩ := hS
  have hfb : Blk w1 w.heap.size #[.int .i64 0, .int .i64 0, .int .i64 0] 26 := hM.blk h0.rd (Blk.new _ _ _) (by decide) (by decide) (by decide) (by decide)
  have hst1 : StAt w1 sb tx I pos := ⟨hM.blk h0.rd h0.st.1 (by decide) (by decide) (by decide) (by decide), h0.st.2⟩
  have hpb1 := hM.blk h0.rd h0.pb (by decide) (by decide) (by decide) (by decide)
  have hK3 : KeptX [w.heap.size] w1 (((w1.setCell ⟨w.heap.size, 0, none⟩ (.int .i64 x)).setCell ⟨w.heap.size, 1, none⟩ (.int .i64 y)).setCell ⟨w.heap.size, 2, none⟩ (.int .i64 z)) := (((KeptX.refl _ _).setCell (by simp) 0 _).setCell (by simp) 1 _).setCell (by simp) 2 _
  have hsbf : sb ≠ w.heap.size := hst1.1.ne hfb (by decide)
  have hpbf : pb ≠ w.heap.size := hpb1.ne hfb (by decide)
  have hfar := hR.far hfb (by decide) (by decide) (by decide) (by decide)
  have hbd := h.rd.bounds
  refine ⟨r1, hfb, ⟨hK3.blk hst1.1 (by simpa using hsbf), hst1.2⟩, fun w2 hK hS2 => ?_⟩
  have hsb3 : Blk _ sb _ _ := hK3.blk hst1.1 (by simpa using hsbf)
  have hfb3 := put_blk hfb x y z
  have hpb3 := hK3.blk hpb1 (by simpa using hpbf)
  have hR3 := hR.kept hK3 (by simp; exact hbd.2.2.2.1) (fun i hi hx => by
    simp at hx
    subst hx
    exact hfar hi)
  have hsbfar := hR3.far hsb3 (by decide) (by decide) (by decide) (by decide)
  have hR4 : RdK k w2 B p c S I pos' mk mark r1 := by
    refine hR3.kept hK (fun i hi => ?_) (fun i hi hx => ?_)
    · simp at hi
      subst hi
      exact h.ge
    · simp at hx
      subst hx
      exact hsbfar hi
  have hfb4 := hK.blk hfb3 (by simpa using hsbf.symm)
  have hpb4 := hK.blk hpb3 (by simpa using hpb3.ne hsb3 (by decide))
  refine ⟨hfb4, hR4, hpb4, r1, pos', rfl, ?_, ?_, hR4, hS2, hpb4⟩
  · have e1 : KeptX (p :: c :: rowX r.hv) w w1 := (KeptX.of_below (X := []) hw0).trans hM.1 (by simp) (fun i _ hi => hi)
    have e2 := e1.trans hK3 (Z := p :: c :: rowX r.hv) (fun i hi => hi) (fun i hlt hi => by simp at hi; omega)
    exact e2.trans hK (fun i hi => by simp at hi ⊢; exact Or.inr hi) (fun i _ hi => by simp at hi ⊢; exact Or.inl hi)
  · intro g hg
    rcases hM.2 g hg with h3 | h3
    · exact Or.inl h3
    · exact Or.inr (Nat.le_trans hw0.size h3)
end Go.Proofs.YtgkenhmbilkhdaaGreatDoor
