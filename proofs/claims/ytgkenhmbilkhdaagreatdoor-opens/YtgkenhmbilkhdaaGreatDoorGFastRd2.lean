import Derived.Test.YtgkenhmbilkhdaaGreatDoorFastRd
namespace Go.Proofs.YtgkenhmbilkhdaaGreatDoor
open Go.RowKit

theorem or_32 (a b : Nat) (ha : a < 4294967296) (hb : b < 4294967296) : bits .or .u64 ((a : Int) * 4294967296) (b : Int) = ((a * 4294967296 + b : Nat) : Int) := by
  have h := u64_or_nat (a * 4294967296) b (by omega) (by omega)
  have e := or_add a b 32 (by omega)
  simp only [Nat.reducePow] at e
  rw [e, Int.natCast_mul] at h
  exact h

/-- A quick reader that goes on. -/
theorem RdK.fast {w : World} {B p c : Nat} {S : Src} {I : Inp} {pos : Nat} {mk : Bool} {mark : Nat} {r : RdS} {pool held : Nat} (h : RdOk w B p c 277 (fex pool held) S I pos mk mark r) (hE : FastEx I pos r pool held) : RdK 1 w B p c S I pos mk mark r := ⟨pool, held, h, hE⟩
theorem RdK.of_fast {w : World} {B p c : Nat} {S : Src} {I : Inp} {pos : Nat} {mk : Bool} {mark : Nat} {r : RdS} (h : RdK 1 w B p c S I pos mk mark r) : ∃ pool held : Nat, RdOk w B p c 277 (fex pool held) S I pos mk mark r ∧ FastEx I pos r pool held := h

set_option maxHeartbeats 4000000 in
set_option maxRecDepth 10000 in
theorem fastRead (B p c : Nat) (S : Src) (I : Inp) (pos : Nat) (mk : Bool) (mark : Nat) (r : RdS) (n : Nat) (hn : n ≤ 64) (w : World) (h : RdK 1 w B p c S I pos mk mark r) :
    Calls Tryz.prog 299 #[.pointer (some ⟨p, 0, none⟩), .int .i64 n] w fun e w' => ReadPost 1 w B p c S I pos mk mark r n e w' := by
  obtain ⟨pool, held, hR, hE⟩ := h.of_fast
  have hlen := hR.x.len
  have hle := hR.x.le
  have c8 := (rd_f hR.x.blk).2
  have hn64 : (n : Int) ≤ 64 := by omega
  go_enter Tryz.func299, Tryz.ntmps299
  go_upto_if 17 with fail
  go_cut [] (fun wx => ∃ r1 pl hd, Moved w wx p c r r1 ∧ RdOk wx B p c 277 (fex pl hd) S I pos mk mark r1 ∧ FastEx I pos r1 pl hd ∧ pos + n ≤ 8 * r1.came)
  case first =>
    by_cases hh : n ≤ held
    · have hh' : decide (held < n) = false := by simp; omega
      go_wp2
      go_meet
      case rel => exact ⟨r, pool, held, Moved.refl _ _ _ _, hR, hE, by have := hE.2.2; omega⟩
    · have hh' : decide (held < n) = true := by simp; omega
      have HA := hid (ask_any B p c _ (fex pool held) S I pos mk mark r n hn w hR)
      go_wp2_with fail
      refine HA.out.mono ?_
      rintro e w1 ⟨r1, hK1, hR1, hf1, hc1, ⟨rfl, hle1⟩ | ⟨b, rfl, hb, hE1, hnot, _⟩⟩
      · go_wp2
        go_meet
        case rel => exact ⟨r1, pool, held, ⟨hK1, hf1⟩, hR1, ⟨hE.1, hE.2.1, by have := hE.2.2; omega⟩, hle1⟩
      · go_wp2
        refine bodyPost_ret (v := .tuple #[.int .u64 0, errP b]) (by simp [results, Tryz.results299, go_sem, errP]) rfl ?_
        exact ⟨r1, ⟨hK1, hf1⟩, Or.inr ⟨hnot, RdK.fast hR1 ⟨hE.1, hE.2.1, by have := hE.2.2; omega⟩, b, rfl, hb, hE1⟩⟩
  case rest =>
    obtain ⟨r1, pl, hd, hM, hR1, hE1, hle1⟩ := hcut
    have hl1 := hR1.x.le
    by_cases h32 : n ≤ 32
    · have h32' : (n : Int) ≤ 32 := by omega
      have HT := hid (fastTake B p c S I pos mk mark r1 pl hd n h32 wc hR1.x hE1 hR1.gone8 hle1)
      go_wp2_with fail
      refine HT.out.mono ?_
      rintro e w2 ⟨rfl, hK2, pl2, hd2, hR2, hE2⟩
      go_wp2
      refine bodyPost_ret (v := .tuple #[.int .u64 ((valAt I.T pos n : Nat) : Int), .nilIface]) (by simp [results, Tryz.results299, go_sem]) rfl ?_
      exact ⟨r1, hM.trans (Moved.own hK2), Or.inl ⟨by omega, rfl, RdK.fast (hR1.go _ hR2 (by omega) hle1) hE2⟩⟩
    · have h32' : (32 : Int) < (n : Int) := by omega
      obtain ⟨m, rfl⟩ : ∃ m, n = m + 32 := ⟨n - 32, by omega⟩
      have hm : ((m + 32 : Nat) : Int) - 32 = (m : Int) := by omega
      have HT := hid (fastTake B p c S I pos mk mark r1 pl hd m (by omega) wc hR1.x hE1 hR1.gone8 (by omega))
      have HV := hid (valAt_add I.T pos m 32)
      have hv1 : valAt I.T pos m < 4294967296 := Nat.lt_of_lt_of_le (valAt_lt I.T pos m) (Nat.pow_le_pow_right (n := 2) (show 0 < 2 by omega) (show m ≤ 32 by omega))
      have hv2 : valAt I.T (pos + m) 32 < 4294967296 := valAt_lt I.T (pos + m) 32
      have hor := or_32 _ _ hv1 hv2
      have HO := hid hor
      clear hor
      go_wp2_with fail
      refine HT.out.mono ?_
      rintro e w2 ⟨rfl, hK2, pl2, hd2, hR2, hE2⟩
      have hR2' := hR1.go _ hR2 (by omega) (by omega)
      have HT2 := hid (fastTake B p c S I (pos + m) mk mark r1 pl2 hd2 32 (by omega) w2 hR2 hE2 hR2'.gone8 (by omega))
      have hor := HO.out
      generalize hx1 : valAt I.T pos m = x1 at hor hv1
      generalize hx2 : valAt I.T (pos + m) 32 = x2 at hor hv2 HT2
      have HX1 := hid hx1
      have HX2 := hid hx2
      clear hx1 hx2
      go_wp2_with fail
      refine HT2.out.mono ?_
      rintro e w3 ⟨rfl, hK3, pl3, hd3, hR3, hE3⟩
      go_wp2
      refine bodyPost_ret (v := .tuple #[.int .u64 ((x1 * 4294967296 + x2 : Nat) : Int), .nilIface]) (by simp [results, Tryz.results299, go_sem]) rfl ?_
      have e1 : x1 * 4294967296 + x2 = valAt I.T pos (m + 32) := by rw [HV.out, HX1.out, HX2.out]
      rw [e1, Nat.add_assoc] at *
      exact ⟨r1, (hM.trans (Moved.own hK2)).trans (Moved.own hK3), Or.inl ⟨by omega, rfl, RdK.fast (hR2'.go _ hR3 (by omega) (by omega)) hE3⟩⟩
end Go.Proofs.YtgkenhmbilkhdaaGreatDoor

namespace Go.Proofs.YtgkenhmbilkhdaaGreatDoor
open Go.RowKit

set_option maxHeartbeats 4000000 in
set_option maxRecDepth 10000 in
theorem fastMove (B p c : Nat) (S : Src) (I : Inp) (pos : Nat) (mk : Bool) (mark : Nat) (r : RdS) (pool held bit : Nat) (w : World) (h : RdX w B p c 277 (fex pool held) S I pos mk mark r) (h1 : r.gone ≤ bit / 8) (h2 : bit ≤ 8 * r.came) :
    Calls Tryz.prog 307 #[.pointer (some ⟨p, 0, none⟩), .int .i64 bit] w fun e w' => e = .returned (.tuple #[]) ∧ KeptX [p] w w' ∧ ∃ pool' held' : Nat, RdX w' B p c 277 (fex pool' held') S I bit mk mark r ∧ FastEx I bit r pool' held' := by
  have hlen := h.len
  have hle := h.le
  have hq : (bit : Int).tdiv 8 = ((bit / 8 : Nat) : Int) := by rw [Int.tdiv_eq_ediv_of_nonneg (by omega)]; omega
  have hm : (bit : Int).tmod 8 = ((bit % 8 : Nat) : Int) := by rw [Int.tmod_eq_emod_of_nonneg (by omega)]; omega
  obtain ⟨i, hi⟩ : ∃ i, i = bit / 8 := ⟨_, rfl⟩
  obtain ⟨k, hk⟩ : ∃ k, k = bit % 8 := ⟨_, rfl⟩
  have hb : bit = 8 * i + k := by omega
  have hk8 : k < 8 := by omega
  rw [← hi] at hq h1
  rw [← hk] at hm
  clear hi hk
  have HFI := hid (filled_any B p c _ S I pos mk mark r 0 0 i (8 * i) w h h1 (by omega) (by omega) (pool_none I.T (8 * i)))
  have hi20 : i ≤ 1048576 := by omega
  have HB := hid hb
  have HX := hid h
  have hbl := h.blk
  clear h hb
  go_enter Tryz.func307, Tryz.ntmps307
  go_wp2_with fail
  refine HFI.out.mono ?_
  rintro e w1 ⟨pl, hd, rfl, hP1, hm1, hl1, hg1, ho1, hb1⟩
  have hR1 := HX.out.below hb1
  have hB1 := hR1.blk
  have q7 := (rd_f hB1).1
  have q8 := (rd_f hB1).2
  have f7 := hB1.free 7
  have f8 := hB1.free 8
  have hB7 := hB1.set 7 (.int .u64 pl)
  rw [rd_pool] at hB7
  have r8 := (rd_f hB7).2
  have g8 := hB7.free 8
  have hB8 := hB7.set 8 (.int .i64 hd)
  rw [rd_held] at hB8
  have r4 := (rd_c0 hB8).2.2.2.2.1
  have g4 := hB8.free 4
  have hR2 := hR1.fexset pl hd
  have hR3 := hR2.move (8 * i) ((i : Int) * 8) (by omega)
  have hkd : k ≤ hd := by have := HB.out; omega
  have HD := hid (drop_any B p c S I (8 * i) mk mark r pl hd k _ hR3 hP1 hkd (by omega))
  go_wp2_with fail
  refine HD.out.mono ?_
  rintro e w2 ⟨rfl, hK2, pl2, hR4, hP4⟩
  go_wp2
  go_end0
  rw [HB.out]
  have e1 : KeptX [p] w w1 := KeptX.of_below hb1
  exact ⟨rfl, ((((e1.setCell (by simp) 7 _).setCell (by simp) 8 _).setCell (by simp) 4 _).trans hK2 (fun i hi => hi) (fun i _ hi => hi)), pl2, hd - k, hR4, hP4, by omega, by omega⟩
end Go.Proofs.YtgkenhmbilkhdaaGreatDoor

namespace Go.Proofs.YtgkenhmbilkhdaaGreatDoor
open Go.RowKit

theorem RdOk.drew {w : World} {B p c : Nat} {t : TypeId} {ex : List Value} {S : Src} {I : Inp} {pos : Nat} {mk : Bool} {mark : Nat} {r : RdS} (h : RdOk w B p c t ex S I pos mk mark r) : RdOk w.drew B p c t ex S I pos mk mark r := ⟨h.x.drew, h.le, h.keep, h.mark⟩
theorem WantPost.drew {w : World} {B p c : Nat} {t : TypeId} {ex : List Value} {S : Src} {I : Inp} {pos : Nat} {mk : Bool} {mark : Nat} {r : RdS} {n : Nat} {e : Ending} {w' : World} (h : WantPost w.drew B p c t ex S I pos mk mark r n e w') : WantPost w B p c t ex S I pos mk mark r n e w' := by
  obtain ⟨r', hK, hR, hf, hc, hx⟩ := h
  exact ⟨r', ⟨hK.os, hK.tape, hK.output, hK.size, hK.block⟩, hR, hf, hc, hx⟩
theorem WantPost.cell4 {w : World} {B p c : Nat} {t : TypeId} {ex : List Value} {S : Src} {I : Inp} {pos : Nat} {mk : Bool} {mark : Nat} {r : RdS} {n : Nat} {e : Ending} {w' : World} (h : WantPost w B p c t ex S I pos mk mark r n e w') : w'.cell? ⟨p, 4, none⟩ = some (.int .i64 pos) := by
  obtain ⟨r', hK, hR, hf, hc, hx⟩ := h
  exact (rd_c0 hR.x.blk).2.2.2.2.1

theorem wrap_small (x : Int) (h0 : -1000000000 ≤ x) (h1 : x ≤ 1000000000) : IntKind.i64.wrap x = x := by
  rw [IntKind.wrap_i64]
  omega
theorem wrap_next (i pos nn : Nat) (hi : i ≤ 1048576) (hp : pos ≤ 8388608) (hpi : pos ≤ 8 * i) (hn : nn = 8 * (i + 1) - pos) : IntKind.i64.wrap (IntKind.i64.wrap (8 * IntKind.i64.wrap ((i : Int) + 1)) - (pos : Int)) = (nn : Int) := by
  rw [wrap_small ((i : Int) + 1) (by omega) (by omega), wrap_small (8 * ((i : Int) + 1)) (by omega) (by omega), wrap_small _ (by omega) (by omega)]
  omega

def LongRel (w : World) (B p c : Nat) (S : Src) (I : Inp) (pos : Nat) (mk : Bool) (mark : Nat) (r : RdS) (pool held : Nat) (gk : Nat) (v : Value) (wr : World) : Prop :=
  ∃ (i : Nat) (r' : RdS), v = .int .i64 i ∧ Moved w wr p c r r' ∧ RdOk wr B p c 277 (fex pool held) S I pos mk mark r' ∧ FastEx I pos r' pool held ∧ pos + held ≤ 8 * i ∧ Hid (Zeros I.T pos (8 * i - pos)) ∧ i ≤ I.T.length ∧ gk + i = I.T.length + 1

set_option maxHeartbeats 8000000 in
set_option maxRecDepth 10000 in
theorem longUnary (B p c : Nat) (S : Src) (I : Inp) (pos : Nat) (mk : Bool) (mark : Nat) (r : RdS) (pool held : Nat) (w : World) (h : RdOk w B p c 277 (fex pool held) S I pos mk mark r) (hE : FastEx I pos r pool held) (hZ : Zeros I.T pos held) :
    Calls Tryz.prog 309 #[.pointer (some ⟨p, 0, none⟩)] w fun e w' => UnaryPost 1 w B p c S I pos mk mark r e w' := by
  have hlen := h.x.len
  have hle := h.x.le
  have hpl := h.le
  obtain ⟨i0, hi0⟩ : ∃ i, pos + held = 8 * i := ⟨(pos + held) / 8, by have := hE.2.1; omega⟩
  have hE2 := hE.2.2
  have HN := hid (next_any p pos held i0 hi0 (by omega) w (rd_c0 h.x.blk).2.2.2.2.1 (rd_f h.x.blk).2)
  have HZ0 : Hid (Zeros I.T pos (8 * i0 - pos)) := by
    show Zeros I.T pos (8 * i0 - pos)
    rw [show 8 * i0 - pos = held by omega]
    exact hZ
  have H := hid h
  have HE := hid hE
  clear h hE hZ
  go_enter Tryz.func309, Tryz.ntmps309
  go_wp2_with fail
  refine HN.out.mono ?_
  rintro e w0 ⟨rfl, m0, rfl⟩
  go_wp2
  go_loopg [4] (I.T.length + 1 - i0) (fun gk v wr => LongRel w B p c S I pos mk mark r pool held gk v wr)
  case atStart => exact ⟨i0, r, rfl, (Moved.refl _ _ _ _).drewN m0, H.out.drewN m0, HE.out, by omega, HZ0, by omega, by omega⟩
  case round =>
    obtain ⟨i, r1, rfl, hM, hR, hE1, hpi, HZ, hiT, hgk⟩ := hrel
    have c4 := (rd_c0 hR.x.blk).2.2.2.2.1
    have hn : 8 * ((i : Int) + 1) - (pos : Int) = ((8 * (i + 1) - pos : Nat) : Int) := by omega
    have HW : Hid (Calls Tryz.prog 304 #[.pointer (some ⟨p, 0, none⟩), .int .i64 ((8 * (i + 1) - pos : Nat) : Int)] wr.drew fun e w' => WantPost wr.drew B p c _ (fex pool held) S I pos mk mark r1 (8 * (i + 1) - pos) e w') := want_any B p c _ (fex pool held) S I pos mk mark r1 (8 * (i + 1) - pos) (by omega) wr.drew hR.drew
    obtain ⟨nn, hnn⟩ : ∃ nn, nn = 8 * (i + 1) - pos := ⟨_, rfl⟩
    rw [← hnn] at hn HW
    have HNN := hid hnn
    clear hnn
    have hi20 : i ≤ 1048576 := by omega
    have HW2 : Hid (Calls Tryz.prog 304 #[.pointer (some ⟨p, 0, none⟩), .int .i64 (IntKind.i64.wrap (IntKind.i64.wrap (8 * IntKind.i64.wrap ((i : Int) + 1)) - (pos : Int)))] wr.drew fun e w' => WantPost wr.drew B p c 277 (fex pool held) S I pos mk mark r1 nn e w') := by
      have e1 : IntKind.i64.wrap (IntKind.i64.wrap (8 * IntKind.i64.wrap ((i : Int) + 1)) - (pos : Int)) = (nn : Int) := by
        exact wrap_next i pos nn (by omega) (by omega) (by omega) HNN.out
      show Calls _ _ _ _ _
      rw [e1]
      exact HW.out
    go_upto_region 2 with fail
    go_cut [5] (fun v wx => WantPost wr B p c 277 (fex pool held) S I pos mk mark r1 nn (.returned v) wx)
    case first =>
      go_region_held3 (fun w' => w'.cell? ⟨p, 4, none⟩ = some (.int .i64 pos)) (first | go_keep | exact hW3.cell4)
        ((go_at_call 304; refine HW2.out.mono ?_; intro e w2 hW2; obtain ⟨v2, rfl, hW3⟩ := hW2.val))
      go_wp2
      go_meet
      case rel => exact hW3.drew
    case rest =>
      obtain ⟨r2, hK1, hR1, hf1, hc1, ⟨e2, hle1⟩ | ⟨b, e2, hb, hE9, hnot, _⟩⟩ := hcut
      · injection e2 with e2
        subst e2
        have hNN := HNN.out
        have hM1 : Moved w wc p c r r2 := hM.trans ⟨hK1, hf1⟩
        have hl2 := hR1.x.le
        have hg2 := hR1.gone8
        have hE2' : FastEx I pos r2 pool held := ⟨hE1.1, hE1.2.1, by have := hE1.2.2; omega⟩
        have HBY := hid (byteAt_any B p c _ (fex pool held) S I pos mk mark r2 i wc hR1.x (by omega) (by omega))
        have hx256 := hR1.x.lt256 i
        by_cases hx0 : I.T.getD i 0 = 0
        · have HZB := hid (byte_zero hx0)
          rw [hx0] at HBY
          clear hx0
          go_wp2_with fail
          refine HBY.out.mono ?_
          rintro e w3 ⟨rfl, m3, rfl⟩
          go_wp2
          go_roundg (I.T.length + 1 - (i + 1))
          case measure => omega
          case rel =>
            refine ⟨i + 1, r2, by go_num, hM1.drewN m3, hR1.drewN m3, hE2', by omega, ?_, by omega, by omega⟩
            show Zeros I.T pos (8 * (i + 1) - pos)
            rw [show 8 * (i + 1) - pos = (8 * i - pos) + 8 by omega]
            refine zeros_app HZ.out ?_
            rw [show pos + (8 * i - pos) = 8 * i by omega]
            exact HZB.out
        · have hbl := Lib.bitLen_le (I.T.getD i 0) 8 (by omega) hx256
          obtain ⟨z, hz⟩ : ∃ z, z = 8 - Lib.bitLen (I.T.getD i 0) := ⟨_, rfl⟩
          have HC := hid (byte_clz hx256 hx0 hz)
          have HCL := hid (fun W => clz8 (I.T.getD i 0) hx256 W)
          have hzi : 8 - (Lib.bitLen (I.T.getD i 0) : Int) = (z : Int) := by omega
          rw [hzi] at HCL
          have hz8 : z < 8 := HC.out.2.2
          have hxb : ((I.T.getD i 0 : Nat) : Int) ≠ 0 := by omega
          clear hz hbl hzi
          generalize I.T.getD i 0 = x at HBY HCL hxb hx256
          have hxb' : ((x : Int) == 0) = false := by simp; omega
          have d4 := (rd_c0 hR1.x.blk).2.2.2.2.1
          have hone : 8 * (i : Int) + (z : Int) - (pos : Int) = ((8 * i + z - pos : Nat) : Int) := by omega
          obtain ⟨o1, ho1⟩ : ∃ o1, o1 = 8 * i + z + 1 := ⟨_, rfl⟩
          have hone1 : 8 * (i : Int) + (z : Int) + 1 = (o1 : Int) := by omega
          have HMV : Hid (∀ m, Calls Tryz.prog 307 #[.pointer (some ⟨p, 0, none⟩), .int .i64 (o1 : Int)] (wc.drewN m) fun e w' => e = .returned (.tuple #[]) ∧ KeptX [p] (wc.drewN m) w' ∧ ∃ pool' held' : Nat, RdX w' B p c 277 (fex pool' held') S I o1 mk mark r2 ∧ FastEx I o1 r2 pool' held') := fun m => fastMove B p c S I pos mk mark r2 pool held o1 (wc.drewN m) (hR1.x.drewN m) (by omega) (by omega)
          have HO1 := hid ho1
          clear ho1
          obtain ⟨q, hqq⟩ : ∃ q, q = 8 * i + z - pos := ⟨_, rfl⟩
          rw [← hqq] at hone
          have HQ := hid hqq
          clear hqq
          go_wp2_with fail
          refine HBY.out.mono ?_
          rintro e w3 ⟨rfl, m3, rfl⟩
          go_wp2_with fail
          refine (HCL.out _).mono ?_
          rintro e w4 ⟨rfl, rfl⟩
          go_wp2_with fail
          refine (HMV.out _).mono ?_
          rintro e w5 ⟨rfl, hK5, pl5, hd5, hR5, hE5⟩
          go_wp2
          refine bodyPost_ret (v := .tuple #[.int .i64 (q : Int), .nilIface]) (by simp [results, Tryz.results309, go_sem]) rfl ?_
          have hO1 := HO1.out
          have hQ := HQ.out
          have e1 : o1 = pos + q + 1 := by omega
          rw [e1] at hR5 hE5
          refine ⟨r2, (hM1.drewN m3).trans (Moved.own hK5), Or.inl ⟨q, un_some ?_ ?_ (by omega), by omega, rfl, RdK.fast (hR1.go _ hR5 (by omega) (by omega)) hE5⟩⟩
          · rw [show q = (8 * i - pos) + z by omega]
            refine zeros_app HZ.out ?_
            rw [show pos + (8 * i - pos) = 8 * i by omega]
            exact HC.out.1
          · rw [show pos + q = 8 * i + z by omega]
            exact HC.out.2.1
      · injection e2 with e2
        subst e2
        go_wp2
        refine bodyPost_ret (v := .tuple #[.int .i64 0, errP b]) (by simp [results, Tryz.results309, go_sem, errP]) rfl ?_
        have hNN := HNN.out
        refine ⟨r2, hM.trans ⟨hK1, hf1⟩, Or.inr ⟨un_none (fun j hj => HZ.out j (by omega)), RdK.fast hR1 ⟨hE1.1, hE1.2.1, by have := hE1.2.2; omega⟩, b, rfl, Nat.le_trans hM.1.size hb, hE9⟩⟩
end Go.Proofs.YtgkenhmbilkhdaaGreatDoor

namespace Go.Proofs.YtgkenhmbilkhdaaGreatDoor
open Go.RowKit

set_option maxHeartbeats 4000000 in
theorem fastUnary (B p c : Nat) (S : Src) (I : Inp) (pos : Nat) (mk : Bool) (mark : Nat) (r : RdS) (w : World) (h : RdK 1 w B p c S I pos mk mark r) :
    Calls Tryz.prog 301 #[.pointer (some ⟨p, 0, none⟩)] w fun e w' => UnaryPost 1 w B p c S I pos mk mark r e w' := by
  obtain ⟨pool, held, hR, hE⟩ := h.of_fast
  have hlen := hR.x.len
  have hle := hR.x.le
  have c7 := (rd_f hR.x.blk).1
  have c8 := (rd_f hR.x.blk).2
  have hpl := hE.1.lt
  have h64 := hE.1.1
  have hbl := Lib.bitLen_le pool 64 (by omega) hpl
  obtain ⟨z, hz⟩ : ∃ z, z = 64 - Lib.bitLen pool := ⟨_, rfl⟩
  have HCL := hid (fun W => clz64 pool hpl W)
  have hzi : 64 - (Lib.bitLen pool : Int) = (z : Int) := by omega
  rw [hzi] at HCL
  by_cases hzh : z < held
  · have hzh' : (z : Int) < (held : Int) := by omega
    have HC := hid (hE.1.clz hz hzh)
    have HD := hid (drop_any B p c S I pos mk mark r pool held (z + 1) w hR.x hE.1 (by omega) (by have := hR.le; omega))
    rw [Int.natCast_add] at HD
    clear hz hzi hbl
    go_enter Tryz.func301, Tryz.ntmps301
    go_wp2_with fail
    refine (HCL.out _).mono ?_
    rintro e w1 ⟨rfl, rfl⟩
    go_wp2_with fail
    refine HD.out.mono ?_
    rintro e w2 ⟨rfl, hK2, pl2, hR2, hP2⟩
    go_wp2
    refine bodyPost_ret (v := .tuple #[.int .i64 (z : Int), .nilIface]) (by simp [results, Tryz.results301, go_sem]) rfl ?_
    have h22 := hE.2.2
    have h21 := hE.2.1
    rw [← Nat.add_assoc] at hR2 hP2
    refine ⟨r, Moved.own hK2, Or.inl ⟨z, un_some HC.out.1 HC.out.2 (by omega), by omega, rfl, RdK.fast (hR.go _ hR2 (by omega) (by omega)) ⟨hP2, by omega, by omega⟩⟩⟩
  · have hzh' : ¬ (z : Int) < (held : Int) := by omega
    have HZ := hid (hE.1.none hz (by omega))
    have HL := hid (longUnary B p c S I pos mk mark r pool held w hR hE HZ.out)
    clear hz hzi hbl
    go_enter Tryz.func301, Tryz.ntmps301
    go_wp2_with fail
    refine (HCL.out _).mono ?_
    rintro e w1 ⟨rfl, rfl⟩
    go_wp2_with fail
    refine HL.out.mono ?_
    intro e w2 hU
    have hU' := hU
    rcases hU with ⟨r2, hM, ⟨q, h1, h2, rfl, h3⟩ | ⟨h1, h2, b, rfl, h3⟩⟩
    · go_wp2
      refine bodyPost_ret (v := .tuple #[.int .i64 (q : Int), .nilIface]) (by simp [results, Tryz.results301, go_sem]) rfl hU'
    · unfold errP at *
      go_wp2
      refine bodyPost_ret (v := .tuple #[.int .i64 0, .iface 155 (.pointer (some ⟨b, 0, none⟩))]) (by simp [results, Tryz.results301, go_sem]) rfl hU'

set_option maxHeartbeats 2000000 in
theorem fastAlign (B p c : Nat) (S : Src) (I : Inp) (pos : Nat) (mk : Bool) (mark : Nat) (r : RdS) (w : World) (h : RdK 1 w B p c S I pos mk mark r) :
    Calls Tryz.prog 294 #[.pointer (some ⟨p, 0, none⟩)] w fun e w' => AlignPost 1 w B p c S I pos mk mark r e w' := by
  obtain ⟨pool, held, hR, hE⟩ := h.of_fast
  have hlen := hR.x.len
  have hcl := hR.x.le
  have hr := rest_le hR.le
  go_enter Tryz.func294, Tryz.ntmps294
  go_wp2_with fail
  refine (rest_any p pos (by have := hR.le; omega) w (rd_c0 hR.x.blk).2.2.2.2.1).mono ?_
  rintro e w1 ⟨rfl, rfl⟩
  go_wp2_with fail
  refine (fastTake B p c S I pos mk mark r pool held (restOf pos) (by omega) w1 hR.x hE hR.gone8 hr.1).mono ?_
  rintro e w2 ⟨rfl, hK2, pl2, hd2, hR2, hE2⟩
  go_wp2
  refine bodyPost_ret (v := .tuple #[.bool (decide (valAt I.T pos (restOf pos) = 0)), .nilIface]) (by simp [results, Tryz.results294, go_sem, beq_zero]) rfl ?_
  exact ⟨r, Moved.own hK2, rfl, by omega, RdK.fast (hR.go _ hR2 (by omega) hr.1) hE2⟩
end Go.Proofs.YtgkenhmbilkhdaaGreatDoor
