import Derived.Test.YtgkenhmbilkhdaaGreatDoorWant
import Derived.Test.YtgkenhmbilkhdaaGreatDoorGBits64
namespace Go.Proofs.YtgkenhmbilkhdaaGreatDoor
open Go.RowKit

theorem byteAt_any (B p c : Nat) (t : TypeId) (ex : List Value) (S : Src) (I : Inp) (pos : Nat) (mk : Bool) (mark : Nat) (r : RdS) (i : Nat) (w : World) (h : RdX w B p c t ex S I pos mk mark r) (h1 : r.gone ≤ i) (h2 : i < r.came) :
    Calls Tryz.prog 315 #[.pointer (some ⟨p, 0, none⟩), .int .i64 i] w fun e w' => e = .returned (.int .u8 (I.T.getD i 0 : Nat)) ∧ ∃ m, w' = w.drewN m := by
  obtain ⟨c0, c1, c2, c3, c4, c5, c6⟩ := rd_c0 h.blk
  have hlen := h.len
  have hle := h.le
  have hrl := h.rowlen
  obtain ⟨g, cap, hg, hcap, hcell⟩ := h.row.cell (i := i - r.gone) (by rw [hrl]; omega)
  have hget : ((I.T.take r.came).drop r.gone).getD (i - r.gone) 0 = I.T.getD i 0 := by
    rw [List.getD_eq_getElem?_getD, List.getElem?_drop, show r.gone + (i - r.gone) = i by omega, List.getElem?_take, if_pos h2, ← List.getD_eq_getElem?_getD]
  rw [hget] at hcell
  rw [hrl] at hg
  rw [hg] at c1
  generalize I.T.getD i 0 = x at hcell
  obtain ⟨k, hk⟩ : ∃ k, k = i - r.gone := ⟨_, rfl⟩
  rw [← hk] at hcell
  have hki : (i : Int) - (r.gone : Int) = (k : Int) := by omega
  have hkl : (k : Int) < ((r.came - r.gone : Nat) : Int) := by omega
  clear hk hget hg hcap hrl
  generalize r.came - r.gone = n at c1 hkl
  go_enter Tryz.func315, Tryz.ntmps315
  go_wp2
  go_quiet (fail)
  go_wp2
  go_ret
  exact ⟨rfl, _, rfl⟩

theorem bitAt_eq (T : List Nat) (i : Nat) : bitAt T i = T.getD (i / 8) 0 / 2 ^ (7 - i % 8) % 2 := rfl
theorem bit_any (B p c : Nat) (t : TypeId) (ex : List Value) (S : Src) (I : Inp) (pos : Nat) (mk : Bool) (mark : Nat) (r : RdS) (i : Nat) (w : World) (h : RdX w B p c t ex S I pos mk mark r) (h1 : r.gone ≤ i / 8) (h2 : i / 8 < r.came) :
    Calls Tryz.prog 322 #[.pointer (some ⟨p, 0, none⟩), .int .i64 i] w fun e w' => e = .returned (.int .u8 (bitAt I.T i : Nat)) ∧ ∃ m, w' = w.drewN m := by
  have HB : Hid (Calls Tryz.prog 315 #[.pointer (some ⟨p, 0, none⟩), .int .i64 ((i / 8 : Nat) : Int)] w fun e w' => e = .returned (.int .u8 (I.T.getD (i / 8) 0 : Nat)) ∧ ∃ m, w' = w.drewN m) := byteAt_any B p c t ex S I pos mk mark r (i / 8) w h h1 h2
  have hb := h.lt256 (i / 8)
  have hlen := h.len
  have hle := h.le
  have HE : Hid (bitAt I.T i = _) := bitAt_eq I.T i
  generalize bitAt I.T i = R at HE
  generalize I.T.getD (i / 8) 0 = x at HB hb HE
  have hq : (i : Int).tdiv 8 = ((i / 8 : Nat) : Int) := by rw [Int.tdiv_eq_ediv_of_nonneg (by omega)]; omega
  have hm : (i : Int).tmod 8 = ((i % 8 : Nat) : Int) := by rw [Int.tmod_eq_emod_of_nonneg (by omega)]; omega
  have hq2 : i / 8 ≤ 1048576 := by omega
  have hm2 : i % 8 ≤ 7 := by omega
  generalize i / 8 = q at hq hq2 HB
  generalize i % 8 = k at hm hm2 HE
  have hA : bits .and .u8 ((x : Int) / 2 ^ (7 - k)) 1 = ((x / 2 ^ (7 - k) % 2 : Nat) : Int) := by
    have h0 : x / 2 ^ (7 - k) < 256 := Nat.lt_of_le_of_lt (Nat.div_le_self _ _) hb
    have := u8_and_nat (x / 2 ^ (7 - k)) 1 h0 (by omega)
    rw [nat_mask1, Int.natCast_ediv, Int.natCast_pow] at this
    exact this
  rw [← HE.out] at hA
  clear h h1 h2
  go_enter Tryz.func322, Tryz.ntmps322
  go_wp2_with fail
  refine HB.out.mono ?_
  rintro e w' ⟨rfl, m, rfl⟩
  go_wp2
  go_ret
  exact ⟨rfl, _, rfl⟩

theorem RdX.move {w : World} {B p c : Nat} {t : TypeId} {ex : List Value} {S : Src} {I : Inp} {pos : Nat} {mk : Bool} {mark : Nat} {r : RdS} (h : RdX w B p c t ex S I pos mk mark r) (pos' : Nat) (x : Int) (hx : x = (pos' : Int)) : RdX (w.setCell ⟨p, 4, none⟩ (.int .i64 x)) B p c t ex S I pos' mk mark r := by
  subst hx
  have hb := h.blk.set 4 (.int .i64 pos')
  rw [rd_pos] at hb
  have h3 := h.apart
  refine h.next (X := [p]) ((KeptX.refl _ _).setCell (by simp) 4 _) (by simpa using h.geB.2.1) hb (h.row.keep (X := [p]) ((KeptX.refl _ _).setCell (by simp) 4 _) (fun g hg hx => ?_)) (h.src.other (p := ⟨p, 4, none⟩) h3.1.symm _) h.sok h.le h.stop
  simp at hx
  subst hx
  exact h3.2.1 hg

theorem or_bit (v b : Nat) (hv : v < 9223372036854775808) (hb : b < 2) : bits .or .u64 ((v : Int) * 2) (b : Int) = ((2 * v + b : Nat) : Int) := by
  have h := u64_or_nat (v * 2) b (by omega) (by omega)
  have e := or_add v b 1 (by omega)
  rw [Nat.pow_one] at e
  rw [e, Int.natCast_mul] at h
  rw [show 2 * v + b = v * 2 + b by omega]
  exact h

/-- What a read of bits that have come does. -/
def TakePost (w : World) (B p c : Nat) (t : TypeId) (ex : List Value) (S : Src) (I : Inp) (pos : Nat) (mk : Bool) (mark : Nat) (r : RdS) (n : Nat) (w' : World) : Prop :=
  KeptX [p] w w' ∧ RdX w' B p c t ex S I (pos + n) mk mark r

set_option maxHeartbeats 4000000 in
theorem take_any (B p c : Nat) (t : TypeId) (ex : List Value) (S : Src) (I : Inp) (pos : Nat) (mk : Bool) (mark : Nat) (r : RdS) (n : Nat) (hn : n ≤ 64) (w : World) (h : RdX w B p c t ex S I pos mk mark r) (h1 : r.gone ≤ pos / 8) (h2 : pos + n ≤ 8 * r.came) :
    Calls Tryz.prog 321 #[.pointer (some ⟨p, 0, none⟩), .int .i64 n] w fun e w' => e = .returned (.int .u64 (valAt I.T pos n : Nat)) ∧ TakePost w B p c t ex S I pos mk mark r n w' := by
  have hlen := h.len
  have hle := h.le
  have HX := hid h
  clear h
  go_enter Tryz.func321, Tryz.ntmps321
  go_wp2
  go_loopw [5, 7] (fun v i wr => ∃ k : Nat, k ≤ n ∧ i = .int .i64 k ∧ v = .int .u64 (valAt I.T pos k : Nat) ∧ KeptX [p] w wr ∧ RdX wr B p c t ex S I (pos + k) mk mark r) (fun _ i _ => n - (intOf i).toNat)
  case atStart => exact ⟨0, by omega, rfl, rfl, KeptX.refl _ _, HX.out⟩
  case round =>
    obtain ⟨k, hk, rfl, rfl, hK, hR⟩ := hrel
    by_cases hlt : k < n
    · have hlt' : (k : Int) < (n : Int) := by omega
      obtain ⟨c0, c1, c2, c3, c4, c5, c6⟩ := rd_c0 hR.blk
      have HB : Hid (Calls Tryz.prog 322 #[.pointer (some ⟨p, 0, none⟩), .int .i64 ((pos + k : Nat) : Int)] wr fun e w' => e = .returned (.int .u8 (bitAt I.T (pos + k) : Nat)) ∧ ∃ m, w' = wr.drewN m) := bit_any B p c t ex S I (pos + k) mk mark r (pos + k) wr hR (by omega) (by omega)
      have HV : Hid (valAt I.T pos (k + 1) = 2 * valAt I.T pos k + bitAt I.T (pos + k)) := rfl
      have hv : valAt I.T pos k < 9223372036854775808 := Nat.lt_of_lt_of_le (valAt_lt I.T pos k) (Nat.pow_le_pow_right (n := 2) (by omega) (show k ≤ 63 by omega))
      have hb := bitAt_lt I.T (pos + k)
      generalize valAt I.T pos k = v at hv HV
      generalize bitAt I.T (pos + k) = b at hb HV HB
      have hor := or_bit v b hv hb
      have hf := hR.blk.free 4
      have HR := hid hR
      clear hR
      generalize hpk : pos + k = pk at HB c4 HR
      go_wp2_with fail
      refine HB.out.mono ?_
      rintro e w' ⟨rfl, m, rfl⟩
      go_wp2
      go_roundw
      case rel => exact ⟨k + 1, by omega, by go_num, by rw [HV.out, Int.natCast_add, Int.natCast_mul]; rfl, (hK.drewN m).setCell (by simp) 4 _, (HR.out.drewN m).move (pos + (k + 1)) _ (by omega)⟩
      case measure => simp [intOf]; omega
    · obtain rfl : k = n := by omega
      go_wp2
      go_ret
      exact ⟨rfl, hK, hR⟩

/-! ### readers of both kinds -/
def FastEx (I : Inp) (pos : Nat) (r : RdS) (pool held : Nat) : Prop := PoolOk I.T pos pool held ∧ (pos + held) % 8 = 0 ∧ pos + held ≤ 8 * r.came
/-- A reader of a kind. -/
def RdK (k : Nat) (w : World) (B p c : Nat) (S : Src) (I : Inp) (pos : Nat) (mk : Bool) (mark : Nat) (r : RdS) : Prop :=
  if k = 0 then RdOk w B p c 279 [] S I pos mk mark r
  else ∃ pool held : Nat, RdOk w B p c 277 [.int .u64 pool, .int .i64 held] S I pos mk mark r ∧ FastEx I pos r pool held
def rdV (k p : Nat) : Value := .iface (if k = 0 then 216 else 214) (.pointer (some ⟨p, 0, none⟩))
def errP (b : Nat) : Value := .iface 155 (.pointer (some ⟨b, 0, none⟩))
/-- All else is as it was; the row is the old one or new. -/
def Moved (w w' : World) (p c : Nat) (r r' : RdS) : Prop := KeptX (p :: c :: rowX r.hv) w w' ∧ ∀ g ∈ rowX r'.hv, g ∈ rowX r.hv ∨ w.heap.size ≤ g
/-- An error that stands in the way. -/
def Told (w w' : World) (b pos e : Nat) : Prop := w.heap.size ≤ b ∧ ErrAt b (-1) ((pos / 8 : Nat) : Int) (stopV e) w'
def ReadPost (k : Nat) (w : World) (B p c : Nat) (S : Src) (I : Inp) (pos : Nat) (mk : Bool) (mark : Nat) (r : RdS) (n : Nat) (e : Ending) (w' : World) : Prop :=
  ∃ r', Moved w w' p c r r' ∧
    ((pos + n ≤ 8 * I.T.length ∧ e = .returned (.tuple #[.int .u64 ((valAt I.T pos n : Nat) : Int), .nilIface]) ∧ RdK k w' B p c S I (pos + n) mk mark r') ∨
     (¬ pos + n ≤ 8 * I.T.length ∧ RdK k w' B p c S I pos mk mark r' ∧ ∃ b, e = .returned (.tuple #[.int .u64 0, errP b]) ∧ Told w w' b pos (stopE I.st)))
theorem Moved.refl (w : World) (p c : Nat) (r : RdS) : Moved w w p c r r := ⟨KeptX.refl _ _, fun _ h => Or.inl h⟩
theorem Moved.trans {w w1 w2 : World} {p c : Nat} {r r1 r2 : RdS} (h : Moved w w1 p c r r1) (h' : Moved w1 w2 p c r1 r2) : Moved w w2 p c r r2 := by
  refine ⟨h.1.trans h'.1 (fun i hi => hi) (fun i hlt hi => ?_), fun g hg => ?_⟩
  · simp only [List.mem_cons] at hi ⊢
    rcases hi with h3 | h3 | h3
    · exact Or.inl h3
    · exact Or.inr (Or.inl h3)
    · rcases h.2 i h3 with h4 | h4
      · exact Or.inr (Or.inr h4)
      · exfalso; omega
  · rcases h'.2 g hg with h3 | h3
    · exact h.2 g h3
    · exact Or.inr (Nat.le_trans h.1.size h3)
theorem Moved.own {w w' : World} {p c : Nat} {r : RdS} (h : KeptX [p] w w') : Moved w w' p c r r := ⟨h.mono (fun i hi => by simp at hi ⊢; exact Or.inl hi), fun _ h => Or.inl h⟩
theorem Moved.drewN {w w' : World} {p c : Nat} {r r' : RdS} (h : Moved w w' p c r r') (n : Nat) : Moved w (w'.drewN n) p c r r' := ⟨h.1.drewN n, h.2⟩
/-- The place goes on. -/
theorem RdOk.go {w w' : World} {B p c : Nat} {t : TypeId} {ex ex' : List Value} {S : Src} {I : Inp} {pos : Nat} {mk : Bool} {mark : Nat} {r : RdS} (h : RdOk w B p c t ex S I pos mk mark r) (pos' : Nat) (hx : RdX w' B p c t ex' S I pos' mk mark r) (h1 : pos ≤ pos') (h2 : pos' ≤ 8 * r.came) : RdOk w' B p c t ex' S I pos' mk mark r := by
  refine ⟨hx, h2, ?_, fun e => ?_⟩
  · have := h.keep
    split at this
    · rename_i e; rw [if_pos e]; exact this
    · rename_i e; rw [if_neg e]; omega
  · have := h.mark e; omega
theorem RdOk.gone8 {w : World} {B p c : Nat} {t : TypeId} {ex : List Value} {S : Src} {I : Inp} {pos : Nat} {mk : Bool} {mark : Nat} {r : RdS} (h : RdOk w B p c t ex S I pos mk mark r) : r.gone ≤ pos / 8 := by
  have h1 := h.keep
  have h2 := h.mark
  split at h1
  · rename_i e; have := h2 e; omega
  · exact h1

set_option maxHeartbeats 2000000 in
theorem slowRead (B p c : Nat) (S : Src) (I : Inp) (pos : Nat) (mk : Bool) (mark : Nat) (r : RdS) (n : Nat) (hn : n ≤ 64) (w : World) (h : RdOk w B p c 279 [] S I pos mk mark r) :
    Calls Tryz.prog 318 #[.pointer (some ⟨p, 0, none⟩), .int .i64 n] w fun e w' => ReadPost 0 w B p c S I pos mk mark r n e w' := by
  go_enter Tryz.func318, Tryz.ntmps318
  go_wp2_with fail
  refine (ask_any B p c _ [] S I pos mk mark r n hn w h).mono ?_
  rintro e w1 ⟨r1, hK1, hR1, hf1, hc1, ⟨rfl, hle⟩ | ⟨b, rfl, hb, hE, hnot, _⟩⟩
  · have hl := hR1.x.le
    go_wp2_with fail
    refine (take_any B p c _ [] S I pos mk mark r1 n hn w1 hR1.x hR1.gone8 hle).mono ?_
    rintro e w2 ⟨rfl, hK2, hR2⟩
    go_wp2
    refine bodyPost_ret (v := .tuple #[.int .u64 ((valAt I.T pos n : Nat) : Int), .nilIface]) (by simp [results, Tryz.results318, go_sem]) rfl ?_
    exact ⟨r1, Moved.trans ⟨hK1, hf1⟩ (Moved.own hK2), Or.inl ⟨by omega, rfl, hR1.go _ hR2 (by omega) hle⟩⟩
  · go_wp2
    refine bodyPost_ret (v := .tuple #[.int .u64 0, errP b]) (by simp [results, Tryz.results318, go_sem, errP]) rfl ?_
    exact ⟨r1, ⟨hK1, hf1⟩, Or.inr ⟨hnot, hR1, b, rfl, hb, hE⟩⟩
end Go.Proofs.YtgkenhmbilkhdaaGreatDoor

namespace Go.Proofs.YtgkenhmbilkhdaaGreatDoor
open Go.RowKit

def UnaryPost (k : Nat) (w : World) (B p c : Nat) (S : Src) (I : Inp) (pos : Nat) (mk : Bool) (mark : Nat) (r : RdS) (e : Ending) (w' : World) : Prop :=
  ∃ r', Moved w w' p c r r' ∧
    ((∃ q, un I pos = .ok (q, pos + q + 1) ∧ pos + q + 1 ≤ 8 * I.T.length ∧ e = .returned (.tuple #[.int .i64 ((q : Nat) : Int), .nilIface]) ∧ RdK k w' B p c S I (pos + q + 1) mk mark r') ∨
     (un I pos = .error (stopE I.st) ∧ RdK k w' B p c S I pos mk mark r' ∧ ∃ b, e = .returned (.tuple #[.int .i64 0, errP b]) ∧ Told w w' b pos (stopE I.st)))

def UnaryRel (w : World) (B p c : Nat) (S : Src) (I : Inp) (pos : Nat) (mk : Bool) (mark : Nat) (r : RdS) (gk : Nat) (v : Value) (wr : World) : Prop :=
  ∃ (n : Nat) (r' : RdS), v = .int .i64 n ∧ Moved w wr p c r r' ∧ RdOk wr B p c 279 [] S I pos mk mark r' ∧ Zeros I.T pos n ∧ pos + n ≤ 8 * I.T.length ∧ gk + n = 8 * I.T.length + 1

set_option maxHeartbeats 4000000 in
set_option maxRecDepth 10000 in
theorem slowUnary (B p c : Nat) (S : Src) (I : Inp) (pos : Nat) (mk : Bool) (mark : Nat) (r : RdS) (w : World) (h : RdOk w B p c 279 [] S I pos mk mark r) :
    Calls Tryz.prog 320 #[.pointer (some ⟨p, 0, none⟩)] w fun e w' => UnaryPost 0 w B p c S I pos mk mark r e w' := by
  have hlen := h.x.len
  have hpl := h.le
  have hcl := h.x.le
  have H := hid h
  clear h
  go_enter Tryz.func320, Tryz.ntmps320
  go_wp2
  go_loopg [4] (8 * I.T.length + 1) (fun gk v wr => UnaryRel w B p c S I pos mk mark r gk v wr)
  case atStart => exact ⟨0, r, rfl, Moved.refl _ _ _ _, H.out, fun j hj => by omega, by omega, rfl⟩
  case round =>
    obtain ⟨n, r1, rfl, hM, hR, hZ, hpn, hgk⟩ := hrel
    have HZ := hid hZ
    clear hZ
    have HW : Hid (Calls Tryz.prog 304 #[.pointer (some ⟨p, 0, none⟩), .int .i64 ((n + 1 : Nat) : Int)] wr fun e w' => WantPost wr B p c _ [] S I pos mk mark r1 (n + 1) e w') := want_any B p c _ [] S I pos mk mark r1 (n + 1) (by omega) wr hR
    rw [Int.natCast_add] at HW
    have hn20 : (n : Int) ≤ 8388608 := by omega
    go_wp2_with fail
    refine HW.out.mono ?_
    rintro e w1 ⟨r2, hK1, hR1, hf1, hc1, ⟨rfl, hle⟩ | ⟨b, rfl, hb, hE, hnot, _⟩⟩
    · obtain ⟨c0, c1, c2, c3, c4, c5, c6⟩ := rd_c0 hR1.x.blk
      have hl2 := hR1.x.le
      have hg8 := hR1.gone8
      have hf4 := hR1.x.blk.free 4
      have HB : Hid (Calls Tryz.prog 322 #[.pointer (some ⟨p, 0, none⟩), .int .i64 ((pos + n : Nat) : Int)] w1 fun e w' => e = .returned (.int .u8 (bitAt I.T (pos + n) : Nat)) ∧ ∃ m, w' = w1.drewN m) := bit_any B p c _ [] S I pos mk mark r2 (pos + n) w1 hR1.x (by omega) (by omega)
      rw [Int.natCast_add] at HB
      have hM1 : Moved w w1 p c r r2 := hM.trans ⟨hK1, hf1⟩
      rcases (show bitAt I.T (pos + n) = 0 ∨ bitAt I.T (pos + n) = 1 by have := bitAt_lt I.T (pos + n); omega) with hbit | hbit
      · have HBI := hid hbit
        rw [hbit] at HB
        clear hbit
        go_wp2_with fail
        refine HB.out.mono ?_
        rintro e w2 ⟨rfl, m, rfl⟩
        go_wp2
        go_roundg (8 * I.T.length + 1 - (n + 1))
        case measure => omega
        case rel => exact ⟨n + 1, r2, by go_num, hM1.drewN m, hR1.drewN m, zeros_app HZ.out (fun j hj => by
            obtain rfl : j = 0 := by omega
            exact HBI.out), by omega, by omega⟩
      · have HBI := hid hbit
        rw [hbit] at HB
        clear hbit
        go_wp2_with fail
        refine HB.out.mono ?_
        rintro e w2 ⟨rfl, m, rfl⟩
        go_wp2
        refine bodyPost_ret (v := .tuple #[.int .i64 ((n : Nat) : Int), .nilIface]) (by simp [results, Tryz.results320, go_sem]) rfl ?_
        refine ⟨r2, hM1.trans (Moved.own (((KeptX.refl _ _).drewN m).setCell (by simp) 4 _)), Or.inl ⟨n, un_some HZ.out HBI.out (by omega), by omega, rfl, ?_⟩⟩
        exact hR1.go _ ((hR1.x.drewN m).move (pos + n + 1) _ (by omega)) (by omega) (by omega)
    · go_wp2
      refine bodyPost_ret (v := .tuple #[.int .i64 0, errP b]) (by simp [results, Tryz.results320, go_sem, errP]) rfl ?_
      refine ⟨r2, hM.trans ⟨hK1, hf1⟩, Or.inr ⟨un_none (fun j hj => HZ.out j (by omega)), hR1, b, rfl, Nat.le_trans hM.1.size hb, hE⟩⟩

theorem i64_and_7 (a : Nat) (ha : a ≤ 8388608) : bits .and .i64 (-(a : Int)) 7 = ((restOf a : Nat) : Int) := by
  show IntKind.i64.wrap ((BitVec.ofInt 64 (-(a : Int)) &&& BitVec.ofInt 64 ((7 : Nat) : Int)).toNat : Int) = _
  rw [BitVec.toNat_and, ofInt_64 7 (by omega), BitVec.toNat_ofInt, show (7 : Nat) = 2 ^ 3 - 1 from rfl, Nat.and_two_pow_sub_one_eq_mod, IntKind.wrap_i64]
  unfold restOf
  omega
theorem beq_zero (v : Nat) : ((v : Int) == 0) = decide (v = 0) := by
  rw [Bool.eq_iff_iff]
  simp

def AlignPost (k : Nat) (w : World) (B p c : Nat) (S : Src) (I : Inp) (pos : Nat) (mk : Bool) (mark : Nat) (r : RdS) (e : Ending) (w' : World) : Prop :=
  ∃ r', Moved w w' p c r r' ∧ e = .returned (.tuple #[.bool (decide (valAt I.T pos (restOf pos) = 0)), .nilIface]) ∧ pos + restOf pos ≤ 8 * I.T.length ∧ RdK k w' B p c S I (pos + restOf pos) mk mark r'
theorem rest_le {pos n : Nat} (h : pos ≤ 8 * n) : pos + restOf pos ≤ 8 * n ∧ restOf pos ≤ 7 := by unfold restOf; omega
theorem rest_any (p pos : Nat) (hp : pos ≤ 8388608) (w : World) (h4 : w.cell? ⟨p, 4, none⟩ = some (.int .i64 pos)) :
    Calls Tryz.prog 303 #[.pointer (some ⟨p, 0, none⟩)] w fun e w' => e = .returned (.int .i64 ((restOf pos : Nat) : Int)) ∧ w' = w := by
  have hA := i64_and_7 pos hp
  generalize restOf pos = R at hA
  go_enter Tryz.func303, Tryz.ntmps303
  go_wp2
  go_ret
  exact ⟨rfl, rfl⟩

set_option maxHeartbeats 2000000 in
theorem slowAlign (B p c : Nat) (S : Src) (I : Inp) (pos : Nat) (mk : Bool) (mark : Nat) (r : RdS) (w : World) (h : RdOk w B p c 279 [] S I pos mk mark r) :
    Calls Tryz.prog 317 #[.pointer (some ⟨p, 0, none⟩)] w fun e w' => AlignPost 0 w B p c S I pos mk mark r e w' := by
  have hlen := h.x.len
  have hcl := h.x.le
  have hr := rest_le h.le
  go_enter Tryz.func317, Tryz.ntmps317
  go_wp2_with fail
  refine (rest_any p pos (by have := h.le; omega) w (rd_c0 h.x.blk).2.2.2.2.1).mono ?_
  rintro e w1 ⟨rfl, rfl⟩
  go_wp2_with fail
  refine (take_any B p c _ [] S I pos mk mark r (restOf pos) (by omega) w1 h.x h.gone8 hr.1).mono ?_
  rintro e w2 ⟨rfl, hK2, hR2⟩
  go_wp2
  refine bodyPost_ret (v := .tuple #[.bool (decide (valAt I.T pos (restOf pos) = 0)), .nilIface]) (by simp [results, Tryz.results317, go_sem, beq_zero]) rfl ?_
  exact ⟨r, Moved.own hK2, rfl, by omega, h.go _ hR2 (by omega) hr.1⟩
end Go.Proofs.YtgkenhmbilkhdaaGreatDoor
