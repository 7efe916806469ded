import Derived.Test.YtgkenhmbilkhdaaGreatDoorGFeed2
import Derived.Test.YtgkenhmbilkhdaaGreatDoorGFault
namespace Go.Proofs.YtgkenhmbilkhdaaGreatDoor
open Go.RowKit

theorem keep_any (p pos mark : Nat) (mk : Bool) (hp : pos ≤ 8388608) (w : World) (h4 : w.cell? ⟨p, 4, none⟩ = some (.int .i64 pos)) (h5 : w.cell? ⟨p, 5, none⟩ = some (.bool mk)) (h6 : w.cell? ⟨p, 6, none⟩ = some (.int .i64 mark)) :
    Calls Tryz.prog 313 #[.pointer (some ⟨p, 0, none⟩)] w fun e w' => e = .returned (.int .i64 ((if mk then mark else pos / 8 : Nat) : Int)) ∧ w' = w := by
  cases mk
  · have hq : (pos : Int).tdiv 8 = ((pos / 8 : Nat) : Int) := by rw [Int.tdiv_eq_ediv_of_nonneg (by omega)]; omega
    have hq2 : pos / 8 ≤ 1048576 := by omega
    generalize pos / 8 = q at hq hq2
    go_enter Tryz.func313, Tryz.ntmps313
    go_wp2
    go_ret
    exact ⟨rfl, rfl⟩
  · go_enter Tryz.func313, Tryz.ntmps313
    go_wp2
    go_ret
    exact ⟨rfl, rfl⟩

theorem came_any (p gone n cap : Nat) (ap : Option Addr) (hs : gone + n ≤ 1048576) (w : World) (h1 : w.cell? ⟨p, 1, none⟩ = some (.slice ap n cap)) (h2 : w.cell? ⟨p, 2, none⟩ = some (.int .i64 gone)) :
    Calls Tryz.prog 311 #[.pointer (some ⟨p, 0, none⟩)] w fun e w' => e = .returned (.int .i64 ((gone + n : Nat) : Int)) ∧ ∃ m, w' = w.drewN m := by
  go_enter Tryz.func311, Tryz.ntmps311
  go_wp2
  go_quiet (fail)
  go_wp2
  go_ret
  exact ⟨rfl, _, rfl⟩

theorem fail_any (p pos e : Nat) (he : e = 1 ∨ e = 14 ∨ e = 15 ∨ e = 16) (hp : pos ≤ 8388608) (w : World) (h4 : w.cell? ⟨p, 4, none⟩ = some (.int .i64 pos)) :
    Calls Tryz.prog 314 #[.pointer (some ⟨p, 0, none⟩), stopV e] w fun x w' => x = .returned (.iface 155 (.pointer (some ⟨w.heap.size, 0, none⟩))) ∧ Below w.heap.size w w' ∧ ErrAt w.heap.size (-1) ((pos / 8 : Nat) : Int) (stopV (stopE e)) w' := by
  have hq : (pos : Int).tdiv 8 = ((pos / 8 : Nat) : Int) := by rw [Int.tdiv_eq_ediv_of_nonneg (by omega)]; omega
  have hq2 : pos / 8 ≤ 1048576 := by omega
  generalize pos / 8 = q at hq hq2
  rcases he with rfl | rfl | rfl | rfl
  · rw [stopV_1, show stopV (stopE 1) = .iface 188 (.int .i64 3) from rfl]
    go_enter Tryz.func314, Tryz.ntmps314
    go_wp2_with (go_at_call 75; refine (is0_AA 1 1 _).mono ?_; rintro e w ⟨rfl, rfl⟩)
    go_ret
    exact ⟨rfl, by go_grown, by simp [ErrAt]⟩
  · rw [stopV_14, show stopV (stopE 14) = .iface 188 (.int .i64 14) from rfl]
    go_enter Tryz.func314, Tryz.ntmps314
    go_wp2_with (go_at_call 75; refine (is0_AA 14 1 _).mono ?_; rintro e w ⟨rfl, rfl⟩)
    go_ret
    exact ⟨rfl, by go_grown, by simp [ErrAt]⟩
  · rw [show stopV 15 = .iface 188 (.int .i64 15) from rfl, show stopV (stopE 15) = .iface 188 (.int .i64 15) from rfl]
    go_enter Tryz.func314, Tryz.ntmps314
    go_wp2_with (go_at_call 75; refine (is0_AA 15 1 _).mono ?_; rintro e w ⟨rfl, rfl⟩)
    go_ret
    exact ⟨rfl, by go_grown, by simp [ErrAt]⟩
  · rw [stopV_16, show stopV (stopE 16) = .iface 203 (.int .i64 1) from rfl]
    go_enter Tryz.func314, Tryz.ntmps314
    go_wp2_with (go_at_call 75; refine (is0_PA 1 1 _).mono ?_; rintro e w ⟨rfl, rfl⟩)
    go_ret
    exact ⟨rfl, by go_grown, by simp [ErrAt]⟩

theorem RdX.lt256 {w : World} {B p c : Nat} {t : TypeId} {ex : List Value} {S : Src} {I : Inp} {pos : Nat} {mk : Bool} {mark : Nat} {r : RdS} (h : RdX w B p c t ex S I pos mk mark r) (k : Nat) : I.T.getD k 0 < 256 := by
  rw [h.text]
  exact getD_lt (fun x hx => bytesOf_lt _ x (List.mem_of_mem_take hx)) (by omega) k

/-- Where a reader stands: it has come so far, and what is behind the mark or the place is kept. -/
structure RdOk (w : World) (B p c : Nat) (t : TypeId) (ex : List Value) (S : Src) (I : Inp) (pos : Nat) (mk : Bool) (mark : Nat) (r : RdS) : Prop where
  x : RdX w B p c t ex S I pos mk mark r
  le : pos ≤ 8 * r.came
  keep : r.gone ≤ (if mk then mark else pos / 8)
  mark : mk = true → mark ≤ pos / 8
theorem RdOk.keep2 {w : World} {B p c : Nat} {t : TypeId} {ex : List Value} {S : Src} {I : Inp} {pos : Nat} {mk : Bool} {mark : Nat} {r : RdS} (h : RdOk w B p c t ex S I pos mk mark r) : (if mk then mark else pos / 8) ≤ r.came := by
  have h1 := h.le
  have h2 := h.mark
  split
  · rename_i e
    have := h2 e
    omega
  · omega

theorem RdX.drewN {w : World} {B p c : Nat} {t : TypeId} {ex : List Value} {S : Src} {I : Inp} {pos : Nat} {mk : Bool} {mark : Nat} {r : RdS} (h : RdX w B p c t ex S I pos mk mark r) (n : Nat) : RdX (w.drewN n) B p c t ex S I pos mk mark r :=
  ⟨h.blk, h.tt, h.row, h.src, h.ints, h.geB, h.small, h.sok, h.text, h.le, h.st, h.stop⟩
theorem RdX.drew {w : World} {B p c : Nat} {t : TypeId} {ex : List Value} {S : Src} {I : Inp} {pos : Nat} {mk : Bool} {mark : Nat} {r : RdS} (h : RdX w B p c t ex S I pos mk mark r) : RdX w.drew B p c t ex S I pos mk mark r :=
  ⟨h.blk, h.tt, h.row, h.src, h.ints, h.geB, h.small, h.sok, h.text, h.le, h.st, h.stop⟩
theorem RdOk.drewN {w : World} {B p c : Nat} {t : TypeId} {ex : List Value} {S : Src} {I : Inp} {pos : Nat} {mk : Bool} {mark : Nat} {r : RdS} (h : RdOk w B p c t ex S I pos mk mark r) (n : Nat) : RdOk (w.drewN n) B p c t ex S I pos mk mark r := ⟨h.x.drewN n, h.le, h.keep, h.mark⟩

theorem RdX.kept {w w' : World} {B p c : Nat} {t : TypeId} {ex : List Value} {S : Src} {I : Inp} {pos : Nat} {mk : Bool} {mark : Nat} {r : RdS} {X : List Nat} (h : RdX w B p c t ex S I pos mk mark r) (hK : KeptX X w w') (hX : ∀ i ∈ X, B ≤ i) (hp : p ∉ X) (hc : c ∉ X) (hr : ∀ g ∈ rowX r.hv, g ∉ X) : RdX w' B p c t ex S I pos mk mark r :=
  h.next hK hX (hK.blk h.blk hp) (h.row.keep hK hr) (hK.blk h.src hc) h.sok h.le h.stop
theorem RdX.below {w w' : World} {B p c : Nat} {t : TypeId} {ex : List Value} {S : Src} {I : Inp} {pos : Nat} {mk : Bool} {mark : Nat} {r : RdS} (h : RdX w B p c t ex S I pos mk mark r) (hb : Below w.heap.size w w') : RdX w' B p c t ex S I pos mk mark r :=
  h.kept (X := []) (KeptX.of_below hb) (by simp) (by simp) (by simp) (by simp)
theorem RdOk.below {w w' : World} {B p c : Nat} {t : TypeId} {ex : List Value} {S : Src} {I : Inp} {pos : Nat} {mk : Bool} {mark : Nat} {r : RdS} (h : RdOk w B p c t ex S I pos mk mark r) (hb : Below w.heap.size w w') : RdOk w' B p c t ex S I pos mk mark r := ⟨h.x.below hb, h.le, h.keep, h.mark⟩

/-- What 'want' does. -/
def WantPost (w : World) (B p c : Nat) (t : TypeId) (ex : List Value) (S : Src) (I : Inp) (pos : Nat) (mk : Bool) (mark : Nat) (r : RdS) (n : Nat) (e : Ending) (w' : World) : Prop :=
  ∃ r', KeptX (p :: c :: rowX r.hv) w w' ∧ RdOk w' B p c t ex S I pos mk mark r' ∧ (∀ g ∈ rowX r'.hv, g ∈ rowX r.hv ∨ w.heap.size ≤ g) ∧ r.came ≤ r'.came ∧
    ((e = .returned .nilIface ∧ pos + n ≤ 8 * r'.came) ∨ (∃ b, e = .returned (.iface 155 (.pointer (some ⟨b, 0, none⟩))) ∧ w.heap.size ≤ b ∧ ErrAt b (-1) ((pos / 8 : Nat) : Int) (stopV (stopE I.st)) w' ∧ ¬ pos + n ≤ 8 * I.T.length ∧ r'.stop = stopV I.st))

theorem MorePost.val {w : World} {B p c : Nat} {t : TypeId} {ex : List Value} {S : Src} {I : Inp} {pos : Nat} {mk : Bool} {mark : Nat} {r : RdS} {keep : Nat} {e : Ending} {w' : World} (h : MorePost w B p c t ex S I pos mk mark r keep e w') : ∃ v, e = .returned v ∧ MorePost w B p c t ex S I pos mk mark r keep (.returned v) w' := by
  have h' := h
  obtain ⟨r', _, _, _, _, ⟨rfl, _⟩ | ⟨rfl, _⟩⟩ := h
  · exact ⟨_, rfl, h'⟩
  · exact ⟨_, rfl, h'⟩

theorem WantPost.val {w : World} {B p c : Nat} {t : TypeId} {ex : List Value} {S : Src} {I : Inp} {pos : Nat} {mk : Bool} {mark : Nat} {r : RdS} {n : Nat} {e : Ending} {w' : World} (h : WantPost w B p c t ex S I pos mk mark r n e w') : ∃ v, e = .returned v ∧ WantPost w B p c t ex S I pos mk mark r n (.returned v) w' := by
  have h' := h
  obtain ⟨r', _, _, _, _, ⟨rfl, _⟩ | ⟨b, rfl, _⟩⟩ := h
  · exact ⟨_, rfl, h'⟩
  · exact ⟨_, rfl, h'⟩

def WantRel (w : World) (B p c : Nat) (t : TypeId) (ex : List Value) (S : Src) (I : Inp) (pos : Nat) (mk : Bool) (mark : Nat) (r : RdS) (gk : Nat) (wr : World) : Prop :=
  ∃ r', KeptX (p :: c :: rowX r.hv) w wr ∧ RdOk wr B p c t ex S I pos mk mark r' ∧ (∀ g ∈ rowX r'.hv, g ∈ rowX r.hv ∨ w.heap.size ≤ g) ∧ r.came ≤ r'.came ∧ gk = I.T.length - r'.came

set_option maxHeartbeats 4000000 in
set_option maxRecDepth 10000 in
theorem want_any (B p c : Nat) (t : TypeId) (ex : List Value) (S : Src) (I : Inp) (pos : Nat) (mk : Bool) (mark : Nat) (r : RdS) (n : Nat) (hn : n ≤ 9000000) (w : World) (h : RdOk w B p c t ex S I pos mk mark r) :
    Calls Tryz.prog 304 #[.pointer (some ⟨p, 0, none⟩), .int .i64 n] w fun e w' => WantPost w B p c t ex S I pos mk mark r n e w' := by
  have H := hid h
  clear h
  go_enter Tryz.func304, Tryz.ntmps304
  go_wp2
  go_loopg [] (I.T.length - r.came) (fun gk wr => WantRel w B p c t ex S I pos mk mark r gk wr)
  case atStart => exact ⟨r, KeptX.refl _ _, H.out, fun g hg => Or.inl hg, Nat.le_refl _, rfl⟩
  case round =>
    obtain ⟨r1, hK, hR, hfr, hcm, hgk⟩ := hrel
    obtain ⟨c0, c1, c2, c3, c4, c5, c6⟩ := rd_c0 hR.x.blk
    obtain ⟨ap, cap, hap⟩ := hR.x.row.slice
    rw [hR.x.rowlen] at hap
    rw [hap] at c1
    have hlen := hR.x.len
    have hle := hR.x.le
    have hpos := hR.le
    have hcame : r1.gone + (r1.came - r1.gone) = r1.came := by omega
    have HCA : Hid (∀ m, Calls Tryz.prog 311 #[.pointer (some ⟨p, 0, none⟩)] (wr.drewN m) fun e w' => e = .returned (.int .i64 (r1.came : Int)) ∧ ∃ m', w' = (wr.drewN m).drewN m') := by
      intro m
      have := came_any p r1.gone (r1.came - r1.gone) cap ap (by omega) (wr.drewN m) c1 c2
      rwa [hcame] at this
    clear hcame
    have hp20 : (r1.came : Int) ≤ 1048576 := by omega
    by_cases hwant : pos + n ≤ 8 * r1.came
    · have hw' : ¬ (8 * (r1.came : Int) - (pos : Int) < (n : Int)) := by omega
      go_wp2
      go_quiet ((go_at_call 311; refine Calls.quiet_of (HCA.out _)))
      go_wp2
      go_ret
      exact ⟨r1, hK.drewN _, hR.drewN _, hfr, hcm, Or.inl ⟨rfl, hwant⟩⟩
    · have hw' : 8 * (r1.came : Int) - (pos : Int) < (n : Int) := by omega
      go_wp2
      go_quiet ((go_at_call 311; refine Calls.quiet_of (HCA.out _)))
      go_wp2
      obtain ⟨kp, HKP⟩ : ∃ kp, Hid (kp = if mk then mark else pos / 8) := ⟨_, rfl⟩
      have HKE : Hid (∀ n, Calls Tryz.prog 313 #[.pointer (some ⟨p, 0, none⟩)] (wr.drewN n) fun e w' => e = .returned (.int .i64 (kp : Int)) ∧ w' = wr.drewN n) := by
        intro n
        rw [HKP.out]
        exact keep_any p pos mark mk (by omega) (wr.drewN n) c4 c5 c6
      have HM : Hid (∀ n, Calls Tryz.prog 312 #[.pointer (some ⟨p, 0, none⟩), .int .i64 kp] (wr.drewN n) fun e w' => MorePost (wr.drewN n) B p c t ex S I pos mk mark r1 kp e w') := by
        intro n
        exact more_any B p c t ex S I pos mk mark r1 kp _ (hR.x.drewN n) (by rw [HKP.out]; exact hR.keep) (by rw [HKP.out]; exact hR.keep2)
      go_cut [5] (fun v wx => ∃ n, MorePost (wr.drewN n) B p c t ex S I pos mk mark r1 kp (.returned v) wx)
      case first =>
        go_region_with (first | (go_at_call 313; refine (HKE.out _).mono ?_; rintro e w5 ⟨rfl, rfl⟩) | (go_at_call 312; refine (HM.out _).mono ?_; intro e w2 hM2; obtain ⟨v2, rfl, hM3⟩ := hM2.val))
        all_goals
          go_wp2
          go_meet
          case rel => exact ⟨_, hM3⟩
      case rest =>
        obtain ⟨nn, r2, hK2, hX2, hf2, hg2, hres⟩ := hcut
        have hK3 : KeptX (p :: c :: rowX r.hv) w wc := (hK.drewN nn).trans hK2 (fun i hi => hi) (fun i hlt hi => by
          simp only [List.mem_cons] at hi ⊢
          rcases hi with h | h | h
          · exact Or.inl h
          · exact Or.inr (Or.inl h)
          · rcases hfr i h with h3 | h3
            · exact Or.inr (Or.inr h3)
            · exfalso; omega)
        have hf3 : ∀ g ∈ rowX r2.hv, g ∈ rowX r.hv ∨ w.heap.size ≤ g := fun g hg => by
          rcases hf2 g hg with h3 | h3
          · exact hfr g h3
          · exact Or.inr (Nat.le_trans hK.size h3)
        rw [HKP.out] at hg2
        rcases hres with ⟨e2, hlt2⟩ | ⟨e2, he2, hc2, hs2⟩
        · injection e2 with e2
          subst e2
          have hR2 : RdOk wc B p c t ex S I pos mk mark r2 := ⟨hX2, by omega, hg2, hR.mark⟩
          go_wp2
          go_roundg (I.T.length - r2.came)
          case measure => have := hX2.le; omega
          case rel => exact ⟨r2, hK3, hR2, hf3, by omega, rfl⟩
        · injection e2 with e2
          subst e2
          have hR2 : RdOk wc B p c t ex S I pos mk mark r2 := ⟨hX2, by omega, hg2, hR.mark⟩
          have HFA : Hid (Calls Tryz.prog 314 #[.pointer (some ⟨p, 0, none⟩), stopV I.st] wc fun x w' => x = .returned (.iface 155 (.pointer (some ⟨wc.heap.size, 0, none⟩))) ∧ Below wc.heap.size wc w' ∧ ErrAt wc.heap.size (-1) ((pos / 8 : Nat) : Int) (stopV (stopE I.st)) w') :=
            fail_any p pos I.st (by have := hX2.st; omega) (by omega) wc (rd_c0 hX2.blk).2.2.2.2.1
          obtain ⟨T1, V1, hst1⟩ : ∃ T V, stopV I.st = .iface T V := by unfold stopV; split <;> exact ⟨_, _, rfl⟩
          have HSV := hid hst1
          rw [hst1] at HFA ⊢
          clear hst1
          go_wp2_with fail
          refine HFA.out.mono ?_
          rintro e w9 ⟨rfl, hb9, hE9⟩
          go_wp2
          go_ret
          exact ⟨r2, hK3.trans (X := p :: c :: rowX r.hv) (Y := []) (KeptX.of_below hb9) (fun i hi => hi) (by simp), hR2.below hb9, hf3, by omega, Or.inr ⟨wc.heap.size, rfl, Nat.le_trans hK.size hK2.size, hE9, by omega, hs2⟩⟩

set_option maxHeartbeats 1000000 in
theorem ask_any (B p c : Nat) (t : TypeId) (ex : List Value) (S : Src) (I : Inp) (pos : Nat) (mk : Bool) (mark : Nat) (r : RdS) (n : Nat) (hn : n ≤ 64) (w : World) (h : RdOk w B p c t ex S I pos mk mark r) :
    Calls Tryz.prog 305 #[.pointer (some ⟨p, 0, none⟩), .int .i64 n] w fun e w' => WantPost w B p c t ex S I pos mk mark r n e w' := by
  have hn' : (n : Int) ≤ 64 := by omega
  go_enter Tryz.func305, Tryz.ntmps305
  go_wp2_with fail
  refine (want_any B p c t ex S I pos mk mark r n (by omega) w h).mono ?_
  intro e w' hW
  obtain ⟨v, rfl, hW⟩ := hW.val
  go_wp2
  go_ret
  exact hW

set_option maxHeartbeats 1000000 in
theorem ask_arg (B p c : Nat) (t : TypeId) (ex : List Value) (S : Src) (I : Inp) (pos : Nat) (mk : Bool) (mark : Nat) (r : RdS) (n : Int) (hn : n < 0 ∨ 64 < n) (hn1 : -9223372036854775808 ≤ n) (hn2 : n < 9223372036854775808) (w : World) (h : RdOk w B p c t ex S I pos mk mark r) :
    Calls Tryz.prog 305 #[.pointer (some ⟨p, 0, none⟩), .int .i64 n] w fun e w' => e = .returned (.iface 155 (.pointer (some ⟨w.heap.size, 0, none⟩))) ∧ Below w.heap.size w w' ∧ ErrAt w.heap.size (-1) ((pos / 8 : Nat) : Int) (stopV 15) w' := by
  have hlen := h.x.len
  have hle := h.x.le
  have hpos := h.le
  have HF : Hid (Calls Tryz.prog 314 #[.pointer (some ⟨p, 0, none⟩), .iface 188 (.int .i64 15)] w _) := fail_any p pos 15 (by omega) (by omega) w (rd_c0 h.x.blk).2.2.2.2.1
  rcases hn with h0 | h0
  all_goals
    go_enter Tryz.func305, Tryz.ntmps305
    go_wp2_with fail
    refine HF.out.mono ?_
    rintro e w' ⟨rfl, hb, hE⟩
    go_wp2
    go_ret
    exact ⟨rfl, hb, hE⟩
end Go.Proofs.YtgkenhmbilkhdaaGreatDoor
