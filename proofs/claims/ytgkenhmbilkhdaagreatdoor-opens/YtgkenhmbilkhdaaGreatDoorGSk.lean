import Derived.Test.YtgkenhmbilkhdaaGreatDoorPar
import Derived.Test.YtgkenhmbilkhdaaGreatDoorGRefBits
import Derived.Test.YtgkenhmbilkhdaaGreatDoorGFastRd2
namespace Go.Proofs.YtgkenhmbilkhdaaGreatDoor

/-! The document's reader reads on behind a fault: (the fault's number, the place). -/
abbrev RS := Nat × Nat
def skRd (I : Inp) (n : Nat) (s : RS) : Nat × RS :=
  if s.1 ≠ 0 then (0, s) else
  match rd n I s.2 with
  | .ok (v, j) => (v, (0, j))
  | .error x => (0, (x, s.2))
def skFail (x : Nat) (s : RS) : RS := if s.1 = 0 then (x, s.2) else s
theorem skRd_bad (I : Inp) (n e pos : Nat) (h : e ≠ 0) : skRd I n (e, pos) = (0, (e, pos)) := by unfold skRd; rw [if_pos h]
theorem skRd_ok {I : Inp} {n pos v j : Nat} (h : rd n I pos = .ok (v, j)) : skRd I n (0, pos) = (v, (0, j)) := by
  unfold skRd
  rw [if_neg (by simp)]
  simp only [h]
theorem skRd_err {I : Inp} {n pos x : Nat} (h : rd n I pos = .error x) : skRd I n (0, pos) = (0, (x, pos)) := by
  unfold skRd
  rw [if_neg (by simp)]
  simp only [h]
theorem skRd_lt (I : Inp) (n : Nat) (s : RS) : (skRd I n s).1 < 2 ^ n := by
  have h0 : 0 < 2 ^ n := Nat.pow_pos (by omega)
  unfold skRd
  split
  · exact h0
  · split
    · rename_i v j h
      unfold rd at h
      split at h
      · injection h with h
        injection h with h1 h2
        rw [← h1]
        exact valAt_lt _ _ _
      · cases h
    · exact h0
theorem stopE_ne {I : Inp} (h : I.st = 1 ∨ I.st = 14 ∨ I.st = 16) : stopE I.st ≠ 0 := by unfold stopE; split <;> omega

/-- The same, but for what stands behind a fault. -/
def Sim {α : Type} (I : Inp) (p : Par α) (g : RS → α × RS) : Prop :=
  (∀ e pos, e ≠ 0 → (g (e, pos)).2.1 = e) ∧ ∀ pos, (∃ a j, p I pos = .ok (a, j) ∧ g (0, pos) = (a, (0, j))) ∨ (∃ x, p I pos = .error x ∧ x ≠ 0 ∧ (g (0, pos)).2.1 = x)
def skBind {α β : Type} (g : RS → α × RS) (f : α → RS → β × RS) (s : RS) : β × RS := f (g s).1 (g s).2
theorem Sim.bind {α β : Type} {I : Inp} {p : Par α} {g : RS → α × RS} {p' : α → Par β} {g' : α → RS → β × RS} (h : Sim I p g) (h' : ∀ a, Sim I (p' a) (g' a)) : Sim I (p.bind p') (skBind g g') := by
  refine ⟨fun e pos he => ?_, fun pos => ?_⟩
  · have h1 := h.1 e pos he
    unfold skBind
    generalize g (e, pos) = z at h1
    obtain ⟨a, e1, pos1⟩ := z
    simp only at h1
    subst h1
    exact (h' a).1 _ _ he
  · rcases h.2 pos with ⟨a, j, h1, h2⟩ | ⟨x, h1, hx, h2⟩
    · rw [Par.bind_ok h1]
      unfold skBind
      rw [h2]
      exact (h' a).2 j
    · refine Or.inr ⟨x, Par.bind_err h1, hx, ?_⟩
      unfold skBind
      generalize g (0, pos) = z at h2
      obtain ⟨a, e1, pos1⟩ := z
      simp only at h2
      subst h2
      exact (h' a).1 _ _ hx
theorem Sim.ret {α : Type} (I : Inp) (a : α) : Sim I (Par.ret a) (fun s => (a, s)) := ⟨fun _ _ _ => rfl, fun pos => Or.inl ⟨a, pos, rfl, rfl⟩⟩
theorem Sim.rd {I : Inp} (hst : I.st = 1 ∨ I.st = 14 ∨ I.st = 16) (n : Nat) : Sim I (rd n) (skRd I n) := by
  refine ⟨fun e pos he => by rw [skRd_bad _ _ _ _ he], fun pos => ?_⟩
  by_cases h : pos + n ≤ 8 * I.T.length
  · exact Or.inl ⟨_, _, rd_ok h, skRd_ok (rd_ok h)⟩
  · exact Or.inr ⟨_, rd_no h, stopE_ne hst, by rw [skRd_err (rd_no h)]⟩
def skCheck (b : Bool) (x : Nat) (s : RS) : Unit × RS := ((), if b then s else skFail x s)
theorem Sim.check (I : Inp) (b : Bool) (x : Nat) (hx : x ≠ 0) : Sim I (Par.check b x) (skCheck b x) := by
  refine ⟨fun e pos he => ?_, fun pos => ?_⟩
  · unfold skCheck skFail
    cases b
    · simp [he]
    · rfl
  · cases b
    · exact Or.inr ⟨x, rfl, hx, rfl⟩
    · exact Or.inl ⟨(), pos, rfl, rfl⟩
theorem Sim.of_eq {α : Type} {I : Inp} {p : Par α} {g g' : RS → α × RS} (h : Sim I p g) (e : ∀ s, g' s = g s) : Sim I p g' := by
  have : g' = g := funext e
  rw [this]
  exact h
theorem Sim.bad {α : Type} {I : Inp} {p : Par α} {g : RS → α × RS} (h : Sim I p g) {s : RS} (hs : s.1 ≠ 0) : (g s).2.1 = s.1 := h.1 s.1 s.2 hs
theorem Sim.good {α : Type} {I : Inp} {p : Par α} {g : RS → α × RS} (h : Sim I p g) {pos : Nat} : (∃ a j, p I pos = .ok (a, j) ∧ g (0, pos) = (a, (0, j))) ∨ (∃ x, p I pos = .error x ∧ x ≠ 0 ∧ (g (0, pos)).2.1 = x) := h.2 pos
end Go.Proofs.YtgkenhmbilkhdaaGreatDoor

namespace Go.Proofs.YtgkenhmbilkhdaaGreatDoor
open Go.RowKit

def rCells (sb e : Nat) : Array Value := #[.pointer (some ⟨sb, 0, none⟩), .int .i64 (e : Int)]
/-- The document's reader: its fault and its place. -/
def RSt (sb : Nat) (tx : ByteArray) (I : Inp) (rb : Nat) (w : World) (s : RS) (w' : World) : Prop :=
  KeptX [sb, rb] w w' ∧ StAt w' sb tx I s.2 ∧ Blk w' rb (rCells sb s.1) 116 ∧ s.1 < 17
theorem RSt.ne {sb : Nat} {tx : ByteArray} {I : Inp} {rb : Nat} {w w' : World} {s : RS} (h : RSt sb tx I rb w s w') : rb ≠ sb := h.2.2.1.ne h.2.1.1 (by decide)
theorem RSt.cells {sb : Nat} {tx : ByteArray} {I : Inp} {rb : Nat} {w w' : World} {s : RS} (h : RSt sb tx I rb w s w') : w'.cell? ⟨rb, 0, none⟩ = some (.pointer (some ⟨sb, 0, none⟩)) ∧ w'.cell? ⟨rb, 1, none⟩ = some (.int .i64 (s.1 : Int)) ∧ w'.frozen? ⟨rb, 1, none⟩ = false :=
  ⟨h.2.2.1.cell 0, h.2.2.1.cell 1, h.2.2.1.free 1⟩
theorem RSt.read {sb : Nat} {tx : ByteArray} {I : Inp} {rb : Nat} {w w1 w2 : World} {s : RS} {pos' : Nat} (h : RSt sb tx I rb w s w1) (hs : StStep w1 sb tx I pos' w2) : RSt sb tx I rb w (s.1, pos') w2 :=
  ⟨h.1.trans hs.1 (fun i hi => hi) (fun i _ hi => by simp at hi ⊢; exact Or.inl hi), hs.2, hs.1.blk h.2.2.1 (by simp; exact h.ne), h.2.2.2⟩
theorem RSt.fail {sb : Nat} {tx : ByteArray} {I : Inp} {rb : Nat} {w w1 : World} {s : RS} (h : RSt sb tx I rb w s w1) (x : Nat) (hx : x < 17) (v : Int) (hv : v = (x : Int)) : RSt sb tx I rb w (x, s.2) (w1.setCell ⟨rb, 1, none⟩ (.int .i64 v)) := by
  subst hv
  have hK : KeptX [rb] w1 (w1.setCell ⟨rb, 1, none⟩ (.int .i64 (x : Int))) := (KeptX.refl _ _).setCell (by simp) 1 _
  exact ⟨h.1.setCell (by simp) 1 _, ⟨hK.blk h.2.1.1 (by simp; exact h.ne.symm), h.2.1.2⟩, h.2.2.1.set 1 _, hx⟩
theorem RSt.st {sb : Nat} {tx : ByteArray} {I : Inp} {rb : Nat} {w w' : World} {s : RS} (h : RSt sb tx I rb w s w') : I.st = 1 ∨ I.st = 14 ∨ I.st = 16 := h.2.1.2.2.2.1

theorem refFail {sb : Nat} {tx : ByteArray} {I : Inp} {rb : Nat} {w wc : World} {s : RS} (x : Nat) (hx : x < 17) (h : RSt sb tx I rb w s wc) :
    Calls Tryz.prog 48 #[.pointer (some ⟨rb, 0, none⟩), .int .i64 (x : Int)] wc fun e w' => e = .returned (.tuple #[]) ∧ RSt sb tx I rb w (skFail x s) w' := by
  obtain ⟨c0, c1, f1⟩ := h.cells
  have H := hid h
  clear h
  obtain ⟨e0, pos⟩ := s
  simp only at c1
  unfold skFail
  by_cases h0 : e0 = 0
  · subst h0
    go_enter Tryz.func48, Tryz.ntmps48
    go_wp2
    go_end0
    exact ⟨rfl, H.out.fail x hx _ rfl⟩
  · have h0' : ((e0 : Int) == 0) = false := by simp; omega
    go_enter Tryz.func48, Tryz.ntmps48
    go_wp2
    go_end0
    exact ⟨rfl, H.out⟩

set_option maxHeartbeats 1000000 in
theorem refRdBits {sb : Nat} {tx : ByteArray} {I : Inp} {rb : Nat} {w wc : World} {s : RS} (n : Nat) (hn : n ≤ 63) (h : RSt sb tx I rb w s wc) :
    Calls Tryz.prog 49 #[.pointer (some ⟨rb, 0, none⟩), .int .i64 (n : Int)] wc fun e w' => e = .returned (.int .i64 ((skRd I n s).1 : Int)) ∧ RSt sb tx I rb w (skRd I n s).2 w' := by
  obtain ⟨c0, c1, f1⟩ := h.cells
  have H := hid h
  have hst := h.st
  clear h
  obtain ⟨e0, pos⟩ := s
  simp only at c1
  by_cases h0 : e0 = 0
  · subst h0
    have HR := hid (refRead sb tx I pos n (by omega) wc H.out.2.1)
    have hv : valAt I.T pos n < 9223372036854775808 := Nat.lt_of_lt_of_le (valAt_lt I.T pos n) (Nat.pow_le_pow_right (n := 2) (by omega) (show n ≤ 63 by omega))
    go_enter Tryz.func49, Tryz.ntmps49
    go_wp2_with fail
    refine HR.out.mono ?_
    rintro e w1 (⟨hle, rfl, hS⟩ | ⟨hle, rfl, hS⟩)
    · have hw := w64_small _ hv
      rw [hw]
      have HF := hid (refFail 0 (by omega) (H.out.read hS))
      go_wp2_with fail
      refine HF.out.mono ?_
      rintro e w2 ⟨rfl, hS2⟩
      go_wp2
      go_ret
      rw [skRd_ok (rd_ok hle)]
      exact ⟨rfl, hS2⟩
    · have HF := hid (refFail (stopE I.st) (by unfold stopE; split <;> omega) (H.out.read hS))
      go_wp2_with fail
      refine HF.out.mono ?_
      rintro e w2 ⟨rfl, hS2⟩
      go_wp2
      go_ret
      rw [skRd_err (rd_no hle)]
      exact ⟨rfl, hS2⟩
  · have h0' : ((e0 : Int) != 0) = true := by simp; omega
    go_enter Tryz.func49, Tryz.ntmps49
    go_wp2
    go_ret
    rw [skRd_bad _ _ _ _ h0]
    exact ⟨rfl, H.out⟩
end Go.Proofs.YtgkenhmbilkhdaaGreatDoor

namespace Go.Proofs.YtgkenhmbilkhdaaGreatDoor
open Go.RowKit

/-- What passing over n bits leaves. -/
def PassPost (w : World) (B p c : Nat) (t : TypeId) (ex : List Value) (S : Src) (I : Inp) (pos : Nat) (mk : Bool) (mark : Nat) (r : RdS) (n : Nat) (e : Ending) (w' : World) : Prop :=
  ∃ r' pos', Moved w w' p c r r' ∧ RdOk w' B p c t ex S I pos' mk mark r' ∧ pos ≤ pos' ∧
    ((e = .returned .nilIface ∧ pos' = pos + n ∧ pos + n ≤ 8 * I.T.length) ∨ (∃ b a, e = .returned (errP b) ∧ w.heap.size ≤ b ∧ ErrAt b (-1) a (stopV (stopE I.st)) w' ∧ ¬ pos + n ≤ 8 * I.T.length))
def PassRel (w : World) (B p c : Nat) (t : TypeId) (ex : List Value) (S : Src) (I : Inp) (pos : Nat) (mk : Bool) (mark : Nat) (r : RdS) (n : Nat) (gk : Nat) (v : Value) (wr : World) : Prop :=
  ∃ (m pos1 : Nat) (r1 : RdS), v = .int .i64 m ∧ gk = m ∧ pos1 + m = pos + n ∧ pos ≤ pos1 ∧ Moved w wr p c r r1 ∧ RdOk wr B p c t ex S I pos1 mk mark r1

set_option maxHeartbeats 4000000 in
set_option maxRecDepth 10000 in
theorem pass_any (B p c : Nat) (t : TypeId) (ex : List Value) (S : Src) (I : Inp) (pos : Nat) (mk : Bool) (mark : Nat) (r : RdS) (n : Nat) (hn : n ≤ 1000000000) (w : World) (h : RdOk w B p c t ex S I pos mk mark r) :
    Calls Tryz.prog 306 #[.pointer (some ⟨p, 0, none⟩), .int .i64 n] w fun e w' => PassPost w B p c t ex S I pos mk mark r n e w' := by
  have hlen := h.x.len
  have hcl := h.x.le
  have hpl := h.le
  have H := hid h
  clear h
  go_enter Tryz.func306, Tryz.ntmps306
  go_wp2
  go_loopg [1] n (fun gk v wr => PassRel w B p c t ex S I pos mk mark r n gk v wr)
  case atStart => exact ⟨n, pos, r, rfl, rfl, rfl, Nat.le_refl _, Moved.refl _ _ _ _, H.out⟩
  case round =>
    obtain ⟨m, pos1, r1, rfl, hgk, hsum, hle1, hM, hR⟩ := hrel
    have hpl1 := hR.le
    have hcl1 := hR.x.le
    by_cases hm0 : m = 0
    · subst hm0
      go_wp2
      go_ret
      exact ⟨r1, pos1, hM, hR, hle1, Or.inl ⟨rfl, by omega, by omega⟩⟩
    · have hm0' : 0 < (m : Int) := by omega
      obtain ⟨q, hmin, hqm, hq0, hq4⟩ : ∃ q : Nat, min (m : Int) 4096 = (q : Int) ∧ q ≤ m ∧ 0 < q ∧ q ≤ 4096 := ⟨min m 4096, by omega, by omega, by omega, by omega⟩
      have HW := hid (want_any B p c t ex S I pos1 mk mark r1 q (by omega) wr hR)
      go_wp2_with fail
      refine HW.out.mono ?_
      rintro e w1 ⟨r2, hK1, hR1, hf1, hc1, ⟨rfl, hle2⟩ | ⟨b, rfl, hbb, hE, hnot, _⟩⟩
      · have c4 := (rd_c0 hR1.x.blk).2.2.2.2.1
        have f4 := hR1.x.blk.free 4
        have hcl2 := hR1.x.le
        have hmq : (m : Int) - (q : Int) = ((m - q : Nat) : Int) := by omega
        go_wp2
        go_roundg (m - q)
        case measure => omega
        case rel => exact ⟨m - q, pos1 + q, r2, rfl, rfl, by omega, by omega, (hM.trans ⟨hK1, hf1⟩).trans (Moved.own ((KeptX.refl _ _).setCell (by simp) 4 _)), hR1.go _ (hR1.x.move (pos1 + q) _ (by omega)) (by omega) hle2⟩
      · go_wp2
        go_ret
        exact ⟨r2, pos1, hM.trans ⟨hK1, hf1⟩, hR1, hle1, Or.inr ⟨b, _, rfl, Nat.le_trans hM.1.size hbb, hE, by omega⟩⟩

theorem PassPost.val {w : World} {B p c : Nat} {t : TypeId} {ex : List Value} {S : Src} {I : Inp} {pos : Nat} {mk : Bool} {mark : Nat} {r : RdS} {n : Nat} {e : Ending} {w' : World} (h : PassPost w B p c t ex S I pos mk mark r n e w') : ∃ v, e = .returned v ∧ PassPost w B p c t ex S I pos mk mark r n (.returned v) w' := by
  have h' := h
  obtain ⟨r', pos', _, _, _, ⟨rfl, _⟩ | ⟨b, a, rfl, _⟩⟩ := h
  · exact ⟨_, rfl, h'⟩
  · exact ⟨_, rfl, h'⟩

/-- What passing over n bits leaves, of a reader of a kind. -/
def SkipPost (k : Nat) (w : World) (B p c : Nat) (S : Src) (I : Inp) (pos : Nat) (mk : Bool) (mark : Nat) (r : RdS) (n : Nat) (e : Ending) (w' : World) : Prop :=
  ∃ r' pos', Moved w w' p c r r' ∧ RdK k w' B p c S I pos' mk mark r' ∧ pos ≤ pos' ∧
    ((e = .returned .nilIface ∧ pos' = pos + n ∧ pos + n ≤ 8 * I.T.length) ∨ (∃ b a, e = .returned (errP b) ∧ w.heap.size ≤ b ∧ ErrAt b (-1) a (stopV (stopE I.st)) w' ∧ ¬ pos + n ≤ 8 * I.T.length))

theorem slowSkip (B p c : Nat) (S : Src) (I : Inp) (pos : Nat) (mk : Bool) (mark : Nat) (r : RdS) (n : Nat) (hn : n ≤ 1000000000) (w : World) (h : RdK 0 w B p c S I pos mk mark r) :
    Calls Tryz.prog 319 #[.pointer (some ⟨p, 0, none⟩), .int .i64 n] w fun e w' => SkipPost 0 w B p c S I pos mk mark r n e w' := by
  go_enter Tryz.func319, Tryz.ntmps319
  go_wp2_with fail
  refine (pass_any B p c _ [] S I pos mk mark r n hn w h).mono ?_
  intro e w1 hP
  obtain ⟨v, rfl, r', pos', hM, hR, hle, hx⟩ := hP.val
  go_wp2
  go_ret
  exact ⟨r', pos', hM, hR, hle, hx⟩

theorem mark_any (B p c : Nat) (t : TypeId) (ex : List Value) (S : Src) (I : Inp) (pos : Nat) (mk : Bool) (mark : Nat) (r : RdS) (w : World) (h : RdOk w B p c t ex S I pos mk mark r) :
    Calls Tryz.prog 297 #[.pointer (some ⟨p, 0, none⟩)] w fun e w' => e = .returned (.tuple #[]) ∧ KeptX [p] w w' ∧ RdOk w' B p c t ex S I pos true (pos / 8) r := by
  obtain ⟨c0, c1, c2, c3, c4, c5, c6⟩ := rd_c0 h.x.blk
  have f5 := h.x.blk.free 5
  have hlen := h.x.len
  have hle := h.x.le
  have hpl := h.le
  have hg8 := h.gone8
  have hb5 := h.x.blk.set 5 (.bool true)
  have hb6 := hb5.set 6 (.int .i64 ((pos / 8 : Nat) : Int))
  have e5 : (rdCells c r.hv r.gone r.stop pos mk mark ex).setIfInBounds 5 (.bool true) = rdCells c r.hv r.gone r.stop pos true mark ex := by simp [rdCells]
  have e6 : (rdCells c r.hv r.gone r.stop pos true mark ex).setIfInBounds 6 (.int .i64 ((pos / 8 : Nat) : Int)) = rdCells c r.hv r.gone r.stop pos true (pos / 8) ex := by simp [rdCells]
  rw [e5, e6] at hb6
  rw [e5] at hb5
  have y6 := (rd_c0 hb5).2.2.2.2.2.2
  have f6 := hb5.free 6
  have hq : (pos : Int).tdiv 8 = ((pos / 8 : Nat) : Int) := by rw [Int.tdiv_eq_ediv_of_nonneg (by omega)]; omega
  have hq2 : pos / 8 ≤ 1048576 := by omega
  have H := hid h
  have HB := hid hb6
  clear h e5 e6 hb5 hb6
  obtain ⟨q, hqq⟩ : ∃ q, q = pos / 8 := ⟨_, rfl⟩
  rw [← hqq] at hq hq2 HB hg8 ⊢
  have HQ := hid hqq
  clear hqq
  go_enter Tryz.func297, Tryz.ntmps297
  go_wp2
  go_end0
  have hK : KeptX [p] w ((w.setCell ⟨p, 5, none⟩ (.bool true)).setCell ⟨p, 6, none⟩ (.int .i64 (q : Int))) := ((KeptX.refl _ _).setCell (by simp) 5 _).setCell (by simp) 6 _
  exact ⟨rfl, hK, H.out.x.reblk hK HB.out, hpl, by rw [if_pos rfl]; exact hg8, fun _ => by rw [HQ.out]; exact Nat.le_refl _⟩

set_option maxHeartbeats 2000000 in
theorem fastSkip (B p c : Nat) (S : Src) (I : Inp) (pos : Nat) (mk : Bool) (mark : Nat) (r : RdS) (n : Nat) (hn : n ≤ 1000000000) (w : World) (h : RdK 1 w B p c S I pos mk mark r) :
    Calls Tryz.prog 300 #[.pointer (some ⟨p, 0, none⟩), .int .i64 n] w fun e w' => SkipPost 1 w B p c S I pos mk mark r n e w' := by
  obtain ⟨pool, held, hR0, hE0⟩ := h.of_fast
  go_enter Tryz.func300, Tryz.ntmps300
  go_wp2_with fail
  refine (pass_any B p c _ _ S I pos mk mark r n hn w hR0).mono ?_
  intro e w1 hP
  obtain ⟨v, rfl, r', pos', hM, hR, hle, hx⟩ := hP.val
  have c4 := (rd_c0 hR.x.blk).2.2.2.2.1
  have HMV := hid (fastMove B p c S I pos' mk mark r' pool held pos' w1 hR.x hR.gone8 hR.le)
  go_wp2_with fail
  refine HMV.out.mono ?_
  rintro e w2 ⟨rfl, hK2, pl2, hd2, hR2, hE2⟩
  go_wp2
  go_ret
  refine ⟨r', pos', hM.trans (Moved.own hK2), RdK.fast (hR.go _ hR2 (Nat.le_refl _) hR.le) hE2, hle, ?_⟩
  rcases hx with hx | ⟨b, a, he, hb, hEr, hno⟩
  · exact Or.inl hx
  · refine Or.inr ⟨b, a, he, hb, ?_, hno⟩
    have hbp : b ∉ [p] := by
      have := hR0.x.blk.lt
      simp
      omega
    have hlt := hEr.lt
    exact ⟨(hK2.cell (a := ⟨b, 0, none⟩) hlt hbp).trans hEr.1, (hK2.cell (a := ⟨b, 1, none⟩) hlt hbp).trans hEr.2.1, (hK2.cell (a := ⟨b, 2, none⟩) hlt hbp).trans hEr.2.2⟩

set_option maxHeartbeats 2000000 in
theorem ended_any (B p c : Nat) (t : TypeId) (ex : List Value) (S : Src) (I : Inp) (pos : Nat) (mk : Bool) (mark : Nat) (r : RdS) (w : World) (h : RdOk w B p c t ex S I pos mk mark r) :
    Calls Tryz.prog 296 #[.pointer (some ⟨p, 0, none⟩)] w fun e w' => ∃ r', e = .returned (.bool (decide (¬ pos + 1 ≤ 8 * I.T.length ∧ I.st = 1))) ∧ Moved w w' p c r r' ∧ RdOk w' B p c t ex S I pos mk mark r' := by
  have hst := h.x.st
  have HW := hid (want_any B p c t ex S I pos mk mark r 1 (by omega) w h)
  go_enter Tryz.func296, Tryz.ntmps296
  go_wp2_with fail
  refine HW.out.mono ?_
  rintro e w1 ⟨r1, hK1, hR1, hf1, hc1, ⟨rfl, hle⟩ | ⟨b, rfl, hb, hE, hnot, hstop⟩⟩
  · have hl := hR1.x.le
    go_wp2
    go_ret
    refine ⟨r1, ?_, ⟨hK1, hf1⟩, hR1⟩
    rw [decide_eq_false (fun h => h.1 (by omega))]
    rfl
  · have c3 := (rd_c0 hR1.x.blk).2.2.2.1
    rw [hstop] at c3
    rcases hst with e1 | e1 | e1 <;> rw [e1] at c3
    · rw [stopV_1] at c3
      have HI := hid (is0_AA 1 1 w1)
      go_wp2_with fail
      refine HI.out.mono ?_
      rintro e w2 ⟨rfl, rfl⟩
      go_wp2
      go_ret
      refine ⟨r1, ?_, ⟨hK1, hf1⟩, hR1⟩
      rw [decide_eq_true ⟨hnot, e1⟩]
      rfl
    · rw [stopV_14] at c3
      have HI := hid (is0_AA 14 1 w1)
      go_wp2_with fail
      refine HI.out.mono ?_
      rintro e w2 ⟨rfl, rfl⟩
      go_wp2
      go_ret
      refine ⟨r1, ?_, ⟨hK1, hf1⟩, hR1⟩
      rw [decide_eq_false (fun h => by omega)]
      rfl
    · rw [stopV_16] at c3
      have HI := hid (is0_PA 1 1 w1)
      go_wp2_with fail
      refine HI.out.mono ?_
      rintro e w2 ⟨rfl, rfl⟩
      go_wp2
      go_ret
      refine ⟨r1, ?_, ⟨hK1, hf1⟩, hR1⟩
      rw [decide_eq_false (fun h => by omega)]
      rfl
end Go.Proofs.YtgkenhmbilkhdaaGreatDoor
