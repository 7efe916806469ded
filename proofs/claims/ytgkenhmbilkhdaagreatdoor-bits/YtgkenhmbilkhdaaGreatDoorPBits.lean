import Derived.Test.YtgkenhmbilkhdaaGreatDoorGFastRd2
import Derived.Test.YtgkenhmbilkhdaaGreatDoorFaultP
namespace Go.Proofs.YtgkenhmbilkhdaaGreatDoor
open Go.RowKit

/-- Package plain's reader. -/
def pbCells (k p c : Nat) : Array Value := #[rdV k p, .pointer (some ⟨c, 0, none⟩)]
def faultV (e f a : Int) : Value := .agg #[.int .i64 e, .int .i64 f, .int .i64 a]

theorem Ground0.belowB {w w' : World} {B : Nat} (h : Ground0 w) (hB : 8 ≤ B) (hb : Below B w w') : Ground0 w' :=
  ⟨h.1.below (by omega) hb, (hb.cell (p := ⟨0, 0, none⟩) (by show 0 < B; omega)).trans h.2⟩

theorem rdAt (k : Nat) (hk : k = 0 ∨ k = 1) (B p c : Nat) (S : Src) (I : Inp) (pos : Nat) (mk : Bool) (mark : Nat) (r : RdS) (pb : Nat) (w : World) (h : RdK k w B p c S I pos mk mark r) (hP : Blk w pb (pbCells k p c) 90) :
    Calls Tryz.prog 46 #[.pointer (some ⟨pb, 0, none⟩)] w fun e w' => e = .returned (.int .i64 (pos : Int)) ∧ w' = w := by
  have d0 := hP.cell 0
  simp [pbCells] at d0
  rcases hk with rfl | rfl
  · have h' : RdOk w B p c 279 [] S I pos mk mark r := h
    have c4 := (rd_c0 h'.x.blk).2.2.2.2.1
    rw [show rdV 0 p = .iface 216 (.pointer (some ⟨p, 0, none⟩)) from rfl] at d0
    go_enter Tryz.func46, Tryz.ntmps46
    go_wp2
    go_ret
    exact ⟨rfl, rfl⟩
  · obtain ⟨pool, held, h', _⟩ := h.of_fast
    have c4 := (rd_c0 h'.x.blk).2.2.2.2.1
    rw [show rdV 1 p = .iface 214 (.pointer (some ⟨p, 0, none⟩)) from rfl] at d0
    go_enter Tryz.func46, Tryz.ntmps46
    go_wp2
    go_ret
    exact ⟨rfl, rfl⟩

theorem RdK.x {k : Nat} {w : World} {B p c : Nat} {S : Src} {I : Inp} {pos : Nat} {mk : Bool} {mark : Nat} {r : RdS} (h : RdK k w B p c S I pos mk mark r) : ∃ t ex, RdOk w B p c t ex S I pos mk mark r ∧ (t = 279 ∨ t = 277) := by
  unfold RdK at h
  split at h
  · exact ⟨_, _, h, Or.inl rfl⟩
  · obtain ⟨pool, held, h, _⟩ := h
    exact ⟨_, _, h, Or.inr rfl⟩
/-- A block of another type is not a reader's. -/
theorem RdK.far {k : Nat} {w : World} {B p c : Nat} {S : Src} {I : Inp} {pos : Nat} {mk : Bool} {mark : Nat} {r : RdS} (h : RdK k w B p c S I pos mk mark r) {b : Nat} {cs : Array Value} {t : TypeId} (hb : Blk w b cs t) (h1 : t ≠ 279) (h2 : t ≠ 277) (h3 : t ≠ 84) (h4 : t ≠ 5) : b ∉ p :: c :: rowX r.hv := by
  obtain ⟨t', ex, h, ht⟩ := h.x
  simp only [List.mem_cons, not_or]
  refine ⟨hb.ne h.x.blk ?_, hb.ne h.x.src h3, h.x.row.ne hb h4⟩
  rcases ht with rfl | rfl
  · exact h1
  · exact h2
theorem RdK.below {k : Nat} {w w' : World} {B p c : Nat} {S : Src} {I : Inp} {pos : Nat} {mk : Bool} {mark : Nat} {r : RdS} (h : RdK k w B p c S I pos mk mark r) (hb : Below w.heap.size w w') : RdK k w' B p c S I pos mk mark r := by
  unfold RdK at *
  split at h
  · rename_i e; rw [if_pos e]; exact h.below hb
  · rename_i e; rw [if_neg e]
    obtain ⟨pool, held, h, hE⟩ := h
    exact ⟨pool, held, h.below hb, hE⟩
theorem RdK.kept {k : Nat} {w w' : World} {B p c : Nat} {S : Src} {I : Inp} {pos : Nat} {mk : Bool} {mark : Nat} {r : RdS} {X : List Nat} (h : RdK k w B p c S I pos mk mark r) (hK : KeptX X w w') (hX : ∀ i ∈ X, B ≤ i) (hd : ∀ i ∈ p :: c :: rowX r.hv, i ∉ X) : RdK k w' B p c S I pos mk mark r := by
  have e : ∀ t ex, RdOk w B p c t ex S I pos mk mark r → RdOk w' B p c t ex S I pos mk mark r := fun t ex h => ⟨h.x.kept hK hX (hd p (by simp)) (hd c (by simp)) (fun g hg => hd g (by simp [hg])), h.le, h.keep, h.mark⟩
  unfold RdK at *
  split at h
  · rename_i e1; rw [if_pos e1]; exact e _ _ h
  · rename_i e1; rw [if_neg e1]
    obtain ⟨pool, held, h, hE⟩ := h
    exact ⟨pool, held, e _ _ h, hE⟩
theorem RdK.bounds {k : Nat} {w : World} {B p c : Nat} {S : Src} {I : Inp} {pos : Nat} {mk : Bool} {mark : Nat} {r : RdS} (h : RdK k w B p c S I pos mk mark r) : pos ≤ 8 * I.T.length ∧ I.T.length ≤ 1048576 ∧ (I.st = 1 ∨ I.st = 14 ∨ I.st = 16) ∧ B ≤ w.heap.size ∧ (∀ i ∈ p :: c :: rowX r.hv, B ≤ i) := by
  obtain ⟨t', ex, h, ht⟩ := h.x
  have h1 := h.le
  have h2 := h.x.le
  exact ⟨by omega, h.x.len.2, h.x.st, h.x.geB.2.2, h.x.foot⟩

/-- A fault's block that is written. -/
theorem put_fault {w : World} {b : Nat} (h : Blk w b #[.int .i64 0, .int .i64 0, .int .i64 0] 26) (x y z : Int) :
    (w.cell? ⟨b, 0, none⟩ = some (.int .i64 0) ∧ w.cell? ⟨b, 1, none⟩ = some (.int .i64 0) ∧ w.cell? ⟨b, 2, none⟩ = some (.int .i64 0)) ∧ (w.frozen? ⟨b, 0, none⟩ = false ∧ w.frozen? ⟨b, 1, none⟩ = false ∧ w.frozen? ⟨b, 2, none⟩ = false) ∧
    Hid (let W := ((w.setCell ⟨b, 0, none⟩ (.int .i64 x)).setCell ⟨b, 1, none⟩ (.int .i64 y)).setCell ⟨b, 2, none⟩ (.int .i64 z); W.cell? ⟨b, 0, none⟩ = some (.int .i64 x) ∧ W.cell? ⟨b, 1, none⟩ = some (.int .i64 y) ∧ W.cell? ⟨b, 2, none⟩ = some (.int .i64 z)) := by
  have h3 := (((h.set 0 (.int .i64 x)).set 1 (.int .i64 y)).set 2 (.int .i64 z))
  refine ⟨⟨(h.cell 0).trans rfl, (h.cell 1).trans rfl, (h.cell 2).trans rfl⟩, ⟨h.free 0, h.free 1, h.free 2⟩, (h3.cell 0).trans ?_, (h3.cell 1).trans ?_, (h3.cell 2).trans ?_⟩ <;> simp

/-- What a call on package plain's reader leaves. -/
def Step (k : Nat) (w : World) (B p c : Nat) (S : Src) (I : Inp) (mk : Bool) (mark : Nat) (r : RdS) (pos' : Nat) (w' : World) : Prop := ∃ r', Moved w w' p c r r' ∧ RdK k w' B p c S I pos' mk mark r'
def ItoaAll : Prop := ∀ n : Nat, n ≤ 1048576 → ItoaOk (n : Int)

theorem Moved.blk {k : Nat} {w w' : World} {B p c : Nat} {S : Src} {I : Inp} {pos : Nat} {mk : Bool} {mark : Nat} {r r' : RdS} (hM : Moved w w' p c r r') (h : RdK k w B p c S I pos mk mark r) {b : Nat} {cs : Array Value} {t : TypeId} (hb : Blk w b cs t) (h1 : t ≠ 279) (h2 : t ≠ 277) (h3 : t ≠ 84) (h4 : t ≠ 5) : Blk w' b cs t :=
  hM.1.blk hb (h.far hb h1 h2 h3 h4)
/-- Behind a call on the reader, and the fault's making: the end. -/
theorem step_end {k : Nat} {w w1 w2 : World} {B p c : Nat} {S : Src} {I : Inp} {pos pos' : Nat} {mk : Bool} {mark : Nat} {r r1 : RdS} (h : RdK k w B p c S I pos mk mark r) (hM : Moved (w.alloc (.cells #[.int .i64 0, .int .i64 0, .int .i64 0] 26)) w1 p c r r1) (hR : RdK k w1 B p c S I pos' mk mark r1) (hb : Below w1.heap.size w1 w2) (x y z : Value) :
    Step k w B p c S I mk mark r pos' (((w2.setCell ⟨w.heap.size, 0, none⟩ x).setCell ⟨w.heap.size, 1, none⟩ y).setCell ⟨w.heap.size, 2, none⟩ z) := by
  have hw0 : Below w.heap.size w (w.alloc (.cells #[.int .i64 0, .int .i64 0, .int .i64 0] 26)) := by go_grown
  have hM0 : Moved w w1 p c r r1 := ⟨(KeptX.of_below (X := []) hw0).trans hM.1 (by simp) (fun i _ hi => hi), fun g hg => by
    rcases hM.2 g hg with h3 | h3
    · exact Or.inl h3
    · exact Or.inr (Nat.le_trans hw0.size h3)⟩
  have hR2 := hR.below hb
  have hrb : Blk (w.alloc (.cells #[.int .i64 0, .int .i64 0, .int .i64 0] 26)) w.heap.size #[.int .i64 0, .int .i64 0, .int .i64 0] 26 := Blk.new _ _ _
  have hrb1 := (hM.blk (h.below hw0) hrb (by decide) (by decide) (by decide) (by decide))
  have hrb2 := hrb1.below hb hrb1.lt
  have hfar := hR2.far hrb2 (by decide) (by decide) (by decide) (by decide)
  have hK3 : KeptX [w.heap.size] w2 (((w2.setCell ⟨w.heap.size, 0, none⟩ x).setCell ⟨w.heap.size, 1, none⟩ y).setCell ⟨w.heap.size, 2, none⟩ z) := (((KeptX.refl _ _).setCell (by simp) 0 _).setCell (by simp) 1 _).setCell (by simp) 2 _
  refine ⟨r1, ⟨(hM0.1.trans (KeptX.of_below (X := []) hb) (fun i hi => hi) (by simp)).trans hK3 (fun i hi => hi) (fun i hlt hi => by simp at hi; omega), hM0.2⟩, ?_⟩
  exact hR2.kept hK3 (by simp; exact h.bounds.2.2.2.1) (fun i hi hx => by
    simp at hx
    subst hx
    exact hfar hi)

set_option maxHeartbeats 8000000 in
set_option maxRecDepth 10000 in
theorem pbRead (HI : ItoaAll) (k : Nat) (hk : k = 0 ∨ k = 1) (B p c : Nat) (S : Src) (I : Inp) (pos : Nat) (mk : Bool) (mark : Nat) (r : RdS) (pb n : Nat) (hn : n ≤ 64) (w : World) (hB : 8 ≤ B) (hG : Ground0 w) (h : RdK k w B p c S I pos mk mark r) (hP : Blk w pb (pbCells k p c) 90) :
    Calls Tryz.prog 44 #[.pointer (some ⟨pb, 0, none⟩), .int .i64 n] w fun e w' =>
      (pos + n ≤ 8 * I.T.length ∧ e = .returned (.tuple #[.int .i64 (wrap64 (valAt I.T pos n : Nat)), faultV 0 0 0]) ∧ Step k w B p c S I mk mark r (pos + n) w') ∨
      (¬ pos + n ≤ 8 * I.T.length ∧ e = .returned (.tuple #[.int .i64 0, faultV (stopE I.st : Nat) (-1) ((pos / 8 : Nat) : Int)]) ∧ Step k w B p c S I mk mark r pos w') := by
  have hbd := h.bounds
  have hw0 : Below w.heap.size w (w.alloc (.cells #[.int .i64 0, .int .i64 0, .int .i64 0] 26)) := by go_grown
  have h0 := h.below hw0
  have hP0 := hP.below hw0 hP.lt
  have d0 := hP0.cell 0
  simp only [pbCells, List.getElem?_toArray, List.getElem?_cons_zero] at d0
  have hrb : Blk (w.alloc (.cells #[.int .i64 0, .int .i64 0, .int .i64 0] 26)) w.heap.size #[.int .i64 0, .int .i64 0, .int .i64 0] 26 := Blk.new _ _ _
  have HRB : Hid (∀ w1 r1, Moved (w.alloc (.cells #[.int .i64 0, .int .i64 0, .int .i64 0] 26)) w1 p c r r1 → Blk w1 w.heap.size #[.int .i64 0, .int .i64 0, .int .i64 0] 26) := fun w1 r1 hM => hM.blk h0 hrb (by decide) (by decide) (by decide) (by decide)
  have HGD : Hid (∀ w1 r1, Moved (w.alloc (.cells #[.int .i64 0, .int .i64 0, .int .i64 0] 26)) w1 p c r r1 → Ground0 w1) := fun w1 r1 hM => (hG.below hw0).belowB hB (hM.1.below hbd.2.2.2.2 (Nat.le_trans hbd.2.2.2.1 hw0.size))
  have HH := hid h
  clear h hrb
  rcases hk with rfl | rfl
  · rw [show rdV 0 p = .iface 216 (.pointer (some ⟨p, 0, none⟩)) from rfl] at d0
    have HC := hid (slowRead B p c S I pos mk mark r n hn _ h0)
    go_enter Tryz.func44, Tryz.ntmps44
    go_wp2_with fail
    refine HC.out.mono ?_
    rintro e w1 ⟨r1, hM, ⟨hle, rfl, hR1⟩ | ⟨hle, hR1, b, rfl, hT⟩⟩
    · have hrb1 := HRB.out w1 r1 hM
      go_wp2_with fail
      refine (fault_nil _).mono ?_
      rintro e w2 ⟨rfl, hb2⟩
      obtain ⟨⟨y0, y1, y2⟩, ⟨z0, z1, z2⟩, g⟩ := put_fault (hrb1.below hb2 hrb1.lt) 0 0 0
      have HST := hid (step_end HH.out hM hR1 hb2 (.int .i64 0) (.int .i64 0) (.int .i64 0))
      go_wp2
      refine bodyPost_ret (v := .tuple #[.int .i64 (wrap64 (valAt I.T pos n : Nat)), faultV 0 0 0]) (by simp [results, Tryz.results44, go_sem, g.out, faultV]) rfl ?_
      exact Or.inl ⟨hle, rfl, HST.out⟩
    · have hrb1 := HRB.out w1 r1 hM
      unfold errP
      go_wp2_with fail
      refine (fault_stop b (stopE I.st) (by have := hbd.2.2.1; unfold stopE; split <;> omega) _ (HI (pos / 8) (by omega)) _ (HGD.out w1 r1 hM).1 (HGD.out w1 r1 hM).2 hT.2).mono ?_
      rintro e w2 ⟨rfl, hb2⟩
      obtain ⟨⟨y0, y1, y2⟩, ⟨z0, z1, z2⟩, g⟩ := put_fault (hrb1.below hb2 hrb1.lt) (stopE I.st : Nat) (-1) ((pos / 8 : Nat) : Int)
      have HST := hid (step_end HH.out hM hR1 hb2 (.int .i64 (stopE I.st : Nat)) (.int .i64 (-1)) (.int .i64 ((pos / 8 : Nat) : Int)))
      generalize hee : stopE I.st = ee at *
      generalize haa : pos / 8 = aa at *
      go_wp2
      refine bodyPost_ret (v := .tuple #[.int .i64 0, faultV (ee : Nat) (-1) (aa : Nat)]) (by simp [results, Tryz.results44, go_sem, g.out, faultV]) rfl ?_
      exact Or.inr ⟨hle, by rw [hee, haa], HST.out⟩
  · rw [show rdV 1 p = .iface 214 (.pointer (some ⟨p, 0, none⟩)) from rfl] at d0
    have HC := hid (fastRead B p c S I pos mk mark r n hn _ h0)
    go_enter Tryz.func44, Tryz.ntmps44
    go_wp2_with fail
    refine HC.out.mono ?_
    rintro e w1 ⟨r1, hM, ⟨hle, rfl, hR1⟩ | ⟨hle, hR1, b, rfl, hT⟩⟩
    · have hrb1 := HRB.out w1 r1 hM
      go_wp2_with fail
      refine (fault_nil _).mono ?_
      rintro e w2 ⟨rfl, hb2⟩
      obtain ⟨⟨y0, y1, y2⟩, ⟨z0, z1, z2⟩, g⟩ := put_fault (hrb1.below hb2 hrb1.lt) 0 0 0
      have HST := hid (step_end HH.out hM hR1 hb2 (.int .i64 0) (.int .i64 0) (.int .i64 0))
      go_wp2
      refine bodyPost_ret (v := .tuple #[.int .i64 (wrap64 (valAt I.T pos n : Nat)), faultV 0 0 0]) (by simp [results, Tryz.results44, go_sem, g.out, faultV]) rfl ?_
      exact Or.inl ⟨hle, rfl, HST.out⟩
    · have hrb1 := HRB.out w1 r1 hM
      unfold errP
      go_wp2_with fail
      refine (fault_stop b (stopE I.st) (by have := hbd.2.2.1; unfold stopE; split <;> omega) _ (HI (pos / 8) (by omega)) _ (HGD.out w1 r1 hM).1 (HGD.out w1 r1 hM).2 hT.2).mono ?_
      rintro e w2 ⟨rfl, hb2⟩
      obtain ⟨⟨y0, y1, y2⟩, ⟨z0, z1, z2⟩, g⟩ := put_fault (hrb1.below hb2 hrb1.lt) (stopE I.st : Nat) (-1) ((pos / 8 : Nat) : Int)
      have HST := hid (step_end HH.out hM hR1 hb2 (.int .i64 (stopE I.st : Nat)) (.int .i64 (-1)) (.int .i64 ((pos / 8 : Nat) : Int)))
      generalize hee : stopE I.st = ee at *
      generalize haa : pos / 8 = aa at *
      go_wp2
      refine bodyPost_ret (v := .tuple #[.int .i64 0, faultV (ee : Nat) (-1) (aa : Nat)]) (by simp [results, Tryz.results44, go_sem, g.out, faultV]) rfl ?_
      exact Or.inr ⟨hle, by rw [hee, haa], HST.out⟩
end Go.Proofs.YtgkenhmbilkhdaaGreatDoor
