import Derived.Test.YtgkenhmbilkhdaaGreatDoorGFault
import Derived.Test.YtgkenhmbilkhdaaGreatDoorGFeed2
import Derived.Test.YtgkenhmbilkhdaaGreatDoorGFastRd2
namespace Go.Proofs.YtgkenhmbilkhdaaGreatDoor
open Go.RowKit

set_option maxHeartbeats 4000000 in
theorem fault_P (b : Nat) (f a : Int) (hf : ItoaOk f) (ha : ItoaOk a) (w : World) (ht : Tab w)
    (hg : w.cell? ⟨0, 0, none⟩ = some (.iface 258 (.agg #[.pointer (some ⟨8, 78, none⟩)])))
    (hE : ErrAt b f a (.iface 203 (.int .i64 1)) w) :
    Calls Tryz.prog 36 #[.iface 155 (.pointer (some ⟨b, 0, none⟩))] w fun e w' => e = .returned (.agg #[.int .i64 16, .int .i64 f, .int .i64 a]) ∧ Below w.heap.size w w' := by
  go_enter Tryz.func36, Tryz.ntmps36
  go_wp2
  go_loopw [4] (fun i wr => ∃ k : Nat, 1 ≤ k ∧ k ≤ 17 ∧ i = .int .i64 k ∧ FaultW w (found 16 k) 0 0 wr) (fun i _ => 17 - (intOf i).toNat)
  case atStart => exact ⟨1, by omega, by omega, rfl, by rw [found, if_neg (by omega)]; exact ⟨by go_grown, (Blk.new _ _ _).alloc _, by simpa using Blk.new (w.alloc (.cells #[.int .i64 0, .int .i64 0, .int .i64 0] 26)) #[.int .i64 (-1), .int .i64 0, .int .i64 0] 26⟩⟩
  case round =>
    obtain ⟨k, hk1, hk2, rfl, hF⟩ := hrel
    by_cases h17 : k = 17
    · subst h17
      clear hk1 hk2
      rw [found, if_pos (by omega)] at hF
      have hg1 : wr.cell? ⟨0, 0, none⟩ = some (.iface 258 (.agg #[.pointer (some ⟨8, 78, none⟩)])) := by
        have hlt : 0 < w.heap.size := by
          rcases Nat.lt_or_ge 0 w.heap.size with h | h
          · exact h
          · simp [World.cell?, Array.getElem?_eq_none h] at hg
        exact (hF.1.cell (p := ⟨0, 0, none⟩) hlt).trans hg
      go_wp2_with fail
      refine (as_hit' _ _ hg1).mono ?_
      rintro e w1 ⟨rfl, hb1, hB1⟩
      have hF1 := hF.next hb1
      have hE1 := hE.below hE.lt hF1.1
      obtain ⟨hc0, hc1, hc2⟩ := hE1
      have hp0 := hB1.cell 0
      have hx0 := hF1.2.2.cell 0
      have hx1 := hF1.2.2.cell 1
      have hx2 := hF1.2.2.cell 2
      have hz0 := hF1.2.2.free 0
      have hz1 := hF1.2.2.free 1
      have hz2 := hF1.2.2.free 2
      simp at hp0 hx0 hx1 hx2
      have hn1 : b ≠ w.heap.size + 1 := by have := hE.lt; omega
      have hn2 : wr.heap.size ≠ w.heap.size + 1 := by have := hF.2.2.lt; omega
      have hr1 := cell_far hn1
      have hr2 := cell_far hn2
      go_wp2
      go_region_held3 (fun w' => w'.cell? ⟨wr.heap.size, 0, none⟩ = some (.pointer (some ⟨b, 0, none⟩)) ∧ w'.cell? ⟨b, 0, none⟩ = some (.int .i64 f) ∧ w'.cell? ⟨b, 1, none⟩ = some (.int .i64 a)) (go_keep) (fail)
      go_wp2_with fail
      have hF2 : FaultW w 16 f a ((w1.setCell ⟨w.heap.size + 1, 1, none⟩ (.int .i64 f)).setCell ⟨w.heap.size + 1, 2, none⟩ (.int .i64 a)).drew :=
        ⟨(((hF1.1.setCell (p := ⟨w.heap.size + 1, 1, none⟩) (by simp) _).setCell (p := ⟨w.heap.size + 1, 2, none⟩) (by simp) _)).drew, ((hF1.2.1.other (p := ⟨w.heap.size + 1, 1, none⟩) (by simp) _).other (p := ⟨w.heap.size + 1, 2, none⟩) (by simp) _).drew, ((hF1.2.2.set 1 _).set 2 _).drew⟩
      refine (errText b f a 1 _ (Or.inr rfl) hf ha _ (ht.below ht.lt hF2.1) (hE.below hE.lt hF2.1)).mono ?_
      rintro e w2 ⟨s, rfl, hs1, hs2, hb2⟩
      have hF3 := hF2.next hb2
      clear hF2 hb2 hp0 hx0 hx1 hx2 hz0 hz1 hz2 hr1 hr2 hc0 hc1 hc2
      have hx0 := hF3.2.2.cell 0
      have hx1 := hF3.2.2.cell 1
      have hx2 := hF3.2.2.cell 2
      have hy0 := hF3.2.1.cell 0
      have hy1 := hF3.2.1.cell 1
      have hy2 := hF3.2.1.cell 2
      have hz0 := hF3.2.1.free 0
      have hz1 := hF3.2.1.free 1
      have hz2 := hF3.2.1.free 2
      simp at hx0 hx1 hx2 hy0 hy1 hy2
      have hse := text_some hs1
      have g0 := World.cell?_setCell_same w2 ⟨w.heap.size, 0, none⟩ (.int .i64 16) hy0
      have g1 := (hF3.2.1.set 0 (.int .i64 16)).set 1 (.int .i64 f)
      have g2 := g1.set 2 (.int .i64 a)
      have g1 := g1.cell 1
      have g2 := g2.cell 2
      simp at g1 g2
      go_wp2
      refine bodyPost_ret (v := .agg #[.int .i64 16, .int .i64 f, .int .i64 a]) (by simp [results, Tryz.results36, go_sem, g0, g1, g2]) rfl ?_
      exact ⟨rfl, ((hF3.1.setCell (p := ⟨w.heap.size, 0, none⟩) (by simp) _).setCell (p := ⟨w.heap.size, 1, none⟩) (by simp) _).setCell (p := ⟨w.heap.size, 2, none⟩) (by simp) _⟩
    · by_cases h16 : k = 16
      · subst h16
        clear hk1 hk2 h17
        rw [found, if_neg (by omega)] at hF
        go_wp2_with fail
        refine (codes_calls _).mono ?_
        rintro e w1 ⟨rfl, hb1⟩
        have hF1 := hF.next hb1
        have hi := codes_last
        have hE1 := hE.below hE.lt hF1.1
        go_wp2_with fail
        refine (is_PP b 1 1 _ hE1.2.2).mono ?_
        rintro e w2 ⟨rfl, rfl⟩
        have hx := hF1.2.2.cell 0
        have hfr := hF1.2.2.free 0
        simp at hx
        go_wp2
        go_roundw
        case rel => exact ⟨17, by omega, by omega, by go_num, by rw [found, if_pos (by omega)]; exact hF1.put _⟩
        case measure => simp [intOf]
      · have hlt : (k : Int) < 17 := by omega
        rw [found, if_neg (by omega)] at hF
        go_wp2_with fail
        refine (codes_calls _).mono ?_
        rintro e w1 ⟨rfl, hb1⟩
        have hF1 := hF.next hb1
        have hi := codes_idx k hk1 (by omega)
        have hE1 := hE.below hE.lt hF1.1
        go_wp2_with fail
        refine (is_PA b 1 k _ hE1.2.2).mono ?_
        rintro e w2 ⟨rfl, rfl⟩
        go_wp2
        go_roundw
        case rel => exact ⟨k + 1, by omega, by omega, by go_num, by
          rw [found, if_neg (by omega)]; exact hF1⟩
        case measure => simp [intOf]; omega

/-- The fault of what stands in the way. -/
theorem fault_stop (b e : Nat) (he : e = 3 ∨ e = 14 ∨ e = 15 ∨ e = 16) (a : Int) (ha : ItoaOk a) (w : World) (ht : Tab w)
    (hg : w.cell? ⟨0, 0, none⟩ = some (.iface 258 (.agg #[.pointer (some ⟨8, 78, none⟩)])))
    (hE : ErrAt b (-1) a (stopV e) w) :
    Calls Tryz.prog 36 #[.iface 155 (.pointer (some ⟨b, 0, none⟩))] w fun x w' => x = .returned (.agg #[.int .i64 (e : Nat), .int .i64 (-1), .int .i64 a]) ∧ Below w.heap.size w w' := by
  rcases he with rfl | rfl | rfl | rfl
  · exact fault_A b 3 (by omega) (by omega) (-1) a itoa_neg1 ha w ht hg hE
  · exact fault_A b 14 (by omega) (by omega) (-1) a itoa_neg1 ha w ht hg hE
  · exact fault_A b 15 (by omega) (by omega) (-1) a itoa_neg1 ha w ht hg hE
  · exact fault_P b (-1) a itoa_neg1 ha w ht hg hE
end Go.Proofs.YtgkenhmbilkhdaaGreatDoor

namespace Go.Proofs.YtgkenhmbilkhdaaGreatDoor
open Go.RowKit

/-- Package plain's reader. -/
def pbCells (k p c : Nat) : Array Value := #[rdV k p, .pointer (some ⟨c, 0, none⟩)]
def faultV (e f a : Int) : Value := .agg #[.int .i64 e, .int .i64 f, .int .i64 a]

theorem Ground0.belowB {w w' : World} {B : Nat} (h : Ground0 w) (hB : 8 ≤ B) (hb : Below B w w') : Ground0 w' :=
  ⟨h.1.below (by omega) hb, (hb.cell (p := ⟨0, 0, none⟩) (by show 0 < B; omega)).trans h.2⟩

theorem rdAt (k : Nat) (hk : k = 0 ∨ k = 1) (B p c : Nat) (S : Src) (I : Inp) (pos : Nat) (mk : Bool) (mark : Nat) (r : RdS) (pb : Nat) (w : World) (h : RdK k w B p c S I pos mk mark r) (hP : Blk w pb (pbCells k p c) 90) :
    Calls Tryz.prog 46 #[.pointer (some ⟨pb, 0, none⟩)] w fun e w' => e = .returned (.int .i64 (pos : Int)) ∧ w' = w := by
  have d0 := hP.cell 0
  simp [pbCells] at d0
  rcases hk with rfl | rfl
  · have h' : RdOk w B p c 279 [] S I pos mk mark r := h
    have c4 := (rd_c0 h'.x.blk).2.2.2.2.1
    rw [show rdV 0 p = .iface 216 (.pointer (some ⟨p, 0, none⟩)) from rfl] at d0
    go_enter Tryz.func46, Tryz.ntmps46
    go_wp2
    go_ret
    exact ⟨rfl, rfl⟩
  · obtain ⟨pool, held, h', _⟩ := h.of_fast
    have c4 := (rd_c0 h'.x.blk).2.2.2.2.1
    rw [show rdV 1 p = .iface 214 (.pointer (some ⟨p, 0, none⟩)) from rfl] at d0
    go_enter Tryz.func46, Tryz.ntmps46
    go_wp2
    go_ret
    exact ⟨rfl, rfl⟩

theorem RdK.x {k : Nat} {w : World} {B p c : Nat} {S : Src} {I : Inp} {pos : Nat} {mk : Bool} {mark : Nat} {r : RdS} (h : RdK k w B p c S I pos mk mark r) : ∃ t ex, RdOk w B p c t ex S I pos mk mark r ∧ (t = 279 ∨ t = 277) := by
  unfold RdK at h
  split at h
  · exact ⟨_, _, h, Or.inl rfl⟩
  · obtain ⟨pool, held, h, _⟩ := h
    exact ⟨_, _, h, Or.inr rfl⟩
/-- A block of another type is not a reader's. -/
theorem RdK.far {k : Nat} {w : World} {B p c : Nat} {S : Src} {I : Inp} {pos : Nat} {mk : Bool} {mark : Nat} {r : RdS} (h : RdK k w B p c S I pos mk mark r) {b : Nat} {cs : Array Value} {t : TypeId} (hb : Blk w b cs t) (h1 : t ≠ 279) (h2 : t ≠ 277) (h3 : t ≠ 84) (h4 : t ≠ 5) : b ∉ p :: c :: rowX r.hv := by
  obtain ⟨t', ex, h, ht⟩ := h.x
  simp only [List.mem_cons, not_or]
  refine ⟨hb.ne h.x.blk ?_, hb.ne h.x.src h3, h.x.row.ne hb h4⟩
  rcases ht with rfl | rfl
  · exact h1
  · exact h2
theorem RdK.below {k : Nat} {w w' : World} {B p c : Nat} {S : Src} {I : Inp} {pos : Nat} {mk : Bool} {mark : Nat} {r : RdS} (h : RdK k w B p c S I pos mk mark r) (hb : Below w.heap.size w w') : RdK k w' B p c S I pos mk mark r := by
  unfold RdK at *
  split at h
  · rename_i e; rw [if_pos e]; exact h.below hb
  · rename_i e; rw [if_neg e]
    obtain ⟨pool, held, h, hE⟩ := h
    exact ⟨pool, held, h.below hb, hE⟩
theorem RdK.kept {k : Nat} {w w' : World} {B p c : Nat} {S : Src} {I : Inp} {pos : Nat} {mk : Bool} {mark : Nat} {r : RdS} {X : List Nat} (h : RdK k w B p c S I pos mk mark r) (hK : KeptX X w w') (hX : ∀ i ∈ X, B ≤ i) (hd : ∀ i ∈ p :: c :: rowX r.hv, i ∉ X) : RdK k w' B p c S I pos mk mark r := by
  have e : ∀ t ex, RdOk w B p c t ex S I pos mk mark r → RdOk w' B p c t ex S I pos mk mark r := fun t ex h => ⟨h.x.kept hK hX (hd p (by simp)) (hd c (by simp)) (fun g hg => hd g (by simp [hg])), h.le, h.keep, h.mark⟩
  unfold RdK at *
  split at h
  · rename_i e1; rw [if_pos e1]; exact e _ _ h
  · rename_i e1; rw [if_neg e1]
    obtain ⟨pool, held, h, hE⟩ := h
    exact ⟨pool, held, e _ _ h, hE⟩
theorem RdK.bounds {k : Nat} {w : World} {B p c : Nat} {S : Src} {I : Inp} {pos : Nat} {mk : Bool} {mark : Nat} {r : RdS} (h : RdK k w B p c S I pos mk mark r) : pos ≤ 8 * I.T.length ∧ I.T.length ≤ 1048576 ∧ (I.st = 1 ∨ I.st = 14 ∨ I.st = 16) ∧ B ≤ w.heap.size ∧ (∀ i ∈ p :: c :: rowX r.hv, B ≤ i) := by
  obtain ⟨t', ex, h, ht⟩ := h.x
  have h1 := h.le
  have h2 := h.x.le
  exact ⟨by omega, h.x.len.2, h.x.st, h.x.geB.2.2, h.x.foot⟩

/-- A fault's block that is written. -/
theorem put_fault {w : World} {b : Nat} (h : Blk w b #[.int .i64 0, .int .i64 0, .int .i64 0] 26) (x y z : Int) :
    (w.cell? ⟨b, 0, none⟩ = some (.int .i64 0) ∧ w.cell? ⟨b, 1, none⟩ = some (.int .i64 0) ∧ w.cell? ⟨b, 2, none⟩ = some (.int .i64 0)) ∧ (w.frozen? ⟨b, 0, none⟩ = false ∧ w.frozen? ⟨b, 1, none⟩ = false ∧ w.frozen? ⟨b, 2, none⟩ = false) ∧
    Hid (let W := ((w.setCell ⟨b, 0, none⟩ (.int .i64 x)).setCell ⟨b, 1, none⟩ (.int .i64 y)).setCell ⟨b, 2, none⟩ (.int .i64 z); W.cell? ⟨b, 0, none⟩ = some (.int .i64 x) ∧ W.cell? ⟨b, 1, none⟩ = some (.int .i64 y) ∧ W.cell? ⟨b, 2, none⟩ = some (.int .i64 z)) := by
  have h3 := (((h.set 0 (.int .i64 x)).set 1 (.int .i64 y)).set 2 (.int .i64 z))
  refine ⟨⟨(h.cell 0).trans rfl, (h.cell 1).trans rfl, (h.cell 2).trans rfl⟩, ⟨h.free 0, h.free 1, h.free 2⟩, (h3.cell 0).trans ?_, (h3.cell 1).trans ?_, (h3.cell 2).trans ?_⟩ <;> simp

/-- What a call on package plain's reader leaves. -/
def Step (k : Nat) (w : World) (B p c : Nat) (S : Src) (I : Inp) (mk : Bool) (mark : Nat) (r : RdS) (pos' : Nat) (w' : World) : Prop := ∃ r', Moved w w' p c r r' ∧ RdK k w' B p c S I pos' mk mark r'
def ItoaAll : Prop := ∀ n : Nat, n ≤ 1048576 → ItoaOk (n : Int)

theorem Moved.blk {k : Nat} {w w' : World} {B p c : Nat} {S : Src} {I : Inp} {pos : Nat} {mk : Bool} {mark : Nat} {r r' : RdS} (hM : Moved w w' p c r r') (h : RdK k w B p c S I pos mk mark r) {b : Nat} {cs : Array Value} {t : TypeId} (hb : Blk w b cs t) (h1 : t ≠ 279) (h2 : t ≠ 277) (h3 : t ≠ 84) (h4 : t ≠ 5) : Blk w' b cs t :=
  hM.1.blk hb (h.far hb h1 h2 h3 h4)
/-- Behind a call on the reader, and the fault's making: the end. -/
theorem step_end {k : Nat} {w w1 w2 : World} {B p c : Nat} {S : Src} {I : Inp} {pos pos' : Nat} {mk : Bool} {mark : Nat} {r r1 : RdS} (h : RdK k w B p c S I pos mk mark r) (hM : Moved (w.alloc (.cells #[.int .i64 0, .int .i64 0, .int .i64 0] 26)) w1 p c r r1) (hR : RdK k w1 B p c S I pos' mk mark r1) (hb : Below w1.heap.size w1 w2) (x y z : Value) :
    Step k w B p c S I mk mark r pos' (((w2.setCell ⟨w.heap.size, 0, none⟩ x).setCell ⟨w.heap.size, 1, none⟩ y).setCell ⟨w.heap.size, 2, none⟩ z) := by
  have hw0 : Below w.heap.size w (w.alloc (.cells #[.int .i64 0, .int .i64 0, .int .i64 0] 26)) := by go_grown
  have hM0 : Moved w w1 p c r r1 := ⟨(KeptX.of_below (X := []) hw0).trans hM.1 (by simp) (fun i _ hi => hi), fun g hg => by
    rcases hM.2 g hg with h3 | h3
    · exact Or.inl h3
    · exact Or.inr (Nat.le_trans hw0.size h3)⟩
  have hR2 := hR.below hb
  have hrb : Blk (w.alloc (.cells #[.int .i64 0, .int .i64 0, .int .i64 0] 26)) w.heap.size #[.int .i64 0, .int .i64 0, .int .i64 0] 26 := Blk.new _ _ _
  have hrb1 := (hM.blk (h.below hw0) hrb (by decide) (by decide) (by decide) (by decide))
  have hrb2 := hrb1.below hb hrb1.lt
  have hfar := hR2.far hrb2 (by decide) (by decide) (by decide) (by decide)
  have hK3 : KeptX [w.heap.size] w2 (((w2.setCell ⟨w.heap.size, 0, none⟩ x).setCell ⟨w.heap.size, 1, none⟩ y).setCell ⟨w.heap.size, 2, none⟩ z) := (((KeptX.refl _ _).setCell (by simp) 0 _).setCell (by simp) 1 _).setCell (by simp) 2 _
  refine ⟨r1, ⟨(hM0.1.trans (KeptX.of_below (X := []) hb) (fun i hi => hi) (by simp)).trans hK3 (fun i hi => hi) (fun i hlt hi => by simp at hi; omega), hM0.2⟩, ?_⟩
  exact hR2.kept hK3 (by simp; exact h.bounds.2.2.2.1) (fun i hi hx => by
    simp at hx
    subst hx
    exact hfar hi)

set_option maxHeartbeats 8000000 in
set_option maxRecDepth 10000 in
theorem pbRead (HI : ItoaAll) (k : Nat) (hk : k = 0 ∨ k = 1) (B p c : Nat) (S : Src) (I : Inp) (pos : Nat) (mk : Bool) (mark : Nat) (r : RdS) (pb n : Nat) (hn : n ≤ 64) (w : World) (hB : 8 ≤ B) (hG : Ground0 w) (h : RdK k w B p c S I pos mk mark r) (hP : Blk w pb (pbCells k p c) 90) :
    Calls Tryz.prog 44 #[.pointer (some ⟨pb, 0, none⟩), .int .i64 n] w fun e w' =>
      (pos + n ≤ 8 * I.T.length ∧ e = .returned (.tuple #[.int .i64 (wrap64 (valAt I.T pos n : Nat)), faultV 0 0 0]) ∧ Step k w B p c S I mk mark r (pos + n) w') ∨
      (¬ pos + n ≤ 8 * I.T.length ∧ e = .returned (.tuple #[.int .i64 0, faultV (stopE I.st : Nat) (-1) ((pos / 8 : Nat) : Int)]) ∧ Step k w B p c S I mk mark r pos w') := by
  have hbd := h.bounds
  have hw0 : Below w.heap.size w (w.alloc (.cells #[.int .i64 0, .int .i64 0, .int .i64 0] 26)) := by go_grown
  have h0 := h.below hw0
  have hP0 := hP.below hw0 hP.lt
  have d0 := hP0.cell 0
  simp only [pbCells, List.getElem?_toArray, List.getElem?_cons_zero] at d0
  have hrb : Blk (w.alloc (.cells #[.int .i64 0, .int .i64 0, .int .i64 0] 26)) w.heap.size #[.int .i64 0, .int .i64 0, .int .i64 0] 26 := Blk.new _ _ _
  have HRB : Hid (∀ w1 r1, Moved (w.alloc (.cells #[.int .i64 0, .int .i64 0, .int .i64 0] 26)) w1 p c r r1 → Blk w1 w.heap.size #[.int .i64 0, .int .i64 0, .int .i64 0] 26) := fun w1 r1 hM => hM.blk h0 hrb (by decide) (by decide) (by decide) (by decide)
  have HGD : Hid (∀ w1 r1, Moved (w.alloc (.cells #[.int .i64 0, .int .i64 0, .int .i64 0] 26)) w1 p c r r1 → Ground0 w1) := fun w1 r1 hM => (hG.below hw0).belowB hB (hM.1.below hbd.2.2.2.2 (Nat.le_trans hbd.2.2.2.1 hw0.size))
  have HH := hid h
  clear h hrb
  rcases hk with rfl | rfl
  · rw [show rdV 0 p = .iface 216 (.pointer (some ⟨p, 0, none⟩)) from rfl] at d0
    have HC := hid (slowRead B p c S I pos mk mark r n hn _ h0)
    go_enter Tryz.func44, Tryz.ntmps44
    go_wp2_with fail
    refine HC.out.mono ?_
    rintro e w1 ⟨r1, hM, ⟨hle, rfl, hR1⟩ | ⟨hle, hR1, b, rfl, hT⟩⟩
    · have hrb1 := HRB.out w1 r1 hM
      go_wp2_with fail
      refine (fault_nil _).mono ?_
      rintro e w2 ⟨rfl, hb2⟩
      obtain ⟨⟨y0, y1, y2⟩, ⟨z0, z1, z2⟩, g⟩ := put_fault (hrb1.below hb2 hrb1.lt) 0 0 0
      have HST := hid (step_end HH.out hM hR1 hb2 (.int .i64 0) (.int .i64 0) (.int .i64 0))
      go_wp2
      refine bodyPost_ret (v := .tuple #[.int .i64 (wrap64 (valAt I.T pos n : Nat)), faultV 0 0 0]) (by simp [results, Tryz.results44, go_sem, g.out, faultV]) rfl ?_
      exact Or.inl ⟨hle, rfl, HST.out⟩
    · have hrb1 := HRB.out w1 r1 hM
      unfold errP
      go_wp2_with fail
      refine (fault_stop b (stopE I.st) (by have := hbd.2.2.1; unfold stopE; split <;> omega) _ (HI (pos / 8) (by omega)) _ (HGD.out w1 r1 hM).1 (HGD.out w1 r1 hM).2 hT.2).mono ?_
      rintro e w2 ⟨rfl, hb2⟩
      obtain ⟨⟨y0, y1, y2⟩, ⟨z0, z1, z2⟩, g⟩ := put_fault (hrb1.below hb2 hrb1.lt) (stopE I.st : Nat) (-1) ((pos / 8 : Nat) : Int)
      have HST := hid (step_end HH.out hM hR1 hb2 (.int .i64 (stopE I.st : Nat)) (.int .i64 (-1)) (.int .i64 ((pos / 8 : Nat) : Int)))
      generalize hee : stopE I.st = ee at *
      generalize haa : pos / 8 = aa at *
      go_wp2
      refine bodyPost_ret (v := .tuple #[.int .i64 0, faultV (ee : Nat) (-1) (aa : Nat)]) (by simp [results, Tryz.results44, go_sem, g.out, faultV]) rfl ?_
      exact Or.inr ⟨hle, by rw [hee, haa], HST.out⟩
  · rw [show rdV 1 p = .iface 214 (.pointer (some ⟨p, 0, none⟩)) from rfl] at d0
    have HC := hid (fastRead B p c S I pos mk mark r n hn _ h0)
    go_enter Tryz.func44, Tryz.ntmps44
    go_wp2_with fail
    refine HC.out.mono ?_
    rintro e w1 ⟨r1, hM, ⟨hle, rfl, hR1⟩ | ⟨hle, hR1, b, rfl, hT⟩⟩
    · have hrb1 := HRB.out w1 r1 hM
      go_wp2_with fail
      refine (fault_nil _).mono ?_
      rintro e w2 ⟨rfl, hb2⟩
      obtain ⟨⟨y0, y1, y2⟩, ⟨z0, z1, z2⟩, g⟩ := put_fault (hrb1.below hb2 hrb1.lt) 0 0 0
      have HST := hid (step_end HH.out hM hR1 hb2 (.int .i64 0) (.int .i64 0) (.int .i64 0))
      go_wp2
      refine bodyPost_ret (v := .tuple #[.int .i64 (wrap64 (valAt I.T pos n : Nat)), faultV 0 0 0]) (by simp [results, Tryz.results44, go_sem, g.out, faultV]) rfl ?_
      exact Or.inl ⟨hle, rfl, HST.out⟩
    · have hrb1 := HRB.out w1 r1 hM
      unfold errP
      go_wp2_with fail
      refine (fault_stop b (stopE I.st) (by have := hbd.2.2.1; unfold stopE; split <;> omega) _ (HI (pos / 8) (by omega)) _ (HGD.out w1 r1 hM).1 (HGD.out w1 r1 hM).2 hT.2).mono ?_
      rintro e w2 ⟨rfl, hb2⟩
      obtain ⟨⟨y0, y1, y2⟩, ⟨z0, z1, z2⟩, g⟩ := put_fault (hrb1.below hb2 hrb1.lt) (stopE I.st : Nat) (-1) ((pos / 8 : Nat) : Int)
      have HST := hid (step_end HH.out hM hR1 hb2 (.int .i64 (stopE I.st : Nat)) (.int .i64 (-1)) (.int .i64 ((pos / 8 : Nat) : Int)))
      generalize hee : stopE I.st = ee at *
      generalize haa : pos / 8 = aa at *
      go_wp2
      refine bodyPost_ret (v := .tuple #[.int .i64 0, faultV (ee : Nat) (-1) (aa : Nat)]) (by simp [results, Tryz.results44, go_sem, g.out, faultV]) rfl ?_
      exact Or.inr ⟨hle, by rw [hee, haa], HST.out⟩
end Go.Proofs.YtgkenhmbilkhdaaGreatDoor
