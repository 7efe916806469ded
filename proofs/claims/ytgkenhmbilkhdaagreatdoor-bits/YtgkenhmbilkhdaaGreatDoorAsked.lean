import Derived.Test.YtgkenhmbilkhdaaGreatDoorRefBits
namespace Go.Proofs.YtgkenhmbilkhdaaGreatDoor
open Go.RowKit

/-- What one question leaves. -/
def AskPost (k : Nat) (w : World) (B p c : Nat) (S : Src) (I : Inp) (mk : Bool) (mark : Nat) (r : RdS) (pb sb : Nat) (tx : ByteArray) (e : Ending) (w' : World) : Prop :=
  ∃ r' pos', e = .returned (.bool true) ∧ KeptX (sb :: p :: c :: rowX r.hv) w w' ∧ (∀ g ∈ rowX r'.hv, g ∈ rowX r.hv ∨ w.heap.size ≤ g) ∧ RdK k w' B p c S I pos' mk mark r' ∧ StAt w' sb tx I pos' ∧ Blk w' pb (pbCells k p c) 90

/-- A fault that has been told: its block. -/
theorem put_blk {w : World} {b : Nat} (h : Blk w b #[.int .i64 0, .int .i64 0, .int .i64 0] 26) (x y z : Int) : Blk (((w.setCell ⟨b, 0, none⟩ (.int .i64 x)).setCell ⟨b, 1, none⟩ (.int .i64 y)).setCell ⟨b, 2, none⟩ (.int .i64 z)) b #[.int .i64 x, .int .i64 y, .int .i64 z] 26 := ((h.set 0 _).set 1 _).set 2 _

/-- All that stands around one question. -/
structure Ask (k : Nat) (w : World) (B p c : Nat) (S : Src) (I : Inp) (pos : Nat) (mk : Bool) (mark : Nat) (r : RdS) (pb sb : Nat) (tx : ByteArray) : Prop where
  rd : RdK k w B p c S I pos mk mark r
  st : StAt w sb tx I pos
  pb : Blk w pb (pbCells k p c) 90
  ge : B ≤ sb

theorem Ask.below {k : Nat} {w w' : World} {B p c : Nat} {S : Src} {I : Inp} {pos : Nat} {mk : Bool} {mark : Nat} {r : RdS} {pb sb : Nat} {tx : ByteArray} (h : Ask k w B p c S I pos mk mark r pb sb tx) (hb : Below w.heap.size w w') : Ask k w' B p c S I pos mk mark r pb sb tx :=
  ⟨h.rd.below hb, ⟨h.st.1.below hb h.st.1.lt, h.st.2⟩, h.pb.below hb h.pb.lt, h.ge⟩

/-- Behind package plain's call, the fault's store and the document's call. -/
theorem ask_mid {k : Nat} {w w1 : World} {B p c : Nat} {S : Src} {I : Inp} {pos pos' : Nat} {mk : Bool} {mark : Nat} {r : RdS} {pb sb : Nat} {tx : ByteArray} (h : Ask k w B p c S I pos mk mark r pb sb tx) (hS : Step k (w.alloc (.cells #[.int .i64 0, .int .i64 0, .int .i64 0] 26)) B p c S I mk mark r pos' w1) (x y z : Int) :
    ∃ r1, Blk w1 w.heap.size #[.int .i64 0, .int .i64 0, .int .i64 0] 26 ∧ StAt (((w1.setCell ⟨w.heap.size, 0, none⟩ (.int .i64 x)).setCell ⟨w.heap.size, 1, none⟩ (.int .i64 y)).setCell ⟨w.heap.size, 2, none⟩ (.int .i64 z)) sb tx I pos ∧
      (∀ w2, KeptX [sb] (((w1.setCell ⟨w.heap.size, 0, none⟩ (.int .i64 x)).setCell ⟨w.heap.size, 1, none⟩ (.int .i64 y)).setCell ⟨w.heap.size, 2, none⟩ (.int .i64 z)) w2 → StAt w2 sb tx I pos' →
        Blk w2 w.heap.size #[.int .i64 x, .int .i64 y, .int .i64 z] 26 ∧ RdK k w2 B p c S I pos' mk mark r1 ∧ Blk w2 pb (pbCells k p c) 90 ∧ AskPost k w B p c S I mk mark r pb sb tx (.returned (.bool true)) w2) := by
  have hw0 : Below w.heap.size w (w.alloc (.cells #[.int .i64 0, .int .i64 0, .int .i64 0] 26)) := by go_grown
  have h0 := h.below hw0
  obtain ⟨r1, hM, hR⟩ := hS
  have hfb : Blk w1 w.heap.size #[.int .i64 0, .int .i64 0, .int .i64 0] 26 := hM.blk h0.rd (Blk.new _ _ _) (by decide) (by decide) (by decide) (by decide)
  have hst1 : StAt w1 sb tx I pos := ⟨hM.blk h0.rd h0.st.1 (by decide) (by decide) (by decide) (by decide), h0.st.2⟩
  have hpb1 := hM.blk h0.rd h0.pb (by decide) (by decide) (by decide) (by decide)
  have hK3 : KeptX [w.heap.size] w1 (((w1.setCell ⟨w.heap.size, 0, none⟩ (.int .i64 x)).setCell ⟨w.heap.size, 1, none⟩ (.int .i64 y)).setCell ⟨w.heap.size, 2, none⟩ (.int .i64 z)) := (((KeptX.refl _ _).setCell (by simp) 0 _).setCell (by simp) 1 _).setCell (by simp) 2 _
  have hsbf : sb ≠ w.heap.size := hst1.1.ne hfb (by decide)
  have hpbf : pb ≠ w.heap.size := hpb1.ne hfb (by decide)
  have hfar := hR.far hfb (by decide) (by decide) (by decide) (by decide)
  have hbd := h.rd.bounds
  refine ⟨r1, hfb, ⟨hK3.blk hst1.1 (by simpa using hsbf), hst1.2⟩, fun w2 hK hS2 => ?_⟩
  have hsb3 : Blk _ sb _ _ := hK3.blk hst1.1 (by simpa using hsbf)
  have hfb3 := put_blk hfb x y z
  have hpb3 := hK3.blk hpb1 (by simpa using hpbf)
  have hR3 := hR.kept hK3 (by simp; exact hbd.2.2.2.1) (fun i hi hx => by
    simp at hx
    subst hx
    exact hfar hi)
  have hsbfar := hR3.far hsb3 (by decide) (by decide) (by decide) (by decide)
  have hR4 : RdK k w2 B p c S I pos' mk mark r1 := by
    refine hR3.kept hK (fun i hi => ?_) (fun i hi hx => ?_)
    · simp at hi
      subst hi
      exact h.ge
    · simp at hx
      subst hx
      exact hsbfar hi
  have hfb4 := hK.blk hfb3 (by simpa using hsbf.symm)
  have hpb4 := hK.blk hpb3 (by simpa using hpb3.ne hsb3 (by decide))
  refine ⟨hfb4, hR4, hpb4, r1, pos', rfl, ?_, ?_, hR4, hS2, hpb4⟩
  · have e1 : KeptX (p :: c :: rowX r.hv) w w1 := (KeptX.of_below (X := []) hw0).trans hM.1 (by simp) (fun i _ hi => hi)
    have e2 := e1.trans hK3 (Z := p :: c :: rowX r.hv) (fun i hi => hi) (fun i hlt hi => by simp at hi; omega)
    exact e2.trans hK (fun i hi => by simp at hi ⊢; exact Or.inr hi) (fun i _ hi => by simp at hi ⊢; exact Or.inl hi)
  · intro g hg
    rcases hM.2 g hg with h3 | h3
    · exact Or.inl h3
    · exact Or.inr (Nat.le_trans hw0.size h3)
end Go.Proofs.YtgkenhmbilkhdaaGreatDoor
