import Derived.Test.YtgkenhmbilkhdaaGreatDoorGFaultP
namespace Go.Proofs.YtgkenhmbilkhdaaGreatDoor
open Go.RowKit

set_option maxHeartbeats 2000000 in
theorem slowArg (B p c : Nat) (S : Src) (I : Inp) (pos : Nat) (mk : Bool) (mark : Nat) (r : RdS) (n : Int) (hn : n < 0 ∨ 64 < n) (hn1 : -9223372036854775808 ≤ n) (hn2 : n < 9223372036854775808) (w : World) (h : RdK 0 w B p c S I pos mk mark r) :
    Calls Tryz.prog 318 #[.pointer (some ⟨p, 0, none⟩), .int .i64 n] w fun e w' => e = .returned (.tuple #[.int .u64 0, errP w.heap.size]) ∧ Below w.heap.size w w' ∧ ErrAt w.heap.size (-1) ((pos / 8 : Nat) : Int) (stopV 15) w' := by
  go_enter Tryz.func318, Tryz.ntmps318
  go_wp2_with fail
  refine (ask_arg B p c _ [] S I pos mk mark r n hn hn1 hn2 w h).mono ?_
  rintro e w1 ⟨rfl, hb, hE⟩
  go_wp2
  refine bodyPost_ret (v := .tuple #[.int .u64 0, errP w.heap.size]) (by simp [results, Tryz.results318, go_sem, errP]) rfl ?_
  exact ⟨rfl, hb, hE⟩
set_option maxHeartbeats 2000000 in
theorem fastArg (B p c : Nat) (S : Src) (I : Inp) (pos : Nat) (mk : Bool) (mark : Nat) (r : RdS) (n : Int) (hn : n < 0 ∨ 64 < n) (hn1 : -9223372036854775808 ≤ n) (hn2 : n < 9223372036854775808) (w : World) (h : RdK 1 w B p c S I pos mk mark r) :
    Calls Tryz.prog 299 #[.pointer (some ⟨p, 0, none⟩), .int .i64 n] w fun e w' => e = .returned (.tuple #[.int .u64 0, errP w.heap.size]) ∧ Below w.heap.size w w' ∧ ErrAt w.heap.size (-1) ((pos / 8 : Nat) : Int) (stopV 15) w' := by
  obtain ⟨pool, held, hR, hE⟩ := h.of_fast
  have c8 := (rd_f hR.x.blk).2
  have h64 := hE.1.1
  have HA := hid (ask_arg B p c _ _ S I pos mk mark r n hn hn1 hn2 w hR)
  rcases hn with h0 | h0
  · have h0' : decide (n < 0) = true := by simp; omega
    go_enter Tryz.func299, Tryz.ntmps299
    go_wp2_with fail
    refine HA.out.mono ?_
    rintro e w1 ⟨rfl, hb, hE⟩
    go_wp2
    refine bodyPost_ret (v := .tuple #[.int .u64 0, errP w.heap.size]) (by simp [results, Tryz.results299, go_sem, errP]) rfl ?_
    exact ⟨rfl, hb, hE⟩
  · have h0' : decide (n < 0) = false := by simp; omega
    have h1 : (held : Int) < n := by omega
    go_enter Tryz.func299, Tryz.ntmps299
    go_wp2_with fail
    refine HA.out.mono ?_
    rintro e w1 ⟨rfl, hb, hE⟩
    go_wp2
    refine bodyPost_ret (v := .tuple #[.int .u64 0, errP w.heap.size]) (by simp [results, Tryz.results299, go_sem, errP]) rfl ?_
    exact ⟨rfl, hb, hE⟩

theorem pbOdd (k : Nat) (B p c : Nat) (S : Src) (I : Inp) (pos : Nat) (mk : Bool) (mark : Nat) (r : RdS) (pb : Nat) (w : World) (h : RdK k w B p c S I pos mk mark r) (hP : Blk w pb (pbCells k p c) 90) :
    Calls Tryz.prog 20 #[.pointer (some ⟨pb, 0, none⟩)] w fun e w' => e = .returned (.bool false) ∧ w' = w := by
  obtain ⟨t', ex, h', _⟩ := h.x
  have d1 := hP.cell 1
  have e6 := h'.x.src.cell 6
  simp [pbCells] at d1
  simp [srcCells] at e6
  go_enter Tryz.func20, Tryz.ntmps20
  go_wp2
  go_ret
  exact ⟨rfl, rfl⟩

end Go.Proofs.YtgkenhmbilkhdaaGreatDoor

namespace Go.Proofs.YtgkenhmbilkhdaaGreatDoor
open Go.RowKit

set_option maxHeartbeats 8000000 in
set_option maxRecDepth 10000 in
theorem pbArg (HI : ItoaAll) (k : Nat) (hk : k = 0 ∨ k = 1) (B p c : Nat) (S : Src) (I : Inp) (pos : Nat) (mk : Bool) (mark : Nat) (r : RdS) (pb : Nat) (n : Int) (hn : n < 0 ∨ 64 < n) (hn1 : -9223372036854775808 ≤ n) (hn2 : n < 9223372036854775808) (w : World) (hB : 8 ≤ B) (hG : Ground0 w) (h : RdK k w B p c S I pos mk mark r) (hP : Blk w pb (pbCells k p c) 90) :
    Calls Tryz.prog 44 #[.pointer (some ⟨pb, 0, none⟩), .int .i64 n] w fun e w' =>
      e = .returned (.tuple #[.int .i64 0, faultV 15 (-1) ((pos / 8 : Nat) : Int)]) ∧ Step k w B p c S I mk mark r pos w' := by
  have hbd := h.bounds
  have hw0 : Below w.heap.size w (w.alloc (.cells #[.int .i64 0, .int .i64 0, .int .i64 0] 26)) := by go_grown
  have h0 := h.below hw0
  have hP0 := hP.below hw0 hP.lt
  have d0 := hP0.cell 0
  simp only [pbCells, List.getElem?_toArray, List.getElem?_cons_zero] at d0
  have hrb : Blk (w.alloc (.cells #[.int .i64 0, .int .i64 0, .int .i64 0] 26)) w.heap.size #[.int .i64 0, .int .i64 0, .int .i64 0] 26 := Blk.new _ _ _
  have HRB : Hid (∀ w1 r1, Moved (w.alloc (.cells #[.int .i64 0, .int .i64 0, .int .i64 0] 26)) w1 p c r r1 → Blk w1 w.heap.size #[.int .i64 0, .int .i64 0, .int .i64 0] 26) := fun w1 r1 hM => hM.blk h0 hrb (by decide) (by decide) (by decide) (by decide)
  have HGD : Hid (∀ w1 r1, Moved (w.alloc (.cells #[.int .i64 0, .int .i64 0, .int .i64 0] 26)) w1 p c r r1 → Ground0 w1) := fun w1 r1 hM => (hG.below hw0).belowB hB (hM.1.below hbd.2.2.2.2 (Nat.le_trans hbd.2.2.2.1 hw0.size))
  have HH := hid h
  clear h hrb
  rcases hk with rfl | rfl
  · rw [show rdV 0 p = .iface 216 (.pointer (some ⟨p, 0, none⟩)) from rfl] at d0
    have HC := hid (slowArg B p c S I pos mk mark r n hn hn1 hn2 _ h0)
    go_enter Tryz.func44, Tryz.ntmps44
    go_wp2_with fail
    refine HC.out.mono ?_
    rintro e w1 ⟨rfl, hb1, hT⟩
    rw [World.size_alloc] at hT
    have hM : Moved (w.alloc (.cells #[.int .i64 0, .int .i64 0, .int .i64 0] 26)) w1 p c r r := ⟨KeptX.of_below hb1, fun g hg => Or.inl hg⟩
    have hR1 := h0.below hb1
    have hrb1 := HRB.out w1 r hM
    unfold errP
    go_wp2_with fail
    refine (fault_stop (w.heap.size + 1) 15 (by omega) _ (HI (pos / 8) (by omega)) _ (HGD.out w1 r hM).1 (HGD.out w1 r hM).2 hT).mono ?_
    rintro e w2 ⟨rfl, hb2⟩
    obtain ⟨⟨y0, y1, y2⟩, ⟨z0, z1, z2⟩, g⟩ := put_fault (hrb1.below hb2 hrb1.lt) 15 (-1) ((pos / 8 : Nat) : Int)
    have HST := hid (step_end HH.out hM hR1 hb2 (.int .i64 15) (.int .i64 (-1)) (.int .i64 ((pos / 8 : Nat) : Int)))
    generalize haa : pos / 8 = aa at *
    go_wp2
    refine bodyPost_ret (v := .tuple #[.int .i64 0, faultV 15 (-1) (aa : Nat)]) (by simp [results, Tryz.results44, go_sem, g.out, faultV]) rfl ?_
    exact ⟨by rw [haa], HST.out⟩
  · rw [show rdV 1 p = .iface 214 (.pointer (some ⟨p, 0, none⟩)) from rfl] at d0
    have HC := hid (fastArg B p c S I pos mk mark r n hn hn1 hn2 _ h0)
    go_enter Tryz.func44, Tryz.ntmps44
    go_wp2_with fail
    refine HC.out.mono ?_
    rintro e w1 ⟨rfl, hb1, hT⟩
    rw [World.size_alloc] at hT
    have hM : Moved (w.alloc (.cells #[.int .i64 0, .int .i64 0, .int .i64 0] 26)) w1 p c r r := ⟨KeptX.of_below hb1, fun g hg => Or.inl hg⟩
    have hR1 := h0.below hb1
    have hrb1 := HRB.out w1 r hM
    unfold errP
    go_wp2_with fail
    refine (fault_stop (w.heap.size + 1) 15 (by omega) _ (HI (pos / 8) (by omega)) _ (HGD.out w1 r hM).1 (HGD.out w1 r hM).2 hT).mono ?_
    rintro e w2 ⟨rfl, hb2⟩
    obtain ⟨⟨y0, y1, y2⟩, ⟨z0, z1, z2⟩, g⟩ := put_fault (hrb1.below hb2 hrb1.lt) 15 (-1) ((pos / 8 : Nat) : Int)
    have HST := hid (step_end HH.out hM hR1 hb2 (.int .i64 15) (.int .i64 (-1)) (.int .i64 ((pos / 8 : Nat) : Int)))
    generalize haa : pos / 8 = aa at *
    go_wp2
    refine bodyPost_ret (v := .tuple #[.int .i64 0, faultV 15 (-1) (aa : Nat)]) (by simp [results, Tryz.results44, go_sem, g.out, faultV]) rfl ?_
    exact ⟨by rw [haa], HST.out⟩
end Go.Proofs.YtgkenhmbilkhdaaGreatDoor

namespace Go.Proofs.YtgkenhmbilkhdaaGreatDoor
open Go.RowKit

set_option maxHeartbeats 8000000 in
set_option maxRecDepth 10000 in
theorem pbAlign (k : Nat) (hk : k = 0 ∨ k = 1) (B p c : Nat) (S : Src) (I : Inp) (pos : Nat) (mk : Bool) (mark : Nat) (r : RdS) (pb : Nat) (w : World) (hB : 8 ≤ B) (hG : Ground0 w) (h : RdK k w B p c S I pos mk mark r) (hP : Blk w pb (pbCells k p c) 90) :
    Calls Tryz.prog 42 #[.pointer (some ⟨pb, 0, none⟩)] w fun e w' =>
      e = .returned (.tuple #[.bool (decide (valAt I.T pos (restOf pos) = 0)), faultV 0 0 0]) ∧ pos + restOf pos ≤ 8 * I.T.length ∧ Step k w B p c S I mk mark r (pos + restOf pos) w' := by
  have hbd := h.bounds
  have hw0 : Below w.heap.size w (w.alloc (.cells #[.int .i64 0, .int .i64 0, .int .i64 0] 26)) := by go_grown
  have h0 := h.below hw0
  have hP0 := hP.below hw0 hP.lt
  have d0 := hP0.cell 0
  simp only [pbCells, List.getElem?_toArray, List.getElem?_cons_zero] at d0
  have hrb : Blk (w.alloc (.cells #[.int .i64 0, .int .i64 0, .int .i64 0] 26)) w.heap.size #[.int .i64 0, .int .i64 0, .int .i64 0] 26 := Blk.new _ _ _
  have HRB : Hid (∀ w1 r1, Moved (w.alloc (.cells #[.int .i64 0, .int .i64 0, .int .i64 0] 26)) w1 p c r r1 → Blk w1 w.heap.size #[.int .i64 0, .int .i64 0, .int .i64 0] 26) := fun w1 r1 hM => hM.blk h0 hrb (by decide) (by decide) (by decide) (by decide)
  have HGD : Hid (∀ w1 r1, Moved (w.alloc (.cells #[.int .i64 0, .int .i64 0, .int .i64 0] 26)) w1 p c r r1 → Ground0 w1) := fun w1 r1 hM => (hG.below hw0).belowB hB (hM.1.below hbd.2.2.2.2 (Nat.le_trans hbd.2.2.2.1 hw0.size))
  have HH := hid h
  clear h hrb
  rcases hk with rfl | rfl
  · rw [show rdV 0 p = .iface 216 (.pointer (some ⟨p, 0, none⟩)) from rfl] at d0
    have HC := hid (slowAlign B p c S I pos mk mark r _ h0)
    go_enter Tryz.func42, Tryz.ntmps42
    go_wp2_with fail
    refine HC.out.mono ?_
    rintro e w1 ⟨r1, hM, rfl, hle, hR1⟩
    have hrb1 := HRB.out w1 r1 hM
    go_wp2_with fail
    refine (fault_nil _).mono ?_
    rintro e w2 ⟨rfl, hb2⟩
    obtain ⟨⟨y0, y1, y2⟩, ⟨z0, z1, z2⟩, g⟩ := put_fault (hrb1.below hb2 hrb1.lt) 0 0 0
    have HST := hid (step_end HH.out hM hR1 hb2 (.int .i64 0) (.int .i64 0) (.int .i64 0))
    go_wp2
    refine bodyPost_ret (v := .tuple #[.bool (decide (valAt I.T pos (restOf pos) = 0)), faultV 0 0 0]) (by simp [results, Tryz.results42, go_sem, g.out, faultV]) rfl ?_
    exact ⟨rfl, hle, HST.out⟩
  · rw [show rdV 1 p = .iface 214 (.pointer (some ⟨p, 0, none⟩)) from rfl] at d0
    have HC := hid (fastAlign B p c S I pos mk mark r _ h0)
    go_enter Tryz.func42, Tryz.ntmps42
    go_wp2_with fail
    refine HC.out.mono ?_
    rintro e w1 ⟨r1, hM, rfl, hle, hR1⟩
    have hrb1 := HRB.out w1 r1 hM
    go_wp2_with fail
    refine (fault_nil _).mono ?_
    rintro e w2 ⟨rfl, hb2⟩
    obtain ⟨⟨y0, y1, y2⟩, ⟨z0, z1, z2⟩, g⟩ := put_fault (hrb1.below hb2 hrb1.lt) 0 0 0
    have HST := hid (step_end HH.out hM hR1 hb2 (.int .i64 0) (.int .i64 0) (.int .i64 0))
    go_wp2
    refine bodyPost_ret (v := .tuple #[.bool (decide (valAt I.T pos (restOf pos) = 0)), faultV 0 0 0]) (by simp [results, Tryz.results42, go_sem, g.out, faultV]) rfl ?_
    exact ⟨rfl, hle, HST.out⟩
end Go.Proofs.YtgkenhmbilkhdaaGreatDoor

namespace Go.Proofs.YtgkenhmbilkhdaaGreatDoor
open Go.RowKit

set_option maxHeartbeats 8000000 in
set_option maxRecDepth 10000 in
theorem pbUnary (HI : ItoaAll) (k : Nat) (hk : k = 0 ∨ k = 1) (B p c : Nat) (S : Src) (I : Inp) (pos : Nat) (mk : Bool) (mark : Nat) (r : RdS) (pb : Nat) (w : World) (hB : 8 ≤ B) (hG : Ground0 w) (h : RdK k w B p c S I pos mk mark r) (hP : Blk w pb (pbCells k p c) 90) :
    Calls Tryz.prog 40 #[.pointer (some ⟨pb, 0, none⟩)] w fun e w' =>
      (∃ q, un I pos = .ok (q, pos + q + 1) ∧ pos + q + 1 ≤ 8 * I.T.length ∧ e = .returned (.tuple #[.int .i64 (q : Int), faultV 0 0 0]) ∧ Step k w B p c S I mk mark r (pos + q + 1) w') ∨
      (un I pos = .error (stopE I.st) ∧ e = .returned (.tuple #[.int .i64 0, faultV (stopE I.st : Nat) (-1) ((pos / 8 : Nat) : Int)]) ∧ Step k w B p c S I mk mark r pos w') := by
  have hbd := h.bounds
  have hw0 : Below w.heap.size w (w.alloc (.cells #[.int .i64 0, .int .i64 0, .int .i64 0] 26)) := by go_grown
  have h0 := h.below hw0
  have hP0 := hP.below hw0 hP.lt
  have d0 := hP0.cell 0
  simp only [pbCells, List.getElem?_toArray, List.getElem?_cons_zero] at d0
  have hrb : Blk (w.alloc (.cells #[.int .i64 0, .int .i64 0, .int .i64 0] 26)) w.heap.size #[.int .i64 0, .int .i64 0, .int .i64 0] 26 := Blk.new _ _ _
  have HRB : Hid (∀ w1 r1, Moved (w.alloc (.cells #[.int .i64 0, .int .i64 0, .int .i64 0] 26)) w1 p c r r1 → Blk w1 w.heap.size #[.int .i64 0, .int .i64 0, .int .i64 0] 26) := fun w1 r1 hM => hM.blk h0 hrb (by decide) (by decide) (by decide) (by decide)
  have HGD : Hid (∀ w1 r1, Moved (w.alloc (.cells #[.int .i64 0, .int .i64 0, .int .i64 0] 26)) w1 p c r r1 → Ground0 w1) := fun w1 r1 hM => (hG.below hw0).belowB hB (hM.1.below hbd.2.2.2.2 (Nat.le_trans hbd.2.2.2.1 hw0.size))
  have HH := hid h
  clear h hrb
  rcases hk with rfl | rfl
  · rw [show rdV 0 p = .iface 216 (.pointer (some ⟨p, 0, none⟩)) from rfl] at d0
    have HC := hid (slowUnary B p c S I pos mk mark r _ h0)
    go_enter Tryz.func40, Tryz.ntmps40
    go_wp2_with fail
    refine HC.out.mono ?_
    rintro e w1 ⟨r1, hM, ⟨q, hu, hle, rfl, hR1⟩ | ⟨hle, hR1, b, rfl, hT⟩⟩
    · have hrb1 := HRB.out w1 r1 hM
      go_wp2_with fail
      refine (fault_nil _).mono ?_
      rintro e w2 ⟨rfl, hb2⟩
      obtain ⟨⟨y0, y1, y2⟩, ⟨z0, z1, z2⟩, g⟩ := put_fault (hrb1.below hb2 hrb1.lt) 0 0 0
      have HST := hid (step_end HH.out hM hR1 hb2 (.int .i64 0) (.int .i64 0) (.int .i64 0))
      go_wp2
      refine bodyPost_ret (v := .tuple #[.int .i64 (q : Int), faultV 0 0 0]) (by simp [results, Tryz.results40, go_sem, g.out, faultV]) rfl ?_
      exact Or.inl ⟨q, hu, hle, rfl, HST.out⟩
    · have HLE := hid hle
      clear hle
      have hrb1 := HRB.out w1 r1 hM
      unfold errP
      go_wp2_with fail
      refine (fault_stop b (stopE I.st) (by have := hbd.2.2.1; unfold stopE; split <;> omega) _ (HI (pos / 8) (by omega)) _ (HGD.out w1 r1 hM).1 (HGD.out w1 r1 hM).2 hT.2).mono ?_
      rintro e w2 ⟨rfl, hb2⟩
      obtain ⟨⟨y0, y1, y2⟩, ⟨z0, z1, z2⟩, g⟩ := put_fault (hrb1.below hb2 hrb1.lt) (stopE I.st : Nat) (-1) ((pos / 8 : Nat) : Int)
      have HST := hid (step_end HH.out hM hR1 hb2 (.int .i64 (stopE I.st : Nat)) (.int .i64 (-1)) (.int .i64 ((pos / 8 : Nat) : Int)))
      generalize hee : stopE I.st = ee at *
      generalize haa : pos / 8 = aa at *
      go_wp2
      refine bodyPost_ret (v := .tuple #[.int .i64 0, faultV (ee : Nat) (-1) (aa : Nat)]) (by simp [results, Tryz.results40, go_sem, g.out, faultV]) rfl ?_
      exact Or.inr ⟨by first | exact HLE.out | (rw [hee]; exact HLE.out), by rw [hee, haa], HST.out⟩
  · rw [show rdV 1 p = .iface 214 (.pointer (some ⟨p, 0, none⟩)) from rfl] at d0
    have HC := hid (fastUnary B p c S I pos mk mark r _ h0)
    go_enter Tryz.func40, Tryz.ntmps40
    go_wp2_with fail
    refine HC.out.mono ?_
    rintro e w1 ⟨r1, hM, ⟨q, hu, hle, rfl, hR1⟩ | ⟨hle, hR1, b, rfl, hT⟩⟩
    · have hrb1 := HRB.out w1 r1 hM
      go_wp2_with fail
      refine (fault_nil _).mono ?_
      rintro e w2 ⟨rfl, hb2⟩
      obtain ⟨⟨y0, y1, y2⟩, ⟨z0, z1, z2⟩, g⟩ := put_fault (hrb1.below hb2 hrb1.lt) 0 0 0
      have HST := hid (step_end HH.out hM hR1 hb2 (.int .i64 0) (.int .i64 0) (.int .i64 0))
      go_wp2
      refine bodyPost_ret (v := .tuple #[.int .i64 (q : Int), faultV 0 0 0]) (by simp [results, Tryz.results40, go_sem, g.out, faultV]) rfl ?_
      exact Or.inl ⟨q, hu, hle, rfl, HST.out⟩
    · have HLE := hid hle
      clear hle
      have hrb1 := HRB.out w1 r1 hM
      unfold errP
      go_wp2_with fail
      refine (fault_stop b (stopE I.st) (by have := hbd.2.2.1; unfold stopE; split <;> omega) _ (HI (pos / 8) (by omega)) _ (HGD.out w1 r1 hM).1 (HGD.out w1 r1 hM).2 hT.2).mono ?_
      rintro e w2 ⟨rfl, hb2⟩
      obtain ⟨⟨y0, y1, y2⟩, ⟨z0, z1, z2⟩, g⟩ := put_fault (hrb1.below hb2 hrb1.lt) (stopE I.st : Nat) (-1) ((pos / 8 : Nat) : Int)
      have HST := hid (step_end HH.out hM hR1 hb2 (.int .i64 (stopE I.st : Nat)) (.int .i64 (-1)) (.int .i64 ((pos / 8 : Nat) : Int)))
      generalize hee : stopE I.st = ee at *
      generalize haa : pos / 8 = aa at *
      go_wp2
      refine bodyPost_ret (v := .tuple #[.int .i64 0, faultV (ee : Nat) (-1) (aa : Nat)]) (by simp [results, Tryz.results40, go_sem, g.out, faultV]) rfl ?_
      exact Or.inr ⟨by first | exact HLE.out | (rw [hee]; exact HLE.out), by rw [hee, haa], HST.out⟩
end Go.Proofs.YtgkenhmbilkhdaaGreatDoor
