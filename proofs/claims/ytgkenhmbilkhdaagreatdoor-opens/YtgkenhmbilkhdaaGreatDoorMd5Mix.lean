import Derived.Test.YtgkenhmbilkhdaaGreatDoorMd5Words
import Derived.Deep.QuietTactic
import Derived.WalkSmall
namespace Go.Proofs.YtgkenhmbilkhdaaGreatDoor
open Go.RowKit

/-- What was there is as it was, but for block p. -/
structure Kept (p : Nat) (w w' : World) : Prop where
  os : w'.os = w.os
  tape : w'.tape = w.tape
  output : w'.output = w.output
  size : w.heap.size ≤ w'.heap.size
  block : ∀ k, k < w.heap.size → k ≠ p → w'.heap[k]? = w.heap[k]?

theorem Kept.refl (p : Nat) (w : World) : Kept p w w := ⟨rfl, rfl, rfl, Nat.le_refl _, fun _ _ _ => rfl⟩
theorem Kept.trans {p : Nat} {a b c : World} (h : Kept p a b) (k : Kept p b c) : Kept p a c :=
  ⟨k.os.trans h.os, k.tape.trans h.tape, k.output.trans h.output, Nat.le_trans h.size k.size, fun i hi hp => (k.block i (Nat.lt_of_lt_of_le hi h.size) hp).trans (h.block i hi hp)⟩
theorem Kept.of_below {p : Nat} {w w' : World} (h : Below w.heap.size w w') : Kept p w w' := ⟨h.os, h.tape, h.output, h.size, fun k hk _ => h.block k hk⟩
theorem Kept.setCell {p : Nat} {a w : World} (h : Kept p a w) (i : Nat) (v : Value) : Kept p a (w.setCell ⟨p, i, none⟩ v) :=
  ⟨h.os, h.tape, h.output, by rw [World.size_setCell]; exact h.size, fun k hk hp => (Below.heap_setCell w ⟨p, i, none⟩ v k hp).trans (h.block k hk hp)⟩
theorem Kept.drew {p : Nat} {a w : World} (h : Kept p a w) : Kept p a w.drew := ⟨h.os, h.tape, h.output, h.size, h.block⟩
theorem Kept.drewN {p : Nat} {a w : World} (h : Kept p a w) (n : Nat) : Kept p a (w.drewN n) := h.trans ⟨rfl, rfl, rfl, Nat.le_refl _, fun _ _ _ => rfl⟩
theorem Kept.below {p B : Nat} {w w' : World} (h : Kept p w w') (hB : B ≤ p) (hs : B ≤ w.heap.size) : Below B w w' :=
  ⟨h.os, h.tape, h.output, h.size, fun k hk => h.block k (by omega) (by omega)⟩
theorem Kept.blk {p b : Nat} {w w' : World} {cs : Array Value} {t : TypeId} (h : Kept p w w') (hb : Blk w b cs t) (hp : b ≠ p) : Blk w' b cs t :=
  (h.block b hb.lt hp).trans hb
theorem Kept.cell {p : Nat} {w w' : World} (h : Kept p w w') {a : Addr} (ha : a.block < w.heap.size) (hp : a.block ≠ p) : w'.cell? a = w.cell? a :=
  World.cell?_of_block (w := w) (h.block a.block ha hp)

/-- The two tables of package sums. -/
def MdTabs (w : World) : Prop :=
  (∀ i, i < 64 → w.cell? ⟨1, i, none⟩ = some (.int .u32 (mK i : Nat))) ∧ (∀ i, i < 16 → w.cell? ⟨2, i, none⟩ = some (.int .i64 (turnT.getD i 0 : Nat))) ∧ 8 ≤ w.heap.size
theorem MdTabs.below {w w' : World} (h : MdTabs w) (hb : Below w.heap.size w w') : MdTabs w' :=
  ⟨fun i hi => (hb.cell (p := ⟨1, i, none⟩) (by have := h.2.2; show 1 < _; omega)).trans (h.1 i hi), fun i hi => (hb.cell (p := ⟨2, i, none⟩) (by have := h.2.2; show 2 < _; omega)).trans (h.2.1 i hi), Nat.le_trans h.2.2 hb.size⟩
theorem MdTabs.kept {w w' : World} {p : Nat} (h : MdTabs w) (hb : Kept p w w') (hp : 8 ≤ p) : MdTabs w' :=
  ⟨fun i hi => (hb.cell (a := ⟨1, i, none⟩) (by have := h.2.2; show 1 < _; omega) (by show 1 ≠ p; omega)).trans (h.1 i hi), fun i hi => (hb.cell (a := ⟨2, i, none⟩) (by have := h.2.2; show 2 < _; omega) (by show 2 ≠ p; omega)).trans (h.2.1 i hi), Nat.le_trans h.2.2 hb.size⟩

theorem hid {p : Prop} (h : p) : Hid p := h

/-- The words, as a list whose places are known. -/
theorem words_list (p : Nat) (q : Quad) (bl : List Nat) (n : Nat) (h64 : bl.length = 64) (hbl : ∀ x ∈ bl, x < 256) (w : World) (hB : Blk w p (mdCells q bl n) 197) :
    Calls Tryz.prog 123 #[.pointer (some ⟨p, 0, none⟩)] w fun e w' => ∃ L : List Value, e = .returned (.agg L.toArray) ∧ Below w.heap.size w w' ∧ Hid (L.length = 16 ∧ L.toArray.all (·.oneCell') = true ∧ ∀ g, g < 16 → L[g]? = some (.int .u32 (wordOf bl g : Nat))) := by
  refine (words_any p q bl n h64 hbl w hB).mono ?_
  rintro e w1 ⟨rfl, hb⟩
  refine ⟨(wCells bl 64).toList, by rw [Array.toArray_toList], hb, ?_, ?_, ?_⟩
  · rw [Array.length_toList, wCells_size]
  · rw [Array.toArray_toList]; exact wCells_one bl 64
  · intro g hg
    rw [Array.getElem?_toList, wCells_get _ _ _ hg, wpart_full _ _ hg]

/-- A list of sixteen cells stored into a new block: the world behind it is a letter. -/
theorem wpList_store_new {ops : Array Oper} {rest : List Oper} {op : Oper} {a : Act} {w : World} {Q : Exit → Act → World → Prop} (hgd : op.guard = none) (x y : Operand) (ho : op.op = .store 250 x y)
    (C : Array Value) (hC : C.size = 16) (t : TypeId) (L : List Value) (hx : a.eval x = .pointer (some ⟨w.heap.size, 0, none⟩)) (hy : a.eval y = .agg L.toArray) (hL : L.length = 16) (h1 : L.toArray.all (·.oneCell') = true)
    (h : ∀ W, Below w.heap.size w W → (∀ g, g < 16 → W.cell? ⟨w.heap.size, g, none⟩ = L[g]?) → wpList Tryz.prog ops Q rest (a.put op.dst undef) W) : wpList Tryz.prog ops Q (op :: rest) a (w.alloc (.cells C t)) := by
  have hth : (w.alloc (.cells C t)).there w.heap.size 0 L.toArray.size := there_whole (Blk.new _ _ _) (by simp [hL, hC])
  have hinfo : (Tryz.prog.info? 250).map (·.size) = some L.toArray.size := by rw [List.size_toArray, hL]; kernel_rfl
  refine wpList_store_mid hgd 250 x y ho w.heap.size 0 L.toArray hx hy hth hinfo h1 ?_
  refine h _ (below_setCells (Nat.le_refl _) _ _ _ (by go_grown)) ?_
  intro g hg
  have hr := World.rangeAt_setCells_same _ w.heap.size 0 L (by simpa using hth) g L[g] (List.getElem?_eq_getElem (by omega))
  rw [Nat.zero_add] at hr
  rw [List.toList_toArray, hr, List.getElem?_eq_getElem (by omega)]

theorem step_letters (i b c d : Nat) (hi : i < 64) (hb : b < 4294967296) (hc : c < 4294967296) (hd : d < 4294967296) (w : World) :
    Calls Tryz.prog 124 #[.int .i64 i, .int .u32 b, .int .u32 c, .int .u32 d] w fun e w' => ∃ f g : Nat, e = .returned (.tuple #[.int .u32 f, .int .i64 g]) ∧ w' = w ∧ Hid (f = mF i b c d ∧ g = mG i) ∧ f < 4294967296 ∧ g < 16 := by
  refine (step_any i b c d hi hb hc hd w).mono ?_
  rintro e w1 ⟨rfl, rfl⟩
  exact ⟨_, _, rfl, rfl, ⟨rfl, rfl⟩, mF_lt i b c d hb hc hd, mG_lt i hi⟩
theorem rotl_letter (x n : Nat) (hx : x < 4294967296) (h1 : 1 ≤ n) (h2 : n ≤ 31) (w : World) :
    Calls Tryz.prog 125 #[.int .u32 x, .int .i64 n] w fun e w' => ∃ y : Nat, e = .returned (.int .u32 y) ∧ w' = w ∧ Hid (y = rot n x) ∧ y < 4294967296 := by
  refine (rotl_any x n hx h1 h2 w).mono ?_
  rintro e w1 ⟨rfl, rfl⟩
  exact ⟨_, rfl, rfl, rfl, rot_lt n x hx⟩

theorem rotl_int (x : Int) (n : Nat) (h0 : 0 ≤ x) (hx : x < 4294967296) (h1 : 1 ≤ n) (h2 : n ≤ 31) (w : World) :
    Calls Tryz.prog 125 #[.int .u32 x, .int .i64 n] w fun e w' => ∃ y : Nat, e = .returned (.int .u32 y) ∧ w' = w ∧ Hid (y = rot n x.toNat) ∧ y < 4294967296 := by
  obtain ⟨m, rfl⟩ := Int.eq_ofNat_of_zero_le h0
  exact rotl_letter m n (by omega) h1 h2 w

theorem md_set (q : Quad) (bl : List Nat) (n : Nat) (a b c d : Nat) : ((((mdCells q bl n).setIfInBounds 0 (.int .u32 (a : Int))).setIfInBounds 1 (.int .u32 (b : Int))).setIfInBounds 2 (.int .u32 (c : Int))).setIfInBounds 3 (.int .u32 (d : Int)) = mdCells ⟨a, b, c, d⟩ bl n := by
  unfold mdCells
  simp

set_option maxHeartbeats 4000000 in
set_option maxRecDepth 10000 in
theorem mix_core (X : Quad) (p : Nat) (q : Quad) (bl : List Nat) (n : Nat) (HX : Hid (X = mixQ (wordOf bl) q)) (hq : q.ok) (h64 : bl.length = 64) (hbl : ∀ x ∈ bl, x < 256) (w : World) (hT : MdTabs w) (hB : Blk w p (mdCells q bl n) 197) :
    Calls Tryz.prog 94 #[.pointer (some ⟨p, 0, none⟩)] w fun e w' => e = .returned (.tuple #[]) ∧ Kept p w w' ∧ Blk w' p (mdCells X bl n) 197 := by
  go_enter Tryz.func94, Tryz.ntmps94
  go_wp2_with fail
  refine (words_list p q bl n h64 hbl _ hB).mono ?_
  rintro e w1 ⟨L, rfl, hb1, HL⟩
  have hB1 := hB.below hb1 hB.lt
  have hT1 := hT.below hb1
  go_wp2_with (refine wpList_store_new rfl _ _ rfl _ rfl 250 L rfl rfl HL.out.1 HL.out.2.1 ?_; intro W hbW hwc)
  have hlW : w1.heap.size < W.heap.size := by
    have h := (hwc 0 (by omega)).trans (HL.out.2.2 0 (by omega))
    rcases Nat.lt_or_ge w1.heap.size W.heap.size with h0 | h0
    · exact h0
    · simp [World.cell?, Array.getElem?_eq_none h0] at h
  have HW : Hid (∀ g, g < 16 → W.cell? ⟨w1.heap.size, g, none⟩ = some (.int .u32 (wordOf bl g : Nat))) := fun g hg => (hwc g hg).trans (HL.out.2.2 g hg)
  clear hwc HL
  have hBW := hB1.below hbW hB1.lt
  have hTW := hT1.below hbW
  have ca := hBW.cell 0
  have cb := hBW.cell 1
  have cc := hBW.cell 2
  have cd := hBW.cell 3
  rw [mdCells_a] at ca
  rw [mdCells_b] at cb
  rw [mdCells_c] at cc
  rw [mdCells_d] at cd
  simp only [Act.put]
  go_quiet (fail)
  go_wp2
  go_loopw [3, 4, 5, 6, 32] (fun va vb vc vd i wr => ∃ (k : Nat) (r : Quad), k ≤ 64 ∧ r.ok ∧ r = rnds (wordOf bl) k q ∧ i = .int .i64 k ∧ va = .int .u32 r.a ∧ vb = .int .u32 r.b ∧ vc = .int .u32 r.c ∧ vd = .int .u32 r.d ∧ Below W.heap.size W wr) (fun _ _ _ _ i _ => 64 - (intOf i).toNat)
  case atStart => exact ⟨0, q, by omega, hq, rfl, rfl, rfl, rfl, rfl, rfl, below_drewN (Below.refl _ _) _⟩
  case round =>
    obtain ⟨k, r, hk, hr, hrk, rfl, rfl, rfl, rfl, rfl, hb⟩ := hrel
    have HRK := hid hrk
    clear hrk
    by_cases hlt : k < 64
    · obtain ⟨ra, rb, rc, rd⟩ := r
      obtain ⟨ha1, hb1', hc1, hd1⟩ := hr
      simp only at ha1 hb1' hc1 hd1
      have hTr := hTW.below hb
      obtain ⟨K, s1, hK, HK⟩ : ∃ K : Nat, wr.cell? ⟨1, k, none⟩ = some (.int .u32 K) ∧ K < 4294967296 ∧ Hid (K = mK k) := ⟨_, hTr.1 k hlt, mK_lt k hlt, rfl⟩
      obtain ⟨j, t, s2, hj, ht1, ht2, hjk, HTT⟩ : ∃ j t : Nat, wr.cell? ⟨2, j, none⟩ = some (.int .i64 t) ∧ j < 16 ∧ 1 ≤ t ∧ t ≤ 31 ∧ (k : Int) / 16 * 4 + (k : Int) % 4 = (j : Int) ∧ Hid (t = mS k) :=
        ⟨k / 16 * 4 + k % 4, mS k, hTr.2.1 _ (by omega), by omega, (mS_bd k hlt).1, (mS_bd k hlt).2, by omega, rfl⟩
      have hlt' : (k : Int) < 64 := by omega
      have hj' : (j : Int) < 16 := by omega
      have HWr : Hid (∀ g, g < 16 → wr.cell? ⟨w1.heap.size, g, none⟩ = some (.int .u32 (wordOf bl g : Nat))) := fun g hg => (hb.cell (p := ⟨w1.heap.size, g, none⟩) hlW).trans (HW.out _ hg)
      go_wp2_with fail
      refine (step_letters k rb rc rd hlt hb1' hc1 hd1 _).mono ?_
      rintro e w2 ⟨f, g, rfl, rfl, HFG, hf, hg⟩
      obtain ⟨V, s3, hV, HV⟩ : ∃ V : Nat, w2.cell? ⟨w1.heap.size, g, none⟩ = some (.int .u32 V) ∧ V < 4294967296 ∧ Hid (V = wordOf bl g) := ⟨_, HWr.out g hg, wordOf_lt hbl g, rfl⟩
      have hg' : (g : Int) < 16 := by omega
      go_wp2
      go_quiet (fail)
      go_wp2_with fail
      refine (rotl_int _ t (by omega) (by omega) ht1 ht2 _).mono ?_
      rintro e w3 ⟨y, rfl, rfl, HY, hy⟩
      go_wp2
      go_roundw
      case rel =>
        refine ⟨k + 1, ⟨rd, (rb + y) % 4294967296, rb, rc⟩, by omega, ⟨hd1, Nat.mod_lt _ (by omega), hb1', hc1⟩, ?_, by go_num, rfl, by simp, rfl, rfl, below_drewN hb _⟩
        show _ = rnd (wordOf bl) k (rnds (wordOf bl) k q)
        rw [← HRK.out]
        unfold rnd mf
        simp only
        rw [← HFG.out.1, ← HFG.out.2, ← HK.out, ← HV.out, ← HTT.out]
        have hx : ((↑f + (↑ra + ↑K + ↑V) : Int) % 4294967296).toNat = (f + (ra + K + V)) % 4294967296 := by omega
        rw [HY.out, hx]
      case measure => simp [intOf]; omega
    · obtain rfl : k = 64 := by omega
      obtain ⟨ra, rb, rc, rd⟩ := r
      obtain ⟨ha1, hb1', hc1, hd1⟩ := hr
      simp only at ha1 hb1' hc1 hd1
      obtain ⟨qa, qb, qc, qd⟩ := q
      obtain ⟨ha2, hb2, hc2, hd2⟩ := hq
      simp only at ha2 hb2 hc2 hd2
      have e1 := hBW.below hb hBW.lt
      have c0 := e1.cell 0
      have c1 := e1.cell 1
      have c2 := e1.cell 2
      have c3 := e1.cell 3
      have f0 := e1.free 0
      have f1 := e1.free 1
      have f2 := e1.free 2
      have f3 := e1.free 3
      rw [mdCells_a] at c0
      rw [mdCells_b] at c1
      rw [mdCells_c] at c2
      rw [mdCells_d] at c3
      simp only at c0 c1 c2 c3
      clear ca cb cc cd HW hT hT1 hTW
      go_wp2
      go_region
      go_wp2
      go_region
      go_wp2
      go_region
      go_wp2
      go_region
      go_wp2
      go_end0
      have hkw : Kept p w wr := Kept.of_below ((hb1.trans (hbW.mono hb1.size)).trans (hb.mono (Nat.le_trans hb1.size hbW.size)))
      refine ⟨rfl, ((((hkw.setCell 0 _).setCell 1 _).setCell 2 _).setCell 3 _).drew.drew.drew.drew, ?_⟩
      have v0 : ((qa : Int) + ra) % 4294967296 = (((qa + ra) % 4294967296 : Nat) : Int) := by omega
      have v1 : ((qb : Int) + rb) % 4294967296 = (((qb + rb) % 4294967296 : Nat) : Int) := by omega
      have v2 : ((qc : Int) + rc) % 4294967296 = (((qc + rc) % 4294967296 : Nat) : Int) := by omega
      have v3 : ((qd : Int) + rd) % 4294967296 = (((qd + rd) % 4294967296 : Nat) : Int) := by omega
      rw [v0, v1, v2, v3]
      have hX : X = ⟨(qa + ra) % 4294967296, (qb + rb) % 4294967296, (qc + rc) % 4294967296, (qd + rd) % 4294967296⟩ := by
        rw [HX.out]
        show quadAdd _ (rnds (wordOf bl) 64 _) = _
        rw [← HRK.out]
        rfl
      rw [hX, ← md_set ⟨qa, qb, qc, qd⟩ bl n]
      exact ((((e1.set 0 _).set 1 _).set 2 _).set 3 _)

theorem mix_any (p : Nat) (q : Quad) (bl : List Nat) (n : Nat) (hq : q.ok) (h64 : bl.length = 64) (hbl : ∀ x ∈ bl, x < 256) (w : World) (hT : MdTabs w) (hB : Blk w p (mdCells q bl n) 197) :
    Calls Tryz.prog 94 #[.pointer (some ⟨p, 0, none⟩)] w fun e w' => e = .returned (.tuple #[]) ∧ Kept p w w' ∧ Blk w' p (mdCells (mixQ (wordOf bl) q) bl n) 197 :=
  mix_core _ p q bl n rfl hq h64 hbl w hT hB
end Go.Proofs.YtgkenhmbilkhdaaGreatDoor
