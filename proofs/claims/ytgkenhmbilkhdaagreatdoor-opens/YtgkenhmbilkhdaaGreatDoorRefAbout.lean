import Derived.Test.YtgkenhmbilkhdaaGreatDoorGSkOpen
import Derived.Test.YtgkenhmbilkhdaaGreatDoorGOpenDec4
namespace Go.Proofs.YtgkenhmbilkhdaaGreatDoor
open Go.RowKit

/-- What stands in the document's decoder. -/
structure RefD where
  info : Info
  byte : Nat
  frame : Nat
  first : Nat
  vary : Bool
  laid : ByteArray
  e : Int
  ef : Int
  ea : Int
def rdecCells (sb : Nat) (d : RefD) : Array Value := #[.pointer (some ⟨sb, 0, none⟩), .int .i64 (d.info.minB : Int), .int .i64 (d.info.maxB : Int), .int .i64 (d.info.minF : Int), .int .i64 (d.info.maxF : Int), .int .i64 (d.info.rate : Int), .int .i64 (d.info.chans : Int), .int .i64 (d.info.depth : Int), .int .i64 (d.info.total : Int), .string (strOf d.info.sum),
  .int .i64 (d.byte : Int), .int .i64 (d.frame : Int), .int .i64 (d.first : Int), .bool d.vary, .string d.laid, .int .i64 d.e, .int .i64 d.ef, .int .i64 d.ea]
theorem rdec_info (sb : Nat) (d : RefD) (i : Info) : setFrom (rdecCells sb d) 1 (infoL i) = rdecCells sb { d with info := i } := by simp [setFrom, rdecCells, infoL]
theorem about_size : (Tryz.prog.info? 111).map (·.size) = some 9 := by kernel_rfl
theorem infoVs_range {w : World} {b : Nat} {i : Info} {t : TypeId} (h : Blk w b (infoVs i) t) : w.rangeAt b 0 (infoL i) := h.range 0 _ fun j v hv => by
  rw [Nat.zero_add]
  show (infoL i).toArray[j]? = _
  rw [List.getElem?_toArray]
  exact hv

theorem skBind_eq {α β : Type} {g : RS → α × RS} {f : α → RS → β × RS} {s s' : RS} {a : α} (h : g s = (a, s')) : skBind g f s = f a s' := by unfold skBind; rw [h]

theorem skBind_in {α β γ : Type} {g : RS → α × RS} {f : α → RS → β × RS} {h : β → RS → γ × RS} {s s' : RS} {a : α} (e : g s = (a, s')) : skBind (skBind g f) h s = skBind (f a) h s' := by unfold skBind; rw [e]

theorem about_cells (a b c d e f g h s z0 z1 z2 z3 z4 z5 z6 z7 z8 : Value) : (((((((((#[z0, z1, z2, z3, z4, z5, z6, z7, z8] : Array Value).setIfInBounds 0 a).setIfInBounds 1 b).setIfInBounds 2 c).setIfInBounds 3 d).setIfInBounds 4 e).setIfInBounds 5 f).setIfInBounds 6 g).setIfInBounds 7 h).setIfInBounds 8 s = #[a, b, c, d, e, f, g, h, s] := by simp
theorem about_cells8 (a b c d e f g h z0 z1 z2 z3 z4 z5 z6 z7 z8 : Value) : ((((((((#[z0, z1, z2, z3, z4, z5, z6, z7, z8] : Array Value).setIfInBounds 0 a).setIfInBounds 1 b).setIfInBounds 2 c).setIfInBounds 3 d).setIfInBounds 4 e).setIfInBounds 5 f).setIfInBounds 6 g).setIfInBounds 7 h = #[a, b, c, d, e, f, g, h, z8] := by simp
theorem info_vs (a b c d e f g h : Nat) (s : List Nat) : infoVs ⟨a, b, c, d, e, f + 1, g + 1, h, s⟩ = #[.int .i64 (a : Int), .int .i64 (b : Int), .int .i64 (c : Int), .int .i64 (d : Int), .int .i64 (e : Int), .int .i64 (1 + (f : Int)), .int .i64 (1 + (g : Int)), .int .i64 (h : Int), .string (strOf s)] := by
  unfold infoVs
  rw [show 1 + (f : Int) = ((f + 1 : Nat) : Int) by omega, show 1 + (g : Int) = ((g + 1 : Nat) : Int) by omega]

/-- The document's reader and decoder, and a block more. -/
structure RQ (w0 : World) (sb : Nat) (tx : ByteArray) (I : Inp) (rb db ab : Nat) (s : RS) (d : RefD) (cs : Array Value) (w : World) : Prop where
  kept : KeptX [sb, rb, db] w0 w
  st : StAt w sb tx I s.2
  rd : Blk w rb (rCells sb s.1) 116
  lt : s.1 < 17
  dec : Blk w db (rdecCells sb d) 113
  own : Blk w ab cs 111
  new : w0.heap.size ≤ ab
theorem RQ.rst {w0 : World} {sb : Nat} {tx : ByteArray} {I : Inp} {rb db ab : Nat} {s : RS} {d : RefD} {cs : Array Value} {w : World} (h : RQ w0 sb tx I rb db ab s d cs w) : RSt sb tx I rb w s w := ⟨KeptX.refl _ _, h.st, h.rd, h.lt⟩
theorem RQ.call {w0 : World} {sb : Nat} {tx : ByteArray} {I : Inp} {rb db ab : Nat} {s s' : RS} {d : RefD} {cs : Array Value} {w w' : World} (h : RQ w0 sb tx I rb db ab s d cs w) (hR : RSt sb tx I rb w s' w') : RQ w0 sb tx I rb db ab s' d cs w' :=
  ⟨h.kept.trans hR.1 (fun i hi => hi) (fun i _ hi => by simp at hi ⊢; rcases hi with h | h <;> simp [h]), hR.2.1, hR.2.2.1, hR.2.2.2, hR.1.blk h.dec (by simp; exact ⟨h.dec.ne h.st.1 (by decide), h.dec.ne h.rd (by decide)⟩), hR.1.blk h.own (by simp; exact ⟨h.own.ne h.st.1 (by decide), h.own.ne h.rd (by decide)⟩), h.new⟩
theorem RQ.set {w0 : World} {sb : Nat} {tx : ByteArray} {I : Inp} {rb db ab : Nat} {s : RS} {d : RefD} {cs : Array Value} {w : World} (h : RQ w0 sb tx I rb db ab s d cs w) (i : Nat) (v : Value) : RQ w0 sb tx I rb db ab s d (cs.setIfInBounds i v) (w.setCell ⟨ab, i, none⟩ v) := by
  have hK : KeptX [ab] w (w.setCell ⟨ab, i, none⟩ v) := (KeptX.refl _ _).setCell (by simp) i v
  have hn := h.new
  exact ⟨h.kept.trans hK (fun i hi => hi) (fun j hj hi => by simp at hi; omega), ⟨hK.blk h.st.1 (by simp; exact (h.own.ne h.st.1 (by decide)).symm), h.st.2⟩, hK.blk h.rd (by simp; exact (h.own.ne h.rd (by decide)).symm), h.lt, hK.blk h.dec (by simp; exact (h.own.ne h.dec (by decide)).symm), h.own.set i v, h.new⟩
theorem RQ.told {w0 : World} {sb : Nat} {tx : ByteArray} {I : Inp} {rb db ab : Nat} {s : RS} {d : RefD} {cs : Array Value} {w w' : World} (h : RQ w0 sb tx I rb db ab s d cs w) (hK : KeptX [db] w w') {d' : RefD} (hd : Blk w' db (rdecCells sb d') 113) : RQ w0 sb tx I rb db ab s d' cs w' :=
  ⟨h.kept.trans hK (fun i hi => hi) (fun i _ hi => by simp at hi ⊢; simp [hi]), ⟨hK.blk h.st.1 (by simp; exact (h.dec.ne h.st.1 (by decide)).symm), h.st.2⟩, hK.blk h.rd (by simp; exact (h.dec.ne h.rd (by decide)).symm), h.lt, hd, hK.blk h.own (by simp; exact h.own.ne h.dec (by decide)), h.new⟩

theorem refTextE {sb : Nat} {tx : ByteArray} {I : Inp} {rb : Nat} {w wc : World} {s : RS} (h : RSt sb tx I rb w s wc) :
    Calls Tryz.prog 47 #[.pointer (some ⟨rb, 0, none⟩), .int .i64 16] wc fun e w' => ∃ l s', skText I 16 [] s = (l, s') ∧ e = .returned (.string (strOf l)) ∧ RSt sb tx I rb w s' w' := by
  refine (refText 16 (by omega) h).mono ?_
  rintro e w' ⟨rfl, hR⟩
  exact ⟨_, _, rfl, rfl, hR⟩

set_option maxRecDepth 10000 in
set_option maxHeartbeats 8000000 in
theorem refAbout {sb : Nat} {tx : ByteArray} {I : Inp} {rb db : Nat} {s : RS} {d : RefD} {w : World} (hR0 : RSt sb tx I rb w s w) (hd0 : Blk w db (rdecCells sb d) 113) :
    Calls Tryz.prog 50 #[.pointer (some ⟨db, 0, none⟩), .pointer (some ⟨rb, 0, none⟩)] w fun e w' => e = .returned (.tuple #[]) ∧ RQ w sb tx I rb db w.heap.size (skAbout I s).2 { d with info := (skAbout I s).1 } (infoVs (skAbout I s).1) w' := by
  have HI := hid about_size
  obtain ⟨q, hq⟩ : ∃ q, q = skAbout I s := ⟨_, rfl⟩
  rw [← hq]
  unfold skAbout skInfo at hq
  have HP := hid hq
  have hQ : RQ w sb tx I rb db w.heap.size s d #[.int .i64 0, .int .i64 0, .int .i64 0, .int .i64 0, .int .i64 0, .int .i64 0, .int .i64 0, .int .i64 0, .string ⟨#[]⟩] (w.alloc (.cells #[.int .i64 0, .int .i64 0, .int .i64 0, .int .i64 0, .int .i64 0, .int .i64 0, .int .i64 0, .int .i64 0, .string ⟨#[]⟩] 111)) :=
    ⟨KeptX.of_below (by go_grown), ⟨hR0.2.1.1.alloc _, hR0.2.1.2⟩, hR0.2.2.1.alloc _, hR0.2.2.2, hd0.alloc _, Blk.new _ _ _, Nat.le_refl _⟩
  have HQ := hid hQ
  clear hq hQ hR0 hd0
  go_enter Tryz.func50, Tryz.ntmps50
  go_wp2_with fail
  refine (refBitsE (by omega) (by omega) HQ.out.rst).mono ?_
  rintro e w0 ⟨v0, s0, hv0, hl0, rfl, hR0⟩
  have hq0 := HQ.out.call hR0
  have c0 : w0.cell? ⟨w.heap.size, 0, none⟩ = some (.int .i64 0) := hq0.own.cell 0
  have f0 := hq0.own.free 0
  replace HQ := hid (hq0.set 0 (.int .i64 (v0 : Int)))
  replace HP := hid (HP.out.trans (skBind_in hv0))
  clear hv0 hR0 hq0
  go_wp2_with fail
  clear c0 f0
  refine (refBitsE (by omega) (by omega) HQ.out.rst).mono ?_
  rintro e w1 ⟨v1, s1, hv1, hl1, rfl, hR1⟩
  have hq1 := HQ.out.call hR1
  have c1 : w1.cell? ⟨w.heap.size, 1, none⟩ = some (.int .i64 0) := hq1.own.cell 1
  have f1 := hq1.own.free 1
  replace HQ := hid (hq1.set 1 (.int .i64 (v1 : Int)))
  replace HP := hid (HP.out.trans (skBind_in hv1))
  clear hv1 hR1 hq1
  go_wp2_with fail
  clear c1 f1
  refine (refBitsE (by omega) (by omega) HQ.out.rst).mono ?_
  rintro e w2 ⟨v2, s2, hv2, hl2, rfl, hR2⟩
  have hq2 := HQ.out.call hR2
  have c2 : w2.cell? ⟨w.heap.size, 2, none⟩ = some (.int .i64 0) := hq2.own.cell 2
  have f2 := hq2.own.free 2
  replace HQ := hid (hq2.set 2 (.int .i64 (v2 : Int)))
  replace HP := hid (HP.out.trans (skBind_in hv2))
  clear hv2 hR2 hq2
  go_wp2_with fail
  clear c2 f2
  refine (refBitsE (by omega) (by omega) HQ.out.rst).mono ?_
  rintro e w3 ⟨v3, s3, hv3, hl3, rfl, hR3⟩
  have hq3 := HQ.out.call hR3
  have c3 : w3.cell? ⟨w.heap.size, 3, none⟩ = some (.int .i64 0) := hq3.own.cell 3
  have f3 := hq3.own.free 3
  replace HQ := hid (hq3.set 3 (.int .i64 (v3 : Int)))
  replace HP := hid (HP.out.trans (skBind_in hv3))
  clear hv3 hR3 hq3
  go_wp2_with fail
  clear c3 f3
  refine (refBitsE (by omega) (by omega) HQ.out.rst).mono ?_
  rintro e w4 ⟨v4, s4, hv4, hl4, rfl, hR4⟩
  have hq4 := HQ.out.call hR4
  have c4 : w4.cell? ⟨w.heap.size, 4, none⟩ = some (.int .i64 0) := hq4.own.cell 4
  have f4 := hq4.own.free 4
  replace HQ := hid (hq4.set 4 (.int .i64 (v4 : Int)))
  replace HP := hid (HP.out.trans (skBind_in hv4))
  clear hv4 hR4 hq4
  go_wp2_with fail
  clear c4 f4
  refine (refBitsE (by omega) (by omega) HQ.out.rst).mono ?_
  rintro e w5 ⟨v5, s5, hv5, hl5, rfl, hR5⟩
  have hq5 := HQ.out.call hR5
  have c5 : w5.cell? ⟨w.heap.size, 5, none⟩ = some (.int .i64 0) := hq5.own.cell 5
  have f5 := hq5.own.free 5
  replace HQ := hid (hq5.set 5 (.int .i64 (1 + (v5 : Int))))
  replace HP := hid (HP.out.trans (skBind_in hv5))
  clear hv5 hR5 hq5
  go_wp2_with fail
  clear c5 f5
  refine (refBitsE (by omega) (by omega) HQ.out.rst).mono ?_
  rintro e w6 ⟨v6, s6, hv6, hl6, rfl, hR6⟩
  have hq6 := HQ.out.call hR6
  have c6 : w6.cell? ⟨w.heap.size, 6, none⟩ = some (.int .i64 0) := hq6.own.cell 6
  have f6 := hq6.own.free 6
  replace HQ := hid (hq6.set 6 (.int .i64 (1 + (v6 : Int))))
  replace HP := hid (HP.out.trans (skBind_in hv6))
  clear hv6 hR6 hq6
  go_wp2_with fail
  clear c6 f6
  refine (refBitsE (by omega) (by omega) HQ.out.rst).mono ?_
  rintro e w7 ⟨v7, s7, hv7, hl7, rfl, hR7⟩
  have hq7 := HQ.out.call hR7
  have c7 : w7.cell? ⟨w.heap.size, 7, none⟩ = some (.int .i64 0) := hq7.own.cell 7
  have f7 := hq7.own.free 7
  replace HQ := hid (hq7.set 7 (.int .i64 (v7 : Int)))
  replace HP := hid (HP.out.trans (skBind_in hv7))
  clear hv7 hR7 hq7
  go_wp2_with fail
  clear c7 f7
  refine (refTextE HQ.out.rst).mono ?_
  rintro e w8 ⟨l8, s8, hv8, rfl, hR8⟩
  have hq8 := HQ.out.call hR8
  obtain ⟨i, HIE⟩ : ∃ i, Hid (i = (⟨v0, v1, v2, v3, v4, v5 + 1, v6 + 1, v7, l8⟩ : Info)) := ⟨_, rfl⟩
  have HP8 : Hid (q = (i, if i.ok then s8 else skFail 4 s8)) := by rw [HIE.out]; exact hid (HP.out.trans (skBind_in hv8))
  have hQ8 : RQ w sb tx I rb db w.heap.size s8 d (infoVs i) (w8.setCell ⟨w.heap.size, 8, none⟩ (.string (strOf l8))) := by
    have := hq8.set 8 (.string (strOf l8))
    rw [about_cells, ← info_vs, ← HIE.out] at this
    exact this
  have hown := hq8.own
  rw [about_cells8] at hown
  have c8 : w8.cell? ⟨w.heap.size, 8, none⟩ = some (.string ⟨#[]⟩) := hown.cell 8
  have f8 := hown.free 8
  have y0 : w8.cell? ⟨w.heap.size, 0, none⟩ = some (.int .i64 (v0 : Int)) := hown.cell 0
  have y1 : w8.cell? ⟨w.heap.size, 1, none⟩ = some (.int .i64 (v1 : Int)) := hown.cell 1
  have y4 : w8.cell? ⟨w.heap.size, 4, none⟩ = some (.int .i64 (v4 : Int)) := hown.cell 4
  have y6 : w8.cell? ⟨w.heap.size, 6, none⟩ = some (.int .i64 (1 + (v6 : Int))) := hown.cell 6
  have r1 : w8.cell? ⟨rb, 1, none⟩ = some (.int .i64 (s8.1 : Int)) := hq8.rd.cell 1
  have hnr : ¬ w.heap.size = rb := hq8.own.ne hq8.rd (by decide)
  have HQ8 := hid hQ8
  have HOK : Hid (i.ok = (16 ≤ v0 && v0 ≤ v1 && v1 ≤ 4096 && 4 ≤ v6 + 1 && 0 < v4)) := by rw [HIE.out]; exact hid rfl
  clear HQ HP hv8 hR8 hq8 hQ8 HIE hown hl0 hl1 hl2 hl3 hl4 hl5 hl6 hl7
  by_cases he : s8.1 = 0
  · rw [he] at r1
    by_cases g0 : 16 ≤ v0
    · have g0' : ¬ (v0 : Int) < 16 := by omega
      by_cases g1 : v0 ≤ v1
      · have g1' : ¬ (v1 : Int) < (v0 : Int) := by omega
        by_cases g2 : v1 ≤ 4096
        · have g2' : ¬ (4096 : Int) < (v1 : Int) := by omega
          by_cases g3 : 4 ≤ v6 + 1
          · have g3' : ¬ 1 + (v6 : Int) < 4 := by omega
            by_cases g4 : 0 < v4
            · have g4' : ((v4 : Int) == 0) = false := by simp; omega
              go_upto_region 12 with fail
              go_wp2_with (first
                | (refine wpList_load_mid rfl 111 _ rfl w.heap.size 0 rfl (infoL i) _ (infoVs_range HQ8.out.own) Tryz.underlying111 rfl HI.out ?_)
                | (refine wpList_store_blk rfl 111 _ _ rfl HQ8.out.dec 1 (infoL i) (Nat.le_of_ble_eq_true rfl) HI.out rfl rfl (info_one _) ?_; intro W2 hK2 hW2))
              rw [rdec_info] at hW2
              have HE := hid (HQ8.out.told hK2 hW2)
              clear hK2 hW2
              go_wp2
              go_end0
              exact ⟨rfl, by rw [show q = (i, s8) from (by rw [HP8.out]; rw [HOK.out]; simp [g0, g1, g2, g3, g4])]; exact HE.out⟩
            · obtain rfl : v4 = 0 := by omega
              have gok : (0 : Nat) < 0 ↔ False := by simp
              go_wp2_with fail
              refine (refFail 4 (by omega) HQ8.out.rst).mono ?_
              rintro e w9 ⟨rfl, hR9⟩
              have HQ9 := hid (HQ8.out.call hR9)
              clear hR9
              go_upto_region 12 with fail
              go_wp2_with (first
                | (refine wpList_load_mid rfl 111 _ rfl w.heap.size 0 rfl (infoL i) _ (infoVs_range HQ9.out.own) Tryz.underlying111 rfl HI.out ?_)
                | (refine wpList_store_blk rfl 111 _ _ rfl HQ9.out.dec 1 (infoL i) (Nat.le_of_ble_eq_true rfl) HI.out rfl rfl (info_one _) ?_; intro W2 hK2 hW2))
              rw [rdec_info] at hW2
              have HE := hid (HQ9.out.told hK2 hW2)
              clear hK2 hW2
              go_wp2
              go_end0
              exact ⟨rfl, by rw [show q = (i, skFail 4 s8) from (by rw [HP8.out]; rw [HOK.out]; simp [gok])]; exact HE.out⟩
          · have g3' : 1 + (v6 : Int) < 4 := by omega
            have gok := g3
            go_wp2_with fail
            refine (refFail 4 (by omega) HQ8.out.rst).mono ?_
            rintro e w9 ⟨rfl, hR9⟩
            have HQ9 := hid (HQ8.out.call hR9)
            clear hR9
            go_upto_region 12 with fail
            go_wp2_with (first
              | (refine wpList_load_mid rfl 111 _ rfl w.heap.size 0 rfl (infoL i) _ (infoVs_range HQ9.out.own) Tryz.underlying111 rfl HI.out ?_)
              | (refine wpList_store_blk rfl 111 _ _ rfl HQ9.out.dec 1 (infoL i) (Nat.le_of_ble_eq_true rfl) HI.out rfl rfl (info_one _) ?_; intro W2 hK2 hW2))
            rw [rdec_info] at hW2
            have HE := hid (HQ9.out.told hK2 hW2)
            clear hK2 hW2
            go_wp2
            go_end0
            exact ⟨rfl, by rw [show q = (i, skFail 4 s8) from (by rw [HP8.out]; rw [HOK.out]; simp [gok])]; exact HE.out⟩
        · have g2' : (4096 : Int) < (v1 : Int) := by omega
          have gok := g2
          go_wp2_with fail
          refine (refFail 4 (by omega) HQ8.out.rst).mono ?_
          rintro e w9 ⟨rfl, hR9⟩
          have HQ9 := hid (HQ8.out.call hR9)
          clear hR9
          go_upto_region 12 with fail
          go_wp2_with (first
            | (refine wpList_load_mid rfl 111 _ rfl w.heap.size 0 rfl (infoL i) _ (infoVs_range HQ9.out.own) Tryz.underlying111 rfl HI.out ?_)
            | (refine wpList_store_blk rfl 111 _ _ rfl HQ9.out.dec 1 (infoL i) (Nat.le_of_ble_eq_true rfl) HI.out rfl rfl (info_one _) ?_; intro W2 hK2 hW2))
          rw [rdec_info] at hW2
          have HE := hid (HQ9.out.told hK2 hW2)
          clear hK2 hW2
          go_wp2
          go_end0
          exact ⟨rfl, by rw [show q = (i, skFail 4 s8) from (by rw [HP8.out]; rw [HOK.out]; simp [gok])]; exact HE.out⟩
      · have g1' : (v1 : Int) < (v0 : Int) := by omega
        have gok := g1
        go_wp2_with fail
        refine (refFail 4 (by omega) HQ8.out.rst).mono ?_
        rintro e w9 ⟨rfl, hR9⟩
        have HQ9 := hid (HQ8.out.call hR9)
        clear hR9
        go_upto_region 12 with fail
        go_wp2_with (first
          | (refine wpList_load_mid rfl 111 _ rfl w.heap.size 0 rfl (infoL i) _ (infoVs_range HQ9.out.own) Tryz.underlying111 rfl HI.out ?_)
          | (refine wpList_store_blk rfl 111 _ _ rfl HQ9.out.dec 1 (infoL i) (Nat.le_of_ble_eq_true rfl) HI.out rfl rfl (info_one _) ?_; intro W2 hK2 hW2))
        rw [rdec_info] at hW2
        have HE := hid (HQ9.out.told hK2 hW2)
        clear hK2 hW2
        go_wp2
        go_end0
        exact ⟨rfl, by rw [show q = (i, skFail 4 s8) from (by rw [HP8.out]; rw [HOK.out]; simp [gok])]; exact HE.out⟩
    · have g0' : (v0 : Int) < 16 := by omega
      have gok := g0
      go_wp2_with fail
      refine (refFail 4 (by omega) HQ8.out.rst).mono ?_
      rintro e w9 ⟨rfl, hR9⟩
      have HQ9 := hid (HQ8.out.call hR9)
      clear hR9
      go_upto_region 12 with fail
      go_wp2_with (first
        | (refine wpList_load_mid rfl 111 _ rfl w.heap.size 0 rfl (infoL i) _ (infoVs_range HQ9.out.own) Tryz.underlying111 rfl HI.out ?_)
        | (refine wpList_store_blk rfl 111 _ _ rfl HQ9.out.dec 1 (infoL i) (Nat.le_of_ble_eq_true rfl) HI.out rfl rfl (info_one _) ?_; intro W2 hK2 hW2))
      rw [rdec_info] at hW2
      have HE := hid (HQ9.out.told hK2 hW2)
      clear hK2 hW2
      go_wp2
      go_end0
      exact ⟨rfl, by rw [show q = (i, skFail 4 s8) from (by rw [HP8.out]; rw [HOK.out]; simp [gok])]; exact HE.out⟩
  · have he' : ((s8.1 : Int) == 0) = false := by simp; omega
    go_upto_region 12 with fail
    go_wp2_with (first
      | (refine wpList_load_mid rfl 111 _ rfl w.heap.size 0 rfl (infoL i) _ (infoVs_range HQ8.out.own) Tryz.underlying111 rfl HI.out ?_)
      | (refine wpList_store_blk rfl 111 _ _ rfl HQ8.out.dec 1 (infoL i) (Nat.le_of_ble_eq_true rfl) HI.out rfl rfl (info_one _) ?_; intro W2 hK2 hW2))
    rw [rdec_info] at hW2
    have HE := hid (HQ8.out.told hK2 hW2)
    clear hK2 hW2
    go_wp2
    go_end0
    exact ⟨rfl, by rw [show q = (i, s8) from (by rw [HP8.out]; unfold skFail; rw [if_neg he]; simp)]; exact HE.out⟩
end Go.Proofs.YtgkenhmbilkhdaaGreatDoor
