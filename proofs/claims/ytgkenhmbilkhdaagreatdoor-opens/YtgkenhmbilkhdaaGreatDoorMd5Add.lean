import Derived.Test.YtgkenhmbilkhdaaGreatDoorMd5Mix
import Derived.Test.YtgkenhmbilkhdaaGreatDoorGBitsPure2
import Derived.Laws.CopyRow
namespace Go.Proofs.YtgkenhmbilkhdaaGreatDoor
open Go.RowKit

theorem kept_setRow (p : Nat) (w : World) (cs : Array Value) : Kept p w (w.setRow p cs) :=
  ⟨rfl, rfl, rfl, by simp [World.setRow], fun k _ hp => by simp [World.setRow, Array.getElem?_modify, Ne.symm hp]⟩

/-- 'copy' into block p, as one step of a region that draws its order: the world behind it is a letter. -/
theorem step_copy_kept {P : Program} {ops : Array Oper} {o : Oper} {a : Act} {w : World} {K : Act → World → Prop} {Q : Exit → Act → World → Prop} {E : Prop} (hgd : o.guard = none) (d s : Operand) (dT sT : TypeId)
    (ho : o.op = .call { callee := .builtin .copy, args := #[d, s], argTypes := #[dT, sT] }) (elem : TypeId) (hu : P.underlying dT = some (.slice elem)) (hsz : (P.info? elem).map (·.size) = some 1)
    (p off dLen dCap : Nat) (ad : Addr) (sLen sCap : Nat) (hd : a.eval d = .slice (some ⟨p, off, none⟩) dLen dCap) (hs : a.eval s = .slice (some ad) sLen sCap)
    (cur : Array Value) (t : TypeId) (hg : Blk w p cur t) (cs : List Value) (hn : cs.length = Nat.min sLen dLen)
    (hsrc : ∀ j v, cs[j]? = some v → w.cell? (ad.add j) = some v) (hfit : off + cs.length ≤ cur.size) (h1 : ∀ v ∈ cs, v.oneCell' = true)
    (h : ∀ w', Kept p w w' → Blk w' p (cur.toList.take off ++ cs ++ cur.toList.drop (off + cs.length)).toArray t → K (a.put o.dst (goInt cs.length)) w') :
    if Region.wanted o (yielded ops a.tmps) = true then Oper.wp P o a w K Q else E := by
  have hw : Region.wanted o (yielded ops a.tmps) = true := by simp [Region.wanted, hgd]
  rw [if_pos hw]
  have hrun := run_copy_row (P := P) w dT sT o.type elem p off dLen dCap ad sLen sCap cur t cs hu hsz hg hn hsrc hfit h1
  unfold Oper.wp
  simp [execOp, ho, resolve, invoke, builtin, hd, hs, hrun, Result.andThen]
  exact h _ (kept_setRow p w _) (by
    unfold Blk
    have := setRow_heap w p cur (cur.toList.take off ++ cs ++ cur.toList.drop (off + cs.length)).toArray t (0, 0) hg
    simpa using this)

theorem md_pre (l x : List Nat) : ∀ j, 64 * j ≤ l.length → md (l ++ x) j = md l j
  | 0, _ => rfl
  | j + 1, h => by
    show mixQ _ (md (l ++ x) j) = mixQ _ (md l j)
    rw [md_pre l x j (by omega), List.drop_append_of_le_length (by omega), List.take_append_of_le_length (by rw [List.length_drop]; omega)]

theorem take_four (A B C : List Value) (hA : A.length = 4) (r : Nat) (h : r ≤ B.length) : (A ++ B ++ C).take (4 + r) = A ++ B.take r := by
  rw [List.append_assoc, List.take_append, List.take_of_length_le (by omega), hA, Nat.add_sub_cancel_left, List.take_append_of_le_length h]
theorem drop_four (A B C : List Value) (hA : A.length = 4) (r : Nat) (h : r ≤ B.length) : (A ++ B ++ C).drop (4 + r) = B.drop r ++ C := by
  rw [List.append_assoc, List.drop_append, List.drop_eq_nil_of_le (by omega), hA, Nat.add_sub_cancel_left, List.drop_append_of_le_length h, List.nil_append]

theorem md_splice (q : Quad) (bl x : List Nat) (n r : Nat) (h : r + x.length ≤ bl.length) :
    ((mdCells q bl n).toList.take (4 + r) ++ x.map byteV ++ (mdCells q bl n).toList.drop (4 + r + (x.map byteV).length)).toArray = mdCells q (bl.take r ++ x ++ bl.drop (r + x.length)) n := by
  unfold mdCells
  rw [List.toList_toArray, take_four _ _ _ rfl r (by simp; omega), Nat.add_assoc, drop_four _ _ _ rfl _ (by simp; omega)]
  simp [List.append_assoc]

theorem md_setSize (q : Quad) (bl : List Nat) (n m : Nat) (h : bl.length = 64) : (mdCells q bl n).setIfInBounds 68 (.int .u64 (m : Int)) = mdCells q bl m := by
  unfold mdCells
  rw [List.setIfInBounds_toArray, List.set_append_right _ _ (by simp [h])]
  simp [h]

/-- An MD5 at block p that has taken the bytes l. -/
def MdAt (w : World) (p : Nat) (l : List Nat) : Prop := ∃ bl : List Nat, bl.length = 64 ∧ (∀ x ∈ bl, x < 256) ∧ bl.take (l.length % 64) = l.drop (64 * (l.length / 64)) ∧ Blk w p (mdCells (md l (l.length / 64)) bl l.length) 197

theorem md_more (l x bl : List Nat) (h64 : bl.length = 64) (ht : bl.take (l.length % 64) = l.drop (64 * (l.length / 64))) (hr : l.length % 64 + x.length < 64) :
    (l ++ x).length / 64 = l.length / 64 ∧ md (l ++ x) ((l ++ x).length / 64) = md l (l.length / 64) ∧
    (bl.take (l.length % 64) ++ x ++ bl.drop (l.length % 64 + x.length)).take ((l ++ x).length % 64) = (l ++ x).drop (64 * ((l ++ x).length / 64)) := by
  have e1 : (l ++ x).length / 64 = l.length / 64 := by rw [List.length_append]; omega
  have e2 : (l ++ x).length % 64 = l.length % 64 + x.length := by rw [List.length_append]; omega
  refine ⟨e1, by rw [e1]; exact md_pre l x _ (by omega), ?_⟩
  rw [e1, e2, List.take_append_of_le_length (by simp; omega), List.take_of_length_le (by simp; omega), ht, List.drop_append_of_le_length (by omega)]

theorem md_full (l x bl : List Nat) (h64 : bl.length = 64) (ht : bl.take (l.length % 64) = l.drop (64 * (l.length / 64))) (hr : l.length % 64 + x.length = 64) :
    (l ++ x).length % 64 = 0 ∧ mixQ (wordOf (bl.take (l.length % 64) ++ x ++ bl.drop (l.length % 64 + x.length))) (md l (l.length / 64)) = md (l ++ x) ((l ++ x).length / 64) ∧ (l ++ x).drop (64 * ((l ++ x).length / 64)) = [] := by
  have e1 : (l ++ x).length / 64 = l.length / 64 + 1 := by rw [List.length_append]; omega
  have e2 : (l ++ x).length % 64 = 0 := by rw [List.length_append]; omega
  refine ⟨e2, ?_, List.drop_eq_nil_of_le (by omega)⟩
  rw [e1]
  show _ = mixQ (wordOf (((l ++ x).drop (64 * (l.length / 64))).take 64)) (md (l ++ x) (l.length / 64))
  have e3 : bl.drop (l.length % 64 + x.length) = [] := List.drop_eq_nil_of_le (by omega)
  have e4 : (bl.take (l.length % 64) ++ x).take 64 = bl.take (l.length % 64) ++ x := List.take_of_length_le (by rw [List.length_append, List.length_take]; omega)
  rw [md_pre l x _ (by omega), List.drop_append_of_le_length (by omega), ← ht, e3, e4, List.append_nil]

theorem bytes_range {w : World} {g off : Nat} {l : List Nat} (h : Bytes8 w g off l) (c : Nat) (hc : c ≤ l.length) : ∀ j v, ((l.take c).map byteV)[j]? = some v → w.cell? ((⟨g, off, none⟩ : Addr).add j) = some v := by
  intro j v hv
  rw [List.getElem?_map] at hv
  have hj : j < c := by
    rcases Nat.lt_or_ge j c with h | h
    · exact h
    · rw [List.getElem?_eq_none (by rw [List.length_take]; omega)] at hv; cases hv
  rw [List.getElem?_take_of_lt hj, List.getElem?_eq_getElem (by omega)] at hv
  rw [Addr.add_mid, h j (by omega), List.getD_eq_getElem?_getD, List.getElem?_eq_getElem (by omega)]
  exact hv
theorem bytes_one (l : List Nat) : ∀ v ∈ l.map byteV, v.oneCell' = true := by
  intro v hv
  obtain ⟨x, _, rfl⟩ := List.mem_map.1 hv
  rfl
theorem Bytes8.drop {w : World} {g off : Nat} {l : List Nat} (h : Bytes8 w g off l) (c : Nat) : Bytes8 w g (off + c) (l.drop c) := by
  intro i hi
  rw [List.length_drop] at hi
  have := h (c + i) (by omega)
  rw [show off + c + i = off + (c + i) by omega, this, List.getD_eq_getElem?_getD, List.getD_eq_getElem?_getD, List.getElem?_drop]
theorem Bytes8.kept {w w' : World} {p g off : Nat} {l : List Nat} (h : Bytes8 w g off l) (hk : Kept p w w') (hg : g < w.heap.size) (hp : g ≠ p) : Bytes8 w' g off l :=
  fun i hi => (hk.cell (a := ⟨g, off + i, none⟩) hg hp).trans (h i hi)

theorem arr64 : Tryz.prog.arrayLen 195 = 64 := by kernel_rfl
theorem arr64u : Tryz.prog.underlying 195 = some (.array (Tryz.prog.arrayLen 195) (Tryz.prog.elem 195)) := by kernel_rfl
theorem size8 (W : World) : (sizeOf (Tryz.prog.elem 195)).run Tryz.prog W = .ok 1 W := by kernel_rfl
theorem slice_at (p r : Nat) (hr : r < 64) (W : World) : (Instr.sliceAt 195 (.pointer (some ⟨p, 4, none⟩)) (some (.int .u64 r)) none none).run Tryz.prog W = .ok (.slice (some ⟨p, 4 + r, none⟩) (64 - r) (64 - r)) W := by
  rw [run_sliceAt_array_l W 195 ⟨p, 4, none⟩ arr64u .u64 r (by omega) (by rw [arr64]; omega), size8, arr64]
  simp only [Result.andThen, slicedAt, Int.toNat_natCast]
  rw [if_neg (by omega), Nat.mul_one, Addr.add_mid]

/-- 'copy' into the block of an MD5. -/
theorem step_copy_md {ops : Array Oper} {o : Oper} {a : Act} {w : World} {K : Act → World → Prop} {Q : Exit → Act → World → Prop} {E : Prop} (hgd : o.guard = none) (d s : Operand)
    (ho : o.op = .call { callee := .builtin .copy, args := #[d, s], argTypes := #[136, 136] })
    (p r g o1 c1 : Nat) (m1 : List Nat) (hd : a.eval d = .slice (some ⟨p, 4 + r, none⟩) (64 - r) (64 - r)) (hs : a.eval s = .slice (some ⟨g, o1, none⟩) m1.length c1)
    (q : Quad) (bl : List Nat) (N : Nat) (h64 : bl.length = 64) (hr : r < 64) (hB : Blk w p (mdCells q bl N) 197) (h8 : Bytes8 w g o1 m1)
    (h : ∀ w' c bl', Hid (c = Nat.min m1.length (64 - r) ∧ bl' = bl.take r ++ m1.take c ++ bl.drop (r + (m1.take c).length)) → bl'.length = 64 → Kept p w w' → Blk w' p (mdCells q bl' N) 197 → K (a.put o.dst (.int .i64 (c : Nat))) w') :
    if Region.wanted o (yielded ops a.tmps) = true then Oper.wp Tryz.prog o a w K Q else E := by
  have hcl : ((m1.take (Nat.min m1.length (64 - r))).map byteV).length = Nat.min m1.length (64 - r) := by rw [List.length_map, List.length_take]; exact Nat.min_eq_left (Nat.min_le_left _ _)
  have hle : Nat.min m1.length (64 - r) ≤ 64 - r := Nat.min_le_right _ _
  refine step_copy_kept hgd d s 136 136 ho 5 Tryz.underlying136 (by kernel_rfl) p (4 + r) (64 - r) (64 - r) ⟨g, o1, none⟩ m1.length c1 hd hs (mdCells q bl N) 197 hB ((m1.take (Nat.min m1.length (64 - r))).map byteV) hcl
    (bytes_range h8 _ (Nat.min_le_left _ _)) (by rw [hcl]; simp [mdCells, h64]; omega) (bytes_one _) ?_
  intro w' hk hB'
  have hlen : (m1.take (Nat.min m1.length (64 - r))).length = Nat.min m1.length (64 - r) := by rw [List.length_map] at hcl; exact hcl
  rw [md_splice q bl _ N r (by rw [hlen, h64]; omega)] at hB'
  have := h w' (Nat.min m1.length (64 - r)) _ ⟨rfl, rfl⟩ (by simp only [List.length_append, List.length_take, List.length_drop, h64]; rw [← List.length_take, hlen]; omega) hk hB'
  rw [show goInt ((m1.take (Nat.min m1.length (64 - r))).map byteV).length = .int .i64 ((Nat.min m1.length (64 - r) : Nat) : Int) by rw [hcl]; rfl]
  exact this

theorem mdAt_full {w : World} {p c : Nat} {l1 m1 bl bl2 : List Nat} (h64 : bl.length = 64) (h642 : bl2.length = 64) (hbl2 : ∀ x ∈ bl2, x < 256) (ht : bl.take (l1.length % 64) = l1.drop (64 * (l1.length / 64))) (hc : c ≤ m1.length) (hf : l1.length % 64 + c = 64)
    (hb2 : bl2 = bl.take (l1.length % 64) ++ m1.take c ++ bl.drop (l1.length % 64 + (m1.take c).length)) (hB : Blk w p (mdCells (mixQ (wordOf bl2) (md l1 (l1.length / 64))) bl2 (l1.length + c)) 197) : MdAt w p (l1 ++ m1.take c) := by
  have hx : (m1.take c).length = c := by rw [List.length_take]; omega
  obtain ⟨e1, e2, e3⟩ := md_full l1 (m1.take c) bl h64 ht (by rw [hx]; exact hf)
  refine ⟨bl2, h642, hbl2, ?_, ?_⟩
  · rw [e1, e3, List.take_zero]
  · rw [← e2, ← hb2, List.length_append, hx]; exact hB
theorem mdAt_part {w : World} {p c : Nat} {l1 m1 bl bl2 : List Nat} (h64 : bl.length = 64) (h642 : bl2.length = 64) (hbl2 : ∀ x ∈ bl2, x < 256) (ht : bl.take (l1.length % 64) = l1.drop (64 * (l1.length / 64))) (hc : c ≤ m1.length) (hf : l1.length % 64 + c < 64)
    (hb2 : bl2 = bl.take (l1.length % 64) ++ m1.take c ++ bl.drop (l1.length % 64 + (m1.take c).length)) (hB : Blk w p (mdCells (md l1 (l1.length / 64)) bl2 (l1.length + c)) 197) : MdAt w p (l1 ++ m1.take c) := by
  have hx : (m1.take c).length = c := by rw [List.length_take]; omega
  obtain ⟨_, e2, e3⟩ := md_more l1 (m1.take c) bl h64 ht (by rw [hx]; exact hf)
  refine ⟨bl2, h642, hbl2, ?_, ?_⟩
  · rw [← e3, ← hb2]
  · rw [e2, List.length_append, hx]; exact hB
theorem bl2_lt {bl m1 : List Nat} {r c k : Nat} (h1 : ∀ x ∈ bl, x < 256) (h2 : ∀ x ∈ m1, x < 256) : ∀ x ∈ bl.take r ++ m1.take c ++ bl.drop k, x < 256 := by
  intro x hx
  simp only [List.mem_append] at hx
  rcases hx with (hx | hx) | hx
  · exact h1 x (List.mem_of_mem_take hx)
  · exact h2 x (List.mem_of_mem_take hx)
  · exact h1 x (List.mem_of_mem_drop hx)
theorem slice_drop {g o m c k : Nat} {m1 : List Nat} (h : m = m1.length) : Value.slice (some ⟨g, o, none⟩) (m - c) k = .slice (some ⟨g, o, none⟩) (m1.drop c).length k := by rw [List.length_drop, h]

set_option maxHeartbeats 4000000 in
set_option maxRecDepth 10000 in
theorem add_any (p : Nat) (l m : List Nat) (g off cap : Nat) (hm : ∀ x ∈ m, x < 256) (hlen : l.length + m.length ≤ 1099511627776) (hcap : m.length ≤ cap) (w : World) (hT : MdTabs w) (hp : 8 ≤ p) (hg : g < w.heap.size) (hgp : g ≠ p) (hrow : Bytes8 w g off m) (hM : MdAt w p l) :
    Calls Tryz.prog 73 #[.pointer (some ⟨p, 0, none⟩), .slice (some ⟨g, off, none⟩) m.length cap] w fun e w' => e = .returned (.tuple #[]) ∧ Kept p w w' ∧ MdAt w' p (l ++ m) := by
  go_enter Tryz.func73, Tryz.ntmps73
  go_wp2
  go_loopw [1] (fun b wr => ∃ (l1 m1 : List Nat) (o1 c1 : Nat), l ++ m = l1 ++ m1 ∧ (∀ x ∈ m1, x < 256) ∧ m1.length ≤ c1 ∧ b = .slice (some ⟨g, o1, none⟩) m1.length c1 ∧ Kept p w wr ∧ Bytes8 wr g o1 m1 ∧ MdAt wr p l1) (fun b _ => match b with | .slice _ n _ => n | _ => 0)
  case atStart => exact ⟨l, m, off, cap, rfl, hm, hcap, rfl, Kept.refl _ _, hrow, hM⟩
  case round =>
    obtain ⟨l1, m1, o1, c1, hlm, hm1, hc1, rfl, hk, hb8, hM1⟩ := hrel
    have HLM := hid hlm
    clear hlm
    by_cases h0 : m1.length = 0
    · have hnil : m1 = [] := List.eq_nil_of_length_eq_zero h0
      subst hnil
      go_wp2
      go_end0
      exact ⟨rfl, hk, by rw [HLM.out, List.append_nil]; exact hM1⟩
    · obtain ⟨bl, h64, hbl, htake, hB⟩ := hM1
      have hn : l1.length + m1.length ≤ 1099511627776 := by
        have := congrArg List.length HLM.out
        rw [List.length_append, List.length_append] at this
        omega
      have HTK := hid htake
      clear htake
      have hsz := hB.cell 68
      rw [mdCells_size _ _ _ h64] at hsz
      have hrr : l1.length % 64 < 64 := Nat.mod_lt _ (by omega)
      have hr' : (l1.length : Int).tmod 64 = ((l1.length % 64 : Nat) : Int) := by rw [Int.tmod_eq_emod_of_nonneg (by omega)]; omega
      generalize hNr : l1.length % 64 = r at hrr hr'
      have HNR := hid hNr
      clear hNr
      have hrI : (r : Int) < 64 := by omega
      go_wp2
      have hsl := slice_at p r hrr
      go_region_held3 (fun w' => w'.cell? ⟨p, 68, none⟩ = some (.int .u64 (l1.length : Int))) (first | go_keep | exact (hB2.cell 68).trans (mdCells_size _ _ _ hl2))
        ((refine step_copy_md (by rfl) _ _ (by rfl) p r g o1 c1 m1 (by rfl) (by rfl) _ bl _ h64 hrr hB.drew hb8 ?_; intro w2 c bl2 HC hl2 hk2 hB2))
      have hce := HC.out.1
      have hc1' : c ≤ 64 - r := by rw [hce]; exact Nat.min_le_right _ _
      have hc2' : c ≤ m1.length := by rw [hce]; exact Nat.min_le_left _ _
      have hc0 : 0 < c := by
        rw [hce]
        exact Nat.lt_min.2 ⟨by omega, by omega⟩
      clear hce
      have hcI : (c : Int) ≤ (m1.length : Int) := by omega
      have hB3 := hB2.set 68 (.int .u64 ((l1.length + c : Nat) : Int))
      rw [md_setSize _ _ _ _ hl2] at hB3
      have f68 := hB2.free 68
      have z68 := (hB2.cell 68).trans (mdCells_size _ _ _ hl2)
      have z68' := (hB3.cell 68).trans (mdCells_size _ _ _ hl2)
      rw [Int.natCast_add] at hB3 z68'
      by_cases hfull : r + c = 64
      · have ht2 : ((l1.length : Int) + (c : Int)).tmod 64 = 0 := by
          have := HNR.out
          rw [Int.tmod_eq_emod_of_nonneg (by omega)]; omega
        have hTw := hT.kept (((hk.drew.trans hk2).setCell 68 (.int .u64 ((l1.length : Int) + (c : Int))))) hp
        have hbl2 : ∀ x ∈ bl2, x < 256 := by rw [HC.out.2]; exact bl2_lt hbl hm1
        have HD := hid hbl2
        have HB3 := hid hB3
        clear hbl2 hB3
        by_cases hcc : c1 = c
        · obtain rfl : c = c1 := hcc.symm
          go_wp2_with fail
          refine (mix_any p (md l1 (l1.length / 64)) bl2 (l1.length + c) (md_ok _ _) hl2 HD.out _ hTw HB3.out).mono ?_
          rintro e w4 ⟨rfl, hk4, hB4⟩
          have hK4 := (((hk.drew.trans hk2).setCell 68 (.int .u64 ((l1.length : Int) + (c : Int)))).trans hk4)
          have hA := mdAt_full (c := c) (m1 := m1) h64 hl2 HD.out HTK.out hc2' (by rw [HNR.out]; exact hfull) (by rw [HNR.out]; exact HC.out.2) hB4
          go_wp2
          refine ⟨⟨l1 ++ m1.take c, m1.drop c, o1, 0, by rw [List.append_assoc, List.take_append_drop]; exact HLM.out, fun x hx => hm1 x (List.mem_of_mem_drop hx), by rw [List.length_drop]; omega, by rw [List.length_drop, show m1.length - c = 0 by omega], hK4, (fun i hi => by rw [List.length_drop] at hi; omega), hA⟩, by simp; omega⟩
        · have hcc' : ¬ (c1 : Nat) = c := hcc
          go_wp2_with fail
          refine (mix_any p (md l1 (l1.length / 64)) bl2 (l1.length + c) (md_ok _ _) hl2 HD.out _ hTw HB3.out).mono ?_
          rintro e w4 ⟨rfl, hk4, hB4⟩
          have hK4 := (((hk.drew.trans hk2).setCell 68 (.int .u64 ((l1.length : Int) + (c : Int)))).trans hk4)
          have hA := mdAt_full (c := c) (m1 := m1) h64 hl2 HD.out HTK.out hc2' (by rw [HNR.out]; exact hfull) (by rw [HNR.out]; exact HC.out.2) hB4
          go_wp2
          refine ⟨⟨l1 ++ m1.take c, m1.drop c, o1 + c, c1 - c, by rw [List.append_assoc, List.take_append_drop]; exact HLM.out, fun x hx => hm1 x (List.mem_of_mem_drop hx), by rw [List.length_drop]; omega, slice_drop rfl, hK4, ((hb8.drop c).kept ((((Kept.refl p wr).drew.trans hk2).setCell 68 (.int .u64 ((l1.length : Int) + (c : Int)))).trans hk4) (Nat.lt_of_lt_of_le hg hk.size) hgp), hA⟩, by simp; omega⟩
      · have hlt2 : r + c < 64 := by omega
        have ht2 : ((l1.length : Int) + (c : Int)).tmod 64 = ((r + c : Nat) : Int) := by
          have := HNR.out
          rw [Int.tmod_eq_emod_of_nonneg (by omega)]; omega
        have htb : (((r + c : Nat) : Int) == 0) = false := by simp; omega
        have hbl2 : ∀ x ∈ bl2, x < 256 := by rw [HC.out.2]; exact bl2_lt hbl hm1
        have HD := hid hbl2
        have HB3 := hid hB3
        clear hbl2 hB3
        by_cases hcc : c1 = c
        · obtain rfl : c = c1 := hcc.symm
          have hK4 := ((hk.drew.trans hk2).setCell 68 (.int .u64 ((l1.length : Int) + (c : Int))))
          have hA := mdAt_part (c := c) (m1 := m1) h64 hl2 HD.out HTK.out hc2' (by rw [HNR.out]; omega) (by rw [HNR.out]; exact HC.out.2) HB3.out
          go_wp2
          refine ⟨⟨l1 ++ m1.take c, m1.drop c, o1, 0, by rw [List.append_assoc, List.take_append_drop]; exact HLM.out, fun x hx => hm1 x (List.mem_of_mem_drop hx), by rw [List.length_drop]; omega, by rw [List.length_drop, show m1.length - c = 0 by omega], hK4, (fun i hi => by rw [List.length_drop] at hi; omega), hA⟩, by simp; omega⟩
        · have hcc' : ¬ (c1 : Nat) = c := hcc
          have hK4 := ((hk.drew.trans hk2).setCell 68 (.int .u64 ((l1.length : Int) + (c : Int))))
          have hA := mdAt_part (c := c) (m1 := m1) h64 hl2 HD.out HTK.out hc2' (by rw [HNR.out]; omega) (by rw [HNR.out]; exact HC.out.2) HB3.out
          go_wp2
          refine ⟨⟨l1 ++ m1.take c, m1.drop c, o1 + c, c1 - c, by rw [List.append_assoc, List.take_append_drop]; exact HLM.out, fun x hx => hm1 x (List.mem_of_mem_drop hx), by rw [List.length_drop]; omega, slice_drop rfl, hK4, ((hb8.drop c).kept ((((Kept.refl p wr).drew.trans hk2).setCell 68 (.int .u64 ((l1.length : Int) + (c : Int))))) (Nat.lt_of_lt_of_le hg hk.size) hgp), hA⟩, by simp; omega⟩
end Go.Proofs.YtgkenhmbilkhdaaGreatDoor
