import Derived.Test.YtgkenhmbilkhdaaGreatDoorMd5Mix
import Derived.Test.YtgkenhmbilkhdaaGreatDoorGBitsPure2
import Derived.Test.YtgkenhmbilkhdaaGreatDoorPush
import Derived.Deep.DeepCutAuto
import Derived.Deep.LoopGhost
namespace Go.Proofs.YtgkenhmbilkhdaaGreatDoor
open Go.RowKit

/-- What was there is as it was, but for these blocks. -/
structure KeptX (X : List Nat) (w w' : World) : Prop where
  os : w'.os = w.os
  tape : w'.tape = w.tape
  output : w'.output = w.output
  size : w.heap.size ≤ w'.heap.size
  block : ∀ k, k < w.heap.size → k ∉ X → w'.heap[k]? = w.heap[k]?

theorem KeptX.refl (X : List Nat) (w : World) : KeptX X w w := ⟨rfl, rfl, rfl, Nat.le_refl _, fun _ _ _ => rfl⟩
theorem KeptX.trans {X Y Z : List Nat} {a b c : World} (h : KeptX X a b) (k : KeptX Y b c) (h1 : ∀ i, i ∈ X → i ∈ Z) (h2 : ∀ i, i < a.heap.size → i ∈ Y → i ∈ Z) : KeptX Z a c :=
  ⟨k.os.trans h.os, k.tape.trans h.tape, k.output.trans h.output, Nat.le_trans h.size k.size, fun i hi hp => (k.block i (Nat.lt_of_lt_of_le hi h.size) (fun hy => hp (h2 i hi hy))).trans (h.block i hi (fun hx => hp (h1 i hx)))⟩
theorem KeptX.mono {X Y : List Nat} {a b : World} (h : KeptX X a b) (h1 : ∀ i, i ∈ X → i ∈ Y) : KeptX Y a b := ⟨h.os, h.tape, h.output, h.size, fun i hi hp => h.block i hi fun hx => hp (h1 i hx)⟩
theorem KeptX.of_below {X : List Nat} {w w' : World} (h : Below w.heap.size w w') : KeptX X w w' := ⟨h.os, h.tape, h.output, h.size, fun k hk _ => h.block k hk⟩
theorem KeptX.below {X : List Nat} {B : Nat} {w w' : World} (h : KeptX X w w') (hB : ∀ i ∈ X, B ≤ i) (hs : B ≤ w.heap.size) : Below B w w' :=
  ⟨h.os, h.tape, h.output, h.size, fun k hk => h.block k (by omega) (fun hx => by have := hB k hx; omega)⟩
theorem KeptX.blk {X : List Nat} {b : Nat} {w w' : World} {cs : Array Value} {t : TypeId} (h : KeptX X w w') (hb : Blk w b cs t) (hp : b ∉ X) : Blk w' b cs t :=
  (h.block b hb.lt hp).trans hb
theorem KeptX.cell {X : List Nat} {w w' : World} (h : KeptX X w w') {a : Addr} (ha : a.block < w.heap.size) (hp : a.block ∉ X) : w'.cell? a = w.cell? a :=
  World.cell?_of_block (w := w) (h.block a.block ha hp)
theorem KeptX.setCell {X : List Nat} {a w : World} {p : Nat} (h : KeptX X a w) (hp : p ∈ X) (i : Nat) (v : Value) : KeptX X a (w.setCell ⟨p, i, none⟩ v) :=
  ⟨h.os, h.tape, h.output, by rw [World.size_setCell]; exact h.size, fun k hk hx => (Below.heap_setCell w ⟨p, i, none⟩ v k (fun e => hx (by rw [e]; exact hp))).trans (h.block k hk hx)⟩
theorem KeptX.drew {X : List Nat} {a w : World} (h : KeptX X a w) : KeptX X a w.drew := ⟨h.os, h.tape, h.output, h.size, h.block⟩
theorem KeptX.drewN {X : List Nat} {a w : World} (h : KeptX X a w) (n : Nat) : KeptX X a (w.drewN n) := ⟨h.os, h.tape, h.output, h.size, h.block⟩
theorem Blk.ne {w : World} {a b : Nat} {cs cs' : Array Value} {t t' : TypeId} (h : Blk w a cs t) (h' : Blk w b cs' t') (ht : t ≠ t') : a ≠ b := by
  rintro rfl
  unfold Blk at h h'
  rw [h] at h'
  injection h' with h'
  injection h' with _ h' _
  exact ht h'

theorem Blk.drewN {w : World} {b : Nat} {cs : Array Value} {t : TypeId} (h : Blk w b cs t) (n : Nat) : Blk (w.drewN n) b cs t := h

/-- A list of numbers that came in. -/
def IntsAt (w : World) (B : Nat) (pv : Value) (P : List Int) : Prop :=
  (∃ ap cap, pv = .slice ap 0 cap ∧ P = []) ∨ ∃ g off cap, g < B ∧ pv = .slice (some ⟨g, off, none⟩) P.length cap ∧ (∀ i, i < P.length → w.cell? ⟨g, off + i, none⟩ = some (.int .i64 (P.getD i 0)))

theorem IntsAt.below {w w' : World} {B : Nat} {pv : Value} {P : List Int} (h : IntsAt w B pv P) (hb : Below B w w') : IntsAt w' B pv P := by
  rcases h with h | ⟨g, off, cap, hg, hv, hc⟩
  · exact Or.inl h
  · exact Or.inr ⟨g, off, cap, hg, hv, fun i hi => (hb.cell (p := ⟨g, off + i, none⟩) hg).trans (hc i hi)⟩

/-- A source of package plain. -/
def srcCells (s : ByteArray) (pv : Value) (br : Int) (a left k : Nat) : Array Value := #[.string s, pv, .int .i64 br, .int .i64 a, .int .i64 left, .int .i64 k, .bool false]

/-- What a read of a source does. -/
def SrcStep (w : World) (c : Nat) (s : ByteArray) (pv : Value) (P : List Int) (br : Int) (a left k : Nat) (e : Ending) (w' : World) : Prop :=
  ∃ a' left' k', KeptX [c] w w' ∧ Blk w' c (srcCells s pv br a' left' k') 84 ∧ SrcOk s.size br a' ∧ left' < 9223372036854775808 ∧ k' ≤ P.length ∧
    ((e = .returned (.tuple #[.string ⟨#[]⟩, .iface 203 (.int .i64 1)]) ∧ a' = a ∧ ∀ n, srcRes s.size br P a left k n = (a, 16)) ∨
     (e = .returned (.tuple #[.string ⟨#[]⟩, .iface 188 (.int .i64 1)]) ∧ a' = a ∧ ∀ n, srcRes s.size br P a left k n = (a, 1)) ∨
     (e = .returned (.tuple #[.string ⟨#[]⟩, .nilIface]) ∧ a' = a ∧ (∀ n, n < 8 → srcRes s.size br P a' left' k' (n + 1) = srcRes s.size br P a left k n) ∧ srcRes s.size br P a left k 8 = (a, 14)) ∨
     (∃ m, e = .returned (.tuple #[.string (s.extract a (a + m)), .nilIface]) ∧ 0 < m ∧ m ≤ 512 ∧ a' = a + m ∧ ∀ n, srcRes s.size br P a' left' k' 0 = srcRes s.size br P a left k n))

theorem res_indep {N : Nat} {br : Int} {P : List Int} {a left k : Nat} (h : left ≠ 0) (n n' : Nat) : srcRes N br P a left k n' = srcRes N br P a left k n := by
  unfold srcRes
  rw [if_neg h, if_neg h]

/-- A source that stands at a piece. -/
def SrcMid (w : World) (c : Nat) (s : ByteArray) (pv : Value) (P : List Int) (br : Int) (a left k : Nat) (wx : World) : Prop :=
  ∃ left' k', 0 < left' ∧ left' < 9223372036854775808 ∧ k' ≤ P.length ∧ KeptX [c] w wx ∧ Blk wx c (srcCells s pv br a left' k') 84 ∧ Hid (∀ n n', srcRes s.size br P a left' k' n' = srcRes s.size br P a left k n)

theorem mid_give {w wc W : World} {c : Nat} {s : ByteArray} {pv : Value} {P : List Int} {br : Int} {a left k left' k' : Nat} (m : Nat) (x y : Int) (hK : KeptX [c] w wc) (hB' : Blk W c (((srcCells s pv br a left' k').setIfInBounds 3 (.int .i64 x)).setIfInBounds 4 (.int .i64 y)) 84) (hW : KeptX [c] wc W)
    (hx : x = ((a + m : Nat) : Int)) (hy : y = ((left' - m : Nat) : Int)) (hok : SrcOk s.size br a) (hl0 : 0 < left') (hl' : left' < 9223372036854775808) (hk' : k' ≤ P.length) (HR : Hid (∀ n n', srcRes s.size br P a left' k' n' = srcRes s.size br P a left k n))
    (h0 : 0 < m) (h512 : m ≤ 512) (h1 : m ≤ left') (h2 : m ≤ s.size - a) (h3 : 0 ≤ br → (m : Int) ≤ br - a) (e : Ending) (he : e = .returned (.tuple #[.string (s.extract a (a + m)), .nilIface])) : SrcStep w c s pv P br a left k e W := by
  have hg := fun n => res_give (k := k') (e := n) (P := P) hok hl0 h1 h2 h3
  refine ⟨a + m, left' - m, k', hK.trans hW (fun i h => h) (fun i _ h => h), ?_, (hg 0).2, by omega, hk', Or.inr (Or.inr (Or.inr ⟨m, he, h0, h512, rfl, fun n => ?_⟩))⟩
  · rw [hx, hy] at hB'
    exact hB'
  · rw [(hg 0).1]
    exact HR.out n 0

set_option maxHeartbeats 4000000 in
theorem srcRead_broken (c : Nat) (s : ByteArray) (pv : Value) (P : List Int) (br : Int) (a left k : Nat) (w : World) (hB : Blk w c (srcCells s pv br a left k) 84) (hok : SrcOk s.size br a) (hl : left < 9223372036854775808) (hk : k ≤ P.length) (hbk : 0 ≤ br ∧ br ≤ a) :
    Calls Tryz.prog 234 #[.pointer (some ⟨c, 0, none⟩), .int .i64 512] w fun e w' => SrcStep w c s pv P br a left k e w' := by
  have c2 := hB.cell 2
  have c3 := hB.cell 3
  simp [srcCells] at c2 c3
  have h1 : decide (0 ≤ br) = true := by simp [hbk.1]
  have h2 : decide (br ≤ (a : Int)) = true := by simp [hbk.2]
  have h3 := hbk.1
  have h4 := hbk.2
  go_enter Tryz.func234, Tryz.ntmps234
  go_wp2
  go_quiet (fail)
  go_wp2
  refine bodyPost_ret (v := .tuple #[.string ⟨#[]⟩, .iface 203 (.int .i64 1)]) (by simp [results, Tryz.results234, go_sem]) rfl ?_
  exact ⟨a, left, k, (KeptX.refl _ _).drewN _, hB, hok, hl, hk, Or.inl ⟨rfl, rfl, fun n => res_broken hok h3 h4⟩⟩

set_option maxHeartbeats 8000000 in
set_option maxRecDepth 20000 in
theorem srcRead_neg (c : Nat) (s : ByteArray) (pv : Value) (P : List Int) (br : Int) (a left k : Nat) (hs : s.size ≤ 1048576) (w : World) (hB : Blk w c (srcCells s pv br a left k) 84) (B : Nat) (hBc : B ≤ c) (hP : IntsAt w B pv P) (hok : SrcOk s.size br a) (hl : left < 9223372036854775808) (hk : k ≤ P.length) (hP20 : P.length ≤ 1048576)
    (hpi : ∀ x ∈ P, -9223372036854775808 ≤ x ∧ x < 9223372036854775808) (hbr : br < 0) :
    Calls Tryz.prog 234 #[.pointer (some ⟨c, 0, none⟩), .int .i64 512] w fun e w' => SrcStep w c s pv P br a left k e w' := by
  have c2 := hB.cell 2
  have c3 := hB.cell 3
  have c4 := hB.cell 4
  have c5 := hB.cell 5
  simp [srcCells] at c2 c3 c4 c5
  have h1 : decide (0 ≤ br) = false := by simp; omega
  go_enter Tryz.func234, Tryz.ntmps234
  go_wp2
  go_quiet (fail)
  go_upto_if 40 with fail
  go_cut [] (fun wx => SrcMid w c s pv P br a left k wx)
  case first =>
    have g4 := hB.free 4
    have g5 := hB.free 5
    by_cases h0 : left = 0
    · subst h0
      have e4 := hB.set 4 (.int .i64 1099511627776)
      rcases hP with ⟨ap0, cap, rfl, rfl⟩ | ⟨g, off, cap, hgB, rfl, hcells⟩
      · have hk0 : k = 0 := by simpa using hk
        subst hk0
        have c1 := hB.cell 1
        simp [srcCells] at c1
        go_wp2
        go_quiet (fail)
        go_wp2
        go_meet
        case rel => exact ⟨1099511627776, 0, by omega, by omega, by omega, ((KeptX.refl _ _).drewN _).setCell (by simp) _ _ |>.drewN _, e4, fun n n' => res_rest (by omega) (by simp)⟩
      · have c1 := hB.cell 1
        simp [srcCells] at c1
        have hgc : g ≠ c := by omega
        by_cases hkl : k < P.length
        · have hkl' : (k : Int) < (P.length : Int) := by omega
          have hPk : P[k]? = some (P.getD k 0) := by rw [List.getD_eq_getElem?_getD, List.getElem?_eq_getElem hkl]; rfl
          have hck := hcells k hkl
          generalize P.getD k 0 = p at hPk hck
          have hfar := cell_far hgc
          rcases Int.lt_or_le 0 p with hp | hp
          · have hpm : p < 9223372036854775808 := (hpi p (List.mem_of_getElem? hPk)).2
            obtain ⟨q, rfl⟩ := Int.eq_ofNat_of_zero_le (show 0 ≤ p by omega)
            have HPK := hid hPk
            have HQ : Hid ((q : Int) < 9223372036854775808 ∧ 0 < (q : Int)) := ⟨hpm, hp⟩
            have HCK := hid hck
            clear hPk hcells hpi hp hpm hfar hck
            go_wp2
            go_quiet (fail)
            go_wp2
            have hck := HCK.out
            have hq1 := HQ.out.2
            go_region
            have hq2 : ((q : Int) == 0) = false := by simp; omega
            go_wp2
            go_meet
            case rel =>
              refine ⟨q, k + 1, by omega, by have := HQ.out; omega, by omega, ((((((KeptX.refl _ _).drewN _).setCell (by simp) _ _).drewN _).setCell (by simp) _ _).setCell (by simp) _ _), (((((hB.drewN _).set 4 _).drewN _).set 4 _).set 5 _), fun n n' => ?_⟩
              exact res_piece (p := (q : Int)) (by omega) HPK.out HQ.out.2
          · have HPK := hid hPk
            have HCK := hid hck
            have HP0 := hid hp
            clear hPk hcells hpi hp hfar hck
            go_wp2
            go_quiet (fail)
            go_wp2
            have hck := HCK.out
            have hq1 := HP0.out
            go_region
            go_wp2
            refine bodyPost_ret (v := .tuple #[.string ⟨#[]⟩, .nilIface]) (by simp [results, Tryz.results234, go_sem]) rfl ?_
            exact ⟨a, 0, k + 1, ((((((KeptX.refl _ _).drewN _).setCell (by simp) _ _).drewN _).setCell (by simp) _ _).setCell (by simp) _ _), (((((hB.drewN _).set 4 _).drewN _).set 4 _).set 5 _), hok, by omega, by omega, Or.inr (Or.inr (Or.inl ⟨rfl, rfl, fun n hn => res_empty (by omega) HPK.out HP0.out hn, res_stuck (by omega) HPK.out HP0.out⟩))⟩
        · obtain rfl : k = P.length := by omega
          go_wp2
          go_quiet (fail)
          go_wp2
          go_meet
          case rel => exact ⟨1099511627776, P.length, by omega, by omega, by omega, ((KeptX.refl _ _).drewN _).setCell (by simp) _ _ |>.drewN _, e4, fun n n' => res_rest (by omega) (by simp)⟩
    · have h0' : ((left : Int) == 0) = false := by simp; omega
      go_wp2
      go_meet
      case rel => exact ⟨left, k, by omega, hl, hk, (KeptX.refl _ _).drewN _, hB, fun n n' => res_indep h0 n n'⟩
  case rest =>
    obtain ⟨left', k', hl0, hl', hk', hK, hB', HR⟩ := hcut
    have d0 := hB'.cell 0
    have d2 := hB'.cell 2
    have d3 := hB'.cell 3
    have d4 := hB'.cell 4
    have f3 := hB'.free 3
    have f4 := hB'.free 4
    simp [srcCells] at d0 d2 d3 d4
    clear c2 c3 c4 c5 hB hP
    have ha := hok.1
    obtain ⟨d, hd⟩ : ∃ d : Nat, (s.size : Int) - (a : Int) = (d : Int) := ⟨s.size - a, by omega⟩
    have HD := hid hd
    by_cases hd0 : d = 0
    · subst hd0
      go_wp2
      go_quiet (fail)
      go_wp2
      refine bodyPost_ret (v := .tuple #[.string ⟨#[]⟩, .iface 188 (.int .i64 1)]) (by simp [results, Tryz.results234, go_sem]) rfl ?_
      exact ⟨a, left', k', hK.drewN _, hB', hok, hl', hk', Or.inr (Or.inl ⟨rfl, rfl, fun n => by rw [← HR.out n 0]; exact res_end hok (by omega) hl0 (by have := HD.out; omega)⟩)⟩
    · rcases (show (d < 512 ∧ d < left') ∨ (left' ≤ d ∧ left' < 512) ∨ (512 ≤ d ∧ 512 ≤ left') by omega) with ⟨hA, hA2⟩ | ⟨hA, hA2⟩ | ⟨hA, hA2⟩
      · have q1 : (d : Int) < 512 := by omega
        have q2 : (d : Int) < (left' : Int) := by omega
        have q3 : ((d : Int) == 0) = false := by simp; omega
        have q4 : (a : Int) + (d : Int) ≤ (s.size : Int) := by omega
        go_wp2
        go_quiet (fail)
        go_wp2
        go_quiet (fail)
        go_wp2
        refine bodyPost_ret (v := .tuple #[.string (s.extract a (a + d)), .nilIface]) (by simp [results, Tryz.results234, go_sem]) rfl ?_
        exact mid_give d _ _ hK ((hB'.drewN _).set 3 _ |>.set 4 _) ((((KeptX.refl _ _).drewN _).setCell (by simp) _ _).setCell (by simp) _ _) (by omega) (by omega) hok hl0 hl' hk' HR (by omega) (by omega) (by omega) (by have := HD.out; omega) (by omega) _ rfl
      · have q1 : (left' : Int) < 512 := by omega
        have q2 : (left' : Int) ≤ (d : Int) := by omega
        have q3 : ((left' : Int) == 0) = false := by simp; omega
        have q4 : (a : Int) + (left' : Int) ≤ (s.size : Int) := by omega
        go_wp2
        go_quiet (fail)
        go_wp2
        go_quiet (fail)
        go_wp2
        refine bodyPost_ret (v := .tuple #[.string (s.extract a (a + left')), .nilIface]) (by simp [results, Tryz.results234, go_sem]) rfl ?_
        exact mid_give left' _ _ hK ((hB'.drewN _).set 3 _ |>.set 4 _) ((((KeptX.refl _ _).drewN _).setCell (by simp) _ _).setCell (by simp) _ _) (by omega) (by omega) hok hl0 hl' hk' HR (by omega) (by omega) (by omega) (by have := HD.out; omega) (by omega) _ rfl
      · have q1 : (512 : Int) ≤ (left' : Int) := by omega
        have q2 : (512 : Int) ≤ (d : Int) := by omega
        have q4 : (a : Int) + 512 ≤ (s.size : Int) := by omega
        go_wp2
        go_quiet (fail)
        go_wp2
        go_quiet (fail)
        go_wp2
        refine bodyPost_ret (v := .tuple #[.string (s.extract a (a + 512)), .nilIface]) (by simp [results, Tryz.results234, go_sem]) rfl ?_
        exact mid_give 512 _ _ hK ((hB'.drewN _).set 3 _ |>.set 4 _) ((((KeptX.refl _ _).drewN _).setCell (by simp) _ _).setCell (by simp) _ _) (by omega) (by omega) hok hl0 hl' hk' HR (by omega) (by omega) (by omega) (by have := HD.out; omega) (by omega) _ rfl
set_option maxHeartbeats 8000000 in
set_option maxRecDepth 20000 in
theorem srcRead_pos (c : Nat) (s : ByteArray) (pv : Value) (P : List Int) (br : Int) (a left k : Nat) (hs : s.size ≤ 1048576) (w : World) (hB : Blk w c (srcCells s pv br a left k) 84) (B : Nat) (hBc : B ≤ c) (hP : IntsAt w B pv P) (hok : SrcOk s.size br a) (hl : left < 9223372036854775808) (hk : k ≤ P.length) (hP20 : P.length ≤ 1048576)
    (hpi : ∀ x ∈ P, -9223372036854775808 ≤ x ∧ x < 9223372036854775808) (hbr : (a : Int) < br) (hb63 : br < 9223372036854775808) :
    Calls Tryz.prog 234 #[.pointer (some ⟨c, 0, none⟩), .int .i64 512] w fun e w' => SrcStep w c s pv P br a left k e w' := by
  have c2 := hB.cell 2
  have c3 := hB.cell 3
  have c4 := hB.cell 4
  have c5 := hB.cell 5
  simp [srcCells] at c2 c3 c4 c5
  have h1 : decide (0 ≤ br) = true := by simp; omega
  have h2 : decide (br ≤ (a : Int)) = false := by simp; omega
  have h3 : 0 ≤ br := by omega
  have h4 : ¬ br ≤ (a : Int) := by omega
  go_enter Tryz.func234, Tryz.ntmps234
  go_wp2
  go_quiet (fail)
  go_upto_if 40 with fail
  go_cut [] (fun wx => SrcMid w c s pv P br a left k wx)
  case first =>
    have g4 := hB.free 4
    have g5 := hB.free 5
    by_cases h0 : left = 0
    · subst h0
      have e4 := hB.set 4 (.int .i64 1099511627776)
      rcases hP with ⟨ap0, cap, rfl, rfl⟩ | ⟨g, off, cap, hgB, rfl, hcells⟩
      · have hk0 : k = 0 := by simpa using hk
        subst hk0
        have c1 := hB.cell 1
        simp [srcCells] at c1
        go_wp2
        go_quiet (fail)
        go_wp2
        go_meet
        case rel => exact ⟨1099511627776, 0, by omega, by omega, by omega, ((KeptX.refl _ _).drewN _).setCell (by simp) _ _ |>.drewN _, e4, fun n n' => res_rest (by omega) (by simp)⟩
      · have c1 := hB.cell 1
        simp [srcCells] at c1
        have hgc : g ≠ c := by omega
        by_cases hkl : k < P.length
        · have hkl' : (k : Int) < (P.length : Int) := by omega
          have hPk : P[k]? = some (P.getD k 0) := by rw [List.getD_eq_getElem?_getD, List.getElem?_eq_getElem hkl]; rfl
          have hck := hcells k hkl
          generalize P.getD k 0 = p at hPk hck
          have hfar := cell_far hgc
          rcases Int.lt_or_le 0 p with hp | hp
          · have hpm : p < 9223372036854775808 := (hpi p (List.mem_of_getElem? hPk)).2
            obtain ⟨q, rfl⟩ := Int.eq_ofNat_of_zero_le (show 0 ≤ p by omega)
            have HPK := hid hPk
            have HQ : Hid ((q : Int) < 9223372036854775808 ∧ 0 < (q : Int)) := ⟨hpm, hp⟩
            have HCK := hid hck
            clear hPk hcells hpi hp hpm hfar hck
            go_wp2
            go_quiet (fail)
            go_wp2
            have hck := HCK.out
            have hq1 := HQ.out.2
            go_region
            have hq2 : ((q : Int) == 0) = false := by simp; omega
            go_wp2
            go_meet
            case rel =>
              refine ⟨q, k + 1, by omega, by have := HQ.out; omega, by omega, ((((((KeptX.refl _ _).drewN _).setCell (by simp) _ _).drewN _).setCell (by simp) _ _).setCell (by simp) _ _), (((((hB.drewN _).set 4 _).drewN _).set 4 _).set 5 _), fun n n' => ?_⟩
              exact res_piece (p := (q : Int)) (by omega) HPK.out HQ.out.2
          · have HPK := hid hPk
            have HCK := hid hck
            have HP0 := hid hp
            clear hPk hcells hpi hp hfar hck
            go_wp2
            go_quiet (fail)
            go_wp2
            have hck := HCK.out
            have hq1 := HP0.out
            go_region
            go_wp2
            refine bodyPost_ret (v := .tuple #[.string ⟨#[]⟩, .nilIface]) (by simp [results, Tryz.results234, go_sem]) rfl ?_
            exact ⟨a, 0, k + 1, ((((((KeptX.refl _ _).drewN _).setCell (by simp) _ _).drewN _).setCell (by simp) _ _).setCell (by simp) _ _), (((((hB.drewN _).set 4 _).drewN _).set 4 _).set 5 _), hok, by omega, by omega, Or.inr (Or.inr (Or.inl ⟨rfl, rfl, fun n hn => res_empty (by omega) HPK.out HP0.out hn, res_stuck (by omega) HPK.out HP0.out⟩))⟩
        · obtain rfl : k = P.length := by omega
          go_wp2
          go_quiet (fail)
          go_wp2
          go_meet
          case rel => exact ⟨1099511627776, P.length, by omega, by omega, by omega, ((KeptX.refl _ _).drewN _).setCell (by simp) _ _ |>.drewN _, e4, fun n n' => res_rest (by omega) (by simp)⟩
    · have h0' : ((left : Int) == 0) = false := by simp; omega
      go_wp2
      go_meet
      case rel => exact ⟨left, k, by omega, hl, hk, (KeptX.refl _ _).drewN _, hB, fun n n' => res_indep h0 n n'⟩
  case rest =>
    obtain ⟨left', k', hl0, hl', hk', hK, hB', HR⟩ := hcut
    have d0 := hB'.cell 0
    have d2 := hB'.cell 2
    have d3 := hB'.cell 3
    have d4 := hB'.cell 4
    have f3 := hB'.free 3
    have f4 := hB'.free 4
    simp [srcCells] at d0 d2 d3 d4
    clear c2 c3 c4 c5 hB hP
    have ha := hok.1
    obtain ⟨d, hd⟩ : ∃ d : Nat, (s.size : Int) - (a : Int) = (d : Int) := ⟨s.size - a, by omega⟩
    have HD := hid hd
    obtain ⟨b, hb⟩ : ∃ b : Nat, br - (a : Int) = (b : Int) := ⟨(br - a).toNat, by omega⟩
    have HB := hid hb
    have hb0 : 0 < b := by omega
    by_cases hd0 : d = 0
    · subst hd0
      go_wp2
      go_quiet (fail)
      go_wp2
      go_quiet (fail)
      go_wp2
      refine bodyPost_ret (v := .tuple #[.string ⟨#[]⟩, .iface 188 (.int .i64 1)]) (by simp [results, Tryz.results234, go_sem]) rfl ?_
      exact ⟨a, left', k', hK.drewN _, hB', hok, hl', hk', Or.inr (Or.inl ⟨rfl, rfl, fun n => by rw [← HR.out n 0]; exact res_end hok (by omega) hl0 (by have := HD.out; omega)⟩)⟩
    · rcases (show (d < 512 ∧ d < left') ∨ (left' ≤ d ∧ left' < 512) ∨ (512 ≤ d ∧ 512 ≤ left') by omega) with ⟨hA, hA2⟩ | ⟨hA, hA2⟩ | ⟨hA, hA2⟩
      · have q1 : (d : Int) < 512 := by omega
        have q2 : (d : Int) < (left' : Int) := by omega
        rcases Nat.lt_or_ge b d with hbm | hbm
        · have q5 : (b : Int) < (d : Int) := by omega
          have q3 : ((b : Int) == 0) = false := by simp; omega
          have q4 : (a : Int) + (b : Int) ≤ (s.size : Int) := by omega
          go_wp2
          go_quiet (fail)
          go_wp2
          go_quiet (fail)
          go_wp2
          go_quiet (fail)
          go_wp2
          refine bodyPost_ret (v := .tuple #[.string (s.extract a (a + b)), .nilIface]) (by simp [results, Tryz.results234, go_sem]) rfl ?_
          exact mid_give b _ _ hK ((hB'.drewN _).set 3 _ |>.set 4 _) ((((KeptX.refl _ _).drewN _).setCell (by simp) _ _).setCell (by simp) _ _) (by omega) (by omega) hok hl0 hl' hk' HR (by omega) (by omega) (by omega) (by have := HD.out; omega) (by have := HB.out; omega) _ rfl
        · have q5 : (d : Int) ≤ (b : Int) := by omega
          have q3 : ((d : Int) == 0) = false := by simp; omega
          have q4 : (a : Int) + (d : Int) ≤ (s.size : Int) := by omega
          go_wp2
          go_quiet (fail)
          go_wp2
          go_quiet (fail)
          go_wp2
          go_quiet (fail)
          go_wp2
          refine bodyPost_ret (v := .tuple #[.string (s.extract a (a + d)), .nilIface]) (by simp [results, Tryz.results234, go_sem]) rfl ?_
          exact mid_give d _ _ hK ((hB'.drewN _).set 3 _ |>.set 4 _) ((((KeptX.refl _ _).drewN _).setCell (by simp) _ _).setCell (by simp) _ _) (by omega) (by omega) hok hl0 hl' hk' HR (by omega) (by omega) (by omega) (by have := HD.out; omega) (by have := HB.out; omega) _ rfl
      · have q1 : (left' : Int) < 512 := by omega
        have q2 : (left' : Int) ≤ (d : Int) := by omega
        rcases Nat.lt_or_ge b left' with hbm | hbm
        · have q5 : (b : Int) < (left' : Int) := by omega
          have q3 : ((b : Int) == 0) = false := by simp; omega
          have q4 : (a : Int) + (b : Int) ≤ (s.size : Int) := by omega
          go_wp2
          go_quiet (fail)
          go_wp2
          go_quiet (fail)
          go_wp2
          go_quiet (fail)
          go_wp2
          refine bodyPost_ret (v := .tuple #[.string (s.extract a (a + b)), .nilIface]) (by simp [results, Tryz.results234, go_sem]) rfl ?_
          exact mid_give b _ _ hK ((hB'.drewN _).set 3 _ |>.set 4 _) ((((KeptX.refl _ _).drewN _).setCell (by simp) _ _).setCell (by simp) _ _) (by omega) (by omega) hok hl0 hl' hk' HR (by omega) (by omega) (by omega) (by have := HD.out; omega) (by have := HB.out; omega) _ rfl
        · have q5 : (left' : Int) ≤ (b : Int) := by omega
          have q3 : ((left' : Int) == 0) = false := by simp; omega
          have q4 : (a : Int) + (left' : Int) ≤ (s.size : Int) := by omega
          go_wp2
          go_quiet (fail)
          go_wp2
          go_quiet (fail)
          go_wp2
          go_quiet (fail)
          go_wp2
          refine bodyPost_ret (v := .tuple #[.string (s.extract a (a + left')), .nilIface]) (by simp [results, Tryz.results234, go_sem]) rfl ?_
          exact mid_give left' _ _ hK ((hB'.drewN _).set 3 _ |>.set 4 _) ((((KeptX.refl _ _).drewN _).setCell (by simp) _ _).setCell (by simp) _ _) (by omega) (by omega) hok hl0 hl' hk' HR (by omega) (by omega) (by omega) (by have := HD.out; omega) (by have := HB.out; omega) _ rfl
      · have q1 : (512 : Int) ≤ (left' : Int) := by omega
        have q2 : (512 : Int) ≤ (d : Int) := by omega
        rcases Nat.lt_or_ge b 512 with hbm | hbm
        · have q5 : (b : Int) < 512 := by omega
          have q3 : ((b : Int) == 0) = false := by simp; omega
          have q4 : (a : Int) + (b : Int) ≤ (s.size : Int) := by omega
          go_wp2
          go_quiet (fail)
          go_wp2
          go_quiet (fail)
          go_wp2
          go_quiet (fail)
          go_wp2
          refine bodyPost_ret (v := .tuple #[.string (s.extract a (a + b)), .nilIface]) (by simp [results, Tryz.results234, go_sem]) rfl ?_
          exact mid_give b _ _ hK ((hB'.drewN _).set 3 _ |>.set 4 _) ((((KeptX.refl _ _).drewN _).setCell (by simp) _ _).setCell (by simp) _ _) (by omega) (by omega) hok hl0 hl' hk' HR (by omega) (by omega) (by omega) (by have := HD.out; omega) (by have := HB.out; omega) _ rfl
        · have q5 : 512 ≤ (b : Int) := by omega
          have q4 : (a : Int) + 512 ≤ (s.size : Int) := by omega
          go_wp2
          go_quiet (fail)
          go_wp2
          go_quiet (fail)
          go_wp2
          go_quiet (fail)
          go_wp2
          refine bodyPost_ret (v := .tuple #[.string (s.extract a (a + 512)), .nilIface]) (by simp [results, Tryz.results234, go_sem]) rfl ?_
          exact mid_give 512 _ _ hK ((hB'.drewN _).set 3 _ |>.set 4 _) ((((KeptX.refl _ _).drewN _).setCell (by simp) _ _).setCell (by simp) _ _) (by omega) (by omega) hok hl0 hl' hk' HR (by omega) (by omega) (by omega) (by have := HD.out; omega) (by have := HB.out; omega) _ rfl

theorem srcRead (c : Nat) (s : ByteArray) (pv : Value) (P : List Int) (br : Int) (a left k : Nat) (hs : s.size ≤ 1048576) (w : World) (hB : Blk w c (srcCells s pv br a left k) 84) (B : Nat) (hBc : B ≤ c) (hP : IntsAt w B pv P) (hok : SrcOk s.size br a) (hl : left < 9223372036854775808) (hk : k ≤ P.length) (hP20 : P.length ≤ 1048576)
    (hpi : ∀ x ∈ P, -9223372036854775808 ≤ x ∧ x < 9223372036854775808) (hbr : br < 9223372036854775808) :
    Calls Tryz.prog 234 #[.pointer (some ⟨c, 0, none⟩), .int .i64 512] w fun e w' => SrcStep w c s pv P br a left k e w' := by
  rcases Int.lt_or_le br 0 with h | h
  · exact srcRead_neg c s pv P br a left k hs w hB B hBc hP hok hl hk hP20 hpi h
  · rcases Int.lt_or_le (a : Int) br with h2 | h2
    · exact srcRead_pos c s pv P br a left k hs w hB B hBc hP hok hl hk hP20 hpi h2 hbr
    · exact srcRead_broken c s pv P br a left k w hB hok hl hk ⟨h, h2⟩
end Go.Proofs.YtgkenhmbilkhdaaGreatDoor
