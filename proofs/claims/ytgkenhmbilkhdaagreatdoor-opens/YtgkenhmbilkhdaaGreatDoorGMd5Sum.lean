import Derived.Test.YtgkenhmbilkhdaaGreatDoorMd5Add
import Derived.Deep.LoopGhost
import Derived.Test.YtgkenhmbilkhdaaGreatDoorGSkOpen
import Derived.Test.YtgkenhmbilkhdaaGreatDoorTables2
namespace Go.Proofs.YtgkenhmbilkhdaaGreatDoor
open Go.RowKit

def z64 : List Nat := List.replicate 64 0
theorem md_zero : mdCells h0Q z64 0 = #[.int .u32 1732584193, .int .u32 4023233417, .int .u32 2562383102, .int .u32 271733878] ++ (List.replicate 64 (Value.int .u8 0)).toArray ++ #[.int .u64 0] := by rfl

set_option maxRecDepth 10000 in
theorem newMd5_any (w : World) : Calls Tryz.prog 72 #[] w fun e w' => e = .returned (.pointer (some ⟨w.heap.size, 0, none⟩)) ∧ Below w.heap.size w w' ∧ MdAt w' w.heap.size [] := by
  go_enter Tryz.func72, Tryz.ntmps72
  go_wp2
  go_ret
  refine ⟨rfl, by go_grown, z64, rfl, ?_, rfl, ?_⟩
  · intro x hx
    rw [List.eq_of_mem_replicate hx]
    decide
  · exact Blk.new _ _ _

/-- What is put behind a text. -/
def padZ (n : Nat) : Nat := (119 - n % 64) % 64
def lenB (n : Nat) (k : Nat) : Nat := n * 8 / 2 ^ (8 * k) % 256
def pad1 (l : List Nat) : List Nat := l ++ [128]
def padded (l : List Nat) : List Nat := pad1 l ++ List.replicate (padZ l.length) 0 ++ (List.range 8).map (lenB l.length)

theorem one_byte (w : World) (v : Nat) (t : TypeId) : Bytes8 (w.alloc (.cells #[.int .u8 (v : Int)] t)) w.heap.size 0 [v] := by
  intro i hi
  obtain rfl : i = 0 := by simp at hi; omega
  simp

theorem MdAt.alloc {w : World} {p : Nat} {l : List Nat} (h : MdAt w p l) (o : Obj) : MdAt (w.alloc o) p l := by
  obtain ⟨bl, h1, h2, h3, h4⟩ := h
  exact ⟨bl, h1, h2, h3, h4.alloc o⟩
theorem MdAt.below {w w' : World} {p : Nat} {l : List Nat} (h : MdAt w p l) (hb : Below w.heap.size w w') : MdAt w' p l := by
  obtain ⟨bl, h1, h2, h3, h4⟩ := h
  exact ⟨bl, h1, h2, h3, h4.below hb h4.lt⟩
theorem MdAt.lt {w : World} {p : Nat} {l : List Nat} (h : MdAt w p l) : p < w.heap.size := by
  obtain ⟨bl, h1, h2, h3, h4⟩ := h
  exact h4.lt
theorem MdAt.len {w : World} {p : Nat} {l : List Nat} (h : MdAt w p l) : w.cell? ⟨p, 68, none⟩ = some (.int .u64 (l.length : Int)) := by
  obtain ⟨bl, h1, h2, h3, h4⟩ := h
  exact (h4.cell 68).trans (mdCells_size _ _ _ h1)

/-- One byte more, out of a new block. -/
theorem add_one (p : Nat) (l : List Nat) (v : Nat) (hv : v < 256) (t : TypeId) (hlen : l.length + 1 ≤ 1099511627776) (w : World) (hT : MdTabs w) (hp : 8 ≤ p) (hM : MdAt w p l) :
    Calls Tryz.prog 73 #[.pointer (some ⟨p, 0, none⟩), .slice (some ⟨w.heap.size, 0, none⟩) 1 1] (w.alloc (.cells #[.int .u8 (v : Int)] t)) fun e w' => e = .returned (.tuple #[]) ∧ Kept p w w' ∧ MdAt w' p (l ++ [v]) := by
  have hb : Below w.heap.size w (w.alloc (.cells #[.int .u8 (v : Int)] t)) := by go_grown
  refine (add_any p l [v] w.heap.size 0 1 (by intro x hx; rw [List.mem_singleton.1 hx]; exact hv) (by simpa using hlen) (by simp) _ (hT.below hb) hp (by simp) (by have := hM.lt; omega) (one_byte w v t) (hM.alloc _)).mono ?_
  rintro e w' ⟨rfl, hk, hm⟩
  exact ⟨rfl, (Kept.of_below hb).trans hk, hm⟩

theorem add_oneI (p : Nat) (l : List Nat) (x : Int) (v : Nat) (hx : x = (v : Int)) (hv : v < 256) (t : TypeId) (hlen : l.length + 1 ≤ 1099511627776) (w : World) (hT : MdTabs w) (hp : 8 ≤ p) (hM : MdAt w p l) :
    Calls Tryz.prog 73 #[.pointer (some ⟨p, 0, none⟩), .slice (some ⟨w.heap.size, 0, none⟩) 1 1] (w.alloc (.cells #[.int .u8 x] t)) fun e w' => e = .returned (.tuple #[]) ∧ Kept p w w' ∧ MdAt w' p (l ++ [v]) := by
  subst hx
  exact add_one p l v hv t hlen w hT hp hM
theorem lenB_cast (n k : Nat) : (n : Int) * 8 / 2 ^ (8 * k) % 256 = ((lenB n k : Nat) : Int) := by
  unfold lenB
  rw [Int.natCast_emod, Int.natCast_ediv, Int.natCast_mul, Int.natCast_pow]
  rfl

set_option maxHeartbeats 2000000 in
set_option maxRecDepth 10000 in
theorem pad_any (p : Nat) (l : List Nat) (hlen : l.length ≤ 1048576) (w : World) (hT : MdTabs w) (hp : 8 ≤ p) (hM : MdAt w p l) :
    Calls Tryz.prog 95 #[.pointer (some ⟨p, 0, none⟩)] w fun e w' => e = .returned (.tuple #[]) ∧ Kept p w w' ∧ MdAt w' p (padded l) := by
  obtain ⟨bl, h64, hbl, htk, hB⟩ := hM
  have hM : MdAt w p l := ⟨bl, h64, hbl, htk, hB⟩
  have hsz := (hB.cell 68).trans (mdCells_size _ _ _ h64)
  have hlt := hB.lt
  clear htk hB hbl
  go_enter Tryz.func95, Tryz.ntmps95
  go_wp2_with fail
  refine (add_one p l 128 (by omega) 5 (by omega) _ hT hp hM).mono ?_
  rintro e w1 ⟨rfl, hk1, hM1⟩
  clear hsz
  have hT1 := hT.kept hk1 hp
  go_wp2
  go_loopg [12] (padZ l.length) (fun gk _ wr => ∃ z : Nat, z + gk = padZ l.length ∧ Kept p w wr ∧ MdAt wr p (pad1 l ++ List.replicate z 0))
  case atStart => exact ⟨0, by omega, hk1, by simpa [pad1] using hM1⟩
  case round =>
    obtain ⟨z, hz, hk, hMz⟩ := hrel
    have hlz : (pad1 l ++ List.replicate z 0).length = l.length + 1 + z := by simp [pad1]; omega
    have hsz := hMz.len
    rw [hlz] at hsz
    have hTr := hT.kept hk hp
    have hzb : padZ l.length < 64 := Nat.mod_lt _ (by omega)
    cases gk with
    | zero =>
      have hzz : z = padZ l.length := by omega
      have ht2 : ((l.length + 1 + z : Nat) : Int).tmod 64 = 56 := by
        have := hzz
        unfold padZ at this
        rw [Int.tmod_eq_emod_of_nonneg (by omega)]; omega
      have hN : l.length + 1 + z + 8 ≤ 1099511627776 := by omega
      have HL := hid hlz
      have HZ := hid hzz
      clear hlz hzz hz
      generalize l.length + 1 + z = N at hsz ht2 HL hN
      go_wp2
      go_loopw [21] (fun i wx => ∃ k : Nat, k ≤ 8 ∧ i = .int .i64 k ∧ Kept p w wx ∧ MdAt wx p (pad1 l ++ List.replicate z 0 ++ (List.range k).map (lenB l.length))) (fun i _ => 8 - (intOf i).toNat)
      case atStart => exact ⟨0, by omega, rfl, hk, by simpa using hMz⟩
      case round =>
        obtain ⟨k, hk8, rfl, hkx, hMx⟩ := hrel
        by_cases hlt : k < 8
        · have hlt' : (k : Int) < 8 := by omega
          have hTx := hT.kept hkx hp
          have hlx : (pad1 l ++ List.replicate z 0 ++ (List.range k).map (lenB l.length)).length = N + k := by
            have h := HL.out
            rw [List.length_append, h]
            simp
          have HLX := hid hlx
          clear hlx
          go_wp2_with fail
          refine (add_oneI p _ _ (lenB l.length k) (lenB_cast _ _) (Nat.mod_lt _ (by omega)) 5 (by rw [HLX.out]; omega) _ hTx hp hMx).mono ?_
          rintro e w2 ⟨rfl, hk2, hM2⟩
          go_wp2
          go_roundw
          case rel => exact ⟨k + 1, by omega, by go_num, hkx.trans hk2, by rw [List.range_succ, List.map_append, ← List.append_assoc]; exact hM2⟩
          case measure => simp [intOf]; omega
        · obtain rfl : k = 8 := by omega
          go_wp2
          go_end0
          exact ⟨rfl, hkx, by unfold padded; rw [← HZ.out]; exact hMx⟩
    | succ gk =>
      have ht2 : ((l.length + 1 + z : Nat) : Int).tmod 64 = (((l.length + 1 + z) % 64 : Nat) : Int) := by rw [Int.tmod_eq_emod_of_nonneg (by omega)]; omega
      have hne : (((l.length + 1 + z) % 64 : Nat) : Int) ≠ 56 := by unfold padZ at hz; omega
      have hneb : ((((l.length + 1 + z) % 64 : Nat) : Int) != 56) = true := by simpa using hne
      have HL := hid hlz
      clear hlz
      have hN : l.length + 1 + z + 1 ≤ 1099511627776 := by omega
      generalize (l.length + 1 + z) % 64 = r at ht2 hne hneb
      generalize l.length + 1 + z = N at hsz ht2 HL hN
      go_wp2_with fail
      refine (add_one p _ 0 (by omega) 5 (by rw [HL.out]; exact hN) _ hTr hp hMz).mono ?_
      rintro e w2 ⟨rfl, hk2, hM2⟩
      go_wp2
      go_roundg gk
      case rel => exact ⟨z + 1, by omega, hk.trans hk2, by rw [List.replicate_succ', ← List.append_assoc]; exact hM2⟩
      case measure => omega
end Go.Proofs.YtgkenhmbilkhdaaGreatDoor

namespace Go.Proofs.YtgkenhmbilkhdaaGreatDoor
open Go.RowKit

def rdT2 (k : Nat) : TypeId := if k = 0 then 279 else 277
def rdEx2 (k : Nat) : List Value := if k = 0 then [] else fex 0 0
def rdNew (k c : Nat) : Array Value := rdCells c (.slice none 0 0) 0 .nilIface 0 false 0 (rdEx2 k)
theorem newSlow (c : Nat) (w : World) : Calls Tryz.prog 103 #[srcV c] w fun e w' => e = .returned (.pointer (some ⟨w.heap.size, 0, none⟩)) ∧ w' = w.alloc (.cells (rdNew 0 c) 279) := by
  unfold srcV
  go_enter Tryz.func103, Tryz.ntmps103
  go_wp2
  go_ret
  exact ⟨rfl, rfl⟩
theorem newFast (c : Nat) (w : World) : Calls Tryz.prog 102 #[srcV c] w fun e w' => e = .returned (.pointer (some ⟨w.heap.size, 0, none⟩)) ∧ w' = w.alloc (.cells (rdNew 1 c) 277) := by
  unfold srcV
  go_enter Tryz.func102, Tryz.ntmps102
  go_wp2
  go_ret
  exact ⟨rfl, rfl⟩
theorem crcNew0 (w : World) : Calls Tryz.prog 71 #[.int .i64 0] w fun e w' => e = .returned (.iface 192 (.agg #[])) ∧ w' = w := by
  go_enter Tryz.func71, Tryz.ntmps71
  go_wp2
  go_ret
  exact ⟨rfl, rfl⟩
theorem crcNew1 (w : World) : Calls Tryz.prog 71 #[.int .i64 1] w fun e w' => e = .returned (.iface 189 (.pointer (some ⟨w.heap.size, 0, none⟩))) ∧ Below w.heap.size w w' ∧ Blk w' w.heap.size tabCells 246 := by
  go_enter Tryz.func71, Tryz.ntmps71
  go_wp2_with (go_at_call 93; refine (newTables_any _).mono ?_; rintro e w' ⟨rfl, hb, hT⟩)
  go_ret
  exact ⟨rfl, ‹_›, ‹_›⟩

def fnV (f : Nat) (cap : Array Value) : Value := .func (.func f) #[] cap
def ptr (b : Nat) : Value := .pointer (some ⟨b, 0, none⟩)
/-- The ways of a kind, and the blocks that they hold. -/
def WaysIs (k p : Nat) (v : Array Value) (xs : List Bk) : Prop :=
  (k = 0 ∧ ∃ ib, v = #[rdV 0 p, .iface 192 (.agg #[]), fnV 163 #[ptr ib], fnV 164 #[ptr ib], fnV 165 #[], fnV 166 #[]] ∧ xs = [⟨ib, #[rdV 0 p], 219⟩]) ∨
  (k = 1 ∧ ∃ rx ib tb, v = #[rdV 1 p, .iface 189 (ptr tb), fnV 147 #[ptr rx, ptr ib], fnV 153 #[ptr rx, ptr ib], fnV 158 #[], fnV 161 #[]] ∧ xs = [⟨rx, #[ptr p], 214⟩, ⟨ib, #[rdV 1 p], 219⟩, ⟨tb, tabCells, 246⟩])

/-- What making them leaves. -/
def WaysPost (k c : Nat) (w : World) (e : Ending) (w' : World) : Prop :=
  ∃ p v xs, e = .returned (.agg v) ∧ WaysIs k p v xs ∧ Below w.heap.size w w' ∧ Blk w' p (rdNew k c) (rdT2 k) ∧ w.heap.size ≤ p ∧ (p :: xs.map Bk.b).Nodup ∧ ∀ x ∈ xs, Blk w' x.b x.cs x.t ∧ w.heap.size ≤ x.b

set_option maxRecDepth 10000 in
set_option maxHeartbeats 4000000 in
theorem slowWays_any (c : Nat) (w : World) : Calls Tryz.prog 129 #[srcV c] w fun e w' => WaysPost 0 c w e w' := by
  have hmf : ∀ (fn : Fn) (first cap : Array Value) (w : World), (Instr.makeFunc fn first cap).run Tryz.prog w = .ok (.func fn first cap) w := fun _ _ _ _ => rfl
  have hsf : ∀ (a : Addr) (fn : Fn) (x y : Array Value) (m : Mode) (w : World), (store a (.func fn x y) m).run Tryz.prog w = stored Tryz.prog w a (.func fn x y) m := fun a fn x y m w => run_store _ w a _ m rfl
  have HNS := hid (fun W => newSlow c W)
  unfold srcV at *
  go_enter Tryz.func129, Tryz.ntmps129
  go_wp2_with fail
  refine (HNS.out _).mono ?_
  rintro e w1 ⟨rfl, rfl⟩
  have e2 : ∀ (a b : Obj), ((w.alloc a).alloc b).heap.size = w.heap.size + 1 + 1 := fun a b => by rw [World.size_alloc, World.size_alloc]
  have B1 : ∀ (o o2 : Obj), Blk (((w.alloc o).alloc (.cells (rdNew 0 c) 279)).alloc o2).drew (w.heap.size + 1) (rdNew 0 c) 279 := fun o o2 => by
    have := Blk.new (w.alloc o) (rdNew 0 c) 279
    rw [World.size_alloc] at this
    exact (this.alloc _).drew
  have B2 : ∀ (o o2 : Obj), Blk (((w.alloc o).alloc o2).alloc (.cells #[rdV 0 (w.heap.size + 1)] 219)).drew (w.heap.size + 1 + 1) #[rdV 0 (w.heap.size + 1)] 219 := fun o o2 => by
    have := Blk.new ((w.alloc o).alloc o2) #[rdV 0 (w.heap.size + 1)] 219
    rw [e2] at this
    exact this.drew
  have HB1 := hid B1
  have HB2 := hid B2
  clear e2 B1 B2
  go_wp2
  go_region_held2 (fun w' => w'.cell? ⟨w.heap.size + 1 + 1, 0, none⟩ = some (.iface 216 (.pointer (some ⟨w.heap.size + 1, 0, none⟩)))) (exact (HB2.out _ _).cell 0)
    ((go_at_call 71; refine (crcNew0 _).mono ?_; rintro e w1 ⟨rfl, rfl⟩))
  all_goals
    go_wp2
    refine bodyPost_ret (v := .agg #[rdV 0 (w.heap.size + 1), .iface 192 (.agg #[]), fnV 163 #[ptr (w.heap.size + 1 + 1)], fnV 164 #[ptr (w.heap.size + 1 + 1)], fnV 165 #[], fnV 166 #[]]) (by simp [results, Tryz.results129, go_sem, rdV, fnV, ptr]) rfl ?_
    refine ⟨w.heap.size + 1, _, _, rfl, Or.inl ⟨rfl, w.heap.size + 1 + 1, rfl, rfl⟩, by go_grown, HB1.out _ _, by omega, by simp, ?_⟩
    intro x hx
    obtain rfl : x = _ := by simpa using hx
    exact ⟨HB2.out _ _, by show w.heap.size ≤ w.heap.size + 1 + 1; omega⟩
end Go.Proofs.YtgkenhmbilkhdaaGreatDoor
