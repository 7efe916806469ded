import Derived.Test.YtgkenhmbilkhdaaGreatDoorProg
import Derived.WalkKit
import Derived.WalkSpells
import Derived.WalkLawsBesides
import Derived.Handy
import Derived.KernelRfl
import Derived.Laws.BytesArg
import Derived.BigQuiet
import Derived.Deep.RegionWith
import Derived.RowKitTokens
import Derived.Deep.RegionHeld3
import Derived.Deep.DrawnRows
import Derived.Laws.Concat
namespace Go.Proofs.YtgkenhmbilkhdaaGreatDoor
open Go.RowKit

set_option maxRecDepth 100000 in
theorem len64_one (w : World) : Calls Tryz.prog 195 #[.int .u64 1] w fun e w' => e = .returned (.int .i64 1) ∧ w' = w := by
  go_enter Tryz.func195, Tryz.ntmps195
  go_wp2
  go_ret
  exact ⟨by kernel_rfl, rfl⟩

theorem numDigits_one (w : World) (v : Int) (h : w.cell? ⟨3, 0, none⟩ = some (.int .u64 v)) :
    Calls Tryz.prog 242 #[.int .u64 1] w fun e w' => ∃ nd : Int, (nd = 0 ∨ nd = 1) ∧ e = .returned (.int .i64 nd) ∧ w' = w := by
  go_enter Tryz.func242, Tryz.ntmps242
  go_wp2_with fail
  refine (len64_one _).mono ?_
  rintro e w' ⟨rfl, rfl⟩
  go_wp2
  · go_ret
    exact ⟨1, Or.inr rfl, rfl, rfl⟩
  · go_ret
    exact ⟨0, Or.inl rfl, rfl, rfl⟩

set_option maxRecDepth 100000 in
theorem base10_0 (w : World) (b : Nat) : Calls Tryz.prog 243 #[.slice (some ⟨b, 1, none⟩) 0 23, .int .u64 1] w fun e w' => e = .returned (.tuple #[]) ∧ w' = w := by
  go_enter Tryz.func243, Tryz.ntmps243
  go_wp2
  refine wp_loop_rounds 1 ?_
  rw [rounds_succ]
  go_wp2
  go_end0
  exact ⟨rfl, rfl⟩

set_option maxRecDepth 100000 in
theorem base10_1 (w : World) (b : Nat) (x : Value) (hx : w.cell? ⟨b, 1, none⟩ = some x) (hf : w.frozen? ⟨b, 1, none⟩ = false) : Calls Tryz.prog 243 #[.slice (some ⟨b, 1, none⟩) 1 23, .int .u64 1] w fun e w' => e = .returned (.tuple #[]) ∧ w' = w.setCell ⟨b, 1, none⟩ (.int .u8 49) := by
  go_enter Tryz.func243, Tryz.ntmps243
  go_wp2
  refine wp_loop_rounds 1 ?_
  rw [rounds_succ]
  go_wp2
  go_end0
  exact ⟨rfl, rfl⟩

set_option maxHeartbeats 1000000 in
set_option maxRecDepth 100000 in
theorem fmt_neg1 (w : World) (v : Int) (h : w.cell? ⟨3, 0, none⟩ = some (.int .u64 v)) :
    Calls Tryz.prog 240 #[.int .i64 (-1), .int .i64 10] w fun e w' =>
      ∃ s : ByteArray, e = .returned (.string s) ∧ s.size ≤ 30 ∧ Below w.heap.size w w' := by
  go_enter Tryz.func240, Tryz.ntmps240
  go_wp2_with fail
  rw [show IntKind.u64.wrap (-IntKind.u64.wrap (-1)) = 1 from by decide]
  have hlt : 3 < w.heap.size := by
    rcases Nat.lt_or_ge 3 w.heap.size with h0 | h0
    · exact h0
    · simp [World.cell?, Array.getElem?_eq_none h0] at h
  refine (numDigits_one _ v ?_).mono ?_
  · rw [World.cell?_alloc_lt _ _ ⟨3, 0, none⟩ hlt]; exact h
  rintro e w' ⟨nd, hnd, rfl, rfl⟩
  rcases hnd with rfl | rfl
  · go_wp2_with fail
    refine (base10_0 _ _).mono ?_
    rintro e w' ⟨rfl, rfl⟩
    have hcv := run_convert_bytes_arg (w.alloc (.cells #[.int .u8 45, .int .u8 0, .int .u8 0, .int .u8 0, .int .u8 0, .int .u8 0, .int .u8 0, .int .u8 0, .int .u8 0, .int .u8 0, .int .u8 0, .int .u8 0, .int .u8 0, .int .u8 0, .int .u8 0, .int .u8 0, .int .u8 0, .int .u8 0, .int .u8 0, .int .u8 0, .int .u8 0, .int .u8 0, .int .u8 0, .int .u8 0] 340)) 136 5 Tryz.underlying136 Tryz.underlying5 w.heap.size 0 1 24 [45] rfl (by intro i hi; rcases (show i = 0 by omega); simp) 9 Tryz.underlying9
    go_wp2
    go_ret
    exact ⟨_, rfl, by simp [strOfNums_size], by go_grown⟩
  · go_wp2_with fail
    refine (base10_1 _ _ (.int .u8 0) ?_ ?_).mono ?_
    · simp
    · simp
    rintro e w' ⟨rfl, rfl⟩
    have hcv := run_convert_bytes_arg (w.alloc (.cells #[.int .u8 45, .int .u8 49, .int .u8 0, .int .u8 0, .int .u8 0, .int .u8 0, .int .u8 0, .int .u8 0, .int .u8 0, .int .u8 0, .int .u8 0, .int .u8 0, .int .u8 0, .int .u8 0, .int .u8 0, .int .u8 0, .int .u8 0, .int .u8 0, .int .u8 0, .int .u8 0, .int .u8 0, .int .u8 0, .int .u8 0, .int .u8 0] 340)) 136 5 Tryz.underlying136 Tryz.underlying5 w.heap.size 0 2 24 [45, 49] rfl (by intro i hi; rcases (show i = 0 ∨ i = 1 by omega) with rfl | rfl <;> simp) 9 Tryz.underlying9
    go_wp2
    go_ret
    exact ⟨_, rfl, by simp [strOfNums_size], by go_grown⟩

/-- The library's table of powers holds some numbers. -/
def Tab (w : World) : Prop := ∀ j, j < 20 → ∃ v : Int, w.cell? ⟨3, j, none⟩ = some (.int .u64 v)

theorem Tab.lt {w : World} (h : Tab w) : 3 < w.heap.size := by
  obtain ⟨v, h⟩ := h 0 (by omega)
  rcases Nat.lt_or_ge 3 w.heap.size with h0 | h0
  · exact h0
  · simp [World.cell?, Array.getElem?_eq_none h0] at h

theorem Tab.below {w w' : World} {B : Nat} (h : Tab w) (hB : 3 < B) (hb : Below B w w') : Tab w' := fun j hj => by
  obtain ⟨v, hv⟩ := h j hj
  exact ⟨v, (hb.cell (p := ⟨3, j, none⟩) hB).trans hv⟩

def ItoaOk (n : Int) : Prop := ∀ w, Tab w → Calls Tryz.prog 238 #[.int .i64 n] w fun e w' =>
  ∃ s : ByteArray, e = .returned (.string s) ∧ s.size ≤ 30 ∧ Below w.heap.size w w'

set_option maxRecDepth 100000 in
theorem fmt_zero (w : World) :
    Calls Tryz.prog 240 #[.int .i64 0, .int .i64 10] w fun e w' =>
      ∃ s : ByteArray, e = .returned (.string s) ∧ s.size ≤ 30 ∧ Below w.heap.size w w' := by
  go_enter Tryz.func240, Tryz.ntmps240
  go_wp2
  go_ret
  exact ⟨_, rfl, by simp [ByteArray.size_extract]; omega, Below.refl _ _⟩

def FmtOk (n : Int) : Prop := ∀ w, Tab w → Calls Tryz.prog 240 #[.int .i64 n, .int .i64 10] w fun e w' =>
      ∃ s : ByteArray, e = .returned (.string s) ∧ s.size ≤ 30 ∧ Below w.heap.size w w'

theorem itoa_of (n : Int) (h : FmtOk n) (_h0 : -9223372036854775808 ≤ n) (_h1 : n ≤ 9223372036854775807) : ItoaOk n := by
  intro w ht
  go_enter Tryz.func238, Tryz.ntmps238
  go_wp2_with (first | (go_at_call 240; refine (h _ ht).mono ?_; rintro e w' ⟨s, rfl, hs, hb⟩) | go_in)
  go_ret
  exact ⟨_, rfl, by assumption, by assumption⟩

theorem itoa_neg1 : ItoaOk (-1) := itoa_of _ (fun w ht => by obtain ⟨v, hv⟩ := ht 0 (by omega); exact fmt_neg1 w v hv) (by omega) (by omega)
theorem itoa_zero : ItoaOk 0 := itoa_of _ (fun w _ => fmt_zero w) (by omega) (by omega)
end Go.Proofs.YtgkenhmbilkhdaaGreatDoor

namespace Go.Proofs.YtgkenhmbilkhdaaGreatDoor
open Go.RowKit

set_option maxHeartbeats 1000000 in
theorem apiFail (k : Int) (w : World) : Calls Tryz.prog 284 #[.int .i64 k] w fun e w' => ∃ s : ByteArray, e = .returned (.string s) ∧ 1 ≤ s.size ∧ s.size ≤ 60 ∧ Below w.heap.size w w' := by
  go_enter Tryz.func284, Tryz.ntmps284
  go_wp2
  all_goals (go_ret; exact ⟨_, rfl, by decide, by decide, Below.refl _ _⟩)

theorem plainFail (k : Int) (w : World) : Calls Tryz.prog 290 #[.int .i64 k] w fun e w' => ∃ s : ByteArray, e = .returned (.string s) ∧ 1 ≤ s.size ∧ s.size ≤ 60 ∧ Below w.heap.size w w' := by
  go_enter Tryz.func290, Tryz.ntmps290
  go_wp2
  all_goals (go_ret; exact ⟨_, rfl, by decide, by decide, Below.refl _ _⟩)

theorem where_start {w : World} {f a : Int} (ht : Tab w) : (w.alloc (Obj.cells #[Value.int IntKind.i64 f, Value.int IntKind.i64 a] 159)).drew.cell? ⟨w.heap.size, 0, none⟩ = some (.int .i64 f) ∧ (w.alloc (Obj.cells #[Value.int IntKind.i64 f, Value.int IntKind.i64 a] 159)).drew.cell? ⟨w.heap.size, 1, none⟩ = some (.int .i64 a) ∧ Tab (w.alloc (Obj.cells #[Value.int IntKind.i64 f, Value.int IntKind.i64 a] 159)).drew ∧ Below w.heap.size w (w.alloc (Obj.cells #[Value.int IntKind.i64 f, Value.int IntKind.i64 a] 159)).drew ∧ w.heap.size < (w.alloc (Obj.cells #[Value.int IntKind.i64 f, Value.int IntKind.i64 a] 159)).drew.heap.size :=
  ⟨by simp, by simp, ht.below ht.lt (by go_grown), by go_grown, by simp⟩

theorem where_next {w W w1 : World} {f a : Int} (hb1 : Below W.heap.size W w1) (h : W.cell? ⟨w.heap.size, 0, none⟩ = some (.int .i64 f) ∧ W.cell? ⟨w.heap.size, 1, none⟩ = some (.int .i64 a) ∧ Tab W ∧ Below w.heap.size w W ∧ w.heap.size < W.heap.size) :
    w1.cell? ⟨w.heap.size, 0, none⟩ = some (.int .i64 f) ∧ w1.cell? ⟨w.heap.size, 1, none⟩ = some (.int .i64 a) ∧ Tab w1 ∧ Below w.heap.size w w1 ∧ w.heap.size < w1.heap.size := by
  obtain ⟨c0, c1, ht, hb, hl⟩ := h
  exact ⟨(hb1.cell (p := ⟨w.heap.size, 0, none⟩) hl).trans c0, (hb1.cell (p := ⟨w.heap.size, 1, none⟩) hl).trans c1, ht.below ht.lt hb1, hb.trans (hb1.mono (Nat.le_of_lt hl)), Nat.lt_of_lt_of_le hl hb1.size⟩

theorem where_tab {w W : World} {f a : Int} (h : W.cell? ⟨w.heap.size, 0, none⟩ = some (.int .i64 f) ∧ W.cell? ⟨w.heap.size, 1, none⟩ = some (.int .i64 a) ∧ Tab W ∧ Below w.heap.size w W ∧ w.heap.size < W.heap.size) : Tab W := h.2.2.1

theorem cat1 (w : World) (s : ByteArray) (hs : s.size ≤ 30) : (Op.stringOp .add ({ data := #[32, 40, 102, 114, 97, 109, 101, 32] } : ByteArray) s).run Tryz.prog w = .ok (.string (({ data := #[32, 40, 102, 114, 97, 109, 101, 32] } : ByteArray) ++ s)) w := by
  refine run_string_add_sum _ _ _ ?_
  have h : ({ data := #[32, 40, 102, 114, 97, 109, 101, 32] } : ByteArray).size = 8 := rfl
  simp only [h]
  omega
theorem cat2 (w : World) (s : ByteArray) (hs : s.size ≤ 30) : (Op.stringOp .add (({ data := #[32, 40, 102, 114, 97, 109, 101, 32] } : ByteArray) ++ s) ({ data := #[44, 32, 98, 121, 116, 101, 32] } : ByteArray)).run Tryz.prog w = .ok (.string ((({ data := #[32, 40, 102, 114, 97, 109, 101, 32] } : ByteArray) ++ s) ++ ({ data := #[44, 32, 98, 121, 116, 101, 32] } : ByteArray))) w := by
  refine run_string_add_sum _ _ _ ?_
  have h : ({ data := #[32, 40, 102, 114, 97, 109, 101, 32] } : ByteArray).size = 8 := rfl
  have h' : ({ data := #[44, 32, 98, 121, 116, 101, 32] } : ByteArray).size = 7 := rfl
  simp only [ByteArray.size_append, h, h']
  omega
theorem cat3 (w : World) (s t : ByteArray) (hs : s.size ≤ 30) (ht : t.size ≤ 30) : (Op.stringOp .add ((({ data := #[32, 40, 102, 114, 97, 109, 101, 32] } : ByteArray) ++ s) ++ ({ data := #[44, 32, 98, 121, 116, 101, 32] } : ByteArray)) t).run Tryz.prog w = .ok (.string (((({ data := #[32, 40, 102, 114, 97, 109, 101, 32] } : ByteArray) ++ s) ++ ({ data := #[44, 32, 98, 121, 116, 101, 32] } : ByteArray)) ++ t)) w := by
  refine run_string_add_sum _ _ _ ?_
  have h : ({ data := #[32, 40, 102, 114, 97, 109, 101, 32] } : ByteArray).size = 8 := rfl
  have h' : ({ data := #[44, 32, 98, 121, 116, 101, 32] } : ByteArray).size = 7 := rfl
  simp only [ByteArray.size_append, h, h']
  omega
theorem cat4 (w : World) (s t : ByteArray) (hs : s.size ≤ 30) (ht : t.size ≤ 30) : (Op.stringOp .add (((({ data := #[32, 40, 102, 114, 97, 109, 101, 32] } : ByteArray) ++ s) ++ ({ data := #[44, 32, 98, 121, 116, 101, 32] } : ByteArray)) ++ t) ({ data := #[41] } : ByteArray)).run Tryz.prog w = .ok (.string ((((({ data := #[32, 40, 102, 114, 97, 109, 101, 32] } : ByteArray) ++ s) ++ ({ data := #[44, 32, 98, 121, 116, 101, 32] } : ByteArray)) ++ t) ++ ({ data := #[41] } : ByteArray))) w := by
  refine run_string_add_sum _ _ _ ?_
  have h : ({ data := #[32, 40, 102, 114, 97, 109, 101, 32] } : ByteArray).size = 8 := rfl
  have h' : ({ data := #[44, 32, 98, 121, 116, 101, 32] } : ByteArray).size = 7 := rfl
  have h'' : ({ data := #[41] } : ByteArray).size = 1 := rfl
  simp only [ByteArray.size_append, h, h', h'']
  omega
theorem cat_size (s t : ByteArray) (hs : s.size ≤ 30) (ht : t.size ≤ 30) : ((((({ data := #[32, 40, 102, 114, 97, 109, 101, 32] } : ByteArray) ++ s) ++ ({ data := #[44, 32, 98, 121, 116, 101, 32] } : ByteArray)) ++ t) ++ ({ data := #[41] } : ByteArray)).size ≤ 100 := by
  have h : ({ data := #[32, 40, 102, 114, 97, 109, 101, 32] } : ByteArray).size = 8 := rfl
  have h' : ({ data := #[44, 32, 98, 121, 116, 101, 32] } : ByteArray).size = 7 := rfl
  have h'' : ({ data := #[41] } : ByteArray).size = 1 := rfl
  simp only [ByteArray.size_append, h, h', h'']
  omega

set_option maxHeartbeats 1000000 in
theorem where_any (f a : Int) (hf : ItoaOk f) (ha : ItoaOk a) (w : World) (ht : Tab w) :
    Calls Tryz.prog 237 #[.agg #[.int .i64 f, .int .i64 a]] w fun e w' => ∃ s : ByteArray, e = .returned (.string s) ∧ s.size ≤ 100 ∧ Below w.heap.size w w' := by
  go_enter Tryz.func237, Tryz.ntmps237
  have k1 := cat1
  have k2 := cat2
  have k3 := cat3
  have k4 := cat4
  go_wp2
  go_region_held3 (fun w' => w'.cell? ⟨w.heap.size, 0, none⟩ = some (.int .i64 f) ∧ w'.cell? ⟨w.heap.size, 1, none⟩ = some (.int .i64 a) ∧ Tab w' ∧ Below w.heap.size w w' ∧ w.heap.size < w'.heap.size) (first | exact where_start ht | exact where_next hb1 ‹_›)
    (first
      | (go_at_call_of 238 (Value.int IntKind.i64 f); refine (hf _ ?_).mono ?_; exact where_tab (f := f) (a := a) ‹_›; rintro e w1 ⟨s1, rfl, hs1, hb1⟩)
      | (go_at_call_of 238 (Value.int IntKind.i64 a); refine (ha _ ?_).mono ?_; exact where_tab (f := f) (a := a) ‹_›; rintro e w1 ⟨s1, rfl, hs1, hb1⟩))
  go_wp2
  go_ret
  exact ⟨_, rfl, cat_size _ _ ‹_› ‹_›, (‹_ ∧ _ ∧ _ ∧ Below w.heap.size w w1 ∧ _›).2.2.2.1⟩

theorem cat5 (w : World) (s t : ByteArray) (hs : s.size ≤ 60) (ht : t.size ≤ 100) : (Op.stringOp .add s t).run Tryz.prog w = .ok (.string (s ++ t)) w :=
  run_string_add_sum _ _ _ (by omega)

/-- What an api.Error holds. -/
def ErrAt (b : Nat) (f a : Int) (ev : Value) (w : World) : Prop :=
  w.cell? ⟨b, 0, none⟩ = some (.int .i64 f) ∧ w.cell? ⟨b, 1, none⟩ = some (.int .i64 a) ∧ w.cell? ⟨b, 2, none⟩ = some ev

theorem ErrAt.lt {b : Nat} {f a : Int} {ev : Value} {w : World} (h : ErrAt b f a ev w) : b < w.heap.size := by
  have h := h.1
  rcases Nat.lt_or_ge b w.heap.size with h0 | h0
  · exact h0
  · simp [World.cell?, Array.getElem?_eq_none h0] at h

theorem ErrAt.below {b B : Nat} {f a : Int} {ev : Value} {w w' : World} (h : ErrAt b f a ev w) (hB : b < B) (hb : Below B w w') : ErrAt b f a ev w' :=
  ⟨(hb.cell (p := ⟨b, 0, none⟩) hB).trans h.1, (hb.cell (p := ⟨b, 1, none⟩) hB).trans h.2.1, (hb.cell (p := ⟨b, 2, none⟩) hB).trans h.2.2⟩

theorem err_next {b : Nat} {w W w1 : World} {f a : Int} {ev : Value} (hb1 : Below W.heap.size W w1) (h : W.cell? ⟨b, 0, none⟩ = some (.int .i64 f) ∧ W.cell? ⟨b, 1, none⟩ = some (.int .i64 a) ∧ W.cell? ⟨b, 2, none⟩ = some ev ∧ Tab W ∧ Below w.heap.size w W) :
    w1.cell? ⟨b, 0, none⟩ = some (.int .i64 f) ∧ w1.cell? ⟨b, 1, none⟩ = some (.int .i64 a) ∧ w1.cell? ⟨b, 2, none⟩ = some ev ∧ Tab w1 ∧ Below w.heap.size w w1 := by
  obtain ⟨c0, c1, c2, ht, hb⟩ := h
  have hE : ErrAt b f a ev W := ⟨c0, c1, c2⟩
  obtain ⟨d0, d1, d2⟩ := hE.below hE.lt hb1
  exact ⟨d0, d1, d2, ht.below ht.lt hb1, hb.trans (hb1.mono hb.size)⟩
theorem err_tab {b : Nat} {w W : World} {f a : Int} {ev : Value} (h : W.cell? ⟨b, 0, none⟩ = some (.int .i64 f) ∧ W.cell? ⟨b, 1, none⟩ = some (.int .i64 a) ∧ W.cell? ⟨b, 2, none⟩ = some ev ∧ Tab W ∧ Below w.heap.size w W) : Tab W := h.2.2.2.1

set_option maxHeartbeats 2000000 in
theorem errText (b : Nat) (f a k : Int) (ev : Value) (hev : ev = .iface 188 (.int .i64 k) ∨ ev = .iface 203 (.int .i64 k)) (hf : ItoaOk f) (ha : ItoaOk a) (w : World) (ht : Tab w) (hE : ErrAt b f a ev w) :
    Calls Tryz.prog 235 #[.pointer (some ⟨b, 0, none⟩)] w fun e w' => ∃ s : ByteArray, e = .returned (.string s) ∧ 1 ≤ s.size ∧ s.size ≤ 200 ∧ Below w.heap.size w w' := by
  obtain ⟨c0, c1, c2⟩ := hE
  have k5 := cat5
  rcases hev with rfl | rfl
  · go_enter Tryz.func235, Tryz.ntmps235
    go_wp2
    go_region_held3 (fun w' => w'.cell? ⟨b, 0, none⟩ = some (.int .i64 f) ∧ w'.cell? ⟨b, 1, none⟩ = some (.int .i64 a) ∧ w'.cell? ⟨b, 2, none⟩ = some (.iface 188 (.int .i64 k)) ∧ Tab w' ∧ Below w.heap.size w w') (first | exact ⟨c0, c1, c2, ht.below ht.lt (by go_grown), by go_grown⟩ | exact err_next hb1 ‹_›)
      (first
        | (go_at_call 284; refine (apiFail k _).mono ?_; rintro e w1 ⟨s1, rfl, hs0, hs1, hb1⟩)
        | (go_at_call 290; refine (plainFail k _).mono ?_; rintro e w1 ⟨s1, rfl, hs0, hs1, hb1⟩)
        | (go_at_call 237; refine (where_any f a hf ha _ ?_).mono ?_; exact err_tab (b := b) (f := f) (a := a) ‹_›; rintro e w1 ⟨s1, rfl, hs1, hb1⟩))
    go_wp2
    go_ret
    exact ⟨_, rfl, by rw [ByteArray.size_append]; omega, by rw [ByteArray.size_append]; omega, (‹_ ∧ _ ∧ _ ∧ _ ∧ Below w.heap.size w w1›).2.2.2.2⟩
  · go_enter Tryz.func235, Tryz.ntmps235
    go_wp2
    go_region_held3 (fun w' => w'.cell? ⟨b, 0, none⟩ = some (.int .i64 f) ∧ w'.cell? ⟨b, 1, none⟩ = some (.int .i64 a) ∧ w'.cell? ⟨b, 2, none⟩ = some (.iface 203 (.int .i64 k)) ∧ Tab w' ∧ Below w.heap.size w w') (first | exact ⟨c0, c1, c2, ht.below ht.lt (by go_grown), by go_grown⟩ | exact err_next hb1 ‹_›)
      (first
        | (go_at_call 284; refine (apiFail k _).mono ?_; rintro e w1 ⟨s1, rfl, hs0, hs1, hb1⟩)
        | (go_at_call 290; refine (plainFail k _).mono ?_; rintro e w1 ⟨s1, rfl, hs0, hs1, hb1⟩)
        | (go_at_call 237; refine (where_any f a hf ha _ ?_).mono ?_; exact err_tab (b := b) (f := f) (a := a) ‹_›; rintro e w1 ⟨s1, rfl, hs1, hb1⟩))
    go_wp2
    go_ret
    exact ⟨_, rfl, by rw [ByteArray.size_append]; omega, by rw [ByteArray.size_append]; omega, (‹_ ∧ _ ∧ _ ∧ _ ∧ Below w.heap.size w w1›).2.2.2.2⟩
end Go.Proofs.YtgkenhmbilkhdaaGreatDoor
