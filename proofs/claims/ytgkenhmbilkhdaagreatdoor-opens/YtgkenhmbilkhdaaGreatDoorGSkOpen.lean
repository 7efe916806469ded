import Derived.Test.YtgkenhmbilkhdaaGreatDoorGSk
import Derived.Test.YtgkenhmbilkhdaaGreatDoorGDec2
import Derived.Deep.RegionHeld2
namespace Go.Proofs.YtgkenhmbilkhdaaGreatDoor

def skText (I : Inp) : Nat → List Nat → RS → List Nat × RS
  | 0, l, s => (l, s)
  | n + 1, l, s => if s.1 ≠ 0 then (l, s) else skText I n (l ++ [(skRd I 8 s).1]) (skRd I 8 s).2
def skPass (I : Inp) : Nat → RS → RS
  | 0, s => s
  | n + 1, s => if s.1 ≠ 0 then s else skPass I n (skRd I 8 s).2
theorem skText_bad (I : Inp) (n : Nat) (l : List Nat) (s : RS) (h : s.1 ≠ 0) : skText I n l s = (l, s) := by
  cases n with
  | zero => rfl
  | succ n => unfold skText; rw [if_pos h]
theorem skPass_bad (I : Inp) (n : Nat) (s : RS) (h : s.1 ≠ 0) : skPass I n s = s := by
  cases n with
  | zero => rfl
  | succ n => unfold skPass; rw [if_pos h]
def skInfo (I : Inp) : RS → Info × RS :=
  skBind (skRd I 16) fun a => skBind (skRd I 16) fun b => skBind (skRd I 24) fun c => skBind (skRd I 24) fun d => skBind (skRd I 20) fun r => skBind (skRd I 3) fun h => skBind (skRd I 5) fun t => skBind (skRd I 36) fun n => skBind (skText I 16 []) fun s =>
  fun st => (⟨a, b, c, d, r, h + 1, t + 1, n, s⟩, st)
def skAbout (I : Inp) : RS → Info × RS := skBind (skInfo I) fun i => skBind (skCheck i.ok 4) fun _ st => (i, st)

theorem sim_text {I : Inp} (hst : I.st = 1 ∨ I.st = 14 ∨ I.st = 16) : ∀ (n : Nat) (l : List Nat), Sim I ((bytesP n).bind fun m => .ret (l ++ m)) (skText I n l)
  | 0, l => by
    refine ⟨fun e pos _ => rfl, fun pos => Or.inl ⟨l, pos, ?_, rfl⟩⟩
    show (Par.ret (l ++ [])) I pos = _
    rw [List.append_nil]
    rfl
  | n + 1, l => by
    refine ⟨fun e pos he => by rw [skText_bad _ _ _ _ he], fun pos => ?_⟩
    have hb : ((bytesP (n + 1)).bind fun m => .ret (l ++ m)) I pos = ((rd 8).bind fun b => (bytesP n).bind fun m => .ret ((l ++ [b]) ++ m)) I pos := by
      show (((rd 8).bind fun b => (bytesP n).bind fun l => .ret (b :: l)).bind fun m => .ret (l ++ m)) I pos = _
      rw [Par.bind_assoc]
      congr 1
      congr 1
      funext b
      rw [Par.bind_assoc]
      congr 1
      funext m
      rw [Par.ret_bind, List.append_assoc]
      rfl
    rw [hb]
    by_cases h : pos + 8 ≤ 8 * I.T.length
    · rw [Par.bind_ok (rd_ok h)]
      have := (sim_text hst n (l ++ [valAt I.T pos 8])).2 (pos + 8)
      rw [skText, if_neg (by simp), skRd_ok (rd_ok h)]
      exact this
    · refine Or.inr ⟨_, Par.bind_err (rd_no h), stopE_ne hst, ?_⟩
      rw [skText, if_neg (by simp), skRd_err (rd_no h), skText_bad _ _ _ _ (stopE_ne hst)]
theorem Sim.bytes {I : Inp} (hst : I.st = 1 ∨ I.st = 14 ∨ I.st = 16) (n : Nat) : Sim I (bytesP n) (skText I n []) := by
  have h := sim_text hst n []
  have e : ((bytesP n).bind fun m => .ret ([] ++ m)) = bytesP n := by
    funext J i
    unfold Par.bind Par.ret
    cases bytesP n J i with
    | error x => rfl
    | ok y => rfl
  rw [e] at h
  exact h
theorem Sim.info {I : Inp} (hst : I.st = 1 ∨ I.st = 14 ∨ I.st = 16) : Sim I infoP (skInfo I) :=
  (Sim.rd hst 16).bind fun _ => (Sim.rd hst 16).bind fun _ => (Sim.rd hst 24).bind fun _ => (Sim.rd hst 24).bind fun _ => (Sim.rd hst 20).bind fun _ => (Sim.rd hst 3).bind fun _ => (Sim.rd hst 5).bind fun _ => (Sim.rd hst 36).bind fun _ => (Sim.bytes hst 16).bind fun _ => Sim.ret I _
theorem Sim.about {I : Inp} (hst : I.st = 1 ∨ I.st = 14 ∨ I.st = 16) : Sim I (infoP.bind fun i => (Par.check i.ok 4).bind fun _ => .ret i) (skAbout I) :=
  (Sim.info hst).bind fun i => (Sim.check I i.ok 4 (by decide)).bind fun _ => Sim.ret I i
theorem pass_ok {I : Inp} : ∀ (n pos : Nat), pos + 8 * n ≤ 8 * I.T.length → skPass I n (0, pos) = (0, pos + 8 * n)
  | 0, pos, _ => rfl
  | n + 1, pos, h => by
    rw [skPass, if_neg (by simp), skRd_ok (rd_ok (by omega)), pass_ok n (pos + 8) (by omega)]
    simp only [Prod.mk.injEq, true_and]
    omega
theorem pass_no {I : Inp} (hst : I.st = 1 ∨ I.st = 14 ∨ I.st = 16) : ∀ (n pos : Nat), ¬ pos + 8 * n ≤ 8 * I.T.length → pos ≤ 8 * I.T.length → (skPass I n (0, pos)).1 = stopE I.st
  | 0, pos, h, h2 => by omega
  | n + 1, pos, h, h2 => by
    rw [skPass, if_neg (by simp)]
    by_cases h8 : pos + 8 ≤ 8 * I.T.length
    · rw [skRd_ok (rd_ok h8)]
      exact pass_no hst n (pos + 8) (by omega) h8
    · rw [skRd_err (rd_no h8), skPass_bad _ _ _ (stopE_ne hst)]

/-! ### blocks of metadata -/
def skMeta (I : Inp) : RS → (Nat × Nat × Nat) × RS := skBind (skRd I 1) fun l => skBind (skRd I 7) fun k => skBind (skRd I 24) fun n st => ((l, k, n), st)
theorem Sim.metas {I : Inp} (hst : I.st = 1 ∨ I.st = 14 ∨ I.st = 16) : Sim I metaP (skMeta I) :=
  (Sim.rd hst 1).bind fun _ => (Sim.rd hst 7).bind fun _ => (Sim.rd hst 24).bind fun _ => Sim.ret I _
def skFirst (I : Inp) : RS → (Nat × Info) × RS := skBind (skMeta I) fun m => skBind (skCheck (m.2.1 = 0 ∧ m.2.2 = 34) 5) fun _ => skBind (skAbout I) fun i st => ((m.1, i), st)
theorem Sim.first {I : Inp} (hst : I.st = 1 ∨ I.st = 14 ∨ I.st = 16) : Sim I firstP (skFirst I) := by
  have e : firstP = metaP.bind fun m => (Par.check (m.2.1 = 0 ∧ m.2.2 = 34) 5).bind fun _ => (infoP.bind fun i => (Par.check i.ok 4).bind fun _ => .ret i).bind fun i => .ret (m.1, i) := by
    unfold firstP
    congr 1
    funext m
    congr 1
    funext _
    rw [Par.bind_assoc]
    congr 1
    funext i
    rw [Par.bind_assoc]
    rfl
  rw [e]
  exact (Sim.metas hst).bind fun m => (Sim.check I _ 5 (by decide)).bind fun _ => (Sim.about hst).bind fun i => Sim.ret I _
end Go.Proofs.YtgkenhmbilkhdaaGreatDoor

namespace Go.Proofs.YtgkenhmbilkhdaaGreatDoor
open Go.RowKit

theorem skText_len (I : Inp) : ∀ (n : Nat) (l : List Nat) (s : RS), (skText I n l s).1.length ≤ l.length + n
  | 0, l, s => Nat.le_refl _
  | n + 1, l, s => by
    unfold skText
    split
    · show l.length ≤ _; omega
    · have := skText_len I n (l ++ [(skRd I 8 s).1]) (skRd I 8 s).2
      rw [List.length_append, List.length_singleton] at this
      omega

theorem refBitsE {sb : Nat} {tx : ByteArray} {I : Inp} {rb : Nat} {w wc : World} {s : RS} {x : Int} (h0 : 0 ≤ x) (hx : x ≤ 62) (h : RSt sb tx I rb w s wc) :
    Calls Tryz.prog 49 #[.pointer (some ⟨rb, 0, none⟩), .int .i64 x] wc fun e w' => ∃ v s', skRd I x.toNat s = (v, s') ∧ v < 4611686018427387904 ∧ e = .returned (.int .i64 (v : Int)) ∧ RSt sb tx I rb w s' w' := by
  obtain ⟨n, rfl⟩ := Int.eq_ofNat_of_zero_le h0
  refine (refRdBits n (by omega) h).mono ?_
  rintro e w' ⟨rfl, hR⟩
  exact ⟨_, _, rfl, Nat.lt_of_lt_of_le (skRd_lt I n s) (Nat.pow_le_pow_right (n := 2) (by omega) (show n ≤ 62 by omega)), rfl, hR⟩
theorem RSt.below {sb : Nat} {tx : ByteArray} {I : Inp} {rb : Nat} {w w1 w2 : World} {s : RS} (h : RSt sb tx I rb w s w1) (hb : Below w1.heap.size w1 w2) : RSt sb tx I rb w s w2 :=
  ⟨h.1.trans (KeptX.of_below (X := []) hb) (fun i hi => hi) (by simp), ⟨h.2.1.1.below hb h.2.1.1.lt, h.2.1.2⟩, h.2.2.1.below hb h.2.2.1.lt, h.2.2.2⟩

theorem strOf_one (v : Nat) : strOf [v] = ⟨#[UInt8.ofNat v]⟩ := by simp [strOf, strOfNums]
theorem strOf_app (l m : List Nat) : strOf (l ++ m) = strOf l ++ strOf m := by
  apply ByteArray.ext
  simp [strOf, strOfNums]
theorem strOf_size (l : List Nat) : (strOf l).size = l.length := by unfold strOf; rw [strOfNums_size, List.length_map]

set_option maxHeartbeats 2000000 in
theorem refText {sb : Nat} {tx : ByteArray} {I : Inp} {rb : Nat} {w wc : World} {s : RS} (n : Nat) (hn : n ≤ 16) (h : RSt sb tx I rb w s wc) :
    Calls Tryz.prog 47 #[.pointer (some ⟨rb, 0, none⟩), .int .i64 (n : Int)] wc fun e w' => e = .returned (.string (strOf (skText I n [] s).1)) ∧ RSt sb tx I rb w (skText I n [] s).2 w' := by
  obtain ⟨q, hq⟩ : ∃ q, q = skText I n [] s := ⟨_, rfl⟩
  rw [← hq]
  have HQ := hid hq
  have HS := hid h
  clear hq h
  go_enter Tryz.func47, Tryz.ntmps47
  go_wp2
  go_loopg [5, 6] n (fun gk v5 v6 wr => ∃ (l : List Nat) (k : Nat) (s1 : RS), v5 = .string (strOf l) ∧ v6 = .int .i64 (k : Int) ∧ gk + k = n ∧ l.length ≤ k ∧ Hid (q = skText I gk l s1) ∧ Hid (RSt sb tx I rb w s1 wr))
  case atStart => exact ⟨[], 0, s, rfl, rfl, rfl, by simp, HQ, HS⟩
  case round =>
    clear HQ HS
    obtain ⟨l, k, s1, rfl, rfl, hgk, hl, HQ, HS⟩ := hrel
    obtain ⟨c0, c1, f1⟩ := HS.out.cells
    cases gk with
    | zero =>
      have hk : ¬ (k : Int) < (n : Int) := by omega
      go_wp2
      go_ret
      have e1 := HQ.out
      unfold skText at e1
      rw [e1]
      exact ⟨rfl, HS.out⟩
    | succ g =>
      have hk : (k : Int) < (n : Int) := by omega
      by_cases he : s1.1 = 0
      · rw [he] at c1
        have HB := hid (refBitsE (x := 8) (by omega) (by omega) HS.out)
        go_wp2_with fail
        refine HB.out.mono ?_
        rintro e w1 ⟨v, s2, hv, hv2, rfl, hR⟩
        have hv8 : v < 256 := by
          have := skRd_lt I 8 s1
          rw [show skRd I 8 s1 = (v, s2) from hv] at this
          exact this
        have HV := hid hv
        have HR := hid hR
        clear hv hR
        have hvm : (v : Int) % 256 = v := by omega
        have hcv := run_convert_bytes_arg (P := Tryz.prog) (w1.alloc (.cells #[.int .u8 (v : Int)] 5)) 136 5 Tryz.underlying136 Tryz.underlying5 w1.heap.size 0 1 1 [(v : Int)] (by simp) (by
          intro i hi
          obtain rfl : i = 0 := by omega
          exact (Blk.new w1 #[.int .u8 (v : Int)] 5).cell 0) 9 Tryz.underlying9
        have hs1 : (strOf l).size ≤ 30 := by rw [strOf_size]; omega
        have hs2 : (strOfNums [(v : Int)]).size ≤ 30 := by rw [strOfNums_size]; simp
        have HST : Hid (strOf l ++ strOfNums [(v : Int)] = strOf (l ++ [v])) := (strOf_app l [v]).symm
        generalize strOfNums [(v : Int)] = z at hcv hs2 HST
        go_wp2
        go_roundg g
        case measure => omega
        case rel =>
          refine ⟨l ++ [v], k + 1, s2, by rw [HST.out], by go_num, by omega, by simp; omega, hid ?_, hid (HR.out.below (by go_grown))⟩
          rw [HQ.out, skText, if_neg (by simpa using he), show skRd I 8 s1 = (v, s2) from HV.out]
      · have he' : ((s1.1 : Int) == 0) = false := by simp; omega
        go_wp2
        go_ret
        have e1 := HQ.out
        rw [skText_bad _ _ _ _ he] at e1
        rw [e1]
        exact ⟨rfl, HS.out⟩

set_option maxHeartbeats 1000000 in
theorem refPass {sb : Nat} {tx : ByteArray} {I : Inp} {rb : Nat} {w wc : World} {s : RS} (n : Nat) (hn : n < 4611686018427387904) (h : RSt sb tx I rb w s wc) :
    Calls Tryz.prog 51 #[.pointer (some ⟨rb, 0, none⟩), .int .i64 (n : Int)] wc fun e w' => e = .returned (.tuple #[]) ∧ RSt sb tx I rb w (skPass I n s) w' := by
  obtain ⟨q, hq⟩ : ∃ q, q = skPass I n s := ⟨_, rfl⟩
  rw [← hq]
  have HQ := hid hq
  have HS := hid h
  clear hq h
  go_enter Tryz.func51, Tryz.ntmps51
  go_wp2
  go_loopg [4] n (fun gk v4 wr => ∃ (k : Nat) (s1 : RS), v4 = .int .i64 (k : Int) ∧ gk + k = n ∧ Hid (q = skPass I gk s1) ∧ Hid (RSt sb tx I rb w s1 wr))
  case atStart => exact ⟨0, s, rfl, rfl, HQ, HS⟩
  case round =>
    clear HQ HS
    obtain ⟨k, s1, rfl, hgk, HQ, HS⟩ := hrel
    obtain ⟨c0, c1, f1⟩ := HS.out.cells
    cases gk with
    | zero =>
      have hk : ¬ (k : Int) < (n : Int) := by omega
      go_wp2
      go_end0
      have e1 := HQ.out
      unfold skPass at e1
      rw [e1]
      exact ⟨rfl, HS.out⟩
    | succ g =>
      have hk : (k : Int) < (n : Int) := by omega
      by_cases he : s1.1 = 0
      · rw [he] at c1
        have HB := hid (refBitsE (x := 8) (by omega) (by omega) HS.out)
        go_wp2_with fail
        refine HB.out.mono ?_
        rintro e w1 ⟨v, s2, hv, hv2, rfl, hR⟩
        have HV := hid hv
        have HR := hid hR
        clear hv hR
        go_wp2
        go_roundg g
        case measure => omega
        case rel =>
          refine ⟨k + 1, s2, by go_num, by omega, hid ?_, HR⟩
          rw [HQ.out, skPass, if_neg (by simpa using he), show skRd I 8 s1 = (v, s2) from HV.out]
      · have he' : ((s1.1 : Int) == 0) = false := by simp; omega
        go_wp2
        go_end0
        have e1 := HQ.out
        rw [skPass_bad _ _ _ he] at e1
        rw [e1]
        exact ⟨rfl, HS.out⟩
end Go.Proofs.YtgkenhmbilkhdaaGreatDoor

namespace Go.Proofs.YtgkenhmbilkhdaaGreatDoor
open Go.RowKit

/-- What stands in a decoder, but for its reader. -/
structure DecS where
  crc : Value
  nu : Value
  re : Value
  fo : Value
  un : Value
  info : Info
  frame : Int
  byte : Nat
  vary : Bool
  samples : Nat
  md : Nat
  failed : Value
def infoVs (i : Info) : Array Value := #[.int .i64 (i.minB : Int), .int .i64 (i.maxB : Int), .int .i64 (i.minF : Int), .int .i64 (i.maxF : Int), .int .i64 (i.rate : Int), .int .i64 (i.chans : Int), .int .i64 (i.depth : Int), .int .i64 (i.total : Int), .string (strOf i.sum)]
def decCells (k p : Nat) (d : DecS) : Array Value := #[rdV k p, d.crc, d.nu, d.re, d.fo, d.un, .int .i64 (d.info.minB : Int), .int .i64 (d.info.maxB : Int), .int .i64 (d.info.minF : Int), .int .i64 (d.info.maxF : Int), .int .i64 (d.info.rate : Int), .int .i64 (d.info.chans : Int), .int .i64 (d.info.depth : Int), .int .i64 (d.info.total : Int), .string (strOf d.info.sum),
  .int .i64 d.frame, .int .i64 (d.byte : Int), .bool d.vary, .int .i64 (d.samples : Int), .pointer (some ⟨d.md, 0, none⟩), d.failed]
def dB (C : Cx) (dp : Nat) (d : DecS) : Bk := ⟨dp, decCells C.k C.p d, 226⟩
theorem St.rdV {C : Cx} {dp : Nat} {d : DecS} {Bs : List Bk} {pos : Nat} {w : World} (h : St C (dB C dp d :: Bs) pos w) : w.cell? ⟨dp, 0, none⟩ = some (rdV C.k C.p) := (h.get (List.mem_cons_self ..)).cell 0

/-- 'in.read' of a number that stands there. -/
theorem inReadI (C : Cx) (hk : C.k = 0 ∨ C.k = 1) {Bs : List Bk} {pos : Nat} {w : World} {x : Int} (h0 : 0 ≤ x) (hn : x ≤ 63) (h : St C Bs pos w) :
    Calls Tryz.prog 167 #[.agg #[rdV C.k C.p], .int .i64 x] w (InPost (rd x.toNat C.I pos) (fun v => .int .i64 (v : Int)) (St C Bs)) := by
  obtain ⟨n, rfl⟩ := Int.eq_ofNat_of_zero_le h0
  exact inReadC C hk n (by omega) h

theorem whole_any (C : Cx) (hk : C.k = 0 ∨ C.k = 1) {dp : Nat} {d : DecS} {Bs : List Bk} {pos : Nat} {w : World} (hd : C.B ≤ dp) (h : St C (dB C dp d :: Bs) pos w) :
    Calls Tryz.prog 168 #[.pointer (some ⟨dp, 0, none⟩)] w fun e w' => e = .returned (.tuple #[]) ∧ St C (dB C dp { d with byte := pos / 8 } :: Bs) pos w' := by
  have c0 := h.rdV
  obtain ⟨r, hR, hgo⟩ := h.use
  have HB := hid (byteAt_in C.k hk hR)
  have H := hid h
  clear h hgo hR
  go_enter Tryz.func168, Tryz.ntmps168
  go_wp2_with fail
  refine HB.out.mono ?_
  rintro e w1 ⟨rfl, hb⟩
  have hS := H.out.below hb
  have c16 : w1.cell? ⟨dp, 16, none⟩ = some (.int .i64 (d.byte : Int)) := hS.head.cell 16
  have f16 := hS.head.free 16
  have HS := hid hS
  clear hS
  go_wp2
  go_end0
  exact ⟨rfl, HS.out.set hd 16 _⟩

set_option maxRecDepth 10000 in
set_option maxHeartbeats 4000000 in
theorem readBlockHead_any (C : Cx) (hk : C.k = 0 ∨ C.k = 1) {dp : Nat} {d : DecS} {Bs : List Bk} {pos : Nat} {w : World} (h : St C (dB C dp d :: Bs) pos w) :
    Calls Tryz.prog 169 #[.pointer (some ⟨dp, 0, none⟩)] w (InPost (metaP C.I pos) (fun m => .agg #[.bool ((m.1 : Int) == 1), .int .i64 (m.2.1 : Int), .int .i64 (m.2.2 : Int)]) (St C (dB C dp d :: Bs))) := by
  have hB := h.bounds.2.2.2.1
  have hS := ((h.alloc #[.bool false, .int .i64 0, .int .i64 0] 298).second).below (w' := (w.alloc (.cells #[.bool false, .int .i64 0, .int .i64 0] 298)).drew) (by go_grown)
  have c0 := hS.rdV
  have x0 := hS.tail.head.cell 0
  have x1 := hS.tail.head.cell 1
  have x2 := hS.tail.head.cell 2
  have f0 := hS.tail.head.free 0
  have f1 := hS.tail.head.free 1
  have f2 := hS.tail.head.free 2
  obtain ⟨q, hq⟩ : ∃ q, q = metaP C.I pos := ⟨_, rfl⟩
  rw [← hq]
  unfold metaP at hq
  have HP := hid hq
  have HS := hid hS
  clear hq hS
  go_enter Tryz.func169, Tryz.ntmps169
  go_wp2
  go_region_held2 (fun w' => w'.cell? ⟨dp, 0, none⟩ = some (rdV C.k C.p)) (first | exact HS.out.rdV | exact ((((HS.out.second.set hB 0 _).set hB 1 _).set hB 2 _).second).rdV)
    ((go_at_call 167; refine (inReadI C hk (by omega) (by omega) HS.out).mono ?_; intro e w1 hP; rcases hP.cases with ⟨v, j, hr, rfl, hS⟩ | ⟨x, j, hr, rfl, hS⟩; rotate_left; exact ⟨rfl, InPost.err (HP.out.trans (Par.bind_err hr)) hS.second.tail⟩; replace HP := hid (HP.out.trans (Par.bind_ok hr)); replace HS := hid hS; replace x0 := hS.tail.head.cell 0; replace x1 := hS.tail.head.cell 1; replace x2 := hS.tail.head.cell 2; replace f0 := hS.tail.head.free 0; replace f1 := hS.tail.head.free 1; replace f2 := hS.tail.head.free 2; clear hS hP hr))
  rename_i wa va ja wb vb jb hH
  have hF := ((HS.out.second.set hB 0 (.bool ((va : Int) == 1))).set hB 1 (.int .i64 (vb : Int))).set hB 2 (.int .i64 (v : Int))
  have HF := hid hF
  replace x0 := hF.head.cell 0
  replace x1 := hF.head.cell 1
  replace x2 := hF.head.cell 2
  simp at x0 x1 x2
  clear hF hH f0 f1 f2
  go_wp2
  refine bodyPost_ret (v := .agg #[.bool ((va : Int) == 1), .int .i64 (vb : Int), .int .i64 (v : Int)]) (by simp [results, Tryz.results169, go_sem, x0, x1, x2]) rfl ?_
  exact InPost.ok HP.out rfl HF.out.tail
end Go.Proofs.YtgkenhmbilkhdaaGreatDoor
