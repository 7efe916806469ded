import Derived.Test.YtgkenhmbilkhdaaGreatDoorGFastWord
namespace Go.Proofs.YtgkenhmbilkhdaaGreatDoor
open Go.RowKit

def fex (pool held : Nat) : List Value := [.int .u64 pool, .int .i64 held]
theorem rd_f {w : World} {p c : Nat} {hv : Value} {gone : Nat} {stop : Value} {pos : Nat} {mk : Bool} {mark pool held : Nat} {t : TypeId} (h : Blk w p (rdCells c hv gone stop pos mk mark (fex pool held)) t) :
    w.cell? ⟨p, 7, none⟩ = some (.int .u64 pool) ∧ w.cell? ⟨p, 8, none⟩ = some (.int .i64 held) := by
  refine ⟨(h.cell 7).trans ?_, (h.cell 8).trans ?_⟩ <;> simp [rdCells, fex]
theorem rd_pool (c : Nat) (hv : Value) (gone : Nat) (stop : Value) (pos : Nat) (mk : Bool) (mark pool held x : Nat) : (rdCells c hv gone stop pos mk mark (fex pool held)).setIfInBounds 7 (.int .u64 x) = rdCells c hv gone stop pos mk mark (fex x held) := by simp [rdCells, fex]
theorem rd_held (c : Nat) (hv : Value) (gone : Nat) (stop : Value) (pos : Nat) (mk : Bool) (mark pool held x : Nat) : (rdCells c hv gone stop pos mk mark (fex pool held)).setIfInBounds 8 (.int .i64 x) = rdCells c hv gone stop pos mk mark (fex pool x) := by simp [rdCells, fex]

/-- The block of a reader is another, all else as it was. -/
theorem RdX.reblk {w w' : World} {B p c : Nat} {t : TypeId} {ex ex' : List Value} {S : Src} {I : Inp} {pos pos' : Nat} {mk mk' : Bool} {mark mark' : Nat} {r : RdS} (h : RdX w B p c t ex S I pos mk mark r) (hK : KeptX [p] w w') (hb : Blk w' p (rdCells c r.hv r.gone r.stop pos' mk' mark' ex') t) : RdX w' B p c t ex' S I pos' mk' mark' r := by
  have h3 := h.apart
  refine h.next (X := [p]) hK (by simpa using h.geB.2.1) hb (h.row.keep (X := [p]) hK (fun g hg hx => ?_)) (hK.blk h.src (by simpa using h3.1.symm)) h.sok h.le h.stop
  simp at hx
  subst hx
  exact h3.2.1 hg

set_option maxHeartbeats 2000000 in
theorem drop_any (B p c : Nat) (S : Src) (I : Inp) (pos : Nat) (mk : Bool) (mark : Nat) (r : RdS) (pool held n : Nat) (w : World) (h : RdX w B p c 277 (fex pool held) S I pos mk mark r) (hP : PoolOk I.T pos pool held) (hn : n ≤ held) (hpos : pos ≤ 8388608) :
    Calls Tryz.prog 308 #[.pointer (some ⟨p, 0, none⟩), .int .i64 n] w fun e w' => e = .returned (.tuple #[]) ∧ KeptX [p] w w' ∧ ∃ pool' : Nat, RdX w' B p c 277 (fex pool' (held - n)) S I (pos + n) mk mark r ∧ PoolOk I.T (pos + n) pool' (held - n) := by
  obtain ⟨c0, c1, c2, c3, c4, c5, c6⟩ := rd_c0 h.blk
  obtain ⟨c7, c8⟩ := rd_f h.blk
  have h64 := hP.1
  have hpl := hP.lt
  have HD := hid (hP.drop hn)
  have hwr : IntKind.u64.wrap ((pool : Int) * 2 ^ n) = ((pool * 2 ^ n % 2 ^ 64 : Nat) : Int) := by
    rw [IntKind.wrap_u64, Int.natCast_emod, Int.natCast_mul, Int.natCast_pow]; rfl
  generalize pool * 2 ^ n % 2 ^ 64 = z at hwr HD
  have hb7 := h.blk.set 7 (.int .u64 z)
  rw [rd_pool] at hb7
  have hb8 := hb7.set 8 (.int .i64 ((held - n : Nat) : Int))
  rw [rd_held] at hb8
  have hb4 := hb8.set 4 (.int .i64 ((pos + n : Nat) : Int))
  rw [rd_pos] at hb4
  have f7 := h.blk.free 7
  have f8 := hb7.free 8
  have f4 := hb8.free 4
  have y8 := (rd_f hb7).2
  have y4 := (rd_c0 hb8).2.2.2.2.1
  have hsub : (held : Int) - (n : Int) = ((held - n : Nat) : Int) := by omega
  have HX := hid h
  clear h hP
  generalize hhn : held - n = hn' at hsub hb8 hb4 f4 y4 HD
  go_enter Tryz.func308, Tryz.ntmps308
  go_wp2
  go_end0
  rw [Int.natCast_add] at hb4
  refine ⟨rfl, (((KeptX.refl _ _).setCell (by simp) 7 _).setCell (by simp) 8 _).setCell (by simp) 4 _, z, ?_, HD.out⟩
  exact HX.out.reblk ((((KeptX.refl _ _).setCell (by simp) 7 _).setCell (by simp) 8 _).setCell (by simp) 4 _) hb4

theorem next_any (p pos held i : Nat) (hi : pos + held = 8 * i) (hp : i ≤ 1048584) (w : World) (h4 : w.cell? ⟨p, 4, none⟩ = some (.int .i64 pos)) (h8 : w.cell? ⟨p, 8, none⟩ = some (.int .i64 held)) :
    Calls Tryz.prog 310 #[.pointer (some ⟨p, 0, none⟩)] w fun e w' => e = .returned (.int .i64 (i : Int)) ∧ ∃ m, w' = w.drewN m := by
  have hs : (pos : Int) + (held : Int) = 8 * (i : Int) := by omega
  have hq : (8 * (i : Int)).tdiv 8 = (i : Int) := by rw [Int.tdiv_eq_ediv_of_nonneg (by omega)]; omega
  go_enter Tryz.func310, Tryz.ntmps310
  go_wp2
  go_quiet (fail)
  go_wp2
  go_ret
  exact ⟨rfl, _, rfl⟩

theorem RdX.fexset {w : World} {B p c : Nat} {S : Src} {I : Inp} {pos : Nat} {mk : Bool} {mark : Nat} {r : RdS} {pool held : Nat} (h : RdX w B p c 277 (fex pool held) S I pos mk mark r) (pool' held' : Nat) : RdX ((w.setCell ⟨p, 7, none⟩ (.int .u64 pool')).setCell ⟨p, 8, none⟩ (.int .i64 held')) B p c 277 (fex pool' held') S I pos mk mark r := by
  have hb7 := h.blk.set 7 (.int .u64 pool')
  rw [rd_pool] at hb7
  have hb8 := hb7.set 8 (.int .i64 held')
  rw [rd_held] at hb8
  exact h.reblk (((KeptX.refl _ _).setCell (by simp) 7 _).setCell (by simp) 8 _) hb8

set_option maxHeartbeats 4000000 in
set_option maxRecDepth 10000 in
theorem fastTake (B p c : Nat) (S : Src) (I : Inp) (pos : Nat) (mk : Bool) (mark : Nat) (r : RdS) (pool held n : Nat) (hn : n ≤ 32) (w : World) (h : RdX w B p c 277 (fex pool held) S I pos mk mark r) (hF : FastEx I pos r pool held) (h1 : r.gone ≤ pos / 8) (h2 : pos + n ≤ 8 * r.came) :
    Calls Tryz.prog 302 #[.pointer (some ⟨p, 0, none⟩), .int .i64 n] w fun e w' => e = .returned (.int .u64 ((valAt I.T pos n : Nat) : Int)) ∧ KeptX [p] w w' ∧ ∃ pool' held' : Nat, RdX w' B p c 277 (fex pool' held') S I (pos + n) mk mark r ∧ FastEx I (pos + n) r pool' held' := by
  obtain ⟨c0, c1, c2, c3, c4, c5, c6⟩ := rd_c0 h.blk
  obtain ⟨c7, c8⟩ := rd_f h.blk
  have hlen := h.len
  have hle := h.le
  have h64 := hF.1.1
  have HX := hid h
  have HF := hid hF
  have hbl := h.blk
  clear h
  go_enter Tryz.func302, Tryz.ntmps302
  go_upto_if 11 with fail
  go_cut [] (fun wx => ∃ pl hd : Nat, n ≤ hd ∧ KeptX [p] w wx ∧ RdX wx B p c 277 (fex pl hd) S I pos mk mark r ∧ FastEx I pos r pl hd)
  case first =>
    by_cases hnh : n ≤ held
    · have hnh' : (n : Int) ≤ (held : Int) := by omega
      go_wp2
      go_meet
      case rel => exact ⟨pool, held, hnh, KeptX.refl _ _, HX.out, HF.out⟩
    · have hnh' : (held : Int) < (n : Int) := by omega
      obtain ⟨i, hi⟩ : ∃ i, pos + held = 8 * i := ⟨(pos + held) / 8, by have := HF.out.2.1; omega⟩
      have hi2 := HF.out.2.2
      have HNX : Hid (∀ m, Calls Tryz.prog 310 #[.pointer (some ⟨p, 0, none⟩)] (w.drewN m) fun e w' => e = .returned (.int .i64 (i : Int)) ∧ ∃ m', w' = (w.drewN m).drewN m') := fun m => next_any p pos held i hi (by omega) (w.drewN m) c4 c8
      have HFI : Hid (∀ m, Calls Tryz.prog 177 #[.pointer (some ⟨p, 0, none⟩), .int .u64 pool, .int .i64 held, .int .i64 i] (w.drewN m) fun e w' => FillPost (w.drewN m) I r pos held e w') := fun m => filled_any B p c _ S I pos mk mark r pool held i pos _ (HX.out.drewN m) (by omega) (by omega) hi HF.out.1
      clear hi
      go_wp2
      go_region_with (first | (go_at_call 310; refine (HNX.out _).mono ?_; rintro e w5 ⟨rfl, m5, rfl⟩) | (go_at_call 177; refine (HFI.out _).mono ?_; rintro e w6 ⟨pl, hd, rfl, hP6, hm6, hl6, hg6, ho6, hb6⟩; have hB6 := (hbl.drewN _).below hb6 hbl.lt; have q7 := (rd_f hB6).1; have q8 := (rd_f hB6).2; have f7 := hB6.free 7; have f8 := hB6.free 8))
      all_goals
        go_wp2
        go_meet
        case rel =>
          have e6 : KeptX [p] w w6 := ((KeptX.refl [p] w).drewN _).trans (X := [p]) (Y := []) (KeptX.of_below hb6) (fun i hi => hi) (by simp)
          exact ⟨pl, hd, by omega, (e6.setCell (by simp) 7 _).setCell (by simp) 8 _, ((HX.out.drewN _).below hb6).fexset pl hd, hP6, hm6, hl6⟩
  case rest =>
    obtain ⟨pl, hd, hnd, hK, hR, hE⟩ := hcut
    have d7 := (rd_f hR.blk).1
    have HT := hid (hE.1.take hnd)
    obtain ⟨sh, hsh⟩ : ∃ sh : Nat, (64 : Int) - (n : Int) = (sh : Int) := ⟨64 - n, by omega⟩
    have hv : (pl : Int) / 2 ^ sh = ((valAt I.T pos n : Nat) : Int) := by
      rw [← HT.out, show 64 - n = sh by omega, Int.natCast_ediv, Int.natCast_pow]; rfl
    have HDR := hid (drop_any B p c S I pos mk mark r pl hd n wc hR hE.1 hnd (by omega))
    have hsh64 : sh ≤ 64 := by omega
    clear c0 c1 c2 c3 c4 c5 c6 c7 c8
    go_wp2_with fail
    refine HDR.out.mono ?_
    rintro e w9 ⟨rfl, hK9, pl9, hR9, hP9⟩
    go_wp2
    go_ret
    refine ⟨rfl, hK.trans hK9 (fun i hi => hi) (fun i _ hi => hi), pl9, hd - n, hR9, hP9, ?_, ?_⟩
    · have := hE.2.1; omega
    · have := hE.2.2; omega
end Go.Proofs.YtgkenhmbilkhdaaGreatDoor
